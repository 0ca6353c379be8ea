import Derived.Test.YtegfgbcimlacbaaGreatDoorRl
import Derived.Test.YtegfgbcimlacbaaGreatDoorFb
/-
  DERIVED. Encode of both, as the law has them.
-/
namespace Go.Proofs.YtegfgbcimlacbaaGreatDoor
open Go Go.Proofs Go.RowKit Go.Maps

/-- A row of bytes begins there. -/
def U8 (w : World) (j : Nat) : Prop := ∃ z, w.cell? ⟨j, 0, none⟩ = some (.int .u8 z)
theorem u8_no {w : World} {j : Nat} {v : Value} (h : w.cell? ⟨j, 0, none⟩ = some v) (hv : ∀ z, v ≠ .int .u8 z) : ¬ U8 w j := by
  rintro ⟨z, hz⟩
  rw [h] at hz
  exact hv z (Option.some.inj hz)
/-- Rows of bytes may be written over and grown. -/
theorem St.many {w w' : World} {B k : Nat} (h : St w B k) (hk : ∀ j, j < w.heap.size → ¬ U8 w j → w'.heap[j]? = w.heap[j]?) : St w' B k := by
  have n0 : ¬ U8 w B := u8_no h.fn (fun z e => by cases e)
  have n1 : ¬ U8 w (B + 1) := by obtain ⟨z, hz⟩ := h.word; exact u8_no hz (fun z e => by cases e)
  have n2 : ¬ U8 w (B + 1 + 1) := u8_no h.p2 (fun z e => by cases e)
  have n3 : ¬ U8 w (B + 1 + 1 + 1) := u8_no h.p3 (fun z e => by cases e)
  have l0 := cell_lt h.fn
  have l1 := cell_lt h.word.choose_spec
  have l2 := cell_lt h.p2
  have l3 := cell_lt h.p3
  simp only at l0 l1 l2 l3
  rcases h with h | h
  · exact .inl ⟨(hk _ l0 n0).trans h.b0, (hk _ l1 n1).trans h.b1, (hk _ l2 n2).trans h.b2, (hk _ l3 n3).trans h.b3⟩
  · have hc : ∀ (b i : Nat), b < w.heap.size → ¬ U8 w b → w'.cell? ⟨b, i, none⟩ = w.cell? ⟨b, i, none⟩ := fun b i hb hn => World.cell?_of_block (hk b hb hn)
    have hf : ∀ (b i : Nat), b < w.heap.size → ¬ U8 w b → w'.frozen? ⟨b, i, none⟩ = w.frozen? ⟨b, i, none⟩ := fun b i hb hn => World.frozen?_of_block (hk b hb hn)
    obtain ⟨M, hm, es, cl, hh, r⟩ := h.m
    have hM : ¬ U8 w M := by
      rintro ⟨z, hz⟩
      simp [World.cell?, hh] at hz
    refine .inr ⟨(hc _ _ l0 n0).trans h.b0, ⟨(hc _ _ l1 n1).trans h.o.c0, (hc _ _ l1 n1).trans h.o.c1, fun i => (hf _ _ l1 n1).trans (h.o.cf i)⟩, ⟨M, (hc _ _ l1 n1).trans hm, es, cl, ?_, r⟩, (hc _ _ l2 n2).trans h.b2, (hc _ _ l3 n3).trans h.b3⟩
    exact (hk M (Array.getElem?_eq_some_iff.1 hh).1 hM).trans hh
theorem SetIn.many {w w' : World} {q : Nat} {v : Value} {R : List Row} {x : Bool} (h : SetIn w q v R x) (hR : 0 < R.length) (hk : ∀ j, j < w.heap.size → ¬ U8 w j → w'.heap[j]? = w.heap[j]?) : SetIn w' q v R x := by
  have hq : ¬ U8 w q := by
    obtain ⟨a, cap, rfl⟩ := h.val
    exact u8_no h.c0 (fun z e => by cases e)
  have ho : ∀ g, v.ownBlock = some g → ¬ U8 w g := by
    intro g hg
    obtain ⟨a, cap, rfl⟩ := h.val
    obtain ⟨g2, rfl, -, r0, -⟩ := h.row 0 (R[0]'hR) (List.getElem?_eq_getElem hR)
    simp [Value.ownBlock] at hg
    subst hg
    rw [Nat.zero_mul] at r0
    exact u8_no r0 (fun z e => by cases e)
  exact ⟨(World.cell?_of_block (hk q (cell_lt h.c0) hq)).trans h.c0, own_keep h.own (fun g hg => hk g (h.own.lt g hg).2 (ho g hg)), fun r hr => ⟨(h.st r hr).1.many hk, (h.st r hr).2⟩, h.apart⟩
theorem Lw.many {w W W' : World} {q : Nat} {u : Value} {a : Row} {R : List Row} {x : Bool} (h : Lw w q u a R x W) (hb : Below w.heap.size w W') (hk : ∀ j, j < W.heap.size → ¬ U8 W j → W'.heap[j]? = W.heap[j]?) : Lw w q u a R x W' := by
  have hq : ¬ U8 W q := by
    have h0 := h.s.c0
    obtain ⟨a', cap, rfl⟩ := h.s.val
    exact u8_no h0 (fun z e => by cases e)
  exact ⟨hb, h.s.many (by simp) hk, (World.cell?_of_block (hk q (cell_lt h.e) hq)).trans h.e, h.q0⟩

def oF : Except (Nat × Int) (List Int) → List Int
  | .ok o => o
  | .error _ => []
/-- What Encode answers: a row of its own, nil if it is empty; the reason. -/
def EnO (W W' : World) (v' er : Value) (F : Except (Nat × Int) (List Int)) : Prop :=
  PErr W' er (errF F) ∧ W'.ownsRow W.heap.size 5 1 v' (oF F).length (cellsZ (oF F)) ∧ ByteZ (oF F) ∧ (v' = .slice none 0 0 ∨ 0 < (oF F).length)
theorem encO {w W : World} {q : Nat} {u : Value} {a : Row} {R : List Row} {x : Bool} (h : Lw w q u a R x W) (he : Env w) (hR6 : (a :: R).length ≤ 6) (hC : Cond x a R) (k : Int) (s : ByteArray) :
    Calls Tryz.prog 5 #[.pointer (some ⟨q, 0, none⟩), .int .i64 k, .string s] W fun e w' => ∃ v' er, e = .returned (.tuple #[v', er]) ∧ EnO W w' v' er (enS (Pz a R) a R k s) ∧ Lw w q u a R x w' ∧ KB (a :: R) W.heap.size W w' := by
  have h5 : 5 < w.heap.size := cell_lt (he.t.p2 0 (by decide))
  have hq5 : 5 < q := by have := h.q0; omega
  have hE := he.on h.b
  refine (encode_any W q u a R x k s (Pz a R) h.s hR6 hC.n7 hq5 hE.t hE.k (put_all q u a R x hC hR6 hq5)).mono ?_
  rintro e w' ⟨hk, hs, hF⟩
  generalize enS (Pz a R) a R k s = F at hF ⊢
  cases F with
  | ok o =>
    obtain ⟨v', rfl, hown, hz, hne⟩ := hF
    exact ⟨v', .nilIface, rfl, ⟨rfl, hown, hz, hne⟩, h.kb hk hs, hk⟩
  | error ic =>
    obtain ⟨i, c⟩ := ic
    obtain ⟨er, rfl, hp⟩ := hF
    exact ⟨_, er, rfl, ⟨hp, World.ownsRow_nil _ _ _ _, fun z hz => by simp [oF] at hz, .inl rfl⟩, h.kb hk hs, hk⟩
theorem rencO {W : World} {H p : Nat} {v : Value} {a : Row} {R : List Row} {x : Bool} (hset : RSetAt W H p v (namesOf (a :: R)) x) (hR6 : (a :: R).length ≤ 6) (hC : Cond x a R) (hT : RTabs W) (k : Int) (s : ByteArray) :
    Calls Tryz.prog 6 #[.pointer (some ⟨p, 0, none⟩), .int .i64 k, .string s] W fun e w' => ∃ v' fa fl fc fn, e = .returned (.tuple #[v', .agg #[.slice fa fl fc, .int .i64 fn]]) ∧ RErr w' (.agg #[.slice fa fl fc, .int .i64 fn]) (errF (enS (Pz a R) a R k s)) ∧ w'.ownsRow W.heap.size 5 1 v' (oF (enS (Pz a R) a R k s)).length (cellsZ (oF (enS (Pz a R) a R k s))) ∧ Below W.heap.size W w' := by
  refine (rencode_any W H p v a R x k s hset hR6 hC hT).mono ?_
  rintro e w' ⟨hb, hF⟩
  generalize enS (Pz a R) a R k s = F at hF ⊢
  cases F with
  | ok o =>
    obtain ⟨v', rfl, hown, hz⟩ := hF
    exact ⟨v', none, 0, 0, 0, rfl, rfl, hown, hb⟩
  | error ic =>
    obtain ⟨i, c⟩ := ic
    obtain ⟨f, rfl, g, kk, rfl, h1, h2⟩ := hF
    exact ⟨_, _, _, _, _, rfl, ⟨g, kk, rfl, h1, h2⟩, World.ownsRow_nil _ _ _ _, hb⟩
theorem wrS_err {P : Row → Int → List Int × Row} {kc ke : ByteArray} {a : Row} {R : List Row} {s : ByteArray} : ∀ (f at' : Nat) (h : Row) (out : List Int) (i : Nat) (c : Int), wrS P kc ke a R s f at' h out = .error (i, c) → c = 88
  | 0, _, _, _, _, _, h => by simp [wrS] at h
  | f + 1, at', h, out, i, c, hw => by
    rw [wrS] at hw
    split at hw
    · split at hw
      · exact wrS_err f _ _ _ i c hw
      · split at hw
        · cases hw; rfl
        · exact wrS_err f _ _ _ i c hw
    · cases hw
theorem enS_err (P : Row → Int → List Int × Row) (a : Row) (R : List Row) (k : Int) (s : ByteArray) : ∀ i c, errF (enS P a R k s) = some (i, c) → (c != 0) = true := by
  intro i c h
  unfold enS at h
  split at h
  · simp only [errF] at h; cases h; decide
  · split at h
    · simp only [errF] at h; cases h; decide
    · cases hF : wrS P (kdS (2 * k.toNat)) (kdS (2 * k.toNat + 1)) a R s s.size 0 a [] with
      | error ic =>
        obtain ⟨i', c'⟩ := ic
        rw [hF] at h
        simp only [dcEnd, errF] at h
        cases h
        have := wrS_err _ _ _ _ _ _ hF
        subst this
        decide
      | ok o =>
        rw [hF] at h
        simp only [dcEnd] at h
        split at h
        · simp only [errF] at h; cases h; decide
        · simp only [errF] at h; cases h
end Go.Proofs.YtegfgbcimlacbaaGreatDoor

/-
  DERIVED. The law of Encode.
-/
namespace Go.Proofs.YtegfgbcimlacbaaGreatDoor
open Go Go.Proofs Go.RowKit

def tri (x y z : Value) : Nat → Value := fun i => if i = 0 then x else if i = 1 then y else z
def triN (x y z : Nat) : Nat → Nat := fun i => if i = 0 then x else if i = 1 then y else z
def triL (x y z : List Nat) : Nat → List Nat := fun i => if i = 0 then x else if i = 1 then y else z

/-- Three rows, each made behind the one ahead of it. -/
theorem tri_fam {G b0 b1 c0 c1 d0 d1 B n1 n2 n3 : Nat} {x y z : Value} (hx : ∃ a c, x = .slice a n1 c ∧ (0 < n1 → ∃ g, a = some ⟨g, 0, none⟩)) (hy : ∃ a c, y = .slice a n2 c ∧ (0 < n2 → ∃ g, a = some ⟨g, 0, none⟩)) (hz : ∃ a c, z = .slice a n3 c ∧ (0 < n3 → ∃ g, a = some ⟨g, 0, none⟩))
    (h1 : n1 ≤ 1000000) (h2 : n2 ≤ 1000000) (h3 : n3 ≤ 1000000) (lx : ∀ g, x.ownBlock = some g → b0 ≤ g ∧ g < b1) (ly : ∀ g, y.ownBlock = some g → c0 ≤ g ∧ g < c1) (lz : ∀ g, z.ownBlock = some g → d0 ≤ g ∧ g < d1) (o1 : b1 ≤ c0) (o2 : c1 ≤ d0) (o3 : c0 ≤ c1) (o4 : d1 ≤ G) (o5 : d0 ≤ d1) :
    Fam 3 G B (tri x y z) (triN n1 n2 n3) := by
  refine ⟨by decide, fun i hi => ?_, fun i hi => ?_, fun i j hi hj hne g h1 h2 => ?_, fun i hi h => ?_⟩
  · rcases (show i = 0 ∨ i = 1 ∨ i = 2 by omega) with rfl | rfl | rfl
    · exact hx
    · exact hy
    · exact hz
  · rcases (show i = 0 ∨ i = 1 ∨ i = 2 by omega) with rfl | rfl | rfl
    · exact h1
    · exact h2
    · exact h3
  · rcases (show i = 0 ∨ i = 1 ∨ i = 2 by omega) with rfl | rfl | rfl <;> rcases (show j = 0 ∨ j = 1 ∨ j = 2 by omega) with rfl | rfl | rfl
    · exact hne rfl
    · have := lx g h1; have := ly g h2; omega
    · have := lx g h1; have := lz g h2; omega
    · have := ly g h1; have := lx g h2; omega
    · exact hne rfl
    · have := ly g h1; have := lz g h2; omega
    · have := lz g h1; have := lx g h2; omega
    · have := lz g h1; have := ly g h2; omega
    · exact hne rfl
  · rcases (show i = 0 ∨ i = 1 ∨ i = 2 by omega) with rfl | rfl | rfl
    · have := lx G h; omega
    · have := ly G h; omega
    · have := lz G h; omega

theorem z_u8s {o : List Int} (hz : ByteZ o) : cellsZ o = u8s (o.map Int.toNat) := by
  unfold u8s cellsZ
  rw [List.map_map]
  refine List.map_congr_left fun z hzm => ?_
  have := hz z hzm
  show _ = Value.int .u8 ((z.toNat : Nat) : Int)
  rw [Int.toNat_of_nonneg this.1]
theorem row_form {W : World} {B n : Nat} {v : Value} {xs : List Value} (h : W.ownsRow B 5 1 v n xs) : ∃ a c, v = .slice a n c ∧ (0 < n → ∃ g, a = some ⟨g, 0, none⟩) := by
  rcases h.2 with ⟨rfl, h0⟩ | ⟨g, cap, cur, hv, _⟩
  · exact ⟨none, 0, by rw [h0], fun h => by omega⟩
  · exact ⟨_, _, hv, fun _ => ⟨g, rfl⟩⟩
theorem oF_len (P : Row → Int → List Int × Row) (a : Row) (R : List Row) (k : Int) (s : ByteArray) : (oF (enS P a R k s)).length ≤ 65534 := by
  cases h : enS P a R k s with
  | error e => simp [oF]
  | ok o => exact (enS_ok.1 h).2.2
theorem row_u8 {W : World} {B : Nat} {v : Value} {o : List Int} (h : W.ownsRow B 5 1 v o.length (cellsZ o)) (hne : v = .slice none 0 0 ∨ 0 < o.length) : ∀ g, v.ownBlock = some g → U8 W g := by
  intro g hg
  rcases hne with rfl | hp
  · cases hg
  · obtain ⟨a, c, rfl, ha⟩ := row_form h
    obtain ⟨g2, rfl⟩ := ha hp
    cases hg
    refine ⟨o[0]'hp, ?_⟩
    rw [h.cellAt 0 (by omega)]
    unfold cellsZ
    rw [List.getElem?_map, List.getElem?_eq_getElem hp]
    rfl
end Go.Proofs.YtegfgbcimlacbaaGreatDoor

/-
  DERIVED. The law of Encode: the walk.
-/
namespace Go.Proofs.YtegfgbcimlacbaaGreatDoor
open Go Go.Proofs Go.RowKit

theorem keep_kb {R : List Row} {w w' : World} (h : KB R w.heap.size w w') : Keep R w w' := ⟨h.os, h.tape, h.output, h.size, h.block⟩

/-- What the law holds on to: the set, what the document said, its bytes. -/
structure LI (w : World) (q : Nat) (u : Value) (a : Row) (R : List Row) (x : Bool) (B2 Bf : Nat) (c : Value) (fa : Option Addr) (fl fc : Nat) (fn : Int) (F : Except (Nat × Int) (List Int)) (W : World) : Prop where
  l : Lw w q u a R x W
  f0 : W.cell? ⟨Bf, 0, none⟩ = some (.slice fa fl fc)
  f1 : W.cell? ⟨Bf, 1, none⟩ = some (.int .i64 fn)
  r : RErr W (.agg #[.slice fa fl fc, .int .i64 fn]) (errF F)
  c : W.ownsRow B2 5 1 c (oF F).length (cellsZ (oF F))
section
variable {w W W' : World} {q : Nat} {u c : Value} {a : Row} {R : List Row} {x : Bool} {B2 Bf fl fc : Nat} {fa : Option Addr} {fn : Int} {F : Except (Nat × Int) (List Int)}
theorem LI.on (h : LI w q u a R x B2 Bf c fa fl fc fn F W) (hb : Below W.heap.size W W') : LI w q u a R x B2 Bf c fa fl fc fn F W' :=
  ⟨h.l.on hb, (hb.cell (p := ⟨Bf, 0, none⟩) (cell_lt h.f0)).trans h.f0, (hb.cell (p := ⟨Bf, 1, none⟩) (cell_lt h.f1)).trans h.f1, h.r.next hb, ownsRow_below h.c hb (Nat.le_refl _)⟩
theorem rerr_of {W W' : World} {f : Value} {o : Option (Int × Int)} (h : RErr W f o) (hk : ∀ g s, W.cell? ⟨g, 0, none⟩ = some (.string s) → W'.heap[g]? = W.heap[g]?) : RErr W' f o := by
  cases o with
  | none => exact h
  | some ac =>
    obtain ⟨a, c⟩ := ac
    obtain ⟨g, k, rfl, h0, h1⟩ := h
    have := hk g _ h0
    exact ⟨g, k, rfl, (World.cell?_of_block this).trans h0, (World.cell?_of_block this).trans h1⟩
theorem LI.kb (h : LI w q u a R x B2 Bf c fa fl fc fn F W) (hl : Lw w q u a R x W') (hk : KB (a :: R) W.heap.size W W') (hfar : ∀ r ∈ a :: R, r.2.2 + 1 < B2 ∧ r.2.2 + 1 < Bf) : LI w q u a R x B2 Bf c fa fl fc fn F W' := by
  have hb := hk.block Bf (cell_lt h.f0) (fun r hr => by have := (hfar r hr).2; omega)
  refine ⟨hl, (World.cell?_of_block hb).trans h.f0, (World.cell?_of_block hb).trans h.f1, rerr_of h.r (fun g s hg => hk.block g (cell_lt hg) (fun r hr e => ?_)), own_far hk h.c (fun r hr => (hfar r hr).1)⟩
  obtain ⟨z, hz⟩ := (h.l.s.st r hr).1.word
  rw [← e, hg] at hz
  cases hz
theorem LI.many (h : LI w q u a R x B2 Bf c fa fl fc fn F W) (hb : Below w.heap.size w W') (hk : ∀ j, j < W.heap.size → ¬ U8 W j → W'.heap[j]? = W.heap[j]?) (hc : ∀ g, c.ownBlock = some g → W'.heap[g]? = W.heap[g]?) : LI w q u a R x B2 Bf c fa fl fc fn F W' := by
  have hbf := hk Bf (cell_lt h.f0) (u8_no h.f0 (fun z e => by cases e))
  exact ⟨h.l.many hb hk, (World.cell?_of_block hbf).trans h.f0, (World.cell?_of_block hbf).trans h.f1, rerr_of h.r (fun g s hg => hk g (cell_lt hg) (u8_no hg (fun z e => by cases e))), own_keep h.c hc⟩
end

set_option maxRecDepth 100000 in
set_option maxHeartbeats 8000000 in
theorem encs_yes (w : World) (v : Value) (T : List ByteArray) (N : List (Nat × ByteArray)) (x : Bool) (k : Int) (text : ByteArray) (hr : newS T = .inr (N, x)) (hT : TS w v T) (hl : T.length ≤ 8796093021952) (hsz : ∀ s ∈ T, s.size ≤ 140737488351232) (he : Env w) (hRT : RTabs w) :
    Calls Tryz.prog 3 #[v, .int .i64 k, .string text] w fun e w' => e = .returned (.bool true) ∧ Below w.heap.size w w' := by
  have c4 := begin_any w v T hT hl hsz he.sp
  rw [hr] at c4
  have HR : Hid _ := hr
  have HE : Hid (Env w) := he
  have HRT : Hid _ := hRT
  obtain ⟨tao, tc, rfl, _⟩ := hT
  clear hr hsz hl he hRT
  go_enter Tryz.func3, Tryz.ntmps3
  go_wp2_with (go_at_call 4; refine Stop.mk ?_)
  refine Stop.out (c4.mono ?_)
  rintro e' W1 ⟨sv, kv, rfl, ⟨q, u, R, p, u2, H, rfl, rfl, hq, hH, hp, hset, hnames, hrset⟩, hb1⟩
  obtain ⟨a, R0, rfl⟩ : ∃ a R0, R = a :: R0 := by
    cases R with
    | nil =>
      have := (newS_good HR.out).2.1
      rw [← hnames] at this
      simp [namesOf] at this
    | cons a b => exact ⟨a, b, rfl⟩
  obtain ⟨hC, hR6, -, -⟩ := cond_of HR.out hnames
  have HC : Hid (Cond x a R0) := hC
  have HC6 : Hid ((a :: R0).length ≤ 6) := hR6
  have HL1 : Hid (Lw w q u a R0 x W1) := by
    have hin := hset.ask hC.n7 (by have := hC.nd; unfold namesOf; rw [List.map_map]; exact this) (by
      cases x with
      | false => exact .inl (by rw [hC.x0 rfl]; rfl)
      | true => exact .inr (fun b hb => by have := hC.x6 rfl b hb; omega))
    exact ⟨hb1, hin, hset.c1, by omega⟩
  rw [← hnames] at hrset
  have HS1 : Hid (RSetAt W1 H p u2 (namesOf (a :: R0)) x) := hrset
  clear hset hb1 hnames hC hR6 hrset c4 hq hH hp HR
  have c5 := encO HL1.out HE.out HC6.out HC.out k text
  obtain ⟨F, hF⟩ : ∃ F, enS (Pz a R0) a R0 k text = F := ⟨_, rfl⟩
  have HFE : Hid (∀ i c, errF F = some (i, c) → (c != 0) = true) := hF ▸ enS_err (Pz a R0) a R0 k text
  have HFL : Hid ((oF F).length ≤ 65534) := hF ▸ oF_len (Pz a R0) a R0 k text
  rw [hF] at c5
  have HF : Hid _ := hF
  clear hF
  go_wp2_with (go_at_call 5; refine Stop.mk ?_)
  refine Stop.out (c5.mono ?_)
  rintro e' W2 ⟨b, er, rfl, ⟨hp2, ho2, hz2, hn2⟩, hl2, hk2⟩
  have HL2 : Hid (Lw w q u a R0 x W2) := hl2
  have HS2 : Hid (RSetAt W2 H p u2 (namesOf (a :: R0)) x) := HS1.out.kept (by simp [namesOf]) HL1.out.s (keep_kb hk2)
  have HP2 : Hid (PErr W2 er (errF F)) := hp2
  have HO2 : Hid (W2.ownsRow W1.heap.size 5 1 b (oF F).length (cellsZ (oF F))) := ho2
  have HZ2 : Hid (ByteZ (oF F)) := hz2
  have hs12 := hk2.size
  have c6 := rencO HS2.out HC6.out HC.out (HRT.out.on hl2.b) k text
  rw [HF.out] at c6
  clear c5 hp2 ho2 hz2 hl2 hk2
  go_wp2_with (go_at_call 6; refine Stop.mk ?_)
  refine Stop.out (c6.mono ?_)
  rintro e' W3 ⟨c, fa, fl, fc, fn, rfl, hr3, hc3, hb3⟩
  obtain ⟨W4, hW4⟩ : ∃ W4, W3.alloc (.cells #[.slice fa fl fc, .int .i64 fn] 34) = W4 := ⟨_, rfl⟩
  have hb4 : Below W3.heap.size W3 W4 := hW4 ▸ (Below.refl _ _).alloc (Nat.le_refl _) _
  have hb24 : Below W2.heap.size W2 W4 := hb3.trans (hb4.mono hb3.size)
  have f0 : W4.cell? ⟨W3.heap.size, 0, none⟩ = some (.slice fa fl fc) := by rw [← hW4]; simp
  have f1 : W4.cell? ⟨W3.heap.size, 1, none⟩ = some (.int .i64 fn) := by rw [← hW4]; simp
  have hs34 := hb4.size
  have hs23 := hb3.size
  have hs3 : W4.heap.size = W3.heap.size + 1 := by rw [← hW4]; simp
  have HI4 : Hid (LI w q u a R0 x W2.heap.size W3.heap.size c fa fl fc fn F W4) := ⟨HL2.out.on hb24, f0, f1, hr3.next hb4, ownsRow_below hc3 hb4 (Nat.le_refl _)⟩
  have HO4 : Hid (W4.ownsRow W1.heap.size 5 1 b (oF F).length (cellsZ (oF F))) := ownsRow_below HO2.out hb24 (Nat.le_refl _)
  have HP4 : Hid (PErr W4 er (errF F)) := HP2.out.next hb24
  have HCL : Hid (∀ g, c.ownBlock = some g → W2.heap.size ≤ g ∧ g < W3.heap.size) := fun g hg => hc3.lt g hg
  have HBL : Hid (∀ g, b.ownBlock = some g → W1.heap.size ≤ g ∧ g < W2.heap.size) := fun g hg => HO2.out.lt g hg
  have HFAR : Hid (∀ r ∈ a :: R0, r.2.2 + 1 < W1.heap.size) := fun r hr => (HL1.out.far r hr).2.2
  have HFR2 : Hid (∀ r ∈ a :: R0, r.2.2 + 1 < W2.heap.size ∧ r.2.2 + 1 < W3.heap.size) := fun r hr => by have := HFAR.out r hr; omega
  have c7 := is_yes HP4.out HI4.out.r HFE.out
  obtain ⟨ba, bc, hbe, hba⟩ := row_form HO2.out
  obtain ⟨ca, cc, hce, hca⟩ := row_form hc3
  obtain ⟨nF, hnF⟩ : ∃ nF, (oF F).length = nF := ⟨_, rfl⟩
  rw [hnF] at hn2 hbe hba hce hca
  have HNF : Hid _ := hnF
  have HFL2 : Hid (nF ≤ 65534) := by have := HFL.out; rw [hnF] at this; exact this
  have HBA : Hid (0 < nF → ∃ g, ba = some ⟨g, 0, none⟩) := hba
  have HN2 : Hid _ := hn2
  subst hbe
  subst hce
  clear c6 hr3 hc3 hb3 hb4 hb24 hnF hba hca HP2 HO2 HS2
  go_wp2_with (go_at_call 7; refine Stop.mk ?_)
  refine Stop.out (c7.mono ?_)
  rintro e' W5 ⟨rfl, hb5⟩
  have HI5 : Hid (LI w q u a R0 x W2.heap.size W3.heap.size (.slice ca nF cc) fa fl fc fn F W5) := HI4.out.on hb5
  have HO5 : Hid (W5.ownsRow W1.heap.size 5 1 (.slice ba nF bc) (oF F).length (cellsZ (oF F))) := ownsRow_below HO4.out hb5 (Nat.le_refl _)
  have hs45 := hb5.size
  have HBig : Hid (((oF F).map Int.toNat).length ≤ 140737488351232) := by have := HFL.out; show _ ≤ _; rw [List.length_map]; omega
  have c8 := bytL (own_z HO5.out HZ2.out) (own_z HI5.out.c HZ2.out) HBig.out
  rw [decide_eq_true rfl] at c8
  clear c7 hb5 HI4 HO4 HP4 hW4 f0 f1
  go_wp2_with (go_at_call 8; refine Stop.mk ?_)
  refine Stop.out (c8.mono ?_)
  rintro e' W6 ⟨rfl, hb6⟩
  have HI6 : Hid (LI w q u a R0 x W2.heap.size W3.heap.size (.slice ca nF cc) fa fl fc fn F W6) := HI5.out.on hb6
  have HO6 : Hid (W6.ownsRow W1.heap.size 5 1 (.slice ba nF bc) (oF F).length (cellsZ (oF F))) := ownsRow_below HO5.out hb6 (Nat.le_refl _)
  have hs56 := hb6.size
  have c5 := encO HI6.out.l HE.out HC6.out HC.out k ⟨#[97, 110, 111, 116, 104, 101, 114]⟩
  obtain ⟨F2, hF2⟩ : ∃ F2, enS (Pz a R0) a R0 k ⟨#[97, 110, 111, 116, 104, 101, 114]⟩ = F2 := ⟨_, rfl⟩
  have HFL3 : Hid ((oF F2).length ≤ 65534) := hF2 ▸ oF_len (Pz a R0) a R0 k ⟨#[97, 110, 111, 116, 104, 101, 114]⟩
  rw [hF2] at c5
  clear c8 hb6 HI5 HO5 hF2
  have hnn : (ba = none ∧ nF = 0 ∧ bc = 0) ∨ ((nF : Int) == 0) = false := by
    rcases hn2 with e | e
    · cases e; exact .inl ⟨rfl, rfl, rfl⟩
    · exact .inr (by simp; omega)
  clear hn2
  obtain ⟨bv, hbv⟩ : ∃ bv, bv = Value.slice ba nF bc := ⟨_, rfl⟩
  have HBV : Hid (bv = .slice ba nF bc) := hbv
  have HBF : Hid (∃ a c, bv = .slice a nF c ∧ (0 < nF → ∃ g, a = some ⟨g, 0, none⟩)) := ⟨ba, bc, hbv, HBA.out⟩
  rw [← hbv] at HO6 HBL HN2
  clear hbv HBA
  rcases hnn with ⟨rfl, rfl, rfl⟩ | hnn
  all_goals
    go_wp2_with (go_at_call 5; refine Stop.mk ?_)
    refine Stop.out (c5.mono ?_)
    rintro e' W7 ⟨o, er2, rfl, ⟨-, ho7, hz7, hn7⟩, hl7, hk7⟩
    have HI7 : Hid _ := HI6.out.kb hl7 hk7 HFR2.out
    have HO7 : Hid _ := own_far hk7 HO6.out HFAR.out
    have HOO7 : Hid (W7.ownsRow W6.heap.size 5 1 o (oF F2).length (cellsZ (oF F2))) := ho7
    have HOL : Hid (∀ g, o.ownBlock = some g → W6.heap.size ≤ g ∧ g < W7.heap.size) := fun g hg => ho7.lt g hg
    have HZ7 : Hid _ := hz7
    have HN7 : Hid _ := hn7
    have hs67 := hk7.size
    have c5b := encO HI7.out.l HE.out HC6.out HC.out k text
    rw [HF.out] at c5b
    obtain ⟨oa, oc, hoe, hoa⟩ := row_form ho7
    obtain ⟨n2, hn2⟩ : ∃ n2, (oF F2).length = n2 := ⟨_, rfl⟩
    rw [hn2] at hoe hoa
    have HN2' : Hid _ := hn2
    have HOA : Hid (0 < n2 → ∃ g, oa = some ⟨g, 0, none⟩) := hoa
    have HOV : Hid _ := hoe
    rw [hoe]
    clear c5 ho7 hz7 hn7 hl7 hk7 HI6 HO6 hn2 hoa hoe
    go_wp2_with (go_at_call 5; refine Stop.mk ?_)
    refine Stop.out (c5b.mono ?_)
    rintro e' W8 ⟨d, er3, rfl, ⟨hp8, ho8, hz8, hn8⟩, hl8, hk8⟩
    have HI8 : Hid _ := HI7.out.kb hl8 hk8 HFR2.out
    have HO8 : Hid _ := own_far hk8 HO7.out HFAR.out
    have HOO8 : Hid _ := own_far hk8 HOO7.out (fun r hr => by have := HFAR.out r hr; omega)
    have HD8 : Hid (W8.ownsRow W7.heap.size 5 1 d (oF F).length (cellsZ (oF F))) := ho8
    have HDL : Hid (∀ g, d.ownBlock = some g → W7.heap.size ≤ g ∧ g < W8.heap.size) := fun g hg => ho8.lt g hg
    have HN8 : Hid _ := hn8
    have hs78 := hk8.size
    have c7 := is_yes hp8 HI8.out.r HFE.out
    obtain ⟨da, dc, hde, hda⟩ := row_form ho8
    rw [HNF.out] at hde hda
    have HDV : Hid _ := hde
    rw [hde]
    clear c5b hp8 ho8 hz8 hn8 hl8 hk8 HI7 HO7 HOO7 hda hde
    have g0 := HI8.out.f0
    have g1 := HI8.out.f1
    go_wp2_with (go_at_call 7; refine Stop.mk ?_)
    refine Stop.out (c7.mono ?_)
    rintro e' W9 ⟨rfl, hb9⟩
    have HI9 : Hid _ := HI8.out.on hb9
    have HO9 : Hid _ := ownsRow_below HO8.out hb9 (Nat.le_refl _)
    have HOO9 : Hid _ := ownsRow_below HOO8.out hb9 (Nat.le_refl _)
    have HD9 : Hid _ := ownsRow_below HD8.out hb9 (Nat.le_refl _)
    have hs89 := hb9.size
    have c8 := bytL (own_z HD9.out HZ2.out) (own_z HI9.out.c HZ2.out) HBig.out
    rw [decide_eq_true rfl, HDV.out] at c8
    clear c7 hb9 HI8 HO8 HOO8 HD8 g0 g1
    go_wp2_with (go_at_call 8; refine Stop.mk ?_)
    refine Stop.out (c8.mono ?_)
    rintro e' W10 ⟨rfl, hb10⟩
    have HI10 : Hid _ := HI9.out.on hb10
    have HO10 : Hid _ := ownsRow_below HO9.out hb10 (Nat.le_refl _)
    have HOO10 : Hid _ := ownsRow_below HOO9.out hb10 (Nat.le_refl _)
    have HD10 : Hid _ := ownsRow_below HD9.out hb10 (Nat.le_refl _)
    have hs910 := hb10.size
    have c8b := bytL (own_z HO10.out HZ2.out) (own_z HI10.out.c HZ2.out) HBig.out
    rw [decide_eq_true rfl, HBV.out] at c8b
    clear c8 hb10 HI9 HO9 HOO9 HD9
    go_wp2_with (go_at_call 8; refine Stop.mk ?_)
    refine Stop.out (c8b.mono ?_)
    rintro e' W11 ⟨rfl, hb11⟩
    have HI11 : Hid _ := HI10.out.on hb11
    have HO11 : Hid _ := ownsRow_below HO10.out hb11 (Nat.le_refl _)
    have HOO11 : Hid _ := ownsRow_below HOO10.out hb11 (Nat.le_refl _)
    have HD11 : Hid _ := ownsRow_below HD10.out hb11 (Nat.le_refl _)
    have hs1011 := hb11.size
    clear c8b hb11 HI10 HO10 HOO10 HD10
    go_wp2_with (go_at_call 9; refine Stop.mk ?_)
    rw [← HBV.out, ← HOV.out, ← HDV.out]
    obtain ⟨W12, hW12⟩ : ∃ W12, W11.alloc (.cells #[bv, o, d] 27) = W12 := ⟨_, rfl⟩
    have hb12 : Below W11.heap.size W11 W12 := hW12 ▸ (Below.refl _ _).alloc (Nat.le_refl _) _
    have hs12' : W12.heap.size = W11.heap.size + 1 := by rw [← hW12]; simp
    have HI12 : Hid _ := HI11.out.on hb12
    have HO12 : Hid _ := ownsRow_below HO11.out hb12 (Nat.le_refl _)
    have HOO12 : Hid _ := ownsRow_below HOO11.out hb12 (Nat.le_refl _)
    have HD12 : Hid _ := ownsRow_below HD11.out hb12 (Nat.le_refl _)
    have hFam : Fam 3 W11.heap.size W1.heap.size (tri bv o d) (triN (oF F).length (oF F2).length (oF F).length) :=
      tri_fam (row_form HO12.out) (row_form HOO12.out) (row_form HD12.out) (by have := HFL.out; omega) (by have := HFL3.out; omega) (by have := HFL.out; omega) HBL.out HOL.out HDL.out (by omega) (by omega) (by omega) (by omega) (by omega)
    have hFA : FA W12 3 W11.heap.size W1.heap.size (tri bv o d) (triL ((oF F).map Int.toNat) ((oF F2).map Int.toNat) ((oF F).map Int.toNat)) W12 := by
      refine ⟨fun i hi => ?_, fun i hi => ?_, KR.refl _ _ _⟩
      · rcases (show i = 0 ∨ i = 1 ∨ i = 2 by omega) with rfl | rfl | rfl <;> (rw [← hW12]; simp [tri])
      · rcases (show i = 0 ∨ i = 1 ∨ i = 2 by omega) with rfl | rfl | rfl
        · show W12.ownsRow _ 5 1 bv ((oF F).map Int.toNat).length (u8s ((oF F).map Int.toNat))
          rw [List.length_map, ← z_u8s HZ2.out]
          exact HO12.out
        · show W12.ownsRow _ 5 1 o ((oF F2).map Int.toNat).length (u8s ((oF F2).map Int.toNat))
          rw [List.length_map, ← z_u8s HZ7.out]
          exact own_low HOO12.out (by omega)
        · show W12.ownsRow _ 5 1 d ((oF F).map Int.toNat).length (u8s ((oF F).map Int.toNat))
          rw [List.length_map, ← z_u8s HZ2.out]
          exact own_low HD12.out (by omega)
    have c9 := free_any W12 3 W11.heap.size W1.heap.size 3 (tri bv o d) _ _ hFam hFA (fun j hj => by
      rcases (show j = 0 ∨ j = 1 ∨ j = 2 by omega) with rfl | rfl | rfl <;> simp [triL, triN]) (by omega)
    rw [hW12]
    refine Stop.out (c9.mono ?_)
    rintro e' W13 ⟨rfl, hkr⟩
    have hrow : ∀ i, i < 3 → ∀ g, (tri bv o d i).ownBlock = some g → W1.heap.size ≤ g ∧ (g < W2.heap.size ∨ W6.heap.size ≤ g) := by
      intro i hi g hg
      rcases (show i = 0 ∨ i = 1 ∨ i = 2 by omega) with rfl | rfl | rfl
      · have := HBL.out g hg; omega
      · have := HOL.out g hg; omega
      · have := HDL.out g hg; omega
    have hwl := HI12.out.l.b.size
    have hw1 := HL1.out.b.size
    have hbw : Below w.heap.size w W13 := by
      have h1 := HI12.out.l.b
      exact h1.trans ⟨hkr.os, hkr.tape, hkr.output, hkr.size, fun j hj => hkr.block j (by omega) (fun i hi e => by have := (hrow i hi j e).1; omega)⟩
    have HI13 : Hid _ := HI12.out.many hbw (fun j hj hn => hkr.block j hj (fun i hi e => hn (by
      rcases (show i = 0 ∨ i = 1 ∨ i = 2 by omega) with rfl | rfl | rfl
      · exact row_u8 HO12.out (by rw [HNF.out]; exact HN2.out) j e
      · exact row_u8 HOO12.out HN7.out j e
      · exact row_u8 HD12.out HN8.out j e))) (fun g hg => hkr.block g (by have := HCL.out g hg; omega) (fun i hi e => by have := hrow i hi g e; have := HCL.out g hg; omega))
    have c5c := encO HI13.out.l HE.out HC6.out HC.out k text
    rw [HF.out] at c5c
    have hs1213 := hkr.size
    clear c9 hkr hrow hbw hFam hFA HI12 HO12 HOO12 HD12 hb12 hW12 HI11 HO11 HOO11 HD11
    go_wp2_with (go_at_call 5; refine Stop.mk ?_)
    refine Stop.out (c5c.mono ?_)
    rintro e' W14 ⟨d2, er4, rfl, ⟨hp14, ho14, hz14, hn14⟩, hl14, hk14⟩
    have HI14 : Hid _ := HI13.out.kb hl14 hk14 HFR2.out
    have HD14 : Hid (W14.ownsRow W13.heap.size 5 1 d2 (oF F).length (cellsZ (oF F))) := ho14
    have c7 := is_yes hp14 HI14.out.r HFE.out
    obtain ⟨ea, ec, hee, hea⟩ := row_form ho14
    have g0 := HI14.out.f0
    have g1 := HI14.out.f1
    subst hee
    clear c5c hp14 ho14 hz14 hn14 hl14 hk14 HI13 hea
    go_wp2_with (go_at_call 7; refine Stop.mk ?_)
    refine Stop.out (c7.mono ?_)
    rintro e' W15 ⟨rfl, hb15⟩
    have HI15 : Hid _ := HI14.out.on hb15
    have HD15 : Hid _ := ownsRow_below HD14.out hb15 (Nat.le_refl _)
    have c8c := bytL (own_z HD15.out HZ2.out) (own_z HI15.out.c HZ2.out) HBig.out
    rw [decide_eq_true rfl] at c8c
    clear c7 hb15 HI14 HD14 g0 g1
    go_wp2_with (go_at_call 8; refine Stop.mk ?_)
    refine Stop.out (c8c.mono ?_)
    rintro e' W16 ⟨rfl, hb16⟩
    have HB16 : Hid (Below w.heap.size w W16) := (HI15.out.on hb16).l.b
    clear c8c hb16
    go_wp2
    go_ret
    exact ⟨rfl, HB16.out⟩

set_option maxRecDepth 100000 in
theorem encs_no (w : World) (v : Value) (T : List ByteArray) (ac : Int × Int) (k : Int) (text : ByteArray) (hr : newS T = .inl ac) (hT : TS w v T) (hl : T.length ≤ 8796093021952) (hsz : ∀ s ∈ T, s.size ≤ 140737488351232) (he : Env w) :
    Calls Tryz.prog 3 #[v, .int .i64 k, .string text] w fun e w' => e = .returned (.bool true) ∧ Below w.heap.size w w' := by
  have c4 := begin_any w v T hT hl hsz he.sp
  rw [hr] at c4
  obtain ⟨tao, tc, rfl, _⟩ := hT
  clear hr hsz hl he
  go_enter Tryz.func3, Tryz.ntmps3
  go_wp2_with (go_at_call 4; refine Stop.mk ?_)
  refine Stop.out (c4.mono ?_)
  rintro e' W1 ⟨sv, kv, rfl, ⟨rfl, rfl⟩, hb1⟩
  have HB1 : Hid _ := hb1
  clear c4 hb1
  go_wp2
  go_ret
  exact ⟨rfl, HB1.out⟩
end Go.Proofs.YtegfgbcimlacbaaGreatDoor
