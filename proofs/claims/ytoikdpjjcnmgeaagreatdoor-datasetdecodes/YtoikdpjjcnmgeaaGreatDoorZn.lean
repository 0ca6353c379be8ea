import Derived.Test.YtoikdpjjcnmgeaaGreatDoorZs
import Derived.Test.YtoikdpjjcnmgeaaGreatDoorWK
import Derived.Test.YtoikdpjjcnmgeaaGreatDoorZu
import Derived.Test.YtoikdpjjcnmgeaaGreatDoorVj
import Derived.Deep.LoopGhost
section
/-
  DERIVED. What the law of Decode wants.
-/
namespace Go.Proofs.YtoikdpjjcnmgeaaGreatDoor
open Go Go.Proofs Go.RowKit
open Wk (Nd nds NV)

theorem lat {w w' w'' : World} (h : Below w.heap.size w w') (h2 : Below w'.heap.size w' w'') : Below w.heap.size w w'' := h.trans (h2.mono h.size)
/-- Bytes as the readers ask them. -/
def yb (bs : List Nat) : List UInt8 := bs.map UInt8.ofNat
theorem yb_len (bs : List Nat) : (yb bs).length = bs.length := by simp [yb]
theorem yb_get {bs : List Nat} (h : ∀ x ∈ bs, x < 256) {k : Nat} (hk : k < bs.length) : gB (yb bs) k = bs.getD k 0 := by
  unfold gB yb
  rw [List.getD_eq_getElem?_getD, List.getElem?_map, List.getElem?_eq_getElem hk, List.getD_eq_getElem?_getD, List.getElem?_eq_getElem hk]
  show (UInt8.ofNat bs[k]).toNat = bs[k]
  have := h bs[k] (List.getElem_mem hk)
  exact UInt8.toNat_ofNat_of_lt' this
theorem ba_of {W : World} {a : Option Addr} {n cap : Nat} {bs : List Nat} (h : Le.V W (.slice a n cap) bs) (hl : bs.length ≤ 140737488351232) : BA W.heap.size W a n cap (yb bs) := by
  rcases h with ⟨a1, c1, e, rfl⟩ | ⟨b1, o1, c1, e, hp, hc, h1⟩
  · cases e
    exact ⟨rfl, Nat.zero_le _, by decide, fun k hk => absurd hk (by omega)⟩
  · cases e
    refine ⟨(yb_len bs).symm, hc, by omega, fun k hk => ⟨b1, o1, rfl, World.block_lt_of_cell? W ⟨b1, o1 + k, none⟩ (h1.1 k hk), ?_⟩⟩
    rw [yb_get h1.2 hk]
    exact h1.1 k hk
theorem v_take {W : World} {a : Option Addr} {n cap : Nat} {bs : List Nat} (h : Le.V W (.slice a n cap) bs) (m : Nat) (hm : m ≤ n) : Le.V W (.slice a m cap) (bs.take m) := by
  rcases h with ⟨a1, c1, e, rfl⟩ | ⟨b1, o1, c1, e, hp, hc, h1⟩
  · cases e
    obtain rfl : m = 0 := by omega
    exact .inl ⟨_, _, rfl, rfl⟩
  · cases e
    by_cases h0 : m = 0
    · subst h0
      exact .inl ⟨_, _, rfl, rfl⟩
    · have hlt : (bs.take m).length = m := by rw [List.length_take]; omega
      refine .inr ⟨b1, o1, cap, by rw [hlt], by omega, by omega, ⟨fun k hk => ?_, fun x hx => h1.2 x (List.mem_of_mem_take hx)⟩⟩
      rw [hlt] at hk
      have := h1.1 k (by omega)
      rw [this]
      congr 3
      rw [List.getD_eq_getElem?_getD, List.getD_eq_getElem?_getD, List.getElem?_take, if_pos hk]
/-- What Decode of some bytes gives: its nodes, or none. -/
def OutD (s : Int) (ys : List UInt8) (M : List Nd) : Prop := OkD s ys M ∨ (∃ a c, ErrD s ys a c ∧ M = [])
theorem outD_one {s : Int} {ys : List UInt8} {M M' : List Nd} (h : OutD s ys M) (h' : OutD s ys M') : M = M' := by
  rcases h with h | ⟨a, c, h, rfl⟩ <;> rcases h' with h' | ⟨a', c', h', rfl⟩
  · exact okD_one h h'
  · exact (errD_ok h' h).elim
  · exact (errD_ok h h').elim
  · rfl
/-- A list that was told, in memory of its own. -/
structure Tw (lo hi : Nat) (u : Value) (M : List Nd) (W : World) : Prop where
  own : W.ownsRow lo 54 4 u M.length (nds M)
  blk : ∀ g, u.ownBlock = some g → lo ≤ g ∧ g < hi
  mo : MOk M
  nz : M.length = 0 → u = .slice none 0 0
theorem dcr_row {base : Nat} {W : World} {s : Int} {ys : List UInt8} {nv ve : Value} (h : DcR base W s ys nv ve) : ∃ M, OutD s ys M ∧ Tw base W.heap.size nv M W := by
  rcases h with ⟨a, c, he, rfl, -⟩ | ⟨M, ho, -, hr, hm, hz⟩
  · exact ⟨[], .inr ⟨a, c, he, rfl⟩, ⟨World.ownsRow_nil _ _ _ _, fun g e => (nomatch e), MOk.nil, fun _ => rfl⟩⟩
  · exact ⟨M, .inl ho, ⟨hr, fun g e => hr.lt g e, hm, hz⟩⟩
theorem rdr_row {base : Nat} {W : World} {s : Int} {ys : List UInt8} {nv vf : Value} (h : RdR base W s ys nv vf) : ∃ M, OutD s ys M ∧ W.ownsRow base 54 4 nv M.length (nds M) := by
  rcases h with ⟨a, c, g, he, -, rfl, -⟩ | ⟨M, ho, -, hr⟩
  · exact ⟨[], .inr ⟨a, c, he, rfl⟩, World.ownsRow_nil _ _ _ _⟩
  · exact ⟨M, .inl ho, hr⟩
theorem rdr_form {base : Nat} {W : World} {s : Int} {ys : List UInt8} {nv vf : Value} (h : RdR base W s ys nv vf) : ∃ (fa : Option Addr) (fm fc : Nat) (fk : Int), vf = .agg #[.slice fa fm fc, .int .i64 fk] := by
  rcases h with ⟨a, c, g, -, -, -, rfl, -⟩ | ⟨M, -, rfl, -⟩
  · exact ⟨_, _, _, _, rfl⟩
  · exact ⟨_, _, _, _, rfl⟩
theorem DcR.on {base : Nat} {W W' : World} {s : Int} {ys : List UInt8} {nv ve : Value} (h : DcR base W s ys nv ve) (hb : Below W.heap.size W W') : DcR base W' s ys nv ve := by
  rcases h with ⟨a, c, he, e, hc⟩ | ⟨M, ho, e, hr, hm⟩
  · exact .inl ⟨a, c, he, e, hc.on hb⟩
  · exact .inr ⟨M, ho, e, Wk.ownsRow_below hr hb (Nat.le_refl _), hm⟩
theorem RdR.on {base : Nat} {W W' : World} {s : Int} {ys : List UInt8} {nv vf : Value} (h : RdR base W s ys nv vf) (hb : Below W.heap.size W W') : RdR base W' s ys nv vf := by
  rcases h with ⟨a, c, g, he, h0, e, e2, hl⟩ | ⟨M, ho, e, hr⟩
  · exact .inl ⟨a, c, g, he, h0, e, e2, hl.on hb⟩
  · exact .inr ⟨M, ho, e, Wk.ownsRow_below hr hb (Nat.le_refl _)⟩
theorem is_both {b1 b2 : Nat} {W : World} {s : Int} {ys : List UInt8} {nv ve nv' vf : Value} (h1 : DcR b1 W s ys nv ve) (h2 : RdR b2 W s ys nv' vf) : Calls Tryz.prog 12 #[ve, vf] W fun e w' => e = .returned (.bool true) ∧ Below W.heap.size W w' := by
  rcases h1 with ⟨a, c, he, -, hc⟩ | ⟨M, ho, rfl, -⟩ <;> rcases h2 with ⟨a', c', g, he', h0, -, rfl, hl⟩ | ⟨M', ho', rfl, -⟩
  · obtain ⟨rfl, rfl⟩ := errD_one he he'
    exact is_chain W [(dsB, (a : Int))] (c : Int) ve g 1 1 hc (by omega) rfl (by decide) (by decide) hl
  · exact (errD_ok he ho').elim
  · exact (errD_ok he' ho).elim
  · exact Rp.is_nil W
theorem mok_num {M : List Nd} (h : MOk M) : ∀ x ∈ M, -9223372036854775808 ≤ x.n ∧ x.n ≤ 9223372036854775807 := fun x hx => by
  have h1 := (h.a x hx).n0
  have h2 := (h.a x hx).n1
  have h3 := h.l
  omega
theorem own_nvz {w : World} {base g n c : Nat} {Q : List Nd} (h : w.ownsRow base 54 4 (.slice (some ⟨g, 0, none⟩) n c) n (Wk.nds Q)) (hn : n = Q.length) (hs : n ≤ 3518437208780) (hz : ∀ x ∈ Q, -9223372036854775808 ≤ x.n ∧ x.n ≤ 9223372036854775807) : NV w (some ⟨g, 0, none⟩) n c Q := by
  refine ⟨hn, Wk.own_cap h, hs, fun _ => ⟨g, 0, rfl, fun i hi => ?_⟩, hz⟩
  have hg : ∀ k, k < 4 → w.cell? ⟨g, 0 + i * 4 + k, none⟩ = ((Q[i]'hi).cs)[k]? := fun k hk => by
    rw [Nat.zero_add]
    refine (World.ownsRow.cellAt h (i * 4 + k) (by omega)).trans ?_
    exact Wk.nds_get Q i hi k hk
  exact ⟨hg 0 (by decide), hg 1 (by decide), hg 2 (by decide), hg 3 (by decide)⟩
theorem own_nv2 {w : World} {b : Nat} {a : Option Addr} {m c : Nat} {M : List Nd} (h : w.ownsRow b 54 4 (.slice a m c) m (nds M)) (hm : m = M.length) (hM : MOk M) : NV w a m c M := by
  rcases h.2 with ⟨hv, he⟩ | ⟨g, c', cur, hv, -⟩
  · cases hv
    exact ⟨hm, Nat.zero_le _, by omega, fun h => absurd h (by omega), mok_num hM⟩
  · cases hv
    exact own_nvz h hm (by have := hM.l; omega) (mok_num hM)
/-- Blocks that are neither bytes nor faults stay. -/
def Kz (w w' : World) : Prop := ∀ (i : Nat) (cs : Array Value) (t : TypeId) (f : Nat × Nat), w.heap[i]? = some (.cells cs t f) → t ≠ 5 → t ≠ 32 → w'.heap[i]? = w.heap[i]?
theorem Kz.refl (w : World) : Kz w w := fun _ _ _ _ _ _ _ => rfl
theorem Kz.trans {a b c : World} (h : Kz a b) (g : Kz b c) : Kz a c := fun i cs t f e h1 h2 => (g i cs t f ((h i cs t f e h1 h2).trans e) h1 h2).trans (h i cs t f e h1 h2)
theorem Kz.below {w w' : World} (h : Below w.heap.size w w') : Kz w w' := fun i _ _ _ e _ _ => h.block i (Array.getElem?_eq_some_iff.1 e).1
theorem Kz.set {w : World} {q i : Nat} {x : Value} {t : TypeId} (h : ∃ cs f, w.heap[q]? = some (Obj.cells cs t f)) (ht : t = 5 ∨ t = 32) : Kz w (w.setCell ⟨q, i, none⟩ x) := fun g cs u f e h1 h2 => heap_setCell_other w ⟨q, i, none⟩ g x (fun hc => by
  have hc : g = q := hc
  obtain ⟨cs2, f2, h⟩ := h
  rw [hc, h] at e
  cases e
  rcases ht with rfl | rfl
  · exact h1 rfl
  · exact h2 rfl)
theorem own_kz {W W' : World} {base : Nat} {v : Value} {n : Nat} {xs : List Value} (h : W.ownsRow base 54 4 v n xs) (hk : Kz W W') : W'.ownsRow base 54 4 v n xs := own_same h (fun g cur hg => hk g cur 54 _ hg (by decide) (by decide))
theorem Tw.kz {lo hi : Nat} {u : Value} {M : List Nd} {W W' : World} (h : Tw lo hi u M W) (hk : Kz W W') : Tw lo hi u M W' := ⟨own_kz h.own hk, h.blk, h.mo, h.nz⟩
/-- The bytes that were lent, as they stand. -/
structure Gv (B g n : Nat) (bs : List Nat) (W : World) : Prop where
  own : W.ownsRow B 5 1 (.slice (some ⟨g, 0, none⟩) n (n + 3)) n (Le.u8s bs)
  len : bs.length = n
  byt : ∀ x ∈ bs, x < 256
theorem Gv.of {W : World} {B g : Nat} {bs : List Nat} (h : Le.Own W B (.slice (some ⟨g, 0, none⟩) (bs.length + 3) (bs.length + 3)) (bs ++ [160, 161, 162])) : Gv B g bs.length bs W := by
  have h1 := h.1
  rw [List.length_append, show [160, 161, 162].length = 3 from rfl] at h1
  refine ⟨?_, rfl, fun x hx => h.2 x (List.mem_append_left _ hx)⟩
  rcases h1.2 with ⟨e, -⟩ | ⟨g', c', cur, e, hb, hh, hc, hm, hs, ht⟩
  · cases e
  · cases e
    refine ⟨by simp [Le.u8s], .inr ⟨g, bs.length + 3, cur, rfl, hb, hh, by omega, hm, hs, ?_⟩⟩
    have := congrArg (List.take (bs.length * 1)) ht
    rw [List.take_take, Nat.min_eq_left (by omega)] at this
    rw [this]
    unfold Le.u8s
    rw [List.map_append, List.take_left' (by simp)]
theorem Gv.on {B g n : Nat} {bs : List Nat} {W W' : World} (h : Gv B g n bs W) (hb : Below W.heap.size W W') : Gv B g n bs W' := ⟨Wk.ownsRow_below h.own hb (Nat.le_refl _), h.len, h.byt⟩
theorem Gv.v {B g n : Nat} {bs : List Nat} {W : World} (h : Gv B g n bs W) : Le.V W (.slice (some ⟨g, 0, none⟩) n (n + 3)) bs := by
  have hl := h.len
  by_cases hp : 0 < n
  · refine .inr ⟨g, 0, n + 3, by rw [hl], by omega, by omega, ⟨fun k hk => ?_, h.byt⟩⟩
    have := h.own.cellAt (g := g) (cap := n + 3) k (by omega)
    rw [Nat.zero_add, this, Le.u8s_get bs k hk]
  · have h0 : bs = [] := List.eq_nil_of_length_eq_zero (by omega)
    subst h0
    obtain rfl : n = 0 := by omega
    exact .inl ⟨_, _, rfl, rfl⟩
theorem Gv.cell {B g n : Nat} {bs : List Nat} {W : World} (h : Gv B g n bs W) {k : Nat} (hk : k < n) : W.cell? ⟨g, k, none⟩ = some (.int .u8 (bs.getD k 0 : Nat)) := by
  have := h.own.cellAt (g := g) (cap := n + 3) k (by omega)
  rw [this, Le.u8s_get bs k (by rw [h.len]; exact hk)]
theorem Gv.ty {B g n : Nat} {bs : List Nat} {W : World} (h : Gv B g n bs W) : ∃ cs f, W.heap[g]? = some (Obj.cells cs 5 f) := by
  rcases h.own.2 with ⟨e, -⟩ | ⟨g', c', cur, e, hb, hh, -⟩
  · cases e
  · cases e
    exact ⟨cur, _, hh⟩
theorem Gv.set {B g n : Nat} {bs : List Nat} {W : World} (h : Gv B g n bs W) (k y : Nat) (hy : y < 256) : Gv B g n (bs.set k y) (W.setCell ⟨g, k, none⟩ (.int .u8 (y : Int))) := by
  have := (World.ownsRow.stored h.own k (.int .u8 (y : Int))).1
  refine ⟨?_, by rw [List.length_set]; exact h.len, fun x hx => ?_⟩
  · have e : Le.u8s (bs.set k y) = (Le.u8s bs).set k (.int .u8 (y : Int)) := by unfold Le.u8s; rw [List.map_set]
    rw [e]
    exact this
  · rcases List.mem_or_eq_of_mem_set hx with hx | rfl
    · exact h.byt x hx
    · exact hy
/-- A byte turned. -/
def xr (y : Nat) : Nat := (bits .xor .u8 (y : Int) 255).toNat
theorem xr_all : ∀ y : _root_.Fin 256, bits .xor .u8 ((y.val : Nat) : Int) 255 = (xr y.val : Int) ∧ xr y.val < 256 := by decide +kernel
theorem xr_eq {y : Nat} (h : y < 256) : bits .xor .u8 (y : Int) 255 = (xr y : Int) := (xr_all ⟨y, h⟩).1
theorem xr_lt {y : Nat} (h : y < 256) : xr y < 256 := (xr_all ⟨y, h⟩).2

/-- Six lists, each in memory of its own. -/
theorem free6 (w : World) (B G cap : Nat) (u0 u1 u2 u3 u4 u5 : Value) (M0 M1 M2 M3 M4 M5 : List Nd) (p0 p1 p2 p3 p4 p5 q0 q1 q2 q3 q4 q5 : Nat)
    (h0 : Tw p0 q0 u0 M0 w) (h1 : Tw p1 q1 u1 M1 w) (h2 : Tw p2 q2 u2 M2 w) (h3 : Tw p3 q3 u3 M3 w) (h4 : Tw p4 q4 u4 M4 w) (h5 : Tw p5 q5 u5 M5 w)
    (c0 : w.cell? ⟨G, 0, none⟩ = some u0) (c1 : w.cell? ⟨G, 1, none⟩ = some u1) (c2 : w.cell? ⟨G, 2, none⟩ = some u2) (c3 : w.cell? ⟨G, 3, none⟩ = some u3) (c4 : w.cell? ⟨G, 4, none⟩ = some u4) (c5 : w.cell? ⟨G, 5, none⟩ = some u5)
    (hB : B ≤ w.heap.size) (hb0 : B ≤ p0) (r0 : q0 ≤ p1) (r1 : q1 ≤ p2) (r2 : q2 ≤ p3) (r3 : q3 ≤ p4) (r4 : q4 ≤ p5) (r5 : q5 ≤ G) (s0 : p0 ≤ q0) (s1 : p1 ≤ q1) (s2 : p2 ≤ q2) (s3 : p3 ≤ q3) (s4 : p4 ≤ q4) (s5 : p5 ≤ q5) :
    Calls Tryz.prog 17 #[.slice (some ⟨G, 0, none⟩) 6 cap] w fun e w' => e = .returned (.bool true) ∧ Wk.KR 6 (fun i => [u0, u1, u2, u3, u4, u5].getD i .nilIface) w w' := by
  have six : ∀ {P : Nat → Prop}, P 0 → P 1 → P 2 → P 3 → P 4 → P 5 → ∀ i, i < 6 → P i := fun {P} a b c d e f i hi => by
    rcases (show i = 0 ∨ i = 1 ∨ i = 2 ∨ i = 3 ∨ i = 4 ∨ i = 5 by omega) with rfl | rfl | rfl | rfl | rfl | rfl <;> assumption
  have hf : ∀ (p q : Nat) (u : Value) (M : List Nd), Tw p q u M w → ∃ a cap, u = .slice a M.length cap ∧ (0 < M.length → ∃ g, a = some ⟨g, 0, none⟩) := fun p q u M h => by
    rcases h.own.2 with ⟨hv, he⟩ | ⟨g, c, cur, hv, -⟩
    · exact ⟨none, 0, by rw [hv, he], fun q => by omega⟩
    · exact ⟨_, c, hv, fun _ => ⟨g, rfl⟩⟩
  have hlo : ∀ i, i < 6 → ∀ g, ([u0, u1, u2, u3, u4, u5].getD i .nilIface).ownBlock = some g → [p0, p1, p2, p3, p4, p5].getD i 0 ≤ g ∧ g < [q0, q1, q2, q3, q4, q5].getD i 0 := six (P := fun i => ∀ g, ([u0, u1, u2, u3, u4, u5].getD i .nilIface).ownBlock = some g → [p0, p1, p2, p3, p4, p5].getD i 0 ≤ g ∧ g < [q0, q1, q2, q3, q4, q5].getD i 0) h0.blk h1.blk h2.blk h3.blk h4.blk h5.blk
  have low : ∀ (p q : Nat) (u : Value) (M : List Nd), Tw p q u M w → B ≤ p → w.ownsRow B 54 4 u M.length (nds M) := fun p q u M h hp => own_low h.own hp
  refine Wk.free_any w 6 G B cap (fun i => [u0, u1, u2, u3, u4, u5].getD i .nilIface) (fun i => ([M0, M1, M2, M3, M4, M5].getD i []).length) (fun i => nds ([M0, M1, M2, M3, M4, M5].getD i [])) ⟨by decide, six (hf _ _ _ _ h0) (hf _ _ _ _ h1) (hf _ _ _ _ h2) (hf _ _ _ _ h3) (hf _ _ _ _ h4) (hf _ _ _ _ h5), six (Nat.le_trans h0.mo.l (by decide)) (Nat.le_trans h1.mo.l (by decide)) (Nat.le_trans h2.mo.l (by decide)) (Nat.le_trans h3.mo.l (by decide)) (Nat.le_trans h4.mo.l (by decide)) (Nat.le_trans h5.mo.l (by decide)), ?_, ?_⟩ ⟨six c0 c1 c2 c3 c4 c5, six (low _ _ _ _ h0 hb0) (low _ _ _ _ h1 (by omega)) (low _ _ _ _ h2 (by omega)) (low _ _ _ _ h3 (by omega)) (low _ _ _ _ h4 (by omega)) (low _ _ _ _ h5 (by omega)), Wk.KR.refl _ _ _⟩ (fun i _ => Wk.nds_len _) hB
  · intro i j hi hj hij g e1 e2
    have a := hlo i hi g e1
    have b := hlo j hj g e2
    rcases (show i = 0 ∨ i = 1 ∨ i = 2 ∨ i = 3 ∨ i = 4 ∨ i = 5 by omega) with rfl | rfl | rfl | rfl | rfl | rfl <;> rcases (show j = 0 ∨ j = 1 ∨ j = 2 ∨ j = 3 ∨ j = 4 ∨ j = 5 by omega) with rfl | rfl | rfl | rfl | rfl | rfl <;> first | exact absurd rfl hij | (simp at a b; omega)
  · intro i hi e
    have a := hlo i hi G e
    rcases (show i = 0 ∨ i = 1 ∨ i = 2 ∨ i = 3 ∨ i = 4 ∨ i = 5 by omega) with rfl | rfl | rfl | rfl | rfl | rfl <;> (simp at a; omega)
/-- Blocks that are no bytes stay. -/
def Ky (w w' : World) : Prop := ∀ (i : Nat) (cs : Array Value) (t : TypeId) (f : Nat × Nat), w.heap[i]? = some (.cells cs t f) → t ≠ 5 → w'.heap[i]? = w.heap[i]?
theorem Ky.refl (w : World) : Ky w w := fun _ _ _ _ _ _ => rfl
theorem Ky.trans {a b c : World} (h : Ky a b) (g : Ky b c) : Ky a c := fun i cs t f e h1 => (g i cs t f ((h i cs t f e h1).trans e) h1).trans (h i cs t f e h1)
theorem Ky.below {w w' : World} (h : Below w.heap.size w w') : Ky w w' := fun i _ _ _ e _ => h.block i (Array.getElem?_eq_some_iff.1 e).1
theorem Ky.set {w : World} {q i : Nat} {x : Value} (h : ∃ cs f, w.heap[q]? = some (Obj.cells cs 5 f)) : Ky w (w.setCell ⟨q, i, none⟩ x) := fun g cs u f e h1 => heap_setCell_other w ⟨q, i, none⟩ g x (fun hc => by
  have hc : g = q := hc
  obtain ⟨cs2, f2, h⟩ := h
  rw [hc, h] at e
  cases e
  exact h1 rfl)
theorem Ky.kz {w w' : World} (h : Ky w w') : Kz w w' := fun i cs t f e h1 _ => h i cs t f e h1
/-- A fault's place, as it stands. -/
structure F9 (W : World) (q : Nat) (a : Option Addr) (m c : Nat) (y : Value) : Prop where
  c0 : W.cell? ⟨q, 0, none⟩ = some (.slice a m c)
  c1 : W.cell? ⟨q, 1, none⟩ = some y
  fz : ∀ i, W.frozen? ⟨q, i, none⟩ = false
  ty : ∃ cs f, W.heap[q]? = some (Obj.cells cs 32 f)
theorem F9.on {W W' : World} {q : Nat} {a : Option Addr} {m c : Nat} {y : Value} (h : F9 W q a m c y) (hb : Below W.heap.size W W') : F9 W' q a m c y := by
  obtain ⟨cs, f, e⟩ := h.ty
  have hk := hb.block q (Array.getElem?_eq_some_iff.1 e).1
  exact ⟨(cell_block hk).trans h.c0, (cell_block hk).trans h.c1, fun i => (frozen_block hk).trans (h.fz i), cs, f, hk.trans e⟩
theorem F9.ky {W W' : World} {q : Nat} {a : Option Addr} {m c : Nat} {y : Value} (h : F9 W q a m c y) (hb : Ky W W') : F9 W' q a m c y := by
  obtain ⟨cs, f, e⟩ := h.ty
  have hk := hb q cs 32 f e (by decide)
  exact ⟨(cell_block hk).trans h.c0, (cell_block hk).trans h.c1, fun i => (frozen_block hk).trans (h.fz i), cs, f, hk.trans e⟩
theorem ty_set2 {W : World} {q i : Nat} {v : Value} {t : TypeId} (h : ∃ cs f, W.heap[q]? = some (Obj.cells cs t f)) : ∃ cs f, (W.setCell ⟨q, i, none⟩ v).heap[q]? = some (Obj.cells cs t f) := by
  obtain ⟨cs, f, h⟩ := h
  unfold World.setCell
  simp only []
  rw [Array.getElem?_modify]
  simp [h]
theorem F9.set {W : World} {q : Nat} {a : Option Addr} {m c : Nat} {y : Value} (h : F9 W q a m c y) (a' : Option Addr) (m' c' : Nat) (y' : Value) : F9 ((W.setCell ⟨q, 0, none⟩ (.slice a' m' c')).setCell ⟨q, 1, none⟩ y') q a' m' c' y' :=
  ⟨(Rp.cell_set_ne (by decide)).trans (Rp.cell_set_eq h.c0), Rp.cell_set_eq ((Rp.cell_set_ne (by decide)).trans h.c1), fun i => by simpa using h.fz i, ty_set2 (ty_set2 h.ty)⟩
theorem F9.kz {W : World} {q : Nat} {a : Option Addr} {m c : Nat} {y : Value} (h : F9 W q a m c y) (x y' : Value) : Kz W ((W.setCell ⟨q, 0, none⟩ x).setCell ⟨q, 1, none⟩ y') := (Kz.set h.ty (.inr rfl)).trans (Kz.set (ty_set2 h.ty) (.inr rfl))
/-- What was told is not touched where a fault is put elsewhere. -/
theorem F9.dcr {W : World} {q : Nat} {a : Option Addr} {m c : Nat} {y : Value} (h : F9 W q a m c y) (x y' : Value) {base : Nat} {s : Int} {ys : List UInt8} {nv ve : Value} (hd : DcR base W s ys nv ve) : DcR base ((W.setCell ⟨q, 0, none⟩ x).setCell ⟨q, 1, none⟩ y') s ys nv ve := by
  rcases hd with ⟨a1, c1, he, e, hc⟩ | ⟨M, ho, e, hr, hm⟩
  · refine .inl ⟨a1, c1, he, e, ?_⟩
    obtain ⟨p, u, h1, h2, h3, h4, h5⟩ := hc
    have hne : q ≠ p := fun e => by
      rw [← e, h.c0] at h2
      cases h2
    exact ⟨p, u, h1, (Rp.cell_set_off hne).trans ((Rp.cell_set_off hne).trans h2), (Rp.cell_set_off hne).trans ((Rp.cell_set_off hne).trans h3), (Rp.cell_set_off hne).trans ((Rp.cell_set_off hne).trans h4), h5⟩
  · exact .inr ⟨M, ho, e, own_kz hr (h.kz x y'), hm⟩
theorem F9.rdr {W : World} {q : Nat} {a : Option Addr} {m c : Nat} {y : Value} (h : F9 W q a m c y) (x y' : Value) {base : Nat} {s : Int} {ys : List UInt8} {nv vf : Value} (hd : RdR base W s ys nv vf) : RdR base ((W.setCell ⟨q, 0, none⟩ x).setCell ⟨q, 1, none⟩ y') s ys nv vf := by
  rcases hd with ⟨a1, c1, g, he, h0, e, e2, hl⟩ | ⟨M, ho, e, hr⟩
  · have hne : q ≠ g := fun e => by
      have e1 := (hl 0 (by simp)).1
      rw [← e, show (0 * 2 : Nat) = 0 from rfl, h.c0] at e1
      cases e1
    exact .inl ⟨a1, c1, g, he, h0, e, e2, (hl.off hne x).off hne y'⟩
  · exact .inr ⟨M, ho, e, own_kz hr (h.kz x y')⟩
theorem Gv.keep {B g n : Nat} {bs : List Nat} {W W' : World} (h : Gv B g n bs W) (e : W'.heap[g]? = W.heap[g]?) : Gv B g n bs W' := by
  refine ⟨⟨h.own.1, ?_⟩, h.len, h.byt⟩
  rcases h.own.2 with ⟨q, -⟩ | ⟨g', c', cur, q, hb, hh, r⟩
  · cases q
  · cases q
    exact .inr ⟨g, n + 3, cur, rfl, hb, e.trans hh, r⟩
theorem F9.gv {W : World} {q : Nat} {a : Option Addr} {m c : Nat} {y : Value} (h : F9 W q a m c y) (x y' : Value) {B g n : Nat} {bs : List Nat} (hg : Gv B g n bs W) : Gv B g n bs ((W.setCell ⟨q, 0, none⟩ x).setCell ⟨q, 1, none⟩ y') := by
  have hne : g ≠ q := fun e => by
    obtain ⟨cs, f, e1⟩ := h.ty
    obtain ⟨cs2, f2, e2⟩ := hg.ty
    rw [e, e1] at e2
    cases e2
  exact hg.keep ((heap_setCell_other _ ⟨q, 1, none⟩ g y' hne).trans (heap_setCell_other W ⟨q, 0, none⟩ g x hne))
theorem Tw.on {lo hi : Nat} {u : Value} {M : List Nd} {W W' : World} (h : Tw lo hi u M W) (hb : Below W.heap.size W W') : Tw lo hi u M W' := h.kz (Kz.below hb)
theorem Tw.nv {lo hi m c : Nat} {a : Option Addr} {M : List Nd} {W : World} (h : Tw lo hi (.slice a m c) M W) (hm : m = M.length) : NV W a m c M := by
  subst hm
  exact own_nv2 h.own rfl h.mo
structure StopB3 (p : Prop) : Prop where
  out : p
end Go.Proofs.YtoikdpjjcnmgeaaGreatDoor
end

section
/-
  DERIVED. The law of Decode.
-/
namespace Go.Proofs.YtoikdpjjcnmgeaaGreatDoor
open Go Go.Proofs Go.RowKit
open Wk (Nd nds NV)
open Go.Sort

theorem mix_set (f : Nat → Nat) {bs : List Nat} {k : Nat} (hk : k < bs.length) : ((bs.take k).map f ++ bs.drop k).set k (f (bs.getD k 0)) = (bs.take (k + 1)).map f ++ bs.drop (k + 1) := by
  have hl : ((bs.take k).map f).length = k := by simp; omega
  rw [List.set_append_right _ _ (by omega), hl, Nat.sub_self, List.drop_eq_getElem_cons hk, List.set_cons_zero, List.take_add_one, List.getElem?_eq_getElem hk, List.map_append, List.getD_eq_getElem?_getD, List.getElem?_eq_getElem hk]
  simp
theorem mix_get (f : Nat → Nat) {bs : List Nat} {k : Nat} (hk : k < bs.length) : ((bs.take k).map f ++ bs.drop k).getD k 0 = bs.getD k 0 := by
  have hl : ((bs.take k).map f).length = k := by simp; omega
  rw [List.getD_eq_getElem?_getD, List.getElem?_append_right (by omega), hl, Nat.sub_self, List.getElem?_drop, List.getD_eq_getElem?_getD]
  rfl
theorem back_set {bs cs : List Nat} {k : Nat} (hk : k < bs.length) (hc : cs.length = bs.length) : (bs.take k ++ cs.drop k).set k (bs.getD k 0) = bs.take (k + 1) ++ cs.drop (k + 1) := by
  have hl : (bs.take k).length = k := by simp; omega
  have e : bs.take (k + 1) = bs.take k ++ [bs.getD k 0] := by rw [List.take_add_one, List.getElem?_eq_getElem hk, List.getD_eq_getElem?_getD, List.getElem?_eq_getElem hk]; rfl
  rw [List.set_append_right _ _ (by omega), hl, Nat.sub_self, List.drop_eq_getElem_cons (by omega : k < cs.length), List.set_cons_zero, e, List.append_assoc]
  rfl
theorem back_get {bs cs : List Nat} {k : Nat} (hk : k < bs.length) (hc : cs.length = bs.length) : ∃ y, (bs.take k ++ cs.drop k)[k]? = some y := by
  have hl : (bs.take k).length = k := by simp; omega
  exact ⟨cs[k]'(by omega), by rw [List.getElem?_append_right (by omega), hl, Nat.sub_self, List.getElem?_drop, Nat.add_zero, List.getElem?_eq_getElem (by omega)]⟩
theorem outD_nil {s : Int} {M : List Nd} (h : OutD s (yb []) M) : M = [] := by
  rcases h with h | ⟨a, c, -, rfl⟩
  · have e : Ends (srcS (yb [])) 0 [] [topS (yb []).length (decide (s = 2))] (.ok []) := .go (zs_end rfl rfl) (.done _ _)
    have := h.2.2.one e
    cases this
    rfl
  · rfl
theorem kr_below {n : Nat} {us : Nat → Value} {w W W' : World} (hb : Below w.heap.size w W) (h : Wk.KR n us W W') (hu : ∀ i, i < n → ∀ g, (us i).ownBlock = some g → w.heap.size ≤ g) : Below w.heap.size w W' :=
  ⟨h.os.trans hb.os, h.tape.trans hb.tape, h.output.trans hb.output, Nat.le_trans hb.size h.size, fun k hk => (h.block k (Nat.lt_of_lt_of_le hk hb.size) (fun i hi e => by have := hu i hi k e; omega)).trans (hb.block k hk)⟩
theorem xr_byt {bs : List Nat} (h : ∀ x ∈ bs, x < 256) : ∀ x ∈ bs.map xr, x < 256 := fun x hx => by
  obtain ⟨y, hy, rfl⟩ := List.mem_map.1 hx
  exact xr_lt (h y hy)
theorem at_of {W : World} {bb off n cap : Nat} {bs : List Nat} (h : Le.V W (.slice (some ⟨bb, off, none⟩) n cap) bs) {k : Nat} (hk : k < bs.length) : W.cell? ⟨bb, off + k, none⟩ = some (.int .u8 (bs.getD k 0 : Nat)) := by
  rcases h with ⟨a1, c1, e, rfl⟩ | ⟨b1, o1, c1, e, hp, hc, h1⟩
  · simp at hk
  · cases e
    exact h1.1 k hk
theorem v_byt {W : World} {v : Value} {bs : List Nat} (h : Le.V W v bs) : ∀ x ∈ bs, x < 256 := h.form.choose_spec.choose_spec.2.2
theorem byte_lt {bs : List Nat} (h : ∀ x ∈ bs, x < 256) {k : Nat} (hk : k < bs.length) : bs.getD k 0 < 256 := by
  rw [List.getD_eq_getElem?_getD, List.getElem?_eq_getElem hk]
  exact h _ (List.getElem_mem hk)
end Go.Proofs.YtoikdpjjcnmgeaaGreatDoor
end
