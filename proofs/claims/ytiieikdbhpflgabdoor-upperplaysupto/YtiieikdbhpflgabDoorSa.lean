import Derived.Test.YtiieikdbhpflgabDoorDp
import Derived.BigQuiet
import Derived.Deep.RegionHeld3
/-
  DERIVED. The document's Do, whole.
-/
namespace Go.Proofs.YtiieikdbhpflgabDoor
open Go Go.Proofs Go.RowKit

/-- The document's Do as plain data. -/
def rdoS (S : Prov) (d : EvD) : Prov × List AcD :=
  if d.kd = 20 then (if S.left ≤ 0 then (S, []) else if S.left = 1 then revS { S with left := 0 } (evD 18) else ({ S with left := S.left - 1 }, [])) else revS S d
set_option maxRecDepth 100000 in
set_option maxHeartbeats 4000000 in
theorem rdo_off (w : World) (p : Nat) (EV : Array Value) (S : Prov) (d : EvD) (hk : d.kd = 20) (hl : S.left ≤ 0) (hP : RvE w p S) (hE : EvY w EV d) :
    Calls Tryd.prog 9 #[.pointer (some ⟨p, 0, none⟩), .agg EV] w (RDoP w p (S, [])) := by
  obtain ⟨W1, hW1⟩ : ∃ W1, w.alloc (.cells EV 48) = W1 := ⟨_, rfl⟩
  have hb1 : Below w.heap.size w W1 := by rw [← hW1]; exact (Below.refl _ _).alloc (Nat.le_refl _) _
  have hr1 : W1.heap[w.heap.size]? = some (.cells EV 48) := by rw [← hW1]; exact alloc_new w _
  have k00 : W1.cell? ⟨w.heap.size, 0, none⟩ = some (.int .i64 20) := by rw [cell_of_row _ _ _ _ _ _ hr1, hE.ev.kd, hk]
  have hP1 := hP.on hb1
  have y3 : W1.cell? ⟨p, 3, none⟩ = some (.bool false) := by
    obtain ⟨PV, c0, h⟩ := hP1
    rw [cell_of_row _ _ _ _ _ _ h.row, h.v3, show decide (0 < S.left) = false from by simp; omega]
  have HQ : Hid (RvE W1 p S ∧ BelBut p w W1) := ⟨hP1, .of hb1⟩
  clear hP hP1 hE hk hl hb1
  go_enter Tryd.func9, Tryd.ntmps9
  go_wp2
  go_ret
  exact ⟨_, rfl, .inl ⟨rfl, rfl⟩, HQ.out.1, HQ.out.2⟩
theorem rv_left {w : World} {p : Nat} {S : Prov} (h : RvE w p S) (l : Int) (hp : decide (0 < l) = decide (0 < S.left)) : RvE (w.setCell ⟨p, 4, none⟩ (.int .i64 l)) p { S with left := l } ∧ ButOne p w (w.setCell ⟨p, 4, none⟩ (.int .i64 l)) := by
  obtain ⟨PV, c0, h⟩ := h
  obtain ⟨b1, b2, b3, b4, b5, b6, b7⟩ := rv_set h.row h.sz h.one 4 (by omega) (.int .i64 l) rfl
  exact ⟨⟨_, c0, b1, b2, b3, fun j v hv => (b5 _ (by omega)).trans (h.kept j v hv), h.ox.keep fun b hb _ => b6 b (by omega), h.same, (b5 0 (by omega)).trans h.v0, (b5 1 (by omega)).trans h.v1, (b5 2 (by omega)).trans h.v2, by rw [b5 3 (by omega), h.v3, hp], b4⟩, b7, b6, by simp⟩
set_option maxRecDepth 100000 in
set_option maxHeartbeats 4000000 in
theorem rdo_tick (w : World) (p : Nat) (EV : Array Value) (S : Prov) (d : EvD) (hk : d.kd = 20) (hl : 1 < S.left) (hl2 : S.left ≤ 9223372036854775807) (hP : RvE w p S) (hE : EvY w EV d) :
    Calls Tryd.prog 9 #[.pointer (some ⟨p, 0, none⟩), .agg EV] w (RDoP w p ({ S with left := S.left - 1 }, [])) := by
  obtain ⟨W1, hW1⟩ : ∃ W1, w.alloc (.cells EV 48) = W1 := ⟨_, rfl⟩
  have hb1 : Below w.heap.size w W1 := by rw [← hW1]; exact (Below.refl _ _).alloc (Nat.le_refl _) _
  have hr1 : W1.heap[w.heap.size]? = some (.cells EV 48) := by rw [← hW1]; exact alloc_new w _
  have k00 : W1.cell? ⟨w.heap.size, 0, none⟩ = some (.int .i64 20) := by rw [cell_of_row _ _ _ _ _ _ hr1, hE.ev.kd, hk]
  have hP1 := hP.on hb1
  obtain ⟨hR, hB⟩ := rv_left hP1 (S.left - 1) (by rw [decide_eq_true (by omega), decide_eq_true (by omega)])
  obtain ⟨L, hL⟩ : ∃ L, S.left = L := ⟨_, rfl⟩
  have y3 : W1.cell? ⟨p, 3, none⟩ = some (.bool true) := by
    obtain ⟨PV, c0, h⟩ := hP1
    rw [cell_of_row _ _ _ _ _ _ h.row, h.v3, show decide (0 < S.left) = true from by simp; omega]
  have y4 : W1.cell? ⟨p, 4, none⟩ = some (.int .i64 L) := by
    obtain ⟨PV, c0, h⟩ := hP1
    rw [cell_of_row _ _ _ _ _ _ h.row, h.v4, hL]
  have y4f : W1.frozen? ⟨p, 4, none⟩ = false := by
    obtain ⟨PV, c0, h⟩ := hP1
    simp [World.frozen?, h.row]
  rw [hL] at hl hl2 hR hB
  have hw : IntKind.wrap .i64 (L - 1) = L - 1 := by simp [IntKind.wrap_i64]; omega
  have hg : (1 < L) := hl
  have HQ : Hid (RvE (W1.setCell ⟨p, 4, none⟩ (.int .i64 (L - 1))) p { S with left := S.left - 1 } ∧ BelBut p w (W1.setCell ⟨p, 4, none⟩ (.int .i64 (L - 1)))) := ⟨by rw [hL]; exact hR, (BelBut.of hb1).trans hB.but⟩
  clear hP hP1 hE hk hb1 hR hB hL
  go_enter Tryd.func9, Tryd.ntmps9
  go_wp2
  go_ret
  exact ⟨_, rfl, .inl ⟨rfl, rfl⟩, HQ.out.1, HQ.out.2⟩
set_option maxRecDepth 100000 in
set_option maxHeartbeats 4000000 in
theorem rdo_last (w : World) (p : Nat) (EV : Array Value) (S : Prov) (d : EvD) (hk : d.kd = 20) (hl : S.left = 1) (ha : 1 ≤ S.art) (hP : RvE w p S) (hE : EvY w EV d) :
    Calls Tryd.prog 9 #[.pointer (some ⟨p, 0, none⟩), .agg EV] w (RDoP w p (revS { S with left := 0 } (evD 18))) := by
  obtain ⟨W1, hW1⟩ : ∃ W1, w.alloc (.cells EV 48) = W1 := ⟨_, rfl⟩
  have hb1 : Below w.heap.size w W1 := by rw [← hW1]; exact (Below.refl _ _).alloc (Nat.le_refl _) _
  have hr1 : W1.heap[w.heap.size]? = some (.cells EV 48) := by rw [← hW1]; exact alloc_new w _
  have k00 : W1.cell? ⟨w.heap.size, 0, none⟩ = some (.int .i64 20) := by rw [cell_of_row _ _ _ _ _ _ hr1, hE.ev.kd, hk]
  have hP1 := hP.on hb1
  have y3 : W1.cell? ⟨p, 3, none⟩ = some (.bool true) := by
    obtain ⟨PV, c0, h⟩ := hP1
    rw [cell_of_row _ _ _ _ _ _ h.row, h.v3, hl]; rfl
  have y4 : W1.cell? ⟨p, 4, none⟩ = some (.int .i64 1) := by
    obtain ⟨PV, c0, h⟩ := hP1
    rw [cell_of_row _ _ _ _ _ _ h.row, h.v4, hl]
  have y4f : W1.frozen? ⟨p, 4, none⟩ = false := by
    obtain ⟨PV, c0, h⟩ := hP1
    simp [World.frozen?, h.row]
  have hst : Calls Tryd.prog 26 #[.pointer (some ⟨p, 0, none⟩)] (W1.setCell ⟨p, 4, none⟩ (.int .i64 0)) (TimP W1 p { S with left := 0 }) := by
    obtain ⟨PV, c0, h⟩ := hP1
    obtain ⟨b1, b2, b3, b4, b5, b6, b7⟩ := rv_set h.row h.sz h.one 4 (by omega) (.int .i64 0) rfl
    have yf : ∀ i, (W1.setCell ⟨p, 4, none⟩ (.int .i64 0)).frozen? ⟨p, i, none⟩ = false := fun i => by simp [World.frozen?, b1]
    have z3 : (W1.setCell ⟨p, 4, none⟩ (.int .i64 0)).cell? ⟨p, 3, none⟩ = some (.bool (decide (0 < S.left))) := by rw [cell_of_row _ _ _ _ _ _ b1, b5 3 (by omega)]; exact h.v3
    have z4 : (W1.setCell ⟨p, 4, none⟩ (.int .i64 0)).cell? ⟨p, 4, none⟩ = some (.int .i64 0) := by rw [cell_of_row _ _ _ _ _ _ b1]; exact b4
    obtain ⟨W2, hW2⟩ : ∃ W2, W1.setCell ⟨p, 4, none⟩ (.int .i64 0) = W2 := ⟨_, rfl⟩
    rw [hW2] at b1 b6 b7 yf z3 z4 ⊢
    obtain ⟨d1, d2, d3, d4, d5, d6, d7⟩ := rv_set b1 b2 b3 3 (by omega) (.bool false) rfl
    obtain ⟨e1, e2, e3, e4, e5, e6, e7⟩ := rv_set d1 d2 d3 4 (by omega) (.int .i64 0) rfl
    have HE : Hid (TimP W1 p { S with left := 0 } (.returned (.tuple #[])) ((W2.setCell ⟨p, 3, none⟩ (.bool false)).setCell ⟨p, 4, none⟩ (.int .i64 0))) := by
      refine ⟨rfl, ⟨_, c0, e1, e2, e3, fun j v hv => (e5 _ (by omega)).trans ((d5 _ (by omega)).trans ((b5 _ (by omega)).trans (h.kept j v hv))), h.ox.keep fun b hb _ => (e6 b (by omega)).trans ((d6 b (by omega)).trans (b6 b (by omega))), h.same, ?_, ?_, ?_, ?_, e4⟩, b7.trans (d7.trans e7), fun b hb => (e6 b hb).trans ((d6 b hb).trans (b6 b hb)), by simp [← hW2]⟩
      · exact (e5 0 (by omega)).trans ((d5 0 (by omega)).trans ((b5 0 (by omega)).trans h.v0))
      · exact (e5 1 (by omega)).trans ((d5 1 (by omega)).trans ((b5 1 (by omega)).trans h.v1))
      · exact (e5 2 (by omega)).trans ((d5 2 (by omega)).trans ((b5 2 (by omega)).trans h.v2))
      · exact (e5 3 (by omega)).trans d4
    have yf3 := yf 3
    have yf4 := yf 4
    obtain ⟨B, hB⟩ : ∃ b, decide (0 < S.left) = b := ⟨_, rfl⟩
    rw [hB] at z3
    clear h b1 b2 b3 b4 b5 b6 b7 d1 d2 d3 d4 d5 d6 d7 e1 e2 e3 e4 e5 e6 e7 yf hB hW2 hb1 hr1 k00 y3 y4 y4f hP hW1 hE hl
    go_enter Tryd.func26, Tryd.ntmps26
    go_wp2
    first | go_end0 | refine bodyPost_end (results_none rfl _ _ _) rfl ?_ | refine bodyPost_ret (results_none rfl _ _ _) rfl ?_
    exact HE.out
  have hbZ := evZ_built 18
  have hev := fun (V : World) (hV : RvE V p { S with left := 0 }) => rdo_ev V p (evZ 18) { S with left := 0 } (evD 18) (by decide) ha hV (fun W' _ => evZ_y W' 18)
  generalize evZ 18 = ZE at hbZ hev
  have HB : Hid (BelBut p w W1) := .of hb1
  have HEV : Hid (∀ (V : World), RvE V p { S with left := 0 } → Calls Tryd.prog 9 #[.pointer (some ⟨p, 0, none⟩), .agg ZE] V (RDoP V p (revS { S with left := 0 } (evD 18)))) := hev
  clear hP hP1 hE hk hb1 hl hev
  go_enter Tryd.func9, Tryd.ntmps9
  go_wp2_with (go_at_call 26; refine hst.mono ?_; refine Stop9.mk ?_)
  rintro x V ⟨rfl, hRv, hBo⟩
  have hev := HEV.out V hRv
  have HBo : Hid (ButOne p W1 V) := hBo
  clear hRv hBo hst HEV
  go_wp2_with (first | (refine step_build rfl 48 _ rfl ZE (by simp [Act.eval]; exact hbZ) ?_) | (go_at_call 9; refine hev.mono ?_; refine Stop9.mk ?_))
  rintro x V2 ⟨v, rfl, h1, h2, h3⟩
  have HF : Hid (RDoP w p (revS { S with left := 0 } (evD 18)) (.returned v) V2) := ⟨v, rfl, h1.low (by have := HB.out.size; have := HBo.out.size; omega), h2, HB.out.trans (HBo.out.but.trans h3)⟩
  clear h1 h2 h3 hev
  go_wp2
  go_ret
  exact HF.out
theorem rdo_any (w : World) (p : Nat) (EV : Array Value) (S : Prov) (d : EvD) (hl2 : S.left ≤ 9223372036854775807) (ha : 1 ≤ S.art) (hP : RvE w p S) (hy : ∀ W', BelBut p w W' → EvY W' EV d) :
    Calls Tryd.prog 9 #[.pointer (some ⟨p, 0, none⟩), .agg EV] w (RDoP w p (rdoS S d)) := by
  have hE := hy w (.refl _ _)
  unfold rdoS
  by_cases hk : d.kd = 20
  · rw [if_pos hk]
    by_cases h0 : S.left ≤ 0
    · rw [if_pos h0]; exact rdo_off w p EV S d hk h0 hP hE
    · rw [if_neg h0]
      by_cases h1 : S.left = 1
      · rw [if_pos h1]; exact rdo_last w p EV S d hk h1 ha hP hE
      · rw [if_neg h1]; exact rdo_tick w p EV S d hk (by omega) hl2 hP hE
  · rw [if_neg hk]; exact rdo_ev w p EV S d hk ha hP hy
end Go.Proofs.YtiieikdbhpflgabDoor

/-
  DERIVED. The program and the document do the same: of the plain machines.
-/
namespace Go.Proofs.YtiieikdbhpflgabDoor
open Go Go.Proofs Go.RowKit

structure KSim (K K' : KpD) : Prop where
  k : K'.k = K.k
  D : K'.D = K.D
  c : SameC K.c K'.c
theorem KSim.refl (K : KpD) : KSim K K := ⟨rfl, rfl, .refl _⟩
structure EvSim (d d' : EvD) : Prop where
  kd : d'.kd = d.kd
  p : KSim d.p d'.p
  bad : d'.bad = d.bad
  a : KSim d.a d'.a
  rs : d'.rs = d.rs
  s : d'.s = d.s
theorem EvSim.refl (d : EvD) : EvSim d d := ⟨rfl, .refl _, rfl, .refl _, rfl, rfl⟩
structure ASim (a b : AcD) : Prop where
  x : b.x = a.x
  y : b.y = a.y
  k : b.k = a.k
  D : b.D = a.D
  c : SameC a.c b.c
theorem ASim.refl (a : AcD) : ASim a a := ⟨rfl, rfl, rfl, rfl, .refl _⟩
inductive LSim : List AcD → List AcD → Prop
  | nil : LSim [] []
  | cons {a b : AcD} {l m : List AcD} : ASim a b → LSim l m → LSim (a :: l) (b :: m)
theorem LSim.one {a b : AcD} (h : ASim a b) : LSim [a] [b] := .cons h .nil
theorem LSim.two {a b a' b' : AcD} (h : ASim a b) (h2 : ASim a' b') : LSim [a, a'] [b, b'] := .cons h (.cons h2 .nil)
theorem LSim.refl : ∀ (l : List AcD), LSim l l
  | [] => .nil
  | a :: l => .cons (.refl a) (LSim.refl l)
theorem KSim.a {K K' : KpD} (h : KSim K K') (x y : Int) : ASim ⟨x, y, K.k, K.c, K.D⟩ ⟨x, y, K'.k, K'.c, K'.D⟩ := ⟨rfl, rfl, h.k, h.D, h.c⟩
theorem does_sim (f : Nat) (t : Int) {K K' : KpD} {d d' : EvD} (hd : EvSim d d') (hK : f = 52 → KSim K K') : LSim (doesL f t K d) (doesL f t K' d') := by
  unfold doesL
  by_cases h : f = 51
  · rw [if_pos h, if_pos h]; exact .refl _
  rw [if_neg h, if_neg h]; clear h
  by_cases h : f = 52
  · rw [if_pos h, if_pos h]; exact .one ((hK h).a 3 0)
  rw [if_neg h, if_neg h]; clear h
  by_cases h : f = 53
  · rw [if_pos h, if_pos h]; exact .one (hd.p.a 5 t)
  rw [if_neg h, if_neg h]; clear h
  by_cases h : f = 54
  · rw [if_pos h, if_pos h]; exact .two (hd.p.a 5 t) (.refl _)
  rw [if_neg h, if_neg h]; clear h
  by_cases h : f = 55
  · rw [if_pos h, if_pos h]; exact .refl _
  rw [if_neg h, if_neg h]; clear h
  by_cases h : f = 56
  · rw [if_pos h, if_pos h]; exact .one (hd.a.a 3 0)
  rw [if_neg h, if_neg h]; clear h
  by_cases h : f = 57
  · rw [if_pos h, if_pos h]; exact .one (hd.p.a 3 0)
  rw [if_neg h, if_neg h]; clear h
  by_cases h : f = 58
  · rw [if_pos h, if_pos h]; exact .refl _
  rw [if_neg h, if_neg h]; clear h
  by_cases h : f = 59
  · rw [if_pos h, if_pos h]; exact .refl _
  rw [if_neg h, if_neg h]; clear h
  by_cases h : f = 60
  · rw [if_pos h, if_pos h]; exact .refl _
  rw [if_neg h, if_neg h]; clear h
  by_cases h : f = 61
  · rw [if_pos h, if_pos h]; exact .refl _
  rw [if_neg h, if_neg h]; clear h
  by_cases h : f = 62
  · rw [if_pos h, if_pos h]; exact .refl _
  rw [if_neg h, if_neg h]; clear h
  by_cases h : f = 63
  · rw [if_pos h, if_pos h]; exact .refl _
  rw [if_neg h, if_neg h]; clear h
  by_cases h : f = 64
  · rw [if_pos h, if_pos h]; exact .refl _
  rw [if_neg h, if_neg h]; clear h
  by_cases h : f = 65
  · rw [if_pos h, if_pos h, hd.s]; exact .two (hd.p.a 5 _) (.refl _)
  rw [if_neg h, if_neg h, hd.kd, hd.rs]; exact .refl _
/-- The program's provider and the document's. -/
structure PSim (S S' : Prov) : Prop where
  art : S'.art = S.art
  left : S'.left = S.left
  sta : S'.sta = S.sta
  asked : S'.asked = S.asked
  K : S.sta = 4 → KSim S'.K S.K
def noteB (s e : Nat) : Bool := (tbL.getD (e * 13 + s) 0 != 2 || s == 3) && (tbL.getD (e * 13 + s) 0 != 5 || s == 0)
theorem note_all : ∀ (s : Fin 13) (e : Fin 19), noteB s.val e.val = true := by decide +kernel
theorem note {s e : Int} (h : actP s e ≠ 0) : (actP s e = 2 → s = 4) ∧ (actP s e = 5 → s = 1) := by
  obtain ⟨e1, e2, s1, s2⟩ := actP_in h
  have hv : actP s e = ((tbL.getD ((e - 1).toNat * 13 + (s - 1).toNat) 0 : Nat) : Int) := by unfold actP; rw [if_neg (by omega)]
  have ht := note_all ⟨(s - 1).toNat, by omega⟩ ⟨(e - 1).toNat, by omega⟩
  unfold noteB at ht
  simp only at ht
  rw [hv]
  generalize tbL.getD ((e - 1).toNat * 13 + (s - 1).toNat) 0 = n at ht
  simp only [Bool.and_eq_true, Bool.or_eq_true, bne_iff_ne, beq_iff_eq] at ht
  omega
theorem fn_note : ∀ (k : Fin 28) (x y : Bool), (fnA (whichA (k.val + 1) x y) = 52 ↔ k.val + 1 = 2) ∧ (fnA (whichA (k.val + 1) x y) = 51 ↔ k.val + 1 = 1) ∧ (thenA (whichA (k.val + 1) x y) = 4 → k.val + 1 = 1) := by decide +kernel
theorem which_asked {n : Nat} (h : n ≠ 18) (x x' y : Bool) : whichA n x y = whichA n x' y := by
  unfold whichA
  by_cases h6 : n = 6 ∧ y = true
  · rw [if_pos h6, if_pos h6]
  · rw [if_neg h6, if_neg h6, if_neg (fun h' => h h'.1), if_neg (fun h' => h h'.1)]
theorem step_sim {a : Int} {S S' : Prov} {d d' : EvD} (ha : 1 ≤ a) (hI : InvS a S) (hq : S.sta = 1 → S.asked = false) (hS : PSim S S') (hd : EvSim d d') :
    LSim (revS S' d).2 (evS S d').2 ∧ PSim (evS S d').1 (revS S' d).1 ∧ ((evS S d').1.sta = 1 → (evS S d').1.asked = false) := by
  have hI' := inv_ev d' ha hI
  have hact : actR S'.sta d.kd = actP S.sta d'.kd := by rw [act_same, hS.sta, hd.kd]
  by_cases h0 : actP S.sta d'.kd = 0
  · have e1 : evS S d' = (S, []) := by unfold evS; rw [if_pos (.inl h0)]
    have e2 : revS S' d = (S', []) := by unfold revS; rw [hact, if_pos (.inl h0)]
    rw [e1, e2]
    exact ⟨.nil, hS, hq⟩
  · obtain ⟨b1, b2, s1, s2⟩ := actP_in h0
    have hc : refuB d.kd d.p.k d.bad d.a.k = !complB d'.kd d'.p.k d'.bad d'.a.k := by
      have := refu_same ⟨(d'.kd - 1).toNat, by omega⟩ d.p.k d.bad d.a.k
      simp only [show (((d'.kd - 1).toNat + 1 : Nat) : Int) = d'.kd by omega] at this
      rw [← hd.kd, this, hd.p.k, hd.bad, hd.a.k]
    by_cases h1 : complB d'.kd d'.p.k d'.bad d'.a.k = false
    · have e1 : evS S d' = (S, []) := by unfold evS; rw [if_pos (.inr h1)]
      have e2 : revS S' d = (S', []) := by unfold revS; rw [if_pos (.inr (by rw [hc, h1]; rfl))]
      rw [e1, e2]
      exact ⟨.nil, hS, hq⟩
    · obtain ⟨n, hn⟩ : ∃ n : Nat, actP S.sta d'.kd = (n : Int) := ⟨(actP S.sta d'.kd).toNat, by have := actP_lt S.sta d'.kd; omega⟩
      have hn28 := actP_lt S.sta d'.kd
      have hnt := note h0
      rw [hn] at hn28 hnt
      have hn0 : n ≠ 0 := by omega
      have e1 : evS S d' = (stepN n S d', actsN n S d') := by
        unfold evS; rw [if_neg (fun h => h.elim h0 h1), hn, Int.toNat_natCast]
      have e2 : revS S' d = (rStep n S' d, actsN n S' d) := by
        unfold revS
        rw [hact, hn, if_neg (fun h => h.elim (fun h => hn0 (by omega)) (fun h => by rw [hc] at h; simp at h; exact h1 h)), Int.toNat_natCast]
      rw [e1] at hI' ⊢
      rw [e2]
      have fn := fn_note ⟨n - 1, by omega⟩ S.asked d.bad
      simp only [show n - 1 + 1 = n by omega] at fn
      refine ⟨?_, ?_, ?_⟩
      · show LSim (actsN n S' d) (actsN n S d')
        unfold actsN
        rw [hS.asked, hd.bad]
        refine does_sim _ _ hd (fun hf => hS.K ?_)
        have := fn.1.1 hf
        exact hnt.1 (by omega)
      · show PSim (stepN n S d') (rStep n S' d)
        have hth : afterR (n : Int) S'.sta (rS n S' d).asked d.bad = thenA (whichA n S.asked d.bad) := by
          have h2 := after_in ⟨n - 1, by omega⟩ S'.sta (rS n S' d).asked d.bad
          simp only [show n - 1 + 1 = n by omega] at h2
          rw [h2]
          by_cases h18 : n = 18
          · have : (rS n S' d).asked = S.asked := by
              show (if n = 1 then true else if n = 5 then false else S'.asked) = _
              rw [if_neg (by omega), if_neg (by omega), hS.asked]
            rw [this]
          · rw [which_asked h18 (rS n S' d).asked S.asked d.bad]
        have hIl := hI'.off
        unfold rStep
        rw [hth]
        have hstN : (stepN n S d').sta = thenA (whichA n S.asked d.bad) := by
          show thenA (whichA n S.asked d'.bad) = _
          rw [hd.bad]
        by_cases ht : thenA (whichA n S.asked d.bad) = 1
        · rw [if_pos ht]
          refine ⟨hS.art, ?_, ?_, ?_, fun h4 => absurd (h4.symm.trans hstN) (by rw [ht]; decide)⟩
          · show 0 = (stepN n S d').left
            exact (hIl (by show ¬ Td (stepN n S d').sta; rw [hstN, ht]; decide)).symm
          · show 1 = (stepN n S d').sta
            rw [hstN, ht]
          · show false = (if thenA (whichA n S.asked d'.bad) = 1 then false else _)
            rw [hd.bad, if_pos ht]
        · rw [if_neg ht]
          refine ⟨hS.art, ?_, hstN.symm, ?_, fun h4 => ?_⟩
          · show (if timerA (whichA n S'.asked d.bad) = 1 then S'.art else if timerA (whichA n S'.asked d.bad) = 2 then 0 else S'.left) = (if timerA (whichA n S.asked d'.bad) = 1 then S.art else if timerA (whichA n S.asked d'.bad) = 2 then 0 else S.left)
            rw [hS.asked, hd.bad, hS.art, hS.left]
          · show (if n = 1 then true else if n = 5 then false else S'.asked) = (if thenA (whichA n S.asked d'.bad) = 1 then false else if fnA (whichA n S.asked d'.bad) = 51 then true else S.asked)
            rw [hd.bad, if_neg ht]
            by_cases h1n : n = 1
            · rw [if_pos h1n, if_pos (fn.2.1.2 h1n)]
            · rw [if_neg h1n, if_neg (fun h => h1n (fn.2.1.1 h))]
              by_cases h5 : n = 5
              · rw [if_pos h5, hq (hnt.2 (by omega))]
              · rw [if_neg h5, hS.asked]
          · have h1n := fn.2.2 (hstN ▸ h4)
            show KSim (if n = 1 then d.p else S'.K) (if thenA (whichA n S.asked d'.bad) = 1 then noPdu else keptA (fnA (whichA n S.asked d'.bad)) S.K d')
            rw [hd.bad, if_pos h1n, if_neg ht, fn.2.1.2 h1n]
            exact hd.p
      · show (stepN n S d').sta = 1 → (stepN n S d').asked = false
        intro h
        show (if thenA (whichA n S.asked d'.bad) = 1 then false else _) = false
        rw [if_pos (show thenA (whichA n S.asked d'.bad) = 1 from h)]
theorem do_sim {a : Int} {S S' : Prov} {d d' : EvD} (ha : 1 ≤ a) (hI : InvS a S) (hq : S.sta = 1 → S.asked = false) (hS : PSim S S') (hd : EvSim d d') :
    LSim (rdoS S' d).2 (doS S d').2 ∧ PSim (doS S d').1 (rdoS S' d).1 ∧ ((doS S d').1.sta = 1 → (doS S d').1.asked = false) := by
  unfold doS rdoS
  rw [hd.kd, hS.left]
  by_cases hk : d.kd = 20
  · rw [if_pos hk, if_pos hk]
    by_cases h0 : S.left ≤ 0
    · rw [if_pos h0, if_pos h0]; exact ⟨.nil, hS, hq⟩
    · rw [if_neg h0, if_neg h0]
      have ht : Td S.sta := by
        by_cases ht : Td S.sta
        · exact ht
        · have := hI.off ht; omega
      by_cases h1 : S.left = 1
      · rw [if_pos h1, if_pos h1]
        have e := ev_exp (S := { S with left := 0 }) ht
        have h22 : actP S.sta 18 = 22 := by rcases ht with h | h <;> rw [h] <;> decide +kernel
        have h22' : actR { S' with left := 0 }.sta (evD 18).kd = 22 := by
          show actR S'.sta 18 = 22
          rw [hS.sta, ← act_same]; exact h22
        have er : revS { S' with left := 0 } (evD 18) = (⟨S'.art, 0, 1, false, noPdu⟩, [shA]) := by
          unfold revS
          rw [h22', show refuB (evD 18).kd (evD 18).p.k (evD 18).bad (evD 18).a.k = false by kernel_rfl, if_neg (by decide)]
          rfl
        rw [e.1, e.2, er]
        exact ⟨.refl _, ⟨hS.art, rfl, rfl, rfl, fun h => absurd (show (1 : Int) = 4 from h) (by decide)⟩, fun _ => rfl⟩
      · rw [if_neg h1, if_neg h1]
        exact ⟨.nil, ⟨hS.art, rfl, hS.sta, hS.asked, hS.K⟩, hq⟩
  · rw [if_neg hk, if_neg hk]
    exact step_sim ha hI hq hS hd
end Go.Proofs.YtiieikdbhpflgabDoor

/-
  DERIVED. The law's comparisons: bytes, texts.
-/
namespace Go.Proofs.YtiieikdbhpflgabDoor
open Go Go.Proofs Go.RowKit

set_option maxRecDepth 100000 in
set_option maxHeartbeats 2000000 in
theorem bytes_same (W : World) (a b : Value) (bs : List Nat) (hn : bs.length ≤ 140737488351232) (ha : V W a bs) (hb : V W b bs) :
    Calls Tryd.prog 47 #[a, b] W fun e w' => e = .returned (.bool true) ∧ ∃ m, w' = W.drewN m := by
  obtain ⟨aa, ca, rfl, h3, hx⟩ := ha.form
  obtain ⟨ab, cb, rfl, h4, _⟩ := hb.form
  obtain ⟨n, hn'⟩ : ∃ n, bs.length = n := ⟨_, rfl⟩
  have HA : Hid _ := h3
  have HB : Hid _ := h4
  have HX : Hid _ := hx
  rw [hn'] at hn ⊢
  have HN : Hid (bs.length = n) := hn'
  clear h3 h4 ha hb hn' hx
  go_enter Tryd.func47, Tryd.ntmps47
  go_wp2
  go_loopg [5] n (fun g s5 wx => ∃ i : Nat, s5 = .int .i64 (i : Int) ∧ g + i = n ∧ ∃ m, wx = W.drewN m)
  case atStart => exact ⟨0, rfl, by omega, 0, rfl⟩
  case round =>
    obtain ⟨i, rfl, hgi, m, rfl⟩ := hrel
    by_cases hin : i < n
    · have hI : (i : Int) < (n : Int) := by omega
      obtain ⟨ba, oa, rfl, ka⟩ := HA.out (by rw [HN.out]; omega)
      obtain ⟨bb, ob, rfl, kb⟩ := HB.out (by rw [HN.out]; omega)
      have ka := ka.1 i (by rw [HN.out]; exact hin)
      have kb := kb.1 i (by rw [HN.out]; exact hin)
      generalize bs.getD i 0 = x at ka kb
      go_wp2
      go_quiet (fail)
      go_wp2
      go_roundg (n - (i + 1))
      case rel => exact ⟨i + 1, by go_num, by omega, _, rfl⟩
      case measure => omega
    · have hI : ¬ (i : Int) < (n : Int) := by omega
      go_wp2
      go_ret
      exact ⟨rfl, _, rfl⟩
set_option maxRecDepth 100000 in
set_option maxHeartbeats 2000000 in
theorem texts_same (W : World) (a b : Value) (T : List ByteArray) (ha : TR W a T) (hb : TR W b T) :
    Calls Tryd.prog 46 #[a, b] W fun e w' => e = .returned (.bool true) ∧ ∃ m, w' = W.drewN m := by
  obtain ⟨aa, ca, rfl, h3, hn, _⟩ := ha
  obtain ⟨ab, cb, rfl, h4, _, _⟩ := hb
  obtain ⟨n, hn'⟩ : ∃ n, T.length = n := ⟨_, rfl⟩
  have HA : Hid _ := h3
  have HB : Hid _ := h4
  rw [hn'] at hn ⊢
  have HN : Hid (T.length = n) := hn'
  clear h3 h4 hn'
  go_enter Tryd.func46, Tryd.ntmps46
  go_wp2
  go_loopg [5] n (fun g s5 wx => ∃ i : Nat, s5 = .int .i64 (i : Int) ∧ g + i = n ∧ ∃ m, wx = W.drewN m)
  case atStart => exact ⟨0, rfl, by omega, 0, rfl⟩
  case round =>
    obtain ⟨i, rfl, hgi, m, rfl⟩ := hrel
    by_cases hin : i < n
    · have hI : (i : Int) < (n : Int) := by omega
      obtain ⟨ba, oa, rfl, ka⟩ := HA.out (by rw [HN.out]; omega)
      obtain ⟨bb, ob, rfl, kb⟩ := HB.out (by rw [HN.out]; omega)
      have ka := ka i (by rw [HN.out]; exact hin)
      have kb := kb i (by rw [HN.out]; exact hin)
      obtain ⟨x, hx⟩ : ∃ x, T[i]'(by rw [HN.out]; exact hin) = x := ⟨_, rfl⟩
      rw [hx] at ka kb
      clear hx
      go_wp2
      go_quiet (fail)
      go_wp2
      go_roundg (n - (i + 1))
      case rel => exact ⟨i + 1, by go_num, by omega, _, rfl⟩
      case measure => omega
    · have hI : ¬ (i : Int) < (n : Int) := by omega
      go_wp2
      go_ret
      exact ⟨rfl, _, rfl⟩
/-- What a PDU's fields are. -/
structure TyC (c : Fin 18 → Value) : Prop where
  t0 : ∃ x, c 0 = .int .u16 x
  t1 : ∃ x, c 1 = .string x
  t2 : ∃ x, c 2 = .string x
  t3 : ∃ x, c 3 = .string x
  t5 : ∃ x, c 5 = .bool x
  t6 : ∃ x, c 6 = .int .u32 x
  t7 : ∃ x, c 7 = .string x
  t8 : ∃ x, c 8 = .string x
  t9 : ∃ x, c 9 = .bool x
  t10 : ∃ x, c 10 = .int .u16 x
  t11 : ∃ x, c 11 = .int .u16 x
  t14 : ∃ x, c 14 = .int .u8 x
  t15 : ∃ x, c 15 = .int .u8 x
  t16 : ∃ x, c 16 = .int .u8 x
theorem TyC.same {c c' : Fin 18 → Value} (h : TyC c) (hs : SameC c c') : TyC c' := by
  refine ⟨?_, ?_, ?_, ?_, ?_, ?_, ?_, ?_, ?_, ?_, ?_, ?_, ?_, ?_⟩
  · rw [hs 0 (by decide) (by decide) (by decide) (by decide)]; exact h.t0
  · rw [hs 1 (by decide) (by decide) (by decide) (by decide)]; exact h.t1
  · rw [hs 2 (by decide) (by decide) (by decide) (by decide)]; exact h.t2
  · rw [hs 3 (by decide) (by decide) (by decide) (by decide)]; exact h.t3
  · rw [hs 5 (by decide) (by decide) (by decide) (by decide)]; exact h.t5
  · rw [hs 6 (by decide) (by decide) (by decide) (by decide)]; exact h.t6
  · rw [hs 7 (by decide) (by decide) (by decide) (by decide)]; exact h.t7
  · rw [hs 8 (by decide) (by decide) (by decide) (by decide)]; exact h.t8
  · rw [hs 9 (by decide) (by decide) (by decide) (by decide)]; exact h.t9
  · rw [hs 10 (by decide) (by decide) (by decide) (by decide)]; exact h.t10
  · rw [hs 11 (by decide) (by decide) (by decide) (by decide)]; exact h.t11
  · rw [hs 14 (by decide) (by decide) (by decide) (by decide)]; exact h.t14
  · rw [hs 15 (by decide) (by decide) (by decide) (by decide)]; exact h.t15
  · rw [hs 16 (by decide) (by decide) (by decide) (by decide)]; exact h.t16
end Go.Proofs.YtiieikdbhpflgabDoor
