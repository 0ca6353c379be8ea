import Derived.Test.YtiieikdbhpflgabDoorXo
import Derived.Deep.Cut
import Derived.Shelf.Abstract
/-
  DERIVED. The action whole: what is done, the timer, the state behind it.
-/
namespace Go.Proofs.YtiieikdbhpflgabDoor
open Go Go.Proofs Go.RowKit

/-- A provider as plain data. -/
structure Prov where
  art : Int
  left : Int
  sta : Int
  asked : Bool
  K : KpD
/-- A provider lies there. -/
structure PvS (w : World) (p : Nat) (PV : Array Value) (c0 : Fin 18 → Value) (S : Prov) : Prop where
  x : PvX w p PV S.K.k c0 S.K.D S.K.F
  same : SameC S.K.c c0
  v0 : PV[0]? = some (.int .i64 S.art)
  v1 : PV[1]? = some (.int .i64 S.left)
  v2 : PV[2]? = some (.int .i64 S.sta)
  v3 : PV[3]? = some (.bool S.asked)
theorem PvS.on {w w' : World} {p : Nat} {PV : Array Value} {c0 : Fin 18 → Value} {S : Prov} (h : PvS w p PV c0 S) (hb : Below w.heap.size w w') : PvS w' p PV c0 S := ⟨h.x.on hb, h.same, h.v0, h.v1, h.v2, h.v3⟩
/-- The provider behind an action. -/
def nextS (f : Nat) (tm th : Int) (S : Prov) (d : EvD) : Prov :=
  ⟨S.art, if tm = 1 then S.art else if tm = 2 then 0 else S.left, th, if th = 1 then false else if f = 51 then true else S.asked, if th = 1 then noPdu else keptA f S.K d⟩
/-- One cell of a provider is written. -/
theorem pv_set {W : World} {p : Nat} {PV : Array Value} (h : W.heap[p]? = some (.cells PV 68)) (hs : PV.size = 23) (h1 : PV.all (·.oneCell') = true) (i : Nat) (hi : i < 23) (v : Value) (hv : v.oneCell' = true) :
    (W.setCell ⟨p, i, none⟩ v).heap[p]? = some (.cells (PV.setIfInBounds i v) 68) ∧ (PV.setIfInBounds i v).size = 23 ∧ (PV.setIfInBounds i v).all (·.oneCell') = true ∧ (PV.setIfInBounds i v)[i]? = some v ∧ (∀ j, j ≠ i → (PV.setIfInBounds i v)[j]? = PV[j]?) ∧ (∀ b, b ≠ p → (W.setCell ⟨p, i, none⟩ v).heap[b]? = W.heap[b]?) ∧ BelBut p W (W.setCell ⟨p, i, none⟩ v) := by
  have hset := setCell_eq_setRow W p i PV 68 (0, 0) v h
  have ho : ∀ b, b ≠ p → (W.setCell ⟨p, i, none⟩ v).heap[b]? = W.heap[b]? := fun b hb => Below.heap_setCell _ _ _ _ hb
  refine ⟨by rw [hset]; exact setRow_heap W _ _ _ _ _ h, by simp [hs], ?_, by rw [Array.getElem?_setIfInBounds]; simp [hs, hi], fun j hj => by rw [Array.getElem?_setIfInBounds_ne (Ne.symm hj)], ho, ?_⟩
  · rw [Array.all_eq_true_iff_forall_mem] at h1 ⊢
    intro x hx
    obtain ⟨j, hj, rfl⟩ := Array.mem_iff_getElem.1 hx
    rw [Array.getElem_setIfInBounds]
    split
    · exact hv
    · exact h1 _ (Array.getElem_mem _)
    · simpa using hj
  · have hb : Below p W (W.setCell ⟨p, i, none⟩ v) := (Below.refl _ _).setCell (p := ⟨p, i, none⟩) (Nat.le_refl _) _
    exact ⟨hb.os, hb.tape, hb.output, hb.size, fun b _ hp => ho b hp⟩
theorem BelBut.sz {p : Nat} {w w' : World} (h : BelBut p w w') : w.heap.size ≤ w'.heap.size := h.size
/-- The timer's cell behind an action. -/
theorem tu_row {W : World} {p : Nat} {PV : Array Value} {a l : Int} (h : W.heap[p]? = some (.cells PV 68)) (hs : PV.size = 23) (h1 : PV.all (·.oneCell') = true) (h2 : PV[1]? = some (.int .i64 l)) (tm : Int) :
    ∃ PV', (tuW W p a tm).heap[p]? = some (.cells PV' 68) ∧ PV'.size = 23 ∧ PV'.all (·.oneCell') = true ∧ PV'[1]? = some (.int .i64 (if tm = 1 then a else if tm = 2 then 0 else l)) ∧ (∀ j, j ≠ 1 → PV'[j]? = PV[j]?) ∧ (∀ b, b ≠ p → (tuW W p a tm).heap[b]? = W.heap[b]?) ∧ BelBut p W (tuW W p a tm) ∧ (tuW W p a tm).heap.size = W.heap.size := by
  unfold tuW
  by_cases t1 : tm = 1
  · rw [if_pos t1, if_pos t1]
    obtain ⟨a1, a2, a3, a4, a5, a6, a7⟩ := pv_set h hs h1 1 (by omega) (.int .i64 a) rfl
    exact ⟨_, a1, a2, a3, a4, a5, a6, a7, by simp⟩
  · rw [if_neg t1, if_neg t1]
    by_cases t2 : tm = 2
    · rw [if_pos t2, if_pos t2]
      obtain ⟨a1, a2, a3, a4, a5, a6, a7⟩ := pv_set h hs h1 1 (by omega) (.int .i64 0) rfl
      exact ⟨_, a1, a2, a3, a4, a5, a6, a7, by simp⟩
    · rw [if_neg t2, if_neg t2]
      exact ⟨_, h, hs, h1, h2, fun _ _ => rfl, fun _ _ => rfl, .of (Below.refl _ _), rfl⟩
/-- The store of a function. -/
theorem store_fnX (f : Nat) (W : World) (ad : Addr) (u : Value) (h : W.cell? ad = some u) (hf : W.frozen? ad = false) : (store ad (.func (.func f) #[] #[])).run Tryd.prog W = .ok () (W.setCell ad (.func (.func f) #[] #[])) := by
  rw [run_store Tryd.prog W ad _ _ rfl, h]
  simp [hf]
theorem cell_alX {w : World} {a : Addr} {v : Value} (o : Obj) (h : w.cell? a = some v) : (w.alloc o).cell? a = some v := (((Below.refl w.heap.size w).alloc (Nat.le_refl _) o).cell (cell_lt h)).trans h
def ActS (f : Nat) (t tm th : Int) (w : World) (p : Nat) (S : Prov) (d : EvD) (x : Ending) (w' : World) : Prop :=
  ∃ v PV' c', x = .returned v ∧ AR w.heap.size w' v (doesL f t S.K d) ∧ PvS w' p PV' c' (nextS f tm th S d) ∧ BelBut p w w'
/-- What lies in the action's row. -/
def RowAt (w wx : World) (T f : Nat) (t tm th : Int) : Prop := Below w.heap.size w wx ∧ (w.heap.size ≤ T ∧ T < wx.heap.size) ∧ wx.cell? ⟨T, 0, none⟩ = some (.func (.func f) #[] #[]) ∧ wx.cell? ⟨T, 1, none⟩ = some (.int .i64 t) ∧ wx.cell? ⟨T, 2, none⟩ = some (.int .i64 tm) ∧ wx.cell? ⟨T, 3, none⟩ = some (.int .i64 th)
set_option maxRecDepth 100000 in
set_option maxHeartbeats 4000000 in
theorem act33_row (w : World) (p e : Nat) (PV EV : Array Value) (c0 : Fin 18 → Value) (S : Prov) (d : EvD) (n : Int) (f : Nat) (t tm th : Int) (hP : PvS w p PV c0 S) (he : w.heap[e]? = some (.cells EV 48)) (hE : EvY w EV d)
    (ha : ∀ W : World, Calls Tryd.prog 37 #[.int .i64 n, .bool S.asked, .bool d.bad] W fun x w' => x = .returned (.agg #[.func (.func f) #[] #[], .int .i64 t, .int .i64 tm, .int .i64 th]) ∧ Below W.heap.size W w')
    (hent : ∀ W, (callFunc f #[.pointer (some ⟨p, 0, none⟩), .pointer (some ⟨e, 0, none⟩), .int .i64 t]).run Tryd.prog W = .ok (.enter f #[.pointer (some ⟨p, 0, none⟩), .pointer (some ⟨e, 0, none⟩), .int .i64 t]) W)
    (hd : ∀ (W : World), PvX W p PV S.K.k c0 S.K.D S.K.F → W.heap[e]? = some (.cells EV 48) → EvY W EV d → Calls Tryd.prog f #[.pointer (some ⟨p, 0, none⟩), .pointer (some ⟨e, 0, none⟩), .int .i64 t] W (DoesP f t W p PV S.K d)) :
    Calls Tryd.prog 25 #[.pointer (some ⟨p, 0, none⟩), .int .i64 n, .pointer (some ⟨e, 0, none⟩)] w (ActS f t tm th w p S d) := by
  have hpl := hP.x.lt
  have hel : e < w.heap.size := (Array.getElem?_eq_some_iff.1 he).1
  have h3 : w.cell? ⟨p, 3, none⟩ = some (.bool S.asked) := by rw [cell_of_row w _ _ _ _ _ hP.x.row]; exact hP.v3
  have h20 : w.cell? ⟨e, 20, none⟩ = some (.bool d.bad) := by rw [cell_of_row w _ _ _ _ _ he]; exact hE.bad
  have hst : ∀ (W : World) (A : Array Value) (g : Nat), (A[0]?).isSome = true → g = W.heap.size → (store ⟨g, 0, none⟩ (.func (.func f) #[] #[])).run Tryd.prog (W.alloc (.cells A 111)) = .ok () ((W.alloc (.cells A 111)).setCell ⟨g, 0, none⟩ (.func (.func f) #[] #[])) := fun W A g h hg => by
    subst hg
    obtain ⟨u, hu⟩ := Option.isSome_iff_exists.1 h
    exact store_fnX f _ _ u (by rw [cell_of_row _ _ _ _ _ _ (alloc_new W _)]; exact hu) (by simp)
  have hEa := fun ob => cell_alX ob h20
  have h3a := fun ob => cell_alX ob h3
  have HP : Hid (PvS w p PV c0 S ∧ w.heap[e]? = some (.cells EV 48) ∧ EvY w EV d) := ⟨hP, he, hE⟩
  have HD : Hid (∀ (W : World), PvX W p PV S.K.k c0 S.K.D S.K.F → W.heap[e]? = some (.cells EV 48) → EvY W EV d → Calls Tryd.prog f #[.pointer (some ⟨p, 0, none⟩), .pointer (some ⟨e, 0, none⟩), .int .i64 t] W (DoesP f t W p PV S.K d)) := hd
  obtain ⟨ASK, hASK⟩ : ∃ b, S.asked = b := ⟨_, rfl⟩
  obtain ⟨BAD, hBAD⟩ : ∃ b, d.bad = b := ⟨_, rfl⟩
  rw [hASK] at h3 ha h3a
  rw [hBAD] at h20 ha hEa
  clear hP he hE hd hASK hBAD
  go_enter Tryd.func25, Tryd.ntmps25
  go_wp2
  go_cut [7] from 9 (fun s7 wx => ∃ T, s7 = .pointer (some ⟨T, 0, none⟩) ∧ Hid (RowAt w wx T f t tm th))
  case first =>
    go_region_with (go_at_call 37; refine (ha _).mono ?_; rintro x W1 ⟨rfl, hb1d⟩; first | (have hb1 : Below w.heap.size w W1 := ⟨hb1d.os, hb1d.tape, hb1d.output, hb1d.size, hb1d.block⟩) | (have hb1 : Below w.heap.size w W1 := (((Below.refl _ w).alloc (Nat.le_refl _) _).drew).trans (hb1d.mono (by simp)); have m0 : W1.cell? ⟨w.heap.size, 0, none⟩ = some .nilFunc := (hb1d.cell (p := ⟨w.heap.size, 0, none⟩) (by simp)).trans (by simp); have m1 : W1.cell? ⟨w.heap.size, 1, none⟩ = some (.int .i64 0) := (hb1d.cell (p := ⟨w.heap.size, 1, none⟩) (by simp)).trans (by simp); have m2 : W1.cell? ⟨w.heap.size, 2, none⟩ = some (.int .i64 0) := (hb1d.cell (p := ⟨w.heap.size, 2, none⟩) (by simp)).trans (by simp); have m3 : W1.cell? ⟨w.heap.size, 3, none⟩ = some (.int .i64 0) := (hb1d.cell (p := ⟨w.heap.size, 3, none⟩) (by simp)).trans (by simp); have mf : ∀ i, W1.frozen? ⟨w.heap.size, i, none⟩ = false := fun i => (hb1d.frozen (p := ⟨w.heap.size, i, none⟩) (by simp)).trans (by simp); have ms := store_fnX f W1 ⟨w.heap.size, 0, none⟩ _ m0 (mf 0)); have k3 := (hb1.cell (p := ⟨p, 3, none⟩) hpl).trans h3; have k20 := (hb1.cell (p := ⟨e, 20, none⟩) hel).trans h20)
    all_goals
      go_wp2
      go_meet
      case rel =>
        first
        | exact ⟨W1.heap.size, rfl, hb1.alloc hb1.size _, ⟨hb1.size, by simp⟩, (cell_of_row _ _ _ _ _ _ (alloc_new W1 _)).trans rfl, (cell_of_row _ _ _ _ _ _ (alloc_new W1 _)).trans rfl, (cell_of_row _ _ _ _ _ _ (alloc_new W1 _)).trans rfl, (cell_of_row _ _ _ _ _ _ (alloc_new W1 _)).trans rfl⟩
        | exact ⟨w.heap.size, rfl, ((((hb1.setCell (p := ⟨w.heap.size, 0, none⟩) (Nat.le_refl _) _).setCell (p := ⟨w.heap.size, 1, none⟩) (Nat.le_refl _) _).setCell (p := ⟨w.heap.size, 2, none⟩) (Nat.le_refl _) _).setCell (p := ⟨w.heap.size, 3, none⟩) (Nat.le_refl _) _), ⟨Nat.le_refl _, by have := cell_lt m0; simpa using this⟩, (cell_set_ne (by omega)).trans ((cell_set_ne (by omega)).trans ((cell_set_ne (by omega)).trans (cell_set_eq m0))), (cell_set_ne (by omega)).trans ((cell_set_ne (by omega)).trans (cell_set_eq ((cell_set_ne (by omega)).trans m1))), (cell_set_ne (by omega)).trans (cell_set_eq ((cell_set_ne (by omega)).trans ((cell_set_ne (by omega)).trans m2))), cell_set_eq ((cell_set_ne (by omega)).trans ((cell_set_ne (by omega)).trans ((cell_set_ne (by omega)).trans m3)))⟩
  case rest =>
    clear hst ha hEa h3a h3 h20
    obtain ⟨T, rfl, HR⟩ := hcut
    obtain ⟨hb1, ⟨hT1, hT2⟩, r0, r1, r2, r3⟩ := HR.out
    have hdo := HD.out wc (HP.out.1.x.on hb1) ((hb1.block e hel).trans HP.out.2.1) (HP.out.2.2.on hb1)
    go_wp2_with (refine hdo.mono ?_; refine Stop9.mk ?_)
    rintro x W2 ⟨v, PV2, c2, rfl, hAR, hX2, hsm2, hlo, hv3, hbb⟩
    obtain ⟨hTp, hsz2⟩ : T ≠ p ∧ wc.heap.size ≤ W2.heap.size := ⟨by omega, hbb.size⟩
    have q2 : W2.cell? ⟨T, 2, none⟩ = some (.int .i64 tm) := (World.cell?_of_block (hbb.block T hT2 hTp)).trans r2
    have q3 : W2.cell? ⟨T, 3, none⟩ = some (.int .i64 th) := (World.cell?_of_block (hbb.block T hT2 hTp)).trans r3
    have p2 := hX2.row
    have j0 : W2.cell? ⟨p, 0, none⟩ = some (.int .i64 S.art) := by rw [cell_of_row W2 _ _ _ _ _ p2, hlo 0 (by omega)]; exact HP.out.1.v0
    have j1 : W2.cell? ⟨p, 1, none⟩ = some (.int .i64 S.left) := by rw [cell_of_row W2 _ _ _ _ _ p2, hlo 1 (by omega)]; exact HP.out.1.v1
    have jf : W2.frozen? ⟨p, 1, none⟩ = false := by simp [World.frozen?, p2]
    obtain ⟨PV3, t1, t2, t3, t4, t5, t6, t7, t8⟩ := tu_row (W := W2.drew) (a := S.art) (l := S.left) p2 hX2.sz hX2.one (by rw [hlo 1 (by omega)]; exact HP.out.1.v1) tm
    obtain ⟨u1, u2, u3, u4, u5, u6, u7⟩ := pv_set t1 t2 t3 2 (by omega) (.int .i64 th) rfl
    have htn := turn_any W2.drew p S.art S.left tm (by simpa using j0) (by simpa using j1) (by simpa using jf)
    obtain ⟨W3, hW3⟩ : ∃ W3, tuW W2.drew p S.art tm = W3 := ⟨_, rfl⟩
    rw [hW3] at t1 t6 t7 t8 u1 u6 u7 htn
    obtain ⟨PV4, hPV4⟩ : ∃ A, PV3.setIfInBounds 2 (.int .i64 th) = A := ⟨_, rfl⟩
    rw [hPV4] at u1 u2 u3 u4 u5
    have k3 : W3.cell? ⟨T, 3, none⟩ = some (.int .i64 th) := (World.cell?_of_block (t6 T hTp)).trans q3
    have k2 : W3.cell? ⟨p, 2, none⟩ = some (.int .i64 S.sta) := by rw [cell_of_row W3 _ _ _ _ _ t1, t5 2 (by omega), hlo 2 (by omega)]; exact HP.out.1.v2
    have kf : W3.frozen? ⟨p, 2, none⟩ = false := by simp [World.frozen?, t1]
    have w0 : PV4[0]? = some (.int .i64 S.art) := (u5 0 (by omega)).trans ((t5 0 (by omega)).trans ((hlo 0 (by omega)).trans HP.out.1.v0))
    have w1 : PV4[1]? = some (.int .i64 (if tm = 1 then S.art else if tm = 2 then 0 else S.left)) := (u5 1 (by omega)).trans t4
    have w3 : PV4[3]? = some (.bool (if f = 51 then true else S.asked)) := by
      rw [u5 3 (by omega), t5 3 (by omega), hv3, HP.out.1.v3]
      split <;> rfl
    have hoth : ∀ b, b ≠ p → (W3.setCell ⟨p, 2, none⟩ (.int .i64 th)).heap[b]? = W2.heap[b]? := fun b hb => (u6 b hb).trans (t6 b hb)
    have hbb4 : BelBut p w (W3.setCell ⟨p, 2, none⟩ (.int .i64 th)) := (BelBut.of hb1).trans (hbb.trans ((BelBut.of (Below.refl _ W2).drew).trans (t7.trans u7)))
    have hAR4 : AR w.heap.size (W3.setCell ⟨p, 2, none⟩ (.int .i64 th)) v (doesL f t S.K d) := (hAR.low hb1.size).keep fun b h1 _ => hoth b (by omega)
    have hox4 : OXF (keptA f S.K d).F (p + 1) (W3.setCell ⟨p, 2, none⟩ (.int .i64 th)) c2 (keptA f S.K d).D := hX2.ox.keep fun b h1 _ => hoth b (by omega)
    have hkp4 : ∀ j v, (Pd (keptA f S.K d).k c2).toList[j]? = some v → PV4[4 + j]? = some v := fun j v hv => (u5 _ (by omega)).trans ((t5 _ (by omega)).trans (hX2.kept j v hv))
    have HF : Hid (PvX (W3.setCell ⟨p, 2, none⟩ (.int .i64 th)) p PV4 (keptA f S.K d).k c2 (keptA f S.K d).D (keptA f S.K d).F ∧ SameC (keptA f S.K d).c c2 ∧ AR w.heap.size (W3.setCell ⟨p, 2, none⟩ (.int .i64 th)) v (doesL f t S.K d) ∧ BelBut p w (W3.setCell ⟨p, 2, none⟩ (.int .i64 th)) ∧ PV4[0]? = some (.int .i64 S.art) ∧ PV4[1]? = some (.int .i64 (if tm = 1 then S.art else if tm = 2 then 0 else S.left)) ∧ PV4[2]? = some (.int .i64 th) ∧ PV4[3]? = some (.bool (if f = 51 then true else S.asked))) :=
      ⟨⟨u1, u2, u3, hkp4, hox4⟩, hsm2, hAR4, hbb4, w0, w1, u4, w3⟩
    have HPL : Hid (p < w.heap.size) := hpl
    clear hAR hX2 hsm2 hlo hv3 hbb p2 j0 j1 jf t1 t2 t3 t4 t5 t6 t7 t8 u1 u2 u3 u4 u5 u6 u7 q3 w0 w1 w3 hoth hbb4 hAR4 hox4 hkp4 hb1 hT1 hT2 r0 r1 r2 r3 hdo HD HP hent HR hel
    go_wp2
    go_region_with (go_at_call 38; refine htn.mono ?_; rintro x WX ⟨rfl, rfl⟩)
    all_goals
      by_cases hth : th = 1
      · subst hth
        obtain ⟨hx4, hs4, ha4, hb4, w0, w1, w2, w3⟩ := HF.out
        obtain ⟨W4, hW4⟩ : ∃ W4, WX.setCell ⟨p, 2, none⟩ (.int .i64 1) = W4 := ⟨_, rfl⟩
        rw [hW4] at hx4 ha4 hb4
        obtain ⟨u1, u2, u3, u4, u5, u6, u7⟩ := pv_set hx4.row hx4.sz hx4.one 3 (by omega) (.bool false) rfl
        have y3 : (WX.setCell ⟨p, 2, none⟩ (.int .i64 1)).cell? ⟨p, 3, none⟩ = some (.bool (if f = 51 then true else S.asked)) := by rw [hW4, cell_of_row W4 _ _ _ _ _ hx4.row]; exact w3
        have y3f : (WX.setCell ⟨p, 2, none⟩ (.int .i64 1)).frozen? ⟨p, 3, none⟩ = false := by rw [hW4]; simp [World.frozen?, hx4.row]
        obtain ⟨BB, hBB⟩ : ∃ b, (if f = 51 then true else S.asked) = b := ⟨_, rfl⟩
        rw [hBB] at y3
        obtain ⟨P5, hP5⟩ : ∃ A, PV4.setIfInBounds 3 (.bool false) = A := ⟨_, rfl⟩
        rw [hP5] at u1 u2 u3 u4 u5
        obtain ⟨W5, hW5⟩ : ∃ W5, W4.setCell ⟨p, 3, none⟩ (.bool false) = W5 := ⟨_, rfl⟩
        rw [hW5] at u1 u6 u7
        have hzo := pd_one 0 zc zc_one
        have hs0 := size40' 0 zc
        have hb0 := pd_zero0
        have hth := there_row u1 4 19 (by rw [u2]; omega)
        obtain ⟨Q6, q1, q2, q3, q4, q5, q6, q7⟩ := setCells_row (Pd 0 zc).toList 4 _ P5 u1 (fun v hv => Array.all_eq_true_iff_forall_mem.1 hzo v (by simpa using hv)) u3 (by omega)
        have hq6 := setCells_rowx (Pd 0 zc).toList 4 _ P5 u1 (by rw [u2]; show 4 + 19 ≤ 23; omega) Q6 q1
        have hth' : ((WX.setCell ⟨p, 2, none⟩ (.int .i64 1)).setCell ⟨p, 3, none⟩ (.bool false)).there p 4 (Pd 0 zc).size := by rw [hW4, hW5]; exact hth
        obtain ⟨W6, hW6⟩ : ∃ W6, W5.setCells p 4 (Pd 0 zc).toList = W6 := ⟨_, rfl⟩
        rw [hW6] at q1 q5 q6 q7
        have h6 := q6 p (Nat.le_refl _)
        have hpl := HPL.out
        have hoth : ∀ b, b ≠ p → W6.heap[b]? = W4.heap[b]? := fun b hb => (q5 b hb).trans (u6 b hb)
        have HE : Hid (ActS f t tm 1 w p S d (.returned v) W6) := by
          refine ⟨v, Q6, zc, rfl, ha4.keep fun b h1 _ => hoth b (by omega), ⟨⟨q1, q2.trans u2, q4, hq6.2, oxf_zero _ _ _ _ zc_one rfl rfl rfl rfl⟩, SameC.refl _, ?_, ?_, ?_, ?_⟩, hb4.trans (u7.trans ⟨h6.os, h6.tape, h6.output, h6.size, fun b _ hb => q5 b hb⟩)⟩
          · exact (hq6.1 0 (.inl (by omega))).trans ((u5 0 (by omega)).trans w0)
          · exact (hq6.1 1 (.inl (by omega))).trans ((u5 1 (by omega)).trans w1)
          · exact (hq6.1 2 (.inl (by omega))).trans ((u5 2 (by omega)).trans w2)
          · exact (hq6.1 3 (.inl (by omega))).trans u4
        have HW : Hid (((WX.setCell ⟨p, 2, none⟩ (.int .i64 1)).setCell ⟨p, 3, none⟩ (.bool false)).setCells p 4 (Pd 0 zc).toList = W6) := by show _ = _; rw [hW4, hW5, hW6]
        clear hx4 hs4 ha4 hb4 w0 w1 w2 w3 u1 u2 u3 u4 u5 u6 u7 hth q1 q2 q3 q4 q5 q6 q7 hq6 h6 hoth HF hBB hP5 hW6 hW5 hW4 hPV4
        generalize Pd 0 zc = PZ at hzo hs0 hb0 hth' HW
        go_wp2_with (first | (refine step_build rfl 46 _ rfl PZ (by simp [Act.eval]; exact hb0) ?_) | (refine wpList_store_mid rfl 46 (.tmp 48) (.tmp 44) rfl p 4 PZ rfl rfl hth' hs0 hzo ?_))
        go_ret
        rw [HW.out]
        exact HE
      · have hth2 : (th == 1) = false := by simpa using hth
        have HN : Hid (¬ th = 1) := hth
        clear hth hPV4 hW3
        go_wp2
        go_ret
        obtain ⟨hx4, hs4, ha4, hb4, w0, w1, w2, w3⟩ := HF.out
        have hth := HN.out
        refine ⟨v, PV4, c2, rfl, ha4, ⟨?_, ?_, w0, w1, w2, ?_⟩, hb4⟩
        · show PvX _ p PV4 (if th = 1 then noPdu else keptA f S.K d).k c2 (if th = 1 then noPdu else keptA f S.K d).D (if th = 1 then noPdu else keptA f S.K d).F; rw [if_neg hth]; exact hx4
        · show SameC (if th = 1 then noPdu else keptA f S.K d).c c2; rw [if_neg hth]; exact hs4
        · show _ = some (Value.bool (if th = 1 then false else if f = 51 then true else S.asked)); rw [if_neg hth]; exact w3
end Go.Proofs.YtiieikdbhpflgabDoor

/-
  DERIVED. Is an event complete? What an event does (Do), exactly.
-/
namespace Go.Proofs.YtiieikdbhpflgabDoor
open Go Go.Proofs Go.RowKit

theorem enters_any : ∀ (f : Fin 17) (args : Array Value) (W : World), (callFunc (f.val + 51) args).run Tryd.prog W = .ok (.enter (f.val + 51) args) W
  | ⟨0, _⟩, args, W => enters_of Tryd.func51 (by kernel_rfl) rfl args W
  | ⟨1, _⟩, args, W => enters_of Tryd.func52 (by kernel_rfl) rfl args W
  | ⟨2, _⟩, args, W => enters_of Tryd.func53 (by kernel_rfl) rfl args W
  | ⟨3, _⟩, args, W => enters_of Tryd.func54 (by kernel_rfl) rfl args W
  | ⟨4, _⟩, args, W => enters_of Tryd.func55 (by kernel_rfl) rfl args W
  | ⟨5, _⟩, args, W => enters_of Tryd.func56 (by kernel_rfl) rfl args W
  | ⟨6, _⟩, args, W => enters_of Tryd.func57 (by kernel_rfl) rfl args W
  | ⟨7, _⟩, args, W => enters_of Tryd.func58 (by kernel_rfl) rfl args W
  | ⟨8, _⟩, args, W => enters_of Tryd.func59 (by kernel_rfl) rfl args W
  | ⟨9, _⟩, args, W => enters_of Tryd.func60 (by kernel_rfl) rfl args W
  | ⟨10, _⟩, args, W => enters_of Tryd.func61 (by kernel_rfl) rfl args W
  | ⟨11, _⟩, args, W => enters_of Tryd.func62 (by kernel_rfl) rfl args W
  | ⟨12, _⟩, args, W => enters_of Tryd.func63 (by kernel_rfl) rfl args W
  | ⟨13, _⟩, args, W => enters_of Tryd.func64 (by kernel_rfl) rfl args W
  | ⟨14, _⟩, args, W => enters_of Tryd.func65 (by kernel_rfl) rfl args W
  | ⟨15, _⟩, args, W => enters_of Tryd.func66 (by kernel_rfl) rfl args W
  | ⟨16, _⟩, args, W => enters_of Tryd.func67 (by kernel_rfl) rfl args W
  | ⟨n + 17, h⟩, _, _ => absurd h (by omega)

theorem fn_in : ∀ k : Fin 30, 51 ≤ fnA (k.val + 1) ∧ fnA (k.val + 1) ≤ 67 := by decide +kernel

/-- Behind an action: all of it. -/
def stepN (n : Nat) (S : Prov) (d : EvD) : Prov := nextS (fnA (whichA n S.asked d.bad)) (timerA (whichA n S.asked d.bad)) (thenA (whichA n S.asked d.bad)) S d
def actsN (n : Nat) (S : Prov) (d : EvD) : List AcD := doesL (fnA (whichA n S.asked d.bad)) (wordA (whichA n S.asked d.bad)) S.K d
def ActN (n : Nat) (w : World) (p : Nat) (S : Prov) (d : EvD) (x : Ending) (w' : World) : Prop :=
  ∃ v PV' c', x = .returned v ∧ AR w.heap.size w' v (actsN n S d) ∧ PvS w' p PV' c' (stepN n S d) ∧ BelBut p w w'
theorem act33_any (w : World) (p e : Nat) (PV EV : Array Value) (c0 : Fin 18 → Value) (S : Prov) (d : EvD) (n : Nat) (h0 : 0 < n) (h1 : n ≤ 28) (hP : PvS w p PV c0 S) (he : w.heap[e]? = some (.cells EV 48)) (hE : EvY w EV d) :
    Calls Tryd.prog 25 #[.pointer (some ⟨p, 0, none⟩), .int .i64 (n : Int), .pointer (some ⟨e, 0, none⟩)] w (ActN n w p S d) := by
  obtain ⟨hr0, hr1⟩ := which_lt S.asked d.bad h0 h1
  have hf := fn_in ⟨whichA n S.asked d.bad - 1, by omega⟩
  rw [show whichA n S.asked d.bad - 1 + 1 = whichA n S.asked d.bad by omega] at hf
  obtain ⟨g, hg⟩ : ∃ g : Fin 17, fnA (whichA n S.asked d.bad) = g.val + 51 := ⟨⟨fnA (whichA n S.asked d.bad) - 51, by omega⟩, by show _ = _ - 51 + 51; omega⟩
  have h := act33_row w p e PV EV c0 S d (n : Int) (fnA (whichA n S.asked d.bad)) (wordA (whichA n S.asked d.bad)) (timerA (whichA n S.asked d.bad)) (thenA (whichA n S.asked d.bad)) hP he hE
    (fun W => actionOf_any W n S.asked d.bad h0 h1) (fun W => by rw [hg]; exact enters_any g _ W)
    (fun W hx hh hy => by
      rw [hg]
      exact does_any g _ hx hP.same ⟨_, hP.v3⟩ hh hy)
  exact h

/-- Which PDU an event's kind needs. -/
def ndA : List Nat := [0, 1, 0, 2, 3, 0, 1, 2, 3, 4, 4, 0, 5, 6, 0, 0, 7, 0, 0, 0]
def Nd (w : World) : Prop := ∀ k, k < 20 → w.cell? ⟨1, k, none⟩ = some (.int .u8 ((ndA.getD k 0 : Nat) : Int))
theorem Nd.lt {w : World} (h : Nd w) : 1 < w.heap.size := cell_lt (h 0 (by omega))
theorem Nd.on {w w' : World} (h : Nd w) (hb : Below w.heap.size w w') : Nd w' := fun k hk => (hb.cell (p := ⟨1, k, none⟩) h.lt).trans (h k hk)
def complB (kd k1 : Int) (bad : Bool) (k2 : Int) : Bool :=
  if ((ndA.getD kd.toNat 0 : Nat) : Int) ≠ 0 ∧ k1 ≠ ((ndA.getD kd.toNat 0 : Nat) : Int) then false else if kd ≠ 6 then true else if bad = false then true else decide (k2 = 3)
set_option maxRecDepth 100000 in
theorem complete_6 (w : World) (e : Nat) (k1 k2 : Int) (bad : Bool) (hN : w.cell? ⟨1, 6, none⟩ = some (.int .u8 1)) (c0 : w.cell? ⟨e, 0, none⟩ = some (.int .i64 6)) (c1 : w.cell? ⟨e, 1, none⟩ = some (.int .i64 k1)) (c20 : w.cell? ⟨e, 20, none⟩ = some (.bool bad)) (c21 : w.cell? ⟨e, 21, none⟩ = some (.int .i64 k2)) :
    Calls Tryd.prog 24 #[.pointer (some ⟨e, 0, none⟩)] w fun x w' => x = .returned (.bool (complB 6 k1 bad k2)) ∧ w' = w := by
  by_cases a : k1 = 1
  · subst a
    cases bad
    · go_enter Tryd.func24, Tryd.ntmps24
      go_wp2
      go_ret
      exact ⟨rfl, rfl⟩
    · by_cases b : k2 = 3
      · subst b
        go_enter Tryd.func24, Tryd.ntmps24
        go_wp2
        go_ret
        exact ⟨rfl, rfl⟩
      · have b2 : (k2 == 3) = false := by simpa using b
        have hr : complB 6 1 true k2 = false := by unfold complB; rw [if_neg (by decide), if_neg (by decide), if_neg (by decide)]; simpa using b
        rw [hr]
        clear b hr
        go_enter Tryd.func24, Tryd.ntmps24
        go_wp2
        go_ret
        exact ⟨rfl, rfl⟩
  · have b2 : (k1 == 1) = false := by simpa using a
    have hr : complB 6 k1 bad k2 = false := by unfold complB; rw [if_pos ⟨by decide, a⟩]
    rw [hr]
    clear a hr
    go_enter Tryd.func24, Tryd.ntmps24
    go_wp2
    go_ret
    exact ⟨rfl, rfl⟩
set_option maxRecDepth 100000 in
theorem complete_any (w : World) (e : Nat) (kd k1 k2 : Int) (bad : Bool) (h0 : 0 ≤ kd) (h1 : kd ≤ 19) (hN : Nd w) (c0 : w.cell? ⟨e, 0, none⟩ = some (.int .i64 kd)) (c1 : w.cell? ⟨e, 1, none⟩ = some (.int .i64 k1)) (c20 : w.cell? ⟨e, 20, none⟩ = some (.bool bad)) (c21 : w.cell? ⟨e, 21, none⟩ = some (.int .i64 k2)) :
    Calls Tryd.prog 24 #[.pointer (some ⟨e, 0, none⟩)] w fun x w' => x = .returned (.bool (complB kd k1 bad k2)) ∧ w' = w := by
  by_cases k6 : kd = 6
  · subst k6
    exact complete_6 w e k1 k2 bad (hN 6 (by omega)) c0 c1 c20 c21
  obtain ⟨k, rfl⟩ : ∃ k : Nat, kd = (k : Int) := ⟨kd.toNat, by omega⟩
  have hk : k < 20 := by omega
  have hc := hN k hk
  have b6 : ((k : Int) == 6) = false := by simpa using k6
  unfold complB
  rw [Int.toNat_natCast, if_pos k6]
  have hv : ndA.getD k 0 < 256 := by
    have : ∀ j : Fin 20, ndA.getD j.val 0 < 256 := by decide +kernel
    exact this ⟨k, hk⟩
  generalize ndA.getD k 0 = V at hc hv ⊢
  have K6 : Hid ((k : Int) ≠ 6) := k6
  clear k6 b6
  by_cases a : ((V : Nat) : Int) ≠ 0 ∧ k1 ≠ (V : Int)
  · rw [if_pos a]
    obtain ⟨a1, a2⟩ := a
    have A1 : Hid ((V : Int) ≠ 0 ∧ k1 ≠ (V : Int)) := ⟨a1, a2⟩
    clear a1 a2
    go_enter Tryd.func24, Tryd.ntmps24
    go_wp2
    all_goals first | (exfalso; have := K6.out; have := A1.out; omega) | (exfalso; obtain ⟨a1, a2⟩ := A1.out; simp_all; done) | (exfalso; obtain ⟨a1, a2⟩ := A1.out; simp_all; omega) | (go_ret; exact ⟨rfl, rfl⟩)
  · rw [if_neg a]
    by_cases z : (V : Int) = 0
    · obtain rfl : V = 0 := by omega
      clear a z
      go_enter Tryd.func24, Tryd.ntmps24
      go_wp2
      all_goals first | (exfalso; have := K6.out; omega) | (go_ret; exact ⟨rfl, rfl⟩)
    · have Z1 : Hid (¬ (V : Int) = 0) := z
      obtain rfl : k1 = (V : Int) := by
        by_cases e2 : k1 = (V : Int)
        · exact e2
        · exact absurd ⟨z, e2⟩ a
      clear a z
      go_enter Tryd.func24, Tryd.ntmps24
      go_wp2
      all_goals first | (exfalso; have := K6.out; have := Z1.out; omega) | (go_ret; exact ⟨rfl, rfl⟩)
end Go.Proofs.YtiieikdbhpflgabDoor
