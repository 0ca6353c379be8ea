import Derived.Test.YtehgeninocbpeaaDoorSf
import Derived.Lib.IndexLaws
/-
  DERIVED. The span of a key; the function that a key of spans gives.
-/
namespace Go.Proofs.YtehgeninocbpeaaDoor.Tm
open Go Go.Proofs Go.RowKit

theorem dz_is (s : ByteArray) : ∀ f i, i + f ≤ s.size → dz s f i = -1 ∨ ∃ k : Nat, dz s f i = (k : Int) ∧ k < s.size
  | 0, i, _ => .inl rfl
  | f + 1, i, h => by
    rw [dz]
    split
    · exact .inr ⟨i, rfl, by omega⟩
    · exact dz_is s f (i + 1) (by omega)
theorem dsh_is (vr : Int) (s : ByteArray) : dsh vr s = -1 ∨ ∃ k : Nat, dsh vr s = (k : Int) ∧ k < s.size := by
  unfold dsh
  split
  · exact dz_is s _ 0 (by omega)
  · have h := Lib.indexByte_ge s.data.toList 45
    by_cases h1 : Lib.indexByte s.data.toList 45 = -1
    · exact .inl h1
    · refine .inr ⟨(Lib.indexByte s.data.toList 45).toNat, by omega, ?_⟩
      have h2 := (Lib.indexByte_some (l := s.data.toList) (c := 45) (o := (Lib.indexByte s.data.toList 45).toNat) (by omega)).1
      have := (List.getElem?_eq_some_iff.1 h2).1
      rw [Array.length_toList] at this
      exact this
/-- The span of a key. -/
def ask (vr : Int) (s : ByteArray) : (Int × Int) × Option (Int × Int) :=
  if dsh vr s < 0 then (ow vr s 0, oR vr s 0) else if s.size = 1 then ((0, 0), some (1, 100)) else bt vr s (dsh vr s).toNat
theorem isSp_rB {vr : Int} (h : isSp vr) : rB vr = 1 := by rcases h with rfl | rfl | rfl <;> rfl

theorem field0 (W : World) (b : Int) (c : Bool) : (Instr.field 58 (.agg #[.int .i64 b, .bool c]) 0).run Tryd.prog W = .ok (.int .i64 b) W := by kernel_rfl
theorem field1 (W : World) (b : Int) (c : Bool) : (Instr.field 58 (.agg #[.int .i64 b, .bool c]) 1).run Tryd.prog W = .ok (.bool c) W := by kernel_rfl
structure Zk (w W : World) (r : Nat) : Prop where
  z : W.rowIs r 23 2 (f2I 0 0)
  b : Below r w W
  t : Mt W
  o : Ot W
  r : Rt W
theorem Zk.on {w W W' : World} {r : Nat} (h : Zk w W r) (hb : Below W.heap.size W W') : Zk w W' r :=
  ⟨h.z.of_block (hb.block _ h.z.lt), h.b.trans (hb.mono (Nat.le_of_lt h.z.lt)), h.t.on hb, h.o.on hb, h.r.on hb⟩

set_option maxRecDepth 100000 in
set_option maxHeartbeats 4000000 in
theorem asked_any (w : World) (vr : Int) (hv : isSp vr) (s : ByteArray) (hs : s.size ≤ 140737488351232) (hT : Mt w) (hO : Ot w) (hR : Rt w) :
    Calls Tryd.prog 6 #[.int .i64 vr, .string s] w (PostR w (sp (ask vr s).1.1 (ask vr s).1.2) (ask vr s).2) := by
  have cD := fun W h => dashOf_any W vr s hs h
  have cR := fun W h => ruleOf_any W vr h
  rw [isSp_rB hv] at cR
  have cO := fun W h1 h2 => own_any W vr hv s hs h1 h2
  have cB := fun W d (hd : d < s.size) h1 h2 => between_any W vr hv s hs d hd h1 h2
  obtain ⟨A, hA⟩ : ∃ A, (ask vr s).1.1 = A := ⟨_, rfl⟩
  obtain ⟨B, hB⟩ : ∃ B, (ask vr s).1.2 = B := ⟨_, rfl⟩
  obtain ⟨o, ho⟩ : ∃ o, (ask vr s).2 = o := ⟨_, rfl⟩
  have HA : Hid (ask vr s = ((A, B), o)) := Prod.ext (Prod.ext hA hB) ho
  rw [hA, hB, ho]
  clear hA hB ho
  unfold ask at HA
  have hD := dsh_is vr s
  obtain ⟨r, hr⟩ : ∃ r, w.heap.size = r := ⟨_, rfl⟩
  obtain ⟨W0, hW0⟩ : ∃ W0, w.alloc (.cells #[.int .i64 0, .int .i64 0] 23) = W0 := ⟨_, rfl⟩
  have K0 : Hid (Zk w W0 r) := by
    have hb0 : Below r w W0 := by rw [← hW0, ← hr]; exact (Below.refl _ _).alloc (Nat.le_refl _) _
    refine ⟨?_, hb0, hT.on (hr ▸ hb0), hO.on (hr ▸ hb0), hR.on (hr ▸ hb0)⟩
    rw [← hW0, ← hr]
    exact World.rowIs_alloc w _ 23 _ (row_lit _)
  have HCO : Hid _ := cO
  have HCB : Hid _ := cB
  have HCR : Hid _ := cR
  have c := cD W0 K0.out.t
  generalize dsh vr s = D at *
  clear hT hO hR cO cB cR cD
  unfold sp at HCO HCB ⊢
  go_enter Tryd.func6, Tryd.ntmps6
  go_wp2_with (go_at_call 19; refine Stop.mk ?_)
  refine Stop.out (c.mono ?_)
  rintro e W1 ⟨rfl, hb⟩
  have K1 : Hid (Zk w W1 r) := K0.out.on hb
  have c := HCR.out W1 K1.out.r
  clear hb K0 HCR hW0
  go_wp2_with (go_at_call 20; refine Stop.mk ?_)
  refine Stop.out (c.mono ?_)
  rintro e W2 ⟨rfl, hb⟩
  have K2 : Hid (Zk w W2 r) := K1.out.on hb
  have hf := field0 W2 1 (rC vr)
  clear hb K1 c
  rcases hD with rfl | ⟨d, rfl, hd⟩
  · have HR : Hid ((ow vr s 0, oR vr s 0) = ((A, B), o)) := by have := HA.out; rw [if_pos (by decide)] at this; exact this
    have c := HCO.out W2 K2.out.t K2.out.o
    generalize (ow vr s 0) = P at *
    generalize oR vr s 0 = oP' at *
    clear HA HCO HCB
    go_wp2_with (go_at_call 4; refine Stop.mk ?_)
    refine Stop.out (c.mono ?_)
    rintro e W3 ⟨v, rfl, hv3, hb⟩
    have K3 : Hid (Zk w W3 r) := K2.out.on hb
    have HV : Hid (PErr W3 v oP') := hv3
    clear hb K2 c hv3
    have Z0 : W3.cell? ⟨r, 0, none⟩ = some (.int .i64 0) := K3.out.z.cell (i := 0) (by omega)
    have Z1 : W3.cell? ⟨r, 1, none⟩ = some (.int .i64 0) := K3.out.z.cell (i := 1) (by omega)
    have zf := fun i => K3.out.z.frozen i
    go_wp2
    refine bodyPost_ret (v := .tuple #[.agg #[.int .i64 A, .int .i64 B], v]) ?_ rfl ⟨_, rfl, ?_, ?_⟩
    · obtain ⟨h1, h2⟩ := Prod.mk.inj HR.out
      rw [h1]
      simp [results, Tryd.results6, go_sem, Z0, Z1]
    · rw [← (Prod.mk.inj HR.out).2]
      exact HV.out.two Z0 _ _
    · rw [hr]
      exact (K3.out.b.setCell (p := ⟨r, 0, none⟩) (Nat.le_refl _) _).setCell (p := ⟨r, 1, none⟩) (Nat.le_refl _) _
  · have hd0 : ¬ ((d : Int) < 0) := by omega
    have HA1 : Hid ((if s.size = 1 then (((0 : Int), (0 : Int)), some ((1 : Int), (100 : Int))) else bt vr s d) = ((A, B), o)) := by have := HA.out; rw [if_neg hd0, Int.toNat_natCast] at this; exact this
    clear HA
    by_cases h1 : s.size = 1
    · have h1b : ((s.size : Int) == 1) = true := by rw [h1]; rfl
      have HR : Hid ((((0 : Int), (0 : Int)), some ((1 : Int), (100 : Int))) = ((A, B), o)) := by have := HA1.out; rw [if_pos h1] at this; exact this
      have c46 := fun W => refusal_any 1 100 W
      have HH : Hid (s.size = 1) := h1
      clear HA1 HCO HCB h1
      go_wp2_with (go_at_call 21; refine Stop.mk ?_)
      refine Stop.out ((c46 _).mono ?_)
      rintro e W3 ⟨v, rfl, hv3, hb⟩
      have K3 : Hid (Zk w W3 r) := K2.out.on hb
      have HV : Hid (PErr W3 v (some (1, 100))) := hv3
      clear hb K2 c46 hv3
      have Z0 : W3.cell? ⟨r, 0, none⟩ = some (.int .i64 0) := K3.out.z.cell (i := 0) (by omega)
      have Z1 : W3.cell? ⟨r, 1, none⟩ = some (.int .i64 0) := K3.out.z.cell (i := 1) (by omega)
      have zf := fun i => K3.out.z.frozen i
      go_wp2
      refine bodyPost_ret (v := .tuple #[.agg #[.int .i64 A, .int .i64 B], v]) ?_ rfl ⟨_, rfl, ?_, ?_⟩
      · obtain ⟨h1, h2⟩ := Prod.mk.inj HR.out
        obtain ⟨rfl, rfl⟩ := Prod.mk.inj h1
        simp [results, Tryd.results6, go_sem, Z0, Z1]
      · rw [← (Prod.mk.inj HR.out).2]
        exact HV.out.two Z0 _ _
      · rw [hr]
        exact (K3.out.b.setCell (p := ⟨r, 0, none⟩) (Nat.le_refl _) _).setCell (p := ⟨r, 1, none⟩) (Nat.le_refl _) _
    · have h1b : ((s.size : Int) == 1) = false := by simp; omega
      have HR : Hid (bt vr s d = ((A, B), o)) := by have := HA1.out; rw [if_neg h1] at this; exact this
      have c := HCB.out W2 d hd K2.out.t K2.out.o
      have HH : Hid (¬ s.size = 1) := h1
      generalize bt vr s d = P at *
      clear HA1 HCO HCB h1
      go_wp2_with (go_at_call 22; refine Stop.mk ?_)
      refine Stop.out (c.mono ?_)
      rintro e W3 ⟨v, rfl, hv3, hb⟩
      have K3 : Hid (Zk w W3 r) := K2.out.on hb
      have HV : Hid (PErr W3 v P.2) := hv3
      clear hb K2 c hv3
      have Z0 : W3.cell? ⟨r, 0, none⟩ = some (.int .i64 0) := K3.out.z.cell (i := 0) (by omega)
      have Z1 : W3.cell? ⟨r, 1, none⟩ = some (.int .i64 0) := K3.out.z.cell (i := 1) (by omega)
      have zf := fun i => K3.out.z.frozen i
      go_wp2
      refine bodyPost_ret (v := .tuple #[.agg #[.int .i64 A, .int .i64 B], v]) ?_ rfl ⟨_, rfl, ?_, ?_⟩
      · rw [HR.out]
        simp [results, Tryd.results6, go_sem, Z0, Z1]
      · have := HV.out.two Z0 (.int .i64 P.1.1) (.int .i64 P.1.2)
        rw [HR.out] at this ⊢
        exact this
      · rw [hr]
        exact (K3.out.b.setCell (p := ⟨r, 0, none⟩) (Nat.le_refl _) _).setCell (p := ⟨r, 1, none⟩) (Nat.le_refl _) _
end Go.Proofs.YtehgeninocbpeaaDoor.Tm
