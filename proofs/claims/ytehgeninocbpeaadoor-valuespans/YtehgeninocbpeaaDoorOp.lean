import Derived.Test.YtehgeninocbpeaaDoorOh
/-
  DERIVED. A VR that has no span.
-/
namespace Go.Proofs.YtehgeninocbpeaaDoor.Tm
open Go Go.Proofs Go.RowKit

set_option maxRecDepth 100000 in
set_option maxHeartbeats 2000000 in
theorem asked7_not (w : World) (vr : Int) (hv : ¬ isSp vr) (s : ByteArray) : Calls Tryd.prog 7 #[.int .i64 vr, .string s] w (PostF w (sp 0 0) (some (0, 105))) := by
  obtain ⟨q, hq⟩ : ∃ q, w.heap.size = q := ⟨_, rfl⟩
  obtain ⟨W0, hW0⟩ : ∃ W0, (w.alloc (.cells #[.int .i64 0, .int .i64 0] 23)).alloc (.cells #[.slice none 0 0, .int .i64 0] 31) = W0 := ⟨_, rfl⟩
  have K0 : Hid (A2 w W0 q) := by show A2 w W0 q; rw [← hW0, ← hq]; exact A2.start w
  have HW0 : Hid _ := hW0
  clear hW0
  have v5 : (vr != 5) = true := by have : vr ≠ 5 := fun h => hv (.inl h); simpa using this
  have v7 : (vr != 7) = true := by have : vr ≠ 7 := fun h => hv (.inr (.inl h)); simpa using this
  have v21 : (vr != 21) = true := by have : vr ≠ 21 := fun h => hv (.inr (.inr h)); simpa using this
  have cN := fun W => no_any 0 105 W
  unfold sp
  go_enter Tryd.func7, Tryd.ntmps7
  go_wp2_with (go_at_call 18; refine Stop.mk ?_)
  rw [HW0.out]
  refine Stop.out ((cN _).mono ?_)
  rintro e W4 ⟨v, rfl, hv4, hb4⟩
  have HV : Hid (RErr W4 v (some (0, 105))) := hv4
  have K4 : Hid (A2 w W4 q) := K0.out.on hb4
  obtain ⟨g, k, rfl, _, _⟩ := hv4
  clear cN hb4 HW0 K0
  have Z0 : W4.cell? ⟨q, 0, none⟩ = some (.int .i64 0) := K4.out.zr.cell (i := 0) (by omega)
  have Z1 : W4.cell? ⟨q, 1, none⟩ = some (.int .i64 0) := K4.out.zr.cell (i := 1) (by omega)
  have Y0 : W4.cell? ⟨q + 1, 0, none⟩ = some (.slice none 0 0) := K4.out.ze.cell (i := 0) (by omega)
  have Y1 : W4.cell? ⟨q + 1, 1, none⟩ = some (.int .i64 0) := K4.out.ze.cell (i := 1) (by omega)
  have zf := fun i => K4.out.zr.frozen i
  have yf := fun i => K4.out.ze.frozen i
  go_wp2
  refine bodyPost_ret (v := .tuple #[.agg #[.int .i64 0, .int .i64 0], .agg #[.slice (some ⟨g, 0, none⟩) 1 k, .int .i64 105]]) (by simp [results, Tryd.results7, go_sem, Z0, Z1, Y0, Y1]) rfl ⟨_, rfl, ?_, ?_⟩
  · exact (K4.out.fin HV.out Z0 Y0 _ _ _ _).1
  · rw [hq]
    exact (K4.out.fin HV.out Z0 Y0 _ _ _ _).2
end Go.Proofs.YtehgeninocbpeaaDoor.Tm

/-
  DERIVED. The program's spans of a VR that has none.
-/
namespace Go.Proofs.YtehgeninocbpeaaDoor.Tm
open Go Go.Proofs Go.RowKit

theorem rB_not {vr : Int} (hv : ¬ isSp vr) : rB vr ≠ 1 := by
  intro h
  unfold rB at h
  split at h
  · cases h
  · rename_i h0
    obtain ⟨n, rfl⟩ : ∃ n : Nat, vr = (n : Int) := ⟨vr.toNat, by omega⟩
    rw [Int.toNat_natCast] at h
    by_cases hn : n < 29
    · have h5 : n ≠ 5 := fun e => hv (.inl (by omega))
      have h7 : n ≠ 7 := fun e => hv (.inr (.inl (by omega)))
      have h21 : n ≠ 21 := fun e => hv (.inr (.inr (by omega)))
      have key : ∀ k, k < 29 → k ≠ 5 → k ≠ 7 → k ≠ 21 → rbL.getD k 0 ≠ 1 := by decide
      exact key n hn h5 h7 h21 h
    · have hl : rbL[n]? = none := List.getElem?_eq_none (by show 29 ≤ n; omega)
      rw [List.getD_eq_getElem?_getD, hl] at h
      cases h

set_option maxRecDepth 100000 in
set_option maxHeartbeats 2000000 in
theorem asked6_not (w : World) (vr : Int) (hv : ¬ isSp vr) (s : ByteArray) (hs : s.size ≤ 140737488351232) (hT : Mt w) (hO : Ot w) (hR : Rt w) :
    Calls Tryd.prog 6 #[.int .i64 vr, .string s] w (PostR w (sp 0 0) (some (0, 105))) := by
  have cD := fun W h => dashOf_any W vr s hs h
  have cR := fun W h => ruleOf_any W vr h
  have hne := rB_not hv
  obtain ⟨r, hr⟩ : ∃ r, w.heap.size = r := ⟨_, rfl⟩
  obtain ⟨W0, hW0⟩ : ∃ W0, w.alloc (.cells #[.int .i64 0, .int .i64 0] 23) = W0 := ⟨_, rfl⟩
  have K0 : Hid (Zk w W0 r) := by
    have hb0 : Below r w W0 := by rw [← hW0, ← hr]; exact (Below.refl _ _).alloc (Nat.le_refl _) _
    refine ⟨?_, hb0, hT.on (hr ▸ hb0), hO.on (hr ▸ hb0), hR.on (hr ▸ hb0)⟩
    rw [← hW0, ← hr]
    exact World.rowIs_alloc w _ 23 _ (row_lit _)
  have HCR : Hid _ := cR
  have c := cD W0 K0.out.t
  generalize dsh vr s = E at *
  generalize rB vr = P at *
  have hnI : (P != 1) = true := by simpa using hne
  clear hT hO hR cR cD hne
  unfold sp
  go_enter Tryd.func6, Tryd.ntmps6
  go_wp2_with (go_at_call 19; refine Stop.mk ?_)
  refine Stop.out (c.mono ?_)
  rintro e W1 ⟨rfl, hb⟩
  have K1 : Hid (Zk w W1 r) := K0.out.on hb
  have c := HCR.out W1 K1.out.r
  clear hb K0 HCR hW0
  go_wp2_with (go_at_call 20; refine Stop.mk ?_)
  refine Stop.out (c.mono ?_)
  rintro e W2 ⟨rfl, hb⟩
  have K2 : Hid (Zk w W2 r) := K1.out.on hb
  have hf := field0 W2 P (rC vr)
  have c46 := fun W => refusal_any 0 105 W
  clear hb K1 c
  go_wp2_with (go_at_call 21; refine Stop.mk ?_)
  refine Stop.out ((c46 _).mono ?_)
  rintro e W3 ⟨v, rfl, hv3, hb⟩
  have K3 : Hid (Zk w W3 r) := K2.out.on hb
  have HV : Hid (PErr W3 v (some (0, 105))) := hv3
  clear hb K2 c46 hv3
  have Z0 : W3.cell? ⟨r, 0, none⟩ = some (.int .i64 0) := K3.out.z.cell (i := 0) (by omega)
  have Z1 : W3.cell? ⟨r, 1, none⟩ = some (.int .i64 0) := K3.out.z.cell (i := 1) (by omega)
  have zf := fun i => K3.out.z.frozen i
  go_wp2
  refine bodyPost_ret (v := .tuple #[.agg #[.int .i64 0, .int .i64 0], v]) (by simp [results, Tryd.results6, go_sem, Z0, Z1]) rfl ⟨_, rfl, ?_, ?_⟩
  · exact HV.out.two Z0 _ _
  · rw [hr]
    exact (K3.out.b.setCell (p := ⟨r, 0, none⟩) (Nat.le_refl _) _).setCell (p := ⟨r, 1, none⟩) (Nat.le_refl _) _
end Go.Proofs.YtehgeninocbpeaaDoor.Tm

/-
  DERIVED. The program's own span of a VR that has none.
-/
namespace Go.Proofs.YtehgeninocbpeaaDoor.Tm
open Go Go.Proofs Go.RowKit

theorem PErr.wide {W W' : World} {v : Value} {o : Option (Int × Int)} {r : Nat} {x : Int} (h : PErr W v o) (h0 : W.cell? ⟨r, 0, none⟩ = some (.int .i64 x)) (hg : W.grownBy W' (some r)) : PErr W' v o := by
  have hD : Dbt W r v o := ⟨h, fun p hp => by
    cases o with
    | none => rw [show v = .nilIface from h] at hp; cases hp
    | some y =>
      obtain ⟨q, hq, hf⟩ := h
      rw [hq] at hp
      obtain rfl : q = p := by simpa using hp
      rintro rfl
      have := hf.1
      rw [h0] at this
      cases this⟩
  exact (hD.grown hg).1
set_option maxRecDepth 100000 in
set_option maxHeartbeats 2000000 in
theorem read_not (w : World) (vr : Int) (hv : ¬ isSp vr) (s : ByteArray) : Calls Tryd.prog 28 #[.int .i64 vr, .string s, .int .i64 0] w (PostR w (.agg #[.int .i64 0, .int .i64 0, .int .i64 0, .int .i64 0, .int .i64 0, .int .i64 0, .int .i64 0, .int .i64 0, .int .i64 0, .bool false, .int .i64 0]) (some (0, 105))) := by
  have v5 : (vr == 5) = false := by have : vr ≠ 5 := fun h => hv (.inl h); simpa using this
  have v7 : (vr == 7) = false := by have : vr ≠ 7 := fun h => hv (.inr (.inl h)); simpa using this
  have v21 : (vr == 21) = false := by have : vr ≠ 21 := fun h => hv (.inr (.inr h)); simpa using this
  have cN := fun W => refusal_any 0 105 W
  go_enter Tryd.func28, Tryd.ntmps28
  go_wp2_with (go_at_call 21; refine Stop.mk ?_)
  refine Stop.out ((cN _).mono ?_)
  rintro e W3 ⟨v, rfl, hv3, hb⟩
  obtain ⟨r, hr⟩ : ∃ r, w.heap.size = r := ⟨_, rfl⟩
  have K : (((w.alloc (.cells #[.int .i64 0, .int .i64 0, .int .i64 0, .int .i64 0, .int .i64 0, .int .i64 0, .int .i64 0, .int .i64 0, .int .i64 0, .bool false, .int .i64 0] 51)).alloc (.cells #[.string s, .int .i64 0, .bool false, .nilIface, .int .i64 1, .int .i64 1, .int .i64 1, .int .i64 3, .int .i64 0, .int .i64 0, .int .i64 0, .int .i64 0, .int .i64 0, .bool false, .int .i64 0] 95)).rowIs w.heap.size 51 11 (fa #[.int .i64 0, .int .i64 0, .int .i64 0, .int .i64 0, .int .i64 0, .int .i64 0, .int .i64 0, .int .i64 0, .int .i64 0, .bool false, .int .i64 0])) ∧ Below w.heap.size w ((w.alloc (.cells #[.int .i64 0, .int .i64 0, .int .i64 0, .int .i64 0, .int .i64 0, .int .i64 0, .int .i64 0, .int .i64 0, .int .i64 0, .bool false, .int .i64 0] 51)).alloc (.cells #[.string s, .int .i64 0, .bool false, .nilIface, .int .i64 1, .int .i64 1, .int .i64 1, .int .i64 3, .int .i64 0, .int .i64 0, .int .i64 0, .int .i64 0, .int .i64 0, .bool false, .int .i64 0] 95)) := ⟨World.rowIs.alloc (World.rowIs_alloc w _ 51 _ (row_lit _)) _, ((Below.refl _ _).alloc (Nat.le_refl _) _).alloc (by simp) _⟩
  have R3 := row_on K.1 hb
  have HB3 : Hid (Below r w W3) := by show Below r w W3; rw [← hr]; exact K.2.trans (hb.mono K.2.size)
  have HV : Hid (PErr W3 v (some (0, 105))) := hv3
  rw [hr] at R3
  clear K hb hv3 cN
  have z0 : W3.cell? ⟨r, 0, none⟩ = some (.int .i64 0) := R3.cell (i := 0) (by simp)
  have z1 : W3.cell? ⟨r, 1, none⟩ = some (.int .i64 0) := R3.cell (i := 1) (by simp)
  have z2 : W3.cell? ⟨r, 2, none⟩ = some (.int .i64 0) := R3.cell (i := 2) (by simp)
  have z3 : W3.cell? ⟨r, 3, none⟩ = some (.int .i64 0) := R3.cell (i := 3) (by simp)
  have z4 : W3.cell? ⟨r, 4, none⟩ = some (.int .i64 0) := R3.cell (i := 4) (by simp)
  have z5 : W3.cell? ⟨r, 5, none⟩ = some (.int .i64 0) := R3.cell (i := 5) (by simp)
  have z6 : W3.cell? ⟨r, 6, none⟩ = some (.int .i64 0) := R3.cell (i := 6) (by simp)
  have z7 : W3.cell? ⟨r, 7, none⟩ = some (.int .i64 0) := R3.cell (i := 7) (by simp)
  have z8 : W3.cell? ⟨r, 8, none⟩ = some (.int .i64 0) := R3.cell (i := 8) (by simp)
  have z9 : W3.cell? ⟨r, 9, none⟩ = some (.bool false) := R3.cell (i := 9) (by simp)
  have z10 : W3.cell? ⟨r, 10, none⟩ = some (.int .i64 0) := R3.cell (i := 10) (by simp)
  have zf := fun i => R3.frozen i
  obtain ⟨g, rfl, _⟩ := HV.out
  rw [hr]
  go_wp2
  refine bodyPost_ret (v := .tuple #[.agg #[.int .i64 0, .int .i64 0, .int .i64 0, .int .i64 0, .int .i64 0, .int .i64 0, .int .i64 0, .int .i64 0, .int .i64 0, .bool false, .int .i64 0], .iface 87 (.pointer (some ⟨g, 0, none⟩))]) (by simp [results, Tryd.results28, go_sem, z0, z1, z2, z3, z4, z5, z6, z7, z8, z9, z10]) rfl ⟨_, rfl, ?_, ?_⟩
  · exact HV.out.wide z0 (grown_set (grown_set (grown_set (grown_set (grown_set (grown_set (grown_set (grown_set (grown_set (grown_set (grown_set (grown_refl _ _) 0 _) 1 _) 2 _) 3 _) 4 _) 5 _) 6 _) 7 _) 8 _) 9 _) 10 _)
  · rw [hr]
    exact (((((((((((HB3.out).setCell (p := ⟨r, 0, none⟩) (Nat.le_refl _) _).setCell (p := ⟨r, 1, none⟩) (Nat.le_refl _) _).setCell (p := ⟨r, 2, none⟩) (Nat.le_refl _) _).setCell (p := ⟨r, 3, none⟩) (Nat.le_refl _) _).setCell (p := ⟨r, 4, none⟩) (Nat.le_refl _) _).setCell (p := ⟨r, 5, none⟩) (Nat.le_refl _) _).setCell (p := ⟨r, 6, none⟩) (Nat.le_refl _) _).setCell (p := ⟨r, 7, none⟩) (Nat.le_refl _) _).setCell (p := ⟨r, 8, none⟩) (Nat.le_refl _) _).setCell (p := ⟨r, 9, none⟩) (Nat.le_refl _) _).setCell (p := ⟨r, 10, none⟩) (Nat.le_refl _) _

theorem own4_not (w : World) (vr : Int) (hv : ¬ isSp vr) (s : ByteArray) (hT : Mt w) (hO : Ot w) : Calls Tryd.prog 4 #[.int .i64 vr, .string s] w (PostR w (sp 0 0) (some (0, 105))) :=
  own61_any w vr s 0 0 _ hT hO (fun W h1 _ => own96_no W vr s 0 (0, 105) h1 (fun W' _ => read_not W' vr hv s))
end Go.Proofs.YtehgeninocbpeaaDoor.Tm
