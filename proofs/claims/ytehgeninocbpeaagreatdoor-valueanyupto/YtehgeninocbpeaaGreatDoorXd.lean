import Derived.Test.YtehgeninocbpeaaGreatDoorXc
import Derived.Deep.RegionWith
import Derived.Deep.RegionHeld3
import Derived.Deep.Cut
/-
  DERIVED. A key that is a name of one group.
-/
namespace Go.Proofs.YtehgeninocbpeaaGreatDoor.Tm
open Go Go.Proofs Go.RowKit

/-- The cells of a name's key. -/
structure Nk (W : World) (p ga : Nat) (a : ByteArray) : Prop where
  p : W.cell? ⟨p, 0, none⟩ = some (.slice (some ⟨ga, 0, none⟩) 1 1)
  a : W.cell? ⟨ga, 0, none⟩ = some (.string a)
theorem Nk.on {W W' : World} {p ga : Nat} {a : ByteArray} (h : Nk W p ga a) {k : Nat} (hk : W.heap.size ≤ k) (hb : Below k W W') : Nk W' p ga a := ⟨(hb.cell (Nat.lt_of_lt_of_le (cell_lt h.p) hk)).trans h.p, (hb.cell (Nat.lt_of_lt_of_le (cell_lt h.a) hk)).trans h.a⟩

set_option maxRecDepth 100000 in
set_option maxHeartbeats 2000000 in
theorem clos63 (W : World) (p ga : Nat) (a u : ByteArray) (hK : Nk W p ga a) (has : a.size ≤ 2097152) (hu : u.size ≤ 2097152) : Calls Tryz.prog 63 #[.string u, ptr p] W (BoolP W (decide (a.size = 0) || (grp u).any (fits a))) := by
  have cG := fun W => groupsOf_any W u hu
  have hlen := grp_len u
  have hgs := grp_size u
  generalize grp u = xs at *
  have cI := fun W g cells => some_any W a has g xs.length xs (by omega) cells (fun v hv => by have := hgs v hv; omega)
  obtain ⟨Z, hZ⟩ : ∃ Z, (decide (a.size = 0) || xs.any (fits a)) = Z := ⟨_, rfl⟩
  rw [hZ] at cI ⊢
  clear hZ hgs has hu
  unfold ptr
  go_enter Tryz.func63, Tryz.ntmps63
  go_upto_region 1 with fail
  have hB : Nk W.drew p ga a := ⟨hK.p, hK.a⟩
  have hW : Below W.heap.size W W.drew := (Below.refl _ _).drew

  go_region_held3 (fun w' => w'.cell? ⟨p, 0, none⟩ = some (.slice (some ⟨ga, 0, none⟩) 1 1) ∧ w'.cell? ⟨ga, 0, none⟩ = some (.string a)) (exact ⟨hB.p, hB.a⟩) (first | (go_at_call 62; refine (cG _).mono ?_; rintro e W9 ⟨g9, rfl, cells9, hb9⟩; replace hB := hB.on (Nat.le_refl _) hb9; replace hW := hW.trans (hb9.mono hW.size)) | (go_at_call 64; refine (cI _ _ cells9).mono ?_; rintro e W8 ⟨rfl, hb8⟩; replace hB := hB.on (Nat.le_refl _) hb8; replace hW := hW.trans (hb8.mono hW.size)) | fail)
  all_goals
    go_wp2
    go_ret
    exact ⟨rfl, hW⟩

theorem nameM_one (w : World) (key a : ByteArray) (hs : key.size ≤ 2097152) (hg : grp key = [a]) : Calls Tryz.prog 37 #[.string key] w fun e w' => ∃ p ga, e = .returned (.func (.func 63) #[] #[ptr p]) ∧ Nk w' p ga a ∧ Below w.heap.size w w' := by
  have cG := groupsOf_any w key hs
  rw [hg] at cG
  clear hg
  go_enter Tryz.func37, Tryz.ntmps37
  go_wp2_with (go_at_call 62; refine Stop.mk ?_)
  refine Stop.out (cG.mono ?_)
  rintro e W1 ⟨g, rfl, cells, hb1⟩
  have h0 : W1.cell? ⟨g, 0, none⟩ = some (.string a) := cells 0 (by simp)
  have hlt := cell_lt h0
  have hlen : ([a] : List ByteArray).length = 1 := rfl
  rw [hlen]
  clear cells cG hlen
  go_wp2
  have hb2 : Below W1.heap.size W1 (W1.alloc (.cells #[.slice (some ⟨g, 0, none⟩) 1 1] 48)) := (Below.refl _ _).alloc (Nat.le_refl _) _
  go_ret
  exact ⟨_, _, rfl, ⟨by simp, (hb2.cell hlt).trans h0⟩, hb1.trans (hb2.mono hb1.size)⟩

theorem matcher_name (w : World) (vr : Int) (hv : rB vr = 2) (key a : ByteArray) (hs : key.size ≤ 2097152) (hk0 : key.size ≠ 0) (hg : grp key = [a]) (hR : Rt w) : Calls Tryz.prog 17 #[.int .i64 vr, .string key] w fun e w' => ∃ p ga, e = .returned (.tuple #[.func (.func 63) #[] #[ptr p], .nilIface]) ∧ Nk w' p ga a ∧ Below w.heap.size w w' := by
  obtain ⟨W0, hW0⟩ : ∃ W0, w.alloc (.cells #[.string key] 9) = W0 := ⟨_, rfl⟩
  have hb0 : Below w.heap.size w W0 := hW0 ▸ (Below.refl _ _).alloc (Nat.le_refl _) _
  have c0 : W0.cell? ⟨w.heap.size, 0, none⟩ = some (.string key) := by rw [← hW0]; simp
  have cR := ruleOf_any W0 vr (hR.on hb0)
  rw [hv] at cR
  have cN := fun W => nameM_one W key a hs hg
  have HB : Hid (Below w.heap.size w W0) := hb0
  have hke := text_some hk0
  clear hR hb0 hk0 hv hg
  go_enter Tryz.func17, Tryz.ntmps17
  go_wp2_with (go_at_call 18; refine Stop.mk ?_)
  refine Stop.out (cR.mono ?_)
  rintro e W1 ⟨rfl, hb⟩
  have hf := field0 W1 2 (rC vr)
  have c1 : W1.cell? ⟨w.heap.size, 0, none⟩ = some (.string key) := (hb.cell (cell_lt c0)).trans c0
  have HB1 : Hid (Below w.heap.size w W1) := HB.out.trans (hb.mono HB.out.size)
  clear cR hb HB c0 hW0
  go_wp2_with (go_at_call 37; refine Stop.mk ?_)
  refine Stop.out ((cN W1).mono ?_)
  rintro e W2 ⟨p, ga, rfl, hK, hb2⟩
  have HB2 : Hid (Below w.heap.size w W2) := HB1.out.trans (hb2.mono HB1.out.size)
  have HK : Hid (Nk W2 p ga a) := hK
  clear hb2 HB1 cN hK
  unfold ptr
  go_wp2
  refine bodyPost_ret (v := .tuple #[.func (.func 63) #[] #[ptr p], .nilIface]) (by simp [results, Tryz.results17, go_sem, ptr]) rfl ⟨_, _, rfl, HK.out, HB2.out⟩

set_option maxRecDepth 100000 in
set_option maxHeartbeats 2000000 in
theorem match_name (w : World) (vr : Int) (hv : rB vr = 2) (hv2 : rC vr = true) (key a v : ByteArray) (hk : key.size ≤ 2097152) (hk0 : key.size ≠ 0) (hg : grp key = [a]) (has : a.size ≤ 2097152) (hvs : v.size ≤ 2097152) (hR : Rt w) : Calls Tryz.prog 6 #[.int .i64 vr, .string key, .string v] w fun e w' => e = .returned (.tuple #[.bool ((Sp.spB v).any (fun u => decide (a.size = 0) || (grp u).any (fits a))), .nilIface]) ∧ Below w.heap.size w w' := by
  have cM := matcher_name w vr hv key a hk hk0 hg hR
  have cR := fun W h => ruleOf_any W vr h
  rw [hv2] at cR
  have cS := fun W => Sp.str_split v W (by omega)
  have hlen := Sp.spB_len v
  have hsz := spB_size v
  have cC := fun W p ga (h : Nk W p ga a) u (hu : u ∈ Sp.spB v) => clos63 W p ga a u h has (by have := hsz u hu; omega)
  obtain ⟨M, hM⟩ : ∃ M : ByteArray → Bool, (fun u => decide (a.size = 0) || (grp u).any (fits a)) = M := ⟨_, rfl⟩
  rw [hM]
  have eM := fun u => congrFun hM u
  generalize Sp.spB v = xs at *
  obtain ⟨Z, hZ⟩ : ∃ Z, xs.any M = Z := ⟨_, rfl⟩
  have HZ : Hid (xs.any M = Z) := hZ
  rw [hZ]
  clear hZ
  have HR : Hid (Rt w) := hR
  have HC : Hid (∀ W p ga, Nk W p ga a → ∀ u ∈ xs, Calls Tryz.prog 63 #[.string u, ptr p] W (BoolP W (M u))) := fun W p ga h u hu => by rw [← eM u]; exact cC W p ga h u hu
  clear eM hM
  clear hR hsz hk hk0 cC hv hv2 hg has
  go_enter Tryz.func6, Tryz.ntmps6
  go_wp2_with (go_at_call 17; refine Stop.mk ?_)
  refine Stop.out (cM.mono ?_)
  rintro e W1 ⟨p, ga, rfl, hp, hb1⟩
  have HB1 : Hid (Below w.heap.size w W1) := hb1
  have HK : Hid (Nk W1 p ga a) := hp
  have cr := cR W1 (HR.out.on hb1)
  clear hb1 cM cR HR hp
  unfold ptr
  go_wp2_with (go_at_call 18; refine Stop.mk ?_)
  refine Stop.out (cr.mono ?_)
  rintro e W2 ⟨rfl, hb2⟩
  have hf := field1 W2 (rB vr) true
  have HB2 : Hid (Below w.heap.size w W2) := HB1.out.trans (hb2.mono HB1.out.size)
  have HK2 : Hid (Nk W2 p ga a) := HK.out.on (Nat.le_refl _) hb2
  clear HB1 HK hb2 cr
  go_wp2_with (go_at_call 20; refine Stop.mk ?_)
  refine Stop.out ((cS W2).mono ?_)
  rintro e W3 ⟨rfl, hw3⟩
  have hb3 : Below W2.heap.size W2 W3 := hw3 ▸ (Below.refl _ _).alloc (Nat.le_refl _) _
  have HK3 : Hid (Nk W3 p ga a) := HK2.out.on (Nat.le_refl _) hb3
  have HB3 : Hid (Below w.heap.size w W3) := HB2.out.trans (hb3.mono HB2.out.size)
  have cc := contains63 W3 W2.heap.size xs.length xs (by omega) (cells_of hw3) p M (fun W' hb u hu => HC.out W' p ga (HK3.out.on (Nat.le_refl _) hb) u hu)
  unfold ptr at cc
  rw [HZ.out] at cc
  clear HK2 HB2 hb3 cS hw3 HK3 HC
  generalize xs.length = n at *
  go_wp2_with (go_at_call 19; refine Stop.mk ?_)
  refine Stop.out (cc.mono ?_)
  rintro e W4 ⟨rfl, hb4⟩
  have HB4 : Hid (Below w.heap.size w W4) := HB3.out.trans (hb4.mono HB3.out.size)
  clear hb4 cc HB3
  go_wp2
  refine bodyPost_ret (v := .tuple #[.bool Z, .nilIface]) (by simp [results, Tryz.results6, go_sem]) rfl ⟨rfl, HB4.out⟩

/-- The law's name. -/
theorem match_smith (w : World) (hR : Rt w) : Calls Tryz.prog 6 #[.int .i64 15, .string ⟨#[83, 77, 73, 84, 72, 94, 106, 111, 42]⟩, .string ⟨#[83, 109, 105, 116, 104, 94, 74, 111, 104, 110, 94, 94, 68, 114]⟩] w fun e w' => e = .returned (.tuple #[.bool true, .nilIface]) ∧ Below w.heap.size w w' := by
  have c := match_name w 15 (by kernel_rfl) (by kernel_rfl) ⟨#[83, 77, 73, 84, 72, 94, 106, 111, 42]⟩ ⟨#[115, 109, 105, 116, 104, 94, 106, 111, 42]⟩ ⟨#[83, 109, 105, 116, 104, 94, 74, 111, 104, 110, 94, 94, 68, 114]⟩ (by decide) (by decide) (by kernel_rfl) (by decide) (by decide) hR
  have e : ((Sp.spB ⟨#[83, 109, 105, 116, 104, 94, 74, 111, 104, 110, 94, 94, 68, 114]⟩).any (fun u => decide ((⟨#[115, 109, 105, 116, 104, 94, 106, 111, 42]⟩ : ByteArray).size = 0) || (grp u).any (fits ⟨#[115, 109, 105, 116, 104, 94, 106, 111, 42]⟩))) = true := by kernel_rfl
  rw [e] at c
  exact c
/-- The law's list. -/
theorem match_ct (w : World) (hR : Rt w) : Calls Tryz.prog 6 #[.int .i64 4, .string ⟨#[77, 82]⟩, .string ⟨#[67, 84, 92, 77, 82]⟩] w fun e w' => e = .returned (.tuple #[.bool true, .nilIface]) ∧ Below w.heap.size w w' := by
  have c := match_pat w 4 (by kernel_rfl) (by kernel_rfl) ⟨#[77, 82]⟩ ⟨#[67, 84, 92, 77, 82]⟩ (by decide) (by decide) (by decide) hR
  have e : ((Sp.spB ⟨#[67, 84, 92, 77, 82]⟩).any (fits ⟨#[77, 82]⟩)) = true := by kernel_rfl
  rw [e] at c
  exact c
end Go.Proofs.YtehgeninocbpeaaGreatDoor.Tm
