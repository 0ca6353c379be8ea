import Derived.Test.YtohojghndnfgdaaGreatDoorPa
/-
  DERIVED. strings.Cut at one byte.
-/
namespace Go.Proofs.YtohojghndnfgdaaGreatDoor
open Go Go.Proofs Go.RowKit

set_option maxRecDepth 100000 in
set_option maxHeartbeats 1000000 in
theorem index_one (w : World) (u : ByteArray) : Calls Tryz.prog 63 #[.string u, .string ⟨#[61]⟩] w fun e w' => e = .returned (.int .i64 (Lib.indexByte u.data.toList 61)) ∧ w = w' := by
  by_cases hu : u = ⟨#[61]⟩
  · subst hu
    have e0 : Lib.indexByte (⟨#[61]⟩ : ByteArray).data.toList 61 = 0 := by decide
    rw [e0]
    go_enter Tryz.func63, Tryz.ntmps63
    go_wp2
    go_ret
    exact ⟨rfl, rfl⟩
  · have c := idx41_any w u 61
    have hne : ((⟨#[61]⟩ : ByteArray).toList == u.toList) = false := by
      rw [ByteArray.toList_eq, ByteArray.toList_eq, beq_eq_false_iff_ne]
      intro h
      refine hu ?_
      cases u with
      | mk d => exact congrArg _ (Array.toList_inj.1 h.symm)
    obtain ⟨bb, hb⟩ : ∃ bb, ((⟨#[61]⟩ : ByteArray).toList == u.toList) = bb := ⟨_, rfl⟩
    have hs61 : (⟨#[61]⟩ : ByteArray).toList = [61] := by rw [ByteArray.toList_eq]
    rw [hs61] at hne
    have hne2 : (u.toList == [61]) = false := by rw [beq_eq_false_iff_ne] at hne ⊢; exact fun h => hne h.symm
    change Calls Tryz.prog 81 #[.string u, .int .u8 61] w (fun e w' => e = .returned (.int .i64 (Lib.indexByte u.data.toList 61)) ∧ w = w') at c
    generalize Lib.indexByte u.data.toList 61 = I at *
    clear hb hs61 hu
    go_enter Tryz.func63, Tryz.ntmps63
    go_wp2_with (go_at_call 81; refine Stop.mk ?_)
    refine Stop.out (c.mono ?_)
    rintro e W ⟨rfl, rfl⟩
    go_wp2
    go_ret
    exact ⟨rfl, rfl⟩

def PostC (w : World) (u : ByteArray) (e : Ending) (w' : World) : Prop := ∃ r, e = .returned (.tuple #[.string (u.extract 0 (fx u 61 0)), .string r, .bool (decide (fx u 61 0 < u.size))]) ∧ Below w.heap.size w w'

set_option maxRecDepth 100000 in
set_option maxHeartbeats 1000000 in
theorem cut23_any (w : World) (u : ByteArray) (hs : u.size ≤ 140737488351232) : Calls Tryz.prog 42 #[.string u, .string ⟨#[61]⟩] w (PostC w u) := by
  have c := index_one w u
  rcases idx_fx u 61 with ⟨h1, h2⟩ | ⟨k, h1, hk, h2⟩
  · rw [h1] at c
    change fx u 61 0 = u.size at h2
    have he : u.extract 0 (fx u 61 0) = u := by rw [h2]; exact ByteArray.extract_zero_size
    have HE : Hid (u.extract 0 (fx u 61 0) = u ∧ decide (fx u 61 0 < u.size) = false) := ⟨he, decide_eq_false (by omega)⟩
    clear h1 h2 he
    go_enter Tryz.func42, Tryz.ntmps42
    go_wp2_with (go_at_call 63; refine Stop.mk ?_)
    refine Stop.out (c.mono ?_)
    rintro e W ⟨rfl, rfl⟩
    clear c
    go_wp2
    refine bodyPost_ret (v := .tuple #[.string u, .string ⟨#[]⟩, .bool false]) (by simp [results, Tryz.results42, go_sem]) rfl ⟨⟨#[]⟩, by rw [HE.out.1, HE.out.2], Below.refl _ _⟩
  · rw [h1] at c
    change fx u 61 0 = k at h2
    have HE : Hid (fx u 61 0 = k ∧ decide (fx u 61 0 < u.size) = true) := ⟨h2, decide_eq_true (by omega)⟩
    have b0 : (0 : Int) ≤ (k : Int) := by omega
    have b1 : (k : Int) ≤ (u.size : Int) := by omega
    have b2 : (k : Int) + 1 ≤ (u.size : Int) := by omega
    clear h1 h2
    go_enter Tryz.func42, Tryz.ntmps42
    go_wp2_with (go_at_call 63; refine Stop.mk ?_)
    refine Stop.out (c.mono ?_)
    rintro e W ⟨rfl, rfl⟩
    clear c
    go_wp2
    go_quiet (fail)
    go_wp2
    refine bodyPost_ret (v := .tuple #[.string (u.extract 0 k), .string (u.extract (k + 1) u.size), .bool true]) (by simp [results, Tryz.results42, go_sem]) rfl ⟨_, by rw [HE.out.2, HE.out.1], below_drewN (Below.refl _ _) _⟩

theorem cut10_any (w : World) (u : ByteArray) (hs : u.size ≤ 140737488351232) : Calls Tryz.prog 20 #[.string u, .string ⟨#[61]⟩] w (PostC w u) := by
  have c := cut23_any w u hs
  go_enter Tryz.func20, Tryz.ntmps20
  go_wp2_with (go_at_call 42; refine Stop.mk ?_)
  refine Stop.out (c.mono ?_)
  rintro e W ⟨r, rfl, hb⟩
  have HB : Hid (Below w.heap.size w W) := hb
  clear hb c
  obtain ⟨g, hg⟩ : ∃ g, u.extract 0 (fx u 61 0) = g := ⟨_, rfl⟩
  obtain ⟨d, hd⟩ : ∃ d, decide (fx u 61 0 < u.size) = d := ⟨_, rfl⟩
  rw [hd, hg]
  have HG : Hid (u.extract 0 (fx u 61 0) = g) := hg
  have HD : Hid (decide (fx u 61 0 < u.size) = d) := hd
  clear hg hd
  go_wp2
  refine bodyPost_ret (v := .tuple #[.string g, .string r, .bool d]) (by simp [results, Tryz.results20, go_sem]) rfl ⟨r, by rw [HG.out, HD.out], HB.out⟩
end Go.Proofs.YtohojghndnfgdaaGreatDoor
