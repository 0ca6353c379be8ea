import Derived.Test.YtpnmnjelppnfoaaGreatNobI
namespace Go.Proofs.YtpnmnjelppnfoaaGreat
open Go.RowKit Go.Shelf
attribute [local go_sem] Oper.semAt_some

set_option maxRecDepth 100000 in
set_option maxHeartbeats 2000000 in
theorem nobody_true (a : Option Addr) (len cap : Nat) (w : World) (ho : IsOps w a len) :
    Calls Tryz.prog 3 #[.bool true, .slice a len cap] w fun e w' => e = .returned (.bool true) ∧ Below w.heap.size w w' := by
  refine (callsIn_wide (n := 6)).1 ?_
  refine callsIn_of_wp_marks Tryz.func3 rfl trivial ?_ rfl
  simp only [Tryz.ntmps3, List.size_toArray, List.length_cons, List.length_nil, Nat.reduceAdd, Nat.reduceSub, Array.replicate_succ, Array.replicate_zero, List.push_toArray, List.append_toArray, List.nil_append, List.cons_append]
  gi_wp2_with (first | (refine ⟨trivial, ?_⟩; gi_at_call 9; refine (callsIn_wide.2 (new_one _)).mono ?_; rintro e W1 ⟨b, m, rfl, hb1, hnb, hnm, hd⟩) | (refine ⟨trivial, ?_⟩; gi_at_call 10; refine (callsIn_wide.2 (create_a _ _ _ hd)).mono ?_; rintro e W2 ⟨rfl, hb2⟩))
  have hbw : Below (w.heap.size + 2) ((w.alloc (.cells #[.bool false] 4)).alloc (.cells #[.int .i64 0, .int .i64 0, .int .i64 0, .int .u64 0, .int .i64 0, .slice none 0 0, .map none, .map none, .slice none 0 0] 30)) W2 := by
    simp at hb1 hnb hnm
    exact hb1.trans (hb2.mono (by omega))
  have hn : Nob W2 (some ⟨w.heap.size + 1, 0, none⟩) := .inr ⟨_, rfl, (hbw.cell (p := ⟨w.heap.size + 1, 6, none⟩) (by simp)).trans (by simp)⟩
  have hin : In W2 (some ⟨w.heap.size + 1, 0, none⟩) := fun b e => by
    have h1 : w.heap.size + 1 = b := by simpa using e
    have h2 := hbw.size
    simp at h2
    omega
  have hres : W2.cell? ⟨w.heap.size, 0, none⟩ = some (.bool false) := (hbw.cell (p := ⟨w.heap.size, 0, none⟩) (by simp)).trans (by simp)
  have hfz : W2.frozen? ⟨w.heap.size, 0, none⟩ = false := (hbw.frozen (p := ⟨w.heap.size, 0, none⟩) (by simp)).trans (by simp)
  obtain ⟨p, hp⟩ : ∃ p : Option Addr, p = some ⟨w.heap.size + 1, 0, none⟩ := ⟨_, rfl⟩
  rw [← hp] at hn hin ⊢
  clear hp
  have hB0 : Below w.heap.size w W2 := (((Below.refl _ w).alloc (Nat.le_refl _) _).alloc (by simp) _).trans (hbw.mono (by omega))
  have hlt : w.heap.size < W2.heap.size := Nat.lt_of_lt_of_le (by simp; omega) hbw.size
  have ho2 := ho.below hB0 (Nat.le_refl _)
  clear hb1 hb2 hnb hnm hd hbw ho
  refine wpIn_loop (Inv a len cap w.heap.size p W2) (fun a' _ => len - (intOf (a'.tmps.toList.getD 8 undef)).toNat) ?_ ?_
  · exact ⟨0, Nat.zero_le _, rfl, rfl, rfl, rfl, rfl, Below.refl _ _, trivial⟩
  · rintro ⟨t, ds⟩ wr ⟨k, hk, hz, e1, e4, e5, e8, hB, hM⟩
    obtain ⟨u, rfl⟩ := frame_known t hz a len cap w.heap.size k p e1 e4 e5 e8
    clear hz e1 e4 e5 e8
    by_cases hkl : k < len
    · rcases ho2 with e0 | ⟨bo, oo, rfl, hml, hbo, hc⟩
      · omega
      obtain ⟨x0, x4, x5, x7, s1, s2, a3, a6, l3, c3, l6, c6, g0, g1, g2, g3, g4, g5, g6, g7⟩ := (hc k hkl).below hB hbo
      have hik : (k : Int) < (len : Int) := by omega
      unfold maxLen at hml
      gi_wp2_with fail
      have hst : St W2 p ds wr.heap.size s1 s2 x4 x5 x7 a3 l3 c3 a6 l6 c6 (wr.alloc (.cells #[.int .i64 x0, .string s1, .string s2, .slice a3 l3 c3, .int .i64 x4, .int .i64 x5, .slice a6 l6 c6, .int .i64 x7] 44)) := by
        have hba : Below wr.heap.size wr (wr.alloc (.cells #[.int .i64 x0, .string s1, .string s2, .slice a3 l3 c3, .int .i64 x4, .int .i64 x5, .slice a6 l6 c6, .int .i64 x7] 44)) := (Below.refl _ _).alloc (Nat.le_refl _) _
        have hnr : Nob wr p := hn.below hB hin
        have hir : In wr p := fun b e => Nat.lt_of_lt_of_le (hin b e) hB.size
        exact ⟨hB.trans (hba.mono hB.size), hM.below hba, hnr.below hba hir, fun b e => Nat.lt_of_lt_of_le (hir b e) hba.size, by simp, by simp, by simp, by simp, by simp, by simp, by simp, by simp⟩
      obtain ⟨V, hV⟩ : ∃ V, wr.alloc (.cells #[.int .i64 x0, .string s1, .string s2, .slice a3 l3 c3, .int .i64 x4, .int .i64 x5, .slice a6 l6 c6, .int .i64 x7] 44) = V := ⟨_, rfl⟩
      obtain ⟨B, hB'⟩ : ∃ B, wr.heap.size = B := ⟨_, rfl⟩
      rw [hV] at hst ⊢
      rw [hB'] at hst ⊢
      clear hV hB' g0 g1 g2 g3 g4 g5 g6 g7 hB hM hc
      have y1 := hst.c1
      have y2 := hst.c2
      have y3 := hst.c3
      have y4 := hst.c4
      have y5 := hst.c5
      have y6 := hst.c6
      have y7 := hst.c7
      gi_wp2_with (first | (refine ⟨trivial, ?_⟩; gi_at_call 11; refine (callsIn_wide.2 (quota_no _ _ _ hst.nob)).mono ?_; rintro e V' ⟨HE, rfl⟩; (first | (obtain ⟨v, rfl⟩ := HE) | subst HE)) | (refine ⟨trivial, ?_⟩; gi_at_call 12; refine (callsIn_wide.2 (fuse_no _ _ _ hst.nob)).mono ?_; rintro e V' ⟨HE, rfl⟩; (first | (obtain ⟨v, rfl⟩ := HE) | subst HE)) | (refine ⟨trivial, ?_⟩; gi_at_call 13; refine (callsIn_wide.2 (cut_no _ _ _ _ hst.nob hst.inn)).mono ?_; rintro e V' ⟨HE, hb⟩; (first | (obtain ⟨v, rfl⟩ := HE) | subst HE); replace hst := hst.next hb; clear y1 y2 y3 y4 y5 y6 y7; clear hb; have y1 := hst.c1; have y2 := hst.c2; have y3 := hst.c3; have y4 := hst.c4; have y5 := hst.c5; have y6 := hst.c6; have y7 := hst.c7) | (refine ⟨trivial, ?_⟩; gi_at_call 10; refine (callsIn_wide.2 (create_no _ _ _ hst.nob hst.inn)).mono ?_; rintro e V' ⟨HE, hb⟩; (first | (obtain ⟨v, rfl⟩ := HE) | subst HE); replace hst := hst.next hb; clear y1 y2 y3 y4 y5 y6 y7; clear hb; have y1 := hst.c1; have y2 := hst.c2; have y3 := hst.c3; have y4 := hst.c4; have y5 := hst.c5; have y6 := hst.c6; have y7 := hst.c7) | (refine ⟨trivial, ?_⟩; gi_at_call 14; refine (callsIn_wide.2 (append_no _ _ _ _ hst.nob hst.inn)).mono ?_; rintro e V' ⟨HE, hb⟩; (first | (obtain ⟨v, rfl⟩ := HE) | subst HE); replace hst := hst.next hb; clear y1 y2 y3 y4 y5 y6 y7; clear hb; have y1 := hst.c1; have y2 := hst.c2; have y3 := hst.c3; have y4 := hst.c4; have y5 := hst.c5; have y6 := hst.c6; have y7 := hst.c7) | (refine ⟨trivial, ?_⟩; gi_at_call 15; refine (callsIn_wide.2 (truncate_no _ _ _ _ hst.nob hst.inn)).mono ?_; rintro e V' ⟨HE, hb⟩; (first | (obtain ⟨v, rfl⟩ := HE) | subst HE); replace hst := hst.next hb; clear y1 y2 y3 y4 y5 y6 y7; clear hb; have y1 := hst.c1; have y2 := hst.c2; have y3 := hst.c3; have y4 := hst.c4; have y5 := hst.c5; have y6 := hst.c6; have y7 := hst.c7) | (refine ⟨trivial, ?_⟩; gi_at_call 16; refine (callsIn_wide.2 (sync_no _ _ _ hst.nob hst.inn)).mono ?_; rintro e V' ⟨HE, hb⟩; (first | (obtain ⟨v, rfl⟩ := HE) | subst HE); replace hst := hst.next hb; clear y1 y2 y3 y4 y5 y6 y7; clear hb; have y1 := hst.c1; have y2 := hst.c2; have y3 := hst.c3; have y4 := hst.c4; have y5 := hst.c5; have y6 := hst.c6; have y7 := hst.c7) | (refine ⟨trivial, ?_⟩; gi_at_call 17; refine (callsIn_wide.2 (rename_no _ _ _ _ hst.nob hst.inn)).mono ?_; rintro e V' ⟨HE, hb⟩; (first | (obtain ⟨v, rfl⟩ := HE) | subst HE); replace hst := hst.next hb; clear y1 y2 y3 y4 y5 y6 y7; clear hb; have y1 := hst.c1; have y2 := hst.c2; have y3 := hst.c3; have y4 := hst.c4; have y5 := hst.c5; have y6 := hst.c6; have y7 := hst.c7) | (refine ⟨trivial, ?_⟩; gi_at_call 18; refine (callsIn_wide.2 (remove_no _ _ _ hst.nob hst.inn)).mono ?_; rintro e V' ⟨HE, hb⟩; (first | (obtain ⟨v, rfl⟩ := HE) | subst HE); replace hst := hst.next hb; clear y1 y2 y3 y4 y5 y6 y7; clear hb; have y1 := hst.c1; have y2 := hst.c2; have y3 := hst.c3; have y4 := hst.c4; have y5 := hst.c5; have y6 := hst.c6; have y7 := hst.c7) | (refine ⟨trivial, ?_⟩; gi_at_call 19; refine (callsIn_wide.2 (syncDir_no _ _ hst.nob)).mono ?_; rintro e V' ⟨HE, rfl⟩; (first | (obtain ⟨v, rfl⟩ := HE) | subst HE)) | (refine ⟨trivial, ?_⟩; gi_at_call 20; refine (callsIn_wide.2 (read_no _ _ _ _ _ hst.nob hst.inn)).mono ?_; rintro e V' ⟨HE, hb⟩; (first | (obtain ⟨v, rfl⟩ := HE) | subst HE); replace hst := hst.next hb; clear y1 y2 y3 y4 y5 y6 y7; clear hb; have y1 := hst.c1; have y2 := hst.c2; have y3 := hst.c3; have y4 := hst.c4; have y5 := hst.c5; have y6 := hst.c6; have y7 := hst.c7) | (refine ⟨trivial, ?_⟩; gi_at_call 21; refine (callsIn_wide.2 (size_no _ _ _ hst.nob hst.inn)).mono ?_; rintro e V' ⟨HE, hb⟩; (first | (obtain ⟨v, rfl⟩ := HE) | subst HE); replace hst := hst.next hb; clear y1 y2 y3 y4 y5 y6 y7; clear hb; have y1 := hst.c1; have y2 := hst.c2; have y3 := hst.c3; have y4 := hst.c4; have y5 := hst.c5; have y6 := hst.c6; have y7 := hst.c7) | (refine ⟨trivial, ?_⟩; gi_at_call 22; refine (callsIn_wide.2 (used_no _ _ hst.nob)).mono ?_; rintro e V' ⟨HE, rfl⟩; (first | (obtain ⟨v, rfl⟩ := HE) | subst HE)))
      refine ⟨trivial, ?_⟩
      refine (callsIn_wide.2 (list_any p _)).mono ?_
      rintro e V2 ⟨rfl, rfl⟩
      have hba : Below V'.heap.size V' (V'.alloc (.cells #[.pointer p] 23)) := (Below.refl _ _).alloc (Nat.le_refl _) _
      have hst2 := hst.next hba
      have hcb : (V'.alloc (.cells #[.pointer p] 23)).cell? ⟨V'.heap.size, 0, none⟩ = some (.pointer p) := by simp
      have hlv : V'.heap.size < (V'.alloc (.cells #[.pointer p] 23)).heap.size := by simp
      clear y1 y2 y3 y4 y5 y6 y7
      gi_wp2
      refine wpIn_rangeFunc_never rfl (by decide) (gf := 55) (lb := #[.pointer (some ⟨V'.heap.size, 0, none⟩)]) rfl trivial enters55
        (fun l W hW => callsIn_wide.2 (list1_no l _ p W ((hW.cell (p := ⟨V'.heap.size, 0, none⟩) hlv).trans hcb) (hst2.nob.below hW hst2.inn))) ?_
      intro D W hW hD hK
      have hst3 := hst2.next hW
      have hmk3 := hst2.mks.cons hW hD hst2.bel.size hK
      have hbe3 := hst3.bel
      clear hba hcb hlv hst hst2 hst3 hW hD hK
      gi_wp2
      refine ⟨⟨k + 1, by omega, rfl, rfl, rfl, rfl, ?_, hbe3, hmk3⟩, ?_⟩
      · show Value.int IntKind.i64 ((k : Int) + 1) = Value.int IntKind.i64 ((k + 1 : Nat) : Int)
        simp
      · show len - (intOf (Value.int IntKind.i64 ((k : Int) + 1))).toNat < len - (intOf (Value.int IntKind.i64 (k : Int))).toNat
        simp [intOf]
        omega
    · have hki : ¬ (k : Int) < (len : Int) := by omega
      have hnr : Nob wr p := hn.below hB hin
      have hir : In wr p := fun b e => Nat.lt_of_lt_of_le (hin b e) hB.size
      have hr1 := (hB.cell (p := ⟨w.heap.size, 0, none⟩) hlt).trans hres
      have hr2 := (hB.frozen (p := ⟨w.heap.size, 0, none⟩) hlt).trans hfz
      have hzr : w.heap.size < wr.heap.size := Nat.lt_of_lt_of_le hlt hB.size
      have HB : Hid (Below W2.heap.size W2 wr) := hB
      have HM : Hid (Marks W2.heap.size ds wr) := hM
      clear hB hM hres hfz
      gi_wp2_with (first | (refine ⟨trivial, ?_⟩; gi_at_call 25; refine (callsIn_wide.2 (image_no _ _ hnr hir)).mono ?_; rintro e V1 ⟨rfl, hv1⟩) | (refine ⟨trivial, ?_⟩; gi_at_call 24; refine (callsIn_wide.2 (same_zero _)).mono ?_; rintro e V2 ⟨rfl, hv2⟩; have hz1 : w.heap.size < V1.heap.size := Nat.lt_of_lt_of_le hzr hv1.size; have q1 := (hv2.cell (p := ⟨w.heap.size, 0, none⟩) hz1).trans ((hv1.cell (p := ⟨w.heap.size, 0, none⟩) hzr).trans hr1); have q2 := (hv2.frozen (p := ⟨w.heap.size, 0, none⟩) hz1).trans ((hv1.frozen (p := ⟨w.heap.size, 0, none⟩) hzr).trans hr2)))
      have hmk : Marks W2.heap.size ds (V2.setCell ⟨w.heap.size, 0, none⟩ (.bool true)) := ((HM.out.below hv1).below hv2).keep fun d hd D e => by
        obtain ⟨D', e', hge, _⟩ := HM.out.mem d hd
        obtain rfl : D' = D := by rw [e] at e'; simpa using e'.symm
        exact Below.heap_setCell _ _ _ _ (by simp; omega)
      have hfin : Below w.heap.size w (V2.setCell ⟨w.heap.size, 0, none⟩ (.bool true)) :=
        (((hB0.trans (HB.out.mono hB0.size)).trans (hv1.mono (by omega))).trans (hv2.mono (by omega))).setCell (p := ⟨w.heap.size, 0, none⟩) (Nat.le_refl _) _
      refine leavesM_marks ds _ hmk ?_
      intro W' hb
      have hres' : W'.cell? ⟨w.heap.size, 0, none⟩ = some (.bool true) := (hb.cell (p := ⟨w.heap.size, 0, none⟩) hlt).trans (cell_set_eq q1)
      exact ⟨.bool true, by simp [results, Tryz.results3, go_sem, hres'], rfl, hfin.trans (hb.mono (by omega))⟩

end Go.Proofs.YtpnmnjelppnfoaaGreat
