import Derived.Test.YtdggplhkeekdjaaGreatDoorNp
/-
  DERIVED. copyConfig.
-/
namespace Go.Proofs.YtdggplhkeekdjaaGreatDoor.Ck
open Go Go.Proofs Go.RowKit

theorem own_set {W : World} {base b i : Nat} {e : TypeId} {size : Nat} {v u : Value} {n : Nat} {xs : List Value} (h : W.ownsRow base e size v n xs) (hb : b < base) : (W.setCell ⟨b, i, none⟩ u).ownsRow base e size v n xs :=
  Wk.own_keep h fun g hg => Below.heap_setCell _ _ _ g (fun e => by have := (h.lt g hg).1; simp at e; omega)
set_option maxRecDepth 100000 in
set_option maxHeartbeats 4000000 in
theorem copy_any (w : World) (t c : ByteArray) (ao bo : Option Addr) (n cp m dp : Nat) (mo ar : Int) (T : List ByteArray) (l : List Int) (hn : T.length = n) (hm : l.length = m) (hT : TxD w ao T) (hl : IxD w bo l)
    (hao : ao = none → n = 0 ∧ cp = 0) (hbo : bo = none → m = 0 ∧ dp = 0) (hN : n * 16 ≤ 140737488355328) (hM : m * 8 ≤ 140737488355328) :
    Calls Tryz.prog 8 #[.agg #[.string t, .string c, .slice ao n cp, .slice bo m dp, .int .u32 mo, .int .i64 ar]] w fun e w' => ∃ ao' cp' bo' dp', e = .returned (.agg #[.string t, .string c, .slice ao' n cp', .slice bo' m dp', .int .u32 mo, .int .i64 ar]) ∧ w'.ownsRow w.heap.size 9 1 (.slice ao' n cp') n (Sp.u8s T) ∧ w'.ownsRow w.heap.size 48 1 (.slice bo' m dp') m (i8s l) ∧ Below w.heap.size w w' := by
  have HT : Hid (TxD w ao T) := hT
  have HL : Hid (IxD w bo l) := hl
  have HN : Hid (T.length = n ∧ n * 16 ≤ 140737488355328 ∧ (ao = none → n = 0 ∧ cp = 0)) := ⟨hn, hN, hao⟩
  have HM : Hid (l.length = m ∧ m * 8 ≤ 140737488355328 ∧ (bo = none → m = 0 ∧ dp = 0)) := ⟨hm, hM, hbo⟩
  clear hn hm hT hl hao hbo hN hM
  obtain ⟨W0, hW0⟩ : ∃ W0, ((w.alloc (.cells #[.string t, .string c, .slice ao n cp, .slice bo m dp, .int .u32 mo, .int .i64 ar] 26)).alloc (.cells #[.string { data := #[] }, .string { data := #[] }, .slice none 0 0, .slice none 0 0, .int .u32 0, .int .i64 0] 26)).alloc (.cells #[.string t, .string c, .slice ao n cp, .slice bo m dp, .int .u32 mo, .int .i64 ar] 26) = W0 := ⟨_, rfl⟩
  have K0 : Hid (Bk W0 w.heap.size #[.string t, .string c, .slice ao n cp, .slice bo m dp, .int .u32 mo, .int .i64 ar] 26 ∧ Bk W0 (w.heap.size + 1) #[.string { data := #[] }, .string { data := #[] }, .slice none 0 0, .slice none 0 0, .int .u32 0, .int .i64 0] 26 ∧ Bk W0 (w.heap.size + 1 + 1) #[.string t, .string c, .slice ao n cp, .slice bo m dp, .int .u32 mo, .int .i64 ar] 26 ∧ Below w.heap.size w W0) := by
    subst hW0
    refine ⟨((Bk.new w _ _).alloc _).alloc _, ?_, ?_, (((Below.refl _ _).alloc (Nat.le_refl _) _).alloc (by simp) _).alloc (by simp; omega) _⟩
    · have := (Bk.new (w.alloc (.cells #[.string t, .string c, .slice ao n cp, .slice bo m dp, .int .u32 mo, .int .i64 ar] 26)) #[.string { data := #[] }, .string { data := #[] }, .slice none 0 0, .slice none 0 0, .int .u32 0, .int .i64 0] 26).alloc (.cells #[.string t, .string c, .slice ao n cp, .slice bo m dp, .int .u32 mo, .int .i64 ar] 26)
      simpa using this
    · have := Bk.new ((w.alloc (.cells #[.string t, .string c, .slice ao n cp, .slice bo m dp, .int .u32 mo, .int .i64 ar] 26)).alloc (.cells #[.string { data := #[] }, .string { data := #[] }, .slice none 0 0, .slice none 0 0, .int .u32 0, .int .i64 0] 26)) #[.string t, .string c, .slice ao n cp, .slice bo m dp, .int .u32 mo, .int .i64 ar] 26
      simpa using this
  have HW : Hid (_ = W0) := hW0
  clear hW0
  go_enter Tryz.func8, Tryz.ntmps8
  go_wp2_with (first | (at_builtin; refine Stop.mk ?_))
  rw [HW.out]
  clear HW
  have hT0 := HT.out.on K0.out.2.2.2
  refine Stop.out (app_texts rfl (.tmp 6) rfl ao n cp T rfl HN.out.1 hT0 HN.out.2.2 HN.out.2.1 (fun ao' cp' W1 ho1 hb1 => ?_))
  obtain ⟨k0, k1, k2, kb⟩ := K0.out
  have f2 := (k2.on hb1).fz 2
  have c2 := (k2.on hb1).cell (i := 2) (v := .slice ao n cp) rfl
  have c3 := (k0.on hb1).cell (i := 3) (v := .slice bo m dp) rfl
  have n1 : w.heap.size + 1 + 1 ≠ w.heap.size := by omega
  have n2 : w.heap.size + 1 + 1 ≠ w.heap.size + 1 := by omega
  have K1 : Hid (Bk (W1.setCell ⟨w.heap.size + 1 + 1, 2, none⟩ (.slice ao' n cp')) w.heap.size #[.string t, .string c, .slice ao n cp, .slice bo m dp, .int .u32 mo, .int .i64 ar] 26 ∧ Bk (W1.setCell ⟨w.heap.size + 1 + 1, 2, none⟩ (.slice ao' n cp')) (w.heap.size + 1) #[.string { data := #[] }, .string { data := #[] }, .slice none 0 0, .slice none 0 0, .int .u32 0, .int .i64 0] 26 ∧ Bk (W1.setCell ⟨w.heap.size + 1 + 1, 2, none⟩ (.slice ao' n cp')) (w.heap.size + 1 + 1) #[.string t, .string c, .slice ao' n cp', .slice bo m dp, .int .u32 mo, .int .i64 ar] 26 ∧ Below w.heap.size w (W1.setCell ⟨w.heap.size + 1 + 1, 2, none⟩ (.slice ao' n cp')) ∧ (W1.setCell ⟨w.heap.size + 1 + 1, 2, none⟩ (.slice ao' n cp')).ownsRow (w.heap.size + 1 + 1 + 1) 9 1 (.slice ao' n cp') n (Sp.u8s T)) :=
    ⟨(k0.on hb1).off n1 _, (k1.on hb1).off n2 _, (k2.on hb1).set 2 _, (kb.trans (hb1.mono kb.size)).setCell (p := ⟨w.heap.size + 1 + 1, 2, none⟩) (show w.heap.size ≤ w.heap.size + 1 + 1 by omega) _, own_set (Wk.own_base ho1 k2.lt) (by omega)⟩
  clear ho1 hb1 K0 k0 k1 k2 kb hT0
  go_wp2_with (first | (at_builtin; refine Stop.mk ?_))
  generalize W1.setCell ⟨w.heap.size + 1 + 1, 2, none⟩ (.slice ao' n cp') = X at *
  clear c2 c3 f2
  have hL0 := HL.out.on K1.out.2.2.2.1
  refine Stop.out (app_ints rfl (.tmp 10) rfl bo m dp l rfl HM.out.1 hL0 HM.out.2.2 HM.out.2.1 (fun bo' dp' W2 ho2 hb2 => ?_))
  obtain ⟨k0, k1, k2, kb, ko⟩ := K1.out
  have f3 := (k2.on hb2).fz
  have d0 := (k2.on hb2).cell (i := 0) (v := .string t) rfl
  have d1 := (k2.on hb2).cell (i := 1) (v := .string c) rfl
  have d2 := (k2.on hb2).cell (i := 2) (v := .slice ao' n cp') rfl
  have d3 := (k2.on hb2).cell (i := 3) (v := .slice bo m dp) rfl
  have d4 := (k2.on hb2).cell (i := 4) (v := .int .u32 mo) rfl
  have d5 := (k2.on hb2).cell (i := 5) (v := .int .i64 ar) rfl
  have g3 := (k1.on hb2).fz
  have e0 := (k1.on hb2).cell (i := 0) (v := .string { data := #[] }) rfl
  have e1 := (k1.on hb2).cell (i := 1) (v := .string { data := #[] }) rfl
  have e2 := (k1.on hb2).cell (i := 2) (v := .slice none 0 0) rfl
  have e3 := (k1.on hb2).cell (i := 3) (v := .slice none 0 0) rfl
  have e4 := (k1.on hb2).cell (i := 4) (v := .int .u32 0) rfl
  have e5 := (k1.on hb2).cell (i := 5) (v := .int .i64 0) rfl
  have HB2 : Hid (Below w.heap.size w W2 ∧ w.heap.size + 1 + 1 < X.heap.size) := ⟨kb.trans (hb2.mono kb.size), k2.lt⟩
  have HO2 : Hid (W2.ownsRow (w.heap.size + 1 + 1 + 1) 48 1 (.slice bo' m dp') m (i8s l)) := Wk.own_base ho2 k2.lt
  have HO1 : Hid (W2.ownsRow (w.heap.size + 1 + 1 + 1) 9 1 (.slice ao' n cp') n (Sp.u8s T)) := Wk.own_keep ko (fun g hg => hb2.block g (ko.lt g hg).2)
  clear k0 k1 k2 kb ko ho2 hb2 hL0 K1 HT HL HM HN
  go_wp2
  have l1 : w.heap.size + 1 < w.heap.size + 1 + 1 + 1 := by omega
  have l2 : w.heap.size + 1 + 1 < w.heap.size + 1 + 1 + 1 := by omega
  refine bodyPost_ret (v := .agg #[.string t, .string c, .slice ao' n cp', .slice bo' m dp', .int .u32 mo, .int .i64 ar]) (by simp [results, Tryz.results8, go_sem, e0, e1, e2, e3, e4, e5]) rfl ⟨ao', cp', bo', dp', rfl, ?_, ?_, ?_⟩
  · exact Wk.own_base (own_set (own_set (own_set (own_set (own_set (own_set (own_set HO1.out l2) l1) l1) l1) l1) l1) l1) (by omega)
  · exact Wk.own_base (own_set (own_set (own_set (own_set (own_set (own_set (own_set HO2.out l2) l1) l1) l1) l1) l1) l1) (by omega)
  · have q1 : w.heap.size ≤ w.heap.size + 1 := by omega
    have q2 : w.heap.size ≤ w.heap.size + 1 + 1 := by omega
    exact ((((((HB2.out.1.setCell (p := ⟨w.heap.size + 1 + 1, 3, none⟩) q2 _).setCell (p := ⟨w.heap.size + 1, 0, none⟩) q1 _).setCell (p := ⟨w.heap.size + 1, 1, none⟩) q1 _).setCell (p := ⟨w.heap.size + 1, 2, none⟩) q1 _).setCell (p := ⟨w.heap.size + 1, 3, none⟩) q1 _).setCell (p := ⟨w.heap.size + 1, 4, none⟩) q1 _).setCell (p := ⟨w.heap.size + 1, 5, none⟩) q1 _
end Go.Proofs.YtdggplhkeekdjaaGreatDoor.Ck

/-
  DERIVED. slices.Clone of both kinds.
-/
namespace Go.Proofs.YtdggplhkeekdjaaGreatDoor.Ck
open Go Go.Proofs Go.RowKit

set_option maxRecDepth 100000 in
set_option maxHeartbeats 4000000 in
theorem cloneS_any (w : World) (ao : Option Addr) (n cp : Nat) (T : List ByteArray) (hn : T.length = n) (hT : TxD w ao T) (hao : ao = none → n = 0 ∧ cp = 0) (hN : n * 16 ≤ 140737488355328) :
    Calls Tryz.prog 19 #[.slice ao n cp] w fun e w' => (∃ a' n' cp', e = .returned (.slice a' n' cp')) ∧ Below w.heap.size w w' := by
  cases ao with
  | none =>
    obtain ⟨rfl, rfl⟩ := hao rfl
    have he : ∀ W, (binOp .eql 22 (.slice none 0 0) (.slice none 0 0)).run Tryz.prog W = .ok (.bool true) W := fun W => by kernel_rfl
    go_enter Tryz.func19, Tryz.ntmps19
    go_wp2
    go_ret
    exact ⟨⟨_, _, _, rfl⟩, Below.refl _ _⟩
  | some ad =>
    obtain ⟨i0, hi, hz⟩ := Option.map_eq_some_iff.1 infoS
    obtain ⟨hz0, hz1, hz2⟩ : i0.zero = some (.string { data := #[] }) ∧ i0.size = 1 ∧ i0.bytes = 16 := by simpa using hz
    have HI : Hid (Tryz.prog.info? 9 = some i0 ∧ i0.zero = some (.string { data := #[] }) ∧ i0.size = 1 ∧ i0.bytes = 16) := ⟨hi, hz0, hz1, hz2⟩
    have HN : Hid (T.length = n ∧ n * 16 ≤ 140737488355328) := ⟨hn, hN⟩
    have HT : Hid (TxD w (some ad) T) := hT
    clear hn hN hT hi hz hz0 hz1 hz2 hao
    have he : ∀ W, (binOp .eql 22 (.slice (some ad) n cp) (.slice none 0 0)).run Tryz.prog W = .ok (.bool false) W := fun W => by kernel_rfl
    go_enter Tryz.func19, Tryz.ntmps19
    go_wp2_with (first | (at_builtin; refine Stop.mk ?_))
    have hb0 : Below w.heap.size w (w.alloc (.cells #[] 9)) := (Below.refl _ _).alloc (Nat.le_refl _) _
    have ho : (w.alloc (.cells #[] 9)).ownsRow w.heap.size 9 1 (.slice (some ⟨w.heap.size, 0, none⟩) 0 0) 0 [] := ⟨rfl, .inr ⟨w.heap.size, 0, #[], rfl, Nat.le_refl _, Bk.new w _ _, Nat.le_refl _, Nat.zero_le _, rfl, rfl⟩⟩
    have hT0 := HT.out.on hb0
    generalize w.alloc (.cells #[] 9) = W0 at *
    refine Stop.out (wpList_append_own _ rfl (.tmp 5) (.tmp 6) 22 rfl w.heap.size 9 i0 _ 1 16 Tryz.underlying22 HI.out.1 HI.out.2.1 HI.out.2.2.1 HI.out.2.2.2 rfl (by decide) (.slice (some ⟨w.heap.size, 0, none⟩) 0 0) 0 [] rfl ho ad n cp (Sp.u8s T) rfl (by rw [Sp.u8s_length, HN.out.1, Nat.mul_one]) (fun j u hu => ?_) (fun u hu => ?_) (by have := HN.out.2; simp only [maxLen]; omega) (by have := HN.out.2; omega) hb0.size (fun v' w' h1 h2 _ => ?_))
    · have hj : j < T.length := by rw [← Sp.u8s_length]; exact (List.getElem?_eq_some_iff.1 hu).1
      obtain ⟨g, o', e1, e2⟩ := hT0 j hj
      obtain rfl : ad = ⟨g, o', none⟩ := by simpa using e1
      rw [Sp.u8s_getE T j hj] at hu
      rw [← hu, add_eq]
      exact e2
    · obtain ⟨t, _, rfl⟩ := List.mem_map.1 hu
      rfl
    · obtain ⟨a', cp', rfl⟩ := own_form h1
      have HB : Hid (Below w.heap.size w w') := hb0.grown h2 hb0.size (fun k e => by simp [Value.ownBlock] at e; omega)
      clear h1 h2 ho hT0 hb0
      go_wp2
      go_ret
      exact ⟨⟨_, _, _, rfl⟩, HB.out⟩
set_option maxRecDepth 100000 in
set_option maxHeartbeats 4000000 in
theorem cloneI_any (w : World) (ao : Option Addr) (n cp : Nat) (l : List Int) (hn : l.length = n) (hT : IxD w ao l) (hao : ao = none → n = 0 ∧ cp = 0) (hN : n * 8 ≤ 140737488355328) :
    Calls Tryz.prog 20 #[.slice ao n cp] w fun e w' => (∃ a' n' cp', e = .returned (.slice a' n' cp')) ∧ Below w.heap.size w w' := by
  cases ao with
  | none =>
    obtain ⟨rfl, rfl⟩ := hao rfl
    have he : ∀ W, (binOp .eql 23 (.slice none 0 0) (.slice none 0 0)).run Tryz.prog W = .ok (.bool true) W := fun W => by kernel_rfl
    go_enter Tryz.func20, Tryz.ntmps20
    go_wp2
    go_ret
    exact ⟨⟨_, _, _, rfl⟩, Below.refl _ _⟩
  | some ad =>
    obtain ⟨i0, hi, hz⟩ := Option.map_eq_some_iff.1 infoY
    obtain ⟨hz0, hz1, hz2⟩ : i0.zero = some (.int .i64 0) ∧ i0.size = 1 ∧ i0.bytes = 8 := by simpa using hz
    have HI : Hid (Tryz.prog.info? 48 = some i0 ∧ i0.zero = some (.int .i64 0) ∧ i0.size = 1 ∧ i0.bytes = 8) := ⟨hi, hz0, hz1, hz2⟩
    have HN : Hid (l.length = n ∧ n * 8 ≤ 140737488355328) := ⟨hn, hN⟩
    have HT : Hid (IxD w (some ad) l) := hT
    clear hn hN hT hi hz hz0 hz1 hz2 hao
    have he : ∀ W, (binOp .eql 23 (.slice (some ad) n cp) (.slice none 0 0)).run Tryz.prog W = .ok (.bool false) W := fun W => by kernel_rfl
    go_enter Tryz.func20, Tryz.ntmps20
    go_wp2_with (first | (at_builtin; refine Stop.mk ?_))
    have hb0 : Below w.heap.size w (w.alloc (.cells #[] 48)) := (Below.refl _ _).alloc (Nat.le_refl _) _
    have ho : (w.alloc (.cells #[] 48)).ownsRow w.heap.size 48 1 (.slice (some ⟨w.heap.size, 0, none⟩) 0 0) 0 [] := ⟨rfl, .inr ⟨w.heap.size, 0, #[], rfl, Nat.le_refl _, Bk.new w _ _, Nat.le_refl _, Nat.zero_le _, rfl, rfl⟩⟩
    have hT0 := HT.out.on hb0
    generalize w.alloc (.cells #[] 48) = W0 at *
    refine Stop.out (wpList_append_own _ rfl (.tmp 5) (.tmp 6) 23 rfl w.heap.size 48 i0 _ 1 8 Tryz.underlying23 HI.out.1 HI.out.2.1 HI.out.2.2.1 HI.out.2.2.2 rfl (by decide) (.slice (some ⟨w.heap.size, 0, none⟩) 0 0) 0 [] rfl ho ad n cp (i8s l) rfl (by simp [i8s, HN.out.1]) (fun j u hu => ?_) (fun u hu => ?_) (by have := HN.out.2; simp only [maxLen]; omega) (by have := HN.out.2; omega) hb0.size (fun v' w' h1 h2 _ => ?_))
    · have hj : j < l.length := by have := (List.getElem?_eq_some_iff.1 hu).1; simpa [i8s] using this
      obtain ⟨g, o', e1, e2⟩ := hT0 j hj
      obtain rfl : ad = ⟨g, o', none⟩ := by simpa using e1
      rw [show (i8s l)[j]? = some (.int .i64 l[j]) by simp [i8s, hj]] at hu
      rw [← hu, add_eq]
      exact e2
    · obtain ⟨t, _, rfl⟩ := List.mem_map.1 hu
      rfl
    · obtain ⟨a', cp', rfl⟩ := own_form h1
      have HB : Hid (Below w.heap.size w w') := hb0.grown h2 hb0.size (fun k e => by simp [Value.ownBlock] at e; omega)
      clear h1 h2 ho hT0 hb0
      go_wp2
      go_ret
      exact ⟨⟨_, _, _, rfl⟩, HB.out⟩
end Go.Proofs.YtdggplhkeekdjaaGreatDoor.Ck
