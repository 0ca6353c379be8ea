import Derived.Test.YteglammdigmmfaaGreatDoorSh
/-
  DERIVED. The document's Split.
-/
namespace Go.Proofs.YteglammdigmmfaaGreatDoor.Sp
open Go Go.Proofs Go.RowKit
open Wk (cell_lt own_keep Stop)

theorem ext_snoc (s : ByteArray) (f i : Nat) (hf : f ≤ i) (hi : i < s.size) : (s.extract f (i + 1)).data.toList = (s.extract f i).data.toList ++ [s.data.toList.getD i 0] := by
  have hl : i < s.data.toList.length := by rw [Array.length_toList]; exact hi
  simp only [ByteArray.data_extract, Array.toList_extract, List.extract_eq_drop_take']
  rw [List.take_add_one, List.getElem?_eq_getElem hl, List.drop_append_of_le_length (by rw [List.length_take]; omega)]
  simp [List.getElem?_eq_getElem hl]
theorem ext_self (s : ByteArray) (f : Nat) : (s.extract f f).data.toList = [] := by simp
theorem drop_cons (s : ByteArray) (i : Nat) (hi : i < s.size) : s.data.toList.drop i = s.data.toList.getD i 0 :: s.data.toList.drop (i + 1) := by
  have hl : i < s.data.toList.length := by rw [Array.length_toList]; exact hi
  rw [List.drop_eq_getElem_cons hl]
  simp [List.getElem?_eq_getElem hl]
theorem bsL_cons (s : ByteArray) (T : List (List UInt8)) : bsL (s.data.toList :: T) = s :: bsL T := by
  unfold bsL
  rw [List.map_cons]

set_option maxRecDepth 100000 in
set_option maxHeartbeats 8000000 in
theorem rsplit_any (W : World) (v : Int) (s : ByteArray) (hs : s.size ≤ 8000000) :
    Calls Tryz.prog 27 #[.int .i64 v, .string s] W fun e w' => ∃ x, e = .returned x ∧ Hid (w'.ownsRow W.heap.size 9 1 x (spT v s).length (u8s (spT v s)) ∧ Below W.heap.size W w') := by
  have c15 := Rp.rabout_open W v
  obtain ⟨B, hB⟩ : ∃ B, W.heap.size = B := ⟨_, rfl⟩
  rw [hB] at c15 ⊢
  have hS : ∀ T, spT v s = T → Calls Tryz.prog 27 #[.int .i64 v, .string s] W (fun e w' => ∃ x, e = .returned x ∧ Hid (w'.ownsRow B 9 1 x T.length (u8s T) ∧ Below B W w')) → Calls Tryz.prog 27 #[.int .i64 v, .string s] W fun e w' => ∃ x, e = .returned x ∧ Hid (w'.ownsRow B 9 1 x (spT v s).length (u8s (spT v s)) ∧ Below B W w') := fun T h h2 => by rw [h]; exact h2
  have hunit := unit_ok ⟨Rp.vn v, Rp.vn_lt v⟩
  simp only at hunit
  by_cases hok : okV v = false ∨ s.size = 0
  · refine hS [] (by unfold spT; rw [if_pos hok]) ?_
    clear hS hunit
    obtain ⟨n, hn⟩ : ∃ n, Rp.nm (Rp.vn v) = n := ⟨_, rfl⟩
    rw [hn] at c15
    generalize Rp.pd (Rp.vn v) = p at c15
    generalize Rp.un (Rp.vn v) = u at c15
    generalize Rp.mo (Rp.vn v) = m at c15
    generalize Rp.tx (Rp.vn v) = t at c15
    generalize Rp.ch (Rp.vn v) = c at c15
    generalize Rp.mu (Rp.vn v) = q at c15
    generalize Rp.lo (Rp.vn v) = l at c15
    clear hn
    by_cases h1 : 1 ≤ v ∧ v ≤ 28
    · rw [decide_eq_true h1] at c15
      by_cases h18 : v = 18
      · subst h18
        clear hok h1
        go_enter Tryz.func27, Tryz.ntmps27
        go_wp2_with (go_at_call 17; refine c15.mono ?_; rintro e w' ⟨rfl, hb⟩; have hsz : B ≤ w'.heap.size := (by rw [← hB]; exact hb.size); replace hb : Hid _ := hb)
        go_ret
        exact ⟨_, rfl, World.ownsRow_nil _ _ _ _, hb.out.alloc hsz _⟩
      · have h0 : s.size = 0 := by
          rcases hok with h | h
          · unfold okV at h; simp [h18] at h; omega
          · exact h
        have hse := empty_of h0
        subst hse
        clear hok h1 h0
        go_enter Tryz.func27, Tryz.ntmps27
        go_wp2_with (go_at_call 17; refine c15.mono ?_; rintro e w' ⟨rfl, hb⟩; have hsz : B ≤ w'.heap.size := (by rw [← hB]; exact hb.size); replace hb : Hid _ := hb)
        go_ret
        exact ⟨_, rfl, World.ownsRow_nil _ _ _ _, hb.out.alloc hsz _⟩
    · rw [decide_eq_false h1] at c15
      clear hok h1
      go_enter Tryz.func27, Tryz.ntmps27
      go_wp2_with (go_at_call 17; refine c15.mono ?_; rintro e w' ⟨rfl, hb⟩; have hsz : B ≤ w'.heap.size := (by rw [← hB]; exact hb.size); replace hb : Hid _ := hb)
      go_ret
      exact ⟨_, rfl, World.ownsRow_nil _ _ _ _, hb.out.alloc hsz _⟩
  · have hok1 : okV v = true := by
      cases h : okV v with
      | true => rfl
      | false => exact absurd (.inl h) hok
    have h0 : s.size ≠ 0 := fun h => hok (.inr h)
    have hv : 1 ≤ v ∧ v ≤ 28 ∧ v ≠ 18 := by unfold okV at hok1; simpa using hok1
    rw [decide_eq_true (show 1 ≤ v ∧ v ≤ 28 from ⟨hv.1, hv.2.1⟩)] at c15
    have h18 : (v == 18) = false := by simpa using hv.2.2
    have hbe := beq_no h0
    have hT : spT v s = if Rp.mu (Rp.vn v) = false then [s] else if Rp.tx (Rp.vn v) = true then spB s else pcs s (Rp.un (Rp.vn v)).toNat 0 := by unfold spT; rw [if_neg hok]
    generalize Rp.nm (Rp.vn v) = n at *
    generalize Rp.pd (Rp.vn v) = p at *
    generalize Rp.un (Rp.vn v) = u at *
    generalize Rp.mo (Rp.vn v) = m at *
    generalize Rp.tx (Rp.vn v) = t at *
    generalize Rp.ch (Rp.vn v) = c at *
    generalize Rp.mu (Rp.vn v) = q at *
    generalize Rp.lo (Rp.vn v) = l at *
    cases q with
    | false =>
      refine hS [s] (by rw [hT, if_pos rfl]) ?_
      clear hS hT hunit hok hok1 h0 hv
      go_enter Tryz.func27, Tryz.ntmps27
      go_wp2_with (go_at_call 17; refine c15.mono ?_; rintro e w' ⟨rfl, hb⟩; have hsz : B ≤ w'.heap.size := (by rw [← hB]; exact hb.size); replace hb : Hid _ := hb)
      go_ret
      exact ⟨_, rfl, lit_own hsz [s] (by simp), below2 hb.out hsz _ _⟩
    | true =>
      cases t with
      | false =>
        have hun := hunit rfl rfl
        obtain ⟨k, hk⟩ : ∃ k : Nat, u = (k : Int) := ⟨u.toNat, by omega⟩
        subst hk
        refine hS (pcs s k 0) (by rw [hT, if_neg (by simp), if_neg (by simp)]; rfl) ?_
        have hk0 : 0 < k := by omega
        have hk1 : k ≤ 1000 := by omega
        clear hS hT hunit hok hok1 h0 hv hun
        go_enter Tryz.func27, Tryz.ntmps27
        go_wp2_with (go_at_call 17; refine c15.mono ?_; rintro e w' ⟨rfl, hb⟩; have hsz : B ≤ w'.heap.size := (by rw [← hB]; exact hb.size); replace hb : Hid _ := hb)
        obtain ⟨G, hG⟩ : ∃ G, w'.heap.size = G := ⟨_, rfl⟩
        obtain ⟨W1, hW1⟩ : ∃ W1, w'.alloc (.cells #[.string n, .int .u8 p, .int .i64 (k : Int), .int .i64 m, .bool false, .bool c, .bool true, .bool l] 40) = W1 := ⟨_, rfl⟩
        have HB1 : Hid (Below B W W1) := by rw [← hW1]; exact hb.out.alloc hsz _
        have hs1 : W1.heap.size = G + 1 := by rw [← hW1, Wk.size_alloc, hG]
        have hc2 : W1.cell? ⟨G, 2, none⟩ = some (.int .i64 (k : Int)) := by rw [← hW1, ← hG]; simp
        have hBG : B ≤ G := by rw [← hG]; exact hsz
        rw [hG, hW1]
        clear hW1 hb hG hsz c15
        go_loopg [7, 8] s.size (fun g s7 s8 wx => ∃ (f : Nat) (L : List ByteArray), s8 = .int .i64 (f : Int) ∧ g + f = s.size ∧ f ≤ s.size ∧ Hid (wx.ownsRow (G + 1) 9 1 s7 L.length (u8s L) ∧ Below (G + 1) W1 wx ∧ L ++ pcs s k f = pcs s k 0 ∧ L.length ≤ f))
        case atStart => exact ⟨0, [], rfl, by omega, by omega, World.ownsRow_nil _ _ _ _, Below.refl _ _, rfl, Nat.le_refl _⟩
        case round =>
          obtain ⟨f, L, rfl, hgf, hfs, HR⟩ := hrel
          have hBw : G + 1 ≤ wr.heap.size := by rw [← hs1]; exact HR.out.2.1.size
          have hll := HR.out.2.2.2
          have hcu : wr.cell? ⟨G, 2, none⟩ = some (.int .i64 (k : Int)) := (World.cell?_of_block (HR.out.2.1.block G (by omega))).trans hc2
          have hne : wr.heap.size ≠ G := by omega
          have hne2 : G ≠ wr.heap.size := by omega
          have hw1 : IntKind.i64.wrap ((f : Int) + (k : Int)) = (f : Int) + (k : Int) := Go.IntWalk.i64_in _ (by omega)
          have hfS : (f : Int) ≤ (s.size : Int) := by omega
          have hf0 : (0 : Int) ≤ (f : Int) := by omega
          by_cases hmore : f + k < s.size
          · have hI : (f : Int) + (k : Int) < (s.size : Int) := by omega
            have hI2 : (f : Int) + (k : Int) ≤ (s.size : Int) := by omega
            have hI3 : (f : Int) ≤ (f : Int) + (k : Int) := by omega
            have hfk : ((f : Int) + (k : Int)).toNat = f + k := by omega
            go_wp2_with (at_builtin; refine Stop.mk ?_)
            refine Stop.out (wpList_append_keeps rfl (.tmp 44) (.tmp 52) rfl (G + 1) u7 L.length _ rfl (World.ownsRow.alloc HR.out.1 _) ⟨wr.heap.size, 0, none⟩ (.string (s.extract f (f + k))) rfl rfl (by simp) (by unfold maxLen; omega) (by omega) (by simp; omega) ?_)
            intro g9 c9 W9 ho9 hg9 _
            have HB9 : Hid (Below (G + 1) W1 W9) := below_grown (HR.out.2.1.alloc hBw _) (World.ownsRow.alloc HR.out.1 _) (by simp; omega) hg9
            have HO9 : Hid _ := ho9
            have hcu9 : W9.cell? ⟨G, 2, none⟩ = some (.int .i64 (k : Int)) := (World.cell?_of_block (HB9.out.block G (by omega))).trans hc2
            clear ho9 hg9
            go_wp2
            go_roundg (s.size - (f + k))
            case measure => omega
            case rel =>
              refine ⟨f + k, L ++ [s.extract f (f + k)], by simp, by omega, by omega, ?_, HB9.out, ?_, by rw [List.length_append, List.length_singleton]; omega⟩
              · rw [u8s_append, List.length_append, List.length_singleton]
                exact HO9.out
              · rw [List.append_assoc, List.singleton_append, ← pcs_more hk0 (by omega)]
                exact HR.out.2.2.1
          · have hI : ¬ (f : Int) + (k : Int) < (s.size : Int) := by omega
            go_wp2_with (at_builtin; refine Stop.mk ?_)
            refine Stop.out (wpList_append_keeps rfl (.tmp 54) (.tmp 58) rfl (G + 1) u7 L.length _ rfl (World.ownsRow.alloc HR.out.1 _) ⟨wr.heap.size, 0, none⟩ (.string (s.extract f s.size)) rfl rfl (by simp) (by unfold maxLen; omega) (by omega) (by simp; omega) ?_)
            intro g9 c9 W9 ho9 hg9 _
            have HB9 : Hid (Below (G + 1) W1 W9) := below_grown (HR.out.2.1.alloc hBw _) (World.ownsRow.alloc HR.out.1 _) (by simp; omega) hg9
            have hfin : L ++ [s.extract f s.size] = pcs s k 0 := by rw [← pcs_last (u := k) hmore]; exact HR.out.2.2.1
            have HO9 : Hid (W9.ownsRow (G + 1) 9 1 (.slice (some ⟨g9, 0, none⟩) (L.length + 1) c9) (pcs s k 0).length (u8s (pcs s k 0))) := by
              rw [← hfin, u8s_append, List.length_append, List.length_singleton]
              exact ho9
            clear ho9 hg9 hfin
            go_wp2
            go_ret
            exact ⟨_, rfl, Wk.own_base HO9.out (by omega), HB1.out.trans (HB9.out.mono (by omega))⟩
      | true =>
        refine hS (spB s) (by rw [hT, if_neg (by simp), if_pos rfl]) ?_
        clear hS hT hunit hok hok1 h0 hv
        go_enter Tryz.func27, Tryz.ntmps27
        go_wp2_with (go_at_call 17; refine c15.mono ?_; rintro e w' ⟨rfl, hb⟩; have hsz : B ≤ w'.heap.size := (by rw [← hB]; exact hb.size); replace hb : Hid _ := hb)
        obtain ⟨G, hG⟩ : ∃ G, w'.heap.size = G := ⟨_, rfl⟩
        obtain ⟨W1, hW1⟩ : ∃ W1, w'.alloc (.cells #[.string n, .int .u8 p, .int .i64 u, .int .i64 m, .bool true, .bool c, .bool true, .bool l] 40) = W1 := ⟨_, rfl⟩
        have HB1 : Hid (Below B W W1) := by rw [← hW1]; exact hb.out.alloc hsz _
        have hs1 : W1.heap.size = G + 1 := by rw [← hW1, Wk.size_alloc, hG]
        have hc2 : W1.cell? ⟨G, 2, none⟩ = some (.int .i64 u) := by rw [← hW1, ← hG]; simp
        have hBG : B ≤ G := by rw [← hG]; exact hsz
        rw [hG, hW1]
        clear hW1 hb hG hsz c15
        go_loopg [7, 8, 9] s.size (fun g s7 s8 s9 wx => ∃ (f i : Nat) (L : List ByteArray), s8 = .int .i64 (f : Int) ∧ s9 = .int .i64 (i : Int) ∧ g + i = s.size ∧ f ≤ i ∧ Hid (wx.ownsRow (G + 1) 9 1 s7 L.length (u8s L) ∧ Below (G + 1) W1 wx ∧ L ++ bsL (addH (s.extract f i).data.toList (spL (s.data.toList.drop i))) = spB s ∧ L.length ≤ i))
        case atStart => exact ⟨0, 0, [], rfl, rfl, by omega, Nat.le_refl _, World.ownsRow_nil _ _ _ _, Below.refl _ _, by rw [ext_self, addH_nil (spL_ne _)]; rfl, Nat.le_refl _⟩
        case round =>
          obtain ⟨f, i, L, rfl, rfl, hgi, hfi, HR⟩ := hrel
          have hBw : G + 1 ≤ wr.heap.size := by rw [← hs1]; exact HR.out.2.1.size
          have hll := HR.out.2.2.2
          have hfI : (f : Int) ≤ (i : Int) := by omega
          have hiS : (i : Int) ≤ (s.size : Int) := by omega
          have hfS : (f : Int) ≤ (s.size : Int) := by omega
          by_cases hin : i < s.size
          · have hI : (i : Int) < (s.size : Int) := by omega
            obtain ⟨y, hy⟩ : ∃ y, s.data.toList.getD i 0 = y := ⟨_, rfl⟩
            have hix : s[i] = y := by rw [← hy]; have h2 : i < s.data.toList.length := (by rw [Array.length_toList]; exact hin); rw [List.getD_eq_getElem?_getD, List.getElem?_eq_getElem h2]; rfl
            have HD : Hid _ := drop_cons s i hin
            have HE : Hid _ := ext_snoc s f i hfi hin
            rw [hy] at HD HE
            clear hy
            by_cases h92 : y = 92
            · subst h92
              go_wp2_with (at_builtin; refine Stop.mk ?_)
              refine Stop.out (wpList_append_keeps rfl (.tmp 70) (.tmp 75) rfl (G + 1) u7 L.length _ rfl (World.ownsRow.alloc HR.out.1 _) ⟨wr.heap.size, 0, none⟩ (.string (s.extract f i)) rfl rfl (by simp) (by unfold maxLen; omega) (by omega) (by simp; omega) ?_)
              intro g9 c9 W9 ho9 hg9 _
              have HB9 : Hid (Below (G + 1) W1 W9) := below_grown (HR.out.2.1.alloc hBw _) (World.ownsRow.alloc HR.out.1 _) (by simp; omega) hg9
              have HO9 : Hid _ := ho9
              clear ho9 hg9
              go_wp2
              go_roundg (s.size - (i + 1))
              case measure => omega
              case rel =>
                refine ⟨i + 1, i + 1, L ++ [s.extract f i], by simp, by simp, by omega, Nat.le_refl _, ?_, HB9.out, ?_, by rw [List.length_append, List.length_singleton]; omega⟩
                · rw [u8s_append, List.length_append, List.length_singleton]
                  exact HO9.out
                · have := HR.out.2.2.1
                  rw [HD.out, addH_cut, bsL_cons] at this
                  rw [ext_self, addH_nil (spL_ne _), List.append_assoc]
                  exact this
            · have hyn : ¬ (y.toNat : Int) = 92 := by
                intro h
                apply h92
                apply UInt8.toNat_inj.1
                rw [show (92 : UInt8).toNat = 92 from rfl]
                omega
              go_wp2
              go_roundg (s.size - (i + 1))
              case measure => omega
              case rel =>
                refine ⟨f, i + 1, L, rfl, by simp, by omega, by omega, HR.out.1, HR.out.2.1, ?_, by omega⟩
                rw [HE.out, ← addH_on _ _ _ h92, ← HD.out]
                exact HR.out.2.2.1
          · obtain rfl : i = s.size := by omega
            have hI : ¬ (s.size : Int) < (s.size : Int) := by omega
            go_wp2_with (at_builtin; refine Stop.mk ?_)
            refine Stop.out (wpList_append_keeps rfl (.tmp 79) (.tmp 83) rfl (G + 1) u7 L.length _ rfl (World.ownsRow.alloc HR.out.1 _) ⟨wr.heap.size, 0, none⟩ (.string (s.extract f s.size)) rfl rfl (by simp) (by unfold maxLen; omega) (by omega) (by simp; omega) ?_)
            intro g9 c9 W9 ho9 hg9 _
            have HB9 : Hid (Below (G + 1) W1 W9) := below_grown (HR.out.2.1.alloc hBw _) (World.ownsRow.alloc HR.out.1 _) (by simp; omega) hg9
            have hfin : L ++ [s.extract f s.size] = spB s := by
              rw [← HR.out.2.2.1, show s.data.toList.drop s.size = [] from List.drop_eq_nil_of_le (by rw [Array.length_toList]; exact Nat.le_refl _)]
              show _ = L ++ bsL [(s.extract f s.size).data.toList ++ []]
              rw [List.append_nil, bsL_cons]
              rfl
            have HO9 : Hid (W9.ownsRow (G + 1) 9 1 (.slice (some ⟨g9, 0, none⟩) (L.length + 1) c9) (spB s).length (u8s (spB s))) := by
              rw [← hfin, u8s_append, List.length_append, List.length_singleton]
              exact ho9
            clear ho9 hg9 hfin
            go_wp2
            go_ret
            exact ⟨_, rfl, Wk.own_base HO9.out (by omega), HB1.out.trans (HB9.out.mono (by omega))⟩
end Go.Proofs.YteglammdigmmfaaGreatDoor.Sp
