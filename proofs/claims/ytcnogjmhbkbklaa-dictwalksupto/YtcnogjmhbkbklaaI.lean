import Derived.Test.YtcnogjmhbkbklaaH
/-
  DERIVED. The items of a sequence: the document's.
-/
namespace Go.Proofs.Ytcnogjmhbkbklaa
open Go Go.Proofs Go.RowKit

theorem part_next {L : List Nd} {i k : Nat} (hi : i ≤ k) (hk : k < L.length) : nds ((L.take (k + 1)).drop i) = nds ((L.take k).drop i) ++ (L[k]'hk).cs := by
  rw [List.take_add_one, List.getElem?_eq_getElem hk, List.drop_append_of_le_length (by rw [List.length_take]; omega), nds_append]
  congr 1

set_option maxRecDepth 100000 in
set_option maxHeartbeats 4000000 in
theorem itemsR_in (w : World) (a : Option Addr) (n cap : Nat) (t : Int) (L : List Nd) (h : NV w a n cap L) (r : Nat) (hr : plc L t = r) (hrl : r < L.length) (hsq : (L[r]'hrl).v = 18) : Calls Try.prog 10 #[.slice a n cap, .int .u32 t] w fun e w' => ∃ v, e = .returned (.tuple #[v, .bool true]) ∧ Hid (ItQ w.heap.size w (itF L (nxt L r) L.length (r + 1)) v w') := by
  have HC : Hid _ := top_any w a n cap t L h
  unfold topI at HC
  rw [hr, if_pos hrl] at HC
  have HV : Hid (NV w a n cap L) := h
  have HN : Hid (n = L.length) := h.len
  have hsm := h.small
  obtain ⟨b, off, rfl, hl⟩ := h.lies (by have := h.len; omega)
  obtain ⟨-, c1, -, -⟩ := hl r hrl
  rw [hsq] at c1
  have HL : Hid (NAt w b off L) := hl
  have hrn : r < n := by have := h.len; omega
  have hgt := nxt_gt hrl
  have hle := nxt_le (L := L) (i := r) (by omega)
  have HX : Hid _ := nextR_in w _ n cap r L h hrn
  obtain ⟨e, he⟩ : ∃ e, nxt L r = e := ⟨_, rfl⟩
  rw [he] at HX hgt hle ⊢
  rw [← h.len] at hle
  obtain ⟨all, hall⟩ : ∃ all, itF L e L.length (r + 1) = all := ⟨_, rfl⟩
  have HA : Hid (itF L e L.length (r + 1) = all) := hall
  rw [hall]
  have hrI : ¬ (r : Int) < 0 := by omega
  have hrJ : (r : Int) < (n : Int) := by omega
  clear h hl hrl hsq hr hall he
  obtain ⟨B, hB⟩ : ∃ B, w.heap.size = B := ⟨_, rfl⟩
  rw [hB]
  have HB : Hid (B = w.heap.size) := hB.symm
  clear hB
  go_enter Try.func10, Try.ntmps10
  go_wp2_with (first | (go_at_call 17; refine Calls.mono HC.out ?_; rintro ee W ⟨rfl, rfl⟩) | (go_at_call 6; refine Calls.mono HX.out ?_; rintro ee W ⟨rfl, rfl⟩))
  clear HC HX c1
  go_loopw [7, 9] (fun s7 s9 wx => ∃ (i f : Nat) (us : List Value) (dn : List (List Nd)), s9 = .int .i64 (i : Int) ∧ i ≤ n ∧ e ≤ i + f ∧ us.length ≤ i ∧ Hid (dn ++ itF L e f i = all) ∧ Hid (LSt B wx s7 us dn) ∧ Hid (Below B w wx)) (fun _ s9 _ => n - (intOf s9).toNat)
  case atStart => exact ⟨r + 1, n, [], [], by go_num, by omega, by omega, by simp, by rw [HN.out]; exact HA, LSt.empty _ _, Below.refl _ _⟩
  case round =>
    obtain ⟨i, f, us, dn, rfl, hin, hef, hui, HD, HS, HE⟩ := hrel
    by_cases hie : i < e
    · have hieI : (i : Int) < (e : Int) := by omega
      obtain ⟨f', rfl⟩ : ∃ f', f = f' + 1 := ⟨f - 1, by omega⟩
      have hil : i < L.length := by rw [← HN.out]; omega
      have HVr : Hid (NV wr (some ⟨b, off, none⟩) n cap L) := HV.out.on (by rw [← HB.out]; exact HE.out)
      have HLr : Hid (NAt wr b off L) := HL.out.on (by rw [← HB.out]; exact HE.out)
      have hxg := nxt_gt hil
      have hxl := nxt_le (L := L) (i := i) (by omega)
      have HC : Hid _ := nextR_in wr _ n cap i L HVr.out (by omega)
      have HD2 : Hid (dn ++ (((L.take (nxt L i)).drop (i + 1)) :: itF L e f' (nxt L i)) = all) := by
        have := HD.out
        rw [itF, if_pos hie] at this
        exact this
      obtain ⟨x, hx⟩ : ∃ x, nxt L i = x := ⟨_, rfl⟩
      rw [hx] at HC HD2 hxg hxl
      have HXL : Hid (x ≤ L.length) := hxl
      rw [← HN.out] at hxl
      clear hx HD
      have hBr : B ≤ wr.heap.size := by rw [HB.out]; exact HE.out.size
      obtain ⟨W0, hW0⟩ : ∃ W0, W0 = wr := ⟨_, rfl⟩
      rw [← hW0] at HS HE HVr HLr HC hBr ⊢
      clear hW0
      go_wp2_with (go_at_call 6; refine Calls.mono HC.out ?_; rintro ee W ⟨rfl, rfl⟩)
      clear HC
      go_loopw [11, 12] (fun s11 s12 wx => ∃ k : Nat, s12 = .int .i64 (k : Int) ∧ i + 1 ≤ k ∧ k ≤ x ∧ Hid (wx.ownsRow W0.heap.size 34 4 s11 (k - (i + 1)) (nds ((L.take k).drop (i + 1)))) ∧ Hid (Below W0.heap.size W0 wx) ∧ Hid (k = i + 1 → s11 = .slice none 0 0)) (fun _ s12 _ => x - (intOf s12).toNat)
      case atStart =>
        refine ⟨i + 1, by go_num, by omega, by omega, ?_, Below.refl _ _, fun _ => rfl⟩
        rw [Nat.sub_self, List.drop_eq_nil_of_le (by rw [List.length_take]; omega)]
        exact World.ownsRow_nil _ _ _ _
      case round =>
        obtain ⟨k, rfl, hk1, hk2, HO, HK, HNl⟩ := hrel
        have hsz := HK.out.size
        by_cases hkx : k < x
        · have hkl : k < L.length := Nat.lt_of_lt_of_le hkx HXL.out
          have hP := part_next (L := L) (i := i + 1) (k := k) hk1 hkl
          obtain ⟨k0, k1, k2, k3⟩ := (HLr.out.on HK.out) k hkl
          obtain ⟨q, hq⟩ : ∃ q, L[k]'hkl = q := ⟨_, rfl⟩
          rw [hq] at k0 k1 k2 k3 hP
          have HP : Hid _ := hP
          have hkI : (k : Int) < (x : Int) := by omega
          have hkn : (k : Int) < (n : Int) := by omega
          clear hP hq HNl
          go_wp2_with (at_builtin; refine Stop.mk ?_)
          refine Stop.out (app22 rfl (.tmp 44) (.tmp 49) rfl W0.heap.size u11 (k - (i + 1)) _ rfl (World.ownsRow.alloc HO.out _) ⟨wr.heap.size, 0, none⟩ 1 1 q.cs rfl rfl (news_new rfl _ _) (cs_one q) (by decide) (by omega) (by rw [size_alloc]; omega) ?_)
          intro g9 c9 W9 ho9 hg9 _ _
          have HO9 : Hid (W9.ownsRow W0.heap.size 34 4 (.slice (some ⟨g9, 0, none⟩) (k - (i + 1) + 1) c9) (k + 1 - (i + 1)) (nds ((L.take (k + 1)).drop (i + 1)))) := by
            rw [HP.out, show k + 1 - (i + 1) = k - (i + 1) + 1 by omega]
            exact ho9
          have HK9 : Hid (Below W0.heap.size W0 W9) := (HK.out.alloc hsz _).grown hg9 (by rw [size_alloc]; omega) (fun j hj => (HO.out.lt j hj).1)
          clear ho9 hg9
          go_wp2
          go_roundw
          case rel => exact ⟨k + 1, by go_num, by omega, by omega, HO9, HK9, fun e => absurd e (by omega)⟩
          case measure => simp [intOf]; omega
        · obtain rfl : k = x := by omega
          have hkI : ¬ (k : Int) < (k : Int) := by omega
          have HML : Hid (((L.take k).drop (i + 1)).length = k - (i + 1)) := by show _ = _; rw [List.length_drop, List.length_take, Nat.min_eq_left HXL.out]
          obtain ⟨M, hM0⟩ : ∃ M, (L.take k).drop (i + 1) = M := ⟨_, rfl⟩
          rw [hM0] at HML HO HD2
          replace HD2 : Hid ((dn ++ [M]) ++ itF L e f' k = all) := by
            have := HD2.out
            show _ = _
            rw [List.append_assoc]
            exact this
          clear hM0
          obtain ⟨x, hxk⟩ : ∃ x, x = k := ⟨_, rfl⟩
          have HS2 : Hid (LSt B wr u7 us dn) := HS.out.on HK.out
          have HE2 : Hid (Below B w wr) := HE.out.trans (HK.out.mono hBr)
          have hB2 : B ≤ wr.heap.size := Nat.le_trans hBr hsz
          have HU : Hid (wr.ownsRow B 34 4 u11 M.length (nds M) ∧ (∀ (k : Nat) (y : Value), us[k]? = some y → ∀ g, y.ownBlock = some g → u11.ownBlock ≠ some g)) := by
            refine ⟨by rw [HML.out]; exact own_base HO.out hBr, fun k' y hy g e1 e2 => ?_⟩
            have hk := (List.getElem?_eq_some_iff.1 hy).1
            have hkd : k' < dn.length := by rw [← HS.out.len]; exact hk
            have h1 := ((HS.out.each k' y _ hy (List.getElem?_eq_getElem hkd)).lt g e1).2
            have h2 := (HO.out.lt g e2).1
            omega
          by_cases hke : k = i + 1
          · have hu := HNl.out hke
            subst hu
            clear HNl HO hke
            subst hxk
            go_wp2_with (at_builtin; refine Stop.mk ?_)
            refine Stop.out (app29 rfl (.tmp 51) (.tmp 53) rfl B u7 us.length us rfl (World.ownsRow.alloc HS2.out.row _) ⟨wr.heap.size, 0, none⟩ 1 1 [.slice none 0 0] rfl rfl (news_new rfl _ _) (by intro y hy; simp at hy; subst hy; rfl) (by decide) (by omega) (by rw [size_alloc]; omega) ?_)
            intro g9 c9 W9 ho9 hg9 _ _
            have HS9 : Hid (LSt B W9 (.slice (some ⟨g9, 0, none⟩) (us.length + 1) c9) (us ++ [.slice none 0 0]) (dn ++ [M])) := (HS2.out.on ((Below.refl _ _).alloc (Nat.le_refl _) _)).app (World.ownsRow.alloc HU.out.1 _) (fun _ => rfl) HU.out.2 ho9 hg9
            have HE9 : Hid (Below B w W9) := (HE2.out.alloc hB2 _).grown hg9 (by rw [size_alloc]; omega) (fun k hk => (HS2.out.row.lt k hk).1)
            clear ho9 hg9
            go_wp2
            go_roundw
            case rel => exact ⟨x, f', _, _, rfl, by omega, by omega, by simp; omega, HD2, HS9, HE9⟩
            case measure => simp [intOf]; omega
          · have hform := HO.out.form (by omega)
            obtain ⟨gu, cu, hu, -, -⟩ := hform
            subst hu
            have HNM : Hid (M = [] → Value.slice (some ⟨gu, 0, none⟩) (k - (i + 1)) cu = Value.slice none 0 0) := fun e => by
              have := HML.out
              rw [e] at this
              simp at this
              omega
            clear HNl HO
            subst hxk
            go_wp2_with (at_builtin; refine Stop.mk ?_)
            refine Stop.out (app29 rfl (.tmp 51) (.tmp 53) rfl B u7 us.length us rfl (World.ownsRow.alloc HS2.out.row _) ⟨wr.heap.size, 0, none⟩ 1 1 [.slice (some ⟨gu, 0, none⟩) (x - (i + 1)) cu] rfl rfl (news_new rfl _ _) (by intro y hy; simp at hy; subst hy; rfl) (by decide) (by omega) (by rw [size_alloc]; omega) ?_)
            intro g9 c9 W9 ho9 hg9 _ _
            have HS9 : Hid (LSt B W9 (.slice (some ⟨g9, 0, none⟩) (us.length + 1) c9) (us ++ [.slice (some ⟨gu, 0, none⟩) (x - (i + 1)) cu]) (dn ++ [M])) := (HS2.out.on ((Below.refl _ _).alloc (Nat.le_refl _) _)).app (World.ownsRow.alloc HU.out.1 _) HNM.out HU.out.2 ho9 hg9
            have HE9 : Hid (Below B w W9) := (HE2.out.alloc hB2 _).grown hg9 (by rw [size_alloc]; omega) (fun k hk => (HS2.out.row.lt k hk).1)
            clear ho9 hg9
            go_wp2
            go_roundw
            case rel => exact ⟨x, f', _, _, rfl, by omega, by omega, by simp; omega, HD2, HS9, HE9⟩
            case measure => simp [intOf]; omega
    · have hieI : ¬ (i : Int) < (e : Int) := by omega
      have HF : Hid (dn = all) := by
        have := HD.out
        show _ = _
        cases f with
        | zero => simpa [itF] using this
        | succ f => rw [itF, if_neg hie, List.append_nil] at this; exact this
      go_wp2
      refine bodyPost_ret (v := .tuple #[u7, .bool true]) (by simp [results, Try.results10, go_sem]) rfl ?_
      exact ⟨u7, rfl, ⟨us, by rw [← HF.out]; exact HS.out⟩, HE.out⟩
end Go.Proofs.Ytcnogjmhbkbklaa
