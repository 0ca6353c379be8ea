import Derived.Test.YtcnogjmhbkbklaaF
/-
  DERIVED. The items of a sequence: the program's.
-/
namespace Go.Proofs.Ytcnogjmhbkbklaa
open Go Go.Proofs Go.RowKit

theorem add_at (b o q : Nat) : (⟨b, o, none⟩ : Addr).add q = ⟨b, o + q, none⟩ := by
  unfold Addr.add; split <;> simp_all
/-- A stretch of nodes lies there. -/
theorem NAt.part {w : World} {b off : Nat} {L : List Nd} (h : NAt w b off L) {i x : Nat} (hx : x ≤ L.length) : ∀ j u, (nds ((L.take x).drop i))[j]? = some u → w.cell? ((⟨b, off + i * 4, none⟩ : Addr).add j) = some u := by
  intro j u hj
  have hlt := (List.getElem?_eq_some_iff.1 hj).1
  rw [nds_len, List.length_drop, List.length_take, Nat.min_eq_left hx] at hlt
  have hq : j / 4 < ((L.take x).drop i).length := by rw [List.length_drop, List.length_take, Nat.min_eq_left hx]; omega
  have hg := nds_get ((L.take x).drop i) (j / 4) hq (j % 4) (by omega)
  rw [show j / 4 * 4 + j % 4 = j by omega, hj] at hg
  have he : ((L.take x).drop i)[j / 4]'hq = L[i + j / 4]'(by omega) := by
    rw [List.getElem_drop, List.getElem_take]
  rw [he] at hg
  obtain ⟨h0, h1, h2, h3⟩ := h (i + j / 4) (by omega)
  rw [add_at, hg]
  rcases (show j % 4 = 0 ∨ j % 4 = 1 ∨ j % 4 = 2 ∨ j % 4 = 3 by omega) with e | e | e | e
  · rw [e, show off + i * 4 + j = off + (i + j / 4) * 4 by omega, h0]; rfl
  · rw [e, show off + i * 4 + j = off + (i + j / 4) * 4 + 1 by omega, h1]; rfl
  · rw [e, show off + i * 4 + j = off + (i + j / 4) * 4 + 2 by omega, h2]; rfl
  · rw [e, show off + i * 4 + j = off + (i + j / 4) * 4 + 3 by omega, h3]; rfl

/-- What is told of items. -/
def ItQ (B : Nat) (w : World) (all : List (List Nd)) (v : Value) (w' : World) : Prop := (∃ us, LSt B w' v us all) ∧ Below B w w'

set_option maxRecDepth 100000 in
set_option maxHeartbeats 2000000 in
theorem items_in (w : World) (a : Option Addr) (n cap : Nat) (t : Int) (L : List Nd) (h : NV w a n cap L) (r : Nat) (hr : plc L t = r) (hrl : r < L.length) (hsq : (L[r]'hrl).v = 18) : Calls Try.prog 9 #[.slice a n cap, .int .u32 t] w fun e w' => ∃ v, e = .returned (.tuple #[v, .bool true]) ∧ Hid (ItQ w.heap.size w (itF L (nxt L r) L.length (r + 1)) v w') := by
  have HC : Hid _ := place_any w a n cap t L h
  rw [hr] at HC
  have HV : Hid (NV w a n cap L) := h
  have HN : Hid (n = L.length) := h.len
  have hsm := h.small
  have hroom := h.room
  obtain ⟨b, off, rfl, hl⟩ := h.lies (by have := h.len; omega)
  obtain ⟨-, c1, -, -⟩ := hl r hrl
  rw [hsq] at c1
  have HL : Hid (NAt w b off L) := hl
  have hrn : r < n := by have := h.len; omega
  have hgt := nxt_gt hrl
  have hle := nxt_le (L := L) (i := r) (by omega)
  have HX : Hid _ := next_in w _ n cap r L h hrn
  obtain ⟨e, he⟩ : ∃ e, nxt L r = e := ⟨_, rfl⟩
  rw [he] at HX hgt hle ⊢
  rw [← h.len] at hle
  have HLe : Hid (e ≤ L.length) := by rw [← h.len]; exact hle
  obtain ⟨all, hall⟩ : ∃ all, itF L e L.length (r + 1) = all := ⟨_, rfl⟩
  have HA : Hid (itF L e L.length (r + 1) = all) := hall
  rw [hall]
  have hrI : ¬ (r : Int) = (n : Int) := by omega
  have hrJ : (r : Int) < (n : Int) := by omega
  clear h hl hrl hsq hr hall he
  obtain ⟨B, hB⟩ : ∃ B, w.heap.size = B := ⟨_, rfl⟩
  rw [hB]
  have HB : Hid (B = w.heap.size) := hB.symm
  clear hB
  go_enter Try.func9, Try.ntmps9
  go_wp2_with (first | (go_at_call 16; refine Calls.mono HC.out ?_; rintro ee W ⟨rfl, rfl⟩) | (go_at_call 5; refine Calls.mono HX.out ?_; rintro ee W ⟨rfl, rfl⟩))
  clear HC HX c1
  go_loopw [6, 7] (fun s6 s7 wx => ∃ (i f : Nat) (us : List Value) (dn : List (List Nd)), s6 = .int .i64 (i : Int) ∧ i ≤ n ∧ e ≤ i + f ∧ us.length ≤ i ∧ Hid (dn ++ itF L e f i = all) ∧ Hid (LSt B wx s7 us dn) ∧ Hid (Below B w wx)) (fun s6 _ _ => n - (intOf s6).toNat)
  case atStart => exact ⟨r + 1, n, [], [], by go_num, by omega, by omega, by simp, by rw [HN.out]; exact HA, LSt.empty _ _, Below.refl _ _⟩
  case round =>
    obtain ⟨i, f, us, dn, rfl, hin, hef, hui, HD, HS, HE⟩ := hrel
    by_cases hie : i < e
    · have hieI : (i : Int) < (e : Int) := by omega
      obtain ⟨f', rfl⟩ : ∃ f', f = f' + 1 := ⟨f - 1, by omega⟩
      have hil : i < L.length := by rw [← HN.out]; omega
      have HVr : Hid (NV wr (some ⟨b, off, none⟩) n cap L) := HV.out.on (by rw [← HB.out]; exact HE.out)
      have HLr : Hid (NAt wr b off L) := HL.out.on (by rw [← HB.out]; exact HE.out)
      have hxg := nxt_gt hil
      have hxl := nxt_le (L := L) (i := i) (by omega)
      have HC : Hid _ := next_in wr _ n cap i L HVr.out (by omega)
      have HD2 : Hid (dn ++ (((L.take (nxt L i)).drop (i + 1)) :: itF L e f' (nxt L i)) = all) := by
        have := HD.out
        rw [itF, if_pos hie] at this
        exact this
      obtain ⟨x, hx⟩ : ∃ x, nxt L i = x := ⟨_, rfl⟩
      rw [hx] at HC HD2 hxg hxl
      have HXL : Hid (x ≤ L.length) := hxl
      rw [← HN.out] at hxl
      clear hx HD
      have hx1 : (i : Int) + 1 ≤ (x : Int) := by omega
      have hx2 : (x : Int) ≤ (cap : Int) := by omega
      have HML : Hid (((L.take x).drop (i + 1)).length = x - (i + 1)) := by show _ = _; rw [List.length_drop, List.length_take, Nat.min_eq_left HXL.out]
      have HMP : Hid _ := HLr.out.part (i := i + 1) (x := x) HXL.out
      obtain ⟨M, hM0⟩ : ∃ M, (L.take x).drop (i + 1) = M := ⟨_, rfl⟩
      rw [hM0] at HML HMP HD2
      replace HD2 : Hid ((dn ++ [M]) ++ itF L e f' x = all) := by
        have := HD2.out
        show _ = _
        rw [List.append_assoc]
        exact this
      clear hM0
      have hBr : B ≤ wr.heap.size := by rw [HB.out]; exact HE.out.size
      have hdl : us.length ≤ 10000000 := by omega
      by_cases hcz : cap = i + 1
      · subst hcz
        have hM1 : M = [] := List.length_eq_zero_iff.1 (by rw [HML.out]; omega)
        go_wp2_with (first | (go_at_call 5; refine Calls.mono HC.out ?_; rintro ee W ⟨rfl, rfl⟩) | (at_builtin; refine Stop.mk ?_))
        refine Stop.out (copy22 rfl (.const (.slice none 0 0)) (.tmp 41) rfl rfl ⟨b, off, none⟩ (0) M (by rw [HML.out]; rfl) (fun j y hy => by rw [hM1] at hy; simp [nds] at hy) (by rw [HML.out]; omega) ?_)
        intro u W2 hown hbel hnil hsome
        have HE2 : Hid (Below B w W2) := HE.out.trans (hbel.mono hBr)
        have HS2 : Hid (LSt B W2 u7 us dn) := HS.out.on hbel
        have hB2 : B ≤ W2.heap.size := Nat.le_trans hBr hbel.size
        have HU : Hid (W2.ownsRow B 34 4 u M.length (nds M) ∧ (∀ (k : Nat) (y : Value), us[k]? = some y → ∀ g, y.ownBlock = some g → u.ownBlock ≠ some g)) := ⟨own_base hown hBr, fun k y hy g e1 e2 => by
          have hk := (List.getElem?_eq_some_iff.1 hy).1
          have hkd : k < dn.length := by rw [← HS.out.len]; exact hk
          have h1 := ((HS.out.each k y _ hy (List.getElem?_eq_getElem hkd)).lt g e1).2
          have h2 := (hown.lt g e2).1
          omega⟩
        clear hown hbel
        by_cases hM : M = []
        · obtain rfl := hnil hM
          clear hnil hsome hM
          go_wp2_with (at_builtin; refine Stop.mk ?_)
          refine Stop.out (app29 rfl (.tmp 36) (.tmp 43) rfl B u7 us.length us rfl (World.ownsRow.alloc HS2.out.row _) ⟨W2.heap.size, 0, none⟩ 1 1 [.slice none 0 0] rfl rfl (news_new rfl _ _) (by intro y hy; simp at hy; subst hy; rfl) (by decide) (by omega) (by rw [size_alloc]; omega) ?_)
          intro g9 c9 W9 ho9 hg9 _ _
          have HS9 : Hid (LSt B W9 (.slice (some ⟨g9, 0, none⟩) (us.length + 1) c9) (us ++ [.slice none 0 0]) (dn ++ [M])) := (HS2.out.on ((Below.refl _ _).alloc (Nat.le_refl _) _)).app (World.ownsRow.alloc HU.out.1 _) (fun _ => rfl) HU.out.2 ho9 hg9
          have HE9 : Hid (Below B w W9) := (HE2.out.alloc hB2 _).grown hg9 (by rw [size_alloc]; omega) (fun k hk => (HS2.out.row.lt k hk).1)
          clear ho9 hg9
          go_wp2
          go_roundw
          case rel => exact ⟨x, f', _, _, rfl, by omega, by omega, by simp; omega, HD2, HS9, HE9⟩
          case measure => simp [intOf]; omega
        · exact absurd hM1 hM
      · have hcz' : ¬ (cap : Int) = (i : Int) + 1 := by omega
        go_wp2_with (first | (go_at_call 5; refine Calls.mono HC.out ?_; rintro ee W ⟨rfl, rfl⟩) | (at_builtin; refine Stop.mk ?_))
        refine Stop.out (copy22 rfl (.const (.slice none 0 0)) (.tmp 41) rfl rfl ⟨b, off + (i + 1) * 4, none⟩ (cap - (i + 1)) M (by rw [HML.out]; rfl) HMP.out (by rw [HML.out]; omega) ?_)
        intro u W2 hown hbel hnil hsome
        have HE2 : Hid (Below B w W2) := HE.out.trans (hbel.mono hBr)
        have HS2 : Hid (LSt B W2 u7 us dn) := HS.out.on hbel
        have hB2 : B ≤ W2.heap.size := Nat.le_trans hBr hbel.size
        have HU : Hid (W2.ownsRow B 34 4 u M.length (nds M) ∧ (∀ (k : Nat) (y : Value), us[k]? = some y → ∀ g, y.ownBlock = some g → u.ownBlock ≠ some g)) := ⟨own_base hown hBr, fun k y hy g e1 e2 => by
          have hk := (List.getElem?_eq_some_iff.1 hy).1
          have hkd : k < dn.length := by rw [← HS.out.len]; exact hk
          have h1 := ((HS.out.each k y _ hy (List.getElem?_eq_getElem hkd)).lt g e1).2
          have h2 := (hown.lt g e2).1
          omega⟩
        clear hown hbel
        by_cases hM : M = []
        · obtain rfl := hnil hM
          clear hnil hsome hM
          go_wp2_with (at_builtin; refine Stop.mk ?_)
          refine Stop.out (app29 rfl (.tmp 36) (.tmp 43) rfl B u7 us.length us rfl (World.ownsRow.alloc HS2.out.row _) ⟨W2.heap.size, 0, none⟩ 1 1 [.slice none 0 0] rfl rfl (news_new rfl _ _) (by intro y hy; simp at hy; subst hy; rfl) (by decide) (by omega) (by rw [size_alloc]; omega) ?_)
          intro g9 c9 W9 ho9 hg9 _ _
          have HS9 : Hid (LSt B W9 (.slice (some ⟨g9, 0, none⟩) (us.length + 1) c9) (us ++ [.slice none 0 0]) (dn ++ [M])) := (HS2.out.on ((Below.refl _ _).alloc (Nat.le_refl _) _)).app (World.ownsRow.alloc HU.out.1 _) (fun _ => rfl) HU.out.2 ho9 hg9
          have HE9 : Hid (Below B w W9) := (HE2.out.alloc hB2 _).grown hg9 (by rw [size_alloc]; omega) (fun k hk => (HS2.out.row.lt k hk).1)
          clear ho9 hg9
          go_wp2
          go_roundw
          case rel => exact ⟨x, f', _, _, rfl, by omega, by omega, by simp; omega, HD2, HS9, HE9⟩
          case measure => simp [intOf]; omega
        · obtain ⟨gu, cu, rfl⟩ := hsome hM
          have HNM : Hid (M = [] → Value.slice (some ⟨gu, 0, none⟩) M.length cu = Value.slice none 0 0) := fun e => absurd e hM
          clear hnil hsome hM
          go_wp2_with (at_builtin; refine Stop.mk ?_)
          refine Stop.out (app29 rfl (.tmp 36) (.tmp 43) rfl B u7 us.length us rfl (World.ownsRow.alloc HS2.out.row _) ⟨W2.heap.size, 0, none⟩ 1 1 [.slice (some ⟨gu, 0, none⟩) M.length cu] rfl rfl (news_new rfl _ _) (by intro y hy; simp at hy; subst hy; rfl) (by decide) (by omega) (by rw [size_alloc]; omega) ?_)
          intro g9 c9 W9 ho9 hg9 _ _
          have HS9 : Hid (LSt B W9 (.slice (some ⟨g9, 0, none⟩) (us.length + 1) c9) (us ++ [.slice (some ⟨gu, 0, none⟩) M.length cu]) (dn ++ [M])) := (HS2.out.on ((Below.refl _ _).alloc (Nat.le_refl _) _)).app (World.ownsRow.alloc HU.out.1 _) HNM.out HU.out.2 ho9 hg9
          have HE9 : Hid (Below B w W9) := (HE2.out.alloc hB2 _).grown hg9 (by rw [size_alloc]; omega) (fun k hk => (HS2.out.row.lt k hk).1)
          clear ho9 hg9
          go_wp2
          go_roundw
          case rel => exact ⟨x, f', _, _, rfl, by omega, by omega, by simp; omega, HD2, HS9, HE9⟩
          case measure => simp [intOf]; omega
    · have hieI : ¬ (i : Int) < (e : Int) := by omega
      have HF : Hid (dn = all) := by
        have := HD.out
        show _ = _
        cases f with
        | zero => simpa [itF] using this
        | succ f => rw [itF, if_neg hie, List.append_nil] at this; exact this
      go_wp2
      refine bodyPost_ret (v := .tuple #[u7, .bool true]) (by simp [results, Try.results9, go_sem]) rfl ?_
      exact ⟨u7, rfl, ⟨us, by rw [← HF.out]; exact HS.out⟩, HE.out⟩
end Go.Proofs.Ytcnogjmhbkbklaa
