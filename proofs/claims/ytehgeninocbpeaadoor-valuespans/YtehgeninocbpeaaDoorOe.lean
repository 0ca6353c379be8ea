import Derived.Test.YtehgeninocbpeaaDoorOd
import Derived.Test.YtehgeninocbpeaaDoorSg
import Derived.Lib.IndexLaws
/-
  DERIVED. The document's bar of a range.
-/
namespace Go.Proofs.YtehgeninocbpeaaDoor.Tm
open Go Go.Proofs Go.RowKit

theorem zo_o (s : ByteArray) (S : Mst) (x : Nat) : (zoS s S x).o = nextD S.o (zBad s (S.a + 1) x) S.a := by simp only [zoS]
theorem zS0_o (i : Nat) : (zS0 i).o = none := rfl
theorem zS0_a (i : Nat) : (zS0 i).a = i := rfl
theorem zs_no {s : ByteArray} {i : Nat} (hi : i < s.size) (h45 : (s.get! i).toNat = 45) (h4 : cnt s (i + 1) 4 < 4) : zs s i = false := by
  have hn : nx s (zS0 i).a (zS0 i).b = 45 := by show nx s i false = 45; rw [nx_in hi, h45]
  obtain ⟨_, c2⟩ := cnt4 s (i + 1)
  unfold zs
  rw [if_pos]
  left
  unfold zoneS
  rw [hn, if_pos (.inr rfl)]
  show (decide (zC1 s (i + 1) < 2) || decide (zC2 s (i + 1) < 2)) = true
  simp
  exact c2.2 h4
theorem zs_four {s : ByteArray} {i : Nat} (hi : i < s.size) (h45 : (s.get! i).toNat = 45) (h4 : cnt s (i + 1) 4 = 4) : zs s i = (dzK 45 (nv s (i + 1) 2) (nv s (i + 3) 2) && (decide (i + 5 = s.size) || decide (nx s (i + 5) false = 45))) := by
  have hn : nx s (zS0 i).a (zS0 i).b = 45 := by show nx s i false = 45; rw [nx_in hi, h45]
  obtain ⟨c1, c2⟩ := cnt4 s (i + 1)
  have hz1 : zC1 s (i + 1) ≤ 2 := cnt_le s 2 _
  have hz2 : zC2 s (i + 1) ≤ 2 := Nat.le_trans (zC2_le s _) (cnt_le s 2 _)
  have z1 : zC1 s (i + 1) = 2 := by omega
  have z2 : zC2 s (i + 1) = 2 := by omega
  have hH : zH s (i + 1) = nv s (i + 1) 2 := by unfold zH; rw [z1]
  have hM : zM s (i + 1) = nv s (i + 3) 2 := by unfold zM; rw [z1, z2, show i + 1 + 2 = i + 3 by omega]
  have hV : zV s (i + 1) 45 = dzV 45 (nv s (i + 1) 2) (nv s (i + 3) 2) := by unfold zV dzV; rw [hH, hM]
  have hB : zBad s (i + 1) 45 = !dzK 45 (nv s (i + 1) 2) (nv s (i + 3) 2) := by
    rw [← bad_is 45 _ _ (.inr rfl)]
    unfold zBad
    rw [hV, hM]
  have ea : (zoneS s (zS0 i)).a = i + 5 := by
    unfold zoneS
    rw [hn, if_pos (.inr rfl)]
    show i + 1 + zC1 s (i + 1) + zC2 s (i + 1) = _
    omega
  have eb : (zoneS s (zS0 i)).b = false := by
    unfold zoneS
    rw [hn, if_pos (.inr rfl)]
    show (decide (zC1 s (i + 1) < 2) || decide (zC2 s (i + 1) < 2)) = false
    rw [z1, z2]
    rfl
  have eo : (zoneS s (zS0 i)).o = nextD none (!dzK 45 (nv s (i + 1) 2) (nv s (i + 3) 2)) i := by
    unfold zoneS
    rw [hn, if_pos (.inr rfl), zo_o, zS0_o, zS0_a, hB]
  unfold zs
  rw [ea, eb, eo]
  cases hk : dzK 45 (nv s (i + 1) 2) (nv s (i + 3) 2) with
  | true => simp [nextD]
  | false => simp [nextD]

set_option maxRecDepth 100000 in
set_option maxHeartbeats 2000000 in
theorem sign_any (w : World) (s : ByteArray) (hs : s.size ≤ 140737488351232) (i : Nat) (hi : i < s.size) (h45 : (s.get! i).toNat = 45) : Calls Tryd.prog 44 #[.string s, .int .i64 (i : Int)] w fun e w' => e = .returned (.bool (zs s i)) ∧ w = w' := by
  have c32 := fun W => digits31_any W s (i + 1) 4 (by omega) hs (by omega)
  have hc4 := cnt_le s 4 (i + 1)
  have hcs := cnt_size s 4 (i + 1) (by omega)
  by_cases h4 : cnt s (i + 1) 4 = 4
  · rw [zs_four hi h45 h4]
    rw [h4] at c32 hcs
    have hu5 : (s.extract i (i + 5)).size = 5 := by rw [ByteArray.size_extract]; omega
    have hug : ∀ k, k < 5 → (s.extract i (i + 5)).get! k = s.get! (i + k) := fun k hk => by
      rw [← get_get! _ k (by omega), ← get_get! s (i + k) (by omega)]
      simp [ByteArray.getElem_extract]
    have hud : ∀ k, k < 5 → isD (s.extract i (i + 5)) k = isD s (i + k) := fun k hk => by
      unfold isD
      have h1 : decide (k < (s.extract i (i + 5)).size) = true := decide_eq_true (by omega)
      have h2 : decide (i + k < s.size) = true := decide_eq_true (by omega)
      rw [hug k hk, h1, h2]
    have huc : cnt (s.extract i (i + 5)) 1 4 = 4 := by
      have d1 := cnt_digit s 4 (i + 1) 0 (by omega)
      have d2 := cnt_digit s 4 (i + 1) 1 (by omega)
      have d3 := cnt_digit s 4 (i + 1) 2 (by omega)
      have d4 := cnt_digit s 4 (i + 1) 3 (by omega)
      simp only [cnt]
      rw [hud 1 (by omega), hud (1 + 1) (by omega), hud (1 + 1 + 1) (by omega), hud (1 + 1 + 1 + 1) (by omega)]
      rw [show i + 1 + 0 = i + 1 by omega] at d1
      rw [show i + 1 + 1 = i + (1 + 1) by omega] at d2
      rw [show i + 1 + 2 = i + (1 + 1 + 1) by omega] at d3
      rw [show i + 1 + 3 = i + (1 + 1 + 1 + 1) by omega] at d4
      simp [d1, d2, d3, d4]
    have hn1 : nv (s.extract i (i + 5)) 1 2 = nv s (i + 1) 2 := by
      unfold nv
      rw [ByteArray.extract_extract, show min (i + (1 + 2)) (i + 5) = i + 1 + 2 by omega]
    have hn3 : nv (s.extract i (i + 5)) 3 2 = nv s (i + 3) 2 := by
      unfold nv
      rw [ByteArray.extract_extract, show min (i + (3 + 2)) (i + 5) = i + 3 + 2 by omega]
    have c48 := fun W => zone48_any W (s.extract i (i + 5)) hu5 huc 45 (by rw [hug 0 (by omega)]; exact h45) (.inr rfl)
    rw [hn1, hn3] at c48
    generalize nv s (i + 1) 2 = ZH at *
    generalize nv s (i + 3) 2 = ZM at *
    clear hu5 hug hud huc hn1 hn3 h4 hc4 h45
    have hiI : (i : Int) + 5 ≤ (s.size : Int) := by omega
    by_cases hlt : i + 5 < s.size
    · have hl1 : decide (i + 5 = s.size) = false := decide_eq_false (by omega)
      rw [hl1, nx_in hlt, Bool.false_or]
      have hlI : decide ((i : Int) + 5 < (s.size : Int)) = true := by simp; omega
      by_cases h5 : (s.get! (i + 5)).toNat = 45
      · have hxI : ((s[i + 5].toNat : Int) != 45) = false := by rw [get_get! s (i + 5) hlt, h5]; rfl
        rw [decide_eq_true h5, Bool.and_true]
        go_enter Tryd.func44, Tryd.ntmps44
        go_wp2_with first | (go_at_call 32; refine (c32 _).mono ?_; rintro e w' ⟨rfl, rfl⟩) | (go_at_call 40; refine (c48 _).mono ?_; rintro e w' ⟨zz, rfl, _, rfl⟩)
        go_ret
        exact ⟨rfl, rfl⟩
      · have hxI : ((s[i + 5].toNat : Int) != 45) = true := by rw [get_get! s (i + 5) hlt]; simp; omega
        rw [decide_eq_false h5, Bool.and_false]
        go_enter Tryd.func44, Tryd.ntmps44
        go_wp2_with first | (go_at_call 32; refine (c32 _).mono ?_; rintro e w' ⟨rfl, rfl⟩) | (go_at_call 40; refine (c48 _).mono ?_; rintro e w' ⟨zz, rfl, _, rfl⟩)
        go_ret
        exact ⟨rfl, rfl⟩
    · have hl1 : decide (i + 5 = s.size) = true := decide_eq_true (by omega)
      rw [hl1, Bool.true_or, Bool.and_true]
      have hlI : decide ((i : Int) + 5 < (s.size : Int)) = false := by simp; omega
      go_enter Tryd.func44, Tryd.ntmps44
      go_wp2_with first | (go_at_call 32; refine (c32 _).mono ?_; rintro e w' ⟨rfl, rfl⟩) | (go_at_call 40; refine (c48 _).mono ?_; rintro e w' ⟨zz, rfl, _, rfl⟩)
      go_ret
      exact ⟨rfl, rfl⟩
  · rw [zs_no hi h45 (by omega)]
    have hne : ((cnt s (i + 1) 4 : Int) != 4) = true := by simp; omega
    generalize cnt s (i + 1) 4 = C at *
    go_enter Tryd.func44, Tryd.ntmps44
    go_wp2_with first | (go_at_call 32; refine (c32 _).mono ?_; rintro e w' ⟨rfl, rfl⟩)
    go_ret
    exact ⟨rfl, rfl⟩

set_option maxRecDepth 100000 in
set_option maxHeartbeats 2000000 in
theorem bar7_any (w : World) (s : ByteArray) (hs : s.size ≤ 140737488351232) : Calls Tryd.prog 23 #[.int .i64 7, .string s] w fun e w' => e = .returned (.int .i64 (dz s s.size 0)) ∧ w = w' := by
  have cS := fun W i h1 h2 => sign_any W s hs i h1 h2
  obtain ⟨R, hR⟩ : ∃ R, dz s s.size 0 = R := ⟨_, rfl⟩
  have HR : Hid (dz s (s.size - 0) 0 = R) := hR
  rw [hR]
  clear hR
  go_enter Tryd.func23, Tryd.ntmps23
  go_wp2
  go_loopg [5] s.size (fun g s5 wx => ∃ i : Nat, s5 = .int .i64 (i : Int) ∧ i ≤ s.size ∧ g + i = s.size ∧ Hid (dz s (s.size - i) i = R) ∧ w = wx)
  case atStart => exact ⟨0, rfl, by omega, by omega, HR, rfl⟩
  case round =>
    obtain ⟨i, rfl, hi, hg, HI, rfl⟩ := hrel
    by_cases hlt : i < s.size
    · have hl : decide ((i : Int) < (s.size : Int)) = true := by simp; omega
      have HI2 : Hid ((if (s.get! i).toNat = 45 ∧ (i = 0 ∨ zs s i = false) then (i : Int) else dz s (s.size - (i + 1)) (i + 1)) = R) := by
        have := HI.out
        rw [show s.size - i = (s.size - (i + 1)) + 1 by omega, dz] at this
        exact this
      clear HI
      by_cases h45 : (s.get! i).toNat = 45
      · have hx : ((s[i].toNat : Int) == 45) = true := by rw [get_get! s i hlt, h45]; rfl
        have cs := cS w i hlt h45
        cases hz : zs s i with
        | false =>
          rw [hz] at cs
          have e : Hid ((i : Int) = R) := by have := HI2.out; rw [if_pos ⟨h45, .inr hz⟩] at this; exact this
          clear HI2 cS
          by_cases h0 : i = 0
          · subst h0
            go_wp2_with first | (go_at_call 44; refine (cs).mono ?_; rintro e w' ⟨rfl, rfl⟩)
            go_ret
            exact ⟨by rw [← e.out]; rfl, rfl⟩
          · have h0I : ((i : Int) == 0) = false := by simp; omega
            go_wp2_with first | (go_at_call 44; refine (cs).mono ?_; rintro e w' ⟨rfl, rfl⟩)
            go_ret
            exact ⟨by rw [← e.out]; rfl, rfl⟩
        | true =>
          rw [hz] at cs
          by_cases h0 : i = 0
          · have e : Hid ((i : Int) = R) := by have := HI2.out; rw [if_pos ⟨h45, .inl h0⟩] at this; exact this
            clear HI2 cS
            subst h0
            go_wp2_with first | (go_at_call 44; refine (cs).mono ?_; rintro e w' ⟨rfl, rfl⟩)
            go_ret
            exact ⟨by rw [← e.out]; rfl, rfl⟩
          · have h0I : ((i : Int) == 0) = false := by simp; omega
            have HI3 : Hid (dz s (s.size - (i + 1)) (i + 1) = R) := by have := HI2.out; rw [if_neg (by rintro ⟨_, h | h⟩; exact h0 h; rw [hz] at h; cases h)] at this; exact this
            clear HI2 cS
            go_wp2_with first | (go_at_call 44; refine (cs).mono ?_; rintro e w' ⟨rfl, rfl⟩)
            go_roundg (s.size - (i + 1))
            case measure => omega
            case rel => exact ⟨i + 1, by simp, by omega, by omega, HI3, rfl⟩
      · have hx : ((s[i].toNat : Int) == 45) = false := by rw [get_get! s i hlt]; simp; omega
        have HI3 : Hid (dz s (s.size - (i + 1)) (i + 1) = R) := by have := HI2.out; rw [if_neg (fun h => h45 h.1)] at this; exact this
        clear HI2 cS
        go_wp2
        go_roundg (s.size - (i + 1))
        case measure => omega
        case rel => exact ⟨i + 1, by simp, by omega, by omega, HI3, rfl⟩
    · have hl : decide ((i : Int) < (s.size : Int)) = false := by simp; omega
      have e : Hid ((-1 : Int) = R) := by
        have := HI.out
        rw [show s.size - i = 0 by omega, dz] at this
        exact this
      clear HI cS
      go_wp2
      go_ret
      exact ⟨by rw [← e.out]; rfl, rfl⟩

theorem at_get {s : ByteArray} {k : Nat} (hk : k < s.size) : s.data.toList[k]? = some (s.get! k) := by
  rw [← get_get! s k hk]
  have h2 : k < s.data.size := hk
  rw [Array.getElem?_toList, Array.getElem?_eq_getElem h2]
  rfl
theorem u45 {b : UInt8} (h : b.toNat = 45) : b = 45 := UInt8.toNat_inj.1 h
theorem ib_at {s : ByteArray} {i : Nat} (hi : i < s.size) (h : (s.get! i).toNat = 45) (hk : ∀ k, k < i → (s.get! k).toNat ≠ 45) : Lib.indexByte s.data.toList 45 = (i : Int) := by
  have hl : s.data.toList[i]? = some 45 := by rw [at_get hi, u45 h]
  have hge := Lib.indexByte_ge s.data.toList 45
  by_cases h1 : Lib.indexByte s.data.toList 45 = -1
  · exact absurd hl (Lib.indexByte_none h1 i)
  · obtain ⟨o, ho⟩ : ∃ o : Nat, Lib.indexByte s.data.toList 45 = (o : Int) := ⟨(Lib.indexByte s.data.toList 45).toNat, by omega⟩
    obtain ⟨h2, h3⟩ := Lib.indexByte_some ho
    rw [ho]
    rcases Nat.lt_trichotomy o i with h4 | h4 | h4
    · have := hk o h4
      rw [at_get (by omega)] at h2
      rw [Option.some.inj h2] at this
      exact absurd rfl this
    · rw [h4]
    · exact absurd hl (h3 i h4)
theorem ib_no {s : ByteArray} (hk : ∀ k, k < s.size → (s.get! k).toNat ≠ 45) : Lib.indexByte s.data.toList 45 = -1 := by
  have hge := Lib.indexByte_ge s.data.toList 45
  by_cases h1 : Lib.indexByte s.data.toList 45 = -1
  · exact h1
  · obtain ⟨o, ho⟩ : ∃ o : Nat, Lib.indexByte s.data.toList 45 = (o : Int) := ⟨(Lib.indexByte s.data.toList 45).toNat, by omega⟩
    obtain ⟨h2, _⟩ := Lib.indexByte_some ho
    have hlt : o < s.size := by
      obtain ⟨h4, _⟩ := List.getElem?_eq_some_iff.1 h2
      rw [Array.length_toList] at h4
      exact h4
    have := hk o hlt
    rw [at_get hlt] at h2
    rw [Option.some.inj h2] at this
    exact absurd rfl this

set_option maxRecDepth 100000 in
set_option maxHeartbeats 2000000 in
theorem barx_any (w : World) (vr : Int) (hv : vr ≠ 7) (s : ByteArray) (hs : s.size ≤ 140737488351232) : Calls Tryd.prog 23 #[.int .i64 vr, .string s] w fun e w' => e = .returned (.int .i64 (Lib.indexByte s.data.toList 45)) ∧ w = w' := by
  obtain ⟨R, hR⟩ : ∃ R, Lib.indexByte s.data.toList 45 = R := ⟨_, rfl⟩
  have HR : Hid (Lib.indexByte s.data.toList 45 = R) := hR
  rw [hR]
  clear hR
  have hvI : (vr != 7) = true := by simpa using hv
  go_enter Tryd.func23, Tryd.ntmps23
  go_wp2
  go_loopg [5] s.size (fun g s5 wx => ∃ i : Nat, s5 = .int .i64 (i : Int) ∧ i ≤ s.size ∧ g + i = s.size ∧ Hid (∀ k, k < i → (s.get! k).toNat ≠ 45) ∧ w = wx)
  case atStart => exact ⟨0, rfl, by omega, by omega, fun k hk => absurd hk (Nat.not_lt_zero _), rfl⟩
  case round =>
    obtain ⟨i, rfl, hi, hg, HI, rfl⟩ := hrel
    by_cases hlt : i < s.size
    · have hl : decide ((i : Int) < (s.size : Int)) = true := by simp; omega
      by_cases h45 : (s.get! i).toNat = 45
      · have hx : ((s[i].toNat : Int) == 45) = true := by rw [get_get! s i hlt, h45]; rfl
        have e : Hid ((i : Int) = R) := by have := HR.out; rw [ib_at hlt h45 HI.out] at this; exact this
        clear HI HR
        go_wp2
        go_ret
        exact ⟨by rw [← e.out]; rfl, rfl⟩
      · have hx : ((s[i].toNat : Int) == 45) = false := by rw [get_get! s i hlt]; simp; omega
        have HI3 : Hid (∀ k, k < i + 1 → (s.get! k).toNat ≠ 45) := fun k hk => by
          rcases Nat.lt_succ_iff_lt_or_eq.1 hk with h | h
          · exact HI.out k h
          · rw [h]; exact h45
        clear HI
        go_wp2
        go_roundg (s.size - (i + 1))
        case measure => omega
        case rel => exact ⟨i + 1, by simp, by omega, by omega, HI3, rfl⟩
    · have hl : decide ((i : Int) < (s.size : Int)) = false := by simp; omega
      have e : Hid ((-1 : Int) = R) := by
        have := HR.out
        rw [ib_no (fun k hk => HI.out k (by omega))] at this
        exact this
      clear HI HR
      go_wp2
      go_ret
      exact ⟨by rw [← e.out]; rfl, rfl⟩
theorem bar_any (w : World) (vr : Int) (s : ByteArray) (hs : s.size ≤ 140737488351232) : Calls Tryd.prog 23 #[.int .i64 vr, .string s] w fun e w' => e = .returned (.int .i64 (dsh vr s)) ∧ w = w' := by
  unfold dsh
  by_cases hv : vr = 7
  · subst hv
    rw [if_pos rfl]
    exact bar7_any w s hs
  · rw [if_neg hv]
    exact barx_any w vr hv s hs
end Go.Proofs.YtehgeninocbpeaaDoor.Tm
