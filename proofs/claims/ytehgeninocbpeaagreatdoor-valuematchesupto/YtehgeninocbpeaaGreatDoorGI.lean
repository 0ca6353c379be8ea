import Derived.Test.YtehgeninocbpeaaGreatDoorGM
namespace Go.Proofs.YtehgeninocbpeaaGreatDoor.Gl
open Go Go.Proofs Go.RowKit
set_option maxRecDepth 100000 in
set_option maxHeartbeats 1000000 in
theorem one_low (w : World) (s : ByteArray) (i : Nat) (hi : i < s.size) (h : (s.get! i).toNat < 128) :
    Calls Tryz.prog 115 #[.string s, .int .i64 (i : Int)] w fun e w' => e = .returned (.tuple #[.int .i64 (oneV s i), .int .i64 (oneW s i : Nat)]) ∧ w = w' := by
  obtain ⟨h1, h2⟩ := dec_low s i hi h
  rw [h1, h2]
  clear h1 h2
  obtain ⟨c, hc⟩ : ∃ c, s[i].toNat = c := ⟨_, rfl⟩
  have hg : (s.get! i).toNat = c := by rw [← hc, get_get! s i hi]
  rw [hg] at h ⊢
  clear hg
  have hI : (c : Int) < 128 := by omega
  have hiI : (i : Int) < (s.size : Int) := by omega
  go_enter Tryz.func115, Tryz.ntmps115
  go_wp2
  exact bodyPost_ret (v := .tuple #[.int .i64 (c : Int), .int .i64 1]) (by simp [results, Tryz.results115, go_sem]) rfl ⟨rfl, rfl⟩
set_option maxRecDepth 100000 in
set_option maxHeartbeats 1000000 in
theorem one_none (w : World) (s : ByteArray) (i : Nat) (hi : i < s.size) (h : (128 ≤ (s.get! i).toNat ∧ (s.get! i).toNat < 194) ∨ 244 < (s.get! i).toNat) :
    Calls Tryz.prog 115 #[.string s, .int .i64 (i : Int)] w fun e w' => e = .returned (.tuple #[.int .i64 (oneV s i), .int .i64 (oneW s i : Nat)]) ∧ w = w' := by
  obtain ⟨h1, h2⟩ := dec_bad s i (dec_none s i h)
  rw [h1, h2]
  clear h1 h2
  obtain ⟨c, hc⟩ : ∃ c, s[i].toNat = c := ⟨_, rfl⟩
  have hg : (s.get! i).toNat = c := by rw [← hc, get_get! s i hi]
  have h256 := lt256 s i
  rw [hg] at h h256 ⊢
  clear hg
  have hiI : (i : Int) < (s.size : Int) := by omega
  have n1 : ¬ ((c : Int) < 128) := by omega
  rcases h with ⟨ha, hb⟩ | ha
  · have n2 : decide ((194 : Int) ≤ (c : Int)) = false := by simp; omega
    have n3 : decide ((224 : Int) ≤ (c : Int)) = false := by simp; omega
    have n4 : decide ((240 : Int) ≤ (c : Int)) = false := by simp; omega
    clear hb
    go_enter Tryz.func115, Tryz.ntmps115
    go_wp2
    exact bodyPost_ret (v := .tuple #[.int .i64 (-1 - (c : Int)), .int .i64 1]) (by simp [results, Tryz.results115, go_sem]) rfl ⟨rfl, rfl⟩
  · have n2 : (194 : Int) ≤ (c : Int) := by omega
    have n3 : (224 : Int) ≤ (c : Int) := by omega
    have n4 : (240 : Int) ≤ (c : Int) := by omega
    have m2 : decide ((c : Int) ≤ 223) = false := by simp; omega
    have m3 : decide ((c : Int) ≤ 239) = false := by simp; omega
    have m4 : decide ((c : Int) ≤ 244) = false := by simp; omega
    go_enter Tryz.func115, Tryz.ntmps115
    go_wp2
    exact bodyPost_ret (v := .tuple #[.int .i64 (-1 - (c : Int)), .int .i64 1]) (by simp [results, Tryz.results115, go_sem]) rfl ⟨rfl, rfl⟩
set_option maxRecDepth 100000 in
set_option maxHeartbeats 1000000 in
theorem one_2 (w : World) (s : ByteArray) (i : Nat) (hi : i < s.size) (hs : s.size ≤ 2097152) (h : 194 ≤ (s.get! i).toNat ∧ (s.get! i).toNat ≤ 223) :
    Calls Tryz.prog 115 #[.string s, .int .i64 (i : Int)] w fun e w' => e = .returned (.tuple #[.int .i64 (oneV s i), .int .i64 (oneW s i : Nat)]) ∧ w = w' := by
  have hL : Lead (s.get! i).toNat 2 ((s.get! i).toNat - 192) 128 := .inl ⟨h.1, h.2, rfl, rfl, rfl⟩
  have HCut : Hid (∀ k, 1 ≤ k ∧ k < 2 → ¬ Ct s (i + k) → oneV s i = -1 - ((s.get! i).toNat : Int) ∧ oneW s i = 1) := fun k hk hn => dec_bad s i (dec_cut s i 2 _ 128 k hL hk hn)
  have HOff : Hid ((∀ k, 1 ≤ k → k < 2 → Ct s (i + k)) → Off (pv s i ((s.get! i).toNat - 192) (2 - 1)) 128 → oneV s i = -1 - ((s.get! i).toNat : Int) ∧ oneW s i = 1) := fun ha ho => dec_bad s i ((dec_all s i 2 _ 128 hL ha).1 ho)
  have HOn : Hid ((∀ k, 1 ≤ k → k < 2 → Ct s (i + k)) → ¬ Off (pv s i ((s.get! i).toNat - 192) (2 - 1)) 128 → oneV s i = (pv s i ((s.get! i).toNat - 192) (2 - 1) : Nat) ∧ oneW s i = 2) := fun ha ho => dec_good s i _ 2 ((dec_all s i 2 _ 128 hL ha).2 ho) (by decide)
  obtain ⟨c, hc⟩ : ∃ c, s[i].toNat = c := ⟨_, rfl⟩
  have hg : (s.get! i).toNat = c := by rw [← hc, get_get! s i hi]
  rw [hg] at h HCut HOff HOn
  clear hg hL
  obtain ⟨v0, hv0⟩ : ∃ v0 : Nat, c - 192 = v0 := ⟨_, rfl⟩
  have hv31 : v0 ≤ 31 := by omega
  have hsub : (c : Int) - 192 = (v0 : Int) := by omega
  rw [hv0] at HOff HOn
  have HP : Hid (∀ k, k ≤ 3 → (∀ j, 1 ≤ j → j ≤ k → Ct s (i + j)) → pv s i v0 k ≤ 8388607) := fun k hk hc => (pv_le s i v0 hv31 k hk hc).1
  obtain ⟨a, b⟩ := h
  have hiI : (i : Int) < (s.size : Int) := by omega
  have n1 : ¬ ((c : Int) < 128) := by omega
  have n2 : (194 : Int) ≤ (c : Int) := by omega
  have m2 : (c : Int) ≤ 223 := by omega
  generalize oneV s i = V1 at *
  generalize oneW s i = W1 at *
  clear a b hv0 hv31
  go_enter Tryz.func115, Tryz.ntmps115
  go_wp2
  go_loopg [8, 10] (2 - 1) (fun g v y wr => ∃ k : Nat, y = .int .i64 (k : Int) ∧ 1 ≤ k ∧ k ≤ 2 ∧ g + k = 2 ∧ (∃ V : Nat, v = .int .i64 (V : Int) ∧ V ≤ 8388607 ∧ Hid (V = pv s i v0 (k - 1))) ∧ Hid (∀ j, 1 ≤ j → j < k → Ct s (i + j)) ∧ w = wr)
  case atStart => exact ⟨1, rfl, by omega, by omega, by omega, ⟨v0, rfl, HP.out 0 (by omega) (fun j h1 h2 => by omega), rfl⟩, fun j h1 h2 => by omega, rfl⟩
  case round =>
    obtain ⟨k, rfl, hk1, hkn, hg, ⟨V, rfl, hV, HV⟩, HC, rfl⟩ := hrel
    by_cases hk : k < 2
    · have hkI : (k : Int) < 2 := by omega
      by_cases hp : i + k < s.size
      · obtain ⟨b, hb⟩ : ∃ b, s[i + k].toNat = b := ⟨_, rfl⟩
        have hgb : (s.get! (i + k)).toNat = b := by rw [← hb, get_get! s (i + k) hp]
        have hb256 : b < 256 := by rw [← hgb]; exact lt256 s (i + k)
        have hpI : (i : Int) + (k : Int) < (s.size : Int) := by omega
        by_cases hlo : b < 128
        · obtain ⟨rfl, rfl⟩ := HCut.out k ⟨hk1, hk⟩ (fun h => by have := h.2.1; rw [hgb] at this; omega)
          have e1 : (b : Int) < 128 := by omega
          clear HCut HOff HOn HV HC HP hgb
          go_wp2
          exact bodyPost_ret (v := .tuple #[.int .i64 (-1 - (c : Int)), .int .i64 1]) (by simp [results, Tryz.results115, go_sem]) rfl ⟨rfl, rfl⟩
        · by_cases hhi : 191 < b
          · obtain ⟨rfl, rfl⟩ := HCut.out k ⟨hk1, hk⟩ (fun h => by have := h.2.2; rw [hgb] at this; omega)
            have e1 : ¬ ((b : Int) < 128) := by omega
            have e2 : (191 : Int) < (b : Int) := by omega
            clear HCut HOff HOn HV HC HP hgb
            go_wp2
            exact bodyPost_ret (v := .tuple #[.int .i64 (-1 - (c : Int)), .int .i64 1]) (by simp [results, Tryz.results115, go_sem]) rfl ⟨rfl, rfl⟩
          · have e1 : ¬ ((b : Int) < 128) := by omega
            have e2 : ¬ ((191 : Int) < (b : Int)) := by omega
            have hct : Ct s (i + k) := ⟨hp, by rw [hgb]; omega, by rw [hgb]; omega⟩
            have HC2 : Hid (∀ j, 1 ≤ j → j < k + 1 → Ct s (i + j)) := fun j h1 h2 => by
              rcases Nat.lt_or_ge j k with h3 | h3
              · exact HC.out j h1 h3
              · obtain rfl : j = k := by omega
                exact hct
            have HV2 : Hid (V * 64 + (b - 128) = pv s i v0 (k + 1 - 1)) := by
              show _ = _
              obtain ⟨k', rfl⟩ : ∃ k', k = k' + 1 := ⟨k - 1, by omega⟩
              rw [HV.out, ← hgb]
              rfl
            have hV2 : V * 64 + (b - 128) ≤ 8388607 := by rw [HV2.out]; exact HP.out _ (by omega) (fun j h1 h2 => HC2.out j h1 (by omega))
            have hmI : (V : Int) * 64 + ((b : Int) - 128) = ((V * 64 + (b - 128) : Nat) : Int) := by omega
            generalize V * 64 + (b - 128) = V2 at *
            clear HCut HOff HOn HV HC HP hgb hct
            go_wp2
            go_roundg (2 - (k + 1))
            case measure => omega
            case rel => exact ⟨k + 1, by simp, by omega, by omega, by omega, ⟨V2, rfl, hV2, HV2.out.symm ▸ rfl⟩, HC2, rfl⟩
      · obtain ⟨rfl, rfl⟩ := HCut.out k ⟨hk1, hk⟩ (fun h => hp h.1)
        have hpI : (s.size : Int) ≤ (i : Int) + (k : Int) := by omega
        clear HCut HOff HOn HV HC HP
        go_wp2
        exact bodyPost_ret (v := .tuple #[.int .i64 (-1 - (c : Int)), .int .i64 1]) (by simp [results, Tryz.results115, go_sem]) rfl ⟨rfl, rfl⟩
    · obtain rfl : k = 2 := by omega
      have hVp : V = pv s i v0 (2 - 1) := HV.out
      rw [← hVp] at HOff HOn
      by_cases o1 : V < 128
      · obtain ⟨rfl, rfl⟩ := HOff.out HC.out (.inl o1)
        have e1 : (V : Int) < 128 := by omega
        clear HCut HOff HOn HV HC HP hVp
        go_wp2
        exact bodyPost_ret (v := .tuple #[.int .i64 (-1 - (c : Int)), .int .i64 1]) (by simp [results, Tryz.results115, go_sem]) rfl ⟨rfl, rfl⟩
      · have e1 : ¬ ((V : Int) < 128) := by omega
        by_cases o2 : 1114111 < V
        · obtain ⟨rfl, rfl⟩ := HOff.out HC.out (.inr (.inl o2))
          have e2 : (1114111 : Int) < (V : Int) := by omega
          clear HCut HOff HOn HV HC HP hVp
          go_wp2
          exact bodyPost_ret (v := .tuple #[.int .i64 (-1 - (c : Int)), .int .i64 1]) (by simp [results, Tryz.results115, go_sem]) rfl ⟨rfl, rfl⟩
        · have e2 : ¬ ((1114111 : Int) < (V : Int)) := by omega
          by_cases o3 : 55296 ≤ V
          · have e3 : (55296 : Int) ≤ (V : Int) := by omega
            by_cases o4 : V ≤ 57343
            · obtain ⟨rfl, rfl⟩ := HOff.out HC.out (.inr (.inr ⟨o3, o4⟩))
              have e4 : (V : Int) ≤ 57343 := by omega
              clear HCut HOff HOn HV HC HP hVp
              go_wp2
              exact bodyPost_ret (v := .tuple #[.int .i64 (-1 - (c : Int)), .int .i64 1]) (by simp [results, Tryz.results115, go_sem]) rfl ⟨rfl, rfl⟩
            · obtain ⟨rfl, rfl⟩ := HOn.out HC.out (fun h => by unfold Off at h; omega)
              have e4 : ¬ ((V : Int) ≤ 57343) := by omega
              clear HCut HOff HOn HV HC HP hVp
              go_wp2
              exact bodyPost_ret (v := .tuple #[.int .i64 (V : Int), .int .i64 2]) (by simp [results, Tryz.results115, go_sem]) rfl ⟨rfl, rfl⟩
          · obtain ⟨rfl, rfl⟩ := HOn.out HC.out (fun h => by unfold Off at h; omega)
            have e3 : ¬ ((55296 : Int) ≤ (V : Int)) := by omega
            clear HCut HOff HOn HV HC HP hVp
            go_wp2
            exact bodyPost_ret (v := .tuple #[.int .i64 (V : Int), .int .i64 2]) (by simp [results, Tryz.results115, go_sem]) rfl ⟨rfl, rfl⟩
set_option maxRecDepth 100000 in
set_option maxHeartbeats 1000000 in
theorem one_3 (w : World) (s : ByteArray) (i : Nat) (hi : i < s.size) (hs : s.size ≤ 2097152) (h : 224 ≤ (s.get! i).toNat ∧ (s.get! i).toNat ≤ 239) :
    Calls Tryz.prog 115 #[.string s, .int .i64 (i : Int)] w fun e w' => e = .returned (.tuple #[.int .i64 (oneV s i), .int .i64 (oneW s i : Nat)]) ∧ w = w' := by
  have hL : Lead (s.get! i).toNat 3 ((s.get! i).toNat - 224) 2048 := .inr (.inl ⟨h.1, h.2, rfl, rfl, rfl⟩)
  have HCut : Hid (∀ k, 1 ≤ k ∧ k < 3 → ¬ Ct s (i + k) → oneV s i = -1 - ((s.get! i).toNat : Int) ∧ oneW s i = 1) := fun k hk hn => dec_bad s i (dec_cut s i 3 _ 2048 k hL hk hn)
  have HOff : Hid ((∀ k, 1 ≤ k → k < 3 → Ct s (i + k)) → Off (pv s i ((s.get! i).toNat - 224) (3 - 1)) 2048 → oneV s i = -1 - ((s.get! i).toNat : Int) ∧ oneW s i = 1) := fun ha ho => dec_bad s i ((dec_all s i 3 _ 2048 hL ha).1 ho)
  have HOn : Hid ((∀ k, 1 ≤ k → k < 3 → Ct s (i + k)) → ¬ Off (pv s i ((s.get! i).toNat - 224) (3 - 1)) 2048 → oneV s i = (pv s i ((s.get! i).toNat - 224) (3 - 1) : Nat) ∧ oneW s i = 3) := fun ha ho => dec_good s i _ 3 ((dec_all s i 3 _ 2048 hL ha).2 ho) (by decide)
  obtain ⟨c, hc⟩ : ∃ c, s[i].toNat = c := ⟨_, rfl⟩
  have hg : (s.get! i).toNat = c := by rw [← hc, get_get! s i hi]
  rw [hg] at h HCut HOff HOn
  clear hg hL
  obtain ⟨v0, hv0⟩ : ∃ v0 : Nat, c - 224 = v0 := ⟨_, rfl⟩
  have hv31 : v0 ≤ 31 := by omega
  have hsub : (c : Int) - 224 = (v0 : Int) := by omega
  rw [hv0] at HOff HOn
  have HP : Hid (∀ k, k ≤ 3 → (∀ j, 1 ≤ j → j ≤ k → Ct s (i + j)) → pv s i v0 k ≤ 8388607) := fun k hk hc => (pv_le s i v0 hv31 k hk hc).1
  obtain ⟨a, b⟩ := h
  have hiI : (i : Int) < (s.size : Int) := by omega
  have n1 : ¬ ((c : Int) < 128) := by omega
  have n2 : (194 : Int) ≤ (c : Int) := by omega
  have m2 : ¬ ((c : Int) ≤ 223) := by omega
  have n3 : (224 : Int) ≤ (c : Int) := by omega
  have m3 : (c : Int) ≤ 239 := by omega
  generalize oneV s i = V1 at *
  generalize oneW s i = W1 at *
  clear a b hv0 hv31
  go_enter Tryz.func115, Tryz.ntmps115
  go_wp2
  go_loopg [8, 10] (3 - 1) (fun g v y wr => ∃ k : Nat, y = .int .i64 (k : Int) ∧ 1 ≤ k ∧ k ≤ 3 ∧ g + k = 3 ∧ (∃ V : Nat, v = .int .i64 (V : Int) ∧ V ≤ 8388607 ∧ Hid (V = pv s i v0 (k - 1))) ∧ Hid (∀ j, 1 ≤ j → j < k → Ct s (i + j)) ∧ w = wr)
  case atStart => exact ⟨1, rfl, by omega, by omega, by omega, ⟨v0, rfl, HP.out 0 (by omega) (fun j h1 h2 => by omega), rfl⟩, fun j h1 h2 => by omega, rfl⟩
  case round =>
    obtain ⟨k, rfl, hk1, hkn, hg, ⟨V, rfl, hV, HV⟩, HC, rfl⟩ := hrel
    by_cases hk : k < 3
    · have hkI : (k : Int) < 3 := by omega
      by_cases hp : i + k < s.size
      · obtain ⟨b, hb⟩ : ∃ b, s[i + k].toNat = b := ⟨_, rfl⟩
        have hgb : (s.get! (i + k)).toNat = b := by rw [← hb, get_get! s (i + k) hp]
        have hb256 : b < 256 := by rw [← hgb]; exact lt256 s (i + k)
        have hpI : (i : Int) + (k : Int) < (s.size : Int) := by omega
        by_cases hlo : b < 128
        · obtain ⟨rfl, rfl⟩ := HCut.out k ⟨hk1, hk⟩ (fun h => by have := h.2.1; rw [hgb] at this; omega)
          have e1 : (b : Int) < 128 := by omega
          clear HCut HOff HOn HV HC HP hgb
          go_wp2
          exact bodyPost_ret (v := .tuple #[.int .i64 (-1 - (c : Int)), .int .i64 1]) (by simp [results, Tryz.results115, go_sem]) rfl ⟨rfl, rfl⟩
        · by_cases hhi : 191 < b
          · obtain ⟨rfl, rfl⟩ := HCut.out k ⟨hk1, hk⟩ (fun h => by have := h.2.2; rw [hgb] at this; omega)
            have e1 : ¬ ((b : Int) < 128) := by omega
            have e2 : (191 : Int) < (b : Int) := by omega
            clear HCut HOff HOn HV HC HP hgb
            go_wp2
            exact bodyPost_ret (v := .tuple #[.int .i64 (-1 - (c : Int)), .int .i64 1]) (by simp [results, Tryz.results115, go_sem]) rfl ⟨rfl, rfl⟩
          · have e1 : ¬ ((b : Int) < 128) := by omega
            have e2 : ¬ ((191 : Int) < (b : Int)) := by omega
            have hct : Ct s (i + k) := ⟨hp, by rw [hgb]; omega, by rw [hgb]; omega⟩
            have HC2 : Hid (∀ j, 1 ≤ j → j < k + 1 → Ct s (i + j)) := fun j h1 h2 => by
              rcases Nat.lt_or_ge j k with h3 | h3
              · exact HC.out j h1 h3
              · obtain rfl : j = k := by omega
                exact hct
            have HV2 : Hid (V * 64 + (b - 128) = pv s i v0 (k + 1 - 1)) := by
              show _ = _
              obtain ⟨k', rfl⟩ : ∃ k', k = k' + 1 := ⟨k - 1, by omega⟩
              rw [HV.out, ← hgb]
              rfl
            have hV2 : V * 64 + (b - 128) ≤ 8388607 := by rw [HV2.out]; exact HP.out _ (by omega) (fun j h1 h2 => HC2.out j h1 (by omega))
            have hmI : (V : Int) * 64 + ((b : Int) - 128) = ((V * 64 + (b - 128) : Nat) : Int) := by omega
            generalize V * 64 + (b - 128) = V2 at *
            clear HCut HOff HOn HV HC HP hgb hct
            go_wp2
            go_roundg (3 - (k + 1))
            case measure => omega
            case rel => exact ⟨k + 1, by simp, by omega, by omega, by omega, ⟨V2, rfl, hV2, HV2.out.symm ▸ rfl⟩, HC2, rfl⟩
      · obtain ⟨rfl, rfl⟩ := HCut.out k ⟨hk1, hk⟩ (fun h => hp h.1)
        have hpI : (s.size : Int) ≤ (i : Int) + (k : Int) := by omega
        clear HCut HOff HOn HV HC HP
        go_wp2
        exact bodyPost_ret (v := .tuple #[.int .i64 (-1 - (c : Int)), .int .i64 1]) (by simp [results, Tryz.results115, go_sem]) rfl ⟨rfl, rfl⟩
    · obtain rfl : k = 3 := by omega
      have hVp : V = pv s i v0 (3 - 1) := HV.out
      rw [← hVp] at HOff HOn
      by_cases o1 : V < 2048
      · obtain ⟨rfl, rfl⟩ := HOff.out HC.out (.inl o1)
        have e1 : (V : Int) < 2048 := by omega
        clear HCut HOff HOn HV HC HP hVp
        go_wp2
        exact bodyPost_ret (v := .tuple #[.int .i64 (-1 - (c : Int)), .int .i64 1]) (by simp [results, Tryz.results115, go_sem]) rfl ⟨rfl, rfl⟩
      · have e1 : ¬ ((V : Int) < 2048) := by omega
        by_cases o2 : 1114111 < V
        · obtain ⟨rfl, rfl⟩ := HOff.out HC.out (.inr (.inl o2))
          have e2 : (1114111 : Int) < (V : Int) := by omega
          clear HCut HOff HOn HV HC HP hVp
          go_wp2
          exact bodyPost_ret (v := .tuple #[.int .i64 (-1 - (c : Int)), .int .i64 1]) (by simp [results, Tryz.results115, go_sem]) rfl ⟨rfl, rfl⟩
        · have e2 : ¬ ((1114111 : Int) < (V : Int)) := by omega
          by_cases o3 : 55296 ≤ V
          · have e3 : (55296 : Int) ≤ (V : Int) := by omega
            by_cases o4 : V ≤ 57343
            · obtain ⟨rfl, rfl⟩ := HOff.out HC.out (.inr (.inr ⟨o3, o4⟩))
              have e4 : (V : Int) ≤ 57343 := by omega
              clear HCut HOff HOn HV HC HP hVp
              go_wp2
              exact bodyPost_ret (v := .tuple #[.int .i64 (-1 - (c : Int)), .int .i64 1]) (by simp [results, Tryz.results115, go_sem]) rfl ⟨rfl, rfl⟩
            · obtain ⟨rfl, rfl⟩ := HOn.out HC.out (fun h => by unfold Off at h; omega)
              have e4 : ¬ ((V : Int) ≤ 57343) := by omega
              clear HCut HOff HOn HV HC HP hVp
              go_wp2
              exact bodyPost_ret (v := .tuple #[.int .i64 (V : Int), .int .i64 3]) (by simp [results, Tryz.results115, go_sem]) rfl ⟨rfl, rfl⟩
          · obtain ⟨rfl, rfl⟩ := HOn.out HC.out (fun h => by unfold Off at h; omega)
            have e3 : ¬ ((55296 : Int) ≤ (V : Int)) := by omega
            clear HCut HOff HOn HV HC HP hVp
            go_wp2
            exact bodyPost_ret (v := .tuple #[.int .i64 (V : Int), .int .i64 3]) (by simp [results, Tryz.results115, go_sem]) rfl ⟨rfl, rfl⟩
set_option maxRecDepth 100000 in
set_option maxHeartbeats 1000000 in
theorem one_4 (w : World) (s : ByteArray) (i : Nat) (hi : i < s.size) (hs : s.size ≤ 2097152) (h : 240 ≤ (s.get! i).toNat ∧ (s.get! i).toNat ≤ 244) :
    Calls Tryz.prog 115 #[.string s, .int .i64 (i : Int)] w fun e w' => e = .returned (.tuple #[.int .i64 (oneV s i), .int .i64 (oneW s i : Nat)]) ∧ w = w' := by
  have hL : Lead (s.get! i).toNat 4 ((s.get! i).toNat - 240) 65536 := .inr (.inr ⟨h.1, h.2, rfl, rfl, rfl⟩)
  have HCut : Hid (∀ k, 1 ≤ k ∧ k < 4 → ¬ Ct s (i + k) → oneV s i = -1 - ((s.get! i).toNat : Int) ∧ oneW s i = 1) := fun k hk hn => dec_bad s i (dec_cut s i 4 _ 65536 k hL hk hn)
  have HOff : Hid ((∀ k, 1 ≤ k → k < 4 → Ct s (i + k)) → Off (pv s i ((s.get! i).toNat - 240) (4 - 1)) 65536 → oneV s i = -1 - ((s.get! i).toNat : Int) ∧ oneW s i = 1) := fun ha ho => dec_bad s i ((dec_all s i 4 _ 65536 hL ha).1 ho)
  have HOn : Hid ((∀ k, 1 ≤ k → k < 4 → Ct s (i + k)) → ¬ Off (pv s i ((s.get! i).toNat - 240) (4 - 1)) 65536 → oneV s i = (pv s i ((s.get! i).toNat - 240) (4 - 1) : Nat) ∧ oneW s i = 4) := fun ha ho => dec_good s i _ 4 ((dec_all s i 4 _ 65536 hL ha).2 ho) (by decide)
  obtain ⟨c, hc⟩ : ∃ c, s[i].toNat = c := ⟨_, rfl⟩
  have hg : (s.get! i).toNat = c := by rw [← hc, get_get! s i hi]
  rw [hg] at h HCut HOff HOn
  clear hg hL
  obtain ⟨v0, hv0⟩ : ∃ v0 : Nat, c - 240 = v0 := ⟨_, rfl⟩
  have hv31 : v0 ≤ 31 := by omega
  have hsub : (c : Int) - 240 = (v0 : Int) := by omega
  rw [hv0] at HOff HOn
  have HP : Hid (∀ k, k ≤ 3 → (∀ j, 1 ≤ j → j ≤ k → Ct s (i + j)) → pv s i v0 k ≤ 8388607) := fun k hk hc => (pv_le s i v0 hv31 k hk hc).1
  obtain ⟨a, b⟩ := h
  have hiI : (i : Int) < (s.size : Int) := by omega
  have n1 : ¬ ((c : Int) < 128) := by omega
  have n2 : (194 : Int) ≤ (c : Int) := by omega
  have m2 : ¬ ((c : Int) ≤ 223) := by omega
  have n3 : (224 : Int) ≤ (c : Int) := by omega
  have m3 : ¬ ((c : Int) ≤ 239) := by omega
  have n4 : (240 : Int) ≤ (c : Int) := by omega
  have m4 : (c : Int) ≤ 244 := by omega
  generalize oneV s i = V1 at *
  generalize oneW s i = W1 at *
  clear a b hv0 hv31
  go_enter Tryz.func115, Tryz.ntmps115
  go_wp2
  go_loopg [8, 10] (4 - 1) (fun g v y wr => ∃ k : Nat, y = .int .i64 (k : Int) ∧ 1 ≤ k ∧ k ≤ 4 ∧ g + k = 4 ∧ (∃ V : Nat, v = .int .i64 (V : Int) ∧ V ≤ 8388607 ∧ Hid (V = pv s i v0 (k - 1))) ∧ Hid (∀ j, 1 ≤ j → j < k → Ct s (i + j)) ∧ w = wr)
  case atStart => exact ⟨1, rfl, by omega, by omega, by omega, ⟨v0, rfl, HP.out 0 (by omega) (fun j h1 h2 => by omega), rfl⟩, fun j h1 h2 => by omega, rfl⟩
  case round =>
    obtain ⟨k, rfl, hk1, hkn, hg, ⟨V, rfl, hV, HV⟩, HC, rfl⟩ := hrel
    by_cases hk : k < 4
    · have hkI : (k : Int) < 4 := by omega
      by_cases hp : i + k < s.size
      · obtain ⟨b, hb⟩ : ∃ b, s[i + k].toNat = b := ⟨_, rfl⟩
        have hgb : (s.get! (i + k)).toNat = b := by rw [← hb, get_get! s (i + k) hp]
        have hb256 : b < 256 := by rw [← hgb]; exact lt256 s (i + k)
        have hpI : (i : Int) + (k : Int) < (s.size : Int) := by omega
        by_cases hlo : b < 128
        · obtain ⟨rfl, rfl⟩ := HCut.out k ⟨hk1, hk⟩ (fun h => by have := h.2.1; rw [hgb] at this; omega)
          have e1 : (b : Int) < 128 := by omega
          clear HCut HOff HOn HV HC HP hgb
          go_wp2
          exact bodyPost_ret (v := .tuple #[.int .i64 (-1 - (c : Int)), .int .i64 1]) (by simp [results, Tryz.results115, go_sem]) rfl ⟨rfl, rfl⟩
        · by_cases hhi : 191 < b
          · obtain ⟨rfl, rfl⟩ := HCut.out k ⟨hk1, hk⟩ (fun h => by have := h.2.2; rw [hgb] at this; omega)
            have e1 : ¬ ((b : Int) < 128) := by omega
            have e2 : (191 : Int) < (b : Int) := by omega
            clear HCut HOff HOn HV HC HP hgb
            go_wp2
            exact bodyPost_ret (v := .tuple #[.int .i64 (-1 - (c : Int)), .int .i64 1]) (by simp [results, Tryz.results115, go_sem]) rfl ⟨rfl, rfl⟩
          · have e1 : ¬ ((b : Int) < 128) := by omega
            have e2 : ¬ ((191 : Int) < (b : Int)) := by omega
            have hct : Ct s (i + k) := ⟨hp, by rw [hgb]; omega, by rw [hgb]; omega⟩
            have HC2 : Hid (∀ j, 1 ≤ j → j < k + 1 → Ct s (i + j)) := fun j h1 h2 => by
              rcases Nat.lt_or_ge j k with h3 | h3
              · exact HC.out j h1 h3
              · obtain rfl : j = k := by omega
                exact hct
            have HV2 : Hid (V * 64 + (b - 128) = pv s i v0 (k + 1 - 1)) := by
              show _ = _
              obtain ⟨k', rfl⟩ : ∃ k', k = k' + 1 := ⟨k - 1, by omega⟩
              rw [HV.out, ← hgb]
              rfl
            have hV2 : V * 64 + (b - 128) ≤ 8388607 := by rw [HV2.out]; exact HP.out _ (by omega) (fun j h1 h2 => HC2.out j h1 (by omega))
            have hmI : (V : Int) * 64 + ((b : Int) - 128) = ((V * 64 + (b - 128) : Nat) : Int) := by omega
            generalize V * 64 + (b - 128) = V2 at *
            clear HCut HOff HOn HV HC HP hgb hct
            go_wp2
            go_roundg (4 - (k + 1))
            case measure => omega
            case rel => exact ⟨k + 1, by simp, by omega, by omega, by omega, ⟨V2, rfl, hV2, HV2.out.symm ▸ rfl⟩, HC2, rfl⟩
      · obtain ⟨rfl, rfl⟩ := HCut.out k ⟨hk1, hk⟩ (fun h => hp h.1)
        have hpI : (s.size : Int) ≤ (i : Int) + (k : Int) := by omega
        clear HCut HOff HOn HV HC HP
        go_wp2
        exact bodyPost_ret (v := .tuple #[.int .i64 (-1 - (c : Int)), .int .i64 1]) (by simp [results, Tryz.results115, go_sem]) rfl ⟨rfl, rfl⟩
    · obtain rfl : k = 4 := by omega
      have hVp : V = pv s i v0 (4 - 1) := HV.out
      rw [← hVp] at HOff HOn
      by_cases o1 : V < 65536
      · obtain ⟨rfl, rfl⟩ := HOff.out HC.out (.inl o1)
        have e1 : (V : Int) < 65536 := by omega
        clear HCut HOff HOn HV HC HP hVp
        go_wp2
        exact bodyPost_ret (v := .tuple #[.int .i64 (-1 - (c : Int)), .int .i64 1]) (by simp [results, Tryz.results115, go_sem]) rfl ⟨rfl, rfl⟩
      · have e1 : ¬ ((V : Int) < 65536) := by omega
        by_cases o2 : 1114111 < V
        · obtain ⟨rfl, rfl⟩ := HOff.out HC.out (.inr (.inl o2))
          have e2 : (1114111 : Int) < (V : Int) := by omega
          clear HCut HOff HOn HV HC HP hVp
          go_wp2
          exact bodyPost_ret (v := .tuple #[.int .i64 (-1 - (c : Int)), .int .i64 1]) (by simp [results, Tryz.results115, go_sem]) rfl ⟨rfl, rfl⟩
        · have e2 : ¬ ((1114111 : Int) < (V : Int)) := by omega
          by_cases o3 : 55296 ≤ V
          · have e3 : (55296 : Int) ≤ (V : Int) := by omega
            by_cases o4 : V ≤ 57343
            · obtain ⟨rfl, rfl⟩ := HOff.out HC.out (.inr (.inr ⟨o3, o4⟩))
              have e4 : (V : Int) ≤ 57343 := by omega
              clear HCut HOff HOn HV HC HP hVp
              go_wp2
              exact bodyPost_ret (v := .tuple #[.int .i64 (-1 - (c : Int)), .int .i64 1]) (by simp [results, Tryz.results115, go_sem]) rfl ⟨rfl, rfl⟩
            · obtain ⟨rfl, rfl⟩ := HOn.out HC.out (fun h => by unfold Off at h; omega)
              have e4 : ¬ ((V : Int) ≤ 57343) := by omega
              clear HCut HOff HOn HV HC HP hVp
              go_wp2
              exact bodyPost_ret (v := .tuple #[.int .i64 (V : Int), .int .i64 4]) (by simp [results, Tryz.results115, go_sem]) rfl ⟨rfl, rfl⟩
          · obtain ⟨rfl, rfl⟩ := HOn.out HC.out (fun h => by unfold Off at h; omega)
            have e3 : ¬ ((55296 : Int) ≤ (V : Int)) := by omega
            clear HCut HOff HOn HV HC HP hVp
            go_wp2
            exact bodyPost_ret (v := .tuple #[.int .i64 (V : Int), .int .i64 4]) (by simp [results, Tryz.results115, go_sem]) rfl ⟨rfl, rfl⟩
theorem one_any (w : World) (s : ByteArray) (i : Nat) (hi : i < s.size) (hs : s.size ≤ 2097152) :
    Calls Tryz.prog 115 #[.string s, .int .i64 (i : Int)] w fun e w' => e = .returned (.tuple #[.int .i64 (oneV s i), .int .i64 (oneW s i : Nat)]) ∧ w = w' := by
  by_cases h1 : (s.get! i).toNat < 128
  · exact one_low w s i hi h1
  · by_cases h2 : (s.get! i).toNat < 194
    · exact one_none w s i hi (.inl ⟨by omega, h2⟩)
    · by_cases h3 : (s.get! i).toNat ≤ 223
      · exact one_2 w s i hi hs ⟨by omega, h3⟩
      · by_cases h4 : (s.get! i).toNat ≤ 239
        · exact one_3 w s i hi hs ⟨by omega, h4⟩
        · by_cases h5 : (s.get! i).toNat ≤ 244
          · exact one_4 w s i hi hs ⟨by omega, h5⟩
          · exact one_none w s i hi (.inr (by omega))
end Go.Proofs.YtehgeninocbpeaaGreatDoor.Gl
