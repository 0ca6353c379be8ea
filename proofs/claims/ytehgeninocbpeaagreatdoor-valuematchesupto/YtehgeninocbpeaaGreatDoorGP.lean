import Derived.Test.YtehgeninocbpeaaGreatDoorGO
import Derived.Test.YtehgeninocbpeaaGreatDoorGL
namespace Go.Proofs.YtehgeninocbpeaaGreatDoor.Gl
open Go Go.Proofs Go.RowKit
theorem begins_any (w : World) (s : ByteArray) (i : Nat) (hi : i < s.size) (hs : s.size ≤ 2097152) :
    Calls Tryz.prog 114 #[.string s, .int .i64 (i : Int)] w fun e w' => e = .returned (.bool (decide (oneW s i = 2))) ∧ w = w' := by
  have c := one_any w s i hi hs
  generalize oneV s i = x at *
  generalize oneW s i = d at *
  have e : decide (d = 2) = ((d : Int) == 2) := by rw [Bool.eq_iff_iff, decide_eq_true_eq, beq_iff_eq]; omega
  rw [e]
  clear e
  go_enter Tryz.func114, Tryz.ntmps114
  go_wp2_with (go_at_call 115; refine c.mono ?_; rintro e w' ⟨rfl, rfl⟩)
  go_ret
  exact ⟨rfl, rfl⟩
set_option maxRecDepth 100000 in
set_option maxHeartbeats 2000000 in
theorem rfold_any (w : World) (s : ByteArray) (hs : s.size ≤ 2097152) :
    Calls Tryz.prog 88 #[.string s] w fun e w' => e = .returned (.string ⟨(fol s s.size).toArray⟩) ∧ Below w.heap.size w w' := by
  obtain ⟨i0, hi, hz0, hz1, hz2⟩ := info_parts u8Info
  obtain ⟨B, hB⟩ : ∃ B, w.heap.size = B := ⟨_, rfl⟩
  rw [hB]
  obtain ⟨E, hE⟩ : ∃ E, (⟨(fol s s.size).toArray⟩ : ByteArray) = E := ⟨_, rfl⟩
  have HE : Hid ((⟨(fol s s.size).toArray⟩ : ByteArray) = E) := hE
  rw [hE]
  clear hE
  go_enter Tryz.func88, Tryz.ntmps88
  go_wp2
  go_loopg [3, 4] s.size (fun g u y wr => ∃ k : Nat, y = .int .i64 (k : Int) ∧ g + k = s.size ∧ Hid (wr.ownsRow B 5 1 u k (u8C (fol s k))) ∧ Hid (Below B w wr))
  case atStart => exact ⟨0, rfl, by omega, World.ownsRow_nil _ _ _ _, Below.refl _ _⟩
  case round =>
    obtain ⟨k, rfl, hg, HO, HBw⟩ := hrel
    have hBs : B ≤ wr.heap.size := by rw [← hB]; exact HBw.out.size
    by_cases hk : k < s.size
    · have hkI : (k : Int) < (s.size : Int) := by omega
      obtain ⟨c, hc⟩ : ∃ c, s[k].toNat = c := ⟨_, rfl⟩
      have hgc : (s.get! k).toNat = c := by rw [← hc, get_get! s k hk]
      have hc256 : c < 256 := by rw [← hgc]; exact lt256 s k
      have h63 : k + 1 ≤ maxLen := by unfold maxLen; omega
      have hby : (k + 1) * 1 ≤ 140737488355328 := by omega
      have HR : Hid (Turned s k → (rf s k).toNat = c + 32) := fun h => hgc ▸ turned_nat s k h
      have HRn : Hid (¬ Turned s k → (rf s k).toNat = c) := fun h => by unfold rf; rw [if_neg h]; exact hgc
      have fin : ∀ (W4 : World) (g4 cap4 : Nat) (x : Int), ((rf s k).toNat : Int) = x → W4.ownsRow B 5 1 (.slice (some ⟨g4, 0, none⟩) (k + 1) cap4) (k + 1) (u8C (fol s k) ++ [.int .u8 x]) → (wr.alloc (.cells #[.int .u8 x] 5)).grownBy W4 u3.ownBlock →
          Hid (W4.ownsRow B 5 1 (.slice (some ⟨g4, 0, none⟩) (k + 1) cap4) (k + 1) (u8C (fol s (k + 1)))) ∧ Hid (Below B w W4) := by
        intro W4 g4 cap4 x hx h1 h2
        refine ⟨?_, (HBw.out.alloc hBs _).grown h2 (by simp; omega) (fun j hj => (HO.out.lt j hj).1)⟩
        show World.ownsRow _ _ _ _ _ _ _
        rw [fol_succ, u8C_append]
        subst hx
        exact h1
      have FIN : Hid (∀ (W4 : World) (g4 cap4 : Nat) (x : Int), ((rf s k).toNat : Int) = x → W4.ownsRow B 5 1 (.slice (some ⟨g4, 0, none⟩) (k + 1) cap4) (k + 1) (u8C (fol s k) ++ [.int .u8 x]) → (wr.alloc (.cells #[.int .u8 x] 5)).grownBy W4 u3.ownBlock →
          Hid (W4.ownsRow B 5 1 (.slice (some ⟨g4, 0, none⟩) (k + 1) cap4) (k + 1) (u8C (fol s (k + 1)))) ∧ Hid (Below B w W4)) := fin
      clear fin
      by_cases hA : 65 ≤ c ∧ c ≤ 90
      · have hval : ((rf s k).toNat : Int) = (c : Int) + 32 := by have := HR.out (.inl (hgc ▸ hA)); omega
        obtain ⟨a1, a2⟩ := hA
        have b1 : (65 : Int) ≤ (c : Int) := by omega
        have b2 : (c : Int) ≤ 90 := by omega
        clear HR HRn hgc
        have hb2 : B ≤ (wr.alloc (.cells #[.int .u8 ((c : Int) + 32)] 5)).heap.size := by simp; omega
        go_wp2_with (first | (at_builtin; refine Stop.mk ?_) | fail)
        refine Stop.out ?_
        refine (wpList_append_lies _ rfl (.tmp 54) (.tmp 56) 87 rfl B 5 i0 _ 1 1 Tryz.underlying87 hi hz0 hz1 hz2 rfl (by decide) u3 k (u8C (fol s k)) rfl (HO.out.alloc _) ⟨wr.heap.size, 0, none⟩ 1 1 [.int .u8 ((c : Int) + 32)] rfl rfl (World.news_of_block (heap_alloc_new wr _)) (fun u hu => by rw [List.mem_singleton.1 hu]; rfl) (by decide) h63 hby hb2 _ rfl ?_)
        intro g4 cap4 W4 hown4 hgrow4 _ _
        obtain ⟨HO4, HB4⟩ := FIN.out W4 g4 cap4 _ hval hown4 hgrow4
        clear hown4 hgrow4
        go_wp2
        go_roundg (s.size - (k + 1))
        case measure => omega
        case rel => exact ⟨k + 1, by simp, by omega, HO4, HB4⟩
      · have bA : decide ((65 : Int) ≤ (c : Int)) = false ∨ ((65 : Int) ≤ (c : Int) ∧ decide ((c : Int) ≤ 90) = false) := by
          by_cases h : 65 ≤ c
          · exact .inr ⟨by omega, by simp; omega⟩
          · exact .inl (by simp; omega)
        by_cases hk0 : k = 0
        · have hval : ((rf s k).toNat : Int) = (c : Int) := by
            have := HRn.out (fun h => by rcases h with h | h; rw [hgc] at h; exact hA h; omega)
            omega
          subst hk0
          clear HR HRn hgc hA
          rcases bA with bA | ⟨b1, b2⟩
          · have hb2 : B ≤ (wr.alloc (.cells #[.int .u8 (c : Int)] 5)).heap.size := by simp; omega
            go_wp2_with (first | (at_builtin; refine Stop.mk ?_) | fail)
            refine Stop.out ?_
            refine (wpList_append_lies _ rfl (.tmp 54) (.tmp 56) 87 rfl B 5 i0 _ 1 1 Tryz.underlying87 hi hz0 hz1 hz2 rfl (by decide) u3 0 (u8C (fol s 0)) rfl (HO.out.alloc _) ⟨wr.heap.size, 0, none⟩ 1 1 [.int .u8 (c : Int)] rfl rfl (World.news_of_block (heap_alloc_new wr _)) (fun u hu => by rw [List.mem_singleton.1 hu]; rfl) (by decide) h63 hby hb2 _ rfl ?_)
            intro g4 cap4 W4 hown4 hgrow4 _ _
            obtain ⟨HO4, HB4⟩ := FIN.out W4 g4 cap4 _ hval hown4 hgrow4
            clear hown4 hgrow4
            go_wp2
            go_roundg (s.size - (0 + 1))
            case measure => omega
            case rel => exact ⟨0 + 1, by simp, by omega, HO4, HB4⟩
          · have hb2 : B ≤ (wr.alloc (.cells #[.int .u8 (c : Int)] 5)).heap.size := by simp; omega
            go_wp2_with (first | (at_builtin; refine Stop.mk ?_) | fail)
            refine Stop.out ?_
            refine (wpList_append_lies _ rfl (.tmp 54) (.tmp 56) 87 rfl B 5 i0 _ 1 1 Tryz.underlying87 hi hz0 hz1 hz2 rfl (by decide) u3 0 (u8C (fol s 0)) rfl (HO.out.alloc _) ⟨wr.heap.size, 0, none⟩ 1 1 [.int .u8 (c : Int)] rfl rfl (World.news_of_block (heap_alloc_new wr _)) (fun u hu => by rw [List.mem_singleton.1 hu]; rfl) (by decide) h63 hby hb2 _ rfl ?_)
            intro g4 cap4 W4 hown4 hgrow4 _ _
            obtain ⟨HO4, HB4⟩ := FIN.out W4 g4 cap4 _ hval hown4 hgrow4
            clear hown4 hgrow4
            go_wp2
            go_roundg (s.size - (0 + 1))
            case measure => omega
            case rel => exact ⟨0 + 1, by simp, by omega, HO4, HB4⟩
        · obtain ⟨j, rfl⟩ : ∃ j, k = j + 1 := ⟨k - 1, by omega⟩
          have hj : j < s.size := by omega
          obtain ⟨p, hp⟩ : ∃ p, s[j].toNat = p := ⟨_, rfl⟩
          have hgp : (s.get! j).toNat = p := by rw [← hp, get_get! s j hj]
          have hkp : (0 : Int) < ((j + 1 : Nat) : Int) := by omega
          have hks : ((j + 1 : Nat) : Int) - 1 = (j : Int) := by omega
          have hjI : (j : Int) < (s.size : Int) := by omega
          have hT : Turned s (j + 1) ↔ (p = 195 ∧ 128 ≤ c ∧ c ≤ 158 ∧ c ≠ 151 ∧ oneW s j = 2) := by
            unfold Turned
            rw [hgc, show j + 1 - 1 = j by omega, hgp]
            constructor
            · rintro (h | h)
              · exact absurd h hA
              · exact h.2
            · intro h; exact .inr ⟨by omega, h⟩
          have c19 := fun W => begins_any W s j hj hs
          have hno : ∀ {q : Prop}, ¬ (p = 195 ∧ 128 ≤ c ∧ c ≤ 158 ∧ c ≠ 151 ∧ oneW s j = 2) → ((rf s (j + 1)).toNat : Int) = (c : Int) := fun h => by
            have := HRn.out (fun h' => h (hT.1 h'))
            omega
          by_cases h1 : p = 195
          · have e1 : ((p : Int) == 195) = true := by simp; omega
            by_cases h2 : 128 ≤ c
            · have e2 : (128 : Int) ≤ (c : Int) := by omega
              by_cases h3 : c ≤ 158
              · have e3 : (c : Int) ≤ 158 := by omega
                have q1 : (65 : Int) ≤ (c : Int) := by omega
                have q2 : decide ((c : Int) ≤ 90) = false := by simp; omega
                by_cases h4 : c = 151
                · have hval := hno (q := True) (fun h => h.2.2.2.1 h4)
                  subst h4
                  clear HR HRn hgc hA hT hno bA h1 c19
                  have hb2 : B ≤ (wr.alloc (.cells #[.int .u8 151] 5)).heap.size := by simp; omega
                  go_wp2_with (first | (at_builtin; refine Stop.mk ?_) | fail)
                  refine Stop.out ?_
                  refine (wpList_append_lies _ rfl (.tmp 54) (.tmp 56) 87 rfl B 5 i0 _ 1 1 Tryz.underlying87 hi hz0 hz1 hz2 rfl (by decide) u3 (j + 1) (u8C (fol s (j + 1))) rfl (HO.out.alloc _) ⟨wr.heap.size, 0, none⟩ 1 1 [.int .u8 151] rfl rfl (World.news_of_block (heap_alloc_new wr _)) (fun u hu => by rw [List.mem_singleton.1 hu]; rfl) (by decide) h63 hby hb2 _ rfl ?_)
                  intro g4 cap4 W4 hown4 hgrow4 _ _
                  obtain ⟨HO4, HB4⟩ := FIN.out W4 g4 cap4 _ hval hown4 hgrow4
                  clear hown4 hgrow4
                  go_wp2
                  go_roundg (s.size - ((j + 1) + 1))
                  case measure => omega
                  case rel => exact ⟨(j + 1) + 1, by simp, by omega, HO4, HB4⟩
                · have e4 : ((c : Int) == 151) = false := by simp; omega
                  have e4' : ¬ ((c : Int) = 151) := by omega
                  have e4'' : ((c : Int) != 151) = true := by simp; omega
                  by_cases h5 : oneW s j = 2
                  · have hval : ((rf s (j + 1)).toNat : Int) = (c : Int) + 32 := by
                      have := HR.out (hT.2 ⟨h1, h2, h3, h4, h5⟩)
                      omega
                    rw [h5] at c19
                    clear HR HRn hgc hA hT hno bA h1 h4
                    have hb2 : B ≤ (wr.alloc (.cells #[.int .u8 ((c : Int) + 32)] 5)).heap.size := by simp; omega
                    go_wp2_with (first | (at_builtin; refine Stop.mk ?_) | (go_at_call 114; refine (c19 _).mono ?_; rintro e w' ⟨rfl, rfl⟩))
                    refine Stop.out ?_
                    refine (wpList_append_lies _ rfl (.tmp 54) (.tmp 56) 87 rfl B 5 i0 _ 1 1 Tryz.underlying87 hi hz0 hz1 hz2 rfl (by decide) u3 (j + 1) (u8C (fol s (j + 1))) rfl (HO.out.alloc _) ⟨wr.heap.size, 0, none⟩ 1 1 [.int .u8 ((c : Int) + 32)] rfl rfl (World.news_of_block (heap_alloc_new wr _)) (fun u hu => by rw [List.mem_singleton.1 hu]; rfl) (by decide) h63 hby hb2 _ rfl ?_)
                    intro g4 cap4 W4 hown4 hgrow4 _ _
                    obtain ⟨HO4, HB4⟩ := FIN.out W4 g4 cap4 _ hval hown4 hgrow4
                    clear hown4 hgrow4
                    go_wp2
                    go_roundg (s.size - ((j + 1) + 1))
                    case measure => omega
                    case rel => exact ⟨(j + 1) + 1, by simp, by omega, HO4, HB4⟩
                  · have hval := hno (q := True) (fun h => h5 h.2.2.2.2)
                    have e5 : decide (oneW s j = 2) = false := by simp; exact h5
                    rw [e5] at c19
                    clear HR HRn hgc hA hT hno bA h1 h4 h5 e5
                    have hb2 : B ≤ (wr.alloc (.cells #[.int .u8 (c : Int)] 5)).heap.size := by simp; omega
                    go_wp2_with (first | (at_builtin; refine Stop.mk ?_) | (go_at_call 114; refine (c19 _).mono ?_; rintro e w' ⟨rfl, rfl⟩))
                    refine Stop.out ?_
                    refine (wpList_append_lies _ rfl (.tmp 54) (.tmp 56) 87 rfl B 5 i0 _ 1 1 Tryz.underlying87 hi hz0 hz1 hz2 rfl (by decide) u3 (j + 1) (u8C (fol s (j + 1))) rfl (HO.out.alloc _) ⟨wr.heap.size, 0, none⟩ 1 1 [.int .u8 (c : Int)] rfl rfl (World.news_of_block (heap_alloc_new wr _)) (fun u hu => by rw [List.mem_singleton.1 hu]; rfl) (by decide) h63 hby hb2 _ rfl ?_)
                    intro g4 cap4 W4 hown4 hgrow4 _ _
                    obtain ⟨HO4, HB4⟩ := FIN.out W4 g4 cap4 _ hval hown4 hgrow4
                    clear hown4 hgrow4
                    go_wp2
                    go_roundg (s.size - ((j + 1) + 1))
                    case measure => omega
                    case rel => exact ⟨(j + 1) + 1, by simp, by omega, HO4, HB4⟩
              · have hval := hno (q := True) (fun h => h3 h.2.2.1)
                have e3 : decide ((c : Int) ≤ 158) = false := by simp; omega
                have q1 : (65 : Int) ≤ (c : Int) := by omega
                have q2 : decide ((c : Int) ≤ 90) = false := by simp; omega
                clear HR HRn hgc hA hT hno bA h1 c19 h3
                have hb2 : B ≤ (wr.alloc (.cells #[.int .u8 (c : Int)] 5)).heap.size := by simp; omega
                go_wp2_with (first | (at_builtin; refine Stop.mk ?_) | fail)
                refine Stop.out ?_
                refine (wpList_append_lies _ rfl (.tmp 54) (.tmp 56) 87 rfl B 5 i0 _ 1 1 Tryz.underlying87 hi hz0 hz1 hz2 rfl (by decide) u3 (j + 1) (u8C (fol s (j + 1))) rfl (HO.out.alloc _) ⟨wr.heap.size, 0, none⟩ 1 1 [.int .u8 (c : Int)] rfl rfl (World.news_of_block (heap_alloc_new wr _)) (fun u hu => by rw [List.mem_singleton.1 hu]; rfl) (by decide) h63 hby hb2 _ rfl ?_)
                intro g4 cap4 W4 hown4 hgrow4 _ _
                obtain ⟨HO4, HB4⟩ := FIN.out W4 g4 cap4 _ hval hown4 hgrow4
                clear hown4 hgrow4
                go_wp2
                go_roundg (s.size - ((j + 1) + 1))
                case measure => omega
                case rel => exact ⟨(j + 1) + 1, by simp, by omega, HO4, HB4⟩
            · have hval := hno (q := True) (fun h => h2 h.2.1)
              have e2 : decide ((128 : Int) ≤ (c : Int)) = false := by simp; omega
              clear HR HRn hgc hA hT hno h1 c19
              rcases bA with bA | ⟨b1, b2⟩
              · have hb2 : B ≤ (wr.alloc (.cells #[.int .u8 (c : Int)] 5)).heap.size := by simp; omega
                go_wp2_with (first | (at_builtin; refine Stop.mk ?_) | fail)
                refine Stop.out ?_
                refine (wpList_append_lies _ rfl (.tmp 54) (.tmp 56) 87 rfl B 5 i0 _ 1 1 Tryz.underlying87 hi hz0 hz1 hz2 rfl (by decide) u3 (j + 1) (u8C (fol s (j + 1))) rfl (HO.out.alloc _) ⟨wr.heap.size, 0, none⟩ 1 1 [.int .u8 (c : Int)] rfl rfl (World.news_of_block (heap_alloc_new wr _)) (fun u hu => by rw [List.mem_singleton.1 hu]; rfl) (by decide) h63 hby hb2 _ rfl ?_)
                intro g4 cap4 W4 hown4 hgrow4 _ _
                obtain ⟨HO4, HB4⟩ := FIN.out W4 g4 cap4 _ hval hown4 hgrow4
                clear hown4 hgrow4
                go_wp2
                go_roundg (s.size - ((j + 1) + 1))
                case measure => omega
                case rel => exact ⟨(j + 1) + 1, by simp, by omega, HO4, HB4⟩
              · have hb2 : B ≤ (wr.alloc (.cells #[.int .u8 (c : Int)] 5)).heap.size := by simp; omega
                go_wp2_with (first | (at_builtin; refine Stop.mk ?_) | fail)
                refine Stop.out ?_
                refine (wpList_append_lies _ rfl (.tmp 54) (.tmp 56) 87 rfl B 5 i0 _ 1 1 Tryz.underlying87 hi hz0 hz1 hz2 rfl (by decide) u3 (j + 1) (u8C (fol s (j + 1))) rfl (HO.out.alloc _) ⟨wr.heap.size, 0, none⟩ 1 1 [.int .u8 (c : Int)] rfl rfl (World.news_of_block (heap_alloc_new wr _)) (fun u hu => by rw [List.mem_singleton.1 hu]; rfl) (by decide) h63 hby hb2 _ rfl ?_)
                intro g4 cap4 W4 hown4 hgrow4 _ _
                obtain ⟨HO4, HB4⟩ := FIN.out W4 g4 cap4 _ hval hown4 hgrow4
                clear hown4 hgrow4
                go_wp2
                go_roundg (s.size - ((j + 1) + 1))
                case measure => omega
                case rel => exact ⟨(j + 1) + 1, by simp, by omega, HO4, HB4⟩
          · have hval := hno (q := True) (fun h => h1 h.1)
            have e1 : ((p : Int) == 195) = false := by simp; omega
            clear HR HRn hgc hA hT hno h1 c19
            rcases bA with bA | ⟨b1, b2⟩
            · have hb2 : B ≤ (wr.alloc (.cells #[.int .u8 (c : Int)] 5)).heap.size := by simp; omega
              go_wp2_with (first | (at_builtin; refine Stop.mk ?_) | fail)
              refine Stop.out ?_
              refine (wpList_append_lies _ rfl (.tmp 54) (.tmp 56) 87 rfl B 5 i0 _ 1 1 Tryz.underlying87 hi hz0 hz1 hz2 rfl (by decide) u3 (j + 1) (u8C (fol s (j + 1))) rfl (HO.out.alloc _) ⟨wr.heap.size, 0, none⟩ 1 1 [.int .u8 (c : Int)] rfl rfl (World.news_of_block (heap_alloc_new wr _)) (fun u hu => by rw [List.mem_singleton.1 hu]; rfl) (by decide) h63 hby hb2 _ rfl ?_)
              intro g4 cap4 W4 hown4 hgrow4 _ _
              obtain ⟨HO4, HB4⟩ := FIN.out W4 g4 cap4 _ hval hown4 hgrow4
              clear hown4 hgrow4
              go_wp2
              go_roundg (s.size - ((j + 1) + 1))
              case measure => omega
              case rel => exact ⟨(j + 1) + 1, by simp, by omega, HO4, HB4⟩
            · have hb2 : B ≤ (wr.alloc (.cells #[.int .u8 (c : Int)] 5)).heap.size := by simp; omega
              go_wp2_with (first | (at_builtin; refine Stop.mk ?_) | fail)
              refine Stop.out ?_
              refine (wpList_append_lies _ rfl (.tmp 54) (.tmp 56) 87 rfl B 5 i0 _ 1 1 Tryz.underlying87 hi hz0 hz1 hz2 rfl (by decide) u3 (j + 1) (u8C (fol s (j + 1))) rfl (HO.out.alloc _) ⟨wr.heap.size, 0, none⟩ 1 1 [.int .u8 (c : Int)] rfl rfl (World.news_of_block (heap_alloc_new wr _)) (fun u hu => by rw [List.mem_singleton.1 hu]; rfl) (by decide) h63 hby hb2 _ rfl ?_)
              intro g4 cap4 W4 hown4 hgrow4 _ _
              obtain ⟨HO4, HB4⟩ := FIN.out W4 g4 cap4 _ hval hown4 hgrow4
              clear hown4 hgrow4
              go_wp2
              go_roundg (s.size - ((j + 1) + 1))
              case measure => omega
              case rel => exact ⟨(j + 1) + 1, by simp, by omega, HO4, HB4⟩
    · obtain rfl : k = s.size := by omega
      have hkI : ¬ ((s.size : Int) < (s.size : Int)) := by omega
      have hO := HO.out
      rw [show s.size = (fol s s.size).length by rw [fol_len]] at hO
      have hcv := conv_own (B := B) (v := u3) (w := wr) (l := fol s s.size) (by rw [fol_len]; exact HO.out)
      rw [HE.out] at hcv
      clear hO HO
      go_wp2
      go_ret
      exact ⟨rfl, HBw.out⟩
end Go.Proofs.YtehgeninocbpeaaGreatDoor.Gl
