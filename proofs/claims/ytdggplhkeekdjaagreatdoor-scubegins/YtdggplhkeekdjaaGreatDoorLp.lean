import Derived.Test.YtdggplhkeekdjaaGreatDoorLo
import Derived.Test.YtdggplhkeekdjaaGreatDoorLe
/-
  DERIVED. The program's Check, kind by kind.
-/
namespace Go.Proofs.YtdggplhkeekdjaaGreatDoor.Ck
open Go Go.Proofs Go.RowKit
open Sp (okV)

set_option maxRecDepth 100000 in
set_option maxHeartbeats 4000000 in
theorem values_18 (W : World) : Calls Tryz.prog 82 #[.int .i64 18] W fun e w' => e = .returned (.tuple #[.agg (rpC { data := #[] } 0 0 0 false false false false .nilFunc .nilFunc), .bool false]) ∧ Below W.heap.size W w' := by
  unfold rpC
  go_enter Tryz.func82, Tryz.ntmps82
  go_wp2
  exact bodyPost_ret (by simp only [results, Tryz.results82]; simp [go_sem]) rfl ⟨rfl, (Below.refl _ _).alloc (Nat.le_refl _) _⟩
set_option maxRecDepth 100000 in
set_option maxHeartbeats 4000000 in
open Sp in
theorem values_row (W : World) (v : Int) (h18 : v ≠ 18) : Calls Tryz.prog 82 #[.int .i64 v] W fun e w' => e = .returned (.tuple #[.agg (Rp.rowOf (Rp.vn v)).toArray, .bool (okV v)]) ∧ Below W.heap.size W w' := by
  obtain ⟨cf, ff, hcf, hff, h3⟩ := Rp.rep_shape v
  have c25 : ∀ W, Calls Tryz.prog 101 #[.int .i64 v] W fun e w' => e = .returned (.tuple #[.agg #[.string (Rp.nm (Rp.vn v)), .int .u8 (Rp.pd (Rp.vn v)), .int .i64 (Rp.un (Rp.vn v)), .int .i64 (Rp.mo (Rp.vn v)), .bool (Rp.tx (Rp.vn v)), .bool (Rp.ch (Rp.vn v)), .bool (Rp.mu (Rp.vn v)), .bool (Rp.lo (Rp.vn v)), cf, ff], .bool (decide (1 ≤ v ∧ v ≤ 28))]) ∧ Below W.heap.size W w' := by
    intro W
    have := Rp.repOf_any W v
    rw [h3] at this
    exact this
  rw [h3]
  clear h3
  show Calls Tryz.prog 82 #[.int .i64 v] W fun e w' => e = .returned (.tuple #[.agg #[.string (Rp.nm (Rp.vn v)), .int .u8 (Rp.pd (Rp.vn v)), .int .i64 (Rp.un (Rp.vn v)), .int .i64 (Rp.mo (Rp.vn v)), .bool (Rp.tx (Rp.vn v)), .bool (Rp.ch (Rp.vn v)), .bool (Rp.mu (Rp.vn v)), .bool (Rp.lo (Rp.vn v)), cf, ff], .bool (okV v)]) ∧ Below W.heap.size W w'
  have hok : decide (1 ≤ v ∧ v ≤ 28) = okV v := by unfold okV; simp [h18]
  rw [hok] at c25
  generalize okV v = ok at *
  generalize Rp.nm (Rp.vn v) = n at *
  generalize Rp.pd (Rp.vn v) = p at *
  generalize Rp.un (Rp.vn v) = u at *
  generalize Rp.mo (Rp.vn v) = m at *
  generalize Rp.tx (Rp.vn v) = t at *
  generalize Rp.ch (Rp.vn v) = c at *
  generalize Rp.mu (Rp.vn v) = q at *
  generalize Rp.lo (Rp.vn v) = l at *
  clear hok
  have HC : Hid (∀ w', Below (W.heap.size + 1) (W.alloc (.cells #[.string ⟨#[]⟩, .int .u8 0, .int .i64 0, .int .i64 0, .bool false, .bool false, .bool false, .bool false, .nilFunc, .nilFunc] 179)) w' → w'.cell? ⟨W.heap.size, 0, none⟩ = some (.string ⟨#[]⟩) ∧ w'.frozen? ⟨W.heap.size, 0, none⟩ = false ∧ w'.cell? ⟨W.heap.size, 1, none⟩ = some (.int .u8 0) ∧ w'.frozen? ⟨W.heap.size, 1, none⟩ = false ∧ w'.cell? ⟨W.heap.size, 2, none⟩ = some (.int .i64 0) ∧ w'.frozen? ⟨W.heap.size, 2, none⟩ = false ∧ w'.cell? ⟨W.heap.size, 3, none⟩ = some (.int .i64 0) ∧ w'.frozen? ⟨W.heap.size, 3, none⟩ = false ∧ w'.cell? ⟨W.heap.size, 4, none⟩ = some (.bool false) ∧ w'.frozen? ⟨W.heap.size, 4, none⟩ = false ∧ w'.cell? ⟨W.heap.size, 5, none⟩ = some (.bool false) ∧ w'.frozen? ⟨W.heap.size, 5, none⟩ = false ∧ w'.cell? ⟨W.heap.size, 6, none⟩ = some (.bool false) ∧ w'.frozen? ⟨W.heap.size, 6, none⟩ = false ∧ w'.cell? ⟨W.heap.size, 7, none⟩ = some (.bool false) ∧ w'.frozen? ⟨W.heap.size, 7, none⟩ = false ∧ w'.cell? ⟨W.heap.size, 8, none⟩ = some (.nilFunc) ∧ w'.frozen? ⟨W.heap.size, 8, none⟩ = false ∧ w'.cell? ⟨W.heap.size, 9, none⟩ = some (.nilFunc) ∧ w'.frozen? ⟨W.heap.size, 9, none⟩ = false) := fun w' hb => by
    have hh : w'.heap[W.heap.size]? = some (.cells #[.string ⟨#[]⟩, .int .u8 0, .int .i64 0, .int .i64 0, .bool false, .bool false, .bool false, .bool false, .nilFunc, .nilFunc] 179) := (hb.block W.heap.size (by omega)).trans (Wk.heap_new W _)
    refine ⟨?_, ?_, ?_, ?_, ?_, ?_, ?_, ?_, ?_, ?_, ?_, ?_, ?_, ?_, ?_, ?_, ?_, ?_, ?_, ?_⟩
    all_goals first | (rw [cell_of_row _ _ _ _ _ _ hh]; rfl) | (rw [World.frozen?, hh]; rfl)
  rcases hcf with rfl | ⟨j, rfl⟩ <;> rcases hff with rfl | ⟨j2, rfl⟩
  all_goals go_enter Tryz.func82, Tryz.ntmps82
  all_goals go_wp2_with (first | (go_at_call 101; refine (c25 _).mono ?_; rintro e w' ⟨rfl, hb⟩; rw [Wk.size_alloc] at hb; obtain ⟨c0, f0, c1, f1, c2, f2, c3, f3, c4, f4, c5, f5, c6, f6, c7, f7, c8, f8, c9, f9⟩ := HC.out w' hb; have HBL : Hid (Below W.heap.size W w') := (((Below.refl _ _).alloc (Nat.le_refl _) _)).trans (hb.mono (by omega)); clear hb) | fail)
  all_goals exact bodyPost_ret (by simp only [results, Tryz.results82]; simp [go_sem, *]) rfl ⟨rfl, ((((((((((HBL.out.setCell (Nat.le_refl _) _).setCell (Nat.le_refl _) _).setCell (Nat.le_refl _) _).setCell (Nat.le_refl _) _).setCell (Nat.le_refl _) _).setCell (Nat.le_refl _) _).setCell (Nat.le_refl _) _).setCell (Nat.le_refl _) _).setCell (Nat.le_refl _) _).setCell (Nat.le_refl _) _)⟩
/-- Which characters a kind has; which form. -/
def KK : Nat → Option (Int → Bool)
  | 1 => some tiI
  | 2 => some (doI ageM)
  | 4 => some cdI
  | 5 => some dgI
  | 6 => some (doI decimalM)
  | 7 => some (doI momM)
  | 10 => some (doI wholeM)
  | 11 => some lnI
  | 12 => some prI
  | 15 => some lnI
  | 16 => some lnI
  | 20 => some prI
  | 21 => some (doI pointedM)
  | 22 => some lnI
  | 23 => some (doI pointedM)
  | 26 => some lkI
  | 28 => some prI
  | _ => none
def agF (s : ByteArray) : Bool := decide (s.size = 4) && decide (cnt s s.size 0 = 3)
def daF (s : ByteArray) : Bool := (((cnt s s.size 0 : Nat) : Int) == 8)
def tmF (s : ByteArray) : Bool := pcB s 2 6
def uiF (s : ByteArray) : Bool := (spCB 46 s).all prB
def FF : Nat → Option (ByteArray → Bool)
  | 2 => some agF
  | 5 => some daF
  | 6 => some dcS
  | 7 => some moP
  | 10 => some inP
  | 15 => some nmP
  | 21 => some tmF
  | 23 => some uiF
  | _ => none
def wlK (k : Nat) (s : ByteArray) : Int := wlP (Rp.nm k) (Rp.un k).toNat (Rp.mo k).toNat (Rp.tx k) (Rp.ch k) (Rp.mu k) s
def wcK (k : Nat) (s : ByteArray) : Int := match KK k with
  | some K => wcP K s s.size 0
  | none => -1
def foK (k : Nat) (s : ByteArray) : Bool := match FF k with
  | some F => F s
  | none => true
theorem wl_small {n : ByteArray} {u m : Nat} {t c q : Bool} {s : ByteArray} (h : wlP n u m t c q s < 0) : s.size ≤ 65534 := by
  unfold wlP at h
  rcases Nat.lt_or_ge 65534 s.size with h1 | h1
  · rw [if_pos h1] at h; omega
  · exact h1
/-- What no character is refused of is text of ASCII, where the kind has no other. -/
theorem wc_ascii (K : Int → Bool) (hK : ∀ c, K c = true → c < 128) (s : ByteArray) : ∀ f i, s.size ≤ i + f → wcP K s f i < 0 → ∀ k, i ≤ k → k < s.size → (s.get! k).toNat < 128 ∧ K ((s.get! k).toNat : Int) = true
  | 0, i, hf, _, k, h1, h2 => by omega
  | f + 1, i, hf, h, k, h1, h2 => by
    have hi : i < s.size := by omega
    rw [wcP, if_pos hi] at h
    split at h
    · rename_i hc
      have hd := hK _ hc.1
      have hb : (s.get! i).toNat < 128 := by
        rcases Nat.lt_or_ge (s.get! i).toNat 128 with g | g
        · exact g
        · have := (decode_high s i hi (by rw [get_get! s i hi]; exact g)).1
          omega
      have he := decode_ascii s i hi (by rw [get_get! s i hi]; exact hb)
      rw [get_get! s i hi] at he
      rw [he] at h hc
      rcases Nat.lt_or_ge i k with g | g
      · exact wc_ascii K hK s f (i + 1) (by omega) h k (by omega) h2
      · obtain rfl : i = k := by omega
        exact ⟨hb, hc.1⟩
    · omega
theorem mem_get (s : ByteArray) (b : UInt8) (h : b ∈ s.data.toList) : ∃ k, k < s.size ∧ s.get! k = b := by
  obtain ⟨k, hk, rfl⟩ := List.getElem_of_mem h
  rw [Array.length_toList] at hk
  refine ⟨k, hk, ?_⟩
  rw [← get_get! s k hk]
  rw [Array.getElem_toList]
  rfl
theorem mom_small (c : Int) (h : doI momM c = true) : c < 128 := by
  unfold doI dgI hasR at h
  simp only [Bool.or_eq_true, Bool.and_eq_true, decide_eq_true_eq] at h
  omega
theorem chF_70 : ChF 116 tiI := ⟨enters_of Tryz.func116 (by kernel_rfl) rfl, fun W c => (isTitle_any W c).mono fun _ _ h => ⟨h.1, h.2 ▸ Below.refl _ _⟩⟩
theorem chF_71 : ChF 117 (doI ageM) := ⟨enters_of Tryz.func117 (by kernel_rfl) rfl, fun W c => ageC_any W c⟩
theorem chF_73 : ChF 119 cdI := ⟨enters_of Tryz.func119 (by kernel_rfl) rfl, fun W c => codeC_any W c⟩
theorem chF_74 : ChF 120 dgI := ⟨enters_of Tryz.func120 (by kernel_rfl) rfl, fun W c => (isDigit74_any W c).mono fun _ _ h => ⟨h.1, h.2 ▸ Below.refl _ _⟩⟩
theorem chF_76 : ChF 122 (doI decimalM) := ⟨enters_of Tryz.func122 (by kernel_rfl) rfl, fun W c => decimalC_any W c⟩
theorem chF_78 : ChF 124 (doI momM) := ⟨enters_of Tryz.func124 (by kernel_rfl) rfl, fun W c => momC_any W c⟩
theorem chF_80 : ChF 126 (doI wholeM) := ⟨enters_of Tryz.func126 (by kernel_rfl) rfl, fun W c => wholeC_any W c⟩
theorem chF_82 : ChF 128 lnI := ⟨enters_of Tryz.func128 (by kernel_rfl) rfl, fun W c => (isLine_any W c).mono fun _ _ h => ⟨h.1, h.2 ▸ Below.refl _ _⟩⟩
theorem chF_83 : ChF 129 prI := ⟨enters_of Tryz.func129 (by kernel_rfl) rfl, fun W c => proseC_any W c⟩
theorem chF_85 : ChF 131 (doI pointedM) := ⟨enters_of Tryz.func131 (by kernel_rfl) rfl, fun W c => pointedC_any W c⟩
theorem chF_88 : ChF 134 lkI := ⟨enters_of Tryz.func134 (by kernel_rfl) rfl, fun W c => (isLink_any W c).mono fun _ _ h => ⟨h.1, h.2 ▸ Below.refl _ _⟩⟩
theorem fmF_72 (s : ByteArray) (hs : s.size ≤ 65534) : FmF (.func (.func 118) #[] #[]) s (agF s) := .inr ⟨118, rfl, enters_of Tryz.func118 (by kernel_rfl) rfl, fun W _ => (isAge_any W s (by omega)).mono fun _ _ h => ⟨h.1, h.2 ▸ Below.refl _ _⟩⟩
theorem fmF_75 (s : ByteArray) (hs : s.size ≤ 65534) : FmF (.func (.func 121) #[] #[]) s (daF s) := .inr ⟨121, rfl, enters_of Tryz.func121 (by kernel_rfl) rfl, fun W _ => (isDate_any W s (by omega)).mono fun _ _ h => ⟨h.1, h.2 ▸ Below.refl _ _⟩⟩
theorem fmF_77 (s : ByteArray) (hs : s.size ≤ 65534) : FmF (.func (.func 123) #[] #[]) s (dcS s) := .inr ⟨123, rfl, enters_of Tryz.func123 (by kernel_rfl) rfl, fun W _ => (isDecimal_any W s (by omega)).mono fun _ _ h => ⟨h.1, h.2 ▸ Below.refl _ _⟩⟩
theorem fmF_79 (s : ByteArray) (hs : s.size ≤ 65534) (ha : ∀ b ∈ s.data.toList, b.toNat < 128) : FmF (.func (.func 125) #[] #[]) s (moP s) := .inr ⟨125, rfl, enters_of Tryz.func125 (by kernel_rfl) rfl, fun W _ => isMoment_any W s (by omega) ha⟩
theorem fmF_81 (s : ByteArray) (hs : s.size ≤ 65534) : FmF (.func (.func 127) #[] #[]) s (inP s) := .inr ⟨127, rfl, enters_of Tryz.func127 (by kernel_rfl) rfl, fun W hg => isInteger_any W s (by omega) hg⟩
theorem fmF_84 (s : ByteArray) (hs : s.size ≤ 65534) : FmF (.func (.func 130) #[] #[]) s (nmP s) := .inr ⟨130, rfl, enters_of Tryz.func130 (by kernel_rfl) rfl, fun W _ => isName_any W s (by omega)⟩
theorem fmF_86 (s : ByteArray) (hs : s.size ≤ 65534) : FmF (.func (.func 132) #[] #[]) s (tmF s) := .inr ⟨132, rfl, enters_of Tryz.func132 (by kernel_rfl) rfl, fun W _ => (isTime_any W s (by omega)).mono fun _ _ h => ⟨h.1, h.2 ▸ Below.refl _ _⟩⟩
theorem fmF_87 (s : ByteArray) (hs : s.size ≤ 65534) : FmF (.func (.func 133) #[] #[]) s (uiF s) := .inr ⟨133, rfl, enters_of Tryz.func133 (by kernel_rfl) rfl, fun W _ => isUID_any W s (by omega)⟩
theorem check_1 (w : World) (s : ByteArray) (hs : s.size ≤ 140737488351232) (hG : Gb w) : Calls Tryz.prog 50 #[.int .i64 1, .string s] w (CkP w (ckO true s.size (wlK 1 s) (wcK 1 s) (foK 1 s))) :=
  check_fn w 1 ⟨#[65, 69]⟩ 32 1 16 true false true false 116 s true (wlK 1 s) (wcK 1 s) (foK 1 s)
    (fun W => values_row W 1 (by decide))
    (fun W => wrongLength_any W ⟨#[65, 69]⟩ 32 1 16 true false true false (.func (.func 116) #[] #[]) .nilFunc s hs (by decide) (by decide))
    (fun W hg => wrongChar_any W ⟨#[65, 69]⟩ 32 1 16 true false true false 116 .nilFunc s hs tiI chF_70 hg)
    (fun _ _ => .inl ⟨rfl, rfl⟩) hG
theorem check_2 (w : World) (s : ByteArray) (hs : s.size ≤ 140737488351232) (hG : Gb w) : Calls Tryz.prog 50 #[.int .i64 2, .string s] w (CkP w (ckO true s.size (wlK 2 s) (wcK 2 s) (foK 2 s))) :=
  check_ff w 2 ⟨#[65, 83]⟩ 32 1 4 true false true false 117 118 s true (wlK 2 s) (wcK 2 s) (foK 2 s)
    (fun W => values_row W 2 (by decide))
    (fun W => wrongLength_any W ⟨#[65, 83]⟩ 32 1 4 true false true false (.func (.func 117) #[] #[]) (.func (.func 118) #[] #[]) s hs (by decide) (by decide))
    (fun W hg => wrongChar_any W ⟨#[65, 83]⟩ 32 1 4 true false true false 117 (.func (.func 118) #[] #[]) s hs (doI ageM) chF_71 hg)
    (fun h1 _ => fmF_72 s (wl_small h1)) hG
theorem check_3 (w : World) (s : ByteArray) (hs : s.size ≤ 140737488351232) (hG : Gb w) : Calls Tryz.prog 50 #[.int .i64 3, .string s] w (CkP w (ckO true s.size (wlK 3 s) (wcK 3 s) (foK 3 s))) :=
  check_nn w 3 ⟨#[65, 84]⟩ 0 4 4 false false true false s true (wlK 3 s) (wcK 3 s) (foK 3 s)
    (fun W => values_row W 3 (by decide))
    (fun W => wrongLength_any W ⟨#[65, 84]⟩ 0 4 4 false false true false .nilFunc .nilFunc s hs (by decide) (by decide))
    (fun W _ => wrongChar_nil W ⟨#[65, 84]⟩ 0 4 4 false false true false .nilFunc s)
    (fun _ _ => .inl ⟨rfl, rfl⟩) hG
theorem check_4 (w : World) (s : ByteArray) (hs : s.size ≤ 140737488351232) (hG : Gb w) : Calls Tryz.prog 50 #[.int .i64 4, .string s] w (CkP w (ckO true s.size (wlK 4 s) (wcK 4 s) (foK 4 s))) :=
  check_fn w 4 ⟨#[67, 83]⟩ 32 1 16 true false true false 119 s true (wlK 4 s) (wcK 4 s) (foK 4 s)
    (fun W => values_row W 4 (by decide))
    (fun W => wrongLength_any W ⟨#[67, 83]⟩ 32 1 16 true false true false (.func (.func 119) #[] #[]) .nilFunc s hs (by decide) (by decide))
    (fun W hg => wrongChar_any W ⟨#[67, 83]⟩ 32 1 16 true false true false 119 .nilFunc s hs cdI chF_73 hg)
    (fun _ _ => .inl ⟨rfl, rfl⟩) hG
theorem check_5 (w : World) (s : ByteArray) (hs : s.size ≤ 140737488351232) (hG : Gb w) : Calls Tryz.prog 50 #[.int .i64 5, .string s] w (CkP w (ckO true s.size (wlK 5 s) (wcK 5 s) (foK 5 s))) :=
  check_ff w 5 ⟨#[68, 65]⟩ 32 1 8 true false true false 120 121 s true (wlK 5 s) (wcK 5 s) (foK 5 s)
    (fun W => values_row W 5 (by decide))
    (fun W => wrongLength_any W ⟨#[68, 65]⟩ 32 1 8 true false true false (.func (.func 120) #[] #[]) (.func (.func 121) #[] #[]) s hs (by decide) (by decide))
    (fun W hg => wrongChar_any W ⟨#[68, 65]⟩ 32 1 8 true false true false 120 (.func (.func 121) #[] #[]) s hs dgI chF_74 hg)
    (fun h1 _ => fmF_75 s (wl_small h1)) hG
theorem check_6 (w : World) (s : ByteArray) (hs : s.size ≤ 140737488351232) (hG : Gb w) : Calls Tryz.prog 50 #[.int .i64 6, .string s] w (CkP w (ckO true s.size (wlK 6 s) (wcK 6 s) (foK 6 s))) :=
  check_ff w 6 ⟨#[68, 83]⟩ 32 1 16 true false true false 122 123 s true (wlK 6 s) (wcK 6 s) (foK 6 s)
    (fun W => values_row W 6 (by decide))
    (fun W => wrongLength_any W ⟨#[68, 83]⟩ 32 1 16 true false true false (.func (.func 122) #[] #[]) (.func (.func 123) #[] #[]) s hs (by decide) (by decide))
    (fun W hg => wrongChar_any W ⟨#[68, 83]⟩ 32 1 16 true false true false 122 (.func (.func 123) #[] #[]) s hs (doI decimalM) chF_76 hg)
    (fun h1 _ => fmF_77 s (wl_small h1)) hG
theorem check_7 (w : World) (s : ByteArray) (hs : s.size ≤ 140737488351232) (hG : Gb w) : Calls Tryz.prog 50 #[.int .i64 7, .string s] w (CkP w (ckO true s.size (wlK 7 s) (wcK 7 s) (foK 7 s))) :=
  check_ff w 7 ⟨#[68, 84]⟩ 32 1 26 true false true false 124 125 s true (wlK 7 s) (wcK 7 s) (foK 7 s)
    (fun W => values_row W 7 (by decide))
    (fun W => wrongLength_any W ⟨#[68, 84]⟩ 32 1 26 true false true false (.func (.func 124) #[] #[]) (.func (.func 125) #[] #[]) s hs (by decide) (by decide))
    (fun W hg => wrongChar_any W ⟨#[68, 84]⟩ 32 1 26 true false true false 124 (.func (.func 125) #[] #[]) s hs (doI momM) chF_78 hg)
    (fun h1 h2 => fmF_79 s (wl_small h1) (fun b hb => by obtain ⟨k, hk, rfl⟩ := mem_get s b hb; exact (wc_ascii _ mom_small s s.size 0 (by omega) h2 k (by omega) hk).1)) hG
theorem check_8 (w : World) (s : ByteArray) (hs : s.size ≤ 140737488351232) (hG : Gb w) : Calls Tryz.prog 50 #[.int .i64 8, .string s] w (CkP w (ckO true s.size (wlK 8 s) (wcK 8 s) (foK 8 s))) :=
  check_nn w 8 ⟨#[70, 68]⟩ 0 8 8 false false true false s true (wlK 8 s) (wcK 8 s) (foK 8 s)
    (fun W => values_row W 8 (by decide))
    (fun W => wrongLength_any W ⟨#[70, 68]⟩ 0 8 8 false false true false .nilFunc .nilFunc s hs (by decide) (by decide))
    (fun W _ => wrongChar_nil W ⟨#[70, 68]⟩ 0 8 8 false false true false .nilFunc s)
    (fun _ _ => .inl ⟨rfl, rfl⟩) hG
theorem check_9 (w : World) (s : ByteArray) (hs : s.size ≤ 140737488351232) (hG : Gb w) : Calls Tryz.prog 50 #[.int .i64 9, .string s] w (CkP w (ckO true s.size (wlK 9 s) (wcK 9 s) (foK 9 s))) :=
  check_nn w 9 ⟨#[70, 76]⟩ 0 4 4 false false true false s true (wlK 9 s) (wcK 9 s) (foK 9 s)
    (fun W => values_row W 9 (by decide))
    (fun W => wrongLength_any W ⟨#[70, 76]⟩ 0 4 4 false false true false .nilFunc .nilFunc s hs (by decide) (by decide))
    (fun W _ => wrongChar_nil W ⟨#[70, 76]⟩ 0 4 4 false false true false .nilFunc s)
    (fun _ _ => .inl ⟨rfl, rfl⟩) hG
theorem check_10 (w : World) (s : ByteArray) (hs : s.size ≤ 140737488351232) (hG : Gb w) : Calls Tryz.prog 50 #[.int .i64 10, .string s] w (CkP w (ckO true s.size (wlK 10 s) (wcK 10 s) (foK 10 s))) :=
  check_ff w 10 ⟨#[73, 83]⟩ 32 1 12 true false true false 126 127 s true (wlK 10 s) (wcK 10 s) (foK 10 s)
    (fun W => values_row W 10 (by decide))
    (fun W => wrongLength_any W ⟨#[73, 83]⟩ 32 1 12 true false true false (.func (.func 126) #[] #[]) (.func (.func 127) #[] #[]) s hs (by decide) (by decide))
    (fun W hg => wrongChar_any W ⟨#[73, 83]⟩ 32 1 12 true false true false 126 (.func (.func 127) #[] #[]) s hs (doI wholeM) chF_80 hg)
    (fun h1 _ => fmF_81 s (wl_small h1)) hG
theorem check_11 (w : World) (s : ByteArray) (hs : s.size ≤ 140737488351232) (hG : Gb w) : Calls Tryz.prog 50 #[.int .i64 11, .string s] w (CkP w (ckO true s.size (wlK 11 s) (wcK 11 s) (foK 11 s))) :=
  check_fn w 11 ⟨#[76, 79]⟩ 32 1 64 true true true false 128 s true (wlK 11 s) (wcK 11 s) (foK 11 s)
    (fun W => values_row W 11 (by decide))
    (fun W => wrongLength_any W ⟨#[76, 79]⟩ 32 1 64 true true true false (.func (.func 128) #[] #[]) .nilFunc s hs (by decide) (by decide))
    (fun W hg => wrongChar_any W ⟨#[76, 79]⟩ 32 1 64 true true true false 128 .nilFunc s hs lnI chF_82 hg)
    (fun _ _ => .inl ⟨rfl, rfl⟩) hG
theorem check_12 (w : World) (s : ByteArray) (hs : s.size ≤ 140737488351232) (hG : Gb w) : Calls Tryz.prog 50 #[.int .i64 12, .string s] w (CkP w (ckO true s.size (wlK 12 s) (wcK 12 s) (foK 12 s))) :=
  check_fn w 12 ⟨#[76, 84]⟩ 32 1 10240 true true false false 129 s true (wlK 12 s) (wcK 12 s) (foK 12 s)
    (fun W => values_row W 12 (by decide))
    (fun W => wrongLength_any W ⟨#[76, 84]⟩ 32 1 10240 true true false false (.func (.func 129) #[] #[]) .nilFunc s hs (by decide) (by decide))
    (fun W hg => wrongChar_any W ⟨#[76, 84]⟩ 32 1 10240 true true false false 129 .nilFunc s hs prI chF_83 hg)
    (fun _ _ => .inl ⟨rfl, rfl⟩) hG
theorem check_13 (w : World) (s : ByteArray) (hs : s.size ≤ 140737488351232) (hG : Gb w) : Calls Tryz.prog 50 #[.int .i64 13, .string s] w (CkP w (ckO true s.size (wlK 13 s) (wcK 13 s) (foK 13 s))) :=
  check_nn w 13 ⟨#[79, 66]⟩ 0 1 0 false false false true s true (wlK 13 s) (wcK 13 s) (foK 13 s)
    (fun W => values_row W 13 (by decide))
    (fun W => wrongLength_any W ⟨#[79, 66]⟩ 0 1 0 false false false true .nilFunc .nilFunc s hs (by decide) (by decide))
    (fun W _ => wrongChar_nil W ⟨#[79, 66]⟩ 0 1 0 false false false true .nilFunc s)
    (fun _ _ => .inl ⟨rfl, rfl⟩) hG
theorem check_14 (w : World) (s : ByteArray) (hs : s.size ≤ 140737488351232) (hG : Gb w) : Calls Tryz.prog 50 #[.int .i64 14, .string s] w (CkP w (ckO true s.size (wlK 14 s) (wcK 14 s) (foK 14 s))) :=
  check_nn w 14 ⟨#[79, 87]⟩ 0 2 0 false false false true s true (wlK 14 s) (wcK 14 s) (foK 14 s)
    (fun W => values_row W 14 (by decide))
    (fun W => wrongLength_any W ⟨#[79, 87]⟩ 0 2 0 false false false true .nilFunc .nilFunc s hs (by decide) (by decide))
    (fun W _ => wrongChar_nil W ⟨#[79, 87]⟩ 0 2 0 false false false true .nilFunc s)
    (fun _ _ => .inl ⟨rfl, rfl⟩) hG
theorem check_15 (w : World) (s : ByteArray) (hs : s.size ≤ 140737488351232) (hG : Gb w) : Calls Tryz.prog 50 #[.int .i64 15, .string s] w (CkP w (ckO true s.size (wlK 15 s) (wcK 15 s) (foK 15 s))) :=
  check_ff w 15 ⟨#[80, 78]⟩ 32 1 64 true true true false 128 130 s true (wlK 15 s) (wcK 15 s) (foK 15 s)
    (fun W => values_row W 15 (by decide))
    (fun W => wrongLength_any W ⟨#[80, 78]⟩ 32 1 64 true true true false (.func (.func 128) #[] #[]) (.func (.func 130) #[] #[]) s hs (by decide) (by decide))
    (fun W hg => wrongChar_any W ⟨#[80, 78]⟩ 32 1 64 true true true false 128 (.func (.func 130) #[] #[]) s hs lnI chF_82 hg)
    (fun h1 _ => fmF_84 s (wl_small h1)) hG
theorem check_16 (w : World) (s : ByteArray) (hs : s.size ≤ 140737488351232) (hG : Gb w) : Calls Tryz.prog 50 #[.int .i64 16, .string s] w (CkP w (ckO true s.size (wlK 16 s) (wcK 16 s) (foK 16 s))) :=
  check_fn w 16 ⟨#[83, 72]⟩ 32 1 16 true true true false 128 s true (wlK 16 s) (wcK 16 s) (foK 16 s)
    (fun W => values_row W 16 (by decide))
    (fun W => wrongLength_any W ⟨#[83, 72]⟩ 32 1 16 true true true false (.func (.func 128) #[] #[]) .nilFunc s hs (by decide) (by decide))
    (fun W hg => wrongChar_any W ⟨#[83, 72]⟩ 32 1 16 true true true false 128 .nilFunc s hs lnI chF_82 hg)
    (fun _ _ => .inl ⟨rfl, rfl⟩) hG
theorem check_17 (w : World) (s : ByteArray) (hs : s.size ≤ 140737488351232) (hG : Gb w) : Calls Tryz.prog 50 #[.int .i64 17, .string s] w (CkP w (ckO true s.size (wlK 17 s) (wcK 17 s) (foK 17 s))) :=
  check_nn w 17 ⟨#[83, 76]⟩ 0 4 4 false false true false s true (wlK 17 s) (wcK 17 s) (foK 17 s)
    (fun W => values_row W 17 (by decide))
    (fun W => wrongLength_any W ⟨#[83, 76]⟩ 0 4 4 false false true false .nilFunc .nilFunc s hs (by decide) (by decide))
    (fun W _ => wrongChar_nil W ⟨#[83, 76]⟩ 0 4 4 false false true false .nilFunc s)
    (fun _ _ => .inl ⟨rfl, rfl⟩) hG
theorem check_19 (w : World) (s : ByteArray) (hs : s.size ≤ 140737488351232) (hG : Gb w) : Calls Tryz.prog 50 #[.int .i64 19, .string s] w (CkP w (ckO true s.size (wlK 19 s) (wcK 19 s) (foK 19 s))) :=
  check_nn w 19 ⟨#[83, 83]⟩ 0 2 2 false false true false s true (wlK 19 s) (wcK 19 s) (foK 19 s)
    (fun W => values_row W 19 (by decide))
    (fun W => wrongLength_any W ⟨#[83, 83]⟩ 0 2 2 false false true false .nilFunc .nilFunc s hs (by decide) (by decide))
    (fun W _ => wrongChar_nil W ⟨#[83, 83]⟩ 0 2 2 false false true false .nilFunc s)
    (fun _ _ => .inl ⟨rfl, rfl⟩) hG
theorem check_20 (w : World) (s : ByteArray) (hs : s.size ≤ 140737488351232) (hG : Gb w) : Calls Tryz.prog 50 #[.int .i64 20, .string s] w (CkP w (ckO true s.size (wlK 20 s) (wcK 20 s) (foK 20 s))) :=
  check_fn w 20 ⟨#[83, 84]⟩ 32 1 1024 true true false false 129 s true (wlK 20 s) (wcK 20 s) (foK 20 s)
    (fun W => values_row W 20 (by decide))
    (fun W => wrongLength_any W ⟨#[83, 84]⟩ 32 1 1024 true true false false (.func (.func 129) #[] #[]) .nilFunc s hs (by decide) (by decide))
    (fun W hg => wrongChar_any W ⟨#[83, 84]⟩ 32 1 1024 true true false false 129 .nilFunc s hs prI chF_83 hg)
    (fun _ _ => .inl ⟨rfl, rfl⟩) hG
theorem check_21 (w : World) (s : ByteArray) (hs : s.size ≤ 140737488351232) (hG : Gb w) : Calls Tryz.prog 50 #[.int .i64 21, .string s] w (CkP w (ckO true s.size (wlK 21 s) (wcK 21 s) (foK 21 s))) :=
  check_ff w 21 ⟨#[84, 77]⟩ 32 1 14 true false true false 131 132 s true (wlK 21 s) (wcK 21 s) (foK 21 s)
    (fun W => values_row W 21 (by decide))
    (fun W => wrongLength_any W ⟨#[84, 77]⟩ 32 1 14 true false true false (.func (.func 131) #[] #[]) (.func (.func 132) #[] #[]) s hs (by decide) (by decide))
    (fun W hg => wrongChar_any W ⟨#[84, 77]⟩ 32 1 14 true false true false 131 (.func (.func 132) #[] #[]) s hs (doI pointedM) chF_85 hg)
    (fun h1 _ => fmF_86 s (wl_small h1)) hG
theorem check_22 (w : World) (s : ByteArray) (hs : s.size ≤ 140737488351232) (hG : Gb w) : Calls Tryz.prog 50 #[.int .i64 22, .string s] w (CkP w (ckO true s.size (wlK 22 s) (wcK 22 s) (foK 22 s))) :=
  check_fn w 22 ⟨#[85, 67]⟩ 32 1 0 true true true true 128 s true (wlK 22 s) (wcK 22 s) (foK 22 s)
    (fun W => values_row W 22 (by decide))
    (fun W => wrongLength_any W ⟨#[85, 67]⟩ 32 1 0 true true true true (.func (.func 128) #[] #[]) .nilFunc s hs (by decide) (by decide))
    (fun W hg => wrongChar_any W ⟨#[85, 67]⟩ 32 1 0 true true true true 128 .nilFunc s hs lnI chF_82 hg)
    (fun _ _ => .inl ⟨rfl, rfl⟩) hG
theorem check_23 (w : World) (s : ByteArray) (hs : s.size ≤ 140737488351232) (hG : Gb w) : Calls Tryz.prog 50 #[.int .i64 23, .string s] w (CkP w (ckO true s.size (wlK 23 s) (wcK 23 s) (foK 23 s))) :=
  check_ff w 23 ⟨#[85, 73]⟩ 0 1 64 true false true false 131 133 s true (wlK 23 s) (wcK 23 s) (foK 23 s)
    (fun W => values_row W 23 (by decide))
    (fun W => wrongLength_any W ⟨#[85, 73]⟩ 0 1 64 true false true false (.func (.func 131) #[] #[]) (.func (.func 133) #[] #[]) s hs (by decide) (by decide))
    (fun W hg => wrongChar_any W ⟨#[85, 73]⟩ 0 1 64 true false true false 131 (.func (.func 133) #[] #[]) s hs (doI pointedM) chF_85 hg)
    (fun h1 _ => fmF_87 s (wl_small h1)) hG
theorem check_24 (w : World) (s : ByteArray) (hs : s.size ≤ 140737488351232) (hG : Gb w) : Calls Tryz.prog 50 #[.int .i64 24, .string s] w (CkP w (ckO true s.size (wlK 24 s) (wcK 24 s) (foK 24 s))) :=
  check_nn w 24 ⟨#[85, 76]⟩ 0 4 4 false false true false s true (wlK 24 s) (wcK 24 s) (foK 24 s)
    (fun W => values_row W 24 (by decide))
    (fun W => wrongLength_any W ⟨#[85, 76]⟩ 0 4 4 false false true false .nilFunc .nilFunc s hs (by decide) (by decide))
    (fun W _ => wrongChar_nil W ⟨#[85, 76]⟩ 0 4 4 false false true false .nilFunc s)
    (fun _ _ => .inl ⟨rfl, rfl⟩) hG
theorem check_25 (w : World) (s : ByteArray) (hs : s.size ≤ 140737488351232) (hG : Gb w) : Calls Tryz.prog 50 #[.int .i64 25, .string s] w (CkP w (ckO true s.size (wlK 25 s) (wcK 25 s) (foK 25 s))) :=
  check_nn w 25 ⟨#[85, 78]⟩ 0 1 0 false false false true s true (wlK 25 s) (wcK 25 s) (foK 25 s)
    (fun W => values_row W 25 (by decide))
    (fun W => wrongLength_any W ⟨#[85, 78]⟩ 0 1 0 false false false true .nilFunc .nilFunc s hs (by decide) (by decide))
    (fun W _ => wrongChar_nil W ⟨#[85, 78]⟩ 0 1 0 false false false true .nilFunc s)
    (fun _ _ => .inl ⟨rfl, rfl⟩) hG
theorem check_26 (w : World) (s : ByteArray) (hs : s.size ≤ 140737488351232) (hG : Gb w) : Calls Tryz.prog 50 #[.int .i64 26, .string s] w (CkP w (ckO true s.size (wlK 26 s) (wcK 26 s) (foK 26 s))) :=
  check_fn w 26 ⟨#[85, 82]⟩ 32 1 0 true false false true 134 s true (wlK 26 s) (wcK 26 s) (foK 26 s)
    (fun W => values_row W 26 (by decide))
    (fun W => wrongLength_any W ⟨#[85, 82]⟩ 32 1 0 true false false true (.func (.func 134) #[] #[]) .nilFunc s hs (by decide) (by decide))
    (fun W hg => wrongChar_any W ⟨#[85, 82]⟩ 32 1 0 true false false true 134 .nilFunc s hs lkI chF_88 hg)
    (fun _ _ => .inl ⟨rfl, rfl⟩) hG
theorem check_27 (w : World) (s : ByteArray) (hs : s.size ≤ 140737488351232) (hG : Gb w) : Calls Tryz.prog 50 #[.int .i64 27, .string s] w (CkP w (ckO true s.size (wlK 27 s) (wcK 27 s) (foK 27 s))) :=
  check_nn w 27 ⟨#[85, 83]⟩ 0 2 2 false false true false s true (wlK 27 s) (wcK 27 s) (foK 27 s)
    (fun W => values_row W 27 (by decide))
    (fun W => wrongLength_any W ⟨#[85, 83]⟩ 0 2 2 false false true false .nilFunc .nilFunc s hs (by decide) (by decide))
    (fun W _ => wrongChar_nil W ⟨#[85, 83]⟩ 0 2 2 false false true false .nilFunc s)
    (fun _ _ => .inl ⟨rfl, rfl⟩) hG
theorem check_28 (w : World) (s : ByteArray) (hs : s.size ≤ 140737488351232) (hG : Gb w) : Calls Tryz.prog 50 #[.int .i64 28, .string s] w (CkP w (ckO true s.size (wlK 28 s) (wcK 28 s) (foK 28 s))) :=
  check_fn w 28 ⟨#[85, 84]⟩ 32 1 0 true true false true 129 s true (wlK 28 s) (wcK 28 s) (foK 28 s)
    (fun W => values_row W 28 (by decide))
    (fun W => wrongLength_any W ⟨#[85, 84]⟩ 32 1 0 true true false true (.func (.func 129) #[] #[]) .nilFunc s hs (by decide) (by decide))
    (fun W hg => wrongChar_any W ⟨#[85, 84]⟩ 32 1 0 true true false true 129 .nilFunc s hs prI chF_83 hg)
    (fun _ _ => .inl ⟨rfl, rfl⟩) hG
/-- What Check says of any kind. -/
def ckK (v : Int) (s : ByteArray) : Option (List Lk × Int) := ckO (okV v) s.size (wlK (Rp.vn v) s) (wcK (Rp.vn v) s) (foK (Rp.vn v) s)
theorem check_none (w : World) (v : Int) (h : okV v = false) (s : ByteArray) : Calls Tryz.prog 50 #[.int .i64 v, .string s] w (CkP w (some ([(dB, 0)], 62))) := by
  have c13 : ∀ W, Calls Tryz.prog 82 #[.int .i64 v] W fun e w' => e = .returned (.tuple #[.agg (rpC { data := #[] } 0 0 0 false false false false .nilFunc .nilFunc), .bool false]) ∧ Below W.heap.size W w' := by
    intro W
    by_cases h18 : v = 18
    · rw [h18]; exact values_18 W
    · have hv := values_row W v h18
      have h0 : Rp.vn v = 0 := by
        unfold okV at h
        simp only [decide_eq_false_iff_not] at h
        unfold Rp.vn
        rw [if_neg (by omega)]
      rw [h, h0] at hv
      exact hv
  exact check_no w v { data := #[] } 0 0 0 false false false false s c13
theorem check_any (w : World) (v : Int) (s : ByteArray) (hs : s.size ≤ 140737488351232) (hG : Gb w) : Calls Tryz.prog 50 #[.int .i64 v, .string s] w (CkP w (ckK v s)) := by
  unfold ckK
  cases h : okV v with
  | false => exact check_none w v h s
  | true =>
    have hv : 1 ≤ v ∧ v ≤ 28 ∧ v ≠ 18 := by unfold okV at h; simpa using h
    have hk : v = 1 ∨ v = 2 ∨ v = 3 ∨ v = 4 ∨ v = 5 ∨ v = 6 ∨ v = 7 ∨ v = 8 ∨ v = 9 ∨ v = 10 ∨ v = 11 ∨ v = 12 ∨ v = 13 ∨ v = 14 ∨ v = 15 ∨ v = 16 ∨ v = 17 ∨ v = 19 ∨ v = 20 ∨ v = 21 ∨ v = 22 ∨ v = 23 ∨ v = 24 ∨ v = 25 ∨ v = 26 ∨ v = 27 ∨ v = 28 := by omega
    rcases hk with rfl | rfl | rfl | rfl | rfl | rfl | rfl | rfl | rfl | rfl | rfl | rfl | rfl | rfl | rfl | rfl | rfl | rfl | rfl | rfl | rfl | rfl | rfl | rfl | rfl | rfl | rfl
    · exact check_1 w s hs hG
    · exact check_2 w s hs hG
    · exact check_3 w s hs hG
    · exact check_4 w s hs hG
    · exact check_5 w s hs hG
    · exact check_6 w s hs hG
    · exact check_7 w s hs hG
    · exact check_8 w s hs hG
    · exact check_9 w s hs hG
    · exact check_10 w s hs hG
    · exact check_11 w s hs hG
    · exact check_12 w s hs hG
    · exact check_13 w s hs hG
    · exact check_14 w s hs hG
    · exact check_15 w s hs hG
    · exact check_16 w s hs hG
    · exact check_17 w s hs hG
    · exact check_19 w s hs hG
    · exact check_20 w s hs hG
    · exact check_21 w s hs hG
    · exact check_22 w s hs hG
    · exact check_23 w s hs hG
    · exact check_24 w s hs hG
    · exact check_25 w s hs hG
    · exact check_26 w s hs hG
    · exact check_27 w s hs hG
    · exact check_28 w s hs hG
end Go.Proofs.YtdggplhkeekdjaaGreatDoor.Ck
