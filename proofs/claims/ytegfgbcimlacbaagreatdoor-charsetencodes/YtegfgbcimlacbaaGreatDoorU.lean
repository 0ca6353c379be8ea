
import Derived.Test.YtegfgbcimlacbaaGreatDoorS
/-
  DERIVED. New by both, of whatever terms; the law's beginning.
-/
namespace Go.Proofs.YtegfgbcimlacbaaGreatDoor
open Go Go.Proofs Go.RowKit

set_option maxRecDepth 100000 in
set_option maxHeartbeats 1000000 in
theorem new_zero (w : World) (ao : Option Addr) (cap : Nat) (hS : Spell w) : Calls Tryz.prog 11 #[.slice ao 0 cap] w fun e w' => ∃ q v B, e = .returned (.tuple #[.pointer (some ⟨q, 0, none⟩), .nilIface]) ∧ w.heap.size ≤ q ∧ SetAt w' q v [(0, sp 0, B)] false ∧ Below w.heap.size w w' := by
  obtain ⟨W1, hW1⟩ : ∃ W1, w.alloc (.cells #[.string ⟨#[]⟩] 9) = W1 := ⟨_, rfl⟩
  have hb1 : Below w.heap.size w W1 := hW1 ▸ (Below.refl _ _).alloc (Nat.le_refl _) _
  have hc1 : W1.cell? ⟨w.heap.size, 0, none⟩ = some (.string ⟨#[]⟩) := by rw [← hW1]; simp
  have hs1 : W1.heap.size = w.heap.size + 1 := by rw [← hW1]; simp
  obtain ⟨W2, hW2⟩ : ∃ W2, W1.alloc (.cells #[.slice none 0 0, .bool false] 72) = W2 := ⟨_, rfl⟩
  have hb2 : Below W1.heap.size W1 W2 := hW2 ▸ (Below.refl _ _).alloc (Nat.le_refl _) _
  have hset : SetAt W2 W1.heap.size (.slice none 0 0) [] false := hW2 ▸ setAt_new W1
  have hc2 : W2.cell? ⟨w.heap.size, 0, none⟩ = some (.string ⟨#[]⟩) := (hb2.cell (p := ⟨w.heap.size, 0, none⟩) (show w.heap.size < W1.heap.size by omega)).trans hc1
  have hS2 : Spell W2 := (hS.on hb1).on hb2
  have hq : 1 < W1.heap.size := (hS.on hb1).lt
  have c29 := full_any W2 ⟨#[]⟩ (by decide) 0 1 hS2
  rw [full_nil] at c29
  have c28 := fun W (hb : Below W2.heap.size W2 W) => add_any W W1.heap.size (.slice none 0 0) [] false (sp 0) 1 (by decide) (hset.on hb) (hS2.on hb) hq
  have hadd : addS (sp 0) 1 [] = (0, some (0, false)) := by unfold addS; rw [nmd_zero]; rfl
  rw [hadd] at c28
  simp only [List.nil_append] at c28
  have HB2 : Hid (Below w.heap.size w W2) := hb1.trans (hb2.mono hb1.size)
  have HL : Hid (w.heap.size ≤ W1.heap.size ∧ W1.heap.size ≤ W2.heap.size) := ⟨hb1.size, hb2.size⟩
  generalize sp 0 = S0 at c28 c29 ⊢
  clear hset hS2 hq hb1 hb2 hS hc1 hs1
  go_enter Tryz.func11, Tryz.ntmps11
  go_wp2
  refine wp_loop_rounds 2 ?_
  rw [rounds_succ]
  go_wp2_with (first | (go_at_call 29; refine c29.mono ?_; rintro e W3 ⟨rfl, hb3⟩) | (go_at_call 28; fail))
  refine (c28 W3 hb3).mono ?_
  rintro e W4 ⟨rfl, hb4, v, B, HS4⟩
  have HS : Hid (SetAt W4 W1.heap.size v [(0, S0, B)] false) := HS4
  clear HS4 c28 c29
  go_wp2
  rw [rounds_succ]
  go_wp2
  have h1 := HL.out.1
  have h2 := HL.out.2
  exact bodyPost_ret (v := .tuple #[.pointer (some ⟨W1.heap.size, 0, none⟩), .nilIface]) (by simp [results, Tryz.results11, go_sem]) rfl ⟨W1.heap.size, v, B, rfl, h1, HS.out, (HB2.out.trans (hb3.mono (by omega))).trans (hb4.mono (by omega))⟩


set_option maxRecDepth 100000 in
theorem new_many (w : World) (ao : Option Addr) (n cap : Nat) (hn : 6 < n) :
    Calls Tryz.prog 11 #[.slice ao n cap] w fun e w' => ∃ p er, e = .returned (.tuple #[p, er]) ∧ NewAt w' w.heap.size p er (.inl (6, 81)) ∧ Below w.heap.size w w' := by
  have hni : (6 : Int) < (n : Int) := by omega
  have c27 := refusal_any 6 81 w
  go_enter Tryz.func11, Tryz.ntmps11
  go_wp2_with (go_at_call 27; refine c27.mono ?_; rintro e W1 ⟨er, rfl, hpe, hb⟩)
  exact bodyPost_ret (v := .tuple #[.pointer none, er]) (by simp [results, Tryz.results11, go_sem]) rfl ⟨_, _, rfl, ⟨rfl, hpe⟩, hb⟩

theorem newAll (w : World) (v : Value) (T : List ByteArray) (hT : TS w v T) (hsz : ∀ s ∈ T, s.size ≤ 140737488351232) (hS : Spell w) :
    Calls Tryz.prog 11 #[v] w fun e w' => ∃ p er, e = .returned (.tuple #[p, er]) ∧ NewAt w' w.heap.size p er (newS T) ∧ Below w.heap.size w w' := by
  unfold newS
  by_cases h6 : 6 < T.length
  · rw [if_pos h6]
    obtain ⟨ao, cap, rfl, _⟩ := hT
    exact new_many w ao T.length cap h6
  · rw [if_neg h6]
    by_cases h0 : T.length = 0
    · rw [if_pos h0]
      obtain ⟨ao, cap, rfl, _⟩ := hT
      rw [h0]
      refine (new_zero w ao cap hS).mono ?_
      rintro e w' ⟨q, u, B, rfl, hq, hs, hb⟩
      exact ⟨_, _, rfl, ⟨q, u, _, rfl, rfl, hq, hs, rfl⟩, hb⟩
    · rw [if_neg h0]
      exact new_any w v T hT hsz (by omega) (by omega) hS

theorem newL_plain (s : ByteArray) (h : (trim s).size = 0) : newL 1 [s] 0 [] false = .inr ([(0, sp 0)], false) := by
  have hf : fullB s (0 : Nat) (1 : Nat) = sp 0 := by
    unfold fullB
    rw [if_neg (by rintro (h2 | h2); exact h2 h; simp at h2), if_neg (by decide)]
  rw [newL, hf, nmd_zero]
  simp [newL]

theorem rnewAll (w : World) (v : Value) (T : List ByteArray) (hT : TS w v T) (hsz : ∀ s ∈ T, s.size ≤ 140737488351232) :
    Calls Tryz.prog 12 #[v] w fun e w' => ∃ p f, e = .returned (.tuple #[p, f]) ∧ RNewAt w' w.heap.size p f (newS T) ∧ Below w.heap.size w w' := by
  unfold newS
  by_cases h6 : 6 < T.length
  · rw [if_pos h6]
    obtain ⟨ao, cap, rfl, _⟩ := hT
    exact rnew_many w ao T.length cap h6
  · rw [if_neg h6]
    by_cases h0 : T.length = 0
    · rw [if_pos h0]
      obtain ⟨ao, cap, rfl, _⟩ := hT
      rw [h0]
      exact rnew_plain w ao 0 cap (.inl rfl)
    · rw [if_neg h0]
      by_cases h1 : ∃ s, T = [s] ∧ (trim s).size = 0
      · obtain ⟨s, rfl, hs⟩ := h1
        show Calls _ _ _ _ fun e w' => ∃ p f, _ ∧ RNewAt w' w.heap.size p f (newL 1 [s] 0 [] false) ∧ _
        rw [newL_plain s hs]
        obtain ⟨ao, cap, rfl, hf⟩ := hT
        obtain ⟨b, off, rfl, hc⟩ := hf (by simp)
        have hc0 := hc 0 s rfl
        rw [Nat.add_zero] at hc0
        exact rnew_plain w _ 1 cap (.inr ⟨rfl, b, off, s, rfl, hc0, hsz s (by simp), hs⟩)
      · exact rnew_any w v T hT hsz (by omega) (by omega) (fun s hs h => h1 ⟨s, hs, h⟩)

/-- What is refused, if something is. -/
def errOf : (Int × Int) ⊕ (List (Nat × ByteArray) × Bool) → Option (Int × Int)
  | .inl x => some x
  | .inr _ => none

theorem newL_err : ∀ (T : List ByteArray) (cnt i : Nat) (N : List (Nat × ByteArray)) (x : Bool) (a c : Int), newL cnt T i N x = .inl (a, c) → (c != 0) = true
  | [], _, _, _, _, _, _, h => by simp [newL] at h
  | s :: T, cnt, i, N, x, a, c, h => by
    rw [newL] at h
    split at h
    · simp at h; rw [← h.2]; decide
    · split at h
      · simp at h; rw [← h.2]; decide
      · split at h
        · simp at h; rw [← h.2]; decide
        · exact newL_err T cnt (i + 1) _ _ a c h
theorem newS_err (T : List ByteArray) (a c : Int) (h : errOf (newS T) = some (a, c)) : (c != 0) = true := by
  unfold newS at h
  split at h
  · simp [errOf] at h; rw [← h.2]; decide
  · split at h
    · simp [errOf] at h
    · cases hr : newL T.length T 0 [] false with
      | inl p => rw [hr] at h; simp [errOf] at h; subst h; exact newL_err T _ _ _ _ a c hr
      | inr p => rw [hr] at h; simp [errOf] at h

/-- The two sets, or none, in memory behind a place. -/
def BothAt (w : World) (lo : Nat) (s k : Value) : (Int × Int) ⊕ (List (Nat × ByteArray) × Bool) → Prop
  | .inl _ => s = .pointer none ∧ k = .pointer none
  | .inr (N, x) => ∃ q u R p u2 H, s = .pointer (some ⟨q, 0, none⟩) ∧ k = .pointer (some ⟨p, 0, none⟩) ∧ lo < q ∧ lo < H ∧ lo < p ∧ SetAt w q u R x ∧ namesOf R = N ∧ RSetAt w H p u2 N x

theorem BothAt.on {w w' : World} {lo : Nat} {s k : Value} {r : (Int × Int) ⊕ (List (Nat × ByteArray) × Bool)} (h : BothAt w lo s k r) (hb : Below w.heap.size w w') : BothAt w' lo s k r := by
  cases r with
  | inl _ => exact h
  | inr x =>
    obtain ⟨q, u, R, p, u2, H, h1, h2, h3, h4, h5, h6, h7, h8⟩ := h
    exact ⟨q, u, R, p, u2, H, h1, h2, h3, h4, h5, h6.on hb, h7, h8.on hb⟩
theorem BothAt.off {w : World} {lo i : Nat} {s k : Value} {r : (Int × Int) ⊕ (List (Nat × ByteArray) × Bool)} (h : BothAt w lo s k r) (v : Value) : BothAt (w.setCell ⟨lo, i, none⟩ v) lo s k r := by
  cases r with
  | inl _ => exact h
  | inr x =>
    obtain ⟨q, u, R, p, u2, H, h1, h2, h3, h4, h5, h6, h7, h8⟩ := h
    exact ⟨q, u, R, p, u2, H, h1, h2, h3, h4, h5, h6.off h3 v, h7, h8.off h4 (by omega) v⟩

theorem both_of {w : World} {lo H1 H2 : Nat} {s k er f : Value} {r : (Int × Int) ⊕ (List (Nat × ByteArray) × Bool)} (h1 : NewAt w H1 s er r) (h2 : RNewAt w H2 k f r) (hl1 : lo < H1) (hl2 : lo < H2) :
    BothAt w lo s k r ∧ PErr w er (errOf r) ∧ RErr w f (errOf r) ∧ ∃ fa fl fc fn, f = .agg #[.slice fa fl fc, .int .i64 fn] := by
  cases r with
  | inl x =>
    obtain ⟨a, c⟩ := x
    obtain ⟨rfl, hp⟩ := h1
    obtain ⟨rfl, hr⟩ := h2
    refine ⟨⟨rfl, rfl⟩, hp, hr, ?_⟩
    obtain ⟨g, kk, rfl, _⟩ := hr
    exact ⟨_, _, _, _, rfl⟩
  | inr x =>
    obtain ⟨N, x⟩ := x
    obtain ⟨q, u, R, rfl, rfl, hq, hs, hN⟩ := h1
    obtain ⟨p, u2, rfl, rfl, hp, hr⟩ := h2
    exact ⟨⟨q, u, R, p, u2, H2, rfl, rfl, by omega, hl2, by omega, hs, hN, hr⟩, rfl, rfl, _, _, _, _, rfl⟩

/-- Nil by both, or by none. -/
theorem BothAt.nil {w : World} {lo : Nat} {s k : Value} {r : (Int × Int) ⊕ (List (Nat × ByteArray) × Bool)} (h : BothAt w lo s k r) : (s = .pointer none ∧ k = .pointer none) ∨ ∃ q p, s = .pointer (some ⟨q, 0, none⟩) ∧ k = .pointer (some ⟨p, 0, none⟩) := by
  cases r with
  | inl _ => exact .inl h
  | inr x =>
    obtain ⟨q, u, R, p, u2, H, h1, h2, _⟩ := h
    exact .inr ⟨q, p, h1, h2⟩

theorem NewAt.on {w w' : World} {H : Nat} {s er : Value} {r : (Int × Int) ⊕ (List (Nat × ByteArray) × Bool)} (h : NewAt w H s er r) (hb : Below w.heap.size w w') : NewAt w' H s er r := by
  cases r with
  | inl x => exact ⟨h.1, h.2.next hb⟩
  | inr x =>
    obtain ⟨q, u, R, h1, h2, h3, h4, h5⟩ := h
    exact ⟨q, u, R, h1, h2, h3, h4.on hb, h5⟩

theorem ts_part {w : World} {B n : Nat} {T : List ByteArray} {e : ByteArray} (h : w.ownsRow B 9 1 (.slice (some ⟨B, 0, none⟩) (n + 1) (n + 1)) (n + 1) (strsC (T ++ [e]))) (hn : T.length = n) : TS w (.slice (some ⟨B, 0, none⟩) n (n + 1)) T := by
  refine ⟨_, _, by rw [hn], fun _ => ⟨B, 0, rfl, fun k s hk => ?_⟩⟩
  have hk2 : k < T.length := (List.getElem?_eq_some_iff.1 hk).1
  rw [Nat.zero_add, h.cellAt k (by omega)]
  unfold strsC
  rw [List.map_append, List.getElem?_append_left (by simp; omega), List.getElem?_map, hk]
  rfl
theorem ts_last {w : World} {B n : Nat} {T : List ByteArray} {e : ByteArray} (h : w.ownsRow B 9 1 (.slice (some ⟨B, 0, none⟩) (n + 1) (n + 1)) (n + 1) (strsC (T ++ [e]))) (hn : T.length = n) : w.cell? ⟨B, n, none⟩ = some (.string e) := by
  rw [h.cellAt n (by omega)]
  unfold strsC
  rw [List.map_append, List.getElem?_append_right (by simp; omega)]
  simp [hn]

set_option maxRecDepth 100000 in
set_option maxHeartbeats 2000000 in
theorem begin_any (w : World) (v : Value) (T : List ByteArray) (hT : TS w v T) (hl : T.length ≤ 8796093021952) (hsz : ∀ s ∈ T, s.size ≤ 140737488351232) (hS : Spell w) :
    Calls Tryz.prog 4 #[v] w fun e w' => ∃ s k, e = .returned (.tuple #[s, k, .bool true]) ∧ BothAt w' w.heap.size s k (newS T) ∧ Below w.heap.size w w' := by
  have c12 := lendT_any hT hl
  obtain ⟨ao, cap, rfl, hf⟩ := hT
  have HT : Hid (TS w (.slice ao T.length cap) T) := ⟨ao, cap, rfl, hf⟩
  obtain ⟨n, hn⟩ : ∃ n, T.length = n := ⟨_, rfl⟩
  have HN : Hid (T.length = n) := hn
  rw [hn] at c12 hl HT ⊢
  have HSZ : Hid _ := hsz
  have HSp : Hid (Spell w) := hS
  obtain ⟨r, hr⟩ : ∃ r, newS T = r := ⟨_, rfl⟩
  have HR : Hid (newS T = r) := hr
  have HE : Hid (∀ a c, errOf r = some (a, c) → (c != 0) = true) := fun a c h => newS_err T a c (hr ▸ h)
  rw [hr]
  clear hf hn hsz hS hr
  go_enter Tryz.func4, Tryz.ntmps4
  go_wp2_with (go_at_call 10; fail)
  refine c12.mono ?_
  rintro e W1 ⟨rfl, hown1, hb1⟩
  have hlt1 : w.heap.size < W1.heap.size := (Array.getElem?_eq_some_iff.1 (own_type hown1 w.heap.size rfl).choose_spec).1
  have c13 := newAll W1 _ T (ts_part hown1 HN.out) HSZ.out (HSp.out.on hb1)
  rw [HR.out] at c13
  have HO1 : Hid _ := hown1
  have HB1 : Hid (Below w.heap.size w W1) := hb1
  have HL1 : Hid (w.heap.size < W1.heap.size) := hlt1
  clear c12 hown1 hb1 hlt1
  go_wp2_with (go_at_call 11; fail)
  refine c13.mono ?_
  rintro e W2 ⟨s, er, rfl, hnew, hb2⟩
  have HB2 : Hid (Below w.heap.size w W2) := HB1.out.trans (hb2.mono HB1.out.size)
  have HO2 : Hid _ := ownsRow_below HO1.out hb2 (Nat.le_refl _)
  have HL2 : Hid (w.heap.size < W2.heap.size) := Nat.lt_of_lt_of_le HL1.out hb2.size
  have HNew : Hid (NewAt W2 W1.heap.size s er r) := hnew
  have c14 := rnewAll W2 _ T (HT.out.next HB2.out) HSZ.out
  rw [HR.out] at c14
  clear c13 hnew hb2
  go_wp2_with (go_at_call 12; fail)
  refine c14.mono ?_
  rintro e W3 ⟨k, f, rfl, hrnew, hb3⟩
  have hboth := both_of (HNew.out.on hb3) hrnew HL1.out HL2.out
  obtain ⟨hB, hpe, hre, fa, fl, fc, fn, rfl⟩ := hboth
  have HB3 : Hid (Below w.heap.size w W3) := HB2.out.trans (hb3.mono HB2.out.size)
  have HO3 : Hid _ := ownsRow_below HO2.out hb3 (Nat.le_refl _)
  obtain ⟨W4, hW4⟩ : ∃ W4, W3.alloc (.cells #[.slice fa fl fc, .int .i64 fn] 34) = W4 := ⟨_, rfl⟩
  have hb4 : Below W3.heap.size W3 W4 := hW4 ▸ (Below.refl _ _).alloc (Nat.le_refl _) _
  have x0 : W4.cell? ⟨W3.heap.size, 0, none⟩ = some (.slice fa fl fc) := by rw [← hW4]; simp
  have x1 : W4.cell? ⟨W3.heap.size, 1, none⟩ = some (.int .i64 fn) := by rw [← hW4]; simp
  have c15 := is_yes (hpe.next hb4) (hre.next hb4) HE.out
  have HB4 : Hid (Below w.heap.size w W4) := HB3.out.trans (hb4.mono HB3.out.size)
  have HO4 : Hid _ := ownsRow_below HO3.out hb4 (Nat.le_refl _)
  have HBo4 : Hid (BothAt W4 w.heap.size s k r) := hB.on hb4
  have hnil := hB.nil
  clear c14 hrnew hb3 hb4 hB hpe hre HO1 HO2 HO3 HNew
  rcases hnil with ⟨rfl, rfl⟩ | ⟨q, p, rfl, rfl⟩
  · go_wp2_with (first | (go_at_call 7; fail))
    refine c15.mono ?_
    rintro e W5 ⟨rfl, hb5⟩
    have HB5 : Hid (Below w.heap.size w W5) := HB4.out.trans (hb5.mono HB4.out.size)
    have HO5 : Hid (W5.ownsRow w.heap.size 9 1 (.slice (some ⟨w.heap.size, 0, none⟩) (n + 1) (n + 1)) (n + 1) (strsC (T ++ [⟨#[109, 97, 114, 107]⟩]))) := ownsRow_below HO4.out hb5 (Nat.le_refl _)
    have HBo5 : Hid (BothAt W5 w.heap.size (.pointer none) (.pointer none) r) := HBo4.out.on hb5
    have hl2 : T.length ≤ 140737488351232 := by rw [HN.out]; omega
    have c10 := same_yes (ts_part HO5.out HN.out) (HT.out.next HB5.out) hl2
    clear c15 x0 x1 hb5 HO4 HBo4 hl2
    go_wp2_with (go_at_call 13; fail)
    refine c10.mono ?_
    rintro e W6 ⟨rfl, hb6⟩
    have HB6 : Hid (Below w.heap.size w W6) := HB5.out.trans (hb6.mono HB5.out.size)
    have HO6 : Hid (W6.ownsRow w.heap.size 9 1 (.slice (some ⟨w.heap.size, 0, none⟩) (n + 1) (n + 1)) (n + 1) (strsC (T ++ [⟨#[109, 97, 114, 107]⟩]))) := ownsRow_below HO5.out hb6 (Nat.le_refl _)
    have HBo6 : Hid (BothAt W6 w.heap.size (.pointer none) (.pointer none) r) := HBo5.out.on hb6
    have hmark := ts_last HO6.out HN.out
    clear c10 hb6 HO5 HBo5
    go_wp2
    clear hmark
    go_loopw [11] (fun y wr => ∃ i : Nat, y = .int .i64 (i : Int) ∧ i ≤ n ∧ Hid (BothAt wr w.heap.size (.pointer none) (.pointer none) r) ∧ Hid (Below w.heap.size w wr) ∧ Hid (∃ xs, wr.ownsRow w.heap.size 9 1 (.slice (some ⟨w.heap.size, 0, none⟩) (n + 1) (n + 1)) (n + 1) xs)) (fun y _ => n - (intOf y).toNat)
    case atStart => exact ⟨0, rfl, by omega, HBo6, HB6, _, HO6⟩
    case round =>
      obtain ⟨i, rfl, hi, HBo, HBr, HOx⟩ := hrel
      by_cases hin : i < n
      · obtain ⟨xs, HO⟩ := HOx.out
        have hxl : xs.length = n + 1 := by have := HO.1; omega
        have hci : wr.cell? ⟨w.heap.size, i, none⟩ = some (xs[i]'(by omega)) := by
          rw [HO.cellAt i (by omega)]
          exact List.getElem?_eq_getElem _
        have hfi := HO.frozenAt i
        have HSt := HO.stored i (.string ⟨#[73, 83, 79, 95, 73, 82, 32, 54]⟩)
        have HO' : Hid (∃ xs, (wr.setCell ⟨w.heap.size, i, none⟩ (.string ⟨#[73, 83, 79, 95, 73, 82, 32, 54]⟩)).ownsRow w.heap.size 9 1 (.slice (some ⟨w.heap.size, 0, none⟩) (n + 1) (n + 1)) (n + 1) xs) := ⟨_, HSt.1⟩
        have HBo' : Hid (BothAt (wr.setCell ⟨w.heap.size, i, none⟩ (.string ⟨#[73, 83, 79, 95, 73, 82, 32, 54]⟩)) w.heap.size (.pointer none) (.pointer none) r) := HBo.out.off _
        have HBr' : Hid (Below w.heap.size w (wr.setCell ⟨w.heap.size, i, none⟩ (.string ⟨#[73, 83, 79, 95, 73, 82, 32, 54]⟩))) := HBr.out.setCell (p := ⟨w.heap.size, i, none⟩) (Nat.le_refl _) _
        generalize xs[i]'(by omega) = xi at hci
        have hiI : (i : Int) < (n : Int) := by omega
        clear HO HSt hxl HOx
        go_wp2
        exact ⟨⟨i + 1, by simp, by omega, HBo', HBr', HO'⟩, by simp [intOf]; omega⟩
      · obtain rfl : i = n := by omega
        go_wp2
        exact bodyPost_ret (v := .tuple #[(.pointer none), (.pointer none), .bool true]) (by simp [results, Tryz.results4, go_sem]) rfl ⟨_, _, rfl, HBo.out, HBr.out⟩
  · go_wp2_with (first | (go_at_call 7; fail))
    refine c15.mono ?_
    rintro e W5 ⟨rfl, hb5⟩
    have HB5 : Hid (Below w.heap.size w W5) := HB4.out.trans (hb5.mono HB4.out.size)
    have HO5 : Hid (W5.ownsRow w.heap.size 9 1 (.slice (some ⟨w.heap.size, 0, none⟩) (n + 1) (n + 1)) (n + 1) (strsC (T ++ [⟨#[109, 97, 114, 107]⟩]))) := ownsRow_below HO4.out hb5 (Nat.le_refl _)
    have HBo5 : Hid (BothAt W5 w.heap.size (.pointer (some ⟨q, 0, none⟩)) (.pointer (some ⟨p, 0, none⟩)) r) := HBo4.out.on hb5
    have hl2 : T.length ≤ 140737488351232 := by rw [HN.out]; omega
    have c10 := same_yes (ts_part HO5.out HN.out) (HT.out.next HB5.out) hl2
    clear c15 x0 x1 hb5 HO4 HBo4 hl2
    go_wp2_with (go_at_call 13; fail)
    refine c10.mono ?_
    rintro e W6 ⟨rfl, hb6⟩
    have HB6 : Hid (Below w.heap.size w W6) := HB5.out.trans (hb6.mono HB5.out.size)
    have HO6 : Hid (W6.ownsRow w.heap.size 9 1 (.slice (some ⟨w.heap.size, 0, none⟩) (n + 1) (n + 1)) (n + 1) (strsC (T ++ [⟨#[109, 97, 114, 107]⟩]))) := ownsRow_below HO5.out hb6 (Nat.le_refl _)
    have HBo6 : Hid (BothAt W6 w.heap.size (.pointer (some ⟨q, 0, none⟩)) (.pointer (some ⟨p, 0, none⟩)) r) := HBo5.out.on hb6
    have hmark := ts_last HO6.out HN.out
    clear c10 hb6 HO5 HBo5
    go_wp2
    clear hmark
    go_loopw [11] (fun y wr => ∃ i : Nat, y = .int .i64 (i : Int) ∧ i ≤ n ∧ Hid (BothAt wr w.heap.size (.pointer (some ⟨q, 0, none⟩)) (.pointer (some ⟨p, 0, none⟩)) r) ∧ Hid (Below w.heap.size w wr) ∧ Hid (∃ xs, wr.ownsRow w.heap.size 9 1 (.slice (some ⟨w.heap.size, 0, none⟩) (n + 1) (n + 1)) (n + 1) xs)) (fun y _ => n - (intOf y).toNat)
    case atStart => exact ⟨0, rfl, by omega, HBo6, HB6, _, HO6⟩
    case round =>
      obtain ⟨i, rfl, hi, HBo, HBr, HOx⟩ := hrel
      by_cases hin : i < n
      · obtain ⟨xs, HO⟩ := HOx.out
        have hxl : xs.length = n + 1 := by have := HO.1; omega
        have hci : wr.cell? ⟨w.heap.size, i, none⟩ = some (xs[i]'(by omega)) := by
          rw [HO.cellAt i (by omega)]
          exact List.getElem?_eq_getElem _
        have hfi := HO.frozenAt i
        have HSt := HO.stored i (.string ⟨#[73, 83, 79, 95, 73, 82, 32, 54]⟩)
        have HO' : Hid (∃ xs, (wr.setCell ⟨w.heap.size, i, none⟩ (.string ⟨#[73, 83, 79, 95, 73, 82, 32, 54]⟩)).ownsRow w.heap.size 9 1 (.slice (some ⟨w.heap.size, 0, none⟩) (n + 1) (n + 1)) (n + 1) xs) := ⟨_, HSt.1⟩
        have HBo' : Hid (BothAt (wr.setCell ⟨w.heap.size, i, none⟩ (.string ⟨#[73, 83, 79, 95, 73, 82, 32, 54]⟩)) w.heap.size (.pointer (some ⟨q, 0, none⟩)) (.pointer (some ⟨p, 0, none⟩)) r) := HBo.out.off _
        have HBr' : Hid (Below w.heap.size w (wr.setCell ⟨w.heap.size, i, none⟩ (.string ⟨#[73, 83, 79, 95, 73, 82, 32, 54]⟩))) := HBr.out.setCell (p := ⟨w.heap.size, i, none⟩) (Nat.le_refl _) _
        generalize xs[i]'(by omega) = xi at hci
        have hiI : (i : Int) < (n : Int) := by omega
        clear HO HSt hxl HOx
        go_wp2
        exact ⟨⟨i + 1, by simp, by omega, HBo', HBr', HO'⟩, by simp [intOf]; omega⟩
      · obtain rfl : i = n := by omega
        go_wp2
        exact bodyPost_ret (v := .tuple #[(.pointer (some ⟨q, 0, none⟩)), (.pointer (some ⟨p, 0, none⟩)), .bool true]) (by simp [results, Tryz.results4, go_sem]) rfl ⟨_, _, rfl, HBo.out, HBr.out⟩
end Go.Proofs.YtegfgbcimlacbaaGreatDoor
