import Derived.Test.YtmhjjpdfjilobaaDoorPf
import Derived.Test.YtmhjjpdfjilobaaDoorPa
/-
  DERIVED. The rune that bytes begin with.
-/
namespace Go.Proofs.YtmhjjpdfjilobaaDoor
open Go Go.Proofs Go.RowKit

/-- The rune that bytes begin with, and how many of them it has: b is the first. -/
def headS (u : Bool) (kc : ByteArray) (h : Row) (b : Nat) (s : ByteArray) : Nat × Nat :=
  if plainR kc (b : Int) = true then (b, 1)
  else if u = true then uHead s
  else if 160 ≤ b ∧ mean h.1 (b - 160) ≠ 0 then (mean h.1 (b - 160), 1)
  else (0, 0)

set_option maxRecDepth 100000 in
set_option maxHeartbeats 1000000 in
theorem head_any (w : World) (q : Nat) (v : Value) (a : Row) (R : List Row) (x : Bool) (h : Row) (kc ke s : ByteArray) (hset : SetIn w q v (a :: R) x) (hk : Short kc) (hh : h.1 < 7) (hT : Tabs w)
    (hU : ∀ w', Below w.heap.size w w' → Lib.Utf8Tabs 6 7 w') (hz : 0 < s.size) :
    Calls Tryd.prog 54 #[.pointer (some ⟨q, 0, none⟩), .agg #[.string kc, .string ke], rowV h, .string s] w fun e w' => e = .returned (.tuple #[.int .i32 ((headS (a.1 == 6) kc h (s[0]'hz).toNat s).1 : Nat), .int .i64 ((headS (a.1 == 6) kc h (s[0]'hz).toNat s).2 : Nat)]) ∧ Below w.heap.size w w' := by
  obtain ⟨W1, hW1⟩ : ∃ W1, w.alloc (.cells #[.string kc, .string ke] 85) = W1 := ⟨_, rfl⟩
  have hb1 : Below w.heap.size w W1 := hW1 ▸ (Below.refl _ _).alloc (Nat.le_refl _) _
  have hs1 : W1.heap.size = w.heap.size + 1 := by rw [← hW1]; simp
  have k0 : W1.cell? ⟨w.heap.size, 0, none⟩ = some (.string kc) := by rw [← hW1]; simp
  have k1 : W1.cell? ⟨w.heap.size, 1, none⟩ = some (.string ke) := by rw [← hW1]; simp
  obtain ⟨W0, hW0⟩ : ∃ W0, W1.alloc (.cells #[.int .i64 (h.1 : Int), .string h.2.1, .string (sp (3 * h.1 + 2)), .func (.func (mfN h.1)) #[] #[], .func (.func 81) #[] (caps h.2.2)] 62) = W0 := ⟨_, rfl⟩
  have hb0 : Below W1.heap.size W1 W0 := hW0 ▸ (Below.refl _ _).alloc (Nat.le_refl _) _
  have hs0 : W0.heap.size = W1.heap.size + 1 := by rw [← hW0]; simp
  have hH0 : Row5 W0 W1.heap.size 0 h := hW0 ▸ Row5.new W1 h
  have d0 := (hb0.cell (p := ⟨w.heap.size, 0, none⟩) (by show w.heap.size < _; omega)).trans k0
  have d1 := (hb0.cell (p := ⟨w.heap.size, 1, none⟩) (by show w.heap.size < _; omega)).trans k1
  have hbw : Below w.heap.size w W0 := hb1.trans (hb0.mono hb1.size)
  obtain ⟨b, hbb⟩ : ∃ b, (s[0]'hz).toNat = b := ⟨_, rfl⟩
  have hb8 : b < 256 := by rw [← hbb]; exact UInt8.toNat_lt _
  have hzi : (0 : Int) < (s.size : Int) := by omega
  rw [hbb]
  have c57 := fun W => plain_any W kc ke hk (b : Int)
  -- what holds behind a call
  have HX : Hid (∀ W, Below W0.heap.size W0 W → W.cell? ⟨W1.heap.size, 3, none⟩ = some (.func (.func (mfN h.1)) #[] #[]) ∧ SetIn W q v (a :: R) x ∧ Tabs W ∧ Lib.Utf8Tabs 6 7 W ∧ Below w.heap.size w W) := by
    intro W hW
    have hB : Below w.heap.size w W := hbw.trans (hW.mono hbw.size)
    exact ⟨(hW.cell (p := ⟨W1.heap.size, 3, none⟩) (by show W1.heap.size < _; omega)).trans hH0.c3, hset.on hB, hT.on hB, hU W hB, hB⟩
  have HM : Hid (∀ W, 160 ≤ b → Tabs W → Calls Tryd.prog (mfN h.1) #[.int .u8 (b : Int)] W fun e w' => e = .returned (.int .i32 (mean h.1 (b - 160) : Nat)) ∧ W = w') := fun W h0 hT => mean_b W h.1 b hh h0 hb8 hT
  have HU : Hid (∀ W, Lib.Utf8Tabs 6 7 W → Calls Tryd.prog 70 #[.string s] W fun e w' => e = .returned (.tuple #[.int .i32 ((uHead s).1 : Nat), .int .i64 ((uHead s).2 : Nat)]) ∧ Below W.heap.size W w') := fun W hT => uhead_any s W hT
  have H37 : Hid (∀ W, SetIn W q v (a :: R) x → Calls Tryd.prog 37 #[.pointer (some ⟨q, 0, none⟩)] W fun e w' => e = .returned (.bool (a.1 == 6)) ∧ W = w') := fun W hs => univ_any W q v a R x hs
  clear hset hk hT hU k0 k1 hb0 hb1 hbw
  unfold headS rowV
  generalize plainR kc (b : Int) = bp at *
  generalize (a.1 == 6) = bu at *
  have hj : mfN h.1 = 73 ∨ mfN h.1 = 74 ∨ mfN h.1 = 75 ∨ mfN h.1 = 76 ∨ mfN h.1 = 77 ∨ mfN h.1 = 78 := by
    unfold mfN; repeat (split; simp)
    simp
  generalize mfN h.1 = j at *
  have hsp : Hid (W1.heap.size = w.heap.size + 1 ∧ W0.heap.size = W1.heap.size + 1) := ⟨hs1, hs0⟩
  clear hs0 hs1 hH0
  cases bp with
  | true =>
    go_enter Tryd.func54, Tryd.ntmps54
    go_wp2_with (first | (go_at_call 57; refine (c57 _).mono ?_; rintro e w' ⟨rfl, hb⟩))
    exact bodyPost_ret (v := .tuple #[.int .i32 (b : Int), .int .i64 1]) (by simp [results, Tryd.results54, go_sem]) rfl ⟨rfl, (HX.out _ hb).2.2.2.2⟩
  | false =>
    cases bu with
    | true =>
      obtain ⟨y1, hy1⟩ : ∃ y, (uHead s).1 = y := ⟨_, rfl⟩
      obtain ⟨y2, hy2⟩ : ∃ y, (uHead s).2 = y := ⟨_, rfl⟩
      have HU' : Hid (∀ W, Lib.Utf8Tabs 6 7 W → Calls Tryd.prog 70 #[.string s] W fun e w' => e = .returned (.tuple #[.int .i32 (y1 : Int), .int .i64 (y2 : Int)]) ∧ Below W.heap.size W w') := by rw [← hy1, ← hy2]; exact HU.out
      simp only [Bool.false_eq_true, if_false, if_true]
      rw [hy1, hy2]
      clear HU hy1 hy2 HM
      have HU := HU'
      clear HU'
      go_enter Tryd.func54, Tryd.ntmps54
      go_wp2_with (first | (go_at_call 57; refine (c57 _).mono ?_; rintro e w' ⟨rfl, hb⟩; obtain ⟨e3, hS3, hT3, hU3, hB3⟩ := HX.out w' hb; have c37 := H37.out w' hS3; have c70 := HU.out w' hU3; have HB3 : Hid _ := hB3; clear hb hS3 hT3 hU3 hB3) | (go_at_call 37; refine c37.mono ?_; rintro e w4 ⟨rfl, rfl⟩) | (go_at_call 70; refine c70.mono ?_; rintro e w5 ⟨rfl, hb5⟩))
      exact bodyPost_ret (v := .tuple #[.int .i32 (y1 : Int), .int .i64 (y2 : Int)]) (by simp [results, Tryd.results54, go_sem]) rfl ⟨rfl, HB3.out.trans (hb5.mono HB3.out.size)⟩
    | false =>
      clear HU
      by_cases h160 : 160 ≤ b
      · obtain ⟨r, hr⟩ : ∃ r, mean h.1 (b - 160) = r := ⟨_, rfl⟩
        have HM' : Hid (∀ W, Tabs W → Calls Tryd.prog j #[.int .u8 (b : Int)] W fun e w' => e = .returned (.int .i32 (r : Int)) ∧ W = w') := by rw [← hr]; exact fun W => HM.out W h160
        rw [hr]
        have hbi : (160 : Int) ≤ (b : Int) := by omega
        clear HM hr
        by_cases hr0 : r = 0
        · subst hr0
          simp only [Bool.false_eq_true, if_false, ne_eq, not_true_eq_false, and_false]
          rcases hj with rfl | rfl | rfl | rfl | rfl | rfl
          all_goals
            go_enter Tryd.func54, Tryd.ntmps54
            go_wp2_with (first | (go_at_call 57; refine (c57 _).mono ?_; rintro e w' ⟨rfl, hb⟩; obtain ⟨e3, hS3, hT3, hU3, hB3⟩ := HX.out w' hb; have c37 := H37.out w' hS3; have cM := HM'.out w' hT3; have HB3 : Hid _ := hB3; clear hb hS3 hT3 hU3 hB3) | (go_at_call 37; refine c37.mono ?_; rintro e w4 ⟨rfl, rfl⟩) | (go_at_call 73; refine cM.mono ?_; rintro e w5 ⟨rfl, rfl⟩) | (go_at_call 74; refine cM.mono ?_; rintro e w5 ⟨rfl, rfl⟩) | (go_at_call 75; refine cM.mono ?_; rintro e w5 ⟨rfl, rfl⟩) | (go_at_call 76; refine cM.mono ?_; rintro e w5 ⟨rfl, rfl⟩) | (go_at_call 77; refine cM.mono ?_; rintro e w5 ⟨rfl, rfl⟩) | (go_at_call 78; refine cM.mono ?_; rintro e w5 ⟨rfl, rfl⟩))
            exact bodyPost_ret (v := .tuple #[.int .i32 0, .int .i64 0]) (by simp [results, Tryd.results54, go_sem]) rfl ⟨rfl, HB3.out⟩
        · have hrn : ((r : Int) != 0) = true := by simp; omega
          simp only [Bool.false_eq_true, if_false, ne_eq, hr0, not_false_eq_true, h160, and_self, if_true]
          rcases hj with rfl | rfl | rfl | rfl | rfl | rfl
          all_goals
            go_enter Tryd.func54, Tryd.ntmps54
            go_wp2_with (first | (go_at_call 57; refine (c57 _).mono ?_; rintro e w' ⟨rfl, hb⟩; obtain ⟨e3, hS3, hT3, hU3, hB3⟩ := HX.out w' hb; have c37 := H37.out w' hS3; have cM := HM'.out w' hT3; have HB3 : Hid _ := hB3; clear hb hS3 hT3 hU3 hB3) | (go_at_call 37; refine c37.mono ?_; rintro e w4 ⟨rfl, rfl⟩) | (go_at_call 73; refine cM.mono ?_; rintro e w5 ⟨rfl, rfl⟩) | (go_at_call 74; refine cM.mono ?_; rintro e w5 ⟨rfl, rfl⟩) | (go_at_call 75; refine cM.mono ?_; rintro e w5 ⟨rfl, rfl⟩) | (go_at_call 76; refine cM.mono ?_; rintro e w5 ⟨rfl, rfl⟩) | (go_at_call 77; refine cM.mono ?_; rintro e w5 ⟨rfl, rfl⟩) | (go_at_call 78; refine cM.mono ?_; rintro e w5 ⟨rfl, rfl⟩))
            exact bodyPost_ret (v := .tuple #[.int .i32 (r : Int), .int .i64 1]) (by simp [results, Tryd.results54, go_sem]) rfl ⟨rfl, HB3.out⟩
      · have hbi : ¬ (160 : Int) ≤ (b : Int) := by omega
        simp only [Bool.false_eq_true, if_false, h160, false_and]
        clear HM
        go_enter Tryd.func54, Tryd.ntmps54
        go_wp2_with (first | (go_at_call 57; refine (c57 _).mono ?_; rintro e w' ⟨rfl, hb⟩; obtain ⟨e3, hS3, hT3, hU3, hB3⟩ := HX.out w' hb; have c37 := H37.out w' hS3; have HB3 : Hid _ := hB3; clear hb hS3 hT3 hU3 hB3) | (go_at_call 37; refine c37.mono ?_; rintro e w4 ⟨rfl, rfl⟩))
        exact bodyPost_ret (v := .tuple #[.int .i32 0, .int .i64 0]) (by simp [results, Tryd.results54, go_sem]) rfl ⟨rfl, HB3.out⟩
end Go.Proofs.YtmhjjpdfjilobaaDoor
