import Derived.Test.YtdggplhkeekdjaaGreatDoorRE
import Derived.Deep.RegionHeld3
import Derived.Deep.RegionWith
/-
  DERIVED. What the document tells of a VR.
-/
namespace Go.Proofs.YtdggplhkeekdjaaGreatDoor.Rp
open Go Go.Proofs Go.RowKit

/-- A line's word. -/
def wd (S : ByteArray) (j : Nat) : ByteArray := S.extract (wordL (bts S) (S.size + 2) j 0 0).1 (wordL (bts S) (S.size + 2) j 0 0).2

/-- Whether one of a line's words from the fourth on is a mark. -/
def fl (S : ByteArray) (c : UInt8) : Nat → Bool
  | 0 => false
  | j + 1 => fl S c j || ((wd S (j + 4)).toList == [c])

/-- A row of what there is to know, as it lies in memory. -/
structure I8 (W : World) (g : Nat) (n : ByteArray) (p u m : Int) (t c q l : Bool) : Prop where
  c0 : W.cell? ⟨g, 0, none⟩ = some (.string n)
  c1 : W.cell? ⟨g, 1, none⟩ = some (.int .u8 p)
  c2 : W.cell? ⟨g, 2, none⟩ = some (.int .i64 u)
  c3 : W.cell? ⟨g, 3, none⟩ = some (.int .i64 m)
  c4 : W.cell? ⟨g, 4, none⟩ = some (.bool t)
  c5 : W.cell? ⟨g, 5, none⟩ = some (.bool c)
  c6 : W.cell? ⟨g, 6, none⟩ = some (.bool q)
  c7 : W.cell? ⟨g, 7, none⟩ = some (.bool l)
  cf : ∀ i, W.frozen? ⟨g, i, none⟩ = false

theorem cell_lt {w : World} {a : Addr} {v : Value} (h : w.cell? a = some v) : a.block < w.heap.size := by
  by_cases hl : a.block < w.heap.size
  · exact hl
  · have : w.heap[a.block]? = none := by simp; omega
    simp [World.cell?, this] at h
theorem cell_set_ne {W : World} {b i j : Nat} {v : Value} (h : i ≠ j) : (W.setCell ⟨b, i, none⟩ v).cell? ⟨b, j, none⟩ = W.cell? ⟨b, j, none⟩ := by
  apply World.cell?_setCell_other; simp
theorem cell_set_eq {W : World} {b i : Nat} {v u : Value} (h : W.cell? ⟨b, i, none⟩ = some u) : (W.setCell ⟨b, i, none⟩ v).cell? ⟨b, i, none⟩ = some v := by
  apply World.cell?_setCell_same; exact h
theorem cell_set_off {W : World} {b i c j : Nat} {v : Value} (h : b ≠ c) : (W.setCell ⟨b, i, none⟩ v).cell? ⟨c, j, none⟩ = W.cell? ⟨c, j, none⟩ := by
  apply World.cell?_setCell_other; intro e; exact h (by simpa using congrArg Addr.block e)

theorem I8.next {W W' : World} {B g : Nat} {n : ByteArray} {p u m : Int} {t c q l : Bool} (h : I8 W g n p u m t c q l) (hb : Below B W W') (hg : g < B) : I8 W' g n p u m t c q l :=
  ⟨(hb.cell (p := ⟨g, 0, none⟩) hg).trans h.c0, (hb.cell (p := ⟨g, 1, none⟩) hg).trans h.c1, (hb.cell (p := ⟨g, 2, none⟩) hg).trans h.c2, (hb.cell (p := ⟨g, 3, none⟩) hg).trans h.c3, (hb.cell (p := ⟨g, 4, none⟩) hg).trans h.c4, (hb.cell (p := ⟨g, 5, none⟩) hg).trans h.c5, (hb.cell (p := ⟨g, 6, none⟩) hg).trans h.c6, (hb.cell (p := ⟨g, 7, none⟩) hg).trans h.c7, fun i => (hb.frozen (p := ⟨g, i, none⟩) hg).trans (h.cf i)⟩

theorem I8.off {W : World} {g g' i : Nat} {n : ByteArray} {p u m : Int} {t c q l : Bool} (h : I8 W g n p u m t c q l) (hne : g' ≠ g) (x : Value) : I8 (W.setCell ⟨g', i, none⟩ x) g n p u m t c q l :=
  ⟨(cell_set_off hne).trans h.c0, (cell_set_off hne).trans h.c1, (cell_set_off hne).trans h.c2, (cell_set_off hne).trans h.c3, (cell_set_off hne).trans h.c4, (cell_set_off hne).trans h.c5, (cell_set_off hne).trans h.c6, (cell_set_off hne).trans h.c7, fun i => by rw [World.frozen?_setCell]; exact h.cf i⟩

theorem I8.pad {W : World} {g : Nat} {n : ByteArray} {p u m : Int} {t c q l : Bool} (h : I8 W g n p u m t c q l) : I8 (W.setCell ⟨g, 1, none⟩ (.int .u8 32)) g n 32 u m t c q l :=
  ⟨(cell_set_ne (by decide)).trans h.c0, cell_set_eq h.c1, (cell_set_ne (by decide)).trans h.c2, (cell_set_ne (by decide)).trans h.c3, (cell_set_ne (by decide)).trans h.c4, (cell_set_ne (by decide)).trans h.c5, (cell_set_ne (by decide)).trans h.c6, (cell_set_ne (by decide)).trans h.c7, fun i => by rw [World.frozen?_setCell]; exact h.cf i⟩
theorem I8.set4 {W : World} {g : Nat} {n : ByteArray} {p u m : Int} {t c q l : Bool} (h : I8 W g n p u m t c q l) : I8 (W.setCell ⟨g, 4, none⟩ (.bool true)) g n p u m true c q l :=
  ⟨(cell_set_ne (by decide)).trans h.c0, (cell_set_ne (by decide)).trans h.c1, (cell_set_ne (by decide)).trans h.c2, (cell_set_ne (by decide)).trans h.c3, cell_set_eq h.c4, (cell_set_ne (by decide)).trans h.c5, (cell_set_ne (by decide)).trans h.c6, (cell_set_ne (by decide)).trans h.c7, fun i => by rw [World.frozen?_setCell]; exact h.cf i⟩
theorem I8.set5 {W : World} {g : Nat} {n : ByteArray} {p u m : Int} {t c q l : Bool} (h : I8 W g n p u m t c q l) : I8 (W.setCell ⟨g, 5, none⟩ (.bool true)) g n p u m t true q l :=
  ⟨(cell_set_ne (by decide)).trans h.c0, (cell_set_ne (by decide)).trans h.c1, (cell_set_ne (by decide)).trans h.c2, (cell_set_ne (by decide)).trans h.c3, (cell_set_ne (by decide)).trans h.c4, cell_set_eq h.c5, (cell_set_ne (by decide)).trans h.c6, (cell_set_ne (by decide)).trans h.c7, fun i => by rw [World.frozen?_setCell]; exact h.cf i⟩
theorem I8.set6 {W : World} {g : Nat} {n : ByteArray} {p u m : Int} {t c q l : Bool} (h : I8 W g n p u m t c q l) : I8 (W.setCell ⟨g, 6, none⟩ (.bool true)) g n p u m t c true l :=
  ⟨(cell_set_ne (by decide)).trans h.c0, (cell_set_ne (by decide)).trans h.c1, (cell_set_ne (by decide)).trans h.c2, (cell_set_ne (by decide)).trans h.c3, (cell_set_ne (by decide)).trans h.c4, (cell_set_ne (by decide)).trans h.c5, cell_set_eq h.c6, (cell_set_ne (by decide)).trans h.c7, fun i => by rw [World.frozen?_setCell]; exact h.cf i⟩
theorem I8.set7 {W : World} {g : Nat} {n : ByteArray} {p u m : Int} {t c q l : Bool} (h : I8 W g n p u m t c q l) : I8 (W.setCell ⟨g, 7, none⟩ (.bool true)) g n p u m t c q true :=
  ⟨(cell_set_ne (by decide)).trans h.c0, (cell_set_ne (by decide)).trans h.c1, (cell_set_ne (by decide)).trans h.c2, (cell_set_ne (by decide)).trans h.c3, (cell_set_ne (by decide)).trans h.c4, (cell_set_ne (by decide)).trans h.c5, (cell_set_ne (by decide)).trans h.c6, cell_set_eq h.c7, fun i => by rw [World.frozen?_setCell]; exact h.cf i⟩

theorem I8.sets {W : World} {g : Nat} {n : ByteArray} {p u m : Int} {t c q l : Bool} (h : I8 W g n p u m t c q l) (x0 x1 x2 x3 x4 x5 x6 x7 : Value) :
    let U := ((((((((W.setCell ⟨g, 0, none⟩ x0).setCell ⟨g, 1, none⟩ x1).setCell ⟨g, 2, none⟩ x2).setCell ⟨g, 3, none⟩ x3).setCell ⟨g, 4, none⟩ x4).setCell ⟨g, 5, none⟩ x5).setCell ⟨g, 6, none⟩ x6).setCell ⟨g, 7, none⟩ x7)
    U.cell? ⟨g, 0, none⟩ = some x0 ∧ U.cell? ⟨g, 1, none⟩ = some x1 ∧ U.cell? ⟨g, 2, none⟩ = some x2 ∧ U.cell? ⟨g, 3, none⟩ = some x3 ∧ U.cell? ⟨g, 4, none⟩ = some x4 ∧ U.cell? ⟨g, 5, none⟩ = some x5 ∧ U.cell? ⟨g, 6, none⟩ = some x6 ∧ U.cell? ⟨g, 7, none⟩ = some x7 :=
  ⟨((cell_set_ne (by decide)).trans ((cell_set_ne (by decide)).trans ((cell_set_ne (by decide)).trans ((cell_set_ne (by decide)).trans ((cell_set_ne (by decide)).trans ((cell_set_ne (by decide)).trans ((cell_set_ne (by decide)).trans (cell_set_eq h.c0)))))))), ((cell_set_ne (by decide)).trans ((cell_set_ne (by decide)).trans ((cell_set_ne (by decide)).trans ((cell_set_ne (by decide)).trans ((cell_set_ne (by decide)).trans ((cell_set_ne (by decide)).trans (cell_set_eq ((cell_set_ne (by decide)).trans h.c1)))))))), ((cell_set_ne (by decide)).trans ((cell_set_ne (by decide)).trans ((cell_set_ne (by decide)).trans ((cell_set_ne (by decide)).trans ((cell_set_ne (by decide)).trans (cell_set_eq ((cell_set_ne (by decide)).trans ((cell_set_ne (by decide)).trans h.c2)))))))), ((cell_set_ne (by decide)).trans ((cell_set_ne (by decide)).trans ((cell_set_ne (by decide)).trans ((cell_set_ne (by decide)).trans (cell_set_eq ((cell_set_ne (by decide)).trans ((cell_set_ne (by decide)).trans ((cell_set_ne (by decide)).trans h.c3)))))))), ((cell_set_ne (by decide)).trans ((cell_set_ne (by decide)).trans ((cell_set_ne (by decide)).trans (cell_set_eq ((cell_set_ne (by decide)).trans ((cell_set_ne (by decide)).trans ((cell_set_ne (by decide)).trans ((cell_set_ne (by decide)).trans h.c4)))))))), ((cell_set_ne (by decide)).trans ((cell_set_ne (by decide)).trans (cell_set_eq ((cell_set_ne (by decide)).trans ((cell_set_ne (by decide)).trans ((cell_set_ne (by decide)).trans ((cell_set_ne (by decide)).trans ((cell_set_ne (by decide)).trans h.c5)))))))), ((cell_set_ne (by decide)).trans (cell_set_eq ((cell_set_ne (by decide)).trans ((cell_set_ne (by decide)).trans ((cell_set_ne (by decide)).trans ((cell_set_ne (by decide)).trans ((cell_set_ne (by decide)).trans ((cell_set_ne (by decide)).trans h.c6)))))))), (cell_set_eq ((cell_set_ne (by decide)).trans ((cell_set_ne (by decide)).trans ((cell_set_ne (by decide)).trans ((cell_set_ne (by decide)).trans ((cell_set_ne (by decide)).trans ((cell_set_ne (by decide)).trans ((cell_set_ne (by decide)).trans h.c7))))))))⟩

/-- Whether one of a line's words from the fourth on is a mark, the words told. -/
def flW (WF : Int → ByteArray) (c : UInt8) : Nat → Bool
  | 0 => false
  | j + 1 => flW WF c j || ((WF ((j + 4 : Nat) : Int)).toList == [c])

theorem flW_fl {S : ByteArray} {WF : Int → ByteArray} (h : ∀ j : Nat, WF (j : Int) = wd S j) (c : UInt8) : ∀ j, flW WF c j = fl S c j
  | 0 => rfl
  | j + 1 => by rw [flW, fl, flW_fl h c j, h]

set_option maxRecDepth 100000 in
set_option maxHeartbeats 1000000 in
theorem rabout_line (w : World) (v : Int) (S : ByteArray) (WF : Int → ByteArray) (c33 : ∀ W, Calls Tryz.prog 51 #[.int .i64 v] W fun e w' => e = .returned (.string S) ∧ W = w') (h2i : (2 : Int) ≤ (S.size : Int)) (hne : (S.toList == []) = false)
    (cw : ∀ (i : Int) W, 0 ≤ i ∧ i ≤ 100 → Calls Tryz.prog 53 #[.string S, .int .i64 i] W fun e w' => e = .returned (.string (WF i)) ∧ W = w')
    (p : Int) (hp : (((WF 1).toList == [115]) = true ∧ p = 32) ∨ (((WF 1).toList == [115]) = false ∧ p = 0))
    (cd : ∀ (A : ByteArray) W, A = WF 2 ∨ A = WF 3 → Calls Tryz.prog 52 #[.string A] W fun e w' => e = .returned (.int .i64 (decL (bts A) : Nat)) ∧ W = w') :
    Calls Tryz.prog 39 #[.int .i64 v] w fun e w' => e = .returned (.tuple #[.agg #[.string (S.extract 0 2), .int .u8 p, .int .i64 (decL (bts (WF 2)) : Nat), .int .i64 (decL (bts (WF 3)) : Nat), .bool (flW WF 84 4), .bool (flW WF 67 4), .bool (flW WF 77 4), .bool (flW WF 76 4)], .bool true]) ∧ Below w.heap.size w w' := by
  have HP : Hid _ := hp
  clear hp
  have h2n : ¬ (S.size : Int) < 2 := by omega
  go_enter Tryz.func39, Tryz.ntmps39
  go_wp2_with (first | (go_at_call 51; refine (c33 _).mono ?_; rintro e w' ⟨rfl, rfl⟩) | fail)
  refine wp_region_noPanic ?_
  go_region_held3 (fun _ => True) (trivial) (first | (go_at_call 53; refine (cw _ _ ?_).mono ?_; (focus omega); rintro e w' ⟨rfl, rfl⟩) | (go_at_call 52; refine (cd _ _ ?_).mono ?_; (focus (first | exact .inl rfl | exact .inr rfl)); rintro e w' ⟨rfl, rfl⟩))
  all_goals refine NoPanic.normal ?_
  all_goals (obtain ⟨W2, hW2⟩ : ∃ W2, ((w.alloc (.cells #[.string ⟨#[]⟩, .int .u8 0, .int .i64 0, .int .i64 0, .bool false, .bool false, .bool false, .bool false] 125)).alloc (.cells #[.string (S.extract 0 2), .int .u8 0, .int .i64 (decL (bts (WF 2)) : Nat), .int .i64 (decL (bts (WF 3)) : Nat), .bool false, .bool false, .bool false, .bool false] 125)).drew = W2 := ⟨_, rfl⟩)
  all_goals rw [hW2]
  all_goals (
    have HS : Hid (W2.heap.size = w.heap.size + 2) := by show _ = _; rw [← hW2]; simp
    have HB : Hid (Below w.heap.size w W2) := hW2 ▸ (((Below.refl _ _).alloc (Nat.le_refl _) _).alloc (by simp) _).drew
    have HZ : Hid (I8 W2 w.heap.size ⟨#[]⟩ 0 0 0 false false false false) := by
      rw [← hW2]
      exact ⟨by simp, by simp, by simp, by simp, by simp, by simp, by simp, by simp, fun i => by simp⟩
    have HI : Hid (I8 W2 (w.heap.size + 1) (S.extract 0 2) 0 (decL (bts (WF 2)) : Nat) (decL (bts (WF 3)) : Nat) false false false false) := by
      rw [← hW2]
      exact ⟨by simp, by simp, by simp, by simp, by simp, by simp, by simp, by simp, fun i => by simp⟩
    clear hW2 c33
    obtain ⟨i0, i1, i2, i3, i4, i5, i6, i7, ife⟩ := HI.out
    rcases HP.out with ⟨hpb, rfl⟩ | ⟨hpb, rfl⟩
    all_goals go_wp2_with (first | (go_at_call 53; refine (cw _ _ ?_).mono ?_; (focus omega); rintro e w' ⟨rfl, rfl⟩) | fail)
    · clear i0 i1 i2 i3 i4 i5 i6 i7 ife hpb
      go_loopw [6] (fun x wr => ∃ k : Nat, x = .int .i64 ((k + 4 : Nat) : Int) ∧ k ≤ 4 ∧ Hid (I8 wr (w.heap.size + 1) (S.extract 0 2) 32 (decL (bts (WF 2)) : Nat) (decL (bts (WF 3)) : Nat) (flW WF 84 k) (flW WF 67 k) (flW WF 77 k) (flW WF 76 k)) ∧ Hid (I8 wr w.heap.size ⟨#[]⟩ 0 0 0 false false false false) ∧ Hid (Below w.heap.size w wr)) (fun x _ => 100 - (intOf x).toNat)
      case atStart => exact ⟨0, rfl, by omega, HI.out.pad, HZ.out.off (by omega) _, HB.out.setCell (p := ⟨w.heap.size + 1, 1, none⟩) (by simp) _⟩
      case round =>
        obtain ⟨k, rfl, hk, HIr, HZr, HBr⟩ := hrel
        obtain ⟨i0, i1, i2, i3, i4, i5, i6, i7, ife⟩ := HIr.out
        by_cases hk4 : k < 4
        · have h84 : Hid (flW WF 84 (k + 1) = (flW WF 84 k || ((WF ((k + 4 : Nat) : Int)).toList == [84]))) := rfl
          have h67 : Hid (flW WF 67 (k + 1) = (flW WF 67 k || ((WF ((k + 4 : Nat) : Int)).toList == [67]))) := rfl
          have h77 : Hid (flW WF 77 (k + 1) = (flW WF 77 k || ((WF ((k + 4 : Nat) : Int)).toList == [77]))) := rfl
          have h76 : Hid (flW WF 76 (k + 1) = (flW WF 76 k || ((WF ((k + 4 : Nat) : Int)).toList == [76]))) := rfl
          have cwk := cw ((k + 4 : Nat) : Int) wr ⟨by omega, by omega⟩
          generalize WF ((k + 4 : Nat) : Int) = X at cwk h84 h67 h77 h76
          by_cases hT : X.toList = [84]
          · have b84 : (X.toList == [84]) = true := by rw [hT]; rfl
            have b67 : (X.toList == [67]) = false := by rw [hT]; rfl
            have b77 : (X.toList == [77]) = false := by rw [hT]; rfl
            have b76 : (X.toList == [76]) = false := by rw [hT]; rfl
            have HN : Hid (I8 (wr.setCell ⟨w.heap.size + 1, 4, none⟩ (.bool true)) (w.heap.size + 1) (S.extract 0 2) 32 (decL (bts (WF 2)) : Nat) (decL (bts (WF 3)) : Nat) (flW WF 84 (k + 1)) (flW WF 67 (k + 1)) (flW WF 77 (k + 1)) (flW WF 76 (k + 1))) := by
              rw [h84.out, h67.out, h77.out, h76.out, b84, b67, b77, b76]; simp only [Bool.or_true, Bool.or_false]; exact HIr.out.set4
            clear hT
            go_wp2_with (first | (go_at_call 53; refine cwk.mono ?_; rintro e w' ⟨rfl, rfl⟩) | fail)
            exact ⟨⟨k + 1, by simp; omega, by omega, HN, HZr.out.off (by omega) _, HBr.out.setCell (p := ⟨w.heap.size + 1, 4, none⟩) (by simp) _⟩, by simp [intOf]; omega⟩
          · by_cases hC : X.toList = [67]
            · have b67 : (X.toList == [67]) = true := by rw [hC]; rfl
              have b84 : (X.toList == [84]) = false := by rw [hC]; rfl
              have b77 : (X.toList == [77]) = false := by rw [hC]; rfl
              have b76 : (X.toList == [76]) = false := by rw [hC]; rfl
              have HN : Hid (I8 (wr.setCell ⟨w.heap.size + 1, 5, none⟩ (.bool true)) (w.heap.size + 1) (S.extract 0 2) 32 (decL (bts (WF 2)) : Nat) (decL (bts (WF 3)) : Nat) (flW WF 84 (k + 1)) (flW WF 67 (k + 1)) (flW WF 77 (k + 1)) (flW WF 76 (k + 1))) := by
                rw [h84.out, h67.out, h77.out, h76.out, b84, b67, b77, b76]; simp only [Bool.or_true, Bool.or_false]; exact HIr.out.set5
              clear hC
              go_wp2_with (first | (go_at_call 53; refine cwk.mono ?_; rintro e w' ⟨rfl, rfl⟩) | fail)
              exact ⟨⟨k + 1, by simp; omega, by omega, HN, HZr.out.off (by omega) _, HBr.out.setCell (p := ⟨w.heap.size + 1, 5, none⟩) (by simp) _⟩, by simp [intOf]; omega⟩
            · by_cases hM : X.toList = [77]
              · have b77 : (X.toList == [77]) = true := by rw [hM]; rfl
                have b84 : (X.toList == [84]) = false := by rw [hM]; rfl
                have b67 : (X.toList == [67]) = false := by rw [hM]; rfl
                have b76 : (X.toList == [76]) = false := by rw [hM]; rfl
                have HN : Hid (I8 (wr.setCell ⟨w.heap.size + 1, 6, none⟩ (.bool true)) (w.heap.size + 1) (S.extract 0 2) 32 (decL (bts (WF 2)) : Nat) (decL (bts (WF 3)) : Nat) (flW WF 84 (k + 1)) (flW WF 67 (k + 1)) (flW WF 77 (k + 1)) (flW WF 76 (k + 1))) := by
                  rw [h84.out, h67.out, h77.out, h76.out, b84, b67, b77, b76]; simp only [Bool.or_true, Bool.or_false]; exact HIr.out.set6
                clear hM
                go_wp2_with (first | (go_at_call 53; refine cwk.mono ?_; rintro e w' ⟨rfl, rfl⟩) | fail)
                exact ⟨⟨k + 1, by simp; omega, by omega, HN, HZr.out.off (by omega) _, HBr.out.setCell (p := ⟨w.heap.size + 1, 6, none⟩) (by simp) _⟩, by simp [intOf]; omega⟩
              · by_cases hL : X.toList = [76]
                · have b76 : (X.toList == [76]) = true := by rw [hL]; rfl
                  have b84 : (X.toList == [84]) = false := by rw [hL]; rfl
                  have b67 : (X.toList == [67]) = false := by rw [hL]; rfl
                  have b77 : (X.toList == [77]) = false := by rw [hL]; rfl
                  have HN : Hid (I8 (wr.setCell ⟨w.heap.size + 1, 7, none⟩ (.bool true)) (w.heap.size + 1) (S.extract 0 2) 32 (decL (bts (WF 2)) : Nat) (decL (bts (WF 3)) : Nat) (flW WF 84 (k + 1)) (flW WF 67 (k + 1)) (flW WF 77 (k + 1)) (flW WF 76 (k + 1))) := by
                    rw [h84.out, h67.out, h77.out, h76.out, b84, b67, b77, b76]; simp only [Bool.or_true, Bool.or_false]; exact HIr.out.set7
                  clear hL
                  go_wp2_with (first | (go_at_call 53; refine cwk.mono ?_; rintro e w' ⟨rfl, rfl⟩) | fail)
                  exact ⟨⟨k + 1, by simp; omega, by omega, HN, HZr.out.off (by omega) _, HBr.out.setCell (p := ⟨w.heap.size + 1, 7, none⟩) (by simp) _⟩, by simp [intOf]; omega⟩
                · have b84 : (X.toList == [84]) = false := beq_eq_false_iff_ne.2 hT
                  have b67 : (X.toList == [67]) = false := beq_eq_false_iff_ne.2 hC
                  have b77 : (X.toList == [77]) = false := beq_eq_false_iff_ne.2 hM
                  have b76 : (X.toList == [76]) = false := beq_eq_false_iff_ne.2 hL
                  have HN : Hid (I8 wr (w.heap.size + 1) (S.extract 0 2) 32 (decL (bts (WF 2)) : Nat) (decL (bts (WF 3)) : Nat) (flW WF 84 (k + 1)) (flW WF 67 (k + 1)) (flW WF 77 (k + 1)) (flW WF 76 (k + 1))) := by
                    rw [h84.out, h67.out, h77.out, h76.out, b84, b67, b77, b76]; simp only [Bool.or_false]; exact HIr.out
                  clear hT hC hM hL
                  go_wp2_with (first | (go_at_call 53; refine cwk.mono ?_; rintro e w' ⟨rfl, rfl⟩) | fail)
                  exact ⟨⟨k + 1, by simp; omega, by omega, HN, HZr, HBr⟩, by simp [intOf]; omega⟩
        · obtain rfl : k = 4 := by omega
          obtain ⟨z0, z1, z2, z3, z4, z5, z6, z7, zf⟩ := HZr.out
          go_wp2
          have hU := HZr.out.sets (.string (S.extract 0 2)) (.int .u8 32) (.int .i64 (decL (bts (WF 2)) : Nat)) (.int .i64 (decL (bts (WF 3)) : Nat)) (.bool (flW WF 84 4)) (.bool (flW WF 67 4)) (.bool (flW WF 77 4)) (.bool (flW WF 76 4))
          simp only at hU
          obtain ⟨u0, u1, u2, u3, u4, u5, u6, u7⟩ := hU
          refine bodyPost_ret (v := .tuple #[.agg #[.string (S.extract 0 2), .int .u8 32, .int .i64 (decL (bts (WF 2)) : Nat), .int .i64 (decL (bts (WF 3)) : Nat), .bool (flW WF 84 4), .bool (flW WF 67 4), .bool (flW WF 77 4), .bool (flW WF 76 4)], .bool true]) (by simp only [results, Tryz.results39]; simp [go_sem, u0, u1, u2, u3, u4, u5, u6, u7]) rfl ⟨by simp, ?_⟩
          exact (((((((HBr.out.setCell (p := ⟨w.heap.size, 0, none⟩) (Nat.le_refl _) _).setCell (p := ⟨w.heap.size, 1, none⟩) (Nat.le_refl _) _).setCell (p := ⟨w.heap.size, 2, none⟩) (Nat.le_refl _) _).setCell (p := ⟨w.heap.size, 3, none⟩) (Nat.le_refl _) _).setCell (p := ⟨w.heap.size, 4, none⟩) (Nat.le_refl _) _).setCell (p := ⟨w.heap.size, 5, none⟩) (Nat.le_refl _) _).setCell (p := ⟨w.heap.size, 6, none⟩) (Nat.le_refl _) _).setCell (p := ⟨w.heap.size, 7, none⟩) (Nat.le_refl _) _
    · clear i0 i1 i2 i3 i4 i5 i6 i7 ife hpb
      go_loopw [6] (fun x wr => ∃ k : Nat, x = .int .i64 ((k + 4 : Nat) : Int) ∧ k ≤ 4 ∧ Hid (I8 wr (w.heap.size + 1) (S.extract 0 2) 0 (decL (bts (WF 2)) : Nat) (decL (bts (WF 3)) : Nat) (flW WF 84 k) (flW WF 67 k) (flW WF 77 k) (flW WF 76 k)) ∧ Hid (I8 wr w.heap.size ⟨#[]⟩ 0 0 0 false false false false) ∧ Hid (Below w.heap.size w wr)) (fun x _ => 100 - (intOf x).toNat)
      case atStart => exact ⟨0, rfl, by omega, HI, HZ, HB⟩
      case round =>
        obtain ⟨k, rfl, hk, HIr, HZr, HBr⟩ := hrel
        obtain ⟨i0, i1, i2, i3, i4, i5, i6, i7, ife⟩ := HIr.out
        by_cases hk4 : k < 4
        · have h84 : Hid (flW WF 84 (k + 1) = (flW WF 84 k || ((WF ((k + 4 : Nat) : Int)).toList == [84]))) := rfl
          have h67 : Hid (flW WF 67 (k + 1) = (flW WF 67 k || ((WF ((k + 4 : Nat) : Int)).toList == [67]))) := rfl
          have h77 : Hid (flW WF 77 (k + 1) = (flW WF 77 k || ((WF ((k + 4 : Nat) : Int)).toList == [77]))) := rfl
          have h76 : Hid (flW WF 76 (k + 1) = (flW WF 76 k || ((WF ((k + 4 : Nat) : Int)).toList == [76]))) := rfl
          have cwk := cw ((k + 4 : Nat) : Int) wr ⟨by omega, by omega⟩
          generalize WF ((k + 4 : Nat) : Int) = X at cwk h84 h67 h77 h76
          by_cases hT : X.toList = [84]
          · have b84 : (X.toList == [84]) = true := by rw [hT]; rfl
            have b67 : (X.toList == [67]) = false := by rw [hT]; rfl
            have b77 : (X.toList == [77]) = false := by rw [hT]; rfl
            have b76 : (X.toList == [76]) = false := by rw [hT]; rfl
            have HN : Hid (I8 (wr.setCell ⟨w.heap.size + 1, 4, none⟩ (.bool true)) (w.heap.size + 1) (S.extract 0 2) 0 (decL (bts (WF 2)) : Nat) (decL (bts (WF 3)) : Nat) (flW WF 84 (k + 1)) (flW WF 67 (k + 1)) (flW WF 77 (k + 1)) (flW WF 76 (k + 1))) := by
              rw [h84.out, h67.out, h77.out, h76.out, b84, b67, b77, b76]; simp only [Bool.or_true, Bool.or_false]; exact HIr.out.set4
            clear hT
            go_wp2_with (first | (go_at_call 53; refine cwk.mono ?_; rintro e w' ⟨rfl, rfl⟩) | fail)
            exact ⟨⟨k + 1, by simp; omega, by omega, HN, HZr.out.off (by omega) _, HBr.out.setCell (p := ⟨w.heap.size + 1, 4, none⟩) (by simp) _⟩, by simp [intOf]; omega⟩
          · by_cases hC : X.toList = [67]
            · have b67 : (X.toList == [67]) = true := by rw [hC]; rfl
              have b84 : (X.toList == [84]) = false := by rw [hC]; rfl
              have b77 : (X.toList == [77]) = false := by rw [hC]; rfl
              have b76 : (X.toList == [76]) = false := by rw [hC]; rfl
              have HN : Hid (I8 (wr.setCell ⟨w.heap.size + 1, 5, none⟩ (.bool true)) (w.heap.size + 1) (S.extract 0 2) 0 (decL (bts (WF 2)) : Nat) (decL (bts (WF 3)) : Nat) (flW WF 84 (k + 1)) (flW WF 67 (k + 1)) (flW WF 77 (k + 1)) (flW WF 76 (k + 1))) := by
                rw [h84.out, h67.out, h77.out, h76.out, b84, b67, b77, b76]; simp only [Bool.or_true, Bool.or_false]; exact HIr.out.set5
              clear hC
              go_wp2_with (first | (go_at_call 53; refine cwk.mono ?_; rintro e w' ⟨rfl, rfl⟩) | fail)
              exact ⟨⟨k + 1, by simp; omega, by omega, HN, HZr.out.off (by omega) _, HBr.out.setCell (p := ⟨w.heap.size + 1, 5, none⟩) (by simp) _⟩, by simp [intOf]; omega⟩
            · by_cases hM : X.toList = [77]
              · have b77 : (X.toList == [77]) = true := by rw [hM]; rfl
                have b84 : (X.toList == [84]) = false := by rw [hM]; rfl
                have b67 : (X.toList == [67]) = false := by rw [hM]; rfl
                have b76 : (X.toList == [76]) = false := by rw [hM]; rfl
                have HN : Hid (I8 (wr.setCell ⟨w.heap.size + 1, 6, none⟩ (.bool true)) (w.heap.size + 1) (S.extract 0 2) 0 (decL (bts (WF 2)) : Nat) (decL (bts (WF 3)) : Nat) (flW WF 84 (k + 1)) (flW WF 67 (k + 1)) (flW WF 77 (k + 1)) (flW WF 76 (k + 1))) := by
                  rw [h84.out, h67.out, h77.out, h76.out, b84, b67, b77, b76]; simp only [Bool.or_true, Bool.or_false]; exact HIr.out.set6
                clear hM
                go_wp2_with (first | (go_at_call 53; refine cwk.mono ?_; rintro e w' ⟨rfl, rfl⟩) | fail)
                exact ⟨⟨k + 1, by simp; omega, by omega, HN, HZr.out.off (by omega) _, HBr.out.setCell (p := ⟨w.heap.size + 1, 6, none⟩) (by simp) _⟩, by simp [intOf]; omega⟩
              · by_cases hL : X.toList = [76]
                · have b76 : (X.toList == [76]) = true := by rw [hL]; rfl
                  have b84 : (X.toList == [84]) = false := by rw [hL]; rfl
                  have b67 : (X.toList == [67]) = false := by rw [hL]; rfl
                  have b77 : (X.toList == [77]) = false := by rw [hL]; rfl
                  have HN : Hid (I8 (wr.setCell ⟨w.heap.size + 1, 7, none⟩ (.bool true)) (w.heap.size + 1) (S.extract 0 2) 0 (decL (bts (WF 2)) : Nat) (decL (bts (WF 3)) : Nat) (flW WF 84 (k + 1)) (flW WF 67 (k + 1)) (flW WF 77 (k + 1)) (flW WF 76 (k + 1))) := by
                    rw [h84.out, h67.out, h77.out, h76.out, b84, b67, b77, b76]; simp only [Bool.or_true, Bool.or_false]; exact HIr.out.set7
                  clear hL
                  go_wp2_with (first | (go_at_call 53; refine cwk.mono ?_; rintro e w' ⟨rfl, rfl⟩) | fail)
                  exact ⟨⟨k + 1, by simp; omega, by omega, HN, HZr.out.off (by omega) _, HBr.out.setCell (p := ⟨w.heap.size + 1, 7, none⟩) (by simp) _⟩, by simp [intOf]; omega⟩
                · have b84 : (X.toList == [84]) = false := beq_eq_false_iff_ne.2 hT
                  have b67 : (X.toList == [67]) = false := beq_eq_false_iff_ne.2 hC
                  have b77 : (X.toList == [77]) = false := beq_eq_false_iff_ne.2 hM
                  have b76 : (X.toList == [76]) = false := beq_eq_false_iff_ne.2 hL
                  have HN : Hid (I8 wr (w.heap.size + 1) (S.extract 0 2) 0 (decL (bts (WF 2)) : Nat) (decL (bts (WF 3)) : Nat) (flW WF 84 (k + 1)) (flW WF 67 (k + 1)) (flW WF 77 (k + 1)) (flW WF 76 (k + 1))) := by
                    rw [h84.out, h67.out, h77.out, h76.out, b84, b67, b77, b76]; simp only [Bool.or_false]; exact HIr.out
                  clear hT hC hM hL
                  go_wp2_with (first | (go_at_call 53; refine cwk.mono ?_; rintro e w' ⟨rfl, rfl⟩) | fail)
                  exact ⟨⟨k + 1, by simp; omega, by omega, HN, HZr, HBr⟩, by simp [intOf]; omega⟩
        · obtain rfl : k = 4 := by omega
          obtain ⟨z0, z1, z2, z3, z4, z5, z6, z7, zf⟩ := HZr.out
          go_wp2
          have hU := HZr.out.sets (.string (S.extract 0 2)) (.int .u8 0) (.int .i64 (decL (bts (WF 2)) : Nat)) (.int .i64 (decL (bts (WF 3)) : Nat)) (.bool (flW WF 84 4)) (.bool (flW WF 67 4)) (.bool (flW WF 77 4)) (.bool (flW WF 76 4))
          simp only at hU
          obtain ⟨u0, u1, u2, u3, u4, u5, u6, u7⟩ := hU
          refine bodyPost_ret (v := .tuple #[.agg #[.string (S.extract 0 2), .int .u8 0, .int .i64 (decL (bts (WF 2)) : Nat), .int .i64 (decL (bts (WF 3)) : Nat), .bool (flW WF 84 4), .bool (flW WF 67 4), .bool (flW WF 77 4), .bool (flW WF 76 4)], .bool true]) (by simp only [results, Tryz.results39]; simp [go_sem, u0, u1, u2, u3, u4, u5, u6, u7]) rfl ⟨by simp, ?_⟩
          exact (((((((HBr.out.setCell (p := ⟨w.heap.size, 0, none⟩) (Nat.le_refl _) _).setCell (p := ⟨w.heap.size, 1, none⟩) (Nat.le_refl _) _).setCell (p := ⟨w.heap.size, 2, none⟩) (Nat.le_refl _) _).setCell (p := ⟨w.heap.size, 3, none⟩) (Nat.le_refl _) _).setCell (p := ⟨w.heap.size, 4, none⟩) (Nat.le_refl _) _).setCell (p := ⟨w.heap.size, 5, none⟩) (Nat.le_refl _) _).setCell (p := ⟨w.heap.size, 6, none⟩) (Nat.le_refl _) _).setCell (p := ⟨w.heap.size, 7, none⟩) (Nat.le_refl _) _)
end Go.Proofs.YtdggplhkeekdjaaGreatDoor.Rp
