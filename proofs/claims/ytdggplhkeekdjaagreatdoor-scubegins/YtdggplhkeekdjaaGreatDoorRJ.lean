import Derived.Test.YtdggplhkeekdjaaGreatDoorRF
/-
  DERIVED. The document's lines against the program's rows; the document's padding.
-/
namespace Go.Proofs.YtdggplhkeekdjaaGreatDoor.Rp
open Go Go.Proofs Go.RowKit

/-- Whether one of a line's words from the fourth on is a mark. -/
def fd (S : ByteArray) (c : UInt8) : Bool := (wd S 4).data.toList == [c] || (wd S 5).data.toList == [c] || (wd S 6).data.toList == [c] || (wd S 7).data.toList == [c]

theorem fd_fl (S : ByteArray) (c : UInt8) : fl S c 4 = fd S c := by
  simp only [fl, fd, ByteArray.toList_eq, Bool.false_or]

/-- A line says what the program's row says. -/
def okS (S : ByteArray) (k : Nat) : Bool :=
  decide (2 ≤ S.size) && (decide (S.size ≤ 100) && (decide ((wd S 2).size ≤ 9) && ((bts (wd S 2)).all (fun x => decide (48 ≤ x) && decide (x ≤ 57)) && (decide ((wd S 3).size ≤ 9) && ((bts (wd S 3)).all (fun x => decide (48 ≤ x) && decide (x ≤ 57)) &&
  (decide ((S.extract 0 2).data.toList = (nm k).data.toList) && (decide ((if (wd S 1).data.toList == [115] then (32 : Int) else 0) = pd k) && (decide (((decL (bts (wd S 2)) : Nat) : Int) = un k) && (decide (((decL (bts (wd S 3)) : Nat) : Int) = mo k) &&
  ((fd S 84 == tx k) && ((fd S 67 == ch k) && ((fd S 77 == mu k) && (fd S 76 == lo k)))))))))))))

theorem all_ok : ∀ k : Fin 29, k.val = 0 ∨ okS (lineB (k.val : Int)) k.val = true := by decide +kernel

set_option maxRecDepth 100000 in
/-- What the document tells of a VR. -/
theorem rabout_any (w : World) (v : Int) : Calls Tryz.prog 39 #[.int .i64 v] w fun e w' => e = .returned (.tuple #[infoV (vn v), .bool (decide (1 ≤ v ∧ v ≤ 28))]) ∧ Below w.heap.size w w' := by
  by_cases hv : 1 ≤ v ∧ v ≤ 28
  · have hvn : ((vn v : Nat) : Int) = v := by unfold vn; rw [if_pos hv]; omega
    have hok := (all_ok ⟨vn v, vn_lt v⟩).resolve_left (by simp only; omega)
    simp only at hok
    rw [hvn] at hok
    have hdec : decide (1 ≤ v ∧ v ≤ 28) = true := by simp; omega
    rw [hdec]
    obtain ⟨S, hS⟩ : ∃ S, lineB v = S := ⟨_, rfl⟩
    have c33 := fun W => rep_any W v
    rw [hS] at hok c33
    unfold okS at hok
    simp only [Bool.and_eq_true, decide_eq_true_eq, List.all_eq_true, beq_iff_eq] at hok
    obtain ⟨h1, h2, h3, h4, h5, h6, h7, h8, h9, h10, h11, h12, h13, h14⟩ := hok
    have e0 : S.extract 0 2 = nm (vn v) := ByteArray.ext (Array.ext' h7)
    obtain ⟨WF, hWF0⟩ : ∃ WF : Int → ByteArray, ∀ i, WF i = wd S i.toNat := ⟨fun i => wd S i.toNat, fun _ => rfl⟩
    have hWF : ∀ j : Nat, WF (j : Int) = wd S j := fun j => by rw [hWF0]; simp
    have w1 : WF 1 = wd S 1 := hWF 1
    have w2 : WF 2 = wd S 2 := hWF 2
    have w3 : WF 3 = wd S 3 := hWF 3
    have hne : (S.toList == []) = false := by
      rw [ByteArray.toList_eq]
      cases hd : S.data.toList with
      | nil =>
        have : S.size = 0 := by
          show S.data.size = 0
          rw [← Array.length_toList, hd]
          rfl
        omega
      | cons a l => rfl
    have cw : ∀ (i : Int) W, 0 ≤ i ∧ i ≤ 100 → Calls Tryz.prog 53 #[.string S, .int .i64 i] W fun e w' => e = .returned (.string (WF i)) ∧ W = w' := by
      intro i W hi
      have := word_any W S i.toNat (by omega) (by omega)
      rw [show ((i.toNat : Nat) : Int) = i by omega] at this
      rw [hWF0]
      exact this
    have hp : (((WF 1).toList == [115]) = true ∧ pd (vn v) = 32) ∨ (((WF 1).toList == [115]) = false ∧ pd (vn v) = 0) := by
      rw [w1, ByteArray.toList_eq, ← h8]
      by_cases hb : (wd S 1).data.toList = [115]
      · exact .inl ⟨by rw [hb]; rfl, by rw [if_pos hb]⟩
      · exact .inr ⟨beq_eq_false_iff_ne.2 hb, by rw [if_neg hb]⟩
    have cd : ∀ (A : ByteArray) W, A = WF 2 ∨ A = WF 3 → Calls Tryz.prog 52 #[.string A] W fun e w' => e = .returned (.int .i64 (decL (bts A) : Nat)) ∧ W = w' := by
      intro A W hA
      refine dec_any W A ?_ ?_
      · rcases hA with hA | hA
        · rw [hA, w2]; exact h3
        · rw [hA, w3]; exact h5
      · rcases hA with hA | hA
        · rw [hA, w2]; exact fun x hx => h4 x hx
        · rw [hA, w3]; exact fun x hx => h6 x hx
    have c := rabout_line w v S WF c33 (by omega) hne cw (pd (vn v)) hp cd
    rw [flW_fl hWF, flW_fl hWF, flW_fl hWF, flW_fl hWF, fd_fl, fd_fl, fd_fl, fd_fl, e0, h11, h12, h13, h14, w2, w3, h9, h10] at c
    exact c
  · have hdec : decide (1 ≤ v ∧ v ≤ 28) = false := by simp; omega
    have hvn : vn v = 0 := by unfold vn; rw [if_neg hv]
    have hL : lineB v = ⟨#[]⟩ := by unfold lineB; rw [if_neg hv]
    rw [hdec, hvn, show infoV 0 = .agg #[.string ⟨#[]⟩, .int .u8 0, .int .i64 0, .int .i64 0, .bool false, .bool false, .bool false, .bool false] from rfl]
    have c33 := fun W => rep_any W v
    rw [hL] at c33
    clear hdec hvn hL
    go_enter Tryz.func39, Tryz.ntmps39
    go_wp2_with (first | (go_at_call 51; refine (c33 _).mono ?_; rintro e w' ⟨rfl, rfl⟩) | fail)
    exact bodyPost_ret (by simp only [results, Tryz.results39]; simp [go_sem]) rfl ⟨rfl, (Below.refl _ _).alloc (Nat.le_refl _) _⟩
end Go.Proofs.YtdggplhkeekdjaaGreatDoor.Rp

/-
  DERIVED. The document's padding; the law.
-/
namespace Go.Proofs.YtdggplhkeekdjaaGreatDoor.Rp
open Go Go.Proofs Go.RowKit

theorem rabout_open (w : World) (v : Int) : Calls Tryz.prog 39 #[.int .i64 v] w fun e w' => e = .returned (.tuple #[.agg #[.string (nm (vn v)), .int .u8 (pd (vn v)), .int .i64 (un (vn v)), .int .i64 (mo (vn v)), .bool (tx (vn v)), .bool (ch (vn v)), .bool (mu (vn v)), .bool (lo (vn v))], .bool (decide (1 ≤ v ∧ v ≤ 28))]) ∧ Below w.heap.size w w' := rabout_any w v

theorem get_list (s : ByteArray) (k : Nat) (h : k < s.size) : s[k] = s.data.toList.getD k 1 := by
  have h2 : k < s.data.size := h
  show s.data[k] = _
  simp [List.getD_eq_getElem?_getD, Array.getElem?_eq_getElem h2]

end Go.Proofs.YtdggplhkeekdjaaGreatDoor.Rp
