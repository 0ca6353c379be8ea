import Derived.Test.YtoikdpjjcnmgeaaGreatDoorRE
import Derived.Shelf.Strings.SlTrimAscii
import Derived.Test.YtoikdpjjcnmgeaaGreatDoorRF
section
namespace Go.Proofs.YtoikdpjjcnmgeaaGreatDoor.Rp
open Go Go.Proofs Go.RowKit Go.Shelf Go.Lib

/-- What the shelf's names are here. -/
def trimRen : Go.Shelf.Ren := ⟨fun | 162 => 119 | 232 => 134 | 227 => 135 | 234 => 136 | 236 => 137 | 228 => 167 | 271 => 168 | 151 => 169 | 120 => 188 | 197 => 189 | 152 => 190 | 260 => 202 | 137 => 203 | 119 => 204 | 224 => 205 | 225 => 206 | 217 => 218 | 266 => 226 | n => n, fun | 9 => 9 | 4 => 4 | 3 => 3 | 5 => 5 | 117 => 220 | 116 => 219 | 0 => 0 | 124 => 223 | 21 => 21 | 105 => 225 | 46 => 129 | 119 => 255 | 139 => 258 | 138 => 257 | n => n, fun | 3 => 2 | 4 => 3 | n => n⟩

/-- strings.TrimRight lies here as the shelf has it. -/
theorem trimLays : Go.Proofs.Lays.n162 Tryz.prog trimRen := {
  mixed := by kernel_rfl,
  f119 := Tryz.func204.trans (congrArg some (by kernel_rfl)),
  f120 := Tryz.func188.trans (congrArg some (by kernel_rfl)),
  f137 := Tryz.func203.trans (congrArg some (by kernel_rfl)),
  f151 := Tryz.func169.trans (congrArg some (by kernel_rfl)),
  f152 := Tryz.func190.trans (congrArg some (by kernel_rfl)),
  f162 := Tryz.func119.trans (congrArg some (by kernel_rfl)),
  f197 := Tryz.func189.trans (congrArg some (by kernel_rfl)),
  f217 := Tryz.func218.trans (congrArg some (by kernel_rfl)),
  f224 := Tryz.func205.trans (congrArg some (by kernel_rfl)),
  f225 := Tryz.func206.trans (congrArg some (by kernel_rfl)),
  f227 := Tryz.func135.trans (congrArg some (by kernel_rfl)),
  f228 := Tryz.func167.trans (congrArg some (by kernel_rfl)),
  f232 := Tryz.func134.trans (congrArg some (by kernel_rfl)),
  f234 := Tryz.func136.trans (congrArg some (by kernel_rfl)),
  f236 := Tryz.func137.trans (congrArg some (by kernel_rfl)),
  f260 := Tryz.func202.trans (congrArg some (by kernel_rfl)),
  f266 := Tryz.func226.trans (congrArg some (by kernel_rfl)),
  f271 := Tryz.func168.trans (congrArg some (by kernel_rfl)),
  t0 := Tryz.underlying0,
  a0 := Tryz.isAgg0,
  z0 := Tryz.sizeOf0,
  v0 := Tryz.zeroValue0,
  t3 := Tryz.underlying3,
  a3 := Tryz.isAgg3,
  z3 := Tryz.sizeOf3,
  v3 := Tryz.zeroValue3,
  t4 := Tryz.underlying4,
  a4 := Tryz.isAgg4,
  z4 := Tryz.sizeOf4,
  v4 := Tryz.zeroValue4,
  t5 := Tryz.underlying5,
  a5 := Tryz.isAgg5,
  z5 := Tryz.sizeOf5,
  v5 := Tryz.zeroValue5,
  t9 := Tryz.underlying9,
  a9 := Tryz.isAgg9,
  z9 := Tryz.sizeOf9,
  v9 := Tryz.zeroValue9,
  t21 := Tryz.underlying21,
  a21 := Tryz.isAgg21,
  z21 := Tryz.sizeOf21,
  v21 := Tryz.zeroValue21,
  t46 := Tryz.underlying129,
  a46 := Tryz.isAgg129,
  z46 := Tryz.sizeOf129,
  v46 := Tryz.zeroValue129,
  t105 := Tryz.underlying225,
  a105 := Tryz.isAgg225,
  z105 := Tryz.sizeOf225,
  v105 := Tryz.zeroValue225,
  t116 := Tryz.underlying219,
  a116 := Tryz.isAgg219,
  z116 := Tryz.sizeOf219,
  t117 := Tryz.underlying220,
  a117 := Tryz.isAgg220,
  z117 := Tryz.sizeOf220,
  v117 := Tryz.zeroValue220,
  t119 := Tryz.underlying255,
  a119 := Tryz.isAgg255,
  z119 := Tryz.sizeOf255,
  t124 := Tryz.underlying223,
  a124 := Tryz.isAgg223,
  z124 := Tryz.sizeOf223,
  v124 := Tryz.zeroValue223,
  t138 := Tryz.underlying257,
  a138 := Tryz.isAgg257,
  z138 := Tryz.sizeOf257,
  v138 := Tryz.zeroValue257,
  t139 := Tryz.underlying258,
  a139 := Tryz.isAgg258,
  z139 := Tryz.sizeOf258,
  v139 := Tryz.zeroValue258,
  g3 := by kernel_rfl,
  g4 := by kernel_rfl }

/-- How many bytes are left, spaces and zeros at the end taken away. -/
def trimN (L : List UInt8) : Nat → Nat
  | 0 => 0
  | n + 1 => if L.getD n 1 = 32 ∨ L.getD n 1 = 0 then trimN L n else n + 1

theorem trimN_le (L : List UInt8) : ∀ n, trimN L n ≤ n
  | 0 => Nat.le_refl _
  | n + 1 => by
    rw [trimN]
    split
    · have := trimN_le L n; omega
    · exact Nat.le_refl _

theorem trim_take (L : List UInt8) : ∀ n, n ≤ L.length → ((L.take n).reverse.dropWhile ([32, 0].contains ·)).reverse = L.take (trimN L n)
  | 0, _ => rfl
  | n + 1, h => by
    have e : L.take (n + 1) = L.take n ++ [L.getD n 1] := by
      rw [List.take_add_one]
      simp [List.getElem?_eq_getElem (show n < L.length by omega), List.getD_eq_getElem?_getD]
    rw [trimN]
    by_cases hc : L.getD n 1 = 32 ∨ L.getD n 1 = 0
    · rw [if_pos hc, e, List.reverse_append, List.reverse_singleton, List.singleton_append, List.dropWhile_cons_of_pos, trim_take L n (by omega)]
      simpa using hc
    · rw [if_neg hc, e, List.reverse_append, List.reverse_singleton, List.singleton_append, List.dropWhile_cons_of_neg]
      · simp
      · simpa using hc

/-- A text without the spaces and zeros at its end. -/
def trimB (s : ByteArray) : ByteArray := s.extract 0 (trimN s.data.toList s.size)

theorem extract_list (s : ByteArray) (n : Nat) : (s.extract 0 n).data.toList = s.data.toList.take n := by
  simp [ByteArray.data_extract]

theorem trimB_eq (s : ByteArray) : (⟨(Lib.trimRightS s.data.toList [32, 0]).toArray⟩ : ByteArray) = trimB s := by
  have h := trim_take s.data.toList s.data.toList.length (Nat.le_refl _)
  rw [List.take_length] at h
  unfold trimB
  apply ByteArray.ext
  apply Array.ext'
  rw [extract_list]
  exact h

set_option maxHeartbeats 1000000 in
theorem trimmed_any (s : ByteArray) (w : World) (hs : s.size ≤ 140737488351232) : Calls Tryz.prog 80 #[.string s] w fun e w' => e = .returned (.string (trimB s)) ∧ Below w.heap.size w w' := by
  have hcon := Any.strings_TrimRight_laid trimLays (by kernel_rfl) s ⟨#[32, 0]⟩ w (by omega) (by decide) (ascii_of_all (by decide))
  change Calls Tryz.prog 119 _ _ (fun e w' => e = .returned (.string ⟨(Lib.trimRightS s.data.toList [32, 0]).toArray⟩) ∧ Below w.heap.size w w') at hcon
  rw [trimB_eq] at hcon
  go_enter Tryz.func80, Tryz.ntmps80
  go_wp2_with (go_at_call 119; refine hcon.mono ?_; rintro e w' ⟨rfl, hB⟩)
  go_ret
  exact ⟨rfl, hB⟩
end Go.Proofs.YtoikdpjjcnmgeaaGreatDoor.Rp
end

section
/-
  DERIVED. The program's padding.
-/
namespace Go.Proofs.YtoikdpjjcnmgeaaGreatDoor.Rp
open Go Go.Proofs Go.RowKit

theorem pd_two : ∀ k : Fin 29, pd k.val = 32 ∨ pd k.val = 0 := by decide +kernel

/-- A text, padded. -/
def padB (p : Int) (s : ByteArray) : ByteArray := if s.size % 2 = 0 then s else s ++ (if p = 32 then ⟨#[32]⟩ else ⟨#[0]⟩)

set_option maxRecDepth 100000 in
theorem pad_any (w : World) (v : Int) (s : ByteArray) (hs : s.size ≤ 140737488351232) : Calls Tryz.prog 49 #[.int .i64 v, .string s] w fun e w' => e = .returned (.string (padB (pd (vn v)) s)) ∧ Below w.heap.size w w' := by
  obtain ⟨cf, ff, hcf, hff, c⟩ := repOf_open w v
  have hp2 := pd_two ⟨vn v, vn_lt v⟩
  simp only at hp2
  generalize nm (vn v) = n at c
  generalize pd (vn v) = p at c hp2 ⊢
  generalize un (vn v) = u at c
  generalize mo (vn v) = m at c
  generalize tx (vn v) = t at c
  generalize ch (vn v) = c' at c
  generalize mu (vn v) = q at c
  generalize lo (vn v) = l at c
  generalize decide (1 ≤ v ∧ v ≤ 28) = b at c
  by_cases he : s.size % 2 = 0
  · have hP : padB p s = s := by unfold padB; rw [if_pos he]
    rw [hP]
    have hi : ((s.size : Int) % 2 == 0) = true := by simp; omega
    go_enter Tryz.func49, Tryz.ntmps49
    go_wp2
    go_ret
    exact ⟨rfl, Below.refl _ _⟩
  · have hP : padB p s = s ++ (if p = 32 then ⟨#[32]⟩ else ⟨#[0]⟩) := by unfold padB; rw [if_neg he]
    rw [hP]
    have hi : ((s.size : Int) % 2 == 0) = false := by simp; omega
    have e32 : Utf8.encode 32 = ⟨#[32]⟩ := by kernel_rfl
    have e0 : Utf8.encode 0 = ⟨#[0]⟩ := by kernel_rfl
    have hz : (⟨#[32]⟩ : ByteArray).size = 1 := rfl
    have hz0 : (⟨#[0]⟩ : ByteArray).size = 1 := rfl
    clear hP
    rcases hp2 with rfl | rfl <;> rcases hcf with rfl | ⟨j, rfl⟩ <;> rcases hff with rfl | ⟨j2, rfl⟩
    all_goals go_enter Tryz.func49, Tryz.ntmps49
    all_goals go_wp2_with (first | (go_at_call 81; refine c.mono ?_; rintro e W1 ⟨rfl, hb⟩) | fail)
    all_goals go_ret
    all_goals exact ⟨rfl, hb.alloc hb.size _⟩
end Go.Proofs.YtoikdpjjcnmgeaaGreatDoor.Rp
end

section
/-
  DERIVED. The document's lines against the program's rows; the document's padding.
-/
namespace Go.Proofs.YtoikdpjjcnmgeaaGreatDoor.Rp
open Go Go.Proofs Go.RowKit

/-- Whether one of a line's words from the fourth on is a mark. -/
def fd (S : ByteArray) (c : UInt8) : Bool := (wd S 4).data.toList == [c] || (wd S 5).data.toList == [c] || (wd S 6).data.toList == [c] || (wd S 7).data.toList == [c]

theorem fd_fl (S : ByteArray) (c : UInt8) : fl S c 4 = fd S c := by
  simp only [fl, fd, ByteArray.toList_eq, Bool.false_or]

/-- A line says what the program's row says. -/
def okS (S : ByteArray) (k : Nat) : Bool :=
  decide (2 ≤ S.size) && (decide (S.size ≤ 100) && (decide ((wd S 2).size ≤ 9) && ((bts (wd S 2)).all (fun x => decide (48 ≤ x) && decide (x ≤ 57)) && (decide ((wd S 3).size ≤ 9) && ((bts (wd S 3)).all (fun x => decide (48 ≤ x) && decide (x ≤ 57)) &&
  (decide ((S.extract 0 2).data.toList = (nm k).data.toList) && (decide ((if (wd S 1).data.toList == [115] then (32 : Int) else 0) = pd k) && (decide (((decL (bts (wd S 2)) : Nat) : Int) = un k) && (decide (((decL (bts (wd S 3)) : Nat) : Int) = mo k) &&
  ((fd S 84 == tx k) && ((fd S 67 == ch k) && ((fd S 77 == mu k) && (fd S 76 == lo k)))))))))))))

theorem all_ok : ∀ k : Fin 29, k.val = 0 ∨ okS (lineB (k.val : Int)) k.val = true := by decide +kernel

set_option maxRecDepth 100000 in
/-- What the document tells of a VR. -/
theorem rabout_any (w : World) (v : Int) : Calls Tryz.prog 105 #[.int .i64 v] w fun e w' => e = .returned (.tuple #[infoV (vn v), .bool (decide (1 ≤ v ∧ v ≤ 28))]) ∧ Below w.heap.size w w' := by
  by_cases hv : 1 ≤ v ∧ v ≤ 28
  · have hvn : ((vn v : Nat) : Int) = v := by unfold vn; rw [if_pos hv]; omega
    have hok := (all_ok ⟨vn v, vn_lt v⟩).resolve_left (by simp only; omega)
    simp only at hok
    rw [hvn] at hok
    have hdec : decide (1 ≤ v ∧ v ≤ 28) = true := by simp; omega
    rw [hdec]
    obtain ⟨S, hS⟩ : ∃ S, lineB v = S := ⟨_, rfl⟩
    have c33 := fun W => rep_any W v
    rw [hS] at hok c33
    unfold okS at hok
    simp only [Bool.and_eq_true, decide_eq_true_eq, List.all_eq_true, beq_iff_eq] at hok
    obtain ⟨h1, h2, h3, h4, h5, h6, h7, h8, h9, h10, h11, h12, h13, h14⟩ := hok
    have e0 : S.extract 0 2 = nm (vn v) := ByteArray.ext (Array.ext' h7)
    obtain ⟨WF, hWF0⟩ : ∃ WF : Int → ByteArray, ∀ i, WF i = wd S i.toNat := ⟨fun i => wd S i.toNat, fun _ => rfl⟩
    have hWF : ∀ j : Nat, WF (j : Int) = wd S j := fun j => by rw [hWF0]; simp
    have w1 : WF 1 = wd S 1 := hWF 1
    have w2 : WF 2 = wd S 2 := hWF 2
    have w3 : WF 3 = wd S 3 := hWF 3
    have hne : (S.toList == []) = false := by
      rw [ByteArray.toList_eq]
      cases hd : S.data.toList with
      | nil =>
        have : S.size = 0 := by
          show S.data.size = 0
          rw [← Array.length_toList, hd]
          rfl
        omega
      | cons a l => rfl
    have cw : ∀ (i : Int) W, 0 ≤ i ∧ i ≤ 100 → Calls Tryz.prog 72 #[.string S, .int .i64 i] W fun e w' => e = .returned (.string (WF i)) ∧ W = w' := by
      intro i W hi
      have := word_any W S i.toNat (by omega) (by omega)
      rw [show ((i.toNat : Nat) : Int) = i by omega] at this
      rw [hWF0]
      exact this
    have hp : (((WF 1).toList == [115]) = true ∧ pd (vn v) = 32) ∨ (((WF 1).toList == [115]) = false ∧ pd (vn v) = 0) := by
      rw [w1, ByteArray.toList_eq, ← h8]
      by_cases hb : (wd S 1).data.toList = [115]
      · exact .inl ⟨by rw [hb]; rfl, by rw [if_pos hb]⟩
      · exact .inr ⟨beq_eq_false_iff_ne.2 hb, by rw [if_neg hb]⟩
    have cd : ∀ (A : ByteArray) W, A = WF 2 ∨ A = WF 3 → Calls Tryz.prog 111 #[.string A] W fun e w' => e = .returned (.int .i64 (decL (bts A) : Nat)) ∧ W = w' := by
      intro A W hA
      refine dec_any W A ?_ ?_
      · rcases hA with hA | hA
        · rw [hA, w2]; exact h3
        · rw [hA, w3]; exact h5
      · rcases hA with hA | hA
        · rw [hA, w2]; exact fun x hx => h4 x hx
        · rw [hA, w3]; exact fun x hx => h6 x hx
    have c := rabout_line w v S WF c33 (by omega) hne cw (pd (vn v)) hp cd
    rw [flW_fl hWF, flW_fl hWF, flW_fl hWF, flW_fl hWF, fd_fl, fd_fl, fd_fl, fd_fl, e0, h11, h12, h13, h14, w2, w3, h9, h10] at c
    exact c
  · have hdec : decide (1 ≤ v ∧ v ≤ 28) = false := by simp; omega
    have hvn : vn v = 0 := by unfold vn; rw [if_neg hv]
    have hL : lineB v = ⟨#[]⟩ := by unfold lineB; rw [if_neg hv]
    rw [hdec, hvn, show infoV 0 = .agg #[.string ⟨#[]⟩, .int .u8 0, .int .i64 0, .int .i64 0, .bool false, .bool false, .bool false, .bool false] from rfl]
    have c33 := fun W => rep_any W v
    rw [hL] at c33
    clear hdec hvn hL
    go_enter Tryz.func105, Tryz.ntmps105
    go_wp2_with (first | (go_at_call 127; refine (c33 _).mono ?_; rintro e w' ⟨rfl, rfl⟩) | fail)
    exact bodyPost_ret (by simp only [results, Tryz.results105]; simp [go_sem]) rfl ⟨rfl, (Below.refl _ _).alloc (Nat.le_refl _) _⟩
end Go.Proofs.YtoikdpjjcnmgeaaGreatDoor.Rp
end
