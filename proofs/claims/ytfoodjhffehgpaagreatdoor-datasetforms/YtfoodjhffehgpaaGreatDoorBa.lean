import Derived.Test.YtfoodjhffehgpaaGreatDoorRE
import Derived.Shelf.Strings.SlTrimAscii
import Derived.Test.YtfoodjhffehgpaaGreatDoorRF
import Derived.Test.YtfoodjhffehgpaaGreatDoorFc
import Derived.Test.YtfoodjhffehgpaaGreatDoorLa
import Derived.Test.YtfoodjhffehgpaaGreatDoorBp
section
namespace Go.Proofs.YtfoodjhffehgpaaGreatDoor.Rp
open Go Go.Proofs Go.RowKit Go.Shelf Go.Lib

/-- What the shelf's names are here. -/
def trimRen : Go.Shelf.Ren := ⟨fun | 162 => 96 | 232 => 104 | 227 => 105 | 234 => 106 | 236 => 107 | 228 => 130 | 271 => 131 | 151 => 132 | 120 => 155 | 197 => 156 | 152 => 157 | 260 => 170 | 137 => 171 | 119 => 172 | 224 => 173 | 225 => 174 | 217 => 196 | 266 => 205 | n => n, fun | 9 => 9 | 4 => 4 | 3 => 3 | 5 => 5 | 117 => 194 | 116 => 193 | 0 => 0 | 124 => 197 | 21 => 21 | 105 => 199 | 46 => 28 | 119 => 237 | 139 => 240 | 138 => 239 | n => n, fun | 3 => 2 | 4 => 3 | n => n⟩

/-- strings.TrimRight lies here as the shelf has it. -/
theorem trimLays : Go.Proofs.Lays.n162 Tryz.prog trimRen := {
  mixed := by kernel_rfl,
  f119 := Tryz.func172.trans (congrArg some (by kernel_rfl)),
  f120 := Tryz.func155.trans (congrArg some (by kernel_rfl)),
  f137 := Tryz.func171.trans (congrArg some (by kernel_rfl)),
  f151 := Tryz.func132.trans (congrArg some (by kernel_rfl)),
  f152 := Tryz.func157.trans (congrArg some (by kernel_rfl)),
  f162 := Tryz.func96.trans (congrArg some (by kernel_rfl)),
  f197 := Tryz.func156.trans (congrArg some (by kernel_rfl)),
  f217 := Tryz.func196.trans (congrArg some (by kernel_rfl)),
  f224 := Tryz.func173.trans (congrArg some (by kernel_rfl)),
  f225 := Tryz.func174.trans (congrArg some (by kernel_rfl)),
  f227 := Tryz.func105.trans (congrArg some (by kernel_rfl)),
  f228 := Tryz.func130.trans (congrArg some (by kernel_rfl)),
  f232 := Tryz.func104.trans (congrArg some (by kernel_rfl)),
  f234 := Tryz.func106.trans (congrArg some (by kernel_rfl)),
  f236 := Tryz.func107.trans (congrArg some (by kernel_rfl)),
  f260 := Tryz.func170.trans (congrArg some (by kernel_rfl)),
  f266 := Tryz.func205.trans (congrArg some (by kernel_rfl)),
  f271 := Tryz.func131.trans (congrArg some (by kernel_rfl)),
  t0 := Tryz.underlying0,
  a0 := Tryz.isAgg0,
  z0 := Tryz.sizeOf0,
  v0 := Tryz.zeroValue0,
  t3 := Tryz.underlying3,
  a3 := Tryz.isAgg3,
  z3 := Tryz.sizeOf3,
  v3 := Tryz.zeroValue3,
  t4 := Tryz.underlying4,
  a4 := Tryz.isAgg4,
  z4 := Tryz.sizeOf4,
  v4 := Tryz.zeroValue4,
  t5 := Tryz.underlying5,
  a5 := Tryz.isAgg5,
  z5 := Tryz.sizeOf5,
  v5 := Tryz.zeroValue5,
  t9 := Tryz.underlying9,
  a9 := Tryz.isAgg9,
  z9 := Tryz.sizeOf9,
  v9 := Tryz.zeroValue9,
  t21 := Tryz.underlying21,
  a21 := Tryz.isAgg21,
  z21 := Tryz.sizeOf21,
  v21 := Tryz.zeroValue21,
  t46 := Tryz.underlying28,
  a46 := Tryz.isAgg28,
  z46 := Tryz.sizeOf28,
  v46 := Tryz.zeroValue28,
  t105 := Tryz.underlying199,
  a105 := Tryz.isAgg199,
  z105 := Tryz.sizeOf199,
  v105 := Tryz.zeroValue199,
  t116 := Tryz.underlying193,
  a116 := Tryz.isAgg193,
  z116 := Tryz.sizeOf193,
  t117 := Tryz.underlying194,
  a117 := Tryz.isAgg194,
  z117 := Tryz.sizeOf194,
  v117 := Tryz.zeroValue194,
  t119 := Tryz.underlying237,
  a119 := Tryz.isAgg237,
  z119 := Tryz.sizeOf237,
  t124 := Tryz.underlying197,
  a124 := Tryz.isAgg197,
  z124 := Tryz.sizeOf197,
  v124 := Tryz.zeroValue197,
  t138 := Tryz.underlying239,
  a138 := Tryz.isAgg239,
  z138 := Tryz.sizeOf239,
  v138 := Tryz.zeroValue239,
  t139 := Tryz.underlying240,
  a139 := Tryz.isAgg240,
  z139 := Tryz.sizeOf240,
  v139 := Tryz.zeroValue240,
  g3 := by kernel_rfl,
  g4 := by kernel_rfl }

/-- How many bytes are left, spaces and zeros at the end taken away. -/
def trimN (L : List UInt8) : Nat → Nat
  | 0 => 0
  | n + 1 => if L.getD n 1 = 32 ∨ L.getD n 1 = 0 then trimN L n else n + 1

theorem trimN_le (L : List UInt8) : ∀ n, trimN L n ≤ n
  | 0 => Nat.le_refl _
  | n + 1 => by
    rw [trimN]
    split
    · have := trimN_le L n; omega
    · exact Nat.le_refl _

theorem trim_take (L : List UInt8) : ∀ n, n ≤ L.length → ((L.take n).reverse.dropWhile ([32, 0].contains ·)).reverse = L.take (trimN L n)
  | 0, _ => rfl
  | n + 1, h => by
    have e : L.take (n + 1) = L.take n ++ [L.getD n 1] := by
      rw [List.take_add_one]
      simp [List.getElem?_eq_getElem (show n < L.length by omega), List.getD_eq_getElem?_getD]
    rw [trimN]
    by_cases hc : L.getD n 1 = 32 ∨ L.getD n 1 = 0
    · rw [if_pos hc, e, List.reverse_append, List.reverse_singleton, List.singleton_append, List.dropWhile_cons_of_pos, trim_take L n (by omega)]
      simpa using hc
    · rw [if_neg hc, e, List.reverse_append, List.reverse_singleton, List.singleton_append, List.dropWhile_cons_of_neg]
      · simp
      · simpa using hc

/-- A text without the spaces and zeros at its end. -/
def trimB (s : ByteArray) : ByteArray := s.extract 0 (trimN s.data.toList s.size)

theorem extract_list (s : ByteArray) (n : Nat) : (s.extract 0 n).data.toList = s.data.toList.take n := by
  simp [ByteArray.data_extract]

theorem trimB_eq (s : ByteArray) : (⟨(Lib.trimRightS s.data.toList [32, 0]).toArray⟩ : ByteArray) = trimB s := by
  have h := trim_take s.data.toList s.data.toList.length (Nat.le_refl _)
  rw [List.take_length] at h
  unfold trimB
  apply ByteArray.ext
  apply Array.ext'
  rw [extract_list]
  exact h

set_option maxHeartbeats 1000000 in
theorem trimmed_any (s : ByteArray) (w : World) (hs : s.size ≤ 140737488351232) : Calls Tryz.prog 85 #[.string s] w fun e w' => e = .returned (.string (trimB s)) ∧ Below w.heap.size w w' := by
  have hcon := Any.strings_TrimRight_laid trimLays (by kernel_rfl) s ⟨#[32, 0]⟩ w (by omega) (by decide) (ascii_of_all (by decide))
  change Calls Tryz.prog 96 _ _ (fun e w' => e = .returned (.string ⟨(Lib.trimRightS s.data.toList [32, 0]).toArray⟩) ∧ Below w.heap.size w w') at hcon
  rw [trimB_eq] at hcon
  go_enter Tryz.func85, Tryz.ntmps85
  go_wp2_with (go_at_call 96; refine hcon.mono ?_; rintro e w' ⟨rfl, hB⟩)
  go_ret
  exact ⟨rfl, hB⟩
end Go.Proofs.YtfoodjhffehgpaaGreatDoor.Rp
end

section
/-
  DERIVED. The program's padding.
-/
namespace Go.Proofs.YtfoodjhffehgpaaGreatDoor.Rp
open Go Go.Proofs Go.RowKit

theorem pd_two : ∀ k : Fin 29, pd k.val = 32 ∨ pd k.val = 0 := by decide +kernel

/-- A text, padded. -/
def padB (p : Int) (s : ByteArray) : ByteArray := if s.size % 2 = 0 then s else s ++ (if p = 32 then ⟨#[32]⟩ else ⟨#[0]⟩)

set_option maxRecDepth 100000 in
theorem pad_any (w : World) (v : Int) (s : ByteArray) (hs : s.size ≤ 140737488351232) : Calls Tryz.prog 79 #[.int .i64 v, .string s] w fun e w' => e = .returned (.string (padB (pd (vn v)) s)) ∧ Below w.heap.size w w' := by
  obtain ⟨cf, ff, hcf, hff, c⟩ := repOf_open w v
  have hp2 := pd_two ⟨vn v, vn_lt v⟩
  simp only at hp2
  generalize nm (vn v) = n at c
  generalize pd (vn v) = p at c hp2 ⊢
  generalize un (vn v) = u at c
  generalize mo (vn v) = m at c
  generalize tx (vn v) = t at c
  generalize ch (vn v) = c' at c
  generalize mu (vn v) = q at c
  generalize lo (vn v) = l at c
  generalize decide (1 ≤ v ∧ v ≤ 28) = b at c
  by_cases he : s.size % 2 = 0
  · have hP : padB p s = s := by unfold padB; rw [if_pos he]
    rw [hP]
    have hi : ((s.size : Int) % 2 == 0) = true := by simp; omega
    go_enter Tryz.func79, Tryz.ntmps79
    go_wp2
    go_ret
    exact ⟨rfl, Below.refl _ _⟩
  · have hP : padB p s = s ++ (if p = 32 then ⟨#[32]⟩ else ⟨#[0]⟩) := by unfold padB; rw [if_neg he]
    rw [hP]
    have hi : ((s.size : Int) % 2 == 0) = false := by simp; omega
    have e32 : Utf8.encode 32 = ⟨#[32]⟩ := by kernel_rfl
    have e0 : Utf8.encode 0 = ⟨#[0]⟩ := by kernel_rfl
    have hz : (⟨#[32]⟩ : ByteArray).size = 1 := rfl
    have hz0 : (⟨#[0]⟩ : ByteArray).size = 1 := rfl
    clear hP
    rcases hp2 with rfl | rfl <;> rcases hcf with rfl | ⟨j, rfl⟩ <;> rcases hff with rfl | ⟨j2, rfl⟩
    all_goals go_enter Tryz.func79, Tryz.ntmps79
    all_goals go_wp2_with (first | (go_at_call 93; refine c.mono ?_; rintro e W1 ⟨rfl, hb⟩) | fail)
    all_goals go_ret
    all_goals exact ⟨rfl, hb.alloc hb.size _⟩
end Go.Proofs.YtfoodjhffehgpaaGreatDoor.Rp
end

section
/-
  DERIVED. The document's lines against the program's rows; the document's padding.
-/
namespace Go.Proofs.YtfoodjhffehgpaaGreatDoor.Rp
open Go Go.Proofs Go.RowKit

/-- Whether one of a line's words from the fourth on is a mark. -/
def fd (S : ByteArray) (c : UInt8) : Bool := (wd S 4).data.toList == [c] || (wd S 5).data.toList == [c] || (wd S 6).data.toList == [c] || (wd S 7).data.toList == [c]

theorem fd_fl (S : ByteArray) (c : UInt8) : fl S c 4 = fd S c := by
  simp only [fl, fd, ByteArray.toList_eq, Bool.false_or]

/-- A line says what the program's row says. -/
def okS (S : ByteArray) (k : Nat) : Bool :=
  decide (2 ≤ S.size) && (decide (S.size ≤ 100) && (decide ((wd S 2).size ≤ 9) && ((bts (wd S 2)).all (fun x => decide (48 ≤ x) && decide (x ≤ 57)) && (decide ((wd S 3).size ≤ 9) && ((bts (wd S 3)).all (fun x => decide (48 ≤ x) && decide (x ≤ 57)) &&
  (decide ((S.extract 0 2).data.toList = (nm k).data.toList) && (decide ((if (wd S 1).data.toList == [115] then (32 : Int) else 0) = pd k) && (decide (((decL (bts (wd S 2)) : Nat) : Int) = un k) && (decide (((decL (bts (wd S 3)) : Nat) : Int) = mo k) &&
  ((fd S 84 == tx k) && ((fd S 67 == ch k) && ((fd S 77 == mu k) && (fd S 76 == lo k)))))))))))))

theorem all_ok : ∀ k : Fin 29, k.val = 0 ∨ okS (lineB (k.val : Int)) k.val = true := by decide +kernel

set_option maxRecDepth 100000 in
/-- What the document tells of a VR. -/
theorem rabout_any (w : World) (v : Int) : Calls Tryz.prog 37 #[.int .i64 v] w fun e w' => e = .returned (.tuple #[infoV (vn v), .bool (decide (1 ≤ v ∧ v ≤ 28))]) ∧ Below w.heap.size w w' := by
  by_cases hv : 1 ≤ v ∧ v ≤ 28
  · have hvn : ((vn v : Nat) : Int) = v := by unfold vn; rw [if_pos hv]; omega
    have hok := (all_ok ⟨vn v, vn_lt v⟩).resolve_left (by simp only; omega)
    simp only at hok
    rw [hvn] at hok
    have hdec : decide (1 ≤ v ∧ v ≤ 28) = true := by simp; omega
    rw [hdec]
    obtain ⟨S, hS⟩ : ∃ S, lineB v = S := ⟨_, rfl⟩
    have c33 := fun W => rep_any W v
    rw [hS] at hok c33
    unfold okS at hok
    simp only [Bool.and_eq_true, decide_eq_true_eq, List.all_eq_true, beq_iff_eq] at hok
    obtain ⟨h1, h2, h3, h4, h5, h6, h7, h8, h9, h10, h11, h12, h13, h14⟩ := hok
    have e0 : S.extract 0 2 = nm (vn v) := ByteArray.ext (Array.ext' h7)
    obtain ⟨WF, hWF0⟩ : ∃ WF : Int → ByteArray, ∀ i, WF i = wd S i.toNat := ⟨fun i => wd S i.toNat, fun _ => rfl⟩
    have hWF : ∀ j : Nat, WF (j : Int) = wd S j := fun j => by rw [hWF0]; simp
    have w1 : WF 1 = wd S 1 := hWF 1
    have w2 : WF 2 = wd S 2 := hWF 2
    have w3 : WF 3 = wd S 3 := hWF 3
    have hne : (S.toList == []) = false := by
      rw [ByteArray.toList_eq]
      cases hd : S.data.toList with
      | nil =>
        have : S.size = 0 := by
          show S.data.size = 0
          rw [← Array.length_toList, hd]
          rfl
        omega
      | cons a l => rfl
    have cw : ∀ (i : Int) W, 0 ≤ i ∧ i ≤ 100 → Calls Tryz.prog 55 #[.string S, .int .i64 i] W fun e w' => e = .returned (.string (WF i)) ∧ W = w' := by
      intro i W hi
      have := word_any W S i.toNat (by omega) (by omega)
      rw [show ((i.toNat : Nat) : Int) = i by omega] at this
      rw [hWF0]
      exact this
    have hp : (((WF 1).toList == [115]) = true ∧ pd (vn v) = 32) ∨ (((WF 1).toList == [115]) = false ∧ pd (vn v) = 0) := by
      rw [w1, ByteArray.toList_eq, ← h8]
      by_cases hb : (wd S 1).data.toList = [115]
      · exact .inl ⟨by rw [hb]; rfl, by rw [if_pos hb]⟩
      · exact .inr ⟨beq_eq_false_iff_ne.2 hb, by rw [if_neg hb]⟩
    have cd : ∀ (A : ByteArray) W, A = WF 2 ∨ A = WF 3 → Calls Tryz.prog 54 #[.string A] W fun e w' => e = .returned (.int .i64 (decL (bts A) : Nat)) ∧ W = w' := by
      intro A W hA
      refine dec_any W A ?_ ?_
      · rcases hA with hA | hA
        · rw [hA, w2]; exact h3
        · rw [hA, w3]; exact h5
      · rcases hA with hA | hA
        · rw [hA, w2]; exact fun x hx => h4 x hx
        · rw [hA, w3]; exact fun x hx => h6 x hx
    have c := rabout_line w v S WF c33 (by omega) hne cw (pd (vn v)) hp cd
    rw [flW_fl hWF, flW_fl hWF, flW_fl hWF, flW_fl hWF, fd_fl, fd_fl, fd_fl, fd_fl, e0, h11, h12, h13, h14, w2, w3, h9, h10] at c
    exact c
  · have hdec : decide (1 ≤ v ∧ v ≤ 28) = false := by simp; omega
    have hvn : vn v = 0 := by unfold vn; rw [if_neg hv]
    have hL : lineB v = ⟨#[]⟩ := by unfold lineB; rw [if_neg hv]
    rw [hdec, hvn, show infoV 0 = .agg #[.string ⟨#[]⟩, .int .u8 0, .int .i64 0, .int .i64 0, .bool false, .bool false, .bool false, .bool false] from rfl]
    have c33 := fun W => rep_any W v
    rw [hL] at c33
    clear hdec hvn hL
    go_enter Tryz.func37, Tryz.ntmps37
    go_wp2_with (first | (go_at_call 53; refine (c33 _).mono ?_; rintro e w' ⟨rfl, rfl⟩) | fail)
    exact bodyPost_ret (by simp only [results, Tryz.results37]; simp [go_sem]) rfl ⟨rfl, (Below.refl _ _).alloc (Nat.le_refl _) _⟩
end Go.Proofs.YtfoodjhffehgpaaGreatDoor.Rp
end

section
/-
  DERIVED. The document's padding; the law.
-/
namespace Go.Proofs.YtfoodjhffehgpaaGreatDoor.Rp
open Go Go.Proofs Go.RowKit

theorem rabout_open (w : World) (v : Int) : Calls Tryz.prog 37 #[.int .i64 v] w fun e w' => e = .returned (.tuple #[.agg #[.string (nm (vn v)), .int .u8 (pd (vn v)), .int .i64 (un (vn v)), .int .i64 (mo (vn v)), .bool (tx (vn v)), .bool (ch (vn v)), .bool (mu (vn v)), .bool (lo (vn v))], .bool (decide (1 ≤ v ∧ v ≤ 28))]) ∧ Below w.heap.size w w' := rabout_any w v

theorem get_list (s : ByteArray) (k : Nat) (h : k < s.size) : s[k] = s.data.toList.getD k 1 := by
  have h2 : k < s.data.size := h
  show s.data[k] = _
  simp [List.getD_eq_getElem?_getD, Array.getElem?_eq_getElem h2]

set_option maxRecDepth 100000 in
theorem rpad_any (w : World) (v : Int) (s : ByteArray) (hs : s.size ≤ 140737488351232) : Calls Tryz.prog 18 #[.int .i64 v, .string s] w fun e w' => e = .returned (.string (padB (pd (vn v)) s)) ∧ Below w.heap.size w w' := by
  have c := rabout_open w v
  have hp2 := pd_two ⟨vn v, vn_lt v⟩
  simp only at hp2
  generalize nm (vn v) = n at c
  generalize pd (vn v) = p at c hp2 ⊢
  generalize un (vn v) = u at c
  generalize mo (vn v) = m at c
  generalize tx (vn v) = t at c
  generalize ch (vn v) = c' at c
  generalize mu (vn v) = q at c
  generalize lo (vn v) = l at c
  generalize decide (1 ≤ v ∧ v ≤ 28) = b at c
  by_cases he : s.size % 2 = 0
  · have hP : padB p s = s := by unfold padB; rw [if_pos he]
    rw [hP]
    have hi : ((s.size : Int) % 2 == 0) = true := by simp; omega
    go_enter Tryz.func18, Tryz.ntmps18
    go_wp2
    go_ret
    exact ⟨rfl, Below.refl _ _⟩
  · have hP : padB p s = s ++ (if p = 32 then ⟨#[32]⟩ else ⟨#[0]⟩) := by unfold padB; rw [if_neg he]
    rw [hP]
    have hi : ((s.size : Int) % 2 == 0) = false := by simp; omega
    have hz : (⟨#[32]⟩ : ByteArray).size = 1 := rfl
    have hz0 : (⟨#[0]⟩ : ByteArray).size = 1 := rfl
    clear hP
    rcases hp2 with rfl | rfl
    all_goals go_enter Tryz.func18, Tryz.ntmps18
    all_goals go_wp2_with (first | (go_at_call 37; refine c.mono ?_; rintro e W1 ⟨rfl, hb⟩) | fail)
    all_goals go_ret
    all_goals exact ⟨rfl, hb.alloc hb.size _⟩

set_option maxRecDepth 100000 in
theorem rtrim_any (w : World) (v : Int) (s : ByteArray) (hs : s.size ≤ 140737488351232) : Calls Tryz.prog 24 #[.int .i64 v, .string s] w fun e w' => e = .returned (.string (if tx (vn v) then trimB s else s)) ∧ Below w.heap.size w w' := by
  have c := rabout_open w v
  generalize nm (vn v) = n at c
  generalize pd (vn v) = p at c
  generalize un (vn v) = u at c
  generalize mo (vn v) = m at c
  generalize tx (vn v) = t at c ⊢
  generalize ch (vn v) = c' at c
  generalize mu (vn v) = q at c
  generalize lo (vn v) = l at c
  generalize decide (1 ≤ v ∧ v ≤ 28) = b at c
  obtain ⟨R, hR⟩ : ∃ R, trimN s.data.toList s.size = R := ⟨_, rfl⟩
  have HT : Hid (trimB s = s.extract 0 R) := by show _ = _; rw [← hR]; rfl
  have HR : Hid (trimN s.data.toList s.size = R) := hR
  clear hR
  cases t with
  | false =>
    go_enter Tryz.func24, Tryz.ntmps24
    go_wp2_with (first | (go_at_call 37; refine c.mono ?_; rintro e W1 ⟨rfl, hb⟩) | fail)
    go_loop [7] (fun x => x = .int .i64 (s.size : Nat)) (fun x => 0)
    case atStart => rfl
    case round =>
      obtain rfl := hrel
      go_wp2
      go_ret
      exact ⟨rfl, hb.alloc hb.size _⟩
  | true =>
    go_enter Tryz.func24, Tryz.ntmps24
    go_wp2_with (first | (go_at_call 37; refine c.mono ?_; rintro e W1 ⟨rfl, hb⟩) | fail)
    go_loop [7] (fun x => ∃ k : Nat, x = .int .i64 k ∧ k ≤ s.size ∧ Hid (trimN s.data.toList k = R)) (fun x => (intOf x).toNat)
    case atStart => exact ⟨s.size, rfl, Nat.le_refl _, HR⟩
    case round =>
      obtain ⟨k, rfl, hk, HK⟩ := hrel
      by_cases hk0 : k = 0
      · subst hk0
        have hR0 : R = 0 := HK.out.symm
        go_wp2
        go_ret
        refine ⟨?_, hb.alloc hb.size _⟩
        have hT0 : trimB s = ByteArray.empty := by rw [HT.out, hR0]; simp
        rw [hT0]
        rfl
      · obtain ⟨j, rfl⟩ : ∃ j, k = j + 1 := ⟨k - 1, by omega⟩
        have hj : j < s.size := by omega
        have hw := HK.out
        rw [trimN, ← get_list s j hj] at hw
        have hj1 : ((j + 1 : Nat) : Int) - 1 = (j : Int) := by omega
        have hpos : (0 : Int) < ((j + 1 : Nat) : Int) := by omega
        have h0 : ((j + 1 : Nat) : Int) = (j : Int) + 1 := by omega
        by_cases h32 : s[j] = 32
        · rw [if_pos (.inl h32)] at hw
          have HW : Hid (trimN s.data.toList j = R) := hw
          have b32 : ((s[j].toNat : Int) == 32) = true := by rw [h32]; rfl
          clear hw h32
          go_wp2
          exact ⟨⟨j, rfl, by omega, HW⟩, by simp [intOf]⟩
        · by_cases hz : s[j] = 0
          · rw [if_pos (.inr hz)] at hw
            have HW : Hid (trimN s.data.toList j = R) := hw
            have b32 : ((s[j].toNat : Int) == 32) = false := by rw [hz]; rfl
            have b0 : ((s[j].toNat : Int) == 0) = true := by rw [hz]; rfl
            clear hw h32 hz
            go_wp2
            exact ⟨⟨j, rfl, by omega, HW⟩, by simp [intOf]⟩
          · rw [if_neg (by rintro (h | h); exact h32 h; exact hz h)] at hw
            have HW : Hid (j + 1 = R) := hw
            have b32 : ((s[j].toNat : Int) == 32) = false := by
              refine beq_eq_false_iff_ne.2 (fun h => h32 ?_)
              apply UInt8.toNat_inj.1
              simpa using Int.ofNat.inj h
            have b0 : ((s[j].toNat : Int) == 0) = false := by
              refine beq_eq_false_iff_ne.2 (fun h => hz ?_)
              apply UInt8.toNat_inj.1
              simpa using Int.ofNat.inj h
            clear hw h32 hz
            go_wp2
            go_ret
            refine ⟨?_, hb.alloc hb.size _⟩
            rw [HT.out, ← HW.out]
            rfl

end Go.Proofs.YtfoodjhffehgpaaGreatDoor.Rp
end

section
/-
  DERIVED. Which node may be an element, which an item: the program's looks.
-/
namespace Go.Proofs.YtfoodjhffehgpaaGreatDoor
open Go Go.Proofs Go.RowKit
open Wk (Nd)

structure StopF (p : Prop) : Prop where
  out : p
/-- May an element have that tag? -/
def mayS (t : Nat) : Bool := !(decide (t / 65536 = 0) || decide (t / 65536 = 2) || decide (t / 65536 = 65534) || decide (t / 65536 = 65535)) && !decide (t % 65536 = 0)
/-- What the dictionary knows of a tag. -/
def fnd (a : Nd) : Option Tb.Row := Tb.docF a.t.toNat (Tb.upTo 10)
/-- Has the node the VR that the dictionary asks for? -/
def vrO (a : Nd) : Bool := !((fnd a).isSome && (a.v != Tb.eV (fnd a)))
/-- Is a text without padding? -/
def unp (t : Bool) (s : ByteArray) : Bool := if t then (Rp.trimB s).toList == s.toList else decide (s.size % 2 = 0)
/-- Is what the node holds right? -/
def bodyO (a : Nd) : Bool := if a.v = 18 then (a.s.toList == []) && decide (0 ≤ a.n) else decide (1 ≤ a.v ∧ a.v ≤ 28) && (decide (a.n = 0) && (decide (a.s.size ≤ 65534) && unp (Rp.tx (Rp.vn a.v)) a.s))
def elemOk (a : Nd) : Bool := mayS a.t.toNat && (vrO a && bodyO a)
def itemOk (a : Nd) : Bool := decide (a.t = 4294893568) && (decide (a.v = 29) && ((a.s.toList == []) && decide (0 ≤ a.n)))
theorem elem_n (a : Nd) (h : elemOk a = true) : 0 ≤ a.n ∧ (a.v = 18 ∨ a.n = 0) := by
  unfold elemOk bodyO at h
  simp only [Bool.and_eq_true] at h
  have h2 := h.2.2
  split at h2
  · rename_i hv
    simp only [Bool.and_eq_true, decide_eq_true_eq] at h2
    exact ⟨h2.2, .inl hv⟩
  · simp only [Bool.and_eq_true, decide_eq_true_eq] at h2
    exact ⟨by omega, .inr h2.2.1⟩
theorem item_n (a : Nd) (h : itemOk a = true) : 0 ≤ a.n := by
  unfold itemOk at h
  simp only [Bool.and_eq_true, decide_eq_true_eq] at h
  exact h.2.2.2

set_option maxRecDepth 100000 in
theorem element_any (w : World) (t : Nat) (ht : t < 4294967296) : Calls Tryz.prog 134 #[.int .u32 (t : Int)] w fun e w' => e = .returned (.int .u32 ((t % 65536 : Nat) : Int)) ∧ w = w' := by
  have hA : bits .and .u32 (t : Int) 65535 = ((t % 65536 : Nat) : Int) := by
    have := u32_and_nat t 65535 ht (by decide)
    rw [show ((65535 : Nat) : Int) = 65535 from rfl] at this
    rw [this, show (65535 : Nat) = 2 ^ 16 - 1 from rfl, Nat.and_two_pow_sub_one_eq_mod]
  have HA : Hid (bits .and .u32 (t : Int) 65535 = ((t % 65536 : Nat) : Int)) := hA
  clear hA
  go_enter Tryz.func134, Tryz.ntmps134
  go_wp2
  go_ret
  exact ⟨by rw [HA.out]; rfl, rfl⟩

set_option maxRecDepth 100000 in
set_option maxHeartbeats 1000000 in
theorem mayStand_any (w : World) (t : Nat) (ht : t < 4294967296) : Calls Tryz.prog 108 #[.int .u32 (t : Int)] w fun e w' => e = .returned (.bool (mayS t)) ∧ w = w' := by
  have c33 := Tb.group_any w t
  have c34 := element_any w t ht
  obtain ⟨z, hz⟩ : ∃ z, mayS t = z := ⟨_, rfl⟩
  rw [hz]
  have HZ : Hid (mayS t = z) := hz
  unfold mayS at hz
  generalize t / 65536 = g at c33 hz
  generalize t % 65536 = m at c34 hz
  by_cases h0 : g = 0
  · subst h0
    simp at hz
    subst hz
    go_enter Tryz.func108, Tryz.ntmps108
    go_wp2_with (first | (go_at_call 133; refine c33.mono ?_; rintro e w' ⟨rfl, rfl⟩) | fail)
    go_ret
    exact ⟨rfl, rfl⟩
  by_cases h2 : g = 2
  · subst h2
    simp at hz
    subst hz
    go_enter Tryz.func108, Tryz.ntmps108
    go_wp2_with (first | (go_at_call 133; refine c33.mono ?_; rintro e w' ⟨rfl, rfl⟩) | fail)
    go_ret
    exact ⟨rfl, rfl⟩
  by_cases h3 : g = 65534
  · subst h3
    simp at hz
    subst hz
    go_enter Tryz.func108, Tryz.ntmps108
    go_wp2_with (first | (go_at_call 133; refine c33.mono ?_; rintro e w' ⟨rfl, rfl⟩) | fail)
    go_ret
    exact ⟨rfl, rfl⟩
  by_cases h4 : g = 65535
  · subst h4
    simp at hz
    subst hz
    go_enter Tryz.func108, Tryz.ntmps108
    go_wp2_with (first | (go_at_call 133; refine c33.mono ?_; rintro e w' ⟨rfl, rfl⟩) | fail)
    go_ret
    exact ⟨rfl, rfl⟩
  have b0 : ((g : Int) == 0) = false := beq_eq_false_iff_ne.2 (by omega)
  have b2 : ((g : Int) == 2) = false := beq_eq_false_iff_ne.2 (by omega)
  have b3 : ((g : Int) == 65534) = false := beq_eq_false_iff_ne.2 (by omega)
  have b4 : ((g : Int) == 65535) = false := beq_eq_false_iff_ne.2 (by omega)
  have hm : ((m : Int) != 0) = z := by
    rw [← hz]
    by_cases hm0 : m = 0
    · subst hm0; simp
    · have : ((m : Int) != 0) = true := bne_iff_ne.2 (by omega)
      rw [this]
      simp [h0, h2, h3, h4, hm0]
  have HM : Hid (((m : Int) != 0) = z) := hm
  clear hz hm h0 h2 h3 h4 HZ
  go_enter Tryz.func108, Tryz.ntmps108
  go_wp2_with (first | (go_at_call 133; refine c33.mono ?_; rintro e w' ⟨rfl, rfl⟩) | (go_at_call 134; refine c34.mono ?_; rintro e w' ⟨rfl, rfl⟩))
  go_ret
  exact ⟨by rw [HM.out]; rfl, rfl⟩

set_option maxRecDepth 100000 in
theorem wants_any (w : World) (a : Option Addr) (n c : Nat) (z : Bool) (hz : decide (n % 2 = 0) = z) : Calls Tryz.prog 97 #[.slice a n c] w fun e w' => e = .returned (.bool z) ∧ w = w' := by
  have HZ : Hid ((((n : Int) % 2) == 0) = z) := by
    show _ = _
    rw [← hz]
    by_cases h : n % 2 = 0
    · rw [show decide (n % 2 = 0) = true by simp [h]]; exact beq_iff_eq.2 (by omega)
    · rw [show decide (n % 2 = 0) = false by simp [h]]; exact beq_eq_false_iff_ne.2 (by omega)
  clear hz
  go_enter Tryz.func97, Tryz.ntmps97
  go_wp2
  go_ret
  exact ⟨by rw [HZ.out]; rfl, rfl⟩

set_option maxRecDepth 100000 in
set_option maxHeartbeats 1000000 in
theorem isItem_any (w : World) (a : Nd) : Calls Tryz.prog 98 #[.agg #[.int .u32 a.t, .int .i64 a.v, .int .i64 a.n, .string a.s]] w fun e w' => e = .returned (.bool (itemOk a)) ∧ Below w.heap.size w w' := by
  obtain ⟨t, v, n, s⟩ := a
  unfold itemOk
  simp only
  by_cases h1 : t = 4294893568
  · subst h1
    by_cases h2 : v = 29
    · subst h2
      obtain ⟨z, hz⟩ : ∃ z, (s.toList == []) = z := ⟨_, rfl⟩
      rw [hz]
      cases z with
      | true =>
        by_cases h3 : 0 ≤ n
        · go_enter Tryz.func98, Tryz.ntmps98
          go_wp2
          go_ret
          exact ⟨by simp [h3], (Below.refl _ _).alloc (Nat.le_refl _) _⟩
        · go_enter Tryz.func98, Tryz.ntmps98
          go_wp2
          go_ret
          exact ⟨by simp [h3], (Below.refl _ _).alloc (Nat.le_refl _) _⟩
      | false =>
        go_enter Tryz.func98, Tryz.ntmps98
        go_wp2
        go_ret
        exact ⟨by simp, (Below.refl _ _).alloc (Nat.le_refl _) _⟩
    · have b2 : (v == 29) = false := beq_eq_false_iff_ne.2 h2
      go_enter Tryz.func98, Tryz.ntmps98
      go_wp2
      go_ret
      exact ⟨by simp [h2], (Below.refl _ _).alloc (Nat.le_refl _) _⟩
  · have b1 : (t == 4294893568) = false := beq_eq_false_iff_ne.2 h1
    go_enter Tryz.func98, Tryz.ntmps98
    go_wp2
    go_ret
    exact ⟨by simp [h1], (Below.refl _ _).alloc (Nat.le_refl _) _⟩

set_option maxRecDepth 100000 in
set_option maxHeartbeats 1000000 in
theorem unpadded_any (w : World) (nm : ByteArray) (pd un mo : Int) (tx ch mu lo : Bool) (cf ff : Value) (hcf : Rp.FunV cf) (hff : Rp.FunV ff) (s : ByteArray) (hs : s.size ≤ 65534) :
    Calls Tryz.prog 110 #[.agg #[.string nm, .int .u8 pd, .int .i64 un, .int .i64 mo, .bool tx, .bool ch, .bool mu, .bool lo, cf, ff], .string s] w fun e w' => e = .returned (.bool (unp tx s)) ∧ Below w.heap.size w w' := by
  have c39 := fun W => Rp.trimmed_any s W (by omega)
  unfold unp
  cases tx with
  | true =>
    rw [if_pos rfl]
    generalize Rp.trimB s = q at c39 ⊢
    rcases hcf with rfl | ⟨j, rfl⟩ <;> rcases hff with rfl | ⟨j2, rfl⟩
    all_goals go_enter Tryz.func110, Tryz.ntmps110
    all_goals go_wp2_with (first | (go_at_call 85; refine (c39 _).mono ?_; rintro e W1 ⟨rfl, hb⟩) | fail)
    all_goals go_ret
    all_goals exact ⟨rfl, ((Below.refl _ _).alloc (Nat.le_refl _) _).trans (hb.mono (by simp))⟩
  | false =>
    rw [if_neg (by decide)]
    have hm : (((s.size : Int) % 2) == 0) = decide (s.size % 2 = 0) := by
      by_cases h : s.size % 2 = 0
      · rw [show decide (s.size % 2 = 0) = true by simp [h]]; exact beq_iff_eq.2 (by omega)
      · rw [show decide (s.size % 2 = 0) = false by simp [h]]; exact beq_eq_false_iff_ne.2 (by omega)
    have HM : Hid ((((s.size : Int) % 2) == 0) = decide (s.size % 2 = 0)) := hm
    generalize decide (s.size % 2 = 0) = z at HM ⊢
    clear hm
    rcases hcf with rfl | ⟨j, rfl⟩ <;> rcases hff with rfl | ⟨j2, rfl⟩
    all_goals go_enter Tryz.func110, Tryz.ntmps110
    all_goals go_wp2
    all_goals go_ret
    all_goals exact ⟨by rw [HM.out]; rfl, (Below.refl _ _).alloc (Nat.le_refl _) _⟩
end Go.Proofs.YtfoodjhffehgpaaGreatDoor
end

section
/-
  DERIVED. Bytes laid down behind others; numbers, tags, heads: plain functions, by the two syntaxes.
-/
namespace Go.Proofs.YtfoodjhffehgpaaGreatDoor
open Go Go.Proofs Go.RowKit
open Wk (Nd NV goN)

/-- A VR's letters. -/
def ltr (v : Int) : List UInt8 := (Rp.nm (Rp.vn v)).data.toList
/-- A head with letters. -/
def exL (t : Nat) (v : Int) (n : Nat) : List UInt8 := tagL t ++ ltr v ++ (if Rp.lo (Rp.vn v) = true then [0, 0] ++ le 4 n else le 2 n)
/-- A value, padded. -/
def pvL (v : Int) (s : ByteArray) : List UInt8 := (Rp.padB (Rp.pd (Rp.vn v)) s).data.toList
/-- Implicit. -/
def encI : Enc where
  hd a n := plL a.t.toNat n
  ih n := plL 4294893568 n
  pv a := pvL a.v a.s
  und a := decide (a.v = 18) && !(fnd a).isSome
  hs _ := 8
  em := plL 4294893789 0
/-- Explicit. -/
def encE : Enc where
  hd a n := if a.v = 29 then plL a.t.toNat n else exL a.t.toNat a.v n
  ih n := plL 4294893568 n
  pv a := pvL a.v a.s
  und _ := false
  hs a := if Rp.lo (Rp.vn a.v) = true then 12 else 8
  em := plL 4294893789 0
/-- By the number of the syntax. -/
def encOf (x : Bool) : Enc := if x = true then encE else encI

theorem nm_two : ∀ k : Fin 29, k.val = 0 ∨ (Rp.nm k.val).data.toList.length = 2 := by decide +kernel
theorem ltr_len {v : Int} (h : 1 ≤ v ∧ v ≤ 28) : (ltr v).length = 2 := by
  refine (nm_two ⟨Rp.vn v, Rp.vn_lt v⟩).resolve_left ?_
  show ¬ Rp.vn v = 0
  unfold Rp.vn
  rw [if_pos h]
  omega
theorem exL_len {v : Int} (h : 1 ≤ v ∧ v ≤ 28) (t n : Nat) : (exL t v n).length = if Rp.lo (Rp.vn v) = true then 12 else 8 := by
  rw [exL, List.length_append, List.length_append, tagL_len, ltr_len h]
  split
  · rw [List.length_append, le_len]; rfl
  · rw [le_len]
theorem pad_len (p : Int) (s : ByteArray) : (Rp.padB p s).size = s.size + s.size % 2 := by
  unfold Rp.padB
  split
  · omega
  · rw [ByteArray.size_append]
    split <;> (show s.size + 1 = _; omega)
theorem pvL_len (v : Int) (s : ByteArray) : (pvL v s).length = s.size + s.size % 2 := by
  rw [← pad_len (Rp.pd (Rp.vn v)) s, pvL, Array.length_toList]
  rfl
theorem toList_nil {s : ByteArray} (h : (s.toList == []) = true) : s.size = 0 := by
  rw [ByteArray.toList_eq] at h
  have h2 : s.data.toList = [] := by simpa using h
  show s.data.size = 0
  rw [← Array.length_toList, h2]
  rfl
theorem pvL_nil (v : Int) {s : ByteArray} (h : s.size = 0) : pvL v s = [] := List.length_eq_zero_iff.1 (by rw [pvL_len, h])
theorem elem_sq {a : Nd} (h : elemOk a = true) (hv : a.v = 18) : a.s.size = 0 := by
  unfold elemOk bodyO at h
  simp only [Bool.and_eq_true] at h
  have h2 := h.2.2
  rw [if_pos hv] at h2
  simp only [Bool.and_eq_true] at h2
  exact toList_nil h2.1
theorem elem_vr {a : Nd} (h : elemOk a = true) : 1 ≤ a.v ∧ a.v ≤ 28 ∧ a.s.size ≤ 65534 := by
  by_cases hv : a.v = 18
  · have := elem_sq h hv
    exact ⟨by omega, by omega, by omega⟩
  · unfold elemOk bodyO at h
    simp only [Bool.and_eq_true] at h
    have h2 := h.2.2
    rw [if_neg hv] at h2
    simp only [Bool.and_eq_true, decide_eq_true_eq] at h2
    exact ⟨h2.1.1, h2.1.2, h2.2.2.1⟩
theorem item_all {a : Nd} (h : itemOk a = true) : a.t = 4294893568 ∧ a.v = 29 ∧ a.s.size = 0 := by
  unfold itemOk at h
  simp only [Bool.and_eq_true, decide_eq_true_eq] at h
  exact ⟨h.1, h.2.1, toList_nil (by simpa using h.2.2.1)⟩
theorem fitI : encI.Fit elemOk itemOk where
  el a h hv := ⟨(elem_n a h).2.resolve_left hv, by show (decide (a.v = 18) && _) = false; rw [decide_eq_false hv]; rfl⟩
  sq a h hv := pvL_nil _ (elem_sq h hv)
  it a h := by
    obtain ⟨h1, h2, h3⟩ := item_all h
    refine ⟨pvL_nil _ h3, ?_, rfl, fun n => ?_⟩
    · show (decide (a.v = 18) && _) = false
      rw [h2]; rfl
    · show plL a.t.toNat n = _
      rw [h1]; rfl
theorem fitE : encE.Fit elemOk itemOk where
  el a h hv := ⟨(elem_n a h).2.resolve_left hv, rfl⟩
  sq a h hv := pvL_nil _ (elem_sq h hv)
  it a h := by
    obtain ⟨h1, h2, h3⟩ := item_all h
    refine ⟨pvL_nil _ h3, rfl, ?_, fun n => ?_⟩
    · show (if Rp.lo (Rp.vn a.v) = true then 12 else 8) = 8
      rw [h2]; rfl
    · show (if a.v = 29 then plL a.t.toNat n else exL a.t.toNat a.v n) = _
      rw [if_pos h2, h1]; rfl
theorem fitX (x : Bool) : (encOf x).Fit elemOk itemOk := by cases x; exact fitI; exact fitE
theorem encOf_pv (x : Bool) (a : Nd) : (encOf x).pv a = pvL a.v a.s := by cases x <;> rfl
theorem encOf_em (x : Bool) : (encOf x).em = plL 4294893789 0 := by cases x <;> rfl

/-- Nodes that may be laid down. -/
def Good (L : List Nd) : Prop := ∀ a ∈ L, (a.v = 29 ∨ (1 ≤ a.v ∧ a.v ≤ 28)) ∧ a.s.size ≤ 65534 ∧ 0 ≤ a.n
theorem Good.take {L : List Nd} (h : Good L) (k : Nat) : Good (L.take k) := fun a ha => h a (List.mem_of_mem_take ha)
theorem Good.drop {L : List Nd} (h : Good L) (k : Nat) : Good (L.drop k) := fun a ha => h a (List.mem_of_mem_drop ha)
theorem wf_good : ∀ (f : Nat) (b : Bool) (L : List Nd), wf elemOk itemOk f b L → Good L
  | 0, b, L, h => by obtain rfl : L = [] := h; intro a ha; cases ha
  | f + 1, b, [], _ => fun a ha => nomatch ha
  | f + 1, b, a :: r, h => by
    obtain ⟨h1, h2, h3⟩ := h
    have ih1 := wf_good f _ _ h2
    have ih2 := wf_good f _ _ h3
    intro x hx
    rcases List.mem_cons.1 hx with rfl | hx
    · cases b with
      | true =>
        have h4 : itemOk x = true := by simpa using h1
        obtain ⟨-, h6, h7⟩ := item_all h4
        exact ⟨.inl h6, by omega, item_n x h4⟩
      | false =>
        have h4 : elemOk x = true := by simpa using h1
        obtain ⟨h5, h6, h7⟩ := elem_vr h4
        exact ⟨.inr ⟨h5, h6⟩, h7, (elem_n x h4).1⟩
    · rw [← List.take_append_drop (goN r a.n.toNat) r] at hx
      rcases List.mem_append.1 hx with hx | hx
      · exact ih1 x hx
      · exact ih2 x hx
theorem hd_len (x : Bool) {a : Nd} (h : a.v = 29 ∨ (1 ≤ a.v ∧ a.v ≤ 28)) (n : Nat) : ((encOf x).hd a n).length = (encOf x).hs a := by
  cases x with
  | false => exact plL_len _ _
  | true =>
    show (if a.v = 29 then plL a.t.toNat n else exL a.t.toNat a.v n).length = if Rp.lo (Rp.vn a.v) = true then 12 else 8
    by_cases h29 : a.v = 29
    · rw [if_pos h29, plL_len, h29]; rfl
    · rw [if_neg h29, exL_len (h.resolve_left h29)]
theorem wr_len (x : Bool) : ∀ (f : Nat) (M : List Nd), M.length ≤ f → Good M → ((encOf x).wrP f M).length = (encOf x).szP M
  | 0, M, hf, _ => by
    obtain rfl : M = [] := List.length_eq_zero_iff.1 (by omega)
    rfl
  | f + 1, [], _, _ => rfl
  | f + 1, a :: r, hf, hg => by
    obtain ⟨h1, h2⟩ := cut_len r a.n.toNat
    simp only [List.length_cons] at hf
    have hr : Good r := fun y hy => hg y (List.mem_cons_of_mem _ hy)
    have e1 := wr_len x f (r.take (goN r a.n.toNat)) (by omega) (hr.take _)
    have e2 := wr_len x f (r.drop (goN r a.n.toNat)) (by omega) (hr.drop _)
    have hc := (encOf x).szP_cut r (goN r a.n.toNat)
    rw [Enc.wrP, Enc.szP, Enc.sz1]
    simp only [List.length_append, hd_len x (hg a List.mem_cons_self).1, e1, e2]
    split <;> simp [encOf_em, plL_len] <;> omega

end Go.Proofs.YtfoodjhffehgpaaGreatDoor
end
