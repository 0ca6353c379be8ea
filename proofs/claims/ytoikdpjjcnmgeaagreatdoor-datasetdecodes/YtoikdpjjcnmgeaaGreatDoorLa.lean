import Derived.Test.YtoikdpjjcnmgeaaGreatDoorRE
import Derived.Shelf.Strings.SlTrimAscii
import Derived.Test.YtoikdpjjcnmgeaaGreatDoorRF
import Derived.Test.YtoikdpjjcnmgeaaGreatDoorWA
section
namespace Go.Proofs.YtoikdpjjcnmgeaaGreatDoor.Rp
open Go Go.Proofs Go.RowKit Go.Shelf Go.Lib

/-- What the shelf's names are here. -/
def trimRen : Go.Shelf.Ren := ⟨fun | 162 => 119 | 232 => 134 | 227 => 135 | 234 => 136 | 236 => 137 | 228 => 167 | 271 => 168 | 151 => 169 | 120 => 188 | 197 => 189 | 152 => 190 | 260 => 202 | 137 => 203 | 119 => 204 | 224 => 205 | 225 => 206 | 217 => 218 | 266 => 226 | n => n, fun | 9 => 9 | 4 => 4 | 3 => 3 | 5 => 5 | 117 => 220 | 116 => 219 | 0 => 0 | 124 => 223 | 21 => 21 | 105 => 225 | 46 => 129 | 119 => 255 | 139 => 258 | 138 => 257 | n => n, fun | 3 => 2 | 4 => 3 | n => n⟩

/-- strings.TrimRight lies here as the shelf has it. -/
theorem trimLays : Go.Proofs.Lays.n162 Tryz.prog trimRen := {
  mixed := by kernel_rfl,
  f119 := Tryz.func204.trans (congrArg some (by kernel_rfl)),
  f120 := Tryz.func188.trans (congrArg some (by kernel_rfl)),
  f137 := Tryz.func203.trans (congrArg some (by kernel_rfl)),
  f151 := Tryz.func169.trans (congrArg some (by kernel_rfl)),
  f152 := Tryz.func190.trans (congrArg some (by kernel_rfl)),
  f162 := Tryz.func119.trans (congrArg some (by kernel_rfl)),
  f197 := Tryz.func189.trans (congrArg some (by kernel_rfl)),
  f217 := Tryz.func218.trans (congrArg some (by kernel_rfl)),
  f224 := Tryz.func205.trans (congrArg some (by kernel_rfl)),
  f225 := Tryz.func206.trans (congrArg some (by kernel_rfl)),
  f227 := Tryz.func135.trans (congrArg some (by kernel_rfl)),
  f228 := Tryz.func167.trans (congrArg some (by kernel_rfl)),
  f232 := Tryz.func134.trans (congrArg some (by kernel_rfl)),
  f234 := Tryz.func136.trans (congrArg some (by kernel_rfl)),
  f236 := Tryz.func137.trans (congrArg some (by kernel_rfl)),
  f260 := Tryz.func202.trans (congrArg some (by kernel_rfl)),
  f266 := Tryz.func226.trans (congrArg some (by kernel_rfl)),
  f271 := Tryz.func168.trans (congrArg some (by kernel_rfl)),
  t0 := Tryz.underlying0,
  a0 := Tryz.isAgg0,
  z0 := Tryz.sizeOf0,
  v0 := Tryz.zeroValue0,
  t3 := Tryz.underlying3,
  a3 := Tryz.isAgg3,
  z3 := Tryz.sizeOf3,
  v3 := Tryz.zeroValue3,
  t4 := Tryz.underlying4,
  a4 := Tryz.isAgg4,
  z4 := Tryz.sizeOf4,
  v4 := Tryz.zeroValue4,
  t5 := Tryz.underlying5,
  a5 := Tryz.isAgg5,
  z5 := Tryz.sizeOf5,
  v5 := Tryz.zeroValue5,
  t9 := Tryz.underlying9,
  a9 := Tryz.isAgg9,
  z9 := Tryz.sizeOf9,
  v9 := Tryz.zeroValue9,
  t21 := Tryz.underlying21,
  a21 := Tryz.isAgg21,
  z21 := Tryz.sizeOf21,
  v21 := Tryz.zeroValue21,
  t46 := Tryz.underlying129,
  a46 := Tryz.isAgg129,
  z46 := Tryz.sizeOf129,
  v46 := Tryz.zeroValue129,
  t105 := Tryz.underlying225,
  a105 := Tryz.isAgg225,
  z105 := Tryz.sizeOf225,
  v105 := Tryz.zeroValue225,
  t116 := Tryz.underlying219,
  a116 := Tryz.isAgg219,
  z116 := Tryz.sizeOf219,
  t117 := Tryz.underlying220,
  a117 := Tryz.isAgg220,
  z117 := Tryz.sizeOf220,
  v117 := Tryz.zeroValue220,
  t119 := Tryz.underlying255,
  a119 := Tryz.isAgg255,
  z119 := Tryz.sizeOf255,
  t124 := Tryz.underlying223,
  a124 := Tryz.isAgg223,
  z124 := Tryz.sizeOf223,
  v124 := Tryz.zeroValue223,
  t138 := Tryz.underlying257,
  a138 := Tryz.isAgg257,
  z138 := Tryz.sizeOf257,
  v138 := Tryz.zeroValue257,
  t139 := Tryz.underlying258,
  a139 := Tryz.isAgg258,
  z139 := Tryz.sizeOf258,
  v139 := Tryz.zeroValue258,
  g3 := by kernel_rfl,
  g4 := by kernel_rfl }

/-- How many bytes are left, spaces and zeros at the end taken away. -/
def trimN (L : List UInt8) : Nat → Nat
  | 0 => 0
  | n + 1 => if L.getD n 1 = 32 ∨ L.getD n 1 = 0 then trimN L n else n + 1

theorem trimN_le (L : List UInt8) : ∀ n, trimN L n ≤ n
  | 0 => Nat.le_refl _
  | n + 1 => by
    rw [trimN]
    split
    · have := trimN_le L n; omega
    · exact Nat.le_refl _

theorem trim_take (L : List UInt8) : ∀ n, n ≤ L.length → ((L.take n).reverse.dropWhile ([32, 0].contains ·)).reverse = L.take (trimN L n)
  | 0, _ => rfl
  | n + 1, h => by
    have e : L.take (n + 1) = L.take n ++ [L.getD n 1] := by
      rw [List.take_add_one]
      simp [List.getElem?_eq_getElem (show n < L.length by omega), List.getD_eq_getElem?_getD]
    rw [trimN]
    by_cases hc : L.getD n 1 = 32 ∨ L.getD n 1 = 0
    · rw [if_pos hc, e, List.reverse_append, List.reverse_singleton, List.singleton_append, List.dropWhile_cons_of_pos, trim_take L n (by omega)]
      simpa using hc
    · rw [if_neg hc, e, List.reverse_append, List.reverse_singleton, List.singleton_append, List.dropWhile_cons_of_neg]
      · simp
      · simpa using hc

/-- A text without the spaces and zeros at its end. -/
def trimB (s : ByteArray) : ByteArray := s.extract 0 (trimN s.data.toList s.size)

theorem extract_list (s : ByteArray) (n : Nat) : (s.extract 0 n).data.toList = s.data.toList.take n := by
  simp [ByteArray.data_extract]

theorem trimB_eq (s : ByteArray) : (⟨(Lib.trimRightS s.data.toList [32, 0]).toArray⟩ : ByteArray) = trimB s := by
  have h := trim_take s.data.toList s.data.toList.length (Nat.le_refl _)
  rw [List.take_length] at h
  unfold trimB
  apply ByteArray.ext
  apply Array.ext'
  rw [extract_list]
  exact h

set_option maxHeartbeats 1000000 in
theorem trimmed_any (s : ByteArray) (w : World) (hs : s.size ≤ 140737488351232) : Calls Tryz.prog 80 #[.string s] w fun e w' => e = .returned (.string (trimB s)) ∧ Below w.heap.size w w' := by
  have hcon := Any.strings_TrimRight_laid trimLays (by kernel_rfl) s ⟨#[32, 0]⟩ w (by omega) (by decide) (ascii_of_all (by decide))
  change Calls Tryz.prog 119 _ _ (fun e w' => e = .returned (.string ⟨(Lib.trimRightS s.data.toList [32, 0]).toArray⟩) ∧ Below w.heap.size w w') at hcon
  rw [trimB_eq] at hcon
  go_enter Tryz.func80, Tryz.ntmps80
  go_wp2_with (go_at_call 119; refine hcon.mono ?_; rintro e w' ⟨rfl, hB⟩)
  go_ret
  exact ⟨rfl, hB⟩
end Go.Proofs.YtoikdpjjcnmgeaaGreatDoor.Rp
end

section
/-
  DERIVED. The program's padding.
-/
namespace Go.Proofs.YtoikdpjjcnmgeaaGreatDoor.Rp
open Go Go.Proofs Go.RowKit

theorem pd_two : ∀ k : Fin 29, pd k.val = 32 ∨ pd k.val = 0 := by decide +kernel

/-- A text, padded. -/
def padB (p : Int) (s : ByteArray) : ByteArray := if s.size % 2 = 0 then s else s ++ (if p = 32 then ⟨#[32]⟩ else ⟨#[0]⟩)

set_option maxRecDepth 100000 in
theorem pad_any (w : World) (v : Int) (s : ByteArray) (hs : s.size ≤ 140737488351232) : Calls Tryz.prog 49 #[.int .i64 v, .string s] w fun e w' => e = .returned (.string (padB (pd (vn v)) s)) ∧ Below w.heap.size w w' := by
  obtain ⟨cf, ff, hcf, hff, c⟩ := repOf_open w v
  have hp2 := pd_two ⟨vn v, vn_lt v⟩
  simp only at hp2
  generalize nm (vn v) = n at c
  generalize pd (vn v) = p at c hp2 ⊢
  generalize un (vn v) = u at c
  generalize mo (vn v) = m at c
  generalize tx (vn v) = t at c
  generalize ch (vn v) = c' at c
  generalize mu (vn v) = q at c
  generalize lo (vn v) = l at c
  generalize decide (1 ≤ v ∧ v ≤ 28) = b at c
  by_cases he : s.size % 2 = 0
  · have hP : padB p s = s := by unfold padB; rw [if_pos he]
    rw [hP]
    have hi : ((s.size : Int) % 2 == 0) = true := by simp; omega
    go_enter Tryz.func49, Tryz.ntmps49
    go_wp2
    go_ret
    exact ⟨rfl, Below.refl _ _⟩
  · have hP : padB p s = s ++ (if p = 32 then ⟨#[32]⟩ else ⟨#[0]⟩) := by unfold padB; rw [if_neg he]
    rw [hP]
    have hi : ((s.size : Int) % 2 == 0) = false := by simp; omega
    have e32 : Utf8.encode 32 = ⟨#[32]⟩ := by kernel_rfl
    have e0 : Utf8.encode 0 = ⟨#[0]⟩ := by kernel_rfl
    have hz : (⟨#[32]⟩ : ByteArray).size = 1 := rfl
    have hz0 : (⟨#[0]⟩ : ByteArray).size = 1 := rfl
    clear hP
    rcases hp2 with rfl | rfl <;> rcases hcf with rfl | ⟨j, rfl⟩ <;> rcases hff with rfl | ⟨j2, rfl⟩
    all_goals go_enter Tryz.func49, Tryz.ntmps49
    all_goals go_wp2_with (first | (go_at_call 81; refine c.mono ?_; rintro e W1 ⟨rfl, hb⟩) | fail)
    all_goals go_ret
    all_goals exact ⟨rfl, hb.alloc hb.size _⟩
end Go.Proofs.YtoikdpjjcnmgeaaGreatDoor.Rp
end

section
/-
  DERIVED. The document's lines against the program's rows; the document's padding.
-/
namespace Go.Proofs.YtoikdpjjcnmgeaaGreatDoor.Rp
open Go Go.Proofs Go.RowKit

/-- Whether one of a line's words from the fourth on is a mark. -/
def fd (S : ByteArray) (c : UInt8) : Bool := (wd S 4).data.toList == [c] || (wd S 5).data.toList == [c] || (wd S 6).data.toList == [c] || (wd S 7).data.toList == [c]

theorem fd_fl (S : ByteArray) (c : UInt8) : fl S c 4 = fd S c := by
  simp only [fl, fd, ByteArray.toList_eq, Bool.false_or]

/-- A line says what the program's row says. -/
def okS (S : ByteArray) (k : Nat) : Bool :=
  decide (2 ≤ S.size) && (decide (S.size ≤ 100) && (decide ((wd S 2).size ≤ 9) && ((bts (wd S 2)).all (fun x => decide (48 ≤ x) && decide (x ≤ 57)) && (decide ((wd S 3).size ≤ 9) && ((bts (wd S 3)).all (fun x => decide (48 ≤ x) && decide (x ≤ 57)) &&
  (decide ((S.extract 0 2).data.toList = (nm k).data.toList) && (decide ((if (wd S 1).data.toList == [115] then (32 : Int) else 0) = pd k) && (decide (((decL (bts (wd S 2)) : Nat) : Int) = un k) && (decide (((decL (bts (wd S 3)) : Nat) : Int) = mo k) &&
  ((fd S 84 == tx k) && ((fd S 67 == ch k) && ((fd S 77 == mu k) && (fd S 76 == lo k)))))))))))))

theorem all_ok : ∀ k : Fin 29, k.val = 0 ∨ okS (lineB (k.val : Int)) k.val = true := by decide +kernel

set_option maxRecDepth 100000 in
/-- What the document tells of a VR. -/
theorem rabout_any (w : World) (v : Int) : Calls Tryz.prog 105 #[.int .i64 v] w fun e w' => e = .returned (.tuple #[infoV (vn v), .bool (decide (1 ≤ v ∧ v ≤ 28))]) ∧ Below w.heap.size w w' := by
  by_cases hv : 1 ≤ v ∧ v ≤ 28
  · have hvn : ((vn v : Nat) : Int) = v := by unfold vn; rw [if_pos hv]; omega
    have hok := (all_ok ⟨vn v, vn_lt v⟩).resolve_left (by simp only; omega)
    simp only at hok
    rw [hvn] at hok
    have hdec : decide (1 ≤ v ∧ v ≤ 28) = true := by simp; omega
    rw [hdec]
    obtain ⟨S, hS⟩ : ∃ S, lineB v = S := ⟨_, rfl⟩
    have c33 := fun W => rep_any W v
    rw [hS] at hok c33
    unfold okS at hok
    simp only [Bool.and_eq_true, decide_eq_true_eq, List.all_eq_true, beq_iff_eq] at hok
    obtain ⟨h1, h2, h3, h4, h5, h6, h7, h8, h9, h10, h11, h12, h13, h14⟩ := hok
    have e0 : S.extract 0 2 = nm (vn v) := ByteArray.ext (Array.ext' h7)
    obtain ⟨WF, hWF0⟩ : ∃ WF : Int → ByteArray, ∀ i, WF i = wd S i.toNat := ⟨fun i => wd S i.toNat, fun _ => rfl⟩
    have hWF : ∀ j : Nat, WF (j : Int) = wd S j := fun j => by rw [hWF0]; simp
    have w1 : WF 1 = wd S 1 := hWF 1
    have w2 : WF 2 = wd S 2 := hWF 2
    have w3 : WF 3 = wd S 3 := hWF 3
    have hne : (S.toList == []) = false := by
      rw [ByteArray.toList_eq]
      cases hd : S.data.toList with
      | nil =>
        have : S.size = 0 := by
          show S.data.size = 0
          rw [← Array.length_toList, hd]
          rfl
        omega
      | cons a l => rfl
    have cw : ∀ (i : Int) W, 0 ≤ i ∧ i ≤ 100 → Calls Tryz.prog 72 #[.string S, .int .i64 i] W fun e w' => e = .returned (.string (WF i)) ∧ W = w' := by
      intro i W hi
      have := word_any W S i.toNat (by omega) (by omega)
      rw [show ((i.toNat : Nat) : Int) = i by omega] at this
      rw [hWF0]
      exact this
    have hp : (((WF 1).toList == [115]) = true ∧ pd (vn v) = 32) ∨ (((WF 1).toList == [115]) = false ∧ pd (vn v) = 0) := by
      rw [w1, ByteArray.toList_eq, ← h8]
      by_cases hb : (wd S 1).data.toList = [115]
      · exact .inl ⟨by rw [hb]; rfl, by rw [if_pos hb]⟩
      · exact .inr ⟨beq_eq_false_iff_ne.2 hb, by rw [if_neg hb]⟩
    have cd : ∀ (A : ByteArray) W, A = WF 2 ∨ A = WF 3 → Calls Tryz.prog 111 #[.string A] W fun e w' => e = .returned (.int .i64 (decL (bts A) : Nat)) ∧ W = w' := by
      intro A W hA
      refine dec_any W A ?_ ?_
      · rcases hA with hA | hA
        · rw [hA, w2]; exact h3
        · rw [hA, w3]; exact h5
      · rcases hA with hA | hA
        · rw [hA, w2]; exact fun x hx => h4 x hx
        · rw [hA, w3]; exact fun x hx => h6 x hx
    have c := rabout_line w v S WF c33 (by omega) hne cw (pd (vn v)) hp cd
    rw [flW_fl hWF, flW_fl hWF, flW_fl hWF, flW_fl hWF, fd_fl, fd_fl, fd_fl, fd_fl, e0, h11, h12, h13, h14, w2, w3, h9, h10] at c
    exact c
  · have hdec : decide (1 ≤ v ∧ v ≤ 28) = false := by simp; omega
    have hvn : vn v = 0 := by unfold vn; rw [if_neg hv]
    have hL : lineB v = ⟨#[]⟩ := by unfold lineB; rw [if_neg hv]
    rw [hdec, hvn, show infoV 0 = .agg #[.string ⟨#[]⟩, .int .u8 0, .int .i64 0, .int .i64 0, .bool false, .bool false, .bool false, .bool false] from rfl]
    have c33 := fun W => rep_any W v
    rw [hL] at c33
    clear hdec hvn hL
    go_enter Tryz.func105, Tryz.ntmps105
    go_wp2_with (first | (go_at_call 127; refine (c33 _).mono ?_; rintro e w' ⟨rfl, rfl⟩) | fail)
    exact bodyPost_ret (by simp only [results, Tryz.results105]; simp [go_sem]) rfl ⟨rfl, (Below.refl _ _).alloc (Nat.le_refl _) _⟩
end Go.Proofs.YtoikdpjjcnmgeaaGreatDoor.Rp
end

section
/-
  DERIVED. The document's padding; the law.
-/
namespace Go.Proofs.YtoikdpjjcnmgeaaGreatDoor.Rp
open Go Go.Proofs Go.RowKit

theorem rabout_open (w : World) (v : Int) : Calls Tryz.prog 105 #[.int .i64 v] w fun e w' => e = .returned (.tuple #[.agg #[.string (nm (vn v)), .int .u8 (pd (vn v)), .int .i64 (un (vn v)), .int .i64 (mo (vn v)), .bool (tx (vn v)), .bool (ch (vn v)), .bool (mu (vn v)), .bool (lo (vn v))], .bool (decide (1 ≤ v ∧ v ≤ 28))]) ∧ Below w.heap.size w w' := rabout_any w v

theorem get_list (s : ByteArray) (k : Nat) (h : k < s.size) : s[k] = s.data.toList.getD k 1 := by
  have h2 : k < s.data.size := h
  show s.data[k] = _
  simp [List.getD_eq_getElem?_getD, Array.getElem?_eq_getElem h2]

set_option maxRecDepth 100000 in
theorem rpad_any (w : World) (v : Int) (s : ByteArray) (hs : s.size ≤ 140737488351232) : Calls Tryz.prog 87 #[.int .i64 v, .string s] w fun e w' => e = .returned (.string (padB (pd (vn v)) s)) ∧ Below w.heap.size w w' := by
  have c := rabout_open w v
  have hp2 := pd_two ⟨vn v, vn_lt v⟩
  simp only at hp2
  generalize nm (vn v) = n at c
  generalize pd (vn v) = p at c hp2 ⊢
  generalize un (vn v) = u at c
  generalize mo (vn v) = m at c
  generalize tx (vn v) = t at c
  generalize ch (vn v) = c' at c
  generalize mu (vn v) = q at c
  generalize lo (vn v) = l at c
  generalize decide (1 ≤ v ∧ v ≤ 28) = b at c
  by_cases he : s.size % 2 = 0
  · have hP : padB p s = s := by unfold padB; rw [if_pos he]
    rw [hP]
    have hi : ((s.size : Int) % 2 == 0) = true := by simp; omega
    go_enter Tryz.func87, Tryz.ntmps87
    go_wp2
    go_ret
    exact ⟨rfl, Below.refl _ _⟩
  · have hP : padB p s = s ++ (if p = 32 then ⟨#[32]⟩ else ⟨#[0]⟩) := by unfold padB; rw [if_neg he]
    rw [hP]
    have hi : ((s.size : Int) % 2 == 0) = false := by simp; omega
    have hz : (⟨#[32]⟩ : ByteArray).size = 1 := rfl
    have hz0 : (⟨#[0]⟩ : ByteArray).size = 1 := rfl
    clear hP
    rcases hp2 with rfl | rfl
    all_goals go_enter Tryz.func87, Tryz.ntmps87
    all_goals go_wp2_with (first | (go_at_call 105; refine c.mono ?_; rintro e W1 ⟨rfl, hb⟩) | fail)
    all_goals go_ret
    all_goals exact ⟨rfl, hb.alloc hb.size _⟩

set_option maxRecDepth 100000 in
theorem rtrim_any (w : World) (v : Int) (s : ByteArray) (hs : s.size ≤ 140737488351232) : Calls Tryz.prog 107 #[.int .i64 v, .string s] w fun e w' => e = .returned (.string (if tx (vn v) then trimB s else s)) ∧ Below w.heap.size w w' := by
  have c := rabout_open w v
  generalize nm (vn v) = n at c
  generalize pd (vn v) = p at c
  generalize un (vn v) = u at c
  generalize mo (vn v) = m at c
  generalize tx (vn v) = t at c ⊢
  generalize ch (vn v) = c' at c
  generalize mu (vn v) = q at c
  generalize lo (vn v) = l at c
  generalize decide (1 ≤ v ∧ v ≤ 28) = b at c
  obtain ⟨R, hR⟩ : ∃ R, trimN s.data.toList s.size = R := ⟨_, rfl⟩
  have HT : Hid (trimB s = s.extract 0 R) := by show _ = _; rw [← hR]; rfl
  have HR : Hid (trimN s.data.toList s.size = R) := hR
  clear hR
  cases t with
  | false =>
    go_enter Tryz.func107, Tryz.ntmps107
    go_wp2_with (first | (go_at_call 105; refine c.mono ?_; rintro e W1 ⟨rfl, hb⟩) | fail)
    go_loop [7] (fun x => x = .int .i64 (s.size : Nat)) (fun x => 0)
    case atStart => rfl
    case round =>
      obtain rfl := hrel
      go_wp2
      go_ret
      exact ⟨rfl, hb.alloc hb.size _⟩
  | true =>
    go_enter Tryz.func107, Tryz.ntmps107
    go_wp2_with (first | (go_at_call 105; refine c.mono ?_; rintro e W1 ⟨rfl, hb⟩) | fail)
    go_loop [7] (fun x => ∃ k : Nat, x = .int .i64 k ∧ k ≤ s.size ∧ Hid (trimN s.data.toList k = R)) (fun x => (intOf x).toNat)
    case atStart => exact ⟨s.size, rfl, Nat.le_refl _, HR⟩
    case round =>
      obtain ⟨k, rfl, hk, HK⟩ := hrel
      by_cases hk0 : k = 0
      · subst hk0
        have hR0 : R = 0 := HK.out.symm
        go_wp2
        go_ret
        refine ⟨?_, hb.alloc hb.size _⟩
        have hT0 : trimB s = ByteArray.empty := by rw [HT.out, hR0]; simp
        rw [hT0]
        rfl
      · obtain ⟨j, rfl⟩ : ∃ j, k = j + 1 := ⟨k - 1, by omega⟩
        have hj : j < s.size := by omega
        have hw := HK.out
        rw [trimN, ← get_list s j hj] at hw
        have hj1 : ((j + 1 : Nat) : Int) - 1 = (j : Int) := by omega
        have hpos : (0 : Int) < ((j + 1 : Nat) : Int) := by omega
        have h0 : ((j + 1 : Nat) : Int) = (j : Int) + 1 := by omega
        by_cases h32 : s[j] = 32
        · rw [if_pos (.inl h32)] at hw
          have HW : Hid (trimN s.data.toList j = R) := hw
          have b32 : ((s[j].toNat : Int) == 32) = true := by rw [h32]; rfl
          clear hw h32
          go_wp2
          exact ⟨⟨j, rfl, by omega, HW⟩, by simp [intOf]⟩
        · by_cases hz : s[j] = 0
          · rw [if_pos (.inr hz)] at hw
            have HW : Hid (trimN s.data.toList j = R) := hw
            have b32 : ((s[j].toNat : Int) == 32) = false := by rw [hz]; rfl
            have b0 : ((s[j].toNat : Int) == 0) = true := by rw [hz]; rfl
            clear hw h32 hz
            go_wp2
            exact ⟨⟨j, rfl, by omega, HW⟩, by simp [intOf]⟩
          · rw [if_neg (by rintro (h | h); exact h32 h; exact hz h)] at hw
            have HW : Hid (j + 1 = R) := hw
            have b32 : ((s[j].toNat : Int) == 32) = false := by
              refine beq_eq_false_iff_ne.2 (fun h => h32 ?_)
              apply UInt8.toNat_inj.1
              simpa using Int.ofNat.inj h
            have b0 : ((s[j].toNat : Int) == 0) = false := by
              refine beq_eq_false_iff_ne.2 (fun h => hz ?_)
              apply UInt8.toNat_inj.1
              simpa using Int.ofNat.inj h
            clear hw h32 hz
            go_wp2
            go_ret
            refine ⟨?_, hb.alloc hb.size _⟩
            rw [HT.out, ← HW.out]
            rfl

end Go.Proofs.YtoikdpjjcnmgeaaGreatDoor.Rp
end

section
/-
  DERIVED. How a list of nodes is gone through, level by level: plain functions.
-/
namespace Go.Proofs.YtoikdpjjcnmgeaaGreatDoor
open Wk (Nd)

/-- Levels, the innermost first: how many are still wanted, the tag ahead. -/
abbrev Lv := Int × Int
def popL : List Lv → List Lv
  | [] => []
  | x :: r => if x.1 = 0 ∧ r ≠ [] then popL r else x :: r
def rightL (E I : Nd → Bool) (a : Nd) (st : List Lv) : Bool := if st.length % 2 = 0 then I a && decide (st.length / 2 ≤ 4) else E a && decide ((st.headD (0, 0)).2 < a.t)
def pushL (a : Nd) : List Lv → List Lv
  | [] => []
  | x :: r => if (r.length + 1) % 2 = 0 ∨ a.v = 18 then (a.n, 0) :: (x.1 - 1, a.t) :: r else (x.1 - 1, a.t) :: r
def stepL (a : Nd) (st : List Lv) : List Lv := popL (pushL a st)
def runL (E I : Nd → Bool) : Nat → List Lv → List Nd → Nat × Bool
  | i, st, [] => (i, decide (st.length ≤ 1))
  | i, st, a :: r => if i = 4096 ∨ rightL E I a st = false then (i, false) else runL E I (i + 1) (stepL a st) r

theorem popL_zero (z : Int) {r : List Lv} (h : r ≠ []) : popL ((0, z) :: r) = popL r := by
  rw [popL, if_pos ⟨rfl, h⟩]
theorem popL_some {x : Lv} (r : List Lv) (h : x.1 ≠ 0) : popL (x :: r) = x :: r := by
  rw [popL, if_neg (fun hh => h hh.1)]
theorem popL_one (x : Lv) : popL [x] = [x] := by
  rw [popL, if_neg (fun hh => hh.2 rfl)]
theorem popL_ne : ∀ {r : List Lv}, r ≠ [] → popL r ≠ []
  | [], h => absurd rfl h
  | x :: r, _ => by
    rw [popL]
    split
    · rename_i hh
      exact popL_ne hh.2
    · simp
theorem popL_len : ∀ (r : List Lv), (popL r).length ≤ r.length
  | [] => Nat.le_refl _
  | x :: r => by
    rw [popL]
    split
    · have := popL_len r
      simp; omega
    · exact Nat.le_refl _

/-- Past an element. -/
theorem run_elem {E I : Nd → Bool} {i : Nat} {c last : Int} {rest : List Lv} {a : Nd} {r : List Nd} (hl : rest.length % 2 = 0) (hc : rest = [] ∨ c ≠ 0) (hi : i ≠ 4096) (hE : E a = true) (ht : last < a.t) (hn : a.v = 18 ∨ a.n = 0) :
    runL E I i (popL ((c, last) :: rest)) (a :: r) = runL E I (i + 1) (popL ((a.n, 0) :: (c - 1, a.t) :: rest)) r := by
  have hp : popL ((c, last) :: rest) = (c, last) :: rest := by
    rcases hc with rfl | hc
    · exact popL_one _
    · exact popL_some _ hc
  rw [hp, runL, if_neg]
  · congr 1
    show popL (if (rest.length + 1) % 2 = 0 ∨ a.v = 18 then (a.n, 0) :: (c - 1, a.t) :: rest else (c - 1, a.t) :: rest) = _
    by_cases hv : a.v = 18
    · rw [if_pos (.inr hv)]
    · have hn0 := hn.resolve_left hv
      rw [if_neg (by rintro (h | h) <;> first | omega | exact hv h), hn0, popL_zero _ (by simp)]
  · rintro (h | h)
    · exact hi h
    · unfold rightL at h
      rw [if_neg (by simp; omega)] at h
      simp [hE] at h
      omega
theorem run_elem_no {E I : Nd → Bool} {i : Nat} {c last : Int} {rest : List Lv} {a : Nd} {r : List Nd} (hl : rest.length % 2 = 0) (hc : rest = [] ∨ c ≠ 0) (h : i = 4096 ∨ (E a && decide (last < a.t)) = false) :
    runL E I i (popL ((c, last) :: rest)) (a :: r) = (i, false) := by
  have hp : popL ((c, last) :: rest) = (c, last) :: rest := by
    rcases hc with rfl | hc
    · exact popL_one _
    · exact popL_some _ hc
  rw [hp, runL, if_pos]
  rcases h with h | h
  · exact .inl h
  · right
    unfold rightL
    rw [if_neg (by simp; omega)]
    exact h
/-- Past an item. -/
theorem run_item {E I : Nd → Bool} {i : Nat} {m z : Int} {rest : List Lv} {a : Nd} {r : List Nd} (hl : rest.length % 2 = 1) (hm : m ≠ 0) (hi : i ≠ 4096) (hI : I a = true) (hd : (rest.length + 1) / 2 ≤ 4) :
    runL E I i (popL ((m, z) :: rest)) (a :: r) = runL E I (i + 1) (popL ((a.n, 0) :: (m - 1, a.t) :: rest)) r := by
  rw [popL_some _ hm, runL, if_neg]
  · congr 1
    show popL (if (rest.length + 1) % 2 = 0 ∨ a.v = 18 then (a.n, 0) :: (m - 1, a.t) :: rest else (m - 1, a.t) :: rest) = _
    rw [if_pos (.inl (by omega))]
  · rintro (h | h)
    · exact hi h
    · unfold rightL at h
      rw [if_pos (by simp; omega)] at h
      simp [hI] at h
      omega
theorem run_item_no {E I : Nd → Bool} {i : Nat} {m z : Int} {rest : List Lv} {a : Nd} {r : List Nd} (hl : rest.length % 2 = 1) (hm : m ≠ 0) (h : i = 4096 ∨ (I a && decide ((rest.length + 1) / 2 ≤ 4)) = false) :
    runL E I i (popL ((m, z) :: rest)) (a :: r) = (i, false) := by
  rw [popL_some _ hm, runL, if_pos]
  rcases h with h | h
  · exact .inl h
  · right
    unfold rightL
    rw [if_pos (by simp; omega)]
    simpa using h
theorem run_end {E I : Nd → Bool} {i : Nat} {x : Lv} {rest : List Lv} (hc : rest = [] ∨ x.1 ≠ 0) : runL E I i (popL (x :: rest)) [] = (i, decide (rest = [])) := by
  have hp : popL (x :: rest) = x :: rest := by
    rcases hc with rfl | hc
    · exact popL_one _
    · exact popL_some _ hc
  rw [hp, runL]
  cases rest <;> simp

/-- What the document's reader of elements tells. -/
def SomeQ (E I : Nd → Bool) (L : List Nd) (i : Nat) (c : Int) (d : Nat) (j : Nat) (ok : Bool) : Prop :=
  i ≤ j ∧ j ≤ L.length ∧ j ≤ 4096 ∧ ∀ rest : List Lv, rest.length = 2 * d → (c < 0 → rest = []) → (0 ≤ c → rest ≠ []) →
    (ok = false → runL E I i (popL ((max c 0, 0) :: rest)) (L.drop i) = (j, false)) ∧
    (ok = true → (0 ≤ c → runL E I i (popL ((max c 0, 0) :: rest)) (L.drop i) = runL E I j (popL rest) (L.drop j)) ∧ (c < 0 → runL E I i (popL ((max c 0, 0) :: rest)) (L.drop i) = (j, true)))
/-- Between two elements. -/
def SomeI (E I : Nd → Bool) (L : List Nd) (i : Nat) (c : Int) (d : Nat) (k j : Nat) (last : Int) : Prop :=
  i ≤ j ∧ j ≤ L.length ∧ j ≤ 4096 ∧ i + k ≤ j ∧ (0 ≤ c → (k : Int) ≤ c) ∧ ∀ rest : List Lv, rest.length = 2 * d → (c < 0 → rest = []) → (0 ≤ c → rest ≠ []) →
    runL E I i (popL ((max c 0, 0) :: rest)) (L.drop i) = runL E I j (popL ((max c 0 - k, last) :: rest)) (L.drop j)
/-- Between two items: so many are left. -/
def SomeJ (E I : Nd → Bool) (L : List Nd) (i : Nat) (c : Int) (d : Nat) (k j : Nat) (tag : Int) (m : Int) : Prop :=
  i ≤ j ∧ j ≤ L.length ∧ j ≤ 4096 ∧ i + k + 1 ≤ j ∧ (0 ≤ c → (k : Int) < c) ∧ 0 ≤ m ∧ ∃ z : Int, ∀ rest : List Lv, rest.length = 2 * d → (c < 0 → rest = []) → (0 ≤ c → rest ≠ []) →
    runL E I i (popL ((max c 0, 0) :: rest)) (L.drop i) = runL E I j (popL ((m, z) :: (max c 0 - k - 1, tag) :: rest)) (L.drop j)

theorem SomeI.start (E I : Nd → Bool) (L : List Nd) (i : Nat) (c : Int) (d : Nat) (hi : i ≤ L.length) (h4 : i ≤ 4096) : SomeI E I L i c d 0 i 0 :=
  ⟨Nat.le_refl _, hi, h4, Nat.le_refl _, fun h => h, fun rest _ _ _ => by simp⟩
theorem left_ne {c : Int} {k : Nat} (hk : 0 ≤ c → (k : Int) ≤ c) (hne : (k : Int) ≠ c) {rest : List Lv} (h1 : c < 0 → rest = []) : rest = [] ∨ max c 0 - (k : Int) ≠ 0 := by
  by_cases h : c < 0
  · exact .inl (h1 h)
  · right
    have := hk (by omega)
    omega
/-- All elements are there. -/
theorem SomeI.done {E I : Nd → Bool} {L : List Nd} {i : Nat} {c : Int} {d k j : Nat} {last : Int} (h : SomeI E I L i c d k j last) (hk : (k : Int) = c) : SomeQ E I L i c d j true := by
  obtain ⟨h1, h2, h3, h4, h5, h6⟩ := h
  refine ⟨h1, h2, h3, fun rest r1 r2 r3 => ⟨fun h => (by cases h), fun _ => ⟨fun hc => ?_, fun hc => (by omega)⟩⟩⟩
  rw [h6 rest r1 r2 r3, show max c 0 - (k : Int) = 0 by omega, popL_zero _ (r3 hc)]
/-- The list is at its end. -/
theorem SomeI.ends {E I : Nd → Bool} {L : List Nd} {i : Nat} {c : Int} {d k j : Nat} {last : Int} (h : SomeI E I L i c d k j last) (hk : (k : Int) ≠ c) (hj : L.length ≤ j) : SomeQ E I L i c d j (decide (c < 0)) := by
  obtain ⟨h1, h2, h3, h4, h5, h6⟩ := h
  have hd : L.drop j = [] := List.drop_eq_nil_of_le hj
  refine ⟨h1, h2, h3, fun rest r1 r2 r3 => ⟨fun h => ?_, fun h => ⟨fun hc => ?_, fun hc => ?_⟩⟩⟩
  · have hc : 0 ≤ c := by simpa using h
    rw [h6 rest r1 r2 r3, hd, run_end (left_ne h5 hk r2)]
    simp [r3 hc]
  · simp at h; omega
  · rw [h6 rest r1 r2 r3, hd, run_end (left_ne h5 hk r2)]
    simp [r2 hc]
theorem drop_at {L : List Nd} {j : Nat} (h : j < L.length) : L.drop j = L[j] :: L.drop (j + 1) := List.drop_eq_getElem_cons h
/-- A node that may not stand there. -/
theorem SomeI.bad {E I : Nd → Bool} {L : List Nd} {i : Nat} {c : Int} {d k j : Nat} {last : Int} (h : SomeI E I L i c d k j last) (hk : (k : Int) ≠ c) (hj : j < L.length) (hb : 4096 ≤ j ∨ (E L[j] && decide (last < L[j].t)) = false) : SomeQ E I L i c d j false := by
  obtain ⟨h1, h2, h3, h4, h5, h6⟩ := h
  refine ⟨h1, h2, h3, fun rest r1 r2 r3 => ⟨fun _ => ?_, fun h => (by cases h)⟩⟩
  rw [h6 rest r1 r2 r3, drop_at hj]
  exact run_elem_no (by omega) (left_ne h5 hk r2) (hb.imp (fun h => by omega) id)
/-- A good one. -/
theorem SomeI.good {E I : Nd → Bool} {L : List Nd} {i : Nat} {c : Int} {d k j : Nat} {last : Int} (hE : ∀ a, E a = true → 0 ≤ a.n ∧ (a.v = 18 ∨ a.n = 0)) (h : SomeI E I L i c d k j last) (hk : (k : Int) ≠ c) (hj : j < L.length) (h4 : j < 4096) (hb : E L[j] = true) (ht : last < L[j].t) : SomeJ E I L i c d k (j + 1) L[j].t L[j].n := by
  obtain ⟨h1, h2, h3, h4', h5, h6⟩ := h
  refine ⟨by omega, by omega, by omega, by omega, fun hc => by have := h5 hc; omega, (hE _ hb).1, 0, fun rest r1 r2 r3 => ?_⟩
  rw [h6 rest r1 r2 r3, drop_at hj]
  exact run_elem (by omega) (left_ne h5 hk r2) (by omega) hb ht (hE _ hb).2
/-- All items are there. -/
theorem SomeJ.done {E I : Nd → Bool} {L : List Nd} {i : Nat} {c : Int} {d k j : Nat} {tag : Int} (h : SomeJ E I L i c d k j tag 0) : SomeI E I L i c d (k + 1) j tag := by
  obtain ⟨h1, h2, h3, h4, h5, -, z, h6⟩ := h
  refine ⟨h1, h2, h3, by omega, fun hc => by have := h5 hc; omega, fun rest r1 r2 r3 => ?_⟩
  rw [h6 rest r1 r2 r3, popL_zero _ (by simp), show max c 0 - (k : Int) - 1 = max c 0 - ((k + 1 : Nat) : Int) by omega]
/-- No item there, or a bad one. -/
theorem SomeJ.bad {E I : Nd → Bool} {L : List Nd} {i : Nat} {c : Int} {d k j : Nat} {tag m : Int} (h : SomeJ E I L i c d k j tag m) (hm : 0 < m) (hb : L.length ≤ j ∨ 4096 ≤ j ∨ ∃ hj : j < L.length, (I L[j] && decide (d + 1 ≤ 4)) = false) : SomeQ E I L i c d j false := by
  obtain ⟨h1, h2, h3, h4, h5, -, z, h6⟩ := h
  refine ⟨h1, h2, h3, fun rest r1 r2 r3 => ⟨fun _ => ?_, fun h => (by cases h)⟩⟩
  rw [h6 rest r1 r2 r3]
  by_cases hj : j < L.length
  · rw [drop_at hj]
    refine run_item_no (by simp; omega) (by omega) ?_
    rcases hb with hb | hb | ⟨_, hb⟩
    · omega
    · exact .inl (by omega)
    · right
      rw [show ((max c 0 - (k : Int) - 1, tag) :: rest).length + 1 = 2 * (d + 1) by simp; omega, Nat.mul_div_cancel_left _ (by decide)]
      exact hb
  · rw [List.drop_eq_nil_of_le (by omega), run_end (.inr (show m ≠ 0 by omega))]
    simp
/-- An item that is whole, or not. -/
theorem SomeJ.item {E I : Nd → Bool} {L : List Nd} {i : Nat} {c : Int} {d k j e : Nat} {tag m : Int} {ok : Bool} (hI : ∀ a, I a = true → 0 ≤ a.n) (h : SomeJ E I L i c d k j tag m) (hm : 0 < m) (hj : j < L.length) (h4 : j < 4096) (hb : I L[j] = true) (hd : d + 1 ≤ 4)
    (hq : SomeQ E I L (j + 1) L[j].n (d + 1) e ok) : (ok = false → SomeQ E I L i c d e false) ∧ (ok = true → SomeJ E I L i c d k e tag (m - 1)) := by
  obtain ⟨h1, h2, h3, h4', h5, -, z, h6⟩ := h
  obtain ⟨q1, q2, q3, q4⟩ := hq
  have hn := hI _ hb
  have key : ∀ rest : List Lv, rest.length = 2 * d → (c < 0 → rest = []) → (0 ≤ c → rest ≠ []) → runL E I i (popL ((max c 0, 0) :: rest)) (L.drop i) = runL E I (j + 1) (popL ((max L[j].n 0, 0) :: (m - 1, L[j].t) :: (max c 0 - k - 1, tag) :: rest)) (L.drop (j + 1)) := by
    intro rest r1 r2 r3
    rw [h6 rest r1 r2 r3, drop_at hj, run_item (by simp; omega) (by omega) (by omega) hb (by simp; omega)]
    rw [show max L[j].n 0 = L[j].n by omega]
  refine ⟨fun ho => ⟨by omega, q2, q3, fun rest r1 r2 r3 => ⟨fun _ => ?_, fun h => (by cases h)⟩⟩, fun ho => ⟨by omega, q2, q3, by omega, h5, by omega, L[j].t, fun rest r1 r2 r3 => ?_⟩⟩
  · rw [key rest r1 r2 r3]
    exact (q4 ((m - 1, L[j].t) :: (max c 0 - k - 1, tag) :: rest) (by simp; omega) (fun h => by omega) (fun _ => by simp)).1 ho
  · rw [key rest r1 r2 r3]
    exact ((q4 ((m - 1, L[j].t) :: (max c 0 - k - 1, tag) :: rest) (by simp; omega) (fun h => by omega) (fun _ => by simp)).2 ho).1 hn
/-- The whole list. -/
theorem SomeQ.whole {E I : Nd → Bool} {L : List Nd} {j : Nat} {ok : Bool} (h : SomeQ E I L 0 (-1) 0 j ok) : runL E I 0 [(0, 0)] L = (j, ok) := by
  have := h.2.2.2 [] rfl (fun _ => rfl) (fun h => by omega)
  rw [popL_one] at this
  cases ok with
  | false => exact this.1 rfl
  | true => exact (this.2 rfl).2 (by omega)
end Go.Proofs.YtoikdpjjcnmgeaaGreatDoor
end
