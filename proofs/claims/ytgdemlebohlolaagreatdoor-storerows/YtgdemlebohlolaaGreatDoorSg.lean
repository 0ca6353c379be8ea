import Derived.Test.YtgdemlebohlolaaGreatDoorLb
import Derived.Test.YtgdemlebohlolaaGreatDoorProg
import Derived.Shelf.Strings.Split
import Derived.Lib.SplitLaws
/-
  DERIVED. The program's decimal form.
-/
namespace Go.Proofs.YtgdemlebohlolaaGreatDoor.Ck
open Go Go.Proofs Go.RowKit

/-- Behind the spaces. -/
def trS (s : ByteArray) : ByteArray := ⟨(Lib.trimLeftB s.data.toList 32).toArray⟩
theorem trimL_len (c : UInt8) : ∀ l : List UInt8, (Lib.trimLeftB l c).length ≤ l.length
  | [] => by simp [Lib.trimLeftB]
  | b :: l => by
    have := trimL_len c l
    unfold Lib.trimLeftB at this ⊢
    rw [List.dropWhile_cons]
    split
    · simp at this ⊢; omega
    · exact Nat.le_refl _
theorem trS_size (s : ByteArray) : (trS s).size ≤ s.size := by
  have := trimL_len 32 s.data.toList
  rw [Array.length_toList] at this
  show (Lib.trimLeftB s.data.toList 32).toArray.size ≤ s.data.size
  rw [List.size_toArray]
  exact this
theorem spaces_any (w : World) (s : ByteArray) : Calls Tryz.prog 133 #[.string s] w fun e w' => e = .returned (.string (trS s)) ∧ w = w' := by
  have c : Calls Tryz.prog 159 #[.string s, .string ⟨#[32]⟩] w fun e w' => e = .returned (.string (trS s)) ∧ w' = w := Any.strings_TrimLeft_one tlLays161 s 32 (by decide) w
  generalize trS s = T at *
  go_enter Tryz.func133, Tryz.ntmps133
  go_wp2_with (go_at_call 159; refine Stop.mk ?_)
  refine Stop.out (c.mono ?_)
  rintro e W1 ⟨rfl, rfl⟩
  go_wp2
  go_ret
  exact ⟨rfl, rfl⟩
/-- What the end of a decimal's form says. -/
def dcZ (n : Nat) (V : ByteArray) : Bool := decide (0 < n) && (decide (V.size = 0) || exB V)
def dcY (n : Nat) (U : ByteArray) : Bool := if hp1 U 46 = true then dcZ (n + cnt (U.extract 1 U.size) (U.extract 1 U.size).size 0) (U.extract (1 + cnt (U.extract 1 U.size) (U.extract 1 U.size).size 0) U.size) else dcZ n U
def dcT (T : ByteArray) : Bool := dcY (cnt T T.size 0) (T.extract (cnt T T.size 0) T.size)
/-- The program's decimal form. -/
def dcS (s : ByteArray) : Bool := dcT (psS (trS s))
theorem text_none {k : ByteArray} (h : k.size = 0) : k.toList.isEmpty = true := by
  rw [ByteArray.toList_eq]
  have : k.data.toList = [] := List.eq_nil_of_length_eq_zero (by rw [Array.length_toList]; exact h)
  rw [this]; rfl
set_option maxRecDepth 100000 in
set_option maxHeartbeats 4000000 in
theorem isDecimal_any (w : World) (s : ByteArray) (hs : s.size ≤ 140737488351232) : Calls Tryz.prog 100 #[.string s] w fun e w' => e = .returned (.bool (dcS s)) ∧ w = w' := by
  have c0 := spaces_any w s
  have h0 := trS_size s
  unfold dcS
  generalize trS s = T0 at *
  have c1 := pastSign_any w T0 (by omega)
  have h1 := psS_size T0
  generalize psS T0 = T at *
  have c2 := digits_any w T (by omega)
  have h2 := cnt_size T T.size 0 (Nat.zero_le _)
  rw [Nat.zero_add] at h2
  unfold dcT
  generalize cnt T T.size 0 = k at *
  have i1 : (k : Int) ≤ (T.size : Int) := by omega
  have hU : (T.extract k T.size).size ≤ T.size := by rw [ByteArray.size_extract]; omega
  have eU : T.extract k T.size = T.extract k T.size := rfl
  obtain ⟨U, hUe⟩ : ∃ U, T.extract k T.size = U := ⟨_, rfl⟩
  rw [hUe] at hU ⊢
  have c3 := hp109_any w U (by omega) 46
  unfold dcY
  clear eU
  have hk0 : k ≤ 140737488351232 := by omega
  cases hp : hp1 U 46 with
  | false =>
    rw [hp] at c3
    rw [if_neg (by decide)]
    unfold dcZ
    by_cases hn : 0 < k
    · have iN : (k : Int) + 0 > 0 := by omega
      rw [decide_eq_true hn, Bool.true_and]
      by_cases hv : U.size = 0
      · have e0 := text_none hv
        rw [decide_eq_true hv, Bool.true_or]
        go_enter Tryz.func100, Tryz.ntmps100
        go_wp2_with (go_at_call 133; refine Stop.mk ?_)
        refine Stop.out (c0.mono ?_)
        rintro e W1 ⟨rfl, rfl⟩
        go_wp2_with (go_at_call 132; refine Stop.mk ?_)
        refine Stop.out (c1.mono ?_)
        rintro e W1 ⟨rfl, rfl⟩
        go_wp2_with (go_at_call 130; refine Stop.mk ?_)
        refine Stop.out (c2.mono ?_)
        rintro e W1 ⟨rfl, rfl⟩
        go_wp2_with (go_at_call 134; refine Stop.mk ?_)
        refine Stop.out (c3.mono ?_)
        rintro e W1 ⟨rfl, rfl⟩
        go_wp2
        go_ret
        exact ⟨by simp, rfl⟩
      · have e0 := text_some hv
        rw [decide_eq_false hv, Bool.false_or]
        have c5 := isExponent_any w U (by omega) (by omega)
        generalize exB U = Z at *
        go_enter Tryz.func100, Tryz.ntmps100
        go_wp2_with (go_at_call 133; refine Stop.mk ?_)
        refine Stop.out (c0.mono ?_)
        rintro e W1 ⟨rfl, rfl⟩
        go_wp2_with (go_at_call 132; refine Stop.mk ?_)
        refine Stop.out (c1.mono ?_)
        rintro e W1 ⟨rfl, rfl⟩
        go_wp2_with (go_at_call 130; refine Stop.mk ?_)
        refine Stop.out (c2.mono ?_)
        rintro e W1 ⟨rfl, rfl⟩
        go_wp2_with (go_at_call 134; refine Stop.mk ?_)
        refine Stop.out (c3.mono ?_)
        rintro e W1 ⟨rfl, rfl⟩
        go_wp2_with (go_at_call 135; refine Stop.mk ?_)
        refine Stop.out (c5.mono ?_)
        rintro e W1 ⟨rfl, rfl⟩
        go_wp2
        go_ret
        exact ⟨by simp, rfl⟩
    · have iN : ¬ ((k : Int) + 0 > 0) := by omega
      rw [decide_eq_false hn, Bool.false_and]
      go_enter Tryz.func100, Tryz.ntmps100
      go_wp2_with (go_at_call 133; refine Stop.mk ?_)
      refine Stop.out (c0.mono ?_)
      rintro e W1 ⟨rfl, rfl⟩
      go_wp2_with (go_at_call 132; refine Stop.mk ?_)
      refine Stop.out (c1.mono ?_)
      rintro e W1 ⟨rfl, rfl⟩
      go_wp2_with (go_at_call 130; refine Stop.mk ?_)
      refine Stop.out (c2.mono ?_)
      rintro e W1 ⟨rfl, rfl⟩
      go_wp2_with (go_at_call 134; refine Stop.mk ?_)
      refine Stop.out (c3.mono ?_)
      rintro e W1 ⟨rfl, rfl⟩
      go_wp2
      go_ret
      exact ⟨by simp, rfl⟩
  | true =>
    rw [hp] at c3
    rw [if_pos rfl]
    have hu1 := hp1_some hp
    have i3 : (1 : Int) ≤ (U.size : Int) := by omega
    have hX : (U.extract 1 U.size).size = U.size - 1 := by rw [ByteArray.size_extract]; omega
    obtain ⟨X, hXe⟩ : ∃ X, U.extract 1 U.size = X := ⟨_, rfl⟩
    rw [hXe] at hX ⊢
    have c4 := digits_any w X (by omega)
    have h4 := cnt_size X X.size 0 (Nat.zero_le _)
    rw [Nat.zero_add] at h4
    generalize cnt X X.size 0 = p at *
    have i4 : (1 : Int) + (p : Int) ≤ (U.size : Int) := by omega
    have hV : (U.extract (1 + p) U.size).size ≤ U.size := by rw [ByteArray.size_extract]; omega
    obtain ⟨V, hVe⟩ : ∃ V, U.extract (1 + p) U.size = V := ⟨_, rfl⟩
    rw [hVe] at hV ⊢
    have hVc : U.extract (((1 : Int) + (p : Int)).toNat) U.size = V := by rw [← hVe]; congr 1
    unfold dcZ
    by_cases hn : 0 < k + p
    · have iN : (k : Int) + (p : Int) > 0 := by omega
      rw [decide_eq_true hn, Bool.true_and]
      by_cases hv : V.size = 0
      · have e0 := text_none hv
        rw [decide_eq_true hv, Bool.true_or]
        go_enter Tryz.func100, Tryz.ntmps100
        go_wp2_with (go_at_call 133; refine Stop.mk ?_)
        refine Stop.out (c0.mono ?_)
        rintro e W1 ⟨rfl, rfl⟩
        go_wp2_with (go_at_call 132; refine Stop.mk ?_)
        refine Stop.out (c1.mono ?_)
        rintro e W1 ⟨rfl, rfl⟩
        go_wp2_with (go_at_call 130; refine Stop.mk ?_)
        refine Stop.out (c2.mono ?_)
        rintro e W1 ⟨rfl, rfl⟩
        go_wp2_with (go_at_call 134; refine Stop.mk ?_)
        refine Stop.out (c3.mono ?_)
        rintro e W1 ⟨rfl, rfl⟩
        go_wp2_with (go_at_call 130; refine Stop.mk ?_)
        refine Stop.out (c4.mono ?_)
        rintro e W1 ⟨rfl, rfl⟩
        go_wp2
        go_ret
        exact ⟨by simp, rfl⟩
      · have e0 := text_some hv
        rw [decide_eq_false hv, Bool.false_or]
        have c5 := isExponent_any w V (by omega) (by omega)
        generalize exB V = Z at *
        go_enter Tryz.func100, Tryz.ntmps100
        go_wp2_with (go_at_call 133; refine Stop.mk ?_)
        refine Stop.out (c0.mono ?_)
        rintro e W1 ⟨rfl, rfl⟩
        go_wp2_with (go_at_call 132; refine Stop.mk ?_)
        refine Stop.out (c1.mono ?_)
        rintro e W1 ⟨rfl, rfl⟩
        go_wp2_with (go_at_call 130; refine Stop.mk ?_)
        refine Stop.out (c2.mono ?_)
        rintro e W1 ⟨rfl, rfl⟩
        go_wp2_with (go_at_call 134; refine Stop.mk ?_)
        refine Stop.out (c3.mono ?_)
        rintro e W1 ⟨rfl, rfl⟩
        go_wp2_with (go_at_call 130; refine Stop.mk ?_)
        refine Stop.out (c4.mono ?_)
        rintro e W1 ⟨rfl, rfl⟩
        go_wp2_with (go_at_call 135; refine Stop.mk ?_)
        refine Stop.out (c5.mono ?_)
        rintro e W1 ⟨rfl, rfl⟩
        go_wp2
        go_ret
        exact ⟨by simp, rfl⟩
    · have iN : ¬ ((k : Int) + (p : Int) > 0) := by omega
      rw [decide_eq_false hn, Bool.false_and]
      go_enter Tryz.func100, Tryz.ntmps100
      go_wp2_with (go_at_call 133; refine Stop.mk ?_)
      refine Stop.out (c0.mono ?_)
      rintro e W1 ⟨rfl, rfl⟩
      go_wp2_with (go_at_call 132; refine Stop.mk ?_)
      refine Stop.out (c1.mono ?_)
      rintro e W1 ⟨rfl, rfl⟩
      go_wp2_with (go_at_call 130; refine Stop.mk ?_)
      refine Stop.out (c2.mono ?_)
      rintro e W1 ⟨rfl, rfl⟩
      go_wp2_with (go_at_call 134; refine Stop.mk ?_)
      refine Stop.out (c3.mono ?_)
      rintro e W1 ⟨rfl, rfl⟩
      go_wp2_with (go_at_call 130; refine Stop.mk ?_)
      refine Stop.out (c4.mono ?_)
      rintro e W1 ⟨rfl, rfl⟩
      go_wp2
      go_ret
      exact ⟨by simp, rfl⟩
end Go.Proofs.YtgdemlebohlolaaGreatDoor.Ck

namespace Go.Proofs.YtgdemlebohlolaaGreatDoor.Sp
open Go Go.Proofs Go.RowKit Go.Shelf Go.Lib

/-- What the shelf's names are here. -/
def splRen : Go.Shelf.Ren := ⟨fun | 138 => 142 | 143 => 29 | 146 => 115 | 195 => 82 | 197 => 83 | 217 => 72 | 218 => 165 | 219 => 48 | 221 => 147 | 224 => 74 | 225 => 73 | 260 => 116 | 266 => 91 | 267 => 75 | 268 => 169 | 314 => 92 | n => n, fun | 0 => 0 | 3 => 3 | 4 => 4 | 5 => 5 | 9 => 9 | 21 => 21 | 31 => 126 | 46 => 104 | 51 => 122 | 105 => 114 | 119 => 140 | 138 => 142 | 139 => 143 | 146 => 123 | n => n, fun | 1 => 2 | 3 => 3 | 4 => 4 | n => n⟩
theorem splLays146 : Go.Proofs.Lays.n146 Tryz.prog splRen := {
  mixed := by kernel_rfl,
  f138 := Tryz.func142.trans (congrArg some (by kernel_rfl)),
  f143 := Tryz.func29.trans (congrArg some (by kernel_rfl)),
  f146 := Tryz.func115.trans (congrArg some (by kernel_rfl)),
  f195 := Tryz.func82.trans (congrArg some (by kernel_rfl)),
  f197 := Tryz.func83.trans (congrArg some (by kernel_rfl)),
  f217 := Tryz.func72.trans (congrArg some (by kernel_rfl)),
  f218 := Tryz.func165.trans (congrArg some (by kernel_rfl)),
  f219 := Tryz.func48.trans (congrArg some (by kernel_rfl)),
  f221 := Tryz.func147.trans (congrArg some (by kernel_rfl)),
  f224 := Tryz.func74.trans (congrArg some (by kernel_rfl)),
  f225 := Tryz.func73.trans (congrArg some (by kernel_rfl)),
  f260 := Tryz.func116.trans (congrArg some (by kernel_rfl)),
  f266 := Tryz.func91.trans (congrArg some (by kernel_rfl)),
  f267 := Tryz.func75.trans (congrArg some (by kernel_rfl)),
  f268 := Tryz.func169.trans (congrArg some (by kernel_rfl)),
  f314 := Tryz.func92.trans (congrArg some (by kernel_rfl)),
  t0 := Tryz.underlying0,
  a0 := Tryz.isAgg0,
  z0 := Tryz.sizeOf0,
  v0 := Tryz.zeroValue0,
  t3 := Tryz.underlying3,
  a3 := Tryz.isAgg3,
  z3 := Tryz.sizeOf3,
  v3 := Tryz.zeroValue3,
  t4 := Tryz.underlying4,
  a4 := Tryz.isAgg4,
  z4 := Tryz.sizeOf4,
  v4 := Tryz.zeroValue4,
  t5 := Tryz.underlying5,
  a5 := Tryz.isAgg5,
  z5 := Tryz.sizeOf5,
  v5 := Tryz.zeroValue5,
  t9 := Tryz.underlying9,
  a9 := Tryz.isAgg9,
  z9 := Tryz.sizeOf9,
  v9 := Tryz.zeroValue9,
  t21 := Tryz.underlying21,
  a21 := Tryz.isAgg21,
  z21 := Tryz.sizeOf21,
  v21 := Tryz.zeroValue21,
  t31 := Tryz.underlying126,
  a31 := Tryz.isAgg126,
  z31 := Tryz.sizeOf126,
  v31 := Tryz.zeroValue126,
  t46 := Tryz.underlying104,
  a46 := Tryz.isAgg104,
  z46 := Tryz.sizeOf104,
  v46 := Tryz.zeroValue104,
  t51 := Tryz.underlying122,
  a51 := Tryz.isAgg122,
  z51 := Tryz.sizeOf122,
  v51 := Tryz.zeroValue122,
  t105 := Tryz.underlying114,
  a105 := Tryz.isAgg114,
  z105 := Tryz.sizeOf114,
  v105 := Tryz.zeroValue114,
  t119 := Tryz.underlying140,
  a119 := Tryz.isAgg140,
  z119 := Tryz.sizeOf140,
  t138 := Tryz.underlying142,
  a138 := Tryz.isAgg142,
  z138 := Tryz.sizeOf142,
  v138 := Tryz.zeroValue142,
  t139 := Tryz.underlying143,
  a139 := Tryz.isAgg143,
  z139 := Tryz.sizeOf143,
  v139 := Tryz.zeroValue143,
  t146 := Tryz.underlying123,
  a146 := Tryz.isAgg123,
  z146 := Tryz.sizeOf123,
  v146 := Tryz.zeroValue123,
  g1 := by kernel_rfl,
  g3 := by kernel_rfl,
  g4 := by kernel_rfl }
end Go.Proofs.YtgdemlebohlolaaGreatDoor.Sp

/-
  DERIVED. A text parted at a byte, over lists: as the library parts it, and as a scan does.
-/
namespace Go.Proofs.YtgdemlebohlolaaGreatDoor.Sp
open Go Go.Proofs Go.RowKit Go.Lib

/-- A text parted at each backslash. -/
def spL : List UInt8 → List (List UInt8)
  | [] => [[]]
  | b :: l => if b = 92 then [] :: spL l else match spL l with
    | h :: t => (b :: h) :: t
    | [] => [[b]]
theorem spL_ne : ∀ l, spL l ≠ []
  | [] => by simp [spL]
  | b :: l => by
      unfold spL
      by_cases h : b = 92
      · rw [if_pos h]; simp
      · rw [if_neg h]; cases spL l <;> simp
theorem spL_none : ∀ l : List UInt8, (∀ k : Nat, l[k]? ≠ some 92) → spL l = [l]
  | [], _ => rfl
  | b :: l, h => by
      have h0 := h 0
      simp at h0
      have := spL_none l (fun k => by have := h (k + 1); simpa using this)
      unfold spL
      rw [if_neg h0, this]
theorem spL_at : ∀ (o : Nat) (l : List UInt8), l[o]? = some 92 → (∀ k : Nat, k < o → l[k]? ≠ some 92) → spL l = l.take o :: spL (l.drop (o + 1))
  | _, [], h, _ => by simp at h
  | 0, b :: l, h, _ => by
      simp at h
      subst h
      simp [spL]
  | o + 1, b :: l, h, hk => by
      have h0 := hk 0 (by omega)
      simp at h0
      have := spL_at o l (by simpa using h) (fun k hk2 => by have := hk (k + 1) (by omega); simpa using this)
      rw [spL, if_neg h0, this]
      simp
theorem splitK_spL : ∀ (k : Nat) (l : List UInt8), l.count 92 ≤ k → splitK [92] 0 k l = spL l := by
  intro k
  induction k with
  | zero =>
    intro l h
    rw [spL_none l]
    · rfl
    · intro j hj
      have : (92 : UInt8) ∈ l := List.mem_of_getElem? hj
      have := List.count_pos_iff.2 this
      omega
  | succ k ih =>
    intro l h
    unfold splitK
    rw [index_one]
    by_cases hm : indexByte l 92 = -1
    · rw [if_pos (by rw [hm]; rfl), spL_none l (indexByte_none hm)]
    · rw [if_neg (by simpa using hm)]
      have hge := indexByte_ge l 92
      obtain ⟨o, ho⟩ : ∃ o : Nat, indexByte l 92 = o := ⟨(indexByte l 92).toNat, by omega⟩
      obtain ⟨h1, h2⟩ := indexByte_some ho
      rw [ho, spL_at o l h1 h2]
      have hlt : o < l.length := by
        rcases Nat.lt_or_ge o l.length with q | q
        · exact q
        · rw [List.getElem?_eq_none q] at h1; cases h1
      have hc : (l.drop (o + 1)).count 92 ≤ k := by
        have e : l = l.take o ++ (92 :: l.drop (o + 1)) := by
          rw [List.getElem?_eq_getElem hlt] at h1
          have := Option.some.inj h1
          rw [← this, List.getElem_cons_drop, List.take_append_drop]
        rw [e, List.count_append, List.count_cons_self] at h
        omega
      simp only [Int.toNat_natCast, Nat.add_zero, List.length_singleton]
      rw [ih _ hc]
/-- Lists of bytes as texts. -/
def bsL (l : List (List UInt8)) : List ByteArray := l.map fun x => ⟨x.toArray⟩
theorem bsL_back (l : List ByteArray) : bsL (l.map (·.data.toList)) = l := by
  unfold bsL
  rw [List.map_map]
  conv => rhs; rw [← List.map_id l]
  refine List.map_congr_left fun x _ => ?_
  cases x
  simp
/-- The same as texts. -/
def spB (s : ByteArray) : List ByteArray := bsL (spL s.data.toList)
theorem splitB_spB (s : ByteArray) : splitB ⟨#[92]⟩ 0 (countB s ⟨#[92]⟩) s = spB s := by
  rw [← bsL_back (splitB _ _ _ _), splitB_data]
  unfold spB
  rw [splitK_spL]
  show _ ≤ count s.data.toList [92]
  rw [count_one]
  exact Nat.le_refl _
theorem spL_len : ∀ l : List UInt8, (spL l).length ≤ l.length + 1
  | [] => Nat.le_refl _
  | b :: l => by
      have := spL_len l
      unfold spL
      by_cases h : b = 92
      · rw [if_pos h]; simp; omega
      · rw [if_neg h]
        cases hs : spL l with
        | nil => simp
        | cons a t => rw [hs] at this; simp at this ⊢; omega
theorem spB_len (s : ByteArray) : (spB s).length ≤ s.size + 1 := by
  unfold spB bsL
  rw [List.length_map]
  exact spL_len _
theorem spB_ne (s : ByteArray) : spB s ≠ [] := by
  unfold spB bsL
  intro h
  exact spL_ne _ (List.map_eq_nil_iff.1 h)

/-- Some bytes ahead of the first piece. -/
def addH (p : List UInt8) : List (List UInt8) → List (List UInt8)
  | h :: t => (p ++ h) :: t
  | [] => [p]
theorem addH_nil {l : List (List UInt8)} (h : l ≠ []) : addH [] l = l := by
  cases l with
  | nil => exact absurd rfl h
  | cons a t => rfl
theorem addH_cut (p : List UInt8) (l : List UInt8) : addH p (spL (92 :: l)) = p :: spL l := by
  show addH p ([] :: spL l) = _
  simp [addH]
theorem addH_on (p : List UInt8) (b : UInt8) (l : List UInt8) (h : b ≠ 92) : addH p (spL (b :: l)) = addH (p ++ [b]) (spL l) := by
  rw [spL, if_neg h]
  cases hs : spL l with
  | nil => exact absurd hs (spL_ne l)
  | cons a t => simp [addH]

set_option maxHeartbeats 2000000 in
/-- strings.Split at a backslash. -/
theorem str_split (s : ByteArray) (w : World) (hs : s.size ≤ 8000000) :
    Calls Tryz.prog 115 #[.string s, .string { data := #[92] }] w fun e w' => e = .returned (.slice (some ⟨w.heap.size, 0, none⟩) (spB s).length (spB s).length) ∧ w.alloc (.cells ((spB s).map Value.string).toArray 9) = w' := by
  have L := splLays146
  have hlen := Lib.splitB_all ⟨#[92]⟩ (by decide) 0 _ s rfl
  have hle : countB s ⟨#[92]⟩ ≤ s.size := Lib.countB_le ⟨#[92]⟩ (by decide) s.size s (Nat.le_refl _)
  have hI : ∀ (x : ByteArray) (c : Array Value), x.size ≤ s.size → Calls Tryz.prog (splRen.f 143) #[.string x, .string ⟨#[92]⟩] (w.alloc (.cells c (splRen.t 9))) fun e w' => e = .returned (.int .i64 (Lib.indexB x ⟨#[92]⟩)) ∧ w' = w.alloc (.cells c (splRen.t 9)) := fun x c _ =>
    (Any.strings_Index_one { L with } x 92 _).mono fun e w' ⟨he, hw⟩ => ⟨by rw [he]; show _ = Ending.returned (Value.int .i64 (Lib.index x.data.toList [92])); rw [Lib.index_one], hw⟩
  have hC : Calls Tryz.prog (splRen.f 138) #[.string s, .string ⟨#[92]⟩] w fun e w' => e = .returned (.int .i64 (Lib.countB s ⟨#[92]⟩)) ∧ w' = w :=
    (Any.strings_Count_one { L with } s 92 w).mono fun e w' ⟨he, hw⟩ => ⟨by rw [he]; show _ = Ending.returned (Value.int .i64 ((Lib.count s.data.toList [92] : Nat) : Int)); rw [Lib.count_one]; rfl, hw⟩
  have c := Any.strings_genSplit_core (P := Tryz.prog) (ρ := splRen) { L with } (by kernel_rfl) s ⟨#[92]⟩ 0 (-1) (Lib.countB s ⟨#[92]⟩ + 1) w (by omega) (by decide) (Nat.zero_le _) hI hC (by decide) (by decide) (by rw [if_pos (by decide)]; omega)
  rw [Nat.add_sub_cancel, hlen] at c
  have e2 : Lib.cellsOf (Lib.splitB ⟨#[92]⟩ 0 (Lib.countB s ⟨#[92]⟩) s) (Lib.countB s ⟨#[92]⟩ + 1) = ((Lib.splitB ⟨#[92]⟩ 0 (Lib.countB s ⟨#[92]⟩) s).map Value.string).toArray := by rw [← hlen]; exact Lib.cellsOf_full _
  rw [e2, splitB_spB] at c
  have hl2 : Lib.countB s ⟨#[92]⟩ + 1 = (spB s).length := by rw [← splitB_spB, hlen]
  rw [hl2] at c
  replace c : Calls Tryz.prog 147 #[.string s, .string { data := #[92] }, .int .i64 0, .int .i64 (-1)] w fun e w' => e = .returned (.slice (some ⟨w.heap.size, 0, none⟩) (spB s).length (spB s).length) ∧ w' = w.alloc (.cells ((spB s).map Value.string).toArray 9) := c
  generalize (spB s).length = n at *
  generalize ((spB s).map Value.string).toArray = C at *
  clear hI hC e2 hl2 hlen hle
  go_enter Tryz.func115, Tryz.ntmps115
  go_wp2_with (go_at_call 147; refine c.mono ?_; rintro e w' ⟨rfl, rfl⟩)
  go_ret
  exact ⟨rfl, rfl⟩
end Go.Proofs.YtgdemlebohlolaaGreatDoor.Sp
