import Derived.Test.YtdggplhkeekdjaaGreatDoorProg
import Derived.Shelf.Strings.Split
import Derived.Lib.SplitLaws
namespace Go.Proofs.YtdggplhkeekdjaaGreatDoor.Sp
open Go Go.Proofs Go.RowKit Go.Shelf Go.Lib

/-- What the shelf's names are here. -/
def splRen : Go.Shelf.Ren := ⟨fun | 138 => 150 | 143 => 162 | 146 => 135 | 195 => 111 | 197 => 98 | 217 => 136 | 218 => 161 | 219 => 171 | 221 => 153 | 224 => 114 | 225 => 115 | 260 => 106 | 266 => 154 | 267 => 178 | 268 => 164 | 314 => 180 | n => n, fun | 0 => 0 | 3 => 3 | 4 => 4 | 5 => 5 | 9 => 9 | 21 => 21 | 31 => 22 | 46 => 138 | 51 => 24 | 105 => 190 | 119 => 199 | 138 => 201 | 139 => 202 | 146 => 234 | n => n, fun | 1 => 2 | 3 => 0 | 4 => 1 | n => n⟩
theorem splLays146 : Go.Proofs.Lays.n146 Tryz.prog splRen := {
  mixed := by kernel_rfl,
  f138 := Tryz.func150.trans (congrArg some (by kernel_rfl)),
  f143 := Tryz.func162.trans (congrArg some (by kernel_rfl)),
  f146 := Tryz.func135.trans (congrArg some (by kernel_rfl)),
  f195 := Tryz.func111.trans (congrArg some (by kernel_rfl)),
  f197 := Tryz.func98.trans (congrArg some (by kernel_rfl)),
  f217 := Tryz.func136.trans (congrArg some (by kernel_rfl)),
  f218 := Tryz.func161.trans (congrArg some (by kernel_rfl)),
  f219 := Tryz.func171.trans (congrArg some (by kernel_rfl)),
  f221 := Tryz.func153.trans (congrArg some (by kernel_rfl)),
  f224 := Tryz.func114.trans (congrArg some (by kernel_rfl)),
  f225 := Tryz.func115.trans (congrArg some (by kernel_rfl)),
  f260 := Tryz.func106.trans (congrArg some (by kernel_rfl)),
  f266 := Tryz.func154.trans (congrArg some (by kernel_rfl)),
  f267 := Tryz.func178.trans (congrArg some (by kernel_rfl)),
  f268 := Tryz.func164.trans (congrArg some (by kernel_rfl)),
  f314 := Tryz.func180.trans (congrArg some (by kernel_rfl)),
  t0 := Tryz.underlying0,
  a0 := Tryz.isAgg0,
  z0 := Tryz.sizeOf0,
  v0 := Tryz.zeroValue0,
  t3 := Tryz.underlying3,
  a3 := Tryz.isAgg3,
  z3 := Tryz.sizeOf3,
  v3 := Tryz.zeroValue3,
  t4 := Tryz.underlying4,
  a4 := Tryz.isAgg4,
  z4 := Tryz.sizeOf4,
  v4 := Tryz.zeroValue4,
  t5 := Tryz.underlying5,
  a5 := Tryz.isAgg5,
  z5 := Tryz.sizeOf5,
  v5 := Tryz.zeroValue5,
  t9 := Tryz.underlying9,
  a9 := Tryz.isAgg9,
  z9 := Tryz.sizeOf9,
  v9 := Tryz.zeroValue9,
  t21 := Tryz.underlying21,
  a21 := Tryz.isAgg21,
  z21 := Tryz.sizeOf21,
  v21 := Tryz.zeroValue21,
  t31 := Tryz.underlying22,
  a31 := Tryz.isAgg22,
  z31 := Tryz.sizeOf22,
  v31 := Tryz.zeroValue22,
  t46 := Tryz.underlying138,
  a46 := Tryz.isAgg138,
  z46 := Tryz.sizeOf138,
  v46 := Tryz.zeroValue138,
  t51 := Tryz.underlying24,
  a51 := Tryz.isAgg24,
  z51 := Tryz.sizeOf24,
  v51 := Tryz.zeroValue24,
  t105 := Tryz.underlying190,
  a105 := Tryz.isAgg190,
  z105 := Tryz.sizeOf190,
  v105 := Tryz.zeroValue190,
  t119 := Tryz.underlying199,
  a119 := Tryz.isAgg199,
  z119 := Tryz.sizeOf199,
  t138 := Tryz.underlying201,
  a138 := Tryz.isAgg201,
  z138 := Tryz.sizeOf201,
  v138 := Tryz.zeroValue201,
  t139 := Tryz.underlying202,
  a139 := Tryz.isAgg202,
  z139 := Tryz.sizeOf202,
  v139 := Tryz.zeroValue202,
  t146 := Tryz.underlying234,
  a146 := Tryz.isAgg234,
  z146 := Tryz.sizeOf234,
  v146 := Tryz.zeroValue234,
  g1 := by kernel_rfl,
  g3 := by kernel_rfl,
  g4 := by kernel_rfl }
end Go.Proofs.YtdggplhkeekdjaaGreatDoor.Sp

/-
  DERIVED. A text parted at a byte, over lists: as the library parts it, and as a scan does.
-/
namespace Go.Proofs.YtdggplhkeekdjaaGreatDoor.Sp
open Go Go.Proofs Go.RowKit Go.Lib

/-- A text parted at each backslash. -/
def spL : List UInt8 → List (List UInt8)
  | [] => [[]]
  | b :: l => if b = 92 then [] :: spL l else match spL l with
    | h :: t => (b :: h) :: t
    | [] => [[b]]
theorem spL_ne : ∀ l, spL l ≠ []
  | [] => by simp [spL]
  | b :: l => by
      unfold spL
      by_cases h : b = 92
      · rw [if_pos h]; simp
      · rw [if_neg h]; cases spL l <;> simp
theorem spL_none : ∀ l : List UInt8, (∀ k : Nat, l[k]? ≠ some 92) → spL l = [l]
  | [], _ => rfl
  | b :: l, h => by
      have h0 := h 0
      simp at h0
      have := spL_none l (fun k => by have := h (k + 1); simpa using this)
      unfold spL
      rw [if_neg h0, this]
theorem spL_at : ∀ (o : Nat) (l : List UInt8), l[o]? = some 92 → (∀ k : Nat, k < o → l[k]? ≠ some 92) → spL l = l.take o :: spL (l.drop (o + 1))
  | _, [], h, _ => by simp at h
  | 0, b :: l, h, _ => by
      simp at h
      subst h
      simp [spL]
  | o + 1, b :: l, h, hk => by
      have h0 := hk 0 (by omega)
      simp at h0
      have := spL_at o l (by simpa using h) (fun k hk2 => by have := hk (k + 1) (by omega); simpa using this)
      rw [spL, if_neg h0, this]
      simp
theorem splitK_spL : ∀ (k : Nat) (l : List UInt8), l.count 92 ≤ k → splitK [92] 0 k l = spL l := by
  intro k
  induction k with
  | zero =>
    intro l h
    rw [spL_none l]
    · rfl
    · intro j hj
      have : (92 : UInt8) ∈ l := List.mem_of_getElem? hj
      have := List.count_pos_iff.2 this
      omega
  | succ k ih =>
    intro l h
    unfold splitK
    rw [index_one]
    by_cases hm : indexByte l 92 = -1
    · rw [if_pos (by rw [hm]; rfl), spL_none l (indexByte_none hm)]
    · rw [if_neg (by simpa using hm)]
      have hge := indexByte_ge l 92
      obtain ⟨o, ho⟩ : ∃ o : Nat, indexByte l 92 = o := ⟨(indexByte l 92).toNat, by omega⟩
      obtain ⟨h1, h2⟩ := indexByte_some ho
      rw [ho, spL_at o l h1 h2]
      have hlt : o < l.length := by
        rcases Nat.lt_or_ge o l.length with q | q
        · exact q
        · rw [List.getElem?_eq_none q] at h1; cases h1
      have hc : (l.drop (o + 1)).count 92 ≤ k := by
        have e : l = l.take o ++ (92 :: l.drop (o + 1)) := by
          rw [List.getElem?_eq_getElem hlt] at h1
          have := Option.some.inj h1
          rw [← this, List.getElem_cons_drop, List.take_append_drop]
        rw [e, List.count_append, List.count_cons_self] at h
        omega
      simp only [Int.toNat_natCast, Nat.add_zero, List.length_singleton]
      rw [ih _ hc]
/-- Lists of bytes as texts. -/
def bsL (l : List (List UInt8)) : List ByteArray := l.map fun x => ⟨x.toArray⟩
theorem bsL_back (l : List ByteArray) : bsL (l.map (·.data.toList)) = l := by
  unfold bsL
  rw [List.map_map]
  conv => rhs; rw [← List.map_id l]
  refine List.map_congr_left fun x _ => ?_
  cases x
  simp
/-- The same as texts. -/
def spB (s : ByteArray) : List ByteArray := bsL (spL s.data.toList)
theorem splitB_spB (s : ByteArray) : splitB ⟨#[92]⟩ 0 (countB s ⟨#[92]⟩) s = spB s := by
  rw [← bsL_back (splitB _ _ _ _), splitB_data]
  unfold spB
  rw [splitK_spL]
  show _ ≤ count s.data.toList [92]
  rw [count_one]
  exact Nat.le_refl _
theorem spL_len : ∀ l : List UInt8, (spL l).length ≤ l.length + 1
  | [] => Nat.le_refl _
  | b :: l => by
      have := spL_len l
      unfold spL
      by_cases h : b = 92
      · rw [if_pos h]; simp; omega
      · rw [if_neg h]
        cases hs : spL l with
        | nil => simp
        | cons a t => rw [hs] at this; simp at this ⊢; omega
theorem spB_len (s : ByteArray) : (spB s).length ≤ s.size + 1 := by
  unfold spB bsL
  rw [List.length_map]
  exact spL_len _
theorem spB_ne (s : ByteArray) : spB s ≠ [] := by
  unfold spB bsL
  intro h
  exact spL_ne _ (List.map_eq_nil_iff.1 h)

/-- Some bytes ahead of the first piece. -/
def addH (p : List UInt8) : List (List UInt8) → List (List UInt8)
  | h :: t => (p ++ h) :: t
  | [] => [p]
theorem addH_nil {l : List (List UInt8)} (h : l ≠ []) : addH [] l = l := by
  cases l with
  | nil => exact absurd rfl h
  | cons a t => rfl
theorem addH_cut (p : List UInt8) (l : List UInt8) : addH p (spL (92 :: l)) = p :: spL l := by
  show addH p ([] :: spL l) = _
  simp [addH]
theorem addH_on (p : List UInt8) (b : UInt8) (l : List UInt8) (h : b ≠ 92) : addH p (spL (b :: l)) = addH (p ++ [b]) (spL l) := by
  rw [spL, if_neg h]
  cases hs : spL l with
  | nil => exact absurd hs (spL_ne l)
  | cons a t => simp [addH]

set_option maxHeartbeats 2000000 in
/-- strings.Split at a backslash. -/
theorem str_split (s : ByteArray) (w : World) (hs : s.size ≤ 8000000) :
    Calls Tryz.prog 135 #[.string s, .string { data := #[92] }] w fun e w' => e = .returned (.slice (some ⟨w.heap.size, 0, none⟩) (spB s).length (spB s).length) ∧ w.alloc (.cells ((spB s).map Value.string).toArray 9) = w' := by
  have L := splLays146
  have hlen := Lib.splitB_all ⟨#[92]⟩ (by decide) 0 _ s rfl
  have hle : countB s ⟨#[92]⟩ ≤ s.size := Lib.countB_le ⟨#[92]⟩ (by decide) s.size s (Nat.le_refl _)
  have hI : ∀ (x : ByteArray) (c : Array Value), x.size ≤ s.size → Calls Tryz.prog (splRen.f 143) #[.string x, .string ⟨#[92]⟩] (w.alloc (.cells c (splRen.t 9))) fun e w' => e = .returned (.int .i64 (Lib.indexB x ⟨#[92]⟩)) ∧ w' = w.alloc (.cells c (splRen.t 9)) := fun x c _ =>
    (Any.strings_Index_one { L with } x 92 _).mono fun e w' ⟨he, hw⟩ => ⟨by rw [he]; show _ = Ending.returned (Value.int .i64 (Lib.index x.data.toList [92])); rw [Lib.index_one], hw⟩
  have hC : Calls Tryz.prog (splRen.f 138) #[.string s, .string ⟨#[92]⟩] w fun e w' => e = .returned (.int .i64 (Lib.countB s ⟨#[92]⟩)) ∧ w' = w :=
    (Any.strings_Count_one { L with } s 92 w).mono fun e w' ⟨he, hw⟩ => ⟨by rw [he]; show _ = Ending.returned (Value.int .i64 ((Lib.count s.data.toList [92] : Nat) : Int)); rw [Lib.count_one]; rfl, hw⟩
  have c := Any.strings_genSplit_core (P := Tryz.prog) (ρ := splRen) { L with } (by kernel_rfl) s ⟨#[92]⟩ 0 (-1) (Lib.countB s ⟨#[92]⟩ + 1) w (by omega) (by decide) (Nat.zero_le _) hI hC (by decide) (by decide) (by rw [if_pos (by decide)]; omega)
  rw [Nat.add_sub_cancel, hlen] at c
  have e2 : Lib.cellsOf (Lib.splitB ⟨#[92]⟩ 0 (Lib.countB s ⟨#[92]⟩) s) (Lib.countB s ⟨#[92]⟩ + 1) = ((Lib.splitB ⟨#[92]⟩ 0 (Lib.countB s ⟨#[92]⟩) s).map Value.string).toArray := by rw [← hlen]; exact Lib.cellsOf_full _
  rw [e2, splitB_spB] at c
  have hl2 : Lib.countB s ⟨#[92]⟩ + 1 = (spB s).length := by rw [← splitB_spB, hlen]
  rw [hl2] at c
  replace c : Calls Tryz.prog 153 #[.string s, .string { data := #[92] }, .int .i64 0, .int .i64 (-1)] w fun e w' => e = .returned (.slice (some ⟨w.heap.size, 0, none⟩) (spB s).length (spB s).length) ∧ w' = w.alloc (.cells ((spB s).map Value.string).toArray 9) := c
  generalize (spB s).length = n at *
  generalize ((spB s).map Value.string).toArray = C at *
  clear hI hC e2 hl2 hlen hle
  go_enter Tryz.func135, Tryz.ntmps135
  go_wp2_with (go_at_call 153; refine c.mono ?_; rintro e w' ⟨rfl, rfl⟩)
  go_ret
  exact ⟨rfl, rfl⟩
end Go.Proofs.YtdggplhkeekdjaaGreatDoor.Sp
