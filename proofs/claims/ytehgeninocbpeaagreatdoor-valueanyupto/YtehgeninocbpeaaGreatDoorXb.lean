import Derived.Test.YtehgeninocbpeaaGreatDoorUa
import Derived.Lib.SplitLaws
/-
  DERIVED. A text parted at a byte, over lists: as the library parts it, and as a scan does.
-/
namespace Go.Proofs.YtehgeninocbpeaaGreatDoor.Se
open Go Go.Proofs Go.RowKit Go.Lib
open Go.Proofs.YtehgeninocbpeaaGreatDoor.Sp (splRen splLays146)

/-- A text parted at each backslash. -/
def spL : List UInt8 → List (List UInt8)
  | [] => [[]]
  | b :: l => if b = 61 then [] :: spL l else match spL l with
    | h :: t => (b :: h) :: t
    | [] => [[b]]
theorem spL_ne : ∀ l, spL l ≠ []
  | [] => by simp [spL]
  | b :: l => by
      unfold spL
      by_cases h : b = 61
      · rw [if_pos h]; simp
      · rw [if_neg h]; cases spL l <;> simp
theorem spL_none : ∀ l : List UInt8, (∀ k : Nat, l[k]? ≠ some 61) → spL l = [l]
  | [], _ => rfl
  | b :: l, h => by
      have h0 := h 0
      simp at h0
      have := spL_none l (fun k => by have := h (k + 1); simpa using this)
      unfold spL
      rw [if_neg h0, this]
theorem spL_at : ∀ (o : Nat) (l : List UInt8), l[o]? = some 61 → (∀ k : Nat, k < o → l[k]? ≠ some 61) → spL l = l.take o :: spL (l.drop (o + 1))
  | _, [], h, _ => by simp at h
  | 0, b :: l, h, _ => by
      simp at h
      subst h
      simp [spL]
  | o + 1, b :: l, h, hk => by
      have h0 := hk 0 (by omega)
      simp at h0
      have := spL_at o l (by simpa using h) (fun k hk2 => by have := hk (k + 1) (by omega); simpa using this)
      rw [spL, if_neg h0, this]
      simp
theorem splitK_spL : ∀ (k : Nat) (l : List UInt8), l.count 61 ≤ k → splitK [61] 0 k l = spL l := by
  intro k
  induction k with
  | zero =>
    intro l h
    rw [spL_none l]
    · rfl
    · intro j hj
      have : (61 : UInt8) ∈ l := List.mem_of_getElem? hj
      have := List.count_pos_iff.2 this
      omega
  | succ k ih =>
    intro l h
    unfold splitK
    rw [index_one]
    by_cases hm : indexByte l 61 = -1
    · rw [if_pos (by rw [hm]; rfl), spL_none l (indexByte_none hm)]
    · rw [if_neg (by simpa using hm)]
      have hge := indexByte_ge l 61
      obtain ⟨o, ho⟩ : ∃ o : Nat, indexByte l 61 = o := ⟨(indexByte l 61).toNat, by omega⟩
      obtain ⟨h1, h2⟩ := indexByte_some ho
      rw [ho, spL_at o l h1 h2]
      have hlt : o < l.length := by
        rcases Nat.lt_or_ge o l.length with q | q
        · exact q
        · rw [List.getElem?_eq_none q] at h1; cases h1
      have hc : (l.drop (o + 1)).count 61 ≤ k := by
        have e : l = l.take o ++ (61 :: l.drop (o + 1)) := by
          rw [List.getElem?_eq_getElem hlt] at h1
          have := Option.some.inj h1
          rw [← this, List.getElem_cons_drop, List.take_append_drop]
        rw [e, List.count_append, List.count_cons_self] at h
        omega
      simp only [Int.toNat_natCast, Nat.add_zero, List.length_singleton]
      rw [ih _ hc]
/-- Lists of bytes as texts. -/
def bsL (l : List (List UInt8)) : List ByteArray := l.map fun x => ⟨x.toArray⟩
theorem bsL_back (l : List ByteArray) : bsL (l.map (·.data.toList)) = l := by
  unfold bsL
  rw [List.map_map]
  conv => rhs; rw [← List.map_id l]
  refine List.map_congr_left fun x _ => ?_
  cases x
  simp
/-- The same as texts. -/
def spB (s : ByteArray) : List ByteArray := bsL (spL s.data.toList)
theorem splitB_spB (s : ByteArray) : splitB ⟨#[61]⟩ 0 (countB s ⟨#[61]⟩) s = spB s := by
  rw [← bsL_back (splitB _ _ _ _), splitB_data]
  unfold spB
  rw [splitK_spL]
  show _ ≤ count s.data.toList [61]
  rw [count_one]
  exact Nat.le_refl _
theorem spL_len : ∀ l : List UInt8, (spL l).length ≤ l.length + 1
  | [] => Nat.le_refl _
  | b :: l => by
      have := spL_len l
      unfold spL
      by_cases h : b = 61
      · rw [if_pos h]; simp; omega
      · rw [if_neg h]
        cases hs : spL l with
        | nil => simp
        | cons a t => rw [hs] at this; simp at this ⊢; omega
theorem spB_len (s : ByteArray) : (spB s).length ≤ s.size + 1 := by
  unfold spB bsL
  rw [List.length_map]
  exact spL_len _
theorem spB_ne (s : ByteArray) : spB s ≠ [] := by
  unfold spB bsL
  intro h
  exact spL_ne _ (List.map_eq_nil_iff.1 h)

/-- Some bytes ahead of the first piece. -/
def addH (p : List UInt8) : List (List UInt8) → List (List UInt8)
  | h :: t => (p ++ h) :: t
  | [] => [p]
theorem addH_nil {l : List (List UInt8)} (h : l ≠ []) : addH [] l = l := by
  cases l with
  | nil => exact absurd rfl h
  | cons a t => rfl
theorem addH_cut (p : List UInt8) (l : List UInt8) : addH p (spL (61 :: l)) = p :: spL l := by
  show addH p ([] :: spL l) = _
  simp [addH]
theorem addH_on (p : List UInt8) (b : UInt8) (l : List UInt8) (h : b ≠ 61) : addH p (spL (b :: l)) = addH (p ++ [b]) (spL l) := by
  rw [spL, if_neg h]
  cases hs : spL l with
  | nil => exact absurd hs (spL_ne l)
  | cons a t => simp [addH]

set_option maxHeartbeats 2000000 in
/-- strings.Selit at a backslash. -/
theorem str_split (s : ByteArray) (w : World) (hs : s.size ≤ 8000000) :
    Calls Tryz.prog 20 #[.string s, .string { data := #[61] }] w fun e w' => e = .returned (.slice (some ⟨w.heap.size, 0, none⟩) (spB s).length (spB s).length) ∧ w.alloc (.cells ((spB s).map Value.string).toArray 9) = w' := by
  have L := splLays146
  have hlen := Lib.splitB_all ⟨#[61]⟩ (by decide) 0 _ s rfl
  have hle : countB s ⟨#[61]⟩ ≤ s.size := Lib.countB_le ⟨#[61]⟩ (by decide) s.size s (Nat.le_refl _)
  have hI : ∀ (x : ByteArray) (c : Array Value), x.size ≤ s.size → Calls Tryz.prog (splRen.f 143) #[.string x, .string ⟨#[61]⟩] (w.alloc (.cells c (splRen.t 9))) fun e w' => e = .returned (.int .i64 (Lib.indexB x ⟨#[61]⟩)) ∧ w' = w.alloc (.cells c (splRen.t 9)) := fun x c _ =>
    (Any.strings_Index_one { L with } x 61 _).mono fun e w' ⟨he, hw⟩ => ⟨by rw [he]; show _ = Ending.returned (Value.int .i64 (Lib.index x.data.toList [61])); rw [Lib.index_one], hw⟩
  have hC : Calls Tryz.prog (splRen.f 138) #[.string s, .string ⟨#[61]⟩] w fun e w' => e = .returned (.int .i64 (Lib.countB s ⟨#[61]⟩)) ∧ w' = w :=
    (Any.strings_Count_one { L with } s 61 w).mono fun e w' ⟨he, hw⟩ => ⟨by rw [he]; show _ = Ending.returned (Value.int .i64 ((Lib.count s.data.toList [61] : Nat) : Int)); rw [Lib.count_one]; rfl, hw⟩
  have c := Any.strings_genSplit_core (P := Tryz.prog) (ρ := splRen) { L with } (by kernel_rfl) s ⟨#[61]⟩ 0 (-1) (Lib.countB s ⟨#[61]⟩ + 1) w (by omega) (by decide) (Nat.zero_le _) hI hC (by decide) (by decide) (by rw [if_pos (by decide)]; omega)
  rw [Nat.add_sub_cancel, hlen] at c
  have e2 : Lib.cellsOf (Lib.splitB ⟨#[61]⟩ 0 (Lib.countB s ⟨#[61]⟩) s) (Lib.countB s ⟨#[61]⟩ + 1) = ((Lib.splitB ⟨#[61]⟩ 0 (Lib.countB s ⟨#[61]⟩) s).map Value.string).toArray := by rw [← hlen]; exact Lib.cellsOf_full _
  rw [e2, splitB_spB] at c
  have hl2 : Lib.countB s ⟨#[61]⟩ + 1 = (spB s).length := by rw [← splitB_spB, hlen]
  rw [hl2] at c
  replace c : Calls Tryz.prog 48 #[.string s, .string { data := #[61] }, .int .i64 0, .int .i64 (-1)] w fun e w' => e = .returned (.slice (some ⟨w.heap.size, 0, none⟩) (spB s).length (spB s).length) ∧ w' = w.alloc (.cells ((spB s).map Value.string).toArray 9) := c
  generalize (spB s).length = n at *
  generalize ((spB s).map Value.string).toArray = C at *
  clear hI hC e2 hl2 hlen hle
  go_enter Tryz.func20, Tryz.ntmps20
  go_wp2_with (go_at_call 48; refine c.mono ?_; rintro e w' ⟨rfl, rfl⟩)
  go_ret
  exact ⟨rfl, rfl⟩
end Go.Proofs.YtehgeninocbpeaaGreatDoor.Se
