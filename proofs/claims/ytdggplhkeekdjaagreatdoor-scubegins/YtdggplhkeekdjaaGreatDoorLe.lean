import Derived.Test.YtdggplhkeekdjaaGreatDoorRE
import Derived.Test.YtdggplhkeekdjaaGreatDoorRK
import Derived.Lib.ConvBytes
import Derived.Laws.IdiomStrings
import Derived.Test.YtdggplhkeekdjaaGreatDoorLd
import Derived.Test.YtdggplhkeekdjaaGreatDoorSg
/-
  DERIVED. A text that is bumped; nodes that are turned where they lie.
-/
namespace Go.Proofs.YtdggplhkeekdjaaGreatDoor.Sp
open Go Go.Proofs Go.RowKit

theorem cell_set_neq {W : World} {b i j : Nat} {v : Value} (h : i ≠ j) : (W.setCell ⟨b, i, none⟩ v).cell? ⟨b, j, none⟩ = W.cell? ⟨b, j, none⟩ := by
  apply World.cell?_setCell_other; simp
theorem cell_set_eq {W : World} {b i : Nat} {v u : Value} (h : W.cell? ⟨b, i, none⟩ = some u) : (W.setCell ⟨b, i, none⟩ v).cell? ⟨b, i, none⟩ = some v := by
  apply World.cell?_setCell_same; exact h

/-- A VR whose elements have values. -/
def okV (v : Int) : Bool := decide (1 ≤ v ∧ v ≤ 28 ∧ v ≠ 18)
set_option maxRecDepth 100000 in
set_option maxHeartbeats 2000000 in
theorem values_any (W : World) (v : Int) : ∃ n p u m t c q l cf ff, (Rp.FunV cf ∧ Rp.FunV ff) ∧ (okV v = true → u = Rp.un (Rp.vn v) ∧ t = Rp.tx (Rp.vn v) ∧ q = Rp.mu (Rp.vn v)) ∧ Calls Tryz.prog 82 #[.int .i64 v] W fun e w' => e = .returned (.tuple #[.agg #[.string n, .int .u8 p, .int .i64 u, .int .i64 m, .bool t, .bool c, .bool q, .bool l, cf, ff], .bool (okV v)]) ∧ Hid (Below W.heap.size W w') := by
  by_cases h18 : v = 18
  · subst h18
    rw [show okV 18 = false from by decide]
    refine ⟨{ data := #[] }, 0, 0, 0, false, false, false, false, .nilFunc, .nilFunc, ⟨⟨.inl rfl, .inl rfl⟩, fun h => (by cases h), ?_⟩⟩
    go_enter Tryz.func82, Tryz.ntmps82
    go_wp2
    exact bodyPost_ret (by simp only [results, Tryz.results82]; simp [go_sem]) rfl ⟨rfl, (Below.refl _ _).alloc (Nat.le_refl _) _⟩
  · obtain ⟨cf, ff, hcf, hff, c25⟩ : ∃ cf ff, Rp.FunV cf ∧ Rp.FunV ff ∧ ∀ W, Calls Tryz.prog 101 #[.int .i64 v] W fun e w' => e = .returned (.tuple #[.agg #[.string (Rp.nm (Rp.vn v)), .int .u8 (Rp.pd (Rp.vn v)), .int .i64 (Rp.un (Rp.vn v)), .int .i64 (Rp.mo (Rp.vn v)), .bool (Rp.tx (Rp.vn v)), .bool (Rp.ch (Rp.vn v)), .bool (Rp.mu (Rp.vn v)), .bool (Rp.lo (Rp.vn v)), cf, ff], .bool (decide (1 ≤ v ∧ v ≤ 28))]) ∧ Below W.heap.size W w' := by
      obtain ⟨cf, ff, h1, h2, h3⟩ := Rp.rep_shape v
      refine ⟨cf, ff, h1, h2, fun W => ?_⟩
      have := Rp.repOf_any W v
      rw [h3] at this
      exact this
    refine ⟨Rp.nm (Rp.vn v), Rp.pd (Rp.vn v), Rp.un (Rp.vn v), Rp.mo (Rp.vn v), Rp.tx (Rp.vn v), Rp.ch (Rp.vn v), Rp.mu (Rp.vn v), Rp.lo (Rp.vn v), cf, ff, ⟨⟨hcf, hff⟩, fun _ => ⟨rfl, rfl, rfl⟩, ?_⟩⟩
    have hok : decide (1 ≤ v ∧ v ≤ 28) = okV v := by unfold okV; simp [h18]
    rw [hok] at c25
    generalize okV v = ok at *
    generalize Rp.nm (Rp.vn v) = n at *
    generalize Rp.pd (Rp.vn v) = p at *
    generalize Rp.un (Rp.vn v) = u at *
    generalize Rp.mo (Rp.vn v) = m at *
    generalize Rp.tx (Rp.vn v) = t at *
    generalize Rp.ch (Rp.vn v) = c at *
    generalize Rp.mu (Rp.vn v) = q at *
    generalize Rp.lo (Rp.vn v) = l at *
    clear hok
    have HC : Hid (∀ w', Below (W.heap.size + 1) (W.alloc (.cells #[.string ⟨#[]⟩, .int .u8 0, .int .i64 0, .int .i64 0, .bool false, .bool false, .bool false, .bool false, .nilFunc, .nilFunc] 179)) w' → w'.cell? ⟨W.heap.size, 0, none⟩ = some (.string ⟨#[]⟩) ∧ w'.frozen? ⟨W.heap.size, 0, none⟩ = false ∧ w'.cell? ⟨W.heap.size, 1, none⟩ = some (.int .u8 0) ∧ w'.frozen? ⟨W.heap.size, 1, none⟩ = false ∧ w'.cell? ⟨W.heap.size, 2, none⟩ = some (.int .i64 0) ∧ w'.frozen? ⟨W.heap.size, 2, none⟩ = false ∧ w'.cell? ⟨W.heap.size, 3, none⟩ = some (.int .i64 0) ∧ w'.frozen? ⟨W.heap.size, 3, none⟩ = false ∧ w'.cell? ⟨W.heap.size, 4, none⟩ = some (.bool false) ∧ w'.frozen? ⟨W.heap.size, 4, none⟩ = false ∧ w'.cell? ⟨W.heap.size, 5, none⟩ = some (.bool false) ∧ w'.frozen? ⟨W.heap.size, 5, none⟩ = false ∧ w'.cell? ⟨W.heap.size, 6, none⟩ = some (.bool false) ∧ w'.frozen? ⟨W.heap.size, 6, none⟩ = false ∧ w'.cell? ⟨W.heap.size, 7, none⟩ = some (.bool false) ∧ w'.frozen? ⟨W.heap.size, 7, none⟩ = false ∧ w'.cell? ⟨W.heap.size, 8, none⟩ = some (.nilFunc) ∧ w'.frozen? ⟨W.heap.size, 8, none⟩ = false ∧ w'.cell? ⟨W.heap.size, 9, none⟩ = some (.nilFunc) ∧ w'.frozen? ⟨W.heap.size, 9, none⟩ = false) := fun w' hb => by
      have hh : w'.heap[W.heap.size]? = some (.cells #[.string ⟨#[]⟩, .int .u8 0, .int .i64 0, .int .i64 0, .bool false, .bool false, .bool false, .bool false, .nilFunc, .nilFunc] 179) := (hb.block W.heap.size (by omega)).trans (Wk.heap_new W _)
      refine ⟨?_, ?_, ?_, ?_, ?_, ?_, ?_, ?_, ?_, ?_, ?_, ?_, ?_, ?_, ?_, ?_, ?_, ?_, ?_, ?_⟩
      all_goals first | (rw [cell_of_row _ _ _ _ _ _ hh]; rfl) | (rw [World.frozen?, hh]; rfl)
    rcases hcf with rfl | ⟨j, rfl⟩ <;> rcases hff with rfl | ⟨j2, rfl⟩
    all_goals go_enter Tryz.func82, Tryz.ntmps82
    all_goals go_wp2_with (first | (go_at_call 101; refine (c25 _).mono ?_; rintro e w' ⟨rfl, hb⟩; rw [Wk.size_alloc] at hb; obtain ⟨c0, f0, c1, f1, c2, f2, c3, f3, c4, f4, c5, f5, c6, f6, c7, f7, c8, f8, c9, f9⟩ := HC.out w' hb; have HBL : Hid (Below W.heap.size W w') := (((Below.refl _ _).alloc (Nat.le_refl _) _)).trans (hb.mono (by omega)); clear hb) | fail)
    all_goals exact bodyPost_ret (by simp only [results, Tryz.results82]; simp [go_sem, *]) rfl ⟨rfl, ((((((((((HBL.out.setCell (Nat.le_refl _) _).setCell (Nat.le_refl _) _).setCell (Nat.le_refl _) _).setCell (Nat.le_refl _) _).setCell (Nat.le_refl _) _).setCell (Nat.le_refl _) _).setCell (Nat.le_refl _) _).setCell (Nat.le_refl _) _).setCell (Nat.le_refl _) _).setCell (Nat.le_refl _) _)⟩
end Go.Proofs.YtdggplhkeekdjaaGreatDoor.Sp

/-
  DERIVED. A text parted at any byte.
-/
namespace Go.Proofs.YtdggplhkeekdjaaGreatDoor.Ck
open Go Go.Proofs Go.RowKit Go.Lib
open Go.Proofs.YtdggplhkeekdjaaGreatDoor.Sp (splRen splLays146 bsL bsL_back addH addH_nil)

/-- A text parted at each backslash. -/
def spCL (c : UInt8) : List UInt8 → List (List UInt8)
  | [] => [[]]
  | b :: l => if b = c then [] :: spCL c l else match spCL c l with
    | h :: t => (b :: h) :: t
    | [] => [[b]]
theorem spCL_ne (c : UInt8) : ∀ l, spCL c l ≠ []
  | [] => by simp [spCL]
  | b :: l => by
      unfold spCL
      by_cases h : b = c
      · rw [if_pos h]; simp
      · rw [if_neg h]; cases spCL c l <;> simp
theorem spCL_none (c : UInt8) : ∀ l : List UInt8, (∀ k : Nat, l[k]? ≠ some c) → spCL c l = [l]
  | [], _ => rfl
  | b :: l, h => by
      have h0 := h 0
      simp at h0
      have := spCL_none c l (fun k => by have := h (k + 1); simpa using this)
      unfold spCL
      rw [if_neg h0, this]
theorem spCL_at (c : UInt8) : ∀ (o : Nat) (l : List UInt8), l[o]? = some c → (∀ k : Nat, k < o → l[k]? ≠ some c) → spCL c l = l.take o :: spCL c (l.drop (o + 1))
  | _, [], h, _ => by simp at h
  | 0, b :: l, h, _ => by
      simp at h
      subst h
      simp [spCL]
  | o + 1, b :: l, h, hk => by
      have h0 := hk 0 (by omega)
      simp at h0
      have := spCL_at c o l (by simpa using h) (fun k hk2 => by have := hk (k + 1) (by omega); simpa using this)
      rw [spCL, if_neg h0, this]
      simp
theorem splitK_spCL (c : UInt8) : ∀ (k : Nat) (l : List UInt8), l.count c ≤ k → splitK [c] 0 k l = spCL c l := by
  intro k
  induction k with
  | zero =>
    intro l h
    rw [spCL_none c l]
    · rfl
    · intro j hj
      have : (c : UInt8) ∈ l := List.mem_of_getElem? hj
      have := List.count_pos_iff.2 this
      omega
  | succ k ih =>
    intro l h
    unfold splitK
    rw [index_one]
    by_cases hm : indexByte l c = -1
    · rw [if_pos (by rw [hm]; rfl), spCL_none c l (Lib.indexByte_none hm)]
    · rw [if_neg (by simpa using hm)]
      have hge := indexByte_ge l c
      obtain ⟨o, ho⟩ : ∃ o : Nat, indexByte l c = o := ⟨(indexByte l c).toNat, by omega⟩
      obtain ⟨h1, h2⟩ := Lib.indexByte_some ho
      rw [ho, spCL_at c o l h1 h2]
      have hlt : o < l.length := by
        rcases Nat.lt_or_ge o l.length with q | q
        · exact q
        · rw [List.getElem?_eq_none q] at h1; cases h1
      have hc : (l.drop (o + 1)).count c ≤ k := by
        have e : l = l.take o ++ (c :: l.drop (o + 1)) := by
          rw [List.getElem?_eq_getElem hlt] at h1
          have := Option.some.inj h1
          rw [← this, List.getElem_cons_drop, List.take_append_drop]
        rw [e, List.count_append, List.count_cons_self] at h
        omega
      simp only [Int.toNat_natCast, Nat.add_zero, List.length_singleton]
      rw [ih _ hc]
/-- The same as texts. -/
def spCB (c : UInt8) (s : ByteArray) : List ByteArray := bsL (spCL c s.data.toList)
theorem splitB_spCB (c : UInt8) (s : ByteArray) : splitB ⟨#[c]⟩ 0 (countB s ⟨#[c]⟩) s = spCB c s := by
  rw [← bsL_back (splitB _ _ _ _), splitB_data]
  unfold spCB
  rw [splitK_spCL c]
  show _ ≤ count s.data.toList [c]
  rw [count_one]
  exact Nat.le_refl _
theorem spCL_len (c : UInt8) : ∀ l : List UInt8, (spCL c l).length ≤ l.length + 1
  | [] => Nat.le_refl _
  | b :: l => by
      have := spCL_len c l
      unfold spCL
      by_cases h : b = c
      · rw [if_pos h]; simp; omega
      · rw [if_neg h]
        cases hs : spCL c l with
        | nil => simp
        | cons a t => rw [hs] at this; simp at this ⊢; omega
theorem spCB_len (c : UInt8) (s : ByteArray) : (spCB c s).length ≤ s.size + 1 := by
  unfold spCB bsL
  rw [List.length_map]
  exact spCL_len c _
theorem spCB_ne (c : UInt8) (s : ByteArray) : spCB c s ≠ [] := by
  unfold spCB bsL
  intro h
  exact spCL_ne c _ (List.map_eq_nil_iff.1 h)

theorem addH_cutC (c : UInt8) (p : List UInt8) (l : List UInt8) : addH p (spCL c (c :: l)) = p :: spCL c l := by
  rw [spCL, if_pos rfl]
  simp [addH]
theorem addH_onC (c : UInt8) (p : List UInt8) (b : UInt8) (l : List UInt8) (h : b ≠ c) : addH p (spCL c (b :: l)) = addH (p ++ [b]) (spCL c l) := by
  rw [spCL, if_neg h]
  cases hs : spCL c l with
  | nil => exact absurd hs (spCL_ne c l)
  | cons a t => simp [addH]

set_option maxHeartbeats 2000000 in
/-- strings.Split at a backslash. -/
theorem strC_split (c : UInt8) (s : ByteArray) (w : World) (hs : s.size ≤ 8000000) :
    Calls Tryz.prog 135 #[.string s, .string { data := #[c] }] w fun e w' => e = .returned (.slice (some ⟨w.heap.size, 0, none⟩) (spCB c s).length (spCB c s).length) ∧ w.alloc (.cells ((spCB c s).map Value.string).toArray 9) = w' := by
  have L := splLays146
  have hlen := Lib.splitB_all ⟨#[c]⟩ (Nat.le_refl 1) 0 _ s rfl
  have hle : countB s ⟨#[c]⟩ ≤ s.size := Lib.countB_le ⟨#[c]⟩ (Nat.le_refl 1) s.size s (Nat.le_refl _)
  have hI : ∀ (x : ByteArray) (cc : Array Value), x.size ≤ s.size → Calls Tryz.prog (splRen.f 143) #[.string x, .string ⟨#[c]⟩] (w.alloc (.cells cc (splRen.t 9))) fun e w' => e = .returned (.int .i64 (Lib.indexB x ⟨#[c]⟩)) ∧ w' = w.alloc (.cells cc (splRen.t 9)) := fun x cc _ =>
    (Any.strings_Index_one { L with } x c _).mono fun e w' ⟨he, hw⟩ => ⟨by rw [he]; show _ = Ending.returned (Value.int .i64 (Lib.index x.data.toList [c])); rw [Lib.index_one], hw⟩
  have hC : Calls Tryz.prog (splRen.f 138) #[.string s, .string ⟨#[c]⟩] w fun e w' => e = .returned (.int .i64 (Lib.countB s ⟨#[c]⟩)) ∧ w' = w :=
    (Any.strings_Count_one { L with } s c w).mono fun e w' ⟨he, hw⟩ => ⟨by rw [he]; show _ = Ending.returned (Value.int .i64 ((Lib.count s.data.toList [c] : Nat) : Int)); rw [Lib.count_one]; rfl, hw⟩
  have cG := Any.strings_genSplit_core (P := Tryz.prog) (ρ := splRen) { L with } (by kernel_rfl) s ⟨#[c]⟩ 0 (-1) (Lib.countB s ⟨#[c]⟩ + 1) w (by omega) (Nat.le_refl 1) (Nat.zero_le _) hI hC (by decide) (by decide) (by rw [if_pos (by decide)]; omega)
  rw [Nat.add_sub_cancel, hlen] at cG
  have e2 : Lib.cellsOf (Lib.splitB ⟨#[c]⟩ 0 (Lib.countB s ⟨#[c]⟩) s) (Lib.countB s ⟨#[c]⟩ + 1) = ((Lib.splitB ⟨#[c]⟩ 0 (Lib.countB s ⟨#[c]⟩) s).map Value.string).toArray := by rw [← hlen]; exact Lib.cellsOf_full _
  rw [e2, splitB_spCB c] at cG
  have hl2 : Lib.countB s ⟨#[c]⟩ + 1 = (spCB c s).length := by rw [← splitB_spCB c, hlen]
  rw [hl2] at cG
  replace cG : Calls Tryz.prog 153 #[.string s, .string { data := #[c] }, .int .i64 0, .int .i64 (-1)] w fun e w' => e = .returned (.slice (some ⟨w.heap.size, 0, none⟩) (spCB c s).length (spCB c s).length) ∧ w' = w.alloc (.cells ((spCB c s).map Value.string).toArray 9) := cG
  generalize (spCB c s).length = n at *
  generalize ((spCB c s).map Value.string).toArray = C at *
  clear hI hC e2 hl2 hlen hle
  go_enter Tryz.func135, Tryz.ntmps135
  go_wp2_with (go_at_call 153; refine cG.mono ?_; rintro e w' ⟨rfl, rfl⟩)
  go_ret
  exact ⟨rfl, rfl⟩
end Go.Proofs.YtdggplhkeekdjaaGreatDoor.Ck
