import Derived.Test.YteglammdigmmfaaGreatDoorSa
import Derived.Lib.SplitLaws
/-
  DERIVED. A text parted at a byte, over lists: as the library parts it, and as a scan does.
-/
namespace Go.Proofs.YteglammdigmmfaaGreatDoor.Sp
open Go Go.Proofs Go.RowKit Go.Lib

/-- A text parted at each backslash. -/
def spL : List UInt8 → List (List UInt8)
  | [] => [[]]
  | b :: l => if b = 92 then [] :: spL l else match spL l with
    | h :: t => (b :: h) :: t
    | [] => [[b]]
theorem spL_ne : ∀ l, spL l ≠ []
  | [] => by simp [spL]
  | b :: l => by
      unfold spL
      by_cases h : b = 92
      · rw [if_pos h]; simp
      · rw [if_neg h]; cases spL l <;> simp
theorem spL_none : ∀ l : List UInt8, (∀ k : Nat, l[k]? ≠ some 92) → spL l = [l]
  | [], _ => rfl
  | b :: l, h => by
      have h0 := h 0
      simp at h0
      have := spL_none l (fun k => by have := h (k + 1); simpa using this)
      unfold spL
      rw [if_neg h0, this]
theorem spL_at : ∀ (o : Nat) (l : List UInt8), l[o]? = some 92 → (∀ k : Nat, k < o → l[k]? ≠ some 92) → spL l = l.take o :: spL (l.drop (o + 1))
  | _, [], h, _ => by simp at h
  | 0, b :: l, h, _ => by
      simp at h
      subst h
      simp [spL]
  | o + 1, b :: l, h, hk => by
      have h0 := hk 0 (by omega)
      simp at h0
      have := spL_at o l (by simpa using h) (fun k hk2 => by have := hk (k + 1) (by omega); simpa using this)
      rw [spL, if_neg h0, this]
      simp
theorem splitK_spL : ∀ (k : Nat) (l : List UInt8), l.count 92 ≤ k → splitK [92] 0 k l = spL l := by
  intro k
  induction k with
  | zero =>
    intro l h
    rw [spL_none l]
    · rfl
    · intro j hj
      have : (92 : UInt8) ∈ l := List.mem_of_getElem? hj
      have := List.count_pos_iff.2 this
      omega
  | succ k ih =>
    intro l h
    unfold splitK
    rw [index_one]
    by_cases hm : indexByte l 92 = -1
    · rw [if_pos (by rw [hm]; rfl), spL_none l (indexByte_none hm)]
    · rw [if_neg (by simpa using hm)]
      have hge := indexByte_ge l 92
      obtain ⟨o, ho⟩ : ∃ o : Nat, indexByte l 92 = o := ⟨(indexByte l 92).toNat, by omega⟩
      obtain ⟨h1, h2⟩ := indexByte_some ho
      rw [ho, spL_at o l h1 h2]
      have hlt : o < l.length := by
        rcases Nat.lt_or_ge o l.length with q | q
        · exact q
        · rw [List.getElem?_eq_none q] at h1; cases h1
      have hc : (l.drop (o + 1)).count 92 ≤ k := by
        have e : l = l.take o ++ (92 :: l.drop (o + 1)) := by
          rw [List.getElem?_eq_getElem hlt] at h1
          have := Option.some.inj h1
          rw [← this, List.getElem_cons_drop, List.take_append_drop]
        rw [e, List.count_append, List.count_cons_self] at h
        omega
      simp only [Int.toNat_natCast, Nat.add_zero, List.length_singleton]
      rw [ih _ hc]
/-- Lists of bytes as texts. -/
def bsL (l : List (List UInt8)) : List ByteArray := l.map fun x => ⟨x.toArray⟩
theorem bsL_back (l : List ByteArray) : bsL (l.map (·.data.toList)) = l := by
  unfold bsL
  rw [List.map_map]
  conv => rhs; rw [← List.map_id l]
  refine List.map_congr_left fun x _ => ?_
  cases x
  simp
/-- The same as texts. -/
def spB (s : ByteArray) : List ByteArray := bsL (spL s.data.toList)
theorem splitB_spB (s : ByteArray) : splitB ⟨#[92]⟩ 0 (countB s ⟨#[92]⟩) s = spB s := by
  rw [← bsL_back (splitB _ _ _ _), splitB_data]
  unfold spB
  rw [splitK_spL]
  show _ ≤ count s.data.toList [92]
  rw [count_one]
  exact Nat.le_refl _
theorem spL_len : ∀ l : List UInt8, (spL l).length ≤ l.length + 1
  | [] => Nat.le_refl _
  | b :: l => by
      have := spL_len l
      unfold spL
      by_cases h : b = 92
      · rw [if_pos h]; simp; omega
      · rw [if_neg h]
        cases hs : spL l with
        | nil => simp
        | cons a t => rw [hs] at this; simp at this ⊢; omega
theorem spB_len (s : ByteArray) : (spB s).length ≤ s.size + 1 := by
  unfold spB bsL
  rw [List.length_map]
  exact spL_len _
theorem spB_ne (s : ByteArray) : spB s ≠ [] := by
  unfold spB bsL
  intro h
  exact spL_ne _ (List.map_eq_nil_iff.1 h)

/-- Some bytes ahead of the first piece. -/
def addH (p : List UInt8) : List (List UInt8) → List (List UInt8)
  | h :: t => (p ++ h) :: t
  | [] => [p]
theorem addH_nil {l : List (List UInt8)} (h : l ≠ []) : addH [] l = l := by
  cases l with
  | nil => exact absurd rfl h
  | cons a t => rfl
theorem addH_cut (p : List UInt8) (l : List UInt8) : addH p (spL (92 :: l)) = p :: spL l := by
  show addH p ([] :: spL l) = _
  simp [addH]
theorem addH_on (p : List UInt8) (b : UInt8) (l : List UInt8) (h : b ≠ 92) : addH p (spL (b :: l)) = addH (p ++ [b]) (spL l) := by
  rw [spL, if_neg h]
  cases hs : spL l with
  | nil => exact absurd hs (spL_ne l)
  | cons a t => simp [addH]

set_option maxHeartbeats 2000000 in
/-- strings.Split at a backslash. -/
theorem str_split (s : ByteArray) (w : World) (hs : s.size ≤ 8000000) :
    Calls Tryz.prog 48 #[.string s, .string { data := #[92] }] w fun e w' => e = .returned (.slice (some ⟨w.heap.size, 0, none⟩) (spB s).length (spB s).length) ∧ w.alloc (.cells ((spB s).map Value.string).toArray 9) = w' := by
  have L := splLays146
  have hlen := Lib.splitB_all ⟨#[92]⟩ (by decide) 0 _ s rfl
  have hle : countB s ⟨#[92]⟩ ≤ s.size := Lib.countB_le ⟨#[92]⟩ (by decide) s.size s (Nat.le_refl _)
  have hI : ∀ (x : ByteArray) (c : Array Value), x.size ≤ s.size → Calls Tryz.prog (splRen.f 143) #[.string x, .string ⟨#[92]⟩] (w.alloc (.cells c (splRen.t 9))) fun e w' => e = .returned (.int .i64 (Lib.indexB x ⟨#[92]⟩)) ∧ w' = w.alloc (.cells c (splRen.t 9)) := fun x c _ =>
    (Any.strings_Index_one { L with } x 92 _).mono fun e w' ⟨he, hw⟩ => ⟨by rw [he]; show _ = Ending.returned (Value.int .i64 (Lib.index x.data.toList [92])); rw [Lib.index_one], hw⟩
  have hC : Calls Tryz.prog (splRen.f 138) #[.string s, .string ⟨#[92]⟩] w fun e w' => e = .returned (.int .i64 (Lib.countB s ⟨#[92]⟩)) ∧ w' = w :=
    (Any.strings_Count_one { L with } s 92 w).mono fun e w' ⟨he, hw⟩ => ⟨by rw [he]; show _ = Ending.returned (Value.int .i64 ((Lib.count s.data.toList [92] : Nat) : Int)); rw [Lib.count_one]; rfl, hw⟩
  have c := Any.strings_genSplit_core (P := Tryz.prog) (ρ := splRen) { L with } (by kernel_rfl) s ⟨#[92]⟩ 0 (-1) (Lib.countB s ⟨#[92]⟩ + 1) w (by omega) (by decide) (Nat.zero_le _) hI hC (by decide) (by decide) (by rw [if_pos (by decide)]; omega)
  rw [Nat.add_sub_cancel, hlen] at c
  have e2 : Lib.cellsOf (Lib.splitB ⟨#[92]⟩ 0 (Lib.countB s ⟨#[92]⟩) s) (Lib.countB s ⟨#[92]⟩ + 1) = ((Lib.splitB ⟨#[92]⟩ 0 (Lib.countB s ⟨#[92]⟩) s).map Value.string).toArray := by rw [← hlen]; exact Lib.cellsOf_full _
  rw [e2, splitB_spB] at c
  have hl2 : Lib.countB s ⟨#[92]⟩ + 1 = (spB s).length := by rw [← splitB_spB, hlen]
  rw [hl2] at c
  replace c : Calls Tryz.prog 64 #[.string s, .string { data := #[92] }, .int .i64 0, .int .i64 (-1)] w fun e w' => e = .returned (.slice (some ⟨w.heap.size, 0, none⟩) (spB s).length (spB s).length) ∧ w' = w.alloc (.cells ((spB s).map Value.string).toArray 9) := c
  generalize (spB s).length = n at *
  generalize ((spB s).map Value.string).toArray = C at *
  clear hI hC e2 hl2 hlen hle
  go_enter Tryz.func48, Tryz.ntmps48
  go_wp2_with (go_at_call 64; refine c.mono ?_; rintro e w' ⟨rfl, rfl⟩)
  go_ret
  exact ⟨rfl, rfl⟩
end Go.Proofs.YteglammdigmmfaaGreatDoor.Sp

/-
  DERIVED. The program's Split.
-/
namespace Go.Proofs.YteglammdigmmfaaGreatDoor.Sp
open Go Go.Proofs Go.RowKit
open Wk (cell_lt own_keep Stop)

theorem unit_ok : ∀ k : Fin 29, Rp.mu k.val = true → Rp.tx k.val = false → 1 ≤ Rp.un k.val ∧ Rp.un k.val ≤ 1000 := by decide +kernel
/-- The values of an element. -/
def spT (v : Int) (s : ByteArray) : List ByteArray :=
  if okV v = false ∨ s.size = 0 then [] else if Rp.mu (Rp.vn v) = false then [s] else if Rp.tx (Rp.vn v) = true then spB s else pcs s (Rp.un (Rp.vn v)).toNat 0
theorem spT_len (v : Int) (s : ByteArray) : (spT v s).length ≤ s.size + 1 := by
  unfold spT
  by_cases h : okV v = false ∨ s.size = 0
  · rw [if_pos h]; simp
  · rw [if_neg h]
    by_cases h2 : Rp.mu (Rp.vn v) = false
    · rw [if_pos h2]; simp
    · rw [if_neg h2]
      by_cases h3 : Rp.tx (Rp.vn v) = true
      · rw [if_pos h3]; exact spB_len s
      · rw [if_neg h3]
        have := unit_ok ⟨Rp.vn v, Rp.vn_lt v⟩ (by simpa using h2) (by simpa using h3)
        simp only at this
        exact pcs_len s _ (by omega) s.size 0
theorem empty_of {s : ByteArray} (h : s.size = 0) : s = { data := #[] } := by
  cases s with
  | mk d => cases d with
    | mk l => cases l with
      | nil => rfl
      | cons a l => simp [ByteArray.size] at h
theorem beq_no {s : ByteArray} (h : s.size ≠ 0) : (s.toList == ([] : List UInt8)) = false := by
  rw [ByteArray.toList_eq]
  cases hl : s.data.toList with
  | nil => exact absurd (show s.size = 0 by show s.data.size = 0; rw [← Array.length_toList, hl]; rfl) h
  | cons a l => rfl

theorem lit_own {w : World} {o : Obj} {B : Nat} (h : B ≤ w.heap.size) (T : List ByteArray) (hT : T.length ≤ 100000000) : ((w.alloc o).alloc (.cells (T.map Value.string).toArray 9)).ownsRow B 9 1 (.slice (some ⟨w.heap.size + 1, 0, none⟩) T.length T.length) T.length (u8s T) := by
  have := World.ownsRow_lit (base := B) (e := 9) (size := 1) (w.alloc o) (T.map Value.string).toArray T.length (by rw [Wk.size_alloc]; omega) (by unfold maxLen; omega) (by simp)
  rw [Wk.size_alloc] at this
  exact this
theorem below2 {B : Nat} {W w : World} (hb : Below B W w) (h : B ≤ w.heap.size) (o1 o2 : Obj) : Below B W ((w.alloc o1).alloc o2) := (hb.alloc h o1).alloc (by rw [Wk.size_alloc]; omega) o2
theorem pc_end {B : Nat} {W w w2 : World} {o : Obj} {x : Value} {T : List ByteArray} (hb : Below B W w) (h : B ≤ w.heap.size) (h2 : w2.ownsRow (w.alloc o).heap.size 9 1 x T.length (u8s T) ∧ Below (w.alloc o).heap.size (w.alloc o) w2) : w2.ownsRow B 9 1 x T.length (u8s T) ∧ Below B W w2 :=
  ⟨Wk.own_base h2.1 (by rw [Wk.size_alloc]; omega), (hb.alloc h o).trans (h2.2.mono (by rw [Wk.size_alloc]; omega))⟩

set_option maxRecDepth 100000 in
set_option maxHeartbeats 4000000 in
theorem split_any (W : World) (v : Int) (s : ByteArray) (hs : s.size ≤ 8000000) :
    Calls Tryz.prog 24 #[.int .i64 v, .string s] W fun e w' => ∃ x, e = .returned x ∧ Hid (w'.ownsRow W.heap.size 9 1 x (spT v s).length (u8s (spT v s)) ∧ Below W.heap.size W w' ∧ (spT v s = [] → x = .slice none 0 0)) := by
  obtain ⟨n, p, u, m, t, c, q, l, cf, ff, ⟨hcf, hff⟩, hv, c12⟩ := values_any W v
  obtain ⟨B, hB⟩ : ∃ B, W.heap.size = B := ⟨_, rfl⟩
  rw [hB] at c12 ⊢
  have hS : ∀ T, spT v s = T → Calls Tryz.prog 24 #[.int .i64 v, .string s] W (fun e w' => ∃ x, e = .returned x ∧ Hid (w'.ownsRow B 9 1 x T.length (u8s T) ∧ Below B W w' ∧ (T = [] → x = .slice none 0 0))) → Calls Tryz.prog 24 #[.int .i64 v, .string s] W fun e w' => ∃ x, e = .returned x ∧ Hid (w'.ownsRow B 9 1 x (spT v s).length (u8s (spT v s)) ∧ Below B W w' ∧ (spT v s = [] → x = .slice none 0 0)) := fun T h h2 => by rw [h]; exact h2
  by_cases hok : okV v = false
  · refine hS [] (by unfold spT; rw [if_pos (.inl hok)]) ?_
    rw [hok] at c12
    clear hS hv hok
    rcases hcf with rfl | ⟨j, rfl⟩ <;> rcases hff with rfl | ⟨j2, rfl⟩
    all_goals go_enter Tryz.func24, Tryz.ntmps24
    all_goals go_wp2_with (go_at_call 13; refine c12.mono ?_; rintro e w' ⟨rfl, hb⟩)
    all_goals go_ret
    all_goals exact ⟨_, rfl, World.ownsRow_nil _ _ _ _, hb.out.alloc (by rw [← hB]; exact hb.out.size) _, fun _ => rfl⟩
  · replace hok : okV v = true := by simpa using hok
    obtain ⟨hu, ht, hq⟩ := hv hok
    rw [hok] at c12
    by_cases h0 : s.size = 0
    · refine hS [] (by unfold spT; rw [if_pos (.inr h0)]) ?_
      have hse := empty_of h0
      subst hse
      clear hS hu ht hq hok h0
      rcases hcf with rfl | ⟨j, rfl⟩ <;> rcases hff with rfl | ⟨j2, rfl⟩
      all_goals go_enter Tryz.func24, Tryz.ntmps24
      all_goals go_wp2_with (go_at_call 13; refine c12.mono ?_; rintro e w' ⟨rfl, hb⟩)
      all_goals go_ret
      all_goals exact ⟨_, rfl, World.ownsRow_nil _ _ _ _, hb.out.alloc (by rw [← hB]; exact hb.out.size) _, fun _ => rfl⟩
    · have hbe := beq_no h0
      by_cases hm : q = false
      · refine hS [s] (by unfold spT; rw [if_neg (by rw [hok]; simp [h0]), if_pos (by rw [← hq, hm])]) ?_
        subst hm
        clear hS hu ht hq hok h0
        rcases hcf with rfl | ⟨j, rfl⟩ <;> rcases hff with rfl | ⟨j2, rfl⟩
        all_goals go_enter Tryz.func24, Tryz.ntmps24
        all_goals go_wp2_with (go_at_call 13; refine c12.mono ?_; rintro e w' ⟨rfl, hb⟩)
        all_goals go_ret
        all_goals exact ⟨_, rfl, lit_own (by rw [← hB]; exact hb.out.size) [s] (by simp), below2 hb.out (by rw [← hB]; exact hb.out.size) _ _, fun h => by cases h⟩
      · replace hm : q = true := by simpa using hm
        by_cases htx : t = true
        · refine hS (spB s) (by unfold spT; rw [if_neg (by rw [hok]; simp [h0]), if_neg (by rw [← hq, hm]; simp), if_pos (by rw [← ht, htx])]) ?_
          have c13 := fun w => str_split s w hs
          have hne := spB_ne s
          have hl := spB_len s
          generalize spB s = T at *
          subst hm htx
          clear hS hu ht hq hok h0
          have HN : Hid _ := hne
          clear hne
          rcases hcf with rfl | ⟨j, rfl⟩ <;> rcases hff with rfl | ⟨j2, rfl⟩
          all_goals go_enter Tryz.func24, Tryz.ntmps24
          all_goals go_wp2_with (first | (go_at_call 13; refine c12.mono ?_; rintro e w' ⟨rfl, hb⟩) | (go_at_call 48; refine (c13 _).mono ?_; rintro e w' ⟨rfl, rfl⟩))
          all_goals go_ret
          all_goals exact ⟨_, rfl, lit_own (by rw [← hB]; exact hb.out.size) T (by omega), below2 hb.out (by rw [← hB]; exact hb.out.size) _ _, fun h => absurd h HN.out⟩
        · replace htx : t = false := by simpa using htx
          have hun := unit_ok ⟨Rp.vn v, Rp.vn_lt v⟩ (by rw [← hm, hq]) (by rw [← htx, ht])
          simp only at hun
          rw [← hu] at hun
          obtain ⟨k, hk⟩ : ∃ k : Nat, u = (k : Int) := ⟨u.toNat, by omega⟩
          refine hS (pcs s k 0) (by unfold spT; rw [if_neg (by rw [hok]; simp [h0]), if_neg (by rw [← hq, hm]; simp), if_neg (by rw [← ht, htx]; simp), ← hu, hk]; rfl) ?_
          subst hk
          have c14 := fun w => pieces_any w s k (by omega) (by omega) hs
          have hne : pcs s k 0 ≠ [] := by
            by_cases h : 0 + k < s.size
            · rw [pcs_more (by omega) h]; simp
            · rw [pcs_last h]; simp
          generalize pcs s k 0 = T at *
          subst hm htx
          clear hS hu ht hq hok h0
          rcases hcf with rfl | ⟨j, rfl⟩ <;> rcases hff with rfl | ⟨j2, rfl⟩
          all_goals go_enter Tryz.func24, Tryz.ntmps24
          all_goals go_wp2_with (first | (go_at_call 13; refine c12.mono ?_; rintro e w' ⟨rfl, hb⟩) | (go_at_call 49; refine (c14 _).mono ?_; rintro e w2 ⟨x, rfl, hb2⟩))
          all_goals go_ret
          all_goals obtain ⟨k1, k2⟩ := pc_end hb.out (by rw [← hB]; exact hb.out.size) hb2.out
          all_goals exact ⟨_, rfl, k1, k2, fun h => absurd h hne⟩
end Go.Proofs.YteglammdigmmfaaGreatDoor.Sp
