
import Derived.Test.YtegfgbcimlacbaaGreatDoorB
import Derived.Laws.EntriesVeiled
/-
  DERIVED. A repertoire, made.
-/
namespace Go.Proofs.YtegfgbcimlacbaaGreatDoor
open Go Go.Proofs Go.RowKit

/-- A term as it is read: an empty first one in letters. -/
def fullB (s : ByteArray) (i n : Int) : ByteArray := if (trim s).size ≠ 0 ∨ 0 < i then trim s else if 1 < n then sp 1 else sp 0

set_option maxRecDepth 100000 in
theorem full_any (w : World) (s : ByteArray) (hs : s.size ≤ 140737488351232) (i n : Int) (hS : Spell w) : Calls Tryz.prog 29 #[.string s, .int .i64 i, .int .i64 n] w fun e w' => e = .returned (.string (fullB s i n)) ∧ Below w.heap.size w w' := by
  have ht := fun W => trim_any W s hs
  have hc : ∀ W, Below w.heap.size w W → Spell W := fun W hb => hS.on hb
  have HC : Hid _ := hc
  clear hc hS
  unfold fullB
  generalize trim s = T at ht ⊢
  by_cases h0 : T.size = 0
  · have hb := nil_beq h0
    by_cases hi : 0 < i
    · rw [if_pos (.inr hi)]
      clear h0
      go_enter Tryz.func29, Tryz.ntmps29
      go_wp2_with (first | (go_at_call 45; refine (ht _).mono ?_; rintro e W1 ⟨rfl, hb1⟩) | fail)
      go_ret
      exact ⟨rfl, hb1⟩
    · rw [if_neg (by rintro (h | h); exact h h0; exact hi h)]
      clear h0
      by_cases hn : 1 < n
      · rw [if_pos hn]
        go_enter Tryz.func29, Tryz.ntmps29
        go_wp2_with (first | (go_at_call 45; refine (ht _).mono ?_; rintro e W1 ⟨rfl, hb1⟩; have hcell := (HC.out W1 hb1).cell 1 (by decide)) | fail)
        go_ret
        exact ⟨rfl, hb1⟩
      · rw [if_neg hn]
        go_enter Tryz.func29, Tryz.ntmps29
        go_wp2_with (first | (go_at_call 45; refine (ht _).mono ?_; rintro e W1 ⟨rfl, hb1⟩; have hcell := (HC.out W1 hb1).cell 0 (by decide)) | fail)
        go_ret
        exact ⟨rfl, hb1⟩
  · have hb := nil_beq_ne h0
    rw [if_pos (.inl h0)]
    clear h0
    go_enter Tryz.func29, Tryz.ntmps29
    go_wp2_with (first | (go_at_call 45; refine (ht _).mono ?_; rintro e W1 ⟨rfl, hb1⟩) | fail)
    go_ret
    exact ⟨rfl, hb1⟩

/-- What stands behind a repertoire's way back: a box with the way there, the Once and the map (none yet), two boxes more. -/
def invW (w : World) (j : Nat) : World :=
  (((w.alloc (.cells #[.func (.func j) #[] #[]] 79)).alloc (.cells #[.int .u32 0, .int .i32 0, .int .u32 0, .map none] 135)).alloc (.cells #[.pointer (some ⟨w.heap.size + 1, 0, none⟩)] 121)).alloc
    (.cells #[.func (.func 73) #[] #[.pointer (some ⟨w.heap.size + 1 + 1, 0, none⟩), .pointer (some ⟨w.heap.size, 0, none⟩)]] 1)
def caps (B : Nat) : Array Value := #[.pointer (some ⟨B + 1 + 1, 0, none⟩), .pointer (some ⟨B + 1 + 1 + 1, 0, none⟩)]
def invF (B : Nat) : Value := .func (.func 75) #[] (caps B)

set_option maxRecDepth 100000 in
theorem inverse_any (w : World) (j : Nat) : Calls Tryz.prog 55 #[.func (.func j) #[] #[]] w fun e w' => e = .returned (invF w.heap.size) ∧ invW w j = w' := by
  go_enter Tryz.func55, Tryz.ntmps55
  go_wp2
  go_ret
  exact ⟨rfl, rfl⟩

theorem invW_below (w : World) (j : Nat) : Below w.heap.size w (invW w j) := by
  unfold invW
  exact ((((Below.refl _ _).alloc (Nat.le_refl _) _).alloc (by simp) _).alloc (by simp; omega) _).alloc (by simp; omega) _

theorem cell_alloc {w : World} {o : Obj} {a : Addr} {v : Value} (h : w.cell? a = some v) : (w.alloc o).cell? a = some v :=
  ((((Below.refl w.heap.size w).alloc (Nat.le_refl _) o).cell (p := a) (cell_lt h)).trans h)
theorem cell_alloc4 {w : World} {o1 o2 o3 o4 : Obj} {a : Addr} {v : Value} (h : w.cell? a = some v) : ((((w.alloc o1).alloc o2).alloc o3).alloc o4).cell? a = some v :=
  cell_alloc (cell_alloc (cell_alloc (cell_alloc h)))

/-- A way back that was not asked yet. -/
structure Fresh (w : World) (B j : Nat) : Prop where
  b0 : w.heap[B]? = some (.cells #[.func (.func j) #[] #[]] 79)
  b1 : w.heap[B + 1]? = some (.cells #[.int .u32 0, .int .i32 0, .int .u32 0, .map none] 135)
  b2 : w.heap[B + 1 + 1]? = some (.cells #[.pointer (some ⟨B + 1, 0, none⟩)] 121)
  b3 : w.heap[B + 1 + 1 + 1]? = some (.cells #[.func (.func 73) #[] #[.pointer (some ⟨B + 1 + 1, 0, none⟩), .pointer (some ⟨B, 0, none⟩)]] 1)

theorem Fresh.lt {w : World} {B j : Nat} (h : Fresh w B j) : B + 1 + 1 + 1 < w.heap.size := (Array.getElem?_eq_some_iff.1 h.b3).1
theorem Fresh.next {w w' : World} {A B j : Nat} (h : Fresh w B j) (hb : Below A w w') (hA : B + 1 + 1 + 1 < A) : Fresh w' B j :=
  ⟨(hb.block _ (by omega)).trans h.b0, (hb.block _ (by omega)).trans h.b1, (hb.block _ (by omega)).trans h.b2, (hb.block _ (by omega)).trans h.b3⟩
theorem Fresh.on {w w' : World} {B j : Nat} (h : Fresh w B j) (hb : Below w.heap.size w w') : Fresh w' B j := h.next hb h.lt
theorem heap_set_off {w : World} {p : Addr} {v : Value} {k : Nat} (h : p.block ≠ k) : (w.setCell p v).heap[k]? = w.heap[k]? :=
   Below.heap_setCell _ _ _ _ (Ne.symm h)
theorem Fresh.off {w : World} {B j : Nat} (h : Fresh w B j) {b i : Nat} (v : Value) (hb : b < B) : Fresh (w.setCell ⟨b, i, none⟩ v) B j :=
  ⟨(heap_set_off (by simp; omega)).trans h.b0, (heap_set_off (by simp; omega)).trans h.b1, (heap_set_off (by simp; omega)).trans h.b2, (heap_set_off (by simp; omega)).trans h.b3⟩
theorem invW_fresh (w : World) (j : Nat) : Fresh (invW w j) w.heap.size j := by
  unfold invW
  have s1 : ∀ (v : World) (o : Obj), (v.alloc o).heap.size = v.heap.size + 1 := fun v o => by simp
  have hl : ∀ (v : World) (o : Obj) (k : Nat), k = v.heap.size → (v.alloc o).heap[k]? = some o := fun v o k hk => by subst hk; exact heap_alloc_new v o
  refine ⟨?_, ?_, ?_, ?_⟩
  · rw [Below.heap_alloc _ _ _ (by simp <;> omega), Below.heap_alloc _ _ _ (by simp <;> omega), Below.heap_alloc _ _ _ (by simp)]
    exact hl _ _ _ rfl
  · rw [Below.heap_alloc _ _ _ (by simp <;> omega), Below.heap_alloc _ _ _ (by simp)]
    exact hl _ _ _ (by simp)
  · rw [Below.heap_alloc _ _ _ (by simp)]
    exact hl _ _ _ (by simp)
  · exact hl _ _ _ (by simp)

/-- The function that tells what a byte stands for. -/
def mfN (n : Nat) : Nat := if n = 1 then 67 else if n = 2 then 68 else if n = 3 then 69 else if n = 4 then 70 else if n = 5 then 71 else 72

set_option maxRecDepth 100000 in
theorem meaning_any (w : World) (n : Nat) (hn : n < 7) : Calls Tryz.prog 54 #[.int .i64 (n : Int)] w fun e w' => e = .returned (.func (.func (mfN n)) #[] #[]) ∧ w = w' := by
  rcases (by omega : n = 0 ∨ n = 1 ∨ n = 2 ∨ n = 3 ∨ n = 4 ∨ n = 5 ∨ n = 6) with rfl | rfl | rfl | rfl | rfl | rfl | rfl
  all_goals go_enter Tryz.func54, Tryz.ntmps54
  all_goals go_wp2
  all_goals go_ret
  all_goals exact ⟨rfl, rfl⟩

set_option maxRecDepth 100000 in
set_option maxHeartbeats 2000000 in
theorem rep_any (w : World) (n : Nat) (hn : n < 7) (s : ByteArray) (hS : Spell w) : Calls Tryz.prog 44 #[.int .i64 (n : Int), .string s] w fun e w' => ∃ B, e = .returned (.agg #[.int .i64 (n : Int), .string s, .string (sp (3 * n + 2)), .func (.func (mfN n)) #[] #[], invF B]) ∧ Below w.heap.size w w' ∧ Fresh w' B (mfN n) ∧ w.heap.size < B := by
  have c60 := fun W => meaning_any W n hn
  obtain ⟨W1, hW1⟩ : ∃ W1, w.alloc (.cells #[.int .i64 0, .string ⟨#[]⟩, .string ⟨#[]⟩, .nilFunc, .nilFunc] 82) = W1 := ⟨_, rfl⟩
  have hb1 : Below w.heap.size w W1 := hW1 ▸ (Below.refl _ _).alloc (Nat.le_refl _) _
  have HB1 : Hid (Below w.heap.size w W1) := hb1
  have hsp := (hS.on hb1).cell (3 * n + 2) (by omega)
  rw [show (⟨1, 3 * n + 2, none⟩ : Addr) = ⟨1, n * 3 + 2, none⟩ by rw [Nat.mul_comm]] at hsp
  have z0 : W1.cell? ⟨w.heap.size, 0, none⟩ = some (.int .i64 0) := by rw [← hW1]; simp
  have z1 : W1.cell? ⟨w.heap.size, 1, none⟩ = some (.string ⟨#[]⟩) := by rw [← hW1]; simp
  have z2 : W1.cell? ⟨w.heap.size, 2, none⟩ = some (.string ⟨#[]⟩) := by rw [← hW1]; simp
  have z3 : W1.cell? ⟨w.heap.size, 3, none⟩ = some .nilFunc := by rw [← hW1]; simp
  have z4 : W1.cell? ⟨w.heap.size, 4, none⟩ = some .nilFunc := by rw [← hW1]; simp
  have zf : ∀ i, W1.frozen? ⟨w.heap.size, i, none⟩ = false := fun i => by rw [← hW1]; simp
  have c61 := fun W => inverse_any W (mfN n)
  generalize mfN n = j at c60 c61 ⊢
  generalize sp (3 * n + 2) = E at hsp ⊢
  have h0 : (0 : Int) ≤ (n : Int) := by omega
  have h7 : (n : Int) < 7 := by omega
  have hSl := hS.lt
  clear hS
  have hvb := invW_below W1 j
  obtain ⟨V, hV⟩ : ∃ V, invW W1 j = V := ⟨_, rfl⟩
  have HFr : Hid (Fresh V W1.heap.size j) := hV ▸ invW_fresh W1 j
  rw [hV] at hvb
  have hlt : w.heap.size < W1.heap.size := by rw [← hW1]; simp
  have HLT : Hid (w.heap.size < W1.heap.size) := hlt
  have hlt1 : 1 < W1.heap.size := cell_lt hsp
  have hne1 : (1 : Nat) ≠ w.heap.size := Nat.ne_of_lt hSl
  have hne2 : w.heap.size ≠ 1 := Ne.symm hne1
  have y0 := (hvb.cell (p := ⟨w.heap.size, 0, none⟩) hlt).trans z0
  have y1 := (hvb.cell (p := ⟨w.heap.size, 1, none⟩) hlt).trans z1
  have y2 := (hvb.cell (p := ⟨w.heap.size, 2, none⟩) hlt).trans z2
  have y3 := (hvb.cell (p := ⟨w.heap.size, 3, none⟩) hlt).trans z3
  have y4 := (hvb.cell (p := ⟨w.heap.size, 4, none⟩) hlt).trans z4
  have yf := fun i => (hvb.frozen (p := ⟨w.heap.size, i, none⟩) hlt).trans (zf i)
  have hspV := (hvb.cell (p := ⟨1, n * 3 + 2, none⟩) hlt1).trans hsp
  have HBV : Hid (Below w.heap.size w V) := hb1.trans (hvb.mono hb1.size)
  have hc : Calls Tryz.prog 55 #[.func (.func j) #[] #[]] W1.drew fun e w' => e = .returned (invF W1.heap.size) ∧ V.drew = w' := (c61 W1.drew).mono (by rintro e w' ⟨rfl, rfl⟩; exact ⟨rfl, by rw [← hV]; rfl⟩)
  clear hV c61
  unfold invF at hc
  obtain ⟨P, hP⟩ : ∃ P, caps W1.heap.size = P := ⟨_, rfl⟩
  rw [hP] at hc
  have HF : Hid (invF W1.heap.size = .func (.func 75) #[] P) := by unfold invF; rw [hP]; rfl
  clear hP
  clear z0 z1 z2 z3 z4 zf hvb hlt hlt1 hb1
  go_enter Tryz.func44, Tryz.ntmps44
  go_wp2_with (first | (go_at_call 54; refine (c60 _).mono ?_; rintro e w' ⟨rfl, rfl⟩) | fail)
  clear hW1 c60
  refine wp_region_noPanic ?_
  go_region_held3 (fun w' => w'.cell? ⟨1, n * 3 + 2, none⟩ = some (.string E)) (go_keep) (first | (go_at_call 55; refine hc.mono ?_; rintro e w' ⟨rfl, rfl⟩))
  refine NoPanic.normal ?_
  go_wp2
  obtain ⟨U, hU⟩ : ∃ U, (((((V.setCell ⟨w.heap.size, 0, none⟩ (.int .i64 (n : Int))).setCell ⟨w.heap.size, 1, none⟩ (.string s)).setCell ⟨w.heap.size, 2, none⟩ (.string E)).setCell ⟨w.heap.size, 3, none⟩ (.func (.func j) #[] #[])).setCell ⟨w.heap.size, 4, none⟩ (.func (.func 75) #[] P)) = U := ⟨_, rfl⟩
  have u0 : U.cell? ⟨w.heap.size, 0, none⟩ = some (.int .i64 (n : Int)) := by rw [← hU]; exact (cell_set_ne (by decide)).trans ((cell_set_ne (by decide)).trans ((cell_set_ne (by decide)).trans ((cell_set_ne (by decide)).trans (cell_set_eq y0))))
  have u1 : U.cell? ⟨w.heap.size, 1, none⟩ = some (.string s) := by rw [← hU]; exact (cell_set_ne (by decide)).trans ((cell_set_ne (by decide)).trans ((cell_set_ne (by decide)).trans (cell_set_eq ((cell_set_ne (by decide)).trans y1))))
  have u2 : U.cell? ⟨w.heap.size, 2, none⟩ = some (.string E) := by rw [← hU]; exact (cell_set_ne (by decide)).trans ((cell_set_ne (by decide)).trans (cell_set_eq ((cell_set_ne (by decide)).trans ((cell_set_ne (by decide)).trans y2))))
  have u3 : U.cell? ⟨w.heap.size, 3, none⟩ = some (.func (.func j) #[] #[]) := by rw [← hU]; exact (cell_set_ne (by decide)).trans (cell_set_eq ((cell_set_ne (by decide)).trans ((cell_set_ne (by decide)).trans ((cell_set_ne (by decide)).trans y3))))
  have u4 : U.cell? ⟨w.heap.size, 4, none⟩ = some (.func (.func 75) #[] P) := by rw [← hU]; exact cell_set_eq ((cell_set_ne (by decide)).trans ((cell_set_ne (by decide)).trans ((cell_set_ne (by decide)).trans ((cell_set_ne (by decide)).trans y4))))
  have hlt := HLT.out
  have HBU : Hid (Below w.heap.size w U) := by rw [← hU]; exact (((((HBV.out.setCell (p := ⟨w.heap.size, 0, none⟩) (Nat.le_refl _) _).setCell (p := ⟨w.heap.size, 1, none⟩) (Nat.le_refl _) _).setCell (p := ⟨w.heap.size, 2, none⟩) (Nat.le_refl _) _).setCell (p := ⟨w.heap.size, 3, none⟩) (Nat.le_refl _) _).setCell (p := ⟨w.heap.size, 4, none⟩) (Nat.le_refl _) _)
  have HFU : Hid (Fresh U W1.heap.size j) := by rw [← hU]; exact ((((HFr.out.off _ hlt).off _ hlt).off _ hlt).off _ hlt).off _ hlt
  rw [hU]
  clear hU
  exact bodyPost_ret (v := .agg #[.int .i64 (n : Int), .string s, .string E, .func (.func j) #[] #[], .func (.func 75) #[] P]) (by simp only [results, Tryz.results44]; simp [go_sem, u0, u1, u2, u3, u4]) rfl ⟨W1.heap.size, by rw [HF.out], HBU.out.drew, ⟨HFU.out.b0, HFU.out.b1, HFU.out.b2, HFU.out.b3⟩, hlt⟩
end Go.Proofs.YtegfgbcimlacbaaGreatDoor
