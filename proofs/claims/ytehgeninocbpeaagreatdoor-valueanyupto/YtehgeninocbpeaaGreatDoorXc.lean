import Derived.Test.YtehgeninocbpeaaGreatDoorXa
import Derived.Test.YtehgeninocbpeaaGreatDoorXb
import Derived.Test.YtehgeninocbpeaaGreatDoorWa
import Derived.Test.YtehgeninocbpeaaGreatDoorGO
/-
  DERIVED. Names: their groups, and a key of one group.
-/
namespace Go.Proofs.YtehgeninocbpeaaGreatDoor.Tm
open Go Go.Proofs Go.RowKit

set_option maxRecDepth 100000 in
set_option maxHeartbeats 2000000 in
theorem indexFunc63 (W : World) (g cap : Nat) (xs : List ByteArray) (hn : xs.length ≤ 1000000000000) (cells : ∀ i (h : i < xs.length), W.cell? ⟨g, i, none⟩ = some (.string xs[i])) (p0 : Nat) (m : ByteArray → Bool)
    (hc : ∀ W', Below W.heap.size W W' → ∀ u ∈ xs, Calls Tryz.prog 63 #[.string u, ptr p0] W' (BoolP W' (m u))) :
    Calls Tryz.prog 47 #[.slice (some ⟨g, 0, none⟩) xs.length cap, .func (.func 63) #[] #[ptr p0]] W fun e w' => e = .returned (.int .i64 (fdx m xs 0)) ∧ Below W.heap.size W w' := by
  unfold ptr at hc ⊢
  obtain ⟨R, hR⟩ : ∃ R, fdx m xs 0 = R := ⟨_, rfl⟩
  have HR : Hid (fdx m (xs.drop 0) 0 = R) := hR
  rw [hR]
  obtain ⟨n, hl⟩ : ∃ n, xs.length = n := ⟨_, rfl⟩
  have HL : Hid (xs.length = n) := hl
  have HCe : Hid (∀ i (h : i < xs.length), W.cell? ⟨g, i, none⟩ = some (.string xs[i])) := cells
  have HC : Hid _ := hc
  rw [hl] at hn ⊢
  clear hR cells hc hl
  go_enter Tryz.func47, Tryz.ntmps47
  go_wp2
  go_loopg [8] n (fun k s8 wx => ∃ i : Nat, s8 = .int .i64 (i : Int) ∧ i ≤ n ∧ k + i = n ∧ Hid (fdx m (xs.drop i) i = R) ∧ Hid (Below W.heap.size W wx))
  case atStart => exact ⟨0, rfl, by omega, by omega, HR, Below.refl _ _⟩
  case round =>
    obtain ⟨i, rfl, hi, hg, HI, HB⟩ := hrel
    by_cases hlt : i < n
    · have hlx : i < xs.length := by have := HL.out; omega
      obtain ⟨u, hu⟩ : ∃ u, xs[i] = u := ⟨_, rfl⟩
      have cl : wr.cell? ⟨g, i, none⟩ = some (.string u) := by
        have h0 := HCe.out i hlx
        rw [hu] at h0
        exact (HB.out.cell (cell_lt h0)).trans h0
      have c := HC.out wr HB.out u (by rw [← hu]; exact List.getElem_mem hlx)
      have HI2 : Hid ((if m u = true then (i : Int) else fdx m (xs.drop (i + 1)) (i + 1)) = R) := by
        have := HI.out
        rw [List.drop_eq_getElem_cons hlx, fdx, hu] at this
        exact this
      clear HI hlx hu
      cases hm : m u with
      | true =>
        rw [hm] at c
        have e : Hid ((i : Int) = R) := by have := HI2.out; rw [if_pos hm] at this; exact this
        clear HI2 hm
        go_wp2_with (go_at_call 63; refine Stop.mk ?_)
        refine Stop.out (c.mono ?_)
        rintro e2 W2 ⟨rfl, hb2⟩
        have HB2 : Hid (Below W.heap.size W W2) := HB.out.trans (hb2.mono HB.out.size)
        clear hb2 c
        go_wp2
        go_ret
        exact ⟨by rw [← e.out]; rfl, HB2.out⟩
      | false =>
        rw [hm] at c
        have HI3 : Hid (fdx m (xs.drop (i + 1)) (i + 1) = R) := by have := HI2.out; rw [if_neg (by rw [hm]; simp)] at this; exact this
        clear HI2 hm
        go_wp2_with (go_at_call 63; refine Stop.mk ?_)
        refine Stop.out (c.mono ?_)
        rintro e2 W2 ⟨rfl, hb2⟩
        have HB2 : Hid (Below W.heap.size W W2) := HB.out.trans (hb2.mono HB.out.size)
        clear hb2 c
        go_wp2
        go_roundg (n - (i + 1))
        case measure => omega
        case rel => exact ⟨i + 1, by simp, by omega, by omega, HI3, HB2⟩
    · have e : Hid ((-1 : Int) = R) := by
        have := HI.out
        rw [List.drop_eq_nil_of_le (by have := HL.out; omega), fdx] at this
        exact this
      clear HI
      go_wp2
      go_ret
      exact ⟨by rw [← e.out]; rfl, HB.out⟩

set_option maxRecDepth 100000 in
theorem contains63 (W : World) (g cap : Nat) (xs : List ByteArray) (hn : xs.length ≤ 1000000000000) (cells : ∀ i (h : i < xs.length), W.cell? ⟨g, i, none⟩ = some (.string xs[i])) (p0 : Nat) (m : ByteArray → Bool)
    (hc : ∀ W', Below W.heap.size W W' → ∀ u ∈ xs, Calls Tryz.prog 63 #[.string u, ptr p0] W' (BoolP W' (m u))) :
    Calls Tryz.prog 19 #[.slice (some ⟨g, 0, none⟩) xs.length cap, .func (.func 63) #[] #[ptr p0]] W (BoolP W (xs.any m)) := by
  have c := indexFunc63 W g cap xs hn cells p0 m hc
  have e := fdx_any m xs 0
  have b := fdx_le m xs 0
  rw [← e]
  generalize fdx m xs 0 = R at *
  clear hc cells e
  generalize xs.length = n at *
  unfold ptr at c ⊢
  go_enter Tryz.func19, Tryz.ntmps19
  go_wp2_with (go_at_call 47; refine Stop.mk ?_)
  refine Stop.out (c.mono ?_)
  rintro e W1 ⟨rfl, hb⟩
  go_wp2
  go_ret
  exact ⟨rfl, hb⟩


theorem seB_size (v : ByteArray) : ∀ u ∈ Se.spB v, u.size ≤ v.size := by
  have key : ∀ l : List UInt8, ∀ x ∈ Se.spL l, x.length ≤ l.length := by
    intro l
    induction l with
    | nil => intro x hx; rw [Se.spL] at hx; rw [List.mem_singleton.1 hx]; exact Nat.le_refl _
    | cons b l ih =>
      intro x hx
      rw [Se.spL] at hx
      split at hx
      · rcases List.mem_cons.1 hx with rfl | hx
        · exact Nat.zero_le _
        · have := ih x hx
          rw [List.length_cons]; omega
      · cases hs : Se.spL l with
        | nil => exact absurd hs (Se.spL_ne l)
        | cons a t =>
          rw [hs] at hx ih
          rcases List.mem_cons.1 hx with rfl | hx
          · have := ih a (by simp)
            rw [List.length_cons, List.length_cons]; omega
          · have := ih x (List.mem_cons_of_mem _ hx)
            rw [List.length_cons]; omega
  intro u hu
  unfold Se.spB Se.bsL at hu
  obtain ⟨x, hx, rfl⟩ := List.mem_map.1 hu
  have := key _ x hx
  rw [Array.length_toList] at this
  show x.toArray.size ≤ _
  rw [List.size_toArray]
  exact this

/-- A name without the case of its letters. -/
def foldB (s : ByteArray) : ByteArray := ⟨(Gl.fol s s.size).toArray⟩
/-- A name's groups. -/
def grp (s : ByteArray) : List ByteArray := Se.spB (Sp.trimE (foldB s))
theorem foldB_size (s : ByteArray) : (foldB s).size = s.size := by
  show (Gl.fol s s.size).toArray.size = _
  rw [List.size_toArray, Gl.fol_len]
theorem trimE_size (s : ByteArray) : (Sp.trimE s).size ≤ s.size := by
  show (Lib.trimRightS s.data.toList [94, 61]).toArray.size ≤ _
  rw [List.size_toArray]
  unfold Lib.trimRightS
  rw [List.length_reverse]
  have := (List.dropWhile_sublist (([94, 61] : List UInt8).contains ·) (l := s.data.toList.reverse)).length_le
  rw [List.length_reverse, Array.length_toList] at this
  exact this
theorem grp_size (s : ByteArray) : ∀ u ∈ grp s, u.size ≤ s.size := fun u hu => by
  have h1 := seB_size _ u hu
  have h2 := trimE_size (foldB s)
  have h3 := foldB_size s
  omega
theorem grp_len (s : ByteArray) : (grp s).length ≤ s.size + 1 := by
  have h1 := Se.spB_len (Sp.trimE (foldB s))
  have h2 := trimE_size (foldB s)
  have h3 := foldB_size s
  unfold grp
  omega

/-- The groups of a name lie in cells. -/
def GrP (w : World) (xs : List ByteArray) : Ending → World → Prop := fun e w' => ∃ g, e = .returned (.slice (some ⟨g, 0, none⟩) xs.length xs.length) ∧ (∀ i (h : i < xs.length), w'.cell? ⟨g, i, none⟩ = some (.string xs[i])) ∧ Below w.heap.size w w'

theorem groupsOf_any (w : World) (s : ByteArray) (hs : s.size ≤ 2097152) : Calls Tryz.prog 62 #[.string s] w (GrP w (grp s)) := by
  have cF := Gl.fold_any w s hs
  change Calls Tryz.prog 98 _ _ (fun e w' => e = .returned (.string (foldB s)) ∧ Below w.heap.size w w') at cF
  have cT := fun W => Sp.str_trim (foldB s) W (by rw [foldB_size]; omega)
  have cS := fun W => Se.str_split (Sp.trimE (foldB s)) W (by have h2 := trimE_size (foldB s); have h3 := foldB_size s; omega)
  unfold grp
  generalize Sp.trimE (foldB s) = T at *
  generalize foldB s = F at *
  generalize Se.spB T = xs at *
  go_enter Tryz.func62, Tryz.ntmps62
  go_wp2_with (go_at_call 98; refine Stop.mk ?_)
  refine Stop.out (cF.mono ?_)
  rintro e W1 ⟨rfl, hb1⟩
  go_wp2_with (go_at_call 97; refine Stop.mk ?_)
  refine Stop.out ((cT W1).mono ?_)
  rintro e W2 ⟨rfl, hb2⟩
  go_wp2_with (go_at_call 20; refine Stop.mk ?_)
  refine Stop.out ((cS W2).mono ?_)
  rintro e W3 ⟨rfl, hw3⟩
  have hb3 : Below W2.heap.size W2 W3 := hw3 ▸ (Below.refl _ _).alloc (Nat.le_refl _) _
  have hb12 := hb1.trans (hb2.mono hb1.size)
  have hb := hb12.trans (hb3.mono hb12.size)
  have hc := cells_of hw3
  have HP : Hid (GrP w xs (.returned (.slice (some ⟨W2.heap.size, 0, none⟩) xs.length xs.length)) W3) := ⟨_, rfl, hc, hb⟩
  clear hc hb hb12 hb3 hw3 cS cT cF hb1 hb2
  generalize xs.length = n at *
  go_wp2
  go_ret
  exact HP.out

theorem some_any (W : World) (pat : ByteArray) (hp : pat.size ≤ 2097152) (g cap : Nat) (xs : List ByteArray) (hn : xs.length ≤ 1000000000000) (cells : ∀ i (h : i < xs.length), W.cell? ⟨g, i, none⟩ = some (.string xs[i])) (hx : ∀ u ∈ xs, u.size ≤ 2097152) :
    Calls Tryz.prog 64 #[.string pat, .slice (some ⟨g, 0, none⟩) xs.length cap] W (BoolP W (decide (pat.size = 0) || xs.any (fits pat))) := by
  obtain ⟨W0, hW0⟩ : ∃ W0, W.alloc (.cells #[.string pat] 9) = W0 := ⟨_, rfl⟩
  have hb0 : Below W.heap.size W W0 := hW0 ▸ (Below.refl _ _).alloc (Nat.le_refl _) _
  have c0 : W0.cell? ⟨W.heap.size, 0, none⟩ = some (.string pat) := by rw [← hW0]; simp
  have cells0 : ∀ i (h : i < xs.length), W0.cell? ⟨g, i, none⟩ = some (.string xs[i]) := fun i h => (hb0.cell (cell_lt (cells i h))).trans (cells i h)
  have cc := contains99 W0 g cap xs hn cells0 W.heap.size (fits pat) (fun W' hb u hu => clos99 W' _ pat u ((hb.cell (cell_lt c0)).trans c0) hp (hx u hu))
  clear cells0 cells hx
  by_cases h0 : pat.size = 0
  · obtain rfl : pat = ⟨#[]⟩ := ByteArray.ext (Array.eq_empty_of_size_eq_zero h0)
    rw [decide_eq_true h0, Bool.true_or]
    have HB : Hid (Below W.heap.size W W0) := hb0
    clear cc hb0 hn
    generalize xs.length = n at *
    go_enter Tryz.func64, Tryz.ntmps64
    go_wp2
    go_ret
    exact ⟨rfl, HB.out⟩
  · have hke := text_some h0
    rw [decide_eq_false h0, Bool.false_or]
    have HB : Hid (Below W.heap.size W W0) := hb0
    clear hb0 hn h0
    generalize xs.any (fits pat) = Z at *
    generalize xs.length = n at *
    unfold ptr at cc
    go_enter Tryz.func64, Tryz.ntmps64
    go_wp2_with (go_at_call 19; refine Stop.mk ?_)
    refine Stop.out (cc.mono ?_)
    rintro e W1 ⟨rfl, hb⟩
    have HB1 : Hid (Below W.heap.size W W1) := HB.out.trans (hb.mono HB.out.size)
    clear hb HB cc
    go_wp2
    go_ret
    exact ⟨rfl, HB1.out⟩
end Go.Proofs.YtehgeninocbpeaaGreatDoor.Tm
