import Derived.Test.YtdggplhkeekdjaaGreatDoorLe
/-
  DERIVED. The program's forms of identifiers.
-/
namespace Go.Proofs.YtdggplhkeekdjaaGreatDoor.Ck
open Go Go.Proofs Go.RowKit

/-- A component of an identifier. -/
def zrB (p : ByteArray) : Bool := decide ((p.get! 0).toNat = 48) && !(p.toList == [48])
def prB (p : ByteArray) : Bool := alD p && !zrB p
theorem cell_row (w : World) (xs : List ByteArray) (i : Nat) (h : i < xs.length) : (w.alloc (.cells (xs.map Value.string).toArray 9)).cell? ⟨w.heap.size, i, none⟩ = some (.string xs[i]) := by
  simp [h]
theorem strC_len (c : UInt8) (s : ByteArray) (p : ByteArray) (h : p ∈ spCB c s) : p.size ≤ s.size := by
  unfold spCB Sp.bsL at h
  obtain ⟨x, hx, rfl⟩ := List.mem_map.1 h
  show x.toArray.size ≤ s.data.size
  rw [List.size_toArray, ← Array.length_toList]
  clear h
  generalize s.data.toList = l at *
  induction l generalizing x with
  | nil => simp [spCL] at hx; subst hx; simp
  | cons b l ih =>
    unfold spCL at hx
    split at hx
    · rcases List.mem_cons.1 hx with rfl | hx
      · simp
      · have := ih x hx; simp; omega
    · cases hs : spCL c l with
      | nil => exact absurd hs (spCL_ne c l)
      | cons a t =>
        rw [hs] at hx
        rw [hs] at ih
        rcases List.mem_cons.1 hx with rfl | hx
        · have := ih a (by simp); simp; omega
        · have := ih x (by simp [hx]); simp; omega
set_option maxRecDepth 100000 in
set_option maxHeartbeats 4000000 in
theorem isUID_any (w : World) (s : ByteArray) (hs : s.size ≤ 8000000) : Calls Tryz.prog 133 #[.string s] w fun e w' => e = .returned (.bool ((spCB 46 s).all prB)) ∧ Below w.heap.size w w' := by
  have c := strC_split 46 s w hs
  have hlen := spCB_len 46 s
  have hel := strC_len 46 s
  generalize spCB 46 s = xs at *
  obtain ⟨W0, hW0⟩ : ∃ W0, w.alloc (.cells (xs.map Value.string).toArray 9) = W0 := ⟨_, rfl⟩
  have hb0 : Below w.heap.size w W0 := hW0 ▸ (Below.refl _ _).alloc (Nat.le_refl _) _
  have HCe : Hid (∀ i (h : i < xs.length), W0.cell? ⟨w.heap.size, i, none⟩ = some (.string xs[i])) := fun i h => hW0 ▸ cell_row w xs i h
  rw [hW0] at c
  have HB : Hid (Below w.heap.size w W0) := hb0
  obtain ⟨R, hR⟩ : ∃ R, xs.all prB = R := ⟨_, rfl⟩
  have HR : Hid ((xs.drop 0).all prB = R) := hR
  rw [hR]
  obtain ⟨n, hl⟩ : ∃ n, xs.length = n := ⟨_, rfl⟩
  have HL : Hid (xs.length = n) := hl
  have HE : Hid (∀ p ∈ xs, p.size ≤ s.size) := hel
  rw [hl] at hlen c
  clear hR hl hb0 hW0 hel
  go_enter Tryz.func133, Tryz.ntmps133
  go_wp2_with (go_at_call 135; refine Stop.mk ?_)
  refine Stop.out (c.mono ?_)
  rintro e W1 ⟨rfl, rfl⟩
  go_wp2
  go_loopg [8] n (fun k s8 wx => ∃ i : Nat, s8 = .int .i64 (i : Int) ∧ i ≤ n ∧ k + i = n ∧ Hid ((xs.drop i).all prB = R) ∧ wx = W0)
  case atStart => exact ⟨0, rfl, by omega, by omega, HR, rfl⟩
  case round =>
    clear HR c
    obtain ⟨i, rfl, hi, hg, HI, rfl⟩ := hrel
    by_cases hlt : i < n
    · have iI : (i : Int) < (n : Int) := by omega
      have hlx : i < xs.length := by have := HL.out; omega
      obtain ⟨u, hu⟩ : ∃ u, xs[i] = u := ⟨_, rfl⟩
      have cl : wr.cell? ⟨w.heap.size, i, none⟩ = some (.string u) := by have h0 := HCe.out i hlx; rw [hu] at h0; exact h0
      have hsz : u.size ≤ s.size := HE.out u (by rw [← hu]; exact List.getElem_mem hlx)
      have ca := allDigits_any wr u (by omega)
      have HI2 : Hid ((prB u && (xs.drop (i + 1)).all prB) = R) := by
        have := HI.out
        rw [List.drop_eq_getElem_cons hlx, List.all_cons, hu] at this
        exact this
      clear HI hlx hu
      cases ha : alD u with
      | false =>
        rw [ha] at ca
        obtain rfl : R = false := by have := HI2.out; unfold prB at this; rw [ha, Bool.false_and, Bool.false_and] at this; exact this.symm
        clear HI2 ha
        go_wp2_with (go_at_call 152; refine Stop.mk ?_)
        refine Stop.out (ca.mono ?_)
        rintro e2 W2 ⟨rfl, rfl⟩
        go_wp2
        go_ret
        exact ⟨rfl, HB.out⟩
      | true =>
        rw [ha] at ca
        have HI3 : Hid ((!zrB u && (xs.drop (i + 1)).all prB) = R) := by have := HI2.out; unfold prB at this; rw [ha, Bool.true_and] at this; exact this
        have hu0 : 0 < u.size := by unfold alD at ha; simp only [Bool.and_eq_true, decide_eq_true_eq] at ha; have := ha.1; omega
        have iu : (0 : Int) < (u.size : Int) := by omega
        clear HI2 ha
        obtain ⟨b, hb⟩ : ∃ b, u[0].toNat = b := ⟨_, rfl⟩
        have hgb : (u.get! 0).toNat = b := by rw [← get_get! u 0 hu0, hb]
        unfold zrB at HI3
        rw [hgb] at HI3
        clear hgb
        by_cases h48 : b = 48
        · subst h48
          rw [decide_eq_true rfl, Bool.true_and, Bool.not_not] at HI3
          cases hz : (u.toList == [48]) with
          | true =>
            rw [hz, Bool.true_and] at HI3
            go_wp2_with (go_at_call 152; refine Stop.mk ?_)
            refine Stop.out (ca.mono ?_)
            rintro e2 W2 ⟨rfl, rfl⟩
            go_wp2
            go_roundg (n - (i + 1))
            case measure => omega
            case rel => exact ⟨i + 1, by simp, by omega, by omega, HI3, rfl⟩
          | false =>
            obtain rfl : R = false := by have := HI3.out; rw [hz, Bool.false_and] at this; exact this.symm
            clear HI3
            go_wp2_with (go_at_call 152; refine Stop.mk ?_)
            refine Stop.out (ca.mono ?_)
            rintro e2 W2 ⟨rfl, rfl⟩
            go_wp2
            go_ret
            exact ⟨rfl, HB.out⟩
        · have e1 : ((b : Int) == 48) = false := beq_eq_false_iff_ne.2 (by omega)
          rw [decide_eq_false h48, Bool.false_and, Bool.not_false, Bool.true_and] at HI3
          go_wp2_with (go_at_call 152; refine Stop.mk ?_)
          refine Stop.out (ca.mono ?_)
          rintro e2 W2 ⟨rfl, rfl⟩
          go_wp2
          go_roundg (n - (i + 1))
          case measure => omega
          case rel => exact ⟨i + 1, by simp, by omega, by omega, HI3, rfl⟩
    · have iI : ¬ ((i : Int) < (n : Int)) := by omega
      obtain rfl : R = true := by
        have := HI.out
        rw [List.drop_eq_nil_of_le (by have := HL.out; omega)] at this
        exact this.symm
      clear HI
      go_wp2
      go_ret
      exact ⟨rfl, HB.out⟩
end Go.Proofs.YtdggplhkeekdjaaGreatDoor.Ck

/-
  DERIVED. The program's form of names.
-/
namespace Go.Proofs.YtdggplhkeekdjaaGreatDoor.Ck
open Go Go.Proofs Go.RowKit

/-- Are there too many components? -/
def crB (p : ByteArray) : Bool := decide (4 < Lib.countByte p.data.toList 94)
theorem crowd_any (w : World) (p : ByteArray) : Calls Tryz.prog 149 #[.string p] w fun e w' => e = .returned (.bool (crB p)) ∧ w = w' := by
  have c : Calls Tryz.prog 150 #[.string p, .string ⟨#[94]⟩] w fun e w' => e = .returned (.int .i64 (Lib.countByte p.data.toList 94)) ∧ w' = w := Any.strings_Count_one coLays138 p 94 w
  unfold crB
  generalize Lib.countByte p.data.toList 94 = k at *
  go_enter Tryz.func149, Tryz.ntmps149
  go_wp2_with (go_at_call 150; refine Stop.mk ?_)
  refine Stop.out (c.mono ?_)
  rintro e W1 ⟨rfl, rfl⟩
  go_wp2
  go_ret
  exact ⟨by simp; omega, rfl⟩
/-- The first piece that the function takes. -/
def fdx (m : ByteArray → Bool) : List ByteArray → Nat → Int
  | [], _ => -1
  | x :: xs, i => if m x = true then (i : Int) else fdx m xs (i + 1)
theorem fdx_any (m : ByteArray → Bool) : ∀ xs i, decide (0 ≤ fdx m xs i) = xs.any m
  | [], i => by rw [fdx]; rfl
  | x :: xs, i => by
    rw [fdx, List.any_cons]
    cases hx : m x with
    | true => rw [if_pos rfl]; simp
    | false => rw [if_neg (by simp), fdx_any m xs (i + 1)]; simp
set_option maxRecDepth 100000 in
set_option maxHeartbeats 2000000 in
theorem idxf_any (W0 : World) (g cap n : Nat) (xs : List ByteArray) (hn : n ≤ 1000000000000) (HL : Hid (xs.length = n)) (HCe : Hid (∀ i (h : i < xs.length), W0.cell? ⟨g, i, none⟩ = some (.string xs[i]))) :
    Calls Tryz.prog 163 #[.slice (some ⟨g, 0, none⟩) n cap, .func (.func 149) #[] #[]] W0 fun e w' => e = .returned (.int .i64 (fdx crB xs 0)) ∧ W0 = w' := by
  obtain ⟨R, hR⟩ : ∃ R, fdx crB xs 0 = R := ⟨_, rfl⟩
  have HR : Hid (fdx crB (xs.drop 0) 0 = R) := hR
  rw [hR]
  clear hR
  go_enter Tryz.func163, Tryz.ntmps163
  go_wp2
  go_loopg [8] n (fun k s8 wx => ∃ i : Nat, s8 = .int .i64 (i : Int) ∧ i ≤ n ∧ k + i = n ∧ Hid (fdx crB (xs.drop i) i = R) ∧ wx = W0)
  case atStart => exact ⟨0, rfl, by omega, by omega, HR, rfl⟩
  case round =>
    clear HR
    obtain ⟨i, rfl, hi, hg, HI, rfl⟩ := hrel
    by_cases hlt : i < n
    · have iI : (i : Int) < (n : Int) := by omega
      have hlx : i < xs.length := by have := HL.out; omega
      obtain ⟨u, hu⟩ : ∃ u, xs[i] = u := ⟨_, rfl⟩
      have cl : wr.cell? ⟨g, i, none⟩ = some (.string u) := by have h0 := HCe.out i hlx; rw [hu] at h0; exact h0
      have c := crowd_any wr u
      have HI2 : Hid ((if crB u = true then (i : Int) else fdx crB (xs.drop (i + 1)) (i + 1)) = R) := by
        have := HI.out
        rw [List.drop_eq_getElem_cons hlx, fdx, hu] at this
        exact this
      clear HI hlx hu
      cases hm : crB u with
      | true =>
        rw [hm] at c
        obtain rfl : (i : Int) = R := by have := HI2.out; rw [if_pos hm] at this; exact this
        clear HI2 hm
        go_wp2_with (go_at_call 149; refine Stop.mk ?_)
        refine Stop.out (c.mono ?_)
        rintro e2 W2 ⟨rfl, rfl⟩
        go_wp2
        go_ret
        exact ⟨rfl, rfl⟩
      | false =>
        rw [hm] at c
        have HI3 : Hid (fdx crB (xs.drop (i + 1)) (i + 1) = R) := by have := HI2.out; rw [hm, if_neg (by decide)] at this; exact this
        clear HI2 hm
        go_wp2_with (go_at_call 149; refine Stop.mk ?_)
        refine Stop.out (c.mono ?_)
        rintro e2 W2 ⟨rfl, rfl⟩
        go_wp2
        go_roundg (n - (i + 1))
        case measure => omega
        case rel => exact ⟨i + 1, by simp, by omega, by omega, HI3, rfl⟩
    · have iI : ¬ ((i : Int) < (n : Int)) := by omega
      obtain rfl : -1 = R := by
        have := HI.out
        rw [List.drop_eq_nil_of_le (by have := HL.out; omega)] at this
        exact this
      clear HI
      go_wp2
      go_ret
      exact ⟨rfl, rfl⟩
theorem contf_any (W0 : World) (g cap n : Nat) (xs : List ByteArray) (hn : n ≤ 1000000000000) (HL : Hid (xs.length = n)) (HCe : Hid (∀ i (h : i < xs.length), W0.cell? ⟨g, i, none⟩ = some (.string xs[i]))) :
    Calls Tryz.prog 151 #[.slice (some ⟨g, 0, none⟩) n cap, .func (.func 149) #[] #[]] W0 fun e w' => e = .returned (.bool (xs.any crB)) ∧ W0 = w' := by
  have c := idxf_any W0 g cap n xs hn HL HCe
  rw [← fdx_any crB xs 0]
  generalize fdx crB xs 0 = k at *
  clear HL HCe
  go_enter Tryz.func151, Tryz.ntmps151
  go_wp2_with (go_at_call 163; refine Stop.mk ?_)
  refine Stop.out (c.mono ?_)
  rintro e W1 ⟨rfl, rfl⟩
  go_wp2
  go_ret
  exact ⟨by simp, rfl⟩
def nmP (s : ByteArray) : Bool := decide ((spCB 61 s).length ≤ 3) && !(spCB 61 s).any crB
set_option maxRecDepth 100000 in
set_option maxHeartbeats 2000000 in
theorem isName_any (w : World) (s : ByteArray) (hs : s.size ≤ 8000000) : Calls Tryz.prog 130 #[.string s] w fun e w' => e = .returned (.bool (nmP s)) ∧ Below w.heap.size w w' := by
  have c := strC_split 61 s w hs
  have hlen := spCB_len 61 s
  unfold nmP
  generalize spCB 61 s = xs at *
  obtain ⟨W0, hW0⟩ : ∃ W0, w.alloc (.cells (xs.map Value.string).toArray 9) = W0 := ⟨_, rfl⟩
  have hb0 : Below w.heap.size w W0 := hW0 ▸ (Below.refl _ _).alloc (Nat.le_refl _) _
  have HCe : Hid (∀ i (h : i < xs.length), W0.cell? ⟨w.heap.size, i, none⟩ = some (.string xs[i])) := fun i h => hW0 ▸ cell_row w xs i h
  rw [hW0] at c
  have HB : Hid (Below w.heap.size w W0) := hb0
  obtain ⟨n, hl⟩ : ∃ n, xs.length = n := ⟨_, rfl⟩
  have cf := contf_any W0 w.heap.size n n xs (by omega) hl HCe
  generalize xs.any crB = Z at *
  rw [hl] at hlen c ⊢
  clear hl hb0 hW0 HCe
  by_cases h3 : n ≤ 3
  · have i3 : (n : Int) ≤ 3 := by omega
    rw [decide_eq_true h3, Bool.true_and]
    go_enter Tryz.func130, Tryz.ntmps130
    go_wp2_with (go_at_call 135; refine Stop.mk ?_)
    refine Stop.out (c.mono ?_)
    rintro e W1 ⟨rfl, rfl⟩
    go_wp2_with (go_at_call 151; refine Stop.mk ?_)
    refine Stop.out (cf.mono ?_)
    rintro e W1 ⟨rfl, rfl⟩
    go_wp2
    go_ret
    exact ⟨rfl, HB.out⟩
  · have i3 : ¬ ((n : Int) ≤ 3) := by omega
    rw [decide_eq_false h3, Bool.false_and]
    go_enter Tryz.func130, Tryz.ntmps130
    go_wp2_with (go_at_call 135; refine Stop.mk ?_)
    refine Stop.out (c.mono ?_)
    rintro e W1 ⟨rfl, rfl⟩
    go_wp2
    go_ret
    exact ⟨rfl, HB.out⟩
end Go.Proofs.YtdggplhkeekdjaaGreatDoor.Ck
