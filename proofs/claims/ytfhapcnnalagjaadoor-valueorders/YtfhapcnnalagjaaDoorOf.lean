import Derived.Test.YtfhapcnnalagjaaDoorOe
/-
  DERIVED. Which of two is the later, by the document.
-/
namespace Go.Proofs.YtfhapcnnalagjaaDoor
open Go Go.Proofs Go.RowKit

theorem RS.two {v : Value} {o : Option (Int × Int)} (h : RS v o) : ∃ sl n k c, v = .agg #[.slice sl n k, .int .i64 c] ∧ ∀ W, Calls Tryd.prog 13 #[.agg #[.slice sl n k, .int .i64 c]] W fun e w' => e = .returned (.bool o.isSome) ∧ Below W.heap.size W w' := by
  cases o with
  | none => exact ⟨_, _, _, _, h, fun W => any_none W⟩
  | some x => obtain ⟨g, k, e⟩ := h; exact ⟨_, _, _, _, e, fun W => any_some W g k x.2⟩

/-- Rows that lie in memory. -/
structure Rw (w W : World) (q : Nat) (l : List (Nat × TypeId × Array Value)) : Prop where
  rows : ∀ x ∈ l, W.rowIs x.1 x.2.1 x.2.2.size (fa x.2.2)
  b : Below q w W
  q : q ≤ W.heap.size
theorem Rw.on {w W W' : World} {q : Nat} {l : List (Nat × TypeId × Array Value)} (h : Rw w W q l) (hb : Below W.heap.size W W') : Rw w W' q l :=
  ⟨fun x hx => row_on (h.rows x hx) hb, h.b.trans (hb.mono h.q), Nat.le_trans h.q hb.size⟩
theorem Rw.alloc {w W : World} {q : Nat} {l : List (Nat × TypeId × Array Value)} (h : Rw w W q l) (c : Array Value) (t : TypeId) : Rw w (W.alloc (.cells c t)) q ((W.heap.size, t, c) :: l) := by
  have hb : Below W.heap.size W (W.alloc (.cells c t)) := (Below.refl _ _).alloc (Nat.le_refl _) _
  have h2 := h.on hb
  refine ⟨fun x hx => ?_, h2.b, h2.q⟩
  rcases List.mem_cons.1 hx with rfl | hx
  · exact World.rowIs_alloc W c t _ (row_lit _)
  · exact h2.rows x hx
theorem Rw.start (w : World) : Rw w w w.heap.size [] := ⟨fun _ h => by simp at h, Below.refl _ _, Nat.le_refl _⟩

/-- The later one. -/
def ltr (F1 F2 : Int) (o1 o2 : Option (Int × Int)) : Int := if o1.isSome = true then (if o2.isSome = true then 0 else 1) else if o2.isSome = true then -1 else cm F1 F2

set_option maxRecDepth 100000 in
set_option maxHeartbeats 1000000 in
theorem later_any (w : World) (vr : Int) (a b : ByteArray) (F1 L1 F2 L2 : Int) (o1 o2 : Option (Int × Int))
    (c1 : ∀ W, Calls Tryd.prog 12 #[.int .i64 vr, .string a] W (PostG W (sp F1 L1) o1))
    (c2 : ∀ W, Calls Tryd.prog 12 #[.int .i64 vr, .string b] W (PostG W (sp F2 L2) o2)) :
    Calls Tryd.prog 9 #[.int .i64 vr, .string a, .string b] w fun e w' => e = .returned (.int .i64 (ltr F1 F2 o1 o2)) ∧ Below w.heap.size w w' := by
  obtain ⟨R, hR⟩ : ∃ R, ltr F1 F2 o1 o2 = R := ⟨_, rfl⟩
  rw [hR]
  have HR : Hid _ := hR
  clear hR
  have K0 := Rw.start w
  obtain ⟨q, hq⟩ : ∃ q, w.heap.size = q := ⟨_, rfl⟩
  rw [hq] at K0
  have HK0 : Hid _ := K0
  clear K0
  unfold sp at c1 c2
  have HC2 : Hid _ := c2
  clear c2
  go_enter Tryd.func9, Tryd.ntmps9
  go_wp2_with (go_at_call 12; refine Stop.mk ?_)
  refine Stop.out ((c1 _).mono ?_)
  rintro e W1 ⟨v, rfl, hv, hb1⟩
  obtain ⟨sl1, n1, k1, c1', rfl, a1⟩ := hv.two
  have HK1 : Hid _ := ((HK0.out.on hb1).alloc #[.int .i64 F1, .int .i64 L1] 32).alloc #[.slice sl1 n1 k1, .int .i64 c1'] 39
  have HA1 : Hid _ := a1
  clear HK0 hv hb1 c1 a1
  go_upto_region 2 with fail
  obtain ⟨B1, hB1⟩ : ∃ B1, W1.heap.size = B1 := ⟨_, rfl⟩
  obtain ⟨W2, hW2⟩ : ∃ W2, (W1.alloc (.cells #[.int .i64 F1, .int .i64 L1] 32)).alloc (.cells #[.slice sl1 n1 k1, .int .i64 c1'] 39) = W2 := ⟨_, rfl⟩
  have HK2 : Hid (Rw w W2 q [(B1 + 1, 39, #[.slice sl1 n1 k1, .int .i64 c1']), (B1, 32, #[.int .i64 F1, .int .i64 L1])]) := by
    have h := HK1.out
    have hs : (W1.alloc (.cells #[.int .i64 F1, .int .i64 L1] 32)).heap.size = W1.heap.size + 1 := by simp
    rw [hs, hW2, hB1] at h
    exact h
  rw [hW2, hB1]
  clear HK1 hW2 hB1
  have hlt1 : B1 + 1 < W2.heap.size := (HK2.out.rows (B1 + 1, 39, #[.slice sl1 n1 k1, .int .i64 c1']) (by simp)).lt
  go_wp2_with (go_at_call 12; refine Stop.mk ?_)
  refine Stop.out ((HC2.out _).mono ?_)
  rintro e W3 ⟨v, rfl, hv, hb3⟩
  obtain ⟨sl2, n2, k2, c2', rfl, a2⟩ := hv.two
  have HK3 : Hid _ := ((HK2.out.on hb3).alloc #[.int .i64 F2, .int .i64 L2] 32).alloc #[.slice sl2 n2 k2, .int .i64 c2'] 39
  have HA2 : Hid _ := a2
  have hlt3 : B1 + 1 < W3.heap.size := Nat.lt_of_lt_of_le hlt1 hb3.size
  clear HK2 hv hb3 HC2 a2
  go_upto_region 3 with fail
  obtain ⟨B2, hB2⟩ : ∃ B2, W3.heap.size = B2 := ⟨_, rfl⟩
  obtain ⟨W4, hW4⟩ : ∃ W4, (W3.alloc (.cells #[.int .i64 F2, .int .i64 L2] 32)).alloc (.cells #[.slice sl2 n2 k2, .int .i64 c2'] 39) = W4 := ⟨_, rfl⟩
  have HK4 : Hid (Rw w W4 q [(B2 + 1, 39, #[.slice sl2 n2 k2, .int .i64 c2']), (B2, 32, #[.int .i64 F2, .int .i64 L2]), (B1 + 1, 39, #[.slice sl1 n1 k1, .int .i64 c1']), (B1, 32, #[.int .i64 F1, .int .i64 L1])]) := by
    have h := HK3.out
    have hs : (W3.alloc (.cells #[.int .i64 F2, .int .i64 L2] 32)).heap.size = W3.heap.size + 1 := by simp
    rw [hs, hW4, hB2] at h
    exact h
  rw [hW4, hB2]
  clear HK3 hW4 hB2 hlt1 hlt3
  have g0 : W4.cell? ⟨B1 + 1, 0, none⟩ = some (.slice sl1 n1 k1) := (HK4.out.rows (B1 + 1, 39, #[.slice sl1 n1 k1, .int .i64 c1']) (by simp)).cell (i := 0) (by simp)
  have g1 : W4.cell? ⟨B1 + 1, 1, none⟩ = some (.int .i64 c1') := (HK4.out.rows (B1 + 1, 39, #[.slice sl1 n1 k1, .int .i64 c1']) (by simp)).cell (i := 1) (by simp)
  go_wp2_with (go_at_call 13; refine Stop.mk ?_)
  refine Stop.out ((HA1.out _).mono ?_)
  rintro e W5 ⟨rfl, hb5⟩
  have HK5 : Hid _ := HK4.out.on hb5
  clear g0 g1 hb5 HK4 HA1
  have g0 : W5.cell? ⟨B2 + 1, 0, none⟩ = some (.slice sl2 n2 k2) := (HK5.out.rows (B2 + 1, 39, #[.slice sl2 n2 k2, .int .i64 c2']) (by simp)).cell (i := 0) (by simp)
  have g1 : W5.cell? ⟨B2 + 1, 1, none⟩ = some (.int .i64 c2') := (HK5.out.rows (B2 + 1, 39, #[.slice sl2 n2 k2, .int .i64 c2']) (by simp)).cell (i := 1) (by simp)
  go_wp2_with (go_at_call 13; refine Stop.mk ?_)
  refine Stop.out ((HA2.out _).mono ?_)
  rintro e W6 ⟨rfl, hb6⟩
  have HK6 : Hid _ := HK5.out.on hb6
  clear g0 g1 hb6 HK5 HA2
  have u1 : W6.cell? ⟨B1, 0, none⟩ = some (.int .i64 F1) := (HK6.out.rows (B1, 32, #[.int .i64 F1, .int .i64 L1]) (by simp)).cell (i := 0) (by simp)
  have u2 : W6.cell? ⟨B2, 0, none⟩ = some (.int .i64 F2) := (HK6.out.rows (B2, 32, #[.int .i64 F2, .int .i64 L2]) (by simp)).cell (i := 0) (by simp)
  have HB : Hid (Below q w W6) := HK6.out.b
  clear HK6
  have hR : ltr F1 F2 o1 o2 = R := HR.out
  clear HR
  unfold ltr cm at hR
  generalize o1.isSome = p1 at *
  generalize o2.isSome = p2 at *
  cases p1 <;> cases p2
  · rw [if_neg (by decide), if_neg (by decide)] at hR
    by_cases h1 : F1 < F2
    · have hI : decide (F1 < F2) = true := by simpa using h1
      rw [if_pos h1] at hR
      subst hR
      go_wp2
      go_ret
      exact ⟨rfl, hq ▸ HB.out⟩
    · have hI : decide (F1 < F2) = false := by simpa using h1
      rw [if_neg h1] at hR
      by_cases h2 : F2 < F1
      · have hJ : decide (F2 < F1) = true := by simpa using h2
        rw [if_pos h2] at hR
        subst hR
        go_wp2
        go_ret
        exact ⟨rfl, hq ▸ HB.out⟩
      · have hJ : decide (F2 < F1) = false := by simpa using h2
        rw [if_neg h2] at hR
        subst hR
        go_wp2
        go_ret
        exact ⟨rfl, hq ▸ HB.out⟩
  · rw [if_neg (by decide), if_pos rfl] at hR
    subst hR
    go_wp2
    go_ret
    exact ⟨rfl, hq ▸ HB.out⟩
  · rw [if_pos rfl, if_neg (by decide)] at hR
    subst hR
    go_wp2
    go_ret
    exact ⟨rfl, hq ▸ HB.out⟩
  · rw [if_pos rfl, if_pos rfl] at hR
    subst hR
    go_wp2
    go_ret
    exact ⟨rfl, hq ▸ HB.out⟩
end Go.Proofs.YtfhapcnnalagjaaDoor
