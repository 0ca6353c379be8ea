import Derived.Test.YtmhjjpdfjilobaaDoorTh
/-
  DERIVED. A rune put behind what is written, in the universal repertoire.
-/
namespace Go.Proofs.YtmhjjpdfjilobaaDoor
open Go Go.Proofs Go.RowKit

set_option maxRecDepth 100000 in
set_option maxHeartbeats 4000000 in
/-- In the universal repertoire. -/
theorem put_univ (w : World) (q : Nat) (v u : Value) (a : Row) (R : List Row) (x : Bool) (h : Row) (base : Nat) (out : List Int) (r : Int) (hr0 : -2147483648 ≤ r) (hr1 : r < 2147483648) (hset : SetIn w q v (a :: R) x) (hu : a.1 = 6)
    (hown : w.ownsRow base 5 1 u out.length (cellsZ out)) (hne : u = .slice none 0 0 ∨ 0 < out.length) (hlen : out.length ≤ 300000) (hbase : base ≤ w.heap.size) :
    Calls Tryd.prog 59 #[.pointer (some ⟨q, 0, none⟩), u, rowV h, .int .i32 r] w fun e w' => ∃ v', e = .returned (.tuple #[v', rowV h]) ∧ w'.ownsRow base 5 1 v' (out ++ Lib.encodeRuneZ r).length (cellsZ (out ++ Lib.encodeRuneZ r)) ∧ SetIn w' q v (a :: R) x ∧ KB (a :: R) base w w' := by
  obtain ⟨ua, uc, hue⟩ : ∃ ua uc, u = .slice ua out.length uc := by
    rcases hown.2 with ⟨rfl, h0⟩ | ⟨g, cap, cur, hv, _⟩
    · exact ⟨none, 0, by rw [h0]⟩
    · exact ⟨_, _, hv⟩
  have c37 := fun W hW => univ_any W q v a R x (hset.on hW)
  have hu6 : (a.1 == 6) = true := by simpa using hu
  rw [hu6] at c37
  obtain ⟨W1, hW1⟩ : ∃ W1, w.alloc (.cells #[.int .i64 (h.1 : Int), .string h.2.1, .string (sp (3 * h.1 + 2)), .func (.func (mfN h.1)) #[] #[], .func (.func 81) #[] (caps h.2.2)] 62) = W1 := ⟨_, rfl⟩
  obtain ⟨W2, hW2⟩ : ∃ W2, W1.alloc (.cells #[.int .i64 0, .string ⟨#[]⟩, .string ⟨#[]⟩, .nilFunc, .nilFunc] 62) = W2 := ⟨_, rfl⟩
  have hb1 : Below w.heap.size w W1 := hW1 ▸ (Below.refl _ _).alloc (Nat.le_refl _) _
  have hb2 : Below W1.heap.size W1 W2 := hW2 ▸ (Below.refl _ _).alloc (Nat.le_refl _) _
  have hb12 : Below w.heap.size w W2 := hb1.trans (hb2.mono hb1.size)
  have hs1 : W1.heap.size = w.heap.size + 1 := by rw [← hW1]; simp
  have hs2 : W2.heap.size = w.heap.size + 2 := by rw [← hW2]; simp; omega
  have hr1' : Row5 W1 w.heap.size 0 h := hW1 ▸ Row5.new w h
  have hr2 : Row5 W2 w.heap.size 0 h := hr1'.on hb2 (by omega)
  have hset2 := hset.on hb12
  have cU := c37 W2 hb12
  have hown2 := ownsRow_below hown hb12 (Nat.le_refl _)
  have hP : ∀ i, W2.frozen? ⟨w.heap.size + 1, i, none⟩ = false := fun i => by rw [← hW2, ← hs1]; simp
  have z0 : W2.cell? ⟨w.heap.size + 1, 0, none⟩ = some (.int .i64 0) := by rw [← hW2, ← hs1]; simp
  have z1 : W2.cell? ⟨w.heap.size + 1, 1, none⟩ = some (.string ⟨#[]⟩) := by rw [← hW2, ← hs1]; simp
  have z2 : W2.cell? ⟨w.heap.size + 1, 2, none⟩ = some (.string ⟨#[]⟩) := by rw [← hW2, ← hs1]; simp
  have z3 : W2.cell? ⟨w.heap.size + 1, 3, none⟩ = some .nilFunc := by rw [← hW2, ← hs1]; simp
  have z4 : W2.cell? ⟨w.heap.size + 1, 4, none⟩ = some .nilFunc := by rw [← hW2, ← hs1]; simp
  have HPW : Hid (PW w base q v a R x (w.heap.size + 1) w.heap.size h W2) := ⟨z0, z1, z2, z3, z4, hP, hr2, hset2, KB.of_below (hb12.mono hbase), by omega⟩
  subst hue
  have HSET : Hid _ := hset
  have HL0 : Hid (0 < (out ++ Lib.encodeRuneZ r).length) := by
    have := (Lib.encodeRuneZ_length r).1
    show _ < _
    rw [List.length_append]
    omega
  have HC55 : Hid (∀ X, Below W2.heap.size W2 X → Calls Tryd.prog 55 #[.slice ua out.length uc, .int .i32 r] X fun e w' => ∃ g c, e = .returned (.slice (some ⟨g, 0, none⟩) (out ++ Lib.encodeRuneZ r).length c) ∧ w'.ownsRow base 5 1 (.slice (some ⟨g, 0, none⟩) (out ++ Lib.encodeRuneZ r).length c) (out ++ Lib.encodeRuneZ r).length (cellsZ (out ++ Lib.encodeRuneZ r)) ∧ PW w base q v a R x (w.heap.size + 1) w.heap.size h w') := fun X hX => by
    have hoX := ownsRow_below hown2 hX (Nat.le_refl _)
    have hXs := hX.size
    refine (append_any base _ out.length (cellsZ out) r hr0 (by omega) X hoX (by omega) (by omega)).mono ?_
    rintro e w' ⟨v', rfl, hown5, o, hg5⟩
    have hp1 := HPW.out.below hX
    have hal : Below X.heap.size X (X.alloc o) := (Below.refl _ _).alloc (Nat.le_refl _) o
    have hp2 := hp1.below hal
    have hp3 := hp2.grown (World.ownsRow.alloc hoX _) hne hg5
    have e1 : (out ++ Lib.encodeRuneZ r).length = out.length + (Lib.runeCells r).length := by simp [Lib.runeCells]
    have e2 : cellsZ (out ++ Lib.encodeRuneZ r) = cellsZ out ++ Lib.runeCells r := by simp [cellsZ, Lib.runeCells]
    have ho5 : w'.ownsRow base 5 1 v' (out ++ Lib.encodeRuneZ r).length (cellsZ (out ++ Lib.encodeRuneZ r)) := by rw [e1, e2]; exact hown5
    obtain ⟨g, c, rfl⟩ : ∃ g c, v' = .slice (some ⟨g, 0, none⟩) (out ++ Lib.encodeRuneZ r).length c := by
      rcases ho5.2 with ⟨_, h0⟩ | ⟨g, cap, cur, hv, _⟩
      · have := HL0.out; omega
      · exact ⟨g, cap, hv⟩
    exact ⟨g, c, rfl, ho5, hp3⟩
  generalize out ++ Lib.encodeRuneZ r = out2 at *
  obtain ⟨n, hn⟩ : ∃ n, out.length = n := ⟨_, rfl⟩
  obtain ⟨n2, hn2⟩ : ∃ n2, out2.length = n2 := ⟨_, rfl⟩
  rw [hn] at HC55 ⊢
  rw [hn2] at HC55 ⊢
  have HN2 : Hid _ := hn2
  obtain ⟨y0, y1, y2, y3, y4⟩ := hr2
  unfold rowV
  unfold caps at hW1 y4 ⊢
  clear hset2 hown2 hset hb1 hb2 hb12 hr1' c37 hu hu6 hne hown hP z0 z1 z2 z3 z4 hn hn2
  go_enter Tryd.func59, Tryd.ntmps59
  go_wp2_with (first | (go_at_call 37; refine cU.mono ?_; rintro e W9 ⟨rfl, rfl⟩))
  go_region_law (go_simp; go_at_call 55; refine (HC55.out _ (by first | exact Below.refl _ _ | exact (Below.refl _ W2).drew)).mono ?_; rintro e W7 ⟨g7, c7, rfl, ho7, hp7⟩; have HP7 : Hid _ := hp7; have HO7 : Hid _ := ho7; obtain ⟨l0, l1, l2, l3, l4⟩ := HP7.out.r; unfold caps at l4; obtain ⟨m0, m1, m2, m3, m4, mf, -, -, -, -⟩ := hp7; clear ho7)
  all_goals
    have hrow := row_written h m0 m1 m2 m3 m4
    have hgrS := rowSet_grown W7 (w.heap.size + 1) h
    have HSU : Hid (SetIn (rowSet W7 (w.heap.size + 1) h) q v (a :: R) x) := by
      refine HP7.out.st.beside m0 ?_ ?_ (fun j hj hn => hgrS.block j hj (by simp; omega))
      · have := cell_lt HSET.out.c0
        simp only at this
        omega
      · intro g' hg'
        have := (HSET.out.own.lt g' hg').2
        omega
    have ho2 : W7.ownsRow base 5 1 (.slice (some ⟨g7, 0, none⟩) n2 c7) out2.length (cellsZ out2) := by rw [HN2.out]; exact HO7.out
    have HG7 := own_ne ho2 (.inr HL0.out) m0
    have HOU : Hid ((rowSet W7 (w.heap.size + 1) h).ownsRow base 5 1 (.slice (some ⟨g7, 0, none⟩) n2 c7) n2 (cellsZ out2)) := World.ownsRow.kept HO7.out hgrS (.inr (fun e => HG7 e.symm))
    have HKU : Hid (KB (a :: R) base w (rowSet W7 (w.heap.size + 1) h)) := HP7.out.kb.trans (KB.of_grown hgrS HP7.out.bs (fun r e => by cases e; omega))
    unfold rowSet caps at HSU HOU HKU
    unfold caps at hrow
    obtain ⟨u0, u1, u2, u3, u4⟩ := hrow
    clear hgrS m0 m1 m2 m3 m4 mf l0 l1 l2 l3 l4 HG7 ho2
    go_wp2
    exact bodyPost_ret (v := .tuple #[.slice (some ⟨g7, 0, none⟩) n2 c7, .agg #[.int .i64 (h.1 : Int), .string h.2.1, .string (sp (3 * h.1 + 2)), .func (.func (mfN h.1)) #[] #[], .func (.func 81) #[] #[.pointer (some ⟨h.2.2 + 1 + 1, 0, none⟩), .pointer (some ⟨h.2.2 + 1 + 1 + 1, 0, none⟩)]]]) (by simp only [results, Tryd.results59]; simp [go_sem, u0, u1, u2, u3, u4, caps]) rfl ⟨_, rfl, HOU.out, HSU.out, HKU.out⟩
end Go.Proofs.YtmhjjpdfjilobaaDoor
