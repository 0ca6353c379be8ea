
import Derived.Test.YtlfmihhnijlpiaaGreatDoorSd
import Derived.Test.YtlfmihhnijlpiaaGreatDoorRK
import Derived.Lib.ConvBytes
import Derived.Laws.IdiomStrings
/-
  DERIVED. A text that is bumped; nodes that are turned where they lie.
-/
namespace Go.Proofs.YtlfmihhnijlpiaaGreatDoor.Sp
open Go Go.Proofs Go.RowKit

theorem cell_set_neq {W : World} {b i j : Nat} {v : Value} (h : i ≠ j) : (W.setCell ⟨b, i, none⟩ v).cell? ⟨b, j, none⟩ = W.cell? ⟨b, j, none⟩ := by
  apply World.cell?_setCell_other; simp
theorem cell_set_eq {W : World} {b i : Nat} {v u : Value} (h : W.cell? ⟨b, i, none⟩ = some u) : (W.setCell ⟨b, i, none⟩ v).cell? ⟨b, i, none⟩ = some v := by
  apply World.cell?_setCell_same; exact h

set_option maxRecDepth 100000 in
set_option maxHeartbeats 2000000 in
theorem bump_any (w : World) (s : ByteArray) (hss : s.size ≤ 140737488351232) : Calls Tryz.prog 11 #[.string s] w fun e w' => ∃ q : ByteArray, e = .returned (.string q) ∧ q.size = s.size ∧ Hid (Below w.heap.size w w') := by
  by_cases h0 : s.size = 0
  · have hs : s = ⟨#[]⟩ := by
      cases s with
      | mk d => cases d with
        | mk l => cases l with
          | nil => rfl
          | cons a l => simp [ByteArray.size] at h0
    subst hs
    go_enter Tryz.func11, Tryz.ntmps11
    go_wp2
    go_ret
    exact ⟨_, rfl, rfl, Below.refl _ _⟩
  · have hcv := Lib.run_convert_string_bytes (P := Tryz.prog) w 9 63 5 s Tryz.underlying9 Tryz.underlying63 Tryz.underlying5
    obtain ⟨W1, hW1⟩ : ∃ W1, Lib.bytesWorld w 5 s = W1 := ⟨_, rfl⟩
    have hnew := Lib.bytesWorld_at_new w 5 s
    have hcell : ∀ j, j < s.size → W1.cell? ⟨w.heap.size, j, none⟩ = some (.int .u8 (s.data.toList.getD j 0).toNat) := fun j hj => by rw [← hW1]; exact Lib.bytesWorld_cell w 5 s j hj
    have hsz : s.size ≤ (Lib.bytesCells w 5 s).size := by
      rcases Nat.lt_or_ge (s.size - 1) (Lib.bytesCells w 5 s).size with q | q
      · omega
      · have := Lib.bytesWorld_cell w 5 s (s.size - 1) (by omega)
        rw [cell_of_row _ _ _ _ _ _ hnew] at this
        have := (Array.getElem?_eq_some_iff.1 this).1
        omega
    have hfz : ∀ j, j < s.size → W1.frozen? ⟨w.heap.size, j, none⟩ = false := fun j hj => by
      rw [← hW1, World.frozen?, hnew]
      simp
      omega
    have HB : Hid (Below w.heap.size w W1) := by
      rw [← hW1]
      exact ⟨rfl, rfl, rfl, by rw [Lib.bytesWorld_size]; omega, fun j hj => Lib.bytesWorld_at_old w 5 s j hj⟩
    obtain ⟨cap, hcap⟩ : ∃ cap, grownCap w s.size 0 5 = cap := ⟨_, rfl⟩
    rw [hW1, hcap] at hcv
    obtain ⟨n, hn⟩ : ∃ n, s.size = n + 1 := ⟨s.size - 1, by omega⟩
    rw [hn] at hcv
    have hl : s.data.toList.length = n + 1 := by rw [← hn]; rfl
    have hcn := hcell n (by omega)
    have hfn := hfz n (by omega)
    have hb1 : (convert 63 9 (.slice (some ⟨w.heap.size, 0, none⟩) (n + 1) cap)).run Tryz.prog W1 = .ok (.string ⟨s.data.toList.toArray⟩) W1 := by
      have := run_convert_bytes_back (P := Tryz.prog) W1 63 9 5 ⟨w.heap.size, 0, none⟩ cap s.data.toList Tryz.underlying63 Tryz.underlying5 Tryz.underlying9 (fun j hj => by
        have hc := hcell j (by omega)
        have ha : (⟨w.heap.size, 0, none⟩ : Addr).add j = ⟨w.heap.size, j, none⟩ := by unfold Addr.add; split <;> simp_all
        rw [ha, hc, List.getD_eq_getElem?_getD, List.getElem?_eq_getElem hj]
        rfl)
      rw [hl] at this
      exact this
    obtain ⟨c, hc⟩ : ∃ c, s.data.toList.getD n 0 = c := ⟨_, rfl⟩
    rw [hc] at hcn
    have hb2 : (convert 63 9 (.slice (some ⟨w.heap.size, 0, none⟩) (n + 1) cap)).run Tryz.prog (W1.setCell ⟨w.heap.size, n, none⟩ (.int .u8 ((c + 1).toNat : Int))) = .ok (.string ⟨(s.data.toList.set n (c + 1)).toArray⟩) (W1.setCell ⟨w.heap.size, n, none⟩ (.int .u8 ((c + 1).toNat : Int))) := by
      have := run_convert_bytes_back (P := Tryz.prog) (W1.setCell ⟨w.heap.size, n, none⟩ (.int .u8 ((c + 1).toNat : Int))) 63 9 5 ⟨w.heap.size, 0, none⟩ cap (s.data.toList.set n (c + 1)) Tryz.underlying63 Tryz.underlying5 Tryz.underlying9 (fun j hj => by
        rw [List.length_set] at hj
        have hcj := hcell j (by omega)
        have ha : (⟨w.heap.size, 0, none⟩ : Addr).add j = ⟨w.heap.size, j, none⟩ := by unfold Addr.add; split <;> simp_all
        rw [ha]
        by_cases e : n = j
        · subst e
          rw [cell_set_eq hcn, List.getElem_set_self]
        · rw [cell_set_neq e, hcj, List.getElem_set_ne e, List.getD_eq_getElem?_getD, List.getElem?_eq_getElem hj]
          rfl)
      rw [List.length_set, hl] at this
      exact this
    have HB2 : Hid (Below w.heap.size w (W1.setCell ⟨w.heap.size, n, none⟩ (.int .u8 ((c + 1).toNat : Int)))) := HB.out.setCell (Nat.le_refl _) _
    have HS2 : Hid ((⟨(s.data.toList.set n (c + 1)).toArray⟩ : ByteArray).size = s.size) := by show (s.data.toList.set n (c + 1)).toArray.size = s.size; simp
    obtain ⟨z, hz⟩ : ∃ z : Nat, c.toNat = z := ⟨_, rfl⟩
    have hz256 : z < 256 := by rw [← hz]; exact UInt8.toNat_lt c
    rw [hz] at hcn
    have hbe : ((s.toList == ([] : List UInt8))) = false := by
      rw [ByteArray.toList_eq]
      cases h : s.data.toList with
      | nil => rw [h] at hl; simp at hl
      | cons a l => rfl
    have hn2 : n ≤ 140737488351232 := by omega
    by_cases hcd : (48 ≤ z ∧ z ≤ 56) ∨ (65 ≤ z ∧ z ≤ 89) ∨ (97 ≤ z ∧ z ≤ 121)
    · have hz1 : ((c + 1).toNat : Int) = (z : Int) + 1 := by
        rw [UInt8.toNat_add, hz]
        simp
        omega
      rw [hz1] at hb2 HB2
      have hw : ((z : Int) + 1) % 256 = (z : Int) + 1 := by omega
      clear hcell hfz hsz hnew hW1 hl hc hz hcap hb1
      rcases hcd with ⟨h1, h2⟩ | ⟨h1, h2⟩ | ⟨h1, h2⟩
      · have e1 : (48 : Int) ≤ (z : Int) := by omega
        have e2 : (z : Int) ≤ 56 := by omega
        go_enter Tryz.func11, Tryz.ntmps11
        go_wp2
        go_ret
        first | exact ⟨_, rfl, HS2.out, HB2⟩ | exact ⟨_, rfl, HS2.out.trans hn, HB2⟩
      · have e1 : (48 : Int) ≤ (z : Int) := by omega
        have e2 : ¬ (z : Int) ≤ 56 := by omega
        have e3 : (65 : Int) ≤ (z : Int) := by omega
        have e4 : (z : Int) ≤ 89 := by omega
        go_enter Tryz.func11, Tryz.ntmps11
        go_wp2
        go_ret
        first | exact ⟨_, rfl, HS2.out, HB2⟩ | exact ⟨_, rfl, HS2.out.trans hn, HB2⟩
      · have e1 : (48 : Int) ≤ (z : Int) := by omega
        have e2 : ¬ (z : Int) ≤ 56 := by omega
        have e3 : (65 : Int) ≤ (z : Int) := by omega
        have e4 : ¬ (z : Int) ≤ 89 := by omega
        have e5 : (97 : Int) ≤ (z : Int) := by omega
        have e6 : (z : Int) ≤ 121 := by omega
        go_enter Tryz.func11, Tryz.ntmps11
        go_wp2
        go_ret
        first | exact ⟨_, rfl, HS2.out, HB2⟩ | exact ⟨_, rfl, HS2.out.trans hn, HB2⟩
    · clear hcell hfz hsz hnew hW1 hl hc hz hcap hb2 HB2
      have hk : z < 48 ∨ (56 < z ∧ z < 65) ∨ (89 < z ∧ z < 97) ∨ 121 < z := by omega
      clear hcd
      rcases hk with h1 | ⟨h1, h2⟩ | ⟨h1, h2⟩ | h1
      · have e1 : ¬ (48 : Int) ≤ (z : Int) := by omega
        have e3 : ¬ (65 : Int) ≤ (z : Int) := by omega
        have e5 : ¬ (97 : Int) ≤ (z : Int) := by omega
        go_enter Tryz.func11, Tryz.ntmps11
        go_wp2
        go_ret
        first | exact ⟨_, rfl, hn, HB⟩ | exact ⟨_, rfl, rfl, HB⟩
      · have e1 : (48 : Int) ≤ (z : Int) := by omega
        have e2 : ¬ (z : Int) ≤ 56 := by omega
        have e3 : ¬ (65 : Int) ≤ (z : Int) := by omega
        have e5 : ¬ (97 : Int) ≤ (z : Int) := by omega
        go_enter Tryz.func11, Tryz.ntmps11
        go_wp2
        go_ret
        first | exact ⟨_, rfl, hn, HB⟩ | exact ⟨_, rfl, rfl, HB⟩
      · have e1 : (48 : Int) ≤ (z : Int) := by omega
        have e2 : ¬ (z : Int) ≤ 56 := by omega
        have e3 : (65 : Int) ≤ (z : Int) := by omega
        have e4 : ¬ (z : Int) ≤ 89 := by omega
        have e5 : ¬ (97 : Int) ≤ (z : Int) := by omega
        go_enter Tryz.func11, Tryz.ntmps11
        go_wp2
        go_ret
        first | exact ⟨_, rfl, hn, HB⟩ | exact ⟨_, rfl, rfl, HB⟩
      · have e1 : (48 : Int) ≤ (z : Int) := by omega
        have e2 : ¬ (z : Int) ≤ 56 := by omega
        have e3 : (65 : Int) ≤ (z : Int) := by omega
        have e4 : ¬ (z : Int) ≤ 89 := by omega
        have e5 : (97 : Int) ≤ (z : Int) := by omega
        have e6 : ¬ (z : Int) ≤ 121 := by omega
        go_enter Tryz.func11, Tryz.ntmps11
        go_wp2
        go_ret
        first | exact ⟨_, rfl, hn, HB⟩ | exact ⟨_, rfl, rfl, HB⟩

/-- A VR whose elements have values. -/
def okV (v : Int) : Bool := decide (1 ≤ v ∧ v ≤ 28 ∧ v ≠ 18)
set_option maxRecDepth 100000 in
set_option maxHeartbeats 2000000 in
theorem values_any (W : World) (v : Int) : ∃ n p u m t c q l cf ff, (Rp.FunV cf ∧ Rp.FunV ff) ∧ (okV v = true → u = Rp.un (Rp.vn v) ∧ t = Rp.tx (Rp.vn v) ∧ q = Rp.mu (Rp.vn v)) ∧ Calls Tryz.prog 12 #[.int .i64 v] W fun e w' => e = .returned (.tuple #[.agg #[.string n, .int .u8 p, .int .i64 u, .int .i64 m, .bool t, .bool c, .bool q, .bool l, cf, ff], .bool (okV v)]) ∧ Hid (Below W.heap.size W w') := by
  by_cases h18 : v = 18
  · subst h18
    rw [show okV 18 = false from by decide]
    refine ⟨{ data := #[] }, 0, 0, 0, false, false, false, false, .nilFunc, .nilFunc, ⟨⟨.inl rfl, .inl rfl⟩, fun h => (by cases h), ?_⟩⟩
    go_enter Tryz.func12, Tryz.ntmps12
    go_wp2
    exact bodyPost_ret (by simp only [results, Tryz.results12]; simp [go_sem]) rfl ⟨rfl, (Below.refl _ _).alloc (Nat.le_refl _) _⟩
  · obtain ⟨cf, ff, hcf, hff, c25⟩ : ∃ cf ff, Rp.FunV cf ∧ Rp.FunV ff ∧ ∀ W, Calls Tryz.prog 25 #[.int .i64 v] W fun e w' => e = .returned (.tuple #[.agg #[.string (Rp.nm (Rp.vn v)), .int .u8 (Rp.pd (Rp.vn v)), .int .i64 (Rp.un (Rp.vn v)), .int .i64 (Rp.mo (Rp.vn v)), .bool (Rp.tx (Rp.vn v)), .bool (Rp.ch (Rp.vn v)), .bool (Rp.mu (Rp.vn v)), .bool (Rp.lo (Rp.vn v)), cf, ff], .bool (decide (1 ≤ v ∧ v ≤ 28))]) ∧ Below W.heap.size W w' := by
      obtain ⟨cf, ff, h1, h2, h3⟩ := Rp.rep_shape v
      refine ⟨cf, ff, h1, h2, fun W => ?_⟩
      have := Rp.repOf_any W v
      rw [h3] at this
      exact this
    refine ⟨Rp.nm (Rp.vn v), Rp.pd (Rp.vn v), Rp.un (Rp.vn v), Rp.mo (Rp.vn v), Rp.tx (Rp.vn v), Rp.ch (Rp.vn v), Rp.mu (Rp.vn v), Rp.lo (Rp.vn v), cf, ff, ⟨⟨hcf, hff⟩, fun _ => ⟨rfl, rfl, rfl⟩, ?_⟩⟩
    have hok : decide (1 ≤ v ∧ v ≤ 28) = okV v := by unfold okV; simp [h18]
    rw [hok] at c25
    generalize okV v = ok at *
    generalize Rp.nm (Rp.vn v) = n at *
    generalize Rp.pd (Rp.vn v) = p at *
    generalize Rp.un (Rp.vn v) = u at *
    generalize Rp.mo (Rp.vn v) = m at *
    generalize Rp.tx (Rp.vn v) = t at *
    generalize Rp.ch (Rp.vn v) = c at *
    generalize Rp.mu (Rp.vn v) = q at *
    generalize Rp.lo (Rp.vn v) = l at *
    clear hok
    have HC : Hid (∀ w', Below (W.heap.size + 1) (W.alloc (.cells #[.string ⟨#[]⟩, .int .u8 0, .int .i64 0, .int .i64 0, .bool false, .bool false, .bool false, .bool false, .nilFunc, .nilFunc] 45)) w' → w'.cell? ⟨W.heap.size, 0, none⟩ = some (.string ⟨#[]⟩) ∧ w'.frozen? ⟨W.heap.size, 0, none⟩ = false ∧ w'.cell? ⟨W.heap.size, 1, none⟩ = some (.int .u8 0) ∧ w'.frozen? ⟨W.heap.size, 1, none⟩ = false ∧ w'.cell? ⟨W.heap.size, 2, none⟩ = some (.int .i64 0) ∧ w'.frozen? ⟨W.heap.size, 2, none⟩ = false ∧ w'.cell? ⟨W.heap.size, 3, none⟩ = some (.int .i64 0) ∧ w'.frozen? ⟨W.heap.size, 3, none⟩ = false ∧ w'.cell? ⟨W.heap.size, 4, none⟩ = some (.bool false) ∧ w'.frozen? ⟨W.heap.size, 4, none⟩ = false ∧ w'.cell? ⟨W.heap.size, 5, none⟩ = some (.bool false) ∧ w'.frozen? ⟨W.heap.size, 5, none⟩ = false ∧ w'.cell? ⟨W.heap.size, 6, none⟩ = some (.bool false) ∧ w'.frozen? ⟨W.heap.size, 6, none⟩ = false ∧ w'.cell? ⟨W.heap.size, 7, none⟩ = some (.bool false) ∧ w'.frozen? ⟨W.heap.size, 7, none⟩ = false ∧ w'.cell? ⟨W.heap.size, 8, none⟩ = some (.nilFunc) ∧ w'.frozen? ⟨W.heap.size, 8, none⟩ = false ∧ w'.cell? ⟨W.heap.size, 9, none⟩ = some (.nilFunc) ∧ w'.frozen? ⟨W.heap.size, 9, none⟩ = false) := fun w' hb => by
      have hh : w'.heap[W.heap.size]? = some (.cells #[.string ⟨#[]⟩, .int .u8 0, .int .i64 0, .int .i64 0, .bool false, .bool false, .bool false, .bool false, .nilFunc, .nilFunc] 45) := (hb.block W.heap.size (by omega)).trans (Wk.heap_new W _)
      refine ⟨?_, ?_, ?_, ?_, ?_, ?_, ?_, ?_, ?_, ?_, ?_, ?_, ?_, ?_, ?_, ?_, ?_, ?_, ?_, ?_⟩
      all_goals first | (rw [cell_of_row _ _ _ _ _ _ hh]; rfl) | (rw [World.frozen?, hh]; rfl)
    rcases hcf with rfl | ⟨j, rfl⟩ <;> rcases hff with rfl | ⟨j2, rfl⟩
    all_goals go_enter Tryz.func12, Tryz.ntmps12
    all_goals go_wp2_with (first | (go_at_call 25; refine (c25 _).mono ?_; rintro e w' ⟨rfl, hb⟩; rw [Wk.size_alloc] at hb; obtain ⟨c0, f0, c1, f1, c2, f2, c3, f3, c4, f4, c5, f5, c6, f6, c7, f7, c8, f8, c9, f9⟩ := HC.out w' hb; have HBL : Hid (Below W.heap.size W w') := (((Below.refl _ _).alloc (Nat.le_refl _) _)).trans (hb.mono (by omega)); clear hb) | fail)
    all_goals exact bodyPost_ret (by simp only [results, Tryz.results12]; simp [go_sem, *]) rfl ⟨rfl, ((((((((((HBL.out.setCell (Nat.le_refl _) _).setCell (Nat.le_refl _) _).setCell (Nat.le_refl _) _).setCell (Nat.le_refl _) _).setCell (Nat.le_refl _) _).setCell (Nat.le_refl _) _).setCell (Nat.le_refl _) _).setCell (Nat.le_refl _) _).setCell (Nat.le_refl _) _).setCell (Nat.le_refl _) _)⟩
end Go.Proofs.YtlfmihhnijlpiaaGreatDoor.Sp
