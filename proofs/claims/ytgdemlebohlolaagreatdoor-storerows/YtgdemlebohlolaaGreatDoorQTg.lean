import Derived.Test.YtgdemlebohlolaaGreatDoorQTc
import Derived.Test.YtgdemlebohlolaaGreatDoorQTe
import Derived.Test.YtgdemlebohlolaaGreatDoorQTf
/-
  DERIVED. A time, and a moment, read from end to end by the program.
-/
namespace Go.Proofs.YtgdemlebohlolaaGreatDoor.Tm
open Go Go.Proofs Go.RowKit

def st0 : Mst := { a := 0, b := false, o := none, y := 1, m := 1, d := 1, dp := 3, h := 0, mi := 0, sc := 0, mc := 0, p := 0, zd := false, z := 0 }
def zeroS : Mst := { a := 0, b := false, o := none, y := 0, m := 0, d := 0, dp := 0, h := 0, mi := 0, sc := 0, mc := 0, p := 0, zd := false, z := 0 }
def mo11 (S : Mst) : Value := .agg #[.int .i64 (S.y : Int), .int .i64 (S.m : Int), .int .i64 (S.d : Int), .int .i64 (S.dp : Int), .int .i64 (S.h : Int), .int .i64 (S.mi : Int), .int .i64 (S.sc : Int), .int .i64 (S.mc : Int), .int .i64 (S.p : Int), .bool S.zd, .int .i64 S.z]
def fmO (s : ByteArray) (S : Mst) : Option (Int × Int) := if S.b = true ∨ S.a < s.size then some ((S.a : Int), 100) else none
def rdO (s : ByteArray) (S : Mst) : Option (Int × Int) := (fmO s S).or S.o
def rdM (s : ByteArray) (S : Mst) : Mst := if rdO s S = none then S else zeroS
def timeS (s : ByteArray) : Mst := fracS s (moreS s [minuteS s, secondS s] (hourS s st0))
def momS (s : ByteArray) : Mst := zoneS s (fracS s (moreS s [monthS s, dayS s, hourS s, minuteS s, secondS s] (yearS s st0)))

theorem zone_ck {w : World} {q : Nat} {s : ByteArray} {S : Mst} (h : Ck w q s S) (hs : s.size ≤ 140737488351232) : Calls Tryz.prog 125 #[.pointer (some ⟨q, 0, none⟩)] w (PostC w q s (zoneS s S)) := by
  unfold zoneS
  by_cases hx : nx s S.a S.b = 43
  · rw [if_pos (.inl hx), hx]
    exact zone_43 h hs hx
  · by_cases hy : nx s S.a S.b = 45
    · rw [if_pos (.inr hy), hy]
      exact zone_45 h hs hy
    · rw [if_neg (fun h => h.elim hx hy)]
      exact zone_no h (fun h => h.elim hx hy)

theorem p2_le (s : ByteArray) : (moreS s [minuteS s, secondS s] (hourS s st0)).p ≤ 100 := by
  simp only [moreS]
  split
  · split
    · show 3 ≤ 100; omega
    · show 2 ≤ 100; omega
  · show 1 ≤ 100; omega
theorem p5_le (s : ByteArray) : (moreS s [monthS s, dayS s, hourS s, minuteS s, secondS s] (yearS s st0)).p ≤ 100 := by
  simp only [moreS]
  split
  · split
    · split
      · split
        · split
          · show 3 ≤ 100; omega
          · show 2 ≤ 100; omega
        · show 1 ≤ 100; omega
      · show 0 ≤ 100; omega
    · show 0 ≤ 100; omega
  · show 0 ≤ 100; omega

theorem end_ck {w : World} {q : Nat} {s : ByteArray} {S : Mst} (h : Ck w q s S) : Calls Tryz.prog 127 #[.pointer (some ⟨q, 0, none⟩)] w (PostE w (rdO s S)) := by
  obtain ⟨f, hf⟩ := h
  refine end63_any w q f s S.a S.b hf.cur S.o hf.dbt (fmO s S) ?_
  unfold fmO
  by_cases h : S.b = true ∨ S.a < s.size
  · exact .inl ⟨h, if_pos h⟩
  · exact .inr ⟨⟨by cases hb : S.b with | true => exact absurd (.inl hb) h | false => rfl, fun h2 => h (.inr h2)⟩, if_neg h⟩

set_option maxRecDepth 100000 in
set_option maxHeartbeats 2000000 in
theorem readTM (w : World) (s : ByteArray) (hs : s.size ≤ 140737488351232) (hT : Mt w) : Calls Tryz.prog 84 #[.int .i64 21, .string s, .int .i64 0] w (PostR w (mo11 (rdM s (timeS s))) (rdO s (timeS s))) := by
  obtain ⟨r, hr⟩ : ∃ r, w.heap.size = r := ⟨_, rfl⟩
  have hr2 : 5 < r := by
    have h := World.block_lt_of_cell? w ⟨5, 0, none⟩ (hT.p 0 (by omega))
    rw [hr] at h
    exact h
  obtain ⟨W0, hW0⟩ : ∃ W0, w.alloc (.cells #[.int .i64 0, .int .i64 0, .int .i64 0, .int .i64 0, .int .i64 0, .int .i64 0, .int .i64 0, .int .i64 0, .int .i64 0, .bool false, .int .i64 0] 117) = W0 := ⟨_, rfl⟩
  obtain ⟨W1, hW1⟩ : ∃ W1, W0.alloc (.cells #[.string s, .int .i64 0, .bool false, .nilIface, .int .i64 1, .int .i64 1, .int .i64 1, .int .i64 3, .int .i64 0, .int .i64 0, .int .i64 0, .int .i64 0, .int .i64 0, .bool false, .int .i64 0] 131) = W1 := ⟨_, rfl⟩
  have hs0 : W0.heap.size = r + 1 := by rw [← hW0, ← hr]; simp
  have hbel : Below r w W1 := by
    rw [← hW1, ← hW0, ← hr]
    exact ((Below.refl _ _).alloc (Nat.le_refl _) _).alloc (by simp) _
  have hz1 : W1.rowIs r 117 11 zm0 := by
    rw [← hW1]
    refine World.rowIs.alloc ?_ _
    rw [← hW0, ← hr]
    exact World.rowIs_alloc w _ 117 _ (row_lit _)
  have hc1 : Cur W1 (r + 1) (ck0 s) s 0 false := by
    refine ⟨?_, rfl, rfl, rfl⟩
    rw [← hW1, ← hs0]
    exact World.rowIs_alloc W0 _ 131 _ (row_lit _)
  have hT1 : Mt W1 := hT.on (hr ▸ hbel)
  have C1 : Hid (Ck W1 (r + 1) s st0) := ⟨ck0 s, { cur := hc1, le := by show 0 ≤ _; omega, dbt := ⟨rfl, fun p hp => by cases hp⟩, v4 := rfl, v5 := rfl, v6 := rfl, v7 := rfl, v8 := rfl, v9 := rfl, v10 := rfl, v11 := rfl, v12 := rfl, v13 := rfl, v14 := rfl, tab := hT1, q0 := by omega }⟩
  have Z1 : Hid (W1.rowIs r 117 11 zm0) := hz1
  have B1 : Hid (Below r w W1) := hbel
  have HW0 : Hid _ := hW0
  have HW1 : Hid _ := hW1
  have HPL := p2_le s
  obtain ⟨FS, hFS⟩ : ∃ FS, timeS s = FS := ⟨_, rfl⟩
  have HFS : Hid (timeS s = FS) := hFS
  rw [hFS]
  obtain ⟨o, hoo⟩ : ∃ o, rdO s FS = o := ⟨_, rfl⟩
  obtain ⟨M, hMM⟩ : ∃ M, mo11 (rdM s FS) = M := ⟨_, rfl⟩
  have HO : Hid (rdO s FS = o) := hoo
  have HM : Hid ((o = none ∧ M = mo11 FS) ∨ (o ≠ none ∧ M = mo11 zeroS)) := by
    show _ ∨ _
    rw [← hMM]
    unfold rdM
    rw [hoo]
    by_cases h : o = none
    · exact .inl ⟨h, by rw [if_pos h]⟩
    · exact .inr ⟨h, by rw [if_neg h]⟩
  rw [hoo, hMM]
  clear hoo hMM
  clear hz1 hbel hc1 hT1 hT hs0 hW0 hW1 hFS
  have c := hour_ck C1.out hs
  go_enter Tryz.func84, Tryz.ntmps84
  go_wp2_with (go_at_call 120; refine Stop.mk ?_)
  rw [HW0.out, HW1.out]
  refine Stop.out (c.mono ?_)
  rintro e W2 ⟨v2, rfl, hc2, hg2⟩
  have Z2 : Hid (W2.rowIs r 117 11 zm0) := row_kept Z1.out hg2 (by omega)
  have B2 : Hid (Below r w W2) := B1.out.grown hg2 (by have := B1.out.size; omega) (fun k hk => by simp at hk; omega)
  have C2 : Hid (Ck W2 (r + 1) s (hourS s st0)) := hc2
  have hl2 : r + 1 < W2.heap.size := by obtain ⟨f, hf⟩ := hc2; exact hf.cur.row.lt
  clear c hc2 hg2 C1 Z1 B1 HW0 HW1
  obtain ⟨p, hp⟩ : ∃ p, W2.heap.size = p := ⟨_, rfl⟩
  obtain ⟨W3, hW3⟩ : ∃ W3, W2.alloc (.cells #[fv 122 (r + 1), fv 123 (r + 1)] 1) = W3 := ⟨_, rfl⟩
  have hb3 : Below W2.heap.size W2 W3 := hW3 ▸ (Below.refl _ _).alloc (Nat.le_refl _) _
  have C3 := C2.out.on hb3
  have Z3 : Hid (W3.rowIs r 117 11 zm0) := Z2.out.of_block (hb3.block _ Z2.out.lt)
  have B3 : Hid (Below r w W3) := B2.out.trans (hb3.mono (by have := B2.out.size; omega))
  have e0 : W3.cell? ⟨p, 0, none⟩ = some (fv 122 (r + 1)) := by rw [← hW3, ← hp]; simp
  have e1 : W3.cell? ⟨p, 1, none⟩ = some (fv 123 (r + 1)) := by rw [← hW3, ← hp]; simp
  have c := more2_ck (p := p) C3 hs (by omega) e0 e1
  have HW3 : Hid _ := hW3
  unfold fv at HW3
  clear C2 Z2 B2 C3 hb3 hW3 e0 e1
  go_wp2_with (go_at_call 121; refine Stop.mk ?_)
  rw [HW3.out]
  refine Stop.out (c.mono ?_)
  rintro e W4 ⟨v4, rfl, hc4, hg4⟩
  have Z4 : Hid (W4.rowIs r 117 11 zm0) := row_kept Z3.out hg4 (by omega)
  have B4 : Hid (Below r w W4) := B3.out.grown hg4 (by have := B3.out.size; omega) (fun k hk => by simp at hk; omega)
  have c := frac_ck hc4 hs HPL
  clear hc4 hg4 Z3 B3 HW3
  go_wp2_with (go_at_call 124; refine Stop.mk ?_)
  refine Stop.out (c.mono ?_)
  rintro e W5 ⟨v5, rfl, hc5, hg5⟩
  have Z5 : Hid (W5.rowIs r 117 11 zm0) := row_kept Z4.out hg5 (by omega)
  have B5 : Hid (Below r w W5) := B4.out.grown hg5 (by have := B4.out.size; omega) (fun k hk => by simp at hk; omega)
  clear hg5 Z4 B4 c
  have hcF : Ck W5 (r + 1) s FS := by rw [← HFS.out]; exact hc5
  clear HFS hc5 HPL
  have c := end_ck hcF
  have C6 : Hid (Ck W5 (r + 1) s FS) := hcF
  clear hcF
  rw [HO.out] at c
  clear HO
  go_wp2_with (go_at_call 127; refine Stop.mk ?_)
  refine Stop.out (c.mono ?_)
  rintro e W7 ⟨v7, rfl, hv7, hb7⟩
  have C7 := C6.out.on hb7
  have hZ : W7.rowIs r 117 11 zm0 := Z5.out.of_block (hb7.block _ Z5.out.lt)
  have z0 : W7.cell? ⟨r, 0, none⟩ = some (.int .i64 0) := hZ.cell (i := 0) (by omega)
  have z1 : W7.cell? ⟨r, 1, none⟩ = some (.int .i64 0) := hZ.cell (i := 1) (by omega)
  have z2 : W7.cell? ⟨r, 2, none⟩ = some (.int .i64 0) := hZ.cell (i := 2) (by omega)
  have z3 : W7.cell? ⟨r, 3, none⟩ = some (.int .i64 0) := hZ.cell (i := 3) (by omega)
  have z4 : W7.cell? ⟨r, 4, none⟩ = some (.int .i64 0) := hZ.cell (i := 4) (by omega)
  have z5 : W7.cell? ⟨r, 5, none⟩ = some (.int .i64 0) := hZ.cell (i := 5) (by omega)
  have z6 : W7.cell? ⟨r, 6, none⟩ = some (.int .i64 0) := hZ.cell (i := 6) (by omega)
  have z7 : W7.cell? ⟨r, 7, none⟩ = some (.int .i64 0) := hZ.cell (i := 7) (by omega)
  have z8 : W7.cell? ⟨r, 8, none⟩ = some (.int .i64 0) := hZ.cell (i := 8) (by omega)
  have z9 : W7.cell? ⟨r, 9, none⟩ = some (.bool false) := hZ.cell (i := 9) (by omega)
  have z10 : W7.cell? ⟨r, 10, none⟩ = some (.int .i64 0) := hZ.cell (i := 10) (by omega)
  have zf : ∀ i, W7.frozen? ⟨r, i, none⟩ = false := fun i => hZ.frozen i
  have HV : Hid (PErr W7 v7 o) := hv7
  have HB7 : Hid (Below r w W7) := B5.out.trans (hb7.mono (by have := B5.out.size; omega))
  clear B5 hv7 hb7 Z5 C6 hZ c
  obtain ⟨f7, hf7⟩ := C7
  rcases HM.out with ⟨ho, hM⟩ | ⟨ho, hM⟩
  · subst ho
    subst hM
    clear HM
    obtain rfl : v7 = .nilIface := HV.out
    have g4 : W7.cell? ⟨r + 1, 4, none⟩ = some (.int .i64 (FS.y : Int)) := by have h := hf7.cur.row.cell (i := 4) (by omega); rw [hf7.v4] at h; exact h
    have g5 : W7.cell? ⟨r + 1, 5, none⟩ = some (.int .i64 (FS.m : Int)) := by have h := hf7.cur.row.cell (i := 5) (by omega); rw [hf7.v5] at h; exact h
    have g6 : W7.cell? ⟨r + 1, 6, none⟩ = some (.int .i64 (FS.d : Int)) := by have h := hf7.cur.row.cell (i := 6) (by omega); rw [hf7.v6] at h; exact h
    have g7 : W7.cell? ⟨r + 1, 7, none⟩ = some (.int .i64 (FS.dp : Int)) := by have h := hf7.cur.row.cell (i := 7) (by omega); rw [hf7.v7] at h; exact h
    have g8 : W7.cell? ⟨r + 1, 8, none⟩ = some (.int .i64 (FS.h : Int)) := by have h := hf7.cur.row.cell (i := 8) (by omega); rw [hf7.v8] at h; exact h
    have g9 : W7.cell? ⟨r + 1, 9, none⟩ = some (.int .i64 (FS.mi : Int)) := by have h := hf7.cur.row.cell (i := 9) (by omega); rw [hf7.v9] at h; exact h
    have g10 : W7.cell? ⟨r + 1, 10, none⟩ = some (.int .i64 (FS.sc : Int)) := by have h := hf7.cur.row.cell (i := 10) (by omega); rw [hf7.v10] at h; exact h
    have g11 : W7.cell? ⟨r + 1, 11, none⟩ = some (.int .i64 (FS.mc : Int)) := by have h := hf7.cur.row.cell (i := 11) (by omega); rw [hf7.v11] at h; exact h
    have g12 : W7.cell? ⟨r + 1, 12, none⟩ = some (.int .i64 (FS.p : Int)) := by have h := hf7.cur.row.cell (i := 12) (by omega); rw [hf7.v12] at h; exact h
    have g13 : W7.cell? ⟨r + 1, 13, none⟩ = some (.bool FS.zd) := by have h := hf7.cur.row.cell (i := 13) (by omega); rw [hf7.v13] at h; exact h
    have g14 : W7.cell? ⟨r + 1, 14, none⟩ = some (.int .i64 FS.z) := by have h := hf7.cur.row.cell (i := 14) (by omega); rw [hf7.v14] at h; exact h
    clear hf7
    go_wp2
    refine bodyPost_ret (v := .tuple #[.agg #[.int .i64 (FS.y : Int), .int .i64 (FS.m : Int), .int .i64 (FS.d : Int), .int .i64 (FS.dp : Int), .int .i64 (FS.h : Int), .int .i64 (FS.mi : Int), .int .i64 (FS.sc : Int), .int .i64 (FS.mc : Int), .int .i64 (FS.p : Int), .bool FS.zd, .int .i64 FS.z], .nilIface]) (by simp [results, Tryz.results84, go_sem, z0, z1, z2, z3, z4, z5, z6, z7, z8, z9, z10]) rfl ⟨_, rfl, rfl, ?_⟩
    rw [hr]
    exact (((((((((((HB7.out).setCell (p := ⟨r, 0, none⟩) (Nat.le_refl _) _).setCell (p := ⟨r, 1, none⟩) (Nat.le_refl _) _).setCell (p := ⟨r, 2, none⟩) (Nat.le_refl _) _).setCell (p := ⟨r, 3, none⟩) (Nat.le_refl _) _).setCell (p := ⟨r, 4, none⟩) (Nat.le_refl _) _).setCell (p := ⟨r, 5, none⟩) (Nat.le_refl _) _).setCell (p := ⟨r, 6, none⟩) (Nat.le_refl _) _).setCell (p := ⟨r, 7, none⟩) (Nat.le_refl _) _).setCell (p := ⟨r, 8, none⟩) (Nat.le_refl _) _).setCell (p := ⟨r, 9, none⟩) (Nat.le_refl _) _).setCell (p := ⟨r, 10, none⟩) (Nat.le_refl _) _
  · subst hM
    clear HM
    obtain ⟨x, rfl⟩ : ∃ x, o = some x := by cases o with | none => exact absurd rfl ho | some x => exact ⟨x, rfl⟩
    have hv := HV.out
    obtain ⟨pp, rfl, hF⟩ := hv
    have hpr : r ≠ pp := by
      rintro rfl
      have := hF.2.2
      rw [z2] at this
      cases this
    clear hf7 hF ho
    go_wp2
    refine bodyPost_ret (v := .tuple #[mo11 zeroS, .iface 44 (.pointer (some ⟨pp, 0, none⟩))]) (by simp [results, Tryz.results84, go_sem, mo11, zeroS, z0, z1, z2, z3, z4, z5, z6, z7, z8, z9, z10]) rfl ⟨_, rfl, ?_, ?_⟩
    · have hD : Dbt W7 r (.iface 44 (.pointer (some ⟨pp, 0, none⟩))) (some x) := ⟨HV.out, fun p' hp' => by
        obtain rfl : pp = p' := by simpa using hp'
        exact fun e => hpr e.symm⟩
      exact (hD.grown (grown_set (grown_set (grown_set (grown_set (grown_set (grown_set (grown_set (grown_set (grown_set (grown_set (grown_set (grown_refl _ _) 0 _) 1 _) 2 _) 3 _) 4 _) 5 _) 6 _) 7 _) 8 _) 9 _) 10 _)).1
    · rw [hr]
      exact (((((((((((HB7.out).setCell (p := ⟨r, 0, none⟩) (Nat.le_refl _) _).setCell (p := ⟨r, 1, none⟩) (Nat.le_refl _) _).setCell (p := ⟨r, 2, none⟩) (Nat.le_refl _) _).setCell (p := ⟨r, 3, none⟩) (Nat.le_refl _) _).setCell (p := ⟨r, 4, none⟩) (Nat.le_refl _) _).setCell (p := ⟨r, 5, none⟩) (Nat.le_refl _) _).setCell (p := ⟨r, 6, none⟩) (Nat.le_refl _) _).setCell (p := ⟨r, 7, none⟩) (Nat.le_refl _) _).setCell (p := ⟨r, 8, none⟩) (Nat.le_refl _) _).setCell (p := ⟨r, 9, none⟩) (Nat.le_refl _) _).setCell (p := ⟨r, 10, none⟩) (Nat.le_refl _) _

set_option maxRecDepth 100000 in
set_option maxHeartbeats 2000000 in
theorem readDT (w : World) (s : ByteArray) (hs : s.size ≤ 140737488351232) (hT : Mt w) : Calls Tryz.prog 84 #[.int .i64 7, .string s, .int .i64 0] w (PostR w (mo11 (rdM s (momS s))) (rdO s (momS s))) := by
  obtain ⟨r, hr⟩ : ∃ r, w.heap.size = r := ⟨_, rfl⟩
  have hr2 : 5 < r := by
    have h := World.block_lt_of_cell? w ⟨5, 0, none⟩ (hT.p 0 (by omega))
    rw [hr] at h
    exact h
  obtain ⟨W0, hW0⟩ : ∃ W0, w.alloc (.cells #[.int .i64 0, .int .i64 0, .int .i64 0, .int .i64 0, .int .i64 0, .int .i64 0, .int .i64 0, .int .i64 0, .int .i64 0, .bool false, .int .i64 0] 117) = W0 := ⟨_, rfl⟩
  obtain ⟨W1, hW1⟩ : ∃ W1, W0.alloc (.cells #[.string s, .int .i64 0, .bool false, .nilIface, .int .i64 1, .int .i64 1, .int .i64 1, .int .i64 3, .int .i64 0, .int .i64 0, .int .i64 0, .int .i64 0, .int .i64 0, .bool false, .int .i64 0] 131) = W1 := ⟨_, rfl⟩
  have hs0 : W0.heap.size = r + 1 := by rw [← hW0, ← hr]; simp
  have hbel : Below r w W1 := by
    rw [← hW1, ← hW0, ← hr]
    exact ((Below.refl _ _).alloc (Nat.le_refl _) _).alloc (by simp) _
  have hz1 : W1.rowIs r 117 11 zm0 := by
    rw [← hW1]
    refine World.rowIs.alloc ?_ _
    rw [← hW0, ← hr]
    exact World.rowIs_alloc w _ 117 _ (row_lit _)
  have hc1 : Cur W1 (r + 1) (ck0 s) s 0 false := by
    refine ⟨?_, rfl, rfl, rfl⟩
    rw [← hW1, ← hs0]
    exact World.rowIs_alloc W0 _ 131 _ (row_lit _)
  have hT1 : Mt W1 := hT.on (hr ▸ hbel)
  have C1 : Hid (Ck W1 (r + 1) s st0) := ⟨ck0 s, { cur := hc1, le := by show 0 ≤ _; omega, dbt := ⟨rfl, fun p hp => by cases hp⟩, v4 := rfl, v5 := rfl, v6 := rfl, v7 := rfl, v8 := rfl, v9 := rfl, v10 := rfl, v11 := rfl, v12 := rfl, v13 := rfl, v14 := rfl, tab := hT1, q0 := by omega }⟩
  have Z1 : Hid (W1.rowIs r 117 11 zm0) := hz1
  have B1 : Hid (Below r w W1) := hbel
  have HW0 : Hid _ := hW0
  have HW1 : Hid _ := hW1
  have HPL := p5_le s
  obtain ⟨FS, hFS⟩ : ∃ FS, momS s = FS := ⟨_, rfl⟩
  have HFS : Hid (momS s = FS) := hFS
  rw [hFS]
  obtain ⟨o, hoo⟩ : ∃ o, rdO s FS = o := ⟨_, rfl⟩
  obtain ⟨M, hMM⟩ : ∃ M, mo11 (rdM s FS) = M := ⟨_, rfl⟩
  have HO : Hid (rdO s FS = o) := hoo
  have HM : Hid ((o = none ∧ M = mo11 FS) ∨ (o ≠ none ∧ M = mo11 zeroS)) := by
    show _ ∨ _
    rw [← hMM]
    unfold rdM
    rw [hoo]
    by_cases h : o = none
    · exact .inl ⟨h, by rw [if_pos h]⟩
    · exact .inr ⟨h, by rw [if_neg h]⟩
  rw [hoo, hMM]
  clear hoo hMM
  clear hz1 hbel hc1 hT1 hT hs0 hW0 hW1 hFS
  have c := year_ck C1.out hs
  go_enter Tryz.func84, Tryz.ntmps84
  go_wp2_with (go_at_call 117; refine Stop.mk ?_)
  rw [HW0.out, HW1.out]
  refine Stop.out (c.mono ?_)
  rintro e W2 ⟨v2, rfl, hc2, hg2⟩
  have Z2 : Hid (W2.rowIs r 117 11 zm0) := row_kept Z1.out hg2 (by omega)
  have B2 : Hid (Below r w W2) := B1.out.grown hg2 (by have := B1.out.size; omega) (fun k hk => by simp at hk; omega)
  have C2 : Hid (Ck W2 (r + 1) s (yearS s st0)) := hc2
  have hl2 : r + 1 < W2.heap.size := by obtain ⟨f, hf⟩ := hc2; exact hf.cur.row.lt
  clear c hc2 hg2 C1 Z1 B1 HW0 HW1
  obtain ⟨p, hp⟩ : ∃ p, W2.heap.size = p := ⟨_, rfl⟩
  obtain ⟨W3, hW3⟩ : ∃ W3, W2.alloc (.cells #[fv 118 (r + 1), fv 119 (r + 1), fv 120 (r + 1), fv 122 (r + 1), fv 123 (r + 1)] 1) = W3 := ⟨_, rfl⟩
  have hb3 : Below W2.heap.size W2 W3 := hW3 ▸ (Below.refl _ _).alloc (Nat.le_refl _) _
  have C3 := C2.out.on hb3
  have Z3 : Hid (W3.rowIs r 117 11 zm0) := Z2.out.of_block (hb3.block _ Z2.out.lt)
  have B3 : Hid (Below r w W3) := B2.out.trans (hb3.mono (by have := B2.out.size; omega))
  have e0 : W3.cell? ⟨p, 0, none⟩ = some (fv 118 (r + 1)) := by rw [← hW3, ← hp]; simp
  have e1 : W3.cell? ⟨p, 1, none⟩ = some (fv 119 (r + 1)) := by rw [← hW3, ← hp]; simp
  have e2 : W3.cell? ⟨p, 2, none⟩ = some (fv 120 (r + 1)) := by rw [← hW3, ← hp]; simp
  have e3 : W3.cell? ⟨p, 3, none⟩ = some (fv 122 (r + 1)) := by rw [← hW3, ← hp]; simp
  have e4 : W3.cell? ⟨p, 4, none⟩ = some (fv 123 (r + 1)) := by rw [← hW3, ← hp]; simp
  have c := more5_ck (p := p) C3 hs (by omega) e0 e1 e2 e3 e4
  have HW3 : Hid _ := hW3
  unfold fv at HW3
  clear C2 Z2 B2 C3 hb3 hW3 e0 e1 e2 e3 e4
  go_wp2_with (go_at_call 121; refine Stop.mk ?_)
  rw [HW3.out]
  refine Stop.out (c.mono ?_)
  rintro e W4 ⟨v4, rfl, hc4, hg4⟩
  have Z4 : Hid (W4.rowIs r 117 11 zm0) := row_kept Z3.out hg4 (by omega)
  have B4 : Hid (Below r w W4) := B3.out.grown hg4 (by have := B3.out.size; omega) (fun k hk => by simp at hk; omega)
  have c := frac_ck hc4 hs HPL
  clear hc4 hg4 Z3 B3 HW3
  go_wp2_with (go_at_call 124; refine Stop.mk ?_)
  refine Stop.out (c.mono ?_)
  rintro e W5 ⟨v5, rfl, hc5, hg5⟩
  have Z5 : Hid (W5.rowIs r 117 11 zm0) := row_kept Z4.out hg5 (by omega)
  have B5 : Hid (Below r w W5) := B4.out.grown hg5 (by have := B4.out.size; omega) (fun k hk => by simp at hk; omega)
  clear hg5 Z4 B4 c
  have c := zone_ck hc5 hs
  clear hc5
  go_wp2_with (go_at_call 125; refine Stop.mk ?_)
  refine Stop.out (c.mono ?_)
  rintro e W6 ⟨v6, rfl, hc6, hg6⟩
  have Z6 : Hid (W6.rowIs r 117 11 zm0) := row_kept Z5.out hg6 (by omega)
  have B6 : Hid (Below r w W6) := B5.out.grown hg6 (by have := B5.out.size; omega) (fun k hk => by simp at hk; omega)
  clear hg6 Z5 B5 c
  have hcF : Ck W6 (r + 1) s FS := by rw [← HFS.out]; exact hc6
  clear HFS hc6 HPL
  have c := end_ck hcF
  have C6 : Hid (Ck W6 (r + 1) s FS) := hcF
  clear hcF
  rw [HO.out] at c
  clear HO
  go_wp2_with (go_at_call 127; refine Stop.mk ?_)
  refine Stop.out (c.mono ?_)
  rintro e W7 ⟨v7, rfl, hv7, hb7⟩
  have C7 := C6.out.on hb7
  have hZ : W7.rowIs r 117 11 zm0 := Z6.out.of_block (hb7.block _ Z6.out.lt)
  have z0 : W7.cell? ⟨r, 0, none⟩ = some (.int .i64 0) := hZ.cell (i := 0) (by omega)
  have z1 : W7.cell? ⟨r, 1, none⟩ = some (.int .i64 0) := hZ.cell (i := 1) (by omega)
  have z2 : W7.cell? ⟨r, 2, none⟩ = some (.int .i64 0) := hZ.cell (i := 2) (by omega)
  have z3 : W7.cell? ⟨r, 3, none⟩ = some (.int .i64 0) := hZ.cell (i := 3) (by omega)
  have z4 : W7.cell? ⟨r, 4, none⟩ = some (.int .i64 0) := hZ.cell (i := 4) (by omega)
  have z5 : W7.cell? ⟨r, 5, none⟩ = some (.int .i64 0) := hZ.cell (i := 5) (by omega)
  have z6 : W7.cell? ⟨r, 6, none⟩ = some (.int .i64 0) := hZ.cell (i := 6) (by omega)
  have z7 : W7.cell? ⟨r, 7, none⟩ = some (.int .i64 0) := hZ.cell (i := 7) (by omega)
  have z8 : W7.cell? ⟨r, 8, none⟩ = some (.int .i64 0) := hZ.cell (i := 8) (by omega)
  have z9 : W7.cell? ⟨r, 9, none⟩ = some (.bool false) := hZ.cell (i := 9) (by omega)
  have z10 : W7.cell? ⟨r, 10, none⟩ = some (.int .i64 0) := hZ.cell (i := 10) (by omega)
  have zf : ∀ i, W7.frozen? ⟨r, i, none⟩ = false := fun i => hZ.frozen i
  have HV : Hid (PErr W7 v7 o) := hv7
  have HB7 : Hid (Below r w W7) := B6.out.trans (hb7.mono (by have := B6.out.size; omega))
  clear B6 hv7 hb7 Z6 C6 hZ c
  obtain ⟨f7, hf7⟩ := C7
  rcases HM.out with ⟨ho, hM⟩ | ⟨ho, hM⟩
  · subst ho
    subst hM
    clear HM
    obtain rfl : v7 = .nilIface := HV.out
    have g4 : W7.cell? ⟨r + 1, 4, none⟩ = some (.int .i64 (FS.y : Int)) := by have h := hf7.cur.row.cell (i := 4) (by omega); rw [hf7.v4] at h; exact h
    have g5 : W7.cell? ⟨r + 1, 5, none⟩ = some (.int .i64 (FS.m : Int)) := by have h := hf7.cur.row.cell (i := 5) (by omega); rw [hf7.v5] at h; exact h
    have g6 : W7.cell? ⟨r + 1, 6, none⟩ = some (.int .i64 (FS.d : Int)) := by have h := hf7.cur.row.cell (i := 6) (by omega); rw [hf7.v6] at h; exact h
    have g7 : W7.cell? ⟨r + 1, 7, none⟩ = some (.int .i64 (FS.dp : Int)) := by have h := hf7.cur.row.cell (i := 7) (by omega); rw [hf7.v7] at h; exact h
    have g8 : W7.cell? ⟨r + 1, 8, none⟩ = some (.int .i64 (FS.h : Int)) := by have h := hf7.cur.row.cell (i := 8) (by omega); rw [hf7.v8] at h; exact h
    have g9 : W7.cell? ⟨r + 1, 9, none⟩ = some (.int .i64 (FS.mi : Int)) := by have h := hf7.cur.row.cell (i := 9) (by omega); rw [hf7.v9] at h; exact h
    have g10 : W7.cell? ⟨r + 1, 10, none⟩ = some (.int .i64 (FS.sc : Int)) := by have h := hf7.cur.row.cell (i := 10) (by omega); rw [hf7.v10] at h; exact h
    have g11 : W7.cell? ⟨r + 1, 11, none⟩ = some (.int .i64 (FS.mc : Int)) := by have h := hf7.cur.row.cell (i := 11) (by omega); rw [hf7.v11] at h; exact h
    have g12 : W7.cell? ⟨r + 1, 12, none⟩ = some (.int .i64 (FS.p : Int)) := by have h := hf7.cur.row.cell (i := 12) (by omega); rw [hf7.v12] at h; exact h
    have g13 : W7.cell? ⟨r + 1, 13, none⟩ = some (.bool FS.zd) := by have h := hf7.cur.row.cell (i := 13) (by omega); rw [hf7.v13] at h; exact h
    have g14 : W7.cell? ⟨r + 1, 14, none⟩ = some (.int .i64 FS.z) := by have h := hf7.cur.row.cell (i := 14) (by omega); rw [hf7.v14] at h; exact h
    clear hf7
    go_wp2
    refine bodyPost_ret (v := .tuple #[.agg #[.int .i64 (FS.y : Int), .int .i64 (FS.m : Int), .int .i64 (FS.d : Int), .int .i64 (FS.dp : Int), .int .i64 (FS.h : Int), .int .i64 (FS.mi : Int), .int .i64 (FS.sc : Int), .int .i64 (FS.mc : Int), .int .i64 (FS.p : Int), .bool FS.zd, .int .i64 FS.z], .nilIface]) (by simp [results, Tryz.results84, go_sem, z0, z1, z2, z3, z4, z5, z6, z7, z8, z9, z10]) rfl ⟨_, rfl, rfl, ?_⟩
    rw [hr]
    exact (((((((((((HB7.out).setCell (p := ⟨r, 0, none⟩) (Nat.le_refl _) _).setCell (p := ⟨r, 1, none⟩) (Nat.le_refl _) _).setCell (p := ⟨r, 2, none⟩) (Nat.le_refl _) _).setCell (p := ⟨r, 3, none⟩) (Nat.le_refl _) _).setCell (p := ⟨r, 4, none⟩) (Nat.le_refl _) _).setCell (p := ⟨r, 5, none⟩) (Nat.le_refl _) _).setCell (p := ⟨r, 6, none⟩) (Nat.le_refl _) _).setCell (p := ⟨r, 7, none⟩) (Nat.le_refl _) _).setCell (p := ⟨r, 8, none⟩) (Nat.le_refl _) _).setCell (p := ⟨r, 9, none⟩) (Nat.le_refl _) _).setCell (p := ⟨r, 10, none⟩) (Nat.le_refl _) _
  · subst hM
    clear HM
    obtain ⟨x, rfl⟩ : ∃ x, o = some x := by cases o with | none => exact absurd rfl ho | some x => exact ⟨x, rfl⟩
    have hv := HV.out
    obtain ⟨pp, rfl, hF⟩ := hv
    have hpr : r ≠ pp := by
      rintro rfl
      have := hF.2.2
      rw [z2] at this
      cases this
    clear hf7 hF ho
    go_wp2
    refine bodyPost_ret (v := .tuple #[mo11 zeroS, .iface 44 (.pointer (some ⟨pp, 0, none⟩))]) (by simp [results, Tryz.results84, go_sem, mo11, zeroS, z0, z1, z2, z3, z4, z5, z6, z7, z8, z9, z10]) rfl ⟨_, rfl, ?_, ?_⟩
    · have hD : Dbt W7 r (.iface 44 (.pointer (some ⟨pp, 0, none⟩))) (some x) := ⟨HV.out, fun p' hp' => by
        obtain rfl : pp = p' := by simpa using hp'
        exact fun e => hpr e.symm⟩
      exact (hD.grown (grown_set (grown_set (grown_set (grown_set (grown_set (grown_set (grown_set (grown_set (grown_set (grown_set (grown_set (grown_refl _ _) 0 _) 1 _) 2 _) 3 _) 4 _) 5 _) 6 _) 7 _) 8 _) 9 _) 10 _)).1
    · rw [hr]
      exact (((((((((((HB7.out).setCell (p := ⟨r, 0, none⟩) (Nat.le_refl _) _).setCell (p := ⟨r, 1, none⟩) (Nat.le_refl _) _).setCell (p := ⟨r, 2, none⟩) (Nat.le_refl _) _).setCell (p := ⟨r, 3, none⟩) (Nat.le_refl _) _).setCell (p := ⟨r, 4, none⟩) (Nat.le_refl _) _).setCell (p := ⟨r, 5, none⟩) (Nat.le_refl _) _).setCell (p := ⟨r, 6, none⟩) (Nat.le_refl _) _).setCell (p := ⟨r, 7, none⟩) (Nat.le_refl _) _).setCell (p := ⟨r, 8, none⟩) (Nat.le_refl _) _).setCell (p := ⟨r, 9, none⟩) (Nat.le_refl _) _).setCell (p := ⟨r, 10, none⟩) (Nat.le_refl _) _
end Go.Proofs.YtgdemlebohlolaaGreatDoor.Tm
