import Derived.Test.YtggdlagopgpnhaaDoorY
import Derived.Test.YtggdlagopgpnhaaDoorZ
import Derived.Deep.RegionHeld3
/-
  DERIVED. Both write a day.
-/
namespace Go.Proofs.YtggdlagopgpnhaaDoor
open Go Go.Proofs Go.RowKit

structure P2 (w wx : World) (y m d : Int) : Prop where
  d : wx.rowIs w.heap.size 23 3 (f3 y m d)
  e : wx.rowIs (w.heap.size + 1) 37 2 fN
  b : Below w.heap.size w wx
theorem P2.on {w wx wy : World} {y m d : Int} (h : P2 w wx y m d) (hb : Below wx.heap.size wx wy) : P2 w wy y m d :=
  ⟨row_on h.d hb, row_on h.e hb, h.b.trans (hb.mono h.b.size)⟩
theorem P2.c {w wx : World} {y m d : Int} (h : P2 w wx y m d) : wx.cell? ⟨w.heap.size, 0, none⟩ = some (.int .i64 y) ∧ wx.cell? ⟨w.heap.size, 1, none⟩ = some (.int .i64 m) ∧ wx.cell? ⟨w.heap.size, 2, none⟩ = some (.int .i64 d) :=
  ⟨h.d.cell (i := 0) (by omega), h.d.cell (i := 1) (by omega), h.d.cell (i := 2) (by omega)⟩

theorem P2.cs {w wx : World} {y m d : Int} (h : P2 w wx y m d) (a b : Value) : ((wx.setCell ⟨w.heap.size + 1, 0, none⟩ a).setCell ⟨w.heap.size + 1, 1, none⟩ b).cell? ⟨w.heap.size, 0, none⟩ = some (.int .i64 y) ∧ ((wx.setCell ⟨w.heap.size + 1, 0, none⟩ a).setCell ⟨w.heap.size + 1, 1, none⟩ b).cell? ⟨w.heap.size, 1, none⟩ = some (.int .i64 m) ∧ ((wx.setCell ⟨w.heap.size + 1, 0, none⟩ a).setCell ⟨w.heap.size + 1, 1, none⟩ b).cell? ⟨w.heap.size, 2, none⟩ = some (.int .i64 d) := by
  have n1 : w.heap.size + 1 ≠ w.heap.size := by omega
  exact ⟨(cell_set_off n1).trans ((cell_set_off n1).trans h.c.1), (cell_set_off n1).trans ((cell_set_off n1).trans h.c.2.1), (cell_set_off n1).trans ((cell_set_off n1).trans h.c.2.2)⟩

/-- What is written. -/
def wr12 (y m d : Int) : ByteArray := if uf y m d = -1 then txt y.toNat m.toNat d.toNat else ⟨#[]⟩
def wo (y m d : Int) : Option (Int × Int) := if uf y m d = -1 then none else some (uf y m d, 102)

theorem isDay_of {y m d : Int} (hu : uf y m d = -1) : ∃ yn mn dn : Nat, y = yn ∧ m = mn ∧ d = dn ∧ Day yn mn dn := by
  unfold uf at hu
  split at hu
  · omega
  · split at hu
    · omega
    · split at hu
      · omega
      · rename_i h1 h2 h3
        refine ⟨y.toNat, m.toNat, d.toNat, by omega, by omega, by omega, ?_⟩
        exact ⟨by omega, by omega, by omega, by omega, by omega, by omega⟩

set_option maxRecDepth 100000 in
set_option maxHeartbeats 1000000 in
theorem print9_any (w : World) (y m d : Int) (hT : Mt w) (hp : Pow w) : Calls Tryd.prog 9 #[dv y m d] w (PostR w (.string (wr12 y m d)) (wo y m d)) := by
  unfold wr12 wo
  by_cases hu : uf y m d = -1
  · rw [if_pos hu, if_pos hu]
    obtain ⟨yn, mn, dn, rfl, rfl, rfl, hday⟩ := isDay_of hu
    rw [Int.toNat_natCast, Int.toNat_natCast, Int.toNat_natCast]
    exact (print_any w yn mn dn hday hT hp).mono fun e w' h => ⟨_, h.1, rfl, h.2⟩
  · rw [if_neg hu, if_neg hu]
    obtain ⟨W, hW⟩ : ∃ W, w.alloc (.cells #[.int .i64 y, .int .i64 m, .int .i64 d] 23) = W := ⟨_, rfl⟩
    have HB : Hid (Below w.heap.size w W) := hW ▸ (Below.refl _ _).alloc (Nat.le_refl _) _
    have q0 : W.cell? ⟨w.heap.size, 0, none⟩ = some (.int .i64 y) := by rw [← hW]; simp
    have q1 : W.cell? ⟨w.heap.size, 1, none⟩ = some (.int .i64 m) := by rw [← hW]; simp
    have q2 : W.cell? ⟨w.heap.size, 2, none⟩ = some (.int .i64 d) := by rw [← hW]; simp
    have c27 := unfit_any W y m d (hT.on HB.out)
    have hu' : (uf y m d == -1) = false := by simpa using hu
    have hu'' : ¬ uf y m d = -1 := hu
    have c24 := fun W' => refusal_any (uf y m d) 102 W'
    generalize uf y m d = u at *
    clear hT hp
    unfold dv at *
    go_enter Tryd.func9, Tryd.ntmps9
    go_wp2_with (go_at_call 27; refine Stop.mk ?_)
    refine Stop.out (c27.mono ?_)
    rintro e W2 ⟨rfl, hb2⟩
    have HB2 : Hid (Below w.heap.size w W2) := HB.out.trans (hb2.mono HB.out.size)
    clear c27 q0 q1 q2 hb2
    go_wp2_with (go_at_call 24; refine Stop.mk ?_)
    refine Stop.out ((c24 _).mono ?_)
    rintro e W3 ⟨v, rfl, hv, hb3⟩
    have HB3 : Hid (Below w.heap.size w W3) := HB2.out.trans (hb3.mono HB2.out.size)
    have HV : Hid (PErr W3 v (some (u, 102))) := hv
    clear hb3 c24 hv
    go_wp2
    exact bodyPost_ret (v := .tuple #[.string ⟨#[]⟩, v]) (by simp [results, Tryd.results9, go_sem]) rfl ⟨v, rfl, HV.out, HB3.out⟩

set_option maxRecDepth 100000 in
set_option maxHeartbeats 1000000 in
theorem print12_any (w : World) (y m d : Int) : Calls Tryd.prog 12 #[dv y m d] w (PostF w (.string (wr12 y m d)) (wo y m d)) := by
  obtain ⟨W1, hW1⟩ : ∃ W1, w.alloc (.cells #[.int .i64 y, .int .i64 m, .int .i64 d] 23) = W1 := ⟨_, rfl⟩
  have hs1 : W1.heap.size = w.heap.size + 1 := by rw [← hW1]; simp
  obtain ⟨W2, hW2⟩ : ∃ W2, W1.alloc (.cells #[.slice none 0 0, .int .i64 0] 37) = W2 := ⟨_, rfl⟩
  have HP : Hid (P2 w W2 y m d) := by
    refine ⟨?_, ?_, ?_⟩
    · rw [← hW2, ← hW1]
      exact (World.rowIs_alloc w _ 23 _ (fun i hi => by
        rcases (by simp at hi; omega : i = 0 ∨ i = 1 ∨ i = 2) with rfl | rfl | rfl <;> rfl)).alloc _
    · rw [← hW2, ← hs1]
      exact World.rowIs_alloc W1 _ 37 _ (fun i hi => by
        rcases (by simp at hi; omega : i = 0 ∨ i = 1) with rfl | rfl <;> rfl)
    · exact hW2 ▸ (hW1 ▸ (Below.refl _ _).alloc (Nat.le_refl _) _ : Below w.heap.size w W1).alloc (by omega) _
  obtain ⟨q0, q1, q2⟩ := HP.out.c
  have c35 := dayNo_any W2 y m d
  unfold wr12 wo
  by_cases hu : uf y m d = -1
  · rw [if_pos hu, if_pos hu]
    rw [hu] at c35
    obtain ⟨yn, mn, dn, rfl, rfl, rfl, hday⟩ := isDay_of hu
    rw [Int.toNat_natCast, Int.toNat_natCast, Int.toNat_natCast]
    obtain ⟨hy1, hy2, hm1, hm2, hd1, hd2⟩ := hday
    have hmd := md_le yn mn
    have c36 : ∀ (W : World) (nI kI : Int), Fit nI kI → Calls Tryd.prog 36 #[.int .i64 nI, .int .i64 kI] W fun e w' => e = .returned (.string (pdB nI.toNat kI.toNat)) ∧ Below W.heap.size W w' := by
      rintro W nI kI ⟨n, k, rfl, rfl, _, _, hk, hn⟩
      exact pad36_any W n k hn hk
    have hY : Fit (yn : Int) 4 := ⟨yn, 4, rfl, rfl, by omega, by omega, by omega, by omega⟩
    have hM : Fit (mn : Int) 2 := ⟨mn, 2, rfl, rfl, by omega, by omega, by omega, by omega⟩
    have hD : Fit (dn : Int) 2 := ⟨dn, 2, rfl, rfl, by omega, by omega, by omega, by omega⟩
    have c34 := fun W => none34_any W
    have HX : Hid (txt yn mn dn = pdB yn 4 ++ pdB mn 2 ++ pdB dn 2) := rfl
    generalize txt yn mn dn = X at *
    have z1 : (pdB yn 4).size = 4 := pdB_size _ _
    have z2 : (pdB mn 2).size = 2 := pdB_size _ _
    have z3 : (pdB dn 2).size = 2 := pdB_size _ _
    have z4 : (pdB yn 4 ++ pdB mn 2).size = 6 := by rw [ByteArray.size_append, z1, z2]
    clear hu hy1 hy2 hm1 hm2 hd1 hd2 hmd
    unfold dv at *
    go_enter Tryd.func12, Tryd.ntmps12
    go_wp2_with (go_at_call 35; refine Stop.mk ?_)
    refine Stop.out (c35.mono ?_)
    rintro e W3 ⟨rfl, hb3⟩
    have HP3 : Hid (P2 w W3.drew yn mn dn) := by
      have := HP.out.on hb3
      exact ⟨this.d, this.e, this.b.drew⟩
    clear c35 q0 q1 q2 hb3 HP hW1 hW2
    go_wp2
    have hB := HP3.out
    go_region_held3 (fun w' => w'.cell? ⟨w.heap.size, 0, none⟩ = some (.int .i64 (yn : Int)) ∧ w'.cell? ⟨w.heap.size, 1, none⟩ = some (.int .i64 (mn : Int)) ∧ w'.cell? ⟨w.heap.size, 2, none⟩ = some (.int .i64 (dn : Int))) (first | exact hB.c | exact P2.cs hB _ _) (first | (go_at_call 36; refine (c36 _ _ _ ?_).mono ?_; (focus (first | exact hY | exact hM | exact hD)); rintro e W6 ⟨rfl, hb6⟩; replace hB := P2.on hB hb6) | (go_at_call 34; refine (c34 _).mono ?_; rintro e W6 ⟨rfl, hb6⟩; replace hB := P2.on hB hb6; have s0 : W6.cell? ⟨w.heap.size + 1, 0, none⟩ = some (.slice none 0 0) := hB.e.cell (i := 0) (by omega); have s1 : W6.cell? ⟨w.heap.size + 1, 1, none⟩ = some (.int .i64 0) := hB.e.cell (i := 1) (by omega); have sf := fun i => hB.e.frozen i))
    all_goals
      go_wp2
      refine bodyPost_ret (v := .tuple #[.string (pdB yn 4 ++ pdB mn 2 ++ pdB dn 2), .agg #[.slice none 0 0, .int .i64 0]]) (by simp [results, Tryd.results12, go_sem, s0, s1]) rfl ⟨_, by rw [HX.out], rfl, ?_⟩
      exact (hB.b.setCell (p := ⟨w.heap.size + 1, 0, none⟩) (Nat.le_succ _) _).setCell (p := ⟨w.heap.size + 1, 1, none⟩) (Nat.le_succ _) _
  · rw [if_neg hu, if_neg hu]
    have hu0 : 0 ≤ uf y m d := (uf_is y m d).resolve_left hu |>.1
    generalize uf y m d = U at *
    have c32 := fun W' => no_any U 102 W'
    have hUI : (0 : Int) ≤ U := hu0
    clear hu
    unfold dv at *
    go_enter Tryd.func12, Tryd.ntmps12
    go_wp2_with (go_at_call 35; refine Stop.mk ?_)
    refine Stop.out (c35.mono ?_)
    rintro e W3 ⟨rfl, hb3⟩
    have HP3 : Hid (P2 w W3 y m d) := HP.out.on hb3
    clear c35 q0 q1 q2 hb3 HP hW1 hW2
    have c := c32 W3
    go_wp2_with (go_at_call 32; refine Stop.mk ?_)
    refine Stop.out (c.mono ?_)
    rintro e W5 ⟨v, rfl, hv, hb5⟩
    have HP5 : Hid (P2 w W5 y m d) := HP3.out.on hb5
    clear c c32 hb5 HP3
    have r0 : W5.cell? ⟨w.heap.size + 1, 0, none⟩ = some (.slice none 0 0) := HP5.out.e.cell (i := 0) (by omega)
    have r1 : W5.cell? ⟨w.heap.size + 1, 1, none⟩ = some (.int .i64 0) := HP5.out.e.cell (i := 1) (by omega)
    have rf : ∀ i, W5.frozen? ⟨w.heap.size + 1, i, none⟩ = false := fun i => HP5.out.e.frozen i
    have HV : Hid (RErr W5 v (some (U, 102))) := hv
    obtain ⟨g, k, rfl, _, _⟩ := hv
    go_wp2
    refine bodyPost_ret (v := .tuple #[.string ⟨#[]⟩, .agg #[.slice (some ⟨g, 0, none⟩) 1 k, .int .i64 102]]) (by simp [results, Tryd.results12, go_sem, r0, r1]) rfl ⟨_, rfl, ?_, ?_⟩
    · exact HV.out.keep (p := w.heap.size + 1) (fun s => by rw [r0]; simp) (fun g i hg => (cell_set_off (Ne.symm hg)).trans (cell_set_off (Ne.symm hg)))
    · exact (HP5.out.b.setCell (p := ⟨w.heap.size + 1, 0, none⟩) (Nat.le_succ _) _).setCell (p := ⟨w.heap.size + 1, 1, none⟩) (Nat.le_succ _) _
end Go.Proofs.YtggdlagopgpnhaaDoor
