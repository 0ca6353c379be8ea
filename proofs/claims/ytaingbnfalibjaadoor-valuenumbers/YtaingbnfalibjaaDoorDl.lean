import Derived.Test.YtaingbnfalibjaaDoorDk
import Derived.Deep.Cut
/-
  DERIVED. PrintNumber of both.
-/
namespace Go.Proofs.YtaingbnfalibjaaDoor
open Go Go.Proofs Go.RowKit NumLine

def PostRp (w : World) (a : Nm) (e : Ending) (w' : World) : Prop := ∃ t v o, e = .returned (.tuple #[.string t, v]) ∧ PErr w' v o ∧ Below w.heap.size w w' ∧ ((t = ba (prT a) ∧ (prT a).length ≤ 16 ∧ o = none) ∨ (t = ⟨#[]⟩ ∧ 16 < (prT a).length ∧ o = some (0, 103)))

set_option maxRecDepth 100000 in
set_option maxHeartbeats 1000000 in
theorem printp_nz (w : World) (a : Nm) (hnz : a.d % 10 ≠ 0) (hd : a.d < 18446744073709551616) (h1 : -9223372036854775808 ≤ a.e) (h2 : a.e ≤ 9223372036854775807) (hp : Pow w) :
    Calls Tryd.prog 7 #[nv a] w (PostRp w a) := by
  have c27 := fun W h => shortest_any W a hd h1 h2 h
  have c17 := fun W => refusal_any 0 103 W
  have hl := shT_len a hd h1 h2
  have zT := ba_size (shT a)
  have e1 : ba [45] ++ ba (shT a) = ba (45 :: shT a) := ba_app _ _
  have zT2 := ba_size (45 :: shT a)
  obtain ⟨W0, hW0⟩ : ∃ W0, w.alloc (.cells #[.bool a.neg, .int .u64 (a.d : Int), .int .i64 a.e] 24) = W0 := ⟨_, rfl⟩
  have b0 : Below w.heap.size w W0 := hW0 ▸ (Below.refl _ _).alloc (Nat.le_refl _) _
  have s0 : w.heap.size < W0.heap.size := by rw [← hW0]; simp
  have k0 : W0.cell? ⟨w.heap.size, 0, none⟩ = some (.bool a.neg) := by rw [← hW0]; simp [go_sem]
  have k1 : W0.cell? ⟨w.heap.size, 1, none⟩ = some (.int .u64 (a.d : Int)) := by rw [← hW0]; simp [go_sem]
  have k2 : W0.cell? ⟨w.heap.size, 2, none⟩ = some (.int .i64 a.e) := by rw [← hW0]; simp [go_sem]
  have q0 : Pow W0 := hp.on b0
  unfold nv at *
  have hI : (((a.d : Int) % 10) == 0) = false := by simp; omega
  go_enter Tryd.func7, Tryd.ntmps7
  go_wp2_with (go_at_call 27; refine Stop.mk ?_)
  refine Stop.out ((c27 W0 q0).mono ?_)
  rintro e W1 ⟨rfl, hb1⟩
  have B1 : Hid (Below w.heap.size w W1) := b0.trans (hb1.mono b0.size)
  have m0 : W1.cell? ⟨w.heap.size, 0, none⟩ = some (.bool a.neg) := (hb1.cell (p := ⟨w.heap.size, 0, none⟩) s0).trans k0
  clear hb1 c27 k0 k1 k2 b0 hW0 q0
  cases hneg : a.neg with
  | true =>
    rw [hneg] at m0
    have HP : Hid (prT a = 45 :: shT a) := by show _ = _; unfold prT; rw [if_pos hneg]
    have e1' : (⟨#[45]⟩ : ByteArray) ++ ba (shT a) = ba (45 :: shT a) := e1
    have zT3 : (45 :: shT a).length = (shT a).length + 1 := rfl
    by_cases hk : (45 :: shT a).length ≤ 16
    · have hkI : ((45 :: shT a).length : Int) ≤ 16 := by omega
      go_wp2
      refine bodyPost_ret (v := .tuple #[.string (ba (45 :: shT a)), .nilIface]) (by simp [results, Tryd.results7, go_sem]) rfl ⟨_, _, none, rfl, rfl, B1.out, .inl ⟨by rw [HP.out], by rw [HP.out]; exact hk, rfl⟩⟩
    · have hkI : ¬ (((45 :: shT a).length : Int) ≤ 16) := by omega
      have hkJ : (16 : Int) < ((45 :: shT a).length : Int) := by omega
      go_wp2_with (go_at_call 17; refine Stop.mk ?_)
      refine Stop.out ((c17 _).mono ?_)
      rintro e W2 ⟨v, rfl, hv, hb2⟩
      have HV : Hid (PErr W2 v (some (0, 103))) := hv
      have B2 : Hid (Below w.heap.size w W2) := B1.out.trans (hb2.mono B1.out.size)
      clear hv hb2
      go_wp2
      refine bodyPost_ret (v := .tuple #[.string ⟨#[]⟩, v]) (by simp [results, Tryd.results7, go_sem]) rfl ⟨_, v, _, rfl, HV.out, B2.out, .inr ⟨rfl, by rw [HP.out]; omega, rfl⟩⟩
  | false =>
    rw [hneg] at m0
    have HP : Hid (prT a = shT a) := by show _ = _; unfold prT; rw [if_neg (by rw [hneg]; decide)]
    by_cases hk : (shT a).length ≤ 16
    · have hkI : ((shT a).length : Int) ≤ 16 := by omega
      go_wp2
      refine bodyPost_ret (v := .tuple #[.string (ba (shT a)), .nilIface]) (by simp [results, Tryd.results7, go_sem]) rfl ⟨_, _, none, rfl, rfl, B1.out, .inl ⟨by rw [HP.out], by rw [HP.out]; exact hk, rfl⟩⟩
    · have hkI : ¬ (((shT a).length : Int) ≤ 16) := by omega
      have hkJ : (16 : Int) < ((shT a).length : Int) := by omega
      go_wp2_with (go_at_call 17; refine Stop.mk ?_)
      refine Stop.out ((c17 _).mono ?_)
      rintro e W2 ⟨v, rfl, hv, hb2⟩
      have HV : Hid (PErr W2 v (some (0, 103))) := hv
      have B2 : Hid (Below w.heap.size w W2) := B1.out.trans (hb2.mono B1.out.size)
      clear hv hb2
      go_wp2
      refine bodyPost_ret (v := .tuple #[.string ⟨#[]⟩, v]) (by simp [results, Tryd.results7, go_sem]) rfl ⟨_, v, _, rfl, HV.out, B2.out, .inr ⟨rfl, by rw [HP.out]; omega, rfl⟩⟩

set_option maxRecDepth 100000 in
set_option maxHeartbeats 1000000 in
theorem printp_zero (w : World) (hp : Pow w) : Calls Tryd.prog 7 #[nv ⟨false, 0, 0⟩] w (PostRp w ⟨false, 0, 0⟩) := by
  have c27 := fun W h => shortest_any W ⟨false, 0, 0⟩ (by decide) (by decide) (by decide) h
  rw [shT_zero] at c27
  have HP : Hid (prT ⟨false, 0, 0⟩ = [48]) := by show _ = _; unfold prT; rw [if_neg (by decide), shT_zero]
  have zT := ba_size [48]
  obtain ⟨W0, hW0⟩ : ∃ W0, w.alloc (.cells #[.bool false, .int .u64 0, .int .i64 0] 24) = W0 := ⟨_, rfl⟩
  have b0 : Below w.heap.size w W0 := hW0 ▸ (Below.refl _ _).alloc (Nat.le_refl _) _
  have s0 : w.heap.size < W0.heap.size := by rw [← hW0]; simp
  have k0 : W0.cell? ⟨w.heap.size, 0, none⟩ = some (.bool false) := by rw [← hW0]; simp [go_sem]
  have k1 : W0.cell? ⟨w.heap.size, 1, none⟩ = some (.int .u64 0) := by rw [← hW0]; simp [go_sem]
  have k2 : W0.cell? ⟨w.heap.size, 2, none⟩ = some (.int .i64 0) := by rw [← hW0]; simp [go_sem]
  have q0 : Pow W0 := hp.on b0
  unfold nv at *
  dsimp only at *
  rw [show ((0 : Nat) : Int) = 0 from rfl] at c27 ⊢
  have c27' := c27 W0 q0
  go_enter Tryd.func7, Tryd.ntmps7
  go_wp2_with (go_at_call 27; refine Stop.mk ?_)
  refine Stop.out (c27'.mono ?_)
  rintro e W1 ⟨rfl, hb1⟩
  have B1 : Hid (Below w.heap.size w W1) := b0.trans (hb1.mono b0.size)
  have m0 : W1.cell? ⟨w.heap.size, 0, none⟩ = some (.bool false) := (hb1.cell (p := ⟨w.heap.size, 0, none⟩) s0).trans k0
  clear hb1 c27 c27' k0 k1 k2 b0 hW0 q0
  go_wp2
  refine bodyPost_ret (v := .tuple #[.string (ba [48]), .nilIface]) (by simp [results, Tryd.results7, go_sem]) rfl ⟨_, _, none, rfl, rfl, B1.out, .inl ⟨by rw [HP.out], by rw [HP.out]; decide, rfl⟩⟩

theorem PR_field {a : Nm} (h : a.d % 10 = 0 ∧ ¬ isZ a) : PR a = (⟨#[]⟩, some (1, 102)) := by unfold PR; rw [if_pos h]
theorem PR_long {a : Nm} (h : ¬ (a.d % 10 = 0 ∧ ¬ isZ a)) (h2 : 16 < (prT a).length) : PR a = (⟨#[]⟩, some (0, 103)) := by unfold PR; rw [if_neg h, if_pos h2]
theorem PR_ok {a : Nm} (h : ¬ (a.d % 10 = 0 ∧ ¬ isZ a)) (h2 : ¬ 16 < (prT a).length) : PR a = (ba (prT a), none) := by unfold PR; rw [if_neg h, if_neg h2]

set_option maxRecDepth 100000 in
set_option maxHeartbeats 1000000 in
theorem printp_field (w : World) (a : Nm) (h : a.d % 10 = 0 ∧ ¬ isZ a) : Calls Tryd.prog 7 #[nv a] w (PostP w (.string ⟨#[]⟩) (some (1, 102))) := by
  have c17 := fun W => refusal_any 1 102 W
  obtain ⟨W0, hW0⟩ : ∃ W0, w.alloc (.cells #[.bool a.neg, .int .u64 (a.d : Int), .int .i64 a.e] 24) = W0 := ⟨_, rfl⟩
  have HB0 : Hid (Below w.heap.size w W0) := hW0 ▸ (Below.refl _ _).alloc (Nat.le_refl _) _
  have k0 : W0.cell? ⟨w.heap.size, 0, none⟩ = some (.bool a.neg) := by rw [← hW0]; simp [go_sem]
  have k1 : W0.cell? ⟨w.heap.size, 1, none⟩ = some (.int .u64 (a.d : Int)) := by rw [← hW0]; simp [go_sem]
  have k2 : W0.cell? ⟨w.heap.size, 2, none⟩ = some (.int .i64 a.e) := by rw [← hW0]; simp [go_sem]
  have hI : (((a.d : Int) % 10) == 0) = true := by simp; omega
  unfold isZ at h
  obtain ⟨n, d, x⟩ := a
  unfold nv at *
  dsimp only at *
  have h3 : (n = true) ∨ (n = false ∧ ((d : Int) == 0) = false) ∨ (n = false ∧ ((d : Int) == 0) = true ∧ (x == 0) = false) := by
    cases n with
    | true => exact .inl rfl
    | false =>
      by_cases hd : d = 0
      · refine .inr (.inr ⟨rfl, by rw [hd]; rfl, ?_⟩)
        simp
        intro hx
        exact h.2 ⟨hd, rfl, hx⟩
      · exact .inr (.inl ⟨rfl, by simpa using hd⟩)
  clear h
  have key : ∀ e W1, (∃ v, e = Ending.returned v ∧ PErr W1 v (some (1, 102)) ∧ Below W0.heap.size W0 W1) → True := fun _ _ _ => trivial
  clear key
  rcases h3 with rfl | ⟨rfl, h3⟩ | ⟨rfl, h3, h4⟩
  all_goals
    go_enter Tryd.func7, Tryd.ntmps7
    go_wp2_with (go_at_call 17; refine Stop.mk ?_)
    refine Stop.out ((c17 _).mono ?_)
    rintro e W1 ⟨v, rfl, hv, hb⟩
    have HV : Hid (PErr W1 v (some (1, 102))) := hv
    have HB : Hid (Below w.heap.size w W1) := HB0.out.trans (hb.mono HB0.out.size)
    clear hv hb c17 k0 k1 k2 hW0
    go_wp2
    refine bodyPost_ret (v := .tuple #[.string ⟨#[]⟩, v]) (by simp [results, Tryd.results7, go_sem]) rfl ⟨v, rfl, HV.out, HB.out⟩

theorem pprint_any (w : World) (a : Nm) (hd : a.d < 18446744073709551616) (h1 : -9223372036854775808 ≤ a.e) (h2 : a.e ≤ 9223372036854775807) (hp : Pow w) :
    Calls Tryd.prog 7 #[nv a] w (PostP w (.string (PR a).1) (PR a).2) := by
  have fin : ¬ (a.d % 10 = 0 ∧ ¬ isZ a) → Calls Tryd.prog 7 #[nv a] w (PostRp w a) → Calls Tryd.prog 7 #[nv a] w (PostP w (.string (PR a).1) (PR a).2) := fun hn c => by
    refine c.mono ?_
    rintro e W ⟨t, v, o, rfl, hv, hb, h⟩
    rcases h with ⟨rfl, hl, rfl⟩ | ⟨rfl, hl, rfl⟩
    · rw [PR_ok hn (by omega)]; exact ⟨v, rfl, hv, hb⟩
    · rw [PR_long hn hl]; exact ⟨v, rfl, hv, hb⟩
  by_cases h : a.d % 10 = 0 ∧ ¬ isZ a
  · rw [PR_field h]; exact printp_field w a h
  · by_cases hz : isZ a
    · refine fin h ?_
      obtain ⟨n, d, x⟩ := a
      obtain ⟨q1, q2, q3⟩ := hz
      dsimp only at q1 q2 q3
      subst q1 q2 q3
      exact printp_zero w hp
    · exact fin h (printp_nz w a (fun hm => h ⟨hm, hz⟩) hd h1 h2 hp)

/-- The number and the place of the fault. -/
structure NF (w W : World) (n : Bool) (d : Nat) (x : Int) : Prop where
  a0 : W.cell? ⟨w.heap.size, 0, none⟩ = some (.bool n)
  a1 : W.cell? ⟨w.heap.size, 1, none⟩ = some (.int .u64 (d : Int))
  a2 : W.cell? ⟨w.heap.size, 2, none⟩ = some (.int .i64 x)
  row : W.rowIs (w.heap.size + 1) 35 2 fN
  bel : Below w.heap.size w W
theorem NF.on {w W W' : World} {n : Bool} {d : Nat} {x : Int} (h : NF w W n d x) (hb : Below W.heap.size W W') : NF w W' n d x :=
  ⟨(hb.cell (cell_lt h.a0)).trans h.a0, (hb.cell (cell_lt h.a1)).trans h.a1, (hb.cell (cell_lt h.a2)).trans h.a2, h.row.of_block (hb.block _ h.row.lt), h.bel.trans (hb.mono h.bel.size)⟩
theorem NF.start (w : World) (n : Bool) (d : Nat) (x : Int) : NF w ((w.alloc (.cells #[.bool n, .int .u64 (d : Int), .int .i64 x] 24)).alloc (.cells #[.slice none 0 0, .int .i64 0] 35)) n d x :=
  ⟨by simp [go_sem], by simp [go_sem], by simp [go_sem], by have := frow (w.alloc (.cells #[.bool n, .int .u64 (d : Int), .int .i64 x] 24)); rw [World.size_alloc] at this; exact this, ((Below.refl _ _).alloc (Nat.le_refl _) _).alloc (by simp) _⟩
theorem NF.facts {w W : World} {n : Bool} {d : Nat} {x : Int} (h : NF w W n d x) : W.cell? ⟨w.heap.size + 1, 0, none⟩ = some (.slice none 0 0) ∧ W.cell? ⟨w.heap.size + 1, 1, none⟩ = some (.int .i64 0) ∧ (∀ i, W.frozen? ⟨w.heap.size + 1, i, none⟩ = false) :=
  ⟨h.row.cell (i := 0) (by omega), h.row.cell (i := 1) (by omega), fun i => h.row.frozen i⟩

set_option maxRecDepth 100000 in
set_option maxHeartbeats 1000000 in
theorem rprint_field (w : World) (a : Nm) (h : a.d % 10 = 0 ∧ ¬ isZ a) : Calls Tryd.prog 15 #[nv a] w (PostF w (.string ⟨#[]⟩) (some (1, 102))) := by
  have c31 := fun W => no_any 1 102 W
  have hI : (((a.d : Int) % 10) == 0) = true := by simp; omega
  unfold isZ at h
  obtain ⟨n, d, x⟩ := a
  unfold nv at *
  dsimp only at *
  have h3 : (n = true ∧ ((d : Int) == 0) = true) ∨ (((d : Int) == 0) = false) ∨ (n = false ∧ ((d : Int) == 0) = true ∧ (x != 0) = true) := by
    by_cases hd : d = 0
    · cases n with
      | true => exact .inl ⟨rfl, by rw [hd]; rfl⟩
      | false =>
        refine .inr (.inr ⟨rfl, by rw [hd]; rfl, ?_⟩)
        simp
        intro hx
        exact h.2 ⟨hd, rfl, hx⟩
    · exact .inr (.inl (by simpa using hd))
  clear h
  obtain ⟨W0, hW0⟩ : ∃ W0, (w.alloc (.cells #[.bool n, .int .u64 (d : Int), .int .i64 x] 24)).alloc (.cells #[.slice none 0 0, .int .i64 0] 35) = W0 := ⟨_, rfl⟩
  have HN : Hid (NF w W0 n d x) := hW0 ▸ NF.start w n d x
  obtain ⟨k0, k1, k2, _, _⟩ := HN.out
  rcases h3 with ⟨rfl, h3⟩ | h3 | ⟨rfl, h3, h4⟩
  all_goals
    go_enter Tryd.func15, Tryd.ntmps15
    go_wp2_with (go_at_call 31; refine Stop.mk ?_)
    refine Stop.out ((c31 _).mono ?_)
    rintro e W1 ⟨v, rfl, hv, hb⟩
    have N1 := HN.out.on hb
    have HV : Hid (RErr W1 v (some (1, 102))) := hv
    obtain ⟨g, k, rfl, _, _⟩ := hv
    obtain ⟨a0, a1, af⟩ := N1.facts
    obtain ⟨p0, p1, p2⟩ := putF_all N1.row (.slice (some ⟨g, 0, none⟩) 1 k) (.int .i64 102) rfl
    have HB : Hid _ := putF_below N1.bel (Nat.le_succ _) (.slice (some ⟨g, 0, none⟩) 1 k) (.int .i64 102)
    have HV2 : Hid (RErr _ _ _) := p2 HV.out
    clear hb c31 N1 hW0 HN HV k0 k1 k2
    unfold putF at *
    go_wp2
    refine bodyPost_ret (v := .tuple #[.string ⟨#[]⟩, .agg #[.slice (some ⟨g, 0, none⟩) 1 k, .int .i64 102]]) (by simp [results, Tryd.results15, go_sem, p0, p1]) rfl ⟨_, rfl, HV2.out, HB.out⟩

set_option maxRecDepth 100000 in
set_option maxHeartbeats 1000000 in
theorem rprint_zero (w : World) : Calls Tryd.prog 15 #[nv ⟨false, 0, 0⟩] w (PostF w (.string (ba [48])) none) := by
  have c34 := fun W => none34_any W
  unfold nv at *
  dsimp only at *
  obtain ⟨W0, hW0⟩ : ∃ W0, (w.alloc (.cells #[.bool false, .int .u64 0, .int .i64 0] 24)).alloc (.cells #[.slice none 0 0, .int .i64 0] 35) = W0 := ⟨_, rfl⟩
  have HN : Hid (NF w W0 false 0 0) := hW0 ▸ NF.start w false 0 0
  obtain ⟨k0, k1, k2, _, _⟩ := HN.out
  rw [show ((0 : Nat) : Int) = 0 from rfl] at *
  go_enter Tryd.func15, Tryd.ntmps15
  go_wp2_with (go_at_call 34; refine Stop.mk ?_)
  refine Stop.out ((c34 _).mono ?_)
  rintro e W1 ⟨rfl, hb⟩
  have N1 := HN.out.on hb
  obtain ⟨a0, a1, af⟩ := N1.facts
  obtain ⟨p0, p1, p2⟩ := putF_all N1.row (.slice none 0 0) (.int .i64 0) rfl
  have HB : Hid _ := putF_below N1.bel (Nat.le_succ _) (.slice none 0 0) (.int .i64 0)
  clear hb c34 N1 hW0 HN k0 k1 k2
  unfold putF at *
  go_wp2
  refine bodyPost_ret (v := .tuple #[.string ⟨#[48]⟩, .agg #[.slice none 0 0, .int .i64 0]]) (by simp [results, Tryd.results15, go_sem, p0, p1]) rfl ⟨_, rfl, rfl, HB.out⟩

theorem rT_len (a : Nm) (hd : a.d < 18446744073709551616) (h1 : -9223372036854775808 ≤ a.e) (h2 : a.e ≤ 9223372036854775807) : (rT a).length ≤ 42 := by
  have hE : (shE a).length ≤ 42 := by
    unfold shE
    have := (dec_len a.d hd).2
    have := itoa_len a.e h1 h2
    simp
    omega
  unfold rT
  split
  · exact hE
  · split
    · exact hE
    · omega

set_option maxRecDepth 100000 in
set_option maxHeartbeats 2000000 in
theorem rprint_nz (w : World) (a : Nm) (hnz : a.d % 10 ≠ 0) (hd : a.d < 18446744073709551616) (h1 : -9223372036854775808 ≤ a.e) (h2 : a.e ≤ 9223372036854775807) (hp : Pow w) (V : ByteArray) (o : Option (Int × Int)) (HO : Hid ((V = ⟨#[]⟩ ∧ 16 < (rpT a).length ∧ o = some (0, 103)) ∨ (V = ba (rpT a) ∧ ¬ 16 < (rpT a).length ∧ o = none))) :
    Calls Tryd.prog 15 #[nv a] w (PostF w (.string V) o) := by
  have c37 := fun W h => fmtUint_any W a.d hd h
  have c38 := fun W => plain38_any W a hd h1 h2
  have c35 := fun W h => fmtInt_any W a.e h1 h2 h
  have hl := rT_len a hd h1 h2
  have hdl := dec_len a.d hd
  have hil := itoa_len a.e h1 h2
  have hpl : (rP a).length ≤ 62 := by
    unfold rP
    split
    · exact Nat.zero_le _
    · rename_i hn
      unfold shP
      split
      · unfold pPos; rw [List.length_append, rep_len]; omega
      · unfold ptAt; rw [List.length_append, List.length_cons, List.length_take, List.length_drop, List.length_append, rep_len]; omega
  have HT : Hid (rT a = if rP a = [] ∨ (shE a).length < (rP a).length then shE a else rP a) := by
    show _ = _
    unfold rT rP
    by_cases h : 30 < a.e ∨ a.e < -40
    · rw [if_pos h, if_pos h, if_pos (.inl rfl)]
    · rw [if_neg h, if_neg h]
      have hne : shP a ≠ [] := by
        intro hh
        have hp := dec_pos a.d
        have hz : (shP a).length = 0 := by rw [hh]; rfl
        unfold shP at hz
        split at hz
        · unfold pPos at hz; rw [List.length_append] at hz; omega
        · unfold ptAt at hz; rw [List.length_append, List.length_cons] at hz; omega
      by_cases h3 : (shE a).length < (shP a).length
      · rw [if_pos h3, if_pos (.inr h3)]
      · rw [if_neg h3, if_neg (fun q => q.elim hne h3)]
  have hE : (ba (Lib.decDigits a.d) ++ ba [69]) ++ ba (Lib.itoa a.e) = ba (shE a) := by
    rw [ba_app, ba_app]; unfold shE; rw [List.append_assoc]; rfl
  have HPT : Hid (rpT a = if a.neg = true then 45 :: rT a else rT a) := rfl
  have hzE := ba_size (shE a)
  have hzP := ba_size (rP a)
  have hPe : ba (rP a) = ⟨#[]⟩ ↔ rP a = [] := by
    constructor
    · intro h
      have := congrArg ByteArray.size h
      rw [ba_size] at this
      exact List.length_eq_zero_iff.1 this
    · intro h; rw [h]; rfl
  obtain ⟨T, hT⟩ : ∃ T, rT a = T := ⟨_, rfl⟩
  rw [hT] at HT HPT hl
  obtain ⟨Q, hQ⟩ : ∃ Q, rpT a = Q := ⟨_, rfl⟩
  rw [hQ] at HPT HO
  clear hT hQ
  generalize shE a = E at *
  generalize rP a = R at *
  have zD := ba_size (Lib.decDigits a.d)
  have zI := ba_size (Lib.itoa a.e)
  change Calls Tryd.prog 15 _ w _
  have c37' : ∀ W, Pow W → Calls Tryd.prog 37 #[.int .u64 (a.d : Int), .int .i64 10] W fun e w' => e = .returned (.string (ba (Lib.decDigits a.d))) ∧ Below W.heap.size W w' := c37
  have c35' : ∀ W, Pow W → Calls Tryd.prog 35 #[.int .i64 a.e, .int .i64 10] W fun e w' => e = .returned (.string (ba (Lib.itoa a.e))) ∧ Below W.heap.size W w' := c35
  clear c37 c35
  rw [← zD] at hdl
  rw [← zI] at hil
  clear zD zI
  obtain ⟨hdl1, hdl2⟩ := hdl
  generalize ba (Lib.decDigits a.d) = u at *
  generalize ba (Lib.itoa a.e) = v at *
  obtain ⟨n, d, x⟩ := a
  unfold nv at *
  dsimp only at *
  have hI : (((d : Int) % 10) == 0) = false := by simp; omega
  have hI2 : ((d : Int) == 0) = false := by simp; omega
  obtain ⟨W0, hW0⟩ : ∃ W0, (w.alloc (.cells #[.bool n, .int .u64 (d : Int), .int .i64 x] 24)).alloc (.cells #[.slice none 0 0, .int .i64 0] 35) = W0 := ⟨_, rfl⟩
  have HN : Hid (NF w W0 n d x) := hW0 ▸ NF.start w n d x
  have HP0 : Hid (Pow W0) := by
    show Pow W0
    rw [← hW0]
    exact (hp.on ((Below.refl _ _).alloc (Nat.le_refl _) _)).on ((Below.refl _ _).alloc (Nat.le_refl _) _)
  obtain ⟨k0, k1, k2, _, _⟩ := HN.out
  obtain ⟨u1, hu1⟩ : ∃ u1, u ++ ba [69] = u1 := ⟨_, rfl⟩
  have hu1' : u ++ (⟨#[69]⟩ : ByteArray) = u1 := hu1
  have zu1 : u1.size ≤ 21 := by rw [← hu1, ByteArray.size_append]; show u.size + 1 ≤ 21; omega
  rw [hu1] at hE
  obtain ⟨r, hr⟩ : ∃ r, ba R = r := ⟨_, rfl⟩
  obtain ⟨q, hq⟩ : ∃ q, ba E = q := ⟨_, rfl⟩
  rw [hr] at hzP hPe c38
  rw [hq] at hE hzE
  have HRr : Hid (ba R = r) := hr
  have HEq : Hid (ba E = q) := hq
  have HPe : Hid _ := hPe
  have HzP : Hid (r.size = R.length) := hzP
  have HzE : Hid (q.size = E.length) := hzE
  have zr : r.size ≤ 62 := by omega
  have zq : q.size ≤ 42 := by rw [← hE, ByteArray.size_append]; omega
  clear hu1 hr hq hPe hzP hzE hpl hd h1 h2 hp
  go_enter Tryd.func15, Tryd.ntmps15
  go_wp2_with (go_at_call 37; refine Stop.mk ?_)
  refine Stop.out ((c37' _ HP0.out).mono ?_)
  rintro e W1 ⟨rfl, hb⟩
  have HN1 : Hid (NF w W1 n d x) := HN.out.on hb
  have HP1 : Hid (Pow W1) := HP0.out.on hb
  clear hb HN HP0 k0 k1 k2 hW0
  obtain ⟨k0, k1, k2, _, _⟩ := HN1.out
  go_wp2_with (go_at_call 38; refine Stop.mk ?_)
  refine Stop.out ((c38 _).mono ?_)
  rintro e W2 ⟨rfl, hb⟩
  have HN2 : Hid (NF w W2 n d x) := HN1.out.on hb
  have HP2 : Hid (Pow W2) := HP1.out.on hb
  clear hb HN1 HP1 k0 k1 k2
  obtain ⟨k0, k1, k2, _, _⟩ := HN2.out
  go_wp2_with (go_at_call 35; refine Stop.mk ?_)
  refine Stop.out ((c35' _ HP2.out).mono ?_)
  rintro e W3 ⟨rfl, hb⟩
  have HN3 : Hid (NF w W3 n d x) := HN2.out.on hb
  clear hb HN2 HP2 k0 k1 k2 c35' c37' c38
  obtain ⟨k0, k1, k2, _, _⟩ := HN3.out
  go_upto_region 10 with fail
  obtain ⟨b, hb⟩ : ∃ b, decide (R = [] ∨ E.length < R.length) = b := ⟨_, rfl⟩
  have HB : Hid (decide (R = [] ∨ E.length < R.length) = b) := hb
  clear hb
  go_cut [50] from 7 (fun s50 wx => s50 = .bool b ∧ wx = W3)
  case first =>
    by_cases hR : R = []
    · obtain rfl : b = true := HB.out.symm.trans (decide_eq_true (.inl hR))
      have hre : r = ⟨#[]⟩ := HPe.out.2 hR
      subst hre
      clear hR
      go_wp2
      go_meet
      case rel => exact ⟨by first | rfl | simp, rfl⟩
    · have hre2 : ¬ r = ⟨#[]⟩ := fun h => hR (HPe.out.1 h)
      have hre : r.toList.isEmpty = false := by
        rw [ByteArray.toList_eq]
        cases hd : r.data.toList with
        | nil =>
          refine absurd ?_ hre2
          have : r.data = #[] := by rw [← Array.toList_inj, hd]
          cases r
          exact congrArg _ this
        | cons a l => rfl
      have hre3 : (r.toList == []) = false := by
        rw [ByteArray.toList_eq] at hre ⊢
        cases hd : r.data.toList with
        | nil => rw [hd] at hre; simp at hre
        | cons a l => rfl
      clear hre2
      by_cases hl2 : E.length < R.length
      · obtain rfl : b = true := HB.out.symm.trans (decide_eq_true (.inr hl2))
        have hlI : (q.size : Int) < (r.size : Int) := by rw [HzP.out, HzE.out]; omega
        have hlD : decide ((q.size : Int) < (r.size : Int)) = true := decide_eq_true hlI
        clear hl2 hR
        go_wp2
        go_meet
        case rel => exact ⟨by first | rfl | simp, rfl⟩
      · obtain rfl : b = false := HB.out.symm.trans (decide_eq_false (fun h => h.elim hR hl2))
        have hlI : ¬ ((q.size : Int) < (r.size : Int)) := by rw [HzP.out, HzE.out]; omega
        have hlD : decide ((q.size : Int) < (r.size : Int)) = false := decide_eq_false hlI
        clear hl2 hR
        go_wp2
        go_meet
        case rel => exact ⟨by first | rfl | simp, rfl⟩
  case rest =>
    obtain ⟨rfl, rfl⟩ := hcut
    obtain ⟨t, ht⟩ : ∃ t, ba T = t := ⟨_, rfl⟩
    have HTt : Hid (ba T = t) := ht
    have ztt := ba_size T
    rw [ht] at ztt
    have ZT : Hid (t.size = T.length) := ztt
    have zt : t.size ≤ 42 := by omega
    clear ht ztt
    go_upto_if 50 with fail
    go_cut [5] from 7 (fun s5 wx => s5 = .string t ∧ wx = wc)
    case first =>
      cases b with
      | true =>
        have hq2 : q = t := by rw [← HEq.out, ← HTt.out, HT.out, if_pos (of_decide_eq_true HB.out)]
        subst hq2
        go_wp2
        go_meet
        case rel => exact ⟨rfl, rfl⟩
      | false =>
        have hq2 : r = t := by rw [← HRr.out, ← HTt.out, HT.out, if_neg (of_decide_eq_false HB.out)]
        subst hq2
        go_wp2
        go_meet
        case rel => exact ⟨rfl, rfl⟩
    case rest =>
      obtain ⟨rfl, rfl⟩ := hcut
      clear HB HPe HzP HzE HRr HEq hE hu1' zu1 zr zq
      obtain ⟨s, hs⟩ : ∃ s, ba Q = s := ⟨_, rfl⟩
      have HSs : Hid (ba Q = s) := hs
      have zss := ba_size Q
      rw [hs] at zss
      have ZS : Hid (s.size = Q.length) := zss
      clear hs zss
      have zs : s.size ≤ 43 := by
        rw [ZS.out, HPT.out]
        split
        · rw [List.length_cons]; omega
        · omega
      go_upto_if 53 with fail
      go_cut [5] from 7 (fun s5 wx => s5 = .string s ∧ wx = wc)
      case first =>
        cases n with
        | true =>
          have hq2 : (⟨#[45]⟩ : ByteArray) ++ t = s := by
            rw [← HSs.out, HPT.out, if_pos rfl, ← HTt.out]
            exact ba_app [45] T
          go_wp2
          go_meet
          case rel => exact ⟨by first | rfl | (rw [hq2]), rfl⟩
        | false =>
          have hq2 : t = s := by rw [← HSs.out, HPT.out, if_neg (by decide), HTt.out]
          subst hq2
          go_wp2
          go_meet
          case rel => exact ⟨rfl, rfl⟩
      case rest =>
        obtain ⟨rfl, rfl⟩ := hcut
        clear HT
        clear k0 k1 k2
        rcases HO.out with ⟨rfl, hg, rfl⟩ | ⟨hV, hg, rfl⟩
        · have hgI : (16 : Int) < (s.size : Int) := by rw [ZS.out]; omega
          have c31 := no_any 0 103 wc
          clear hg HO HSs HPT ZS HTt ZT
          go_wp2_with (go_at_call 31; refine Stop.mk ?_)
          refine Stop.out (c31.mono ?_)
          rintro e W1 ⟨v, rfl, hv, hb⟩
          have N1 := HN3.out.on hb
          have HV : Hid (RErr W1 v (some (0, 103))) := hv
          obtain ⟨g, k, rfl, _, _⟩ := hv
          obtain ⟨a0, a1, af⟩ := N1.facts
          obtain ⟨p0, p1, p2⟩ := putF_all N1.row (.slice (some ⟨g, 0, none⟩) 1 k) (.int .i64 103) rfl
          have HB : Hid _ := putF_below N1.bel (Nat.le_succ _) (.slice (some ⟨g, 0, none⟩) 1 k) (.int .i64 103)
          have HV2 : Hid (RErr _ _ _) := p2 HV.out
          clear hb c31 N1 HN3 HV
          unfold putF at *
          go_wp2
          refine bodyPost_ret (v := .tuple #[.string ⟨#[]⟩, .agg #[.slice (some ⟨g, 0, none⟩) 1 k, .int .i64 103]]) (by simp [results, Tryd.results15, go_sem, p0, p1]) rfl ⟨_, rfl, HV2.out, HB.out⟩
        · have hgI : ¬ ((16 : Int) < (s.size : Int)) := by rw [ZS.out]; omega
          have c34 := none34_any wc
          obtain rfl : V = s := hV.trans HSs.out
          clear hg hV HO HSs HPT ZS HTt ZT
          go_wp2_with (go_at_call 34; refine Stop.mk ?_)
          refine Stop.out (c34.mono ?_)
          rintro e W1 ⟨rfl, hb⟩
          have N1 := HN3.out.on hb
          obtain ⟨a0, a1, af⟩ := N1.facts
          obtain ⟨p0, p1, p2⟩ := putF_all N1.row (.slice none 0 0) (.int .i64 0) rfl
          have HB : Hid _ := putF_below N1.bel (Nat.le_succ _) (.slice none 0 0) (.int .i64 0)
          clear hb c34 N1 HN3
          unfold putF at *
          go_wp2
          refine bodyPost_ret (v := .tuple #[.string V, .agg #[.slice none 0 0, .int .i64 0]]) (by simp [results, Tryd.results15, go_sem, p0, p1]) rfl ⟨_, rfl, rfl, HB.out⟩

theorem rprint_any (w : World) (a : Nm) (hd : a.d < 18446744073709551616) (h1 : -9223372036854775808 ≤ a.e) (h2 : a.e ≤ 9223372036854775807) (hp : Pow w) :
    Calls Tryd.prog 15 #[nv a] w (PostF w (.string (PR a).1) (PR a).2) := by
  by_cases h : a.d % 10 = 0 ∧ ¬ isZ a
  · rw [PR_field h]; exact rprint_field w a h
  · by_cases hz : isZ a
    · obtain ⟨n, d, x⟩ := a
      obtain ⟨q1, q2, q3⟩ := hz
      dsimp only at q1 q2 q3
      subst q1 q2 q3
      have e : prT ⟨false, 0, 0⟩ = [48] := by unfold prT; rw [if_neg (by decide), shT_zero]
      rw [PR_ok h (by rw [e]; decide), e]
      exact rprint_zero w
    · refine rprint_nz w a (fun hm => h ⟨hm, hz⟩) hd h1 h2 hp _ _ ?_
      rcases rpT_pr a with q | ⟨q1, q2⟩
      · rw [q]
        by_cases hl : 16 < (prT a).length
        · rw [PR_long h hl]; exact .inl ⟨rfl, hl, rfl⟩
        · rw [PR_ok h hl]; exact .inr ⟨rfl, hl, rfl⟩
      · rw [PR_long h q2]; exact .inl ⟨rfl, q1, rfl⟩
end Go.Proofs.YtaingbnfalibjaaDoor
