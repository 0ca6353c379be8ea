import Derived.Test.YtehgeninocbpeaaDoorSe
import Derived.Deep.Cut
/-
  DERIVED. The span of a range, and of a key.
-/
namespace Go.Proofs.YtehgeninocbpeaaDoor.Tm
open Go Go.Proofs Go.RowKit

def minT : Int := -4611686018427387904
def maxT : Int := 4611686018427387904
/-- Where a range begins, or why it does not. -/
def btF (vr : Int) (s : ByteArray) (d : Nat) : Int := if d = 0 then -4611686018427387904 else (ow vr (s.extract 0 d) 0).1
def btO (vr : Int) (s : ByteArray) (d : Nat) : Option (Int × Int) := if d = 0 then none else oR vr (s.extract 0 d) 0
/-- The span of a range. -/
def bt (vr : Int) (s : ByteArray) (d : Nat) : (Int × Int) × Option (Int × Int) :=
  if btO vr s d ≠ none then ((0, 0), btO vr s d)
  else if d + 1 = s.size then ((btF vr s d, 4611686018427387904), none)
  else if oR vr s (d + 1) ≠ none then ((0, 0), oR vr s (d + 1))
  else if (ow vr s (d + 1)).2 < btF vr s d then ((0, 0), some (((d + 1 : Nat) : Int), 101))
  else ((btF vr s d, (ow vr s (d + 1)).2), none)

def f2I (a b : Int) : Nat → Value := fun k => #[Value.int .i64 a, .int .i64 b].getD k undef
structure Bq (w W : World) (r : Nat) (F L : Int) : Prop where
  z : W.rowIs r 23 2 (f2I 0 0)
  s : W.rowIs (r + 1) 23 2 (f2I F L)
  b : Below r w W
  t : Mt W
  o : Ot W
theorem Bq.on {w W W' : World} {r : Nat} {F L : Int} (h : Bq w W r F L) (hb : Below W.heap.size W W') : Bq w W' r F L :=
  ⟨h.z.of_block (hb.block _ h.z.lt), h.s.of_block (hb.block _ h.s.lt), h.b.trans (hb.mono (Nat.le_of_lt h.z.lt)), h.t.on hb, h.o.on hb⟩
theorem row_congr2 {w : World} {q : Nat} {t : TypeId} {n : Nat} {f g : Nat → Value} (h : w.rowIs q t n f) (he : ∀ i, i < n → f i = g i) : w.rowIs q t n g := by
  obtain ⟨c, h1, h2, h3⟩ := h
  exact ⟨c, h1, h2, fun i hi => by rw [← he i hi]; exact h3 i hi⟩
theorem Bq.put {w W : World} {r : Nat} {F L : Int} (h : Bq w W r F L) (h5 : 2 < r) (i : Nat) (x F' L' : Int) (hi : (i = 0 ∧ F' = x ∧ L' = L) ∨ (i = 1 ∧ F' = F ∧ L' = x)) : Bq w (W.setCell ⟨r + 1, i, none⟩ (.int .i64 x)) r F' L' := by
  refine ⟨h.z.setOther (by show r ≠ r + 1; omega) _, row_congr2 (h.s.set i _) ?_, h.b.setCell (p := ⟨r + 1, i, none⟩) (by show r ≤ r + 1; omega) _, ⟨fun k hk => ?_⟩, ⟨fun k hk => ?_⟩⟩
  · intro k hk
    rcases hi with ⟨rfl, rfl, rfl⟩ | ⟨rfl, rfl, rfl⟩
    · rcases (by omega : k = 0 ∨ k = 1) with rfl | rfl <;> rfl
    · rcases (by omega : k = 0 ∨ k = 1) with rfl | rfl <;> rfl
  · rw [cell_set_off (by omega)]; exact h.t.p k hk
  · rw [cell_set_off (by omega)]; exact h.o.p k hk
theorem sp2 (a b : Int) : sp a b = .agg #[.int .i64 a, .int .i64 b] := rfl

set_option maxRecDepth 100000 in
set_option maxHeartbeats 4000000 in
theorem between_any (w : World) (vr : Int) (hv : isSp vr) (s : ByteArray) (hs : s.size ≤ 140737488351232) (d : Nat) (hd : d < s.size) (hT : Mt w) (hO : Ot w) :
    Calls Tryd.prog 22 #[.int .i64 vr, .string s, .int .i64 (d : Int)] w (PostR w (sp (bt vr s d).1.1 (bt vr s d).1.2) (bt vr s d).2) := by
  have hx : (s.extract 0 d).size ≤ 140737488351232 := by rw [ByteArray.size_extract]; omega
  have cA := fun W h1 h2 => own_at W vr hv (s.extract 0 d) hx 0 (Nat.zero_le _) h1 h2
  have cB := fun W h1 h2 => own_at W vr hv s hs (d + 1) (by omega) h1 h2
  obtain ⟨A, hA⟩ : ∃ A, (bt vr s d).1.1 = A := ⟨_, rfl⟩
  obtain ⟨B, hB⟩ : ∃ B, (bt vr s d).1.2 = B := ⟨_, rfl⟩
  obtain ⟨o, ho⟩ : ∃ o, (bt vr s d).2 = o := ⟨_, rfl⟩
  have HA : Hid (bt vr s d = ((A, B), o)) := Prod.ext (Prod.ext hA hB) ho
  rw [hA, hB, ho]
  clear hA hB ho
  unfold bt at HA
  have HF : Hid (btF vr s d = if d = 0 then -4611686018427387904 else (ow vr (s.extract 0 d) 0).1) := rfl
  have HO : Hid (btO vr s d = if d = 0 then none else oR vr (s.extract 0 d) 0) := rfl
  generalize btF vr s d = F at *
  generalize btO vr s d = oF at *
  generalize (ow vr (s.extract 0 d) 0).1 = F1 at *
  generalize (ow vr (s.extract 0 d) 0).2 = L1 at *
  generalize oR vr (s.extract 0 d) 0 = o1 at *
  generalize (ow vr s (d + 1)).1 = F2 at *
  generalize (ow vr s (d + 1)).2 = L2 at *
  generalize oR vr s (d + 1) = o2 at *
  obtain ⟨r, hr⟩ : ∃ r, w.heap.size = r := ⟨_, rfl⟩
  obtain ⟨W0, hW0⟩ : ∃ W0, (w.alloc (.cells #[.int .i64 0, .int .i64 0] 23)).alloc (.cells #[.int .i64 (-4611686018427387904), .int .i64 4611686018427387904] 23) = W0 := ⟨_, rfl⟩
  have K0 : Hid (Bq w W0 r (-4611686018427387904) 4611686018427387904) := by
    have hb0 : Below r w W0 := by rw [← hW0, ← hr]; exact ((Below.refl _ _).alloc (Nat.le_refl _) _).alloc (by simp) _
    refine ⟨?_, ?_, hb0, hT.on (hr ▸ hb0), hO.on (hr ▸ hb0)⟩
    · rw [← hW0, ← hr]
      exact World.rowIs.alloc (World.rowIs_alloc w _ 23 _ (row_lit _)) _
    · rw [← hW0, ← hr]
      have := World.rowIs_alloc (w.alloc (.cells #[.int .i64 0, .int .i64 0] 23)) #[.int .i64 (-4611686018427387904), .int .i64 4611686018427387904] 23 _ (row_lit _)
      rw [World.size_alloc] at this
      exact this
  have h5 : 2 < r := by have := cell_lt (hT.p 0 (by omega)); dsimp only at this; omega
  have hdI : (d : Int) ≤ (s.size : Int) := by omega
  have e1 : ((d + 1 : Nat) : Int) = (d : Int) + 1 := by omega
  rw [e1] at cB
  have HC : Hid _ := cA
  have HD : Hid _ := cB
  clear hT hO cA cB hv hx e1
  unfold sp at HC HD ⊢
  go_enter Tryd.func22, Tryd.ntmps22
  go_upto_if 16 with fail
  go_cut [6, 7, 8] from 9 (fun s6 s7 s8 wx => s6 = .pointer (some ⟨r, 0, none⟩) ∧ s7 = .nilIface ∧ s8 = .pointer (some ⟨r + 1, 0, none⟩) ∧ oF = none ∧ Hid (Bq w wx r F 4611686018427387904))
  case first =>
    by_cases h0 : d = 0
    · have h0n : ¬ ((0 : Int) < (d : Int)) := by omega
      have eF : F = -4611686018427387904 := by rw [HF.out, if_pos h0]
      have eO : oF = none := by rw [HO.out, if_pos h0]
      have HH0 : Hid (d = 0) := h0
      have hsz : (w.alloc (.cells #[.int .i64 0, .int .i64 0] 23)).heap.size = r + 1 := by rw [World.size_alloc, hr]
      have K1 : Hid (Bq w W0 r F 4611686018427387904) := by rw [eF]; exact K0
      clear h0 eF HA HF HO HC HD
      go_wp2
      go_meet
      case rel => exact ⟨by simp, rfl, by simp, eO, K1⟩
    · have h0I : (0 : Int) < (d : Int) := by omega
      have eF : Hid (F = F1) := by show _ = _; rw [HF.out, if_neg h0]
      have eO : Hid (oF = o1) := by show _ = _; rw [HO.out, if_neg h0]
      have c := HC.out W0 K0.out.t K0.out.o
      clear HF HO HC HD
      go_wp2_with (go_at_call 9; refine Stop.mk ?_)
      refine Stop.out (c.mono ?_)
      rintro e W1 ⟨v, rfl, hvv, hb⟩
      have K1 : Hid (Bq w W1 r (-4611686018427387904) 4611686018427387904) := K0.out.on hb
      have HV : Hid (PErr W1 v o1) := hvv
      clear hb K0 c hvv
      cases o1 with
      | some x =>
        have HR : Hid (((0 : Int), (0 : Int)) = (A, B) ∧ some x = o) := by
          have := HA.out
          rw [if_pos (by rw [eO.out]; simp), eO.out] at this
          exact ⟨(Prod.mk.inj this).1, (Prod.mk.inj this).2⟩
        obtain ⟨g, rfl, _⟩ := HV.out
        go_upto_region 4 with fail
        have hb2 := (Below.refl W1.heap.size W1).alloc (Nat.le_refl _) (.cells #[.int .i64 F1, .int .i64 L1] 23)
        have K2 : Hid (Bq w (W1.alloc (.cells #[.int .i64 F1, .int .i64 L1] 23)) r (-4611686018427387904) 4611686018427387904) := K1.out.on hb2
        have HV2 : Hid (PErr (W1.alloc (.cells #[.int .i64 F1, .int .i64 L1] 23)) _ (some x)) := HV.out.next hb2
        generalize W1.alloc (.cells #[.int .i64 F1, .int .i64 L1] 23) = W2 at *
        have z0 := K2.out.z.cell (i := 0) (by omega)
        have z1 := K2.out.z.cell (i := 1) (by omega)
        have zf := fun i => K2.out.z.frozen i
        have Z0 : W2.cell? ⟨r, 0, none⟩ = some (.int .i64 0) := z0
        have Z1 : W2.cell? ⟨r, 1, none⟩ = some (.int .i64 0) := z1
        clear z0 z1 hb2 HV K1 HA
        go_wp2
        refine bodyPost_ret (v := .tuple #[.agg #[.int .i64 A, .int .i64 B], .iface 87 (.pointer (some ⟨g, 0, none⟩))]) ?_ rfl ⟨_, rfl, ?_, ?_⟩
        · obtain ⟨h1, h2⟩ := HR.out
          obtain ⟨rfl, rfl⟩ := Prod.mk.inj h1
          simp [results, Tryd.results22, go_sem, Z0, Z1]
        · rw [← HR.out.2]
          exact HV2.out.two Z0 _ _
        · rw [hr]
          exact (K2.out.b.setCell (p := ⟨r, 0, none⟩) (Nat.le_refl _) _).setCell (p := ⟨r, 1, none⟩) (Nat.le_refl _) _
      | none =>
        obtain rfl : v = .nilIface := HV.out
        go_upto_region 4 with fail
        have hb2 := (Below.refl W1.heap.size W1).alloc (Nat.le_refl _) (.cells #[.int .i64 F1, .int .i64 L1] 23)
        have K2 : Hid (Bq w (W1.alloc (.cells #[.int .i64 F1, .int .i64 L1] 23)) r (-4611686018427387904) 4611686018427387904) := K1.out.on hb2
        have R2 : Hid ((W1.alloc (.cells #[.int .i64 F1, .int .i64 L1] 23)).rowIs W1.heap.size 23 2 (f2I F1 L1)) := World.rowIs_alloc W1 _ 23 _ (row_lit _)
        have hlt : r + 1 < W1.heap.size := K1.out.s.lt
        generalize W1.alloc (.cells #[.int .i64 F1, .int .i64 L1] 23) = W2 at *
        generalize W1.heap.size = q at *
        have z0 : W2.cell? ⟨q, 0, none⟩ = some (.int .i64 F1) := R2.out.cell (i := 0) (by omega)
        have y0 : W2.cell? ⟨r + 1, 0, none⟩ = some (.int .i64 (-4611686018427387904)) := K2.out.s.cell (i := 0) (by omega)
        have yf := fun i => K2.out.s.frozen i
        have eO' : oF = none := eO.out
        have K3 : Hid (Bq w (W2.setCell ⟨r + 1, 0, none⟩ (.int .i64 F1)) r F 4611686018427387904) := by
          rw [eF.out]
          exact K2.out.put h5 0 F1 _ _ (.inl ⟨rfl, rfl, rfl⟩)
        clear hb2 HV K1 HA eO
        go_wp2
        go_meet
        case rel => exact ⟨by simp, rfl, by simp, eO', K3⟩
  case rest =>
  obtain ⟨rfl, rfl, rfl, hoF, K⟩ := hcut
  subst hoF
  have HA1 : Hid ((if d + 1 = s.size then ((F, (4611686018427387904 : Int)), (none : Option (Int × Int))) else if o2 ≠ none then ((0, 0), o2) else if L2 < F then ((0, 0), some (((d + 1 : Nat) : Int), 101)) else ((F, L2), none)) = ((A, B), o)) := by
    have := HA.out
    rw [if_neg (by simp)] at this
    exact this
  clear HA HF HO HC K0
  have hz0 := K.out.z.cell (i := 0) (by omega)
  have hz1 := K.out.z.cell (i := 1) (by omega)
  have hs0 := K.out.s.cell (i := 0) (by omega)
  have hs1 := K.out.s.cell (i := 1) (by omega)
  have Z0 : wc.cell? ⟨r, 0, none⟩ = some (.int .i64 0) := hz0
  have Z1 : wc.cell? ⟨r, 1, none⟩ = some (.int .i64 0) := hz1
  have S0 : wc.cell? ⟨r + 1, 0, none⟩ = some (.int .i64 F) := hs0
  have S1 : wc.cell? ⟨r + 1, 1, none⟩ = some (.int .i64 4611686018427387904) := hs1
  have zf := fun i => K.out.z.frozen i
  clear hz0 hz1 hs0 hs1
  by_cases he : d + 1 = s.size
  · have heI : ((d : Int) + 1 == (s.size : Int)) = true := by simp; omega
    have HR : Hid (((F, (4611686018427387904 : Int)), (none : Option (Int × Int))) = ((A, B), o)) := by have := HA1.out; rw [if_pos he] at this; exact this
    have HE : Hid (d + 1 = s.size) := he
    clear HA1 he HD
    go_wp2
    refine bodyPost_ret (v := .tuple #[.agg #[.int .i64 A, .int .i64 B], .nilIface]) ?_ rfl ⟨_, rfl, ?_, ?_⟩
    · obtain ⟨h1, h2⟩ := Prod.mk.inj HR.out
      obtain ⟨rfl, rfl⟩ := Prod.mk.inj h1
      simp [results, Tryd.results22, go_sem, Z0, Z1]
    · rw [← (Prod.mk.inj HR.out).2]; rfl
    · rw [hr]
      exact (K.out.b.setCell (p := ⟨r, 0, none⟩) (Nat.le_refl _) _).setCell (p := ⟨r, 1, none⟩) (Nat.le_refl _) _
  · have heI : ((d : Int) + 1 == (s.size : Int)) = false := by simp; omega
    have HA2 : Hid ((if o2 ≠ none then ((0, 0), o2) else if L2 < F then ((0, 0), some (((d + 1 : Nat) : Int), 101)) else ((F, L2), none)) = ((A, B), o)) := by have := HA1.out; rw [if_neg he] at this; exact this
    have HE : Hid (¬ d + 1 = s.size) := he
    have c := HD.out wc K.out.t K.out.o
    clear HA1 he HD
    go_wp2_with (go_at_call 9; refine Stop.mk ?_)
    refine Stop.out (c.mono ?_)
    rintro e W1 ⟨v, rfl, hvv, hb⟩
    have K1 : Hid (Bq w W1 r F 4611686018427387904) := K.out.on hb
    have HV : Hid (PErr W1 v o2) := hvv
    clear hb K c hvv Z0 Z1 S0 S1 zf
    have go : ∀ W : World, W1.alloc (.cells #[.int .i64 F2, .int .i64 L2] 23) = W → Bq w W r F 4611686018427387904 ∧ PErr W v o2 ∧ W.rowIs W1.heap.size 23 2 (f2I F2 L2) := fun W h => by
      have hb2 := (Below.refl W1.heap.size W1).alloc (Nat.le_refl _) (.cells #[.int .i64 F2, .int .i64 L2] 23)
      rw [← h]
      exact ⟨K1.out.on hb2, HV.out.next hb2, World.rowIs_alloc W1 _ 23 _ (row_lit _)⟩
    have hlt : r + 1 < W1.heap.size := K1.out.s.lt
    obtain ⟨W2, hW2⟩ : ∃ W2, W1.alloc (.cells #[.int .i64 F2, .int .i64 L2] 23) = W2 := ⟨_, rfl⟩
    obtain ⟨k2, v2, r2⟩ := go W2 hW2
    have K2 : Hid (Bq w W2 r F 4611686018427387904) := k2
    have HV2 : Hid (PErr W2 v o2) := v2
    have R2 : Hid (W2.rowIs W1.heap.size 23 2 (f2I F2 L2)) := r2
    clear go k2 v2 r2 K1
    cases o2 with
    | some x =>
      have HR : Hid ((((0 : Int), (0 : Int)), some x) = ((A, B), o)) := by have := HA2.out; rw [if_pos (by simp)] at this; exact this
      obtain ⟨g, rfl, _⟩ := HV.out
      clear HA2 HV
      go_upto_region 11 with fail
      have Z0 : W2.cell? ⟨r, 0, none⟩ = some (.int .i64 0) := K2.out.z.cell (i := 0) (by omega)
      have Z1 : W2.cell? ⟨r, 1, none⟩ = some (.int .i64 0) := K2.out.z.cell (i := 1) (by omega)
      have zf := fun i => K2.out.z.frozen i
      clear hW2 R2
      go_wp2
      refine bodyPost_ret (v := .tuple #[.agg #[.int .i64 A, .int .i64 B], .iface 87 (.pointer (some ⟨g, 0, none⟩))]) ?_ rfl ⟨_, rfl, ?_, ?_⟩
      · obtain ⟨h1, h2⟩ := Prod.mk.inj HR.out
        obtain ⟨rfl, rfl⟩ := Prod.mk.inj h1
        simp [results, Tryd.results22, go_sem, Z0, Z1]
      · rw [← (Prod.mk.inj HR.out).2]
        exact HV2.out.two Z0 _ _
      · rw [hr]
        exact (K2.out.b.setCell (p := ⟨r, 0, none⟩) (Nat.le_refl _) _).setCell (p := ⟨r, 1, none⟩) (Nat.le_refl _) _
    | none =>
      obtain rfl : v = .nilIface := HV.out
      have HA3 : Hid ((if L2 < F then (((0 : Int), (0 : Int)), some (((d + 1 : Nat) : Int), (101 : Int))) else ((F, L2), none)) = ((A, B), o)) := by have := HA2.out; rw [if_neg (by simp)] at this; exact this
      clear HA2 HV HV2
      go_upto_region 11 with fail
      have Z0 : W2.cell? ⟨r, 0, none⟩ = some (.int .i64 0) := K2.out.z.cell (i := 0) (by omega)
      have Z1 : W2.cell? ⟨r, 1, none⟩ = some (.int .i64 0) := K2.out.z.cell (i := 1) (by omega)
      have S0 : W2.cell? ⟨r + 1, 0, none⟩ = some (.int .i64 F) := K2.out.s.cell (i := 0) (by omega)
      have S1 : W2.cell? ⟨r + 1, 1, none⟩ = some (.int .i64 4611686018427387904) := K2.out.s.cell (i := 1) (by omega)
      have zf := fun i => K2.out.z.frozen i
      have sf := fun i => K2.out.s.frozen i
      have y1 : W2.cell? ⟨W1.heap.size, 1, none⟩ = some (.int .i64 L2) := R2.out.cell (i := 1) (by omega)
      generalize W1.heap.size = q at *
      clear hW2 R2
      by_cases hl : L2 < F
      · have HR : Hid ((((0 : Int), (0 : Int)), some (((d + 1 : Nat) : Int), (101 : Int))) = ((A, B), o)) := by have := HA3.out; rw [if_pos hl] at this; exact this
        have c46 := fun W => refusal_any ((d : Int) + 1) 101 W
        clear HA3
        go_wp2_with (go_at_call 21; refine Stop.mk ?_)
        refine Stop.out ((c46 _).mono ?_)
        rintro e W3 ⟨v3, rfl, hv3, hb3⟩
        have K3 : Hid (Bq w W3 r F 4611686018427387904) := K2.out.on hb3
        have HV3 : Hid (PErr W3 v3 (some ((d : Int) + 1, 101))) := hv3
        obtain ⟨g, rfl, _⟩ := hv3
        clear hb3 K2 c46 Z0 Z1 S0 S1 zf sf y1
        have Z0 : W3.cell? ⟨r, 0, none⟩ = some (.int .i64 0) := K3.out.z.cell (i := 0) (by omega)
        have Z1 : W3.cell? ⟨r, 1, none⟩ = some (.int .i64 0) := K3.out.z.cell (i := 1) (by omega)
        have zf := fun i => K3.out.z.frozen i
        go_wp2
        refine bodyPost_ret (v := .tuple #[.agg #[.int .i64 A, .int .i64 B], .iface 87 (.pointer (some ⟨g, 0, none⟩))]) ?_ rfl ⟨_, rfl, ?_, ?_⟩
        · obtain ⟨h1, h2⟩ := Prod.mk.inj HR.out
          obtain ⟨rfl, rfl⟩ := Prod.mk.inj h1
          simp [results, Tryd.results22, go_sem, Z0, Z1]
        · rw [← (Prod.mk.inj HR.out).2, show ((d + 1 : Nat) : Int) = (d : Int) + 1 by omega]
          exact HV3.out.two Z0 _ _
        · rw [hr]
          exact (K3.out.b.setCell (p := ⟨r, 0, none⟩) (Nat.le_refl _) _).setCell (p := ⟨r, 1, none⟩) (Nat.le_refl _) _
      · have HR : Hid (((F, L2), (none : Option (Int × Int))) = ((A, B), o)) := by have := HA3.out; rw [if_neg hl] at this; exact this
        have hl2 : F ≤ L2 := by omega
        clear HA3
        go_wp2
        refine bodyPost_ret (v := .tuple #[.agg #[.int .i64 A, .int .i64 B], .nilIface]) ?_ rfl ⟨_, rfl, ?_, ?_⟩
        · obtain ⟨h1, h2⟩ := Prod.mk.inj HR.out
          obtain ⟨rfl, rfl⟩ := Prod.mk.inj h1
          simp [results, Tryd.results22, go_sem, Z0, Z1]
        · rw [← (Prod.mk.inj HR.out).2]; rfl
        · rw [hr]
          exact (((K2.out.b.setCell (p := ⟨r + 1, 1, none⟩) (by show r ≤ r + 1; omega) _).setCell (p := ⟨r, 0, none⟩) (Nat.le_refl _) _)).setCell (p := ⟨r, 1, none⟩) (Nat.le_refl _) _
end Go.Proofs.YtehgeninocbpeaaDoor.Tm
