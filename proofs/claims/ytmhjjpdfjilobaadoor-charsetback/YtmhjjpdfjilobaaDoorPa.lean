import Derived.Test.YtmhjjpdfjilobaaDoorOe
/-
  DERIVED. Escapes: which repertoire holds behind one.
-/
namespace Go.Proofs.YtmhjjpdfjilobaaDoor
open Go Go.Proofs Go.RowKit Go.Maps

/-- Does the text begin so? -/
def pre (s p : ByteArray) : Bool := decide (p.size ≤ s.size) && ((s.extract 0 p.size).toList == p.toList)

set_option maxRecDepth 100000 in
theorem pre86_any (w : World) (s p : ByteArray) : Calls Tryd.prog 86 #[.string s, .string p] w fun e w' => e = .returned (.bool (pre s p)) ∧ w = w' := by
  unfold pre
  by_cases h : p.size ≤ s.size
  · have d : decide (p.size ≤ s.size) = true := by simpa using h
    have hi : (p.size : Int) ≤ (s.size : Int) := by omega
    rw [d, Bool.true_and]
    generalize hx : ((s.extract 0 p.size).toList == p.toList) = x
    clear d
    go_enter Tryd.func86, Tryd.ntmps86
    go_wp2
    go_ret
    exact ⟨rfl, rfl⟩
  · have d : decide (p.size ≤ s.size) = false := by simpa using h
    have hi : (s.size : Int) < (p.size : Int) := by omega
    rw [d, Bool.false_and]
    clear d
    go_enter Tryd.func86, Tryd.ntmps86
    go_wp2
    go_ret
    exact ⟨rfl, rfl⟩

theorem pre_any (w : World) (s p : ByteArray) : Calls Tryd.prog 69 #[.string s, .string p] w fun e w' => e = .returned (.bool (pre s p)) ∧ w = w' := by
  have c := pre86_any w s p
  generalize pre s p = x at c ⊢
  go_enter Tryd.func69, Tryd.ntmps69
  go_wp2_with (go_at_call 86; refine c.mono ?_; rintro e w' ⟨rfl, rfl⟩)
  go_ret
  exact ⟨rfl, rfl⟩

/-- A repertoire as a value. -/
def rowV (r : Row) : Value := .agg #[.int .i64 (r.1 : Int), .string r.2.1, .string (sp (3 * r.1 + 2)), .func (.func (mfN r.1)) #[] #[], .func (.func 81) #[] (caps r.2.2)]

/-- The row whose escape the text begins with. -/
def escL (s : ByteArray) : List Row → Option Row
  | [] => none
  | r :: R => if pre s (sp (3 * r.1 + 2)) then some r else escL s R
/-- What holds behind the escape that a text begins with. -/
def turnS (s : ByteArray) (R : List Row) (h : Row) : Row × Bool :=
  if pre s (sp 2) then (h, true) else match escL s R with
    | some r => (r, true)
    | none => (h, false)

theorem escL_skip (s : ByteArray) : ∀ (R : List Row) (k : Nat), (∀ a ∈ R.take k, pre s (sp (3 * a.1 + 2)) = false) → escL s R = escL s (R.drop k)
  | R, 0, _ => rfl
  | [], k + 1, _ => by simp
  | a :: R, k + 1, h => by
    rw [escL, if_neg (by rw [h a (by simp)]; decide), List.drop_succ_cons]
    exact escL_skip s R k (fun b hb => h b (by simp [hb]))

def TurnInv (w W0 : World) (s : ByteArray) (R : List Row) (n : Nat) (y : Value) (wr : World) : Prop :=
  ∃ k : Nat, y = .int .i64 (k : Int) ∧ k ≤ n ∧ Below W0.heap.size W0 wr ∧ Below w.heap.size w wr ∧ ∀ a ∈ R.take k, pre s (sp (3 * a.1 + 2)) = false

/-- A row's five cells. -/
structure Row5 (w : World) (g o : Nat) (r : Row) : Prop where
  c0 : w.cell? ⟨g, o, none⟩ = some (.int .i64 (r.1 : Int))
  c1 : w.cell? ⟨g, o + 1, none⟩ = some (.string r.2.1)
  c2 : w.cell? ⟨g, o + 2, none⟩ = some (.string (sp (3 * r.1 + 2)))
  c3 : w.cell? ⟨g, o + 3, none⟩ = some (.func (.func (mfN r.1)) #[] #[])
  c4 : w.cell? ⟨g, o + 4, none⟩ = some (.func (.func 81) #[] (caps r.2.2))
theorem Row5.on {w w' : World} {g o : Nat} {r : Row} (h : Row5 w g o r) {B : Nat} (hb : Below B w w') (hg : g < B) : Row5 w' g o r :=
  ⟨(hb.cell (p := ⟨g, o, none⟩) hg).trans h.c0, (hb.cell (p := ⟨g, o + 1, none⟩) hg).trans h.c1, (hb.cell (p := ⟨g, o + 2, none⟩) hg).trans h.c2, (hb.cell (p := ⟨g, o + 3, none⟩) hg).trans h.c3, (hb.cell (p := ⟨g, o + 4, none⟩) hg).trans h.c4⟩
theorem Row5.new (w : World) (r : Row) : Row5 (w.alloc (.cells #[.int .i64 (r.1 : Int), .string r.2.1, .string (sp (3 * r.1 + 2)), .func (.func (mfN r.1)) #[] #[], .func (.func 81) #[] (caps r.2.2)] 62)) w.heap.size 0 r :=
  ⟨by simp, by simp, by simp, by simp, by simp⟩

/-- A row written over a row's place. -/
theorem row_written {W : World} {g : Nat} {z0 z1 z2 z3 z4 : Value} (r : Row) (y0 : W.cell? ⟨g, 0, none⟩ = some z0) (y1 : W.cell? ⟨g, 1, none⟩ = some z1) (y2 : W.cell? ⟨g, 2, none⟩ = some z2) (y3 : W.cell? ⟨g, 3, none⟩ = some z3) (y4 : W.cell? ⟨g, 4, none⟩ = some z4) :
    Row5 (((((W.setCell ⟨g, 0, none⟩ (.int .i64 (r.1 : Int))).setCell ⟨g, 1, none⟩ (.string r.2.1)).setCell ⟨g, 2, none⟩ (.string (sp (3 * r.1 + 2)))).setCell ⟨g, 3, none⟩ (.func (.func (mfN r.1)) #[] #[])).setCell ⟨g, 4, none⟩ (.func (.func 81) #[] (caps r.2.2))) g 0 r :=
  ⟨(cell_set_ne (by decide)).trans ((cell_set_ne (by decide)).trans ((cell_set_ne (by decide)).trans ((cell_set_ne (by decide)).trans (cell_set_eq y0)))),
   (cell_set_ne (by decide)).trans ((cell_set_ne (by decide)).trans ((cell_set_ne (by decide)).trans (cell_set_eq ((cell_set_ne (by decide)).trans y1)))),
   (cell_set_ne (by decide)).trans ((cell_set_ne (by decide)).trans (cell_set_eq ((cell_set_ne (by decide)).trans ((cell_set_ne (by decide)).trans y2)))),
   (cell_set_ne (by decide)).trans (cell_set_eq ((cell_set_ne (by decide)).trans ((cell_set_ne (by decide)).trans ((cell_set_ne (by decide)).trans y3)))),
   cell_set_eq ((cell_set_ne (by decide)).trans ((cell_set_ne (by decide)).trans ((cell_set_ne (by decide)).trans ((cell_set_ne (by decide)).trans y4))))⟩

set_option maxRecDepth 100000 in
set_option maxHeartbeats 2000000 in
theorem turned_any (w : World) (q : Nat) (v : Value) (R : List Row) (x : Bool) (h : Row) (s : ByteArray) (hset : SetIn w q v R x) (hR6 : R.length ≤ 6) (hS : Spell w) :
    Calls Tryd.prog 53 #[.pointer (some ⟨q, 0, none⟩), rowV h, .string s] w fun e w' => e = .returned (.tuple #[rowV (turnS s R h).1, .bool (turnS s R h).2]) ∧ Below w.heap.size w w' := by
  obtain ⟨ao, cap, rfl⟩ := hset.val
  obtain ⟨n, hn⟩ : ∃ n, R.length = n := ⟨_, rfl⟩
  have HN : Hid (R.length = n) := hn
  rw [hn] at hset hR6
  obtain ⟨W1, hW1⟩ : ∃ W1, w.alloc (.cells #[.int .i64 (h.1 : Int), .string h.2.1, .string (sp (3 * h.1 + 2)), .func (.func (mfN h.1)) #[] #[], .func (.func 81) #[] (caps h.2.2)] 62) = W1 := ⟨_, rfl⟩
  have hb1 : Below w.heap.size w W1 := hW1 ▸ (Below.refl _ _).alloc (Nat.le_refl _) _
  have hH1 : Row5 W1 w.heap.size 0 h := hW1 ▸ Row5.new w h
  have hs1 : W1.heap.size = w.heap.size + 1 := by rw [← hW1]; simp
  obtain ⟨W0, hW0⟩ : ∃ W0, W1.alloc (.cells #[.int .i64 0, .string ⟨#[]⟩, .string ⟨#[]⟩, .nilFunc, .nilFunc] 62) = W0 := ⟨_, rfl⟩
  have hb0 : Below W1.heap.size W1 W0 := hW0 ▸ (Below.refl _ _).alloc (Nat.le_refl _) _
  have hs0 : W0.heap.size = W1.heap.size + 1 := by rw [← hW0]; simp
  have z0 : W0.cell? ⟨W1.heap.size, 0, none⟩ = some (.int .i64 0) := by rw [← hW0]; simp
  have z1 : W0.cell? ⟨W1.heap.size, 1, none⟩ = some (.string ⟨#[]⟩) := by rw [← hW0]; simp
  have z2 : W0.cell? ⟨W1.heap.size, 2, none⟩ = some (.string ⟨#[]⟩) := by rw [← hW0]; simp
  have z3 : W0.cell? ⟨W1.heap.size, 3, none⟩ = some .nilFunc := by rw [← hW0]; simp
  have z4 : W0.cell? ⟨W1.heap.size, 4, none⟩ = some .nilFunc := by rw [← hW0]; simp
  have zf : ∀ i, W0.frozen? ⟨W1.heap.size, i, none⟩ = false := fun i => by rw [← hW0]; simp
  have hbw : Below w.heap.size w W0 := hb1.trans (hb0.mono hb1.size)
  have hH0 := hH1.on hb0 (show w.heap.size < W1.heap.size by omega)
  have hsp := (hS.on hbw).cell 2 (by decide)
  have hc0 := (hset.on hbw).c0
  have HSz : Hid (W1.heap.size = w.heap.size + 1 ∧ W0.heap.size = W1.heap.size + 1) := ⟨hs1, hs0⟩
  have HB : Hid (Below w.heap.size w W0) := hbw
  have HSt : Hid (SetIn W0 q (.slice ao n cap) R x) := hset.on hbw
  have HP : Hid (∀ W t, Calls Tryd.prog 69 #[.string s, .string t] W fun e w' => e = .returned (.bool (pre s t)) ∧ W = w') := fun W t => pre_any W s t
  obtain ⟨RES, hRES⟩ : ∃ RES, turnS s R h = RES := ⟨_, rfl⟩
  have HRES : Hid (turnS s R h = RES) := hRES
  rw [hRES]
  clear hRES hset hn hb0 hb1 hH1 hbw hS
  obtain ⟨e0, e1, e2, e3, e4⟩ := hH0
  unfold rowV
  cases hp : pre s (sp 2) with
  | true =>
    have hR : RES = (h, true) := by rw [← HRES.out]; unfold turnS; rw [if_pos hp]
    subst hR
    have c69 := HP.out W0 (sp 2)
    rw [hp] at c69
    have HU := row_written h z0 z1 z2 z3 z4
    obtain ⟨hn1, hs2, hB2⟩ := h
    simp only at e0 e1 e2 e3 e4 HU hW1 ⊢
    obtain ⟨u0, u1, u2, u3, u4⟩ := HU
    simp only at u0 u1 u2 u3 u4
    generalize hE : sp (3 * hn1 + 2) = E at e2 hW1 u0 u1 u2 u3 u4 ⊢
    generalize mfN hn1 = j at e3 hW1 u0 u1 u2 u3 u4 ⊢
    generalize caps hB2 = P at e4 hW1 u0 u1 u2 u3 u4 ⊢
    generalize sp 2 = E2 at hsp c69
    clear hE hp HP HRES
    have HB2 : Hid (Below w.heap.size w (((((W0.setCell ⟨W1.heap.size, 0, none⟩ (.int .i64 (hn1 : Int))).setCell ⟨W1.heap.size, 1, none⟩ (.string hs2)).setCell ⟨W1.heap.size, 2, none⟩ (.string E)).setCell ⟨W1.heap.size, 3, none⟩ (.func (.func j) #[] #[])).setCell ⟨W1.heap.size, 4, none⟩ (.func (.func 81) #[] P))) := by
      have hle : w.heap.size ≤ W1.heap.size := by have := HSz.out.1; omega
      exact ((((HB.out.setCell (p := ⟨W1.heap.size, 0, none⟩) hle _).setCell (p := ⟨W1.heap.size, 1, none⟩) hle _).setCell (p := ⟨W1.heap.size, 2, none⟩) hle _).setCell (p := ⟨W1.heap.size, 3, none⟩) hle _).setCell (p := ⟨W1.heap.size, 4, none⟩) hle _
    have HU : Hid _ := And.intro u0 (And.intro u1 (And.intro u2 (And.intro u3 u4)))
    clear u0 u1 u2 u3 u4 hs0 hs1
    go_enter Tryd.func53, Tryd.ntmps53
    go_wp2_with (go_at_call 69; refine c69.mono ?_; rintro e W ⟨rfl, rfl⟩)
    obtain ⟨u0, u1, u2, u3, u4⟩ := HU.out
    exact bodyPost_ret (v := .tuple #[.agg #[.int .i64 (hn1 : Int), .string hs2, .string E, .func (.func j) #[] #[], .func (.func 81) #[] P], .bool true]) (by simp only [results, Tryd.results53]; simp [go_sem, u0, u1, u2, u3, u4]) rfl ⟨rfl, HB2.out⟩
  | false =>
    have HRES2 : Hid (RES = match escL s R with
      | some r => (r, true)
      | none => (h, false)) := by
      show _ = _
      rw [← HRES.out]
      unfold turnS
      rw [if_neg (by rw [hp]; decide)]
    have c69 := HP.out W0 (sp 2)
    rw [hp] at c69
    have HZ : Hid (∀ wr, Below W0.heap.size W0 wr → wr.cell? ⟨W1.heap.size, 0, none⟩ = some (.int .i64 0) ∧ wr.cell? ⟨W1.heap.size, 1, none⟩ = some (.string ⟨#[]⟩) ∧ wr.cell? ⟨W1.heap.size, 2, none⟩ = some (.string ⟨#[]⟩) ∧ wr.cell? ⟨W1.heap.size, 3, none⟩ = some .nilFunc ∧ wr.cell? ⟨W1.heap.size, 4, none⟩ = some .nilFunc ∧ (∀ i, wr.frozen? ⟨W1.heap.size, i, none⟩ = false) ∧ Row5 wr w.heap.size 0 h) := fun wr hb =>
      have hl : W1.heap.size < W0.heap.size := by omega
      ⟨(hb.cell (p := ⟨W1.heap.size, 0, none⟩) hl).trans z0, (hb.cell (p := ⟨W1.heap.size, 1, none⟩) hl).trans z1, (hb.cell (p := ⟨W1.heap.size, 2, none⟩) hl).trans z2, (hb.cell (p := ⟨W1.heap.size, 3, none⟩) hl).trans z3, (hb.cell (p := ⟨W1.heap.size, 4, none⟩) hl).trans z4, fun i => (hb.frozen (p := ⟨W1.heap.size, i, none⟩) hl).trans (zf i), (Row5.mk e0 e1 e2 e3 e4).on hb (by omega)⟩
    generalize sp 2 = E2 at hsp c69
    have HH : Hid (w.alloc (.cells #[.int .i64 (h.1 : Int), .string h.2.1, .string (sp (3 * h.1 + 2)), .func (.func (mfN h.1)) #[] #[], .func (.func 81) #[] (caps h.2.2)] 62) = W1) := hW1
    clear hp z0 z1 z2 z3 z4 zf e0 e1 e2 e3 e4 HRES hs0 hs1
    obtain ⟨hnn, hns, hnB⟩ := h
    simp only at hW1 ⊢
    generalize hE : sp (3 * hnn + 2) = E at hW1 ⊢
    generalize hj : mfN hnn = j at hW1 ⊢
    generalize hPp : caps hnB = P at hW1 ⊢
    have HEE : Hid (sp (3 * hnn + 2) = E ∧ mfN hnn = j ∧ caps hnB = P) := ⟨hE, hj, hPp⟩
    clear hE hj hPp
    go_enter Tryd.func53, Tryd.ntmps53
    go_wp2_with (go_at_call 69; refine c69.mono ?_; rintro e W ⟨rfl, rfl⟩)
    clear c69 hsp
    go_loopw [21] (fun y wr => TurnInv w W0 s R n y wr) (fun y _ => n - (intOf y).toNat)
    case atStart => exact ⟨0, rfl, by omega, Below.refl _ _, HB.out, by simp⟩
    case round =>
      obtain ⟨k, rfl, hk, hb0, hbw, hno⟩ := hrel
      have HB0r : Hid (Below W0.heap.size W0 wr) := hb0
      have HBwr : Hid (Below w.heap.size w wr) := hbw
      have HNo : Hid (∀ a ∈ R.take k, pre s (sp (3 * a.1 + 2)) = false) := hno
      have hset := HSt.out.on hb0
      clear hno hb0 hbw
      by_cases hkn : k < n
      · have hkR : k < R.length := by rw [HN.out]; exact hkn
        obtain ⟨a, ha⟩ : ∃ a, R[k]? = some a := ⟨R[k], List.getElem?_eq_getElem hkR⟩
        obtain ⟨g, rfl, -, r0, r1, r2, r3, r4⟩ := hset.row k a ha
        have HTk : Hid (R.take (k + 1) = R.take k ++ [a] ∧ R.drop k = a :: R.drop (k + 1)) := by
          refine ⟨by rw [List.take_add_one, ha]; rfl, ?_⟩
          rw [List.drop_eq_getElem_cons hkR, (List.getElem?_eq_some_iff.1 ha).2]
        have HEsc : Hid (escL s R = if pre s (sp (3 * a.1 + 2)) then some a else escL s (R.drop (k + 1))) := by
          show _ = _
          rw [escL_skip s R k HNo.out, HTk.out.2, escL]
        clear ha hset
        obtain ⟨W2, hW2⟩ : ∃ W2, wr.alloc (.cells #[.int .i64 (a.1 : Int), .string a.2.1, .string (sp (3 * a.1 + 2)), .func (.func (mfN a.1)) #[] #[], .func (.func 81) #[] (caps a.2.2)] 62) = W2 := ⟨_, rfl⟩
        have hb2 : Below wr.heap.size wr W2 := hW2 ▸ (Below.refl _ _).alloc (Nat.le_refl _) _
        have hA2 : Row5 W2 wr.heap.size 0 a := hW2 ▸ Row5.new wr a
        have HB02 : Hid (Below W0.heap.size W0 W2) := HB0r.out.trans (hb2.mono HB0r.out.size)
        have HBW : Hid (Below w.heap.size w W2) := HBwr.out.trans (hb2.mono HBwr.out.size)
        have hzz := HZ.out W2 HB02.out
        obtain ⟨y0, y1, y2, y3, y4, yf, -⟩ := hzz
        have c69 := HP.out W2 (sp (3 * a.1 + 2))
        obtain ⟨a0, a1, a2, a3, a4⟩ := hA2
        have hU := row_written a y0 y1 y2 y3 y4
        obtain ⟨u0, u1, u2, u3, u4⟩ := hU
        have hki : (k : Int) < (n : Int) := by omega
        cases hpa : pre s (sp (3 * a.1 + 2)) with
        | true =>
          have hR : RES = (a, true) := by
            rw [HRES2.out, HEsc.out, if_pos hpa]
          subst hR
          rw [hpa] at c69
          obtain ⟨an, sa, aB⟩ := a
          unfold invF at r4
          simp only at r0 r1 r2 r3 r4 a0 a1 a2 a3 a4 hW2 u0 u1 u2 u3 u4 c69 y0 y1 y2 y3 y4 ⊢
          generalize hE3 : sp (3 * an + 2) = E3 at r2 a2 hW2 u0 u1 u2 u3 u4 c69
          generalize hj3 : mfN an = j3 at r3 a3 hW2 u0 u1 u2 u3 u4
          generalize hP3 : caps aB = P3 at r4 a4 hW2 u0 u1 u2 u3 u4
          have HE3 : Hid (sp (3 * an + 2) = E3 ∧ mfN an = j3 ∧ caps aB = P3) := ⟨hE3, hj3, hP3⟩
          have HB2 : Hid (Below w.heap.size w (((((W2.setCell ⟨W1.heap.size, 0, none⟩ (.int .i64 (an : Int))).setCell ⟨W1.heap.size, 1, none⟩ (.string sa)).setCell ⟨W1.heap.size, 2, none⟩ (.string E3)).setCell ⟨W1.heap.size, 3, none⟩ (.func (.func j3) #[] #[])).setCell ⟨W1.heap.size, 4, none⟩ (.func (.func 81) #[] P3))) := by
            have hle : w.heap.size ≤ W1.heap.size := by have := HSz.out.1; omega
            exact ((((HBW.out.setCell (p := ⟨W1.heap.size, 0, none⟩) hle _).setCell (p := ⟨W1.heap.size, 1, none⟩) hle _).setCell (p := ⟨W1.heap.size, 2, none⟩) hle _).setCell (p := ⟨W1.heap.size, 3, none⟩) hle _).setCell (p := ⟨W1.heap.size, 4, none⟩) hle _
          have HU : Hid _ := And.intro u0 (And.intro u1 (And.intro u2 (And.intro u3 u4)))
          clear u0 u1 u2 u3 u4 hE3 hj3 hP3 hpa hb2
          go_wp2_with (go_at_call 69; refine c69.mono ?_; rintro e W ⟨rfl, rfl⟩)
          obtain ⟨u0, u1, u2, u3, u4⟩ := HU.out
          exact bodyPost_ret (v := .tuple #[.agg #[.int .i64 (an : Int), .string sa, .string E3, .func (.func j3) #[] #[], .func (.func 81) #[] P3], .bool true]) (by simp only [results, Tryd.results53]; simp [go_sem, u0, u1, u2, u3, u4]) rfl ⟨by simp only [HE3.out.1, HE3.out.2.1, HE3.out.2.2], HB2.out⟩
        | false =>
          rw [hpa] at c69
          have HN2 : Hid (∀ b ∈ R.take (k + 1), pre s (sp (3 * b.1 + 2)) = false) := fun b hb => by
            rw [HTk.out.1, List.mem_append, List.mem_singleton] at hb
            rcases hb with hb | rfl
            · exact HNo.out b hb
            · exact hpa
          obtain ⟨an, sa, aB⟩ := a
          unfold invF at r4
          simp only at r0 r1 r2 r3 r4 a0 a1 a2 a3 a4 hW2 c69
          generalize sp (3 * an + 2) = E3 at r2 a2 hW2 c69
          generalize mfN an = j3 at r3 a3 hW2
          generalize caps aB = P3 at r4 a4 hW2
          clear u0 u1 u2 u3 u4 hpa hb2 y0 y1 y2 y3 y4 yf
          go_wp2_with (go_at_call 69; refine c69.mono ?_; rintro e W ⟨rfl, rfl⟩)
          go_roundw
          case rel => exact ⟨k + 1, by simp, by omega, HB02.out, HBW.out, HN2.out⟩
          case measure => simp [intOf]; omega
      · obtain rfl : k = n := by omega
        have hR : RES = ((hnn, hns, hnB), false) := by
          have he := escL_skip s R k HNo.out
          rw [List.drop_eq_nil_of_le (by rw [HN.out]; exact Nat.le_refl _), escL] at he
          rw [HRES2.out, he]
        subst hR
        have hzz := HZ.out wr HB0r.out
        obtain ⟨y0, y1, y2, y3, y4, yf, ⟨e0, e1, e2, e3, e4⟩⟩ := hzz
        have hU := row_written (hnn, hns, hnB) y0 y1 y2 y3 y4
        obtain ⟨u0, u1, u2, u3, u4⟩ := hU
        simp only at e0 e1 e2 e3 e4 u0 u1 u2 u3 u4
        rw [HEE.out.1] at e2 u0 u1 u2 u3 u4
        rw [HEE.out.2.1] at e3 u0 u1 u2 u3 u4
        rw [HEE.out.2.2] at e4 u0 u1 u2 u3 u4
        have HB2 : Hid (Below w.heap.size w (((((wr.setCell ⟨W1.heap.size, 0, none⟩ (.int .i64 (hnn : Int))).setCell ⟨W1.heap.size, 1, none⟩ (.string hns)).setCell ⟨W1.heap.size, 2, none⟩ (.string E)).setCell ⟨W1.heap.size, 3, none⟩ (.func (.func j) #[] #[])).setCell ⟨W1.heap.size, 4, none⟩ (.func (.func 81) #[] P))) := by
          have hle : w.heap.size ≤ W1.heap.size := by have := HSz.out.1; omega
          exact ((((HBwr.out.setCell (p := ⟨W1.heap.size, 0, none⟩) hle _).setCell (p := ⟨W1.heap.size, 1, none⟩) hle _).setCell (p := ⟨W1.heap.size, 2, none⟩) hle _).setCell (p := ⟨W1.heap.size, 3, none⟩) hle _).setCell (p := ⟨W1.heap.size, 4, none⟩) hle _
        have HU : Hid _ := And.intro u0 (And.intro u1 (And.intro u2 (And.intro u3 u4)))
        clear u0 u1 u2 u3 u4 hset
        go_wp2
        obtain ⟨u0, u1, u2, u3, u4⟩ := HU.out
        exact bodyPost_ret (v := .tuple #[.agg #[.int .i64 (hnn : Int), .string hns, .string E, .func (.func j) #[] #[], .func (.func 81) #[] P], .bool false]) (by simp only [results, Tryd.results53]; simp [go_sem, u0, u1, u2, u3, u4]) rfl ⟨by simp only [HEE.out.1, HEE.out.2.1, HEE.out.2.2], HB2.out⟩
end Go.Proofs.YtmhjjpdfjilobaaDoor
