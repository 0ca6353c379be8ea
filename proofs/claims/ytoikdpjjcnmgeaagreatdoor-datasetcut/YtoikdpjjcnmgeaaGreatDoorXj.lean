import Derived.Test.YtoikdpjjcnmgeaaGreatDoorXf
section
/-
  DERIVED. Is there a fault?
-/
namespace Go.Proofs.YtoikdpjjcnmgeaaGreatDoor
open Go Go.Proofs Go.RowKit

set_option maxRecDepth 100000 in
theorem any_no (w : World) : Calls Tryz.prog 26 #[.agg #[.slice none 0 0, .int .i64 0]] w fun e w' => e = .returned (.bool false) ∧ Below w.heap.size w w' := by
  go_enter Tryz.func26, Tryz.ntmps26
  go_wp2
  go_ret
  exact ⟨rfl, (Below.refl _ _).alloc (Nat.le_refl _) _⟩
theorem any_bad (w : World) (g cap : Nat) (c : Int) (hc : c ≠ 0) : Calls Tryz.prog 26 #[.agg #[.slice (some ⟨g, 0, none⟩) 1 cap, .int .i64 c]] w fun e w' => e = .returned (.bool true) ∧ Below w.heap.size w w' := by
  have b : (c != 0) = true := bne_iff_ne.2 hc
  clear hc
  go_enter Tryz.func26, Tryz.ntmps26
  go_wp2
  go_ret
  exact ⟨rfl, (Below.refl _ _).alloc (Nat.le_refl _) _⟩
end Go.Proofs.YtoikdpjjcnmgeaaGreatDoor
end

section
/-
  DERIVED. Which letters may stand with a tag, as the document asks it.
-/
namespace Go.Proofs.YtoikdpjjcnmgeaaGreatDoor
open Go Go.Proofs Go.RowKit

theorem mayT_doc (t v : Nat) : mayT t v = !((((kn t).isSome && !decide ((v : Int) = Tb.eV (kn t))) && !decide (v = 25)) || (decide (t % 65536 = 0) && !decide (v = 24))) := by
  unfold mayT
  by_cases hG : t % 65536 = 0
  · rw [if_pos hG, decide_eq_true hG]
    cases hk : kn t with
    | none => simp
    | some r =>
      obtain ⟨_, _, h3⟩ := kn_row hk
      have h4 : Tb.eV (some r) = 24 := by show (r.v : Int) = 24; exact h3 hG
      rw [h4]
      by_cases h : v = 24
      · subst h; simp
      · simp [h]
  · rw [if_neg hG, decide_eq_false hG]
    cases kn t with
    | none => simp
    | some r =>
      by_cases h1 : (v : Int) = Tb.eV (some r) <;> by_cases h2 : v = 25 <;> simp [h1, h2]
end Go.Proofs.YtoikdpjjcnmgeaaGreatDoor
end

section
/-
  DERIVED. The document's heads, read with letters.
-/
namespace Go.Proofs.YtoikdpjjcnmgeaaGreatDoor
open Go Go.Proofs Go.RowKit
open Wk (Nd nds)
open Go.Sort

theorem str_cutc (c : Nat) {W : World} {b off n q z : Nat} {ys : List UInt8} (hn : n = ys.length) (hq : q + z ≤ n) (hb : ∀ j, j < n → W.cell? ⟨b, off + j, none⟩ = some (.int .u8 (gB ys j : Int))) :
    (convert 22 9 (.slice (some ⟨b, off + q, none⟩) z c)).run Tryz.prog W = .ok (.string (cutB ys q z)) W := by
  have hl : ((ys.drop q).take z).length = z := by simp; omega
  have := run_convert_bytes_back (P := Tryz.prog) W 22 9 5 ⟨b, off + q, none⟩ c ((ys.drop q).take z) Tryz.underlying22 Tryz.underlying5 Tryz.underlying9 (fun j hj => by
    have hj' : j < z := by omega
    have h := hb (q + j) (by omega)
    rw [show (⟨b, off + q, none⟩ : Addr).add j = ⟨b, off + (q + j), none⟩ by simp [Addr.add, Nat.add_assoc], h]
    unfold gB
    congr 3
    rw [List.getD_eq_getElem?_getD]
    simp [List.getElem_take, List.getElem_drop, hn ▸ (show q + j < n by omega)])
  rw [hl] at this
  exact this

theorem DH.keep {W W' : World} {g : Nat} {v : Int} {fr len : Nat} {s : Bool} (h : DH W g v fr len s) (e : W'.heap[g]? = W.heap[g]?) : DH W' g v fr len s := by
  have hc : ∀ i, W'.cell? ⟨g, i, none⟩ = W.cell? ⟨g, i, none⟩ := fun i => by
    unfold World.cell?
    rw [show W'.heap[(⟨g, i, none⟩ : Addr).block]? = W.heap[(⟨g, i, none⟩ : Addr).block]? from e]
  have hf : ∀ i, W'.frozen? ⟨g, i, none⟩ = W.frozen? ⟨g, i, none⟩ := fun i => by
    unfold World.frozen?
    rw [show W'.heap[(⟨g, i, none⟩ : Addr).block]? = W.heap[(⟨g, i, none⟩ : Addr).block]? from e]
  exact ⟨(hc 0).trans h.c0, (hc 1).trans h.c1, (hc 2).trans h.c2, (hc 3).trans h.c3, fun i => (hf i).trans (h.fz i)⟩
theorem Below.ty {W W' : World} {g : Nat} {t : TypeId} (h : Below W.heap.size W W') (e : ∃ cs, W.heap[g]? = some (.cells cs t)) : ∃ cs, W'.heap[g]? = some (.cells cs t) := by
  obtain ⟨cs, e⟩ := e
  exact ⟨cs, (h.block g (Array.getElem?_eq_some_iff.1 e).1).trans e⟩

theorem DR.off {base rb q i : Nat} {bv nv lv : Value} {c : Int} {W : World} {M : List Nd} (h : DR base rb bv W M nv lv c) (ht : ∃ cs, W.heap[q]? = some (Obj.cells cs 124)) (hne : q ≠ rb) (u : Value) : DR base rb bv (W.setCell ⟨q, i, none⟩ u) M nv lv c :=
  ⟨(Rp.cell_set_off hne).trans h.c0, (Rp.cell_set_off hne).trans h.c1, (Rp.cell_set_off hne).trans h.c2, (Rp.cell_set_off hne).trans h.c3, fun j => by simpa using h.fz j, by
    obtain ⟨cs, e⟩ := h.ty
    exact ⟨cs, (heap_setCell_other W ⟨q, i, none⟩ rb u (fun e => hne e.symm)).trans e⟩,
    own_same h.nd (fun g cur hg => heap_setCell_other W ⟨q, i, none⟩ g u (fun e => by
      have e : g = q := e
      obtain ⟨cs, ht⟩ := ht
      rw [e, ht] at hg
      cases hg)), h.hb⟩
theorem LkAt.off {W : World} {g q i : Nat} {ls : List Lk} (h : LkAt W g ls) (hne : q ≠ g) (u : Value) : LkAt (W.setCell ⟨q, i, none⟩ u) g ls := fun j hj => ⟨(Rp.cell_set_off hne).trans (h j hj).1, (Rp.cell_set_off hne).trans (h j hj).2⟩
theorem Kq.new {w W : World} {q i : Nat} {u : Value} (h : Kq w W) (hq : w.heap.size ≤ q) : Kq w (W.setCell ⟨q, i, none⟩ u) := fun j cs t e h1 h2 => (heap_setCell_other W ⟨q, i, none⟩ j u (fun e2 => by
  have e2 : j = q := e2
  have := (Array.getElem?_eq_some_iff.1 e).1
  omega)).trans (h j cs t e h1 h2)
theorem DBad.fill {base rb q : Nat} {bv nv : Value} {a c : Int} {W : World} {M : List Nd} (h : DBad base rb bv W M nv a c) (ht : ∃ cs, W.heap[q]? = some (Obj.cells cs 124)) (hd : DH W q 0 0 0 false) (hne : q ≠ rb) (x y z t : Value) :
    DBad base rb bv ((((W.setCell ⟨q, 0, none⟩ x).setCell ⟨q, 1, none⟩ y).setCell ⟨q, 2, none⟩ z).setCell ⟨q, 3, none⟩ t) M nv a c := by
  obtain ⟨g, h1, h2⟩ := h
  have hg : q ≠ g := fun e => by
    have e1 := (h2 0 (by simp)).1
    rw [← e] at e1
    have e2 := hd.c0
    rw [show (0 * 2 : Nat) = 0 from rfl, e2] at e1
    cases e1
  have t1 := ty_set (i := 0) (v := x) ht
  have t2 := ty_set (i := 1) (v := y) t1
  have t3 := ty_set (i := 2) (v := z) t2
  exact ⟨g, (((h1.off ht hne x).off t1 hne y).off t2 hne z).off t3 hne t, (((h2.off hg x).off hg y).off hg z).off hg t⟩

set_option maxRecDepth 100000 in
set_option maxHeartbeats 4000000 in
theorem rexp_no (w : World) (base rb b off n cap k fin : Nat) (ys : List UInt8) (hyn : n = ys.length) (hn : k + 8 ≤ n) (hc : n ≤ cap) (hs : n ≤ 1048576) (M : List Nd) (nv lv : Value) (c0' : Int) (hD : DR base rb (.slice (some ⟨b, off, none⟩) n cap) w M nv lv c0') (hb : ∀ j, j < n → w.cell? ⟨b, off + j, none⟩ = some (.int .u8 (gB ys j : Int))) (hv : vrE ys k = 0) :
    Calls Tryz.prog 65 #[.pointer (some ⟨rb, 0, none⟩), .int .i64 (k : Int), .int .i64 (fin : Int)] w fun e w' => e = .returned (dhV 0 0 0 false) ∧ Hid (DBad base rb (.slice (some ⟨b, off, none⟩) n cap) w' M nv (k : Int) 124) ∧ Hid (Below base w w') ∧ Hid (Kq w w') := by
  have c0 := hD.c0
  have HD : Hid (DR base rb (.slice (some ⟨b, off, none⟩) n cap) w M nv lv c0') := hD
  clear hD
  have cT : Hid (∀ W, Below w.heap.size w W → Calls Tryz.prog 62 #[.pointer (some ⟨rb, 0, none⟩), .int .i64 (k : Int)] W fun e w' => e = .returned (.int .u32 (tagS ys k : Int)) ∧ Below W.heap.size W w') := fun W hW => rtag_any W rb b off n cap k ys (by omega) hs ((hW.cell (Rp.cell_lt c0)).trans c0) (fun j hj => (hW.cell (Rp.cell_lt (hb j hj))).trans (hb j hj))
  have cS : ∀ W, Below w.heap.size w W → (convert 22 9 (.slice (some ⟨b, off + (k + 4), none⟩) 2 (cap - (k + 4)))).run Tryz.prog W = .ok (.string (cutB ys (k + 4) 2)) W := fun W hW => str_cutc _ hyn (by omega) (fun j hj => (hW.cell (Rp.cell_lt (hb j hj))).trans (hb j hj))
  have cV : Hid (∀ W, Calls Tryz.prog 71 #[.string (cutB ys (k + 4) 2)] W fun e w' => ∃ vf, e = .returned (.tuple #[.int .i64 0, vf]) ∧ Rp.RErr w' vf true ∧ Below W.heap.size W w') := fun W => Rp.rvrof_any W _ 0 hv
  generalize tagS ys k = T at cT
  generalize cutB ys (k + 4) 2 = S2 at cS cV
  obtain ⟨W0, hW0⟩ : ∃ W0, w.alloc (.cells #[.int .i64 0, .int .i64 0, .int .u64 0, .bool false] 124) = W0 := ⟨_, rfl⟩
  have hb0 : Below w.heap.size w W0 := by rw [← hW0]; exact (Below.refl _ _).alloc (Nat.le_refl _) _
  have HE0 : Hid (DH W0 w.heap.size 0 0 0 false) := by rw [← hW0]; exact DH.new w 0 0 0 false
  have HT0 : Hid (∃ cs, W0.heap[w.heap.size]? = some (.cells cs 124)) := by rw [← hW0]; exact ⟨_, Array.getElem?_push_size⟩
  have Hn : Hid (n = ys.length) := hyn
  clear hyn hb hv
  go_enter Tryz.func65, Tryz.ntmps65
  go_wp2_with (go_at_call 62; refine StopV.out ?_)
  refine ⟨Calls.mono (cT.out _ hb0) ?_⟩
  rintro e W1 ⟨rfl, hb1⟩
  have hB1 : Below w.heap.size w W1 := hb0.trans (hb1.mono hb0.size)
  have HE1 : Hid (DH W1 w.heap.size 0 0 0 false) := HE0.out.on hb1
  have HT1 : Hid (∃ cs, W1.heap[w.heap.size]? = some (.cells cs 124)) := Below.ty hb1 HT0.out
  clear hb1 HE0 HT0
  have d0 := (hB1.cell (Rp.cell_lt c0)).trans c0
  have s1 := cS W1 hB1
  go_wp2_with (go_at_call 71; refine StopV.out ?_)
  refine ⟨Calls.mono (cV.out _) ?_⟩
  rintro e W2 ⟨vf, rfl, hvf, hb2⟩
  obtain ⟨g, gc, rfl, -⟩ := hvf
  have hB2 : Below w.heap.size w W2 := hB1.trans (hb2.mono hB1.size)
  have HE2 : Hid (DH W2 w.heap.size 0 0 0 false) := HE1.out.on hb2
  have HT2 : Hid (∃ cs, W2.heap[w.heap.size]? = some (.cells cs 124)) := Below.ty hb2 HT1.out
  clear hb2 HE1 hB1 s1 d0 HT1
  obtain ⟨W3, hW3⟩ : ∃ W3, W2.alloc (.cells #[.slice (some ⟨g, 0, none⟩) 1 gc, .int .i64 62] 32) = W3 := ⟨_, rfl⟩
  have hb3 : Below W2.heap.size W2 W3 := by rw [← hW3]; exact (Below.refl _ _).alloc (Nat.le_refl _) _
  have k0 : W3.cell? ⟨W2.heap.size, 0, none⟩ = some (.slice (some ⟨g, 0, none⟩) 1 gc) := by rw [← hW3]; simp
  have k1 : W3.cell? ⟨W2.heap.size, 1, none⟩ = some (.int .i64 62) := by rw [← hW3]; simp
  go_wp2_with (go_at_call 26; refine StopV.out ?_)
  refine ⟨Calls.mono (any_bad _ g gc 62 (by decide)) ?_⟩
  rintro e W4 ⟨rfl, hb4⟩
  have hB3 : Below w.heap.size w W3 := hB2.trans (hb3.mono hB2.size)
  have hB4 : Below w.heap.size w W4 := hB3.trans (hb4.mono hB3.size)
  have HE4 : Hid (DH W4 w.heap.size 0 0 0 false) := (HE2.out.on hb3).on hb4
  have HT4 : Hid (∃ cs, W4.heap[w.heap.size]? = some (.cells cs 124)) := Below.ty hb4 (Below.ty hb3 HT2.out)
  have HD4 : Hid (DR base rb (.slice (some ⟨b, off, none⟩) n cap) W4 M nv lv c0') := HD.out.on hB4
  clear hW3 hb3 hb4 k0 k1 HE2 HT2 hB2 hB3
  go_wp2_with (go_at_call 61; refine StopV.out ?_)
  refine ⟨Calls.mono (bad_any base rb _ nv lv c0' (k : Int) 124 M _ HD4.out) ?_⟩
  rintro e W5 ⟨rfl, hbad, hb5, hk5⟩
  have HE5 : Hid (DH W5 w.heap.size 0 0 0 false) := by
    obtain ⟨cs, e⟩ := HT4.out
    exact HE4.out.keep (hk5.out _ cs 124 e (by decide) (by decide))
  have HT5 : Hid (∃ cs, W5.heap[w.heap.size]? = some (.cells cs 124)) := by
    obtain ⟨cs, e⟩ := HT4.out
    exact ⟨cs, (hk5.out _ cs 124 e (by decide) (by decide)).trans e⟩
  have hrl : rb < w.heap.size := Rp.cell_lt HD.out.c0
  have hbl : base ≤ w.heap.size := by have := HD.out.hb; omega
  have hB5 : Below base w W5 := (hB4.mono hbl).trans hb5.out
  have HK5 : Hid (Kq w W5) := (Kq.below hB4).trans hk5.out
  obtain ⟨f0, f1, f2, f3, ff⟩ := HE5.out
  obtain ⟨u0, u1, u2, u3, uf⟩ := DH.fill HE5.out 0 0 0 false
  rw [show ((0 : Nat) : Int) = 0 from rfl] at u0 u1 u2 u3
  have HZ := DBad.fill hbad.out HT5.out HE5.out (by omega) (.int .i64 0) (.int .i64 0) (.int .u64 0) (.bool false)
  have HZ2 : Hid _ := HZ
  clear HZ
  go_wp2
  refine bodyPost_ret (v := .agg #[.int .i64 0, .int .i64 0, .int .u64 0, .bool false]) (by simp only [results, Tryz.results65]; simp [go_sem, u0, u1, u2, u3]) rfl ⟨rfl, HZ2, ?_, ?_⟩
  · exact below_fill hB5 hbl _ _ _ _
  · exact (((HK5.out.new (Nat.le_refl _)).new (Nat.le_refl _)).new (Nat.le_refl _)).new (Nat.le_refl _)
end Go.Proofs.YtoikdpjjcnmgeaaGreatDoor
end

section
/-
  DERIVED. The document's heads, read with letters: too short.
-/
namespace Go.Proofs.YtoikdpjjcnmgeaaGreatDoor
open Go Go.Proofs Go.RowKit
open Wk (Nd nds)
open Go.Sort

set_option maxRecDepth 100000 in
set_option maxHeartbeats 4000000 in
theorem rexp_short (w : World) (base rb b off n cap k fin : Nat) (ys : List UInt8) (hyn : n = ys.length) (hn : k + 8 ≤ n) (hc : n ≤ cap) (hs : n ≤ 1048576) (M : List Nd) (nv lv : Value) (c0' : Int) (hD : DR base rb (.slice (some ⟨b, off, none⟩) n cap) w M nv lv c0') (hb : ∀ j, j < n → w.cell? ⟨b, off + j, none⟩ = some (.int .u8 (gB ys j : Int))) (R : Nat) (hv : vrE ys k = R) (hR0 : R ≠ 0) (hlo : Rp.lo (Rp.vn (R : Int)) = true) (hfk : k + 8 ≤ fin) (hff : fin < k + 12) :
    Calls Tryz.prog 65 #[.pointer (some ⟨rb, 0, none⟩), .int .i64 (k : Int), .int .i64 (fin : Int)] w fun e w' => e = .returned (dhV 0 0 0 false) ∧ Hid (DBad base rb (.slice (some ⟨b, off, none⟩) n cap) w' M nv (k : Int) 122) ∧ Hid (Below base w w') ∧ Hid (Kq w w') := by
  have c0 := hD.c0
  have HD : Hid (DR base rb (.slice (some ⟨b, off, none⟩) n cap) w M nv lv c0') := hD
  clear hD
  have cT : Hid (∀ W, Below w.heap.size w W → Calls Tryz.prog 62 #[.pointer (some ⟨rb, 0, none⟩), .int .i64 (k : Int)] W fun e w' => e = .returned (.int .u32 (tagS ys k : Int)) ∧ Below W.heap.size W w') := fun W hW => rtag_any W rb b off n cap k ys (by omega) hs ((hW.cell (Rp.cell_lt c0)).trans c0) (fun j hj => (hW.cell (Rp.cell_lt (hb j hj))).trans (hb j hj))
  have cS : ∀ W, Below w.heap.size w W → (convert 22 9 (.slice (some ⟨b, off + (k + 4), none⟩) 2 (cap - (k + 4)))).run Tryz.prog W = .ok (.string (cutB ys (k + 4) 2)) W := fun W hW => str_cutc _ hyn (by omega) (fun j hj => (hW.cell (Rp.cell_lt (hb j hj))).trans (hb j hj))
  have cV : Hid (∀ W, Calls Tryz.prog 71 #[.string (cutB ys (k + 4) 2)] W fun e w' => ∃ vf, e = .returned (.tuple #[.int .i64 (R : Int), vf]) ∧ Rp.RErr w' vf false ∧ Below W.heap.size W w') := fun W => by
    have := Rp.rvrof_any W _ R hv
    rw [decide_eq_false hR0] at this
    exact this
  have cA : Hid (∀ W, Calls Tryz.prog 105 #[.int .i64 (R : Int)] W fun e w' => ∃ x0 x1 x2 x3 x4 x5 x6 x7, e = .returned (.tuple #[.agg #[.string x0, .int .u8 x1, .int .i64 x2, .int .i64 x3, .bool x4, .bool x5, .bool x6, .bool true], .bool x7]) ∧ Below W.heap.size W w') := fun W => (Rp.rabout_open W (R : Int)).mono (by
    rintro e w' ⟨rfl, h⟩
    rw [hlo]
    exact ⟨_, _, _, _, _, _, _, _, rfl, h⟩)
  obtain ⟨sb, hsb⟩ : ∃ sb, ((R : Int) != 25) = sb := ⟨_, rfl⟩
  have HS12 : Hid (fin < k + 12) := hff
  have l12 : (fin : Int) - (k : Int) < 12 := by omega
  generalize tagS ys k = T at cT
  generalize cutB ys (k + 4) 2 = S2 at cS cV
  obtain ⟨W0, hW0⟩ : ∃ W0, w.alloc (.cells #[.int .i64 0, .int .i64 0, .int .u64 0, .bool false] 124) = W0 := ⟨_, rfl⟩
  have hb0 : Below w.heap.size w W0 := by rw [← hW0]; exact (Below.refl _ _).alloc (Nat.le_refl _) _
  have HE0 : Hid (DH W0 w.heap.size 0 0 0 false) := by rw [← hW0]; exact DH.new w 0 0 0 false
  have HT0 : Hid (∃ cs, W0.heap[w.heap.size]? = some (.cells cs 124)) := by rw [← hW0]; exact ⟨_, Array.getElem?_push_size⟩
  have Hn : Hid (n = ys.length) := hyn
  clear hyn hb hv hlo hR0
  go_enter Tryz.func65, Tryz.ntmps65
  go_wp2_with (go_at_call 62; refine StopV.out ?_)
  refine ⟨Calls.mono (cT.out _ hb0) ?_⟩
  rintro e W1 ⟨rfl, hb1⟩
  have hB1 : Below w.heap.size w W1 := hb0.trans (hb1.mono hb0.size)
  have HE1 : Hid (DH W1 w.heap.size 0 0 0 false) := HE0.out.on hb1
  have HT1 : Hid (∃ cs, W1.heap[w.heap.size]? = some (.cells cs 124)) := Below.ty hb1 HT0.out
  clear hb1 HE0 HT0
  have d0 := (hB1.cell (Rp.cell_lt c0)).trans c0
  have s1 := cS W1 hB1
  go_wp2_with (go_at_call 71; refine StopV.out ?_)
  refine ⟨Calls.mono (cV.out _) ?_⟩
  rintro e W2 ⟨vf, rfl, hvf, hb2⟩
  obtain rfl : vf = .agg #[.slice none 0 0, .int .i64 0] := hvf
  have hB2 : Below w.heap.size w W2 := hB1.trans (hb2.mono hB1.size)
  have HE2 : Hid (DH W2 w.heap.size 0 0 0 false) := HE1.out.on hb2
  have HT2 : Hid (∃ cs, W2.heap[w.heap.size]? = some (.cells cs 124)) := Below.ty hb2 HT1.out
  clear hb2 HE1 hB1 s1 d0 HT1
  go_wp2_with (go_at_call 26; refine StopV.out ?_)
  refine ⟨Calls.mono (any_no _) ?_⟩
  rintro e W4 ⟨rfl, hb4⟩
  have hb3 : Below W2.heap.size W2 (W2.alloc (.cells #[.slice none 0 0, .int .i64 0] 32)) := (Below.refl _ _).alloc (Nat.le_refl _) _
  obtain ⟨W3, hW3⟩ : ∃ W3, W2.alloc (.cells #[.slice none 0 0, .int .i64 0] 32) = W3 := ⟨_, rfl⟩
  rw [hW3] at hb3 hb4
  have hB3 : Below w.heap.size w W3 := hB2.trans (hb3.mono hB2.size)
  have hB4 : Below w.heap.size w W4 := hB3.trans (hb4.mono hB3.size)
  have HE4 : Hid (DH W4 w.heap.size 0 0 0 false) := (HE2.out.on hb3).on hb4
  have HT4 : Hid (∃ cs, W4.heap[w.heap.size]? = some (.cells cs 124)) := Below.ty hb4 (Below.ty hb3 HT2.out)
  clear hW3 hb3 hb4 HE2 HT2 hB2 hB3
  go_wp2_with (go_at_call 105; refine StopV.out ?_)
  refine ⟨Calls.mono (cA.out _) ?_⟩
  rintro e W6 ⟨x0, x1, x2, x3, x4, x5, x6, x7, rfl, hb6⟩
  obtain ⟨W7, hW7⟩ : ∃ W7, W6.alloc (.cells #[.string x0, .int .u8 x1, .int .i64 x2, .int .i64 x3, .bool x4, .bool x5, .bool x6, .bool true] 140) = W7 := ⟨_, rfl⟩
  have hb7 : Below W6.heap.size W6 W7 := by rw [← hW7]; exact (Below.refl _ _).alloc (Nat.le_refl _) _
  have k7 : W7.cell? ⟨W6.heap.size, 7, none⟩ = some (.bool true) := by rw [← hW7]; simp
  obtain ⟨W8, hW8⟩ : ∃ W8, W7.alloc (.cells #[.int .i64 (R : Int), .int .i64 ((k : Int) + 8), .int .u64 0, .bool sb] 124) = W8 := ⟨_, rfl⟩
  have hb8 : Below W7.heap.size W7 W8 := by rw [← hW8]; exact (Below.refl _ _).alloc (Nat.le_refl _) _
  have k8 : W8.cell? ⟨W6.heap.size, 7, none⟩ = some (.bool true) := (hb8.cell (Rp.cell_lt k7)).trans k7
  have hB6 : Below w.heap.size w W6 := hB4.trans (hb6.mono hB4.size)
  have hB7 : Below w.heap.size w W7 := hB6.trans (hb7.mono hB6.size)
  have hB8 : Below w.heap.size w W8 := hB7.trans (hb8.mono hB7.size)
  have HE8 : Hid (DH W8 w.heap.size 0 0 0 false) := ((HE4.out.on hb6).on hb7).on hb8
  have HT8 : Hid (∃ cs, W8.heap[w.heap.size]? = some (.cells cs 124)) := Below.ty hb8 (Below.ty hb7 (Below.ty hb6 HT4.out))
  have HD8 : Hid (DR base rb (.slice (some ⟨b, off, none⟩) n cap) W8 M nv lv c0') := HD.out.on hB8
  clear hb6 hb7 hb8 hB4 hB6 hB7 HE4 HT4 k7
  go_wp2_with (go_at_call 61; refine StopV.out ?_)
  refine ⟨Calls.mono (bad_any base rb _ nv lv c0' (k : Int) 122 M _ HD8.out) ?_⟩
  rintro e W9 ⟨rfl, hbad, hb9, hk9⟩
  have HE9 : Hid (DH W9 w.heap.size 0 0 0 false) := by
    obtain ⟨cs, e⟩ := HT8.out
    exact HE8.out.keep (hk9.out _ cs 124 e (by decide) (by decide))
  have HT9 : Hid (∃ cs, W9.heap[w.heap.size]? = some (.cells cs 124)) := by
    obtain ⟨cs, e⟩ := HT8.out
    exact ⟨cs, (hk9.out _ cs 124 e (by decide) (by decide)).trans e⟩
  have hrl : rb < w.heap.size := Rp.cell_lt HD.out.c0
  have hbl : base ≤ w.heap.size := by have := HD.out.hb; omega
  have hB9 : Below base w W9 := (hB8.mono hbl).trans hb9.out
  have HK9 : Hid (Kq w W9) := (Kq.below hB8).trans hk9.out
  obtain ⟨f0, f1, f2, f3, ff⟩ := HE9.out
  obtain ⟨u0, u1, u2, u3, uf⟩ := DH.fill HE9.out 0 0 0 false
  rw [show ((0 : Nat) : Int) = 0 from rfl] at u0 u1 u2 u3
  have HZ := DBad.fill hbad.out HT9.out HE9.out (by omega) (.int .i64 0) (.int .i64 0) (.int .u64 0) (.bool false)
  have HZ2 : Hid _ := HZ
  clear HZ
  go_wp2
  refine bodyPost_ret (v := .agg #[.int .i64 0, .int .i64 0, .int .u64 0, .bool false]) (by simp only [results, Tryz.results65]; simp [go_sem, u0, u1, u2, u3]) rfl ⟨rfl, HZ2, ?_, ?_⟩
  · exact below_fill hB9 hbl _ _ _ _
  · exact (((HK9.out.new (Nat.le_refl _)).new (Nat.le_refl _)).new (Nat.le_refl _)).new (Nat.le_refl _)
end Go.Proofs.YtoikdpjjcnmgeaaGreatDoor
end
