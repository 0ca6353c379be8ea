import Derived.Test.YtmhjjpdfjilobaaDoorTd
import Derived.Test.YtmhjjpdfjilobaaDoorX
/-
  DERIVED. A name in Latin 1, there and back, and one that ASCII can't say.
-/
namespace Go.Proofs.YtmhjjpdfjilobaaDoor
open Go Go.Proofs Go.RowKit

theorem KB.to_below {R : List Row} {base n0 : Nat} {w w' : World} (h : KB R base w w') (hb : n0 ≤ base) (hr : ∀ r ∈ R, n0 ≤ r.2.2 + 1) : Below n0 w w' :=
  ⟨h.os, h.tape, h.output, h.size, fun j hj => h.block j (by omega) (fun r hm => by have := hr r hm; omega)⟩

theorem conv_row {w : World} {g : Nat} {s : ByteArray} {cap : Nat} (h : ∀ k (hk : k < s.size), w.cell? ⟨g, k, none⟩ = some (.int .u8 ((s[k]'hk).toNat : Int))) : (convert 43 9 (.slice (some ⟨g, 0, none⟩) s.size cap)).run Tryd.prog w = .ok (.string s) w := by
  have := run_convert_bytes_back (P := Tryd.prog) w 43 9 5 ⟨g, 0, none⟩ cap s.data.toList Tryd.underlying43 Tryd.underlying5 Tryd.underlying9 (fun j hj => ?_)
  · simpa using this
  · have hj' : j < s.size := by simpa using hj
    have hadd : (⟨g, 0, none⟩ : Addr).add j = ⟨g, j, none⟩ := by unfold Addr.add; split <;> simp_all
    rw [hadd, h j hj']
    rfl

/-- A set of one repertoire. -/
theorem one_of {w : World} {H : Nat} {p er : Value} {k : Nat} {t : ByteArray} (h : NewAt w H p er (.inr ([(k, t)], false))) (hk : k < 7) : ∃ q u a, p = .pointer (some ⟨q, 0, none⟩) ∧ er = .nilIface ∧ H ≤ q ∧ SetIn w q u [a] false ∧ w.cell? ⟨q, 1, none⟩ = some (.bool false) ∧ a.1 = k ∧ q < a.2.2 := by
  obtain ⟨q, u, R, rfl, rfl, hq, hs, hn⟩ := h
  obtain ⟨a, rfl⟩ : ∃ a, R = [a] := by
    match R, hn with
    | [a], _ => exact ⟨a, rfl⟩
    | [], hn => simp [namesOf] at hn
    | _ :: _ :: _, hn => simp [namesOf] at hn
  have ha : a.1 = k := by simp [namesOf] at hn; exact hn.1
  exact ⟨q, u, a, rfl, rfl, hq, hs.ask (by simp; omega) (by simp [namesOf]) (.inl rfl), hs.c1, ha, (hs.fresh a (by simp)).2⟩

def latin : ByteArray := ⟨#[73, 83, 79, 95, 73, 82, 32, 49, 48, 48]⟩
def mua : ByteArray := ⟨#[77, 195, 188, 94, 65]⟩
theorem new_latin : newS [latin] = .inr ([(1, latin)], false) := by kernel_rfl
theorem new_none : newS [] = .inr ([(0, sp 0)], false) := by kernel_rfl
theorem dec_latin (a : Row) (h : a.1 = 1) : dcS false a [] 2 ⟨#[77, 252, 94, 65]⟩ = .ok [77, 195, 188, 94, 65] := by
  obtain ⟨k, t, B⟩ := a
  simp only at h
  subst h
  kernel_rfl
theorem enc_latin (a : Row) (h : a.1 = 1) : enS P1 a [] 2 mua = .ok [77, 252, 94, 65] := by
  obtain ⟨k, t, B⟩ := a
  simp only at h
  subst h
  kernel_rfl
theorem enc_ascii (a : Row) (h : a.1 = 0) : enS P1 a [] 2 mua = .error (1, 88) := by
  obtain ⟨k, t, B⟩ := a
  simp only at h
  subst h
  kernel_rfl

set_option maxRecDepth 100000 in
set_option maxHeartbeats 4000000 in
theorem known_any (w : World) (hS : Spell w) (hT : Tabs w) (hK : Kinds w) (hU : ∀ w', Below w.heap.size w w' → Lib.Utf8Tabs 6 7 w') :
    Calls Tryd.prog 18 #[] w fun e w' => e = .returned (.bool true) ∧ Below w.heap.size w w' := by
  obtain ⟨W1, hW1⟩ : ∃ W1, w.alloc (.cells #[.string ⟨#[73, 83, 79, 95, 73, 82, 32, 49, 48, 48]⟩] 9) = W1 := ⟨_, rfl⟩
  have hb1 : Below w.heap.size w W1 := hW1 ▸ (Below.refl _ _).alloc (Nat.le_refl _) _
  have hts : TS W1 (.slice (some ⟨w.heap.size, 0, none⟩) 1 1) [latin] := by
    refine ⟨some ⟨w.heap.size, 0, none⟩, 1, rfl, fun _ => ⟨w.heap.size, 0, rfl, fun k s hk => ?_⟩⟩
    match k, hk with
    | 0, hk => simp at hk; subst hk; rw [← hW1]; simp [latin]
  have hsm : ∀ s ∈ [latin], s.size ≤ 140737488351232 := by intro s hs; simp at hs; subst hs; decide
  have c13 := newAll W1 _ [latin] hts hsm (hS.on hb1)
  rw [new_latin] at c13
  have HE : Hid (Spell w ∧ Tabs w ∧ Kinds w ∧ ∀ w', Below w.heap.size w w' → Lib.Utf8Tabs 6 7 w') := ⟨hS, hT, hK, hU⟩
  have HB1 : Hid _ := hb1
  have h5 : 5 < w.heap.size := cell_lt (hT.p2 0 (by decide))
  clear hts hsm hS hT hK hU hb1
  go_enter Tryd.func18, Tryd.ntmps18
  go_wp2_with (go_at_call 13; refine Stop.mk ?_)
  refine Stop.out (c13.mono ?_)
  rintro e W2 ⟨p, er, rfl, hnew, hb2⟩
  obtain ⟨q, u, a, rfl, rfl, hq, hset, hx, ha1, hqa⟩ := one_of hnew (by decide)
  have hb02 : Below w.heap.size w W2 := HB1.out.trans (hb2.mono HB1.out.size)
  have hwq : w.heap.size ≤ q := Nat.le_trans HB1.out.size hq
  obtain ⟨W3, hW3⟩ : ∃ W3, W2.alloc (.cells #[.int .u8 77, .int .u8 252, .int .u8 94, .int .u8 65] 5) = W3 := ⟨_, rfl⟩
  have hb3 : Below W2.heap.size W2 W3 := hW3 ▸ (Below.refl _ _).alloc (Nat.le_refl _) _
  have hb03 : Below w.heap.size w W3 := hb02.trans (hb3.mono hb02.size)
  have hcell : ∀ k (hk : k < (⟨#[77, 252, 94, 65]⟩ : ByteArray).size), W3.cell? ⟨W2.heap.size, k, none⟩ = some (.int .u8 (((⟨#[77, 252, 94, 65]⟩ : ByteArray)[k]'hk).toNat : Int)) := fun k hk => by
    have hk4 : k < 4 := hk
    rw [← hW3]
    rcases (show k = 0 ∨ k = 1 ∨ k = 2 ∨ k = 3 by omega) with rfl | rfl | rfl | rfl <;> simp <;> rfl
  have c20 := decode20_any W3 q u a [] false 2 (some ⟨W2.heap.size, 0, none⟩) 4 ⟨#[77, 252, 94, 65]⟩ (hset.on hb3) ((hb3.cell (p := ⟨q, 1, none⟩) (cell_lt hx)).trans hx) (by simp) (by simp; omega) (HE.out.1.on hb03) (HE.out.2.1.on hb03) (fun w' hw => HE.out.2.2.2 w' (hb03.trans (hw.mono hb03.size))) (HE.out.2.2.1.on hb03)
    (fun w' hw => conv_row (fun k hk => (hw.cell (p := ⟨W2.heap.size, k, none⟩) (cell_lt (hcell k hk))).trans (hcell k hk)))
  rw [dec_latin a ha1] at c20
  have HS3 : Hid (SetIn W3 q u [a] false) := hset.on hb3
  have HB3 : Hid (Below w.heap.size w W3) := hb03
  clear c13 hnew hset hx hb2 hb02 hb3 hb03 hcell
  go_wp2_with (go_at_call 20; refine Stop.mk ?_)
  refine Stop.out (c20.mono ?_)
  rintro e W4 ⟨hb4, rfl⟩
  have HB4 : Hid (Below w.heap.size w W4) := HB3.out.trans (hb4.mono HB3.out.size)
  have HS4 : Hid (SetIn W4 q u [a] false) := HS3.out.on hb4
  have c21 := encode_any W4 q u a [] false 2 mua P1 HS4.out (by simp) (by simp; omega) (by omega) (HE.out.2.1.on HB4.out) (HE.out.2.2.1.on HB4.out) (put_one q u a false (by omega) (by omega) (by omega))
  rw [enc_latin a ha1] at c21
  have ht : bsZ [77, 195, 188, 94, 65] = mua := by kernel_rfl
  rw [ht]
  unfold mua at *
  clear c20 hb4 ht hW3
  go_wp2_with (go_at_call 21; refine Stop.mk ?_)
  refine Stop.out (c21.mono ?_)
  rintro e W5 ⟨hk5, hs5, v', rfl, hown5, -⟩
  have hb5 : Below w.heap.size w W5 := HB4.out.trans (hk5.to_below HB4.out.size (by simp; omega))
  obtain ⟨gv, cv, rfl, hgv, -⟩ := hown5.form (by simp)
  have hc1 : W5.cell? ⟨gv, 1, none⟩ = some (.int .u8 252) := by rw [hown5.cellAt 1 (by simp)]; rfl
  have HB5 : Hid (Below w.heap.size w W5) := hb5
  have c13 := newAll W5 (.slice none 0 0) [] ⟨none, 0, rfl, fun h => by simp at h⟩ (fun s hs => by simp at hs) (HE.out.1.on hb5)
  rw [new_none] at c13
  clear c21 hk5 hs5 hown5 hb5
  go_wp2_with (go_at_call 13; refine Stop.mk ?_)
  refine Stop.out (c13.mono ?_)
  rintro e W6 ⟨p6, er6, rfl, hnew6, hb6⟩
  obtain ⟨q6, u6, a6, rfl, rfl, hq6, hset6, -, ha6, hqa6⟩ := one_of hnew6 (by decide)
  have HB6 : Hid (Below w.heap.size w W6) := HB5.out.trans (hb6.mono HB5.out.size)
  have hwq6 : w.heap.size ≤ q6 := Nat.le_trans HB5.out.size hq6
  have c21 := encode_any W6 q6 u6 a6 [] false 2 mua P1 hset6 (by simp) (by simp; omega) (by omega) (HE.out.2.1.on HB6.out) (HE.out.2.2.1.on HB6.out) (put_one q6 u6 a6 false (by omega) (by omega) (by omega))
  rw [enc_ascii a6 ha6] at c21
  unfold mua at *
  clear c13 hnew6 hset6 hb6 hc1
  go_wp2_with (go_at_call 21; refine Stop.mk ?_)
  refine Stop.out (c21.mono ?_)
  rintro e W7 ⟨hk7, hs7, er, rfl, gg, rfl, hf⟩
  have HB7 : Hid (Below w.heap.size w W7) := HB6.out.trans (hk7.to_below HB6.out.size (by simp; omega))
  clear c21 hk7 hs7 hf
  go_wp2
  go_ret
  exact ⟨by simp, HB7.out⟩
end Go.Proofs.YtmhjjpdfjilobaaDoor
