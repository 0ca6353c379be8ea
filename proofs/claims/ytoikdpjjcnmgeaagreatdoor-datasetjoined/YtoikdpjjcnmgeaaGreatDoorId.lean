import Derived.Test.YtoikdpjjcnmgeaaGreatDoorPa
import Derived.Test.YtoikdpjjcnmgeaaGreatDoorNa
import Derived.Test.YtoikdpjjcnmgeaaGreatDoorCh
import Derived.Test.YtoikdpjjcnmgeaaGreatDoorEc
section
/-
  DERIVED. Is a list of nodes a data set? The program's answer.
-/
namespace Go.Proofs.YtoikdpjjcnmgeaaGreatDoor
open Go Go.Proofs Go.RowKit
open Wk (Nd NV)

/-- What goes wrong, and where. -/
def res (L : List Nd) : Nat × Bool := runL elemOk itemOk 0 [(0, 0)] L
/-- The program's error, the document's fault. -/
def PE (w : World) (v : Value) (r : Nat × Bool) : Prop := (r.2 = true ∧ v = .nilIface) ∨ (r.2 = false ∧ ∃ q, v = .iface 70 (.pointer (some ⟨q, 0, none⟩)) ∧ Rp.FaultAt w q (r.1 : Int) 5)
theorem PE.on {w w' : World} {v : Value} {r : Nat × Bool} (h : PE w v r) (hb : Below w.heap.size w w') : PE w' v r := by
  rcases h with h | ⟨h1, q, h2, h3⟩
  · exact .inl h
  · exact .inr ⟨h1, q, h2, h3.next hb⟩
theorem popL_mem : ∀ (st : List Lv) (y : Lv), y ∈ popL st → y ∈ st
  | [], y, h => h
  | x :: r, y, h => by
    rw [popL] at h
    split at h
    · exact List.mem_cons_of_mem _ (popL_mem r y h)
    · exact h
/-- Levels as they may be behind so many nodes. -/
structure LvOk (i : Nat) (st : List Lv) : Prop where
  len : st.length ≤ 10
  num : ∀ y ∈ st, -(i : Int) ≤ y.1 ∧ y.1 ≤ 9223372036854775807
theorem LvOk.step {i : Nat} {x : Lv} {r : List Lv} {a : Nd} (h : LvOk i (x :: r)) (hr : rightL elemOk itemOk a (x :: r) = true) (hn : a.n ≤ 9223372036854775807) : LvOk (i + 1) (stepL a (x :: r)) ∧ stepL a (x :: r) ≠ [] := by
  have hl := h.len
  have h0 : 0 ≤ a.n := by
    unfold rightL at hr
    split at hr
    · simp only [Bool.and_eq_true] at hr; exact item_n a hr.1
    · simp only [Bool.and_eq_true] at hr; exact (elem_n a hr.1).1
  have hlen : r.length ≤ 8 := by
    unfold rightL at hr
    simp only [List.length_cons] at hl hr
    split at hr
    · simp only [Bool.and_eq_true, decide_eq_true_eq] at hr
      omega
    · omega
  have hx := h.num x (by simp)
  have hp : (pushL a (x :: r)).length ≤ 10 ∧ pushL a (x :: r) ≠ [] ∧ ∀ y ∈ pushL a (x :: r), -((i + 1 : Nat) : Int) ≤ y.1 ∧ y.1 ≤ 9223372036854775807 := by
    have hrr : ∀ y ∈ r, -((i + 1 : Nat) : Int) ≤ y.1 ∧ y.1 ≤ 9223372036854775807 := fun y hy => by
      have := h.num y (by simp [hy])
      omega
    show (if (r.length + 1) % 2 = 0 ∨ a.v = 18 then (a.n, (0 : Int)) :: (x.1 - 1, a.t) :: r else (x.1 - 1, a.t) :: r).length ≤ 10 ∧ (if (r.length + 1) % 2 = 0 ∨ a.v = 18 then (a.n, (0 : Int)) :: (x.1 - 1, a.t) :: r else (x.1 - 1, a.t) :: r) ≠ [] ∧ ∀ y ∈ (if (r.length + 1) % 2 = 0 ∨ a.v = 18 then (a.n, (0 : Int)) :: (x.1 - 1, a.t) :: r else (x.1 - 1, a.t) :: r), _
    split
    · refine ⟨by simp; omega, by simp, fun y hy => ?_⟩
      rcases List.mem_cons.1 hy with rfl | hy
      · exact ⟨by simp only; omega, hn⟩
      · rcases List.mem_cons.1 hy with rfl | hy
        · simp only; omega
        · exact hrr y hy
    · refine ⟨by simp; omega, by simp, fun y hy => ?_⟩
      rcases List.mem_cons.1 hy with rfl | hy
      · simp only; omega
      · exact hrr y hy
  exact ⟨⟨Nat.le_trans (popL_len _) hp.1, fun y hy => hp.2.2 y (popL_mem _ y hy)⟩, popL_ne hp.2.1⟩
theorem Lvs.one (w : World) (base : Nat) (hb : base ≤ w.heap.size) : Lvs (w.alloc (.cells #[.int .i64 0, .int .u32 0] 95)) base (.slice (some ⟨w.heap.size, 0, none⟩) 1 1) [(0, 0)] :=
  ⟨rfl, .inr ⟨w.heap.size, 1, _, rfl, hb, World.alloc_heap_new _ _, Nat.le_refl _, by unfold maxLen; decide, rfl, rfl⟩⟩
/-- Between two nodes. -/
def FLI (w : World) (L : List Nd) (i : Nat) (v : Value) (wr : World) : Prop := ∃ (x : Lv) (r : List Lv), Lvs wr w.heap.size v (x :: r) ∧ LvOk i (x :: r) ∧ res L = runL elemOk itemOk i (x :: r) (L.drop i) ∧ Below w.heap.size w wr

set_option maxRecDepth 100000 in
set_option maxHeartbeats 4000000 in
theorem formed_any (w : World) (a : Option Addr) (n cap : Nat) (L : List Nd) (hV : NV w a n cap L) (hT : TagsOk L) :
    Calls Tryz.prog 23 #[.slice a n cap] w fun e w' => ∃ ve, e = .returned ve ∧ Hid (PE w' ve (res L)) ∧ Hid (Below w.heap.size w w') := by
  have HV : Hid (NV w a n cap L) := hV
  have HT : Hid (TagsOk L) := hT
  have HN : Hid (n = L.length) := hV.len
  have hsm := hV.small
  clear hV hT
  obtain ⟨W0, hW0⟩ : ∃ W0, w.alloc (.cells #[.int .i64 0, .int .u32 0] 95) = W0 := ⟨_, rfl⟩
  have HI0 : Hid (FLI w L 0 (.slice (some ⟨w.heap.size, 0, none⟩) 1 1) W0) := by
    refine ⟨(0, 0), [], hW0 ▸ Lvs.one w _ (Nat.le_refl _), ⟨by simp, fun y hy => by simp at hy; subst hy; simp⟩, rfl, hW0 ▸ (Below.refl _ _).alloc (Nat.le_refl _) _⟩
  go_enter Tryz.func23, Tryz.ntmps23
  go_wp2
  clear hW0
  go_loopw [3, 10] (fun x3 x10 wr => ∃ i : Nat, x10 = .int .i64 (i : Int) ∧ i ≤ n ∧ i ≤ 4096 ∧ Hid (FLI w L i x3 wr)) (fun _ x10 _ => n - (intOf x10).toNat)
  case atStart => exact ⟨0, rfl, by omega, by omega, HI0⟩
  case round =>
    obtain ⟨i, rfl, hin, hi4, HI⟩ := hrel
    obtain ⟨x, r, hl, hok, hres, hbw⟩ := HI.out
    obtain ⟨g, gc, rfl, hbg, hgc⟩ := hl.form
    have HL : Hid (Lvs wr w.heap.size (.slice (some ⟨g, 0, none⟩) (r.length + 1) gc) (x :: r)) := hl
    have HO : Hid (LvOk i (x :: r)) := hok
    have HRES : Hid (res L = runL elemOk itemOk i (x :: r) (L.drop i)) := hres
    have HB : Hid (Below w.heap.size w wr) := hbw
    clear hl hok hres hbw HI HI0
    by_cases hlt : i < n
    · have hltI : decide ((i : Int) < (n : Int)) = true := by simp; omega
      obtain ⟨b, off, hlen, rfl, m0, m1, m2, m3⟩ := NV.cells HV.out (j := i) hlt
      have hbl : b < w.heap.size := Tb.cell_lt m0
      replace m0 := (HB.out.cell (p := ⟨b, off + i * 4, none⟩) hbl).trans m0
      replace m1 := (HB.out.cell (p := ⟨b, off + i * 4 + 1, none⟩) hbl).trans m1
      replace m2 := (HB.out.cell (p := ⟨b, off + i * 4 + 2, none⟩) hbl).trans m2
      replace m3 := (HB.out.cell (p := ⟨b, off + i * 4 + 3, none⟩) hbl).trans m3
      have hnr := HV.out.num _ (List.getElem_mem hlen)
      have htg := HT.out _ (List.getElem_mem hlen)
      have HD : Hid (L.drop i = (L[i]'hlen) :: L.drop (i + 1)) := List.drop_eq_getElem_cons hlen
      generalize L[i]'hlen = q at m0 m1 m2 m3 hnr htg HD
      obtain ⟨t, v, z, s⟩ := q
      simp only at *
      obtain ⟨W1, hW1⟩ : ∃ W1, wr.alloc (.cells #[.int .u32 t, .int .i64 v, .int .i64 z, .string s] 54) = W1 := ⟨_, rfl⟩
      have hb1 : Below wr.heap.size wr W1 := by rw [← hW1]; exact (Below.refl _ _).alloc (Nat.le_refl _) _
      have HN1 : Hid (NC W1 wr.heap.size t v z s) := by rw [← hW1]; exact ⟨by simp, by simp, by simp, by simp⟩
      have HL1 : Hid (Lvs W1 w.heap.size (.slice (some ⟨g, 0, none⟩) (r.length + 1) gc) (x :: r)) := HL.out.on hb1
      have HB1 : Hid (Below w.heap.size w W1) := HB.out.trans (hb1.mono HB.out.size)
      obtain ⟨y0, y1, y2, y3⟩ := HN1.out
      by_cases hi40 : i = 4096
      · have HR : Hid (res L = (i, false)) := by
          show _ = _
          rw [HRES.out, HD.out, runL, if_pos (.inl hi40)]
        have b40 : ((i : Int) == 4096) = true := by rw [hi40]; rfl
        clear hi40 HRES
        go_wp2_with (first | (go_at_call 51; refine (Rp.refusal_any _ _ _).mono ?_; rintro e W2 ⟨q, rfl, hf, hb2⟩) | fail)
        go_ret
        exact ⟨_, rfl, .inr ⟨by rw [HR.out], q, rfl, by rw [HR.out]; exact hf⟩, HB1.out.trans (hb2.mono HB1.out.size)⟩
      · have b40 : ((i : Int) == 4096) = false := beq_eq_false_iff_ne.2 (by omega)
        have c11 : Calls Tryz.prog 50 #[.agg #[.int .u32 t, .int .i64 v, .int .i64 z, .string s], .slice (some ⟨g, 0, none⟩) (r.length + 1) gc] W1 fun e w' => e = .returned (.bool (rightL elemOk itemOk ⟨t, v, z, s⟩ (x :: r))) ∧ Below W1.heap.size W1 w' := by
          have hl10 := HO.out.len
          simp only [List.length_cons] at hl10
          by_cases he : (r.length + 1) % 2 = 0
          · have := isRight_item W1 ⟨t, v, z, s⟩ g r.length gc (by omega) he
            unfold rightL
            rw [List.length_cons, if_pos he]
            exact this
          · have := isRight_elem W1 ⟨t, v, z, s⟩ htg.1 htg.2 g r.length gc (by omega) (by omega) x.2 HL1.out.head.2
            unfold rightL
            rw [List.length_cons, if_neg he]
            exact this
        obtain ⟨ok, hok⟩ : ∃ ok, rightL elemOk itemOk ⟨t, v, z, s⟩ (x :: r) = ok := ⟨_, rfl⟩
        rw [hok] at c11
        have HOK : Hid (rightL elemOk itemOk ⟨t, v, z, s⟩ (x :: r) = ok) := hok
        clear hok
        obtain ⟨k, hk⟩ : ∃ k, r.length = k := ⟨_, rfl⟩
        have HK : Hid (r.length = k) := hk
        rw [hk] at c11 hgc ⊢
        clear hk
        cases ok with
        | false =>
          have HR : Hid (res L = (i, false)) := by
            show _ = _
            rw [HRES.out, HD.out, runL, if_pos (.inr HOK.out)]
          clear HRES
          go_wp2_with (first | (go_at_call 50; refine c11.mono ?_; rintro e W2 ⟨rfl, hb2⟩) | (go_at_call 51; refine (Rp.refusal_any _ _ _).mono ?_; rintro e W3 ⟨q, rfl, hf, hb3⟩))
          go_ret
          exact ⟨_, rfl, .inr ⟨by rw [HR.out], q, rfl, by rw [HR.out]; exact hf⟩, HB1.out.trans ((hb2.trans (hb3.mono hb2.size)).mono HB1.out.size)⟩
        | true =>
          have HST := HO.out.step HOK.out hnr.2
          have HR : Hid (res L = runL elemOk itemOk (i + 1) (stepL ⟨t, v, z, s⟩ (x :: r)) (L.drop (i + 1))) := by
            show _ = _
            rw [HRES.out, HD.out, runL, if_neg (by rintro (h | h); exact hi40 h; rw [HOK.out] at h; cases h)]
          have hx := HO.out.num x (by simp)
          have hl10 := HO.out.len
          simp only [List.length_cons] at hl10
          have HSTH : Hid _ := HST
          clear HRES HST
          go_wp2_with (go_at_call 50; refine StopF.out ?_)
          refine ⟨Calls.mono c11 ?_⟩
          rintro e W2 ⟨rfl, hb2⟩
          have HN2 : Hid (NC W2 wr.heap.size t v z s) := HN1.out.on hb2
          have HL2 : Hid (Lvs W2 w.heap.size (.slice (some ⟨g, 0, none⟩) (r.length + 1) gc) (x :: r)) := HL1.out.on hb2
          have HB2 : Hid (Below w.heap.size w W2) := HB1.out.trans (hb2.mono HB1.out.size)
          obtain ⟨q0, q1, q2, q3⟩ := HN2.out
          have c13 := step_any W2 w.heap.size (.slice (some ⟨g, 0, none⟩) (r.length + 1) gc) x r ⟨t, v, z, s⟩ HL2.out HB2.out.size (by rw [HK.out]; rw [HK.out] at hl10; omega) ⟨by omega, hx.2⟩
          rw [HK.out] at c13
          clear hb2 c11 y0 y1 y2 y3 hW1 m0 m1 m2 m3 hx hl10
          go_wp2_with (go_at_call 52; refine StopF.out ?_)
          refine ⟨Calls.mono c13 ?_⟩
          rintro e W3 ⟨v3, rfl, hl3, hb3⟩
          have HI3 : Hid (FLI w L (i + 1) v3 W3) := by
            obtain ⟨h1, h2⟩ := HSTH.out
            have h3 := HR.out
            have h4 := hl3.out
            cases hs : stepL ⟨t, v, z, s⟩ (x :: r) with
            | nil => exact absurd hs h2
            | cons x' r' =>
              rw [hs] at h1 h3 h4
              exact ⟨x', r', h4, h1, h3, HB2.out.trans hb3.out⟩
          clear c13 hl3 hb3 HSTH HR
          go_wp2
          exact ⟨⟨i + 1, by simp, by omega, by omega, HI3⟩, by simp [intOf]; omega⟩
    · have hltI : decide ((i : Int) < (n : Int)) = false := by simp; omega
      have hin2 : i = n := by omega
      have HR : Hid (res L = (i, decide (r = []))) := by
        show _ = _
        rw [HRES.out, List.drop_eq_nil_of_le (by rw [← HN.out]; omega), runL]
        cases r <;> simp
      clear HRES
      cases r with
      | nil =>
        have HR2 : Hid (res L = (i, true)) := by show _ = _; have := HR.out; simpa using this
        clear HR
        go_wp2
        go_ret
        exact ⟨_, rfl, .inl ⟨by rw [HR2.out], rfl⟩, HB⟩
      | cons x2 r2 =>
        have HR2 : Hid (res L = (n, false)) := by show _ = _; have := HR.out; rw [hin2] at this; simpa using this
        clear HR hin2
        simp only [List.length_cons] at *
        obtain ⟨k, hk⟩ : ∃ k, r2.length = k := ⟨_, rfl⟩
        rw [hk]
        clear hk
        go_wp2_with (first | (go_at_call 51; refine (Rp.refusal_any _ _ _).mono ?_; rintro e W2 ⟨q, rfl, hf, hb2⟩) | fail)
        go_ret
        exact ⟨_, rfl, .inr ⟨by rw [HR2.out], q, rfl, by rw [HR2.out]; exact hf⟩, HB.out.trans (hb2.mono HB.out.size)⟩
end Go.Proofs.YtoikdpjjcnmgeaaGreatDoor
end

section
/-
  DERIVED. How the document goes through a list of nodes: what is to be shown; its answer.
-/
namespace Go.Proofs.YtoikdpjjcnmgeaaGreatDoor
open Go Go.Proofs Go.RowKit
open Wk (Nd NV)

/-- What the reader of elements tells. -/
def SomeP (w : World) (L : List Nd) (i : Nat) (c : Int) (d : Nat) (e : Ending) (w' : World) : Prop := ∃ (j : Nat) (ok : Bool), e = .returned (.tuple #[.int .i64 (j : Int), .bool ok]) ∧ SomeQ elemOk itemOk L i c d j ok ∧ Below w.heap.size w w'
/-- What the reader of elements does at a depth. -/
def SomeC (d : Nat) : Prop := ∀ (w : World) (a : Option Addr) (n cap : Nat) (L : List Nd) (i : Nat) (c : Int), NV w a n cap L → TagsOk L → i ≤ n → i ≤ 4096 → -1 ≤ c → c ≤ 9223372036854775807 →
  Calls Tryz.prog 85 #[.slice a n cap, .int .i64 (i : Int), .int .i64 c, .int .i64 (d : Int)] w (SomeP w L i c d)

/-- The document's fault. -/
def RE (w : World) (v : Value) (r : Nat × Bool) : Prop := (r.2 = true ∧ v = .agg #[.slice none 0 0, .int .i64 0]) ∨ (r.2 = false ∧ ∃ g c, v = .agg #[.slice (some ⟨g, 0, none⟩) 1 c, .int .i64 5] ∧ w.cell? ⟨g, 0, none⟩ = some (.string { data := #[100, 105, 99, 116] }) ∧ w.cell? ⟨g, 1, none⟩ = some (.int .i64 (r.1 : Int)))
theorem RE.on {w w' : World} {v : Value} {r : Nat × Bool} (h : RE w v r) (hb : Below w.heap.size w w') : RE w' v r := by
  rcases h with h | ⟨h1, g, c, h2, h3, h4⟩
  · exact .inl h
  · exact .inr ⟨h1, g, c, h2, (hb.cell (Tb.cell_lt h3)).trans h3, (hb.cell (Tb.cell_lt h4)).trans h4⟩
theorem is_same {w : World} {ve vf : Value} {r : Nat × Bool} (h1 : PE w ve r) (h2 : RE w vf r) : Calls Tryz.prog 12 #[ve, vf] w fun e w' => e = .returned (.bool true) ∧ Below w.heap.size w w' := by
  rcases h1 with ⟨a1, rfl⟩ | ⟨a1, q, rfl, hf⟩ <;> rcases h2 with ⟨a2, rfl⟩ | ⟨a2, g, c, rfl, g0, g1⟩
  · exact Rp.is_nil w
  · rw [a1] at a2; cases a2
  · rw [a1] at a2; cases a2
  · exact Rp.is_one 5 (by decide) q g c (r.1 : Int) w hf.1 hf.2.1 hf.2.2 g0 g1

set_option maxRecDepth 100000 in
set_option maxHeartbeats 1000000 in
theorem rformed_any (hS : SomeC 0) (w : World) (a : Option Addr) (n cap : Nat) (L : List Nd) (hV : NV w a n cap L) (hT : TagsOk L) :
    Calls Tryz.prog 53 #[.slice a n cap] w fun e w' => ∃ vf, e = .returned vf ∧ Hid (RE w' vf (res L)) ∧ Hid (Below w.heap.size w w') := by
  obtain ⟨W1, hW1⟩ : ∃ W1, w.alloc (.cells #[.slice none 0 0, .int .i64 0] 32) = W1 := ⟨_, rfl⟩
  have hb1 : Below w.heap.size w W1 := by rw [← hW1]; exact (Below.refl _ _).alloc (Nat.le_refl _) _
  have hF1 : Tb.Fc W1 w.heap.size := by rw [← hW1]; exact ⟨by simp, by simp, fun i => by simp⟩
  have c16 : Calls Tryz.prog 85 #[.slice a n cap, .int .i64 0, .int .i64 (-1), .int .i64 0] W1 (SomeP W1 L 0 (-1) 0) := hS W1 a n cap L 0 (-1) (hV.on hb1) hT (by omega) (by omega) (by omega) (by omega)
  have HB1 : Hid (Below w.heap.size w W1) := hb1
  have HF1 : Hid (Tb.Fc W1 w.heap.size) := hF1
  clear hV hT hb1 hF1
  go_enter Tryz.func53, Tryz.ntmps53
  go_wp2_with (go_at_call 85; refine StopF.out ?_)
  refine ⟨Calls.mono c16 ?_⟩
  rintro e W2 ⟨j, ok, rfl, hq, hb2⟩
  have HR : Hid (res L = (j, ok)) := hq.whole
  have HF2 : Hid (Tb.Fc W2 w.heap.size) := HF1.out.next hb2
  have HB2 : Hid (Below w.heap.size w W2) := HB1.out.trans (hb2.mono HB1.out.size)
  clear c16 hq hb2 hW1
  cases ok with
  | false =>
    go_wp2_with (first | (go_at_call 36; refine (Rp.new0_any _ _ _).mono ?_; rintro e W3 ⟨rfl, hb3, k0, k1⟩; obtain ⟨g0, g1, gf⟩ := HF2.out.next hb3) | fail)
    obtain ⟨u0, u1⟩ := Tb.Fc.sets ⟨g0, g1, gf⟩ (.slice (some ⟨W2.heap.size + 1, 0, none⟩) 1 1) (.int .i64 5)
    have hne : w.heap.size < W2.heap.size := Tb.cell_lt HF2.out.c0
    have off : ∀ (W : World) (i j : Nat) (u z : Value), W.cell? ⟨W2.heap.size + 1, j, none⟩ = some z → (W.setCell ⟨w.heap.size, i, none⟩ u).cell? ⟨W2.heap.size + 1, j, none⟩ = some z := fun W i j u z hz => by
      rw [← hz]
      apply World.cell?_setCell_other
      simp
    refine bodyPost_ret (v := .agg #[.slice (some ⟨W2.heap.size + 1, 0, none⟩) 1 1, .int .i64 5]) (by simp only [results, Tryz.results53]; simp [go_sem, u0, u1]) rfl ⟨_, rfl, .inr ⟨by rw [HR.out], _, _, rfl, off _ _ _ _ _ (off _ _ _ _ _ k0), ?_⟩, ?_⟩
    · rw [HR.out]
      exact off _ _ _ _ _ (off _ _ _ _ _ k1.1)
    · exact ((HB2.out.trans (hb3.mono HB2.out.size)).setCell (p := ⟨w.heap.size, 0, none⟩) (Nat.le_refl _) _).setCell (p := ⟨w.heap.size, 1, none⟩) (Nat.le_refl _) _
  | true =>
    go_wp2_with (first | (go_at_call 38; refine (Tb.none_any _).mono ?_; rintro e W3 ⟨rfl, hb3⟩; obtain ⟨g0, g1, gf⟩ := HF2.out.next hb3) | fail)
    obtain ⟨u0, u1⟩ := Tb.Fc.sets ⟨g0, g1, gf⟩ (.slice none 0 0) (.int .i64 0)
    refine bodyPost_ret (v := .agg #[.slice none 0 0, .int .i64 0]) (by simp only [results, Tryz.results53]; simp [go_sem, u0, u1]) rfl ⟨_, rfl, .inl ⟨by rw [HR.out], rfl⟩, ?_⟩
    exact ((HB2.out.trans (hb3.mono HB2.out.size)).setCell (p := ⟨w.heap.size, 0, none⟩) (Nat.le_refl _) _).setCell (p := ⟨w.heap.size, 1, none⟩) (Nat.le_refl _) _
end Go.Proofs.YtoikdpjjcnmgeaaGreatDoor
end

section
/-
  DERIVED. A list that is no data set, refused by the layer above, by both.
-/
namespace Go.Proofs.YtoikdpjjcnmgeaaGreatDoor
open Go Go.Proofs Go.RowKit
open Wk (Nd NV)

/-- What the library's variable holds. -/
def EG (w : World) : Prop := w.cell? ⟨0, 0, none⟩ = some (.iface 202 (.agg #[.pointer (some ⟨9, 27, none⟩)]))
theorem EG.on {w w' : World} (h : EG w) (hb : Below w.heap.size w w') : EG w' := (hb.cell (Rp.cell_lt h)).trans h
/-- The layer's error, or none. -/
def PD (w : World) (v : Value) (r : Nat × Bool) : Prop := (r.2 = true ∧ v = .nilIface) ∨ (r.2 = false ∧ Chain w [(dsB, (r.1 : Int)), (dcB, (r.1 : Int))] 5 v)
theorem PD.on {w w' : World} {v : Value} {r : Nat × Bool} (h : PD w v r) (hb : Below w.heap.size w w') : PD w' v r := h.imp id (fun h => ⟨h.1, h.2.on hb⟩)

set_option maxRecDepth 100000 in
theorem refuse_any (w : World) (a : Int) (p : Nat) : Calls Tryz.prog 31 #[.int .i64 a, .iface 70 (.pointer (some ⟨p, 0, none⟩))] w fun e w' => ∃ q, e = .returned (.iface 70 (.pointer (some ⟨q, 0, none⟩))) ∧ w'.cell? ⟨q, 0, none⟩ = some (.string dsB) ∧ w'.cell? ⟨q, 1, none⟩ = some (.int .i64 a) ∧ w'.cell? ⟨q, 2, none⟩ = some (.iface 70 (.pointer (some ⟨p, 0, none⟩))) ∧ Below w.heap.size w w' := by
  go_enter Tryz.func31, Tryz.ntmps31
  go_wp2
  go_ret
  exact ⟨w.heap.size, rfl, by simp [dsB], by simp, by simp, (Below.refl _ _).alloc (Nat.le_refl _) _⟩

set_option maxRecDepth 100000 in
set_option maxHeartbeats 2000000 in
theorem dformed_any (w : World) (a : Option Addr) (n cap : Nat) (L : List Nd) (hV : NV w a n cap L) (hT : TagsOk L) (hE : EG w) :
    Calls Tryz.prog 45 #[.slice a n cap] w fun e w' => ∃ ve, e = .returned ve ∧ Hid (PD w' ve (res L)) ∧ Hid (Below w.heap.size w w') := by
  have c29 := formed_any w a n cap L hV hT
  have HE : Hid (EG w) := hE
  clear hV hT hE
  go_enter Tryz.func45, Tryz.ntmps45
  go_wp2_with (go_at_call 23; refine StopF.out ?_)
  refine ⟨Calls.mono c29 ?_⟩
  rintro e W2 ⟨ve, rfl, hpe, hb2⟩
  have HB2 : Hid (Below w.heap.size w W2) := hb2
  have HE2 : Hid (EG W2) := HE.out.on hb2.out
  rcases hpe.out with ⟨hr, rfl⟩ | ⟨hr, q, rfl, hf⟩
  · have HR : Hid ((res L).2 = true) := hr
    clear hpe hb2 c29 hr
    go_wp2_with (first | (go_at_call 74; refine (as_nil _ _).mono ?_; rintro e W3 ⟨rfl, rfl⟩) | fail)
    go_ret
    exact ⟨_, rfl, .inl ⟨HR.out, rfl⟩, HB2.out.alloc HB2.out.size _⟩
  · have HR : Hid ((res L).2 = false) := hr
    have HF : Hid (Rp.FaultAt W2 q ((res L).1 : Int) 5) := hf
    clear hpe hb2 c29 hr hf
    obtain ⟨W3, hW3⟩ : ∃ W3, W2.alloc (.cells #[.pointer none] 70) = W3 := ⟨_, rfl⟩
    have hb3 : Below W2.heap.size W2 W3 := by rw [← hW3]; exact (Below.refl _ _).alloc (Nat.le_refl _) _
    have t0 : W3.cell? ⟨W2.heap.size, 0, none⟩ = some (.pointer none) := by rw [← hW3]; simp
    have tf : W3.frozen? ⟨W2.heap.size, 0, none⟩ = false := by rw [← hW3]; simp
    have c30 := as_hit ⟨q, 0, none⟩ ⟨W2.heap.size, 0, none⟩ (.pointer none) W3 (HE2.out.on hb3) t0 tf
    have HB3 : Hid (Below w.heap.size w W3) := HB2.out.trans (hb3.mono HB2.out.size)
    have HF3 : Hid (Rp.FaultAt W3 q ((res L).1 : Int) 5) := HF.out.next hb3
    clear hb3
    go_wp2_with (go_at_call 74; refine StopF.out ?_)
    refine ⟨Calls.mono c30 ?_⟩
    rintro e W4 ⟨rfl, hW4⟩
    obtain ⟨V, hV⟩ : ∃ V, (((W3.alloc (.cells #[.pointer (some ⟨W2.heap.size, 0, none⟩)] 136)).alloc (.cells #[.pointer (some ⟨9, 136, none⟩), .pointer (some ⟨W3.heap.size, 0, none⟩), .int .u64 150] 175)).alloc (.cells #[.pointer (some ⟨9, 136, none⟩), .pointer (some ⟨W3.heap.size, 0, none⟩), .int .u64 150] 175)).alloc (.cells #[.pointer (some ⟨q, 0, none⟩)] 70) = V := ⟨_, rfl⟩
    rw [hV] at hW4
    have hbV : Below W3.heap.size W3 V := by rw [← hV]; exact ((((Below.refl _ _).alloc (Nat.le_refl _) _).alloc (by simp) _).alloc (by simp; omega) _).alloc (by simp; omega) _
    have hlt3 : W2.heap.size < W3.heap.size := Rp.cell_lt t0
    have tV : V.cell? ⟨W2.heap.size, 0, none⟩ = some (.pointer none) := (hbV.cell (p := ⟨W2.heap.size, 0, none⟩) hlt3).trans t0
    have HFV : Hid (Rp.FaultAt V q ((res L).1 : Int) 5) := HF3.out.next hbV
    have HBV : Hid (Below w.heap.size w V) := HB3.out.trans (hbV.mono HB3.out.size)
    clear hV hW3 c30 hbV t0 tf
    subst hW4
    have hqV : q < W2.heap.size := Rp.cell_lt HF.out.1
    have k0 : (V.setCell ⟨W2.heap.size, 0, none⟩ (.pointer (some ⟨q, 0, none⟩))).cell? ⟨W2.heap.size, 0, none⟩ = some (.pointer (some ⟨q, 0, none⟩)) := Rp.cell_set_eq tV
    have off : ∀ i, (V.setCell ⟨W2.heap.size, 0, none⟩ (.pointer (some ⟨q, 0, none⟩))).cell? ⟨q, i, none⟩ = V.cell? ⟨q, i, none⟩ := fun i => Rp.cell_set_off (by omega)
    have k1 : (V.setCell ⟨W2.heap.size, 0, none⟩ (.pointer (some ⟨q, 0, none⟩))).cell? ⟨q, 1, none⟩ = some (.int .i64 ((res L).1 : Int)) := (off 1).trans HFV.out.2.1
    have HF5 : Hid (Rp.FaultAt (V.setCell ⟨W2.heap.size, 0, none⟩ (.pointer (some ⟨q, 0, none⟩))) q ((res L).1 : Int) 5) := ⟨(off 0).trans HFV.out.1, (off 1).trans HFV.out.2.1, (off 2).trans HFV.out.2.2⟩
    have HB5 : Hid (Below w.heap.size w (V.setCell ⟨W2.heap.size, 0, none⟩ (.pointer (some ⟨q, 0, none⟩)))) := HBV.out.setCell (p := ⟨W2.heap.size, 0, none⟩) HB2.out.size _
    generalize V.setCell ⟨W2.heap.size, 0, none⟩ (.pointer (some ⟨q, 0, none⟩)) = U at k0 k1 HF5 HB5 ⊢
    clear off tV
    go_wp2_with (first | (go_at_call 31; refine (refuse_any _ _ _).mono ?_; rintro e W6 ⟨q6, rfl, d0, d1, d2, hb6⟩) | fail)
    go_ret
    refine ⟨_, rfl, .inr ⟨HR.out, q6, _, rfl, d0, d1, d2, q, _, rfl, ?_, ?_, ?_, rfl⟩, HB5.out.trans (hb6.mono HB5.out.size)⟩
    · exact (HF5.out.next hb6).1
    · exact (HF5.out.next hb6).2.1
    · exact (HF5.out.next hb6).2.2
end Go.Proofs.YtoikdpjjcnmgeaaGreatDoor
end
