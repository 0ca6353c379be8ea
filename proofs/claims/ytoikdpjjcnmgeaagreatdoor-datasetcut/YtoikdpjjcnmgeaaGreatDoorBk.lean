import Derived.Test.YtoikdpjjcnmgeaaGreatDoorPa
import Derived.Test.YtoikdpjjcnmgeaaGreatDoorNa
import Derived.Test.YtoikdpjjcnmgeaaGreatDoorEc
import Derived.Test.YtoikdpjjcnmgeaaGreatDoorLa
import Derived.WideMake
import Derived.Room.AppendFits
import Derived.Lib.QuietBelow
import Derived.Test.YtoikdpjjcnmgeaaGreatDoorBa
import Derived.Test.YtoikdpjjcnmgeaaGreatDoorBj
section
/-
  DERIVED. Is a list of nodes a data set? The program's answer.
-/
namespace Go.Proofs.YtoikdpjjcnmgeaaGreatDoor
open Go Go.Proofs Go.RowKit
open Wk (Nd NV)

/-- What goes wrong, and where. -/
def res (L : List Nd) : Nat × Bool := runL elemOk itemOk 0 [(0, 0)] L
/-- The program's error, the document's fault. -/
def PE (w : World) (v : Value) (r : Nat × Bool) : Prop := (r.2 = true ∧ v = .nilIface) ∨ (r.2 = false ∧ ∃ q, v = .iface 70 (.pointer (some ⟨q, 0, none⟩)) ∧ Rp.FaultAt w q (r.1 : Int) 5)
theorem PE.on {w w' : World} {v : Value} {r : Nat × Bool} (h : PE w v r) (hb : Below w.heap.size w w') : PE w' v r := by
  rcases h with h | ⟨h1, q, h2, h3⟩
  · exact .inl h
  · exact .inr ⟨h1, q, h2, h3.next hb⟩
theorem popL_mem : ∀ (st : List Lv) (y : Lv), y ∈ popL st → y ∈ st
  | [], y, h => h
  | x :: r, y, h => by
    rw [popL] at h
    split at h
    · exact List.mem_cons_of_mem _ (popL_mem r y h)
    · exact h
/-- Levels as they may be behind so many nodes. -/
structure LvOk (i : Nat) (st : List Lv) : Prop where
  len : st.length ≤ 10
  num : ∀ y ∈ st, -(i : Int) ≤ y.1 ∧ y.1 ≤ 9223372036854775807
theorem LvOk.step {i : Nat} {x : Lv} {r : List Lv} {a : Nd} (h : LvOk i (x :: r)) (hr : rightL elemOk itemOk a (x :: r) = true) (hn : a.n ≤ 9223372036854775807) : LvOk (i + 1) (stepL a (x :: r)) ∧ stepL a (x :: r) ≠ [] := by
  have hl := h.len
  have h0 : 0 ≤ a.n := by
    unfold rightL at hr
    split at hr
    · simp only [Bool.and_eq_true] at hr; exact item_n a hr.1
    · simp only [Bool.and_eq_true] at hr; exact (elem_n a hr.1).1
  have hlen : r.length ≤ 8 := by
    unfold rightL at hr
    simp only [List.length_cons] at hl hr
    split at hr
    · simp only [Bool.and_eq_true, decide_eq_true_eq] at hr
      omega
    · omega
  have hx := h.num x (by simp)
  have hp : (pushL a (x :: r)).length ≤ 10 ∧ pushL a (x :: r) ≠ [] ∧ ∀ y ∈ pushL a (x :: r), -((i + 1 : Nat) : Int) ≤ y.1 ∧ y.1 ≤ 9223372036854775807 := by
    have hrr : ∀ y ∈ r, -((i + 1 : Nat) : Int) ≤ y.1 ∧ y.1 ≤ 9223372036854775807 := fun y hy => by
      have := h.num y (by simp [hy])
      omega
    show (if (r.length + 1) % 2 = 0 ∨ a.v = 18 then (a.n, (0 : Int)) :: (x.1 - 1, a.t) :: r else (x.1 - 1, a.t) :: r).length ≤ 10 ∧ (if (r.length + 1) % 2 = 0 ∨ a.v = 18 then (a.n, (0 : Int)) :: (x.1 - 1, a.t) :: r else (x.1 - 1, a.t) :: r) ≠ [] ∧ ∀ y ∈ (if (r.length + 1) % 2 = 0 ∨ a.v = 18 then (a.n, (0 : Int)) :: (x.1 - 1, a.t) :: r else (x.1 - 1, a.t) :: r), _
    split
    · refine ⟨by simp; omega, by simp, fun y hy => ?_⟩
      rcases List.mem_cons.1 hy with rfl | hy
      · exact ⟨by simp only; omega, hn⟩
      · rcases List.mem_cons.1 hy with rfl | hy
        · simp only; omega
        · exact hrr y hy
    · refine ⟨by simp; omega, by simp, fun y hy => ?_⟩
      rcases List.mem_cons.1 hy with rfl | hy
      · simp only; omega
      · exact hrr y hy
  exact ⟨⟨Nat.le_trans (popL_len _) hp.1, fun y hy => hp.2.2 y (popL_mem _ y hy)⟩, popL_ne hp.2.1⟩
theorem Lvs.one (w : World) (base : Nat) (hb : base ≤ w.heap.size) : Lvs (w.alloc (.cells #[.int .i64 0, .int .u32 0] 95)) base (.slice (some ⟨w.heap.size, 0, none⟩) 1 1) [(0, 0)] :=
  ⟨rfl, .inr ⟨w.heap.size, 1, _, rfl, hb, World.alloc_heap_new _ _, Nat.le_refl _, by unfold maxLen; decide, rfl, rfl⟩⟩
/-- Between two nodes. -/
def FLI (w : World) (L : List Nd) (i : Nat) (v : Value) (wr : World) : Prop := ∃ (x : Lv) (r : List Lv), Lvs wr w.heap.size v (x :: r) ∧ LvOk i (x :: r) ∧ res L = runL elemOk itemOk i (x :: r) (L.drop i) ∧ Below w.heap.size w wr

set_option maxRecDepth 100000 in
set_option maxHeartbeats 4000000 in
theorem formed_any (w : World) (a : Option Addr) (n cap : Nat) (L : List Nd) (hV : NV w a n cap L) (hT : TagsOk L) :
    Calls Tryz.prog 23 #[.slice a n cap] w fun e w' => ∃ ve, e = .returned ve ∧ Hid (PE w' ve (res L)) ∧ Hid (Below w.heap.size w w') := by
  have HV : Hid (NV w a n cap L) := hV
  have HT : Hid (TagsOk L) := hT
  have HN : Hid (n = L.length) := hV.len
  have hsm := hV.small
  clear hV hT
  obtain ⟨W0, hW0⟩ : ∃ W0, w.alloc (.cells #[.int .i64 0, .int .u32 0] 95) = W0 := ⟨_, rfl⟩
  have HI0 : Hid (FLI w L 0 (.slice (some ⟨w.heap.size, 0, none⟩) 1 1) W0) := by
    refine ⟨(0, 0), [], hW0 ▸ Lvs.one w _ (Nat.le_refl _), ⟨by simp, fun y hy => by simp at hy; subst hy; simp⟩, rfl, hW0 ▸ (Below.refl _ _).alloc (Nat.le_refl _) _⟩
  go_enter Tryz.func23, Tryz.ntmps23
  go_wp2
  clear hW0
  go_loopw [3, 10] (fun x3 x10 wr => ∃ i : Nat, x10 = .int .i64 (i : Int) ∧ i ≤ n ∧ i ≤ 4096 ∧ Hid (FLI w L i x3 wr)) (fun _ x10 _ => n - (intOf x10).toNat)
  case atStart => exact ⟨0, rfl, by omega, by omega, HI0⟩
  case round =>
    obtain ⟨i, rfl, hin, hi4, HI⟩ := hrel
    obtain ⟨x, r, hl, hok, hres, hbw⟩ := HI.out
    obtain ⟨g, gc, rfl, hbg, hgc⟩ := hl.form
    have HL : Hid (Lvs wr w.heap.size (.slice (some ⟨g, 0, none⟩) (r.length + 1) gc) (x :: r)) := hl
    have HO : Hid (LvOk i (x :: r)) := hok
    have HRES : Hid (res L = runL elemOk itemOk i (x :: r) (L.drop i)) := hres
    have HB : Hid (Below w.heap.size w wr) := hbw
    clear hl hok hres hbw HI HI0
    by_cases hlt : i < n
    · have hltI : decide ((i : Int) < (n : Int)) = true := by simp; omega
      obtain ⟨b, off, hlen, rfl, m0, m1, m2, m3⟩ := NV.cells HV.out (j := i) hlt
      have hbl : b < w.heap.size := Tb.cell_lt m0
      replace m0 := (HB.out.cell (p := ⟨b, off + i * 4, none⟩) hbl).trans m0
      replace m1 := (HB.out.cell (p := ⟨b, off + i * 4 + 1, none⟩) hbl).trans m1
      replace m2 := (HB.out.cell (p := ⟨b, off + i * 4 + 2, none⟩) hbl).trans m2
      replace m3 := (HB.out.cell (p := ⟨b, off + i * 4 + 3, none⟩) hbl).trans m3
      have hnr := HV.out.num _ (List.getElem_mem hlen)
      have htg := HT.out _ (List.getElem_mem hlen)
      have HD : Hid (L.drop i = (L[i]'hlen) :: L.drop (i + 1)) := List.drop_eq_getElem_cons hlen
      generalize L[i]'hlen = q at m0 m1 m2 m3 hnr htg HD
      obtain ⟨t, v, z, s⟩ := q
      simp only at *
      obtain ⟨W1, hW1⟩ : ∃ W1, wr.alloc (.cells #[.int .u32 t, .int .i64 v, .int .i64 z, .string s] 54) = W1 := ⟨_, rfl⟩
      have hb1 : Below wr.heap.size wr W1 := by rw [← hW1]; exact (Below.refl _ _).alloc (Nat.le_refl _) _
      have HN1 : Hid (NC W1 wr.heap.size t v z s) := by rw [← hW1]; exact ⟨by simp, by simp, by simp, by simp⟩
      have HL1 : Hid (Lvs W1 w.heap.size (.slice (some ⟨g, 0, none⟩) (r.length + 1) gc) (x :: r)) := HL.out.on hb1
      have HB1 : Hid (Below w.heap.size w W1) := HB.out.trans (hb1.mono HB.out.size)
      obtain ⟨y0, y1, y2, y3⟩ := HN1.out
      by_cases hi40 : i = 4096
      · have HR : Hid (res L = (i, false)) := by
          show _ = _
          rw [HRES.out, HD.out, runL, if_pos (.inl hi40)]
        have b40 : ((i : Int) == 4096) = true := by rw [hi40]; rfl
        clear hi40 HRES
        go_wp2_with (first | (go_at_call 51; refine (Rp.refusal_any _ _ _).mono ?_; rintro e W2 ⟨q, rfl, hf, hb2⟩) | fail)
        go_ret
        exact ⟨_, rfl, .inr ⟨by rw [HR.out], q, rfl, by rw [HR.out]; exact hf⟩, HB1.out.trans (hb2.mono HB1.out.size)⟩
      · have b40 : ((i : Int) == 4096) = false := beq_eq_false_iff_ne.2 (by omega)
        have c11 : Calls Tryz.prog 50 #[.agg #[.int .u32 t, .int .i64 v, .int .i64 z, .string s], .slice (some ⟨g, 0, none⟩) (r.length + 1) gc] W1 fun e w' => e = .returned (.bool (rightL elemOk itemOk ⟨t, v, z, s⟩ (x :: r))) ∧ Below W1.heap.size W1 w' := by
          have hl10 := HO.out.len
          simp only [List.length_cons] at hl10
          by_cases he : (r.length + 1) % 2 = 0
          · have := isRight_item W1 ⟨t, v, z, s⟩ g r.length gc (by omega) he
            unfold rightL
            rw [List.length_cons, if_pos he]
            exact this
          · have := isRight_elem W1 ⟨t, v, z, s⟩ htg.1 htg.2 g r.length gc (by omega) (by omega) x.2 HL1.out.head.2
            unfold rightL
            rw [List.length_cons, if_neg he]
            exact this
        obtain ⟨ok, hok⟩ : ∃ ok, rightL elemOk itemOk ⟨t, v, z, s⟩ (x :: r) = ok := ⟨_, rfl⟩
        rw [hok] at c11
        have HOK : Hid (rightL elemOk itemOk ⟨t, v, z, s⟩ (x :: r) = ok) := hok
        clear hok
        obtain ⟨k, hk⟩ : ∃ k, r.length = k := ⟨_, rfl⟩
        have HK : Hid (r.length = k) := hk
        rw [hk] at c11 hgc ⊢
        clear hk
        cases ok with
        | false =>
          have HR : Hid (res L = (i, false)) := by
            show _ = _
            rw [HRES.out, HD.out, runL, if_pos (.inr HOK.out)]
          clear HRES
          go_wp2_with (first | (go_at_call 50; refine c11.mono ?_; rintro e W2 ⟨rfl, hb2⟩) | (go_at_call 51; refine (Rp.refusal_any _ _ _).mono ?_; rintro e W3 ⟨q, rfl, hf, hb3⟩))
          go_ret
          exact ⟨_, rfl, .inr ⟨by rw [HR.out], q, rfl, by rw [HR.out]; exact hf⟩, HB1.out.trans ((hb2.trans (hb3.mono hb2.size)).mono HB1.out.size)⟩
        | true =>
          have HST := HO.out.step HOK.out hnr.2
          have HR : Hid (res L = runL elemOk itemOk (i + 1) (stepL ⟨t, v, z, s⟩ (x :: r)) (L.drop (i + 1))) := by
            show _ = _
            rw [HRES.out, HD.out, runL, if_neg (by rintro (h | h); exact hi40 h; rw [HOK.out] at h; cases h)]
          have hx := HO.out.num x (by simp)
          have hl10 := HO.out.len
          simp only [List.length_cons] at hl10
          have HSTH : Hid _ := HST
          clear HRES HST
          go_wp2_with (go_at_call 50; refine StopF.out ?_)
          refine ⟨Calls.mono c11 ?_⟩
          rintro e W2 ⟨rfl, hb2⟩
          have HN2 : Hid (NC W2 wr.heap.size t v z s) := HN1.out.on hb2
          have HL2 : Hid (Lvs W2 w.heap.size (.slice (some ⟨g, 0, none⟩) (r.length + 1) gc) (x :: r)) := HL1.out.on hb2
          have HB2 : Hid (Below w.heap.size w W2) := HB1.out.trans (hb2.mono HB1.out.size)
          obtain ⟨q0, q1, q2, q3⟩ := HN2.out
          have c13 := step_any W2 w.heap.size (.slice (some ⟨g, 0, none⟩) (r.length + 1) gc) x r ⟨t, v, z, s⟩ HL2.out HB2.out.size (by rw [HK.out]; rw [HK.out] at hl10; omega) ⟨by omega, hx.2⟩
          rw [HK.out] at c13
          clear hb2 c11 y0 y1 y2 y3 hW1 m0 m1 m2 m3 hx hl10
          go_wp2_with (go_at_call 52; refine StopF.out ?_)
          refine ⟨Calls.mono c13 ?_⟩
          rintro e W3 ⟨v3, rfl, hl3, hb3⟩
          have HI3 : Hid (FLI w L (i + 1) v3 W3) := by
            obtain ⟨h1, h2⟩ := HSTH.out
            have h3 := HR.out
            have h4 := hl3.out
            cases hs : stepL ⟨t, v, z, s⟩ (x :: r) with
            | nil => exact absurd hs h2
            | cons x' r' =>
              rw [hs] at h1 h3 h4
              exact ⟨x', r', h4, h1, h3, HB2.out.trans hb3.out⟩
          clear c13 hl3 hb3 HSTH HR
          go_wp2
          exact ⟨⟨i + 1, by simp, by omega, by omega, HI3⟩, by simp [intOf]; omega⟩
    · have hltI : decide ((i : Int) < (n : Int)) = false := by simp; omega
      have hin2 : i = n := by omega
      have HR : Hid (res L = (i, decide (r = []))) := by
        show _ = _
        rw [HRES.out, List.drop_eq_nil_of_le (by rw [← HN.out]; omega), runL]
        cases r <;> simp
      clear HRES
      cases r with
      | nil =>
        have HR2 : Hid (res L = (i, true)) := by show _ = _; have := HR.out; simpa using this
        clear HR
        go_wp2
        go_ret
        exact ⟨_, rfl, .inl ⟨by rw [HR2.out], rfl⟩, HB⟩
      | cons x2 r2 =>
        have HR2 : Hid (res L = (n, false)) := by show _ = _; have := HR.out; rw [hin2] at this; simpa using this
        clear HR hin2
        simp only [List.length_cons] at *
        obtain ⟨k, hk⟩ : ∃ k, r2.length = k := ⟨_, rfl⟩
        rw [hk]
        clear hk
        go_wp2_with (first | (go_at_call 51; refine (Rp.refusal_any _ _ _).mono ?_; rintro e W2 ⟨q, rfl, hf, hb2⟩) | fail)
        go_ret
        exact ⟨_, rfl, .inr ⟨by rw [HR2.out], q, rfl, by rw [HR2.out]; exact hf⟩, HB.out.trans (hb2.mono HB.out.size)⟩
end Go.Proofs.YtoikdpjjcnmgeaaGreatDoor
end

section
/-
  DERIVED. How the document goes through a list of nodes: what is to be shown; its answer.
-/
namespace Go.Proofs.YtoikdpjjcnmgeaaGreatDoor
open Go Go.Proofs Go.RowKit
open Wk (Nd NV)

/-- What the reader of elements tells. -/
def SomeP (w : World) (L : List Nd) (i : Nat) (c : Int) (d : Nat) (e : Ending) (w' : World) : Prop := ∃ (j : Nat) (ok : Bool), e = .returned (.tuple #[.int .i64 (j : Int), .bool ok]) ∧ SomeQ elemOk itemOk L i c d j ok ∧ Below w.heap.size w w'
/-- What the reader of elements does at a depth. -/
def SomeC (d : Nat) : Prop := ∀ (w : World) (a : Option Addr) (n cap : Nat) (L : List Nd) (i : Nat) (c : Int), NV w a n cap L → TagsOk L → i ≤ n → i ≤ 4096 → -1 ≤ c → c ≤ 9223372036854775807 →
  Calls Tryz.prog 85 #[.slice a n cap, .int .i64 (i : Int), .int .i64 c, .int .i64 (d : Int)] w (SomeP w L i c d)

/-- The document's fault. -/
def RE (w : World) (v : Value) (r : Nat × Bool) : Prop := (r.2 = true ∧ v = .agg #[.slice none 0 0, .int .i64 0]) ∨ (r.2 = false ∧ ∃ g c, v = .agg #[.slice (some ⟨g, 0, none⟩) 1 c, .int .i64 5] ∧ w.cell? ⟨g, 0, none⟩ = some (.string { data := #[100, 105, 99, 116] }) ∧ w.cell? ⟨g, 1, none⟩ = some (.int .i64 (r.1 : Int)))
theorem RE.on {w w' : World} {v : Value} {r : Nat × Bool} (h : RE w v r) (hb : Below w.heap.size w w') : RE w' v r := by
  rcases h with h | ⟨h1, g, c, h2, h3, h4⟩
  · exact .inl h
  · exact .inr ⟨h1, g, c, h2, (hb.cell (Tb.cell_lt h3)).trans h3, (hb.cell (Tb.cell_lt h4)).trans h4⟩
theorem is_same {w : World} {ve vf : Value} {r : Nat × Bool} (h1 : PE w ve r) (h2 : RE w vf r) : Calls Tryz.prog 12 #[ve, vf] w fun e w' => e = .returned (.bool true) ∧ Below w.heap.size w w' := by
  rcases h1 with ⟨a1, rfl⟩ | ⟨a1, q, rfl, hf⟩ <;> rcases h2 with ⟨a2, rfl⟩ | ⟨a2, g, c, rfl, g0, g1⟩
  · exact Rp.is_nil w
  · rw [a1] at a2; cases a2
  · rw [a1] at a2; cases a2
  · exact Rp.is_one 5 (by decide) q g c (r.1 : Int) w hf.1 hf.2.1 hf.2.2 g0 g1

set_option maxRecDepth 100000 in
set_option maxHeartbeats 1000000 in
theorem rformed_any (hS : SomeC 0) (w : World) (a : Option Addr) (n cap : Nat) (L : List Nd) (hV : NV w a n cap L) (hT : TagsOk L) :
    Calls Tryz.prog 53 #[.slice a n cap] w fun e w' => ∃ vf, e = .returned vf ∧ Hid (RE w' vf (res L)) ∧ Hid (Below w.heap.size w w') := by
  obtain ⟨W1, hW1⟩ : ∃ W1, w.alloc (.cells #[.slice none 0 0, .int .i64 0] 32) = W1 := ⟨_, rfl⟩
  have hb1 : Below w.heap.size w W1 := by rw [← hW1]; exact (Below.refl _ _).alloc (Nat.le_refl _) _
  have hF1 : Tb.Fc W1 w.heap.size := by rw [← hW1]; exact ⟨by simp, by simp, fun i => by simp⟩
  have c16 : Calls Tryz.prog 85 #[.slice a n cap, .int .i64 0, .int .i64 (-1), .int .i64 0] W1 (SomeP W1 L 0 (-1) 0) := hS W1 a n cap L 0 (-1) (hV.on hb1) hT (by omega) (by omega) (by omega) (by omega)
  have HB1 : Hid (Below w.heap.size w W1) := hb1
  have HF1 : Hid (Tb.Fc W1 w.heap.size) := hF1
  clear hV hT hb1 hF1
  go_enter Tryz.func53, Tryz.ntmps53
  go_wp2_with (go_at_call 85; refine StopF.out ?_)
  refine ⟨Calls.mono c16 ?_⟩
  rintro e W2 ⟨j, ok, rfl, hq, hb2⟩
  have HR : Hid (res L = (j, ok)) := hq.whole
  have HF2 : Hid (Tb.Fc W2 w.heap.size) := HF1.out.next hb2
  have HB2 : Hid (Below w.heap.size w W2) := HB1.out.trans (hb2.mono HB1.out.size)
  clear c16 hq hb2 hW1
  cases ok with
  | false =>
    go_wp2_with (first | (go_at_call 36; refine (Rp.new0_any _ _ _).mono ?_; rintro e W3 ⟨rfl, hb3, k0, k1⟩; obtain ⟨g0, g1, gf⟩ := HF2.out.next hb3) | fail)
    obtain ⟨u0, u1⟩ := Tb.Fc.sets ⟨g0, g1, gf⟩ (.slice (some ⟨W2.heap.size + 1, 0, none⟩) 1 1) (.int .i64 5)
    have hne : w.heap.size < W2.heap.size := Tb.cell_lt HF2.out.c0
    have off : ∀ (W : World) (i j : Nat) (u z : Value), W.cell? ⟨W2.heap.size + 1, j, none⟩ = some z → (W.setCell ⟨w.heap.size, i, none⟩ u).cell? ⟨W2.heap.size + 1, j, none⟩ = some z := fun W i j u z hz => by
      rw [← hz]
      apply World.cell?_setCell_other
      simp
    refine bodyPost_ret (v := .agg #[.slice (some ⟨W2.heap.size + 1, 0, none⟩) 1 1, .int .i64 5]) (by simp only [results, Tryz.results53]; simp [go_sem, u0, u1]) rfl ⟨_, rfl, .inr ⟨by rw [HR.out], _, _, rfl, off _ _ _ _ _ (off _ _ _ _ _ k0), ?_⟩, ?_⟩
    · rw [HR.out]
      exact off _ _ _ _ _ (off _ _ _ _ _ k1.1)
    · exact ((HB2.out.trans (hb3.mono HB2.out.size)).setCell (p := ⟨w.heap.size, 0, none⟩) (Nat.le_refl _) _).setCell (p := ⟨w.heap.size, 1, none⟩) (Nat.le_refl _) _
  | true =>
    go_wp2_with (first | (go_at_call 38; refine (Tb.none_any _).mono ?_; rintro e W3 ⟨rfl, hb3⟩; obtain ⟨g0, g1, gf⟩ := HF2.out.next hb3) | fail)
    obtain ⟨u0, u1⟩ := Tb.Fc.sets ⟨g0, g1, gf⟩ (.slice none 0 0) (.int .i64 0)
    refine bodyPost_ret (v := .agg #[.slice none 0 0, .int .i64 0]) (by simp only [results, Tryz.results53]; simp [go_sem, u0, u1]) rfl ⟨_, rfl, .inl ⟨by rw [HR.out], rfl⟩, ?_⟩
    exact ((HB2.out.trans (hb3.mono HB2.out.size)).setCell (p := ⟨w.heap.size, 0, none⟩) (Nat.le_refl _) _).setCell (p := ⟨w.heap.size, 1, none⟩) (Nat.le_refl _) _
end Go.Proofs.YtoikdpjjcnmgeaaGreatDoor
end

section
/-
  DERIVED. A list that is no data set, refused by the layer above, by both.
-/
namespace Go.Proofs.YtoikdpjjcnmgeaaGreatDoor
open Go Go.Proofs Go.RowKit
open Wk (Nd NV)

/-- What the library's variable holds. -/
def EG (w : World) : Prop := w.cell? ⟨0, 0, none⟩ = some (.iface 202 (.agg #[.pointer (some ⟨9, 27, none⟩)]))
theorem EG.on {w w' : World} (h : EG w) (hb : Below w.heap.size w w') : EG w' := (hb.cell (Rp.cell_lt h)).trans h
/-- The layer's error, or none. -/
def PD (w : World) (v : Value) (r : Nat × Bool) : Prop := (r.2 = true ∧ v = .nilIface) ∨ (r.2 = false ∧ Chain w [(dsB, (r.1 : Int)), (dcB, (r.1 : Int))] 5 v)
theorem PD.on {w w' : World} {v : Value} {r : Nat × Bool} (h : PD w v r) (hb : Below w.heap.size w w') : PD w' v r := h.imp id (fun h => ⟨h.1, h.2.on hb⟩)

set_option maxRecDepth 100000 in
theorem refuse_any (w : World) (a : Int) (p : Nat) : Calls Tryz.prog 31 #[.int .i64 a, .iface 70 (.pointer (some ⟨p, 0, none⟩))] w fun e w' => ∃ q, e = .returned (.iface 70 (.pointer (some ⟨q, 0, none⟩))) ∧ w'.cell? ⟨q, 0, none⟩ = some (.string dsB) ∧ w'.cell? ⟨q, 1, none⟩ = some (.int .i64 a) ∧ w'.cell? ⟨q, 2, none⟩ = some (.iface 70 (.pointer (some ⟨p, 0, none⟩))) ∧ Below w.heap.size w w' := by
  go_enter Tryz.func31, Tryz.ntmps31
  go_wp2
  go_ret
  exact ⟨w.heap.size, rfl, by simp [dsB], by simp, by simp, (Below.refl _ _).alloc (Nat.le_refl _) _⟩

set_option maxRecDepth 100000 in
set_option maxHeartbeats 2000000 in
theorem dformed_any (w : World) (a : Option Addr) (n cap : Nat) (L : List Nd) (hV : NV w a n cap L) (hT : TagsOk L) (hE : EG w) :
    Calls Tryz.prog 45 #[.slice a n cap] w fun e w' => ∃ ve, e = .returned ve ∧ Hid (PD w' ve (res L)) ∧ Hid (Below w.heap.size w w') := by
  have c29 := formed_any w a n cap L hV hT
  have HE : Hid (EG w) := hE
  clear hV hT hE
  go_enter Tryz.func45, Tryz.ntmps45
  go_wp2_with (go_at_call 23; refine StopF.out ?_)
  refine ⟨Calls.mono c29 ?_⟩
  rintro e W2 ⟨ve, rfl, hpe, hb2⟩
  have HB2 : Hid (Below w.heap.size w W2) := hb2
  have HE2 : Hid (EG W2) := HE.out.on hb2.out
  rcases hpe.out with ⟨hr, rfl⟩ | ⟨hr, q, rfl, hf⟩
  · have HR : Hid ((res L).2 = true) := hr
    clear hpe hb2 c29 hr
    go_wp2_with (first | (go_at_call 74; refine (as_nil _ _).mono ?_; rintro e W3 ⟨rfl, rfl⟩) | fail)
    go_ret
    exact ⟨_, rfl, .inl ⟨HR.out, rfl⟩, HB2.out.alloc HB2.out.size _⟩
  · have HR : Hid ((res L).2 = false) := hr
    have HF : Hid (Rp.FaultAt W2 q ((res L).1 : Int) 5) := hf
    clear hpe hb2 c29 hr hf
    obtain ⟨W3, hW3⟩ : ∃ W3, W2.alloc (.cells #[.pointer none] 70) = W3 := ⟨_, rfl⟩
    have hb3 : Below W2.heap.size W2 W3 := by rw [← hW3]; exact (Below.refl _ _).alloc (Nat.le_refl _) _
    have t0 : W3.cell? ⟨W2.heap.size, 0, none⟩ = some (.pointer none) := by rw [← hW3]; simp
    have tf : W3.frozen? ⟨W2.heap.size, 0, none⟩ = false := by rw [← hW3]; simp
    have c30 := as_hit ⟨q, 0, none⟩ ⟨W2.heap.size, 0, none⟩ (.pointer none) W3 (HE2.out.on hb3) t0 tf
    have HB3 : Hid (Below w.heap.size w W3) := HB2.out.trans (hb3.mono HB2.out.size)
    have HF3 : Hid (Rp.FaultAt W3 q ((res L).1 : Int) 5) := HF.out.next hb3
    clear hb3
    go_wp2_with (go_at_call 74; refine StopF.out ?_)
    refine ⟨Calls.mono c30 ?_⟩
    rintro e W4 ⟨rfl, hW4⟩
    obtain ⟨V, hV⟩ : ∃ V, (((W3.alloc (.cells #[.pointer (some ⟨W2.heap.size, 0, none⟩)] 136)).alloc (.cells #[.pointer (some ⟨9, 136, none⟩), .pointer (some ⟨W3.heap.size, 0, none⟩), .int .u64 150] 175)).alloc (.cells #[.pointer (some ⟨9, 136, none⟩), .pointer (some ⟨W3.heap.size, 0, none⟩), .int .u64 150] 175)).alloc (.cells #[.pointer (some ⟨q, 0, none⟩)] 70) = V := ⟨_, rfl⟩
    rw [hV] at hW4
    have hbV : Below W3.heap.size W3 V := by rw [← hV]; exact ((((Below.refl _ _).alloc (Nat.le_refl _) _).alloc (by simp) _).alloc (by simp; omega) _).alloc (by simp; omega) _
    have hlt3 : W2.heap.size < W3.heap.size := Rp.cell_lt t0
    have tV : V.cell? ⟨W2.heap.size, 0, none⟩ = some (.pointer none) := (hbV.cell (p := ⟨W2.heap.size, 0, none⟩) hlt3).trans t0
    have HFV : Hid (Rp.FaultAt V q ((res L).1 : Int) 5) := HF3.out.next hbV
    have HBV : Hid (Below w.heap.size w V) := HB3.out.trans (hbV.mono HB3.out.size)
    clear hV hW3 c30 hbV t0 tf
    subst hW4
    have hqV : q < W2.heap.size := Rp.cell_lt HF.out.1
    have k0 : (V.setCell ⟨W2.heap.size, 0, none⟩ (.pointer (some ⟨q, 0, none⟩))).cell? ⟨W2.heap.size, 0, none⟩ = some (.pointer (some ⟨q, 0, none⟩)) := Rp.cell_set_eq tV
    have off : ∀ i, (V.setCell ⟨W2.heap.size, 0, none⟩ (.pointer (some ⟨q, 0, none⟩))).cell? ⟨q, i, none⟩ = V.cell? ⟨q, i, none⟩ := fun i => Rp.cell_set_off (by omega)
    have k1 : (V.setCell ⟨W2.heap.size, 0, none⟩ (.pointer (some ⟨q, 0, none⟩))).cell? ⟨q, 1, none⟩ = some (.int .i64 ((res L).1 : Int)) := (off 1).trans HFV.out.2.1
    have HF5 : Hid (Rp.FaultAt (V.setCell ⟨W2.heap.size, 0, none⟩ (.pointer (some ⟨q, 0, none⟩))) q ((res L).1 : Int) 5) := ⟨(off 0).trans HFV.out.1, (off 1).trans HFV.out.2.1, (off 2).trans HFV.out.2.2⟩
    have HB5 : Hid (Below w.heap.size w (V.setCell ⟨W2.heap.size, 0, none⟩ (.pointer (some ⟨q, 0, none⟩)))) := HBV.out.setCell (p := ⟨W2.heap.size, 0, none⟩) HB2.out.size _
    generalize V.setCell ⟨W2.heap.size, 0, none⟩ (.pointer (some ⟨q, 0, none⟩)) = U at k0 k1 HF5 HB5 ⊢
    clear off tV
    go_wp2_with (first | (go_at_call 31; refine (refuse_any _ _ _).mono ?_; rintro e W6 ⟨q6, rfl, d0, d1, d2, hb6⟩) | fail)
    go_ret
    refine ⟨_, rfl, .inr ⟨HR.out, q6, _, rfl, d0, d1, d2, q, _, rfl, ?_, ?_, ?_, rfl⟩, HB5.out.trans (hb6.mono HB5.out.size)⟩
    · exact (HF5.out.next hb6).1
    · exact (HF5.out.next hb6).2.1
    · exact (HF5.out.next hb6).2.2
end Go.Proofs.YtoikdpjjcnmgeaaGreatDoor
end

section
/-
  DERIVED. The document's fault, with a link ahead.
-/
namespace Go.Proofs.YtoikdpjjcnmgeaaGreatDoor
open Go Go.Proofs Go.RowKit
open Wk (Nd NV)

set_option maxRecDepth 100000 in
theorem any_none (w : World) : Calls Tryz.prog 26 #[.agg #[.slice none 0 0, .int .i64 0]] w fun e w' => e = .returned (.bool false) ∧ Below w.heap.size w w' := by
  go_enter Tryz.func26, Tryz.ntmps26
  go_wp2
  go_ret
  exact ⟨rfl, (Below.refl _ _).alloc (Nat.le_refl _) _⟩
set_option maxRecDepth 100000 in
theorem any_some (w : World) (g c : Nat) : Calls Tryz.prog 26 #[.agg #[.slice (some ⟨g, 0, none⟩) 1 c, .int .i64 5]] w fun e w' => e = .returned (.bool true) ∧ Below w.heap.size w w' := by
  go_enter Tryz.func26, Tryz.ntmps26
  go_wp2
  go_ret
  exact ⟨rfl, (Below.refl _ _).alloc (Nat.le_refl _) _⟩

set_option maxRecDepth 100000 in
set_option maxHeartbeats 2000000 in
theorem wrap_any (w : World) (a z : Int) (s : ByteArray) (g cg : Nat) (h0 : w.cell? ⟨g, 0, none⟩ = some (.string s)) (h1 : w.cell? ⟨g, 1, none⟩ = some (.int .i64 z)) :
    Calls Tryz.prog 54 #[.string { data := #[100, 97, 116, 97, 115, 101, 116] }, .int .i64 a, .agg #[.slice (some ⟨g, 0, none⟩) 1 cg, .int .i64 5]] w fun e w' => ∃ g2 c2, e = .returned (.agg #[.slice (some ⟨g2, 0, none⟩) 2 c2, .int .i64 5]) ∧ Hid (LkAt w' g2 [(dsB, a), (s, z)]) ∧ Hid (Below w.heap.size w w') := by
  obtain ⟨i0, hi, hz0, hz1, hz2⟩ := info_parts infoLk
  have hgl : g < w.heap.size := Rp.cell_lt h0
  obtain ⟨W1, hW1⟩ : ∃ W1, ((w.alloc (.cells #[.slice (some ⟨g, 0, none⟩) 1 cg, .int .i64 5] 32)).alloc (.cells #[.slice none 0 0, .int .i64 0] 32)).alloc (.cells #[.string { data := #[100, 97, 116, 97, 115, 101, 116] }, .int .i64 a] 102) = W1 := ⟨_, rfl⟩
  have hb1 : Below w.heap.size w W1 := by rw [← hW1]; exact (((Below.refl _ _).alloc (Nat.le_refl _) _).alloc (by simp) _).alloc (by simp; omega) _
  have bA : Below (w.heap.size + 1) (w.alloc (.cells #[.slice (some ⟨g, 0, none⟩) 1 cg, .int .i64 5] 32)) W1 := by rw [← hW1]; exact ((Below.refl _ _).alloc (by simp) _).alloc (by simp) _
  have bB : Below (w.heap.size + 1 + 1) ((w.alloc (.cells #[.slice (some ⟨g, 0, none⟩) 1 cg, .int .i64 5] 32)).alloc (.cells #[.slice none 0 0, .int .i64 0] 32)) W1 := by rw [← hW1]; exact (Below.refl _ _).alloc (by simp) _
  have hA : W1.heap[w.heap.size]? = some (.cells #[.slice (some ⟨g, 0, none⟩) 1 cg, .int .i64 5] 32 (0, 0)) := (bA.block _ (Nat.lt_succ_self _)).trans (Wk.heap_new w _)
  have hB : W1.heap[w.heap.size + 1]? = some (.cells #[.slice none 0 0, .int .i64 0] 32 (0, 0)) := (bB.block _ (Nat.lt_succ_self _)).trans (Tb.alloc2 _ _ _)
  have hC : W1.heap[w.heap.size + 1 + 1]? = some (.cells #[.string { data := #[100, 97, 116, 97, 115, 101, 116] }, .int .i64 a] 102 (0, 0)) := by rw [← hW1]; exact Tb.alloc3 _ _ _ _
  have a0 : W1.cell? ⟨w.heap.size, 0, none⟩ = some (.slice (some ⟨g, 0, none⟩) 1 cg) := Tb.cell_blk hA rfl
  have a1 : W1.cell? ⟨w.heap.size, 1, none⟩ = some (.int .i64 5) := Tb.cell_blk hA rfl
  have b0 : W1.cell? ⟨w.heap.size + 1, 0, none⟩ = some (.slice none 0 0) := Tb.cell_blk hB rfl
  have b1 : W1.cell? ⟨w.heap.size + 1, 1, none⟩ = some (.int .i64 0) := Tb.cell_blk hB rfl
  have bf : ∀ i, W1.frozen? ⟨w.heap.size + 1, i, none⟩ = false := fun i => Tb.frozen_blk hB
  have HOW : Hid (W1.ownsRow (w.heap.size + 1 + 1) 102 2 (.slice (some ⟨w.heap.size + 1 + 1, 0, none⟩) 1 1) 1 (lkc [(dsB, a)])) := ⟨rfl, .inr ⟨_, 1, _, rfl, Nat.le_refl _, hC, Nat.le_refl _, by unfold maxLen; decide, rfl, rfl⟩⟩
  have g0 := (hb1.cell (p := ⟨g, 0, none⟩) hgl).trans h0
  have g1 := (hb1.cell (p := ⟨g, 1, none⟩) hgl).trans h1
  have hs1 : W1.heap.size = w.heap.size + 1 + 1 + 1 := by rw [← hW1]; simp
  have HS1 : Hid _ := hs1
  have HB1 : Hid _ := hb1
  clear hA hB hC bA bB h0 h1 hb1 hs1
  go_enter Tryz.func54, Tryz.ntmps54
  go_wp2
  refine wp_loop_rounds 2 ?_
  rw [rounds_succ]
  go_wp2_with (at_builtin; refine StopF.out ?_)
  refine ⟨wpList_append_lies _ rfl (.tmp 20) (.tmp 26) 30 rfl (w.heap.size + 1 + 1) 102 i0 _ 2 24 Tryz.underlying30 hi hz0 hz1 hz2 rfl (by decide) (.slice (some ⟨w.heap.size + 1 + 1, 0, none⟩) 1 1) 1 (lkc [(dsB, a)]) rfl (World.ownsRow.alloc HOW.out _) ⟨W1.heap.size, 0, none⟩ 1 1 [.string s, .int .i64 z] rfl rfl (Wk.news_new rfl _ _) (by intro u hu; simp at hu; rcases hu with rfl | rfl <;> rfl) (by decide) (by unfold maxLen; decide) (by decide) (by have := HS1.out; simp; omega) _ rfl ?_⟩
  intro g4 c4 W4 ho4 hg4 _ _
  have hk : ∀ k, k < w.heap.size + 1 + 1 → W4.heap[k]? = W1.heap[k]? := fun k hk => (hg4.block k (by have := HS1.out; simp; omega) (fun e => Nat.ne_of_lt hk (Option.some.inj e))).trans (Below.heap_alloc W1 _ k (by have := HS1.out; omega))
  have k1 : W4.cell? ⟨w.heap.size, 1, none⟩ = some (.int .i64 5) := (World.cell?_of_block (a := ⟨w.heap.size, 1, none⟩) (hk w.heap.size (by omega))).trans a1
  have k0 : W4.cell? ⟨w.heap.size, 0, none⟩ = some (.slice (some ⟨g, 0, none⟩) 1 cg) := (World.cell?_of_block (a := ⟨w.heap.size, 0, none⟩) (hk w.heap.size (by omega))).trans a0
  have m0 : W4.cell? ⟨w.heap.size + 1, 0, none⟩ = some (.slice none 0 0) := (World.cell?_of_block (a := ⟨w.heap.size + 1, 0, none⟩) (hk (w.heap.size + 1) (by omega))).trans b0
  have m1 : W4.cell? ⟨w.heap.size + 1, 1, none⟩ = some (.int .i64 0) := (World.cell?_of_block (a := ⟨w.heap.size + 1, 1, none⟩) (hk (w.heap.size + 1) (by omega))).trans b1
  have mf : ∀ i, W4.frozen? ⟨w.heap.size + 1, i, none⟩ = false := fun i => (World.frozen?_of_block (a := ⟨w.heap.size + 1, i, none⟩) (hk (w.heap.size + 1) (by omega))).trans (bf i)
  have hg4b := (ho4.lt g4 rfl).1
  have HLK : Hid (LkAt W4 g4 [(dsB, a), (s, z)]) := lk_own (ls := [(dsB, a), (s, z)]) ho4 rfl
  have HB4 : Hid (Below w.heap.size w W4) := ⟨hg4.os.trans HB1.out.os, hg4.tape.trans HB1.out.tape, hg4.output.trans HB1.out.output, by have := hg4.size; have := HB1.out.size; simp at *; omega, fun k hk' => (hk k (by omega)).trans (HB1.out.block k hk')⟩
  clear ho4 hg4 hk a0 a1 b0 b1 bf hW1 HOW g0 g1
  go_wp2
  rw [rounds_succ]
  go_wp2
  have e0 : ((W4.setCell ⟨w.heap.size + 1, 0, none⟩ (.slice (some ⟨g4, 0, none⟩) 2 c4)).setCell ⟨w.heap.size + 1, 1, none⟩ (.int .i64 5)).cell? ⟨w.heap.size + 1, 0, none⟩ = some (.slice (some ⟨g4, 0, none⟩) 2 c4) := (Rp.cell_set_ne (by decide)).trans (Rp.cell_set_eq m0)
  have e1 : ((W4.setCell ⟨w.heap.size + 1, 0, none⟩ (.slice (some ⟨g4, 0, none⟩) 2 c4)).setCell ⟨w.heap.size + 1, 1, none⟩ (.int .i64 5)).cell? ⟨w.heap.size + 1, 1, none⟩ = some (.int .i64 5) := Rp.cell_set_eq ((Rp.cell_set_ne (by decide)).trans m1)
  refine bodyPost_ret (v := .agg #[.slice (some ⟨g4, 0, none⟩) 2 c4, .int .i64 5]) (by simp only [results, Tryz.results54]; simp [go_sem, e0, e1]) rfl ⟨g4, c4, rfl, ?_, (HB4.out.setCell (p := ⟨w.heap.size + 1, 0, none⟩) (by simp) _).setCell (p := ⟨w.heap.size + 1, 1, none⟩) (by simp) _⟩
  intro i hi
  have h := HLK.out i hi
  exact ⟨(Rp.cell_set_off (by omega)).trans ((Rp.cell_set_off (by omega)).trans h.1), (Rp.cell_set_off (by omega)).trans ((Rp.cell_set_off (by omega)).trans h.2)⟩
end Go.Proofs.YtoikdpjjcnmgeaaGreatDoor
end

section
/-
  DERIVED. Nodes that are lent, with a mark behind them.
-/
namespace Go.Proofs.YtoikdpjjcnmgeaaGreatDoor.Wk
open Go Go.Proofs Go.RowKit

theorem info34 : (Tryz.prog.info? 54).map (fun i => (i.zero, i.size, i.bytes)) = some (some (.agg #[.int .u32 0, .int .i64 0, .int .i64 0, .string ⟨#[]⟩]), 4, 40) := by kernel_rfl
theorem info22 : (Tryz.prog.info? 25).map (fun i => (i.zero, i.size, i.bytes)) = some (some (.slice none 0 0), 1, 24) := by kernel_rfl
def mrk : Nd := ⟨2882382797, 0, 7, ⟨#[109, 97, 114, 107]⟩⟩

theorem take_nds {L : List Nd} {k : Nat} (h : k < L.length) : nds (L.take (k + 1)) = nds (L.take k) ++ (L[k]'h).cs := by
  rw [List.take_add_one, List.getElem?_eq_getElem h, nds_append]
  congr 1
theorem cs_one (a : Nd) : ∀ u ∈ a.cs, u.oneCell' = true := by
  intro u hu
  simp [Nd.cs] at hu
  rcases hu with rfl | rfl | rfl | rfl <;> rfl

/-- What was lent: the nodes in block g, a mark behind them. -/
def Lent (g : Nat) (L : List Nd) (base : Nat) (w : World) : Prop := w.ownsRow base 54 4 (.slice (some ⟨g, 0, none⟩) (L.length + 1) (L.length + 1)) (L.length + 1) (nds (L ++ [mrk]))

end Go.Proofs.YtoikdpjjcnmgeaaGreatDoor.Wk
end

section
/-
  DERIVED. The same nodes; lent nodes are as they were.
-/
namespace Go.Proofs.YtoikdpjjcnmgeaaGreatDoor.Wk
open Go Go.Proofs Go.RowKit Go.Sort

set_option maxRecDepth 100000 in
set_option maxHeartbeats 1000000 in
theorem nodes_same (w : World) (a1 a2 : Option Addr) (n c1 c2 : Nat) (L : List Nd) (h1 : NV w a1 n c1 L) (h2 : NV w a2 n c2 L) : Calls Tryz.prog 13 #[.slice a1 n c1, .slice a2 n c2] w fun e w' => e = .returned (.bool true) ∧ ∃ m, w' = w.drewN m := by
  have H1 : Hid (NV w a1 n c1 L) := h1
  have H2 : Hid (NV w a2 n c2 L) := h2
  have HN : Hid (n = L.length) := h1.len
  have hsm := h1.small
  clear h1 h2
  go_enter Tryz.func13, Tryz.ntmps13
  go_wp2
  go_loopw [5] (fun s5 wx => ∃ i : Nat, s5 = .int .i64 (i : Int) ∧ i ≤ n ∧ ∃ m, wx = w.drewN m) (fun s5 _ => n - (intOf s5).toNat)
  case atStart => exact ⟨0, rfl, by omega, 0, rfl⟩
  case round =>
    obtain ⟨i, rfl, hi22, m, rfl⟩ := hrel
    by_cases hin : i < n
    · have hil : i < L.length := by rw [← HN.out]; exact hin
      obtain ⟨b1, o1, rfl, l1⟩ := H1.out.lies (by omega)
      obtain ⟨b2, o2, rfl, l2⟩ := H2.out.lies (by omega)
      obtain ⟨a0, a1, a2, a3⟩ := l1 i hil
      obtain ⟨b0, b1', b2', b3⟩ := l2 i hil
      have hI : (i : Int) < (n : Int) := by omega
      generalize L[i]'hil = q at a0 a1 a2 a3 b0 b1' b2' b3
      clear l1 l2
      go_wp2
      go_quiet (fail)
      go_wp2
      go_roundw
      case rel => exact ⟨i + 1, by go_num, by omega, _, rfl⟩
      case measure => simp [intOf]; omega
    · obtain rfl : i = n := by omega
      have hI : ¬ (i : Int) < (i : Int) := by omega
      go_wp2
      go_ret
      exact ⟨rfl, _, rfl⟩

theorem NV.drw {w : World} {a : Option Addr} {n cap : Nat} {L : List Nd} (h : NV w a n cap L) (m : Nat) : NV (w.drewN m) a n cap L := h.on (below_drw (Below.refl _ _) m)
theorem Lent.nv {g base : Nat} {L : List Nd} {w : World} (h : Lent g L base w) (hs : L.length ≤ 3518437208780) (hz : ∀ x ∈ L, -9223372036854775808 ≤ x.n ∧ x.n ≤ 9223372036854775807) : NV w (some ⟨g, 0, none⟩) L.length (L.length + 1) L := by
  refine ⟨rfl, by omega, hs, fun _ => ⟨g, 0, rfl, fun i hi => ?_⟩, hz⟩
  have hg : ∀ k, k < 4 → w.cell? ⟨g, 0 + i * 4 + k, none⟩ = ((L[i]'hi).cs)[k]? := fun k hk => by
    rw [Nat.zero_add]
    refine (World.ownsRow.cellAt h (i * 4 + k) (by omega)).trans ?_
    rw [nds_get (L ++ [mrk]) i (by simp; omega) k hk, List.getElem_append_left hi]
  exact ⟨hg 0 (by decide), hg 1 (by decide), hg 2 (by decide), hg 3 (by decide)⟩
theorem Lent.mark {g base : Nat} {L : List Nd} {w : World} (h : Lent g L base w) : w.cell? ⟨g, L.length * 4, none⟩ = some (.int .u32 2882382797) ∧ w.cell? ⟨g, L.length * 4 + 1, none⟩ = some (.int .i64 0) ∧ w.cell? ⟨g, L.length * 4 + 2, none⟩ = some (.int .i64 7) ∧ w.cell? ⟨g, L.length * 4 + 3, none⟩ = some (.string ⟨#[109, 97, 114, 107]⟩) := by
  have hg : ∀ k, k < 4 → w.cell? ⟨g, L.length * 4 + k, none⟩ = (mrk.cs)[k]? := fun k hk => by
    refine (World.ownsRow.cellAt h (L.length * 4 + k) (by omega)).trans ?_
    rw [nds_get (L ++ [mrk]) L.length (by simp) k hk, List.getElem_append_right (Nat.le_refl _)]
    simp
  exact ⟨hg 0 (by decide), hg 1 (by decide), hg 2 (by decide), hg 3 (by decide)⟩
theorem hmix : Tryz.prog.follows .mixedOrders = true := by kernel_rfl

end Go.Proofs.YtoikdpjjcnmgeaaGreatDoor.Wk
end

section
/-
  DERIVED. Lists of lists of nodes, each in memory of its own.
-/
namespace Go.Proofs.YtoikdpjjcnmgeaaGreatDoor.Wk
open Go Go.Proofs Go.RowKit

theorem app22 {w : World} {ops : Array Oper} {rest : List Oper} {o : Oper} {a : Act} {Q : Exit → Act → World → Prop} (hgd : o.guard = none) (s x : Operand)
    (ho : o.op = .call { callee := .builtin .append, args := #[s, x], argTypes := #[25, 25] }) (base : Nat) (v : Value) (n : Nat) (xs : List Value) (hs : a.eval s = v) (hown : w.ownsRow base 54 4 v n xs)
    (ad : Addr) (m c : Nat) (news : List Value) (hx : a.eval x = .slice (some ad) m c) (hl : news.length = m * 4) (hnews : ∀ j u, news[j]? = some u → w.cell? (ad.add j) = some u) (h1 : ∀ u ∈ news, u.oneCell' = true) (hm : 0 < m) (hsm : n + m ≤ 3518437208883) (hbase : base ≤ w.heap.size)
    (h : ∀ g cap w', w'.ownsRow base 54 4 (.slice (some ⟨g, 0, none⟩) (n + m) cap) (n + m) (xs ++ news) → w.grownBy w' v.ownBlock → (v.ownBlock = some g ∨ g = w.heap.size) → g < w'.heap.size → wpList Tryz.prog ops Q rest (a.put o.dst (.slice (some ⟨g, 0, none⟩) (n + m) cap)) w') : wpList Tryz.prog ops Q (o :: rest) a w := by
  obtain ⟨i0, hi, hz0, hz1, hz2⟩ := info_parts info34
  exact wpList_append_lies w hgd s x 25 ho base 54 i0 _ 4 40 Tryz.underlying25 hi hz0 hz1 hz2 rfl (by decide) v n xs hs hown ad m c news hx hl hnews h1 hm (by unfold maxLen; omega) (by omega) hbase _ rfl h
/-- A copy of nodes, perhaps of none. -/
theorem copy22 {w : World} {ops : Array Oper} {rest : List Oper} {o : Oper} {a : Act} {Q : Exit → Act → World → Prop} (hgd : o.guard = none) (s x : Operand)
    (ho : o.op = .call { callee := .builtin .append, args := #[s, x], argTypes := #[25, 25] }) (hs : a.eval s = .slice none 0 0)
    (ad : Addr) (c : Nat) (M : List Nd) (hx : a.eval x = .slice (some ad) M.length c) (hnews : ∀ j u, (nds M)[j]? = some u → w.cell? (ad.add j) = some u) (hsm : M.length ≤ 10000000)
    (h : ∀ u w', w'.ownsRow w.heap.size 54 4 u M.length (nds M) → Below w.heap.size w w' → (M = [] → u = .slice none 0 0) → (M ≠ [] → ∃ g cap, u = .slice (some ⟨g, 0, none⟩) M.length cap) → wpList Tryz.prog ops Q rest (a.put o.dst u) w') : wpList Tryz.prog ops Q (o :: rest) a w := by
  obtain ⟨i0, hi, hz0, hz1, hz2⟩ := info_parts info34
  refine wpList_append_own w hgd s x 25 ho w.heap.size 54 i0 _ 4 40 Tryz.underlying25 hi hz0 hz1 hz2 rfl (by decide) (.slice none 0 0) 0 [] hs (World.ownsRow_nil _ _ _ _) ad M.length c (nds M) hx (nds_len M) hnews (nds_one M) (by unfold maxLen; omega) (by omega) (Nat.le_refl _) ?_
  intro v' w' ho' hg' hn'
  rw [Nat.zero_add] at ho'
  refine h v' w' ho' ((Below.refl _ _).grown hg' (Nat.le_refl _) (fun k hk => by cases hk)) (fun e => hn'.2 ⟨rfl, by rw [e]; rfl⟩) (fun e => ?_)
  rcases ho'.2 with ⟨hv, -⟩ | ⟨g, cap, cur, hv, -⟩
  · exact absurd (List.length_eq_zero_iff.1 (hn'.1 hv).2) e
  · exact ⟨g, cap, hv⟩

end Go.Proofs.YtoikdpjjcnmgeaaGreatDoor.Wk
end

section
/-
  DERIVED. What is implied, said in one line.
-/
namespace Go.Proofs.YtoikdpjjcnmgeaaGreatDoor
open Go Go.Proofs Go.RowKit
open Wk (Nd NV)

theorem run_ok : ∀ (L : List Nd) (i : Nat) (st : List Lv), i ≤ 4096 → (runL elemOk itemOk i st L).2 = true → L.length + i ≤ 4096 ∧ ∀ x ∈ L, x.v = 29 ∨ x.v = 18 ∨ x.s.size ≤ 65534
  | [], i, st, hi, _ => ⟨by simpa using hi, fun x hx => by simp at hx⟩
  | a :: L, i, st, hi, h => by
    rw [runL] at h
    split at h
    · cases h
    · rename_i hn
      have hi40 : i ≠ 4096 := fun e => hn (.inl e)
      have hr : rightL elemOk itemOk a st = true := by
        rcases hb : rightL elemOk itemOk a st with _ | _
        · exact absurd (.inr hb) hn
        · rfl
      obtain ⟨h1, h2⟩ := run_ok L (i + 1) _ (by omega) h
      refine ⟨by simp; omega, fun x hx => ?_⟩
      rcases List.mem_cons.1 hx with rfl | hx
      · unfold rightL at hr
        split at hr
        · simp only [Bool.and_eq_true, itemOk, decide_eq_true_eq] at hr
          exact .inl hr.1.2.1
        · simp only [Bool.and_eq_true, elemOk] at hr
          have h3 := hr.1.2.2
          unfold bodyO at h3
          split at h3
          · rename_i hv; exact .inr (.inl hv)
          · simp only [Bool.and_eq_true, decide_eq_true_eq] at h3
            exact .inr (.inr h3.2.2.1)
      · exact h2 x hx
theorem res_ok {L : List Nd} (h : (res L).2 = true) : L.length ≤ 4096 ∧ ∀ x ∈ L, x.v = 29 ∨ x.v = 18 ∨ x.s.size ≤ 65534 := by
  have := run_ok L 0 [(0, 0)] (by omega) h
  exact ⟨by omega, this.2⟩

theorem own_at {w : World} {base g n cap : Nat} {L : List Nd} (h : w.ownsRow base 54 4 (.slice (some ⟨g, 0, none⟩) n cap) n (Wk.nds L)) (hn : n = L.length) {i : Nat} (hi : i < L.length) : w.cell? ⟨g, i * 4, none⟩ = some (.int .u32 (L[i]'hi).t) ∧ w.cell? ⟨g, i * 4 + 1, none⟩ = some (.int .i64 (L[i]'hi).v) ∧ w.cell? ⟨g, i * 4 + 2, none⟩ = some (.int .i64 (L[i]'hi).n) ∧ w.cell? ⟨g, i * 4 + 3, none⟩ = some (.string (L[i]'hi).s) := by
  have hg : ∀ k, k < 4 → w.cell? ⟨g, i * 4 + k, none⟩ = ((L[i]'hi).cs)[k]? := fun k hk => (World.ownsRow.cellAt h (i * 4 + k) (by omega)).trans (Wk.nds_get L i hi k hk)
  exact ⟨hg 0 (by decide), hg 1 (by decide), hg 2 (by decide), hg 3 (by decide)⟩
end Go.Proofs.YtoikdpjjcnmgeaaGreatDoor
end

section
/-
  DERIVED. Faults with one link; the size of a data set: the program's.
-/
namespace Go.Proofs.YtoikdpjjcnmgeaaGreatDoor
open Go Go.Proofs Go.RowKit
open Wk (Nd NV goN nxt)

/-- The syntax by its number. -/
def encS (s : Int) : Enc := encOf (decide (s = 2))
/-- What is refused. -/
def errOf (s : Int) (L : List Nd) : Option (List Lk × Int) :=
  if s ≠ 1 ∧ s ≠ 2 then some ([(dsB, 0)], 120)
  else if (res L).2 = false then some ([(dsB, ((res L).1 : Int)), (dcB, ((res L).1 : Int))], 5)
  else if 1048576 < (encS s).szP L then some ([(dsB, 1048576)], 121) else none
def siz (s : Int) (L : List Nd) : Nat := if (errOf s L).isSome = true then 0 else (encS s).szP L
def outB (s : Int) (L : List Nd) : List UInt8 := if (errOf s L).isSome = true then [] else (encS s).wP L
/-- The program's error. -/
def PErr (w : World) (v : Value) (o : Option (List Lk × Int)) : Prop := (o = none ∧ v = .nilIface) ∨ ∃ ls c, o = some (ls, c) ∧ Chain w ls c v
theorem PErr.on {w w' : World} {v : Value} {o : Option (List Lk × Int)} (h : PErr w v o) (hb : Below w.heap.size w w') : PErr w' v o := by
  rcases h with h | ⟨ls, c, h1, h2⟩
  · exact .inl h
  · exact .inr ⟨ls, c, h1, h2.on hb⟩
theorem err_bad {s : Int} {L : List Nd} (h : s ≠ 1 ∧ s ≠ 2) : errOf s L = some ([(dsB, 0)], 120) := by unfold errOf; rw [if_pos h]
theorem err_form {s : Int} {L : List Nd} (h : ¬ (s ≠ 1 ∧ s ≠ 2)) (hr : (res L).2 = false) : errOf s L = some ([(dsB, ((res L).1 : Int)), (dcB, ((res L).1 : Int))], 5) := by unfold errOf; rw [if_neg h, if_pos hr]
theorem err_long {s : Int} {L : List Nd} (h : ¬ (s ≠ 1 ∧ s ≠ 2)) (hr : (res L).2 = true) (hl : 1048576 < (encS s).szP L) : errOf s L = some ([(dsB, 1048576)], 121) := by unfold errOf; rw [if_neg h, if_neg (by rw [hr]; decide), if_pos hl]
theorem err_none {s : Int} {L : List Nd} (h : ¬ (s ≠ 1 ∧ s ≠ 2)) (hr : (res L).2 = true) (hl : ¬ 1048576 < (encS s).szP L) : errOf s L = none := by unfold errOf; rw [if_neg h, if_neg (by rw [hr]; decide), if_neg hl]
theorem res_wf {L : List Nd} (h : (res L).2 = true) : wf elemOk itemOk L.length false L := run_wf0 elem_n item_n L.length L 0 0 0 (Nat.le_refl _) h
theorem res_good {L : List Nd} (h : (res L).2 = true) : Good L := wf_good _ _ _ (res_wf h)

set_option maxRecDepth 100000 in
theorem refuseN_any (w : World) (a c : Int) : Calls Tryz.prog 31 #[.int .i64 a, .iface 69 (.int .i64 c)] w fun e w' => ∃ ve, e = .returned ve ∧ Hid (Chain w' [(dsB, a)] c ve) ∧ Hid (Below w.heap.size w w') := by
  go_enter Tryz.func31, Tryz.ntmps31
  go_wp2
  go_ret
  exact ⟨_, rfl, ⟨w.heap.size, _, rfl, by simp [dsB], by simp, by simp, rfl⟩, (Below.refl _ _).alloc (Nat.le_refl _) _⟩
set_option maxRecDepth 100000 in
theorem syntax_I (w : World) : Calls Tryz.prog 30 #[.int .i64 1] w fun e w' => e = .returned (.tuple #[.iface 107 (.agg #[]), .nilIface]) ∧ w = w' := by
  go_enter Tryz.func30, Tryz.ntmps30
  go_wp2
  exact bodyPost_ret (by simp [results, Tryz.results30, go_sem]) rfl ⟨rfl, rfl⟩
set_option maxRecDepth 100000 in
theorem syntax_E (w : World) : Calls Tryz.prog 30 #[.int .i64 2] w fun e w' => e = .returned (.tuple #[.iface 108 (.agg #[]), .nilIface]) ∧ w = w' := by
  go_enter Tryz.func30, Tryz.ntmps30
  go_wp2
  exact bodyPost_ret (by simp [results, Tryz.results30, go_sem]) rfl ⟨rfl, rfl⟩
set_option maxRecDepth 100000 in
theorem syntax_no (w : World) (s : Int) (h : s ≠ 1 ∧ s ≠ 2) : Calls Tryz.prog 30 #[.int .i64 s] w fun e w' => ∃ q, e = .returned (.tuple #[.nilIface, .iface 70 (.pointer (some ⟨q, 0, none⟩))]) ∧ Hid (Chain w' [(dsB, 0)] 120 (.iface 70 (.pointer (some ⟨q, 0, none⟩)))) ∧ Hid (Below w.heap.size w w') := by
  have b1 : (s == 1) = false := beq_eq_false_iff_ne.2 h.1
  have b2 : (s == 2) = false := beq_eq_false_iff_ne.2 h.2
  have c := refuseN_any w 0 120
  clear h
  go_enter Tryz.func30, Tryz.ntmps30
  go_wp2_with (go_at_call 31; refine StopB.out ?_)
  refine ⟨Calls.mono c ?_⟩
  rintro e W1 ⟨ve, rfl, hc, hb⟩
  obtain ⟨q, u, rfl, hr⟩ := hc.out
  clear hr
  go_wp2
  exact bodyPost_ret (v := .tuple #[.nilIface, .iface 70 (.pointer (some ⟨q, 0, none⟩))]) (by simp [results, Tryz.results30, go_sem]) rfl ⟨q, rfl, hc, hb⟩
end Go.Proofs.YtoikdpjjcnmgeaaGreatDoor
end
