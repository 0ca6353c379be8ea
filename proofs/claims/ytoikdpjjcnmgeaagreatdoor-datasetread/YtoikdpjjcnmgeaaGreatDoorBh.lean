import Derived.Test.YtoikdpjjcnmgeaaGreatDoorBa
import Derived.Test.YtoikdpjjcnmgeaaGreatDoorNa
import Derived.Deep.RegionHeld3
section
/-
  DERIVED. Which node may be an element: the program's look.
-/
namespace Go.Proofs.YtoikdpjjcnmgeaaGreatDoor
open Go Go.Proofs Go.RowKit
open Wk (Nd)

/-- A node in memory. -/
structure NC (W : World) (g : Nat) (t v n : Int) (s : ByteArray) : Prop where
  c0 : W.cell? ⟨g, 0, none⟩ = some (.int .u32 t)
  c1 : W.cell? ⟨g, 1, none⟩ = some (.int .i64 v)
  c2 : W.cell? ⟨g, 2, none⟩ = some (.int .i64 n)
  c3 : W.cell? ⟨g, 3, none⟩ = some (.string s)
theorem NC.on {W W' : World} {g : Nat} {t v n : Int} {s : ByteArray} (h : NC W g t v n s) (hb : Below W.heap.size W W') : NC W' g t v n s :=
  ⟨(hb.cell (Tb.cell_lt h.c0)).trans h.c0, (hb.cell (Tb.cell_lt h.c1)).trans h.c1, (hb.cell (Tb.cell_lt h.c2)).trans h.c2, (hb.cell (Tb.cell_lt h.c3)).trans h.c3⟩

set_option maxRecDepth 100000 in
set_option maxHeartbeats 2000000 in
theorem isElement_any (w : World) (a : Nd) (h0 : 0 ≤ a.t) (h1 : a.t < 4294967296) : Calls Tryz.prog 84 #[.agg #[.int .u32 a.t, .int .i64 a.v, .int .i64 a.n, .string a.s]] w fun e w' => e = .returned (.bool (elemOk a)) ∧ Below w.heap.size w w' := by
  have c26 := fun W => mayStand_any W a.t.toNat (by omega)
  have c27 := fun W => Tb.find_any W a.t.toNat (by omega)
  have htn : ((a.t.toNat : Nat) : Int) = a.t := by omega
  rw [htn] at c26 c27
  unfold elemOk vrO bodyO fnd
  obtain ⟨ms, hms⟩ : ∃ z, mayS a.t.toNat = z := ⟨_, rfl⟩
  simp only [hms] at c26 ⊢
  generalize Tb.docF a.t.toNat (Tb.upTo 10) = O at c27 ⊢
  generalize Tb.eT O = e0 at c27
  generalize Tb.eM O = e1 at c27
  generalize Tb.eV O = e2 at c27 ⊢
  generalize Tb.eS O = e3 at c27
  generalize Tb.eL O = e4 at c27
  generalize Tb.eN O = e5 at c27
  generalize O.isSome = kn at c27 ⊢
  obtain ⟨cf, ff, hcf, hff, c28⟩ : ∃ cf ff, Rp.FunV cf ∧ Rp.FunV ff ∧ ∀ W, Calls Tryz.prog 81 #[.int .i64 a.v] W fun e w' => e = .returned (.tuple #[.agg #[.string (Rp.nm (Rp.vn a.v)), .int .u8 (Rp.pd (Rp.vn a.v)), .int .i64 (Rp.un (Rp.vn a.v)), .int .i64 (Rp.mo (Rp.vn a.v)), .bool (Rp.tx (Rp.vn a.v)), .bool (Rp.ch (Rp.vn a.v)), .bool (Rp.mu (Rp.vn a.v)), .bool (Rp.lo (Rp.vn a.v)), cf, ff], .bool (decide (1 ≤ a.v ∧ a.v ≤ 28))]) ∧ Below W.heap.size W w' := by
    obtain ⟨cf, ff, h1, h2, h3⟩ := Rp.rep_shape a.v
    refine ⟨cf, ff, h1, h2, fun W => ?_⟩
    have := Rp.repOf_any W a.v
    rw [h3] at this
    exact this
  have c29 := fun W hs => unpadded_any W (Rp.nm (Rp.vn a.v)) (Rp.pd (Rp.vn a.v)) (Rp.un (Rp.vn a.v)) (Rp.mo (Rp.vn a.v)) (Rp.tx (Rp.vn a.v)) (Rp.ch (Rp.vn a.v)) (Rp.mu (Rp.vn a.v)) (Rp.lo (Rp.vn a.v)) cf ff hcf hff a.s hs
  generalize Rp.nm (Rp.vn a.v) = x0 at c28 c29
  generalize Rp.pd (Rp.vn a.v) = x1 at c28 c29
  generalize Rp.un (Rp.vn a.v) = x2 at c28 c29
  generalize Rp.mo (Rp.vn a.v) = x3 at c28 c29
  generalize Rp.tx (Rp.vn a.v) = x4 at c28 c29 ⊢
  generalize Rp.ch (Rp.vn a.v) = x5 at c28 c29
  generalize Rp.mu (Rp.vn a.v) = x6 at c28 c29
  generalize Rp.lo (Rp.vn a.v) = x7 at c28 c29
  generalize unp x4 a.s = up at c29 ⊢
  obtain ⟨ok, hok⟩ : ∃ z, decide (1 ≤ a.v ∧ a.v ≤ 28) = z := ⟨_, rfl⟩
  simp only [hok] at c28 ⊢
  obtain ⟨t, v, n, s⟩ := a
  simp only at *
  clear hok htn h0 h1 hms
  obtain ⟨R, hR⟩ : ∃ R, (ms && (!(kn && (v != e2)) && (if v = 18 then (s.toList == []) && decide (0 ≤ n) else ok && (decide (n = 0) && (decide (s.size ≤ 65534) && up))))) = R := ⟨_, rfl⟩
  rw [hR]
  have HR : Hid _ := hR
  clear hR
  obtain ⟨W1, hW1⟩ : ∃ W1, w.alloc (.cells #[.int .u32 t, .int .i64 v, .int .i64 n, .string s] 54) = W1 := ⟨_, rfl⟩
  have HN1 : Hid (NC W1 w.heap.size t v n s) := by rw [← hW1]; exact ⟨by simp, by simp, by simp, by simp⟩
  have HB1 : Hid (Below w.heap.size w W1) := by rw [← hW1]; exact (Below.refl _ _).alloc (Nat.le_refl _) _
  obtain ⟨y0, y1, y2, y3⟩ := HN1.out
  cases ms with
  | false =>
    have HR2 : Hid (R = false) := HR.out.symm
    go_enter Tryz.func84, Tryz.ntmps84
    go_wp2_with (first | (go_at_call 121; refine (c26 _).mono ?_; rintro e W2 ⟨rfl, rfl⟩) | fail)
    go_ret
    exact ⟨by rw [HR2.out]; rfl, HB1.out⟩
  | true =>
    go_enter Tryz.func84, Tryz.ntmps84
    go_wp2_with (first | (go_at_call 121; refine (c26 _).mono ?_; rintro e W2 ⟨rfl, rfl⟩) | (go_at_call 75; refine StopF.out ?_))
    refine ⟨Calls.mono (c27 _) ?_⟩
    rintro e W2 ⟨rfl, hb2⟩
    have hne : w.heap.size ≠ W2.heap.size := by
      have h1 := HB1.out.size
      have h2 := hb2.size
      have h3 : w.heap.size < W1.heap.size := Tb.cell_lt y0
      omega
    obtain ⟨W3, hW3⟩ : ∃ W3, W2.alloc (.cells #[.int .u32 e0, .int .u32 e1, .int .i64 e2, .string e3, .int .i64 e4, .int .i64 e5] 50) = W3 := ⟨_, rfl⟩
    have hb3 : Below W1.heap.size W1 W3 := hb2.trans (by rw [← hW3]; exact (Below.refl _ _).alloc hb2.size _)
    have HN3 : Hid (NC W3 w.heap.size t v n s) := HN1.out.on hb3
    have HB3 : Hid (Below w.heap.size w W3) := HB1.out.trans (hb3.mono HB1.out.size)
    have z2 : W3.cell? ⟨W2.heap.size, 2, none⟩ = some (.int .i64 e2) := by rw [← hW3]; simp
    obtain ⟨p0, p1, p2, p3⟩ := HN3.out
    clear hb2 hb3 c26 c27
    by_cases hbv : (kn && (v != e2)) = true
    · obtain ⟨rfl, hv⟩ : kn = true ∧ (v != e2) = true := by simpa using hbv
      have HR2 : Hid (R = false) := by
        have := HR.out
        rw [hv] at this
        exact this.symm
      clear hbv HR
      go_wp2
      go_ret
      exact ⟨by rw [HR2.out]; rfl, HB3.out⟩
    · have hbv2 : (kn && (v != e2)) = false := by simpa using hbv
      have HR3 : Hid ((if v = 18 then (s.toList == []) && decide (0 ≤ n) else ok && (decide (n = 0) && (decide (s.size ≤ 65534) && up))) = R) := by
        have := HR.out
        rw [hbv2] at this
        exact this
      have hkn : kn = false ∨ (kn = true ∧ (v != e2) = false) := by
        cases kn with
        | false => exact .inl rfl
        | true => exact .inr ⟨rfl, by simpa using hbv2⟩
      clear hbv HR hbv2
      rcases hkn with rfl | ⟨rfl, hv⟩
      all_goals
        by_cases h18 : v = 18
        · have HR4 : Hid (((s.toList == []) && decide (0 ≤ n)) = R) := by have := HR3.out; rwa [if_pos h18] at this
          have b18 : (v == 18) = true := by rw [h18]; rfl
          clear h18 HR3
          obtain ⟨es, hes⟩ : ∃ z, (s.toList == []) = z := ⟨_, rfl⟩
          cases es with
          | true =>
            have HR5 : Hid (R = decide (0 ≤ n)) := by have := HR4.out; rw [hes] at this; exact this.symm
            go_wp2
            go_ret
            exact ⟨by rw [HR5.out]; rfl, HB3.out⟩
          | false =>
            have HR5 : Hid (R = false) := by have := HR4.out; rw [hes] at this; exact this.symm
            go_wp2
            go_ret
            exact ⟨by rw [HR5.out]; rfl, HB3.out⟩
        · have HR4 : Hid ((ok && (decide (n = 0) && (decide (s.size ≤ 65534) && up))) = R) := by have := HR3.out; rwa [if_neg h18] at this
          have b18 : (v == 18) = false := beq_eq_false_iff_ne.2 h18
          clear h18 HR3
          go_wp2_with (go_at_call 81; refine StopF.out ?_)
          refine ⟨Calls.mono (c28 _) ?_⟩
          rintro e W4 ⟨rfl, hb4⟩
          have hne4 : w.heap.size ≠ W4.heap.size := by
            have h1 := HB3.out.size
            have h2 := hb4.size
            have h3 : w.heap.size < W3.heap.size := Tb.cell_lt p0
            omega
          obtain ⟨W5, hW5⟩ : ∃ W5, W4.alloc (.cells #[.string x0, .int .u8 x1, .int .i64 x2, .int .i64 x3, .bool x4, .bool x5, .bool x6, .bool x7, cf, ff] 144) = W5 := ⟨_, rfl⟩
          have hb5 : Below W3.heap.size W3 W5 := hb4.trans (by rw [← hW5]; exact (Below.refl _ _).alloc hb4.size _)
          have HN5 : Hid (NC W5 w.heap.size t v n s) := HN3.out.on hb5
          have HB5 : Hid (Below w.heap.size w W5) := HB3.out.trans (hb5.mono HB3.out.size)
          have hbk : W5.heap[W4.heap.size]? = some (.cells #[.string x0, .int .u8 x1, .int .i64 x2, .int .i64 x3, .bool x4, .bool x5, .bool x6, .bool x7, cf, ff] 144 (0, 0)) := by rw [← hW5]; exact World.alloc_heap_new _ _
          have h1c : (#[.string x0, .int .u8 x1, .int .i64 x2, .int .i64 x3, .bool x4, .bool x5, .bool x6, .bool x7, cf, ff] : Array Value).all (·.oneCell') = true := by
            rcases hcf with rfl | ⟨j, rfl⟩ <;> rcases hff with rfl | ⟨j2, rfl⟩ <;> kernel_rfl
          have HW5 : Hid _ := hW5
          clear hb4 hb5 c28 p0 p1 p2 p3 z2 hW3 hW5
          go_wp2_with (refine wpList_store_rowTo rfl 144 (.tmp 5) (.tmp 40) rfl rfl W4.heap.size #[.string x0, .int .u8 x1, .int .i64 x2, .int .i64 x3, .bool x4, .bool x5, .bool x6, .bool x7, cf, ff] rfl rfl 144 _ (World.alloc_heap_new _ _) (by kernel_rfl) rfl h1c ?_; refine StopF.out ?_)
          refine ⟨?_⟩
          rw [World.setRow_alloc_new, HW5.out]
          have k0 : W5.cell? ⟨W4.heap.size, 0, none⟩ = some (.string x0) := Tb.cell_blk hbk rfl
          have k1 : W5.cell? ⟨W4.heap.size, 1, none⟩ = some (.int .u8 x1) := Tb.cell_blk hbk rfl
          have k2 : W5.cell? ⟨W4.heap.size, 2, none⟩ = some (.int .i64 x2) := Tb.cell_blk hbk rfl
          have k3 : W5.cell? ⟨W4.heap.size, 3, none⟩ = some (.int .i64 x3) := Tb.cell_blk hbk rfl
          have k4 : W5.cell? ⟨W4.heap.size, 4, none⟩ = some (.bool x4) := Tb.cell_blk hbk rfl
          have k5 : W5.cell? ⟨W4.heap.size, 5, none⟩ = some (.bool x5) := Tb.cell_blk hbk rfl
          have k6 : W5.cell? ⟨W4.heap.size, 6, none⟩ = some (.bool x6) := Tb.cell_blk hbk rfl
          have k7 : W5.cell? ⟨W4.heap.size, 7, none⟩ = some (.bool x7) := Tb.cell_blk hbk rfl
          have k8 : W5.cell? ⟨W4.heap.size, 8, none⟩ = some cf := Tb.cell_blk hbk rfl
          have k9 : W5.cell? ⟨W4.heap.size, 9, none⟩ = some ff := Tb.cell_blk hbk rfl
          obtain ⟨q0, q1, q2, q3⟩ := HN5.out
          clear hbk h1c HW5
          by_cases hgo : (ok && (decide (n = 0) && decide (s.size ≤ 65534))) = true
          · obtain ⟨rfl, hn, hs⟩ : ok = true ∧ n = 0 ∧ s.size ≤ 65534 := by simpa using hgo
            have HR5 : Hid (R = up) := by
              have := HR4.out
              rw [show decide (n = 0) = true by simpa using hn, show decide (s.size ≤ 65534) = true by simpa using hs] at this
              exact this.symm
            have bn : (n == 0) = true := by rw [hn]; rfl
            have bs : decide ((s.size : Int) ≤ 65534) = true := by simp; omega
            have c := fun W => c29 W hs
            clear hgo HR4 hn c29
            all_goals go_wp2_with (first | (go_at_call 122; refine (c _).mono ?_; rintro e W6 ⟨rfl, hb6⟩) | fail)
            all_goals go_ret
            all_goals exact ⟨by rw [HR5.out]; rfl, HB5.out.trans (hb6.mono HB5.out.size)⟩
          · have HR5 : Hid (R = false) := by
              have := HR4.out
              show R = false
              rw [← this]
              have : (ok && (decide (n = 0) && decide (s.size ≤ 65534))) = false := by simpa using hgo
              revert this
              cases ok <;> cases decide (n = 0) <;> cases decide (s.size ≤ 65534) <;> simp
            have hor : ok = false ∨ (ok = true ∧ (n == 0) = false) ∨ (ok = true ∧ (n == 0) = true ∧ ¬ s.size ≤ 65534 ∧ decide ((s.size : Int) ≤ 65534) = false) := by
              cases ok with
              | false => exact .inl rfl
              | true =>
                right
                by_cases hn : n = 0
                · have hs : ¬ s.size ≤ 65534 := fun hs => hgo (by simp [hn, hs])
                  exact .inr ⟨rfl, by rw [hn]; rfl, hs, by simp; omega⟩
                · exact .inl ⟨rfl, beq_eq_false_iff_ne.2 hn⟩
            clear hgo HR4 c29
            rcases hor with rfl | ⟨rfl, bn⟩ | ⟨rfl, bn, bs, bs2⟩
            all_goals go_wp2
            all_goals go_ret
            all_goals exact ⟨by rw [HR5.out]; rfl, HB5.out⟩
end Go.Proofs.YtoikdpjjcnmgeaaGreatDoor
end

section
/-
  DERIVED. How many bytes nodes have: the program's count.
-/
namespace Go.Proofs.YtoikdpjjcnmgeaaGreatDoor
open Go Go.Proofs Go.RowKit
open Wk (Nd NV goN)

theorem sz1_le (x : Bool) (a : Nd) (h : a.s.size ≤ 65534) : (encOf x).sz1 a ≤ 65600 := by
  unfold Enc.sz1
  rw [encOf_pv, pvL_len]
  have : (encOf x).hs a ≤ 12 := by
    cases x with
    | false => show 8 ≤ 12; omega
    | true => show (if Rp.lo (Rp.vn a.v) = true then 12 else 8) ≤ 12; split <;> omega
  split <;> omega

set_option maxRecDepth 100000 in
set_option maxHeartbeats 4000000 in
theorem szI_any (w : World) (a : Option Addr) (n cap : Nat) (L : List Nd) (hV : NV w a n cap L) (hT : TagsOk L) (hn : n ≤ 4096) (hs : ∀ x ∈ L, x.s.size ≤ 65534) :
    Calls Tryz.prog 56 #[.slice a n cap, .iface 107 (.agg #[])] w fun e w' => e = .returned (.int .i64 (encI.szP L : Int)) ∧ Below w.heap.size w w' := by
  have HV : Hid (NV w a n cap L) := hV
  have HT : Hid (TagsOk L) := hT
  have HS : Hid (∀ x ∈ L, x.s.size ≤ 65534) := hs
  have HN : Hid (n = L.length) := hV.len
  have m1 := mI_hs
  have m2 := mI_un
  clear hV hT hs
  go_enter Tryz.func56, Tryz.ntmps56
  go_wp2
  go_loopw [5, 10] (fun x5 x10 wr => ∃ i k : Nat, x10 = .int .i64 (i : Int) ∧ x5 = .int .i64 (k : Int) ∧ i ≤ n ∧ k ≤ i * 65600 ∧ Hid (encI.szP (L.take i) = k ∧ Below w.heap.size w wr)) (fun _ x10 _ => n - (intOf x10).toNat)
  case atStart => exact ⟨0, 0, rfl, rfl, by omega, by omega, by simp [Enc.szP], Below.refl _ _⟩
  case round =>
    obtain ⟨i, k, rfl, rfl, hin, hk, HI⟩ := hrel
    by_cases hlt : i < n
    · have hltI : decide ((i : Int) < (n : Int)) = true := by simp; omega
      obtain ⟨b, off, hl, rfl, e0, e1, e2, e3⟩ := NV.cells (HV.out.on HI.out.2) hlt
      have htg := HT.out _ (List.getElem_mem hl)
      have hss := HS.out _ (List.getElem_mem hl)
      have HX : Hid (encI.szP (L.take (i + 1)) = k + encI.sz1 (L[i]'hl)) := by show _ = _; rw [Enc.szP_snoc encI hl, HI.out.1]
      have hL1 : encI.sz1 (L[i]'hl) ≤ 65600 := sz1_le false _ hss
      generalize L[i]'hl = q at e0 e1 e2 e3 htg hss HX hL1
      obtain ⟨t, v, z, s⟩ := q
      simp only at e0 e1 e2 e3 htg hss
      obtain ⟨tn, rfl⟩ : ∃ tn : Nat, t = (tn : Int) := ⟨t.toNat, by omega⟩
      have htn : tn < 4294967296 := by omega
      obtain ⟨un, hun⟩ : ∃ un, encI.und ⟨(tn : Int), v, z, s⟩ = un := ⟨_, rfl⟩
      obtain ⟨hh, hhh⟩ : ∃ hh, encI.hs ⟨(tn : Int), v, z, s⟩ = hh := ⟨_, rfl⟩
      have HY : Hid (encI.sz1 ⟨(tn : Int), v, z, s⟩ = hh + (s.size + s.size % 2) + (if un = true then 8 else 0)) := by show encI.hs ⟨(tn : Int), v, z, s⟩ + (pvL v s).length + _ = _; rw [pvL_len, hun, hhh]
      have cu := fun W => unI_ok W tn htn v z s un hun
      have ch := fun W => hsI_ok W (tn : Int) v z s hh hhh
      obtain ⟨k2, hk2⟩ : ∃ k2 : Nat, k + (hh + (s.size + s.size % 2)) = k2 := ⟨_, rfl⟩
      have hk2l : k2 + (if un = true then 8 else 0) ≤ (i + 1) * 65600 := by have := HY.out; omega
      have HE : Hid (encI.szP (L.take (i + 1)) = k2 + (if un = true then 8 else 0)) := by show _ = _; rw [HX.out, HY.out]; omega
      have hK : IntKind.i64.wrap ((k : Int) + IntKind.i64.wrap (IntKind.i64.wrap ((hh : Int) + (s.size : Int)) + Int.tmod (s.size : Int) 2)) = (k2 : Int) := by
        have hr0 : 0 ≤ (s.size : Int) % 2 ∧ (s.size : Int) % 2 < 2 := by omega
        rw [Int.tmod_eq_emod_of_nonneg (by omega), Go.IntWalk.i64_in ((hh : Int) + (s.size : Int)) (by omega), Go.IntWalk.i64_in ((hh : Int) + (s.size : Int) + _) (by omega), Go.IntWalk.i64_in _ (by omega)]
        omega
      have HK : Hid _ := hK
      have HK2 : Hid (k2 ≤ 300000000) := by show _ ≤ _; split at hk2l <;> omega
      have HKL : Hid _ := hk2l
      clear hun htg hhh HX HY hL1 hk2 hK hk2l
      obtain ⟨W1, hW1⟩ : ∃ W1, wr.alloc (.cells #[.int .u32 (tn : Int), .int .i64 v, .int .i64 z, .string s] 54) = W1 := ⟨_, rfl⟩
      have hb1 : Below wr.heap.size wr W1 := by rw [← hW1]; exact (Below.refl _ _).alloc (Nat.le_refl _) _
      have HN1 : Hid (NC W1 wr.heap.size (tn : Int) v z s) := by rw [← hW1]; exact ⟨by simp, by simp, by simp, by simp⟩
      have HB1 : Hid (Below w.heap.size w W1) := HI.out.2.trans (hb1.mono HI.out.2.size)
      obtain ⟨y0, y1, y2, y3⟩ := HN1.out
      clear hb1
      go_wp2
      clear hW1
      go_region_held3 (fun w' => w'.cell? ⟨wr.heap.size, 0, none⟩ = some (.int .u32 (tn : Int)) ∧ w'.cell? ⟨wr.heap.size, 1, none⟩ = some (.int .i64 v) ∧ w'.cell? ⟨wr.heap.size, 2, none⟩ = some (.int .i64 z) ∧ w'.cell? ⟨wr.heap.size, 3, none⟩ = some (.string s)) (first | (go_keep; done) | exact ⟨by assumption, by assumption, by assumption, by assumption⟩) (first | (go_at_call 261; refine Calls.mono (ch _) ?_; rintro e W2 ⟨rfl, hb2⟩; have u0 : W2.cell? ⟨wr.heap.size, 0, none⟩ = some (.int .u32 (tn : Int)) := (hb2.cell (p := ⟨wr.heap.size, 0, none⟩) (Rp.cell_lt y0)).trans y0; have u1 : W2.cell? ⟨wr.heap.size, 1, none⟩ = some (.int .i64 v) := (hb2.cell (p := ⟨wr.heap.size, 1, none⟩) (Rp.cell_lt y1)).trans y1; have u2 : W2.cell? ⟨wr.heap.size, 2, none⟩ = some (.int .i64 z) := (hb2.cell (p := ⟨wr.heap.size, 2, none⟩) (Rp.cell_lt y2)).trans y2; have u3 : W2.cell? ⟨wr.heap.size, 3, none⟩ = some (.string s) := (hb2.cell (p := ⟨wr.heap.size, 3, none⟩) (Rp.cell_lt y3)).trans y3))
      rw [HK.out]
      have HB2 : Hid (Below w.heap.size w W2) := HB1.out.drew.trans (hb2.mono HB1.out.drew.size)
      have hk2u := HK2.out
      clear hb2 y0 y1 y2 y3
      cases un with
      | false =>
        go_wp2_with (first | (go_at_call 262; refine Calls.mono (cu _) ?_; rintro e W3 ⟨rfl, hb3⟩) | fail)
        go_roundw
        case rel => exact ⟨i + 1, k2, by go_num, rfl, by omega, by have := HKL.out; simp at this; omega, by rw [HE.out]; simp, HB2.out.trans (hb3.mono HB2.out.size)⟩
        case measure => simp [intOf]; omega
      | true =>
        go_wp2_with (first | (go_at_call 262; refine Calls.mono (cu _) ?_; rintro e W3 ⟨rfl, hb3⟩) | fail)
        go_roundw
        case rel => exact ⟨i + 1, k2 + 8, by go_num, by go_num, by omega, by have := HKL.out; simp at this; omega, by rw [HE.out]; simp, HB2.out.trans (hb3.mono HB2.out.size)⟩
        case measure => simp [intOf]; omega
    · obtain rfl : i = n := by omega
      have hltI : decide ((i : Int) < (i : Int)) = false := by simp
      have HE : Hid (encI.szP L = k) := by have := HI.out.1; rw [HN.out, List.take_length] at this; exact this
      go_wp2
      go_ret
      exact ⟨by rw [HE.out]; rfl, HI.out.2⟩
set_option maxRecDepth 100000 in
set_option maxHeartbeats 4000000 in
theorem szE_any (w : World) (a : Option Addr) (n cap : Nat) (L : List Nd) (hV : NV w a n cap L) (hT : TagsOk L) (hn : n ≤ 4096) (hs : ∀ x ∈ L, x.s.size ≤ 65534) :
    Calls Tryz.prog 56 #[.slice a n cap, .iface 108 (.agg #[])] w fun e w' => e = .returned (.int .i64 (encE.szP L : Int)) ∧ Below w.heap.size w w' := by
  have HV : Hid (NV w a n cap L) := hV
  have HT : Hid (TagsOk L) := hT
  have HS : Hid (∀ x ∈ L, x.s.size ≤ 65534) := hs
  have HN : Hid (n = L.length) := hV.len
  have m1 := mE_hs
  have m2 := mE_un
  clear hV hT hs
  go_enter Tryz.func56, Tryz.ntmps56
  go_wp2
  go_loopw [5, 10] (fun x5 x10 wr => ∃ i k : Nat, x10 = .int .i64 (i : Int) ∧ x5 = .int .i64 (k : Int) ∧ i ≤ n ∧ k ≤ i * 65600 ∧ Hid (encE.szP (L.take i) = k ∧ Below w.heap.size w wr)) (fun _ x10 _ => n - (intOf x10).toNat)
  case atStart => exact ⟨0, 0, rfl, rfl, by omega, by omega, by simp [Enc.szP], Below.refl _ _⟩
  case round =>
    obtain ⟨i, k, rfl, rfl, hin, hk, HI⟩ := hrel
    by_cases hlt : i < n
    · have hltI : decide ((i : Int) < (n : Int)) = true := by simp; omega
      obtain ⟨b, off, hl, rfl, e0, e1, e2, e3⟩ := NV.cells (HV.out.on HI.out.2) hlt
      have htg := HT.out _ (List.getElem_mem hl)
      have hss := HS.out _ (List.getElem_mem hl)
      have HX : Hid (encE.szP (L.take (i + 1)) = k + encE.sz1 (L[i]'hl)) := by show _ = _; rw [Enc.szP_snoc encE hl, HI.out.1]
      have hL1 : encE.sz1 (L[i]'hl) ≤ 65600 := sz1_le true _ hss
      generalize L[i]'hl = q at e0 e1 e2 e3 htg hss HX hL1
      obtain ⟨t, v, z, s⟩ := q
      simp only at e0 e1 e2 e3 htg hss
      obtain ⟨tn, rfl⟩ : ∃ tn : Nat, t = (tn : Int) := ⟨t.toNat, by omega⟩
      have htn : tn < 4294967296 := by omega
      obtain ⟨un, hun⟩ : ∃ un, encE.und ⟨(tn : Int), v, z, s⟩ = un := ⟨_, rfl⟩
      obtain ⟨hh, hhh⟩ : ∃ hh, encE.hs ⟨(tn : Int), v, z, s⟩ = hh := ⟨_, rfl⟩
      have HY : Hid (encE.sz1 ⟨(tn : Int), v, z, s⟩ = hh + (s.size + s.size % 2) + (if un = true then 8 else 0)) := by show encE.hs ⟨(tn : Int), v, z, s⟩ + (pvL v s).length + _ = _; rw [pvL_len, hun, hhh]
      have cu := fun W => unE_ok W tn htn v z s un hun
      have ch := fun W => hsE_ok W (tn : Int) v z s hh hhh
      obtain ⟨k2, hk2⟩ : ∃ k2 : Nat, k + (hh + (s.size + s.size % 2)) = k2 := ⟨_, rfl⟩
      have hk2l : k2 + (if un = true then 8 else 0) ≤ (i + 1) * 65600 := by have := HY.out; omega
      have HE : Hid (encE.szP (L.take (i + 1)) = k2 + (if un = true then 8 else 0)) := by show _ = _; rw [HX.out, HY.out]; omega
      have hK : IntKind.i64.wrap ((k : Int) + IntKind.i64.wrap (IntKind.i64.wrap ((hh : Int) + (s.size : Int)) + Int.tmod (s.size : Int) 2)) = (k2 : Int) := by
        have hr0 : 0 ≤ (s.size : Int) % 2 ∧ (s.size : Int) % 2 < 2 := by omega
        rw [Int.tmod_eq_emod_of_nonneg (by omega), Go.IntWalk.i64_in ((hh : Int) + (s.size : Int)) (by omega), Go.IntWalk.i64_in ((hh : Int) + (s.size : Int) + _) (by omega), Go.IntWalk.i64_in _ (by omega)]
        omega
      have HK : Hid _ := hK
      have HK2 : Hid (k2 ≤ 300000000) := by show _ ≤ _; split at hk2l <;> omega
      have HKL : Hid _ := hk2l
      clear hun htg hhh HX HY hL1 hk2 hK hk2l
      obtain ⟨W1, hW1⟩ : ∃ W1, wr.alloc (.cells #[.int .u32 (tn : Int), .int .i64 v, .int .i64 z, .string s] 54) = W1 := ⟨_, rfl⟩
      have hb1 : Below wr.heap.size wr W1 := by rw [← hW1]; exact (Below.refl _ _).alloc (Nat.le_refl _) _
      have HN1 : Hid (NC W1 wr.heap.size (tn : Int) v z s) := by rw [← hW1]; exact ⟨by simp, by simp, by simp, by simp⟩
      have HB1 : Hid (Below w.heap.size w W1) := HI.out.2.trans (hb1.mono HI.out.2.size)
      obtain ⟨y0, y1, y2, y3⟩ := HN1.out
      clear hb1
      go_wp2
      clear hW1
      go_region_held3 (fun w' => w'.cell? ⟨wr.heap.size, 0, none⟩ = some (.int .u32 (tn : Int)) ∧ w'.cell? ⟨wr.heap.size, 1, none⟩ = some (.int .i64 v) ∧ w'.cell? ⟨wr.heap.size, 2, none⟩ = some (.int .i64 z) ∧ w'.cell? ⟨wr.heap.size, 3, none⟩ = some (.string s)) (first | (go_keep; done) | exact ⟨by assumption, by assumption, by assumption, by assumption⟩) (first | (go_at_call 265; refine Calls.mono (ch _) ?_; rintro e W2 ⟨rfl, hb2⟩; have u0 : W2.cell? ⟨wr.heap.size, 0, none⟩ = some (.int .u32 (tn : Int)) := (hb2.cell (p := ⟨wr.heap.size, 0, none⟩) (Rp.cell_lt y0)).trans y0; have u1 : W2.cell? ⟨wr.heap.size, 1, none⟩ = some (.int .i64 v) := (hb2.cell (p := ⟨wr.heap.size, 1, none⟩) (Rp.cell_lt y1)).trans y1; have u2 : W2.cell? ⟨wr.heap.size, 2, none⟩ = some (.int .i64 z) := (hb2.cell (p := ⟨wr.heap.size, 2, none⟩) (Rp.cell_lt y2)).trans y2; have u3 : W2.cell? ⟨wr.heap.size, 3, none⟩ = some (.string s) := (hb2.cell (p := ⟨wr.heap.size, 3, none⟩) (Rp.cell_lt y3)).trans y3))
      rw [HK.out]
      have HB2 : Hid (Below w.heap.size w W2) := HB1.out.drew.trans (hb2.mono HB1.out.drew.size)
      have hk2u := HK2.out
      clear hb2 y0 y1 y2 y3
      cases un with
      | false =>
        go_wp2_with (first | (go_at_call 266; refine Calls.mono (cu _) ?_; rintro e W3 ⟨rfl, hb3⟩) | fail)
        go_roundw
        case rel => exact ⟨i + 1, k2, by go_num, rfl, by omega, by have := HKL.out; simp at this; omega, by rw [HE.out]; simp, HB2.out.trans (hb3.mono HB2.out.size)⟩
        case measure => simp [intOf]; omega
      | true =>
        go_wp2_with (first | (go_at_call 266; refine Calls.mono (cu _) ?_; rintro e W3 ⟨rfl, hb3⟩) | fail)
        go_roundw
        case rel => exact ⟨i + 1, k2 + 8, by go_num, by go_num, by omega, by have := HKL.out; simp at this; omega, by rw [HE.out]; simp, HB2.out.trans (hb3.mono HB2.out.size)⟩
        case measure => simp [intOf]; omega
    · obtain rfl : i = n := by omega
      have hltI : decide ((i : Int) < (i : Int)) = false := by simp
      have HE : Hid (encE.szP L = k) := by have := HI.out.1; rw [HN.out, List.take_length] at this; exact this
      go_wp2
      go_ret
      exact ⟨by rw [HE.out]; rfl, HI.out.2⟩
end Go.Proofs.YtoikdpjjcnmgeaaGreatDoor
end
