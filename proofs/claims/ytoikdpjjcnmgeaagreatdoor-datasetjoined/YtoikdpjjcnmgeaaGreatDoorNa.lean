import Derived.Test.YtoikdpjjcnmgeaaGreatDoorBa
import Derived.Test.YtoikdpjjcnmgeaaGreatDoorBe
import Derived.Test.YtoikdpjjcnmgeaaGreatDoorIa
import Derived.Deep.RegionHeld3
import Derived.Deep.RegionLawGrows
import Derived.Test.YtoikdpjjcnmgeaaGreatDoorLa
section
/-
  DERIVED. What the two syntaxes ask of a node and lay down of it: the program's.
-/
namespace Go.Proofs.YtoikdpjjcnmgeaaGreatDoor
open Go Go.Proofs Go.RowKit
open Wk (Nd NV goN)

/-- A node, as a value. -/
abbrev ndV (t v z : Int) (s : ByteArray) : Value := .agg #[.int .u32 t, .int .i64 v, .int .i64 z, .string s]

theorem mI_hs (w : World) : (Go.method 414 107 (.agg #[]) "modality/dataset.headSize").run Tryz.prog w = .ok (261, .agg #[]) w := by kernel_rfl
theorem mI_un (w : World) : (Go.method 414 107 (.agg #[]) "modality/dataset.isUndefined").run Tryz.prog w = .ok (262, .agg #[]) w := by kernel_rfl
theorem mI_ph (w : World) : (Go.method 414 107 (.agg #[]) "modality/dataset.putHead").run Tryz.prog w = .ok (263, .agg #[]) w := by kernel_rfl
theorem mE_hs (w : World) : (Go.method 414 108 (.agg #[]) "modality/dataset.headSize").run Tryz.prog w = .ok (265, .agg #[]) w := by kernel_rfl
theorem mE_un (w : World) : (Go.method 414 108 (.agg #[]) "modality/dataset.isUndefined").run Tryz.prog w = .ok (266, .agg #[]) w := by kernel_rfl
theorem mE_ph (w : World) : (Go.method 414 108 (.agg #[]) "modality/dataset.putHead").run Tryz.prog w = .ok (267, .agg #[]) w := by kernel_rfl
set_option maxRecDepth 100000 in
theorem hsI_any (w : World) (t v z : Int) (s : ByteArray) : Calls Tryz.prog 261 #[.agg #[], ndV t v z s] w fun e w' => e = .returned (.int .i64 8) ∧ Below w.heap.size w w' := by
  go_enter Tryz.func261, Tryz.ntmps261
  go_wp2
  go_ret
  exact ⟨rfl, ((Below.refl _ _).alloc (Nat.le_refl _) _).alloc (by simp) _⟩
set_option maxRecDepth 100000 in
theorem unE_any (w : World) (t v z : Int) (s : ByteArray) : Calls Tryz.prog 266 #[.agg #[], ndV t v z s] w fun e w' => e = .returned (.bool false) ∧ Below w.heap.size w w' := by
  go_enter Tryz.func266, Tryz.ntmps266
  go_wp2
  go_ret
  exact ⟨rfl, ((Below.refl _ _).alloc (Nat.le_refl _) _).alloc (by simp) _⟩
set_option maxRecDepth 100000 in
theorem unI_any (w : World) (t : Nat) (ht : t < 4294967296) (v z : Int) (s : ByteArray) (r : Bool) (hr : encI.und ⟨(t : Int), v, z, s⟩ = r) : Calls Tryz.prog 262 #[.agg #[], ndV (t : Int) v z s] w fun e w' => e = .returned (.bool r) ∧ Below w.heap.size w w' := by
  have hr2 : (decide (v = 18) && !(Tb.docF t (Tb.upTo 10)).isSome) = r := hr
  by_cases hv : v = 18
  · have HR : Hid ((!(Tb.docF t (Tb.upTo 10)).isSome) = r) := by show _ = _; rw [← hr2, decide_eq_true hv]; rfl
    have bv : (v == 18) = true := by rw [hv]; rfl
    clear hr hr2 hv
    have c := fun W => known_any W t ht
    generalize (Tb.docF t (Tb.upTo 10)).isSome = k at c HR
    go_enter Tryz.func262, Tryz.ntmps262
    go_wp2_with (first | (go_at_call 46; refine (c _).mono ?_; rintro e W1 ⟨rfl, hb⟩) | fail)
    go_ret
    refine ⟨by rw [← HR.out]; rfl, ?_⟩
    have h0 : Below w.heap.size w ((w.alloc (.cells #[] 107)).alloc (.cells #[.int .u32 (t : Int), .int .i64 v, .int .i64 z, .string s] 54)) := ((Below.refl _ _).alloc (Nat.le_refl _) _).alloc (by simp) _
    exact h0.trans (hb.mono h0.size)
  · have HR : Hid (false = r) := by show _ = _; rw [← hr2, decide_eq_false hv]; rfl
    have bv : (v == 18) = false := beq_eq_false_iff_ne.2 hv
    clear hr hr2 hv
    go_enter Tryz.func262, Tryz.ntmps262
    go_wp2
    go_ret
    exact ⟨by rw [← HR.out]; rfl, ((Below.refl _ _).alloc (Nat.le_refl _) _).alloc (by simp) _⟩
set_option maxRecDepth 100000 in
theorem hsE_any (w : World) (t v z : Int) (s : ByteArray) (r : Nat) (hr : (if Rp.lo (Rp.vn v) = true then 12 else 8) = r) : Calls Tryz.prog 265 #[.agg #[], ndV t v z s] w fun e w' => e = .returned (.int .i64 (r : Int)) ∧ Below w.heap.size w w' := by
  have c := fun W => Rp.long_any W v
  have h0 : Below w.heap.size w ((w.alloc (.cells #[] 108)).alloc (.cells #[.int .u32 t, .int .i64 v, .int .i64 z, .string s] 54)) := ((Below.refl _ _).alloc (Nat.le_refl _) _).alloc (by simp) _
  have HR : Hid _ := hr
  clear hr
  cases hl : Rp.lo (Rp.vn v) with
  | true =>
    have HR2 : Hid (12 = r) := by have := HR.out; rw [if_pos hl] at this; exact this
    rw [hl] at c
    clear hl HR
    go_enter Tryz.func265, Tryz.ntmps265
    go_wp2_with (first | (go_at_call 269; refine (c _).mono ?_; rintro e W1 ⟨rfl, hb⟩) | fail)
    go_ret
    exact ⟨by rw [← HR2.out]; rfl, h0.trans (hb.mono h0.size)⟩
  | false =>
    have HR2 : Hid (8 = r) := by have := HR.out; rw [if_neg (by rw [hl]; decide)] at this; exact this
    rw [hl] at c
    clear hl HR
    go_enter Tryz.func265, Tryz.ntmps265
    go_wp2_with (first | (go_at_call 269; refine (c _).mono ?_; rintro e W1 ⟨rfl, hb⟩) | fail)
    go_ret
    exact ⟨by rw [← HR2.out]; rfl, h0.trans (hb.mono h0.size)⟩
set_option maxRecDepth 100000 in
theorem phI_any (w : World) (base : Nat) (b : Value) (ys : List UInt8) (t n : Nat) (ht : t < 4294967296) (hn : n < 4294967296) (v z : Int) (s : ByteArray) (hown : Ob base w b ys) (hb : base ≤ w.heap.size) (hl : ys.length ≤ 30000000) :
    Calls Tryz.prog 263 #[.agg #[], b, ndV (t : Int) v z s, .int .u32 (n : Int)] w fun e w' => ∃ u, e = .returned u ∧ Hid (Ob base w' u (ys ++ plL t n)) ∧ Hid (By base w w') := by
  obtain ⟨W, hW⟩ : ∃ W, (w.alloc (.cells #[] 107)).alloc (.cells #[.int .u32 (t : Int), .int .i64 v, .int .i64 z, .string s] 54) = W := ⟨_, rfl⟩
  have h0 : Below w.heap.size w W := by rw [← hW]; exact ((Below.refl _ _).alloc (Nat.le_refl _) _).alloc (by simp) _
  have k0 : W.cell? ⟨w.heap.size + 1, 0, none⟩ = some (.int .u32 (t : Int)) := by rw [← hW]; simp
  have c := putPlain_any W base b ys t n ht hn (hown.on h0) (Nat.le_trans hb h0.size) hl
  have H0 : Hid (By base w W) := By.of h0 hb
  clear hown hb h0
  go_enter Tryz.func263, Tryz.ntmps263
  go_wp2_with (go_at_call 109; refine StopB.out ?_)
  refine ⟨Calls.mono c ?_⟩
  rintro e W1 ⟨u, rfl, ho, hby⟩
  go_wp2
  go_ret
  exact ⟨_, rfl, ho, H0.out.trans hby.out⟩
theorem hsI_ok (w : World) (t v z : Int) (s : ByteArray) (r : Nat) (hr : encI.hs ⟨t, v, z, s⟩ = r) : Calls Tryz.prog 261 #[.agg #[], ndV t v z s] w fun e w' => e = .returned (.int .i64 (r : Int)) ∧ Below w.heap.size w w' := by
  have hr2 : 8 = r := hr
  rw [← hr2]
  exact hsI_any w t v z s
theorem hsE_ok (w : World) (t v z : Int) (s : ByteArray) (r : Nat) (hr : encE.hs ⟨t, v, z, s⟩ = r) : Calls Tryz.prog 265 #[.agg #[], ndV t v z s] w fun e w' => e = .returned (.int .i64 (r : Int)) ∧ Below w.heap.size w w' := hsE_any w t v z s r hr
theorem unI_ok (w : World) (t : Nat) (ht : t < 4294967296) (v z : Int) (s : ByteArray) (r : Bool) (hr : encI.und ⟨(t : Int), v, z, s⟩ = r) : Calls Tryz.prog 262 #[.agg #[], ndV (t : Int) v z s] w fun e w' => e = .returned (.bool r) ∧ Below w.heap.size w w' := unI_any w t ht v z s r hr
theorem unE_ok (w : World) (t : Nat) (_ : t < 4294967296) (v z : Int) (s : ByteArray) (r : Bool) (hr : encE.und ⟨(t : Int), v, z, s⟩ = r) : Calls Tryz.prog 266 #[.agg #[], ndV (t : Int) v z s] w fun e w' => e = .returned (.bool r) ∧ Below w.heap.size w w' := by
  have hr2 : false = r := hr
  rw [← hr2]
  exact unE_any w (t : Int) v z s
theorem phI_ok (w : World) (base : Nat) (b : Value) (ys : List UInt8) (t n : Nat) (ht : t < 4294967296) (hn : n < 4294967296) (v z : Int) (s : ByteArray) (_ : v = 29 ∨ (1 ≤ v ∧ v ≤ 28)) (hown : Ob base w b ys) (hb : base ≤ w.heap.size) (hl : ys.length ≤ 30000000) :
    Calls Tryz.prog 263 #[.agg #[], b, ndV (t : Int) v z s, .int .u32 (n : Int)] w fun e w' => ∃ u, e = .returned u ∧ Hid (Ob base w' u (ys ++ encI.hd ⟨(t : Int), v, z, s⟩ n)) ∧ Hid (By base w w') := phI_any w base b ys t n ht hn v z s hown hb hl
end Go.Proofs.YtoikdpjjcnmgeaaGreatDoor
end

section
/-
  DERIVED. A head with letters: the program's.
-/
namespace Go.Proofs.YtoikdpjjcnmgeaaGreatDoor
open Go Go.Proofs Go.RowKit
open Wk (Nd NV goN)

set_option maxRecDepth 100000 in
set_option maxHeartbeats 4000000 in
theorem phE_ok (w : World) (base : Nat) (b : Value) (ys : List UInt8) (t n : Nat) (ht : t < 4294967296) (hn : n < 4294967296) (v z : Int) (s : ByteArray) (hv : v = 29 ∨ (1 ≤ v ∧ v ≤ 28)) (hown : Ob base w b ys) (hb : base ≤ w.heap.size) (hl : ys.length ≤ 30000000) :
    Calls Tryz.prog 267 #[.agg #[], b, ndV (t : Int) v z s, .int .u32 (n : Int)] w fun e w' => ∃ u, e = .returned u ∧ Hid (Ob base w' u (ys ++ encE.hd ⟨(t : Int), v, z, s⟩ n)) ∧ Hid (By base w w') := by
  obtain ⟨W, hW⟩ : ∃ W, (w.alloc (.cells #[] 108)).alloc (.cells #[.int .u32 (t : Int), .int .i64 v, .int .i64 z, .string s] 54) = W := ⟨_, rfl⟩
  have h0 : Below w.heap.size w W := by rw [← hW]; exact ((Below.refl _ _).alloc (Nat.le_refl _) _).alloc (by simp) _
  have k0 : W.cell? ⟨w.heap.size + 1, 0, none⟩ = some (.int .u32 (t : Int)) := by rw [← hW]; simp
  have k1 : W.cell? ⟨w.heap.size + 1, 1, none⟩ = some (.int .i64 v) := by rw [← hW]; simp
  have KB : Hid (W.heap[w.heap.size + 1]? = some (.cells #[.int .u32 (t : Int), .int .i64 v, .int .i64 z, .string s] 54 (0, 0))) := by
    show _ = _
    rw [← hW]
    have := Wk.heap_new (w.alloc (.cells #[] 108)) (.cells #[.int .u32 (t : Int), .int .i64 v, .int .i64 z, .string s] 54)
    rw [Wk.size_alloc] at this
    exact this
  have H0 : Hid (By base w W) := By.of h0 hb
  have HO : Hid (Ob base W b ys) := hown.on h0
  have HBW : Hid (base ≤ W.heap.size) := Nat.le_trans hb h0.size
  clear hown hb h0
  by_cases h29 : v = 29
  · have b29 : (v == 29) = true := by rw [h29]; rfl
    have HD : Hid (encE.hd ⟨(t : Int), v, z, s⟩ n = plL t n) := by show (if v = 29 then plL (t : Int).toNat n else _) = _; rw [if_pos h29]; rfl
    have c := putPlain_any W base b ys t n ht hn HO.out HBW.out hl
    clear h29 hv
    go_enter Tryz.func267, Tryz.ntmps267
    go_wp2_with (go_at_call 109; refine StopB.out ?_)
    refine ⟨Calls.mono c ?_⟩
    rintro e W1 ⟨u, rfl, ho, hby⟩
    go_wp2
    go_ret
    exact ⟨_, rfl, by rw [HD.out]; exact ho, H0.out.trans hby.out⟩
  · have b29 : (v == 29) = false := beq_eq_false_iff_ne.2 h29
    have HV : Hid (1 ≤ v ∧ v ≤ 28) := hv.resolve_left h29
    have HD : Hid (encE.hd ⟨(t : Int), v, z, s⟩ n = exL t v n) := by show (if v = 29 then _ else exL (t : Int).toNat v n) = _; rw [if_neg h29]; rfl
    clear h29 hv
    go_enter Tryz.func267, Tryz.ntmps267
    have c58 := fun X (hX : Below W.heap.size W X) => putTag_any X base b ys t ht (HO.out.on hX) (Nat.le_trans HBW.out hX.size) (by omega)
    have c225 := fun X => Rp.vrword_any X v
    have HN : Hid ((Rp.nm (Rp.vn v)).data.toList = ltr v) := rfl
    have hnl : (Rp.nm (Rp.vn v)).size = 2 := ltr_len HV.out
    generalize Rp.nm (Rp.vn v) = nm at c225 HN hnl
    have C58 : Hid _ := c58
    have KK : Hid (∀ X X' : World, Below W.heap.size W X → By base X X' → X'.cell? ⟨w.heap.size + 1, 0, none⟩ = some (.int .u32 (t : Int)) ∧ X'.cell? ⟨w.heap.size + 1, 1, none⟩ = some (.int .i64 v)) := fun X X' hX hB => by
      have hlt : w.heap.size + 1 < W.heap.size := (Array.getElem?_eq_some_iff.1 KB.out).1
      have e1 : X.heap[w.heap.size + 1]? = W.heap[w.heap.size + 1]? := hX.block _ hlt
      have e2 : X'.heap[w.heap.size + 1]? = X.heap[w.heap.size + 1]? := hB.cell (e1.trans KB.out) (by decide)
      exact ⟨(World.cell?_of_block (e2.trans e1)).trans k0, (World.cell?_of_block (e2.trans e1)).trans k1⟩
    clear c58
    go_wp2
    clear hW
    go_region_law (first | (go_simp; go_at_call 129; refine Calls.mono (C58.out _ (by first | exact Below.refl _ _ | exact (Below.refl _ _).drew | exact Wk.below_drw (Below.refl _ _) _)) ?_; rintro e W1 ⟨u1, rfl, ho1, hb1⟩; obtain ⟨q0, q1⟩ := KK.out _ W1 (by first | exact Below.refl _ _ | exact (Below.refl _ _).drew | exact Wk.below_drw (Below.refl _ _) _) hb1.out) | (go_simp; go_at_call 270; refine Calls.mono (c225 _) ?_; rintro e W2 ⟨rfl, hb2⟩) | (refine step_text rfl (.tmp 20) (.tmp 23) rfl base _ _ (by simp [Act.eval]) (ho1.out.on hb2) nm (by simp [Act.eval]) (by rw [List.length_append, tagL_len, hnl]; omega) (Nat.le_trans (Nat.le_trans HBW.out hb1.out.size) hb2.size) ?_; intro u3 W3 ho3 hb3))
    all_goals have hBW : By base W W3 := (By.of (by first | exact Below.refl _ _ | exact (Below.refl _ _).drew | exact Wk.below_drw (Below.refl _ _) _) HBW.out).trans (hb1.out.trans ((By.of hb2 (Nat.le_trans HBW.out hb1.out.size)).trans hb3))
    all_goals have q3 : W3.cell? ⟨w.heap.size + 1, 1, none⟩ = some (.int .i64 v) := (World.cell?_of_block (hBW.cell KB.out (by decide))).trans k1
    all_goals have HO3 : Hid (Ob base W3 u3 (ys ++ tagL t ++ ltr v)) := by rw [← HN.out]; exact ho3
    all_goals have HB3 : Hid (By base w W3) := H0.out.trans hBW
    all_goals have HS3 : Hid (base ≤ W3.heap.size) := Nat.le_trans HBW.out hBW.size
    all_goals clear hBW ho3 hb3 hb2 hb1 ho1 k0 k1 q0 q1 C58 KK HO H0 HBW c225 HN
    all_goals have cl := Rp.long_any W3 v
    all_goals rcases hlo : Rp.lo (Rp.vn v) with _ | _
    all_goals rw [hlo] at cl
    all_goals first
      | (have HX : Hid (exL t v n = tagL t ++ ltr v ++ le 2 n) := by
           show _ = _
           rw [exL, if_neg (by rw [hlo]; decide)]
         clear hlo
         go_wp2_with (first | (go_at_call 269; refine Calls.mono cl ?_; rintro e W4 ⟨rfl, hb4⟩) | (go_at_call 128; refine StopB.out ?_))
         refine ⟨Calls.mono (put2_any W4 base u3 _ n hn (HO3.out.on hb4) (Nat.le_trans HS3.out hb4.size) (by rw [List.length_append, List.length_append, tagL_len, ltr_len HV.out]; omega)) ?_⟩
         rintro e W5 ⟨u5, rfl, ho5, hb5⟩
         go_wp2
         go_ret
         exact ⟨_, rfl, by rw [HD.out, HX.out, ← List.append_assoc, ← List.append_assoc]; exact ho5.out, HB3.out.trans ((By.of hb4 HS3.out).trans hb5.out)⟩)
      | (have HX : Hid (exL t v n = tagL t ++ ltr v ++ ([0, 0] ++ le 4 n)) := by
           show _ = _
           rw [exL, if_pos hlo]
         clear hlo
         go_wp2_with (first | (go_at_call 269; refine Calls.mono cl ?_; rintro e W4 ⟨rfl, hb4⟩) | (at_builtin; refine StopB.out ?_))
         have hb4' : Below W3.heap.size W3 (W4.alloc (.cells #[.int .u8 0, .int .u8 0] 5)) := hb4.alloc hb4.size _
         have hsz : base ≤ (W4.alloc (.cells #[.int .u8 0, .int .u8 0] 5)).heap.size := Nat.le_trans HS3.out hb4'.size
         refine ⟨app_bytes rfl (.tmp 28) (.tmp 29) rfl base _ _ rfl (HO3.out.on hb4') ⟨W4.heap.size, 0, none⟩ 2 2 [0, 0] rfl rfl (news_b rfl _ _ rfl _) (by rw [List.length_append, List.length_append, tagL_len, ltr_len HV.out]; omega) hsz ?_⟩
         intro u5 W5 ho5 hb5
         go_wp2_with (go_at_call 128; refine StopB.out ?_)
         refine ⟨Calls.mono (put4_any W5 base u5 _ n hn ho5 (Nat.le_trans hsz hb5.size) (by rw [List.length_append, List.length_append, List.length_append, tagL_len, ltr_len HV.out]; simp; omega)) ?_⟩
         rintro e W6 ⟨u6, rfl, ho6, hb6⟩
         go_wp2
         go_ret
         refine ⟨_, rfl, ?_, HB3.out.trans ((By.of hb4' HS3.out).trans (hb5.trans hb6.out))⟩
         rw [HD.out, HX.out, ← List.append_assoc, ← List.append_assoc, ← List.append_assoc]
         exact ho6.out)
end Go.Proofs.YtoikdpjjcnmgeaaGreatDoor
end

section
/-
  DERIVED. Nodes that lie there, one by one.
-/
namespace Go.Proofs.YtoikdpjjcnmgeaaGreatDoor
open Go Go.Proofs
open Wk (Nd NV)

/-- Tags are tags. -/
def TagsOk (L : List Nd) : Prop := ∀ x ∈ L, 0 ≤ x.t ∧ x.t < 4294967296
theorem NV.cells {w : World} {a : Option Addr} {n cap : Nat} {L : List Nd} (h : NV w a n cap L) {j : Nat} (hj : j < n) : ∃ (b off : Nat) (hl : j < L.length), a = some ⟨b, off, none⟩ ∧ w.cell? ⟨b, off + j * 4, none⟩ = some (.int .u32 (L[j]'hl).t) ∧ w.cell? ⟨b, off + j * 4 + 1, none⟩ = some (.int .i64 (L[j]'hl).v) ∧ w.cell? ⟨b, off + j * 4 + 2, none⟩ = some (.int .i64 (L[j]'hl).n) ∧ w.cell? ⟨b, off + j * 4 + 3, none⟩ = some (.string (L[j]'hl).s) := by
  have hl : j < L.length := by have := h.len; omega
  obtain ⟨b, off, ha, hb⟩ := h.lies (by omega)
  exact ⟨b, off, hl, ha, hb j hl⟩
end Go.Proofs.YtoikdpjjcnmgeaaGreatDoor
end
