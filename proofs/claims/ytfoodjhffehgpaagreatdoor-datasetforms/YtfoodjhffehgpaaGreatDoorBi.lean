import Derived.Test.YtfoodjhffehgpaaGreatDoorBa
import Derived.Test.YtfoodjhffehgpaaGreatDoorBe
import Derived.Test.YtfoodjhffehgpaaGreatDoorIa
import Derived.Deep.RegionHeld3
import Derived.Deep.RegionLawGrows
import Derived.Test.YtfoodjhffehgpaaGreatDoorBn
section
/-
  DERIVED. What the two syntaxes ask of a node and lay down of it: the program's.
-/
namespace Go.Proofs.YtfoodjhffehgpaaGreatDoor
open Go Go.Proofs Go.RowKit
open Wk (Nd NV goN)

/-- A node, as a value. -/
abbrev ndV (t v z : Int) (s : ByteArray) : Value := .agg #[.int .u32 t, .int .i64 v, .int .i64 z, .string s]

theorem mI_hs (w : World) : (Go.method 399 98 (.agg #[]) "modality/dataset.headSize").run Tryz.prog w = .ok (240, .agg #[]) w := by kernel_rfl
theorem mI_un (w : World) : (Go.method 399 98 (.agg #[]) "modality/dataset.isUndefined").run Tryz.prog w = .ok (241, .agg #[]) w := by kernel_rfl
theorem mI_ph (w : World) : (Go.method 399 98 (.agg #[]) "modality/dataset.putHead").run Tryz.prog w = .ok (242, .agg #[]) w := by kernel_rfl
theorem mE_hs (w : World) : (Go.method 399 99 (.agg #[]) "modality/dataset.headSize").run Tryz.prog w = .ok (247, .agg #[]) w := by kernel_rfl
theorem mE_un (w : World) : (Go.method 399 99 (.agg #[]) "modality/dataset.isUndefined").run Tryz.prog w = .ok (248, .agg #[]) w := by kernel_rfl
theorem mE_ph (w : World) : (Go.method 399 99 (.agg #[]) "modality/dataset.putHead").run Tryz.prog w = .ok (249, .agg #[]) w := by kernel_rfl
set_option maxRecDepth 100000 in
theorem hsI_any (w : World) (t v z : Int) (s : ByteArray) : Calls Tryz.prog 240 #[.agg #[], ndV t v z s] w fun e w' => e = .returned (.int .i64 8) ∧ Below w.heap.size w w' := by
  go_enter Tryz.func240, Tryz.ntmps240
  go_wp2
  go_ret
  exact ⟨rfl, ((Below.refl _ _).alloc (Nat.le_refl _) _).alloc (by simp) _⟩
set_option maxRecDepth 100000 in
theorem unE_any (w : World) (t v z : Int) (s : ByteArray) : Calls Tryz.prog 248 #[.agg #[], ndV t v z s] w fun e w' => e = .returned (.bool false) ∧ Below w.heap.size w w' := by
  go_enter Tryz.func248, Tryz.ntmps248
  go_wp2
  go_ret
  exact ⟨rfl, ((Below.refl _ _).alloc (Nat.le_refl _) _).alloc (by simp) _⟩
set_option maxRecDepth 100000 in
theorem unI_any (w : World) (t : Nat) (ht : t < 4294967296) (v z : Int) (s : ByteArray) (r : Bool) (hr : encI.und ⟨(t : Int), v, z, s⟩ = r) : Calls Tryz.prog 241 #[.agg #[], ndV (t : Int) v z s] w fun e w' => e = .returned (.bool r) ∧ Below w.heap.size w w' := by
  have hr2 : (decide (v = 18) && !(Tb.docF t (Tb.upTo 10)).isSome) = r := hr
  by_cases hv : v = 18
  · have HR : Hid ((!(Tb.docF t (Tb.upTo 10)).isSome) = r) := by show _ = _; rw [← hr2, decide_eq_true hv]; rfl
    have bv : (v == 18) = true := by rw [hv]; rfl
    clear hr hr2 hv
    have c := fun W => known_any W t ht
    generalize (Tb.docF t (Tb.upTo 10)).isSome = k at c HR
    go_enter Tryz.func241, Tryz.ntmps241
    go_wp2_with (first | (go_at_call 244; refine (c _).mono ?_; rintro e W1 ⟨rfl, hb⟩) | fail)
    go_ret
    refine ⟨by rw [← HR.out]; rfl, ?_⟩
    have h0 : Below w.heap.size w ((w.alloc (.cells #[] 98)).alloc (.cells #[.int .u32 (t : Int), .int .i64 v, .int .i64 z, .string s] 48)) := ((Below.refl _ _).alloc (Nat.le_refl _) _).alloc (by simp) _
    exact h0.trans (hb.mono h0.size)
  · have HR : Hid (false = r) := by show _ = _; rw [← hr2, decide_eq_false hv]; rfl
    have bv : (v == 18) = false := beq_eq_false_iff_ne.2 hv
    clear hr hr2 hv
    go_enter Tryz.func241, Tryz.ntmps241
    go_wp2
    go_ret
    exact ⟨by rw [← HR.out]; rfl, ((Below.refl _ _).alloc (Nat.le_refl _) _).alloc (by simp) _⟩
set_option maxRecDepth 100000 in
theorem hsE_any (w : World) (t v z : Int) (s : ByteArray) (r : Nat) (hr : (if Rp.lo (Rp.vn v) = true then 12 else 8) = r) : Calls Tryz.prog 247 #[.agg #[], ndV t v z s] w fun e w' => e = .returned (.int .i64 (r : Int)) ∧ Below w.heap.size w w' := by
  have c := fun W => Rp.long_any W v
  have h0 : Below w.heap.size w ((w.alloc (.cells #[] 99)).alloc (.cells #[.int .u32 t, .int .i64 v, .int .i64 z, .string s] 48)) := ((Below.refl _ _).alloc (Nat.le_refl _) _).alloc (by simp) _
  have HR : Hid _ := hr
  clear hr
  cases hl : Rp.lo (Rp.vn v) with
  | true =>
    have HR2 : Hid (12 = r) := by have := HR.out; rw [if_pos hl] at this; exact this
    rw [hl] at c
    clear hl HR
    go_enter Tryz.func247, Tryz.ntmps247
    go_wp2_with (first | (go_at_call 251; refine (c _).mono ?_; rintro e W1 ⟨rfl, hb⟩) | fail)
    go_ret
    exact ⟨by rw [← HR2.out]; rfl, h0.trans (hb.mono h0.size)⟩
  | false =>
    have HR2 : Hid (8 = r) := by have := HR.out; rw [if_neg (by rw [hl]; decide)] at this; exact this
    rw [hl] at c
    clear hl HR
    go_enter Tryz.func247, Tryz.ntmps247
    go_wp2_with (first | (go_at_call 251; refine (c _).mono ?_; rintro e W1 ⟨rfl, hb⟩) | fail)
    go_ret
    exact ⟨by rw [← HR2.out]; rfl, h0.trans (hb.mono h0.size)⟩
set_option maxRecDepth 100000 in
theorem phI_any (w : World) (base : Nat) (b : Value) (ys : List UInt8) (t n : Nat) (ht : t < 4294967296) (hn : n < 4294967296) (v z : Int) (s : ByteArray) (hown : Ob base w b ys) (hb : base ≤ w.heap.size) (hl : ys.length ≤ 30000000) :
    Calls Tryz.prog 242 #[.agg #[], b, ndV (t : Int) v z s, .int .u32 (n : Int)] w fun e w' => ∃ u, e = .returned u ∧ Hid (Ob base w' u (ys ++ plL t n)) ∧ Hid (By base w w') := by
  obtain ⟨W, hW⟩ : ∃ W, (w.alloc (.cells #[] 98)).alloc (.cells #[.int .u32 (t : Int), .int .i64 v, .int .i64 z, .string s] 48) = W := ⟨_, rfl⟩
  have h0 : Below w.heap.size w W := by rw [← hW]; exact ((Below.refl _ _).alloc (Nat.le_refl _) _).alloc (by simp) _
  have k0 : W.cell? ⟨w.heap.size + 1, 0, none⟩ = some (.int .u32 (t : Int)) := by rw [← hW]; simp
  have c := putPlain_any W base b ys t n ht hn (hown.on h0) (Nat.le_trans hb h0.size) hl
  have H0 : Hid (By base w W) := By.of h0 hb
  clear hown hb h0
  go_enter Tryz.func242, Tryz.ntmps242
  go_wp2_with (go_at_call 80; refine StopB.out ?_)
  refine ⟨Calls.mono c ?_⟩
  rintro e W1 ⟨u, rfl, ho, hby⟩
  go_wp2
  go_ret
  exact ⟨_, rfl, ho, H0.out.trans hby.out⟩
theorem hsI_ok (w : World) (t v z : Int) (s : ByteArray) (r : Nat) (hr : encI.hs ⟨t, v, z, s⟩ = r) : Calls Tryz.prog 240 #[.agg #[], ndV t v z s] w fun e w' => e = .returned (.int .i64 (r : Int)) ∧ Below w.heap.size w w' := by
  have hr2 : 8 = r := hr
  rw [← hr2]
  exact hsI_any w t v z s
theorem hsE_ok (w : World) (t v z : Int) (s : ByteArray) (r : Nat) (hr : encE.hs ⟨t, v, z, s⟩ = r) : Calls Tryz.prog 247 #[.agg #[], ndV t v z s] w fun e w' => e = .returned (.int .i64 (r : Int)) ∧ Below w.heap.size w w' := hsE_any w t v z s r hr
theorem unI_ok (w : World) (t : Nat) (ht : t < 4294967296) (v z : Int) (s : ByteArray) (r : Bool) (hr : encI.und ⟨(t : Int), v, z, s⟩ = r) : Calls Tryz.prog 241 #[.agg #[], ndV (t : Int) v z s] w fun e w' => e = .returned (.bool r) ∧ Below w.heap.size w w' := unI_any w t ht v z s r hr
theorem unE_ok (w : World) (t : Nat) (_ : t < 4294967296) (v z : Int) (s : ByteArray) (r : Bool) (hr : encE.und ⟨(t : Int), v, z, s⟩ = r) : Calls Tryz.prog 248 #[.agg #[], ndV (t : Int) v z s] w fun e w' => e = .returned (.bool r) ∧ Below w.heap.size w w' := by
  have hr2 : false = r := hr
  rw [← hr2]
  exact unE_any w (t : Int) v z s
theorem phI_ok (w : World) (base : Nat) (b : Value) (ys : List UInt8) (t n : Nat) (ht : t < 4294967296) (hn : n < 4294967296) (v z : Int) (s : ByteArray) (_ : v = 29 ∨ (1 ≤ v ∧ v ≤ 28)) (hown : Ob base w b ys) (hb : base ≤ w.heap.size) (hl : ys.length ≤ 30000000) :
    Calls Tryz.prog 242 #[.agg #[], b, ndV (t : Int) v z s, .int .u32 (n : Int)] w fun e w' => ∃ u, e = .returned u ∧ Hid (Ob base w' u (ys ++ encI.hd ⟨(t : Int), v, z, s⟩ n)) ∧ Hid (By base w w') := phI_any w base b ys t n ht hn v z s hown hb hl
end Go.Proofs.YtfoodjhffehgpaaGreatDoor
end

section
/-
  DERIVED. A head with letters: the program's.
-/
namespace Go.Proofs.YtfoodjhffehgpaaGreatDoor
open Go Go.Proofs Go.RowKit
open Wk (Nd NV goN)

set_option maxRecDepth 100000 in
set_option maxHeartbeats 4000000 in
theorem phE_ok (w : World) (base : Nat) (b : Value) (ys : List UInt8) (t n : Nat) (ht : t < 4294967296) (hn : n < 4294967296) (v z : Int) (s : ByteArray) (hv : v = 29 ∨ (1 ≤ v ∧ v ≤ 28)) (hown : Ob base w b ys) (hb : base ≤ w.heap.size) (hl : ys.length ≤ 30000000) :
    Calls Tryz.prog 249 #[.agg #[], b, ndV (t : Int) v z s, .int .u32 (n : Int)] w fun e w' => ∃ u, e = .returned u ∧ Hid (Ob base w' u (ys ++ encE.hd ⟨(t : Int), v, z, s⟩ n)) ∧ Hid (By base w w') := by
  obtain ⟨W, hW⟩ : ∃ W, (w.alloc (.cells #[] 99)).alloc (.cells #[.int .u32 (t : Int), .int .i64 v, .int .i64 z, .string s] 48) = W := ⟨_, rfl⟩
  have h0 : Below w.heap.size w W := by rw [← hW]; exact ((Below.refl _ _).alloc (Nat.le_refl _) _).alloc (by simp) _
  have k0 : W.cell? ⟨w.heap.size + 1, 0, none⟩ = some (.int .u32 (t : Int)) := by rw [← hW]; simp
  have k1 : W.cell? ⟨w.heap.size + 1, 1, none⟩ = some (.int .i64 v) := by rw [← hW]; simp
  have KB : Hid (W.heap[w.heap.size + 1]? = some (.cells #[.int .u32 (t : Int), .int .i64 v, .int .i64 z, .string s] 48 (0, 0))) := by
    show _ = _
    rw [← hW]
    have := Wk.heap_new (w.alloc (.cells #[] 99)) (.cells #[.int .u32 (t : Int), .int .i64 v, .int .i64 z, .string s] 48)
    rw [Wk.size_alloc] at this
    exact this
  have H0 : Hid (By base w W) := By.of h0 hb
  have HO : Hid (Ob base W b ys) := hown.on h0
  have HBW : Hid (base ≤ W.heap.size) := Nat.le_trans hb h0.size
  clear hown hb h0
  by_cases h29 : v = 29
  · have b29 : (v == 29) = true := by rw [h29]; rfl
    have HD : Hid (encE.hd ⟨(t : Int), v, z, s⟩ n = plL t n) := by show (if v = 29 then plL (t : Int).toNat n else _) = _; rw [if_pos h29]; rfl
    have c := putPlain_any W base b ys t n ht hn HO.out HBW.out hl
    clear h29 hv
    go_enter Tryz.func249, Tryz.ntmps249
    go_wp2_with (go_at_call 80; refine StopB.out ?_)
    refine ⟨Calls.mono c ?_⟩
    rintro e W1 ⟨u, rfl, ho, hby⟩
    go_wp2
    go_ret
    exact ⟨_, rfl, by rw [HD.out]; exact ho, H0.out.trans hby.out⟩
  · have b29 : (v == 29) = false := beq_eq_false_iff_ne.2 h29
    have HV : Hid (1 ≤ v ∧ v ≤ 28) := hv.resolve_left h29
    have HD : Hid (encE.hd ⟨(t : Int), v, z, s⟩ n = exL t v n) := by show (if v = 29 then _ else exL (t : Int).toNat v n) = _; rw [if_neg h29]; rfl
    clear h29 hv
    go_enter Tryz.func249, Tryz.ntmps249
    have c58 := fun X (hX : Below W.heap.size W X) => putTag_any X base b ys t ht (HO.out.on hX) (Nat.le_trans HBW.out hX.size) (by omega)
    have c225 := fun X => Rp.vrword_any X v
    have HN : Hid ((Rp.nm (Rp.vn v)).data.toList = ltr v) := rfl
    have hnl : (Rp.nm (Rp.vn v)).size = 2 := ltr_len HV.out
    generalize Rp.nm (Rp.vn v) = nm at c225 HN hnl
    have C58 : Hid _ := c58
    have KK : Hid (∀ X X' : World, Below W.heap.size W X → By base X X' → X'.cell? ⟨w.heap.size + 1, 0, none⟩ = some (.int .u32 (t : Int)) ∧ X'.cell? ⟨w.heap.size + 1, 1, none⟩ = some (.int .i64 v)) := fun X X' hX hB => by
      have hlt : w.heap.size + 1 < W.heap.size := (Array.getElem?_eq_some_iff.1 KB.out).1
      have e1 : X.heap[w.heap.size + 1]? = W.heap[w.heap.size + 1]? := hX.block _ hlt
      have e2 : X'.heap[w.heap.size + 1]? = X.heap[w.heap.size + 1]? := hB.cell (e1.trans KB.out) (by decide)
      exact ⟨(World.cell?_of_block (e2.trans e1)).trans k0, (World.cell?_of_block (e2.trans e1)).trans k1⟩
    clear c58
    go_wp2
    clear hW
    go_region_law (first | (go_simp; go_at_call 95; refine Calls.mono (C58.out _ (by first | exact Below.refl _ _ | exact (Below.refl _ _).drew | exact Wk.below_drw (Below.refl _ _) _)) ?_; rintro e W1 ⟨u1, rfl, ho1, hb1⟩; obtain ⟨q0, q1⟩ := KK.out _ W1 (by first | exact Below.refl _ _ | exact (Below.refl _ _).drew | exact Wk.below_drw (Below.refl _ _) _) hb1.out) | (go_simp; go_at_call 252; refine Calls.mono (c225 _) ?_; rintro e W2 ⟨rfl, hb2⟩) | (refine step_text rfl (.tmp 20) (.tmp 23) rfl base _ _ (by simp [Act.eval]) (ho1.out.on hb2) nm (by simp [Act.eval]) (by rw [List.length_append, tagL_len, hnl]; omega) (Nat.le_trans (Nat.le_trans HBW.out hb1.out.size) hb2.size) ?_; intro u3 W3 ho3 hb3))
    all_goals have hBW : By base W W3 := (By.of (by first | exact Below.refl _ _ | exact (Below.refl _ _).drew | exact Wk.below_drw (Below.refl _ _) _) HBW.out).trans (hb1.out.trans ((By.of hb2 (Nat.le_trans HBW.out hb1.out.size)).trans hb3))
    all_goals have q3 : W3.cell? ⟨w.heap.size + 1, 1, none⟩ = some (.int .i64 v) := (World.cell?_of_block (hBW.cell KB.out (by decide))).trans k1
    all_goals have HO3 : Hid (Ob base W3 u3 (ys ++ tagL t ++ ltr v)) := by rw [← HN.out]; exact ho3
    all_goals have HB3 : Hid (By base w W3) := H0.out.trans hBW
    all_goals have HS3 : Hid (base ≤ W3.heap.size) := Nat.le_trans HBW.out hBW.size
    all_goals clear hBW ho3 hb3 hb2 hb1 ho1 k0 k1 q0 q1 C58 KK HO H0 HBW c225 HN
    all_goals have cl := Rp.long_any W3 v
    all_goals rcases hlo : Rp.lo (Rp.vn v) with _ | _
    all_goals rw [hlo] at cl
    all_goals first
      | (have HX : Hid (exL t v n = tagL t ++ ltr v ++ le 2 n) := by
           show _ = _
           rw [exL, if_neg (by rw [hlo]; decide)]
         clear hlo
         go_wp2_with (first | (go_at_call 251; refine Calls.mono cl ?_; rintro e W4 ⟨rfl, hb4⟩) | (go_at_call 94; refine StopB.out ?_))
         refine ⟨Calls.mono (put2_any W4 base u3 _ n hn (HO3.out.on hb4) (Nat.le_trans HS3.out hb4.size) (by rw [List.length_append, List.length_append, tagL_len, ltr_len HV.out]; omega)) ?_⟩
         rintro e W5 ⟨u5, rfl, ho5, hb5⟩
         go_wp2
         go_ret
         exact ⟨_, rfl, by rw [HD.out, HX.out, ← List.append_assoc, ← List.append_assoc]; exact ho5.out, HB3.out.trans ((By.of hb4 HS3.out).trans hb5.out)⟩)
      | (have HX : Hid (exL t v n = tagL t ++ ltr v ++ ([0, 0] ++ le 4 n)) := by
           show _ = _
           rw [exL, if_pos hlo]
         clear hlo
         go_wp2_with (first | (go_at_call 251; refine Calls.mono cl ?_; rintro e W4 ⟨rfl, hb4⟩) | (at_builtin; refine StopB.out ?_))
         have hb4' : Below W3.heap.size W3 (W4.alloc (.cells #[.int .u8 0, .int .u8 0] 5)) := hb4.alloc hb4.size _
         have hsz : base ≤ (W4.alloc (.cells #[.int .u8 0, .int .u8 0] 5)).heap.size := Nat.le_trans HS3.out hb4'.size
         refine ⟨app_bytes rfl (.tmp 28) (.tmp 29) rfl base _ _ rfl (HO3.out.on hb4') ⟨W4.heap.size, 0, none⟩ 2 2 [0, 0] rfl rfl (news_b rfl _ _ rfl _) (by rw [List.length_append, List.length_append, tagL_len, ltr_len HV.out]; omega) hsz ?_⟩
         intro u5 W5 ho5 hb5
         go_wp2_with (go_at_call 94; refine StopB.out ?_)
         refine ⟨Calls.mono (put4_any W5 base u5 _ n hn ho5 (Nat.le_trans hsz hb5.size) (by rw [List.length_append, List.length_append, List.length_append, tagL_len, ltr_len HV.out]; simp; omega)) ?_⟩
         rintro e W6 ⟨u6, rfl, ho6, hb6⟩
         go_wp2
         go_ret
         refine ⟨_, rfl, ?_, HB3.out.trans ((By.of hb4' HS3.out).trans (hb5.trans hb6.out))⟩
         rw [HD.out, HX.out, ← List.append_assoc, ← List.append_assoc, ← List.append_assoc]
         exact ho6.out)
end Go.Proofs.YtfoodjhffehgpaaGreatDoor
end

section
/-
  DERIVED. How many bytes nodes have: the program's count.
-/
namespace Go.Proofs.YtfoodjhffehgpaaGreatDoor
open Go Go.Proofs Go.RowKit
open Wk (Nd NV goN)

theorem sz1_le (x : Bool) (a : Nd) (h : a.s.size ≤ 65534) : (encOf x).sz1 a ≤ 65600 := by
  unfold Enc.sz1
  rw [encOf_pv, pvL_len]
  have : (encOf x).hs a ≤ 12 := by
    cases x with
    | false => show 8 ≤ 12; omega
    | true => show (if Rp.lo (Rp.vn a.v) = true then 12 else 8) ≤ 12; split <;> omega
  split <;> omega

set_option maxRecDepth 100000 in
set_option maxHeartbeats 4000000 in
theorem szI_any (w : World) (a : Option Addr) (n cap : Nat) (L : List Nd) (hV : NV w a n cap L) (hT : TagsOk L) (hn : n ≤ 4096) (hs : ∀ x ∈ L, x.s.size ≤ 65534) :
    Calls Tryz.prog 48 #[.slice a n cap, .iface 98 (.agg #[])] w fun e w' => e = .returned (.int .i64 (encI.szP L : Int)) ∧ Below w.heap.size w w' := by
  have HV : Hid (NV w a n cap L) := hV
  have HT : Hid (TagsOk L) := hT
  have HS : Hid (∀ x ∈ L, x.s.size ≤ 65534) := hs
  have HN : Hid (n = L.length) := hV.len
  have m1 := mI_hs
  have m2 := mI_un
  clear hV hT hs
  go_enter Tryz.func48, Tryz.ntmps48
  go_wp2
  go_loopw [5, 10] (fun x5 x10 wr => ∃ i k : Nat, x10 = .int .i64 (i : Int) ∧ x5 = .int .i64 (k : Int) ∧ i ≤ n ∧ k ≤ i * 65600 ∧ Hid (encI.szP (L.take i) = k ∧ Below w.heap.size w wr)) (fun _ x10 _ => n - (intOf x10).toNat)
  case atStart => exact ⟨0, 0, rfl, rfl, by omega, by omega, by simp [Enc.szP], Below.refl _ _⟩
  case round =>
    obtain ⟨i, k, rfl, rfl, hin, hk, HI⟩ := hrel
    by_cases hlt : i < n
    · have hltI : decide ((i : Int) < (n : Int)) = true := by simp; omega
      obtain ⟨b, off, hl, rfl, e0, e1, e2, e3⟩ := NV.cells (HV.out.on HI.out.2) hlt
      have htg := HT.out _ (List.getElem_mem hl)
      have hss := HS.out _ (List.getElem_mem hl)
      have HX : Hid (encI.szP (L.take (i + 1)) = k + encI.sz1 (L[i]'hl)) := by show _ = _; rw [Enc.szP_snoc encI hl, HI.out.1]
      have hL1 : encI.sz1 (L[i]'hl) ≤ 65600 := sz1_le false _ hss
      generalize L[i]'hl = q at e0 e1 e2 e3 htg hss HX hL1
      obtain ⟨t, v, z, s⟩ := q
      simp only at e0 e1 e2 e3 htg hss
      obtain ⟨tn, rfl⟩ : ∃ tn : Nat, t = (tn : Int) := ⟨t.toNat, by omega⟩
      have htn : tn < 4294967296 := by omega
      obtain ⟨un, hun⟩ : ∃ un, encI.und ⟨(tn : Int), v, z, s⟩ = un := ⟨_, rfl⟩
      obtain ⟨hh, hhh⟩ : ∃ hh, encI.hs ⟨(tn : Int), v, z, s⟩ = hh := ⟨_, rfl⟩
      have HY : Hid (encI.sz1 ⟨(tn : Int), v, z, s⟩ = hh + (s.size + s.size % 2) + (if un = true then 8 else 0)) := by show encI.hs ⟨(tn : Int), v, z, s⟩ + (pvL v s).length + _ = _; rw [pvL_len, hun, hhh]
      have cu := fun W => unI_ok W tn htn v z s un hun
      have ch := fun W => hsI_ok W (tn : Int) v z s hh hhh
      obtain ⟨k2, hk2⟩ : ∃ k2 : Nat, k + (hh + (s.size + s.size % 2)) = k2 := ⟨_, rfl⟩
      have hk2l : k2 + (if un = true then 8 else 0) ≤ (i + 1) * 65600 := by have := HY.out; omega
      have HE : Hid (encI.szP (L.take (i + 1)) = k2 + (if un = true then 8 else 0)) := by show _ = _; rw [HX.out, HY.out]; omega
      have hK : IntKind.i64.wrap ((k : Int) + IntKind.i64.wrap (IntKind.i64.wrap ((hh : Int) + (s.size : Int)) + Int.tmod (s.size : Int) 2)) = (k2 : Int) := by
        have hr0 : 0 ≤ (s.size : Int) % 2 ∧ (s.size : Int) % 2 < 2 := by omega
        rw [Int.tmod_eq_emod_of_nonneg (by omega), Go.IntWalk.i64_in ((hh : Int) + (s.size : Int)) (by omega), Go.IntWalk.i64_in ((hh : Int) + (s.size : Int) + _) (by omega), Go.IntWalk.i64_in _ (by omega)]
        omega
      have HK : Hid _ := hK
      have HK2 : Hid (k2 ≤ 300000000) := by show _ ≤ _; split at hk2l <;> omega
      have HKL : Hid _ := hk2l
      clear hun htg hhh HX HY hL1 hk2 hK hk2l
      obtain ⟨W1, hW1⟩ : ∃ W1, wr.alloc (.cells #[.int .u32 (tn : Int), .int .i64 v, .int .i64 z, .string s] 48) = W1 := ⟨_, rfl⟩
      have hb1 : Below wr.heap.size wr W1 := by rw [← hW1]; exact (Below.refl _ _).alloc (Nat.le_refl _) _
      have HN1 : Hid (NC W1 wr.heap.size (tn : Int) v z s) := by rw [← hW1]; exact ⟨by simp, by simp, by simp, by simp⟩
      have HB1 : Hid (Below w.heap.size w W1) := HI.out.2.trans (hb1.mono HI.out.2.size)
      obtain ⟨y0, y1, y2, y3⟩ := HN1.out
      clear hb1
      go_wp2
      clear hW1
      go_region_held3 (fun w' => w'.cell? ⟨wr.heap.size, 0, none⟩ = some (.int .u32 (tn : Int)) ∧ w'.cell? ⟨wr.heap.size, 1, none⟩ = some (.int .i64 v) ∧ w'.cell? ⟨wr.heap.size, 2, none⟩ = some (.int .i64 z) ∧ w'.cell? ⟨wr.heap.size, 3, none⟩ = some (.string s)) (first | (go_keep; done) | exact ⟨by assumption, by assumption, by assumption, by assumption⟩) (first | (go_at_call 240; refine Calls.mono (ch _) ?_; rintro e W2 ⟨rfl, hb2⟩; have u0 : W2.cell? ⟨wr.heap.size, 0, none⟩ = some (.int .u32 (tn : Int)) := (hb2.cell (p := ⟨wr.heap.size, 0, none⟩) (Rp.cell_lt y0)).trans y0; have u1 : W2.cell? ⟨wr.heap.size, 1, none⟩ = some (.int .i64 v) := (hb2.cell (p := ⟨wr.heap.size, 1, none⟩) (Rp.cell_lt y1)).trans y1; have u2 : W2.cell? ⟨wr.heap.size, 2, none⟩ = some (.int .i64 z) := (hb2.cell (p := ⟨wr.heap.size, 2, none⟩) (Rp.cell_lt y2)).trans y2; have u3 : W2.cell? ⟨wr.heap.size, 3, none⟩ = some (.string s) := (hb2.cell (p := ⟨wr.heap.size, 3, none⟩) (Rp.cell_lt y3)).trans y3))
      rw [HK.out]
      have HB2 : Hid (Below w.heap.size w W2) := HB1.out.drew.trans (hb2.mono HB1.out.drew.size)
      have hk2u := HK2.out
      clear hb2 y0 y1 y2 y3
      cases un with
      | false =>
        go_wp2_with (first | (go_at_call 241; refine Calls.mono (cu _) ?_; rintro e W3 ⟨rfl, hb3⟩) | fail)
        go_roundw
        case rel => exact ⟨i + 1, k2, by go_num, rfl, by omega, by have := HKL.out; simp at this; omega, by rw [HE.out]; simp, HB2.out.trans (hb3.mono HB2.out.size)⟩
        case measure => simp [intOf]; omega
      | true =>
        go_wp2_with (first | (go_at_call 241; refine Calls.mono (cu _) ?_; rintro e W3 ⟨rfl, hb3⟩) | fail)
        go_roundw
        case rel => exact ⟨i + 1, k2 + 8, by go_num, by go_num, by omega, by have := HKL.out; simp at this; omega, by rw [HE.out]; simp, HB2.out.trans (hb3.mono HB2.out.size)⟩
        case measure => simp [intOf]; omega
    · obtain rfl : i = n := by omega
      have hltI : decide ((i : Int) < (i : Int)) = false := by simp
      have HE : Hid (encI.szP L = k) := by have := HI.out.1; rw [HN.out, List.take_length] at this; exact this
      go_wp2
      go_ret
      exact ⟨by rw [HE.out]; rfl, HI.out.2⟩
set_option maxRecDepth 100000 in
set_option maxHeartbeats 4000000 in
theorem szE_any (w : World) (a : Option Addr) (n cap : Nat) (L : List Nd) (hV : NV w a n cap L) (hT : TagsOk L) (hn : n ≤ 4096) (hs : ∀ x ∈ L, x.s.size ≤ 65534) :
    Calls Tryz.prog 48 #[.slice a n cap, .iface 99 (.agg #[])] w fun e w' => e = .returned (.int .i64 (encE.szP L : Int)) ∧ Below w.heap.size w w' := by
  have HV : Hid (NV w a n cap L) := hV
  have HT : Hid (TagsOk L) := hT
  have HS : Hid (∀ x ∈ L, x.s.size ≤ 65534) := hs
  have HN : Hid (n = L.length) := hV.len
  have m1 := mE_hs
  have m2 := mE_un
  clear hV hT hs
  go_enter Tryz.func48, Tryz.ntmps48
  go_wp2
  go_loopw [5, 10] (fun x5 x10 wr => ∃ i k : Nat, x10 = .int .i64 (i : Int) ∧ x5 = .int .i64 (k : Int) ∧ i ≤ n ∧ k ≤ i * 65600 ∧ Hid (encE.szP (L.take i) = k ∧ Below w.heap.size w wr)) (fun _ x10 _ => n - (intOf x10).toNat)
  case atStart => exact ⟨0, 0, rfl, rfl, by omega, by omega, by simp [Enc.szP], Below.refl _ _⟩
  case round =>
    obtain ⟨i, k, rfl, rfl, hin, hk, HI⟩ := hrel
    by_cases hlt : i < n
    · have hltI : decide ((i : Int) < (n : Int)) = true := by simp; omega
      obtain ⟨b, off, hl, rfl, e0, e1, e2, e3⟩ := NV.cells (HV.out.on HI.out.2) hlt
      have htg := HT.out _ (List.getElem_mem hl)
      have hss := HS.out _ (List.getElem_mem hl)
      have HX : Hid (encE.szP (L.take (i + 1)) = k + encE.sz1 (L[i]'hl)) := by show _ = _; rw [Enc.szP_snoc encE hl, HI.out.1]
      have hL1 : encE.sz1 (L[i]'hl) ≤ 65600 := sz1_le true _ hss
      generalize L[i]'hl = q at e0 e1 e2 e3 htg hss HX hL1
      obtain ⟨t, v, z, s⟩ := q
      simp only at e0 e1 e2 e3 htg hss
      obtain ⟨tn, rfl⟩ : ∃ tn : Nat, t = (tn : Int) := ⟨t.toNat, by omega⟩
      have htn : tn < 4294967296 := by omega
      obtain ⟨un, hun⟩ : ∃ un, encE.und ⟨(tn : Int), v, z, s⟩ = un := ⟨_, rfl⟩
      obtain ⟨hh, hhh⟩ : ∃ hh, encE.hs ⟨(tn : Int), v, z, s⟩ = hh := ⟨_, rfl⟩
      have HY : Hid (encE.sz1 ⟨(tn : Int), v, z, s⟩ = hh + (s.size + s.size % 2) + (if un = true then 8 else 0)) := by show encE.hs ⟨(tn : Int), v, z, s⟩ + (pvL v s).length + _ = _; rw [pvL_len, hun, hhh]
      have cu := fun W => unE_ok W tn htn v z s un hun
      have ch := fun W => hsE_ok W (tn : Int) v z s hh hhh
      obtain ⟨k2, hk2⟩ : ∃ k2 : Nat, k + (hh + (s.size + s.size % 2)) = k2 := ⟨_, rfl⟩
      have hk2l : k2 + (if un = true then 8 else 0) ≤ (i + 1) * 65600 := by have := HY.out; omega
      have HE : Hid (encE.szP (L.take (i + 1)) = k2 + (if un = true then 8 else 0)) := by show _ = _; rw [HX.out, HY.out]; omega
      have hK : IntKind.i64.wrap ((k : Int) + IntKind.i64.wrap (IntKind.i64.wrap ((hh : Int) + (s.size : Int)) + Int.tmod (s.size : Int) 2)) = (k2 : Int) := by
        have hr0 : 0 ≤ (s.size : Int) % 2 ∧ (s.size : Int) % 2 < 2 := by omega
        rw [Int.tmod_eq_emod_of_nonneg (by omega), Go.IntWalk.i64_in ((hh : Int) + (s.size : Int)) (by omega), Go.IntWalk.i64_in ((hh : Int) + (s.size : Int) + _) (by omega), Go.IntWalk.i64_in _ (by omega)]
        omega
      have HK : Hid _ := hK
      have HK2 : Hid (k2 ≤ 300000000) := by show _ ≤ _; split at hk2l <;> omega
      have HKL : Hid _ := hk2l
      clear hun htg hhh HX HY hL1 hk2 hK hk2l
      obtain ⟨W1, hW1⟩ : ∃ W1, wr.alloc (.cells #[.int .u32 (tn : Int), .int .i64 v, .int .i64 z, .string s] 48) = W1 := ⟨_, rfl⟩
      have hb1 : Below wr.heap.size wr W1 := by rw [← hW1]; exact (Below.refl _ _).alloc (Nat.le_refl _) _
      have HN1 : Hid (NC W1 wr.heap.size (tn : Int) v z s) := by rw [← hW1]; exact ⟨by simp, by simp, by simp, by simp⟩
      have HB1 : Hid (Below w.heap.size w W1) := HI.out.2.trans (hb1.mono HI.out.2.size)
      obtain ⟨y0, y1, y2, y3⟩ := HN1.out
      clear hb1
      go_wp2
      clear hW1
      go_region_held3 (fun w' => w'.cell? ⟨wr.heap.size, 0, none⟩ = some (.int .u32 (tn : Int)) ∧ w'.cell? ⟨wr.heap.size, 1, none⟩ = some (.int .i64 v) ∧ w'.cell? ⟨wr.heap.size, 2, none⟩ = some (.int .i64 z) ∧ w'.cell? ⟨wr.heap.size, 3, none⟩ = some (.string s)) (first | (go_keep; done) | exact ⟨by assumption, by assumption, by assumption, by assumption⟩) (first | (go_at_call 247; refine Calls.mono (ch _) ?_; rintro e W2 ⟨rfl, hb2⟩; have u0 : W2.cell? ⟨wr.heap.size, 0, none⟩ = some (.int .u32 (tn : Int)) := (hb2.cell (p := ⟨wr.heap.size, 0, none⟩) (Rp.cell_lt y0)).trans y0; have u1 : W2.cell? ⟨wr.heap.size, 1, none⟩ = some (.int .i64 v) := (hb2.cell (p := ⟨wr.heap.size, 1, none⟩) (Rp.cell_lt y1)).trans y1; have u2 : W2.cell? ⟨wr.heap.size, 2, none⟩ = some (.int .i64 z) := (hb2.cell (p := ⟨wr.heap.size, 2, none⟩) (Rp.cell_lt y2)).trans y2; have u3 : W2.cell? ⟨wr.heap.size, 3, none⟩ = some (.string s) := (hb2.cell (p := ⟨wr.heap.size, 3, none⟩) (Rp.cell_lt y3)).trans y3))
      rw [HK.out]
      have HB2 : Hid (Below w.heap.size w W2) := HB1.out.drew.trans (hb2.mono HB1.out.drew.size)
      have hk2u := HK2.out
      clear hb2 y0 y1 y2 y3
      cases un with
      | false =>
        go_wp2_with (first | (go_at_call 248; refine Calls.mono (cu _) ?_; rintro e W3 ⟨rfl, hb3⟩) | fail)
        go_roundw
        case rel => exact ⟨i + 1, k2, by go_num, rfl, by omega, by have := HKL.out; simp at this; omega, by rw [HE.out]; simp, HB2.out.trans (hb3.mono HB2.out.size)⟩
        case measure => simp [intOf]; omega
      | true =>
        go_wp2_with (first | (go_at_call 248; refine Calls.mono (cu _) ?_; rintro e W3 ⟨rfl, hb3⟩) | fail)
        go_roundw
        case rel => exact ⟨i + 1, k2 + 8, by go_num, by go_num, by omega, by have := HKL.out; simp at this; omega, by rw [HE.out]; simp, HB2.out.trans (hb3.mono HB2.out.size)⟩
        case measure => simp [intOf]; omega
    · obtain rfl : i = n := by omega
      have hltI : decide ((i : Int) < (i : Int)) = false := by simp
      have HE : Hid (encE.szP L = k) := by have := HI.out.1; rw [HN.out, List.take_length] at this; exact this
      go_wp2
      go_ret
      exact ⟨by rw [HE.out]; rfl, HI.out.2⟩
end Go.Proofs.YtfoodjhffehgpaaGreatDoor
end

section
/-
  DERIVED. Nodes laid down: the program's.
-/
namespace Go.Proofs.YtfoodjhffehgpaaGreatDoor
open Go Go.Proofs Go.RowKit
open Wk (Nd NV goN nxt)

/-- A node in a block of its own. -/
def NB (W : World) (k : Nat) (t v z : Int) (s : ByteArray) : Prop := W.heap[k]? = some (.cells #[.int .u32 t, .int .i64 v, .int .i64 z, .string s] 48 (0, 0))
theorem NB.nc {W : World} {k : Nat} {t v z : Int} {s : ByteArray} (h : NB W k t v z s) : NC W k t v z s := by
  have hc := World.news_of_block h
  refine ⟨?_, ?_, ?_, ?_⟩
  · exact hc 0 _ rfl
  · exact hc 1 _ rfl
  · exact hc 2 _ rfl
  · exact hc 3 _ rfl
theorem NB.by {base : Nat} {W W' : World} {k : Nat} {t v z : Int} {s : ByteArray} (h : NB W k t v z s) (hb : By base W W') : NB W' k t v z s := (hb.cell h (by decide)).trans h
theorem NB.on {W W' : World} {k : Nat} {t v z : Int} {s : ByteArray} (h : NB W k t v z s) (hb : Below W.heap.size W W') : NB W' k t v z s := (hb.block k (Array.getElem?_eq_some_iff.1 h).1).trans h
theorem NV.lo {w w' : World} {base b off n cap : Nat} {L : List Nd} (h : NV w (some ⟨b, off, none⟩) n cap L) (hb : Below base w w') (hlt : b < base) : NV w' (some ⟨b, off, none⟩) n cap L :=
  ⟨h.len, h.room, h.small, fun hn => by
    obtain ⟨b', off', ha, hl⟩ := h.lies hn
    cases ha
    refine ⟨b, off, rfl, fun i hi => ?_⟩
    obtain ⟨h0, h1, h2, h3⟩ := hl i hi
    have e : ∀ j, w'.cell? ⟨b, j, none⟩ = w.cell? ⟨b, j, none⟩ := fun j => World.cell?_of_block (hb.block b hlt)
    exact ⟨(e _).trans h0, (e _).trans h1, (e _).trans h2, (e _).trans h3⟩, h.num⟩
/-- What is laid down, and behind what. -/
structure WrP (X : Enc) (base b off n cap : Nat) (L : List Nd) (v : Value) (ys : List UInt8) (W : World) : Prop where
  nv : NV W (some ⟨b, off, none⟩) n cap L
  lt : b < base
  tg : TagsOk L
  gd : Good L
  n40 : n ≤ 4096
  len : ys.length + X.szP L ≤ 3000000
  own : Ob base W v ys
  hb : base ≤ W.heap.size
theorem Good.sz {L : List Nd} (h : Good L) : ∀ x ∈ L, x.s.size ≤ 65534 := fun x hx => (h x hx).2.1
def WrI (m : Nat) : Prop := ∀ (W : World) (base b off n cap : Nat) (L : List Nd) (v : Value) (ys : List UInt8), L.length ≤ m → WrP encI base b off n cap L v ys W →
  Calls Tryz.prog 32 #[v, .slice (some ⟨b, off, none⟩) n cap, .iface 98 (.agg #[])] W fun e W' => ∃ u, e = .returned u ∧ Hid (Ob base W' u (ys ++ encI.wP L)) ∧ Hid (By base W W')
/-- One node and what is in it. -/
def oneBI (a : Nd) (L : List Nd) : List UInt8 := encI.hd a (if encI.und a = true then 4294967295 else (encI.pv a).length + encI.szP L) ++ encI.pv a ++ encI.wP L ++ (if encI.und a = true then encI.em else [])

set_option maxRecDepth 100000 in
set_option maxHeartbeats 4000000 in
theorem woI_of (m : Nat) (hw : WrI m) (W : World) (base b off n cap : Nat) (L : List Nd) (v : Value) (ys : List UInt8) (hL : L.length ≤ m) (hP : WrP encI base b off n cap L v ys W) (t : Nat) (ht : t < 4294967296) (vv z : Int) (s : ByteArray) (hvv : vv = 29 ∨ (1 ≤ vv ∧ vv ≤ 28)) (hs : s.size ≤ 65534) (hlen : ys.length + (encI.sz1 ⟨(t : Int), vv, z, s⟩ + encI.szP L) ≤ 3000000) :
    Calls Tryz.prog 50 #[v, ndV (t : Int) vv z s, .slice (some ⟨b, off, none⟩) n cap, .iface 98 (.agg #[])] W fun e W' => ∃ u, e = .returned u ∧ Hid (Ob base W' u (ys ++ oneBI ⟨(t : Int), vv, z, s⟩ L)) ∧ Hid (By base W W') := by
  have m2 := mI_un
  have m3 := mI_ph
  obtain ⟨W1, hW1⟩ : ∃ W1, W.alloc (.cells #[.int .u32 (t : Int), .int .i64 vv, .int .i64 z, .string s] 48) = W1 := ⟨_, rfl⟩
  have hb1 : Below W.heap.size W W1 := by rw [← hW1]; exact (Below.refl _ _).alloc (Nat.le_refl _) _
  have hnb : NB W1 W.heap.size (t : Int) vv z s := by rw [← hW1]; exact Wk.heap_new W _
  obtain ⟨k, hk⟩ : ∃ k, W.heap.size = k := ⟨_, rfl⟩
  rw [hk] at hnb
  have HP : Hid (WrP encI base b off n cap L v ys W) := hP
  have H1 : Hid (Below W.heap.size W W1 ∧ NB W1 k (t : Int) vv z s) := ⟨hb1, hnb⟩
  obtain ⟨y0, y1, y2, y3⟩ := hnb.nc
  obtain ⟨un, hun⟩ : ∃ un, encI.und ⟨(t : Int), vv, z, s⟩ = un := ⟨_, rfl⟩
  have cu := fun X => unI_ok X t ht vv z s un hun
  have hpv : encI.pv ⟨(t : Int), vv, z, s⟩ = (Rp.padB (Rp.pd (Rp.vn vv)) s).data.toList := rfl
  have hpl := pad_len (Rp.pd (Rp.vn vv)) s
  have cp := fun X => Rp.pad_any X vv s (by omega)
  generalize Rp.padB (Rp.pd (Rp.vn vv)) s = pb at cp hpv hpl
  have hpz : pb.data.toList.length = pb.size := Array.length_toList
  have hs1 : pb.size ≤ encI.sz1 ⟨(t : Int), vv, z, s⟩ := by unfold Enc.sz1; rw [hpv, hpz]; omega
  have hh12 : encI.hs ⟨(t : Int), vv, z, s⟩ + pb.size + (if un = true then 8 else 0) = encI.sz1 ⟨(t : Int), vv, z, s⟩ := by unfold Enc.sz1; rw [hpv, hpz, hun]
  have hdl := hd_len false (a := ⟨(t : Int), vv, z, s⟩) hvv
  have HDL : Hid (∀ q, (encI.hd ⟨(t : Int), vv, z, s⟩ q).length = encI.hs ⟨(t : Int), vv, z, s⟩) := hdl
  have HH : Hid _ := hh12
  have HPV : Hid _ := hpv
  have HPZ : Hid _ := hpz
  have HUN : Hid _ := hun
  have HLEN : Hid _ := hlen
  have cs := fun X (hX : Below W.heap.size W X) => szI_any X (some ⟨b, off, none⟩) n cap L (HP.out.nv.on hX) HP.out.tg HP.out.n40 HP.out.gd.sz
  obtain ⟨g, hg⟩ : ∃ g, encI.szP L = g := ⟨_, rfl⟩
  simp only [hg] at cs
  have hgl : g + pb.size ≤ 3000000 := by omega
  have HG : Hid _ := hg
  have hq : ((pb.size : Int) + (g : Int)) % 4294967296 = ((pb.size + g : Nat) : Int) := by omega
  have hpu : pb.size ≤ 65536 := by omega
  have HLL : Hid (L.length ≤ m) := hL
  clear hg hun hpv hpz hh12 hdl hlen hs1 hpl hnb hP hb1 hL
  have HLm : Hid (WrI m) := hw
  clear hw
  go_enter Tryz.func50, Tryz.ntmps50
  go_wp2_with (first | (go_at_call 79; refine Calls.mono (cp _) ?_; rintro e W2 ⟨rfl, hb2⟩) | (go_at_call 48; refine StopB.out ?_))
  have hB2 : Below W.heap.size W W2 := H1.out.1.trans (hb2.mono H1.out.1.size)
  refine ⟨Calls.mono (cs W2 hB2) ?_⟩
  rintro e W3 ⟨rfl, hb3⟩
  have H3 : Hid (Below W.heap.size W W3 ∧ NB W3 k (t : Int) vv z s) := ⟨hB2.trans (hb3.mono hB2.size), (H1.out.2.on hb2).on hb3⟩
  clear hb2 hb3 hB2 cs cp hW1 y0 y1 y2 y3 hk H1
  obtain ⟨y0, y1, y2, y3⟩ := H3.out.2.nc
  rcases un with _ | _
  · have HF : Hid (oneBI ⟨(t : Int), vv, z, s⟩ L = encI.hd ⟨(t : Int), vv, z, s⟩ (pb.size + g) ++ pb.data.toList ++ encI.wP L) := by
      show _ = _
      unfold oneBI
      rw [HUN.out, HPV.out, HPZ.out, HG.out, if_neg (by decide), if_neg (by decide), List.append_nil]
    have hpos : encI.hs ⟨(t : Int), vv, z, s⟩ + pb.size + g + ys.length ≤ 3000000 := by have h1 := HH.out; have h2 := HLEN.out; rw [HG.out] at h2; simp at h1; omega
    clear HH HLEN
    go_wp2_with (first | (go_at_call 241; refine Calls.mono (cu _) ?_; rintro e W4 ⟨rfl, hb4⟩; obtain ⟨x0, x1, x2, x3⟩ := (H3.out.2.on hb4).nc) | (go_at_call 242; refine StopB.out ?_))
    have H4 : Hid (Below W.heap.size W W4 ∧ NB W4 k (t : Int) vv z s) := ⟨H3.out.1.trans (hb4.mono H3.out.1.size), H3.out.2.on hb4⟩
    have hbW4 : base ≤ W4.heap.size := Nat.le_trans HP.out.hb H4.out.1.size
    refine ⟨Calls.mono (phI_ok W4 base v ys t (pb.size + g) ht (by omega) vv z s hvv (HP.out.own.on H4.out.1) hbW4 (by omega)) ?_⟩
    rintro e W5 ⟨u5, rfl, ho5, hb5⟩
    go_wp2_with (at_builtin; refine StopB.out ?_)
    refine ⟨app_text rfl (.tmp 30) (.tmp 31) rfl base _ _ rfl ho5.out pb rfl (by rw [List.length_append, HDL.out]; omega) (Nat.le_trans hbW4 hb5.out.size) ?_⟩
    intro u6 W6 ho6 hb6
    have hby6 : By base W W6 := (By.of H4.out.1 HP.out.hb).trans (hb5.out.trans hb6)
    go_wp2_with (go_at_call 32; refine StopB.out ?_)
    refine ⟨Calls.mono (HLm.out W6 base b off n cap L u6 _ HLL.out ⟨NV.lo HP.out.nv hby6.b HP.out.lt, HP.out.lt, HP.out.tg, HP.out.gd, HP.out.n40, by rw [List.length_append, List.length_append, HDL.out, HPZ.out, HG.out]; omega, ho6, Nat.le_trans HP.out.hb hby6.size⟩) ?_⟩
    rintro e W7 ⟨u7, rfl, ho7, hb7⟩
    have hby7 : By base W W7 := hby6.trans hb7.out
    have HN7 : Hid (NB W7 k (t : Int) vv z s) := ((H4.out.2.by hb5.out).by hb6).by hb7.out
    obtain ⟨p0, p1, p2, p3⟩ := HN7.out.nc
    clear x0 x1 x2 x3 y0 y1 y2 y3
    go_wp2_with (first | (go_at_call 241; refine Calls.mono (cu _) ?_; rintro e W8 ⟨rfl, hb8⟩) | fail)
    go_ret
    refine ⟨_, rfl, ?_, hby7.trans (By.of hb8 (Nat.le_trans HP.out.hb hby7.size))⟩
    rw [HF.out, ← List.append_assoc, ← List.append_assoc]
    exact ho7.out.on hb8
  · have HF : Hid (oneBI ⟨(t : Int), vv, z, s⟩ L = encI.hd ⟨(t : Int), vv, z, s⟩ 4294967295 ++ pb.data.toList ++ encI.wP L ++ plL 4294893789 0) := by
      show _ = _
      unfold oneBI
      rw [HUN.out, HPV.out, if_pos rfl, if_pos rfl]
      rfl
    have hpos : encI.hs ⟨(t : Int), vv, z, s⟩ + pb.size + 8 + g + ys.length ≤ 3000000 := by have h1 := HH.out; have h2 := HLEN.out; rw [HG.out] at h2; simp at h1; omega
    clear HH HLEN
    go_wp2_with (first | (go_at_call 241; refine Calls.mono (cu _) ?_; rintro e W4 ⟨rfl, hb4⟩; obtain ⟨x0, x1, x2, x3⟩ := (H3.out.2.on hb4).nc) | (go_at_call 242; refine StopB.out ?_))
    have H4 : Hid (Below W.heap.size W W4 ∧ NB W4 k (t : Int) vv z s) := ⟨H3.out.1.trans (hb4.mono H3.out.1.size), H3.out.2.on hb4⟩
    have hbW4 : base ≤ W4.heap.size := Nat.le_trans HP.out.hb H4.out.1.size
    refine ⟨Calls.mono (phI_ok W4 base v ys t 4294967295 ht (by omega) vv z s hvv (HP.out.own.on H4.out.1) hbW4 (by omega)) ?_⟩
    rintro e W5 ⟨u5, rfl, ho5, hb5⟩
    go_wp2_with (at_builtin; refine StopB.out ?_)
    refine ⟨app_text rfl (.tmp 30) (.tmp 31) rfl base _ _ rfl ho5.out pb rfl (by rw [List.length_append, HDL.out]; omega) (Nat.le_trans hbW4 hb5.out.size) ?_⟩
    intro u6 W6 ho6 hb6
    have hby6 : By base W W6 := (By.of H4.out.1 HP.out.hb).trans (hb5.out.trans hb6)
    go_wp2_with (go_at_call 32; refine StopB.out ?_)
    refine ⟨Calls.mono (HLm.out W6 base b off n cap L u6 _ HLL.out ⟨NV.lo HP.out.nv hby6.b HP.out.lt, HP.out.lt, HP.out.tg, HP.out.gd, HP.out.n40, by rw [List.length_append, List.length_append, HDL.out, HPZ.out, HG.out]; omega, ho6, Nat.le_trans HP.out.hb hby6.size⟩) ?_⟩
    rintro e W7 ⟨u7, rfl, ho7, hb7⟩
    have hby7 : By base W W7 := hby6.trans hb7.out
    have HN7 : Hid (NB W7 k (t : Int) vv z s) := ((H4.out.2.by hb5.out).by hb6).by hb7.out
    obtain ⟨p0, p1, p2, p3⟩ := HN7.out.nc
    have hwl : (encI.wP L).length = g := by rw [← HG.out]; exact wr_len false _ L (Nat.le_refl _) HP.out.gd
    clear x0 x1 x2 x3 y0 y1 y2 y3
    go_wp2_with (first | (go_at_call 241; refine Calls.mono (cu _) ?_; rintro e W8 ⟨rfl, hb8⟩) | (go_at_call 80; refine StopB.out ?_))
    refine ⟨Calls.mono (putPlain_any W8 base u7 _ 4294893789 0 (by decide) (by decide) (ho7.out.on hb8) (Nat.le_trans (Nat.le_trans HP.out.hb hby7.size) hb8.size) (by rw [List.length_append, List.length_append, List.length_append, HDL.out, HPZ.out, hwl]; omega)) ?_⟩
    rintro e W9 ⟨u9, rfl, ho9, hb9⟩
    go_wp2
    go_ret
    refine ⟨_, rfl, ?_, (hby7.trans (By.of hb8 (Nat.le_trans HP.out.hb hby7.size))).trans hb9.out⟩
    rw [HF.out, ← List.append_assoc, ← List.append_assoc, ← List.append_assoc]
    exact ho9.out
def WrE (m : Nat) : Prop := ∀ (W : World) (base b off n cap : Nat) (L : List Nd) (v : Value) (ys : List UInt8), L.length ≤ m → WrP encE base b off n cap L v ys W →
  Calls Tryz.prog 32 #[v, .slice (some ⟨b, off, none⟩) n cap, .iface 99 (.agg #[])] W fun e W' => ∃ u, e = .returned u ∧ Hid (Ob base W' u (ys ++ encE.wP L)) ∧ Hid (By base W W')
/-- One node and what is in it. -/
def oneBE (a : Nd) (L : List Nd) : List UInt8 := encE.hd a (if encE.und a = true then 4294967295 else (encE.pv a).length + encE.szP L) ++ encE.pv a ++ encE.wP L ++ (if encE.und a = true then encE.em else [])

set_option maxRecDepth 100000 in
set_option maxHeartbeats 4000000 in
theorem woE_of (m : Nat) (hw : WrE m) (W : World) (base b off n cap : Nat) (L : List Nd) (v : Value) (ys : List UInt8) (hL : L.length ≤ m) (hP : WrP encE base b off n cap L v ys W) (t : Nat) (ht : t < 4294967296) (vv z : Int) (s : ByteArray) (hvv : vv = 29 ∨ (1 ≤ vv ∧ vv ≤ 28)) (hs : s.size ≤ 65534) (hlen : ys.length + (encE.sz1 ⟨(t : Int), vv, z, s⟩ + encE.szP L) ≤ 3000000) :
    Calls Tryz.prog 50 #[v, ndV (t : Int) vv z s, .slice (some ⟨b, off, none⟩) n cap, .iface 99 (.agg #[])] W fun e W' => ∃ u, e = .returned u ∧ Hid (Ob base W' u (ys ++ oneBE ⟨(t : Int), vv, z, s⟩ L)) ∧ Hid (By base W W') := by
  have m2 := mE_un
  have m3 := mE_ph
  obtain ⟨W1, hW1⟩ : ∃ W1, W.alloc (.cells #[.int .u32 (t : Int), .int .i64 vv, .int .i64 z, .string s] 48) = W1 := ⟨_, rfl⟩
  have hb1 : Below W.heap.size W W1 := by rw [← hW1]; exact (Below.refl _ _).alloc (Nat.le_refl _) _
  have hnb : NB W1 W.heap.size (t : Int) vv z s := by rw [← hW1]; exact Wk.heap_new W _
  obtain ⟨k, hk⟩ : ∃ k, W.heap.size = k := ⟨_, rfl⟩
  rw [hk] at hnb
  have HP : Hid (WrP encE base b off n cap L v ys W) := hP
  have H1 : Hid (Below W.heap.size W W1 ∧ NB W1 k (t : Int) vv z s) := ⟨hb1, hnb⟩
  obtain ⟨y0, y1, y2, y3⟩ := hnb.nc
  obtain ⟨un, hun⟩ : ∃ un, encE.und ⟨(t : Int), vv, z, s⟩ = un := ⟨_, rfl⟩
  have cu := fun X => unE_ok X t ht vv z s un hun
  have hpv : encE.pv ⟨(t : Int), vv, z, s⟩ = (Rp.padB (Rp.pd (Rp.vn vv)) s).data.toList := rfl
  have hpl := pad_len (Rp.pd (Rp.vn vv)) s
  have cp := fun X => Rp.pad_any X vv s (by omega)
  generalize Rp.padB (Rp.pd (Rp.vn vv)) s = pb at cp hpv hpl
  have hpz : pb.data.toList.length = pb.size := Array.length_toList
  have hs1 : pb.size ≤ encE.sz1 ⟨(t : Int), vv, z, s⟩ := by unfold Enc.sz1; rw [hpv, hpz]; omega
  have hh12 : encE.hs ⟨(t : Int), vv, z, s⟩ + pb.size + (if un = true then 8 else 0) = encE.sz1 ⟨(t : Int), vv, z, s⟩ := by unfold Enc.sz1; rw [hpv, hpz, hun]
  have hdl := hd_len true (a := ⟨(t : Int), vv, z, s⟩) hvv
  have HDL : Hid (∀ q, (encE.hd ⟨(t : Int), vv, z, s⟩ q).length = encE.hs ⟨(t : Int), vv, z, s⟩) := hdl
  have HH : Hid _ := hh12
  have HPV : Hid _ := hpv
  have HPZ : Hid _ := hpz
  have HUN : Hid _ := hun
  have HLEN : Hid _ := hlen
  have cs := fun X (hX : Below W.heap.size W X) => szE_any X (some ⟨b, off, none⟩) n cap L (HP.out.nv.on hX) HP.out.tg HP.out.n40 HP.out.gd.sz
  obtain ⟨g, hg⟩ : ∃ g, encE.szP L = g := ⟨_, rfl⟩
  simp only [hg] at cs
  have hgl : g + pb.size ≤ 3000000 := by omega
  have HG : Hid _ := hg
  have hq : ((pb.size : Int) + (g : Int)) % 4294967296 = ((pb.size + g : Nat) : Int) := by omega
  have hpu : pb.size ≤ 65536 := by omega
  have HLL : Hid (L.length ≤ m) := hL
  clear hg hun hpv hpz hh12 hdl hlen hs1 hpl hnb hP hb1 hL
  have HLm : Hid (WrE m) := hw
  clear hw
  go_enter Tryz.func50, Tryz.ntmps50
  go_wp2_with (first | (go_at_call 79; refine Calls.mono (cp _) ?_; rintro e W2 ⟨rfl, hb2⟩) | (go_at_call 48; refine StopB.out ?_))
  have hB2 : Below W.heap.size W W2 := H1.out.1.trans (hb2.mono H1.out.1.size)
  refine ⟨Calls.mono (cs W2 hB2) ?_⟩
  rintro e W3 ⟨rfl, hb3⟩
  have H3 : Hid (Below W.heap.size W W3 ∧ NB W3 k (t : Int) vv z s) := ⟨hB2.trans (hb3.mono hB2.size), (H1.out.2.on hb2).on hb3⟩
  clear hb2 hb3 hB2 cs cp hW1 y0 y1 y2 y3 hk H1
  obtain ⟨y0, y1, y2, y3⟩ := H3.out.2.nc
  rcases un with _ | _
  · have HF : Hid (oneBE ⟨(t : Int), vv, z, s⟩ L = encE.hd ⟨(t : Int), vv, z, s⟩ (pb.size + g) ++ pb.data.toList ++ encE.wP L) := by
      show _ = _
      unfold oneBE
      rw [HUN.out, HPV.out, HPZ.out, HG.out, if_neg (by decide), if_neg (by decide), List.append_nil]
    have hpos : encE.hs ⟨(t : Int), vv, z, s⟩ + pb.size + g + ys.length ≤ 3000000 := by have h1 := HH.out; have h2 := HLEN.out; rw [HG.out] at h2; simp at h1; omega
    clear HH HLEN
    go_wp2_with (first | (go_at_call 248; refine Calls.mono (cu _) ?_; rintro e W4 ⟨rfl, hb4⟩; obtain ⟨x0, x1, x2, x3⟩ := (H3.out.2.on hb4).nc) | (go_at_call 249; refine StopB.out ?_))
    have H4 : Hid (Below W.heap.size W W4 ∧ NB W4 k (t : Int) vv z s) := ⟨H3.out.1.trans (hb4.mono H3.out.1.size), H3.out.2.on hb4⟩
    have hbW4 : base ≤ W4.heap.size := Nat.le_trans HP.out.hb H4.out.1.size
    refine ⟨Calls.mono (phE_ok W4 base v ys t (pb.size + g) ht (by omega) vv z s hvv (HP.out.own.on H4.out.1) hbW4 (by omega)) ?_⟩
    rintro e W5 ⟨u5, rfl, ho5, hb5⟩
    go_wp2_with (at_builtin; refine StopB.out ?_)
    refine ⟨app_text rfl (.tmp 30) (.tmp 31) rfl base _ _ rfl ho5.out pb rfl (by rw [List.length_append, HDL.out]; omega) (Nat.le_trans hbW4 hb5.out.size) ?_⟩
    intro u6 W6 ho6 hb6
    have hby6 : By base W W6 := (By.of H4.out.1 HP.out.hb).trans (hb5.out.trans hb6)
    go_wp2_with (go_at_call 32; refine StopB.out ?_)
    refine ⟨Calls.mono (HLm.out W6 base b off n cap L u6 _ HLL.out ⟨NV.lo HP.out.nv hby6.b HP.out.lt, HP.out.lt, HP.out.tg, HP.out.gd, HP.out.n40, by rw [List.length_append, List.length_append, HDL.out, HPZ.out, HG.out]; omega, ho6, Nat.le_trans HP.out.hb hby6.size⟩) ?_⟩
    rintro e W7 ⟨u7, rfl, ho7, hb7⟩
    have hby7 : By base W W7 := hby6.trans hb7.out
    have HN7 : Hid (NB W7 k (t : Int) vv z s) := ((H4.out.2.by hb5.out).by hb6).by hb7.out
    obtain ⟨p0, p1, p2, p3⟩ := HN7.out.nc
    clear x0 x1 x2 x3 y0 y1 y2 y3
    go_wp2_with (first | (go_at_call 248; refine Calls.mono (cu _) ?_; rintro e W8 ⟨rfl, hb8⟩) | fail)
    go_ret
    refine ⟨_, rfl, ?_, hby7.trans (By.of hb8 (Nat.le_trans HP.out.hb hby7.size))⟩
    rw [HF.out, ← List.append_assoc, ← List.append_assoc]
    exact ho7.out.on hb8
  · have HF : Hid (oneBE ⟨(t : Int), vv, z, s⟩ L = encE.hd ⟨(t : Int), vv, z, s⟩ 4294967295 ++ pb.data.toList ++ encE.wP L ++ plL 4294893789 0) := by
      show _ = _
      unfold oneBE
      rw [HUN.out, HPV.out, if_pos rfl, if_pos rfl]
      rfl
    have hpos : encE.hs ⟨(t : Int), vv, z, s⟩ + pb.size + 8 + g + ys.length ≤ 3000000 := by have h1 := HH.out; have h2 := HLEN.out; rw [HG.out] at h2; simp at h1; omega
    clear HH HLEN
    go_wp2_with (first | (go_at_call 248; refine Calls.mono (cu _) ?_; rintro e W4 ⟨rfl, hb4⟩; obtain ⟨x0, x1, x2, x3⟩ := (H3.out.2.on hb4).nc) | (go_at_call 249; refine StopB.out ?_))
    have H4 : Hid (Below W.heap.size W W4 ∧ NB W4 k (t : Int) vv z s) := ⟨H3.out.1.trans (hb4.mono H3.out.1.size), H3.out.2.on hb4⟩
    have hbW4 : base ≤ W4.heap.size := Nat.le_trans HP.out.hb H4.out.1.size
    refine ⟨Calls.mono (phE_ok W4 base v ys t 4294967295 ht (by omega) vv z s hvv (HP.out.own.on H4.out.1) hbW4 (by omega)) ?_⟩
    rintro e W5 ⟨u5, rfl, ho5, hb5⟩
    go_wp2_with (at_builtin; refine StopB.out ?_)
    refine ⟨app_text rfl (.tmp 30) (.tmp 31) rfl base _ _ rfl ho5.out pb rfl (by rw [List.length_append, HDL.out]; omega) (Nat.le_trans hbW4 hb5.out.size) ?_⟩
    intro u6 W6 ho6 hb6
    have hby6 : By base W W6 := (By.of H4.out.1 HP.out.hb).trans (hb5.out.trans hb6)
    go_wp2_with (go_at_call 32; refine StopB.out ?_)
    refine ⟨Calls.mono (HLm.out W6 base b off n cap L u6 _ HLL.out ⟨NV.lo HP.out.nv hby6.b HP.out.lt, HP.out.lt, HP.out.tg, HP.out.gd, HP.out.n40, by rw [List.length_append, List.length_append, HDL.out, HPZ.out, HG.out]; omega, ho6, Nat.le_trans HP.out.hb hby6.size⟩) ?_⟩
    rintro e W7 ⟨u7, rfl, ho7, hb7⟩
    have hby7 : By base W W7 := hby6.trans hb7.out
    have HN7 : Hid (NB W7 k (t : Int) vv z s) := ((H4.out.2.by hb5.out).by hb6).by hb7.out
    obtain ⟨p0, p1, p2, p3⟩ := HN7.out.nc
    have hwl : (encE.wP L).length = g := by rw [← HG.out]; exact wr_len true _ L (Nat.le_refl _) HP.out.gd
    clear x0 x1 x2 x3 y0 y1 y2 y3
    go_wp2_with (first | (go_at_call 248; refine Calls.mono (cu _) ?_; rintro e W8 ⟨rfl, hb8⟩) | (go_at_call 80; refine StopB.out ?_))
    refine ⟨Calls.mono (putPlain_any W8 base u7 _ 4294893789 0 (by decide) (by decide) (ho7.out.on hb8) (Nat.le_trans (Nat.le_trans HP.out.hb hby7.size) hb8.size) (by rw [List.length_append, List.length_append, List.length_append, HDL.out, HPZ.out, hwl]; omega)) ?_⟩
    rintro e W9 ⟨u9, rfl, ho9, hb9⟩
    go_wp2
    go_ret
    refine ⟨_, rfl, ?_, (hby7.trans (By.of hb8 (Nat.le_trans HP.out.hb hby7.size))).trans hb9.out⟩
    rw [HF.out, ← List.append_assoc, ← List.append_assoc, ← List.append_assoc]
    exact ho9.out
end Go.Proofs.YtfoodjhffehgpaaGreatDoor
end
