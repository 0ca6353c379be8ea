import Derived.Test.YtoikdpjjcnmgeaaGreatDoorVr
import Derived.ScopeJumps
import Derived.WalkMore
import Derived.Recover
import Derived.Defers
import Derived.Test.YtoikdpjjcnmgeaaGreatDoorQc
import Derived.Test.YtoikdpjjcnmgeaaGreatDoorBk
import Derived.WideMake
section
/-
  DERIVED. A reader made; all that it reads.
-/
namespace Go.Proofs.YtoikdpjjcnmgeaaGreatDoor
open Go Go.Proofs Go.RowKit
open Wk (Nd nds)
open Go.Sort

/-- The top level. -/
def topS (n : Nat) (x : Bool) : Sp := ⟨none, n, false, false, x, 0⟩
set_option maxRecDepth 100000 in
theorem newReader_any (w : World) (a : Option Addr) (n cap : Nat) (x : Bool) :
    Calls Tryz.prog 33 #[.slice a n cap, exV x] w fun e w' => e = .returned (.pointer (some ⟨w.heap.size + 1, 0, none⟩)) ∧ Hid (PR w.heap.size (w.heap.size + 1) (.slice a n cap) w' 0 [] [topS n x] (.slice none 0 0) (.slice (some ⟨w.heap.size, 0, none⟩) 1 1)) ∧ Hid (Below w.heap.size w w') := by
  rw [exV_eq]
  have HX : Hid (exV x = .iface (exI x) (.agg #[])) := exV_eq x
  generalize exI x = i at HX ⊢
  go_enter Tryz.func33, Tryz.ntmps33
  go_wp2
  go_ret
  refine ⟨rfl, ?_, ((Below.refl _ _).alloc (Nat.le_refl _) _).alloc (by simp) _⟩
  refine ⟨by simp, by simp, by simp, by simp, fun j => by simp, ⟨_, by rw [show w.heap.size + 1 = (w.alloc (.cells #[.int .i64 (-1), .int .i64 (n : Int), .bool false, .bool false, .iface i (.agg #[]), .int .u32 0] 112)).heap.size by simp]; exact heap_alloc_new _ _⟩, ⟨rfl, .inl ⟨rfl, rfl⟩⟩, ⟨rfl, .inr ⟨w.heap.size, 1, #[.int .i64 (-1), .int .i64 (n : Int), .bool false, .bool false, .iface i (.agg #[]), .int .u32 0], rfl, Nat.le_refl _, ?_, Nat.le_refl _, by decide, rfl, ?_⟩⟩, by omega, fun _ => rfl⟩
  · exact (((Below.refl _ _).alloc (Nat.le_refl _) _).block w.heap.size (by simp)).trans (heap_alloc_new w _)
  · show _ = spc [topS n x]
    unfold spc topS Sp.cs
    simp [HX.out, nodeV]
/-- As Q; by a goto to a label: J of that label. -/
def jumps (J : Nat → Act → World → Prop) (Q : Exit → Act → World → Prop) : Exit → Act → World → Prop
  | .goto l, a, w => J l a w
  | e, a, w => Q e a w
theorem jumps_ret {J : Nat → Act → World → Prop} {Q : Exit → Act → World → Prop} {a : Act} {w : World} : jumps J Q .ret a w = Q .ret a w := rfl
theorem jumps_goto {J : Nat → Act → World → Prop} {Q : Exit → Act → World → Prop} {l : Nat} {a : Act} {w : World} : jumps J Q (.goto l) a w = J l a w := rfl

section
variable {P : Program} {a : Act} {w : World} {Q : Exit → Act → World → Prop}

theorem wp_scope_many {c : Code} (J : Nat → Nat → Act → World → Prop)
    (first : c.wp P (jumps (fun l a w => ∃ m, J l m a w) Q) a w)
    (pass : ∀ l m a w, J l m a w → ∃ rest, findLabel c l = some rest ∧ rest.wp P (jumps (fun l' a' w' => ∃ m', m' < m ∧ J l' m' a' w') Q) a w) : (Code.scope c).wp P Q a w := by
  intro b k cs
  have hg : ∀ l rest, findLabel c l = some rest → gotoIn l (.inScope c :: k) = some (.code rest :: .inScope c :: k) := fun l rest hf => by simp [gotoIn, hf]
  have key : ∀ n l a w, J l n a w → ∃ rest, findLabel c l = some rest ∧ ∃ e a' w', Q e a' w' ∧ Arrives P (lone (b.at a (.code rest :: .inScope c :: k)) cs w) b k cs e a' w' := by
    intro n
    induction n using Nat.strongRecOn with
    | _ n ih =>
      intro l a w hJ
      obtain ⟨rest, hf, hp⟩ := pass l n a w hJ
      refine ⟨rest, hf, ?_⟩
      obtain ⟨e, a₁, w₁, hq, harr⟩ := hp b (.inScope c :: k) cs
      cases e with
      | normal => exact ⟨.normal, a₁, w₁, hq, Steps.trans harr (.one step_inScope)⟩
      | exit id => exact ⟨.exit id, a₁, w₁, hq, fun k' hk => harr k' (by simp [exitTo, hk])⟩
      | goto l' =>
        obtain ⟨m', hlt, hJ'⟩ := hq
        obtain ⟨rest', hf', e₂, a₂, w₂, hq₂, harr₂⟩ := ih m' hlt l' a₁ w₁ hJ'
        exact ⟨e₂, a₂, w₂, hq₂, .of_steps (harr _ (hg _ _ hf')) harr₂⟩
      | ret => exact ⟨_, a₁, w₁, hq, harr⟩
      | panic ch => exact ⟨_, a₁, w₁, hq, harr⟩
      | outgrown => exact ⟨_, a₁, w₁, hq, harr⟩
  obtain ⟨e, a₁, w₁, hq, harr⟩ := first b (.inScope c :: k) cs
  cases e with
  | normal => exact ⟨.normal, a₁, w₁, hq, .head step_scope (Steps.trans harr (.one step_inScope))⟩
  | exit id => exact ⟨.exit id, a₁, w₁, hq, fun k' hk => .head step_scope (harr k' (by simp [exitTo, hk]))⟩
  | goto l' =>
    obtain ⟨m', hJ'⟩ := hq
    obtain ⟨rest', hf', e₂, a₂, w₂, hq₂, harr₂⟩ := key m' l' a₁ w₁ hJ'
    exact ⟨e₂, a₂, w₂, hq₂, .of_steps (.head step_scope (harr _ (hg _ _ hf'))) harr₂⟩
  | ret => exact ⟨_, a₁, w₁, hq, .of_steps (.one step_scope) harr⟩
  | panic ch => exact ⟨_, a₁, w₁, hq, .of_steps (.one step_scope) harr⟩
  | outgrown => exact ⟨_, a₁, w₁, hq, .of_steps (.one step_scope) harr⟩
end

theorem PR.pop {base rb g sc : Nat} {bv nv : Value} {W : World} {k m : Nat} {M : List Nd} {sp sp2 : Sp} {r : List Sp} (hm : r.length = m) (h : PR base rb bv W k M (sp :: sp2 :: r) nv (.slice (some ⟨g, 0, none⟩) (m + 1 + 1) sc)) : PR base rb bv (W.setCell ⟨rb, 3, none⟩ (.slice (some ⟨g, 0, none⟩) (m + 1) sc)) k M (sp2 :: r) nv (.slice (some ⟨g, 0, none⟩) (m + 1) sc) := by
  subst hm
  have hs : W.ownsRow base 112 6 (.slice (some ⟨g, 0, none⟩) (r.length + 1) sc) (sp2 :: r).length (spc (sp2 :: r)) := by
    rcases h.sp.2 with ⟨_, h0⟩ | ⟨g', cap', cur, hv, hb, hh, hc, hm, hs, ht⟩
    · simp at h0
    · cases hv
      refine ⟨spc_len _, .inr ⟨g, sc, cur, rfl, hb, hh, by simp only [List.length_cons] at hc ⊢; omega, hm, hs, ?_⟩⟩
      have := spc_take sp (sp2 :: r)
      rw [← ht, List.take_take] at this
      rw [← this]
      congr 1
      simp
  exact (h.grownS ⟨rfl, rfl, rfl, Nat.le_refl _, fun _ _ _ => rfl⟩ hs).2.2
theorem skip_seq {P : Program} {Q : Exit → Act → World → Prop} {a : Act} {w : World} {c : Code} (h : c.wp P Q a w) : (Code.seq .skip c).wp P Q a w := wp_seq (wp_skip h)
/-- The frame of the reading: what its scratch slots hold is not looked at. -/
def frR (rb : Nat) (t : Nat → Value) : Act := { tmps := #[.pointer (some ⟨rb, 0, none⟩), undef, .slice none 0 0, t 3, t 4, t 5, t 6, t 7, t 8, t 9, t 10, t 11, t 12, t 13, t 14, t 15, t 16, t 17, t 18, t 19, t 20, t 21, t 22, t 23, t 24, t 25, t 26, t 27, t 28, t 29, t 30, t 31, t 32, t 33, t 34, t 35, t 36, t 37, t 38, t 39, t 40, t 41, t 42], defers := [] }
/-- What is told at the end of the reading. -/
def RdP (base : Nat) (S : Src) (n : Nat) (x : Bool) (w : World) (e : Ending) (w' : World) : Prop :=
  ((∃ a c, Pan w' a c e ∧ Ends S 0 [] [topS n x] (.bad a c)) ∨ (∃ nv M, e = .returned nv ∧ w'.ownsRow base 54 4 nv M.length (nds M) ∧ Ends S 0 [] [topS n x] (.ok M) ∧ MOk M ∧ (M.length = 0 → nv = .slice none 0 0))) ∧ Below base w w'
/-- What holds at each head. -/
def JR (base rb : Nat) (a : Option Addr) (n cap : Nat) (ys : List UInt8) (x : Bool) (w0 : World) (l m : Nat) (A : Act) (w : World) : Prop :=
  l = 0 ∧ ∃ t k M sp r nv sv, A = frR rb t ∧ PR base rb (.slice a n cap) w k M (sp :: r) nv sv ∧ PI n k M (sp :: r) ∧ (∀ R, Ends (srcS ys) k M (sp :: r) R → Ends (srcS ys) 0 [] [topS n x] R) ∧ Below base w0 w ∧ m = 2 * (n - k) + (r.length + 1)

/-- A step that takes something does not leave the last span. -/
theorem no_empty {S : Src} {k : Nat} {M : List Nd} {sp : Sp} {r : List Sp} {k' : Nat} {M' : List Nd} (h : step S k M sp r = if sp.it = true then stepI S k M sp r else stepE S k M sp r) (hs : step S k M sp r = .go k' M' []) : False := by
  rw [h] at hs
  split at hs
  · unfold stepI at hs
    split at hs
    · cases hs
    split at hs
    · cases hs
    split at hs
    · cases hs
    split at hs
    · cases hs
    split at hs <;> cases hs
  · unfold stepE at hs
    split at hs
    · cases hs
    split at hs
    · cases hs
    unfold stepB at hs
    split at hs
    · cases hs
    split at hs
    · cases hs
    split at hs
    · cases hs
    split at hs
    · cases hs
    split at hs
    · cases hs
    split at hs <;> cases hs
theorem fr_ex (rb : Nat) (u3 u4 u5 u6 u7 u8 u9 u10 u11 u12 u13 u14 u15 u16 u17 u18 u19 u20 u21 u22 u23 u24 u25 u26 u27 u28 u29 u30 u31 u32 u33 u34 u35 u36 u37 u38 u39 u40 u41 u42 : Value) : ∃ t, ({ tmps := #[.pointer (some ⟨rb, 0, none⟩), undef, .slice none 0 0, u3, u4, u5, u6, u7, u8, u9, u10, u11, u12, u13, u14, u15, u16, u17, u18, u19, u20, u21, u22, u23, u24, u25, u26, u27, u28, u29, u30, u31, u32, u33, u34, u35, u36, u37, u38, u39, u40, u41, u42], defers := [] } : Act) = frR rb t := ⟨fun i => [u3, u4, u5, u6, u7, u8, u9, u10, u11, u12, u13, u14, u15, u16, u17, u18, u19, u20, u21, u22, u23, u24, u25, u26, u27, u28, u29, u30, u31, u32, u33, u34, u35, u36, u37, u38, u39, u40, u41, u42].getD (i - 3) undef, rfl⟩
theorem JR.mk {base rb : Nat} {a : Option Addr} {n cap : Nat} {ys : List UInt8} {x : Bool} {w0 w : World} {A : Act} {m k : Nat} {M : List Nd} {sp : Sp} {r : List Sp} {nv sv : Value} (hfr : ∃ t, A = frR rb t) (hP : PR base rb (.slice a n cap) w k M (sp :: r) nv sv) (hI : PI n k M (sp :: r)) (hE : ∀ R, Ends (srcS ys) k M (sp :: r) R → Ends (srcS ys) 0 [] [topS n x] R) (hB : Below base w0 w) (hm : 2 * (n - k) + (r.length + 1) < m) : ∃ m', m' < m ∧ JR base rb a n cap ys x w0 0 m' A w := by
  obtain ⟨t, rfl⟩ := hfr
  exact ⟨_, hm, rfl, t, k, M, sp, r, nv, sv, rfl, hP, hI, hE, hB, rfl⟩

set_option maxRecDepth 100000 in
set_option maxHeartbeats 8000000 in
theorem read_round (r0 c : Code) (hc : Tryz.f34.body = some (.seq r0 (.scope c))) (base rb : Nat) (a : Option Addr) (n cap : Nat) (ys : List UInt8) (x : Bool) (w0 : World) (hV : BV base w0 a n cap ys) (m : Nat) (A : Act) (w : World) (h : JR base rb a n cap ys x w0 0 m A w) :
    ∃ rest, findLabel c 0 = some (Code.seq .skip rest) ∧ rest.wp Tryz.prog (jumps (fun l' a' w' => ∃ m', m' < m ∧ JR base rb a n cap ys x w0 l' m' a' w') (bodyPost Tryz.prog Tryz.f34 (RdP base (srcS ys) n x w0))) A w := by
  unfold Tryz.f34 at hc
  cases hc
  refine ⟨_, rfl, ?_⟩
  obtain ⟨-, t, k, M, sp, r, nv, sv, rfl, hP, hI, hE, hB, rfl⟩ := h
  obtain ⟨g, sc, rfl, hbg, hsc⟩ := hP.form
  have hln := hI.ln
  simp only [List.length_cons] at hln
  obtain ⟨hk, hf⟩ := hI.le
  have hn := hV.s
  have cI := inner_any w rb g r.length sc (by omega) hP.c3
  have HP : Hid _ := hP
  have HI : Hid _ := hI
  have HE : Hid _ := hE
  have HB : Hid _ := hB
  have HV : Hid _ := hV
  have HLT : Hid (base ≤ w.heap.size) := hP.lt
  obtain ⟨mm, hmm⟩ : ∃ z, r.length = z := ⟨_, rfl⟩
  have HM : Hid _ := hmm
  rw [hmm] at cI
  have HBND : Hid (mm ≤ 4000000 ∧ n ≤ 1048576 ∧ k ≤ n) := ⟨by omega, hn, by omega⟩
  clear hP hI hE hB hV hk hf hn hln hmm hbg hsc
  unfold frR
  go_wp2_with (go_at_call 57; refine StopV.out ?_)
  refine ⟨Calls.mono cI ?_⟩
  rintro e W1 ⟨rfl, hb1⟩
  have HP1 : Hid _ := HP.out.on hb1
  have hB1 : Below base w0 W1 := HB.out.trans (hb1.mono HLT.out)
  have HB1 : Hid _ := hB1
  have cA := atEnd_any W1 base rb a n cap k ys M sp r nv g sc HP1.out (HV.out.on hB1) HI.out
  rw [HM.out] at cA
  clear cI hb1 hB1 HP
  go_wp2_with (go_at_call 58; refine StopV.out ?_)
  refine ⟨Calls.mono cA ?_⟩
  rintro e W2 ⟨he, hb2⟩
  have HB2 : Hid (Below base w0 W2) := HB1.out.trans hb2
  have hst := step_end (srcS ys) k M sp r
  rcases hend : endS (srcS ys) k sp with c | k' | _
  · rw [hend] at he hst
    obtain ⟨q, rfl, hc⟩ : Pan W2 k c e := he
    exact ⟨rfl, .inl ⟨k, c, ⟨q, rfl, hc⟩, HE.out _ (.bad hst)⟩, HB2.out⟩
  · rw [hend] at he hst
    obtain ⟨rfl, hp2⟩ : e = .returned (.bool true) ∧ PR base rb (.slice a n cap) W2 k' M (sp :: r) nv (.slice (some ⟨g, 0, none⟩) (mm + 1) sc) := he
    obtain ⟨hI2, hlt⟩ := HI.out.next (src_ok ys) hst
    have c32 := hp2.c3
    have c22 := hp2.c2
    have f32 := hp2.fz 3
    have HST : Hid _ := hst
    have HP2 : Hid _ := hp2
    have HI2 : Hid _ := hI2
    have HLT2 : Hid _ := hlt
    rcases r with _ | ⟨sp2, r2⟩
    · obtain rfl : 0 = mm := HM.out
      clear hst hp2 hI2 hlt hend hb2 cA
      go_wp2
      go_ret
      exact ⟨.inr ⟨nv, M, rfl, HP2.out.nd, HE.out _ (.go HST.out (.done _ _)), ⟨HI2.out.mo, HP2.out.nz⟩⟩, HB2.out⟩
    · obtain ⟨m2, rfl⟩ : ∃ z, mm = z + 1 := ⟨r2.length, HM.out.symm⟩
      have hm2 : r2.length = m2 := by have := HM.out; simpa using this
      have b1 : (((m2 + 1 + 1 : Nat) : Int) == 1) = false := beq_eq_false_iff_ne.2 (by omega)
      have b2 : ((m2 : Int) + 1 + 1 == 1) = false := beq_eq_false_iff_ne.2 (by omega)
      have w1 : IntKind.i64.wrap ((m2 : Int) + 1) = (m2 : Int) + 1 := by rw [IntKind.wrap_i64]; have := HBND.out; omega
      have hcp : m2 + 1 + 1 ≤ sc := by
        obtain ⟨g', cap', e, -, h3⟩ := HP2.out.form
        cases e
        simpa [hm2] using h3
      have HMM : Hid _ := hm2
      clear hst hp2 hI2 hlt hend hb2 cA hm2
      go_wp2
      go_region
      go_wp2
      go_step3
      refine JR.mk (fr_ex _ _ _ _ _ _ _ _ _ _ _ _ _ _ _ _ _ _ _ _ _ _ _ _ _ _ _ _ _ _ _ _ _ _ _ _ _ _ _ _ _) ((HP2.out.pop HMM.out).on ((Below.refl _ _).drew)) HI2.out (fun R hR => HE.out R (.go HST.out hR)) ((HB2.out.setCell (p := ⟨rb, 3, none⟩) HP2.out.hb _).drew) ?_
      have h1 := HLT2.out
      have h2 := HI2.out.le
      have h3 := HBND.out
      simp only [List.length_cons] at h1 ⊢
      omega
  · rw [hend] at he hst
    obtain ⟨rfl, hp2⟩ : e = .returned (.bool false) ∧ PR base rb (.slice a n cap) W2 k M (sp :: r) nv (.slice (some ⟨g, 0, none⟩) (mm + 1) sc) := he
    have hV2 := HV.out.on HB2.out
    have h8 : 8 ≤ sp.fin - k := by
      unfold endS at hend
      split at hend
      · cases hend
      split at hend
      · cases hend
      · omega
    have HST : Hid (step (srcS ys) k M sp r = if sp.it = true then stepI (srcS ys) k M sp r else stepE (srcS ys) k M sp r) := hst
    have hp2' : PR base rb (.slice a n cap) W2 k M (sp :: r) nv (.slice (some ⟨g, 0, none⟩) (r.length + 1) sc) := by rw [HM.out]; exact hp2
    have s3 := hp2'.sc.s3
    rw [HM.out] at s3
    have cTI := takeItem_any W2 base rb a n cap k ys M sp r nv g sc hp2' hV2 HI.out h8
    have cTE := takeElement_any W2 base rb a n cap k ys M sp r nv g sc hp2' hV2 HI.out h8
    rw [HM.out] at cTI cTE
    clear hst hp2 hp2' hend hb2 cA hV2 h8
    have HN : Hid (∀ k' M' st' nv' sv' W, step (srcS ys) k M sp r = .go k' M' st' → PR base rb (.slice a n cap) W k' M' st' nv' sv' → Below base W2 W → ∀ A, (∃ t, A = frR rb t) → ∃ m', m' < 2 * (n - k) + (r.length + 1) ∧ JR base rb a n cap ys x w0 0 m' A W) := fun k' M' st' nv' sv' W hs hp hb A hA => by
      obtain ⟨hI2, hlt⟩ := HI.out.next (src_ok ys) hs
      rcases st' with _ | ⟨sp', r'⟩
      · exfalso
        exact no_empty HST.out hs
      · refine JR.mk hA hp hI2 (fun R hR => HE.out R (.go hs hR)) (HB2.out.trans hb) ?_
        have h2 := hI2.le
        simp only [List.length_cons] at hlt
        omega
    rcases hit : sp.it with _ | _
    · rw [hit] at s3
      clear cTI
      go_wp2_with (go_at_call 60; refine StopV.out ?_)
      refine ⟨Calls.mono cTE ?_⟩
      rintro e W3 ⟨he, hb3⟩
      have hs := HST.out
      rw [hit] at hs
      have hs2 : step (srcS ys) k M sp r = stepE (srcS ys) k M sp r := hs
      rcases hq : stepE (srcS ys) k M sp r with ⟨a', c'⟩ | ⟨k', M', st'⟩
      · rw [hq] at he hs2
        obtain ⟨q, rfl, hc⟩ : Pan W3 a' c' e := he
        exact ⟨rfl, .inl ⟨a', c', ⟨q, rfl, hc⟩, HE.out _ (.bad hs2)⟩, HB2.out.trans hb3⟩
      · rw [hq] at he hs2
        obtain ⟨rfl, nv', sv', hp3⟩ := he
        have HS2 : Hid _ := hs2
        have HP3 : Hid _ := hp3
        have HB3 : Hid _ := hb3
        clear hs hs2 hq hp3 hb3 cTE
        go_wp2
        go_step3
        exact HN.out k' M' st' nv' sv' W3 HS2.out HP3.out HB3.out _ (fr_ex _ _ _ _ _ _ _ _ _ _ _ _ _ _ _ _ _ _ _ _ _ _ _ _ _ _ _ _ _ _ _ _ _ _ _ _ _ _ _ _ _)
    · rw [hit] at s3
      clear cTE
      go_wp2_with (go_at_call 59; refine StopV.out ?_)
      refine ⟨Calls.mono cTI ?_⟩
      rintro e W3 ⟨he, hb3⟩
      have hs := HST.out
      rw [hit] at hs
      have hs2 : step (srcS ys) k M sp r = stepI (srcS ys) k M sp r := hs
      rcases hq : stepI (srcS ys) k M sp r with ⟨a', c'⟩ | ⟨k', M', st'⟩
      · rw [hq] at he hs2
        obtain ⟨q, rfl, hc⟩ : Pan W3 a' c' e := he
        exact ⟨rfl, .inl ⟨a', c', ⟨q, rfl, hc⟩, HE.out _ (.bad hs2)⟩, HB2.out.trans hb3⟩
      · rw [hq] at he hs2
        obtain ⟨rfl, nv', sv', hp3⟩ := he
        have HS2 : Hid _ := hs2
        have HP3 : Hid _ := hp3
        have HB3 : Hid _ := hb3
        clear hs hs2 hq hp3 hb3 cTI
        go_wp2
        go_step3
        exact HN.out k' M' st' nv' sv' W3 HS2.out HP3.out HB3.out _ (fr_ex _ _ _ _ _ _ _ _ _ _ _ _ _ _ _ _ _ _ _ _ _ _ _ _ _ _ _ _ _ _ _ _ _ _ _ _ _ _ _ _ _)
end Go.Proofs.YtoikdpjjcnmgeaaGreatDoor
end

section
/-
  DERIVED. All that a reader reads; Decode: the program's.
-/
namespace Go.Proofs.YtoikdpjjcnmgeaaGreatDoor
open Go Go.Proofs Go.RowKit
open Wk (Nd nds)
open Go.Sort

set_option maxRecDepth 100000 in
theorem read_any (w : World) (base rb : Nat) (a : Option Addr) (n cap : Nat) (ys : List UInt8) (x : Bool) (nv sv : Value) (hP : PR base rb (.slice a n cap) w 0 [] [topS n x] nv sv) (hV : BV base w a n cap ys) :
    Calls Tryz.prog 34 #[.pointer (some ⟨rb, 0, none⟩)] w (RdP base (srcS ys) n x w) := by
  have hI : PI n 0 [] [topS n x] := ⟨⟨Nat.zero_le _, trivial⟩, fun y hy => by rw [List.mem_singleton.1 hy]; exact Nat.le_refl _, by simp, MOk.nil, fun y hy p e => by obtain rfl := List.mem_singleton.1 hy; exact (nomatch e), fun y hy => by rw [List.mem_singleton.1 hy]; show (0 : Nat) < _; decide⟩
  have hJ : ∀ A, (∃ t, A = frR rb t) → ∃ m', m' < 2 * n + 2 ∧ JR base rb a n cap ys x w 0 m' A w := fun A hA => JR.mk hA hP hI (fun _ h => h) (Below.refl _ _) (by simp)
  go_enter Tryz.func34, Tryz.ntmps34
  go_wp2
  refine wp_scope_many (JR base rb a n cap ys x w) ?_ (fun l m A W h => by
    obtain rfl : l = 0 := h.1
    obtain ⟨rest, hf, hw⟩ := read_round _ _ (by unfold Tryz.f34; rfl) base rb a n cap ys x w hV m A W h
    exact ⟨_, hf, skip_seq hw⟩)
  obtain ⟨m, -, hj⟩ := hJ _ (fr_ex rb _ _ _ _ _ _ _ _ _ _ _ _ _ _ _ _ _ _ _ _ _ _ _ _ _ _ _ _ _ _ _ _ _ _ _ _ _ _ _ _)
  obtain ⟨rest, hf, hw⟩ := read_round _ _ (by unfold Tryz.f34; rfl) base rb a n cap ys x w hV m _ w hj
  refine wp_seq (wp_label ?_)
  cases hf
  exact Code.wp_mono (fun e A W h => by
    cases e with
    | goto l => obtain ⟨m', _, h'⟩ := h; exact ⟨m', h'⟩
    | normal => exact h
    | exit _ => exact h
    | ret => exact h
    | panic _ => exact h
    | outgrown => exact h) hw
end Go.Proofs.YtoikdpjjcnmgeaaGreatDoor
end

section
/-
  DERIVED. What Decode catches.
-/
namespace Go.Proofs.YtoikdpjjcnmgeaaGreatDoor
open Go Go.Proofs Go.RowKit
open Wk (Nd nds)
open Go.Sort

theorem assert_yes (q : Nat) (w : World) : (Instr.typeAssert (.iface 70 (.pointer (some ⟨q, 0, none⟩))) 20 70 true).run Tryz.prog w = .ok (.tuple #[.pointer (some ⟨q, 0, none⟩), .bool true]) w := by kernel_rfl
theorem assert_no (w : World) : (Instr.typeAssert .nilIface 20 70 true).run Tryz.prog w = .ok (.tuple #[.pointer none, .bool false]) w := by kernel_rfl
set_option maxRecDepth 100000 in
set_option maxHeartbeats 1000000 in
theorem catch_panicking (p4 p5 : Nat) (q : Nat) (older : List PanicEntry) (w : World) (u4 u5 : Value) (hc4 : w.cell? ⟨p4, 0, none⟩ = some u4) (hz4 : w.frozen? ⟨p4, 0, none⟩ = false) (hc5 : w.cell? ⟨p5, 0, none⟩ = some u5) (hz5 : w.frozen? ⟨p5, 0, none⟩ = false) (hne : p4 ≠ p5) :
    CallsD Tryz.prog 32 #[.pointer (some ⟨p4, 0, none⟩), .pointer (some ⟨p5, 0, none⟩)] (.panicking ({ v := .iface 70 (.pointer (some ⟨q, 0, none⟩)), recovered := false } :: older)) w fun e u' w' =>
      e = .returned (.tuple #[]) ∧ u' = .panicking ({ v := .iface 70 (.pointer (some ⟨q, 0, none⟩)), recovered := true } :: older) ∧ w' = (w.setCell ⟨p4, 0, none⟩ (.slice none 0 0)).setCell ⟨p5, 0, none⟩ (.iface 70 (.pointer (some ⟨q, 0, none⟩))) := by
  refine callsD_of_wpS Tryz.func32 rfl fun c₀ cs hu => ?_
  apply wpS_seq
  apply wpS_region
  have hta := assert_yes q
  simp [wpOpsS, go_sem, recoverD, hu, Tryz.ntmps32, Exit.thenS, hta]
  have hc5' : ∀ v, (w.setCell ⟨p4, 0, none⟩ v).cell? ⟨p5, 0, none⟩ = some u5 := fun v => (Rp.cell_set_off hne).trans hc5
  apply wpS_seq
  apply wpS_region
  simp [wpOpsS, go_sem, Exit.thenS]
  refine wpS_cond (t := true) (by simp [Act.eval, Array.replicate]) ?_
  simp only [if_true]
  apply wpS_region
  simp [wpOpsS, go_sem, hc4, hz4, hc5', hz5, bodyPostS, results, Tryz.results32]

set_option maxRecDepth 100000 in
set_option maxHeartbeats 1000000 in
theorem catch_idle (p4 p5 : Nat) (w : World) :
    CallsD Tryz.prog 32 #[.pointer (some ⟨p4, 0, none⟩), .pointer (some ⟨p5, 0, none⟩)] .returning w fun e u' w' => e = .returned (.tuple #[]) ∧ u' = .returning ∧ w' = w := by
  refine callsD_of_wpS Tryz.func32 rfl fun c₀ cs hu => ?_
  have hta := assert_no
  apply wpS_seq
  apply wpS_region
  simp [wpOpsS, go_sem, recoverD, hu, Tryz.ntmps32, Exit.thenS, hta]
  apply wpS_seq
  apply wpS_region
  simp [wpOpsS, go_sem, Exit.thenS]
  refine wpS_cond (t := false) (by simp [Act.eval, Array.replicate]) ?_
  simp only [Bool.false_eq_true, if_false]
  refine wpS_of_wp (wp_skip ?_)
  cases c₀
  simp_all [bodyPostS, results, Tryz.results32]
end Go.Proofs.YtoikdpjjcnmgeaaGreatDoor
end

section
/-
  DERIVED. Decode: the program's.
-/
namespace Go.Proofs.YtoikdpjjcnmgeaaGreatDoor
open Go Go.Proofs Go.RowKit
open Wk (Nd nds)
open Go.Sort

set_option maxRecDepth 100000 in
theorem syn_ok (w : World) (x : Bool) : Calls Tryz.prog 30 #[.int .i64 (if x = true then 2 else 1)] w fun e w' => e = .returned (.tuple #[.iface (exI x) (.agg #[]), .nilIface]) ∧ w = w' := by
  cases x
  · show Calls Tryz.prog 30 #[.int .i64 1] w _
    go_enter Tryz.func30, Tryz.ntmps30
    go_wp2
    exact bodyPost_ret (v := .tuple #[.iface 107 (.agg #[]), .nilIface]) (by simp [results, Tryz.results30, go_sem]) rfl ⟨rfl, rfl⟩
  · show Calls Tryz.prog 30 #[.int .i64 2] w _
    go_enter Tryz.func30, Tryz.ntmps30
    go_wp2
    exact bodyPost_ret (v := .tuple #[.iface 108 (.agg #[]), .nilIface]) (by simp [results, Tryz.results30, go_sem]) rfl ⟨rfl, rfl⟩
set_option maxRecDepth 100000 in
theorem syn_no (w : World) (s : Int) (h : s ≠ 1 ∧ s ≠ 2) : Calls Tryz.prog 30 #[.int .i64 s] w fun e w' => ∃ q, e = .returned (.tuple #[.nilIface, .iface 70 (.pointer (some ⟨q, 0, none⟩))]) ∧ Hid (Chain w' [(dsB, 0)] 120 (.iface 70 (.pointer (some ⟨q, 0, none⟩)))) ∧ Hid (Below w.heap.size w w') := by
  have b1 : (s == 1) = false := beq_eq_false_iff_ne.2 h.1
  have b2 : (s == 2) = false := beq_eq_false_iff_ne.2 h.2
  have c := refuseD_any w 0 120
  clear h
  go_enter Tryz.func30, Tryz.ntmps30
  go_wp2_with (go_at_call 31; refine StopV.out ?_)
  refine ⟨Calls.mono c ?_⟩
  rintro e W1 ⟨q, rfl, hc, hb⟩
  go_wp2
  exact bodyPost_ret (v := .tuple #[.nilIface, .iface 70 (.pointer (some ⟨q, 0, none⟩))]) (by simp [results, Tryz.results30, go_sem]) rfl ⟨q, rfl, hc, hb⟩

/-- Decode refuses so. -/
def ErrD (s : Int) (ys : List UInt8) (a c : Nat) : Prop :=
  (s ≠ 1 ∧ s ≠ 2 ∧ a = 0 ∧ c = 120) ∨ ((s = 1 ∨ s = 2) ∧ 1048576 < ys.length ∧ a = 1048576 ∧ c = 121) ∨ ((s = 1 ∨ s = 2) ∧ ys.length ≤ 1048576 ∧ Ends (srcS ys) 0 [] [topS ys.length (decide (s = 2))] (.bad a c))
/-- Decode reads so. -/
def OkD (s : Int) (ys : List UInt8) (M : List Nd) : Prop := (s = 1 ∨ s = 2) ∧ ys.length ≤ 1048576 ∧ Ends (srcS ys) 0 [] [topS ys.length (decide (s = 2))] (.ok M)
/-- What Decode tells. -/
def DcR (base : Nat) (w' : World) (s : Int) (ys : List UInt8) (nv ve : Value) : Prop :=
  (∃ a c, ErrD s ys a c ∧ nv = .slice none 0 0 ∧ Chain w' [(dsB, (a : Int))] (c : Int) ve) ∨ (∃ M, OkD s ys M ∧ ve = .nilIface ∧ w'.ownsRow base 54 4 nv M.length (nds M) ∧ MOk M ∧ (M.length = 0 → nv = .slice none 0 0))
def DcP (w : World) (s : Int) (ys : List UInt8) (e : Ending) (w' : World) : Prop := ∃ nv ve, e = .returned (.tuple #[nv, ve]) ∧ Hid (DcR w.heap.size w' s ys nv ve) ∧ Hid (Below w.heap.size w w')

theorem chain_set {W : World} {p : Nat} {x : Lk} {c : Int} {ve u v : Value} (h : Chain W [x] c ve) (hp : W.cell? ⟨p, 0, none⟩ = some u) (hu : ∀ s, u ≠ .string s) : Chain (W.setCell ⟨p, 0, none⟩ v) [x] c ve := by
  obtain ⟨q, u', h1, h2, h3, h4, h5⟩ := h
  have hne : p ≠ q := fun e => by
    rw [e, h2] at hp
    cases hp
    exact hu _ rfl
  exact ⟨q, u', h1, (Rp.cell_set_off hne).trans h2, (Rp.cell_set_off hne).trans h3, (Rp.cell_set_off hne).trans h4, h5⟩

set_option maxRecDepth 100000 in
set_option maxHeartbeats 2000000 in
theorem dec_no (w : World) (a : Option Addr) (n cap : Nat) (ys : List UInt8) (s : Int) (h : s ≠ 1 ∧ s ≠ 2) : Calls Tryz.prog 10 #[.slice a n cap, .int .i64 s] w (DcP w s ys) := by
  have hmf : ∀ (fn : Fn) (first cap : Array Value) (w : World), (Instr.makeFunc fn first cap).run Tryz.prog w = .ok (.func fn first cap) w := fun _ _ _ _ => rfl
  have cS := syn_no ((w.alloc (.cells #[.slice none 0 0] 25)).alloc (.cells #[.nilIface] 27)) s h
  have HS : Hid _ := h
  clear h
  go_enter_defers Tryz.func10, Tryz.ntmps10
  go_wp2_with (go_at_call 30; refine StopV.out ?_)
  refine ⟨Calls.mono cS ?_⟩
  rintro e W1 ⟨q, rfl, hc, hb⟩
  have c4 : W1.cell? ⟨w.heap.size, 0, none⟩ = some (.slice none 0 0) := (hb.out.cell (p := ⟨w.heap.size, 0, none⟩) (by simp; omega)).trans (by simp)
  have c5 : W1.cell? ⟨w.heap.size + 1, 0, none⟩ = some .nilIface := (hb.out.cell (p := ⟨w.heap.size + 1, 0, none⟩) (by simp)).trans (by simp)
  have z4 : W1.frozen? ⟨w.heap.size, 0, none⟩ = false := (hb.out.frozen (p := ⟨w.heap.size, 0, none⟩) (by simp; omega)).trans (by simp)
  have z5 : W1.frozen? ⟨w.heap.size + 1, 0, none⟩ = false := (hb.out.frozen (p := ⟨w.heap.size + 1, 0, none⟩) (by simp)).trans (by simp)
  have c51 : ∀ v, (W1.setCell ⟨w.heap.size + 1, 0, none⟩ v).cell? ⟨w.heap.size, 0, none⟩ = some (.slice none 0 0) := fun v => (Rp.cell_set_off (by omega)).trans c4
  have c52 : ∀ v, (W1.setCell ⟨w.heap.size + 1, 0, none⟩ v).cell? ⟨w.heap.size + 1, 0, none⟩ = some v := fun v => Rp.cell_set_eq c5
  have n1 : w.heap.size ≠ w.heap.size + 1 := by omega
  have n2 : w.heap.size + 1 ≠ w.heap.size := by omega
  go_wp2
  go_region
  go_wp2
  obtain ⟨W9, hW9⟩ : ∃ W9, (((W1.setCell ⟨w.heap.size + 1, 0, none⟩ (.iface 70 (.pointer (some ⟨q, 0, none⟩)))).setCell ⟨w.heap.size, 0, none⟩ (.slice none 0 0)).setCell ⟨w.heap.size + 1, 0, none⟩ (.iface 70 (.pointer (some ⟨q, 0, none⟩)))).drew = W9 := ⟨_, rfl⟩
  have HCH : Hid (Chain W9 [(dsB, 0)] 120 (.iface 70 (.pointer (some ⟨q, 0, none⟩)))) := by
    rw [← hW9]
    refine Chain.on ((Below.refl _ _).drew) (chain_set (u := .iface 70 (.pointer (some ⟨q, 0, none⟩))) (chain_set (u := .slice none 0 0) (chain_set (u := .nilIface) hc.out c5 (fun _ h => nomatch h)) (c51 _) (fun _ h => nomatch h)) ?_ (fun _ h => nomatch h))
    exact (Rp.cell_set_off n1).trans (c52 _)
  have HBL : Hid (Below w.heap.size w W9) := by
    rw [← hW9]
    exact ((((((((Below.refl _ w).alloc (Nat.le_refl _) _).alloc (by simp) _).trans (hb.out.mono (by simp; omega))).setCell (p := ⟨w.heap.size + 1, 0, none⟩) (Nat.le_succ _) _).setCell (p := ⟨w.heap.size, 0, none⟩) (Nat.le_refl _) _).setCell (p := ⟨w.heap.size + 1, 0, none⟩) (Nat.le_succ _) _).drew)
  have u4 : W9.cell? ⟨w.heap.size, 0, none⟩ = some (.slice none 0 0) := by
    rw [← hW9]
    exact (Rp.cell_set_off n2).trans (Rp.cell_set_eq (c51 _))
  have u5 : W9.cell? ⟨w.heap.size + 1, 0, none⟩ = some (.iface 70 (.pointer (some ⟨q, 0, none⟩))) := by
    rw [← hW9]
    exact Rp.cell_set_eq ((Rp.cell_set_off n1).trans (c52 _))
  rw [hW9]
  simp [bodyPostD, Leaves, results, Tryz.results10, go_sem, u4, u5]
  exact ⟨_, _, rfl, .inl ⟨0, 120, .inl ⟨HS.out.1, HS.out.2, rfl, rfl⟩, rfl, HCH.out⟩, HBL⟩
theorem own_low {W : World} {base base' : Nat} {e : TypeId} {z : Nat} {v : Value} {n : Nat} {xs : List Value} (h : W.ownsRow base e z v n xs) (hb : base' ≤ base) : W.ownsRow base' e z v n xs :=
  ⟨h.1, h.2.imp id (fun ⟨g, cap, cur, h1, h2, h3⟩ => ⟨g, cap, cur, h1, Nat.le_trans hb h2, h3⟩)⟩
theorem BV.up {base base' : Nat} {W W' : World} {a : Option Addr} {n cap : Nat} {ys : List UInt8} (h : BV base W a n cap ys) (hb : Below base W W') (hl : base ≤ base') : BV base' W' a n cap ys :=
  ⟨h.l, h.c, h.s, fun k hk => by obtain ⟨b, off, e, h1, h2⟩ := h.m k hk; exact ⟨b, off, e, Nat.lt_of_lt_of_le h1 hl, (hb.cell (p := ⟨b, off + k, none⟩) h1).trans h2⟩⟩

set_option maxRecDepth 100000 in
set_option maxHeartbeats 2000000 in
theorem dec_long (w : World) (a : Option Addr) (n cap : Nat) (ys : List UInt8) (x : Bool) (hn : n = ys.length) (hl : 1048576 < n) (h63 : n ≤ 9223372036854775807) : Calls Tryz.prog 10 #[.slice a n cap, .int .i64 (if x = true then 2 else 1)] w (DcP w (if x = true then 2 else 1) ys) := by
  have hmf : ∀ (fn : Fn) (first cap : Array Value) (w : World), (Instr.makeFunc fn first cap).run Tryz.prog w = .ok (.func fn first cap) w := fun _ _ _ _ => rfl
  have cS := syn_ok ((w.alloc (.cells #[.slice none 0 0] 25)).alloc (.cells #[.nilIface] 27)) x
  have HN : Hid (1048576 < ys.length) := by rw [← hn]; exact hl
  have b1 : decide ((1048576 : Int) < (n : Int)) = true := decide_eq_true (by omega)
  have b2 : decide (1048576 < n) = true := decide_eq_true hl
  obtain ⟨s, hs⟩ : ∃ s : Int, (if x = true then 2 else 1) = s := ⟨_, rfl⟩
  have HS : Hid (s = 1 ∨ s = 2) := by cases x; exact .inl hs.symm; exact .inr hs.symm
  rw [hs] at cS ⊢
  obtain ⟨X, hX⟩ : ∃ X, ((w.alloc (.cells #[.slice none 0 0] 25)).alloc (.cells #[.nilIface] 27)).setCell ⟨w.heap.size + 1, 0, none⟩ .nilIface = X := ⟨_, rfl⟩
  have cR := refuseD_any X 1048576 121
  have HBX : Hid (Below w.heap.size w X) := by rw [← hX]; exact (((Below.refl _ w).alloc (Nat.le_refl _) _).alloc (by simp) _).setCell (p := ⟨w.heap.size + 1, 0, none⟩) (Nat.le_succ _) _
  have x4 : X.cell? ⟨w.heap.size, 0, none⟩ = some (.slice none 0 0) := by rw [← hX]; exact (Rp.cell_set_off (by omega)).trans (by simp)
  have x5 : X.cell? ⟨w.heap.size + 1, 0, none⟩ = some .nilIface := by rw [← hX]; exact Rp.cell_set_eq (u := .nilIface) (by simp)
  have y4 : X.frozen? ⟨w.heap.size, 0, none⟩ = false := by rw [← hX]; simp
  have y5 : X.frozen? ⟨w.heap.size + 1, 0, none⟩ = false := by rw [← hX]; simp
  clear hs hl hn h63
  go_enter_defers Tryz.func10, Tryz.ntmps10
  go_wp2_with (go_at_call 30; refine StopV.out ?_)
  refine ⟨Calls.mono cS ?_⟩
  rintro e W1 ⟨rfl, rfl⟩
  clear cS
  go_wp2_with (go_at_call 31; refine StopV.out ?_)
  refine ⟨Calls.mono cR ?_⟩
  rintro e W1 ⟨q, rfl, hc, hb⟩
  have c4 := (hb.out.cell (Rp.cell_lt x4)).trans x4
  have c5 := (hb.out.cell (Rp.cell_lt x5)).trans x5
  have z4 : W1.frozen? ⟨w.heap.size, 0, none⟩ = false := (hb.out.frozen (p := ⟨w.heap.size, 0, none⟩) (Rp.cell_lt x4)).trans y4
  have z5 : W1.frozen? ⟨w.heap.size + 1, 0, none⟩ = false := (hb.out.frozen (p := ⟨w.heap.size + 1, 0, none⟩) (Rp.cell_lt x5)).trans y5
  have n1 : w.heap.size ≠ w.heap.size + 1 := by omega
  have n2 : w.heap.size + 1 ≠ w.heap.size := by omega
  have c51 : ∀ v, (W1.setCell ⟨w.heap.size, 0, none⟩ v).cell? ⟨w.heap.size + 1, 0, none⟩ = some .nilIface := fun v => (Rp.cell_set_off n1).trans c5
  obtain ⟨W9, hW9⟩ : ∃ W9, (W1.setCell ⟨w.heap.size, 0, none⟩ (.slice none 0 0)).setCell ⟨w.heap.size + 1, 0, none⟩ (.iface 70 (.pointer (some ⟨q, 0, none⟩))) = W9 := ⟨_, rfl⟩
  have HCH : Hid (Chain W9 [(dsB, 1048576)] 121 (.iface 70 (.pointer (some ⟨q, 0, none⟩)))) := by
    rw [← hW9]
    exact chain_set (u := .nilIface) (chain_set (u := .slice none 0 0) hc.out c4 (fun _ h => nomatch h)) (c51 _) (fun _ h => nomatch h)
  have HBL : Hid (Below w.heap.size w W9) := by
    rw [← hW9]
    exact ((HBX.out.trans (hb.out.mono HBX.out.size)).setCell (p := ⟨w.heap.size, 0, none⟩) (Nat.le_refl _) _).setCell (p := ⟨w.heap.size + 1, 0, none⟩) (Nat.le_succ _) _
  have u4 : W9.cell? ⟨w.heap.size, 0, none⟩ = some (.slice none 0 0) := by rw [← hW9]; exact (Rp.cell_set_off n2).trans (Rp.cell_set_eq c4)
  have u5 : W9.cell? ⟨w.heap.size + 1, 0, none⟩ = some (.iface 70 (.pointer (some ⟨q, 0, none⟩))) := by rw [← hW9]; exact Rp.cell_set_eq (c51 _)
  go_wp2
  simp [bodyPostD, Leaves, results, Tryz.results10, go_sem, u4, u5]
  exact ⟨_, _, rfl, .inl ⟨1048576, 121, .inr (.inl ⟨HS.out, HN.out, rfl, rfl⟩), rfl, HCH.out⟩, HBL⟩
end Go.Proofs.YtoikdpjjcnmgeaaGreatDoor
end

section
/-
  DERIVED. What Encode tells is read by Decode. Plain functions.
-/
namespace Go.Proofs.YtoikdpjjcnmgeaaGreatDoor
open Go Go.Proofs Go.RowKit
open Wk (Nd goN)

theorem err_ok {s : Int} {L : List Nd} (h : errOf s L = none) : (s = 1 ∨ s = 2) ∧ (res L).2 = true ∧ (encS s).szP L ≤ 1048576 ∧ outB s L = (encS s).wP L := by
  have h0 := h
  unfold errOf at h
  split at h
  · cases h
  · rename_i h1
    split at h
    · cases h
    · rename_i h2
      split at h
      · cases h
      · rename_i h3
        refine ⟨by omega, by simpa using h2, by omega, ?_⟩
        unfold outB
        rw [h0]
        rfl
/-- What is laid down is read again. -/
theorem back_ok {s : Int} {L : List Nd} (h : errOf s L = none) (hT : TagsOk L) : OkD s (outB s L) (L.map (bkN (decide (s = 2)))) := by
  obtain ⟨h1, h2, h3, h4⟩ := err_ok h
  obtain ⟨c, hw⟩ := run_wt0 elem_n item_n L.length L 0 0 0 (Nat.le_refl _) h2
  have hwf := wt_wf _ _ _ _ _ _ hw
  have hl := (res_ok h2).1
  obtain ⟨e1, e2⟩ := Enc.same (fitX (decide (s = 2))) L.length false L hwf
  have hz : (outB s L).length = (encS s).szP L := by
    rw [h4]
    exact wr_len _ _ _ (Nat.le_refl _) (wf_good _ _ _ hwf)
  refine ⟨h1, by omega, ?_⟩
  obtain ⟨t2, hg⟩ := (back (decide (s = 2)) (outB s L) L.length false 0 0 c L (Nat.le_refl _) hw hT (Int.le_refl 0) 0 (outB s L).length 0 false (fun _ => rfl) ⟨[], by rw [List.drop_zero, List.append_nil, e2, h4]; rfl⟩ (by rw [e1, hz, Nat.zero_add]; exact Nat.le_refl _) (by omega) (by omega)).1 rfl
  refine hg [] none [] _ rfl (fun i e => nomatch e) rfl ?_
  refine .go (zs_end rfl ?_) (.done _ _)
  show 0 + (encOf (decide (s = 2))).szD L.length false L = (outB s L).length
  rw [e1, hz, Nat.zero_add]
  rfl
end Go.Proofs.YtoikdpjjcnmgeaaGreatDoor
end

section
/-
  DERIVED. A data set cut where an element of the top level ends: two data sets. Plain functions.
-/
namespace Go.Proofs.YtoikdpjjcnmgeaaGreatDoor
open Go Go.Proofs Go.RowKit
open Wk (Nd goN)

theorem goN_le (L : List Nd) (k : Nat) : goN L k ≤ L.length := by
  have h := goN_mono L k (max k L.length) (Nat.le_max_left ..)
  rw [goN_full L _ (Nat.le_max_right ..)] at h
  exact h
theorem goN_cons (a : Nd) (r : List Nd) (k : Nat) : goN (a :: r) (k + 1) = (goN r a.n.toNat + goN (r.drop (goN r a.n.toNat)) k) + 1 := by
  rw [← goN_add, Nat.add_comm a.n.toNat]
  exact Nat.add_comm 1 _
/-- What stands in a node and behind it, in a list that is cut further behind. -/
theorem cut_in (r : List Nd) (m h : Nat) : (r.take (goN r m + h)).take (goN (r.take (goN r m + h)) m) = r.take (goN r m) ∧ (r.take (goN r m + h)).drop (goN (r.take (goN r m + h)) m) = (r.drop (goN r m)).take h := by
  rw [goN_take r m _ (by omega)]
  refine ⟨by rw [List.take_take, Nat.min_eq_left (by omega)], ?_⟩
  rw [List.drop_take, Nat.add_sub_cancel_left]
theorem Enc.wr_cut (X : Enc) : ∀ (f : Nat) (L : List Nd) (k : Nat), L.length ≤ f → X.wrP f L = X.wrP f (L.take (goN L k)) ++ X.wrP f (L.drop (goN L k))
  | 0, L, k, _ => rfl
  | f + 1, [], k, _ => by simp [Enc.wrP]
  | f + 1, a :: r, 0, _ => by
    rw [Wk.goN_zero, List.take_zero, List.drop_zero]
    rfl
  | f + 1, a :: r, k + 1, hf => by
    have hf : r.length ≤ f := by simpa using hf
    obtain ⟨c1, c2⟩ := cut_in r a.n.toNat (goN (r.drop (goN r a.n.toNat)) k)
    have hd := List.length_drop (i := goN r a.n.toNat) (l := r)
    have hd2 := List.length_drop (i := goN r a.n.toNat + goN (r.drop (goN r a.n.toNat)) k) (l := r)
    have e1 : (X.wrP (f + 1) (r.drop (goN r a.n.toNat + goN (r.drop (goN r a.n.toNat)) k))) = X.wrP f (r.drop (goN r a.n.toNat + goN (r.drop (goN r a.n.toNat)) k)) := X.wrP_fuel _ _ _ (by omega) (by omega)
    have e2 : X.szP ((r.take (goN r a.n.toNat + goN (r.drop (goN r a.n.toNat)) k)).take (goN (r.take (goN r a.n.toNat + goN (r.drop (goN r a.n.toNat)) k)) a.n.toNat)) = X.szP (r.take (goN r a.n.toNat)) := by rw [c1]
    rw [goN_cons, List.take_succ_cons, List.drop_succ_cons, e1, Enc.wrP, Enc.wrP, c1, c2, X.wr_cut f (r.drop (goN r a.n.toNat)) k (by omega), List.drop_drop]
    simp only [List.append_assoc]
theorem Enc.wP_cut (X : Enc) (L : List Nd) (k : Nat) : X.wP L = X.wP (L.take (goN L k)) ++ X.wP (L.drop (goN L k)) := by
  have h1 := List.length_take (i := goN L k) (l := L)
  have h2 := List.length_drop (i := goN L k) (l := L)
  unfold Enc.wP
  rw [X.wr_cut L.length L k (Nat.le_refl _), X.wrP_fuel L.length (L.take (goN L k)).length (L.take (goN L k)) (by omega) (Nat.le_refl _), X.wrP_fuel L.length (L.drop (goN L k)).length (L.drop (goN L k)) (by omega) (Nat.le_refl _)]

theorem wt_low {E I : Nd → Bool} : ∀ {f : Nat} {b : Bool} {d : Nat} {t t' : Int} {c : Nat} {M : List Nd}, wt E I f b d t' c M → t ≤ t' → wt E I f b d t c M
  | 0, _, _, _, _, _, _, h, _ => h
  | _ + 1, _, _, _, _, _, [], h, _ => h
  | f + 1, b, d, t, t', c, a :: r, h, ht => by
    obtain ⟨h0, h1, h2, h3⟩ := h
    refine ⟨h0, ?_, h2, h3⟩
    cases b with
    | true => exact h1
    | false => exact ⟨h1.1, by have := h1.2; omega⟩
theorem wt_cut {E I : Nd → Bool} : ∀ (f : Nat) (d : Nat) (t : Int) (c : Nat) (M : List Nd) (k : Nat), wt E I f false d t c M → wt E I f false d t (min c k) (M.take (goN M k)) ∧ ∃ f' t', t ≤ t' ∧ wt E I f' false d t' (c - k) (M.drop (goN M k))
  | 0, d, t, c, M, k, h => by
    obtain ⟨rfl, rfl⟩ := h
    rw [List.take_nil, List.drop_nil]
    exact ⟨⟨rfl, by omega⟩, 0, t, Int.le_refl _, rfl, by omega⟩
  | f + 1, d, t, c, [], k, h => by
    obtain rfl : c = 0 := h
    rw [List.take_nil, List.drop_nil]
    exact ⟨show min 0 k = 0 by omega, 0, t, Int.le_refl _, rfl, by omega⟩
  | f + 1, d, t, c, a :: r, 0, h => by
    rw [Wk.goN_zero, List.take_zero, List.drop_zero]
    exact ⟨show min c 0 = 0 by omega, f + 1, t, Int.le_refl _, h⟩
  | f + 1, d, t, c, a :: r, k + 1, h => by
    obtain ⟨h0, h1, h2, h3⟩ := h
    obtain ⟨c1, c2⟩ := cut_in r a.n.toNat (goN (r.drop (goN r a.n.toNat)) k)
    obtain ⟨i1, f', t', i2, i3⟩ := wt_cut f d a.t (c - 1) (r.drop (goN r a.n.toNat)) k h3
    rw [goN_cons, List.take_succ_cons, List.drop_succ_cons]
    refine ⟨⟨by omega, h1, ?_, ?_⟩, f', t', ?_, ?_⟩
    · rw [c1]; exact h2
    · rw [c2, show min c (k + 1) - 1 = min (c - 1) k by omega]; exact i1
    · have h1 : E a = true ∧ t < a.t := h1
      omega
    · rw [List.drop_drop] at i3
      rw [show c - (k + 1) = c - 1 - k by omega]
      exact i3

theorem right_of {E I : Nd → Bool} {a : Nd} {c t : Int} {rest : List Lv} {b : Bool} {d : Nat} (hb : rest.length = if b = true then 2 * d + 1 else 2 * d) (h : if b = true then I a = true ∧ d + 1 ≤ 4 else E a = true ∧ t < a.t) : rightL E I a ((c, t) :: rest) = true := by
  unfold rightL
  simp only [List.length_cons, List.headD_cons]
  cases b with
  | true =>
    have hb : rest.length = 2 * d + 1 := hb
    rw [if_pos (by omega)]
    simp only [Bool.and_eq_true, decide_eq_true_eq]
    exact ⟨h.1, by have := h.2; omega⟩
  | false =>
    have hb : rest.length = 2 * d := hb
    rw [if_neg (by omega), Bool.and_eq_true]
    have h : E a = true ∧ t < a.t := h
    exact ⟨h.1, decide_eq_true h.2⟩
/-- Such nodes are run through to the level's end. -/
theorem wt_run {E I : Nd → Bool} (hE : ∀ a, E a = true → 0 ≤ a.n ∧ (a.v = 18 ∨ a.n = 0)) (hI : ∀ a, I a = true → 0 ≤ a.n) : ∀ (f : Nat) (b : Bool) (d : Nat) (t : Int) (c : Nat) (M : List Nd), wt E I f b d t c M → ∀ (i : Nat) (rest : List Lv) (X : List Nd), rest ≠ [] → rest.length = (if b = true then 2 * d + 1 else 2 * d) → i + M.length ≤ 4096 →
    runL E I i (popL (((c : Int), t) :: rest)) (M ++ X) = runL E I (i + M.length) (popL rest) X
  | 0, b, d, t, c, M, h, i, rest, X, hr, _, _ => by
    obtain ⟨rfl, rfl⟩ := h
    rw [show ((0 : Nat) : Int) = 0 from rfl, popL_zero _ hr]
    rfl
  | f + 1, b, d, t, c, [], h, i, rest, X, hr, _, _ => by
    obtain rfl : c = 0 := h
    rw [show ((0 : Nat) : Int) = 0 from rfl, popL_zero _ hr]
    rfl
  | f + 1, b, d, t, c, a :: r, h, i, rest, X, hr, hb, hi => by
    obtain ⟨h0, h1, h2, h3⟩ := h
    have hi : i + (r.length + 1) ≤ 4096 := hi
    have hlen : (r.take (goN r a.n.toNat)).length + (r.drop (goN r a.n.toNat)).length = r.length := by rw [← List.length_append, List.take_append_drop]
    rw [popL_some _ (show ((c : Int), t).1 ≠ 0 by show (c : Int) ≠ 0; omega), List.cons_append, runL, if_neg (by
      rintro (e | e)
      · omega
      · rw [right_of hb h1] at e; cases e)]
    have hn := right_n hE hI (right_of (c := (c : Int)) hb h1)
    have hpu : stepL a (((c : Int), t) :: rest) = popL (if (rest.length + 1) % 2 = 0 ∨ a.v = 18 then (a.n, 0) :: ((c : Int) - 1, a.t) :: rest else ((c : Int) - 1, a.t) :: rest) := rfl
    have hc1 : (c : Int) - 1 = ((c - 1 : Nat) : Int) := by omega
    have hXs : r ++ X = r.take (goN r a.n.toNat) ++ (r.drop (goN r a.n.toNat) ++ X) := by rw [← List.append_assoc, List.take_append_drop]
    rw [hpu, hc1, hXs]
    have hstep : runL E I (i + 1) (popL (if (rest.length + 1) % 2 = 0 ∨ a.v = 18 then (a.n, 0) :: (((c - 1 : Nat) : Int), a.t) :: rest else (((c - 1 : Nat) : Int), a.t) :: rest)) (r.take (goN r a.n.toNat) ++ (r.drop (goN r a.n.toNat) ++ X)) = runL E I (i + 1 + (r.take (goN r a.n.toNat)).length) (popL ((((c - 1 : Nat) : Int), a.t) :: rest)) (r.drop (goN r a.n.toNat) ++ X) := by
      by_cases hp : (rest.length + 1) % 2 = 0 ∨ a.v = 18
      · rw [if_pos hp]
        have := wt_run hE hI f (!b) (if b = true then d + 1 else d) 0 a.n.toNat (r.take (goN r a.n.toNat)) h2 (i + 1) ((((c - 1 : Nat) : Int), a.t) :: rest) (r.drop (goN r a.n.toNat) ++ X) (by simp) (by
          rw [List.length_cons, hb]
          cases b
          · rfl
          · show 2 * d + 1 + 1 = 2 * (d + 1); omega) (by omega)
        rw [show ((a.n.toNat : Nat) : Int) = a.n by have := hn.1; omega] at this
        exact this
      · rw [if_neg hp]
        have h0n : a.n = 0 := hn.2.resolve_left hp
        have hg : goN r a.n.toNat = 0 := by rw [h0n]; exact Wk.goN_zero r
        rw [hg]
        rfl
    rw [hstep, wt_run hE hI f b d a.t (c - 1) (r.drop (goN r a.n.toNat)) h3 _ rest X hr hb (by omega)]
    congr 1
    show _ = i + (r.length + 1)
    omega
/-- The same at the top level. -/
theorem wt_run0 {E I : Nd → Bool} (hE : ∀ a, E a = true → 0 ≤ a.n ∧ (a.v = 18 ∨ a.n = 0)) (hI : ∀ a, I a = true → 0 ≤ a.n) : ∀ (f : Nat) (t : Int) (c : Nat) (M : List Nd), wt E I f false 0 t c M → ∀ (i : Nat) (c0 : Int), i + M.length ≤ 4096 → (runL E I i [(c0, t)] M).2 = true
  | 0, t, c, M, h, i, c0, _ => by
    obtain ⟨rfl, rfl⟩ := h
    rfl
  | f + 1, t, c, [], h, i, c0, _ => rfl
  | f + 1, t, c, a :: r, h, i, c0, hi => by
    obtain ⟨h0, h1, h2, h3⟩ := h
    have hi : i + (r.length + 1) ≤ 4096 := hi
    have hlen : (r.take (goN r a.n.toNat)).length + (r.drop (goN r a.n.toNat)).length = r.length := by rw [← List.length_append, List.take_append_drop]
    have hb : ([] : List Lv).length = if false = true then 2 * 0 + 1 else 2 * 0 := rfl
    rw [runL, if_neg (by
      rintro (e | e)
      · omega
      · rw [right_of hb h1] at e; cases e)]
    have hn := right_n hE hI (right_of (c := c0) hb h1)
    have hpu : stepL a [(c0, t)] = popL (if (0 + 1) % 2 = 0 ∨ a.v = 18 then [(a.n, 0), (c0 - 1, a.t)] else [(c0 - 1, a.t)]) := rfl
    have hXs : r = r.take (goN r a.n.toNat) ++ r.drop (goN r a.n.toNat) := (List.take_append_drop _ _).symm
    have hstep : runL E I (i + 1) (popL (if (0 + 1) % 2 = 0 ∨ a.v = 18 then [(a.n, 0), (c0 - 1, a.t)] else [(c0 - 1, a.t)])) (r.take (goN r a.n.toNat) ++ r.drop (goN r a.n.toNat)) = runL E I (i + 1 + (r.take (goN r a.n.toNat)).length) [(c0 - 1, a.t)] (r.drop (goN r a.n.toNat)) := by
      by_cases hp : (0 + 1) % 2 = 0 ∨ a.v = 18
      · rw [if_pos hp]
        have := wt_run hE hI f true 0 0 a.n.toNat (r.take (goN r a.n.toNat)) h2 (i + 1) [(c0 - 1, a.t)] (r.drop (goN r a.n.toNat)) (by simp) rfl (by omega)
        rw [show ((a.n.toNat : Nat) : Int) = a.n by have := hn.1; omega, popL_one] at this
        exact this
      · rw [if_neg hp, popL_one]
        have h0n : a.n = 0 := hn.2.resolve_left hp
        have hg : goN r a.n.toNat = 0 := by rw [h0n]; exact Wk.goN_zero r
        rw [hg]
        rfl
    rw [hpu]
    conv => lhs; rw [hXs]
    rw [hstep]
    exact wt_run0 hE hI f a.t (c - 1) _ h3 _ _ (by omega)
/-- A data set cut at the top level. -/
theorem res_cut {L : List Nd} (h : (res L).2 = true) (k : Nat) : (res (L.take (goN L k))).2 = true ∧ (res (L.drop (goN L k))).2 = true := by
  obtain ⟨c, hw⟩ := run_wt0 elem_n item_n L.length L 0 0 0 (Nat.le_refl _) h
  obtain ⟨h1, f', t', h2, h3⟩ := wt_cut L.length 0 0 c L k hw
  have hl := (res_ok h).1
  exact ⟨wt_run0 elem_n item_n _ _ _ _ h1 0 0 (by rw [List.length_take]; omega), wt_run0 elem_n item_n _ _ _ _ (wt_low h3 h2) 0 0 (by rw [List.length_drop]; omega)⟩
theorem err_cut {s : Int} {L : List Nd} (h : errOf s L = none) (k : Nat) : errOf s (L.take (goN L k)) = none ∧ errOf s (L.drop (goN L k)) = none ∧ outB s L = outB s (L.take (goN L k)) ++ outB s (L.drop (goN L k)) := by
  obtain ⟨h1, h2, h3, h4⟩ := err_ok h
  obtain ⟨r1, r2⟩ := res_cut h2 k
  obtain ⟨s1, s2⟩ := (encS s).szP_le L (goN L k)
  have e1 : errOf s (L.take (goN L k)) = none := err_none (by omega) r1 (by omega)
  have e2 : errOf s (L.drop (goN L k)) = none := err_none (by omega) r2 (by omega)
  refine ⟨e1, e2, ?_⟩
  rw [h4, (err_ok e1).2.2.2, (err_ok e2).2.2.2]
  exact (encS s).wP_cut L k
end Go.Proofs.YtoikdpjjcnmgeaaGreatDoor
end

section
/-
  DERIVED. The size and the bytes of a data set: the program's.
-/
namespace Go.Proofs.YtoikdpjjcnmgeaaGreatDoor
open Go Go.Proofs Go.RowKit
open Wk (Nd NV goN nxt)

theorem encS_I : encS 1 = encI := rfl
theorem encS_E : encS 2 = encE := rfl
/-- What Size tells. -/
def SzP (w : World) (s : Int) (L : List Nd) (e : Ending) (w' : World) : Prop := ∃ ve, e = .returned (.tuple #[.int .i64 (siz s L : Int), ve]) ∧ PErr w' ve (errOf s L) ∧ Below w.heap.size w w'

set_option maxRecDepth 100000 in
theorem size_no (w : World) (a : Option Addr) (n cap : Nat) (L : List Nd) (s : Int) (h : s ≠ 1 ∧ s ≠ 2) : Calls Tryz.prog 29 #[.slice a n cap, .int .i64 s] w (SzP w s L) := by
  have c := syntax_no w s h
  have HS : Hid (siz s L = 0 ∧ errOf s L = some ([(dsB, 0)], 120)) := ⟨by unfold siz; rw [err_bad h]; rfl, err_bad h⟩
  clear h
  go_enter Tryz.func29, Tryz.ntmps29
  go_wp2_with (go_at_call 30; refine StopB.out ?_)
  refine ⟨Calls.mono c ?_⟩
  rintro e W1 ⟨q, rfl, hc, hb⟩
  go_wp2
  refine bodyPost_ret (v := .tuple #[.int .i64 0, .iface 70 (.pointer (some ⟨q, 0, none⟩))]) (by simp [results, Tryz.results29, go_sem]) rfl ⟨_, by rw [HS.out.1]; rfl, ?_, hb.out⟩
  rw [HS.out.2]
  exact .inr ⟨_, _, rfl, hc.out⟩
theorem PD.err {w : World} {v : Value} {r : Nat × Bool} (h : PD w v r) (hr : r.2 = false) : ∃ q, v = .iface 70 (.pointer (some ⟨q, 0, none⟩)) ∧ Chain w [(dsB, (r.1 : Int)), (dcB, (r.1 : Int))] 5 v := by
  rcases h with ⟨h, -⟩ | ⟨-, h⟩
  · rw [hr] at h; cases h
  · obtain ⟨q, u, rfl, h1⟩ := h
    exact ⟨q, rfl, q, u, rfl, h1⟩
theorem PD.nil {w : World} {v : Value} {r : Nat × Bool} (h : PD w v r) (hr : r.2 = true) : v = .nilIface := by
  rcases h with ⟨-, h⟩ | ⟨h, -⟩
  · exact h
  · rw [hr] at h; cases h
set_option maxRecDepth 100000 in
set_option maxHeartbeats 2000000 in
theorem size_I (w : World) (a : Option Addr) (n cap : Nat) (L : List Nd) (hV : NV w a n cap L) (hT : TagsOk L) (hE : EG w) : Calls Tryz.prog 29 #[.slice a n cap, .int .i64 1] w (SzP w 1 L) := by
  have cf := dformed_any w a n cap L hV hT hE
  have c := syntax_I w
  have HV : Hid (NV w a n cap L ∧ TagsOk L) := ⟨hV, hT⟩
  have hlen := hV.len
  have HN : Hid (n = L.length) := hlen
  clear hV hT hE hlen
  go_enter Tryz.func29, Tryz.ntmps29
  go_wp2_with (first | (go_at_call 30; refine Calls.mono c ?_; rintro e W0 ⟨rfl, rfl⟩) | (go_at_call 45; refine StopB.out ?_))
  refine ⟨Calls.mono cf ?_⟩
  rintro e W1 ⟨ve, rfl, hpd, hb⟩
  clear cf c
  rcases hr : (res L).2 with _ | _
  · obtain ⟨q, rfl, hc⟩ := hpd.out.err hr
    have HS : Hid (siz 1 L = 0 ∧ errOf 1 L = some ([(dsB, ((res L).1 : Int)), (dcB, ((res L).1 : Int))], 5)) := ⟨by unfold siz; rw [err_form (by decide) hr]; rfl, err_form (by decide) hr⟩
    have HC : Hid _ := hc
    clear hpd hr hc
    go_wp2
    refine bodyPost_ret (v := .tuple #[.int .i64 0, .iface 70 (.pointer (some ⟨q, 0, none⟩))]) (by simp [results, Tryz.results29, go_sem]) rfl ⟨_, by rw [HS.out.1]; rfl, ?_, hb.out⟩
    rw [HS.out.2]
    exact .inr ⟨_, _, rfl, HC.out⟩
  · obtain rfl := hpd.out.nil hr
    obtain ⟨h40, -⟩ := res_ok hr
    have hg := res_good hr
    have cs := szI_any W1 a n cap L (HV.out.1.on hb.out) HV.out.2 (by rw [HN.out]; exact h40) hg.sz
    obtain ⟨k, hk⟩ : ∃ k, encI.szP L = k := ⟨_, rfl⟩
    rw [hk] at cs
    have HK : Hid (encI.szP L = k) := hk
    by_cases hkl : 1048576 < k
    · have HS : Hid (siz 1 L = 0 ∧ errOf 1 L = some ([(dsB, 1048576)], 121)) := by
        have e := err_long (s := 1) (L := L) (by decide) hr (by rw [encS_I, hk]; exact hkl)
        exact ⟨by unfold siz; rw [e]; rfl, e⟩
      have hkI : (1048576 : Int) < (k : Int) := by omega
      clear hr hg hk h40 hpd
      go_wp2_with (first | (go_at_call 56; refine Calls.mono cs ?_; rintro e W2 ⟨rfl, hb2⟩) | (go_at_call 31; refine StopB.out ?_))
      refine ⟨Calls.mono (refuseN_any W2 1048576 121) ?_⟩
      rintro e W3 ⟨vr, rfl, hc3, hb3⟩
      obtain ⟨q, u, rfl, hr3⟩ := hc3.out
      clear hr3
      go_wp2
      refine bodyPost_ret (v := .tuple #[.int .i64 0, .iface 70 (.pointer (some ⟨q, 0, none⟩))]) (by simp [results, Tryz.results29, go_sem]) rfl ⟨_, by rw [HS.out.1]; rfl, ?_, (hb.out.trans (hb2.mono hb.out.size)).trans (hb3.out.mono (Nat.le_trans hb.out.size hb2.size))⟩
      rw [HS.out.2]
      exact .inr ⟨_, _, rfl, hc3.out⟩
    · have HS : Hid (siz 1 L = k ∧ errOf 1 L = none) := by
        have e := err_none (s := 1) (L := L) (by decide) hr (by rw [encS_I, hk]; exact hkl)
        exact ⟨by unfold siz; rw [e, encS_I, hk]; rfl, e⟩
      have hkI : ¬ (1048576 : Int) < (k : Int) := by omega
      clear hr hg hk h40 hpd
      go_wp2_with (first | (go_at_call 56; refine Calls.mono cs ?_; rintro e W2 ⟨rfl, hb2⟩) | fail)
      refine bodyPost_ret (v := .tuple #[.int .i64 (k : Int), .nilIface]) (by simp [results, Tryz.results29, go_sem]) rfl ⟨_, by rw [HS.out.1], ?_, hb.out.trans (hb2.mono hb.out.size)⟩
      exact .inl ⟨HS.out.2, rfl⟩
set_option maxRecDepth 100000 in
set_option maxHeartbeats 2000000 in
theorem size_E (w : World) (a : Option Addr) (n cap : Nat) (L : List Nd) (hV : NV w a n cap L) (hT : TagsOk L) (hE : EG w) : Calls Tryz.prog 29 #[.slice a n cap, .int .i64 2] w (SzP w 2 L) := by
  have cf := dformed_any w a n cap L hV hT hE
  have c := syntax_E w
  have HV : Hid (NV w a n cap L ∧ TagsOk L) := ⟨hV, hT⟩
  have hlen := hV.len
  have HN : Hid (n = L.length) := hlen
  clear hV hT hE hlen
  go_enter Tryz.func29, Tryz.ntmps29
  go_wp2_with (first | (go_at_call 30; refine Calls.mono c ?_; rintro e W0 ⟨rfl, rfl⟩) | (go_at_call 45; refine StopB.out ?_))
  refine ⟨Calls.mono cf ?_⟩
  rintro e W1 ⟨ve, rfl, hpd, hb⟩
  clear cf c
  rcases hr : (res L).2 with _ | _
  · obtain ⟨q, rfl, hc⟩ := hpd.out.err hr
    have HS : Hid (siz 2 L = 0 ∧ errOf 2 L = some ([(dsB, ((res L).1 : Int)), (dcB, ((res L).1 : Int))], 5)) := ⟨by unfold siz; rw [err_form (by decide) hr]; rfl, err_form (by decide) hr⟩
    have HC : Hid _ := hc
    clear hpd hr hc
    go_wp2
    refine bodyPost_ret (v := .tuple #[.int .i64 0, .iface 70 (.pointer (some ⟨q, 0, none⟩))]) (by simp [results, Tryz.results29, go_sem]) rfl ⟨_, by rw [HS.out.1]; rfl, ?_, hb.out⟩
    rw [HS.out.2]
    exact .inr ⟨_, _, rfl, HC.out⟩
  · obtain rfl := hpd.out.nil hr
    obtain ⟨h40, -⟩ := res_ok hr
    have hg := res_good hr
    have cs := szE_any W1 a n cap L (HV.out.1.on hb.out) HV.out.2 (by rw [HN.out]; exact h40) hg.sz
    obtain ⟨k, hk⟩ : ∃ k, encE.szP L = k := ⟨_, rfl⟩
    rw [hk] at cs
    have HK : Hid (encE.szP L = k) := hk
    by_cases hkl : 1048576 < k
    · have HS : Hid (siz 2 L = 0 ∧ errOf 2 L = some ([(dsB, 1048576)], 121)) := by
        have e := err_long (s := 2) (L := L) (by decide) hr (by rw [encS_E, hk]; exact hkl)
        exact ⟨by unfold siz; rw [e]; rfl, e⟩
      have hkI : (1048576 : Int) < (k : Int) := by omega
      clear hr hg hk h40 hpd
      go_wp2_with (first | (go_at_call 56; refine Calls.mono cs ?_; rintro e W2 ⟨rfl, hb2⟩) | (go_at_call 31; refine StopB.out ?_))
      refine ⟨Calls.mono (refuseN_any W2 1048576 121) ?_⟩
      rintro e W3 ⟨vr, rfl, hc3, hb3⟩
      obtain ⟨q, u, rfl, hr3⟩ := hc3.out
      clear hr3
      go_wp2
      refine bodyPost_ret (v := .tuple #[.int .i64 0, .iface 70 (.pointer (some ⟨q, 0, none⟩))]) (by simp [results, Tryz.results29, go_sem]) rfl ⟨_, by rw [HS.out.1]; rfl, ?_, (hb.out.trans (hb2.mono hb.out.size)).trans (hb3.out.mono (Nat.le_trans hb.out.size hb2.size))⟩
      rw [HS.out.2]
      exact .inr ⟨_, _, rfl, hc3.out⟩
    · have HS : Hid (siz 2 L = k ∧ errOf 2 L = none) := by
        have e := err_none (s := 2) (L := L) (by decide) hr (by rw [encS_E, hk]; exact hkl)
        exact ⟨by unfold siz; rw [e, encS_E, hk]; rfl, e⟩
      have hkI : ¬ (1048576 : Int) < (k : Int) := by omega
      clear hr hg hk h40 hpd
      go_wp2_with (first | (go_at_call 56; refine Calls.mono cs ?_; rintro e W2 ⟨rfl, hb2⟩) | fail)
      refine bodyPost_ret (v := .tuple #[.int .i64 (k : Int), .nilIface]) (by simp [results, Tryz.results29, go_sem]) rfl ⟨_, by rw [HS.out.1], ?_, hb.out.trans (hb2.mono hb.out.size)⟩
      exact .inl ⟨HS.out.2, rfl⟩
theorem size_any (w : World) (a : Option Addr) (n cap : Nat) (L : List Nd) (hV : NV w a n cap L) (hT : TagsOk L) (hE : EG w) (s : Int) : Calls Tryz.prog 29 #[.slice a n cap, .int .i64 s] w (SzP w s L) := by
  by_cases h1 : s = 1
  · subst h1; exact size_I w a n cap L hV hT hE
  · by_cases h2 : s = 2
    · subst h2; exact size_E w a n cap L hV hT hE
    · exact size_no w a n cap L s ⟨h1, h2⟩
end Go.Proofs.YtoikdpjjcnmgeaaGreatDoor
end
