import Derived.Test.YtfoodjhffehgpaaGreatDoorVr
import Derived.ScopeJumps
import Derived.WalkMore
import Derived.Recover
import Derived.Defers
section
/-
  DERIVED. A reader made; all that it reads.
-/
namespace Go.Proofs.YtfoodjhffehgpaaGreatDoor
open Go Go.Proofs Go.RowKit
open Wk (Nd nds)
open Go.Sort

/-- The top level. -/
def topS (n : Nat) (x : Bool) : Sp := ⟨none, n, false, false, x, 0⟩
set_option maxRecDepth 100000 in
theorem newReader_any (w : World) (a : Option Addr) (n cap : Nat) (x : Bool) :
    Calls Tryz.prog 29 #[.slice a n cap, exV x] w fun e w' => e = .returned (.pointer (some ⟨w.heap.size + 1, 0, none⟩)) ∧ Hid (PR w.heap.size (w.heap.size + 1) (.slice a n cap) w' 0 [] [topS n x] (.slice none 0 0) (.slice (some ⟨w.heap.size, 0, none⟩) 1 1)) ∧ Hid (Below w.heap.size w w') := by
  rw [exV_eq]
  have HX : Hid (exV x = .iface (exI x) (.agg #[])) := exV_eq x
  generalize exI x = i at HX ⊢
  go_enter Tryz.func29, Tryz.ntmps29
  go_wp2
  go_ret
  refine ⟨rfl, ?_, ((Below.refl _ _).alloc (Nat.le_refl _) _).alloc (by simp) _⟩
  refine ⟨by simp, by simp, by simp, by simp, fun j => by simp, ⟨_, by rw [show w.heap.size + 1 = (w.alloc (.cells #[.int .i64 (-1), .int .i64 (n : Int), .bool false, .bool false, .iface i (.agg #[]), .int .u32 0] 103)).heap.size by simp]; exact heap_alloc_new _ _⟩, ⟨rfl, .inl ⟨rfl, rfl⟩⟩, ⟨rfl, .inr ⟨w.heap.size, 1, #[.int .i64 (-1), .int .i64 (n : Int), .bool false, .bool false, .iface i (.agg #[]), .int .u32 0], rfl, Nat.le_refl _, ?_, Nat.le_refl _, by decide, rfl, ?_⟩⟩, by omega, fun _ => rfl⟩
  · exact (((Below.refl _ _).alloc (Nat.le_refl _) _).block w.heap.size (by simp)).trans (heap_alloc_new w _)
  · show _ = spc [topS n x]
    unfold spc topS Sp.cs
    simp [HX.out, nodeV]
/-- As Q; by a goto to a label: J of that label. -/
def jumps (J : Nat → Act → World → Prop) (Q : Exit → Act → World → Prop) : Exit → Act → World → Prop
  | .goto l, a, w => J l a w
  | e, a, w => Q e a w
theorem jumps_ret {J : Nat → Act → World → Prop} {Q : Exit → Act → World → Prop} {a : Act} {w : World} : jumps J Q .ret a w = Q .ret a w := rfl
theorem jumps_goto {J : Nat → Act → World → Prop} {Q : Exit → Act → World → Prop} {l : Nat} {a : Act} {w : World} : jumps J Q (.goto l) a w = J l a w := rfl

section
variable {P : Program} {a : Act} {w : World} {Q : Exit → Act → World → Prop}

theorem wp_scope_many {c : Code} (J : Nat → Nat → Act → World → Prop)
    (first : c.wp P (jumps (fun l a w => ∃ m, J l m a w) Q) a w)
    (pass : ∀ l m a w, J l m a w → ∃ rest, findLabel c l = some rest ∧ rest.wp P (jumps (fun l' a' w' => ∃ m', m' < m ∧ J l' m' a' w') Q) a w) : (Code.scope c).wp P Q a w := by
  intro b k cs
  have hg : ∀ l rest, findLabel c l = some rest → gotoIn l (.inScope c :: k) = some (.code rest :: .inScope c :: k) := fun l rest hf => by simp [gotoIn, hf]
  have key : ∀ n l a w, J l n a w → ∃ rest, findLabel c l = some rest ∧ ∃ e a' w', Q e a' w' ∧ Arrives P (lone (b.at a (.code rest :: .inScope c :: k)) cs w) b k cs e a' w' := by
    intro n
    induction n using Nat.strongRecOn with
    | _ n ih =>
      intro l a w hJ
      obtain ⟨rest, hf, hp⟩ := pass l n a w hJ
      refine ⟨rest, hf, ?_⟩
      obtain ⟨e, a₁, w₁, hq, harr⟩ := hp b (.inScope c :: k) cs
      cases e with
      | normal => exact ⟨.normal, a₁, w₁, hq, Steps.trans harr (.one step_inScope)⟩
      | exit id => exact ⟨.exit id, a₁, w₁, hq, fun k' hk => harr k' (by simp [exitTo, hk])⟩
      | goto l' =>
        obtain ⟨m', hlt, hJ'⟩ := hq
        obtain ⟨rest', hf', e₂, a₂, w₂, hq₂, harr₂⟩ := ih m' hlt l' a₁ w₁ hJ'
        exact ⟨e₂, a₂, w₂, hq₂, .of_steps (harr _ (hg _ _ hf')) harr₂⟩
      | ret => exact ⟨_, a₁, w₁, hq, harr⟩
      | panic ch => exact ⟨_, a₁, w₁, hq, harr⟩
      | outgrown => exact ⟨_, a₁, w₁, hq, harr⟩
  obtain ⟨e, a₁, w₁, hq, harr⟩ := first b (.inScope c :: k) cs
  cases e with
  | normal => exact ⟨.normal, a₁, w₁, hq, .head step_scope (Steps.trans harr (.one step_inScope))⟩
  | exit id => exact ⟨.exit id, a₁, w₁, hq, fun k' hk => .head step_scope (harr k' (by simp [exitTo, hk]))⟩
  | goto l' =>
    obtain ⟨m', hJ'⟩ := hq
    obtain ⟨rest', hf', e₂, a₂, w₂, hq₂, harr₂⟩ := key m' l' a₁ w₁ hJ'
    exact ⟨e₂, a₂, w₂, hq₂, .of_steps (.head step_scope (harr _ (hg _ _ hf'))) harr₂⟩
  | ret => exact ⟨_, a₁, w₁, hq, .of_steps (.one step_scope) harr⟩
  | panic ch => exact ⟨_, a₁, w₁, hq, .of_steps (.one step_scope) harr⟩
  | outgrown => exact ⟨_, a₁, w₁, hq, .of_steps (.one step_scope) harr⟩
end

theorem PR.pop {base rb g sc : Nat} {bv nv : Value} {W : World} {k m : Nat} {M : List Nd} {sp sp2 : Sp} {r : List Sp} (hm : r.length = m) (h : PR base rb bv W k M (sp :: sp2 :: r) nv (.slice (some ⟨g, 0, none⟩) (m + 1 + 1) sc)) : PR base rb bv (W.setCell ⟨rb, 3, none⟩ (.slice (some ⟨g, 0, none⟩) (m + 1) sc)) k M (sp2 :: r) nv (.slice (some ⟨g, 0, none⟩) (m + 1) sc) := by
  subst hm
  have hs : W.ownsRow base 103 6 (.slice (some ⟨g, 0, none⟩) (r.length + 1) sc) (sp2 :: r).length (spc (sp2 :: r)) := by
    rcases h.sp.2 with ⟨_, h0⟩ | ⟨g', cap', cur, hv, hb, hh, hc, hm, hs, ht⟩
    · simp at h0
    · cases hv
      refine ⟨spc_len _, .inr ⟨g, sc, cur, rfl, hb, hh, by simp only [List.length_cons] at hc ⊢; omega, hm, hs, ?_⟩⟩
      have := spc_take sp (sp2 :: r)
      rw [← ht, List.take_take] at this
      rw [← this]
      congr 1
      simp
  exact (h.grownS ⟨rfl, rfl, rfl, Nat.le_refl _, fun _ _ _ => rfl⟩ hs).2.2
theorem skip_seq {P : Program} {Q : Exit → Act → World → Prop} {a : Act} {w : World} {c : Code} (h : c.wp P Q a w) : (Code.seq .skip c).wp P Q a w := wp_seq (wp_skip h)
/-- The frame of the reading: what its scratch slots hold is not looked at. -/
def frR (rb : Nat) (t : Nat → Value) : Act := { tmps := #[.pointer (some ⟨rb, 0, none⟩), undef, .slice none 0 0, t 3, t 4, t 5, t 6, t 7, t 8, t 9, t 10, t 11, t 12, t 13, t 14, t 15, t 16, t 17, t 18, t 19, t 20, t 21, t 22, t 23, t 24, t 25, t 26, t 27, t 28, t 29, t 30, t 31, t 32, t 33, t 34, t 35, t 36, t 37, t 38, t 39, t 40, t 41, t 42], defers := [] }
/-- What is told at the end of the reading. -/
def RdP (base : Nat) (S : Src) (n : Nat) (x : Bool) (w : World) (e : Ending) (w' : World) : Prop :=
  ((∃ a c, Pan w' a c e ∧ Ends S 0 [] [topS n x] (.bad a c)) ∨ (∃ nv M, e = .returned nv ∧ w'.ownsRow base 48 4 nv M.length (nds M) ∧ Ends S 0 [] [topS n x] (.ok M) ∧ MOk M ∧ (M.length = 0 → nv = .slice none 0 0))) ∧ Below base w w'
/-- What holds at each head. -/
def JR (base rb : Nat) (a : Option Addr) (n cap : Nat) (ys : List UInt8) (x : Bool) (w0 : World) (l m : Nat) (A : Act) (w : World) : Prop :=
  l = 0 ∧ ∃ t k M sp r nv sv, A = frR rb t ∧ PR base rb (.slice a n cap) w k M (sp :: r) nv sv ∧ PI n k M (sp :: r) ∧ (∀ R, Ends (srcS ys) k M (sp :: r) R → Ends (srcS ys) 0 [] [topS n x] R) ∧ Below base w0 w ∧ m = 2 * (n - k) + (r.length + 1)

/-- A step that takes something does not leave the last span. -/
theorem no_empty {S : Src} {k : Nat} {M : List Nd} {sp : Sp} {r : List Sp} {k' : Nat} {M' : List Nd} (h : step S k M sp r = if sp.it = true then stepI S k M sp r else stepE S k M sp r) (hs : step S k M sp r = .go k' M' []) : False := by
  rw [h] at hs
  split at hs
  · unfold stepI at hs
    split at hs
    · cases hs
    split at hs
    · cases hs
    split at hs
    · cases hs
    split at hs
    · cases hs
    split at hs <;> cases hs
  · unfold stepE at hs
    split at hs
    · cases hs
    split at hs
    · cases hs
    unfold stepB at hs
    split at hs
    · cases hs
    split at hs
    · cases hs
    split at hs
    · cases hs
    split at hs
    · cases hs
    split at hs
    · cases hs
    split at hs <;> cases hs
theorem fr_ex (rb : Nat) (u3 u4 u5 u6 u7 u8 u9 u10 u11 u12 u13 u14 u15 u16 u17 u18 u19 u20 u21 u22 u23 u24 u25 u26 u27 u28 u29 u30 u31 u32 u33 u34 u35 u36 u37 u38 u39 u40 u41 u42 : Value) : ∃ t, ({ tmps := #[.pointer (some ⟨rb, 0, none⟩), undef, .slice none 0 0, u3, u4, u5, u6, u7, u8, u9, u10, u11, u12, u13, u14, u15, u16, u17, u18, u19, u20, u21, u22, u23, u24, u25, u26, u27, u28, u29, u30, u31, u32, u33, u34, u35, u36, u37, u38, u39, u40, u41, u42], defers := [] } : Act) = frR rb t := ⟨fun i => [u3, u4, u5, u6, u7, u8, u9, u10, u11, u12, u13, u14, u15, u16, u17, u18, u19, u20, u21, u22, u23, u24, u25, u26, u27, u28, u29, u30, u31, u32, u33, u34, u35, u36, u37, u38, u39, u40, u41, u42].getD (i - 3) undef, rfl⟩
theorem JR.mk {base rb : Nat} {a : Option Addr} {n cap : Nat} {ys : List UInt8} {x : Bool} {w0 w : World} {A : Act} {m k : Nat} {M : List Nd} {sp : Sp} {r : List Sp} {nv sv : Value} (hfr : ∃ t, A = frR rb t) (hP : PR base rb (.slice a n cap) w k M (sp :: r) nv sv) (hI : PI n k M (sp :: r)) (hE : ∀ R, Ends (srcS ys) k M (sp :: r) R → Ends (srcS ys) 0 [] [topS n x] R) (hB : Below base w0 w) (hm : 2 * (n - k) + (r.length + 1) < m) : ∃ m', m' < m ∧ JR base rb a n cap ys x w0 0 m' A w := by
  obtain ⟨t, rfl⟩ := hfr
  exact ⟨_, hm, rfl, t, k, M, sp, r, nv, sv, rfl, hP, hI, hE, hB, rfl⟩

set_option maxRecDepth 100000 in
set_option maxHeartbeats 8000000 in
theorem read_round (r0 c : Code) (hc : Tryz.f30.body = some (.seq r0 (.scope c))) (base rb : Nat) (a : Option Addr) (n cap : Nat) (ys : List UInt8) (x : Bool) (w0 : World) (hV : BV base w0 a n cap ys) (m : Nat) (A : Act) (w : World) (h : JR base rb a n cap ys x w0 0 m A w) :
    ∃ rest, findLabel c 0 = some (Code.seq .skip rest) ∧ rest.wp Tryz.prog (jumps (fun l' a' w' => ∃ m', m' < m ∧ JR base rb a n cap ys x w0 l' m' a' w') (bodyPost Tryz.prog Tryz.f30 (RdP base (srcS ys) n x w0))) A w := by
  unfold Tryz.f30 at hc
  cases hc
  refine ⟨_, rfl, ?_⟩
  obtain ⟨-, t, k, M, sp, r, nv, sv, rfl, hP, hI, hE, hB, rfl⟩ := h
  obtain ⟨g, sc, rfl, hbg, hsc⟩ := hP.form
  have hln := hI.ln
  simp only [List.length_cons] at hln
  obtain ⟨hk, hf⟩ := hI.le
  have hn := hV.s
  have cI := inner_any w rb g r.length sc (by omega) hP.c3
  have HP : Hid _ := hP
  have HI : Hid _ := hI
  have HE : Hid _ := hE
  have HB : Hid _ := hB
  have HV : Hid _ := hV
  have HLT : Hid (base ≤ w.heap.size) := hP.lt
  obtain ⟨mm, hmm⟩ : ∃ z, r.length = z := ⟨_, rfl⟩
  have HM : Hid _ := hmm
  rw [hmm] at cI
  have HBND : Hid (mm ≤ 4000000 ∧ n ≤ 1048576 ∧ k ≤ n) := ⟨by omega, hn, by omega⟩
  clear hP hI hE hB hV hk hf hn hln hmm hbg hsc
  unfold frR
  go_wp2_with (go_at_call 43; refine StopV.out ?_)
  refine ⟨Calls.mono cI ?_⟩
  rintro e W1 ⟨rfl, hb1⟩
  have HP1 : Hid _ := HP.out.on hb1
  have hB1 : Below base w0 W1 := HB.out.trans (hb1.mono HLT.out)
  have HB1 : Hid _ := hB1
  have cA := atEnd_any W1 base rb a n cap k ys M sp r nv g sc HP1.out (HV.out.on hB1) HI.out
  rw [HM.out] at cA
  clear cI hb1 hB1 HP
  go_wp2_with (go_at_call 44; refine StopV.out ?_)
  refine ⟨Calls.mono cA ?_⟩
  rintro e W2 ⟨he, hb2⟩
  have HB2 : Hid (Below base w0 W2) := HB1.out.trans hb2
  have hst := step_end (srcS ys) k M sp r
  rcases hend : endS (srcS ys) k sp with c | k' | _
  · rw [hend] at he hst
    obtain ⟨q, rfl, hc⟩ : Pan W2 k c e := he
    exact ⟨rfl, .inl ⟨k, c, ⟨q, rfl, hc⟩, HE.out _ (.bad hst)⟩, HB2.out⟩
  · rw [hend] at he hst
    obtain ⟨rfl, hp2⟩ : e = .returned (.bool true) ∧ PR base rb (.slice a n cap) W2 k' M (sp :: r) nv (.slice (some ⟨g, 0, none⟩) (mm + 1) sc) := he
    obtain ⟨hI2, hlt⟩ := HI.out.next (src_ok ys) hst
    have c32 := hp2.c3
    have c22 := hp2.c2
    have f32 := hp2.fz 3
    have HST : Hid _ := hst
    have HP2 : Hid _ := hp2
    have HI2 : Hid _ := hI2
    have HLT2 : Hid _ := hlt
    rcases r with _ | ⟨sp2, r2⟩
    · obtain rfl : 0 = mm := HM.out
      clear hst hp2 hI2 hlt hend hb2 cA
      go_wp2
      go_ret
      exact ⟨.inr ⟨nv, M, rfl, HP2.out.nd, HE.out _ (.go HST.out (.done _ _)), ⟨HI2.out.mo, HP2.out.nz⟩⟩, HB2.out⟩
    · obtain ⟨m2, rfl⟩ : ∃ z, mm = z + 1 := ⟨r2.length, HM.out.symm⟩
      have hm2 : r2.length = m2 := by have := HM.out; simpa using this
      have b1 : (((m2 + 1 + 1 : Nat) : Int) == 1) = false := beq_eq_false_iff_ne.2 (by omega)
      have b2 : ((m2 : Int) + 1 + 1 == 1) = false := beq_eq_false_iff_ne.2 (by omega)
      have w1 : IntKind.i64.wrap ((m2 : Int) + 1) = (m2 : Int) + 1 := by rw [IntKind.wrap_i64]; have := HBND.out; omega
      have hcp : m2 + 1 + 1 ≤ sc := by
        obtain ⟨g', cap', e, -, h3⟩ := HP2.out.form
        cases e
        simpa [hm2] using h3
      have HMM : Hid _ := hm2
      clear hst hp2 hI2 hlt hend hb2 cA hm2
      go_wp2
      go_region
      go_wp2
      go_step3
      refine JR.mk (fr_ex _ _ _ _ _ _ _ _ _ _ _ _ _ _ _ _ _ _ _ _ _ _ _ _ _ _ _ _ _ _ _ _ _ _ _ _ _ _ _ _ _) ((HP2.out.pop HMM.out).on ((Below.refl _ _).drew)) HI2.out (fun R hR => HE.out R (.go HST.out hR)) ((HB2.out.setCell (p := ⟨rb, 3, none⟩) HP2.out.hb _).drew) ?_
      have h1 := HLT2.out
      have h2 := HI2.out.le
      have h3 := HBND.out
      simp only [List.length_cons] at h1 ⊢
      omega
  · rw [hend] at he hst
    obtain ⟨rfl, hp2⟩ : e = .returned (.bool false) ∧ PR base rb (.slice a n cap) W2 k M (sp :: r) nv (.slice (some ⟨g, 0, none⟩) (mm + 1) sc) := he
    have hV2 := HV.out.on HB2.out
    have h8 : 8 ≤ sp.fin - k := by
      unfold endS at hend
      split at hend
      · cases hend
      split at hend
      · cases hend
      · omega
    have HST : Hid (step (srcS ys) k M sp r = if sp.it = true then stepI (srcS ys) k M sp r else stepE (srcS ys) k M sp r) := hst
    have hp2' : PR base rb (.slice a n cap) W2 k M (sp :: r) nv (.slice (some ⟨g, 0, none⟩) (r.length + 1) sc) := by rw [HM.out]; exact hp2
    have s3 := hp2'.sc.s3
    rw [HM.out] at s3
    have cTI := takeItem_any W2 base rb a n cap k ys M sp r nv g sc hp2' hV2 HI.out h8
    have cTE := takeElement_any W2 base rb a n cap k ys M sp r nv g sc hp2' hV2 HI.out h8
    rw [HM.out] at cTI cTE
    clear hst hp2 hp2' hend hb2 cA hV2 h8
    have HN : Hid (∀ k' M' st' nv' sv' W, step (srcS ys) k M sp r = .go k' M' st' → PR base rb (.slice a n cap) W k' M' st' nv' sv' → Below base W2 W → ∀ A, (∃ t, A = frR rb t) → ∃ m', m' < 2 * (n - k) + (r.length + 1) ∧ JR base rb a n cap ys x w0 0 m' A W) := fun k' M' st' nv' sv' W hs hp hb A hA => by
      obtain ⟨hI2, hlt⟩ := HI.out.next (src_ok ys) hs
      rcases st' with _ | ⟨sp', r'⟩
      · exfalso
        exact no_empty HST.out hs
      · refine JR.mk hA hp hI2 (fun R hR => HE.out R (.go hs hR)) (HB2.out.trans hb) ?_
        have h2 := hI2.le
        simp only [List.length_cons] at hlt
        omega
    rcases hit : sp.it with _ | _
    · rw [hit] at s3
      clear cTI
      go_wp2_with (go_at_call 46; refine StopV.out ?_)
      refine ⟨Calls.mono cTE ?_⟩
      rintro e W3 ⟨he, hb3⟩
      have hs := HST.out
      rw [hit] at hs
      have hs2 : step (srcS ys) k M sp r = stepE (srcS ys) k M sp r := hs
      rcases hq : stepE (srcS ys) k M sp r with ⟨a', c'⟩ | ⟨k', M', st'⟩
      · rw [hq] at he hs2
        obtain ⟨q, rfl, hc⟩ : Pan W3 a' c' e := he
        exact ⟨rfl, .inl ⟨a', c', ⟨q, rfl, hc⟩, HE.out _ (.bad hs2)⟩, HB2.out.trans hb3⟩
      · rw [hq] at he hs2
        obtain ⟨rfl, nv', sv', hp3⟩ := he
        have HS2 : Hid _ := hs2
        have HP3 : Hid _ := hp3
        have HB3 : Hid _ := hb3
        clear hs hs2 hq hp3 hb3 cTE
        go_wp2
        go_step3
        exact HN.out k' M' st' nv' sv' W3 HS2.out HP3.out HB3.out _ (fr_ex _ _ _ _ _ _ _ _ _ _ _ _ _ _ _ _ _ _ _ _ _ _ _ _ _ _ _ _ _ _ _ _ _ _ _ _ _ _ _ _ _)
    · rw [hit] at s3
      clear cTE
      go_wp2_with (go_at_call 45; refine StopV.out ?_)
      refine ⟨Calls.mono cTI ?_⟩
      rintro e W3 ⟨he, hb3⟩
      have hs := HST.out
      rw [hit] at hs
      have hs2 : step (srcS ys) k M sp r = stepI (srcS ys) k M sp r := hs
      rcases hq : stepI (srcS ys) k M sp r with ⟨a', c'⟩ | ⟨k', M', st'⟩
      · rw [hq] at he hs2
        obtain ⟨q, rfl, hc⟩ : Pan W3 a' c' e := he
        exact ⟨rfl, .inl ⟨a', c', ⟨q, rfl, hc⟩, HE.out _ (.bad hs2)⟩, HB2.out.trans hb3⟩
      · rw [hq] at he hs2
        obtain ⟨rfl, nv', sv', hp3⟩ := he
        have HS2 : Hid _ := hs2
        have HP3 : Hid _ := hp3
        have HB3 : Hid _ := hb3
        clear hs hs2 hq hp3 hb3 cTI
        go_wp2
        go_step3
        exact HN.out k' M' st' nv' sv' W3 HS2.out HP3.out HB3.out _ (fr_ex _ _ _ _ _ _ _ _ _ _ _ _ _ _ _ _ _ _ _ _ _ _ _ _ _ _ _ _ _ _ _ _ _ _ _ _ _ _ _ _ _)
end Go.Proofs.YtfoodjhffehgpaaGreatDoor
end

section
/-
  DERIVED. All that a reader reads; Decode: the program's.
-/
namespace Go.Proofs.YtfoodjhffehgpaaGreatDoor
open Go Go.Proofs Go.RowKit
open Wk (Nd nds)
open Go.Sort

set_option maxRecDepth 100000 in
theorem read_any (w : World) (base rb : Nat) (a : Option Addr) (n cap : Nat) (ys : List UInt8) (x : Bool) (nv sv : Value) (hP : PR base rb (.slice a n cap) w 0 [] [topS n x] nv sv) (hV : BV base w a n cap ys) :
    Calls Tryz.prog 30 #[.pointer (some ⟨rb, 0, none⟩)] w (RdP base (srcS ys) n x w) := by
  have hI : PI n 0 [] [topS n x] := ⟨⟨Nat.zero_le _, trivial⟩, fun y hy => by rw [List.mem_singleton.1 hy]; exact Nat.le_refl _, by simp, MOk.nil, fun y hy p e => by obtain rfl := List.mem_singleton.1 hy; exact (nomatch e), fun y hy => by rw [List.mem_singleton.1 hy]; show (0 : Nat) < _; decide⟩
  have hJ : ∀ A, (∃ t, A = frR rb t) → ∃ m', m' < 2 * n + 2 ∧ JR base rb a n cap ys x w 0 m' A w := fun A hA => JR.mk hA hP hI (fun _ h => h) (Below.refl _ _) (by simp)
  go_enter Tryz.func30, Tryz.ntmps30
  go_wp2
  refine wp_scope_many (JR base rb a n cap ys x w) ?_ (fun l m A W h => by
    obtain rfl : l = 0 := h.1
    obtain ⟨rest, hf, hw⟩ := read_round _ _ (by unfold Tryz.f30; rfl) base rb a n cap ys x w hV m A W h
    exact ⟨_, hf, skip_seq hw⟩)
  obtain ⟨m, -, hj⟩ := hJ _ (fr_ex rb _ _ _ _ _ _ _ _ _ _ _ _ _ _ _ _ _ _ _ _ _ _ _ _ _ _ _ _ _ _ _ _ _ _ _ _ _ _ _ _)
  obtain ⟨rest, hf, hw⟩ := read_round _ _ (by unfold Tryz.f30; rfl) base rb a n cap ys x w hV m _ w hj
  refine wp_seq (wp_label ?_)
  cases hf
  exact Code.wp_mono (fun e A W h => by
    cases e with
    | goto l => obtain ⟨m', _, h'⟩ := h; exact ⟨m', h'⟩
    | normal => exact h
    | exit _ => exact h
    | ret => exact h
    | panic _ => exact h
    | outgrown => exact h) hw
end Go.Proofs.YtfoodjhffehgpaaGreatDoor
end

section
/-
  DERIVED. What Decode catches.
-/
namespace Go.Proofs.YtfoodjhffehgpaaGreatDoor
open Go Go.Proofs Go.RowKit
open Wk (Nd nds)
open Go.Sort

theorem assert_yes (q : Nat) (w : World) : (Instr.typeAssert (.iface 75 (.pointer (some ⟨q, 0, none⟩))) 20 75 true).run Tryz.prog w = .ok (.tuple #[.pointer (some ⟨q, 0, none⟩), .bool true]) w := by kernel_rfl
theorem assert_no (w : World) : (Instr.typeAssert .nilIface 20 75 true).run Tryz.prog w = .ok (.tuple #[.pointer none, .bool false]) w := by kernel_rfl
set_option maxRecDepth 100000 in
set_option maxHeartbeats 1000000 in
theorem catch_panicking (p4 p5 : Nat) (q : Nat) (older : List PanicEntry) (w : World) (u4 u5 : Value) (hc4 : w.cell? ⟨p4, 0, none⟩ = some u4) (hz4 : w.frozen? ⟨p4, 0, none⟩ = false) (hc5 : w.cell? ⟨p5, 0, none⟩ = some u5) (hz5 : w.frozen? ⟨p5, 0, none⟩ = false) (hne : p4 ≠ p5) :
    CallsD Tryz.prog 28 #[.pointer (some ⟨p4, 0, none⟩), .pointer (some ⟨p5, 0, none⟩)] (.panicking ({ v := .iface 75 (.pointer (some ⟨q, 0, none⟩)), recovered := false } :: older)) w fun e u' w' =>
      e = .returned (.tuple #[]) ∧ u' = .panicking ({ v := .iface 75 (.pointer (some ⟨q, 0, none⟩)), recovered := true } :: older) ∧ w' = (w.setCell ⟨p4, 0, none⟩ (.slice none 0 0)).setCell ⟨p5, 0, none⟩ (.iface 75 (.pointer (some ⟨q, 0, none⟩))) := by
  refine callsD_of_wpS Tryz.func28 rfl fun c₀ cs hu => ?_
  apply wpS_seq
  apply wpS_region
  have hta := assert_yes q
  simp [wpOpsS, go_sem, recoverD, hu, Tryz.ntmps28, Exit.thenS, hta]
  have hc5' : ∀ v, (w.setCell ⟨p4, 0, none⟩ v).cell? ⟨p5, 0, none⟩ = some u5 := fun v => (Rp.cell_set_off hne).trans hc5
  apply wpS_seq
  apply wpS_region
  simp [wpOpsS, go_sem, Exit.thenS]
  refine wpS_cond (t := true) (by simp [Act.eval, Array.replicate]) ?_
  simp only [if_true]
  apply wpS_region
  simp [wpOpsS, go_sem, hc4, hz4, hc5', hz5, bodyPostS, results, Tryz.results28]

set_option maxRecDepth 100000 in
set_option maxHeartbeats 1000000 in
theorem catch_idle (p4 p5 : Nat) (w : World) :
    CallsD Tryz.prog 28 #[.pointer (some ⟨p4, 0, none⟩), .pointer (some ⟨p5, 0, none⟩)] .returning w fun e u' w' => e = .returned (.tuple #[]) ∧ u' = .returning ∧ w' = w := by
  refine callsD_of_wpS Tryz.func28 rfl fun c₀ cs hu => ?_
  have hta := assert_no
  apply wpS_seq
  apply wpS_region
  simp [wpOpsS, go_sem, recoverD, hu, Tryz.ntmps28, Exit.thenS, hta]
  apply wpS_seq
  apply wpS_region
  simp [wpOpsS, go_sem, Exit.thenS]
  refine wpS_cond (t := false) (by simp [Act.eval, Array.replicate]) ?_
  simp only [Bool.false_eq_true, if_false]
  refine wpS_of_wp (wp_skip ?_)
  cases c₀
  simp_all [bodyPostS, results, Tryz.results28]
end Go.Proofs.YtfoodjhffehgpaaGreatDoor
end

section
/-
  DERIVED. Decode: the program's.
-/
namespace Go.Proofs.YtfoodjhffehgpaaGreatDoor
open Go Go.Proofs Go.RowKit
open Wk (Nd nds)
open Go.Sort

set_option maxRecDepth 100000 in
theorem syn_ok (w : World) (x : Bool) : Calls Tryz.prog 26 #[.int .i64 (if x = true then 2 else 1)] w fun e w' => e = .returned (.tuple #[.iface (exI x) (.agg #[]), .nilIface]) ∧ w = w' := by
  cases x
  · show Calls Tryz.prog 26 #[.int .i64 1] w _
    go_enter Tryz.func26, Tryz.ntmps26
    go_wp2
    exact bodyPost_ret (v := .tuple #[.iface 98 (.agg #[]), .nilIface]) (by simp [results, Tryz.results26, go_sem]) rfl ⟨rfl, rfl⟩
  · show Calls Tryz.prog 26 #[.int .i64 2] w _
    go_enter Tryz.func26, Tryz.ntmps26
    go_wp2
    exact bodyPost_ret (v := .tuple #[.iface 99 (.agg #[]), .nilIface]) (by simp [results, Tryz.results26, go_sem]) rfl ⟨rfl, rfl⟩
set_option maxRecDepth 100000 in
theorem syn_no (w : World) (s : Int) (h : s ≠ 1 ∧ s ≠ 2) : Calls Tryz.prog 26 #[.int .i64 s] w fun e w' => ∃ q, e = .returned (.tuple #[.nilIface, .iface 75 (.pointer (some ⟨q, 0, none⟩))]) ∧ Hid (Chain w' [(dsB, 0)] 120 (.iface 75 (.pointer (some ⟨q, 0, none⟩)))) ∧ Hid (Below w.heap.size w w') := by
  have b1 : (s == 1) = false := beq_eq_false_iff_ne.2 h.1
  have b2 : (s == 2) = false := beq_eq_false_iff_ne.2 h.2
  have c := refuseD_any w 0 120
  clear h
  go_enter Tryz.func26, Tryz.ntmps26
  go_wp2_with (go_at_call 27; refine StopV.out ?_)
  refine ⟨Calls.mono c ?_⟩
  rintro e W1 ⟨q, rfl, hc, hb⟩
  go_wp2
  exact bodyPost_ret (v := .tuple #[.nilIface, .iface 75 (.pointer (some ⟨q, 0, none⟩))]) (by simp [results, Tryz.results26, go_sem]) rfl ⟨q, rfl, hc, hb⟩

/-- Decode refuses so. -/
def ErrD (s : Int) (ys : List UInt8) (a c : Nat) : Prop :=
  (s ≠ 1 ∧ s ≠ 2 ∧ a = 0 ∧ c = 120) ∨ ((s = 1 ∨ s = 2) ∧ 1048576 < ys.length ∧ a = 1048576 ∧ c = 121) ∨ ((s = 1 ∨ s = 2) ∧ ys.length ≤ 1048576 ∧ Ends (srcS ys) 0 [] [topS ys.length (decide (s = 2))] (.bad a c))
/-- Decode reads so. -/
def OkD (s : Int) (ys : List UInt8) (M : List Nd) : Prop := (s = 1 ∨ s = 2) ∧ ys.length ≤ 1048576 ∧ Ends (srcS ys) 0 [] [topS ys.length (decide (s = 2))] (.ok M)
/-- What Decode tells. -/
def DcR (base : Nat) (w' : World) (s : Int) (ys : List UInt8) (nv ve : Value) : Prop :=
  (∃ a c, ErrD s ys a c ∧ nv = .slice none 0 0 ∧ Chain w' [(dsB, (a : Int))] (c : Int) ve) ∨ (∃ M, OkD s ys M ∧ ve = .nilIface ∧ w'.ownsRow base 48 4 nv M.length (nds M) ∧ MOk M ∧ (M.length = 0 → nv = .slice none 0 0))
def DcP (w : World) (s : Int) (ys : List UInt8) (e : Ending) (w' : World) : Prop := ∃ nv ve, e = .returned (.tuple #[nv, ve]) ∧ Hid (DcR w.heap.size w' s ys nv ve) ∧ Hid (Below w.heap.size w w')

theorem chain_set {W : World} {p : Nat} {x : Lk} {c : Int} {ve u v : Value} (h : Chain W [x] c ve) (hp : W.cell? ⟨p, 0, none⟩ = some u) (hu : ∀ s, u ≠ .string s) : Chain (W.setCell ⟨p, 0, none⟩ v) [x] c ve := by
  obtain ⟨q, u', h1, h2, h3, h4, h5⟩ := h
  have hne : p ≠ q := fun e => by
    rw [e, h2] at hp
    cases hp
    exact hu _ rfl
  exact ⟨q, u', h1, (Rp.cell_set_off hne).trans h2, (Rp.cell_set_off hne).trans h3, (Rp.cell_set_off hne).trans h4, h5⟩

set_option maxRecDepth 100000 in
set_option maxHeartbeats 2000000 in
theorem dec_no (w : World) (a : Option Addr) (n cap : Nat) (ys : List UInt8) (s : Int) (h : s ≠ 1 ∧ s ≠ 2) : Calls Tryz.prog 8 #[.slice a n cap, .int .i64 s] w (DcP w s ys) := by
  have hmf : ∀ (fn : Fn) (first cap : Array Value) (w : World), (Instr.makeFunc fn first cap).run Tryz.prog w = .ok (.func fn first cap) w := fun _ _ _ _ => rfl
  have cS := syn_no ((w.alloc (.cells #[.slice none 0 0] 22)).alloc (.cells #[.nilIface] 39)) s h
  have HS : Hid _ := h
  clear h
  go_enter_defers Tryz.func8, Tryz.ntmps8
  go_wp2_with (go_at_call 26; refine StopV.out ?_)
  refine ⟨Calls.mono cS ?_⟩
  rintro e W1 ⟨q, rfl, hc, hb⟩
  have c4 : W1.cell? ⟨w.heap.size, 0, none⟩ = some (.slice none 0 0) := (hb.out.cell (p := ⟨w.heap.size, 0, none⟩) (by simp; omega)).trans (by simp)
  have c5 : W1.cell? ⟨w.heap.size + 1, 0, none⟩ = some .nilIface := (hb.out.cell (p := ⟨w.heap.size + 1, 0, none⟩) (by simp)).trans (by simp)
  have z4 : W1.frozen? ⟨w.heap.size, 0, none⟩ = false := (hb.out.frozen (p := ⟨w.heap.size, 0, none⟩) (by simp; omega)).trans (by simp)
  have z5 : W1.frozen? ⟨w.heap.size + 1, 0, none⟩ = false := (hb.out.frozen (p := ⟨w.heap.size + 1, 0, none⟩) (by simp)).trans (by simp)
  have c51 : ∀ v, (W1.setCell ⟨w.heap.size + 1, 0, none⟩ v).cell? ⟨w.heap.size, 0, none⟩ = some (.slice none 0 0) := fun v => (Rp.cell_set_off (by omega)).trans c4
  have c52 : ∀ v, (W1.setCell ⟨w.heap.size + 1, 0, none⟩ v).cell? ⟨w.heap.size + 1, 0, none⟩ = some v := fun v => Rp.cell_set_eq c5
  have n1 : w.heap.size ≠ w.heap.size + 1 := by omega
  have n2 : w.heap.size + 1 ≠ w.heap.size := by omega
  go_wp2
  go_region
  go_wp2
  obtain ⟨W9, hW9⟩ : ∃ W9, (((W1.setCell ⟨w.heap.size + 1, 0, none⟩ (.iface 75 (.pointer (some ⟨q, 0, none⟩)))).setCell ⟨w.heap.size, 0, none⟩ (.slice none 0 0)).setCell ⟨w.heap.size + 1, 0, none⟩ (.iface 75 (.pointer (some ⟨q, 0, none⟩)))).drew = W9 := ⟨_, rfl⟩
  have HCH : Hid (Chain W9 [(dsB, 0)] 120 (.iface 75 (.pointer (some ⟨q, 0, none⟩)))) := by
    rw [← hW9]
    refine Chain.on ((Below.refl _ _).drew) (chain_set (u := .iface 75 (.pointer (some ⟨q, 0, none⟩))) (chain_set (u := .slice none 0 0) (chain_set (u := .nilIface) hc.out c5 (fun _ h => nomatch h)) (c51 _) (fun _ h => nomatch h)) ?_ (fun _ h => nomatch h))
    exact (Rp.cell_set_off n1).trans (c52 _)
  have HBL : Hid (Below w.heap.size w W9) := by
    rw [← hW9]
    exact ((((((((Below.refl _ w).alloc (Nat.le_refl _) _).alloc (by simp) _).trans (hb.out.mono (by simp; omega))).setCell (p := ⟨w.heap.size + 1, 0, none⟩) (Nat.le_succ _) _).setCell (p := ⟨w.heap.size, 0, none⟩) (Nat.le_refl _) _).setCell (p := ⟨w.heap.size + 1, 0, none⟩) (Nat.le_succ _) _).drew)
  have u4 : W9.cell? ⟨w.heap.size, 0, none⟩ = some (.slice none 0 0) := by
    rw [← hW9]
    exact (Rp.cell_set_off n2).trans (Rp.cell_set_eq (c51 _))
  have u5 : W9.cell? ⟨w.heap.size + 1, 0, none⟩ = some (.iface 75 (.pointer (some ⟨q, 0, none⟩))) := by
    rw [← hW9]
    exact Rp.cell_set_eq ((Rp.cell_set_off n1).trans (c52 _))
  rw [hW9]
  simp [bodyPostD, Leaves, results, Tryz.results8, go_sem, u4, u5]
  exact ⟨_, _, rfl, .inl ⟨0, 120, .inl ⟨HS.out.1, HS.out.2, rfl, rfl⟩, rfl, HCH.out⟩, HBL⟩
theorem own_low {W : World} {base base' : Nat} {e : TypeId} {z : Nat} {v : Value} {n : Nat} {xs : List Value} (h : W.ownsRow base e z v n xs) (hb : base' ≤ base) : W.ownsRow base' e z v n xs :=
  ⟨h.1, h.2.imp id (fun ⟨g, cap, cur, h1, h2, h3⟩ => ⟨g, cap, cur, h1, Nat.le_trans hb h2, h3⟩)⟩
theorem BV.up {base base' : Nat} {W W' : World} {a : Option Addr} {n cap : Nat} {ys : List UInt8} (h : BV base W a n cap ys) (hb : Below base W W') (hl : base ≤ base') : BV base' W' a n cap ys :=
  ⟨h.l, h.c, h.s, fun k hk => by obtain ⟨b, off, e, h1, h2⟩ := h.m k hk; exact ⟨b, off, e, Nat.lt_of_lt_of_le h1 hl, (hb.cell (p := ⟨b, off + k, none⟩) h1).trans h2⟩⟩

set_option maxRecDepth 100000 in
set_option maxHeartbeats 2000000 in
theorem dec_long (w : World) (a : Option Addr) (n cap : Nat) (ys : List UInt8) (x : Bool) (hn : n = ys.length) (hl : 1048576 < n) (h63 : n ≤ 9223372036854775807) : Calls Tryz.prog 8 #[.slice a n cap, .int .i64 (if x = true then 2 else 1)] w (DcP w (if x = true then 2 else 1) ys) := by
  have hmf : ∀ (fn : Fn) (first cap : Array Value) (w : World), (Instr.makeFunc fn first cap).run Tryz.prog w = .ok (.func fn first cap) w := fun _ _ _ _ => rfl
  have cS := syn_ok ((w.alloc (.cells #[.slice none 0 0] 22)).alloc (.cells #[.nilIface] 39)) x
  have HN : Hid (1048576 < ys.length) := by rw [← hn]; exact hl
  have b1 : decide ((1048576 : Int) < (n : Int)) = true := decide_eq_true (by omega)
  have b2 : decide (1048576 < n) = true := decide_eq_true hl
  obtain ⟨s, hs⟩ : ∃ s : Int, (if x = true then 2 else 1) = s := ⟨_, rfl⟩
  have HS : Hid (s = 1 ∨ s = 2) := by cases x; exact .inl hs.symm; exact .inr hs.symm
  rw [hs] at cS ⊢
  obtain ⟨X, hX⟩ : ∃ X, ((w.alloc (.cells #[.slice none 0 0] 22)).alloc (.cells #[.nilIface] 39)).setCell ⟨w.heap.size + 1, 0, none⟩ .nilIface = X := ⟨_, rfl⟩
  have cR := refuseD_any X 1048576 121
  have HBX : Hid (Below w.heap.size w X) := by rw [← hX]; exact (((Below.refl _ w).alloc (Nat.le_refl _) _).alloc (by simp) _).setCell (p := ⟨w.heap.size + 1, 0, none⟩) (Nat.le_succ _) _
  have x4 : X.cell? ⟨w.heap.size, 0, none⟩ = some (.slice none 0 0) := by rw [← hX]; exact (Rp.cell_set_off (by omega)).trans (by simp)
  have x5 : X.cell? ⟨w.heap.size + 1, 0, none⟩ = some .nilIface := by rw [← hX]; exact Rp.cell_set_eq (u := .nilIface) (by simp)
  have y4 : X.frozen? ⟨w.heap.size, 0, none⟩ = false := by rw [← hX]; simp
  have y5 : X.frozen? ⟨w.heap.size + 1, 0, none⟩ = false := by rw [← hX]; simp
  clear hs hl hn h63
  go_enter_defers Tryz.func8, Tryz.ntmps8
  go_wp2_with (go_at_call 26; refine StopV.out ?_)
  refine ⟨Calls.mono cS ?_⟩
  rintro e W1 ⟨rfl, rfl⟩
  clear cS
  go_wp2_with (go_at_call 27; refine StopV.out ?_)
  refine ⟨Calls.mono cR ?_⟩
  rintro e W1 ⟨q, rfl, hc, hb⟩
  have c4 := (hb.out.cell (Rp.cell_lt x4)).trans x4
  have c5 := (hb.out.cell (Rp.cell_lt x5)).trans x5
  have z4 : W1.frozen? ⟨w.heap.size, 0, none⟩ = false := (hb.out.frozen (p := ⟨w.heap.size, 0, none⟩) (Rp.cell_lt x4)).trans y4
  have z5 : W1.frozen? ⟨w.heap.size + 1, 0, none⟩ = false := (hb.out.frozen (p := ⟨w.heap.size + 1, 0, none⟩) (Rp.cell_lt x5)).trans y5
  have n1 : w.heap.size ≠ w.heap.size + 1 := by omega
  have n2 : w.heap.size + 1 ≠ w.heap.size := by omega
  have c51 : ∀ v, (W1.setCell ⟨w.heap.size, 0, none⟩ v).cell? ⟨w.heap.size + 1, 0, none⟩ = some .nilIface := fun v => (Rp.cell_set_off n1).trans c5
  obtain ⟨W9, hW9⟩ : ∃ W9, (W1.setCell ⟨w.heap.size, 0, none⟩ (.slice none 0 0)).setCell ⟨w.heap.size + 1, 0, none⟩ (.iface 75 (.pointer (some ⟨q, 0, none⟩))) = W9 := ⟨_, rfl⟩
  have HCH : Hid (Chain W9 [(dsB, 1048576)] 121 (.iface 75 (.pointer (some ⟨q, 0, none⟩)))) := by
    rw [← hW9]
    exact chain_set (u := .nilIface) (chain_set (u := .slice none 0 0) hc.out c4 (fun _ h => nomatch h)) (c51 _) (fun _ h => nomatch h)
  have HBL : Hid (Below w.heap.size w W9) := by
    rw [← hW9]
    exact ((HBX.out.trans (hb.out.mono HBX.out.size)).setCell (p := ⟨w.heap.size, 0, none⟩) (Nat.le_refl _) _).setCell (p := ⟨w.heap.size + 1, 0, none⟩) (Nat.le_succ _) _
  have u4 : W9.cell? ⟨w.heap.size, 0, none⟩ = some (.slice none 0 0) := by rw [← hW9]; exact (Rp.cell_set_off n2).trans (Rp.cell_set_eq c4)
  have u5 : W9.cell? ⟨w.heap.size + 1, 0, none⟩ = some (.iface 75 (.pointer (some ⟨q, 0, none⟩))) := by rw [← hW9]; exact Rp.cell_set_eq (c51 _)
  go_wp2
  simp [bodyPostD, Leaves, results, Tryz.results8, go_sem, u4, u5]
  exact ⟨_, _, rfl, .inl ⟨1048576, 121, .inr (.inl ⟨HS.out, HN.out, rfl, rfl⟩), rfl, HCH.out⟩, HBL⟩
end Go.Proofs.YtfoodjhffehgpaaGreatDoor
end
