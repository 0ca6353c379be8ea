import Derived.Test.YtoikdpjjcnmgeaaGreatDoorVr
import Derived.ScopeJumps
import Derived.WalkMore
/-
  DERIVED. A reader made; all that it reads.
-/
namespace Go.Proofs.YtoikdpjjcnmgeaaGreatDoor
open Go Go.Proofs Go.RowKit
open Wk (Nd nds)
open Go.Sort

/-- The top level. -/
def topS (n : Nat) (x : Bool) : Sp := ⟨none, n, false, false, x, 0⟩
set_option maxRecDepth 100000 in
theorem newReader_any (w : World) (a : Option Addr) (n cap : Nat) (x : Bool) :
    Calls Tryz.prog 33 #[.slice a n cap, exV x] w fun e w' => e = .returned (.pointer (some ⟨w.heap.size + 1, 0, none⟩)) ∧ Hid (PR w.heap.size (w.heap.size + 1) (.slice a n cap) w' 0 [] [topS n x] (.slice none 0 0) (.slice (some ⟨w.heap.size, 0, none⟩) 1 1)) ∧ Hid (Below w.heap.size w w') := by
  rw [exV_eq]
  have HX : Hid (exV x = .iface (exI x) (.agg #[])) := exV_eq x
  generalize exI x = i at HX ⊢
  go_enter Tryz.func33, Tryz.ntmps33
  go_wp2
  go_ret
  refine ⟨rfl, ?_, ((Below.refl _ _).alloc (Nat.le_refl _) _).alloc (by simp) _⟩
  refine ⟨by simp, by simp, by simp, by simp, fun j => by simp, ⟨_, by rw [show w.heap.size + 1 = (w.alloc (.cells #[.int .i64 (-1), .int .i64 (n : Int), .bool false, .bool false, .iface i (.agg #[]), .int .u32 0] 112)).heap.size by simp]; exact heap_alloc_new _ _⟩, ⟨rfl, .inl ⟨rfl, rfl⟩⟩, ⟨rfl, .inr ⟨w.heap.size, 1, #[.int .i64 (-1), .int .i64 (n : Int), .bool false, .bool false, .iface i (.agg #[]), .int .u32 0], rfl, Nat.le_refl _, ?_, Nat.le_refl _, by decide, rfl, ?_⟩⟩, by omega, fun _ => rfl⟩
  · exact (((Below.refl _ _).alloc (Nat.le_refl _) _).block w.heap.size (by simp)).trans (heap_alloc_new w _)
  · show _ = spc [topS n x]
    unfold spc topS Sp.cs
    simp [HX.out, nodeV]
/-- As Q; by a goto to a label: J of that label. -/
def jumps (J : Nat → Act → World → Prop) (Q : Exit → Act → World → Prop) : Exit → Act → World → Prop
  | .goto l, a, w => J l a w
  | e, a, w => Q e a w
theorem jumps_ret {J : Nat → Act → World → Prop} {Q : Exit → Act → World → Prop} {a : Act} {w : World} : jumps J Q .ret a w = Q .ret a w := rfl
theorem jumps_goto {J : Nat → Act → World → Prop} {Q : Exit → Act → World → Prop} {l : Nat} {a : Act} {w : World} : jumps J Q (.goto l) a w = J l a w := rfl

section
variable {P : Program} {a : Act} {w : World} {Q : Exit → Act → World → Prop}

theorem wp_scope_many {c : Code} (J : Nat → Nat → Act → World → Prop)
    (first : c.wp P (jumps (fun l a w => ∃ m, J l m a w) Q) a w)
    (pass : ∀ l m a w, J l m a w → ∃ rest, findLabel c l = some rest ∧ rest.wp P (jumps (fun l' a' w' => ∃ m', m' < m ∧ J l' m' a' w') Q) a w) : (Code.scope c).wp P Q a w := by
  intro b k cs
  have hg : ∀ l rest, findLabel c l = some rest → gotoIn l (.inScope c :: k) = some (.code rest :: .inScope c :: k) := fun l rest hf => by simp [gotoIn, hf]
  have key : ∀ n l a w, J l n a w → ∃ rest, findLabel c l = some rest ∧ ∃ e a' w', Q e a' w' ∧ Arrives P (lone (b.at a (.code rest :: .inScope c :: k)) cs w) b k cs e a' w' := by
    intro n
    induction n using Nat.strongRecOn with
    | _ n ih =>
      intro l a w hJ
      obtain ⟨rest, hf, hp⟩ := pass l n a w hJ
      refine ⟨rest, hf, ?_⟩
      obtain ⟨e, a₁, w₁, hq, harr⟩ := hp b (.inScope c :: k) cs
      cases e with
      | normal => exact ⟨.normal, a₁, w₁, hq, Steps.trans harr (.one step_inScope)⟩
      | exit id => exact ⟨.exit id, a₁, w₁, hq, fun k' hk => harr k' (by simp [exitTo, hk])⟩
      | goto l' =>
        obtain ⟨m', hlt, hJ'⟩ := hq
        obtain ⟨rest', hf', e₂, a₂, w₂, hq₂, harr₂⟩ := ih m' hlt l' a₁ w₁ hJ'
        exact ⟨e₂, a₂, w₂, hq₂, .of_steps (harr _ (hg _ _ hf')) harr₂⟩
      | ret => exact ⟨_, a₁, w₁, hq, harr⟩
      | panic ch => exact ⟨_, a₁, w₁, hq, harr⟩
      | outgrown => exact ⟨_, a₁, w₁, hq, harr⟩
  obtain ⟨e, a₁, w₁, hq, harr⟩ := first b (.inScope c :: k) cs
  cases e with
  | normal => exact ⟨.normal, a₁, w₁, hq, .head step_scope (Steps.trans harr (.one step_inScope))⟩
  | exit id => exact ⟨.exit id, a₁, w₁, hq, fun k' hk => .head step_scope (harr k' (by simp [exitTo, hk]))⟩
  | goto l' =>
    obtain ⟨m', hJ'⟩ := hq
    obtain ⟨rest', hf', e₂, a₂, w₂, hq₂, harr₂⟩ := key m' l' a₁ w₁ hJ'
    exact ⟨e₂, a₂, w₂, hq₂, .of_steps (.head step_scope (harr _ (hg _ _ hf'))) harr₂⟩
  | ret => exact ⟨_, a₁, w₁, hq, .of_steps (.one step_scope) harr⟩
  | panic ch => exact ⟨_, a₁, w₁, hq, .of_steps (.one step_scope) harr⟩
  | outgrown => exact ⟨_, a₁, w₁, hq, .of_steps (.one step_scope) harr⟩
end

theorem PR.pop {base rb g sc : Nat} {bv nv : Value} {W : World} {k m : Nat} {M : List Nd} {sp sp2 : Sp} {r : List Sp} (hm : r.length = m) (h : PR base rb bv W k M (sp :: sp2 :: r) nv (.slice (some ⟨g, 0, none⟩) (m + 1 + 1) sc)) : PR base rb bv (W.setCell ⟨rb, 3, none⟩ (.slice (some ⟨g, 0, none⟩) (m + 1) sc)) k M (sp2 :: r) nv (.slice (some ⟨g, 0, none⟩) (m + 1) sc) := by
  subst hm
  have hs : W.ownsRow base 112 6 (.slice (some ⟨g, 0, none⟩) (r.length + 1) sc) (sp2 :: r).length (spc (sp2 :: r)) := by
    rcases h.sp.2 with ⟨_, h0⟩ | ⟨g', cap', cur, hv, hb, hh, hc, hm, hs, ht⟩
    · simp at h0
    · cases hv
      refine ⟨spc_len _, .inr ⟨g, sc, cur, rfl, hb, hh, by simp only [List.length_cons] at hc ⊢; omega, hm, hs, ?_⟩⟩
      have := spc_take sp (sp2 :: r)
      rw [← ht, List.take_take] at this
      rw [← this]
      congr 1
      simp
  exact (h.grownS ⟨rfl, rfl, rfl, Nat.le_refl _, fun _ _ _ => rfl⟩ hs).2.2
theorem skip_seq {P : Program} {Q : Exit → Act → World → Prop} {a : Act} {w : World} {c : Code} (h : c.wp P Q a w) : (Code.seq .skip c).wp P Q a w := wp_seq (wp_skip h)
/-- The frame of the reading: what its scratch slots hold is not looked at. -/
def frR (rb : Nat) (t : Nat → Value) : Act := { tmps := #[.pointer (some ⟨rb, 0, none⟩), undef, .slice none 0 0, t 3, t 4, t 5, t 6, t 7, t 8, t 9, t 10, t 11, t 12, t 13, t 14, t 15, t 16, t 17, t 18, t 19, t 20, t 21, t 22, t 23, t 24, t 25, t 26, t 27, t 28, t 29, t 30, t 31, t 32, t 33, t 34, t 35, t 36, t 37, t 38, t 39, t 40, t 41, t 42], defers := [] }
/-- What is told at the end of the reading. -/
def RdP (base : Nat) (S : Src) (n : Nat) (x : Bool) (w : World) (e : Ending) (w' : World) : Prop :=
  ((∃ a c, Pan w' a c e ∧ Ends S 0 [] [topS n x] (.bad a c)) ∨ (∃ nv M, e = .returned nv ∧ w'.ownsRow base 54 4 nv M.length (nds M) ∧ Ends S 0 [] [topS n x] (.ok M) ∧ MOk M ∧ (M.length = 0 → nv = .slice none 0 0))) ∧ Below base w w'
/-- What holds at each head. -/
def JR (base rb : Nat) (a : Option Addr) (n cap : Nat) (ys : List UInt8) (x : Bool) (w0 : World) (l m : Nat) (A : Act) (w : World) : Prop :=
  l = 0 ∧ ∃ t k M sp r nv sv, A = frR rb t ∧ PR base rb (.slice a n cap) w k M (sp :: r) nv sv ∧ PI n k M (sp :: r) ∧ (∀ R, Ends (srcS ys) k M (sp :: r) R → Ends (srcS ys) 0 [] [topS n x] R) ∧ Below base w0 w ∧ m = 2 * (n - k) + (r.length + 1)

/-- A step that takes something does not leave the last span. -/
theorem no_empty {S : Src} {k : Nat} {M : List Nd} {sp : Sp} {r : List Sp} {k' : Nat} {M' : List Nd} (h : step S k M sp r = if sp.it = true then stepI S k M sp r else stepE S k M sp r) (hs : step S k M sp r = .go k' M' []) : False := by
  rw [h] at hs
  split at hs
  · unfold stepI at hs
    split at hs
    · cases hs
    split at hs
    · cases hs
    split at hs
    · cases hs
    split at hs
    · cases hs
    split at hs <;> cases hs
  · unfold stepE at hs
    split at hs
    · cases hs
    split at hs
    · cases hs
    unfold stepB at hs
    split at hs
    · cases hs
    split at hs
    · cases hs
    split at hs
    · cases hs
    split at hs
    · cases hs
    split at hs
    · cases hs
    split at hs <;> cases hs
theorem fr_ex (rb : Nat) (u3 u4 u5 u6 u7 u8 u9 u10 u11 u12 u13 u14 u15 u16 u17 u18 u19 u20 u21 u22 u23 u24 u25 u26 u27 u28 u29 u30 u31 u32 u33 u34 u35 u36 u37 u38 u39 u40 u41 u42 : Value) : ∃ t, ({ tmps := #[.pointer (some ⟨rb, 0, none⟩), undef, .slice none 0 0, u3, u4, u5, u6, u7, u8, u9, u10, u11, u12, u13, u14, u15, u16, u17, u18, u19, u20, u21, u22, u23, u24, u25, u26, u27, u28, u29, u30, u31, u32, u33, u34, u35, u36, u37, u38, u39, u40, u41, u42], defers := [] } : Act) = frR rb t := ⟨fun i => [u3, u4, u5, u6, u7, u8, u9, u10, u11, u12, u13, u14, u15, u16, u17, u18, u19, u20, u21, u22, u23, u24, u25, u26, u27, u28, u29, u30, u31, u32, u33, u34, u35, u36, u37, u38, u39, u40, u41, u42].getD (i - 3) undef, rfl⟩
theorem JR.mk {base rb : Nat} {a : Option Addr} {n cap : Nat} {ys : List UInt8} {x : Bool} {w0 w : World} {A : Act} {m k : Nat} {M : List Nd} {sp : Sp} {r : List Sp} {nv sv : Value} (hfr : ∃ t, A = frR rb t) (hP : PR base rb (.slice a n cap) w k M (sp :: r) nv sv) (hI : PI n k M (sp :: r)) (hE : ∀ R, Ends (srcS ys) k M (sp :: r) R → Ends (srcS ys) 0 [] [topS n x] R) (hB : Below base w0 w) (hm : 2 * (n - k) + (r.length + 1) < m) : ∃ m', m' < m ∧ JR base rb a n cap ys x w0 0 m' A w := by
  obtain ⟨t, rfl⟩ := hfr
  exact ⟨_, hm, rfl, t, k, M, sp, r, nv, sv, rfl, hP, hI, hE, hB, rfl⟩

set_option maxRecDepth 100000 in
set_option maxHeartbeats 8000000 in
theorem read_round (r0 c : Code) (hc : Tryz.f34.body = some (.seq r0 (.scope c))) (base rb : Nat) (a : Option Addr) (n cap : Nat) (ys : List UInt8) (x : Bool) (w0 : World) (hV : BV base w0 a n cap ys) (m : Nat) (A : Act) (w : World) (h : JR base rb a n cap ys x w0 0 m A w) :
    ∃ rest, findLabel c 0 = some (Code.seq .skip rest) ∧ rest.wp Tryz.prog (jumps (fun l' a' w' => ∃ m', m' < m ∧ JR base rb a n cap ys x w0 l' m' a' w') (bodyPost Tryz.prog Tryz.f34 (RdP base (srcS ys) n x w0))) A w := by
  unfold Tryz.f34 at hc
  cases hc
  refine ⟨_, rfl, ?_⟩
  obtain ⟨-, t, k, M, sp, r, nv, sv, rfl, hP, hI, hE, hB, rfl⟩ := h
  obtain ⟨g, sc, rfl, hbg, hsc⟩ := hP.form
  have hln := hI.ln
  simp only [List.length_cons] at hln
  obtain ⟨hk, hf⟩ := hI.le
  have hn := hV.s
  have cI := inner_any w rb g r.length sc (by omega) hP.c3
  have HP : Hid _ := hP
  have HI : Hid _ := hI
  have HE : Hid _ := hE
  have HB : Hid _ := hB
  have HV : Hid _ := hV
  have HLT : Hid (base ≤ w.heap.size) := hP.lt
  obtain ⟨mm, hmm⟩ : ∃ z, r.length = z := ⟨_, rfl⟩
  have HM : Hid _ := hmm
  rw [hmm] at cI
  have HBND : Hid (mm ≤ 4000000 ∧ n ≤ 1048576 ∧ k ≤ n) := ⟨by omega, hn, by omega⟩
  clear hP hI hE hB hV hk hf hn hln hmm hbg hsc
  unfold frR
  go_wp2_with (go_at_call 57; refine StopV.out ?_)
  refine ⟨Calls.mono cI ?_⟩
  rintro e W1 ⟨rfl, hb1⟩
  have HP1 : Hid _ := HP.out.on hb1
  have hB1 : Below base w0 W1 := HB.out.trans (hb1.mono HLT.out)
  have HB1 : Hid _ := hB1
  have cA := atEnd_any W1 base rb a n cap k ys M sp r nv g sc HP1.out (HV.out.on hB1) HI.out
  rw [HM.out] at cA
  clear cI hb1 hB1 HP
  go_wp2_with (go_at_call 58; refine StopV.out ?_)
  refine ⟨Calls.mono cA ?_⟩
  rintro e W2 ⟨he, hb2⟩
  have HB2 : Hid (Below base w0 W2) := HB1.out.trans hb2
  have hst := step_end (srcS ys) k M sp r
  rcases hend : endS (srcS ys) k sp with c | k' | _
  · rw [hend] at he hst
    obtain ⟨q, rfl, hc⟩ : Pan W2 k c e := he
    exact ⟨rfl, .inl ⟨k, c, ⟨q, rfl, hc⟩, HE.out _ (.bad hst)⟩, HB2.out⟩
  · rw [hend] at he hst
    obtain ⟨rfl, hp2⟩ : e = .returned (.bool true) ∧ PR base rb (.slice a n cap) W2 k' M (sp :: r) nv (.slice (some ⟨g, 0, none⟩) (mm + 1) sc) := he
    obtain ⟨hI2, hlt⟩ := HI.out.next (src_ok ys) hst
    have c32 := hp2.c3
    have c22 := hp2.c2
    have f32 := hp2.fz 3
    have HST : Hid _ := hst
    have HP2 : Hid _ := hp2
    have HI2 : Hid _ := hI2
    have HLT2 : Hid _ := hlt
    rcases r with _ | ⟨sp2, r2⟩
    · obtain rfl : 0 = mm := HM.out
      clear hst hp2 hI2 hlt hend hb2 cA
      go_wp2
      go_ret
      exact ⟨.inr ⟨nv, M, rfl, HP2.out.nd, HE.out _ (.go HST.out (.done _ _)), ⟨HI2.out.mo, HP2.out.nz⟩⟩, HB2.out⟩
    · obtain ⟨m2, rfl⟩ : ∃ z, mm = z + 1 := ⟨r2.length, HM.out.symm⟩
      have hm2 : r2.length = m2 := by have := HM.out; simpa using this
      have b1 : (((m2 + 1 + 1 : Nat) : Int) == 1) = false := beq_eq_false_iff_ne.2 (by omega)
      have b2 : ((m2 : Int) + 1 + 1 == 1) = false := beq_eq_false_iff_ne.2 (by omega)
      have w1 : IntKind.i64.wrap ((m2 : Int) + 1) = (m2 : Int) + 1 := by rw [IntKind.wrap_i64]; have := HBND.out; omega
      have hcp : m2 + 1 + 1 ≤ sc := by
        obtain ⟨g', cap', e, -, h3⟩ := HP2.out.form
        cases e
        simpa [hm2] using h3
      have HMM : Hid _ := hm2
      clear hst hp2 hI2 hlt hend hb2 cA hm2
      go_wp2
      go_region
      go_wp2
      go_step3
      refine JR.mk (fr_ex _ _ _ _ _ _ _ _ _ _ _ _ _ _ _ _ _ _ _ _ _ _ _ _ _ _ _ _ _ _ _ _ _ _ _ _ _ _ _ _ _) ((HP2.out.pop HMM.out).on ((Below.refl _ _).drew)) HI2.out (fun R hR => HE.out R (.go HST.out hR)) ((HB2.out.setCell (p := ⟨rb, 3, none⟩) HP2.out.hb _).drew) ?_
      have h1 := HLT2.out
      have h2 := HI2.out.le
      have h3 := HBND.out
      simp only [List.length_cons] at h1 ⊢
      omega
  · rw [hend] at he hst
    obtain ⟨rfl, hp2⟩ : e = .returned (.bool false) ∧ PR base rb (.slice a n cap) W2 k M (sp :: r) nv (.slice (some ⟨g, 0, none⟩) (mm + 1) sc) := he
    have hV2 := HV.out.on HB2.out
    have h8 : 8 ≤ sp.fin - k := by
      unfold endS at hend
      split at hend
      · cases hend
      split at hend
      · cases hend
      · omega
    have HST : Hid (step (srcS ys) k M sp r = if sp.it = true then stepI (srcS ys) k M sp r else stepE (srcS ys) k M sp r) := hst
    have hp2' : PR base rb (.slice a n cap) W2 k M (sp :: r) nv (.slice (some ⟨g, 0, none⟩) (r.length + 1) sc) := by rw [HM.out]; exact hp2
    have s3 := hp2'.sc.s3
    rw [HM.out] at s3
    have cTI := takeItem_any W2 base rb a n cap k ys M sp r nv g sc hp2' hV2 HI.out h8
    have cTE := takeElement_any W2 base rb a n cap k ys M sp r nv g sc hp2' hV2 HI.out h8
    rw [HM.out] at cTI cTE
    clear hst hp2 hp2' hend hb2 cA hV2 h8
    have HN : Hid (∀ k' M' st' nv' sv' W, step (srcS ys) k M sp r = .go k' M' st' → PR base rb (.slice a n cap) W k' M' st' nv' sv' → Below base W2 W → ∀ A, (∃ t, A = frR rb t) → ∃ m', m' < 2 * (n - k) + (r.length + 1) ∧ JR base rb a n cap ys x w0 0 m' A W) := fun k' M' st' nv' sv' W hs hp hb A hA => by
      obtain ⟨hI2, hlt⟩ := HI.out.next (src_ok ys) hs
      rcases st' with _ | ⟨sp', r'⟩
      · exfalso
        exact no_empty HST.out hs
      · refine JR.mk hA hp hI2 (fun R hR => HE.out R (.go hs hR)) (HB2.out.trans hb) ?_
        have h2 := hI2.le
        simp only [List.length_cons] at hlt
        omega
    rcases hit : sp.it with _ | _
    · rw [hit] at s3
      clear cTI
      go_wp2_with (go_at_call 60; refine StopV.out ?_)
      refine ⟨Calls.mono cTE ?_⟩
      rintro e W3 ⟨he, hb3⟩
      have hs := HST.out
      rw [hit] at hs
      have hs2 : step (srcS ys) k M sp r = stepE (srcS ys) k M sp r := hs
      rcases hq : stepE (srcS ys) k M sp r with ⟨a', c'⟩ | ⟨k', M', st'⟩
      · rw [hq] at he hs2
        obtain ⟨q, rfl, hc⟩ : Pan W3 a' c' e := he
        exact ⟨rfl, .inl ⟨a', c', ⟨q, rfl, hc⟩, HE.out _ (.bad hs2)⟩, HB2.out.trans hb3⟩
      · rw [hq] at he hs2
        obtain ⟨rfl, nv', sv', hp3⟩ := he
        have HS2 : Hid _ := hs2
        have HP3 : Hid _ := hp3
        have HB3 : Hid _ := hb3
        clear hs hs2 hq hp3 hb3 cTE
        go_wp2
        go_step3
        exact HN.out k' M' st' nv' sv' W3 HS2.out HP3.out HB3.out _ (fr_ex _ _ _ _ _ _ _ _ _ _ _ _ _ _ _ _ _ _ _ _ _ _ _ _ _ _ _ _ _ _ _ _ _ _ _ _ _ _ _ _ _)
    · rw [hit] at s3
      clear cTE
      go_wp2_with (go_at_call 59; refine StopV.out ?_)
      refine ⟨Calls.mono cTI ?_⟩
      rintro e W3 ⟨he, hb3⟩
      have hs := HST.out
      rw [hit] at hs
      have hs2 : step (srcS ys) k M sp r = stepI (srcS ys) k M sp r := hs
      rcases hq : stepI (srcS ys) k M sp r with ⟨a', c'⟩ | ⟨k', M', st'⟩
      · rw [hq] at he hs2
        obtain ⟨q, rfl, hc⟩ : Pan W3 a' c' e := he
        exact ⟨rfl, .inl ⟨a', c', ⟨q, rfl, hc⟩, HE.out _ (.bad hs2)⟩, HB2.out.trans hb3⟩
      · rw [hq] at he hs2
        obtain ⟨rfl, nv', sv', hp3⟩ := he
        have HS2 : Hid _ := hs2
        have HP3 : Hid _ := hp3
        have HB3 : Hid _ := hb3
        clear hs hs2 hq hp3 hb3 cTI
        go_wp2
        go_step3
        exact HN.out k' M' st' nv' sv' W3 HS2.out HP3.out HB3.out _ (fr_ex _ _ _ _ _ _ _ _ _ _ _ _ _ _ _ _ _ _ _ _ _ _ _ _ _ _ _ _ _ _ _ _ _ _ _ _ _ _ _ _ _)
end Go.Proofs.YtoikdpjjcnmgeaaGreatDoor
