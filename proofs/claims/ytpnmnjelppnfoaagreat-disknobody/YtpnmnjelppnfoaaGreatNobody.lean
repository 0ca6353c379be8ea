import Derived.Test.YtpnmnjelppnfoaaGreatNobJ
import Derived.ProofKit
import Derived.OpenShut
import Derived.ShutString
import Derived.ChangeOld
namespace Go.Proofs.YtpnmnjelppnfoaaGreat.diskNobody
open Go.ChangeShapes Go.WideShapes Go.ChangeAt Go.RowKit
set_option linter.unusedVariables false

theorem own : ownKnob Tryz.prog.godebug = none := by kernel_rfl
theorem laidOut : laidOutB Tryz.prog = true := by kernel_rfl
theorem cells3 : Tryz.prog.cellsOf 3 = 1 := by kernel_rfl
theorem cells9 : Tryz.prog.cellsOf 9 = 1 := by kernel_rfl
theorem cells39 : Tryz.prog.cellsOf 39 = 1 := by kernel_rfl
theorem cells40 : Tryz.prog.cellsOf 40 = 1 := by kernel_rfl
theorem cells42 : Tryz.prog.cellsOf 42 = 2 := by kernel_rfl
theorem cells44 : Tryz.prog.cellsOf 44 = 8 := by kernel_rfl

section
variable {H : Type} {enc : TypeId × Value → H} {w : World} {base : Nat} {spare : Nat → Bool} {held : Bool}

theorem slice_form {t e : TypeId} {fuel : Nat} {cs : List Value} {x : DataW H × List MemPlace} (ht : Tryz.prog.underlying t = some (.slice e)) (h : DataW.trod enc Tryz.prog w base spare held fuel t cs = some x) : ∃ a l c, cs = [.slice a l c] := by
  rcases DataW.trod_slice ht h with ⟨h1, _⟩ | ⟨a, l, c, _, _, _, _, h1, _⟩
  · exact ⟨_, _, _, h1⟩
  · exact ⟨_, _, _, h1⟩

set_option maxRecDepth 100000 in
theorem op_cells {fuel : Nat} {cs : List Value} {x : DataW H × List MemPlace} (h : DataW.trod enc Tryz.prog w base spare held fuel 44 cs = some x) :
    ∃ (k n m d : Int) (s t : ByteArray) (a1 a2 : Option Addr) (l1 c1 l2 c2 : Nat), cs = [.int .i64 k, .string s, .string t, .slice a1 l1 c1, .int .i64 n, .int .i64 m, .slice a2 l2 c2, .int .i64 d] := by
  obtain ⟨xs, n, _, rfl, hl, hlen, hf⟩ := DataW.trod_struct Tryz.underlying44 h
  rw [cells44] at hl
  match cs, hl with
  | [c0, c1, c2, c3, c4, c5, c6, c7], _ =>
    match xs, hlen with
    | [y0, y1, y2, y3, y4, y5, y6], _ =>
      have f0 : DataW.trod enc Tryz.prog w base spare held n 3 [c0] = some y0 := by
        have := hf 0 _ rfl
        change DataW.trod enc Tryz.prog w base spare held n 3 (([c0, c1, c2, c3, c4, c5, c6, c7].drop 0).take (Tryz.prog.cellsOf 3)) = some y0 at this
        rw [cells3] at this
        exact this
      have f1 : DataW.trod enc Tryz.prog w base spare held n 9 [c1] = some y1 := by
        have := hf 1 _ rfl
        change DataW.trod enc Tryz.prog w base spare held n 9 (([c0, c1, c2, c3, c4, c5, c6, c7].drop 1).take (Tryz.prog.cellsOf 9)) = some y1 at this
        rw [cells9] at this
        exact this
      have f2 : DataW.trod enc Tryz.prog w base spare held n 9 [c2] = some y2 := by
        have := hf 2 _ rfl
        change DataW.trod enc Tryz.prog w base spare held n 9 (([c0, c1, c2, c3, c4, c5, c6, c7].drop 2).take (Tryz.prog.cellsOf 9)) = some y2 at this
        rw [cells9] at this
        exact this
      have f3 : DataW.trod enc Tryz.prog w base spare held n 39 [c3] = some y3 := by
        have := hf 3 _ rfl
        change DataW.trod enc Tryz.prog w base spare held n 39 (([c0, c1, c2, c3, c4, c5, c6, c7].drop 3).take (Tryz.prog.cellsOf 39)) = some y3 at this
        rw [cells39] at this
        exact this
      have f4 : DataW.trod enc Tryz.prog w base spare held n 3 [c4] = some y4 := by
        have := hf 4 _ rfl
        change DataW.trod enc Tryz.prog w base spare held n 3 (([c0, c1, c2, c3, c4, c5, c6, c7].drop 4).take (Tryz.prog.cellsOf 3)) = some y4 at this
        rw [cells3] at this
        exact this
      have f5 : DataW.trod enc Tryz.prog w base spare held n 3 [c5] = some y5 := by
        have := hf 5 _ rfl
        change DataW.trod enc Tryz.prog w base spare held n 3 (([c0, c1, c2, c3, c4, c5, c6, c7].drop 5).take (Tryz.prog.cellsOf 3)) = some y5 at this
        rw [cells3] at this
        exact this
      have f6 : DataW.trod enc Tryz.prog w base spare held n 42 [c6, c7] = some y6 := by
        have := hf 6 _ rfl
        change DataW.trod enc Tryz.prog w base spare held n 42 (([c0, c1, c2, c3, c4, c5, c6, c7].drop 6).take (Tryz.prog.cellsOf 42)) = some y6 at this
        rw [cells42] at this
        exact this
      obtain ⟨k0, e0, _⟩ := DataW.trod_int Tryz.underlying3 f0
      obtain ⟨s1, e1, _⟩ := DataW.trod_string Tryz.underlying9 f1
      obtain ⟨s2, e2, _⟩ := DataW.trod_string Tryz.underlying9 f2
      obtain ⟨a3, l3, q3, e3⟩ := slice_form Tryz.underlying39 f3
      obtain ⟨k4, e4, _⟩ := DataW.trod_int Tryz.underlying3 f4
      obtain ⟨k5, e5, _⟩ := DataW.trod_int Tryz.underlying3 f5
      obtain ⟨zs, n', _, _, _, hlen', hf'⟩ := DataW.trod_struct Tryz.underlying42 f6
      match zs, hlen' with
      | [z0, z1], _ =>
        have r0 : DataW.trod enc Tryz.prog w base spare held n' 40 [c6] = some z0 := by
          have := hf' 0 _ rfl
          change DataW.trod enc Tryz.prog w base spare held n' 40 (([c6, c7].drop 0).take (Tryz.prog.cellsOf 40)) = some z0 at this
          rw [cells40] at this
          exact this
        have r1 : DataW.trod enc Tryz.prog w base spare held n' 3 [c7] = some z1 := by
          have := hf' 1 _ rfl
          change DataW.trod enc Tryz.prog w base spare held n' 3 (([c6, c7].drop 1).take (Tryz.prog.cellsOf 3)) = some z1 at this
          rw [cells3] at this
          exact this
        obtain ⟨a6, l6, q6, e6⟩ := slice_form Tryz.underlying40 r0
        obtain ⟨k7, e7, _⟩ := DataW.trod_int Tryz.underlying3 r1
        simp only [List.cons.injEq, and_true] at e0 e1 e2 e3 e4 e5 e6 e7
        subst e0 e1 e2 e3 e4 e5 e6 e7
        exact ⟨_, _, _, _, _, _, _, _, _, _, _, _, rfl⟩

theorem cell_lt {a : Addr} {v : Value} (h : w.cell? a = some v) : a.block < w.heap.size := by
  by_cases hl : a.block < w.heap.size
  · exact hl
  · have : w.heap[a.block]? = none := by simp; omega
    simp [World.cell?, this] at h

theorem ops_open {fuel : Nat} {a : Option Addr} {len cap : Nat} {x : DataW H × List MemPlace} (h : DataW.trod enc Tryz.prog w base spare held fuel 22 [.slice a len cap] = some x) : IsOps w a len := by
  rcases Go.Deep.open_slice Tryz.underlying22 h with ⟨hcs, _⟩ | ⟨ad, l, c, m, n, D, Pl, hcs, _, hl, hm, hmm, _, hx⟩
  · simp only [List.cons.injEq, and_true, Value.slice.injEq] at hcs
    exact .inl hcs.2.1
  · simp only [List.cons.injEq, and_true, Value.slice.injEq] at hcs
    obtain ⟨rfl, rfl, rfl⟩ := hcs
    rw [cells44] at hx
    by_cases h0 : len = 0
    · exact .inl h0
    · have hlm : len ≤ m := by rw [hmm]; split <;> omega
      obtain ⟨b, o, sp⟩ := ad
      have hs : sp = none := by
        obtain ⟨cs', h1, h2⟩ := hx 0 (by omega)
        obtain ⟨k, n, m, d, s, t, a1, a2, l1, c1, l2, c2, rfl⟩ := op_cells h2
        have := World.cell?_spot ((World.cells?_some h1).2.2 0 (by omega))
        simpa [Addr.add] using this
      subst hs
      have key : ∀ i, i < len → True ∧ b < w.heap.size ∧ OpAt w b (o + i * 8) := by
        intro i hi
        obtain ⟨cs', h1, h2⟩ := hx i (by omega)
        obtain ⟨k, n, m, d, s, t, a1, a2, l1, c1, l2, c2, rfl⟩ := op_cells h2
        obtain ⟨_, _, hc⟩ := World.cells?_some h1
        have hadd : ∀ j, ((⟨b, o, none⟩ : Addr).add (i * 8)).add j = ⟨b, o + i * 8 + j, none⟩ := by
          intro j
          rw [Go.Deep.add_add]
          unfold Addr.add
          by_cases hz : i * 8 + j = 0
          · rw [if_pos hz, Nat.add_assoc, hz]; rfl
          · rw [if_neg hz, Nat.add_assoc]
        have q : ∀ j, j < 8 → w.cell? ⟨b, o + i * 8 + j, none⟩ = [Value.int .i64 k, .string s, .string t, .slice a1 l1 c1, .int .i64 n, .int .i64 m, .slice a2 l2 c2, .int .i64 d][j]? := fun j hj => by rw [← hadd j]; exact hc j hj
        exact ⟨trivial, cell_lt (a := ⟨b, o + i * 8 + 0, none⟩) (q 0 (by omega)), k, n, m, d, s, t, a1, a2, l1, c1, l2, c2, q 0 (by omega), q 1 (by omega), q 2 (by omega), q 3 (by omega), q 4 (by omega), q 5 (by omega), q 6 (by omega), q 7 (by omega)⟩
      obtain ⟨_, hb, _⟩ := key 0 (by omega)
      exact .inr ⟨b, o, rfl, by omega, hb, fun i hi => (key i hi).2.2⟩
end

set_option maxRecDepth 100000 in
theorem lifted (os : Os) (started : os.Started) (H : Type) (enc : TypeId × Value → H) :
    ReturnsInHanded {} Tryz.checked os 3 .any (Rows.diskNobodySpec.pre6 enc Tryz.prog Tryz.f3 Rows.diskNobodyRow.domain false) (Rows.diskNobodySpec.post enc Tryz.prog Tryz.f3 false true false false) := by
  refine returnsInHanded_of_change (C := Tryz.checked) own started (by kernel_rfl) Tryz.func3
    (ChangeSpec.witness6 (enc := enc) (C := Tryz.checked) false ⟨#[], #[.bool false, .slice none 0 0], []⟩ 8 (by kernel_rfl) (by kernel_rfl) (by kernel_rfl) (by kernel_rfl)) ?_
  intro W base args ds gs before hval0 hW hcnd _
  have hval : ∀ (j : Nat) t v, Tryz.f3.params[j]? = some t → args[j]? = some v → Value.okWide Tryz.prog W .any base t v := hval0
  have hW' := hW
  obtain ⟨p, q, hA0, hV, rfl, hfz, hnd⟩ := hW
  have hA : DataW.TrodAll enc Tryz.prog W 0 (fun _ => true) true Tryz.f3.params.toList args.toList ds p := hA0
  rw [Tryz.params3] at hA hval
  obtain ⟨v0, vs0, d0, ds0, p0, q0, hargs, rfl, rfl, h0, r0⟩ := trodAll_cons hA
  obtain ⟨v1, vs1, d1, ds1, p1, q1, rfl, rfl, rfl, h1, r1⟩ := trodAll_cons r0
  obtain ⟨rfl, rfl, rfl⟩ := trodAll_nil r1
  obtain rfl : args = #[v0, v1] := by cases args; simp_all
  obtain ⟨rfl, rfl⟩ := trodVars_none hV
  obtain ⟨pl, rfl, rfl, rfl⟩ := open_bool Tryz.underlying4 (hval 0 4 v0 rfl rfl) h0
  obtain ⟨a1, len1, cap1, rfl⟩ := okWide_slice Tryz.underlying22 (hval 1 22 v1 rfl rfl)
  have k1 := h1
  have lt1 : ∀ x ∈ p1, x.block < W.heap.size := by obtain ⟨m, hm⟩ := k1; exact DataW.trod_lt m _ _ _ hm
  have w1 : IsOps W a1 len1 := by
    obtain ⟨fuel, hf⟩ := h1
    exact ops_open (by simpa [Value.cells] using hf)
  clear hA0 hval0
  have walk : Calls Tryz.prog 3 #[.bool pl, .slice a1 len1 cap1] W fun e w' => e = .returned (.bool true) ∧ Below W.heap.size W w' := by
    cases pl with
    | false => exact nobody_false a1 len1 cap1 W w1
    | true => exact nobody_true a1 len1 cap1 W w1
  refine walk.mono fun e W' ⟨he, bel⟩ => ?_
  subst he
  exact ⟨_, rfl, _, _, _, [], _, [], hW', trodAll_mk1 (shut_bool Tryz.underlying4 _), (trodAll_cons_mk (shut_bool Tryz.underlying4 _) (trodAll_cons_mk (Below.trod laidOut (by kernel_rfl) (of_decide_eq_true (by kernel_rfl)) k1 bel lt1) trodAll_mk0)), rfl, bel.frame _, fun h => by cases h⟩

theorem over : Rows.diskNobodyRow.holds Tryz.pinned (OpenSpec.ofChange Rows.diskNobodySpec) :=
  OpenClaim.holds_of_wide 3 Tryz.f3 rfl rfl rfl rfl rfl rfl rfl ⟨rfl, rfl, rfl, rfl, rfl⟩ rfl rfl rfl rfl rfl (by kernel_rfl) Tryz.func3 (by kernel_rfl)
    (of_decide_eq_true (by kernel_rfl)) (by unfold Func.isWrapper; first | (rw [if_pos (by decide +kernel)]; kernel_rfl) | (rw [if_neg (by decide +kernel)]; exact ⟨rfl, rfl⟩))
    (fun os started H enc _ => lifted os started H enc)

end Go.Proofs.YtpnmnjelppnfoaaGreat.diskNobody

namespace Go.Proofs.YtpnmnjelppnfoaaGreat
theorem diskNobody_holds : Rows.DiskNobodySaid := diskNobody.over
#print axioms diskNobody_holds
end Go.Proofs.YtpnmnjelppnfoaaGreat
