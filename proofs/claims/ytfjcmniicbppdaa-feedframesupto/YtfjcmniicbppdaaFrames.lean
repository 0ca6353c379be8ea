import Derived.Test.YtfjcmniicbppdaaRows
import Derived.Test.YtfjcmniicbppdaaR
import Derived.Deep.Matrix
import Derived.ProofKit
import Derived.OpenShut
import Derived.ShutString
import Derived.JoinedCond
import Derived.ChangeOld
import Derived.ChangeMaps5
namespace Go.Proofs.Ytfjcmniicbppdaa.frames
open Go.ChangeShapes Go.WideShapes Go.ChangeAt Go.RowKit Go.Deep
open Go.ChangeMaps (open_string shut_string)

theorem own : ownKnob Try.prog.godebug = none := by kernel_rfl
theorem laidOut : laidOutB Try.prog = true := by kernel_rfl
theorem cells5 : Try.prog.cellsOf 5 = 1 := by kernel_rfl
theorem cells22 : Try.prog.cellsOf 22 = 1 := by kernel_rfl

theorem bulk_lits {H : Type} (zs : List Int) : Rows.uptoBulkAll (H := H) (lits .u8 zs) = zs.length := by
  induction zs with
  | nil => rfl
  | cons z r ih => show 1 + Rows.uptoBulkAll (lits .u8 r) = _; rw [ih, List.length_cons]; omega
theorem bulk_row {H : Type} (A : Option Addr) (L C : Nat) (zs : List Int) (h0 : A = none → C = 0) (hl : L ≤ C) (hz : zs.length = C) : L + 1 ≤ Rows.uptoBulk (H := H) (intRow .u8 A L zs) := by
  cases A with
  | none =>
    have := h0 rfl
    show L + 1 ≤ 1
    omega
  | some a =>
    show L + 1 ≤ Rows.uptoBulkAll (lits .u8 (zs.take L)) + Rows.uptoBulkAll (lits .u8 (zs.drop L)) + 1
    rw [bulk_lits, bulk_lits, List.length_take, List.length_drop]
    omega
theorem bulk_map {H : Type} (f : Nat → DataW H) (L : Nat → Nat) : ∀ (l : List Nat), (∀ r ∈ l, L r + 1 ≤ Rows.uptoBulk (f r)) → (l.map L).sum + l.length ≤ Rows.uptoBulkAll (l.map f)
  | [], _ => Nat.le_refl _
  | r :: l, h => by
    have h1 := h r (List.mem_cons_self ..)
    have h2 := bulk_map f L l fun r hr => h r (List.mem_cons_of_mem _ hr)
    show (L r + (l.map L).sum) + (l.length + 1) ≤ Rows.uptoBulk (f r) + Rows.uptoBulkAll (l.map f)
    omega

theorem row_v {W : World} {A : Option Addr} {L C : Nat} {zs : List Int} (hl : L ≤ C) (hz : zs.length = C) (hw : ∀ n ∈ zs, (Lit.int .u8 n).wf = true) (h0 : A = none → C = 0) (hc : ∀ a', A = some a' → ∀ c, c < C → W.cell? (a'.add c) = some (.int .u8 (zs.getD c 0))) :
    V W (.slice A L C) ((zs.take L).map Int.toNat) := by
  have hlen : ((zs.take L).map Int.toNat).length = L := by simp; omega
  by_cases hL : L = 0
  · subst hL
    exact .inl ⟨_, _, rfl, by simp⟩
  · cases A with
    | none => have := h0 rfl; omega
    | some a =>
      have hcell := hc a rfl
      obtain ⟨b, off, sp⟩ := a
      have hs : sp = none := by
        have := World.cell?_spot (hcell 0 (by omega))
        simpa [Addr.add] using this
      subst hs
      have hwf : ∀ n ∈ zs, 0 ≤ n ∧ n < 256 := by
        intro n hn
        have := hw n hn
        simp only [Lit.wf, Bool.and_eq_true, decide_eq_true_eq, show IntKind.u8.min = 0 from rfl, show IntKind.u8.max = 255 from rfl] at this
        omega
      refine .inr ⟨b, off, C, by rw [hlen], by omega, by omega, ?_, ?_⟩
      · intro k hk
        rw [hlen] at hk
        have hk2 : k < zs.length := by omega
        have hc := hcell k (by omega)
        rw [add_at] at hc
        rw [hc]
        have hp := hwf zs[k] (List.getElem_mem hk2)
        simp [List.getD_eq_getElem?_getD, hk, List.getElem?_eq_getElem hk2]
        omega
      · intro y hy
        rw [List.mem_map] at hy
        obtain ⟨z, hz1, rfl⟩ := hy
        have := hwf z (List.mem_of_mem_take hz1)
        omega

set_option maxRecDepth 100000 in
theorem pieces_open {H : Type} {enc : TypeId × Value → H} {W : World} {base : Nat} {held : Bool} {fuel : Nat} {v : Value} {x : DataW H × List MemPlace}
    (hf : DataW.trod enc Try.prog W base (fun _ => true) held fuel 39 [v] = some x) : ∃ Ps : List (List Nat), PS W v Ps ∧ (Ps.map List.length).sum + Ps.length ≤ Rows.uptoBulk x.1 := by
  rcases open_int_rows Try.underlying39 Try.underlying22 Try.underlying5 cells22 cells5 hf with ⟨hcs, rfl⟩ | ⟨a, len, cap, A, L, C, Z, hcs, _, hl, _, rfl, hr⟩
  · simp only [List.cons.injEq, and_true] at hcs
    subst hcs
    exact ⟨[], ⟨none, 0, rfl, fun k hk => by simp at hk⟩, Nat.zero_le _⟩
  · simp only [List.cons.injEq, and_true] at hcs
    subst hcs
    refine ⟨(List.range len).map fun r => ((Z r).take (L r)).map Int.toNat, ⟨some a, cap, by simp, fun k hk => ?_⟩, ?_⟩
    · have hk' : k < len := by simpa using hk
      obtain ⟨hc, h1, h2, h3, h4, h5, h6⟩ := hr k (by omega)
      obtain ⟨b, off, sp⟩ := a
      have hs : sp = none := by
        have := World.cell?_spot (hr 0 (by omega)).1
        simpa [Addr.add] using this
      subst hs
      rw [add_at] at hc
      refine ⟨b, off, _, rfl, hc, ?_⟩
      have e : ((List.range len).map fun r => ((Z r).take (L r)).map Int.toNat).getD k [] = ((Z k).take (L k)).map Int.toNat := by
        simp [List.getD_eq_getElem?_getD, hk']
      rw [e]
      exact row_v h1 h3 h4 h5 fun a' ha => (h6 a' ha).2
    · have hm := bulk_map (H := H) (fun r => intRow .u8 (A r) (L r) (Z r)) L (List.range len) fun r hr' => by
        obtain ⟨hc, h1, h2, h3, h4, h5, h6⟩ := hr r (by have := List.mem_range.1 hr'; omega)
        exact bulk_row _ _ _ _ h5 h1 h3
      have e : (((List.range len).map fun r => ((Z r).take (L r)).map Int.toNat).map List.length) = (List.range len).map L := by
        rw [List.map_map]
        refine List.map_congr_left fun r hr' => ?_
        obtain ⟨hc, h1, h2, h3, _⟩ := hr r (by have := List.mem_range.1 hr'; omega)
        simp
        omega
      rw [e, List.length_map]
      show _ ≤ Rows.uptoBulkAll _ + Rows.uptoBulkAll _ + 1
      omega

theorem contract (H : Type) (enc : TypeId × Value → H) (W : World) (base : Nat) (args : Array Value) (ds gs : List (DataW H)) (before : List MemPlace)
    (hval : ∀ (j : Nat) t v, Try.f5.params[j]? = some t → args[j]? = some v → Value.okWide Try.prog W .any base t v)
    (hW : DataW.Whole enc Try.prog Try.f5.params.toList Rows.feedFramesSpec.vars false W args.toList ds gs before) (hk : Rows.uptoSmall H (ds ++ gs) = true) :
    Calls Try.prog 5 args W fun e W' => ∃ v, e = .returned v ∧ Rows.feedFramesSpec.post enc Try.prog Try.f5 false true false false W args v W' := by
  have hW' := hW
  obtain ⟨p, q, hA0, hV, rfl, hfz, hnd⟩ := hW
  have hA : DataW.TrodAll enc Try.prog W 0 (fun _ => true) true Try.f5.params.toList args.toList ds p := hA0
  rw [Try.params5] at hA hval
  obtain ⟨v0, vs0, d0, ds0, p0, q0, hargs, rfl, rfl, h0, r0⟩ := trodAll_cons hA
  obtain ⟨v1, vs1, d1, ds1, p1, q1, rfl, rfl, rfl, h1, r1⟩ := trodAll_cons r0
  obtain ⟨rfl, rfl, rfl⟩ := trodAll_nil r1
  obtain rfl : args = #[v0, v1] := by cases args; simp_all
  obtain ⟨rfl, rfl⟩ := trodVars_none hV
  have k0 := h0
  have k1 := h1
  have lt0 : ∀ x ∈ p0, x.block < W.heap.size := by obtain ⟨m, hm⟩ := k0; exact DataW.trod_lt m _ _ _ hm
  obtain ⟨s, rfl, rfl, rfl, _⟩ := open_string Try.underlying9 (hval 1 9 v1 rfl rfl) h1
  obtain ⟨fuel, hf⟩ := h0
  obtain ⟨ao, n, c, rfl, _⟩ := okWide_slice Try.underlying39 (hval 0 39 v0 rfl rfl)
  obtain ⟨Ps, hP, hB⟩ := pieces_open hf
  clear hA0
  simp only [List.append_nil] at hW' hk
  have hb : Rows.uptoBulkAll [d0, DataW.lit (H := H) (.string s.data.toList)] ≤ 1048576 := of_decide_eq_true hk
  simp only [Rows.uptoBulkAll, Rows.uptoBulk] at hb
  have e1 : s.data.toList.length = s.size := by rw [Array.length_toList]; rfl
  simp only at hB
  refine (frames_any W _ Ps s hP (by omega) (by omega) (by omega)).mono fun e W' ⟨he, bel⟩ => ?_
  subst he
  exact ⟨_, rfl, _, _, _, [], _, [], hW', trodAll_mk1 (shut_bool Try.underlying4 _), (trodAll_cons_mk (Below.trod laidOut (by kernel_rfl) (of_decide_eq_true (by kernel_rfl)) k0 bel lt0) (trodAll_cons_mk (Below.trod laidOut (by kernel_rfl) (of_decide_eq_true (by kernel_rfl)) k1 bel (fun x hx => by simp at hx)) trodAll_mk0)), rfl, bel.frame _, fun h => by cases h⟩

set_option maxRecDepth 100000 in
theorem lifted (os : Os) (started : os.Started) (H : Type) (enc : TypeId × Value → H) (F : Stop.Interp) :
    ReturnsInHanded {} Try.checked os 5 .any ((Rows.OpenSpec.upto Rows.feedFramesSpec).pre6 enc Try.prog Try.f5 Rows.feedFramesUptoRow.domain false) (((Rows.OpenSpec.upto Rows.feedFramesSpec).at F).post enc Try.prog Try.f5 false true false false) := by
  refine returnsInHanded_of_cond (C := Try.checked) (s := Rows.OpenSpec.upto Rows.feedFramesSpec) (k := Rows.uptoSmall) rfl own started (by kernel_rfl) Try.func5
    (OpenSpec.witness (enc := enc) (C := Try.checked) (s := Rows.OpenSpec.upto Rows.feedFramesSpec) (k := Rows.uptoSmall) rfl false ⟨#[], #[.slice none 0 0, .string .empty], []⟩ 8 (by kernel_rfl) (by kernel_rfl) (by kernel_rfl)
      (x := ([.nil, .lit (.string [])], [], [])) (by kernel_rfl) rfl (by kernel_rfl)) ?_
  intro W base args ds gs before hval hW _ hk _
  exact contract H enc W base args ds gs before hval hW hk
end Go.Proofs.Ytfjcmniicbppdaa.frames

namespace Go.Proofs.Ytfjcmniicbppdaa
theorem feedFrames_holds : Rows.FeedFramesUptoSaid :=
  OpenClaim.holds_of_cond 5 Try.f5 rfl rfl rfl rfl rfl rfl rfl ⟨rfl, rfl, rfl, rfl, rfl⟩ rfl rfl rfl rfl rfl (by kernel_rfl) Try.func5 (by kernel_rfl)
    (of_decide_eq_true (by kernel_rfl)) (by unfold Func.isWrapper; first | (rw [if_pos (by decide +kernel)]; kernel_rfl) | (rw [if_neg (by decide +kernel)]; exact ⟨rfl, rfl⟩))
    (fun os started H enc _ F => frames.lifted os started H enc F)
#print axioms feedFrames_holds
end Go.Proofs.Ytfjcmniicbppdaa
