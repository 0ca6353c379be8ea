import Derived.Test.YtcnogjmhbkbklaaRows
import Derived.Test.YtcnogjmhbkbklaaR
import Derived.ProofKit
import Derived.OpenShut
import Derived.ShutString
import Derived.JoinedCond
import Derived.ChangeOld
import Derived.ChangeMaps5
import Derived.ChangeArms
namespace Go.Proofs.Ytcnogjmhbkbklaa.walks
open Go.ChangeShapes Go.WideShapes Go.ChangeAt Go.RowKit

theorem own : ownKnob Try.prog.godebug = none := by kernel_rfl
theorem laidOut : laidOutB Try.prog = true := by kernel_rfl
theorem cells3 : Try.prog.cellsOf 3 = 1 := by kernel_rfl
theorem cells9 : Try.prog.cellsOf 9 = 1 := by kernel_rfl
theorem cells24 : Try.prog.cellsOf 24 = 1 := by kernel_rfl
theorem cells32 : Try.prog.cellsOf 32 = 1 := by kernel_rfl
theorem cells34 : Try.prog.cellsOf 34 = 4 := by kernel_rfl

theorem bulk_get {H : Type} : ∀ (l : List (DataW H)) (i : Nat) (d : DataW H), l[i]? = some d → Rows.uptoBulk d ≤ Rows.uptoBulkAll l
  | [], i, d, h => by simp at h
  | a :: l, 0, d, h => by simp at h; subst h; show _ ≤ Rows.uptoBulk a + Rows.uptoBulkAll l; omega
  | a :: l, i + 1, d, h => by
    have := bulk_get l i d (by simpa using h)
    show _ ≤ Rows.uptoBulk a + Rows.uptoBulkAll l
    omega
theorem bulk_pos {H : Type} : ∀ d : DataW H, 1 ≤ Rows.uptoBulk d := by
  intro d
  cases d with
  | lit l => cases l <;> simp [Rows.uptoBulk]
  | _ => simp [Rows.uptoBulk]
theorem bulk_len {H : Type} : ∀ (l : List (DataW H)), l.length ≤ Rows.uptoBulkAll l
  | [] => Nat.le_refl _
  | a :: l => by
    have h1 := bulk_len l
    have h2 := bulk_pos a
    show l.length + 1 ≤ Rows.uptoBulk a + Rows.uptoBulkAll l
    omega

set_option maxRecDepth 100000 in
theorem node_open {H : Type} {enc : TypeId × Value → H} {W : World} {base : Nat} {spare : Nat → Bool} {held : Bool} {fuel : Nat} {cs : List Value} {x : DataW H × List MemPlace}
    (hf : DataW.trod enc Try.prog W base spare held fuel 34 cs = some x) : ∃ a : Nd, cs = a.cs ∧ (-9223372036854775808 ≤ a.n ∧ a.n ≤ 9223372036854775807) ∧ a.s.size ≤ Rows.uptoBulk x.1 := by
  obtain ⟨xs, n, -, hx, hl, hn, hfs⟩ := DataW.trod_struct Try.underlying34 hf
  rw [cells34] at hl
  match cs, hl with
  | [c0, c1, c2, c3], _ =>
    have g3 : xs[3]? = some (xs[3]'(by rw [hn]; decide)) := List.getElem?_eq_getElem (by rw [hn]; decide)
    obtain ⟨t, e0, -, -⟩ := DataW.trod_int Try.underlying24 ((hfs 0 _ rfl).trans (List.getElem?_eq_getElem (by rw [hn]; decide)))
    obtain ⟨v, e1, -, -⟩ := DataW.trod_int Try.underlying32 ((hfs 1 _ rfl).trans (List.getElem?_eq_getElem (by rw [hn]; decide)))
    obtain ⟨z, e2, -, hw⟩ := DataW.trod_int Try.underlying3 ((hfs 2 _ rfl).trans (List.getElem?_eq_getElem (by rw [hn]; decide)))
    obtain ⟨s, e3, hx3, -⟩ := DataW.trod_string Try.underlying9 ((hfs 3 _ rfl).trans g3)
    simp [cells3, cells9, cells24, cells32] at e0 e1 e2 e3
    subst e0 e1 e2 e3
    simp only [Lit.wf, Bool.and_eq_true, decide_eq_true_eq, show IntKind.i64.min = -9223372036854775808 from rfl, show IntKind.i64.max = 9223372036854775807 from rfl] at hw
    refine ⟨⟨t, v, z, s⟩, rfl, hw, ?_⟩
    rw [hx]
    show _ ≤ Rows.uptoBulkAll (xs.map (·.1)) + 1
    have hb := bulk_get (xs.map (·.1)) 3 _ (by rw [List.getElem?_map, g3]; rfl)
    rw [hx3] at hb
    have e : s.data.toList.length = s.size := by rw [Array.length_toList]; rfl
    simp only [Rows.uptoBulk] at hb
    show s.size ≤ _
    omega

set_option maxRecDepth 100000 in
theorem nodes_open {H : Type} {enc : TypeId × Value → H} {W : World} {base : Nat} {spare : Nat → Bool} {held : Bool} {fuel : Nat} {v : Value} {x : DataW H × List MemPlace}
    (hf : DataW.trod enc Try.prog W base spare held fuel 22 [v] = some x) (hB : Rows.uptoBulk x.1 ≤ 1048576) : ∃ a n cap L, v = .slice a n cap ∧ NV W a n cap L ∧ ∀ y ∈ L, y.s.size ≤ 1048576 := by
  rcases DataW.trod_slice Try.underlying22 hf with ⟨hcs, _⟩ | ⟨a, len, cap, elems, rest, n, _, hcs, hx, hb, hl, hm, hlen, hel, -, -⟩
  · simp only [List.cons.injEq, and_true] at hcs
    subst hcs
    exact ⟨none, 0, 0, [], rfl, ⟨rfl, Nat.le_refl _, by decide, fun q => by omega, fun y hy => by simp at hy⟩, fun y hy => by simp at hy⟩
  · simp only [List.cons.injEq, and_true] at hcs
    subst hcs
    rw [hx] at hB
    have hB2 : Rows.uptoBulkAll (elems.map (·.1)) + Rows.uptoBulkAll (rest.map (·.1)) + 1 ≤ 1048576 := hB
    have hone : ∀ i, ∃ q : Nd, i < len → W.cells? base (a.add (i * 4)) 4 = some q.cs ∧ (-9223372036854775808 ≤ q.n ∧ q.n ≤ 9223372036854775807) ∧ q.s.size ≤ 1048576 := fun i => by
      by_cases hi : i < len
      · have h1 := hel i hi
        rw [cells34, List.getElem?_eq_getElem (by omega)] at h1
        obtain ⟨es, he1, he2⟩ := Option.bind_eq_some_iff.1 h1
        obtain ⟨q, rfl, hq1, hq2⟩ := node_open he2
        refine ⟨q, fun _ => ⟨he1, hq1, ?_⟩⟩
        have h3 := bulk_get (elems.map (·.1)) i (elems[i]'(by omega)).1 (by rw [List.getElem?_map, List.getElem?_eq_getElem (by omega)]; rfl)
        omega
      · exact ⟨⟨0, 0, 0, ⟨#[]⟩⟩, fun h => absurd h hi⟩
    obtain ⟨F, hF⟩ := Classical.axiomOfChoice hone
    have hln : ((List.range len).map F).length = len := by simp
    have hsmall : len ≤ 1048576 := by
      have := bulk_len (elems.map (·.1))
      rw [List.length_map] at this
      omega
    have hmem : ∀ y ∈ (List.range len).map F, ∃ i, i < len ∧ F i = y := fun y hy => by
      obtain ⟨i, hi, rfl⟩ := List.mem_map.1 hy
      exact ⟨i, List.mem_range.1 hi, rfl⟩
    refine ⟨some a, len, cap, (List.range len).map F, rfl, ⟨hln.symm, hl, hsmall, fun h0 => ?_, fun y hy => ?_⟩, fun y hy => ?_⟩
    · obtain ⟨b, off, sp⟩ := a
      have hs : sp = none := by
        have h3 := (World.cells?_some (hF 0 h0).1).2.2 0 (by decide)
        have h4 : W.cell? (((⟨b, off, sp⟩ : Addr).add (0 * 4)).add 0) = some (.int .u32 (F 0).t) := h3
        have := World.cell?_spot h4
        simpa [Addr.add] using this
      subst hs
      have hcell : ∀ i, i < len → ∀ k, k < 4 → W.cell? ⟨b, off + i * 4 + k, none⟩ = (F i).cs[k]? := fun i hi k hk => by
        have h3 := (World.cells?_some (hF i hi).1).2.2 k hk
        rw [add_at, add_at] at h3
        exact h3
      refine ⟨b, off, rfl, fun i hi => ?_⟩
      have hi' : i < len := by simpa using hi
      have e : ((List.range len).map F)[i]'hi = F i := by simp
      rw [e]
      have c0 := hcell i hi' 0 (by decide)
      have c1 := hcell i hi' 1 (by decide)
      have c2 := hcell i hi' 2 (by decide)
      have c3 := hcell i hi' 3 (by decide)
      exact ⟨c0, c1, c2, c3⟩
    · obtain ⟨i, hi, rfl⟩ := hmem y hy
      exact (hF i hi).2.1
    · obtain ⟨i, hi, rfl⟩ := hmem y hy
      exact (hF i hi).2.2

theorem contract (H : Type) (enc : TypeId × Value → H) (W : World) (base : Nat) (args : Array Value) (ds gs : List (DataW H)) (before : List MemPlace)
    (hval : ∀ (j : Nat) t v, Try.f3.params[j]? = some t → args[j]? = some v → Value.okWide Try.prog W .any base t v)
    (hW : DataW.Whole enc Try.prog Try.f3.params.toList Rows.dictWalksSpec.vars false W args.toList ds gs before) (hk : Rows.uptoSmall H (ds ++ gs) = true) :
    Calls Try.prog 3 args W fun e W' => ∃ v, e = .returned v ∧ Rows.dictWalksSpec.post enc Try.prog Try.f3 false true false false W args v W' := by
  have hW' := hW
  obtain ⟨p, q, hA0, hV, rfl, hfz, hnd⟩ := hW
  have hA : DataW.TrodAll enc Try.prog W 0 (fun _ => true) true Try.f3.params.toList args.toList ds p := hA0
  rw [Try.params3] at hA hval
  obtain ⟨v0, vs0, d0, ds0, p0, q0, hargs, rfl, rfl, h0, r0⟩ := trodAll_cons hA
  obtain ⟨v1, vs1, d1, ds1, p1, q1, rfl, rfl, rfl, h1, r1⟩ := trodAll_cons r0
  obtain ⟨v2, vs2, d2, ds2, p2, q2, rfl, rfl, rfl, h2, r2⟩ := trodAll_cons r1
  obtain ⟨rfl, rfl, rfl⟩ := trodAll_nil r2
  obtain rfl : args = #[v0, v1, v2] := by cases args; simp_all
  obtain ⟨rfl, rfl⟩ := trodVars_none hV
  have k0 := h0
  have k1 := h1
  have k2 := h2
  have lt0 : ∀ x ∈ p0, x.block < W.heap.size := by obtain ⟨m, hm⟩ := k0; exact DataW.trod_lt m _ _ _ hm
  have lt1 : ∀ x ∈ p1, x.block < W.heap.size := by obtain ⟨m, hm⟩ := k1; exact DataW.trod_lt m _ _ _ hm
  have lt2 : ∀ x ∈ p2, x.block < W.heap.size := by obtain ⟨m, hm⟩ := k2; exact DataW.trod_lt m _ _ _ hm
  obtain ⟨i, rfl, rfl, rfl, _⟩ := open_int Try.underlying3 (hval 1 3 v1 rfl rfl) h1
  obtain ⟨t, rfl, rfl, rfl, _⟩ := open_int Try.underlying24 (hval 2 24 v2 rfl rfl) h2
  obtain ⟨ao, n0, c0, rfl, _⟩ := okWide_slice Try.underlying22 (hval 0 22 v0 rfl rfl)
  obtain ⟨fuel, hf⟩ := h0
  clear hA0
  simp only [List.append_nil] at hW' hk
  have hb : Rows.uptoBulkAll [d0, DataW.lit (H := H) (.int .i64 i), DataW.lit (H := H) (.int .u32 t)] ≤ 1048576 := of_decide_eq_true hk
  have hb2 : Rows.uptoBulk d0 ≤ 1048576 := by
    have := bulk_get [d0, DataW.lit (H := H) (.int .i64 i), DataW.lit (H := H) (.int .u32 t)] 0 d0 rfl
    omega
  obtain ⟨a, n, cap, L, hv, hN, hS⟩ := nodes_open hf hb2
  rw [hv]
  rw [hv] at hW' k0
  refine (walks_law W a n cap L i t hN hS).mono fun e W' ⟨he, bel⟩ => ?_
  subst he
  exact ⟨_, rfl, _, _, _, [], _, [], hW', trodAll_mk1 (shut_bool Try.underlying4 _), (trodAll_cons_mk (Below.trod laidOut (by kernel_rfl) (of_decide_eq_true (by kernel_rfl)) k0 bel lt0) (trodAll_cons_mk (Below.trod laidOut (by kernel_rfl) (of_decide_eq_true (by kernel_rfl)) k1 bel lt1) (trodAll_cons_mk (Below.trod laidOut (by kernel_rfl) (of_decide_eq_true (by kernel_rfl)) k2 bel lt2) trodAll_mk0))), rfl, bel.frame _, fun h => by cases h⟩

set_option maxRecDepth 100000 in
theorem lifted (os : Os) (started : os.Started) (H : Type) (enc : TypeId × Value → H) (F : Stop.Interp) :
    ReturnsInHanded {} Try.checked os 3 .any ((Rows.OpenSpec.upto Rows.dictWalksSpec).pre6 enc Try.prog Try.f3 Rows.dictWalksUptoRow.domain false) (((Rows.OpenSpec.upto Rows.dictWalksSpec).at F).post enc Try.prog Try.f3 false true false false) := by
  refine returnsInHanded_of_cond (C := Try.checked) (s := Rows.OpenSpec.upto Rows.dictWalksSpec) (k := Rows.uptoSmall) rfl own started (by kernel_rfl) Try.func3
    (OpenSpec.witness (enc := enc) (C := Try.checked) (s := Rows.OpenSpec.upto Rows.dictWalksSpec) (k := Rows.uptoSmall) rfl false ⟨#[], #[.slice none 0 0, .int .i64 0, .int .u32 0], []⟩ 8 (by kernel_rfl) (by kernel_rfl) (by kernel_rfl)
      (x := ([.nil, .lit (.int .i64 0), .lit (.int .u32 0)], [], [])) (by kernel_rfl) rfl (by kernel_rfl)) ?_
  intro W base args ds gs before hval hW _ hk _
  exact contract H enc W base args ds gs before hval hW hk
end Go.Proofs.Ytcnogjmhbkbklaa.walks

namespace Go.Proofs.Ytcnogjmhbkbklaa
theorem dictWalks_holds : Rows.DictWalksUptoSaid :=
  OpenClaim.holds_of_cond 3 Try.f3 rfl rfl rfl rfl rfl rfl rfl ⟨rfl, rfl, rfl, rfl, rfl⟩ rfl rfl rfl rfl rfl (by kernel_rfl) Try.func3 (by kernel_rfl)
    (of_decide_eq_true (by kernel_rfl)) (by unfold Func.isWrapper; first | (rw [if_pos (by decide +kernel)]; kernel_rfl) | (rw [if_neg (by decide +kernel)]; exact ⟨rfl, rfl⟩))
    (fun os started H enc _ F => walks.lifted os started H enc F)
#print axioms dictWalks_holds
end Go.Proofs.Ytcnogjmhbkbklaa
