import Derived.Test.YtnamkcfmbefkfaaDoorSc
import Derived.Test.YtnamkcfmbefkfaaDoorXu
import Derived.Test.YtnamkcfmbefkfaaDoorVf
import Derived.Test.YtnamkcfmbefkfaaDoorSa
set_option linter.unusedVariables false
namespace Go.Proofs.YtnamkcfmbefkfaaDoor
open Go Go.Proofs Go.RowKit
theorem SameC.symm {a b : Fin 18 → Value} (h : SameC a b) : SameC b a := fun i h4 h12 h13 h17 => (h i h4 h12 h13 h17).symm
end Go.Proofs.YtnamkcfmbefkfaaDoor

namespace Go.Proofs.YtnamkcfmbefkfaaDoor
open Go Go.Proofs Go.RowKit
theorem one_eq {a b : Value} (h : [a] = [b]) : a = b := by simpa using h
set_option maxRecDepth 100000 in
theorem rd_ty {H : Type} {enc : TypeId × Value → H} {W : World} {base : Nat} {spare : Nat → Bool} {held : Bool} {k : Int} {c : Fin 18 → Value} (h : Rd enc W base spare held 33 (Pd k c).toList) : TyC c := by
  have hA : Rd enc W base spare held 30 [c 0, c 1, c 2, c 3, c 4, c 5, c 6, c 7, c 8, c 9, c 10, c 11, c 12, c 13] := h.at Tryd.underlying33 1 1 14 rfl c37
  have hU : Rd enc W base spare held 28 [c 5, c 6, c 7, c 8, c 9, c 10, c 11, c 12, c 13] := hA.at Tryd.underlying30 5 5 9 rfl c35
  have f0 : Rd enc W base spare held 22 [c 0] := hA.at Tryd.underlying30 0 0 1 rfl c29
  have f1 : Rd enc W base spare held 9 [c 1] := hA.at Tryd.underlying30 1 1 1 rfl c9
  have f2 : Rd enc W base spare held 9 [c 2] := hA.at Tryd.underlying30 2 2 1 rfl c9
  have f3 : Rd enc W base spare held 9 [c 3] := hA.at Tryd.underlying30 3 3 1 rfl c9
  have f5 : Rd enc W base spare held 4 [c 5] := hU.at Tryd.underlying28 0 0 1 rfl c4
  have f6 : Rd enc W base spare held 24 [c 6] := hU.at Tryd.underlying28 1 1 1 rfl c31
  have f7 : Rd enc W base spare held 9 [c 7] := hU.at Tryd.underlying28 2 2 1 rfl c9
  have f8 : Rd enc W base spare held 9 [c 8] := hU.at Tryd.underlying28 3 3 1 rfl c9
  have f9 : Rd enc W base spare held 4 [c 9] := hU.at Tryd.underlying28 4 4 1 rfl c4
  have f10 : Rd enc W base spare held 22 [c 10] := hU.at Tryd.underlying28 5 5 1 rfl c29
  have f11 : Rd enc W base spare held 22 [c 11] := hU.at Tryd.underlying28 6 6 1 rfl c29
  have f14 : Rd enc W base spare held 5 [c 14] := h.at Tryd.underlying33 2 15 1 rfl c5
  have f15 : Rd enc W base spare held 5 [c 15] := h.at Tryd.underlying33 3 16 1 rfl c5
  have f16 : Rd enc W base spare held 5 [c 16] := h.at Tryd.underlying33 4 17 1 rfl c5
  obtain ⟨x0, e0⟩ := f0.int Tryd.underlying22
  obtain ⟨x1, e1⟩ := f1.str Tryd.underlying9
  obtain ⟨x2, e2⟩ := f2.str Tryd.underlying9
  obtain ⟨x3, e3⟩ := f3.str Tryd.underlying9
  obtain ⟨x5, e5⟩ := f5.bool Tryd.underlying4
  obtain ⟨x6, e6⟩ := f6.int Tryd.underlying24
  obtain ⟨x7, e7⟩ := f7.str Tryd.underlying9
  obtain ⟨x8, e8⟩ := f8.str Tryd.underlying9
  obtain ⟨x9, e9⟩ := f9.bool Tryd.underlying4
  obtain ⟨x10, e10⟩ := f10.int Tryd.underlying22
  obtain ⟨x11, e11⟩ := f11.int Tryd.underlying22
  obtain ⟨x14, e14⟩ := f14.int Tryd.underlying5
  obtain ⟨x15, e15⟩ := f15.int Tryd.underlying5
  obtain ⟨x16, e16⟩ := f16.int Tryd.underlying5
  exact ⟨⟨x0, one_eq e0⟩, ⟨x1, one_eq e1⟩, ⟨x2, one_eq e2⟩, ⟨x3, one_eq e3⟩, ⟨x5, one_eq e5⟩, ⟨x6, one_eq e6⟩, ⟨x7, one_eq e7⟩, ⟨x8, one_eq e8⟩, ⟨x9, one_eq e9⟩, ⟨x10, one_eq e10⟩, ⟨x11, one_eq e11⟩, ⟨x14, one_eq e14⟩, ⟨x15, one_eq e15⟩, ⟨x16, one_eq e16⟩⟩
theorem cut_eq {cs l : List Value} {o n : Nat} (hl : l.length = n) (hc : o + n ≤ cs.length) (h : ∀ j v, l[j]? = some v → cs[o + j]? = some v) : (cs.drop o).take n = l := by
  apply List.ext_getElem?
  intro j
  by_cases hj : j < n
  · rw [List.getElem?_take, if_pos hj, List.getElem?_drop]
    have : l[j]? = some (l[j]'(by omega)) := List.getElem?_eq_getElem _
    rw [this]; exact h j _ this
  · rw [List.getElem?_eq_none (by simp; omega), List.getElem?_eq_none (by omega)]
theorem pd_len (k : Int) (c : Fin 18 → Value) : (Pd k c).toList.length = 19 := rfl
end Go.Proofs.YtnamkcfmbefkfaaDoor

namespace Go.Proofs.YtnamkcfmbefkfaaDoor
open Go Go.Proofs Go.RowKit
end Go.Proofs.YtnamkcfmbefkfaaDoor

namespace Go.Proofs.YtnamkcfmbefkfaaDoor
open Go Go.Proofs Go.RowKit
theorem ty_zc : TyC zc := ⟨⟨_, rfl⟩, ⟨_, rfl⟩, ⟨_, rfl⟩, ⟨_, rfl⟩, ⟨_, rfl⟩, ⟨_, rfl⟩, ⟨_, rfl⟩, ⟨_, rfl⟩, ⟨_, rfl⟩, ⟨_, rfl⟩, ⟨_, rfl⟩, ⟨_, rfl⟩, ⟨_, rfl⟩, ⟨_, rfl⟩⟩

end Go.Proofs.YtnamkcfmbefkfaaDoor

namespace Go.Proofs.YtnamkcfmbefkfaaDoor
open Go Go.Proofs Go.RowKit
theorem RF.and {F G : Nat → Prop} {W : World} {rv : Value} {m : Nat} (h : RF F W rv m) (h2 : RF G W rv m) : RF (fun b => F b ∧ G b) W rv m := fun g n cap e => ⟨⟨(h g n cap e).1, (h2 g n cap e).1⟩, fun j v b hj hv hb => ⟨(h g n cap e).2 j v b hj hv hb, (h2 g n cap e).2 j v b hj hv hb⟩⟩
theorem PF.and {F G : Nat → Prop} {W : World} {c : Fin 18 → Value} {D : PdD} (h : PF F W c D) (h2 : PF G W c D) : PF (fun b => F b ∧ G b) W c D := ⟨h.ctx.and h2.ctx, h.role.and h2.role, h.oth.and h2.oth, h.val.and h2.val⟩
theorem PF.zero (F : Nat → Prop) (W : World) (D : PdD) : PF F W zc D := ⟨RF.nil _ _ _ _ _, RF.nil _ _ _ _ _, RF.nil _ _ _ _ _, RF.nil _ _ _ _ _⟩
theorem OE.blockF {G : Nat → Prop} {base m : Nat} {W : World} {rv : Value} {ps : List El} {st : Nat} {e : TypeId} {Sh : El → Prop} (h : OE base W rv ps st e Sh) (hR : RF G W rv m) : ∀ b, rv.ownBlock = some b → G b ∧ b < W.heap.size := fun b hb => by
  refine ⟨?_, (h.lt b hb).2⟩
  obtain ⟨xs, ho, -⟩ := h
  rcases ho.2 with ⟨rfl, _⟩ | ⟨g, cap, cur, rfl, _⟩
  · cases hb
  · obtain rfl : g = b := by simpa [Value.ownBlock] using hb
    exact (hR g _ _ rfl).1
theorem OE.keepF {G : Nat → Prop} {base : Nat} {W W' : World} {rv : Value} {ps : List El} {st : Nat} {e : TypeId} {Sh : El → Prop} (h : OE base W rv ps st e Sh) (hlen : ∀ p, Sh p → ∀ vs, InnR W p.inn vs → (p.fl ++ vs).length = st) (hR : RF G W rv (ps.length * st)) (hk : ∀ b, b < W.heap.size → G b → W'.heap[b]? = W.heap[b]?) : OE base W' rv ps st e Sh := by
  have hbl := h.blockF hR
  obtain ⟨xs, ho, hg, hs⟩ := h
  refine ⟨xs, owns_same ho (fun b e2 => hk b (hbl b e2).2 (hbl b e2).1), fun i hi => ?_, hs⟩
  obtain ⟨vs, h1, h2⟩ := hg i hi
  refine ⟨vs, h1, ?_⟩
  have hl := hlen _ (hs _ (List.getElem_mem hi)) vs h2.rd
  have hq : ∀ u, vs = [u] → ∀ b, u.ownBlock = some b → G b := fun u hu b hb => by
    subst hu
    have h3 := h1 (ps[i].fl.length) u (by rw [List.getElem?_append_right (Nat.le_refl _)]; simp)
    have hlt : i * st + ps[i].fl.length < ps.length * st := by
      have := Nat.mul_le_mul_right st (show i + 1 ≤ ps.length by omega)
      rw [Nat.add_mul, Nat.one_mul] at this
      simp at hl
      omega
    rcases ho.2 with ⟨_, h0⟩ | ⟨g, cap, cur, hrv, _⟩
    · omega
    · refine (hR g _ _ hrv).2 _ u b hlt ?_ hb
      rw [hrv] at ho
      rw [ho.cellAt _ hlt]; exact h3
  generalize ps[i].inn = ii at h2 ⊢
  cases ii with
  | no => exact h2
  | tx T => obtain ⟨v, a1, a2, a3, a4⟩ := h2; exact ⟨v, a1, owns_same a2 (fun b e => hk b (a2.lt b e).2 (hq v a1 b e)), a3, a4⟩
  | «by» bs => obtain ⟨v, a1, a2, a3, a4⟩ := h2; exact ⟨v, a1, ⟨owns_same a2.1 (fun b e => hk b (a2.1.lt b e).2 (hq v a1 b e)), a2.2⟩, a3, a4⟩
theorem OXF.keepF {F : Nat → Prop} {base : Nat} {W W' : World} {c : Fin 18 → Value} {D : PdD} (h : OXF F base W c D) (hk : ∀ b, b < W.heap.size → F b → W'.heap[b]? = W.heap[b]?) : OXF F base W' c D := by
  have k4 := h.ctx.1.blockF h.ft.ctx
  have k12 := h.role.1.blockF h.ft.role
  have k13 := h.oth.1.blockF h.ft.oth
  have k17 := h.val.1.blockF h.ft.val
  refine ⟨⟨h.one, ⟨h.ctx.1.keepF (lenC W) h.ft.ctx hk, h.ctx.2⟩, ⟨h.role.1.keepF (lenR W) h.ft.role hk, h.role.2⟩, ⟨h.oth.1.keepF (lenO W) h.ft.oth hk, h.oth.2⟩, ⟨h.val.1.keepF (lenV W) h.ft.val hk, h.val.2⟩, ?_⟩,
    h.ft.ctx.keep fun b e => hk b (k4 b e).2 (k4 b e).1, h.ft.role.keep fun b e => hk b (k12 b e).2 (k12 b e).1, h.ft.oth.keep fun b e => hk b (k13 b e).2 (k13 b e).1, h.ft.val.keep fun b e => hk b (k17 b e).2 (k17 b e).1⟩
  obtain ⟨m0, m, M, ⟨xs, a1, a2, a3⟩, ⟨ys, b1, b2, b3⟩⟩ := h.dj
  exact ⟨m0, m, M, ⟨xs, owns_same a1 (fun b e => hk b (k13 b e).2 (k13 b e).1), a2, a3⟩, ⟨ys, owns_same b1 (fun b e => hk b (k17 b e).2 (k17 b e).1), b2, b3⟩⟩
theorem OXF.lt {F : Nat → Prop} {base : Nat} {W : World} {c : Fin 18 → Value} {D : PdD} (h : OXF F base W c D) : OXF (fun b => F b ∧ base ≤ b ∧ b < W.heap.size) base W c D := ⟨h.toOX, h.ft.and (PF.of h.toOX (fun b h1 h2 _ => ⟨h1, h2⟩))⟩
theorem OXF.low {F : Nat → Prop} {base base' : Nat} {W : World} {c : Fin 18 → Value} {D : PdD} (h : OXF F base W c D) (hb : base' ≤ base) : OXF F base' W c D := ⟨h.toOX.low hb, h.ft⟩
theorem OXF.mono {F G : Nat → Prop} {base : Nat} {W : World} {c : Fin 18 → Value} {D : PdD} (h : OXF F base W c D) (hg : ∀ b, F b → G b) : OXF G base W c D := ⟨h.toOX, h.ft.mono hg⟩
def Gd (c : Fin 18 → Value) (D : PdD) : Prop := TyC c ∧ Sml D
theorem sml0 : Sml D0 := ⟨⟨Nat.zero_le _, fun p h => absurd h List.not_mem_nil⟩, ⟨Nat.zero_le _, fun p h => absurd h List.not_mem_nil⟩, ⟨Nat.zero_le _, fun p h => absurd h List.not_mem_nil⟩, ⟨Nat.zero_le _, fun p h => absurd h List.not_mem_nil⟩⟩
theorem gd0 : Gd zc D0 := ⟨ty_zc, sml0⟩
end Go.Proofs.YtnamkcfmbefkfaaDoor

namespace Go.Proofs.YtnamkcfmbefkfaaDoor
open Go Go.Proofs Go.RowKit
structure BYF (F : Nat → Prop) (base : Nat) (W : World) (c : Fin 18 → Value) (D : PdD) (us : Nat → Value) (cs : Nat → List Nat) : Prop extends BY base W c D us cs where
  g17 : ∀ g, (c 17).ownBlock = some g → F g
  g13 : ∀ g, (c 13).ownBlock = some g → F g
  gu : ∀ i, i < D.vl.length + D.ot.length → ∀ g, (us i).ownBlock = some g → F g
theorem byf_of {F : Nat → Prop} {base : Nat} {W : World} {c : Fin 18 → Value} {D : PdD} (h : OXF F base W c D) (hs : Sml D) : ∃ us cs, BYF F base W c D us cs := by
  obtain ⟨us, cs, hb⟩ := by_of h.toOX hs
  refine ⟨us, cs, hb, fun g e => (h.val.1.blockF h.ft.val g e).1, fun g e => (h.oth.1.blockF h.ft.oth g e).1, fun i hi b e2 => ?_⟩
  by_cases hv : i < D.vl.length
  · obtain ⟨g, cap, e, e3⟩ := hb.v i hv
    exact (h.ft.val g _ cap e).2 (i * 4 + 3) _ b (by omega) e3 e2
  · obtain ⟨g, cap, e, e3⟩ := hb.o (i - D.vl.length) (by omega)
    rw [show D.vl.length + (i - D.vl.length) = i by omega] at e3
    exact (h.ft.oth g _ cap e).2 ((i - D.vl.length) * 2 + 1) _ b (by omega) e3 e2
theorem BYF.keepF {F : Nat → Prop} {base : Nat} {W W' : World} {c : Fin 18 → Value} {D : PdD} {us : Nat → Value} {cs : Nat → List Nat} (h : BYF F base W c D us cs) (hk : ∀ b, b < W.heap.size → F b → W'.heap[b]? = W.heap[b]?) : BYF F base W' c D us cs := by
  refine ⟨⟨fun i hi => ?_, fun i hi => ?_, fun i hi => ⟨owns_same (h.own i hi).1 (fun b e => hk b ((h.own i hi).1.lt b e).2 (h.gu i hi b e)), (h.own i hi).2⟩, h.sm, h.ap⟩, h.g17, h.g13, h.gu⟩
  · obtain ⟨g, cap, e, h1⟩ := h.v i hi
    exact ⟨g, cap, e, (World.cell?_of_block (hk g (cell_lt h1) (h.g17 g (by rw [e]; rfl)))).trans h1⟩
  · obtain ⟨g, cap, e, h1⟩ := h.o i hi
    exact ⟨g, cap, e, (World.cell?_of_block (hk g (cell_lt h1) (h.g13 g (by rw [e]; rfl)))).trans h1⟩
def bls (N : Nat → Nat) (f : Nat → Nat → Value × List Nat) : Nat → List (Value × List Nat)
  | 0 => []
  | i + 1 => bls N f i ++ (List.range (N i)).map (f i)
theorem bls_mem {N : Nat → Nat} {f : Nat → Nat → Value × List Nat} {x : Value × List Nat} : ∀ {n : Nat}, x ∈ bls N f n → ∃ j q, j < n ∧ q < N j ∧ x = f j q
  | 0, h => absurd h List.not_mem_nil
  | n + 1, h => by
    rcases List.mem_append.1 h with h | h
    · obtain ⟨j, q, h1, h2⟩ := bls_mem h
      exact ⟨j, q, by omega, h2⟩
    · obtain ⟨q, h1, rfl⟩ := List.mem_map.1 h
      exact ⟨n, q, by omega, List.mem_range.1 h1, rfl⟩
theorem bls_len {N : Nat → Nat} {f : Nat → Nat → Value × List Nat} {M : Nat} (h : ∀ j, N j ≤ M) : ∀ n, (bls N f n).length ≤ n * M
  | 0 => by simp [bls]
  | n + 1 => by
    have h1 := bls_len (f := f) h n
    have h2 := h n
    show (bls N f n ++ (List.range (N n)).map (f n)).length ≤ _
    rw [List.length_append, List.length_map, List.length_range, Nat.add_mul]
    omega
def Apt (x y : Value × List Nat) : Prop := ∀ g, x.1.ownBlock = some g → y.1.ownBlock ≠ some g
theorem bls_apt {N : Nat → Nat} {f : Nat → Nat → Value × List Nat} : ∀ n, (∀ j, j < n → ∀ q r, q < N j → r < N j → q ≠ r → Apt (f j q) (f j r)) → (∀ i j, i < n → j < n → i ≠ j → ∀ q r, q < N i → r < N j → Apt (f i q) (f j r)) → (bls N f n).Pairwise Apt
  | 0, _, _ => List.Pairwise.nil
  | n + 1, h1, h2 => by
    refine List.pairwise_append.2 ⟨bls_apt n (fun j hj => h1 j (by omega)) (fun i j hi hj => h2 i j (by omega) (by omega)), ?_, fun x hx y hy => ?_⟩
    · rw [List.pairwise_map]
      refine List.Pairwise.imp_of_mem (fun {q r} hq hr hqr => h1 n (by omega) q r (List.mem_range.1 hq) (List.mem_range.1 hr) (by omega)) (List.pairwise_lt_range (n := N n))
    · obtain ⟨j, q, hj, hq, rfl⟩ := bls_mem hx
      obtain ⟨r, hr, rfl⟩ := List.mem_map.1 hy
      exact h2 j n (by omega) (by omega) (by omega) q r hq (List.mem_range.1 hr)
theorem free_bl (W : World) (B : Nat) (bl : List (Value × List Nat)) (l : Value) (ho : W.ownsRow B 55 1 l bl.length (bl.map (·.1))) (h0 : bl.length = 0 → l = .slice none 0 0) (hO : ∀ x ∈ bl, Own W 0 x.1 x.2 ∧ x.2.length ≤ 1048576) (hp : bl.Pairwise Apt) (hn : bl.length ≤ 4398046511104) :
    Calls Tryd.prog 22 #[l] W fun e w' => e = .returned (.bool true) ∧ KF (fun b => ∃ x ∈ bl, x.1.ownBlock = some b) W w' := by
  by_cases hz : bl.length = 0
  · rw [h0 hz]
    refine (Fr.free_nil W).mono ?_
    rintro e w' ⟨rfl, hb⟩
    exact ⟨rfl, .of hb⟩
  · obtain ⟨G, cap, rfl, hG, hGl⟩ := ho.form (by omega)
    have hget : ∀ i (h : i < bl.length), bl.getD i (.bool false, []) = bl[i] := fun i h => by rw [List.getD_eq_getElem?_getD, List.getElem?_eq_getElem h]; rfl
    have hm : ∀ i, i < bl.length → bl.getD i (.bool false, []) ∈ bl := fun i h => by rw [hget i h]; exact List.getElem_mem h
    have hap : ∀ i j, i < bl.length → j < bl.length → i ≠ j → ∀ g, (bl.getD i (.bool false, [])).1.ownBlock = some g → (bl.getD j (.bool false, [])).1.ownBlock ≠ some g := fun i j hi hj hij g => by
      rw [hget i hi, hget j hj]
      rcases Nat.lt_or_ge i j with h | h
      · exact List.pairwise_iff_getElem.1 hp i j hi hj h g
      · exact fun e e' => List.pairwise_iff_getElem.1 hp j i hj hi (by omega) g e' e
    refine (Fr.free_any W bl.length G 0 cap (fun i => (bl.getD i (.bool false, [])).1) (fun i => (bl.getD i (.bool false, [])).2.length) (fun i => (bl.getD i (.bool false, [])).2) ⟨hn, fun i hi => ?_, fun i hi => ?_, hap, fun i hi e => ?_⟩ ⟨fun i hi => ?_, fun i hi => ?_, Fr.KR.refl _ _ _⟩ (fun _ _ => rfl) (Nat.zero_le _)).mono ?_
    · have hO := (hO _ (hm i hi)).1.1
      rcases hO.2 with ⟨e, e0⟩ | ⟨g, cap, cur, e, _⟩
      · exact ⟨none, 0, by rw [e, e0], fun h => by omega⟩
      · exact ⟨_, cap, e, fun _ => ⟨g, rfl⟩⟩
    · exact Nat.le_trans (hO _ (hm i hi)).2 (by decide)
    · obtain ⟨_, _, cur, fr, t3⟩ := own_ty (hO _ (hm i hi)).1.1 e
      obtain ⟨_, _, cur', fr', t4⟩ := own_ty ho (show (Value.slice (some ⟨G, 0, none⟩) bl.length cap).ownBlock = some G from rfl)
      rw [t3] at t4
      simp at t4
    · rw [ho.cellAt i (by omega), List.getElem?_map, List.getElem?_eq_getElem hi]
      show some (bl[i].1) = some (bl.getD i (.bool false, [])).1
      rw [hget i hi]
    · exact (hO _ (hm i hi)).1.1
    · rintro e w' ⟨rfl, hk⟩
      refine ⟨rfl, hk.os, hk.tape, hk.output, hk.size, fun k h1 h2 => hk.block k h1 fun i hi e => h2 ⟨_, hm i hi, e⟩⟩
end Go.Proofs.YtnamkcfmbefkfaaDoor
