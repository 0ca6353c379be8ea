import Derived.Test.YtiieikdbhpflgabDoorVg
/-
  DERIVED. Both machines side by side; what each tells, in blocks of its own.
-/
namespace Go.Proofs.YtiieikdbhpflgabDoor
open Go Go.Proofs Go.RowKit

set_option maxRecDepth 100000 in
theorem rnew_x (w : World) (a : Int) (h1 : 1 ≤ a) (h2 : a ≤ 1000) : Calls Tryd.prog 5 #[.int .i64 a] w fun e w' => e = .returned (.tuple #[.pointer (some ⟨w.heap.size + 1, 0, none⟩), .agg #[.slice none 0 0, .int .i64 0]]) ∧ Below w.heap.size w w' ∧ RvE w' (w.heap.size + 1) (S0 a) := by
  go_enter Tryd.func5, Tryd.ntmps5
  go_wp2_with (go_at_call 17; refine (none0_any _).mono ?_; rintro x W ⟨rfl, hb⟩; have z0 : W.cell? ⟨w.heap.size, 0, none⟩ = some (.slice none 0 0) := (hb.cell (p := ⟨w.heap.size, 0, none⟩) (by simp; omega)).trans (by simp); have z1 : W.cell? ⟨w.heap.size, 1, none⟩ = some (.int .i64 0) := (hb.cell (p := ⟨w.heap.size, 1, none⟩) (by simp; omega)).trans (by simp); have zf : ∀ i, W.frozen? ⟨w.heap.size, i, none⟩ = false := fun i => (hb.frozen (p := ⟨w.heap.size, i, none⟩) (by simp; omega)).trans (by simp))
  all_goals first | (exfalso; omega) | skip
  refine bodyPost_ret (v := .tuple #[.pointer (some ⟨w.heap.size + 1, 0, none⟩), .agg #[.slice none 0 0, .int .i64 0]]) (by simp [results, Tryd.results5, go_sem, z0, z1]) rfl ⟨rfl, ?_, ?_⟩
  · exact (((((Below.refl _ _).alloc (Nat.le_refl _) _).alloc (by simp) _).trans (hb.mono (by simp; omega))).setCell (p := ⟨w.heap.size, 0, none⟩) (Nat.le_refl _) _).setCell (p := ⟨w.heap.size, 1, none⟩) (Nat.le_refl _) _
  · refine ⟨#[.int .i64 a, .int .i64 1, .bool false, .bool false, .int .i64 0, .int .i64 0, .int .u16 0, .string ⟨#[]⟩, .string ⟨#[]⟩, .string ⟨#[]⟩, .slice none 0 0, .bool false, .int .u32 0, .string ⟨#[]⟩, .string ⟨#[]⟩, .bool false, .int .u16 0, .int .u16 0, .slice none 0 0, .slice none 0 0, .int .u8 0, .int .u8 0, .int .u8 0, .slice none 0 0], zc, ?_, rfl, by kernel_rfl, ?_, oxf_zero _ _ _ _ zc_one rfl rfl rfl rfl, SameC.refl _, rfl, rfl, rfl, rfl, rfl⟩
    · refine (Below.heap_setCell _ _ _ _ (show w.heap.size + 1 ≠ w.heap.size by omega)).trans ((Below.heap_setCell _ _ _ _ (show w.heap.size + 1 ≠ w.heap.size by omega)).trans ((hb.block _ (by simp)).trans ?_))
      have hal : ∀ (o1 o2 : Obj), ((w.alloc o1).alloc o2).heap[w.heap.size + 1]? = some o2 := fun o1 o2 => by
        have := alloc_new (w.alloc o1) o2
        simpa using this
      exact hal _ _
    · intro j v hv
      have hj : j < 19 := (List.getElem?_eq_some_iff.1 hv).1
      have : ∀ j : Fin 19, (#[.int .i64 a, .int .i64 1, .bool false, .bool false, .int .i64 0, .int .i64 0, .int .u16 0, .string ⟨#[]⟩, .string ⟨#[]⟩, .string ⟨#[]⟩, .slice none 0 0, .bool false, .int .u32 0, .string ⟨#[]⟩, .string ⟨#[]⟩, .bool false, .int .u16 0, .int .u16 0, .slice none 0 0, .slice none 0 0, .int .u8 0, .int .u8 0, .int .u8 0, .slice none 0 0] : Array Value)[5 + j.val]? = (Pd 0 zc).toList[j.val]? := fun j => by
        match j with
        | ⟨0, _⟩ => rfl
        | ⟨1, _⟩ => rfl
        | ⟨2, _⟩ => rfl
        | ⟨3, _⟩ => rfl
        | ⟨4, _⟩ => rfl
        | ⟨5, _⟩ => rfl
        | ⟨6, _⟩ => rfl
        | ⟨7, _⟩ => rfl
        | ⟨8, _⟩ => rfl
        | ⟨9, _⟩ => rfl
        | ⟨10, _⟩ => rfl
        | ⟨11, _⟩ => rfl
        | ⟨12, _⟩ => rfl
        | ⟨13, _⟩ => rfl
        | ⟨14, _⟩ => rfl
        | ⟨15, _⟩ => rfl
        | ⟨16, _⟩ => rfl
        | ⟨17, _⟩ => rfl
        | ⟨18, _⟩ => rfl
        | ⟨k + 19, h⟩ => exact absurd h (by omega)
      exact (this ⟨j, hj⟩).trans hv
/-- Both machines. -/
structure Mach (a : Int) (p q : Nat) (W : World) (S S' : Prov) : Prop where
  pv : PvE W p S
  rv : RvE W q S'
  inv : InvS a S
  sim : PSim S S'
  asked : S.sta = 1 → S.asked = false
  gk : Gd S.K.c S.K.D
  lo : ∀ b, S.K.F b → q < b ∧ b < W.heap.size
  lo' : ∀ b, S'.K.F b → q < b ∧ b < W.heap.size
  pq : p < q
theorem Mach.keep {a : Int} {p q : Nat} {W W' : World} {S S' : Prov} (h : Mach a p q W S S') (hs : W.heap.size ≤ W'.heap.size) (hp : W'.heap[p]? = W.heap[p]?) (hq : W'.heap[q]? = W.heap[q]?) (hk : ∀ b, b < W.heap.size → S.K.F b ∨ S'.K.F b → W'.heap[b]? = W.heap[b]?) : Mach a p q W' S S' :=
  ⟨h.pv.keepF hp fun b h1 h2 => hk b h1 (.inl h2), h.rv.keepF hq fun b h1 h2 => hk b h1 (.inr h2), h.inv, h.sim, h.asked, h.gk, fun b hb => ⟨(h.lo b hb).1, Nat.lt_of_lt_of_le (h.lo b hb).2 hs⟩, fun b hb => ⟨(h.lo' b hb).1, Nat.lt_of_lt_of_le (h.lo' b hb).2 hs⟩, h.pq⟩
theorem Mach.on {a : Int} {p q : Nat} {W W' : World} {S S' : Prov} (h : Mach a p q W S S') (hb : Below W.heap.size W W') : Mach a p q W' S S' :=
  h.keep hb.size (hb.block p h.pv.lt) (hb.block q h.rv.lt) (fun b h1 _ => hb.block b h1)
theorem mach0 {a : Int} {p q : Nat} {W : World} (h1 : PvE W p (S0 a)) (h2 : RvE W q (S0 a)) (hpq : p < q) : Mach a p q W (S0 a) (S0 a) :=
  ⟨h1, h2, ⟨rfl, by show (1 : Int) ≤ 1; decide, by show (1 : Int) ≤ 13; decide, fun h => absurd (show Td 1 from h) (by decide), fun _ => rfl⟩, ⟨rfl, rfl, rfl, rfl, fun _ => .refl _⟩, fun _ => rfl, gd0, fun _ h => absurd h id, fun _ h => absurd h id, hpq⟩
/-- Both have done the same event. -/
theorem Mach.both {a : Int} {p q : Nat} {W3 W4 W5 : World} {S S' : Prov} {d d' : EvD} (ha : 1 ≤ a) (h : Mach a p q W3 S S') (hd : EvSim d d') (hF' : d'.p.F = fun b => W3.heap.size ≤ b) (hF : d.p.F = fun b => W4.heap.size ≤ b) (hgp : Gd d'.p.c d'.p.D) (hga : Gd d'.a.c d'.a.D) (hP : PvE W4 p (doS S d').1) (hb4 : BelBut p W3 W4) (hR : RvE W5 q (rdoS S' d).1) (hb5 : BelBut q W4 W5) :
    ∃ F1 F2, Mach a p q W5 ((doS S d').1.withF F1) ((rdoS S' d).1.withF F2) ∧ (∀ b, F1 b → (b < W3.heap.size ∧ S.K.F b) ∨ ((doS S d').2 = [⟨1, 0, 0, zc, D0⟩] ∧ W3.heap.size ≤ b ∧ b < W4.heap.size)) ∧ (∀ b, F2 b → (b < W3.heap.size ∧ S'.K.F b) ∨ W4.heap.size ≤ b) := by
  have hp3 := h.pv.lt
  have hq3 := h.rv.lt
  have s4 := hb4.size
  have s5 := hb5.size
  have hL : ∀ b, (doS S d').1.K.F b → (b < W3.heap.size ∧ S.K.F b) ∨ ((doS S d').2 = [⟨1, 0, 0, zc, D0⟩] ∧ W3.heap.size ≤ b) := fun b hb => by
    rcases do_kept d' h.inv with e | e | ⟨e, e2⟩
    · rw [e] at hb; exact .inl ⟨(h.lo b hb).2, hb⟩
    · rw [e] at hb; exact absurd hb id
    · rw [e, hF'] at hb; exact .inr ⟨e2, hb⟩
  have hL' : ∀ b, (rdoS S' d).1.K.F b → (b < W3.heap.size ∧ S'.K.F b) ∨ W4.heap.size ≤ b := fun b hb => by
    rcases rdo_kept d h.inv h.sim with e | e | e
    · rw [e] at hb; exact .inl ⟨(h.lo' b hb).2, hb⟩
    · rw [e] at hb; exact absurd hb id
    · rw [e, hF] at hb; exact .inr hb
  have hq1 : ∀ b, (doS S d').1.K.F b → q < b := fun b hb => by
    rcases hL b hb with h1 | h1
    · exact (h.lo b h1.2).1
    · omega
  obtain ⟨j1, j2, j3⟩ := do_sim ha h.inv h.asked h.sim hd
  have hi := inv_do d' ha h.inv
  refine ⟨_, _, ⟨hP.lim.keepF (hb5.block p (by omega) (by have := h.pq; omega)) (fun b h1 h2 => hb5.block b h1 (by have := hq1 b h2.1; omega)), hR.lim, ⟨hi.art, hi.lo, hi.hi, hi.on, hi.off⟩, ⟨j2.art, j2.left, j2.sta, j2.asked, fun e => ⟨(j2.K e).k, (j2.K e).D, (j2.K e).c⟩⟩, j3, (do_gd h.gk hgp hga).2, fun b hb => ?_, fun b hb => ?_, h.pq⟩, fun b hb => ?_, fun b hb => hL' b hb.1⟩
  · exact ⟨hq1 b hb.1, by have := hb.2.2; omega⟩
  · exact ⟨by have := hb.2.1; omega, hb.2.2⟩
  · rcases hL b hb.1 with h1 | h1
    · exact .inl h1
    · exact .inr ⟨h1.1, h1.2, hb.2.2⟩
/-- Acts, each with a PDU in blocks of its own. -/
structure Tl (W : World) (lo : Nat) (v : Value) (L : List AcD) (g : Nat) (t : Nat → KpD) : Prop where
  v : ∃ ao cap, v = .slice ao L.length cap ∧ (0 < L.length → ao = some ⟨g, 0, none⟩)
  gl : 0 < L.length → lo ≤ g ∧ g < W.heap.size
  at' : ∀ i, i < L.length → ∀ j u, (Pd (t i).k (t i).c).toList[j]? = some u → W.cell? ⟨g, i * 21 + 2 + j, none⟩ = some u
  s : ∀ i (h : i < L.length), (t i).k = L[i].k ∧ (t i).D = L[i].D ∧ SameC L[i].c (t i).c
  ox : ∀ i, i < L.length → OXF (t i).F 0 W (t i).c (t i).D
  lo : ∀ i, i < L.length → ∀ b, (t i).F b → lo ≤ b ∧ b < W.heap.size ∧ b ≠ g
theorem lty_61 : ¬ LTy 61 := by simp [LTy]
theorem ox_pf {B g : Nat} {W : World} {c : Fin 18 → Value} {D : PdD} {Q : Array Value} {fr : Nat × Nat} (h : OX B W c D) (hg : W.heap[g]? = some (.cells Q 61 fr)) : PF (fun b => B ≤ b ∧ b < W.heap.size ∧ b ≠ g) W c D :=
  PF.of h fun b h1 h2 ⟨cur, e', fr', h3, h4⟩ => ⟨h1, h2, fun e => by
    subst e
    rw [hg] at h3
    simp at h3
    rw [← h3.2.1] at h4
    exact lty_61 h4⟩
theorem ar_told {B : Nat} {W : World} {v : Value} : ∀ {L : List AcD}, AR B W v L → Zs L → ∃ g t, Tl W B v L g t ∧ (∀ i j, i < L.length → j < L.length → i ≠ j → ∀ b, (t i).F b → ¬ (t j).F b) ∧ (L = [⟨1, 0, 0, zc, D0⟩] → ∀ b, ¬ (t 0).F b)
  | [], h, _ => ⟨0, fun _ => noPdu, ⟨⟨none, 0, h, fun h => absurd h (by simp)⟩, fun h => absurd h (by simp), fun i h => absurd h (by simp), fun i h => absurd h (by simp), fun i h => absurd h (by simp), fun i h => absurd h (by simp)⟩, fun i j h => absurd h (by simp), fun h => absurd h (by simp)⟩
  | [a], ⟨g, c', h1, h2, h3, h4, h5, h6⟩, _ => by
    have hgl : g < W.heap.size := (Array.getElem?_eq_some_iff.1 h3).1
    have h1' : ∀ i, i < [a].length → i = 0 := fun i hi => by simpa using hi
    refine ⟨g, fun _ => ⟨a.k, c', a.D, fun b => a.x ≠ 1 ∧ B ≤ b ∧ b < W.heap.size ∧ b ≠ g⟩, ⟨⟨_, 1, h1, fun _ => rfl⟩, fun _ => ⟨h2, hgl⟩, fun i hi j u hu => ?_, fun i hi => ?_, fun i _ => ⟨h4.low (Nat.zero_le _), ?_⟩, fun i _ b hb => hb.2⟩, fun i j hi hj hij => absurd ((h1' i hi).trans (h1' j hj).symm) hij, fun e b hb => hb.1 ?_⟩
    · obtain rfl := h1' i hi
      have := ac_pd a.x a.y a.k c' j u hu
      rw [cell_of_row _ _ _ _ _ _ h3]
      simpa using this
    · obtain rfl := h1' i hi
      exact ⟨rfl, rfl, h5⟩
    · by_cases hx : a.x = 1
      · show PF _ W c' a.D
        rw [h6 hx]; exact PF.zero _ _ _
      · exact (ox_pf h4 h3).mono fun b hb => ⟨hx, hb⟩
    · obtain rfl : a = ⟨1, 0, 0, zc, D0⟩ := by simpa using e
      rfl
  | [a, b], ⟨g, c', h1, h2, h3, h4, h5⟩, hz => by
    have hgl : g < W.heap.size := (Array.getElem?_eq_some_iff.1 h3).1
    obtain ⟨z1, z2, z3⟩ := hz b (by simp)
    have hl := ac_len a.x a.y a.k c'
    have h2' : ∀ i, i < [a, b].length → i = 0 ∨ i = 1 := fun i hi => by have : i < 2 := hi; omega
    refine ⟨g, fun i => if i = 0 then ⟨a.k, c', a.D, fun b => B ≤ b ∧ b < W.heap.size ∧ b ≠ g⟩ else ⟨0, zc, D0, fun _ => False⟩, ⟨⟨_, 2, h1, fun _ => rfl⟩, fun _ => ⟨h2, hgl⟩, fun i hi j u hu => ?_, fun i hi => ?_, fun i hi => ?_, fun i hi b hb => ?_⟩, fun i j hi hj hij b h7 h8 => ?_, fun e => absurd e (by simp)⟩
    · rcases h2' i hi with rfl | rfl
      · have h7 := ac_pd a.x a.y a.k c' j u hu
        have h8 : (Ac a.x a.y a.k c')[2 + j]? = some u := by simpa using h7
        rw [cell_of_row _ _ _ _ _ _ h3, Nat.zero_mul, Nat.zero_add, Array.getElem?_append_left (Array.getElem?_eq_some_iff.1 h8).1]
        exact h8
      · have h7 := ac_pd b.x b.y 0 zc j u hu
        have h8 : (Ac b.x b.y 0 zc)[2 + j]? = some u := by simpa using h7
        rw [cell_of_row _ _ _ _ _ _ h3, Array.getElem?_append_right (by omega), hl, show 1 * 21 + 2 + j - 21 = 2 + j by omega]
        exact h8
    · rcases h2' i hi with rfl | rfl
      · exact ⟨rfl, rfl, h5⟩
      · exact ⟨z1.symm, z3.symm, by show SameC b.c zc; rw [z2]; exact .refl _⟩
    · rcases h2' i hi with rfl | rfl
      · exact ⟨h4.low (Nat.zero_le _), ox_pf h4 h3⟩
      · exact oxf_zero _ _ _ _ zc_one rfl rfl rfl rfl
    · rcases h2' i hi with rfl | rfl
      · exact hb
      · exact absurd hb id
    · rcases h2' i hi with rfl | rfl
      · rcases h2' j hj with rfl | rfl
        · exact hij rfl
        · exact h8
      · exact h7
  | _ :: _ :: _ :: _, h, _ => h.elim
theorem ax_told {B : Nat} {W : World} {v : Value} {L : List AcD} (h : AX B W v L) : ∃ g t, Tl W B v L g t := by
  rcases h with ⟨rfl, rfl⟩ | ⟨h0, g, cap, Q, h1, h2, h3, h4, h5⟩
  · exact ⟨0, fun _ => noPdu, ⟨⟨none, 0, rfl, fun h => absurd h (by simp)⟩, fun h => absurd h (by simp), fun i h => absurd h (by simp), fun i h => absurd h (by simp), fun i h => absurd h (by simp), fun i h => absurd h (by simp)⟩⟩
  · have hh : ∀ i, ∃ c' : Fin 18 → Value, ∀ (h : i < L.length), (∀ j u, (Ac L[i].x L[i].y L[i].k c').toList[j]? = some u → Q[i * 21 + j]? = some u) ∧ OX B W c' L[i].D ∧ SameC L[i].c c' := fun i => by
      by_cases hi : i < L.length
      · obtain ⟨c', k⟩ := h5 i hi
        exact ⟨c', fun _ => k⟩
      · exact ⟨zc, fun h => absurd h hi⟩
    obtain ⟨f, hf⟩ := Classical.axiomOfChoice hh
    have hget : ∀ i (h : i < L.length), L.getD i shA = L[i] := fun i h => by rw [List.getD_eq_getElem?_getD, List.getElem?_eq_getElem h]; rfl
    refine ⟨g, fun i => ⟨(L.getD i shA).k, f i, (L.getD i shA).D, fun b => B ≤ b ∧ b < W.heap.size ∧ b ≠ g⟩, ⟨⟨_, cap, h1, fun _ => rfl⟩, fun _ => ⟨h3, (Array.getElem?_eq_some_iff.1 h4).1⟩, fun i hi j u hu => ?_, fun i hi => ?_, fun i hi => ?_, fun i _ b hb => hb⟩⟩
    · simp only [hget i hi] at hu
      rw [cell_of_row _ _ _ _ _ _ h4, Nat.add_assoc]
      exact (hf i hi).1 _ _ (ac_pd _ _ _ _ j u hu)
    · simp only [hget i hi]
      exact ⟨trivial, trivial, (hf i hi).2.2⟩
    · simp only [hget i hi]
      exact ⟨(hf i hi).2.1.low (Nat.zero_le _), ox_pf (hf i hi).2.1 h4⟩
end Go.Proofs.YtiieikdbhpflgabDoor
