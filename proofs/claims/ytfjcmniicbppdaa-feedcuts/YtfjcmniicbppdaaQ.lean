import Derived.Test.YtfjcmniicbppdaaP
/-
  DERIVED. The law of frames.
-/
namespace Go.Proofs.Ytfjcmniicbppdaa
open Go Go.Proofs Go.RowKit Go.Deep

/-- Pieces that lie there. -/
def PS (w : World) (v : Value) (Ps : List (List Nat)) : Prop :=
  ∃ ao cap, v = .slice ao Ps.length cap ∧ ∀ k, k < Ps.length → ∃ b off vk, ao = some ⟨b, off, none⟩ ∧ w.cell? ⟨b, off + k, none⟩ = some vk ∧ V w vk (Ps.getD k [])

/-- Both framers in memory. -/
structure LW (w W : World) (a : FSt) (st : RSt) (u v : Value) : Prop where
  be : Below w.heap.size w W
  fr : FR W w.heap.size u (a.1 : Int) a.2.1 a.2.2
  rf : RF W (w.heap.size + 1) v st.1 st.2
  ds : ∀ g, u.ownBlock = some g → v.ownBlock ≠ some g

section
variable {w W W' : World} {a a' : FSt} {st st' : RSt} {u u' v v' told : Value} {fs : Fs}
theorem LW.on (h : LW w W a st u v) (hb : Below W.heap.size W W') : LW w W' a st u v :=
  ⟨h.be.trans (hb.mono h.be.size), h.fr.next hb, h.rf.of fun j hj _ => hb.block j hj, h.ds⟩
theorem LW.farF (h : LW w W a st u v) {j : Nat} (hj : FS (w.heap.size + 1) v j) : ¬ FS w.heap.size u j := by
  rintro (rfl | hu)
  · rcases hj with e | hv
    · omega
    · have := (h.rf.own.lt _ hv).1; omega
  · rcases hj with rfl | hv
    · rcases h.fr.own.2 with ⟨rfl, _⟩ | ⟨g, cap, cur, rfl, _, hh, _⟩
      · cases hu
      · have e : g = w.heap.size + 1 := Option.some.inj hu
        obtain ⟨c, hc, _⟩ := h.rf.row
        rw [← e, hh] at hc
        cases hc
    · exact h.ds j hu hv
theorem LW.take (h : LW w W a st u v) (hT : TI W w.heap.size u W' u' told (a'.1 : Int) a'.2.1 a'.2.2 fs) : LW w W' a' st u' v := by
  refine ⟨h.be.trans ⟨hT.ch.os, hT.ch.tape, hT.ch.output, hT.ch.size, fun k hk => hT.ch.block k (Nat.lt_of_lt_of_le hk h.be.size) ?_⟩, hT.fr, h.rf.of fun j hj hs => hT.ch.block j hj (h.farF hs), ?_⟩
  · rintro (rfl | hu)
    · omega
    · have := (h.fr.own.lt k hu).1; omega
  · intro g hg hv
    rcases hT.ub with e | e
    · exact h.ds g (by rw [← e]; exact hg) hv
    · have := e g hg; have := (h.rf.own.lt g hv).2; omega
theorem LW.takeR (h : LW w W a st u v) (hT : RI W (w.heap.size + 1) v W' v' told st' fs) : LW w W' a st' u v' := by
  refine ⟨h.be.trans ⟨hT.ch.os, hT.ch.tape, hT.ch.output, hT.ch.size, fun k hk => hT.ch.block k (Nat.lt_of_lt_of_le hk h.be.size) ?_⟩, h.fr.of fun j hj hs => hT.ch.block j hj (fun hv => h.farF hv hs), hT.fr, ?_⟩
  · rintro (rfl | hu)
    · omega
    · have := (h.rf.own.lt k hu).1; omega
  · intro g hg hv
    rcases hT.ub with e | e
    · exact h.ds g hg (by rw [← e]; exact hv)
    · have := e g hv; have := (h.fr.own.lt g hg).2; omega
end

/-- What came in lies apart from what was made since. -/
theorem apart_old {w W : World} {v bv : Value} {q : Nat} {bs : List Nat} {e : TypeId} {n : Nat} {xs : List Value} (hV : V w bv bs) (hw : w.heap.size ≤ W.heap.size) (hq : w.heap.size ≤ q) (ho : W.ownsRow (q + 1) e 1 v n xs) : Apart W q v bv := by
  rintro b off m cap rfl hm
  rcases hV with ⟨a1, c1, he, _⟩ | ⟨b1, o1, c1, he, hp, _, hat⟩
  · cases he; omega
  · cases he
    have hlt := World.block_lt_of_cell? w _ (hat.1 0 hp)
    simp only at hlt
    refine ⟨by omega, ?_⟩
    rintro (rfl | hu)
    · omega
    · have := (ho.lt b hu).1; omega
/-- What is new lies apart from what was there. -/
theorem apart_new {w W : World} {v : Value} {q g n cap : Nat} (hg : w.heap.size ≤ g) (hW : g < W.heap.size) (hq : q < w.heap.size) (hv : ∀ j, v.ownBlock = some j → j < w.heap.size) : Apart W q v (.slice (some ⟨g, 0, none⟩) n cap) := by
  intro b off m c he _
  cases he
  refine ⟨hW, ?_⟩
  rintro (rfl | hu)
  · omega
  · have := hv g hu; omega

theorem sum_succ (Ps : List (List Nat)) (k : Nat) (h : k < Ps.length) : ((Ps.take (k + 1)).map List.length).sum = ((Ps.take k).map List.length).sum + (Ps.getD k []).length := by
  rw [List.take_add_one, List.map_append, List.sum_append, List.getD_eq_getElem?_getD, List.getElem?_eq_getElem h]
  show _ + (Ps[k].length + 0) = _ + Ps[k].length
  omega
theorem sum_le (Ps : List (List Nat)) (k : Nat) : ((Ps.take k).map List.length).sum ≤ (Ps.map List.length).sum := by
  have : (Ps.map List.length).sum = ((Ps.take k).map List.length).sum + ((Ps.drop k).map List.length).sum := by
    rw [← List.sum_append, ← List.map_append, List.take_append_drop]
  omega

theorem hd_eq (s : Nat) (T : List Nat) : hd s (T.take 16384).length = hd s (mn T.length) := by
  rw [List.length_take]
  unfold hd mn
  split <;> split <;> omega
theorem lentFar {W : World} {B g : Nat} {bs : List Nat} (h : Lent W B g bs) {W' : World} {S : Nat → Prop} (hc : Ch S W W') (hg : ¬ S g) : Lent W' B g bs :=
  ⟨owns_of h.1 fun g' hg' => by
    have e : g = g' := Option.some.inj hg'
    subst e
    exact hc.block g (h.1.lt g rfl).2 hg, h.2⟩
theorem flFar {W W' : World} {told : Value} {fs : Fs} {S : Nat → Prop} (h : FL W told fs) (hc : Ch S W W') (hg : ∀ g, told.ownBlock = some g → ¬ S g) : FL W' told fs := by
  obtain ⟨B, h⟩ := h
  exact ⟨B, owns_of h fun g hg' => hc.block g (h.lt g hg').2 (hg g hg')⟩
theorem FL.notS {W : World} {told v : Value} {fs : Fs} {q : Nat} {s : Nat} {T : List Nat} (h : FL W told fs) (hr : RF W q v s T) : ∀ g, told.ownBlock = some g → ¬ FS q v g := by
  intro g hg
  obtain ⟨B, h⟩ := h
  rcases h.2 with ⟨rfl, _⟩ | ⟨g', cap, cur, rfl, _, hh, _⟩
  · cases hg
  · have e1 : g' = g := Option.some.inj hg
    subst e1
    rintro (rfl | hu)
    · obtain ⟨c, hc, _⟩ := hr.row
      rw [hh] at hc
      cases hc
    · rcases hr.own.2 with ⟨rfl, _⟩ | ⟨g2, cap2, cur2, rfl, _, hh2, _⟩
      · cases hu
      · have e2 : g2 = g' := Option.some.inj hu
        subst e2
        rw [hh] at hh2
        cases hh2
end Go.Proofs.Ytfjcmniicbppdaa
