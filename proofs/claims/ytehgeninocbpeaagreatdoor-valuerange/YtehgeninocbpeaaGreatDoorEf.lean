import Derived.Test.YtehgeninocbpeaaGreatDoorEe
/-
  DERIVED. The law of ranges, whatever came in.
-/
namespace Go.Proofs.YtehgeninocbpeaaGreatDoor.Tm
open Go Go.Proofs Go.RowKit

/-- Numbers that lie in a row. -/
def Sl (W : World) (v : Value) (l : List Int) : Prop := ∃ a cap, v = .slice a l.length cap ∧ ∀ k x, l[k]? = some x → ∃ g o, a = some ⟨g, o, none⟩ ∧ W.cell? ⟨g, o + k, none⟩ = some (.int .i64 x)

theorem Sl.three {W : World} {v : Value} {l : List Int} (h : Sl W v l) (h3 : l.length = 3) : ∃ g o cap x y z, v = .slice (some ⟨g, o, none⟩) 3 cap ∧ I3 W g o x y z := by
  obtain ⟨a, cap, rfl, hc⟩ := h
  match l, h3 with
  | [x, y, z], _ =>
    obtain ⟨g, o, rfl, c0⟩ := hc 0 x rfl
    obtain ⟨g1, o1, e1, c1⟩ := hc 1 y rfl
    obtain ⟨g2, o2, e2, c2⟩ := hc 2 z rfl
    obtain ⟨rfl, rfl⟩ : g = g1 ∧ o = o1 := by simpa using e1
    obtain ⟨rfl, rfl⟩ : g = g2 ∧ o = o2 := by simpa using e2
    exact ⟨g, o, cap, x, y, z, rfl, c0, c1, c2⟩
theorem glob0 : Gl.gm (Gl.elems ⟨#[42]⟩) (Gl.elems ⟨#[]⟩) = true := by decide +kernel

set_option maxRecDepth 100000 in
set_option maxHeartbeats 2000000 in
theorem range_any (w : World) (v0 v1 v2 : Value) (l0 l1 l2 : List Int) (h0 : Sl w v0 l0) (h1 : Sl w v1 l1) (h2 : Sl w v2 l2) (hT : Mt w) (hO : Ot w) (hR : Rt w) : Calls Tryz.prog 4 #[v0, v1, v2] w (BoolP w true) := by
  by_cases h3 : l0.length = 3 ∧ l1.length = 3 ∧ l2.length = 3
  · obtain ⟨ga, oa, ca, a0, a1, a2, rfl, hA⟩ := h0.three h3.1
    obtain ⟨gb, ob, cb, b0, b1, b2, rfl, hB⟩ := h1.three h3.2.1
    obtain ⟨gc, oc, cc, c0, c1, c2, rfl, hC⟩ := h2.three h3.2.2
    exact range_three w ga oa ca gb ob cb gc oc cc a0 a1 a2 b0 b1 b2 c0 c1 c2 hA hB hC hT hO hR
  · obtain ⟨p0, k0, rfl, _⟩ := h0
    obtain ⟨p1, k1, rfl, _⟩ := h1
    obtain ⟨p2, k2, rfl, _⟩ := h2
    have c := Gl.glob_any w ⟨#[42]⟩ ⟨#[]⟩ (by decide) (by decide)
    rw [glob0] at c
    generalize l0.length = n0 at *
    generalize l1.length = n1 at *
    generalize l2.length = n2 at *
    clear hT hO hR
    by_cases e0 : n0 = 3
    · by_cases e1 : n1 = 3
      · have e2 : ¬ n2 = 3 := fun e2 => h3 ⟨e0, e1, e2⟩
        subst e0
        subst e1
        have b2 : ((n2 : Int) != 3) = true := by simp; omega
        clear h3 e2
        go_enter Tryz.func4, Tryz.ntmps4
        go_wp2_with (go_at_call 10; refine Stop.mk ?_)
        refine Stop.out (c.mono ?_)
        rintro e W1 ⟨rfl, hb⟩
        go_wp2
        go_ret
        exact ⟨rfl, hb⟩
      · subst e0
        have b1 : ((n1 : Int) != 3) = true := by simp; omega
        clear h3 e1
        go_enter Tryz.func4, Tryz.ntmps4
        go_wp2_with (go_at_call 10; refine Stop.mk ?_)
        refine Stop.out (c.mono ?_)
        rintro e W1 ⟨rfl, hb⟩
        go_wp2
        go_ret
        exact ⟨rfl, hb⟩
    · have b0 : ((n0 : Int) != 3) = true := by simp; omega
      clear h3 e0
      go_enter Tryz.func4, Tryz.ntmps4
      go_wp2_with (go_at_call 10; refine Stop.mk ?_)
      refine Stop.out (c.mono ?_)
      rintro e W1 ⟨rfl, hb⟩
      go_wp2
      go_ret
      exact ⟨rfl, hb⟩
end Go.Proofs.YtehgeninocbpeaaGreatDoor.Tm
