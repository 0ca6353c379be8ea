import Derived.Test.YtmhjjpdfjilobaaDoorTi
import Derived.Test.YtmhjjpdfjilobaaDoorUd
/-
  DERIVED. A rune put, in every set that New gives.
-/
namespace Go.Proofs.YtmhjjpdfjilobaaDoor
open Go Go.Proofs Go.RowKit

theorem put_all (q : Nat) (v : Value) (a : Row) (R : List Row) (x : Bool) (hC : Cond x a R) (hR6 : (a :: R).length ≤ 6) (hq : 5 < q) : PutOK q v a R x (Pz a R) := by
  intro w h u base out r hr0 hr1 hset hm hh hasc hT hown hne hlen hbase hfar
  obtain ⟨p1, p2, p3, p4⟩ := Pz_facts hC hm hasc hh
  refine ⟨?_, p1, p2, p3, p4⟩
  by_cases h6 : a.1 = 6
  · have hP : Pz a R h r = (Lib.encodeRuneZ r, h) := by unfold Pz; rw [if_pos h6]
    rw [hP]
    exact put_univ w q v u a R x h base out r (by omega) (by omega) hset h6 hown hne hlen hbase
  · obtain ⟨i, hi⟩ := List.mem_iff_getElem?.1 hm
    by_cases hb : byteOf h.1 r ≠ 0
    · have hP : Pz a R h r = ([(byteOf h.1 r : Int)], h) := by unfold Pz; rw [if_neg h6, if_pos hb]
      rw [hP]
      exact put_holds w q v u a R x h i base out r (by omega) (by omega) hset h6 hi (hC.n7 h hm) hb (byte_lt _ _) hT hq hown hne hlen hbase hfar
    · have hb0 : byteOf h.1 r = 0 := by omega
      obtain ⟨b, hbm, hfd, hbb⟩ := hasS_first h6 hasc hh
      have hP : Pz a R h r = (escZ b r, b) := by unfold Pz; rw [if_neg h6, if_neg hb, hfd]
      rw [hP]
      have hb6 : b.1 < 6 := by
        rcases Nat.lt_or_ge b.1 6 with h | h
        · exact h
        · have h7 := hC.n7 b hbm
          obtain ⟨d, _, h2, _, _⟩ := byteOf_at hbb
          have : b.1 = 6 := by omega
          rw [this] at h2
          exact absurd rfl h2
      exact put_first w q v u a R x h i base out r (by omega) (by omega) hset h6 hi (hC.n7 h hm) hb0 hR6 hC.n7 b hfd (esc_size ⟨b.1, hb6⟩) hT hq hown hne hlen hbase hfar
end Go.Proofs.YtmhjjpdfjilobaaDoor
