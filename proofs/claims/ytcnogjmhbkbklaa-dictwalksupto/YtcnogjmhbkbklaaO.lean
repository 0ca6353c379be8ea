import Derived.Test.YtcnogjmhbkbklaaJ
import Derived.Test.YtcnogjmhbkbklaaL
import Derived.Test.YtcnogjmhbkbklaaN
/-
  DERIVED. What hangs on tags, VRs and numbers alone; lists of lists, one behind the other.
-/
namespace Go.Proofs.Ytcnogjmhbkbklaa
open Go Go.Proofs Go.RowKit

theorem Sh.len {L Q : List Nd} (h : Sh L Q) : Q.length = L.length := h.1
theorem Sh.drop {L Q : List Nd} (h : Sh L Q) (k : Nat) : Sh (L.drop k) (Q.drop k) := by
  refine ⟨by rw [List.length_drop, List.length_drop, h.1], fun j h1 h2 => ?_⟩
  rw [List.length_drop] at h1 h2
  rw [List.getElem_drop, List.getElem_drop]
  exact h.2 (k + j) (by omega) (by omega)
theorem Sh.goN : ∀ {L Q : List Nd}, Sh L Q → ∀ w, goN Q w = goN L w
  | [], [], _, w => rfl
  | [], b :: Q, h, w => by have := h.1; simp at this
  | a :: L, [], h, w => by have := h.1; simp at this
  | a :: L, b :: Q, h, 0 => rfl
  | a :: L, b :: Q, h, w + 1 => by
    have h0 := (h.2 0 (by simp) (by simp)).2.2
    simp at h0
    have ht : Sh L Q := h.drop 1
    simp only [Ytcnogjmhbkbklaa.goN]
    rw [h0, ht.goN]
theorem Sh.nxt {L Q : List Nd} (h : Sh L Q) (i : Nat) : nxt Q i = nxt L i := by
  unfold Ytcnogjmhbkbklaa.nxt
  rw [(h.drop i).goN]
theorem Sh.nxtI {L Q : List Nd} (h : Sh L Q) (i : Int) : nxtI Q i = nxtI L i := by
  unfold Ytcnogjmhbkbklaa.nxtI
  rw [h.1, h.nxt]
theorem Sh.plcF {L Q : List Nd} (h : Sh L Q) (t : Int) : ∀ f i, plcF Q t f i = plcF L t f i
  | 0, i => rfl
  | f + 1, i => by
    rw [Ytcnogjmhbkbklaa.plcF, Ytcnogjmhbkbklaa.plcF]
    by_cases hi : i < L.length
    · have hi' : i < Q.length := by rw [h.1]; exact hi
      rw [dif_pos hi, dif_pos hi', (h.2 i hi hi').1, h.nxt, h.plcF t f]
    · rw [dif_neg hi, dif_neg (by rw [h.1]; exact hi)]
theorem Sh.plc {L Q : List Nd} (h : Sh L Q) (t : Int) : plc Q t = plc L t := by
  unfold Ytcnogjmhbkbklaa.plc
  rw [h.1, h.plcF]
theorem Sh.isSq {L Q : List Nd} (h : Sh L Q) (t : Int) : isSq Q t = isSq L t := by
  unfold Ytcnogjmhbkbklaa.isSq
  rw [h.plc]
  by_cases hi : Ytcnogjmhbkbklaa.plc L t < L.length
  · have hi' : Ytcnogjmhbkbklaa.plc L t < Q.length := by rw [h.1]; exact hi
    rw [List.getElem?_eq_getElem hi, List.getElem?_eq_getElem hi']
    simp only [(h.2 _ hi hi').2.1]
  · have hq := h.1
    rw [List.getElem?_eq_none (show L.length ≤ Ytcnogjmhbkbklaa.plc L t by omega), List.getElem?_eq_none (show Q.length ≤ Ytcnogjmhbkbklaa.plc L t by omega)]
theorem Sh.itF {L Q : List Nd} (h : Sh L Q) (e : Nat) : ∀ f i, (itF Q e f i).length = (itF L e f i).length
  | 0, i => rfl
  | f + 1, i => by
    rw [Ytcnogjmhbkbklaa.itF, Ytcnogjmhbkbklaa.itF]
    by_cases hi : i < e
    · rw [if_pos hi, if_pos hi, List.length_cons, List.length_cons, h.nxt, h.itF e f]
    · rw [if_neg hi, if_neg hi]
theorem Sh.itm {L Q : List Nd} (h : Sh L Q) (t : Int) : (itm Q t).length = (itm L t).length := by
  unfold Ytcnogjmhbkbklaa.itm
  rw [h.isSq]
  split
  · rw [h.plc, h.nxt, h.1, h.itF]
  · rfl
theorem itF_len (L : List Nd) (e : Nat) (he : e ≤ L.length) : ∀ f i, (itF L e f i).length ≤ L.length - i
  | 0, i => by simp [itF]
  | f + 1, i => by
    rw [itF]
    by_cases hi : i < e
    · rw [if_pos hi, List.length_cons]
      have h1 := nxt_gt (L := L) (i := i) (by omega)
      have h2 := nxt_le (L := L) (i := i) (by omega)
      have := itF_len L e he f (nxt L i)
      omega
    · rw [if_neg hi]; simp
theorem itm_len (L : List Nd) (t : Int) : (itm L t).length ≤ L.length := by
  unfold itm
  split
  · have := itF_len L (nxt L (plc L t)) (nxt_le (plc_le L t)) L.length (plc L t + 1)
    omega
  · simp
theorem itF_each (L : List Nd) (e : Nat) : ∀ f i, ∀ M ∈ itF L e f i, M.length ≤ L.length ∧ ∀ x ∈ M, x ∈ L
  | 0, i, M, h => by simp [itF] at h
  | f + 1, i, M, h => by
    rw [itF] at h
    by_cases hi : i < e
    · rw [if_pos hi] at h
      rcases List.mem_cons.1 h with rfl | h
      · exact ⟨by rw [List.length_drop, List.length_take]; omega, fun x hx => List.mem_of_mem_take (List.mem_of_mem_drop hx)⟩
      · exact itF_each L e f _ M h
    · rw [if_neg hi] at h; simp at h
theorem itm_each (L : List Nd) (t : Int) : ∀ M ∈ itm L t, M.length ≤ L.length ∧ ∀ x ∈ M, x ∈ L := by
  unfold itm
  split
  · exact itF_each L _ _ _
  · intro M h; simp at h

/-- A list of lists as a slice. -/
theorem LSt.form {base : Nat} {w : World} {v : Value} {us : List Value} {LL : List (List Nd)} (h : LSt base w v us LL) : ∃ a c, v = .slice a LL.length c ∧ LL.length ≤ c ∧ (0 < LL.length → ∃ g, a = some ⟨g, 0, none⟩ ∧ ∀ k u, us[k]? = some u → w.cell? ⟨g, k, none⟩ = some u) ∧ (LL.length = 0 → a = none ∧ c = 0) := by
  have hl := h.len
  by_cases h0 : LL.length = 0
  · have hv := h.void (List.length_eq_zero_iff.1 h0)
    exact ⟨none, 0, by rw [hv, h0], by omega, fun q => by omega, fun _ => ⟨rfl, rfl⟩⟩
  · obtain ⟨g, c, hv, -, -⟩ := h.row.form (by omega)
    have hrow := h.row
    rw [hv] at hrow
    refine ⟨some ⟨g, 0, none⟩, c, by rw [hv, hl], by rw [← hl]; exact own_cap hrow, fun _ => ⟨g, rfl, fun k u hk => ?_⟩, fun q => absurd q h0⟩
    rw [hrow.cellAt k (by have := (List.getElem?_eq_some_iff.1 hk).1; omega), hk]
/-- One of its lists, to be compared. -/
theorem LSt.nv {base : Nat} {w : World} {v : Value} {us : List Value} {LL : List (List Nd)} (h : LSt base w v us LL) {k : Nat} (hk : k < LL.length) (hs : (LL[k]'hk).length ≤ 1048576) (hz : ∀ x ∈ LL[k]'hk, -9223372036854775808 ≤ x.n ∧ x.n ≤ 9223372036854775807) : ∃ a c, us[k]? = some (.slice a (LL[k]'hk).length c) ∧ NV w a (LL[k]'hk).length c (LL[k]'hk) ∧ ((LL[k]'hk).length = 0 → a = none ∧ c = 0) := by
  have hku : k < us.length := by rw [h.len]; exact hk
  have hu := List.getElem?_eq_getElem hku
  have hL := List.getElem?_eq_getElem hk
  have ho := h.each k _ _ hu hL
  obtain ⟨M, hM⟩ : ∃ M, LL[k]'hk = M := ⟨_, rfl⟩
  rw [hM] at hL ho hs hz ⊢
  rw [hu]
  generalize us[k]'hku = u at hu ho
  by_cases h0 : M = []
  · subst h0
    have := h.nil k u hu hL
    subst this
    exact ⟨none, 0, rfl, ⟨rfl, Nat.le_refl _, by simp, fun q => by simp at q, hz⟩, fun _ => ⟨rfl, rfl⟩⟩
  · have hp : 0 < M.length := List.length_pos_iff.2 h0
    obtain ⟨g, c, rfl, -, -⟩ := ho.form hp
    refine ⟨some ⟨g, 0, none⟩, c, rfl, ⟨rfl, own_cap ho, hs, fun _ => ⟨g, 0, rfl, fun i hi => ?_⟩, hz⟩, fun q => by omega⟩
    have hg : ∀ j, j < 4 → w.cell? ⟨g, 0 + i * 4 + j, none⟩ = ((M[i]'hi).cs)[j]? := fun j hj => by
      rw [Nat.zero_add]
      exact (ho.cellAt (i * 4 + j) (by omega)).trans (nds_get M i hi j hj)
    exact ⟨hg 0 (by decide), hg 1 (by decide), hg 2 (by decide), hg 3 (by decide)⟩
end Go.Proofs.Ytcnogjmhbkbklaa
