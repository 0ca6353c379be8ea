import Derived.Test.YtnamkcfmbefkfaaDoorNm
import Derived.Test.YtnamkcfmbefkfaaDoorVh
/-
  DERIVED. What is answered, as PDUs; lists of what is agreed.
-/
namespace Go.Proofs.YtnamkcfmbefkfaaDoor
open Go Go.Proofs Go.RowKit

theorem zc_one : ∀ i, (zc i).oneCell' = true := by decide
theorem negE_len (o : Option (Int × Int × Int)) (ps : List El) : (negE o ps).length ≤ ps.length := by
  unfold negE
  cases o <;> simp
def negD (o : Option (Int × Int × Int)) (ps : List El) : PdD := ⟨negE o ps, [], [], []⟩
/-- What is answered lies in memory of its own. -/
theorem neg_ox {base : Nat} {W : World} {o : Option (Int × Int × Int)} {r : RqD} {l : Value} {ps : List El} (h : OE base W l (negE o ps) 4 51 ShC) (hf : Fits ps.length 48) : OX base W (negC o r l) (negD o ps) := by
  cases o with
  | some x => exact ox_zero base W zc zc_one rfl rfl rfl rfl
  | none =>
    refine ⟨ac_one _ _ _ h.one, ⟨h, ?_⟩, ⟨OE.nil _ _ _ _ _, fits0 _⟩, ⟨OE.nil _ _ _ _ _, fits0 _⟩, ⟨OE.nil _ _ _ _ _, fits0 _⟩, 0, 0, 0, BR.nil _ _ _ _ _ _, BR.nil _ _ _ _ _ _⟩
    have := negE_len none ps
    unfold Fits at *
    show (negE none ps).length * 48 ≤ _
    omega
theorem neg_oxf {base : Nat} {W : World} {o : Option (Int × Int × Int)} {r : RqD} {l : Value} {ps : List El} (h : OE base W l (negE o ps) 4 51 ShC) (hf : Fits ps.length 48) : OXF (fun b => base ≤ b ∧ b < W.heap.size) base W (negC o r l) (negD o ps) :=
  ⟨neg_ox h hf, PF.of (neg_ox h hf) fun _ h1 h2 _ => ⟨h1, h2⟩⟩
theorem neg_ty (o : Option (Int × Int × Int)) (r : RqD) (l : Value) : TyC (negC o r l) := by
  cases o with
  | some x => exact ty_zc
  | none => exact ac_ty _ _ _
theorem neg_same (o : Option (Int × Int × Int)) (r : RqD) (l l' : Value) : SameC (negC o r l) (negC o r l') := by
  cases o with
  | some x => exact SameC.refl _
  | none =>
    intro i h4 _ _ _
    show acC r.called r.calling l' i = acC r.called r.calling l i
    rw [← ac_up r.called r.calling l l']
    simp [up, h4]
theorem inn_ans (p : El) (h : ShC p) : InnS (ansEl p).inn := by
  obtain ⟨x, y, s, T, rfl⟩ := h
  show (ansT s T).length ≤ 1048576
  have := ansT_len s T
  omega
theorem sh_ans (p : El) (h : ShC p) : ShC (ansEl p) := by
  obtain ⟨x, y, s, T, rfl⟩ := h
  exact ⟨_, _, _, _, rfl⟩
theorem neg_sml {o : Option (Int × Int × Int)} {ps : List El} (hs : ∀ p ∈ ps, ShC p) (hl : ps.length ≤ 1048576) : Sml (negD o ps) := by
  refine ⟨⟨?_, fun p hp => ?_⟩, ⟨by simp [negD], fun p hp => by simp [negD] at hp⟩, ⟨by simp [negD], fun p hp => by simp [negD] at hp⟩, ⟨by simp [negD], fun p hp => by simp [negD] at hp⟩⟩
  · have := negE_len o ps
    show (negE o ps).length ≤ _
    omega
  · cases o with
    | some x => simp [negD, negE] at hp
    | none =>
      obtain ⟨q, hq, rfl⟩ := List.mem_map.1 (show p ∈ ps.map ansEl from hp)
      exact inn_ans q (hs q hq)
theorem neg_gd {o : Option (Int × Int × Int)} {r : RqD} {l : Value} {ps : List El} (hs : ∀ p ∈ ps, ShC p) (hl : ps.length ≤ 1048576) : Gd (negC o r l) (negD o ps) := ⟨neg_ty _ _ _, neg_sml hs hl⟩
/-- A rejection, or none, as a PDU. -/
theorem rjf_one (o : Option (Int × Int × Int)) : ∀ i, (rjF o i).oneCell' = true := by
  cases o with
  | some x => exact rj_one _ _ _
  | none => exact zc_one
theorem rjf_ty (o : Option (Int × Int × Int)) : TyC (rjF o) := by
  cases o with
  | some x => exact rj_ty _ _ _
  | none => exact ty_zc
theorem rjf_rx (o : Option (Int × Int × Int)) (W : World) : RX W (rjF o) D0 := by
  cases o with
  | some x => exact (ox_zero 0 W _ (rj_one _ _ _) rfl rfl rfl rfl).rx
  | none => exact (ox_zero 0 W zc zc_one rfl rfl rfl rfl).rx
/-- A copy of a request is a request. -/
theorem RqV.same {k : Int} {c c' : Fin 18 → Value} {r : RqD} (h : RqV k c r) (hs : SameC c c') (h1 : ∀ i, (c' i).oneCell' = true) : RqV k c' r :=
  ⟨h.vl, h.k, (hs 0 (by decide) (by decide) (by decide) (by decide)).trans h.c0, (hs 1 (by decide) (by decide) (by decide) (by decide)).trans h.c1, (hs 2 (by decide) (by decide) (by decide) (by decide)).trans h.c2, (hs 3 (by decide) (by decide) (by decide) (by decide)).trans h.c3, (hs 5 (by decide) (by decide) (by decide) (by decide)).trans h.c5, (hs 6 (by decide) (by decide) (by decide) (by decide)).trans h.c6, h1⟩
/-- The law's own request as plain data. -/
def rqR : RqD := ⟨1, 1, ⟨#[82, 73, 83]⟩, ⟨#[67, 84, 49]⟩, ⟨#[49, 46, 50, 46, 56, 52, 48, 46, 49, 48, 48, 48, 56, 46, 51, 46, 49, 46, 49, 46, 49]⟩, false, 0⟩
theorem rq_v (l : Value) (h : l.oneCell' = true) : RqV 1 (rqC l) rqR := ⟨by decide, rfl, rfl, rfl, rfl, rfl, rfl, rfl, rq_one l h⟩
theorem rq_rx {base : Nat} {W : World} {l : Value} (h : OE base W l [rqE] 4 51 ShC) : RX W (rqC l) ⟨[rqE], [], [], []⟩ :=
  ⟨rq_one l h.one, ⟨h.rd, by unfold Fits; decide⟩, ⟨(OE.nil base W 3 54 ShR).rd, fits0 _⟩, ⟨(OE.nil base W 2 57 ShO).rd, fits0 _⟩, ⟨(OE.nil base W 4 60 ShV).rd, fits0 _⟩⟩
theorem rq_sh : ∀ p ∈ [rqE], ShC p := fun p hp => by
  rw [List.mem_singleton.1 hp]
  exact ⟨_, _, _, _, rfl⟩
theorem rq_sm {s : SvD} (h : s.title.size ≤ 140737488351232 ∧ ∀ x ∈ s.T, x.size ≤ 140737488351232) : RqSm rqR s := ⟨⟨by decide, by decide⟩, h.1, h.2⟩
/-- The cells of a row of what is agreed. -/
theorem agrV_len (l : List (Int × ByteArray × Int)) : (agrV l).length = l.length * 3 := by
  induction l with
  | nil => rfl
  | cons a l ih => simp only [agrV, List.flatMap_cons, List.length_append, List.length_cons] at *; simp only [List.length_nil]; omega
theorem agrV_get : ∀ (l : List (Int × ByteArray × Int)) (i : Nat) (h : i < l.length), (agrV l)[i * 3]? = some (.int .u8 l[i].1) ∧ (agrV l)[i * 3 + 1]? = some (.string l[i].2.1) ∧ (agrV l)[i * 3 + 2]? = some (.int .i64 l[i].2.2)
  | [], i, h => absurd h (Nat.not_lt_zero _)
  | a :: l, 0, _ => ⟨rfl, rfl, rfl⟩
  | a :: l, i + 1, h => by
    have ih := agrV_get l i (by simpa using h)
    have e : agrV (a :: l) = [.int .u8 a.1, .string a.2.1, .int .i64 a.2.2] ++ agrV l := by simp [agrV]
    have k : ∀ j, (agrV (a :: l))[(i + 1) * 3 + j]? = (agrV l)[i * 3 + j]? := fun j => by
      rw [e, List.getElem?_append_right (by simp; omega)]
      congr 1
      simp
      omega
    refine ⟨?_, ?_, ?_⟩
    · have := k 0; rw [Nat.add_zero, Nat.add_zero] at this; rw [this]; simpa using ih.1
    · rw [k 1]; simpa using ih.2.1
    · rw [k 2]; simpa using ih.2.2
/-- A row of what is agreed can be read. -/
def AgR (W : World) (v : Value) (l : List (Int × ByteArray × Int)) : Prop :=
  ∃ ao cap, v = .slice ao l.length cap ∧ (0 < l.length → ∃ g, ao = some ⟨g, 0, none⟩ ∧ ∀ i (h : i < l.length), W.cell? ⟨g, i * 3, none⟩ = some (.int .u8 l[i].1) ∧ W.cell? ⟨g, i * 3 + 1, none⟩ = some (.string l[i].2.1) ∧ W.cell? ⟨g, i * 3 + 2, none⟩ = some (.int .i64 l[i].2.2))
theorem agr_rd {W : World} {base : Nat} {v : Value} {l : List (Int × ByteArray × Int)} (h : W.ownsRow base 44 3 v l.length (agrV l)) : AgR W v l := by
  rcases h.2 with ⟨rfl, h0⟩ | ⟨g, cap, cur, rfl, _⟩
  · exact ⟨none, 0, by rw [h0], fun hp => by omega⟩
  · refine ⟨_, cap, rfl, fun _ => ⟨g, rfl, fun i hi => ?_⟩⟩
    obtain ⟨e0, e1, e2⟩ := agrV_get l i hi
    exact ⟨(h.cellAt _ (by omega)).trans e0, (h.cellAt _ (by omega)).trans e1, (h.cellAt _ (by omega)).trans e2⟩
/-- A context as it is changed in place. -/
def chgEl (cls : ByteArray) : El → El
  | ⟨[x, y, .string _], .tx T⟩ => ⟨[x, y, .string cls], .tx T.reverse⟩
  | p => p
theorem sh_chg (cls : ByteArray) (p : El) (h : ShC p) : ShC (chgEl cls p) := by
  obtain ⟨x, y, s, T, rfl⟩ := h
  exact ⟨_, _, _, _, rfl⟩
end Go.Proofs.YtnamkcfmbefkfaaDoor
