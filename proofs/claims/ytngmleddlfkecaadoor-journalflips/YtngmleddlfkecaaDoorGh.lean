import Derived.Test.YtngmleddlfkecaaDoorGg
namespace Go.Proofs.YtngmleddlfkecaaDoor
open Go Go.Proofs Go.RowKit

/-- Scan, where the bytes hold a slot. -/
theorem qscan_good {w : World} {b off l cap : Nat} {d : List Nat} {G n : Nat} {bss rss : List (List Nat)} (h : At w b off d) (hT : Tab w) (hlen : d.length = l) (hc : l ≤ cap) (hl : l ≤ 400000) (hO : OutP d G bss rss n false) (hr : 24 + sizeP d < l) :
    Calls Tryd.prog 10 #[.slice (some ⟨b, off, none⟩) l cap] w fun e w' => ∃ v1 v2, e = .returned (.tuple #[.agg #[.int .u64 (G : Nat), v1, v2, .int .i64 (n : Nat)], .nilIface]) ∧ VV w' (w.heap.size + 1) v1 bss ∧ VV w' (w.heap.size + 1) v2 rss ∧ Below w.heap.size w w' := by
  rcases hO with ⟨h0, _⟩ | ⟨_, ⟨hH, hy, k, p, hE, rfl⟩, rfl⟩
  · cases h0
  · refine (qscan_yes h hT hlen hc hl hr hH (end_iff.2 hy)).mono ?_
    rintro e w' ⟨k2, pos2, rss', v1, v2, rfl, hE2, hV1, hV2, hb⟩
    obtain ⟨rfl, rfl, rfl⟩ := hE2.unique hE
    exact ⟨v1, v2, rfl, hV1, hV2, hb⟩

theorem made_length (base body : List Nat) : (headL 7 [base]).length = 41 + base.length ∧ (frameL 0 body).length = 17 + body.length := by
  refine ⟨?_, frameL_length _ _⟩
  simp [headL, hd0_length, dig_length, framesL, frameL_length]
  omega

/-- The head's piece, and what it is once it is turned. -/
theorem head_piece (base body : List Nat) : ∃ d R : List Nat, headL 7 [base] ++ frameL 0 body = [] ++ ((d ++ dig 4 (crc d)) ++ R) ∧ d.length = 20 ∧ (∀ x ∈ d, x < 256) := by
  refine ⟨hd0 7 1 (sizeL [base]), framesL 0 [base] ++ frameL 0 body, ?_, hd0_length _ _ _, hd0_lt _ _ _⟩
  simp [headL]

theorem head_end {d R L E : List Nat} {f Q : Nat} (hd : d.length = 20) (hx : ∀ x ∈ d, x < 256) (hf : f < 8 * 24) (h : Turned [] (d ++ dig 4 (crc d)) R f 32 L E Q) (hQ : Q ≠ 0) : headP L = false := by
  obtain ⟨d', s', rfl, h1, h2, h3, _⟩ := h.found hx (by omega) hQ
  unfold headP
  rw [List.nil_append, sumN h3 h2 (h1.trans hd)]
  simp

theorem record_piece (base body : List Nat) : headL 7 [base] ++ frameL 0 body = (headL 7 [base] ++ (leadL 0 body ++ dig 4 (crc (leadL 0 body)))) ++ ((body ++ dig 4 (crc body)) ++ []) := by
  simp [frameL]

theorem record_end {base body L E : List Nat} {f Q : Nat} (hb : base.length ≤ 2000) (hB : body.length ≤ 2000) (hl : ∀ x ∈ base, x < 256) (hL : ∀ x ∈ body, x < 256) (hf : f < 8 * (body.length + 4))
    (h : Turned (headL 7 [base] ++ (leadL 0 body ++ dig 4 (crc (leadL 0 body)))) (body ++ dig 4 (crc body)) [] f 32 L E Q) (hQ : Q ≠ 0) : OutP L 7 [base] [] (41 + base.length) false ∧ 24 + sizeP L < L.length := by
  obtain ⟨d', s', rfl, h1, h2, h3, _⟩ := h.found hL (by omega) hQ
  have hO := out_record (base := base) (body := body) hb hB hl h1 h2 h3
  obtain ⟨_, _, hs, _, _⟩ := head_facts base (leadL 0 body ++ dig 4 (crc (leadL 0 body)) ++ (d' ++ s')) hb
  have e : headL 7 [base] ++ (leadL 0 body ++ dig 4 (crc (leadL 0 body))) ++ (d' ++ s' ++ []) = headL 7 [base] ++ (leadL 0 body ++ dig 4 (crc (leadL 0 body)) ++ (d' ++ s')) := by simp
  rw [e]
  refine ⟨?_, ?_⟩
  · have e2 : 24 + (17 + base.length) = 41 + base.length := by omega
    rw [e2] at hO
    exact hO
  · rw [hs]
    have h4 := (made_length base body).1
    simp only [List.length_append, h4, leadL_length, dig_length, h1, h2]
    omega

theorem made_out {base body : List Nat} (hb : base.length ≤ 2000) (hB : body.length ≤ 2000) (hl : ∀ x ∈ base, x < 256) (hL : ∀ x ∈ body, x < 256) :
    OutP (headL 7 [base] ++ frameL 0 body) 7 [base] [body] (58 + base.length + body.length) false ∧ 24 + sizeP (headL 7 [base] ++ frameL 0 body) < (headL 7 [base] ++ frameL 0 body).length := by
  obtain ⟨_, _, hs, _, _⟩ := head_facts base (frameL 0 body) hb
  have hO := out_made hb hB hl hL
  rw [show 24 + (17 + base.length) + (17 + body.length) = 58 + base.length + body.length by omega] at hO
  refine ⟨hO, ?_⟩
  have h4 := made_length base body
  rw [hs, List.length_append, h4.1, h4.2]
  omega
end Go.Proofs.YtngmleddlfkecaaDoor
