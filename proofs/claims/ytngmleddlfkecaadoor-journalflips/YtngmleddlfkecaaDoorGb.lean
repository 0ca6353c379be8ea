import Derived.Test.YtngmleddlfkecaaDoorGa
import Derived.Test.YtngmleddlfkecaaDoorFl
namespace Go.Proofs.YtngmleddlfkecaaDoor
open Go Go.Proofs Go.RowKit

theorem drop_at (a b : List Nat) (n : Nat) (h : a.length = n) : (a ++ b).drop n = b := List.drop_left' h

theorem valL_dig : ∀ (n v : Nat), v < 256 ^ n → valL (dig n v) = v
  | 0, v, h => by simp at h; subst h; rfl
  | n + 1, v, h => by
    rw [dig, valL, valL_dig n (v / 256) (by rw [Nat.pow_succ] at h; omega)]
    omega

theorem le_val (l : List Nat) (h : l.length = 4) : le l = valL l := by
  match l, h with
  | [a, b, c, d], _ => simp [le, valL]; try omega

theorem le_dig (v : Nat) (h : v < 4294967296) : le (dig 4 v) = v := by
  rw [le_val _ (dig_length _ _), valL_dig 4 v (by simpa using h)]

/-- Bytes with their sum behind them. -/
theorem sumY {d s r : List Nat} (hs : s = dig 4 (crc d)) (hd : ∀ x ∈ d, x < 256) {n : Nat} (hn : d.length = n) : summedP (d ++ s ++ r) n = true := by
  subst hs hn
  unfold summedP
  rw [List.append_assoc, List.drop_left' rfl, List.take_left' rfl, List.take_left' (dig_length _ _), le_dig _ (crc_lt _ hd)]
  simp [dig_length]

theorem sumN {d s r : List Nat} (h : crc d ≠ valL s) (hs : s.length = 4) {n : Nat} (hn : d.length = n) : summedP (d ++ s ++ r) n = false := by
  subst hn
  unfold summedP
  rw [List.append_assoc, List.drop_left' rfl, List.take_left' rfl, List.take_left' hs, le_val _ hs]
  simp [Ne.symm h]

theorem leadL_lt (n : Nat) (body : List Nat) : ∀ x ∈ leadL n body, x < 256 := by
  intro x hx
  simp only [leadL, List.mem_append, List.mem_cons, List.not_mem_nil, or_false] at hx
  rcases hx with (rfl | hx) | hx
  · decide
  · exact dig_lt _ _ x hx
  · exact dig_lt _ _ x hx

/-- A frame that begins with this lead. -/
theorem lead_parts (n : Nat) (hn : n < 4294967296) (body r : List Nat) (hb : body.length ≤ 131072) :
    (leadL n body ++ r).getD 0 0 = 165 ∧ le (((leadL n body ++ r).drop 1).take 4) = n ∧ lenP (leadL n body ++ r) = body.length := by
  refine ⟨by simp [leadL], ?_, ?_⟩
  · have e : leadL n body ++ r = [165] ++ (dig 4 n ++ (dig 4 body.length ++ r)) := by simp [leadL]
    rw [e, drop_at [165] _ 1 rfl, List.take_left' (dig_length _ _), le_dig _ hn]
  · have e : leadL n body ++ r = ([165] ++ dig 4 n) ++ (dig 4 body.length ++ r) := by simp [leadL]
    unfold lenP
    rw [e, List.drop_left' (by simp [dig_length]), List.take_left' (dig_length _ _), le_dig _ (by omega)]

theorem frmA {n : Nat} (hn : n < 4294967296) {body x r : List Nat} (hb : body.length ≤ 131072) :
    frameP (leadL n body ++ dig 4 (crc (leadL n body)) ++ (x ++ r)) n = summedP (x ++ r) body.length ∧ lenP (leadL n body ++ dig 4 (crc (leadL n body)) ++ (x ++ r)) = body.length := by
  obtain ⟨h1, h2, h3⟩ := lead_parts n hn body (dig 4 (crc (leadL n body)) ++ (x ++ r)) hb
  rw [← List.append_assoc] at h1 h2 h3
  refine ⟨?_, h3⟩
  have h4 : summedP (leadL n body ++ dig 4 (crc (leadL n body)) ++ (x ++ r)) 9 = true := sumY rfl (leadL_lt n body) (leadL_length n body)
  unfold frameP
  rw [h1, h2, h3, h4, List.drop_left' (by simp [leadL_length, dig_length])]
  simp [hb]

theorem frmY {n : Nat} (hn : n < 4294967296) {body r : List Nat} (hb : body.length ≤ 131072) (hl : ∀ x ∈ body, x < 256) :
    frameP (frameL n body ++ r) n = true ∧ lenP (frameL n body ++ r) = body.length ∧ bodyP (frameL n body ++ r) = body := by
  have e : frameL n body ++ r = leadL n body ++ dig 4 (crc (leadL n body)) ++ ((body ++ dig 4 (crc body)) ++ r) := by simp [frameL]
  obtain ⟨h1, h2⟩ := frmA hn (x := body ++ dig 4 (crc body)) (r := r) hb
  rw [← e] at h1 h2
  refine ⟨by rw [h1]; exact sumY rfl hl rfl, h2, ?_⟩
  unfold bodyP
  rw [h2, e, List.drop_left' (by simp [leadL_length, dig_length]), List.append_assoc, List.take_left' rfl]

theorem frmN {n : Nat} (hn : n < 4294967296) {body d s : List Nat} (hb : body.length ≤ 131072) (hd : d.length = body.length) (hs : s.length = 4) (h : crc d ≠ valL s) :
    frameP (leadL n body ++ dig 4 (crc (leadL n body)) ++ (d ++ s)) n = false := by
  obtain ⟨h1, _⟩ := frmA hn (body := body) (x := d ++ s) (r := []) hb
  rw [List.append_nil] at h1
  rw [h1]
  have := sumN (r := []) h hs hd
  rw [List.append_nil] at this
  exact this

theorem frameP_nil (k : Nat) : frameP [] k = false := by simp [frameP, summedP]

theorem run_one {n r : List Nat} (hb : n.length ≤ 131072) (hl : ∀ x ∈ n, x < 256) : runP (frameL 0 n ++ r) 1 = some (17 + n.length, [n]) := by
  obtain ⟨h1, h2, h3⟩ := frmY (n := 0) (by decide) (r := r) hb hl
  simp only [runP, List.drop_zero, h1, h2, h3, if_true, Nat.zero_add, List.nil_append]

theorem head_facts (base r : List Nat) (hb : base.length ≤ 2000) : genP (headL 7 [base] ++ r) = 7 ∧ countP (headL 7 [base] ++ r) = 1 ∧ sizeP (headL 7 [base] ++ r) = 17 + base.length ∧ (headL 7 [base] ++ r).drop 24 = frameL 0 base ++ r ∧ headP (headL 7 [base] ++ r) = true := by
  have hS : sizeL [base] = 17 + base.length := by simp [sizeL]
  have e0 : headL 7 [base] ++ r = hd0 7 1 (17 + base.length) ++ dig 4 (crc (hd0 7 1 (17 + base.length))) ++ (frameL 0 base ++ r) := by simp [headL, framesL, hS]
  have e1 : headL 7 [base] ++ r = [77, 87, 74, 1] ++ (dig 4 7 ++ (dig 4 0 ++ (dig 4 1 ++ (dig 4 (17 + base.length) ++ (dig 4 (crc (hd0 7 1 (17 + base.length))) ++ (frameL 0 base ++ r)))))) := by
    rw [e0, hd0, dig8]; simp
  have hg : genP (headL 7 [base] ++ r) = 7 := by
    unfold genP
    rw [e1, drop_at [77, 87, 74, 1] _ 4 rfl, List.take_left' (dig_length _ _), show ([77, 87, 74, 1] : List Nat) ++ (dig 4 7 ++ (dig 4 0 ++ (dig 4 1 ++ (dig 4 (17 + base.length) ++ (dig 4 (crc (hd0 7 1 (17 + base.length))) ++ (frameL 0 base ++ r)))))) = ([77, 87, 74, 1] ++ dig 4 7) ++ (dig 4 0 ++ (dig 4 1 ++ (dig 4 (17 + base.length) ++ (dig 4 (crc (hd0 7 1 (17 + base.length))) ++ (frameL 0 base ++ r))))) by simp, List.drop_left' (by simp [dig_length]), List.take_left' (dig_length _ _), le_dig _ (by decide), le_dig _ (by decide)]
  have hc : countP (headL 7 [base] ++ r) = 1 := by
    unfold countP
    rw [e1, show ([77, 87, 74, 1] : List Nat) ++ (dig 4 7 ++ (dig 4 0 ++ (dig 4 1 ++ (dig 4 (17 + base.length) ++ (dig 4 (crc (hd0 7 1 (17 + base.length))) ++ (frameL 0 base ++ r)))))) = ([77, 87, 74, 1] ++ dig 4 7 ++ dig 4 0) ++ (dig 4 1 ++ (dig 4 (17 + base.length) ++ (dig 4 (crc (hd0 7 1 (17 + base.length))) ++ (frameL 0 base ++ r)))) by simp, List.drop_left' (by simp [dig_length]), List.take_left' (dig_length _ _), le_dig _ (by decide)]
  have hs : sizeP (headL 7 [base] ++ r) = 17 + base.length := by
    unfold sizeP
    rw [e1, show ([77, 87, 74, 1] : List Nat) ++ (dig 4 7 ++ (dig 4 0 ++ (dig 4 1 ++ (dig 4 (17 + base.length) ++ (dig 4 (crc (hd0 7 1 (17 + base.length))) ++ (frameL 0 base ++ r)))))) = ([77, 87, 74, 1] ++ dig 4 7 ++ dig 4 0 ++ dig 4 1) ++ (dig 4 (17 + base.length) ++ (dig 4 (crc (hd0 7 1 (17 + base.length))) ++ (frameL 0 base ++ r))) by simp, List.drop_left' (by simp [dig_length]), List.take_left' (dig_length _ _), le_dig _ (by omega)]
  refine ⟨hg, hc, hs, ?_, ?_⟩
  · rw [e0, List.drop_left' (by simp [hd0_length, dig_length])]
  · have h20 : summedP (headL 7 [base] ++ r) 20 = true := by rw [e0]; exact sumY rfl (hd0_lt _ _ _) (hd0_length _ _ _)
    have ht : (headL 7 [base] ++ r).take 4 = [77, 87, 74, 1] := by rw [e1]; exact List.take_left' rfl
    unfold headP
    rw [h20, ht, hg, hc]
    simp

/-- The slot as it was made. -/
theorem out_made {base body : List Nat} (hb : base.length ≤ 2000) (hB : body.length ≤ 2000) (hl : ∀ x ∈ base, x < 256) (hL : ∀ x ∈ body, x < 256) :
    OutP (headL 7 [base] ++ frameL 0 body) 7 [base] [body] (24 + (17 + base.length) + (17 + body.length)) false := by
  obtain ⟨hg, hc, hs, hd, hh⟩ := head_facts base (frameL 0 body) hb
  refine .inr ⟨rfl, ⟨hh, ?_, 1, 17 + body.length, ⟨?_, ?_⟩, ?_⟩, hg.symm⟩
  · rw [hd, hc, hs]; exact run_one (by omega) hl
  · rw [hd, hs, List.drop_left' (frameL_length _ _)]
    have := run_one (n := body) (r := []) (by omega) hL
    rw [List.append_nil] at this
    exact this
  · rw [hd, hs, List.drop_left' (frameL_length _ _), List.drop_eq_nil_of_le (by rw [frameL_length]; exact Nat.le_refl _)]
    exact frameP_nil _
  · rw [hs]

/-- Its record turned: the base alone. -/
theorem out_record {base body d s : List Nat} (hb : base.length ≤ 2000) (hB : body.length ≤ 2000) (hl : ∀ x ∈ base, x < 256) (hd : d.length = body.length) (hs : s.length = 4) (h : crc d ≠ valL s) :
    OutP (headL 7 [base] ++ (leadL 0 body ++ dig 4 (crc (leadL 0 body)) ++ (d ++ s))) 7 [base] [] (24 + (17 + base.length)) false := by
  obtain ⟨hg, hc, hsz, hdr, hh⟩ := head_facts base (leadL 0 body ++ dig 4 (crc (leadL 0 body)) ++ (d ++ s)) hb
  refine .inr ⟨rfl, ⟨hh, ?_, 0, 0, ⟨rfl, ?_⟩, ?_⟩, hg.symm⟩
  · rw [hdr, hc, hsz]; exact run_one (by omega) hl
  · rw [hdr, hsz, List.drop_left' (frameL_length _ _), List.drop_zero]
    exact frmN (by decide) (by omega) hd hs h
  · rw [hsz]; rfl

/-- Its head turned: no slot. -/
theorem out_head {d s r : List Nat} (hd : d.length = 20) (hs : s.length = 4) (h : crc d ≠ valL s) : OutP (d ++ s ++ r) 0 [] [] 0 true := by
  refine .inl ⟨rfl, .inl ?_, rfl, rfl, rfl, rfl⟩
  unfold headP
  rw [sumN h hs hd]
  simp
end Go.Proofs.YtngmleddlfkecaaDoor
