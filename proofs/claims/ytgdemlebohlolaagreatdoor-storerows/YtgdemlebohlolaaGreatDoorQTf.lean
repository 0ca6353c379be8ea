import Derived.Test.YtgdemlebohlolaaGreatDoorQTe
/-
  DERIVED. A zone.
-/
namespace Go.Proofs.YtgdemlebohlolaaGreatDoor.Tm
open Go Go.Proofs Go.RowKit

def zC1 (s : ByteArray) (a : Nat) : Nat := cnt s a 2
def zC2 (s : ByteArray) (a : Nat) : Nat := if decide (zC1 s a < 2) = true then 0 else cnt s (a + zC1 s a) 2
def zH (s : ByteArray) (a : Nat) : Nat := nv s a (zC1 s a)
def zM (s : ByteArray) (a : Nat) : Nat := nv s (a + zC1 s a) (zC2 s a)
def zV (s : ByteArray) (a : Nat) (x : Nat) : Int := if x = 45 then - (60 * (zH s a : Int) + (zM s a : Int)) else 60 * (zH s a : Int) + (zM s a : Int)
def zBad (s : ByteArray) (a : Nat) (x : Nat) : Bool := (decide (59 < (zM s a : Int)) || !(decide (-720 ≤ zV s a x) && decide (zV s a x ≤ 840))) || (decide (x = 45) && decide (zV s a x = 0))
def zoS (s : ByteArray) (S : Mst) (x : Nat) : Mst := { S with a := S.a + 1 + zC1 s (S.a + 1) + zC2 s (S.a + 1), b := decide (zC1 s (S.a + 1) < 2) || decide (zC2 s (S.a + 1) < 2), o := nextD S.o (zBad s (S.a + 1) x) S.a, zd := true, z := zV s (S.a + 1) x }
def zoneS (s : ByteArray) (S : Mst) : Mst := if nx s S.a S.b = 43 ∨ nx s S.a S.b = 45 then zoS s S (nx s S.a S.b) else S

theorem nv_lt (s : ByteArray) (a c m : Nat) (hc : c ≤ cnt s a m) : nv s a c < 10 ^ c := by
  have h := valN_lt (s.extract a (a + c)).data.toList 0 (digs_ext s a c m hc)
  unfold nv val
  refine Nat.lt_of_lt_of_le h ?_
  rw [Nat.zero_add, Nat.one_mul]
  refine Nat.pow_le_pow_right (by omega) ?_
  rw [Array.length_toList]
  show (s.extract a (a + c)).size ≤ c
  rw [ByteArray.size_extract]
  omega
theorem zC2_le (s : ByteArray) (a : Nat) : zC2 s a ≤ cnt s (a + zC1 s a) 2 := by
  unfold zC2
  split
  · omega
  · exact Nat.le_refl _
theorem zH_lt (s : ByteArray) (a : Nat) : zH s a < 100 := by
  have h := nv_lt s a (zC1 s a) 2 (Nat.le_refl _)
  have h2 : zC1 s a ≤ 2 := cnt_le s 2 a
  have h3 : 10 ^ zC1 s a ≤ 10 ^ 2 := Nat.pow_le_pow_right (by omega) h2
  unfold zH; omega
theorem zM_lt (s : ByteArray) (a : Nat) : zM s a < 100 := by
  have h := nv_lt s (a + zC1 s a) (zC2 s a) 2 (zC2_le s a)
  have h2 : zC2 s a ≤ 2 := Nat.le_trans (zC2_le s a) (cnt_le s 2 _)
  have h3 : 10 ^ zC2 s a ≤ 10 ^ 2 := Nat.pow_le_pow_right (by omega) h2
  unfold zM; omega
theorem zC_size {s : ByteArray} {a : Nat} (h : a ≤ s.size) : a + zC1 s a ≤ s.size ∧ a + zC1 s a + zC2 s a ≤ s.size := by
  have h1 : a + zC1 s a ≤ s.size := cnt_size s 2 a h
  refine ⟨h1, ?_⟩
  have := zC2_le s a
  have := cnt_size s 2 _ h1
  omega

set_option maxRecDepth 100000 in
theorem isZone_any (w : World) (z : Int) : Calls Tryz.prog 156 #[.int .i64 z] w fun e w' => e = .returned (.bool (decide (-720 ≤ z) && decide (z ≤ 840))) ∧ w = w' := by
  by_cases h1 : -720 ≤ z
  · have a1 : decide (-720 ≤ z) = true := by simpa using h1
    by_cases h2 : z ≤ 840
    · have a2 : decide (z ≤ 840) = true := by simpa using h2
      rw [a1, a2]
      clear h1 h2
      go_enter Tryz.func156, Tryz.ntmps156
      go_wp2
      go_ret
      exact ⟨rfl, rfl⟩
    · have a2 : decide (z ≤ 840) = false := by simpa using h2
      rw [a1, a2]
      clear h1 h2
      go_enter Tryz.func156, Tryz.ntmps156
      go_wp2
      go_ret
      exact ⟨rfl, rfl⟩
  · have a1 : decide (-720 ≤ z) = false := by simpa using h1
    rw [a1, Bool.false_and]
    clear h1
    go_enter Tryz.func156, Tryz.ntmps156
    go_wp2
    go_ret
    exact ⟨rfl, rfl⟩

set_option maxRecDepth 100000 in
set_option maxHeartbeats 2000000 in
theorem zone_no {w : World} {q : Nat} {s : ByteArray} {S : Mst} (h : Ck w q s S) (hx : ¬ (nx s S.a S.b = 43 ∨ nx s S.a S.b = 45)) : Calls Tryz.prog 125 #[.pointer (some ⟨q, 0, none⟩)] w (PostC w q s S) := by
  obtain ⟨f, hf⟩ := h
  obtain ⟨q0, q1, q2⟩ := hf.cur.cells
  have hI := ((idx_sign _ (nx_lt s S.a S.b)).resolve_left (fun h => hx h.1)).2
  have c73 := take_no w q f s S.a S.b hf.cur hf.le _ hI
  have HF : Hid (CkF w q f s S) := hf
  clear hf hI hx
  go_enter Tryz.func125, Tryz.ntmps125
  go_wp2_with (go_at_call 151; refine Stop.mk ?_)
  refine Stop.out (c73.mono ?_)
  rintro e W1 ⟨f1, rfl, hc1, hk1, hg1⟩
  have HR : Hid (PostC w q s S (.returned (.tuple #[])) W1) := ⟨_, rfl, ⟨f1, HF.out.next hc1 HF.out.le hk1 hg1⟩, hg1⟩
  clear hc1 hk1 hg1 c73
  go_wp2
  exact bodyPost_ret (v := .tuple #[]) (by simp [results, go_sem]) rfl HR.out

set_option maxRecDepth 100000 in
set_option maxHeartbeats 4000000 in
theorem zone_43 {w : World} {q : Nat} {s : ByteArray} {S : Mst} (h : Ck w q s S) (hs : s.size ≤ 140737488351232) (hx : nx s S.a S.b = 43) : Calls Tryz.prog 125 #[.pointer (some ⟨q, 0, none⟩)] w (PostC w q s (zoS s S 43)) := by
  obtain ⟨f, hf⟩ := h
  obtain ⟨q0, q1, q2⟩ := hf.cur.cells
  obtain ⟨hSb, hlt⟩ := nx_pos (s := s) (a := S.a) (b := S.b) (by omega)
  have hI := ((idx_sign _ (nx_lt s S.a S.b)).resolve_right (fun h => h.1 (by omega))).2
  have c73 := take_yes w q f s S.a S.b hf.cur hf.le hs _ hI
  rw [hx] at c73
  have HF : Hid (CkF w q f s S) := hf
  obtain ⟨hz1, hz2⟩ := zC_size (s := s) (a := S.a + 1) (by omega)
  have HZ1 : Hid (S.a + 1 + zC1 s (S.a + 1) ≤ s.size) := hz1
  have HZ2 : Hid (S.a + 1 + zC1 s (S.a + 1) + zC2 s (S.a + 1) ≤ s.size) := hz2
  have hHl := zH_lt s (S.a + 1)
  have hMl := zM_lt s (S.a + 1)
  clear hf hI hz1 hz2 q0 q2
  obtain ⟨F, hF⟩ : ∃ F, zoS s S 43 = F := ⟨_, rfl⟩
  rw [hF]
  have HFF : Hid (zoS s S 43 = F) := hF
  clear hF
  go_enter Tryz.func125, Tryz.ntmps125
  go_wp2_with (go_at_call 151; refine Stop.mk ?_)
  refine Stop.out (c73.mono ?_)
  rintro e W1 ⟨f1, rfl, hc1, hk1, hg1⟩
  have K1 : Hid (CkF W1 q f1 s { S with a := S.a + 1, b := S.b }) := HF.out.next hc1 (by omega) hk1 hg1
  have G1 : Hid (w.grownBy W1 (some q)) := hg1
  clear hc1 hk1 hg1 c73 HF q1
  have c76 := number74_any W1 q f1 s (S.a + 1) S.b K1.out.cur K1.out.le hs 2 (by omega) (zC1 s (S.a + 1)) (by rw [hSb]; rfl)
  rw [hSb, Bool.false_or] at c76
  go_wp2_with (go_at_call 155; refine Stop.mk ?_)
  refine Stop.out (c76.mono ?_)
  rintro e W2 ⟨f2, rfl, hc2, hk2, hg2⟩
  have K2 : Hid (CkF W2 q f2 s { S with a := S.a + 1 + zC1 s (S.a + 1), b := decide (zC1 s (S.a + 1) < 2) }) := CkF.next (S := { S with a := S.a + 1, b := S.b }) K1.out hc2 HZ1.out hk2 hg2
  have G2 : Hid (w.grownBy W2 (some q)) := G1.out.trans hg2
  clear hc2 hk2 hg2 c76 K1 G1
  have c76 := number74_any W2 q f2 s (S.a + 1 + zC1 s (S.a + 1)) (decide (zC1 s (S.a + 1) < 2)) K2.out.cur K2.out.le hs 2 (by omega) (zC2 s (S.a + 1)) rfl
  go_wp2_with (go_at_call 155; refine Stop.mk ?_)
  refine Stop.out (c76.mono ?_)
  rintro e W3 ⟨f3, rfl, hc3, hk3, hg3⟩
  have K3 : Hid (CkF W3 q f3 s { S with a := S.a + 1 + zC1 s (S.a + 1) + zC2 s (S.a + 1), b := decide (zC1 s (S.a + 1) < 2) || decide (zC2 s (S.a + 1) < 2) }) := CkF.next (S := { S with a := S.a + 1 + zC1 s (S.a + 1), b := decide (zC1 s (S.a + 1) < 2) }) K2.out hc3 HZ2.out hk3 hg3
  have G3 : Hid (w.grownBy W3 (some q)) := G2.out.trans hg3
  clear hc3 hk3 hg3 c76 K2 G2
  have e1 : nv s (S.a + 1) (zC1 s (S.a + 1)) = zH s (S.a + 1) := rfl
  have e2 : nv s (S.a + 1 + zC1 s (S.a + 1)) (zC2 s (S.a + 1)) = zM s (S.a + 1) := rfl
  rw [e1, e2]
  have hFe : { S with a := S.a + 1 + zC1 s (S.a + 1) + zC2 s (S.a + 1), b := decide (zC1 s (S.a + 1) < 2) || decide (zC2 s (S.a + 1) < 2), o := nextD S.o (zBad s (S.a + 1) 43) S.a, zd := true, z := zV s (S.a + 1) 43 } = F := HFF.out
  have hV : zV s (S.a + 1) 43 = 60 * (zH s (S.a + 1) : Int) + (zM s (S.a + 1) : Int) := by unfold zV; rw [if_neg (by omega)]
  have hB : zBad s (S.a + 1) 43 = ((decide (59 < (zM s (S.a + 1) : Int)) || !(decide (-720 ≤ zV s (S.a + 1) 43) && decide (zV s (S.a + 1) 43 ≤ 840))) || false) := by unfold zBad; simp
  have HV : Hid (zV s (S.a + 1) 43 = 60 * (zH s (S.a + 1) : Int) + (zM s (S.a + 1) : Int)) := hV
  rw [hV] at hB hFe
  clear HFF
  have c68 := fun W => isZone_any W (60 * (zH s (S.a + 1) : Int) + (zM s (S.a + 1) : Int))
  generalize zH s (S.a + 1) = H at *
  generalize zM s (S.a + 1) = M at *
  generalize zBad s (S.a + 1) 43 = BAD at *
  generalize S.a + 1 + zC1 s (S.a + 1) + zC2 s (S.a + 1) = A at *
  generalize (decide (zC1 s (S.a + 1) < 2) || decide (zC2 s (S.a + 1) < 2)) = Bb at *
  have r13 : ∀ W' f' S', CkF W' q f' s S' → W'.cell? ⟨q, 13, none⟩ = some (f' 13) := fun W' f' S' h => h.cur.row.cell (i := 13) (by omega)
  have r14 : ∀ W' f' S', CkF W' q f' s S' → W'.cell? ⟨q, 14, none⟩ = some (f' 14) := fun W' f' S' h => h.cur.row.cell (i := 14) (by omega)
  clear e1 e2 hV HV HZ1 HZ2 hs hlt hSb hx
  have hcases : (BAD = true ∧ (decide (59 < (M : Int)) = true ∨ (decide (59 < (M : Int)) = false ∧ (decide (-720 ≤ (60 * (H : Int) + (M : Int))) && decide ((60 * (H : Int) + (M : Int)) ≤ 840)) = false))) ∨ (BAD = false ∧ decide (59 < (M : Int)) = false ∧ (decide (-720 ≤ (60 * (H : Int) + (M : Int))) && decide ((60 * (H : Int) + (M : Int)) ≤ 840)) = true ∧ True) := by
    rw [hB]
    by_cases h1 : 59 < (M : Int)
    · exact .inl ⟨by simp [h1], .inl (by simp; omega)⟩
    · by_cases h2 : -720 ≤ (60 * (H : Int) + (M : Int)) ∧ (60 * (H : Int) + (M : Int)) ≤ 840
      · exact .inr ⟨by simp; omega, by simp; omega, by simp; omega, trivial⟩
      · refine .inl ⟨?_, .inr ⟨by simp; omega, ?_⟩⟩
        · have : (decide (-720 ≤ (60 * (H : Int) + (M : Int))) && decide ((60 * (H : Int) + (M : Int)) ≤ 840)) = false := by simpa using h2
          rw [this]; simp
        · simpa using h2
  clear hB
  generalize (decide (-720 ≤ (60 * (H : Int) + (M : Int))) && decide ((60 * (H : Int) + (M : Int)) ≤ 840)) = ZB at *
  rcases hcases with ⟨rfl, hcs⟩ | ⟨rfl, hcs⟩
  · have c77 := doubt_any W3 q f3 s A Bb S.o K3.out.cur K3.out.dbt S.a
    have HFe : Hid _ := hFe
    clear hFe
    rcases hcs with i1 | ⟨i1, i2⟩
    all_goals
      go_wp2_with (first | (go_at_call 156; refine (c68 _).mono ?_; rintro e w' ⟨rfl, rfl⟩) | (go_at_call 157; refine Stop.mk ?_))
      refine Stop.out (c77.mono ?_)
      rintro e W4 ⟨f4, v4, rfl, hc4, hk4, hd4, hg4⟩
      have K4 := CkF.doubt K3.out hc4 hk4 hd4 hg4
      have G4 : Hid (w.grownBy W4 (some q)) := G3.out.trans hg4
      have d13 := r13 _ _ _ K4
      have d14 := r14 _ _ _ K4
      have df := fun i => K4.cur.row.frozen i
      have K5 := (K4.set13 true).set14 ((60 * (H : Int) + (M : Int)))
      have HR : Hid (Ck _ q s F) := ⟨_, by rw [← HFe.out]; exact K5⟩
      have G5 : Hid (w.grownBy _ (some q)) := grown_set (grown_set G4.out 13 (.bool true)) 14 (.int .i64 ((60 * (H : Int) + (M : Int))))
      clear c77 c68 r13 r14 hc4 hk4 hd4 hg4 K3 G3 K4 K5 G4
      go_wp2
      exact bodyPost_end (results_none rfl _ _ _) rfl ⟨_, rfl, HR.out, G5.out⟩
  · have HFe : Hid _ := hFe
    clear hFe
    have d13 := r13 _ _ _ K3.out
    have d14 := r14 _ _ _ K3.out
    have df := fun i => K3.out.cur.row.frozen i
    have K5 := (K3.out.set13 true).set14 ((60 * (H : Int) + (M : Int)))
    have HR : Hid (Ck _ q s F) := ⟨_, by rw [← HFe.out]; exact K5⟩
    have G5 : Hid (w.grownBy _ (some q)) := grown_set (grown_set G3.out 13 (.bool true)) 14 (.int .i64 ((60 * (H : Int) + (M : Int))))
    clear r13 r14 K3 G3 K5
    obtain ⟨i1, i2, i3⟩ := hcs
    go_wp2_with (first | (go_at_call 156; refine (c68 _).mono ?_; rintro e w' ⟨rfl, rfl⟩) | fail)
    exact bodyPost_end (results_none rfl _ _ _) rfl ⟨_, rfl, HR.out, G5.out⟩

set_option maxRecDepth 100000 in
set_option maxHeartbeats 4000000 in
theorem zone_45 {w : World} {q : Nat} {s : ByteArray} {S : Mst} (h : Ck w q s S) (hs : s.size ≤ 140737488351232) (hx : nx s S.a S.b = 45) : Calls Tryz.prog 125 #[.pointer (some ⟨q, 0, none⟩)] w (PostC w q s (zoS s S 45)) := by
  obtain ⟨f, hf⟩ := h
  obtain ⟨q0, q1, q2⟩ := hf.cur.cells
  obtain ⟨hSb, hlt⟩ := nx_pos (s := s) (a := S.a) (b := S.b) (by omega)
  have hI := ((idx_sign _ (nx_lt s S.a S.b)).resolve_right (fun h => h.1 (by omega))).2
  have c73 := take_yes w q f s S.a S.b hf.cur hf.le hs _ hI
  rw [hx] at c73
  have HF : Hid (CkF w q f s S) := hf
  obtain ⟨hz1, hz2⟩ := zC_size (s := s) (a := S.a + 1) (by omega)
  have HZ1 : Hid (S.a + 1 + zC1 s (S.a + 1) ≤ s.size) := hz1
  have HZ2 : Hid (S.a + 1 + zC1 s (S.a + 1) + zC2 s (S.a + 1) ≤ s.size) := hz2
  have hHl := zH_lt s (S.a + 1)
  have hMl := zM_lt s (S.a + 1)
  clear hf hI hz1 hz2 q0 q2
  obtain ⟨F, hF⟩ : ∃ F, zoS s S 45 = F := ⟨_, rfl⟩
  rw [hF]
  have HFF : Hid (zoS s S 45 = F) := hF
  clear hF
  go_enter Tryz.func125, Tryz.ntmps125
  go_wp2_with (go_at_call 151; refine Stop.mk ?_)
  refine Stop.out (c73.mono ?_)
  rintro e W1 ⟨f1, rfl, hc1, hk1, hg1⟩
  have K1 : Hid (CkF W1 q f1 s { S with a := S.a + 1, b := S.b }) := HF.out.next hc1 (by omega) hk1 hg1
  have G1 : Hid (w.grownBy W1 (some q)) := hg1
  clear hc1 hk1 hg1 c73 HF q1
  have c76 := number74_any W1 q f1 s (S.a + 1) S.b K1.out.cur K1.out.le hs 2 (by omega) (zC1 s (S.a + 1)) (by rw [hSb]; rfl)
  rw [hSb, Bool.false_or] at c76
  go_wp2_with (go_at_call 155; refine Stop.mk ?_)
  refine Stop.out (c76.mono ?_)
  rintro e W2 ⟨f2, rfl, hc2, hk2, hg2⟩
  have K2 : Hid (CkF W2 q f2 s { S with a := S.a + 1 + zC1 s (S.a + 1), b := decide (zC1 s (S.a + 1) < 2) }) := CkF.next (S := { S with a := S.a + 1, b := S.b }) K1.out hc2 HZ1.out hk2 hg2
  have G2 : Hid (w.grownBy W2 (some q)) := G1.out.trans hg2
  clear hc2 hk2 hg2 c76 K1 G1
  have c76 := number74_any W2 q f2 s (S.a + 1 + zC1 s (S.a + 1)) (decide (zC1 s (S.a + 1) < 2)) K2.out.cur K2.out.le hs 2 (by omega) (zC2 s (S.a + 1)) rfl
  go_wp2_with (go_at_call 155; refine Stop.mk ?_)
  refine Stop.out (c76.mono ?_)
  rintro e W3 ⟨f3, rfl, hc3, hk3, hg3⟩
  have K3 : Hid (CkF W3 q f3 s { S with a := S.a + 1 + zC1 s (S.a + 1) + zC2 s (S.a + 1), b := decide (zC1 s (S.a + 1) < 2) || decide (zC2 s (S.a + 1) < 2) }) := CkF.next (S := { S with a := S.a + 1 + zC1 s (S.a + 1), b := decide (zC1 s (S.a + 1) < 2) }) K2.out hc3 HZ2.out hk3 hg3
  have G3 : Hid (w.grownBy W3 (some q)) := G2.out.trans hg3
  clear hc3 hk3 hg3 c76 K2 G2
  have e1 : nv s (S.a + 1) (zC1 s (S.a + 1)) = zH s (S.a + 1) := rfl
  have e2 : nv s (S.a + 1 + zC1 s (S.a + 1)) (zC2 s (S.a + 1)) = zM s (S.a + 1) := rfl
  rw [e1, e2]
  have hFe : { S with a := S.a + 1 + zC1 s (S.a + 1) + zC2 s (S.a + 1), b := decide (zC1 s (S.a + 1) < 2) || decide (zC2 s (S.a + 1) < 2), o := nextD S.o (zBad s (S.a + 1) 45) S.a, zd := true, z := zV s (S.a + 1) 45 } = F := HFF.out
  have hV : zV s (S.a + 1) 45 = - (60 * (zH s (S.a + 1) : Int) + (zM s (S.a + 1) : Int)) := by unfold zV; rw [if_pos rfl]
  have hB : zBad s (S.a + 1) 45 = ((decide (59 < (zM s (S.a + 1) : Int)) || !(decide (-720 ≤ zV s (S.a + 1) 45) && decide (zV s (S.a + 1) 45 ≤ 840))) || decide (zV s (S.a + 1) 45 = 0)) := by unfold zBad; simp
  have HV : Hid (zV s (S.a + 1) 45 = - (60 * (zH s (S.a + 1) : Int) + (zM s (S.a + 1) : Int))) := hV
  rw [hV] at hB hFe
  clear HFF
  have c68 := fun W => isZone_any W (- (60 * (zH s (S.a + 1) : Int) + (zM s (S.a + 1) : Int)))
  generalize zH s (S.a + 1) = H at *
  generalize zM s (S.a + 1) = M at *
  generalize zBad s (S.a + 1) 45 = BAD at *
  generalize S.a + 1 + zC1 s (S.a + 1) + zC2 s (S.a + 1) = A at *
  generalize (decide (zC1 s (S.a + 1) < 2) || decide (zC2 s (S.a + 1) < 2)) = Bb at *
  have r13 : ∀ W' f' S', CkF W' q f' s S' → W'.cell? ⟨q, 13, none⟩ = some (f' 13) := fun W' f' S' h => h.cur.row.cell (i := 13) (by omega)
  have r14 : ∀ W' f' S', CkF W' q f' s S' → W'.cell? ⟨q, 14, none⟩ = some (f' 14) := fun W' f' S' h => h.cur.row.cell (i := 14) (by omega)
  clear e1 e2 hV HV HZ1 HZ2 hs hlt hSb hx
  have hcases : (BAD = true ∧ (decide (59 < (M : Int)) = true ∨ (decide (59 < (M : Int)) = false ∧ (decide (-720 ≤ (- (60 * (H : Int) + (M : Int)))) && decide ((- (60 * (H : Int) + (M : Int))) ≤ 840)) = false) ∨ (decide (59 < (M : Int)) = false ∧ (decide (-720 ≤ (- (60 * (H : Int) + (M : Int)))) && decide ((- (60 * (H : Int) + (M : Int))) ≤ 840)) = true ∧ ((- (60 * (H : Int) + (M : Int))) == 0) = true))) ∨ (BAD = false ∧ decide (59 < (M : Int)) = false ∧ (decide (-720 ≤ (- (60 * (H : Int) + (M : Int)))) && decide ((- (60 * (H : Int) + (M : Int))) ≤ 840)) = true ∧ ((- (60 * (H : Int) + (M : Int))) == 0) = false ∧ True) := by
    rw [hB]
    by_cases h1 : 59 < (M : Int)
    · exact .inl ⟨by simp [h1], .inl (by simp; omega)⟩
    · by_cases h2 : -720 ≤ (- (60 * (H : Int) + (M : Int))) ∧ (- (60 * (H : Int) + (M : Int))) ≤ 840
      · by_cases h3 : (- (60 * (H : Int) + (M : Int))) = 0
        · exact .inl ⟨by simp [h3], .inr (.inr ⟨by simp; omega, by simp; omega, by simp; omega⟩)⟩
        · exact .inr ⟨by simp; omega, by simp; omega, by simp; omega, by simp; omega, trivial⟩
      · refine .inl ⟨?_, .inr <| .inl ⟨by simp; omega, ?_⟩⟩
        · have : (decide (-720 ≤ (- (60 * (H : Int) + (M : Int)))) && decide ((- (60 * (H : Int) + (M : Int))) ≤ 840)) = false := by simpa using h2
          rw [this]; simp
        · simpa using h2
  clear hB
  generalize (decide (-720 ≤ (- (60 * (H : Int) + (M : Int)))) && decide ((- (60 * (H : Int) + (M : Int))) ≤ 840)) = ZB at *
  rcases hcases with ⟨rfl, hcs⟩ | ⟨rfl, hcs⟩
  · have c77 := doubt_any W3 q f3 s A Bb S.o K3.out.cur K3.out.dbt S.a
    have HFe : Hid _ := hFe
    clear hFe
    rcases hcs with i1 | ⟨i1, i2⟩ | ⟨i1, i2, i3⟩
    all_goals
      go_wp2_with (first | (go_at_call 156; refine (c68 _).mono ?_; rintro e w' ⟨rfl, rfl⟩) | (go_at_call 157; refine Stop.mk ?_))
      refine Stop.out (c77.mono ?_)
      rintro e W4 ⟨f4, v4, rfl, hc4, hk4, hd4, hg4⟩
      have K4 := CkF.doubt K3.out hc4 hk4 hd4 hg4
      have G4 : Hid (w.grownBy W4 (some q)) := G3.out.trans hg4
      have d13 := r13 _ _ _ K4
      have d14 := r14 _ _ _ K4
      have df := fun i => K4.cur.row.frozen i
      have K5 := (K4.set13 true).set14 ((- (60 * (H : Int) + (M : Int))))
      have HR : Hid (Ck _ q s F) := ⟨_, by rw [← HFe.out]; exact K5⟩
      have G5 : Hid (w.grownBy _ (some q)) := grown_set (grown_set G4.out 13 (.bool true)) 14 (.int .i64 ((- (60 * (H : Int) + (M : Int)))))
      clear c77 c68 r13 r14 hc4 hk4 hd4 hg4 K3 G3 K4 K5 G4
      go_wp2
      exact bodyPost_end (results_none rfl _ _ _) rfl ⟨_, rfl, HR.out, G5.out⟩
  · have HFe : Hid _ := hFe
    clear hFe
    have d13 := r13 _ _ _ K3.out
    have d14 := r14 _ _ _ K3.out
    have df := fun i => K3.out.cur.row.frozen i
    have K5 := (K3.out.set13 true).set14 ((- (60 * (H : Int) + (M : Int))))
    have HR : Hid (Ck _ q s F) := ⟨_, by rw [← HFe.out]; exact K5⟩
    have G5 : Hid (w.grownBy _ (some q)) := grown_set (grown_set G3.out 13 (.bool true)) 14 (.int .i64 ((- (60 * (H : Int) + (M : Int)))))
    clear r13 r14 K3 G3 K5
    obtain ⟨i1, i2, i3, i4⟩ := hcs
    go_wp2_with (first | (go_at_call 156; refine (c68 _).mono ?_; rintro e w' ⟨rfl, rfl⟩) | fail)
    exact bodyPost_end (results_none rfl _ _ _) rfl ⟨_, rfl, HR.out, G5.out⟩
end Go.Proofs.YtgdemlebohlolaaGreatDoor.Tm
