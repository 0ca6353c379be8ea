import Derived.Test.YtngmleddlfkecaaDoorU
namespace Go.Proofs.YtngmleddlfkecaaDoor
open Go Go.Proofs Go.RowKit

theorem calls_swap {P : Program} {f : FuncId} {args : Array Value} {w u : World} {v : Ending} (h : Calls P f args w fun e w' => e = v ∧ w' = u) : Calls P f args w fun e w' => e = v ∧ u = w' :=
  h.mono fun _ _ ⟨h1, h2⟩ => ⟨h1, h2.symm⟩

set_option maxRecDepth 100000 in
theorem rscan_gen {w : World} {b off l cap : Nat} {d : List Nat} (h : At w b off d) (hlen : d.length = l) (hc : l ≤ cap) (hl : l ≤ 400000) (h24 : 24 ≤ l) (hm : le (d.take 4) = 21649229) (hs : le ((d.drop 20).take 4) = crc (d.take 20)) (hGb : le ((d.drop 4).take 8) = 0 ∨ 600 < countP d) :
    Calls Tryd.prog 14 #[.slice (some ⟨b, off, none⟩) l cap] w fun e w' => ∃ vf, e = .returned (.tuple #[noScan, vf]) ∧ RFault w' vf 0 43 ∧ Below w.heap.size w w' := by
  obtain ⟨W1, hW1⟩ : ∃ W1, (w.alloc (.cells #[.int .u64 0, .slice none 0 0, .slice none 0 0, .int .i64 0] 34)).alloc (.cells #[.slice none 0 0, .int .i64 0] 41) = W1 := ⟨_, rfl⟩
  have hb1 : Below w.heap.size w W1 := hW1 ▸ ((Below.refl _ _).alloc (Nat.le_refl _) _).alloc (by simp) _
  have HS : Hid (W1.heap.size = w.heap.size + 2) := by rw [← hW1]; show _ = _; simp
  have HRC : Hid (Rc W1 w.heap.size) := by
    rw [← hW1]
    exact ⟨by simp, by simp, by simp, by simp, fun i => by simp⟩
  have HFC : Hid (Fc W1 (w.heap.size + 1)) := by
    rw [← hW1]
    exact ⟨by simp, by simp, fun i => by simp⟩
  have HA : Hid (At W1 b off d) := h.next hb1
  have HL : Hid (d.length = l) := hlen
  have HBy : Hid (∀ x ∈ d, x < 256) := h.2
  obtain ⟨X0, hX0⟩ : ∃ X, le (d.take 4) = X := ⟨_, rfl⟩
  obtain ⟨X20, hX20⟩ : ∃ X, le ((d.drop 20).take 4) = X := ⟨_, rfl⟩
  obtain ⟨Y20, hY20⟩ : ∃ X, crc (d.take 20) = X := ⟨_, rfl⟩
  have hY32 : Y20 < 4294967296 := by rw [← hY20]; exact crc_lt _ (take_lt h.2 20)
  have ewY := wrap_u64_small Y20 (by omega)
  have c0 : ∀ o nn cp m, o = off ∧ nn = 4 ∧ 4 ≤ cp → Calls Tryd.prog 32 #[.slice (some ⟨b, o, none⟩) nn cp] (W1.drewN m) fun e w' => e = .returned (.int .u64 (X0 : Int)) ∧ w' = W1.drewN m := by
    rintro o nn cp m ⟨rfl, rfl, hcp⟩
    rw [← hX0]
    exact rvalue (HA.out.take 4) m (by simp; omega) (by omega) (by omega)
  have c20 : ∀ o nn cp m, o = off + 20 ∧ nn = 4 ∧ 4 ≤ cp → Calls Tryd.prog 32 #[.slice (some ⟨b, o, none⟩) nn cp] (W1.drewN m) fun e w' => e = .returned (.int .u64 (X20 : Int)) ∧ w' = W1.drewN m := by
    rintro o nn cp m ⟨rfl, rfl, hcp⟩
    rw [← hX20]
    exact rvalue ((HA.out.drop 20).take 4) m (by simp; omega) (by omega) (by omega)
  have cs : ∀ m, Calls Tryd.prog 23 #[.slice (some ⟨b, off, none⟩) 20 cap] (W1.drewN m) fun e w' => e = .returned (.int .u32 (Y20 : Int)) ∧ w' = W1.drewN m := by
    intro m
    rw [← hY20]
    exact rsumv (HA.out.take 20) m (by simp; omega) (by omega) (by omega)
  have hd24 : decide ((l : Int) < 24) = false := by simp; omega
  have hcn : ¬ cap = 20 := by omega
  rw [hX0] at hm
  rw [hX20, hY20] at hs
  have hne : ((X0 : Int) != 21649229) = false := by simp; omega
  have hne2 : ((X20 : Int) != (Y20 : Int)) = false := by simp; omega
  obtain ⟨G, hG⟩ : ∃ X, le ((d.drop 4).take 8) = X := ⟨_, rfl⟩
  obtain ⟨N, hN⟩ : ∃ X, countP d = X := ⟨_, rfl⟩
  obtain ⟨S, hS⟩ : ∃ X, sizeP d = X := ⟨_, rfl⟩
  have c4 : ∀ o nn cp m, o = off + 4 ∧ nn = 8 ∧ 8 ≤ cp → Calls Tryd.prog 32 #[.slice (some ⟨b, o, none⟩) nn cp] (W1.drewN m) fun e w' => e = .returned (.int .u64 (G : Int)) ∧ w' = W1.drewN m := by
    rintro o nn cp m ⟨rfl, rfl, hcp⟩
    rw [← hG]
    exact rvalue ((HA.out.drop 4).take 8) m (by simp; omega) (by omega) (by omega)
  have HV12 : Hid (∀ W, At W b off d → ∀ o nn cp m, o = off + 12 ∧ nn = 4 ∧ 4 ≤ cp → Calls Tryd.prog 32 #[.slice (some ⟨b, o, none⟩) nn cp] (W.drewN m) fun e w' => e = .returned (.int .u64 (N : Int)) ∧ w' = W.drewN m) := by
    rintro W hW o nn cp m ⟨rfl, rfl, hcp⟩
    rw [← hN]
    exact rvalue ((hW.drop 12).take 4) m (by simp; omega) (by omega) (by omega)
  have HV16 : Hid (∀ W, At W b off d → ∀ o nn cp m, o = off + 16 ∧ nn = 4 ∧ 4 ≤ cp → Calls Tryd.prog 32 #[.slice (some ⟨b, o, none⟩) nn cp] (W.drewN m) fun e w' => e = .returned (.int .u64 (S : Int)) ∧ w' = W.drewN m) := by
    rintro W hW o nn cp m ⟨rfl, rfl, hcp⟩
    rw [← hS]
    exact rvalue ((hW.drop 16).take 4) m (by simp; omega) (by omega) (by omega)
  have HN : Hid (countP d = N) := hN
  have HSz : Hid (sizeP d = S) := hS
  have hS32 : S < 4294967296 := by rw [← hS]; exact le4_lt h.2 16
  have hN32 : N < 4294967296 := by rw [← hN]; exact le4_lt h.2 12
  have hcn4 : ¬ cap = 4 := by omega
  have hcn12 : ¬ cap = 12 := by omega
  have hcn16 : ¬ cap = 16 := by omega
  rw [hG, hN] at hGb
  clear h hlen hX0 hX20 hY20 hm hs hG hN hS
  go_enter Tryd.func14, Tryd.ntmps14
  go_wp2
  go_quiet (first | (go_at_call 32; refine Calls.quiet_of_same (c0 _ _ _ _ ?_); (focus omega)) | (go_at_call 32; refine Calls.quiet_of_same (c20 _ _ _ _ ?_); (focus omega)) | (go_at_call 23; exact Calls.quiet_of_same (cs _)))
  have c4q := fun o nn cp hh => calls_swap (c4 o nn cp nq hh)
  have hbq : Below W1.heap.size W1 (W1.drewN nq) := below_drewN (Below.refl _ _) nq
  have hsq : (W1.drewN nq).heap.size = w.heap.size + 2 := HS.out
  generalize W1.drewN nq = Wd at c4q hbq hsq ⊢
  have HSQ : Hid (Wd.heap.size = w.heap.size + 2) := hsq
  clear hsq c4 c0 c20 cs
  go_wp2_with (first | (go_at_call 32; refine (c4q _ _ _ ?_).mono ?_; (focus omega); rintro e w' ⟨rfl, rfl⟩) | fail)
  obtain ⟨W2, hW2⟩ : ∃ W2, Wd.alloc (.cells #[.int .u64 (G : Int), .slice none 0 0, .slice none 0 0, .int .i64 0] 34) = W2 := ⟨_, rfl⟩
  rw [hW2]
  have hb2 : Below Wd.heap.size Wd W2 := hW2 ▸ (Below.refl _ _).alloc (Nat.le_refl _) _
  have HS2 : Hid (W2.heap.size = w.heap.size + 3) := by show _ = _; rw [← hW2]; simp [HSQ.out]
  have HB2 : Hid (Below W1.heap.size W1 W2) := hbq.trans (hb2.mono (by rw [HSQ.out, HS.out]; exact Nat.le_refl _))
  have HR2 : Hid (Rc W2 w.heap.size) := HRC.out.next HB2.out
  have HF2 : Hid (Fc W2 (w.heap.size + 1)) := HFC.out.next HB2.out (by rw [HS.out]; omega)
  have HA2 : Hid (At W2 b off d) := HA.out.next HB2.out
  have HSC : Hid (Sc W2 (w.heap.size + 2) (G : Int) (.slice none 0 0) (.slice none 0 0) 0) := by
    have : Sc W2 Wd.heap.size (G : Int) (.slice none 0 0) (.slice none 0 0) 0 := by
      rw [← hW2]
      exact ⟨by simp, by simp, by simp, by simp, fun i => by simp⟩
    rw [HSQ.out] at this
    exact this
  have c12 : ∀ o nn cp, o = off + 12 ∧ nn = 4 ∧ 4 ≤ cp → Calls Tryd.prog 32 #[.slice (some ⟨b, o, none⟩) nn cp] W2 fun e w' => e = .returned (.int .u64 (N : Int)) ∧ W2 = w' := fun o nn cp hh => calls_swap (HV12.out W2 HA2.out o nn cp 0 hh)
  rw [HSQ.out]
  have HBX : Hid (Below w.heap.size w W2) := hb1.trans (HB2.out.mono hb1.size)
  have HSX : Hid (w.heap.size + 2 ≤ W2.heap.size) := by rw [HS2.out]; exact Nat.le_succ _
  obtain ⟨s0, s1, s2, s3, sf⟩ := HSC.out
  clear hb2 hW2 hbq c4q HRC HFC HA HV12
  go_wp2_with (first | (go_at_call 32; refine (c12 _ _ _ ?_).mono ?_; (focus omega); rintro e w' ⟨rfl, rfl⟩) | (go_at_call 33; fail))
  all_goals
    refine (refNo_any _ _ _).mono ?_
    rintro e W9 ⟨g, rfl, hb9, q0, q1, hg, hg9⟩
    have hgl : w.heap.size + 2 ≤ g := by have := HSX.out; omega
    obtain ⟨a0, a1, a2, a3, af⟩ := HR2.out.next hb9
    obtain ⟨f0, f1, ff⟩ := HF2.out.next hb9 (by have := HSX.out; omega)
    go_wp2
    obtain ⟨u0, u1, u2, u3, u4, u5, hRF⟩ := no_stores (c := 43) (cg := 1) ⟨a0, a1, a2, a3, af⟩ ⟨f0, f1, ff⟩ (by omega) (by omega) (by omega) q0 q1
    exact bodyPost_ret (v := .tuple #[noScan, .agg #[.slice (some ⟨g, 0, none⟩) 1 1, .int .i64 43]]) (by simp only [results, Tryd.results14]; simp [go_sem, u0, u1, u2, u3, u4, u5, noScan]) rfl ⟨_, rfl, hRF, no_below (HBX.out.trans (hb9.mono HBX.out.size)) (Nat.le_refl _) (by omega)⟩
end Go.Proofs.YtngmleddlfkecaaDoor
