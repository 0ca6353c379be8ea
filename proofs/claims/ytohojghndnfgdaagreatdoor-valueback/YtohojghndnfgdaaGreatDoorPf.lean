import Derived.Test.YtohojghndnfgdaaGreatDoorPe
/-
  DERIVED. ParseName: the walk.
-/
namespace Go.Proofs.YtohojghndnfgdaaGreatDoor
open Go Go.Proofs Go.RowKit

/-- What ParseName tells. -/
def PNs (s : ByteArray) : Option (Int × Int) × List (List ByteArray) := pn 0 0 (cx s 61 0) []
def z15 : Array Value := #[.string ⟨#[]⟩, .string ⟨#[]⟩, .string ⟨#[]⟩, .string ⟨#[]⟩, .string ⟨#[]⟩, .string ⟨#[]⟩, .string ⟨#[]⟩, .string ⟨#[]⟩, .string ⟨#[]⟩, .string ⟨#[]⟩, .string ⟨#[]⟩, .string ⟨#[]⟩, .string ⟨#[]⟩, .string ⟨#[]⟩, .string ⟨#[]⟩]
theorem z15_is : z15 = a15 [] := by
  unfold z15 a15
  apply congrArg
  rfl
theorem getx (s : ByteArray) (a b j : Nat) (h : a + j < b) (hb : b ≤ s.size) : (s.extract a b).get! j = s.get! (a + j) := by
  have h1 : j < (s.extract a b).size := by rw [ByteArray.size_extract]; omega
  have h2 : a + j < s.size := by omega
  rw [← get_get! _ j h1, ← get_get! s (a + j) h2]
  exact ByteArray.getElem_extract ..
theorem ext_ext (s : ByteArray) (a b : Nat) (h : a + b ≤ s.size) : (s.extract a s.size).extract 0 b = s.extract a (a + b) := by
  rw [ByteArray.extract_extract, Nat.add_zero, Nat.min_eq_left h]
theorem fx_at (s : ByteArray) (c : Nat) : ∀ (n p : Nat), n = s.size - p → fx s c p < s.size → (s.get! (fx s c p)).toNat = c
  | 0, p, hn, h => by
    have := fx_ge s c p
    omega
  | n + 1, p, hn, h => by
    have hp : p < s.size := by omega
    rw [fx_step, if_pos hp] at h ⊢
    by_cases hc : (s.get! p).toNat = c
    · rw [if_pos hc]; exact hc
    · rw [if_neg hc] at h ⊢
      exact fx_at s c n (p + 1) (by omega) h
/-- The place in what is left of the text. -/
theorem fx_shift (s : ByteArray) (c fr : Nat) (h : fr ≤ s.size) : fr + fx (s.extract fr s.size) c 0 = fx s c fr := by
  have hz : (s.extract fr s.size).size = s.size - fr := by rw [ByteArray.size_extract]; omega
  have hge := fx_ge s c fr
  have hle := fx_le s c fr h
  have e : fx (s.extract fr s.size) c 0 = fx s c fr - fr := by
    refine fx_is _ c _ 0 (fx s c fr - fr) rfl (Nat.zero_le _) (by omega) (fun j _ hj => ?_) (fun hk => ?_)
    · rw [getx s fr s.size j (by omega) (Nat.le_refl _)]
      exact fx_no s c _ fr rfl (fr + j) (by omega) (by omega)
    · rw [getx s fr s.size _ (by omega) (Nat.le_refl _), show fr + (fx s c fr - fr) = fx s c fr by omega]
      exact fx_at s c _ fr rfl (by omega)
  omega
theorem PErr.other {W W' : World} {v : Value} {o : Option (Int × Int)} (h : PErr W v o) {B : Nat} {x : ByteArray} (h0 : W.cell? ⟨B, 2, none⟩ = some (.string x)) (hk : ∀ k, k ≠ B → W'.heap[k]? = W.heap[k]?) : PErr W' v o := by
  cases o with
  | none => exact h
  | some y =>
    obtain ⟨q, rfl, h1, h2, h3⟩ := h
    have hne : q ≠ B := by rintro rfl; rw [h0] at h3; simp at h3
    exact ⟨q, rfl, (World.cell?_of_block (w := W) (hk q hne)).trans h1, (World.cell?_of_block (w := W) (hk q hne)).trans h2, (World.cell?_of_block (w := W) (hk q hne)).trans h3⟩
theorem setCells_other (b : Nat) : ∀ (vs : List Value) (o : Nat) (w : World) (k : Nat), k ≠ b → (w.setCells b o vs).heap[k]? = w.heap[k]?
  | [], _, _, _, _ => rfl
  | v :: vs, o, w, k, h => by
    rw [World.setCells, setCells_other b vs (o + 1) _ k h, Below.heap_setCell w ⟨b, o, none⟩ v k h]
theorem below_setRow {w W : World} {B : Nat} (h : Below B w W) (cs : Array Value) : Below B w (W.setRow B cs) :=
  ⟨h.os, h.tape, h.output, by show _ ≤ (W.setRow B cs).heap.size; simp [World.setRow]; exact h.size, fun k hk => (setRow_other W B k cs (by omega)).trans (h.block k hk)⟩
theorem z15_one : z15.all (·.oneCell') = true := by rw [z15_is]; exact a15_one []
theorem z15_size : z15.size = 15 := rfl
theorem row15_new (w : World) : (w.alloc (.cells z15 42)).rowIs w.heap.size 42 15 (f15 []) := by
  rw [z15_is]
  have := World.rowIs_alloc w (a15 []) 42 (f15 []) (fun i hi => by rw [a15_size] at hi; simp [a15, hi])
  rw [a15_size] at this
  exact this

set_option maxRecDepth 100000 in
set_option maxHeartbeats 4000000 in
theorem parse4_any (w : World) (s : ByteArray) (hs : s.size ≤ 140737488351232) : Calls Tryz.prog 9 #[.string s] w fun e w' => ∃ v, e = .returned (.tuple #[.agg (a15 (PNs s).2), v]) ∧ PErr w' v (PNs s).1 ∧ Below w.heap.size w w' := by
  obtain ⟨B, hB⟩ : ∃ B, w.heap.size = B := ⟨_, rfl⟩
  obtain ⟨R1, R2, hR⟩ : ∃ a b, PNs s = (a, b) := ⟨_, _, rfl⟩
  rw [hR]
  have HR0 : Hid (pn 0 0 (cx s 61 0) [] = (R1, R2)) := hR
  clear hR
  dsimp only
  have hz1 : a15 ([] : List (List ByteArray)) = z15 := z15_is.symm
  have HNI : Hid (NI w ((w.alloc (.cells z15 42)).alloc (.cells z15 42)) B []) := by
    have r1 := row15_new w
    have r2 := row15_new (w.alloc (.cells z15 42))
    rw [World.size_alloc, hB] at r2
    rw [hB] at r1
    exact ⟨r1.alloc _, r2, ((Below.refl _ w).alloc (by omega) _).alloc (by simp; omega) _⟩
  go_enter Tryz.func9, Tryz.ntmps9
  go_wp2
  go_loopg [5, 6, 7] 4 (fun g s5 s6 s7 wx => ∃ (fr : Nat) (more : Bool) (acc : List (List ByteArray)) (Gs : List ByteArray), s5 = .int .i64 (fr : Int) ∧ s6 = .bool more ∧ s7 = .int .i64 (acc.length : Int) ∧ g + acc.length = 4 ∧ acc.length ≤ 3 ∧ fr ≤ s.size + 1 ∧ Hid (more = true → fr ≤ s.size ∧ Gs = cx s 61 fr) ∧ Hid (more = false → Gs = []) ∧ Hid (pn acc.length fr Gs acc = (R1, R2)) ∧ Hid (acc.length = 0 ∨ 1 ≤ fr) ∧ Hid (NI w wx B acc))
  case atStart =>
    exact ⟨0, true, [], cx s 61 0, rfl, rfl, rfl, rfl, by show 0 ≤ 3; omega, by omega, fun _ => ⟨Nat.zero_le _, rfl⟩, (fun h => by cases h), HR0, Or.inl rfl, HNI⟩
  case round =>
    clear HNI
    obtain ⟨fr, more, acc, Gs, rfl, rfl, rfl, hg, hl3, hfr, HM, HN, HP, H1, HI⟩ := hrel
    cases more with
    | false =>
      have hP := HP.out
      rw [HN.out rfl, pn] at hP
      obtain ⟨rfl, rfl⟩ := Prod.mk.inj hP
      have k1 := row_block HI.out.prt
      have k0 := row_block HI.out.res
      have HB2 : Hid (Below B w (wr.setRow B (a15 acc))) := below_setRow HI.out.bel _
      have K2 : Hid ((wr.setRow B (a15 acc)).heap[B]? = some (.cells (a15 acc) 42 (0, 0))) := setRow_heap wr B (a15 []) (a15 acc) 42 (0, 0) k0
      have hz : (a15 ([] : List (List ByteArray))).size = (a15 acc).size := by rw [a15_size, a15_size]
      have ho := a15_one acc
      have hi5 : (Tryz.prog.info? 42).map (·.size) = some (a15 acc).size := by rw [a15_size]; exact info25
      clear hP HP HN HM H1
      obtain ⟨A, hA⟩ : ∃ A, a15 acc = A := ⟨_, rfl⟩
      have HA : Hid (a15 acc = A) := hA
      rw [hA] at k1 HB2 K2 hz ho hi5
      clear hA
      go_wp2_with (first | (refine wpList_load_row rfl 42 (.tmp 4) rfl (B + 1) rfl 42 A (0, 0) _ k1 Tryz.underlying42 rfl hi5 ?_) | (refine wpList_store_rowTo rfl 42 (.tmp 2) (.tmp 46) rfl rfl B A rfl rfl 42 _ k0 hi5 hz ho ?_))
      refine bodyPost_ret (v := .tuple #[.agg A, .nilIface]) (results_row_slot Tryz.results9 _ _ B 42 A (0, 0) _ rfl K2.out _ rfl Tryz.underlying42 rfl hi5) rfl ⟨_, by rw [HA.out], rfl, by rw [hB]; exact HB2.out⟩
    | true =>
      obtain ⟨hfs, hGs⟩ := HM.out rfl
      have hcx : ∃ rest, cx s 61 fr = s.extract fr (fx s 61 fr) :: rest ∧ (fx s 61 fr < s.size → rest = cx s 61 (fx s 61 fr + 1)) ∧ (¬ fx s 61 fr < s.size → rest = []) := by
        by_cases hm : fx s 61 fr < s.size
        · exact ⟨_, cx_more s 61 fr hm, fun _ => rfl, fun h => absurd hm h⟩
        · refine ⟨[], ?_, fun h => absurd h hm, fun _ => rfl⟩
          have := fx_le s 61 fr hfs
          rw [cx_last s 61 fr hm, show fx s 61 fr = s.size by omega]
      obtain ⟨rest, hc1, hc2, hc3⟩ := hcx
      have hP := HP.out
      rw [hGs, hc1, pn] at hP
      by_cases h3 : acc.length = 3
      · rw [if_pos h3] at hP
        obtain ⟨rfl, rfl⟩ := Prod.mk.inj hP
        have e3 : ((acc.length : Int) == 3) = true := by rw [h3]; rfl
        have hfr1 : 1 ≤ fr := by rcases H1.out with h | h <;> omega
        have c9 := refusal_any ((fr : Int) - 1) 104 wr
        clear HP HN HM hP hGs hc1 hc2 hc3 H1
        go_wp2_with (go_at_call 15; refine Stop.mk ?_)
        refine Stop.out (c9.mono ?_)
        rintro e W1 ⟨v, rfl, hv, hb⟩
        have HI1 : Hid (NI w W1 B acc) := HI.out.on hb
        have k0 := row_block HI1.out.res
        rw [hz1] at k0
        have HV : Hid (PErr (W1.setRow B z15) v (some ((fr : Int) - 1, 104))) := hv.other (HI1.out.res.cell (i := 2) (by omega)) (fun k hk => setRow_other W1 B k z15 hk)
        have HB2 : Hid (Below B w (W1.setRow B z15)) := below_setRow HI1.out.bel _
        have K2 : Hid ((W1.setRow B z15).heap[B]? = some (.cells z15 42 (0, 0))) := setRow_heap W1 B z15 z15 42 (0, 0) k0
        clear c9 hv hb HI HI1
        have zo := z15_one
        go_wp2_with (refine wpList_store_rowTo rfl 42 (.tmp 2) (.tmp 15) rfl rfl B z15 rfl rfl 42 _ k0 info25 rfl zo ?_)
        refine bodyPost_ret (v := .tuple #[.agg z15, v]) (results_row_slot Tryz.results9 _ _ B 42 z15 (0, 0) _ rfl K2.out _ rfl Tryz.underlying42 rfl info25) rfl ⟨_, by rw [hz1], HV.out, by rw [hB]; exact HB2.out⟩
      · rw [if_neg h3] at hP
        have e3 : ((acc.length : Int) == 3) = false := by simpa using (by omega : ¬ (acc.length : Int) = 3)
        have hl : acc.length < 3 := by omega
        have hlI : (acc.length : Int) < 3 := by omega
        have b1 : (fr : Int) ≤ (s.size : Int) := by omega
        obtain ⟨u, hu⟩ : ∃ u, s.extract fr s.size = u := ⟨_, rfl⟩
        have hus : u.size = s.size - fr := by rw [← hu, ByteArray.size_extract]; omega
        have hsh := fx_shift s 61 fr hfs
        rw [hu] at hsh
        have hul := fx_le u 61 0 (Nat.zero_le _)
        have HUs : Hid (u.size = s.size - fr) := hus
        have hus2 : u.size ≤ 140737488351232 := by omega
        have c10 := cut10_any wr u (by omega)
        have hGe : u.extract 0 (fx u 61 0) = s.extract fr (fx s 61 fr) := by rw [← hu, ext_ext s fr _ (by rw [hu]; omega), hu, hsh]
        obtain ⟨G, hG⟩ : ∃ G, u.extract 0 (fx u 61 0) = G := ⟨_, rfl⟩
        rw [← hGe, hG] at hP
        have hGz : G.size = fx u 61 0 := by rw [← hG, ByteArray.size_extract]; omega
        obtain ⟨m, hm⟩ : ∃ m, decide (fx u 61 0 < u.size) = m := ⟨_, rfl⟩
        have HM2 : Hid (m = true → fr + G.size + 1 ≤ s.size ∧ rest = cx s 61 (fr + G.size + 1)) := fun hmt => by
          have h1 : fx u 61 0 < u.size := of_decide_eq_true (hm.trans hmt)
          have h2 : fr + G.size = fx s 61 fr := by rw [hGz]; exact hsh
          exact ⟨by omega, by rw [h2]; exact hc2 (by omega)⟩
        have HN2 : Hid (m = false → rest = []) := fun hmf => by
          have h1 : ¬ fx u 61 0 < u.size := of_decide_eq_false (hm.trans hmf)
          exact hc3 (by omega)
        have HPh : Hid _ := hP
        have hGb : fr + G.size ≤ s.size := by omega
        have HGM : Hid (u.extract 0 (fx u 61 0) = G ∧ decide (fx u 61 0 < u.size) = m) := ⟨hG, hm⟩
        clear HM HN hP hGe hG hm hc1 hc2 hc3 hGs hsh hul hGz hus HP
        go_wp2_with (go_at_call 20; refine Stop.mk ?_)
        refine Stop.out (c10.mono ?_)
        rintro e W1 ⟨r, rfl, hb1⟩
        have HI1 : Hid (NI w W1 B acc) := HI.out.on hb1
        rw [HGM.out.1, HGM.out.2]
        have c11 := read11_any W1 G (by omega) fr (by omega)
        clear c10 hb1 HI HGM
        go_wp2_with (go_at_call 21; refine Stop.mk ?_)
        refine Stop.out (c11.mono ?_)
        rintro e W2 ⟨L, v, rfl, hv, hb2, hL⟩
        have HI2 : Hid (NI w W2 B acc) := HI1.out.on hb2
        have ht := HI2.out.there hl
        have HL : Hid _ := hL
        have HV2 : Hid (PErr (W2.setCells (B + 1) (acc.length * 5) (a5 L).toList) v ((gR G).1.map fun x => ((fr : Int) + (x.1 : Int), x.2))) := hv.other (HI2.out.prt.cell (i := 2) (by omega)) (fun k hk => setCells_other (B + 1) _ _ W2 k hk)
        have HI3 : Hid (NI w (W2.setCells (B + 1) (acc.length * 5) (a5 L).toList) B (acc ++ [L])) := HI2.out.put L
        have hone : (a5 L).all (·.oneCell') = true := by simp [a5, Value.oneCell']
        have hsz : (Tryz.prog.info? 39).map (·.size) = some (a5 L).size := info22
        have ht5 : W2.there (B + 1) (acc.length * 5) (a5 L).size := ht
        clear c11 hb2 hv hL HI1 HI2 ht
        generalize a5 L = A5 at *
        obtain ⟨b0, hb0⟩ : ∃ b0, (gR G).1 = b0 := ⟨_, rfl⟩
        rw [hb0] at HV2 HPh HL
        have HB0 : Hid ((gR G).1 = b0) := hb0
        clear hb0
        cases b0 with
        | some x =>
          have hP := HPh.out
          dsimp only at hP
          obtain ⟨rfl, rfl⟩ := Prod.mk.inj hP
          clear hP HPh HL HM2 HN2 H1
          obtain ⟨q, hq, _⟩ := HV2.out
          subst hq
          go_upto_region 12 with (refine wpList_store_mid rfl 39 (.tmp 36) (.tmp 33) rfl (B + 1) (acc.length * 5) A5 rfl rfl ht5 hsz hone ?_)
          generalize W2.setCells (B + 1) (acc.length * 5) A5.toList = W3 at *
          have k0 := row_block HI3.out.res
          rw [hz1] at k0
          have zo := z15_one
          have hvv := HV2.out
          have HV : Hid (PErr (W3.setRow B z15) (.iface 78 (.pointer (some ⟨q, 0, none⟩))) (some ((fr : Int) + (x.1 : Int), x.2))) := hvv.other (HI3.out.res.cell (i := 2) (by omega)) (fun k hk => setRow_other W3 B k z15 hk)
          have HB2 : Hid (Below B w (W3.setRow B z15)) := below_setRow HI3.out.bel _
          have K2 : Hid ((W3.setRow B z15).heap[B]? = some (.cells z15 42 (0, 0))) := setRow_heap W3 B z15 z15 42 (0, 0) k0
          clear hvv HV2 HI3 ht5
          go_wp2_with (refine wpList_store_rowTo rfl 42 (.tmp 2) (.tmp 39) rfl rfl B z15 rfl rfl 42 _ k0 info25 rfl zo ?_)
          refine bodyPost_ret (v := .tuple #[.agg z15, .iface 78 (.pointer (some ⟨q, 0, none⟩))]) (results_row_slot Tryz.results9 _ _ B 42 z15 (0, 0) _ rfl K2.out _ rfl Tryz.underlying42 rfl info25) rfl ⟨_, by rw [hz1], HV.out, by rw [hB]; exact HB2.out⟩
        | none =>
          obtain rfl : v = .nilIface := HV2.out
          have hP := HPh.out
          dsimp only at hP
          have hLL := HL.out rfl
          rw [← hLL] at hP
          have HP3 : Hid (pn (acc ++ [L]).length (fr + G.size + 1) rest (acc ++ [L]) = (R1, R2)) := by show _ = _; rw [List.length_append, List.length_singleton]; exact hP
          have hl4 : (((acc ++ [L]).length : Nat) : Int) = (acc.length : Int) + 1 := by rw [List.length_append, List.length_singleton]; omega
          have hl5 : (acc ++ [L]).length = acc.length + 1 := by rw [List.length_append, List.length_singleton]
          have HL5 : Hid ((acc ++ [L]).length = acc.length + 1) := hl5
          clear hP HPh HL hLL HV2 H1 hl4 hl5
          go_upto_region 12 with (refine wpList_store_mid rfl 39 (.tmp 36) (.tmp 33) rfl (B + 1) (acc.length * 5) A5 rfl rfl ht5 hsz hone ?_)
          generalize W2.setCells (B + 1) (acc.length * 5) A5.toList = W3 at *
          clear ht5
          go_wp2
          go_roundg (4 - (acc.length + 1))
          case measure => omega
          case rel => exact ⟨fr + G.size + 1, m, acc ++ [L], rest, by first | rfl | (simp; omega), rfl, by rw [HL5.out]; first | rfl | simp, by rw [HL5.out]; omega, by rw [HL5.out]; omega, by omega, HM2, HN2, HP3, Or.inr (by omega), HI3⟩
end Go.Proofs.YtohojghndnfgdaaGreatDoor
