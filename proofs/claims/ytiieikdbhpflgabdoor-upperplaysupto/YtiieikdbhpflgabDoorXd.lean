import Derived.Test.YtiieikdbhpflgabDoorXc
/-
  DERIVED. lend: the event in new memory says the same.
-/
namespace Go.Proofs.YtiieikdbhpflgabDoor
open Go Go.Proofs Go.RowKit

theorem getD_app (a b : List Nat) (k : Nat) (h : k < a.length) : (a ++ b).getD k 0 = a.getD k 0 := by
  rw [List.getD_eq_getElem?_getD, List.getD_eq_getElem?_getD, List.getElem?_append_left h]
/-- The head of a row that was lent. -/
theorem v_lent {W : World} {B : Nat} {bs : List Nat} {g : Nat} (h : Own W B (.slice (some ⟨g, 0, none⟩) (bs.length + 3) (bs.length + 3)) (bs ++ [160, 161, 162])) : V W (.slice (some ⟨g, 0, none⟩) bs.length (bs.length + 3)) bs := by
  obtain ⟨h1, h2⟩ := h
  have hlen : (bs ++ [160, 161, 162]).length = bs.length + 3 := by simp
  rw [hlen] at h1
  by_cases h0 : bs = []
  · subst h0; exact .inl ⟨_, _, rfl, rfl⟩
  · refine .inr ⟨g, 0, _, rfl, List.length_pos_iff.2 h0, by omega, fun k hk => ?_, fun x hx => h2 x (List.mem_append_left _ hx)⟩
    rw [Nat.zero_add, h1.cellAt k (by omega), u8s_get _ k (by simp; omega), getD_app _ _ _ hk]
theorem lent_own {W : World} {B g b : Nat} {bs : List Nat} (h : Own W B (.slice (some ⟨g, 0, none⟩) (bs.length + 3) (bs.length + 3)) (bs ++ [160, 161, 162])) (e : (Value.slice (some ⟨g, 0, none⟩) bs.length (bs.length + 3)).ownBlock = some b) : g ≤ b ∧ b < W.heap.size := by
  obtain rfl : g = b := by simpa [Value.ownBlock] using e
  exact ⟨Nat.le_refl _, (h.1.lt g rfl).2⟩
/-- What lend leaves. -/
def LendP (w : World) (EV : Array Value) (kd k1 k2 : Int) (c1 c2 : Fin 18 → Value) (D1 D2 : PdD) (e : Ending) (w' : World) : Prop :=
  ∃ Q c3 c4, e = .returned (.agg Q) ∧ EvX w' Q kd k1 c3 D1 k2 c4 D2 ∧ Q[20]? = EV[20]? ∧ Q[40]? = EV[40]? ∧ (∀ i, i ≠ 4 → i ≠ 12 → i ≠ 13 → i ≠ 17 → c3 i = c1 i ∧ c4 i = c2 i) ∧ Below w.heap.size w w'
set_option maxRecDepth 100000 in
set_option maxHeartbeats 4000000 in
theorem lend_evx (w : World) (EV : Array Value) (kd k1 k2 : Int) (c1 c2 : Fin 18 → Value) (D1 D2 : PdD) (hE : EvX w EV kd k1 c1 D1 k2 c2 D2) :
    Calls Tryd.prog 7 #[.agg EV] w (LendP w EV kd k1 k2 c1 c2 D1 D2) := by
  have hsE : (Tryd.prog.info? 48).map (·.size) = some EV.size := by rw [hE.sz]; exact size50
  obtain ⟨W2, hW2⟩ : ∃ W2, ((w.alloc (.cells EV 48)).alloc (.cells #[.int .i64 0, .int .i64 0, .int .u16 0, .string ⟨#[]⟩, .string ⟨#[]⟩, .string ⟨#[]⟩, .slice none 0 0, .bool false, .int .u32 0, .string ⟨#[]⟩, .string ⟨#[]⟩, .bool false, .int .u16 0, .int .u16 0, .slice none 0 0, .slice none 0 0, .int .u8 0, .int .u8 0, .int .u8 0, .slice none 0 0, .bool false, .int .i64 0, .int .u16 0, .string ⟨#[]⟩, .string ⟨#[]⟩, .string ⟨#[]⟩, .slice none 0 0, .bool false, .int .u32 0, .string ⟨#[]⟩, .string ⟨#[]⟩, .bool false, .int .u16 0, .int .u16 0, .slice none 0 0, .slice none 0 0, .int .u8 0, .int .u8 0, .int .u8 0, .slice none 0 0, .int .u8 0] 48)).alloc (.cells #[.int .i64 0, .int .i64 0, .int .u16 0, .string ⟨#[]⟩, .string ⟨#[]⟩, .string ⟨#[]⟩, .slice none 0 0, .bool false, .int .u32 0, .string ⟨#[]⟩, .string ⟨#[]⟩, .bool false, .int .u16 0, .int .u16 0, .slice none 0 0, .slice none 0 0, .int .u8 0, .int .u8 0, .int .u8 0, .slice none 0 0, .bool false, .int .i64 0, .int .u16 0, .string ⟨#[]⟩, .string ⟨#[]⟩, .string ⟨#[]⟩, .slice none 0 0, .bool false, .int .u32 0, .string ⟨#[]⟩, .string ⟨#[]⟩, .bool false, .int .u16 0, .int .u16 0, .slice none 0 0, .slice none 0 0, .int .u8 0, .int .u8 0, .int .u8 0, .slice none 0 0, .int .u8 0] 48) = W2 := ⟨_, rfl⟩
  obtain ⟨W3, hW3⟩ : ∃ W3, W2.setRow (w.heap.size + 1 + 1) EV = W3 := ⟨_, rfl⟩
  have hgP : ((w.alloc (.cells EV 48)).alloc (.cells #[.int .i64 0, .int .i64 0, .int .u16 0, .string ⟨#[]⟩, .string ⟨#[]⟩, .string ⟨#[]⟩, .slice none 0 0, .bool false, .int .u32 0, .string ⟨#[]⟩, .string ⟨#[]⟩, .bool false, .int .u16 0, .int .u16 0, .slice none 0 0, .slice none 0 0, .int .u8 0, .int .u8 0, .int .u8 0, .slice none 0 0, .bool false, .int .i64 0, .int .u16 0, .string ⟨#[]⟩, .string ⟨#[]⟩, .string ⟨#[]⟩, .slice none 0 0, .bool false, .int .u32 0, .string ⟨#[]⟩, .string ⟨#[]⟩, .bool false, .int .u16 0, .int .u16 0, .slice none 0 0, .slice none 0 0, .int .u8 0, .int .u8 0, .int .u8 0, .slice none 0 0, .int .u8 0] 48)).heap[w.heap.size]? = some (.cells EV 48) := (Below.heap_alloc _ _ _ (by simp)).trans (alloc_new w _)
  have hgQ : W2.heap[w.heap.size + 1 + 1]? = some (.cells #[.int .i64 0, .int .i64 0, .int .u16 0, .string ⟨#[]⟩, .string ⟨#[]⟩, .string ⟨#[]⟩, .slice none 0 0, .bool false, .int .u32 0, .string ⟨#[]⟩, .string ⟨#[]⟩, .bool false, .int .u16 0, .int .u16 0, .slice none 0 0, .slice none 0 0, .int .u8 0, .int .u8 0, .int .u8 0, .slice none 0 0, .bool false, .int .i64 0, .int .u16 0, .string ⟨#[]⟩, .string ⟨#[]⟩, .string ⟨#[]⟩, .slice none 0 0, .bool false, .int .u32 0, .string ⟨#[]⟩, .string ⟨#[]⟩, .bool false, .int .u16 0, .int .u16 0, .slice none 0 0, .slice none 0 0, .int .u8 0, .int .u8 0, .int .u8 0, .slice none 0 0, .int .u8 0] 48) := by
    rw [← hW2]
    have := alloc_new ((w.alloc (.cells EV 48)).alloc (.cells #[.int .i64 0, .int .i64 0, .int .u16 0, .string ⟨#[]⟩, .string ⟨#[]⟩, .string ⟨#[]⟩, .slice none 0 0, .bool false, .int .u32 0, .string ⟨#[]⟩, .string ⟨#[]⟩, .bool false, .int .u16 0, .int .u16 0, .slice none 0 0, .slice none 0 0, .int .u8 0, .int .u8 0, .int .u8 0, .slice none 0 0, .bool false, .int .i64 0, .int .u16 0, .string ⟨#[]⟩, .string ⟨#[]⟩, .string ⟨#[]⟩, .slice none 0 0, .bool false, .int .u32 0, .string ⟨#[]⟩, .string ⟨#[]⟩, .bool false, .int .u16 0, .int .u16 0, .slice none 0 0, .slice none 0 0, .int .u8 0, .int .u8 0, .int .u8 0, .slice none 0 0, .int .u8 0] 48)) (.cells #[.int .i64 0, .int .i64 0, .int .u16 0, .string ⟨#[]⟩, .string ⟨#[]⟩, .string ⟨#[]⟩, .slice none 0 0, .bool false, .int .u32 0, .string ⟨#[]⟩, .string ⟨#[]⟩, .bool false, .int .u16 0, .int .u16 0, .slice none 0 0, .slice none 0 0, .int .u8 0, .int .u8 0, .int .u8 0, .slice none 0 0, .bool false, .int .i64 0, .int .u16 0, .string ⟨#[]⟩, .string ⟨#[]⟩, .string ⟨#[]⟩, .slice none 0 0, .bool false, .int .u32 0, .string ⟨#[]⟩, .string ⟨#[]⟩, .bool false, .int .u16 0, .int .u16 0, .slice none 0 0, .slice none 0 0, .int .u8 0, .int .u8 0, .int .u8 0, .slice none 0 0, .int .u8 0] 48)
    simpa using this
  have HL3 : Hid (LI w (.int .i64 kd) EV #[.int .i64 0, .int .i64 0, .int .u16 0, .string ⟨#[]⟩, .string ⟨#[]⟩, .string ⟨#[]⟩, .slice none 0 0, .bool false, .int .u32 0, .string ⟨#[]⟩, .string ⟨#[]⟩, .bool false, .int .u16 0, .int .u16 0, .slice none 0 0, .slice none 0 0, .int .u8 0, .int .u8 0, .int .u8 0, .slice none 0 0, .bool false, .int .i64 0, .int .u16 0, .string ⟨#[]⟩, .string ⟨#[]⟩, .string ⟨#[]⟩, .slice none 0 0, .bool false, .int .u32 0, .string ⟨#[]⟩, .string ⟨#[]⟩, .bool false, .int .u16 0, .int .u16 0, .slice none 0 0, .slice none 0 0, .int .u8 0, .int .u8 0, .int .u8 0, .slice none 0 0, .int .u8 0] EV W3) := by
    have hb2 : Below w.heap.size w W2 := hW2 ▸ ((((Below.refl _ _).alloc (Nat.le_refl _) _).alloc (by simp) _).alloc (by simp; omega) _)
    have ho : ∀ j, j ≠ w.heap.size + 1 + 1 → W3.heap[j]? = W2.heap[j]? := fun j hj => by
      rw [← hW3]
      unfold World.setRow
      show (W2.heap.modify _ _)[j]? = _
      rw [Array.getElem?_modify, if_neg (Ne.symm hj)]
    refine ⟨hW3 ▸ below_setRow hb2 (by omega) _, (ho _ (by omega)).trans ?_, (ho _ (by omega)).trans ?_, hW3 ▸ setRow_heap W2 _ _ _ _ _ hgQ, hE.sz, hE.kd, hE.one⟩
    · rw [← hW2]; exact (Below.heap_alloc _ _ _ (by simp; omega)).trans hgP
    · rw [← hW2]
      have := alloc_new (w.alloc (.cells EV 48)) (.cells #[.int .i64 0, .int .i64 0, .int .u16 0, .string ⟨#[]⟩, .string ⟨#[]⟩, .string ⟨#[]⟩, .slice none 0 0, .bool false, .int .u32 0, .string ⟨#[]⟩, .string ⟨#[]⟩, .bool false, .int .u16 0, .int .u16 0, .slice none 0 0, .slice none 0 0, .int .u8 0, .int .u8 0, .int .u8 0, .slice none 0 0, .bool false, .int .i64 0, .int .u16 0, .string ⟨#[]⟩, .string ⟨#[]⟩, .string ⟨#[]⟩, .slice none 0 0, .bool false, .int .u32 0, .string ⟨#[]⟩, .string ⟨#[]⟩, .bool false, .int .u16 0, .int .u16 0, .slice none 0 0, .slice none 0 0, .int .u8 0, .int .u8 0, .int .u8 0, .slice none 0 0, .int .u8 0] 48)
      exact (Below.heap_alloc _ _ _ (by simp)).trans (by simpa using this)
  have hone := hE.one
  obtain ⟨fs, hu⟩ := hu50
  obtain ⟨fs4, hu4⟩ := hu40
  have hold : (#[.int .i64 0, .int .i64 0, .int .u16 0, .string ⟨#[]⟩, .string ⟨#[]⟩, .string ⟨#[]⟩, .slice none 0 0, .bool false, .int .u32 0, .string ⟨#[]⟩, .string ⟨#[]⟩, .bool false, .int .u16 0, .int .u16 0, .slice none 0 0, .slice none 0 0, .int .u8 0, .int .u8 0, .int .u8 0, .slice none 0 0, .bool false, .int .i64 0, .int .u16 0, .string ⟨#[]⟩, .string ⟨#[]⟩, .string ⟨#[]⟩, .slice none 0 0, .bool false, .int .u32 0, .string ⟨#[]⟩, .string ⟨#[]⟩, .bool false, .int .u16 0, .int .u16 0, .slice none 0 0, .slice none 0 0, .int .u8 0, .int .u8 0, .int .u8 0, .slice none 0 0, .int .u8 0] : Array Value).size = EV.size := by rw [hE.sz]; rfl
  have r3 : W3.rangeAt w.heap.size 1 (Pd k1 c1).toList := fun j v hv => by rw [cell_of_row W3 _ _ _ _ _ HL3.out.p]; exact hE.pdu j v hv
  have hcp := copyx_any W3 k1 c1 D1 (hE.r1.on HL3.out.below)
  go_enter Tryd.func7, Tryd.ntmps7
  go_wp2_with (first | (refine wpList_load_row rfl 48 (.tmp 1) rfl w.heap.size rfl 48 EV (0, 0) _ hgP hu rfl hsE ?_) | (refine wpList_store_row rfl 48 (.tmp 3) (.tmp 5) rfl (w.heap.size + 1 + 1) EV rfl rfl 48 _ hgQ hsE hold hone ?_) | (refine wpList_load_mid rfl 46 (.tmp 6) rfl w.heap.size 1 rfl (Pd k1 c1).toList _ r3 hu4 rfl (size40 k1 c1) ?_) | (go_at_call 20; refine hcp.mono ?_; refine Stop9.mk ?_))
  rintro e W5 c3 rfl hrv3 hsc3 hb5
  clear hgP hgQ hold hsE hcp r3
  have hZs : (#[.int .i64 0, .int .i64 0, .int .u16 0, .string ⟨#[]⟩, .string ⟨#[]⟩, .string ⟨#[]⟩, .slice none 0 0, .bool false, .int .u32 0, .string ⟨#[]⟩, .string ⟨#[]⟩, .bool false, .int .u16 0, .int .u16 0, .slice none 0 0, .slice none 0 0, .int .u8 0, .int .u8 0, .int .u8 0, .slice none 0 0, .bool false, .int .i64 0, .int .u16 0, .string ⟨#[]⟩, .string ⟨#[]⟩, .string ⟨#[]⟩, .slice none 0 0, .bool false, .int .u32 0, .string ⟨#[]⟩, .string ⟨#[]⟩, .bool false, .int .u16 0, .int .u16 0, .slice none 0 0, .slice none 0 0, .int .u8 0, .int .u8 0, .int .u8 0, .slice none 0 0, .int .u8 0] : Array Value).size = 41 := rfl
  generalize (#[.int .i64 0, .int .i64 0, .int .u16 0, .string ⟨#[]⟩, .string ⟨#[]⟩, .string ⟨#[]⟩, .slice none 0 0, .bool false, .int .u32 0, .string ⟨#[]⟩, .string ⟨#[]⟩, .bool false, .int .u16 0, .int .u16 0, .slice none 0 0, .slice none 0 0, .int .u8 0, .int .u8 0, .int .u8 0, .slice none 0 0, .bool false, .int .i64 0, .int .u16 0, .string ⟨#[]⟩, .string ⟨#[]⟩, .string ⟨#[]⟩, .slice none 0 0, .bool false, .int .u32 0, .string ⟨#[]⟩, .string ⟨#[]⟩, .bool false, .int .u16 0, .int .u16 0, .slice none 0 0, .slice none 0 0, .int .u8 0, .int .u8 0, .int .u8 0, .slice none 0 0, .int .u8 0] : Array Value) = Z at HL3 hZs
  have HL5 : Hid (LI w (.int .i64 kd) EV Z EV W5) := HL3.out.on (hb5.mono HL3.out.size)
  have hth := there_row HL5.out.q 1 19 (by rw [hE.sz]; omega)
  have hpo := pd_one k1 c3 hrv3.one
  obtain ⟨Q6, q1, q2, q3, q4, q5, q6, q7⟩ := setCells_row (Pd k1 c3).toList 1 W5 EV HL5.out.q (fun v hv => Array.all_eq_true_iff_forall_mem.1 hpo v (by simpa using hv)) hone (by omega)
  have hq6 := setCells_rowx (Pd k1 c3).toList 1 W5 EV HL5.out.q (by rw [hE.sz]; show 1 + 19 ≤ 41; omega) Q6 q1
  have HQ6 : Hid ((∀ j, j = 20 ∨ j = 40 → Q6[j]? = EV[j]?) ∧ ∀ j v, (Pd k1 c3).toList[j]? = some v → Q6[1 + j]? = some v) := ⟨fun j hj => hq6.1 j (.inr (by show 1 + 19 ≤ j; omega)), hq6.2⟩
  have hvl : W5.there (w.heap.size + 1 + 1) 1 (Pd k1 c3).toList.length := hth
  have hv19 := World.rangeAt_setCells_same W5 (w.heap.size + 1 + 1) 1 (Pd k1 c3).toList hvl 18 (c3 17) rfl
  obtain ⟨W6, hW6⟩ : ∃ W6, W5.setCells (w.heap.size + 1 + 1) 1 (Pd k1 c3).toList = W6 := ⟨_, rfl⟩
  rw [hW6] at q1 q5 q6 q7 hv19
  have HL6 : Hid (LI w (.int .i64 kd) EV Z Q6 W6) := ⟨HL5.out.below.trans (q6 _ (by omega)), (q5 _ (by omega)).trans HL5.out.p, (q5 _ (by omega)).trans HL5.out.r, q1, q2.trans hE.sz, q3.trans hE.kd, q4⟩
  have r6 : W6.rangeAt w.heap.size 21 (Pd k2 c2).toList := fun j v hv => by rw [cell_of_row W6 _ _ _ _ _ HL6.out.p]; exact hE.ans j v hv
  have hcp2 := copyx_any W6 k2 c2 D2 (hE.r2.on HL6.out.below)
  have HV6 : Hid (OX (w.heap.size + 3) W6 c3 D1) := by
    have hs3 := HL3.out.size
    exact (hrv3.keep (W' := W6) (fun b h1 h2 => q5 b (by omega))).low hs3
  have HSC : Hid (∀ i, i ≠ 4 → i ≠ 12 → i ≠ 13 → i ≠ 17 → c3 i = c1 i) := hsc3
  have hth' : W5.there (w.heap.size + 1 + 1) 1 (Pd k1 c3).size := hth
  have hs40 := size40' k1 c3
  generalize Pd k1 c3 = P3 at hth' hs40 hpo hW6 ⊢
  have HV19 : Hid (W6.cell? ⟨w.heap.size + 1 + 1, 19, none⟩ = some (c3 17)) := hv19
  have HR6 : Hid (W6.rangeAt w.heap.size 21 (Pd k2 c2).toList) := r6
  have HCP2 : Hid (Calls Tryd.prog 20 #[.agg (Pd k2 c2)] W6 fun e w' => ∃ c2_1, e = .returned (.agg (Pd k2 c2_1)) ∧ OX W6.heap.size w' c2_1 D2 ∧ (∀ i, i ≠ 4 → i ≠ 12 → i ≠ 13 → i ≠ 17 → c2_1 i = c2 i) ∧ Below W6.heap.size W6 w') := hcp2
  have HE : Hid (EvX w EV kd k1 c1 D1 k2 c2 D2) := hE
  clear q1 q2 q3 q4 q5 q6 q7 hv19 r6 hcp2 hvl hE hone hth hq6 hsc3
  go_wp2_with (first | (refine wpList_store_mid rfl 46 (.tmp 9) (.tmp 8) rfl (w.heap.size + 1 + 1) 1 P3 rfl rfl hth' hs40 hpo ?_) | (refine wpList_load_mid rfl 46 (.tmp 10) rfl w.heap.size 21 rfl (Pd k2 c2).toList _ HR6.out hu4 rfl (size40 k2 c2) ?_) | (go_at_call 20; refine HCP2.out.mono ?_; refine Stop9.mk ?_))
  rintro e W7 ⟨c4, rfl, hrv4, hsc4, hb7⟩
  have hb67 : Below (w.heap.size + 3) W6 W7 := hb7.mono HL6.out.size
  have HL7 : Hid (LI w (.int .i64 kd) EV Z Q6 W7) := HL6.out.on hb67
  have hth7 := there_row HL7.out.q 21 19 (by rw [HL7.out.sz]; omega)
  have hpo4 := pd_one k2 c4 hrv4.one
  obtain ⟨Q8, q1, q2, q3, q4, q5, q6, q7⟩ := setCells_row (Pd k2 c4).toList 21 W7 Q6 HL7.out.q (fun v hv => Array.all_eq_true_iff_forall_mem.1 hpo4 v (by simpa using hv)) HL7.out.one (by omega)
  have hq8 := setCells_rowx (Pd k2 c4).toList 21 W7 Q6 HL7.out.q (by rw [HL7.out.sz]; show 21 + 19 ≤ 41; omega) Q8 q1
  have HQ8 : Hid ((Q8[20]? = EV[20]? ∧ Q8[40]? = EV[40]?) ∧ (∀ j v, (Pd k1 c3).toList[j]? = some v → Q8[1 + j]? = some v) ∧ (∀ j v, (Pd k2 c4).toList[j]? = some v → Q8[21 + j]? = some v) ∧ ∀ i, i ≠ 4 → i ≠ 12 → i ≠ 13 → i ≠ 17 → c3 i = c1 i ∧ c4 i = c2 i) := by
    refine ⟨⟨(hq8.1 20 (.inl (by omega))).trans (HQ6.out.1 20 (.inl rfl)), (hq8.1 40 (.inr (by show 21 + 19 ≤ 40; omega))).trans (HQ6.out.1 40 (.inr rfl))⟩, fun j v hv => ?_, hq8.2, fun i a1 a2 a3 a4 => ⟨HSC.out i a1 a2 a3 a4, hsc4 i a1 a2 a3 a4⟩⟩
    have hj : j < 19 := (List.getElem?_eq_some_iff.1 hv).1
    exact (hq8.1 (1 + j) (.inl (by omega))).trans (HQ6.out.2 j v hv)
  have hv19b : W7.rangeAt (w.heap.size + 1 + 1) 19 [c3 17] := fun j v hv => by
    match j, hv with
    | 0, hv => simp at hv; subst hv; exact (hb67.cell (p := ⟨w.heap.size + 1 + 1, 19, none⟩) (by show w.heap.size + 1 + 1 < _; omega)).trans HV19.out
  have hv19c := World.rangeAt_setCells_apart hv19b (w.heap.size + 1 + 1) 21 (Pd k2 c4).toList (.inr (.inl (by simp))) 0 (c3 17) rfl
  obtain ⟨W8, hW8⟩ : ∃ W8, W7.setCells (w.heap.size + 1 + 1) 21 (Pd k2 c4).toList = W8 := ⟨_, rfl⟩
  rw [hW8] at q1 q5 q6 q7 hv19c
  have HL8 : Hid (LI w (.int .i64 kd) EV Z Q8 W8) := ⟨HL7.out.below.trans (q6 _ (by omega)), (q5 _ (by omega)).trans HL7.out.p, (q5 _ (by omega)).trans HL7.out.r, q1, q2.trans HL7.out.sz, q3.trans HL7.out.k0, q4⟩
  obtain ⟨xs, ho6, hg6, hsh6⟩ := HV6.out.val.1
  obtain ⟨n, hnl⟩ : ∃ n, D1.vl.length = n := ⟨_, rfl⟩
  have hfit := HV6.out.val.2
  have HNL : Hid (D1.vl.length = n ∧ Fits D1.vl.length 32) := ⟨hnl, hfit⟩
  rw [hnl] at ho6 hfit
  obtain ⟨av, pv, hcv⟩ := owns_slice ho6
  have HC3 : Hid (c3 17 = .slice av n pv) := hcv
  have HNC : Hid (NoCap (.slice av D1.vl.length pv)) := by rw [hnl, ← hcv]; exact NoCap.own ho6
  have hs6 := HL6.out.size
  have hkeep : ∀ b, w.heap.size + 3 ≤ b → b < W6.heap.size → W8.heap[b]? = W6.heap[b]? := fun b h1 h2 => (q5 b (by omega)).trans (hb7.block b h2)
  have HG8 : Hid (VX (w.heap.size + 3) W6.heap.size W8 av D1.vl) := (VX.of (p := pv) (xs := xs) (hcv ▸ ho6) hnl (hcv ▸ hg6) hsh6 (Nat.le_refl _)).same (by have := hb7.size; omega) hkeep
  have HO8 : Hid ((OE (w.heap.size + 3) W8 (c3 4) D1.cx 4 95 ShC ∧ OE (w.heap.size + 3) W8 (c3 12) D1.rl 3 97 ShR ∧ OE (w.heap.size + 3) W8 (c3 13) D1.ot 2 91 ShO) ∧ OX W6.heap.size W8 c4 D2) :=
    ⟨⟨HV6.out.ctx.1.keep hkeep, HV6.out.role.1.keep hkeep, HV6.out.oth.1.keep hkeep⟩, hrv4.keep (fun b h1 h2 => q5 b (by omega))⟩
  have HF8 : Hid ((∀ i, (c3 i).oneCell' = true) ∧ Fits D1.cx.length 48 ∧ Fits D1.rl.length 24 ∧ Fits D1.ot.length 32) := ⟨HV6.out.one, HV6.out.ctx.2, HV6.out.role.2, HV6.out.oth.2⟩
  have HK8 : Hid (w.heap.size + 3 ≤ W6.heap.size ∧ W6.heap.size ≤ W8.heap.size) := ⟨hs6, by have := hb7.size; omega⟩
  clear hs6 hkeep
  have y19 : W8.cell? ⟨w.heap.size + 1 + 1, 19, none⟩ = some (.slice av n pv) := hcv ▸ hv19c
  have hn : n ≤ 4398046510976 := by unfold Fits at hfit; omega
  have hth8 : W7.there (w.heap.size + 1 + 1) 21 (Pd k2 c4).size := hth7
  have hs48 := size40' k2 c4
  generalize Pd k2 c4 = P4 at hth8 hs48 hpo4 hW8 ⊢
  clear q1 q2 q3 q4 q5 q6 q7 hv19b hv19c ho6 hg6 hsh6 HV6 hb7 hb67 hrv4 hrv3 hth7 hq8 hsc4 hcv hnl hth' hs40 hpo hW6 HR6 HCP2 HV19
  go_wp2_with (first | (refine wpList_store_mid rfl 46 (.tmp 13) (.tmp 12) rfl (w.heap.size + 1 + 1) 21 P4 rfl rfl hth8 hs48 hpo4 ?_))
  clear hth8 hs48 hpo4 hW8
  have HY : Hid (W8.cell? ⟨w.heap.size + 1 + 1, 19, none⟩ = some (.slice av n pv)) := y19
  clear y19
  go_loopw [4] (fun x wr => ∃ (j : Nat), x = .int .i64 (j : Int) ∧ j ≤ n ∧ Hid (LI w (.int .i64 kd) EV Z Q8 wr) ∧ Hid (wr.cell? ⟨w.heap.size + 1 + 1, 19, none⟩ = some (.slice av n pv)) ∧ Hid (VX (w.heap.size + 3) W6.heap.size wr av D1.vl) ∧ Hid ((OE (w.heap.size + 3) wr (c3 4) D1.cx 4 95 ShC ∧ OE (w.heap.size + 3) wr (c3 12) D1.rl 3 97 ShR ∧ OE (w.heap.size + 3) wr (c3 13) D1.ot 2 91 ShO) ∧ OX W6.heap.size wr c4 D2)) (fun x _ => n - (intOf x).toNat)
  case atStart => exact ⟨0, rfl, by omega, HL8, HY, HG8, HO8⟩
  case round =>
    clear HL8 HY HG8 HO8
    obtain ⟨j, rfl, hj, HL, HY, HG, HOo⟩ := hrel
    have y19 := HY.out
    by_cases hjn : j < n
    · have hjn2 : ((j : Int) < (n : Int)) := by omega
      have hjx : j < D1.vl.length := by rw [HNL.out.1]; exact hjn
      obtain ⟨g, cur, x, y, z, bs, v, hav, hgB2, hh, hp, ⟨_, _, _, hc3⟩, hV, hbl, hbo⟩ := HG.out j hjx
      have hgB : w.heap.size + 3 ≤ g := hgB2.1
      have hf3 : wr.frozen? ⟨g, j * 4 + 3, none⟩ = false := by simp [World.frozen?, hh]
      have HP : Hid (D1.vl[j].inn = .by bs) := by show D1.vl[j].inn = _; rw [hp]
      have HGH : Hid (wr.heap[g]? = some (.cells cur 78 (0, 0)) ∧ g < W6.heap.size) := ⟨hh, hgB2.2⟩
      have HAV : Hid (av = some ⟨g, 0, none⟩) := hav
      rw [hav] at y19
      clear hav hp hh hgB2
      replace hV := hV.1
      obtain ⟨ao5, cap5, hv3, _, _⟩ := hV.form
      subst hv3
      have hV' : V wr.drew (.slice ao5 bs.length cap5) bs := hV.same (fun b _ => rfl)
      have hln := lend_any hV' hbl
      have hq19 : w.heap.size + 1 + 1 < wr.heap.size := cell_lt y19
      have hgl : g < wr.heap.size := cell_lt hc3
      go_wp2
      go_region_with (go_at_call 21; refine hln.mono ?_; rintro x W9 ⟨rfl, hown9, hb9d⟩; have hb9 : Below wr.heap.size wr W9 := ⟨hb9d.os, hb9d.tape, hb9d.output, hb9d.size, hb9d.block⟩; have z19 := (hb9.cell (p := ⟨w.heap.size + 1 + 1, 19, none⟩) hq19).trans y19; have zc := (hb9.cell (p := ⟨g, j * 4 + 3, none⟩) hgl).trans hc3; have zf := (hb9.frozen (p := ⟨g, j * 4 + 3, none⟩) hgl).trans hf3; have HU9 : Hid ((V W9 (.slice (some ⟨wr.heap.size, 0, none⟩) bs.length (bs.length + 3)) bs ∧ NoCap (.slice (some ⟨wr.heap.size, 0, none⟩) bs.length (bs.length + 3))) ∧ ∀ b, (Value.slice (some ⟨wr.heap.size, 0, none⟩) bs.length (bs.length + 3)).ownBlock = some b → wr.heap.size ≤ b ∧ b < W9.heap.size) := ⟨⟨v_lent hown9, fun n c e => by simp at e⟩, fun b e => lent_own hown9 e⟩)
      all_goals
        go_wp2
        go_roundw
        case rel => exact ⟨j + 1, by go_num, by omega, HL.out.on ((hb9.mono HL.out.size).setCell (p := ⟨g, j * 4 + 3, none⟩) hgB _), (cell_set_off (by omega)).trans (by rw [HAV.out]; exact z19), (by rw [HAV.out]; exact VX.step (HAV.out ▸ HG.out) hb9 (by rw [HNL.out.1]; exact hjn) HP.out HU9.out.1 HU9.out.2 (by have := HK8.out; have := HL.out.size; omega)), ⟨⟨(HOo.out.1.1.on hb9).set105 (by decide) ((hb9.block g hgl).trans HGH.out.1), (HOo.out.1.2.1.on hb9).set105 (by decide) ((hb9.block g hgl).trans HGH.out.1), (HOo.out.1.2.2.on hb9).set105 (by decide) ((hb9.block g hgl).trans HGH.out.1)⟩, (HOo.out.2.keep (W' := W9) (fun b _ h2 => hb9.block b h2)).keep (fun b h1 _ => Below.heap_setCell _ _ _ _ (show b ≠ g by have := HGH.out.2; omega))⟩⟩
        case measure => simp [intOf]; omega
    · have hjn2 : ¬ ((j : Int) < (n : Int)) := by omega
      have hgQ := HL.out.q
      have hgR := HL.out.r
      have hsQ : (Tryd.prog.info? 48).map (·.size) = some Q8.size := by rw [HL.out.sz]; exact size50
      have h1Q := HL.out.one
      go_wp2_with (first | (refine wpList_load_row rfl 48 (.tmp 3) rfl (w.heap.size + 1 + 1) rfl 48 Q8 (0, 0) _ hgQ hu rfl hsQ ?_) | (refine wpList_store_row rfl 48 (.tmp 2) (.tmp 36) rfl (w.heap.size + 1) Q8 rfl rfl 48 _ hgR hsQ (by rw [hZs, HL.out.sz]) h1Q ?_))
      have hh := setRow_heap wr (w.heap.size + 1) _ Q8 48 _ hgR
      have hl := run_loadVar_row (P := Tryd.prog) _ _ _ 48 _ _ _ hh hu rfl hsQ
      have ho : ∀ b, b ≠ w.heap.size + 1 → (wr.setRow (w.heap.size + 1) Q8).heap[b]? = wr.heap[b]? := fun b hb => by
        unfold World.setRow
        show (wr.heap.modify _ _)[b]? = _
        rw [Array.getElem?_modify, if_neg (Ne.symm hb)]
      have hsr : wr.heap.size ≤ (wr.setRow (w.heap.size + 1) Q8).heap.size := by unfold World.setRow; simp
      refine bodyPost_ret (v := .agg Q8) (res_cell (k := 2) Tryd.results7 (by kernel_rfl) hl) rfl ⟨Q8, c3, c4, rfl, ⟨HL.out.sz, HL.out.k0, HL.out.one, HQ8.out.2.1, HQ8.out.2.2.1, ?_, ?_⟩, HQ8.out.1.1, HQ8.out.1.2, HQ8.out.2.2.2, below_setRow HL.out.below (by omega) _⟩
      · refine ⟨HF8.out.1, ⟨(HOo.out.1.1.keep (fun b h1 _ => ho b (by omega))).rd, HF8.out.2.1⟩, ⟨(HOo.out.1.2.1.keep (fun b h1 _ => ho b (by omega))).rd, HF8.out.2.2.1⟩, ⟨(HOo.out.1.2.2.keep (fun b h1 _ => ho b (by omega))).rd, HF8.out.2.2.2⟩, ⟨?_, HNL.out.2⟩⟩
        rw [HC3.out, ← HNL.out.1]
        exact (HG.out.same hsr (fun b h1 _ => ho b (by omega))).rd HNC.out
      · exact (HOo.out.2.keep (fun b h1 _ => ho b (by have := HK8.out.1; omega))).rx
end Go.Proofs.YtiieikdbhpflgabDoor
