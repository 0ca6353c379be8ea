import Derived.Test.YtehgeninocbpeaaGreatDoorXd
import Derived.Test.YtehgeninocbpeaaGreatDoorGE
/-
  DERIVED. The law of the empty key, of names, of lists and of whole pieces.
-/
namespace Go.Proofs.YtehgeninocbpeaaGreatDoor.Tm
open Go Go.Proofs Go.RowKit

theorem spL_app : ∀ (l r : List UInt8), (∀ b ∈ l, b ≠ 92) → Sp.spL (l ++ 92 :: r) = l :: Sp.spL r
  | [], r, _ => by rw [List.nil_append, Sp.spL, if_pos rfl]
  | b :: l, r, h => by
    rw [List.cons_append, Sp.spL, if_neg (h b (by simp)), spL_app l r (fun c hc => h c (List.mem_cons_of_mem _ hc))]
theorem spL_no (l : List UInt8) (h : ∀ b ∈ l, b ≠ 92) : Sp.spL l = [l] := Sp.spL_none l (fun _ hk => h _ (List.mem_of_getElem? hk) rfl)

def nob (x : ByteArray) : Prop := ∀ b ∈ x.data.toList, b ≠ 92
theorem nob_of {x : ByteArray} (h : ¬ ∃ k, k + (⟨#[92]⟩ : ByteArray).size ≤ x.size ∧ ((x.extract k (k + (⟨#[92]⟩ : ByteArray).size)).toList == (⟨#[92]⟩ : ByteArray).toList) = true) : nob x := by
  intro b hb rfl
  obtain ⟨k, hk, e⟩ := List.getElem_of_mem hb
  refine h ⟨k, ?_, ?_⟩
  · rw [Array.length_toList] at hk
    show k + 1 ≤ x.data.size
    omega
  · rw [Gl.toList_eq_data, Gl.toList_eq_data]
    have e2 : (x.extract k (k + (⟨#[92]⟩ : ByteArray).size)).data.toList = [92] := by
      show (x.extract k (k + 1)).data.toList = [92]
      rw [ByteArray.data_extract, Array.toList_extract, List.extract_eq_take_drop]
      rw [Nat.add_sub_cancel_left, List.drop_eq_getElem_cons hk, e]
      rfl
    rw [e2]
    rfl

def q3 (x : ByteArray) : ByteArray := (⟨#[113]⟩ : ByteArray) ++ x ++ ⟨#[92]⟩ ++ x ++ ⟨#[92]⟩ ++ x ++ ⟨#[113]⟩
def q2 (x : ByteArray) : ByteArray := (⟨#[113]⟩ : ByteArray) ++ x ++ ⟨#[92]⟩ ++ x ++ ⟨#[113]⟩
theorem q3_size (x : ByteArray) : (q3 x).size = 3 * x.size + 4 := by
  unfold q3
  simp only [ByteArray.size_append]
  show 1 + x.size + 1 + x.size + 1 + x.size + 1 = _
  omega
theorem q2_size (x : ByteArray) : (q2 x).size = 2 * x.size + 3 := by
  unfold q2
  simp only [ByteArray.size_append]
  show 1 + x.size + 1 + x.size + 1 = _
  omega
theorem no_head {x : ByteArray} (h : nob x) : ∀ b ∈ (113 :: x.data.toList), b ≠ (92 : UInt8) := by
  intro b hb
  rcases List.mem_cons.1 hb with rfl | hb
  · decide
  · exact h b hb
theorem no_tail {x : ByteArray} (h : nob x) : ∀ b ∈ (x.data.toList ++ [113]), b ≠ (92 : UInt8) := by
  intro b hb
  rcases List.mem_append.1 hb with hb | hb
  · exact h b hb
  · rw [List.mem_singleton.1 hb]; decide
theorem sp_q3 (x : ByteArray) (h : nob x) : Sp.spB (q3 x) = [⟨#[113]⟩ ++ x, x, x ++ ⟨#[113]⟩] := by
  have e : (q3 x).data.toList = (113 :: x.data.toList) ++ 92 :: (x.data.toList ++ 92 :: (x.data.toList ++ [113])) := by
    unfold q3
    simp only [ByteArray.data_append, Array.toList_append]
    simp
  unfold Sp.spB
  rw [e, spL_app _ _ (no_head h), spL_app _ _ h, spL_no _ (no_tail h)]
  unfold Sp.bsL
  simp only [List.map_cons, List.map_nil, List.cons.injEq, and_true]
  refine ⟨?_, ?_, ?_⟩ <;> first | trivial | (apply ByteArray.ext; apply Array.ext'; simp [ByteArray.data_append])
theorem sp_q2 (x : ByteArray) (h : nob x) : Sp.spB (q2 x) = [⟨#[113]⟩ ++ x, x ++ ⟨#[113]⟩] := by
  have e : (q2 x).data.toList = (113 :: x.data.toList) ++ 92 :: (x.data.toList ++ [113]) := by
    unfold q2
    simp only [ByteArray.data_append, Array.toList_append]
    simp
  unfold Sp.spB
  rw [e, spL_app _ _ (no_head h), spL_no _ (no_tail h)]
  unfold Sp.bsL
  simp only [List.map_cons, List.map_nil, List.cons.injEq, and_true]
  refine ⟨?_, ?_⟩ <;> (apply ByteArray.ext; apply Array.ext'; simp [ByteArray.data_append])

theorem fits_itself {x u : ByteArray} (hp : Gl.Plain (Gl.ints x)) (ha : Gl.asciiB x = true) (hu : Gl.asciiB u = true) : fits x u = decide (x = u) := by
  unfold fits
  rw [Gl.elems_ascii x ha, Gl.elems_ascii u hu, Gl.gm_itself hp]
  by_cases h : x = u
  · rw [h]; simp
  · rw [decide_eq_false h, decide_eq_false (fun e => h (Gl.ints_inj e))]
theorem fits_longer {x u : ByteArray} (hp : Gl.Plain (Gl.ints x)) (ha : Gl.asciiB x = true) (hu : Gl.asciiB u = true) (h : x.size ≠ u.size) : fits x u = false := by
  rw [fits_itself hp ha hu, decide_eq_false]
  rintro rfl
  exact h rfl

theorem any_q3 (x : ByteArray) (ht : Gl.tameB x = true) (ha : Gl.asciiB x = true) (h : nob x) : (Sp.spB (q3 x)).any (fits x) = true := by
  have hp := (Gl.tame_plain ht).1
  rw [sp_q3 x h]
  simp only [List.any_cons, List.any_nil]
  rw [fits_itself hp ha ha]
  simp
theorem any_q2 (x : ByteArray) (ht : Gl.tameB x = true) (ha : Gl.asciiB x = true) (h : nob x) : (Sp.spB (q2 x)).any (fits x) = false := by
  have hp := (Gl.tame_plain ht).1
  have hq : Gl.asciiB ⟨#[113]⟩ = true := by decide
  rw [sp_q2 x h]
  simp only [List.any_cons, List.any_nil]
  rw [fits_longer hp ha (by rw [Gl.ascii_append, ha, hq]; rfl) (by rw [ByteArray.size_append]; show _ ≠ 1 + _; omega), fits_longer hp ha (by rw [Gl.ascii_append, ha, hq]; rfl) (by rw [ByteArray.size_append]; show _ ≠ _ + 1; omega)]
  rfl

set_option maxRecDepth 100000 in
set_option maxHeartbeats 4000000 in
theorem law_any (w : World) (vr : Int) (v x : ByteArray) (hv : v.size ≤ 8000000) (hx : x.size ≤ 2097152) (hR : Rt w) : Calls Tryz.prog 3 #[.int .i64 vr, .string v, .string x] w fun e w' => e = .returned (.bool true) ∧ Below w.heap.size w w' := by
  have cN := match_none w vr v hv hR
  have cS := fun W h => match_smith W h
  have cC := fun W h => match_ct W h
  have cT := fun W => Gl.tame_any W x hx
  have cA := fun W => Gl.ascii_any W x hx
  have cI := fun W => Gl.inside_any W x ⟨#[92]⟩ hx (by decide)
  have c3 := fun W (hs : x.size ≤ 40) (hk0 : x.size ≠ 0) h => match_pat W 11 (by kernel_rfl) (by kernel_rfl) x (q3 x) hx hk0 (by rw [q3_size]; omega) h
  have c2 := fun W (hs : x.size ≤ 40) (hk0 : x.size ≠ 0) h => match_pat W 11 (by kernel_rfl) (by kernel_rfl) x (q2 x) hx hk0 (by rw [q2_size]; omega) h
  have H3 : Hid _ := c3
  have H2 : Hid _ := c2
  have HR : Hid (Rt w) := hR
  have HI : Hid _ := cI
  clear hR hv hx c3 c2 cI
  go_enter Tryz.func3, Tryz.ntmps3
  go_wp2_with (go_at_call 6; refine Stop.mk ?_)
  refine Stop.out (cN.mono ?_)
  rintro e W1 ⟨rfl, hb1⟩
  have HR1 : Hid (Rt W1) := HR.out.on hb1
  have HB1 : Hid (Below w.heap.size w W1) := hb1
  have c := cS W1 HR1.out
  clear hb1 HR cN cS
  go_wp2_with (go_at_call 6; refine Stop.mk ?_)
  refine Stop.out (c.mono ?_)
  rintro e W2 ⟨rfl, hb2⟩
  have HR2 : Hid (Rt W2) := HR1.out.on hb2
  have HB2 : Hid (Below w.heap.size w W2) := HB1.out.trans (hb2.mono HB1.out.size)
  have c := cC W2 HR2.out
  clear hb2 HR1 HB1 cC
  go_wp2_with (go_at_call 6; refine Stop.mk ?_)
  refine Stop.out (c.mono ?_)
  rintro e W3 ⟨rfl, hb3⟩
  have HR3 : Hid (Rt W3) := HR2.out.on hb3
  have HB3 : Hid (Below w.heap.size w W3) := HB2.out.trans (hb3.mono HB2.out.size)
  clear hb3 HR2 HB2 c
  go_wp2_with (go_at_call 7; refine Stop.mk ?_)
  refine Stop.out ((cT W3).mono ?_)
  rintro e W4 ⟨rfl, rfl⟩
  clear cT
  cases ht : Gl.tameB x with
  | false =>
    go_wp2
    go_ret
    exact ⟨rfl, HB3.out⟩
  | true =>
  have HT : Hid (Gl.tameB x = true) := ht
  clear ht
  go_wp2_with (go_at_call 8; refine Stop.mk ?_)
  refine Stop.out ((cA W3).mono ?_)
  rintro e W4 ⟨rfl, rfl⟩
  clear cA
  cases ha : Gl.asciiB x with
  | false =>
    go_wp2
    go_ret
    exact ⟨rfl, HB3.out⟩
  | true =>
  have HA : Hid (Gl.asciiB x = true) := ha
  clear ha
  go_wp2_with (go_at_call 9; refine Stop.mk ?_)
  refine Stop.out ((HI.out W3).mono ?_)
  rintro e W4 ⟨b, rfl, hi, rfl⟩
  cases b with
  | true =>
    go_wp2
    go_ret
    exact ⟨rfl, HB3.out⟩
  | false =>
  have hno : nob x := nob_of (fun h => by cases hi.2 h)
  by_cases h0 : x.size = 0
  · obtain rfl : x = ⟨#[]⟩ := ByteArray.ext (Array.eq_empty_of_size_eq_zero h0)
    clear hi hno H3 H2 HA HT
    go_wp2
    go_ret
    exact ⟨rfl, HB3.out⟩
  have hke := text_some h0
  have c := H3.out W3 (Gl.tame_plain HT.out).2 h0 HR3.out
  rw [any_q3 x HT.out HA.out hno] at c
  have c2 := fun W h => H2.out W (Gl.tame_plain HT.out).2 h0 h
  rw [any_q2 x HT.out HA.out hno] at c2
  unfold q3 at c
  unfold q2 at c2
  have h40 := (Gl.tame_plain HT.out).2
  have z1 : ((⟨#[113]⟩ : ByteArray) ++ x).size = 1 + x.size := ByteArray.size_append
  have z2 : ((⟨#[113]⟩ : ByteArray) ++ x ++ ⟨#[92]⟩).size = 1 + x.size + 1 := by rw [ByteArray.size_append, z1]; rfl
  have z3 : ((⟨#[113]⟩ : ByteArray) ++ x ++ ⟨#[92]⟩ ++ x).size = 1 + x.size + 1 + x.size := by rw [ByteArray.size_append, z2]
  have z4 : ((⟨#[113]⟩ : ByteArray) ++ x ++ ⟨#[92]⟩ ++ x ++ ⟨#[92]⟩).size = 1 + x.size + 1 + x.size + 1 := by rw [ByteArray.size_append, z3]; rfl
  have z5 : ((⟨#[113]⟩ : ByteArray) ++ x ++ ⟨#[92]⟩ ++ x ++ ⟨#[92]⟩ ++ x).size = 1 + x.size + 1 + x.size + 1 + x.size := by rw [ByteArray.size_append, z4]
  clear hno hi h0 H3 H2 HI HT HA
  go_wp2_with (go_at_call 6; refine Stop.mk ?_)
  refine Stop.out (c.mono ?_)
  rintro e W5 ⟨rfl, hb5⟩
  have HR5 : Hid (Rt W5) := HR3.out.on hb5
  have HB5 : Hid (Below w.heap.size w W5) := HB3.out.trans (hb5.mono HB3.out.size)
  have cc := c2 W5 HR5.out
  clear hb5 HR3 HB3 c c2
  go_wp2_with (go_at_call 6; refine Stop.mk ?_)
  refine Stop.out (cc.mono ?_)
  rintro e W6 ⟨rfl, hb6⟩
  have HB6 : Hid (Below w.heap.size w W6) := HB5.out.trans (hb6.mono HB5.out.size)
  clear hb6 HR5 HB5 cc
  go_wp2
  go_ret
  exact ⟨rfl, HB6.out⟩
end Go.Proofs.YtehgeninocbpeaaGreatDoor.Tm
