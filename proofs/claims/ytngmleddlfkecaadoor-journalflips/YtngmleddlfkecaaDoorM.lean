import Derived.Test.YtngmleddlfkecaaDoorL
import Derived.Laws.BytesArg
namespace Go.Proofs.YtngmleddlfkecaaDoor
open Go Go.Proofs Go.RowKit

def genP (d : List Nat) : Nat := le ((d.drop 4).take 4) + 4294967296 * le ((d.drop 8).take 4)
def countP (d : List Nat) : Nat := le ((d.drop 12).take 4)
def sizeP (d : List Nat) : Nat := le ((d.drop 16).take 4)
def headP (d : List Nat) : Bool := summedP d 20 && decide (d.take 4 = [77, 87, 74, 1]) && decide (genP d ≠ 0) && decide (countP d ≤ 600)

/-- The first four bytes, as a string. -/
def magicS (d : List Nat) : ByteArray := strOfNums ((d.take 4).map Int.ofNat)

theorem map_inj {l1 l2 : List Nat} (h1 : ∀ x ∈ l1, x < 256) (h2 : ∀ x ∈ l2, x < 256) (h : l1.map (fun n => UInt8.ofNat n) = l2.map (fun n => UInt8.ofNat n)) : l1 = l2 := by
  match l1, l2 with
  | [], [] => rfl
  | [], b :: l2 => simp at h
  | a :: l1, [] => simp at h
  | a :: l1, b :: l2 =>
    simp only [List.map_cons, List.cons.injEq] at h
    have ha := h1 a (by simp)
    have hb := h2 b (by simp)
    have e := congrArg UInt8.toNat h.1
    simp at e
    rw [map_inj (fun x hx => h1 x (by simp [hx])) (fun x hx => h2 x (by simp [hx])) h.2, show a = b by omega]

theorem magicS_list (d : List Nat) : (magicS d).toList = (d.take 4).map (fun n => UInt8.ofNat n) := by
  unfold magicS
  rw [ByteArray.toList_eq, strOfNums_data, List.map_map]
  rfl

theorem magic_test {d : List Nat} (hd : ∀ x ∈ d, x < 256) : ((magicS d).toList == [77, 87, 74, 1]) = decide (d.take 4 = [77, 87, 74, 1]) := by
  rw [magicS_list]
  by_cases h : d.take 4 = [77, 87, 74, 1]
  · rw [h]; rfl
  · rw [decide_eq_false h]
    simp only [beq_eq_false_iff_ne, ne_eq]
    intro he
    exact h (map_inj (fun x hx => hd x (List.mem_of_mem_take hx)) (by simp) he)

/-- What the walks behind the first sum go by. -/
theorem head_parts {w : World} {b off l cap : Nat} {d : List Nat} (h : At w b off d) (hT : Tab w) (hlen : d.length = l) (hc : l < cap) (hl : l ≤ 400000) (hS : summedP d 20 = true) :
    (Calls Tryd.prog 44 #[.slice (some ⟨b, off, none⟩) l cap, .int .i64 20] w fun e w' => e = .returned (.tuple #[.slice (some ⟨b, off, none⟩) 20 cap, .bool true]) ∧ ∃ m, w' = w.drewN m) ∧
    (∀ m, (convert 22 9 (.slice (some ⟨b, off, none⟩) 4 cap)).run Tryd.prog (w.drewN m) = .ok (.string (magicS d)) (w.drewN m)) ∧
    (∀ j o nn cp m, o = off + j ∧ 4 ≤ nn ∧ j + nn ≤ 20 ∧ nn ≤ cp → Calls Tryd.prog 45 #[.slice (some ⟨b, o, none⟩) nn cp] (w.drewN m) fun e w' => e = .returned (.int .u32 (le ((d.drop j).take 4) : Nat)) ∧ ∃ k, w' = (w.drewN m).drewN k) ∧ 24 ≤ l := by
  have hd := summedP_len hS
  refine ⟨summed_yes h hT hlen (by omega) (by omega) hS, ?_, ?_, by omega⟩
  · intro m
    refine run_convert_bytes_arg (w.drewN m) 22 5 Tryd.underlying22 Tryd.underlying5 b off 4 cap ((d.take 4).map Int.ofNat) (by simp; omega) ?_ 9 Tryd.underlying9
    intro i hi
    have e : ((d.take 4).map Int.ofNat).getD i 0 = ((d.getD i 0 : Nat) : Int) := by
      have hi2 : i < d.length := by omega
      simp [List.getD_eq_getElem?_getD, hi, List.getElem?_eq_getElem hi2]
    rw [e]
    exact h.1 i (by omega)
  · rintro j o nn cp m ⟨rfl, h4, h8, hcp⟩
    have hv : V (w.drewN m) (.slice (some ⟨b, off + j, none⟩) nn cp) ((d.drop j).take nn) := V.mk ((h.drop j).take nn) (by simp; omega) hcp
    have := get32_any hv (by simp; omega)
    rwa [List.take_take, Nat.min_eq_left h4] at this

def noHead : Value := .tuple #[.int .u64 0, .int .i64 0, .int .u32 0, .bool false]

theorem head_no1 {w : World} {b off l cap : Nat} {d : List Nat} (h : At w b off d) (hT : Tab w) (hlen : d.length = l) (hc : l < cap) (hl : l ≤ 400000) (hS : summedP d 20 = false) :
    Calls Tryd.prog 30 #[.slice (some ⟨b, off, none⟩) l cap] w fun e w' => e = .returned noHead ∧ ∃ m, w' = w.drewN m := by
  have c : Calls Tryd.prog 44 #[.slice (some ⟨b, off, none⟩) l cap, .int .i64 20] w fun e w' => e = .returned (.tuple #[.slice none 0 0, .bool false]) ∧ ∃ m, w' = w.drewN m := summed_no (V.mk h hlen (by omega)) hT (by omega) (n := 20) (by decide) hS
  clear h hT hlen hS
  go_enter Tryd.func30, Tryd.ntmps30
  go_wp2_with (go_at_call 44; refine c.mono ?_; rintro e w' ⟨rfl, m, rfl⟩)
  exact bodyPost_ret (v := noHead) (by simp [results, Tryd.results30, go_sem, noHead]) rfl ⟨rfl, _, rfl⟩

set_option maxRecDepth 100000 in
theorem head_no2 {w : World} {b off l cap : Nat} {d : List Nat} (h : At w b off d) (hT : Tab w) (hlen : d.length = l) (hc : l < cap) (hl : l ≤ 400000) (hS : summedP d 20 = true) (hm : d.take 4 ≠ [77, 87, 74, 1]) :
    Calls Tryd.prog 30 #[.slice (some ⟨b, off, none⟩) l cap] w fun e w' => e = .returned noHead ∧ ∃ m, w' = w.drewN m := by
  obtain ⟨c1, hcv, _, h24⟩ := head_parts h hT hlen hc hl hS
  have hms := magic_test h.2
  rw [decide_eq_false hm] at hms
  obtain ⟨s, hs⟩ : ∃ s, magicS d = s := ⟨_, rfl⟩
  rw [hs] at hcv hms
  clear hs h hT hlen hS hm
  go_enter Tryd.func30, Tryd.ntmps30
  go_wp2_with (go_at_call 44; refine c1.mono ?_; rintro e w' ⟨rfl, m, rfl⟩)
  exact bodyPost_ret (v := noHead) (by simp [results, Tryd.results30, go_sem, noHead]) rfl ⟨rfl, _, rfl⟩

theorem le4_lt {d : List Nat} (h : ∀ x ∈ d, x < 256) (j : Nat) : le ((d.drop j).take 4) < 4294967296 := by
  have := le_lt ((d.drop j).take 4) (fun x hx => h x (List.mem_of_mem_drop (List.mem_of_mem_take hx)))
  refine Nat.lt_of_lt_of_le this ?_
  exact Nat.pow_le_pow_right (n := 256) (i := ((d.drop j).take 4).length) (j := 4) (by decide) (by simp; omega)

theorem gen_fact (a b : Nat) (ha : a < 4294967296) (hb : b < 4294967296) : bits .or .u64 (IntKind.u64.wrap (a : Int)) (IntKind.u64.wrap (IntKind.u64.wrap (b : Int) * 4294967296)) = ((a + 4294967296 * b : Nat) : Int) := by
  have e1 : IntKind.u64.wrap (a : Int) = (a : Int) := by simp [IntKind.wrap, IntKind.bits, IntKind.signed]; omega
  have e2 : IntKind.u64.wrap (b : Int) = (b : Int) := by simp [IntKind.wrap, IntKind.bits, IntKind.signed]; omega
  have e3 : IntKind.u64.wrap ((b : Int) * 4294967296) = ((2 ^ 32 * b : Nat) : Int) := by simp [IntKind.wrap, IntKind.bits, IntKind.signed]; omega
  rw [e1, e2, e3, u64_or_nat _ _ (by omega) (by omega), Nat.or_comm, ← Nat.two_pow_add_eq_or_of_lt (by omega), Nat.add_comm]

set_option maxRecDepth 100000 in
theorem head_no3 {w : World} {b off l cap : Nat} {d : List Nat} (h : At w b off d) (hT : Tab w) (hlen : d.length = l) (hc : l < cap) (hl : l ≤ 400000) (hS : summedP d 20 = true) (hm : d.take 4 = [77, 87, 74, 1]) (hG : genP d = 0) :
    Calls Tryd.prog 30 #[.slice (some ⟨b, off, none⟩) l cap] w fun e w' => e = .returned noHead ∧ ∃ m, w' = w.drewN m := by
  obtain ⟨c1, hcv, cg, h24⟩ := head_parts h hT hlen hc hl hS
  have cg2 := fun m0 => (head_parts (w := w.drewN m0) h hT hlen hc hl hS).2.2.1
  have hms := magic_test h.2
  rw [decide_eq_true hm] at hms
  obtain ⟨s, hs⟩ : ∃ s, magicS d = s := ⟨_, rfl⟩
  rw [hs] at hcv hms
  have c4 := fun m0 => cg2 m0 4
  have c8 := fun m0 => cg2 m0 8
  have c12 := fun m0 => cg2 m0 12
  have c16 := fun m0 => cg2 m0 16
  obtain ⟨X4, h4⟩ : ∃ X, le ((d.drop 4).take 4) = X := ⟨_, rfl⟩
  obtain ⟨X8, h8⟩ : ∃ X, le ((d.drop 8).take 4) = X := ⟨_, rfl⟩
  obtain ⟨X12, h12⟩ : ∃ X, le ((d.drop 12).take 4) = X := ⟨_, rfl⟩
  obtain ⟨X16, h16⟩ : ∃ X, le ((d.drop 16).take 4) = X := ⟨_, rfl⟩
  rw [h4] at c4
  rw [h8] at c8
  rw [h12] at c12
  rw [h16] at c16
  have hgf := gen_fact X4 X8 (by rw [← h4]; exact le4_lt h.2 4) (by rw [← h8]; exact le4_lt h.2 8)
  have hz : X4 + 4294967296 * X8 = 0 := by rw [← h4, ← h8]; exact hG
  rw [hz] at hgf
  clear hs h hT hlen hS hm cg h4 h8 h12 h16 hG cg2 hz
  have e1 : ¬ cap = 4 := by omega
  have e2 : ¬ cap = 8 := by omega
  have e3 : ¬ cap = 12 := by omega
  have e4 : ¬ cap = 16 := by omega
  go_enter Tryd.func30, Tryd.ntmps30
  go_wp2_with (first | (go_at_call 44; refine c1.mono ?_; rintro e w' ⟨rfl, m, rfl⟩) | fail)
  replace c4 := c4 m
  replace c8 := c8 m
  replace c12 := c12 m
  replace c16 := c16 m
  generalize hw1 : w.drewN m = w1 at c4 c8 c12 c16 ⊢
  have HW : Hid (w.drewN m = w1) := hw1
  clear hw1 hcv c1
  go_quiet (first | (go_at_call 45; refine Calls.quiet_of (c4 _ _ _ _ ?_); (focus omega)) | (go_at_call 45; refine Calls.quiet_of (c8 _ _ _ _ ?_); (focus omega)))
  go_wp2_with (first | (go_at_call 45; refine (c12 _ _ _ _ ?_).mono ?_; (focus omega); rintro e w' ⟨rfl, k1, rfl⟩) | fail)
  exact bodyPost_ret (v := noHead) (by simp [results, Tryd.results30, go_sem, noHead]) rfl ⟨rfl, _, (congrArg (fun x => World.drewN x _) HW.out.symm).trans (World.drewN_drewN ..)⟩

set_option maxRecDepth 100000 in
theorem head_no4 {w : World} {b off l cap : Nat} {d : List Nat} (h : At w b off d) (hT : Tab w) (hlen : d.length = l) (hc : l < cap) (hl : l ≤ 400000) (hS : summedP d 20 = true) (hm : d.take 4 = [77, 87, 74, 1]) (hG : genP d ≠ 0) (hC : 600 < countP d) :
    Calls Tryd.prog 30 #[.slice (some ⟨b, off, none⟩) l cap] w fun e w' => e = .returned noHead ∧ ∃ m, w' = w.drewN m := by
  obtain ⟨c1, hcv, cg, h24⟩ := head_parts h hT hlen hc hl hS
  have cg2 := fun m0 => (head_parts (w := w.drewN m0) h hT hlen hc hl hS).2.2.1
  have hms := magic_test h.2
  rw [decide_eq_true hm] at hms
  obtain ⟨s, hs⟩ : ∃ s, magicS d = s := ⟨_, rfl⟩
  rw [hs] at hcv hms
  have c4 := fun m0 => cg2 m0 4
  have c8 := fun m0 => cg2 m0 8
  have c12 := fun m0 => cg2 m0 12
  have c16 := fun m0 => cg2 m0 16
  obtain ⟨X4, h4⟩ : ∃ X, le ((d.drop 4).take 4) = X := ⟨_, rfl⟩
  obtain ⟨X8, h8⟩ : ∃ X, le ((d.drop 8).take 4) = X := ⟨_, rfl⟩
  obtain ⟨X12, h12⟩ : ∃ X, le ((d.drop 12).take 4) = X := ⟨_, rfl⟩
  obtain ⟨X16, h16⟩ : ∃ X, le ((d.drop 16).take 4) = X := ⟨_, rfl⟩
  rw [h4] at c4
  rw [h8] at c8
  rw [h12] at c12
  rw [h16] at c16
  have hgf := gen_fact X4 X8 (by rw [← h4]; exact le4_lt h.2 4) (by rw [← h8]; exact le4_lt h.2 8)
  have hC2 : 600 < X12 := by rw [← h12]; exact hC
  obtain ⟨G, hGe⟩ : ∃ G, X4 + 4294967296 * X8 = G := ⟨_, rfl⟩
  have hG0 : ((G : Int) == 0) = false := by
    have : genP d = G := by rw [← hGe, ← h4, ← h8]; rfl
    simp; omega
  rw [hGe] at hgf
  clear hs h hT hlen hS hm cg h4 h8 h12 h16 hG cg2 hC hGe
  have e1 : ¬ cap = 4 := by omega
  have e2 : ¬ cap = 8 := by omega
  have e3 : ¬ cap = 12 := by omega
  have e4 : ¬ cap = 16 := by omega
  go_enter Tryd.func30, Tryd.ntmps30
  go_wp2_with (first | (go_at_call 44; refine c1.mono ?_; rintro e w' ⟨rfl, m, rfl⟩) | fail)
  replace c4 := c4 m
  replace c8 := c8 m
  replace c12 := c12 m
  replace c16 := c16 m
  generalize hw1 : w.drewN m = w1 at c4 c8 c12 c16 ⊢
  have HW : Hid (w.drewN m = w1) := hw1
  clear hw1 hcv c1
  go_quiet (first | (go_at_call 45; refine Calls.quiet_of (c4 _ _ _ _ ?_); (focus omega)) | (go_at_call 45; refine Calls.quiet_of (c8 _ _ _ _ ?_); (focus omega)))
  go_wp2_with (first | (go_at_call 45; refine (c12 _ _ _ _ ?_).mono ?_; (focus omega); rintro e w' ⟨rfl, k1, rfl⟩) | fail)
  exact bodyPost_ret (v := noHead) (by simp [results, Tryd.results30, go_sem, noHead]) rfl ⟨rfl, _, (congrArg (fun x => World.drewN x _) HW.out.symm).trans (World.drewN_drewN ..)⟩

set_option maxRecDepth 100000 in
/-- readHead: yes. -/
theorem head_yes {w : World} {b off l cap : Nat} {d : List Nat} (h : At w b off d) (hT : Tab w) (hlen : d.length = l) (hc : l < cap) (hl : l ≤ 400000) (hH : headP d = true) :
    Calls Tryd.prog 30 #[.slice (some ⟨b, off, none⟩) l cap] w fun e w' => e = .returned (.tuple #[.int .u64 (genP d : Nat), .int .i64 (countP d : Nat), .int .u32 (sizeP d : Nat), .bool true]) ∧ ∃ m, w' = w.drewN m := by
  unfold headP at hH
  simp only [Bool.and_eq_true, decide_eq_true_eq] at hH
  obtain ⟨⟨⟨hS, hm⟩, hG⟩, hC⟩ := hH
  obtain ⟨c1, hcv, cg, h24⟩ := head_parts h hT hlen hc hl hS
  have cg2 := fun m0 => (head_parts (w := w.drewN m0) h hT hlen hc hl hS).2.2.1
  have hms := magic_test h.2
  rw [decide_eq_true hm] at hms
  obtain ⟨s, hs⟩ : ∃ s, magicS d = s := ⟨_, rfl⟩
  rw [hs] at hcv hms
  have c4 := fun m0 => cg2 m0 4
  have c8 := fun m0 => cg2 m0 8
  have c12 := fun m0 => cg2 m0 12
  have c16 := fun m0 => cg2 m0 16
  obtain ⟨X4, h4⟩ : ∃ X, le ((d.drop 4).take 4) = X := ⟨_, rfl⟩
  obtain ⟨X8, h8⟩ : ∃ X, le ((d.drop 8).take 4) = X := ⟨_, rfl⟩
  obtain ⟨X12, h12⟩ : ∃ X, le ((d.drop 12).take 4) = X := ⟨_, rfl⟩
  obtain ⟨X16, h16⟩ : ∃ X, le ((d.drop 16).take 4) = X := ⟨_, rfl⟩
  rw [h4] at c4
  rw [h8] at c8
  rw [h12] at c12
  rw [h16] at c16
  have hgf := gen_fact X4 X8 (by rw [← h4]; exact le4_lt h.2 4) (by rw [← h8]; exact le4_lt h.2 8)
  have hC2 : X12 ≤ 600 := by rw [← h12]; exact hC
  obtain ⟨G, hGe⟩ : ∃ G, X4 + 4294967296 * X8 = G := ⟨_, rfl⟩
  have hGG : genP d = G := by rw [← hGe, ← h4, ← h8]; rfl
  have hG0 : ((G : Int) == 0) = false := by simp; omega
  rw [hGe] at hgf
  rw [hGG, show countP d = X12 from h12, show sizeP d = X16 from h16]
  clear hs h hT hlen hS hm cg h4 h8 h12 h16 hG cg2 hC hGe hGG
  have e1 : ¬ cap = 4 := by omega
  have e2 : ¬ cap = 8 := by omega
  have e3 : ¬ cap = 12 := by omega
  have e4 : ¬ cap = 16 := by omega
  go_enter Tryd.func30, Tryd.ntmps30
  go_wp2_with (first | (go_at_call 44; refine c1.mono ?_; rintro e w' ⟨rfl, m, rfl⟩) | fail)
  replace c4 := c4 m
  replace c8 := c8 m
  replace c12 := c12 m
  replace c16 := c16 m
  generalize hw1 : w.drewN m = w1 at c4 c8 c12 c16 ⊢
  have HW : Hid (w.drewN m = w1) := hw1
  clear hw1 hcv c1
  go_quiet (first | (go_at_call 45; refine Calls.quiet_of (c4 _ _ _ _ ?_); (focus omega)) | (go_at_call 45; refine Calls.quiet_of (c8 _ _ _ _ ?_); (focus omega)))
  go_wp2_with (first | (go_at_call 45; refine (c12 _ _ _ _ ?_).mono ?_; (focus omega); rintro e w' ⟨rfl, k1, rfl⟩) | (go_at_call 45; refine (c16 _ _ _ _ ?_).mono ?_; (focus omega); rintro e w' ⟨rfl, k2, rfl⟩))
  exact bodyPost_ret (v := .tuple #[.int .u64 (G : Nat), .int .i64 (X12 : Nat), .int .u32 (X16 : Nat), .bool true]) (by simp [results, Tryd.results30, go_sem]) rfl ⟨rfl, _, (congrArg (fun x => World.drewN x _) HW.out.symm).trans (World.drewN_drewN ..)⟩

/-- readHead: no. -/
theorem head_no {w : World} {b off l cap : Nat} {d : List Nat} (h : At w b off d) (hT : Tab w) (hlen : d.length = l) (hc : l < cap) (hl : l ≤ 400000) (hH : headP d = false) :
    Calls Tryd.prog 30 #[.slice (some ⟨b, off, none⟩) l cap] w fun e w' => e = .returned noHead ∧ ∃ m, w' = w.drewN m := by
  by_cases hS : summedP d 20 = true
  · by_cases hm : d.take 4 = [77, 87, 74, 1]
    · by_cases hG : genP d = 0
      · exact head_no3 h hT hlen hc hl hS hm hG
      · refine head_no4 h hT hlen hc hl hS hm hG ?_
        unfold headP at hH
        rw [hS, hm] at hH
        simp [hG] at hH
        exact hH
    · exact head_no2 h hT hlen hc hl hS hm
  · exact head_no1 h hT hlen hc hl (by simpa using hS)
end Go.Proofs.YtngmleddlfkecaaDoor
