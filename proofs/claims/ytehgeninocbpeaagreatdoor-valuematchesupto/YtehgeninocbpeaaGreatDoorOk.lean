import Derived.Test.YtehgeninocbpeaaGreatDoorOe
import Derived.Deep.RegionHeld3
namespace Go.Proofs.YtehgeninocbpeaaGreatDoor.Tm
open Go Go.Proofs Go.RowKit
def mvO (k : Nat) (o : Option (Int × Int)) : Option (Int × Int) := o.map fun x => (x.1 + (k : Int), x.2)
def sh (k : Nat) (S : Mst) : Mst := { S with a := k + S.a, o := mvO k S.o }
theorem nextD_mv (k : Nat) (o : Option (Int × Int)) (bad : Bool) (pl : Nat) : nextD (mvO k o) bad (k + pl) = mvO k (nextD o bad pl) := by
  unfold nextD mvO
  cases bad with
  | false => simp
  | true =>
    cases o with
    | none => simp; omega
    | some x => simp
def suf (s : ByteArray) (k : Nat) : ByteArray := s.extract k s.size
theorem suf_size {s : ByteArray} {k : Nat} (hk : k ≤ s.size) : (suf s k).size = s.size - k := by unfold suf; rw [ByteArray.size_extract]; omega
theorem suf_list (s : ByteArray) (k : Nat) : (suf s k).data.toList = s.data.toList.drop k := by
  unfold suf
  rw [ByteArray.data_extract, Array.toList_extract, List.extract_eq_take_drop]
  apply List.take_of_length_le
  rw [List.length_drop, Array.length_toList]
  exact Nat.le_refl _
theorem suf_get {s : ByteArray} {k i : Nat} (hk : k ≤ s.size) (hi : i < (suf s k).size) : (suf s k).get! i = s.get! (k + i) := by
  have hs := suf_size hk
  have h1 := at_get hi
  rw [suf_list, List.getElem?_drop, at_get (by omega)] at h1
  exact (Option.some.inj h1).symm
theorem suf_isD {s : ByteArray} {k : Nat} (hk : k ≤ s.size) (i : Nat) : isD (suf s k) i = isD s (k + i) := by
  have hs := suf_size hk
  unfold isD
  by_cases hi : i < (suf s k).size
  · rw [suf_get hk hi, decide_eq_true hi, decide_eq_true (show k + i < s.size by omega)]
  · rw [decide_eq_false hi, decide_eq_false (show ¬ k + i < s.size by omega), Bool.false_and, Bool.false_and]
theorem suf_cnt {s : ByteArray} {k : Nat} (hk : k ≤ s.size) : ∀ m i, cnt (suf s k) i m = cnt s (k + i) m
  | 0, i => rfl
  | m + 1, i => by
    have ih := suf_cnt hk m (i + 1)
    simp only [cnt]
    rw [suf_isD hk, ih, Nat.add_assoc]
theorem suf_nv (s : ByteArray) (k i c : Nat) : nv (suf s k) i c = nv s (k + i) c := by
  unfold nv
  congr 1
  rw [ByteArray.data_extract, Array.toList_extract, List.extract_eq_take_drop, suf_list, List.drop_drop]
  rw [ByteArray.data_extract, Array.toList_extract, List.extract_eq_take_drop]
  rw [Nat.add_sub_cancel_left, Nat.add_sub_cancel_left]
theorem suf_nx {s : ByteArray} {k : Nat} (hk : k ≤ s.size) (a : Nat) (b : Bool) : nx (suf s k) a b = nx s (k + a) b := by
  have hs := suf_size hk
  unfold nx
  by_cases h : b = true ∨ ¬ a < (suf s k).size
  · rw [if_pos h, if_pos (by rcases h with h | h; exact .inl h; exact .inr (by omega))]
  · rw [if_neg h, if_neg (by rintro (h1 | h1); exact h (.inl h1); exact h (.inr (by omega)))]
    rw [suf_get hk (by
      rcases Nat.lt_or_ge a (suf s k).size with h1 | h1
      · exact h1
      · exact absurd (.inr (by omega)) h)]
theorem sh_pcC {s : ByteArray} {k : Nat} (hk : k ≤ s.size) (S : Mst) (n : Nat) : pcC s (sh k S) n = pcC (suf s k) S n := by
  show (if S.b = true then 0 else cnt s (k + S.a) n) = (if S.b = true then 0 else cnt (suf s k) S.a n)
  rw [suf_cnt hk]
theorem sh_pcN {s : ByteArray} {k : Nat} (hk : k ≤ s.size) (S : Mst) (n : Nat) : pcN s (sh k S) n = pcN (suf s k) S n := by
  unfold pcN
  rw [sh_pcC hk]
  show nv s (k + S.a) _ = nv (suf s k) S.a _
  rw [suf_nv]
theorem sh_pcO {s : ByteArray} {k : Nat} (hk : k ≤ s.size) (S : Mst) (n : Nat) (lo hi : Int) : pcO s (sh k S) n lo hi = mvO k (pcO (suf s k) S n lo hi) := by
  unfold pcO
  rw [sh_pcN hk]
  exact nextD_mv k S.o _ S.a
theorem sh_year {s : ByteArray} {k : Nat} (hk : k ≤ s.size) (S : Mst) : yearS s (sh k S) = sh k (yearS (suf s k) S) := by
  unfold yearS
  rw [sh_pcC hk, sh_pcN hk, sh_pcO hk]
  unfold sh
  simp only [Nat.add_assoc]
theorem sh_month {s : ByteArray} {k : Nat} (hk : k ≤ s.size) (S : Mst) : monthS s (sh k S) = sh k (monthS (suf s k) S) := by
  unfold monthS
  rw [sh_pcC hk, sh_pcN hk, sh_pcO hk]
  unfold sh
  simp only [Nat.add_assoc]
theorem sh_day {s : ByteArray} {k : Nat} (hk : k ≤ s.size) (S : Mst) : dayS s (sh k S) = sh k (dayS (suf s k) S) := by
  unfold dayS
  rw [sh_pcC hk, sh_pcN hk, sh_pcO hk]
  unfold sh
  simp only [Nat.add_assoc]
theorem sh_hour {s : ByteArray} {k : Nat} (hk : k ≤ s.size) (S : Mst) : hourS s (sh k S) = sh k (hourS (suf s k) S) := by
  unfold hourS
  rw [sh_pcC hk, sh_pcN hk, sh_pcO hk]
  unfold sh
  simp only [Nat.add_assoc]
theorem sh_minute {s : ByteArray} {k : Nat} (hk : k ≤ s.size) (S : Mst) : minuteS s (sh k S) = sh k (minuteS (suf s k) S) := by
  unfold minuteS
  rw [sh_pcC hk, sh_pcN hk, sh_pcO hk]
  unfold sh
  simp only [Nat.add_assoc]
theorem sh_second {s : ByteArray} {k : Nat} (hk : k ≤ s.size) (S : Mst) : secondS s (sh k S) = sh k (secondS (suf s k) S) := by
  unfold secondS
  rw [sh_pcC hk, sh_pcN hk, sh_pcO hk]
  unfold sh
  simp only [Nat.add_assoc]
theorem sh_more {s : ByteArray} {k : Nat} (hk : k ≤ s.size) : ∀ (l1 l2 : List (Mst → Mst)), l1.length = l2.length → (∀ i (h1 : i < l1.length) (h2 : i < l2.length), ∀ S, l1[i] (sh k S) = sh k (l2[i] S)) → ∀ S, moreS s l1 (sh k S) = sh k (moreS (suf s k) l2 S)
  | [], [], _, _, S => rfl
  | t1 :: l1, t2 :: l2, hl, h, S => by
    rw [moreS, moreS]
    have e : (!(sh k S).b && isD s (sh k S).a) = (!S.b && isD (suf s k) S.a) := by
      show (!S.b && isD s (k + S.a)) = _
      rw [suf_isD hk]
    rw [e]
    by_cases hc : (!S.b && isD (suf s k) S.a) = true
    · rw [if_pos hc, if_pos hc]
      have h0 : t1 (sh k S) = sh k (t2 S) := h 0 (by simp) (by simp) S
      rw [h0]
      refine sh_more hk l1 l2 (by simpa using hl) (fun i h1 h2 S => ?_) (t2 S)
      exact h (i + 1) (by simpa using h1) (by simpa using h2) S
    · rw [if_neg hc, if_neg hc]
  | [], t2 :: l2, hl, _, _ => by simp at hl
  | t1 :: l1, [], hl, _, _ => by simp at hl
theorem sh_frac {s : ByteArray} {k : Nat} (hk : k ≤ s.size) (S : Mst) : fracS s (sh k S) = sh k (fracS (suf s k) S) := by
  have ec : frC s (sh k S) = frC (suf s k) S := by
    show cnt s (k + S.a + 1) 6 = cnt (suf s k) (S.a + 1) 6
    rw [suf_cnt hk, Nat.add_assoc]
  have en : nv s ((sh k S).a + 1) (frC (suf s k) S) = nv (suf s k) (S.a + 1) (frC (suf s k) S) := by
    rw [suf_nv]
    rfl
  unfold fracS
  have e1 : (sh k S).p = S.p := rfl
  have e2 : nx s (sh k S).a (sh k S).b = nx (suf s k) S.a S.b := (suf_nx hk S.a S.b).symm
  rw [e1, e2]
  split
  · rfl
  · split
    · unfold frS
      rw [ec, en]
      unfold sh
      simp only [Nat.add_assoc]
    · rfl
theorem sh_zone {s : ByteArray} {k : Nat} (hk : k ≤ s.size) (S : Mst) : zoneS s (sh k S) = sh k (zoneS (suf s k) S) := by
  have e2 : nx s (sh k S).a (sh k S).b = nx (suf s k) S.a S.b := (suf_nx hk S.a S.b).symm
  have c1 : zC1 s ((sh k S).a + 1) = zC1 (suf s k) (S.a + 1) := by
    show cnt s (k + S.a + 1) 2 = cnt (suf s k) (S.a + 1) 2
    rw [suf_cnt hk, Nat.add_assoc]
  have c2 : zC2 s ((sh k S).a + 1) = zC2 (suf s k) (S.a + 1) := by
    unfold zC2
    rw [c1, suf_cnt hk]
    show (if _ then _ else cnt s (k + S.a + 1 + _) 2) = _
    simp only [Nat.add_assoc]
  have cH : zH s ((sh k S).a + 1) = zH (suf s k) (S.a + 1) := by
    unfold zH
    rw [c1, suf_nv]
    rfl
  have cM : zM s ((sh k S).a + 1) = zM (suf s k) (S.a + 1) := by
    unfold zM
    rw [c1, c2, suf_nv]
    show nv s (k + S.a + 1 + _) _ = _
    simp only [Nat.add_assoc]
  have cV : ∀ x, zV s ((sh k S).a + 1) x = zV (suf s k) (S.a + 1) x := fun x => by unfold zV; rw [cH, cM]
  have cB : ∀ x, zBad s ((sh k S).a + 1) x = zBad (suf s k) (S.a + 1) x := fun x => by unfold zBad; rw [cM, cV]
  unfold zoneS
  rw [e2]
  split
  · unfold zoS
    rw [c1, c2, cV, cB]
    have eo : nextD (sh k S).o (zBad (suf s k) (S.a + 1) (nx (suf s k) S.a S.b)) (sh k S).a = mvO k (nextD S.o (zBad (suf s k) (S.a + 1) (nx (suf s k) S.a S.b)) S.a) := nextD_mv k S.o _ S.a
    rw [eo]
    unfold sh
    simp only [Nat.add_assoc]
  · rfl
theorem sh_start (k : Nat) : stA k = sh k (stA 0) := rfl
theorem sh_rd {s : ByteArray} {k : Nat} (hk : k ≤ s.size) (S : Mst) : rdO s (sh k S) = mvO k (rdO (suf s k) S) := by
  have hs := suf_size hk
  unfold rdO fmO
  show (if S.b = true ∨ k + S.a < s.size then some (((k + S.a : Nat) : Int), 100) else none).or (mvO k S.o) = _
  by_cases h : S.b = true ∨ S.a < (suf s k).size
  · rw [if_pos (by rcases h with h | h; exact .inl h; exact .inr (by omega)), if_pos h]
    show some (((k + S.a : Nat) : Int), (100 : Int)) = some ((S.a : Int) + (k : Int), 100)
    congr 2
    omega
  · rw [if_neg (by rintro (h1 | h1); exact h (.inl h1); exact h (.inr (by omega))), if_neg h]
    rfl
theorem sh_rdS {s : ByteArray} {k : Nat} (hk : k ≤ s.size) (vr : Int) : rdS vr s k = sh k (rdS vr (suf s k) 0) := by
  unfold rdS
  split
  · unfold dateF
    rw [sh_start k, sh_year hk, sh_month hk, sh_day hk]
  · split
    · unfold timeF
      rw [sh_start k, sh_hour hk, sh_more hk [minuteS s, secondS s] [minuteS (suf s k), secondS (suf s k)] rfl (fun i h1 _ S => by
        rcases (by simp at h1; omega : i = 0 ∨ i = 1) with rfl | rfl
        · exact sh_minute hk S
        · exact sh_second hk S), sh_frac hk]
    · unfold momF
      rw [sh_start k, sh_year hk, sh_more hk [monthS s, dayS s, hourS s, minuteS s, secondS s] [monthS (suf s k), dayS (suf s k), hourS (suf s k), minuteS (suf s k), secondS (suf s k)] rfl (fun i h1 _ S => by
        rcases (by simp at h1; omega : i = 0 ∨ i = 1 ∨ i = 2 ∨ i = 3 ∨ i = 4) with rfl | rfl | rfl | rfl | rfl
        · exact sh_month hk S
        · exact sh_day hk S
        · exact sh_hour hk S
        · exact sh_minute hk S
        · exact sh_second hk S), sh_frac hk, sh_zone hk]
theorem oR_suf {s : ByteArray} {k : Nat} (hk : k ≤ s.size) (vr : Int) : oR vr s k = mvO k (oR vr (suf s k) 0) := by
  unfold oR
  rw [sh_rdS hk, sh_rd hk]
theorem ow_suf {s : ByteArray} {k : Nat} (hk : k ≤ s.size) (vr : Int) : ow vr s k = ow vr (suf s k) 0 := by
  unfold ow
  rw [oR_suf hk, sh_rdS hk]
  cases oR vr (suf s k) 0 with
  | none => rfl
  | some x => rfl
end Go.Proofs.YtehgeninocbpeaaGreatDoor.Tm

namespace Go.Proofs.YtehgeninocbpeaaGreatDoor.Tm
open Go Go.Proofs Go.RowKit
structure Mv (W : World) (q g cp : Nat) (a c : Int) : Prop where
  q0 : W.cell? ⟨q, 0, none⟩ = some (.slice (some ⟨g, 0, none⟩) 1 cp)
  q1 : W.cell? ⟨q, 1, none⟩ = some (.int .i64 c)
  g1 : W.cell? ⟨g, 1, none⟩ = some (.int .i64 a)
theorem Mv.on {W W' : World} {q g cp : Nat} {a c : Int} (h : Mv W q g cp a c) (hb : Below W.heap.size W W') : Mv W' q g cp a c := ⟨(hb.cell (cell_lt h.q0)).trans h.q0, (hb.cell (cell_lt h.q1)).trans h.q1, (hb.cell (cell_lt h.g1)).trans h.g1⟩
set_option maxRecDepth 100000 in
set_option maxHeartbeats 2000000 in
theorem moved_any (w : World) (v : Value) (a c : Int) (k : Nat) (hv : RErr w v (some (a, c))) (ha1 : 0 ≤ a) (ha2 : a ≤ 200000000000000) (hk : k ≤ 200000000000000) : Calls Tryz.prog 55 #[v, .int .i64 (k : Int)] w fun e w' => ∃ v', e = .returned v' ∧ RErr w' v' (some (a + (k : Int), c)) ∧ Below w.heap.size w w' := by
  obtain ⟨g, cp, rfl, h0, h1⟩ := hv
  have cN := fun W => no_any (a + (k : Int)) c W
  have hw : IntKind.i64.wrap (a + (k : Int)) = a + (k : Int) := Go.IntWalk.i64_in _ (by omega)
  obtain ⟨q, hq⟩ : ∃ q, w.heap.size = q := ⟨_, rfl⟩
  obtain ⟨W0, hW0⟩ : ∃ W0, (w.alloc (.cells #[.slice (some ⟨g, 0, none⟩) 1 cp, .int .i64 c] 35)).alloc (.cells #[.slice none 0 0, .int .i64 0] 35) = W0 := ⟨_, rfl⟩
  have hb0 : Below w.heap.size w W0 := hW0 ▸ ((Below.refl _ _).alloc (Nat.le_refl _) _).alloc (by simp) _
  have g1 : W0.cell? ⟨g, 1, none⟩ = some (.int .i64 a) := (hb0.cell (cell_lt h1)).trans h1
  have hM : Mv W0.drew q g cp a c := ⟨by show W0.cell? _ = _; rw [← hW0, ← hq]; simp, by show W0.cell? _ = _; rw [← hW0, ← hq]; simp, g1⟩
  have HR : Hid (W0.drew.rowIs (q + 1) 35 2 fN) := by
    show W0.rowIs (q + 1) 35 2 fN
    have := (MN.start w #[.slice (some ⟨g, 0, none⟩) 1 cp, .int .i64 c] 35).e
    rw [hW0, hq] at this
    exact this
  have HB : Hid (Below q w W0.drew) := by
    show Below q w W0.drew
    rw [← hq]
    exact hb0.drew
  have hn1 : q + 1 ≠ q := by omega
  have hn2 : q + 1 ≠ g := by have h := cell_lt h1; dsimp only at h; omega
  clear hb0 g1 h0 h1
  go_enter Tryz.func55, Tryz.ntmps55
  go_upto_region 1 with fail
  clear hW0
  go_region_held3 (fun w' => w'.cell? ⟨q, 0, none⟩ = some (.slice (some ⟨g, 0, none⟩) 1 cp) ∧ w'.cell? ⟨q, 1, none⟩ = some (.int .i64 c) ∧ w'.cell? ⟨g, 1, none⟩ = some (.int .i64 a)) (first | exact ⟨hM.q0, hM.q1, hM.g1⟩ | exact ⟨by rw [cell_set_off hn1, cell_set_off hn1]; exact hM.q0, by rw [cell_set_off hn1, cell_set_off hn1]; exact hM.q1, by rw [cell_set_off hn2, cell_set_off hn2]; exact hM.g1⟩) (first | (go_at_call 31; refine (cN _).mono ?_; rintro e W9 ⟨v9, rfl, hv9, hb9⟩; have HV9 : Hid (RErr W9 v9 (some (a + (k : Int), c))) := hv9; obtain ⟨g9, c9, rfl, _, _⟩ := hv9; replace hM := hM.on hb9; have HR9 := row_on HR.out hb9; have HB9 := HB.out.trans (hb9.mono (Nat.le_of_lt (Nat.lt_of_succ_lt HR.out.lt))); have r0 : W9.cell? ⟨q + 1, 0, none⟩ = some (.slice none 0 0) := HR9.cell (i := 0) (by omega); have r1 : W9.cell? ⟨q + 1, 1, none⟩ = some (.int .i64 0) := HR9.cell (i := 1) (by omega); have rf := fun i => HR9.frozen i) | fail)
  all_goals
    have HN := HV9.out.ne r0 (fun s h => by cases h)
    go_wp2
    refine bodyPost_ret (v := .agg #[.slice (some ⟨g9, 0, none⟩) 1 c9, .int .i64 c]) (by simp [results, Tryz.results55, go_sem, r0, r1]) rfl ⟨_, rfl, ?_, ?_⟩
    · repeat (first | refine RErr.drewW ?_ | refine RErr.set ?_ HN)
      exact HV9.out
    rw [hq]
    repeat (first | refine Below.drew ?_ | refine Below.setCell ?_ (by first | exact Nat.le_refl _ | exact Nat.le_succ _) _)
    exact HB9
end Go.Proofs.YtehgeninocbpeaaGreatDoor.Tm

namespace Go.Proofs.YtehgeninocbpeaaGreatDoor.Tm
open Go Go.Proofs Go.RowKit
def Pb (s : ByteArray) (S : Mst) : Prop := S.a ≤ s.size ∧ ∀ p c, S.o = some (p, c) → 0 ≤ p ∧ p ≤ (s.size : Int)
theorem pb_next {s : ByteArray} {o : Option (Int × Int)} {bad : Bool} {pl : Nat} (h : ∀ p c, o = some (p, c) → 0 ≤ p ∧ p ≤ (s.size : Int)) (hp : pl ≤ s.size) : ∀ p c, nextD o bad pl = some (p, c) → 0 ≤ p ∧ p ≤ (s.size : Int) := by
  intro p c e
  unfold nextD at e
  split at e
  · split at e
    · have := (Prod.mk.inj (Option.some.inj e)).1
      omega
    · exact h p c e
  · exact h p c e
theorem pb_pc {s : ByteArray} {S : Mst} (h : Pb s S) (k : Nat) : S.a + pcC s S k ≤ s.size := by
  unfold pcC
  split
  · exact h.1
  · exact cnt_size s k S.a h.1
theorem pb_year {s : ByteArray} {S : Mst} (h : Pb s S) : Pb s (yearS s S) := ⟨pb_pc h 4, pb_next h.2 h.1⟩
theorem pb_month {s : ByteArray} {S : Mst} (h : Pb s S) : Pb s (monthS s S) := ⟨pb_pc h 2, pb_next h.2 h.1⟩
theorem pb_day {s : ByteArray} {S : Mst} (h : Pb s S) : Pb s (dayS s S) := ⟨pb_pc h 2, pb_next h.2 h.1⟩
theorem pb_hour {s : ByteArray} {S : Mst} (h : Pb s S) : Pb s (hourS s S) := ⟨pb_pc h 2, pb_next h.2 h.1⟩
theorem pb_minute {s : ByteArray} {S : Mst} (h : Pb s S) : Pb s (minuteS s S) := ⟨pb_pc h 2, pb_next h.2 h.1⟩
theorem pb_second {s : ByteArray} {S : Mst} (h : Pb s S) : Pb s (secondS s S) := ⟨pb_pc h 2, pb_next h.2 h.1⟩
theorem pb_more {s : ByteArray} : ∀ (l : List (Mst → Mst)), (∀ t ∈ l, ∀ S, Pb s S → Pb s (t S)) → ∀ S, Pb s S → Pb s (moreS s l S)
  | [], _, S, h => h
  | t :: l, ht, S, h => by
    rw [moreS]
    split
    · exact pb_more l (fun t' h' => ht t' (List.mem_cons_of_mem _ h')) _ (ht t (by simp) S h)
    · exact h
theorem nx_some {s : ByteArray} {a : Nat} {b : Bool} (h : nx s a b ≠ 0) : a < s.size := by
  rcases Nat.lt_or_ge a s.size with h1 | h1
  · exact h1
  · exact absurd (show nx s a b = 0 by unfold nx; rw [if_pos (Or.inr (by omega))]) h
theorem pb_frac {s : ByteArray} {S : Mst} (h : Pb s S) : Pb s (fracS s S) := by
  unfold fracS
  split
  · exact h
  · split
    · have hl : S.a < s.size := nx_some (b := S.b) (by omega)
      exact ⟨cnt_size s 6 (S.a + 1) (by omega), h.2⟩
    · exact h
theorem zo_a (s : ByteArray) (S : Mst) (x : Nat) : (zoS s S x).a = S.a + 1 + zC1 s (S.a + 1) + zC2 s (S.a + 1) := by simp only [zoS]
theorem pb_zone {s : ByteArray} {S : Mst} (h : Pb s S) : Pb s (zoneS s S) := by
  unfold zoneS
  split
  · have hl : S.a < s.size := nx_some (b := S.b) (by omega)
    have h4 := cnt_size s 4 (S.a + 1) (by omega)
    obtain ⟨c1, _⟩ := cnt4 s (S.a + 1)
    refine ⟨?_, ?_⟩
    · rw [zo_a]; omega
    · rw [zo_o]; exact pb_next h.2 h.1
  · exact h
theorem pb_rdS (vr : Int) (s : ByteArray) : Pb s (rdS vr s 0) := by
  have h0 : Pb s (stA 0) := ⟨Nat.zero_le _, fun p c e => by cases e⟩
  unfold rdS
  split
  · exact pb_day (pb_month (pb_year h0))
  · split
    · refine pb_frac (pb_more _ ?_ _ (pb_hour h0))
      intro t ht S hS
      simp at ht
      rcases ht with rfl | rfl
      · exact pb_minute hS
      · exact pb_second hS
    · refine pb_zone (pb_frac (pb_more _ ?_ _ (pb_year h0)))
      intro t ht S hS
      simp at ht
      rcases ht with rfl | rfl | rfl | rfl | rfl
      · exact pb_month hS
      · exact pb_day hS
      · exact pb_hour hS
      · exact pb_minute hS
      · exact pb_second hS
theorem oR_bd (vr : Int) (s : ByteArray) : ∀ a c, oR vr s 0 = some (a, c) → 0 ≤ a ∧ a ≤ (s.size : Int) := by
  intro a c h
  have hp := pb_rdS vr s
  unfold oR at h
  generalize rdS vr s 0 = S at *
  unfold rdO fmO at h
  split at h
  · have := (Prod.mk.inj (Option.some.inj h)).1
    have := hp.1
    omega
  · exact hp.2 a c h
end Go.Proofs.YtehgeninocbpeaaGreatDoor.Tm
