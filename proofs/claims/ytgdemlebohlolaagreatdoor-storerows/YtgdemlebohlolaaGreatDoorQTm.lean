import Derived.Test.YtgdemlebohlolaaGreatDoorQTk
import Derived.Test.YtgdemlebohlolaaGreatDoorQTj
/-
  DERIVED. The document's clock: times with a fraction.
-/
namespace Go.Proofs.YtgdemlebohlolaaGreatDoor.Tm
open Go Go.Proofs Go.RowKit

set_option maxRecDepth 100000 in
set_option maxHeartbeats 4000000 in
theorem clock_ok8 (w : World) (s : ByteArray) (i e : Nat) (hs : s.size ≤ 140737488351232) (hi : i ≤ e) (he : e ≤ s.size) (hE : isD s e = false) (hn : cnt s i 6 = 6) (hb : (s.get! (i + 6)).toNat = 46) (n : Nat) (hfr : cnt s (i + 7) 6 = n) (hn0 : 0 < n) (hne : i + 7 + n = e) :
    Calls Tryz.prog 47 #[.string s, .int .i64 (i : Int), .int .i64 (e : Int)] w (PostK w (t5 (nv s i 2 : Nat) (nv s (i + 2) 2 : Nat) (nv s (i + 4) 2 : Nat) ((nv s (i + 7) n * 10 ^ (6 - n) : Nat) : Int) ((3 + n : Nat) : Int)) (clC (nv s i 2) (nv s (i + 2) 2) (nv s (i + 4) 2)) (clA i (nv s i 2) (nv s (i + 2) 2) (nv s (i + 4) 2))) := by
  obtain ⟨r, hr⟩ : ∃ r, w.heap.size = r := ⟨_, rfl⟩
  obtain ⟨W1, hW1⟩ : ∃ W1, (w.alloc (.cells #[.int .i64 0, .int .i64 0, .int .i64 0, .int .i64 0, .int .i64 0] 63)).alloc (.cells #[.int .i64 0, .int .i64 0, .int .i64 0, .int .i64 0, .int .i64 0] 63) = W1 := ⟨_, rfl⟩
  obtain ⟨-, hR, hT, hB⟩ : Clk w W1 r := by rw [← hW1, ← hr]; exact Clk.start w
  have c31 := digits31_any W1 (s.extract 0 e) i 6 (by rw [ByteArray.size_extract]; omega) (by rw [ByteArray.size_extract]; omega) (by omega)
  rw [(cnt_ext he hE 6 i hi).1, hn] at c31
  have hle := (cnt_ext he hE 6 i hi).2
  rw [hn] at hle
  have heI : (e : Int) ≤ (s.size : Int) := by omega
  have z0 : W1.cell? ⟨r, 0, none⟩ = some (.int .i64 0) := hR.cell (i := 0) (by omega)
  have z1 : W1.cell? ⟨r, 1, none⟩ = some (.int .i64 0) := hR.cell (i := 1) (by omega)
  have z2 : W1.cell? ⟨r, 2, none⟩ = some (.int .i64 0) := hR.cell (i := 2) (by omega)
  have z3 : W1.cell? ⟨r, 3, none⟩ = some (.int .i64 0) := hR.cell (i := 3) (by omega)
  have z4 : W1.cell? ⟨r, 4, none⟩ = some (.int .i64 0) := hR.cell (i := 4) (by omega)
  have t0 : W1.cell? ⟨r + 1, 0, none⟩ = some (.int .i64 0) := hT.cell (i := 0) (by omega)
  have t1 : W1.cell? ⟨r + 1, 1, none⟩ = some (.int .i64 0) := hT.cell (i := 1) (by omega)
  have t2 : W1.cell? ⟨r + 1, 2, none⟩ = some (.int .i64 0) := hT.cell (i := 2) (by omega)
  have t3 : W1.cell? ⟨r + 1, 3, none⟩ = some (.int .i64 0) := hT.cell (i := 3) (by omega)
  have t4 : W1.cell? ⟨r + 1, 4, none⟩ = some (.int .i64 0) := hT.cell (i := 4) (by omega)
  have zf : ∀ j, W1.frozen? ⟨r, j, none⟩ = false := fun j => hR.frozen j
  have tf : ∀ j, W1.frozen? ⟨r + 1, j, none⟩ = false := fun j => hT.frozen j
  have HB : Hid (Below r w W1) := hB
  have HW1 : Hid _ := hW1
  have c31b := digits31_any W1 (s.extract 0 e) (i + 7) 6 (by rw [ByteArray.size_extract]; omega) (by rw [ByteArray.size_extract]; omega) (by omega)
  rw [(cnt_ext he hE 6 (i + 7) (by omega)).1, hfr, show ((i + 7 : Nat) : Int) = (i : Int) + 7 by omega] at c31b
  have hn6 : n ≤ 6 := hfr ▸ cnt_le s 6 (i + 7)
  have hmc : nv s (i + 7) n < 10 ^ n := nv_lt s (i + 7) n 6 (by omega)
  have hvf0 : ∃ vf : ByteArray → Nat, vf = fun u => val u.data.toList := ⟨_, rfl⟩
  obtain ⟨vf, hvf⟩ := hvf0
  have nn : ∀ W u, (Digs u ∧ u.size ≤ 8) → Calls Tryz.prog 70 #[.string u] W fun e w' => e = .returned (.int .i64 (vf u : Nat)) ∧ W = w' := fun W u hu => by rw [hvf]; exact number47_any W u hu.1 hu.2
  have D0 : Digs (s.extract i (i + 2)) ∧ (s.extract i (i + 2)).size ≤ 8 := ⟨digs_ext s i 2 2 (by have := cnt_sub (s := s) (i := i) 6 0 2 (by omega); (try simp only [Nat.add_zero] at this); omega), by rw [ByteArray.size_extract]; omega⟩
  have e0 : nv s i 2 = vf (s.extract i (i + 2)) := by rw [hvf]; rfl
  rw [e0]
  clear e0
  obtain ⟨H, hH⟩ : ∃ H, vf (s.extract i (i + 2)) = H := ⟨_, rfl⟩
  rw [hH]
  have D2 : Digs (s.extract (i + 2) (i + 4)) ∧ (s.extract (i + 2) (i + 4)).size ≤ 8 := ⟨digs_ext s (i + 2) 2 2 (by have := cnt_sub (s := s) (i := i) 6 2 2 (by omega); (try simp only [Nat.add_zero] at this); omega), by rw [ByteArray.size_extract]; omega⟩
  have e2 : nv s (i + 2) 2 = vf (s.extract (i + 2) (i + 4)) := by rw [hvf]; rfl
  rw [e2]
  clear e2
  obtain ⟨M, hM⟩ : ∃ M, vf (s.extract (i + 2) (i + 4)) = M := ⟨_, rfl⟩
  rw [hM]
  have D4 : Digs (s.extract (i + 4) (i + 6)) ∧ (s.extract (i + 4) (i + 6)).size ≤ 8 := ⟨digs_ext s (i + 4) 2 2 (by have := cnt_sub (s := s) (i := i) 6 4 2 (by omega); (try simp only [Nat.add_zero] at this); omega), by rw [ByteArray.size_extract]; omega⟩
  have e4 : nv s (i + 4) 2 = vf (s.extract (i + 4) (i + 6)) := by rw [hvf]; rfl
  rw [e4]
  clear e4
  obtain ⟨S, hS⟩ : ∃ S, vf (s.extract (i + 4) (i + 6)) = S := ⟨_, rfl⟩
  rw [hS]
  have D7 : Digs (s.extract (i + 7) (i + 7 + n)) ∧ (s.extract (i + 7) (i + 7 + n)).size ≤ 8 := ⟨digs_ext s (i + 7) n 6 (by omega), by rw [ByteArray.size_extract]; omega⟩
  have e7 : nv s (i + 7) n = vf (s.extract (i + 7) (i + 7 + n)) := by rw [hvf]; rfl
  rw [e7] at hmc ⊢
  clear e7 hvf
  obtain ⟨Q, hQ⟩ : ∃ Q, vf (s.extract (i + 7) (i + 7 + n)) = Q := ⟨_, rfl⟩
  rw [hQ] at hmc ⊢
  have HM : Hid (Q < 10 ^ n) := hmc
  obtain ⟨FM, hFM⟩ : ∃ FM, Q * 10 ^ (6 - n) = FM := ⟨_, rfl⟩
  rw [hFM]
  have HFM : Hid (Q * 10 ^ (6 - n) = FM) := hFM
  clear hmc hFM
  have hCA : (decide (23 < (H : Int)) = true ∧ clC H M S = 101 ∧ clA i H M S = (i : Int)) ∨ (decide (23 < (H : Int)) = false ∧ decide (59 < (M : Int)) = true ∧ clC H M S = 101 ∧ clA i H M S = (i : Int) + 2) ∨ (decide (23 < (H : Int)) = false ∧ decide (59 < (M : Int)) = false ∧ decide (60 < (S : Int)) = true ∧ clC H M S = 101 ∧ clA i H M S = (i : Int) + 4) ∨ (decide (23 < (H : Int)) = false ∧ decide (59 < (M : Int)) = false ∧ decide (60 < (S : Int)) = false ∧ clC H M S = 0 ∧ clA i H M S = 0) := by
    unfold clC clA
    by_cases h0 : 23 < H
    · exact .inl <| ⟨by simp; omega, by rw [if_pos (by omega)], by rw [if_pos (by omega)]⟩
    · by_cases h1 : 59 < M
      · exact .inr <| .inl <| ⟨by simp; omega, by simp; omega, by rw [if_pos (by omega)], by rw [if_neg (by omega)]; rw [if_pos (by omega)]⟩
      · by_cases h2 : 60 < S
        · exact .inr <| .inr <| .inl <| ⟨by simp; omega, by simp; omega, by simp; omega, by rw [if_pos (by omega)], by rw [if_neg (by omega)]; rw [if_neg (by omega)]; rw [if_pos (by omega)]⟩
        · exact .inr <| .inr <| .inr ⟨by simp; omega, by simp; omega, by simp; omega, by rw [if_neg (by omega)], by rw [if_neg (by omega), if_neg (by omega), if_neg (by omega)]⟩
  have h6I : decide ((i : Int) + 6 < (e : Int)) = true := by simp; omega
  have h6S : (i : Int) + 6 < (s.size : Int) := by omega
  have h6N : i + 6 < s.size := by omega
  have hc : s[i + 6].toNat = 46 := by rw [get_get! s (i + 6) h6N, hb]
  have hnI : ((n : Int) == 0) = false := by simp; omega
  have hnP : decide (0 < (n : Int)) = true := by simp; omega
  have h7I : decide ((i : Int) + 7 + (n : Int) < (e : Int)) = false := by simp; omega
  have h2S : (i : Int) + 2 ≤ (s.size : Int) := by omega
  have h4S : (i : Int) + 4 ≤ (s.size : Int) := by omega
  have h6S' : (i : Int) + 6 ≤ (s.size : Int) := by omega
  have h7S : (i : Int) + 7 + (n : Int) ≤ (s.size : Int) := by omega
  have L0 : Hid (Lp8 w W1 r 0 0 0 0 0) := ⟨hR, ⟨_, hT, rfl, rfl, rfl, rfl, rfl⟩, hB⟩
  have HN0 : Hid (0 < n) := hn0
  have HN6 : Hid (n ≤ 6) := hn6
  clear hR hT hB hW1 hE hn hle hi hfr hb hne hn0 he
  rcases hCA with ⟨hcs0, q1, q2⟩ | ⟨hcs0, hcs1, q1, q2⟩ | ⟨hcs0, hcs1, hcs2, q1, q2⟩ | ⟨hcs0, hcs1, hcs2, q1, q2⟩
  all_goals
    rw [q1, q2]
    clear q1 q2
    go_enter Tryz.func47, Tryz.ntmps47
    go_wp2_with (go_at_call 44; refine Stop.mk ?_)
    rw [HW1.out]
    refine Stop.out (c31.mono ?_)
    rintro e W3 ⟨rfl, rfl⟩
    clear c31
    go_wp2_with (go_at_call 44; refine Stop.mk ?_)
    refine Stop.out (c31b.mono ?_)
    rintro e W3 ⟨rfl, rfl⟩
    clear c31b
    go_wp2_with (go_at_call 70; refine Stop.mk ?_)
    refine Stop.out ((nn _ _ D0).mono ?_)
    rintro e W3 ⟨rfl, rfl⟩
    rw [hH]
    go_wp2_with (go_at_call 70; refine Stop.mk ?_)
    refine Stop.out ((nn _ _ D2).mono ?_)
    rintro e W3 ⟨rfl, rfl⟩
    rw [hM]
    go_wp2_with (go_at_call 70; refine Stop.mk ?_)
    refine Stop.out ((nn _ _ D4).mono ?_)
    rintro e W3 ⟨rfl, rfl⟩
    rw [hS]
    go_wp2_with (go_at_call 70; refine Stop.mk ?_)
    refine Stop.out ((nn _ _ D7).mono ?_)
    rintro e W3 ⟨rfl, rfl⟩
    rw [hQ]
    clear nn D0 D2 D4 D7
    go_wp2
    go_loopg [12] (6 - n) (fun g s12 wx => ∃ k mc : Nat, s12 = .int .i64 (k : Int) ∧ g + k = 6 ∧ mc < 1000000 ∧ Hid (n ≤ k ∧ mc < 10 ^ k) ∧ Hid (mc * 10 ^ (6 - k) = FM) ∧ Hid (Lp8 w wx r H M S mc (3 + n)))
    case atStart =>
      have hle1 : (10 : Nat) ^ n ≤ 10 ^ 6 := Nat.pow_le_pow_right (by omega) HN6.out
      have hq := HM.out
      refine ⟨n, Q, rfl, by have := HN6.out; omega, by omega, ⟨Nat.le_refl _, HM.out⟩, HFM, ?_⟩
      have L1 := L0.out.next 4 3 0 0 0 0 3 (by simp)
      have L2 := L1.next 0 H H 0 0 0 3 (by simp)
      have L3 := L2.next 1 M H M 0 0 3 (by simp)
      have L4 := L3.next 2 S H M S 0 3 (by simp)
      have L5 := L4.next 4 (3 + n) H M S 0 (3 + n) (by simp)
      have L6 := L5.next 3 Q H M S Q (3 + n) (by simp)
      exact L6
    case round =>
      obtain ⟨k, mc, rfl, hg, hmc, HK, HE, HL⟩ := hrel
      obtain ⟨⟨z0, z1, z2, z3, z4⟩, ⟨t0, t1, t2, t3, t4⟩, zf, tf, hB⟩ := HL.out.facts
      have HB : Hid (Below r w wr) := hB
      clear hB
      by_cases hk : k < 6
      · have hkI : decide ((k : Int) < 6) = true := by simp; omega
        have HL2 : Hid (Lp8 w (wr.setCell ⟨r + 1, 3, none⟩ (.int .i64 ((mc * 10 : Nat) : Int))) r H M S (mc * 10) (3 + n)) := HL.out.next 3 (mc * 10) H M S (mc * 10) (3 + n) (by simp)
        have HK2 : Hid (n ≤ k + 1 ∧ mc * 10 < 10 ^ (k + 1)) := by
          have := HK.out
          refine ⟨by omega, ?_⟩
          rw [Nat.pow_succ]
          omega
        have hm2 : mc * 10 < 1000000 := by
          have h1 := HK2.out.2
          have h2 : (10 : Nat) ^ (k + 1) ≤ 10 ^ 6 := Nat.pow_le_pow_right (by omega) (by omega)
          omega
        have HE2 : Hid (mc * 10 * 10 ^ (6 - (k + 1)) = FM) := by
          show _ = _
          rw [← HE.out, show 6 - k = (6 - (k + 1)) + 1 by omega, Nat.pow_succ, Nat.mul_assoc, Nat.mul_comm 10]
        rw [show ((mc * 10 : Nat) : Int) = (mc : Int) * 10 by omega] at HL2
        clear HL HK HE
        go_wp2
        go_roundg (6 - (k + 1))
        case measure => omega
        case rel => exact ⟨k + 1, mc * 10, by first | rfl | simp, by omega, hm2, HK2, HE2, HL2⟩
      · obtain rfl : k = 6 := by omega
        have hE : mc = FM := by have := HE.out; simpa using this
        subst hE
        clear HE HL HK
        go_wp2
        refine bodyPost_ret (by simp [results, Tryz.results47, go_sem, z0, z1, z2, z3, z4]; rfl) rfl ⟨?_, ?_⟩
        · first | rfl | simp [t5]
        · rw [hr]; exact below5 HB.out _ _ _ _ _
end Go.Proofs.YtgdemlebohlolaaGreatDoor.Tm

/-
  DERIVED. Both clocks, beside one another.
-/
namespace Go.Proofs.YtgdemlebohlolaaGreatDoor.Tm
open Go Go.Proofs Go.RowKit

def bd (x : Bool) (pl : Int) : Option (Int × Int) := if x = true then some (pl, 101) else none
theorem nextD_or (o : Option (Int × Int)) (x : Bool) (pl : Nat) : nextD o x pl = o.or (bd x pl) := by
  unfold nextD bd
  cases x with
  | true => cases o <;> simp
  | false => cases o <;> simp
def clO (i h m s : Nat) : Option (Int × Int) := if 23 < h then some ((i : Int), 101) else if 59 < m then some ((i : Int) + 2, 101) else if 60 < s then some ((i : Int) + 4, 101) else none

def ck6 (s : ByteArray) (S : Mst) : Mst := fracS s (moreS s [minuteS s, secondS s] (hourS s S))

theorem low0 (n : Nat) (hi : Int) : (decide ((n : Int) < 0) || decide (hi < (n : Int))) = decide (hi < (n : Int)) := by
  have : decide ((n : Int) < 0) = false := by simp
  rw [this, Bool.false_or]
theorem hourS_eq {s : ByteArray} {S : Mst} {c : Nat} (hb : S.b = false) (hc : cnt s S.a 2 = c) : hourS s S = { S with a := S.a + c, b := decide (c < 2), o := S.o.or (bd (decide (23 < (nv s S.a c : Int))) (S.a : Int)), h := nv s S.a c, p := 1 } := by
  have h1 : pcC s S 2 = c := by unfold pcC; rw [hb, if_neg (by decide), hc]
  unfold hourS pcO pcN
  rw [h1, hb, Bool.false_or, low0, nextD_or]
theorem minuteS_eq {s : ByteArray} {S : Mst} {c : Nat} (hb : S.b = false) (hc : cnt s S.a 2 = c) : minuteS s S = { S with a := S.a + c, b := decide (c < 2), o := S.o.or (bd (decide (59 < (nv s S.a c : Int))) (S.a : Int)), mi := nv s S.a c, p := 2 } := by
  have h1 : pcC s S 2 = c := by unfold pcC; rw [hb, if_neg (by decide), hc]
  unfold minuteS pcO pcN
  rw [h1, hb, Bool.false_or, low0, nextD_or]
theorem secondS_eq {s : ByteArray} {S : Mst} {c : Nat} (hb : S.b = false) (hc : cnt s S.a 2 = c) : secondS s S = { S with a := S.a + c, b := decide (c < 2), o := S.o.or (bd (decide (60 < (nv s S.a c : Int))) (S.a : Int)), sc := nv s S.a c, p := 3 } := by
  have h1 : pcC s S 2 = c := by unfold pcC; rw [hb, if_neg (by decide), hc]
  unfold secondS pcO pcN
  rw [h1, hb, Bool.false_or, low0, nextD_or]

theorem isD_cnt (s : ByteArray) (a : Nat) : isD s a = decide (0 < cnt s a 2) := by
  rw [cnt]
  cases isD s a with
  | true => simp; omega
  | false => simp
theorem more_stop {s : ByteArray} {S : Mst} (l : List (Mst → Mst)) (h : S.b = true ∨ cnt s S.a 2 = 0) : moreS s l S = S := by
  cases l with
  | nil => rfl
  | cons t l =>
    rw [moreS, isD_cnt]
    rcases h with h | h
    · rw [h]; simp
    · rw [h]; simp
theorem more_go {s : ByteArray} {S : Mst} (t : Mst → Mst) (l : List (Mst → Mst)) (h : S.b = false) (hc : 0 < cnt s S.a 2) : moreS s (t :: l) S = moreS s l (t S) := by
  rw [moreS, isD_cnt, h, decide_eq_true hc]
  rfl
theorem frac_stop {s : ByteArray} {S : Mst} (h : S.p < 3 ∨ nx s S.a S.b ≠ 46) : fracS s S = S := by
  unfold fracS
  by_cases h3 : S.p < 3
  · rw [if_pos h3]
  · rw [if_neg h3, if_neg (h.resolve_left h3)]
theorem nx_brk (s : ByteArray) (a : Nat) : nx s a true = 0 := by unfold nx; rw [if_pos (.inl rfl)]
theorem nx_in {s : ByteArray} {a : Nat} (h : a < s.size) : nx s a false = (s.get! a).toNat := by unfold nx; rw [if_neg (by simp; exact h)]

/-- What the program's clock has at each number of digits. -/
theorem cnt6 (s : ByteArray) (i : Nat) : cnt s i 6 = if cnt s i 2 < 2 then cnt s i 2 else if cnt s (i + 2) 2 < 2 then 2 + cnt s (i + 2) 2 else 4 + cnt s (i + 4) 2 := by
  rw [show (6 : Nat) = 2 + 4 by rfl, cnt_split s 4 2 i]
  split
  · rfl
  · rw [show (4 : Nat) = 2 + 2 by rfl, cnt_split s 2 2 (i + 2), show i + 2 + 2 = i + 4 by omega]
    split
    · rfl
    · omega

theorem oc1 (o : Option (Int × Int)) (i h : Nat) : o.or (bd (decide (23 < (h : Int))) (i : Int)) = o.or (clO i h 0 0) := by
  unfold bd clO
  by_cases h1 : 23 < h
  · have : decide (23 < (h : Int)) = true := by simp; omega
    rw [this, if_pos rfl, if_pos h1]
  · have : decide (23 < (h : Int)) = false := by simp; omega
    rw [this, if_neg (by decide), if_neg h1]
    rfl
theorem oc2 (o : Option (Int × Int)) (i h m : Nat) : (o.or (clO i h 0 0)).or (bd (decide (59 < (m : Int))) ((i + 2 : Nat) : Int)) = o.or (clO i h m 0) := by
  unfold bd clO
  by_cases h1 : 23 < h
  · simp [h1]
  · by_cases h2 : 59 < m
    · have : decide (59 < (m : Int)) = true := by simp; omega
      simp [h1, h2, this]
    · have : decide (59 < (m : Int)) = false := by simp; omega
      simp [h1, h2, this]
theorem oc3 (o : Option (Int × Int)) (i h m sc : Nat) : (o.or (clO i h m 0)).or (bd (decide (60 < (sc : Int))) ((i + 4 : Nat) : Int)) = o.or (clO i h m sc) := by
  unfold bd clO
  by_cases h1 : 23 < h
  · simp [h1]
  · by_cases h2 : 59 < m
    · simp [h1, h2]
    · by_cases h3 : 60 < sc
      · have : decide (60 < (sc : Int)) = true := by simp; omega
        simp [h1, h2, h3, this]
      · have : decide (60 < (sc : Int)) = false := by simp; omega
        simp [h1, h2, h3, this]

theorem clock_both (w : World) (s : ByteArray) (i e : Nat) (hs : s.size ≤ 140737488351232) (hi : i ≤ e) (he : e ≤ s.size) (hE : isD s e = false) (hE2 : nx s e false ≠ 46) (S : Mst) (ha : S.a = i) (hb : S.b = false) (hmi : S.mi = 0) (hsc : S.sc = 0) (hmc : S.mc = 0) :
    (∃ p : Nat, Calls Tryz.prog 47 #[.string s, .int .i64 (i : Int), .int .i64 (e : Int)] w (PostK w (t5 0 0 0 0 0) 100 (p : Int)) ∧ (ck6 s S).a = p ∧ ((ck6 s S).b = true ∨ p < e)) ∨
    (∃ h m sc mc p : Nat, Calls Tryz.prog 47 #[.string s, .int .i64 (i : Int), .int .i64 (e : Int)] w (PostK w (t5 h m sc mc p) (clC h m sc) (clA i h m sc)) ∧
      ck6 s S = { S with a := e, b := false, h := h, mi := m, sc := sc, mc := mc, p := p, o := S.o.or (clO i h m sc) }) := by
  subst ha
  have hn := cnt6 s S.a
  have k1 := cnt_le s 2 S.a
  have k2 := cnt_le s 2 (S.a + 2)
  have k3 := cnt_le s 2 (S.a + 4)
  have hX := (cnt_ext he hE 6 S.a hi).2
  unfold ck6
  by_cases h1 : cnt s S.a 2 < 2
  · rw [if_pos h1] at hn
    left
    refine ⟨S.a + cnt s S.a 6, clock_form1 w s S.a e hs hi he hE (by omega), ?_⟩
    rw [hourS_eq hb rfl, more_stop _ (.inl (by simpa using h1)), frac_stop (.inl (by show 1 < 3; omega)), hn]
    exact ⟨rfl, .inl (by simpa using h1)⟩
  · rw [if_neg h1] at hn
    have e1 : cnt s S.a 2 = 2 := by omega
    have hH := hourS_eq (S := S) hb e1
    rw [hH]
    have hd2 : decide (2 < 2) = false := by decide
    rw [hd2, oc1]
    by_cases h2 : cnt s (S.a + 2) 2 = 0
    · rw [if_pos (by omega), h2] at hn
      rw [more_stop _ (.inr (by exact h2)), frac_stop (.inl (by show 1 < 3; omega))]
      by_cases hlt : S.a + 2 < e
      · left
        refine ⟨S.a + 2, ?_, rfl, .inr hlt⟩
        have := clock_form1 w s S.a e hs hi he hE (by omega)
        rw [hn] at this
        exact this
      · right
        have hee : S.a + 2 = e := by omega
        refine ⟨nv s S.a 2, 0, 0, 0, 1, clock_ok2 w s S.a e hs hi he hE hn hee, ?_⟩
        rw [hee]
        cases S
        simp only at hmi hsc hmc
        subst hmi hsc hmc
        rfl
    · by_cases h2' : cnt s (S.a + 2) 2 < 2
      · have e2 : cnt s (S.a + 2) 2 = 1 := by omega
        rw [if_pos h2', e2] at hn
        rw [more_go _ _ rfl (by show 0 < cnt s (S.a + 2) 2; omega), minuteS_eq rfl (by exact e2), more_stop _ (.inl (by show decide (1 < 2) = true; decide)), frac_stop (.inl (by show 2 < 3; omega))]
        left
        refine ⟨S.a + 3, ?_, rfl, .inl (by show decide (1 < 2) = true; decide)⟩
        have := clock_form1 w s S.a e hs hi he hE (by omega)
        rw [hn] at this
        exact this
      · have e2 : cnt s (S.a + 2) 2 = 2 := by omega
        rw [if_neg h2'] at hn
        rw [more_go _ _ rfl (by show 0 < cnt s (S.a + 2) 2; omega), minuteS_eq rfl (by exact e2)]
        simp only
        rw [hd2, show S.a + 2 + 2 = S.a + 4 by omega, oc2]
        by_cases h3 : cnt s (S.a + 4) 2 = 0
        · rw [h3] at hn
          rw [more_stop _ (.inr (by exact h3)), frac_stop (.inl (by show 2 < 3; omega))]
          by_cases hlt : S.a + 4 < e
          · left
            refine ⟨S.a + 4, ?_, rfl, .inr hlt⟩
            have := clock_form1 w s S.a e hs hi he hE (by omega)
            rw [hn] at this
            exact this
          · right
            have hee : S.a + 4 = e := by omega
            refine ⟨nv s S.a 2, nv s (S.a + 2) 2, 0, 0, 2, clock_ok4 w s S.a e hs hi he hE hn hee, ?_⟩
            rw [hee]
            cases S
            simp only at hmi hsc hmc
            subst hmi hsc hmc
            rfl
        · by_cases h3' : cnt s (S.a + 4) 2 < 2
          · have e3 : cnt s (S.a + 4) 2 = 1 := by omega
            rw [e3] at hn
            rw [more_go _ _ rfl (by show 0 < cnt s (S.a + 4) 2; omega), secondS_eq rfl (by exact e3), more_stop _ (.inl (by show decide (1 < 2) = true; decide)), frac_stop (.inr (by show nx s _ (decide (1 < 2)) ≠ 46; rw [show decide (1 < 2) = true by decide, nx_brk]; decide))]
            left
            refine ⟨S.a + 5, ?_, rfl, .inl (by show decide (1 < 2) = true; decide)⟩
            have := clock_form1 w s S.a e hs hi he hE (by omega)
            rw [hn] at this
            exact this
          · have e3 : cnt s (S.a + 4) 2 = 2 := by omega
            rw [e3] at hn
            rw [more_go _ _ rfl (by show 0 < cnt s (S.a + 4) 2; omega), secondS_eq rfl (by exact e3)]
            simp only
            rw [hd2, show S.a + 4 + 2 = S.a + 6 by omega, oc3, show ∀ X, moreS s [] X = X from fun _ => rfl]
            by_cases hlt : S.a + 6 < e
            · have hsz : S.a + 6 < s.size := by omega
              by_cases hdot : (s.get! (S.a + 6)).toNat = 46
              · have hf : ∀ X : Mst, X.p = 3 → X.a = S.a + 6 → X.b = false → fracS s X = frS s X := fun X h1 h2 h3 => by
                  unfold fracS
                  rw [if_neg (by omega), h2, h3, nx_in hsz, if_pos hdot]
                rw [hf _ rfl rfl rfl]
                unfold frS frC
                simp only
                rw [show S.a + 6 + 1 = S.a + 7 by omega]
                obtain ⟨n, hfr⟩ : ∃ n, cnt s (S.a + 7) 6 = n := ⟨_, rfl⟩
                rw [hfr]
                have hX7 := (cnt_ext he hE 6 (S.a + 7) (by omega)).2
                rw [hfr] at hX7
                by_cases hbad : n = 0 ∨ S.a + 7 + n < e
                · left
                  refine ⟨S.a + 7 + n, clock_form4 w s S.a e hs hi he hE hn hlt hdot n hfr hbad, rfl, ?_⟩
                  rcases hbad with h | h
                  · left; show decide (n < 1) = true; simp; omega
                  · exact .inr h
                · right
                  have hn0 : 0 < n := by omega
                  have hee : S.a + 7 + n = e := by omega
                  refine ⟨nv s S.a 2, nv s (S.a + 2) 2, nv s (S.a + 4) 2, nv s (S.a + 7) n * 10 ^ (6 - n), 3 + n, clock_ok8 w s S.a e hs hi he hE hn hdot n hfr hn0 hee, ?_⟩
                  rw [hee, show decide (n < 1) = false by simp; omega]
              · left
                refine ⟨S.a + 6, clock_form3 w s S.a e hs hi he hE hn hlt hdot, ?_⟩
                rw [frac_stop (.inr (by show nx s (S.a + 6) false ≠ 46; rw [nx_in hsz]; exact hdot))]
                exact ⟨rfl, .inr hlt⟩
            · right
              have hee : S.a + 6 = e := by omega
              refine ⟨nv s S.a 2, nv s (S.a + 2) 2, nv s (S.a + 4) 2, 0, 3, clock_ok6 w s S.a e hs hi he hE hn hee, ?_⟩
              rw [hee, frac_stop (.inr hE2)]
              cases S
              simp only at hmi hsc hmc
              subst hmi hsc hmc
              rfl
end Go.Proofs.YtgdemlebohlolaaGreatDoor.Tm
