import Derived.Test.YtaingbnfalibjaaDoorDg
/-
  DERIVED. PrintNumber of both.
-/
namespace Go.Proofs.YtaingbnfalibjaaDoor
open Go Go.Proofs Go.RowKit NumLine

/-- The document's text without a sign. -/
def rT (a : Nm) : List UInt8 := if 30 < a.e ∨ a.e < -40 then shE a else if (shE a).length < (shP a).length then shE a else shP a
def rpT (a : Nm) : List UInt8 := if a.neg = true then 45 :: rT a else rT a
theorem shP_long (a : Nm) (h : a.e < -16 ∨ 16 < a.e) : 16 < (shP a).length := by
  have hp := dec_pos a.d
  unfold shP
  split
  · rename_i h0
    unfold pPos
    rw [List.length_append, rep_len]
    omega
  · rename_i h0
    unfold ptAt
    rw [List.length_append, List.length_cons, List.length_take, List.length_drop, List.length_append, rep_len]
    omega
theorem rT_sh (a : Nm) : rT a = shT a ∨ (16 < (rT a).length ∧ 16 < (shT a).length) := by
  unfold rT shT
  by_cases h : a.e < -16 ∨ 16 < a.e
  · rw [if_pos h]
    by_cases h2 : 30 < a.e ∨ a.e < -40
    · rw [if_pos h2]; exact .inl rfl
    · rw [if_neg h2]
      by_cases h3 : (shE a).length < (shP a).length
      · rw [if_pos h3]; exact .inl rfl
      · rw [if_neg h3]
        have := shP_long a h
        exact .inr ⟨this, by omega⟩
  · rw [if_neg h, if_neg (by omega)]
    by_cases h3 : (shE a).length < (shP a).length
    · rw [if_pos h3, if_neg (by omega)]; exact .inl rfl
    · rw [if_neg h3, if_pos (by omega)]; exact .inl rfl
theorem rpT_pr (a : Nm) : rpT a = prT a ∨ (16 < (rpT a).length ∧ 16 < (prT a).length) := by
  unfold rpT prT
  rcases rT_sh a with h | ⟨h1, h2⟩
  · rw [h]; exact .inl rfl
  · split
    · exact .inr ⟨by rw [List.length_cons]; omega, by rw [List.length_cons]; omega⟩
    · exact .inr ⟨h1, h2⟩

def isZ (a : Nm) : Prop := a.d = 0 ∧ a.neg = false ∧ a.e = 0
instance (a : Nm) : Decidable (isZ a) := by unfold isZ; infer_instance
/-- What PrintNumber tells. -/
def PR (a : Nm) : ByteArray × Option (Int × Int) :=
  if a.d % 10 = 0 ∧ ¬ isZ a then (⟨#[]⟩, some (1, 102)) else if 16 < (prT a).length then (⟨#[]⟩, some (0, 103)) else (ba (prT a), none)

theorem rep_tail (k : Nat) : Lib.repeatL [48] k ++ [48] = Lib.repeatL [48] (k + 1) := by
  induction k with
  | zero => rfl
  | succ k ih => rw [rep_succ, List.cons_append, ih]; rfl

set_option maxRecDepth 100000 in
theorem zeros_any (w : World) (n : Int) (h : n ≤ 60) : Calls Tryd.prog 50 #[.int .i64 n] w fun e w' => e = .returned (.string (ba (Lib.repeatL [48] n.toNat))) ∧ w = w' := by
  obtain ⟨N, hN⟩ : ∃ N, n.toNat = N := ⟨_, rfl⟩
  have hN60 : N ≤ 60 := by omega
  rw [hN]
  go_enter Tryd.func50, Tryd.ntmps50
  go_wp2
  go_loopg [3, 4] N (fun g s3 s4 wx => ∃ (i : Nat) (u : ByteArray), s3 = .string u ∧ s4 = .int .i64 (i : Int) ∧ g + i = N ∧ Hid (u = ba (Lib.repeatL [48] i)) ∧ u.size ≤ 60 ∧ w = wx)
  case atStart => exact ⟨0, ⟨#[]⟩, rfl, rfl, by omega, rfl, by decide, rfl⟩
  case round =>
    obtain ⟨i, u, rfl, rfl, hg, HU, hu, rfl⟩ := hrel
    have hus : u.size = i := by rw [HU.out, ba_size, rep_len]
    by_cases hi : i < N
    · have hiI : (i : Int) < n := by omega
      obtain ⟨u2, hu2⟩ : ∃ u2, u ++ (⟨#[48]⟩ : ByteArray) = u2 := ⟨_, rfl⟩
      have HU2 : Hid (u2 = ba (Lib.repeatL [48] (i + 1))) := by
        show _ = _
        rw [← hu2, HU.out, ← rep_tail, ← ba_app]
        rfl
      have hu2s : u2.size ≤ 60 := by rw [HU2.out, ba_size, rep_len]; omega
      clear HU hus hN
      go_wp2
      go_roundg (N - (i + 1))
      case measure => omega
      case rel => exact ⟨i + 1, u2, by first | rfl | (rw [hu2]), by first | rfl | simp, by omega, HU2, hu2s, rfl⟩
    · have hiI : ¬ ((i : Int) < n) := by omega
      obtain rfl : i = N := by omega
      have hE := HU.out
      subst hE
      clear HU hus
      go_wp2
      go_ret
      exact ⟨rfl, rfl⟩

/-- Without E, whatever the exponent is; nothing where it is far. -/
def rP (a : Nm) : List UInt8 := if 30 < a.e ∨ a.e < -40 then [] else shP a
theorem shP_pos (a : Nm) (h : 0 ≤ a.e) : shP a = Lib.decDigits a.d ++ Lib.repeatL [48] a.e.toNat := by unfold shP; rw [if_pos h]; rfl
theorem shP_in (a : Nm) (h : a.e < 0) (k : Nat) (hk : ((Lib.decDigits a.d).length : Int) + a.e = (k : Int)) (h0 : 0 < k) : shP a = (Lib.decDigits a.d).take k ++ 46 :: (Lib.decDigits a.d).drop k := by
  unfold shP
  rw [if_neg (by omega), show 1 + (-a.e).toNat - (Lib.decDigits a.d).length = 0 by omega]
  show ptAt (Lib.decDigits a.d) _ = _
  unfold ptAt
  rw [show (Lib.decDigits a.d).length - (-a.e).toNat = k by omega]
theorem shP_low (a : Nm) (h : a.e < 0) (k : Nat) (hk : -((Lib.decDigits a.d).length : Int) - a.e = (k : Int)) : shP a = [48, 46] ++ (Lib.repeatL [48] k ++ Lib.decDigits a.d) := by
  unfold shP
  rw [if_neg (by omega), show 1 + (-a.e).toNat - (Lib.decDigits a.d).length = k + 1 by omega]
  unfold ptAt
  rw [List.length_append, rep_len, show k + 1 + (Lib.decDigits a.d).length - (-a.e).toNat = 1 by omega, rep_succ]
  rfl

set_option maxRecDepth 100000 in
set_option maxHeartbeats 1000000 in
theorem plain38_any (w : World) (a : Nm) (hd : a.d < 18446744073709551616) (h1 : -9223372036854775808 ≤ a.e) (h2 : a.e ≤ 9223372036854775807) :
    Calls Tryd.prog 38 #[.string (ba (Lib.decDigits a.d)), .int .i64 a.e] w fun e w' => e = .returned (.string (ba (rP a))) ∧ Below w.heap.size w w' := by
  have hl := dec_len a.d hd
  have zz := ba_size (Lib.decDigits a.d)
  have q1 := shP_pos a
  have q2 := shP_in a
  have q3 := shP_low a
  obtain ⟨R, hR⟩ : ∃ R, rP a = R := ⟨_, rfl⟩
  have HR : Hid (rP a = R) := hR
  have HR2 : Hid (rP a = if 30 < a.e ∨ a.e < -40 then [] else shP a) := rfl
  rw [hR]
  clear hR
  generalize shP a = S at *
  obtain ⟨nn, dd, E⟩ := a
  dsimp only at *
  generalize Lib.decDigits dd = D at *
  obtain ⟨u, hu⟩ : ∃ u, ba D = u := ⟨_, rfl⟩
  have HU : Hid (ba D = u) := hu
  rw [hu] at zz ⊢
  obtain ⟨n, hn⟩ : ∃ n, D.length = n := ⟨_, rfl⟩
  have HN : Hid (D.length = n) := hn
  rw [hn] at hl zz q2 q3
  obtain ⟨l1, l2⟩ := hl
  have Q1 : Hid _ := q1
  have Q2 : Hid _ := q2
  have Q3 : Hid _ := q3
  have ZZ : Hid (u.size = n) := zz
  have zzI : u.size ≤ 20 := by omega
  have zzI2 : 1 ≤ u.size := by omega
  clear hu hn hd q1 q2 q3 zz
  by_cases hA : 30 < E
  · obtain rfl : R = [] := by rw [← HR.out, HR2.out, if_pos (.inl hA)]
    have hAI : decide (30 < E) = true := decide_eq_true hA
    go_enter Tryd.func38, Tryd.ntmps38
    go_wp2
    go_ret
    exact ⟨rfl, Below.refl _ _⟩
  · have hAI : decide (30 < E) = false := decide_eq_false hA
    by_cases hB : E < -40
    · obtain rfl : R = [] := by rw [← HR.out, HR2.out, if_pos (.inr hB)]
      have hBI : decide (E < -40) = true := decide_eq_true hB
      go_enter Tryd.func38, Tryd.ntmps38
      go_wp2
      go_ret
      exact ⟨rfl, Below.refl _ _⟩
    · have hBI : decide (E < -40) = false := decide_eq_false hB
      obtain rfl : R = S := by rw [← HR.out, HR2.out, if_neg (by omega)]
      clear HR HR2
      by_cases hC : 0 ≤ E
      · have hCI : decide (0 ≤ E) = true := decide_eq_true hC
        have c50 := zeros_any w E (by omega)
        have zk := ba_size (Lib.repeatL [48] E.toNat)
        rw [rep_len] at zk
        have HE : Hid (u ++ ba (Lib.repeatL [48] E.toNat) = ba R) := by show _ = _; rw [Q1.out hC, ← ba_app, HU.out]
        have zk2 : (ba (Lib.repeatL [48] E.toNat)).size ≤ 30 := by omega
        generalize ba (Lib.repeatL [48] E.toNat) = v at *
        clear zk Q1 Q2 Q3 HU
        go_enter Tryd.func38, Tryd.ntmps38
        go_wp2_with (go_at_call 50; refine Stop.mk ?_)
        refine Stop.out (c50.mono ?_)
        rintro e W1 ⟨rfl, rfl⟩
        go_wp2
        go_ret
        exact ⟨by rw [HE.out]; rfl, Below.refl _ _⟩
      · have hCI : decide (0 ≤ E) = false := decide_eq_false hC
        by_cases hD : 0 < (n : Int) + E
        · obtain ⟨k, hk⟩ : ∃ k : Nat, (n : Int) + E = (k : Int) := ⟨((n : Int) + E).toNat, by omega⟩
          have hkn : k ≤ u.size := by rw [ZZ.out]; omega
          have hk0 : 0 < k := by omega
          have HK : Hid ((u.extract 0 k ++ ⟨#[46]⟩) ++ u.extract k u.size = ba R) := by
            show _ = _
            rw [Q2.out (by omega) k hk hk0, ZZ.out, ← HU.out, ba_ext, ba_ext, List.drop_zero, ← HN.out, List.take_length]
            show (ba _ ++ ba [46]) ++ ba _ = _
            rw [ba_app, ba_app, List.append_assoc]
            rfl
          have hkI : (u.size : Int) + E = (k : Int) := by rw [ZZ.out]; exact hk
          have hkI3 : decide ((0 : Int) < (k : Int)) = true := decide_eq_true (by omega)
          have z1 : (u.extract 0 k).size ≤ 20 := by rw [ByteArray.size_extract]; omega
          have z2 : (u.extract k u.size).size ≤ 20 := by rw [ByteArray.size_extract]; omega
          obtain ⟨v1, hv1⟩ : ∃ v, u.extract 0 k = v := ⟨_, rfl⟩
          obtain ⟨v2, hv2⟩ : ∃ v, u.extract k u.size = v := ⟨_, rfl⟩
          rw [hv1] at HK z1
          rw [hv2] at HK z2
          have z3 : (v1 ++ (⟨#[46]⟩ : ByteArray)).size ≤ 21 := by rw [ByteArray.size_append]; show v1.size + 1 ≤ 21; omega
          obtain ⟨v3, hv3⟩ : ∃ v, v1 ++ (⟨#[46]⟩ : ByteArray) = v := ⟨_, rfl⟩
          rw [hv3] at HK z3
          have hkb : (0 : Int) ≤ (k : Int) := by omega
          have hkb2 : (k : Int) ≤ (u.size : Int) := by omega
          clear hk hD Q1 Q2 Q3 HU
          go_enter Tryd.func38, Tryd.ntmps38
          go_wp2
          go_quiet (fail)
          go_wp2
          go_ret
          exact ⟨by rw [HK.out]; rfl, below_drewN (Below.refl _ _) _⟩
        · obtain ⟨k, hk⟩ : ∃ k : Nat, -(n : Int) - E = (k : Int) := ⟨(-(n : Int) - E).toNat, by omega⟩
          have hkI : -(u.size : Int) - E = (k : Int) := by rw [ZZ.out]; exact hk
          have hD2 : ¬ (0 < (u.size : Int) + E) := by rw [ZZ.out]; exact hD
          have c50 := zeros_any w (k : Int) (by omega)
          rw [Int.toNat_natCast] at c50
          have zk := ba_size (Lib.repeatL [48] k)
          rw [rep_len] at zk
          have zk2 : (ba (Lib.repeatL [48] k)).size ≤ 60 := by omega
          have HE : Hid (((⟨#[48, 46]⟩ : ByteArray) ++ ba (Lib.repeatL [48] k)) ++ u = ba R) := by
            show _ = _
            rw [Q3.out (by omega) k hk, ← HU.out]
            show (ba [48, 46] ++ _) ++ _ = _
            rw [ba_app, ba_app, List.append_assoc]
          generalize ba (Lib.repeatL [48] k) = v at *
          have z3 : ((⟨#[48, 46]⟩ : ByteArray) ++ v).size ≤ 62 := by rw [ByteArray.size_append]; show 2 + v.size ≤ 62; omega
          obtain ⟨v3, hv3⟩ : ∃ x, (⟨#[48, 46]⟩ : ByteArray) ++ v = x := ⟨_, rfl⟩
          rw [hv3] at HE z3
          clear zk Q1 Q2 Q3 HU hk hD
          go_enter Tryd.func38, Tryd.ntmps38
          go_wp2_with (go_at_call 50; refine Stop.mk ?_)
          refine Stop.out (c50.mono ?_)
          rintro e W1 ⟨rfl, rfl⟩
          go_wp2
          go_ret
          exact ⟨by rw [HE.out]; rfl, Below.refl _ _⟩
end Go.Proofs.YtaingbnfalibjaaDoor
