import Derived.Test.YtaingbnfalibjaaDoorDg
/-
  DERIVED. The document's CompareNumber.
-/
namespace Go.Proofs.YtaingbnfalibjaaDoor
open Go Go.Proofs Go.RowKit NumLine

theorem place_any (w : World) (x : Int) (n : Nat) (hn : n ≤ 20) (h0 : -9223372036854775808 ≤ x) (h1 : x ≤ 9223372036854775807) : Calls Tryd.prog 51 #[.int .i64 x, .int .i64 (n : Int)] w fun e w' => e = .returned (.tuple #[.int .i64 ((x + n) / 256), .int .i64 ((x + n) % 256)]) ∧ w = w' := by
  have a2 : ∀ y, bits .and .i64 y 255 = y % 256 := and255
  go_enter Tryd.func51, Tryd.ntmps51
  go_wp2
  refine bodyPost_ret (v := .tuple #[.int .i64 ((x + n) / 256), .int .i64 ((x + n) % 256)]) ?_ rfl ⟨rfl, rfl⟩
  have e2 : x / 256 + (x % 256 + (n : Int)) / 256 = (x + n) / 256 := by omega
  simp [results, Tryd.results51, go_sem, e2]

theorem order_any (w : World) (x y : Int) : Calls Tryd.prog 52 #[.int .i64 x, .int .i64 y] w fun e w' => e = .returned (.int .i64 (cmpI x y)) ∧ w = w' := by
  rcases cmpI_cases x y with ⟨h, e⟩ | ⟨h, e⟩ | ⟨h, e⟩
  · rw [e]
    clear e
    go_enter Tryd.func52, Tryd.ntmps52
    go_wp2
    go_ret
    exact ⟨rfl, rfl⟩
  · rw [e]
    clear e
    subst h
    go_enter Tryd.func52, Tryd.ntmps52
    go_wp2
    go_ret
    exact ⟨rfl, rfl⟩
  · rw [e]
    clear e
    have h1 : ¬ x < y := by omega
    go_enter Tryd.func52, Tryd.ntmps52
    go_wp2
    go_ret
    exact ⟨rfl, rfl⟩

theorem cmp_parts (u v : Int) : (cmpI (u / 256) (v / 256) ≠ 0 ∧ cmpI (u / 256) (v / 256) = cmpI u v) ∨ (cmpI (u / 256) (v / 256) = 0 ∧ cmpI (u % 256) (v % 256) = cmpI u v) := by
  rcases cmpI_cases (u / 256) (v / 256) with ⟨h, e⟩ | ⟨h, e⟩ | ⟨h, e⟩ <;> rcases cmpI_cases u v with ⟨h2, e2⟩ | ⟨h2, e2⟩ | ⟨h2, e2⟩ <;> rcases cmpI_cases (u % 256) (v % 256) with ⟨h3, e3⟩ | ⟨h3, e3⟩ | ⟨h3, e3⟩ <;> omega

theorem dg0_at {u : ByteArray} {i c : Nat} (h : i < u.size) (hc : u[i].toNat = c) : dg0 (u.data.toList.drop i) = c := by
  rw [drop_byte h]; exact hc
theorem dg0_end {u : ByteArray} {i : Nat} (h : ¬ i < u.size) : dg0 (u.data.toList.drop i) = 48 := by
  rw [List.drop_eq_nil_of_le (by rw [Array.length_toList]; show u.size ≤ _; omega)]; rfl

/-- Where the comparing stands: told already, or the rest tells it. -/
def SzI (F k : Int) (L i : Nat) (u v : ByteArray) : Prop := (k ≠ 0 → k = F) ∧ (k = 0 → lx (L - i) (u.data.toList.drop i) (v.data.toList.drop i) = F)
theorem SzI.next {F : Int} {L i : Nat} {u v : ByteArray} (h : SzI F 0 L i u v) (hi : i < L) {c d : Nat} (hc : dg0 (u.data.toList.drop i) = c) (hd : dg0 (v.data.toList.drop i) = d) : SzI F (cmpI (c : Int) (d : Int)) L (i + 1) u v := by
  have h1 := h.2 rfl
  rw [show L - i = (L - (i + 1)) + 1 by omega, lx, hc, hd, List.tail_drop, List.tail_drop] at h1
  refine ⟨fun hn => ?_, fun hz => ?_⟩
  · rw [if_neg hn] at h1; exact h1
  · rw [if_pos hz] at h1; exact h1

set_option maxRecDepth 100000 in
set_option maxHeartbeats 4000000 in
theorem size39_any (w : World) (a b : Nm) (ha : a.d < 18446744073709551616) (hb : b.d < 18446744073709551616)
    (he1 : -9223372036854775808 ≤ a.e) (he2 : a.e ≤ 9223372036854775807) (he3 : -9223372036854775808 ≤ b.e) (he4 : b.e ≤ 9223372036854775807) (hp : Pow w) :
    Calls Tryd.prog 39 #[nv a, nv b] w fun e w' => e = .returned (.int .i64 (szD a b)) ∧ Below w.heap.size w w' := by
  have f1 := fun W h => fmtUint_any W a.d ha h
  have f2 := fun W h => fmtUint_any W b.d hb h
  have hu0 : (⟨(Lib.decDigits a.d).toArray⟩ : ByteArray).data.toList = Lib.decDigits a.d := by simp
  have hv0 : (⟨(Lib.decDigits b.d).toArray⟩ : ByteArray).data.toList = Lib.decDigits b.d := by simp
  have lu := (dec_len a.d ha).2
  have lv := (dec_len b.d hb).2
  have zu : (⟨(Lib.decDigits a.d).toArray⟩ : ByteArray).size = (Lib.decDigits a.d).length := by simp [ByteArray.size]
  have zv : (⟨(Lib.decDigits b.d).toArray⟩ : ByteArray).size = (Lib.decDigits b.d).length := by simp [ByteArray.size]
  have HF0 : Hid (szD a b = if cmpI (a.e + (Lib.decDigits a.d).length) (b.e + (Lib.decDigits b.d).length) = 0 then lx (max (Lib.decDigits a.d).length (Lib.decDigits b.d).length) (Lib.decDigits a.d) (Lib.decDigits b.d) else cmpI (a.e + (Lib.decDigits a.d).length) (b.e + (Lib.decDigits b.d).length)) := rfl
  rw [← zu] at lu
  rw [← zv] at lv
  rw [← zu, ← zv, ← hu0, ← hv0] at HF0
  generalize (⟨(Lib.decDigits a.d).toArray⟩ : ByteArray) = u at *
  generalize (⟨(Lib.decDigits b.d).toArray⟩ : ByteArray) = v at *
  generalize szD a b = F at *
  clear hu0 hv0 zu zv
  obtain ⟨n1, d1, x1⟩ := a
  obtain ⟨n2, d2, x2⟩ := b
  unfold nv at *
  dsimp only at *
  have HT : Hid (Two ((w.alloc (.cells #[.bool n1, .int .u64 (d1 : Int), .int .i64 x1] 24)).alloc (.cells #[.bool n2, .int .u64 (d2 : Int), .int .i64 x2] 24)) w.heap.size n1 d1 x1 n2 d2 x2) := Two.start w n1 d1 x1 n2 d2 x2
  obtain ⟨W0, hW0⟩ : ∃ W0, (w.alloc (.cells #[.bool n1, .int .u64 (d1 : Int), .int .i64 x1] 24)).alloc (.cells #[.bool n2, .int .u64 (d2 : Int), .int .i64 x2] 24) = W0 := ⟨_, rfl⟩
  have HB0 : Hid (Below w.heap.size w W0) := hW0 ▸ ((Below.refl _ _).alloc (Nat.le_refl _) _).alloc (by simp) _
  have HS0 : Hid (w.heap.size + 2 ≤ W0.heap.size) := by show _ ≤ _; rw [← hW0]; simp
  rw [hW0] at HT
  have HP0 : Hid (Pow W0) := by
    show Pow W0
    rw [← hW0]
    exact (hp.on ((Below.refl _ _).alloc (Nat.le_refl _) _)).on ((Below.refl _ _).alloc (Nat.le_refl _) _)
  have c1 := f1 W0 HP0.out
  obtain ⟨t0, t1, t2, t3, t4, t5⟩ := HT.out
  clear f1 ha hb hp
  go_enter Tryd.func39, Tryd.ntmps39
  go_wp2_with (go_at_call 37; refine Stop.mk ?_)
  refine Stop.out (c1.mono ?_)
  rintro e W1 ⟨rfl, hb1⟩
  have HB1 : Hid (Below w.heap.size w W1) := HB0.out.trans (hb1.mono HB0.out.size)
  have HS1 : Hid (w.heap.size + 2 ≤ W1.heap.size) := Nat.le_trans HS0.out hb1.size
  have HT1 : Hid (Two W1 w.heap.size n1 d1 x1 n2 d2 x2) := HT.out.on (hb1.mono HS0.out)
  have c2 := f2 W1 (HP0.out.on hb1)
  clear t0 t1 t2 t3 t4 t5 HB0 HS0 HT c1 f2 hW0 HP0 hb1
  obtain ⟨t0, t1, t2, t3, t4, t5⟩ := HT1.out
  go_wp2_with (go_at_call 37; refine Stop.mk ?_)
  refine Stop.out (c2.mono ?_)
  rintro e W2 ⟨rfl, hb1⟩
  have HB2 : Hid (Below w.heap.size w W2) := HB1.out.trans (hb1.mono HB1.out.size)
  have HT2 : Hid (Two W2 w.heap.size n1 d1 x1 n2 d2 x2) := HT1.out.on (hb1.mono HS1.out)
  clear t0 t1 t2 t3 t4 t5 HB1 HS1 HT1 c2 hb1
  obtain ⟨t0, t1, t2, t3, t4, t5⟩ := HT2.out
  have p1 := place_any W2 x1 u.size lu he1 he2
  have p2 := place_any W2 x2 v.size lv he3 he4
  have hcp := cmp_parts (x1 + u.size) (x2 + v.size)
  have o1 := order_any W2 ((x1 + u.size) / 256) ((x2 + v.size) / 256)
  have o2 := order_any W2 ((x1 + u.size) % 256) ((x2 + v.size) % 256)
  have HF1 : Hid (SzI F (cmpI (x1 + u.size) (x2 + v.size)) (max u.size v.size) 0 u v) := by
    have := HF0.out
    refine ⟨fun hn => ?_, fun hz => ?_⟩
    · rw [if_neg hn] at this; exact this.symm
    · rw [if_pos hz] at this; exact this.symm
  obtain ⟨K, hK⟩ : ∃ K, cmpI (x1 + u.size) (x2 + v.size) = K := ⟨_, rfl⟩
  rw [hK] at HF1 hcp
  have HCP : Hid _ := hcp
  clear HF0 hcp
  generalize (x1 + (u.size : Int)) / 256 = A1 at *
  generalize (x1 + (u.size : Int)) % 256 = A2 at *
  generalize (x2 + (v.size : Int)) / 256 = A3 at *
  generalize (x2 + (v.size : Int)) % 256 = A4 at *
  clear hK he1 he2 he3 he4
  go_wp2_with (go_at_call 51; refine Stop.mk ?_)
  refine Stop.out (p1.mono ?_)
  rintro e W ⟨rfl, rfl⟩
  clear p1
  go_wp2_with (go_at_call 51; refine Stop.mk ?_)
  refine Stop.out (p2.mono ?_)
  rintro e W ⟨rfl, rfl⟩
  clear p2
  go_wp2_with (go_at_call 52; refine Stop.mk ?_)
  refine Stop.out (o1.mono ?_)
  rintro e W ⟨rfl, rfl⟩
  clear o1 t0 t1 t2 t3 t4 t5
  go_upto_if 41 with fail
  go_cut [11] from 15 (fun s11 wx => s11 = .int .i64 K ∧ wx = W2)
  case first =>
    rcases HCP.out with ⟨q1, q2⟩ | ⟨q1, q2⟩
    · have q1' : (cmpI A1 A3 == 0) = false := by simpa using q1
      rw [q2] at q1'
      rw [q2]
      clear q1 q2 o2
      go_wp2
      go_meet
      case rel => exact ⟨rfl, rfl⟩
    · rw [q2] at o2
      rw [q1]
      clear q1 q2
      go_wp2_with (go_at_call 52; refine Stop.mk ?_)
      refine Stop.out (o2.mono ?_)
      rintro e W ⟨rfl, rfl⟩
      clear o2
      go_wp2
      go_meet
      case rel => exact ⟨rfl, rfl⟩
  case rest =>
    obtain ⟨rfl, rfl⟩ := hcut
    clear HCP o2
    go_wp2
    obtain ⟨L, hL⟩ : ∃ L, max u.size v.size = L := ⟨_, rfl⟩
    have L1 : u.size ≤ L := by omega
    have L2 : v.size ≤ L := by omega
    have HL : Hid (max u.size v.size = L) := hL
    rw [hL] at HF1
    clear hL
    go_loopg [11, 12] L (fun g s11 s12 wx => ∃ (k : Int) (i : Nat), s11 = .int .i64 k ∧ s12 = .int .i64 (i : Int) ∧ g + i = L ∧ Hid (SzI F k L i u v) ∧ wc = wx)
    case atStart => exact ⟨K, 0, rfl, rfl, by omega, HF1, rfl⟩
    case round =>
      obtain ⟨k, i, rfl, rfl, hg, HI, rfl⟩ := hrel
      by_cases hk : k = 0
      · subst hk
        by_cases hi : i < L
        · by_cases h1 : i < u.size
          · have h1I : (i : Int) < (u.size : Int) := by omega
            have h1D : decide ((i : Int) < (u.size : Int)) = true := decide_eq_true h1I
            obtain ⟨c, hc⟩ : ∃ c, u[i].toNat = c := ⟨_, rfl⟩
            have k1 := dg0_at h1 hc
            have hc256 : c < 256 := by rw [← hc]; exact UInt8.toNat_lt _
            by_cases h2 : i < v.size
            · have h2I : (i : Int) < (v.size : Int) := by omega
              have h2D : decide ((i : Int) < (v.size : Int)) = true := decide_eq_true h2I
              obtain ⟨d, hd⟩ : ∃ d, v[i].toNat = d := ⟨_, rfl⟩
              have hd256 : d < 256 := by rw [← hd]; exact UInt8.toNat_lt _
              have HN : Hid (SzI F (cmpI (c : Int) (d : Int)) L (i + 1) u v) := HI.out.next hi k1 (dg0_at h2 hd)
              have o := order_any wc (c : Int) (d : Int)
              clear HI k1
              go_wp2_with (go_at_call 52; refine o.mono ?_; rintro e W ⟨rfl, rfl⟩)
              go_roundg (L - (i + 1))
              case measure => omega
              case rel => exact ⟨_, i + 1, rfl, by first | rfl | simp, by omega, HN, rfl⟩
            · have h2I : ¬ ((i : Int) < (v.size : Int)) := by omega
              have h2D : decide ((i : Int) < (v.size : Int)) = false := decide_eq_false h2I
              have HN : Hid (SzI F (cmpI (c : Int) 48) L (i + 1) u v) := HI.out.next hi k1 (dg0_end h2)
              have o := order_any wc (c : Int) 48
              clear HI k1
              go_wp2_with (go_at_call 52; refine o.mono ?_; rintro e W ⟨rfl, rfl⟩)
              go_roundg (L - (i + 1))
              case measure => omega
              case rel => exact ⟨_, i + 1, rfl, by first | rfl | simp, by omega, HN, rfl⟩
          · have h1I : ¬ ((i : Int) < (u.size : Int)) := by omega
            have h1D : decide ((i : Int) < (u.size : Int)) = false := decide_eq_false h1I
            have h2 : i < v.size := by have := HL.out; omega
            have h2I : (i : Int) < (v.size : Int) := by omega
            have h2D : decide ((i : Int) < (v.size : Int)) = true := decide_eq_true h2I
            obtain ⟨d, hd⟩ : ∃ d, v[i].toNat = d := ⟨_, rfl⟩
            have hd256 : d < 256 := by rw [← hd]; exact UInt8.toNat_lt _
            have HN : Hid (SzI F (cmpI 48 (d : Int)) L (i + 1) u v) := HI.out.next hi (dg0_end h1) (dg0_at h2 hd)
            have o := order_any wc 48 (d : Int)
            clear HI
            go_wp2_with (go_at_call 52; refine o.mono ?_; rintro e W ⟨rfl, rfl⟩)
            go_roundg (L - (i + 1))
            case measure => omega
            case rel => exact ⟨_, i + 1, rfl, by first | rfl | simp, by omega, HN, rfl⟩
        · have h1I : ¬ ((i : Int) < (u.size : Int)) := by omega
          have h1D : decide ((i : Int) < (u.size : Int)) = false := decide_eq_false h1I
          have h2I : ¬ ((i : Int) < (v.size : Int)) := by omega
          have h2D : decide ((i : Int) < (v.size : Int)) = false := decide_eq_false h2I
          have hF : (0 : Int) = F := by
            have := HI.out.2 rfl
            rw [show L - i = 0 by omega, lx] at this
            exact this
          subst hF
          clear HI
          go_wp2
          go_ret
          exact ⟨rfl, HB2.out⟩
      · have hkB : (k == 0) = false := by simpa using hk
        have hF : k = F := HI.out.1 hk
        subst hF
        clear HI hk
        go_wp2
        go_ret
        exact ⟨rfl, HB2.out⟩
end Go.Proofs.YtaingbnfalibjaaDoor
