import Derived.Test.YtehgeninocbpeaaGreatDoorYDg
import Derived.Test.YtehgeninocbpeaaGreatDoorQTg
namespace Go.Proofs.YtehgeninocbpeaaGreatDoor.Nu
open Go Go.Proofs Go.RowKit NumLine
theorem Pow.on {w w' : World} (h : Pow w) (hb : Below w.heap.size w w') : Pow w' := by
  unfold Pow Lib.TabIs World.var? at *
  cases hg : Tryz.prog.globalNamed "internal/strconv.uint64pow10" with
  | none => simp [hg] at h
  | some g =>
    simp only [hg, Option.bind_some] at h ⊢
    rcases Nat.lt_or_ge g w.heap.size with hl | hl
    · rw [hb.block g hl]; exact h
    · rw [Array.getElem?_eq_none hl] at h; cases h
structure Two (W : World) (B : Nat) (n1 : Bool) (d1 : Nat) (x1 : Int) (n2 : Bool) (d2 : Nat) (x2 : Int) : Prop where
  a0 : W.cell? ⟨B, 0, none⟩ = some (.bool n1)
  a1 : W.cell? ⟨B, 1, none⟩ = some (.int .u64 (d1 : Int))
  a2 : W.cell? ⟨B, 2, none⟩ = some (.int .i64 x1)
  b0 : W.cell? ⟨B + 1, 0, none⟩ = some (.bool n2)
  b1 : W.cell? ⟨B + 1, 1, none⟩ = some (.int .u64 (d2 : Int))
  b2 : W.cell? ⟨B + 1, 2, none⟩ = some (.int .i64 x2)
theorem Two.on {W W' : World} {B : Nat} {n1 : Bool} {d1 : Nat} {x1 : Int} {n2 : Bool} {d2 : Nat} {x2 : Int} (h : Two W B n1 d1 x1 n2 d2 x2) (hb : Below (B + 2) W W') : Two W' B n1 d1 x1 n2 d2 x2 :=
  ⟨(hb.cell (p := ⟨B, 0, none⟩) (by show B < _; omega)).trans h.a0, (hb.cell (p := ⟨B, 1, none⟩) (by show B < _; omega)).trans h.a1, (hb.cell (p := ⟨B, 2, none⟩) (by show B < _; omega)).trans h.a2, (hb.cell (p := ⟨B + 1, 0, none⟩) (by show B + 1 < _; omega)).trans h.b0, (hb.cell (p := ⟨B + 1, 1, none⟩) (by show B + 1 < _; omega)).trans h.b1, (hb.cell (p := ⟨B + 1, 2, none⟩) (by show B + 1 < _; omega)).trans h.b2⟩
theorem Two.start (w : World) (n1 : Bool) (d1 : Nat) (x1 : Int) (n2 : Bool) (d2 : Nat) (x2 : Int) : Two ((w.alloc (.cells #[.bool n1, .int .u64 (d1 : Int), .int .i64 x1] 73)).alloc (.cells #[.bool n2, .int .u64 (d2 : Int), .int .i64 x2] 73)) w.heap.size n1 d1 x1 n2 d2 x2 :=
  ⟨by simp [go_sem], by simp [go_sem], by simp [go_sem], by simp [go_sem], by simp [go_sem], by simp [go_sem]⟩
theorem place_any (w : World) (x : Int) (n : Nat) (hn : n ≤ 20) (h0 : -9223372036854775808 ≤ x) (h1 : x ≤ 9223372036854775807) : Calls Tryz.prog 117 #[.int .i64 x, .int .i64 (n : Int)] w fun e w' => e = .returned (.tuple #[.int .i64 ((x + n) / 256), .int .i64 ((x + n) % 256)]) ∧ w = w' := by
  have a2 : ∀ y, bits .and .i64 y 255 = y % 256 := and255
  go_enter Tryz.func117, Tryz.ntmps117
  go_wp2
  refine bodyPost_ret (v := .tuple #[.int .i64 ((x + n) / 256), .int .i64 ((x + n) % 256)]) ?_ rfl ⟨rfl, rfl⟩
  have e2 : x / 256 + (x % 256 + (n : Int)) / 256 = (x + n) / 256 := by omega
  simp [results, Tryz.results117, go_sem, e2]
theorem order_any (w : World) (x y : Int) : Calls Tryz.prog 118 #[.int .i64 x, .int .i64 y] w fun e w' => e = .returned (.int .i64 (cmpI x y)) ∧ w = w' := by
  rcases cmpI_cases x y with ⟨h, e⟩ | ⟨h, e⟩ | ⟨h, e⟩
  · rw [e]
    clear e
    go_enter Tryz.func118, Tryz.ntmps118
    go_wp2
    go_ret
    exact ⟨rfl, rfl⟩
  · rw [e]
    clear e
    subst h
    go_enter Tryz.func118, Tryz.ntmps118
    go_wp2
    go_ret
    exact ⟨rfl, rfl⟩
  · rw [e]
    clear e
    have h1 : ¬ x < y := by omega
    go_enter Tryz.func118, Tryz.ntmps118
    go_wp2
    go_ret
    exact ⟨rfl, rfl⟩
theorem cmp_parts (u v : Int) : (cmpI (u / 256) (v / 256) ≠ 0 ∧ cmpI (u / 256) (v / 256) = cmpI u v) ∨ (cmpI (u / 256) (v / 256) = 0 ∧ cmpI (u % 256) (v % 256) = cmpI u v) := by
  rcases cmpI_cases (u / 256) (v / 256) with ⟨h, e⟩ | ⟨h, e⟩ | ⟨h, e⟩ <;> rcases cmpI_cases u v with ⟨h2, e2⟩ | ⟨h2, e2⟩ | ⟨h2, e2⟩ <;> rcases cmpI_cases (u % 256) (v % 256) with ⟨h3, e3⟩ | ⟨h3, e3⟩ | ⟨h3, e3⟩ <;> omega
theorem dg0_at {u : ByteArray} {i c : Nat} (h : i < u.size) (hc : u[i].toNat = c) : dg0 (u.data.toList.drop i) = c := by
  rw [drop_byte h]; exact hc
theorem dg0_end {u : ByteArray} {i : Nat} (h : ¬ i < u.size) : dg0 (u.data.toList.drop i) = 48 := by
  rw [List.drop_eq_nil_of_le (by rw [Array.length_toList]; show u.size ≤ _; omega)]; rfl
def SzI (F k : Int) (L i : Nat) (u v : ByteArray) : Prop := (k ≠ 0 → k = F) ∧ (k = 0 → lx (L - i) (u.data.toList.drop i) (v.data.toList.drop i) = F)
theorem SzI.next {F : Int} {L i : Nat} {u v : ByteArray} (h : SzI F 0 L i u v) (hi : i < L) {c d : Nat} (hc : dg0 (u.data.toList.drop i) = c) (hd : dg0 (v.data.toList.drop i) = d) : SzI F (cmpI (c : Int) (d : Int)) L (i + 1) u v := by
  have h1 := h.2 rfl
  rw [show L - i = (L - (i + 1)) + 1 by omega, lx, hc, hd, List.tail_drop, List.tail_drop] at h1
  refine ⟨fun hn => ?_, fun hz => ?_⟩
  · rw [if_neg hn] at h1; exact h1
  · rw [if_pos hz] at h1; exact h1
set_option maxRecDepth 100000 in
set_option maxHeartbeats 4000000 in
theorem size39_any (w : World) (a b : Nm) (ha : a.d < 18446744073709551616) (hb : b.d < 18446744073709551616)
    (he1 : -9223372036854775808 ≤ a.e) (he2 : a.e ≤ 9223372036854775807) (he3 : -9223372036854775808 ≤ b.e) (he4 : b.e ≤ 9223372036854775807) (hp : Pow w) :
    Calls Tryz.prog 91 #[nv a, nv b] w fun e w' => e = .returned (.int .i64 (szD a b)) ∧ Below w.heap.size w w' := by
  have f1 := fun W h => fmtUint_any W a.d ha h
  have f2 := fun W h => fmtUint_any W b.d hb h
  have hu0 : (⟨(Lib.decDigits a.d).toArray⟩ : ByteArray).data.toList = Lib.decDigits a.d := by simp
  have hv0 : (⟨(Lib.decDigits b.d).toArray⟩ : ByteArray).data.toList = Lib.decDigits b.d := by simp
  have lu := (dec_len a.d ha).2
  have lv := (dec_len b.d hb).2
  have zu : (⟨(Lib.decDigits a.d).toArray⟩ : ByteArray).size = (Lib.decDigits a.d).length := by simp [ByteArray.size]
  have zv : (⟨(Lib.decDigits b.d).toArray⟩ : ByteArray).size = (Lib.decDigits b.d).length := by simp [ByteArray.size]
  have HF0 : Hid (szD a b = if cmpI (a.e + (Lib.decDigits a.d).length) (b.e + (Lib.decDigits b.d).length) = 0 then lx (max (Lib.decDigits a.d).length (Lib.decDigits b.d).length) (Lib.decDigits a.d) (Lib.decDigits b.d) else cmpI (a.e + (Lib.decDigits a.d).length) (b.e + (Lib.decDigits b.d).length)) := rfl
  rw [← zu] at lu
  rw [← zv] at lv
  rw [← zu, ← zv, ← hu0, ← hv0] at HF0
  generalize (⟨(Lib.decDigits a.d).toArray⟩ : ByteArray) = u at *
  generalize (⟨(Lib.decDigits b.d).toArray⟩ : ByteArray) = v at *
  generalize szD a b = F at *
  clear hu0 hv0 zu zv
  obtain ⟨n1, d1, x1⟩ := a
  obtain ⟨n2, d2, x2⟩ := b
  unfold nv at *
  dsimp only at *
  have HT : Hid (Two ((w.alloc (.cells #[.bool n1, .int .u64 (d1 : Int), .int .i64 x1] 73)).alloc (.cells #[.bool n2, .int .u64 (d2 : Int), .int .i64 x2] 73)) w.heap.size n1 d1 x1 n2 d2 x2) := Two.start w n1 d1 x1 n2 d2 x2
  obtain ⟨W0, hW0⟩ : ∃ W0, (w.alloc (.cells #[.bool n1, .int .u64 (d1 : Int), .int .i64 x1] 73)).alloc (.cells #[.bool n2, .int .u64 (d2 : Int), .int .i64 x2] 73) = W0 := ⟨_, rfl⟩
  have HB0 : Hid (Below w.heap.size w W0) := hW0 ▸ ((Below.refl _ _).alloc (Nat.le_refl _) _).alloc (by simp) _
  have HS0 : Hid (w.heap.size + 2 ≤ W0.heap.size) := by show _ ≤ _; rw [← hW0]; simp
  rw [hW0] at HT
  have HP0 : Hid (Pow W0) := by
    show Pow W0
    rw [← hW0]
    exact (hp.on ((Below.refl _ _).alloc (Nat.le_refl _) _)).on ((Below.refl _ _).alloc (Nat.le_refl _) _)
  have c1 := f1 W0 HP0.out
  obtain ⟨t0, t1, t2, t3, t4, t5⟩ := HT.out
  clear f1 ha hb hp
  go_enter Tryz.func91, Tryz.ntmps91
  go_wp2_with (go_at_call 116; refine Stop.mk ?_)
  refine Stop.out (c1.mono ?_)
  rintro e W1 ⟨rfl, hb1⟩
  have HB1 : Hid (Below w.heap.size w W1) := HB0.out.trans (hb1.mono HB0.out.size)
  have HS1 : Hid (w.heap.size + 2 ≤ W1.heap.size) := Nat.le_trans HS0.out hb1.size
  have HT1 : Hid (Two W1 w.heap.size n1 d1 x1 n2 d2 x2) := HT.out.on (hb1.mono HS0.out)
  have c2 := f2 W1 (HP0.out.on hb1)
  clear t0 t1 t2 t3 t4 t5 HB0 HS0 HT c1 f2 hW0 HP0 hb1
  obtain ⟨t0, t1, t2, t3, t4, t5⟩ := HT1.out
  go_wp2_with (go_at_call 116; refine Stop.mk ?_)
  refine Stop.out (c2.mono ?_)
  rintro e W2 ⟨rfl, hb1⟩
  have HB2 : Hid (Below w.heap.size w W2) := HB1.out.trans (hb1.mono HB1.out.size)
  have HT2 : Hid (Two W2 w.heap.size n1 d1 x1 n2 d2 x2) := HT1.out.on (hb1.mono HS1.out)
  clear t0 t1 t2 t3 t4 t5 HB1 HS1 HT1 c2 hb1
  obtain ⟨t0, t1, t2, t3, t4, t5⟩ := HT2.out
  have p1 := place_any W2 x1 u.size lu he1 he2
  have p2 := place_any W2 x2 v.size lv he3 he4
  have hcp := cmp_parts (x1 + u.size) (x2 + v.size)
  have o1 := order_any W2 ((x1 + u.size) / 256) ((x2 + v.size) / 256)
  have o2 := order_any W2 ((x1 + u.size) % 256) ((x2 + v.size) % 256)
  have HF1 : Hid (SzI F (cmpI (x1 + u.size) (x2 + v.size)) (max u.size v.size) 0 u v) := by
    have := HF0.out
    refine ⟨fun hn => ?_, fun hz => ?_⟩
    · rw [if_neg hn] at this; exact this.symm
    · rw [if_pos hz] at this; exact this.symm
  obtain ⟨K, hK⟩ : ∃ K, cmpI (x1 + u.size) (x2 + v.size) = K := ⟨_, rfl⟩
  rw [hK] at HF1 hcp
  have HCP : Hid _ := hcp
  clear HF0 hcp
  generalize (x1 + (u.size : Int)) / 256 = A1 at *
  generalize (x1 + (u.size : Int)) % 256 = A2 at *
  generalize (x2 + (v.size : Int)) / 256 = A3 at *
  generalize (x2 + (v.size : Int)) % 256 = A4 at *
  clear hK he1 he2 he3 he4
  go_wp2_with (go_at_call 117; refine Stop.mk ?_)
  refine Stop.out (p1.mono ?_)
  rintro e W ⟨rfl, rfl⟩
  clear p1
  go_wp2_with (go_at_call 117; refine Stop.mk ?_)
  refine Stop.out (p2.mono ?_)
  rintro e W ⟨rfl, rfl⟩
  clear p2
  go_wp2_with (go_at_call 118; refine Stop.mk ?_)
  refine Stop.out (o1.mono ?_)
  rintro e W ⟨rfl, rfl⟩
  clear o1 t0 t1 t2 t3 t4 t5
  go_upto_if 41 with fail
  go_cut [11] from 15 (fun s11 wx => s11 = .int .i64 K ∧ wx = W2)
  case first =>
    rcases HCP.out with ⟨q1, q2⟩ | ⟨q1, q2⟩
    · have q1' : (cmpI A1 A3 == 0) = false := by simpa using q1
      rw [q2] at q1'
      rw [q2]
      clear q1 q2 o2
      go_wp2
      go_meet
      case rel => exact ⟨rfl, rfl⟩
    · rw [q2] at o2
      rw [q1]
      clear q1 q2
      go_wp2_with (go_at_call 118; refine Stop.mk ?_)
      refine Stop.out (o2.mono ?_)
      rintro e W ⟨rfl, rfl⟩
      clear o2
      go_wp2
      go_meet
      case rel => exact ⟨rfl, rfl⟩
  case rest =>
    obtain ⟨rfl, rfl⟩ := hcut
    clear HCP o2
    go_wp2
    obtain ⟨L, hL⟩ : ∃ L, max u.size v.size = L := ⟨_, rfl⟩
    have L1 : u.size ≤ L := by omega
    have L2 : v.size ≤ L := by omega
    have HL : Hid (max u.size v.size = L) := hL
    rw [hL] at HF1
    clear hL
    go_loopg [11, 12] L (fun g s11 s12 wx => ∃ (k : Int) (i : Nat), s11 = .int .i64 k ∧ s12 = .int .i64 (i : Int) ∧ g + i = L ∧ Hid (SzI F k L i u v) ∧ wc = wx)
    case atStart => exact ⟨K, 0, rfl, rfl, by omega, HF1, rfl⟩
    case round =>
      obtain ⟨k, i, rfl, rfl, hg, HI, rfl⟩ := hrel
      by_cases hk : k = 0
      · subst hk
        by_cases hi : i < L
        · by_cases h1 : i < u.size
          · have h1I : (i : Int) < (u.size : Int) := by omega
            have h1D : decide ((i : Int) < (u.size : Int)) = true := decide_eq_true h1I
            obtain ⟨c, hc⟩ : ∃ c, u[i].toNat = c := ⟨_, rfl⟩
            have k1 := dg0_at h1 hc
            have hc256 : c < 256 := by rw [← hc]; exact UInt8.toNat_lt _
            by_cases h2 : i < v.size
            · have h2I : (i : Int) < (v.size : Int) := by omega
              have h2D : decide ((i : Int) < (v.size : Int)) = true := decide_eq_true h2I
              obtain ⟨d, hd⟩ : ∃ d, v[i].toNat = d := ⟨_, rfl⟩
              have hd256 : d < 256 := by rw [← hd]; exact UInt8.toNat_lt _
              have HN : Hid (SzI F (cmpI (c : Int) (d : Int)) L (i + 1) u v) := HI.out.next hi k1 (dg0_at h2 hd)
              have o := order_any wc (c : Int) (d : Int)
              clear HI k1
              go_wp2_with (go_at_call 118; refine o.mono ?_; rintro e W ⟨rfl, rfl⟩)
              go_roundg (L - (i + 1))
              case measure => omega
              case rel => exact ⟨_, i + 1, rfl, by first | rfl | simp, by omega, HN, rfl⟩
            · have h2I : ¬ ((i : Int) < (v.size : Int)) := by omega
              have h2D : decide ((i : Int) < (v.size : Int)) = false := decide_eq_false h2I
              have HN : Hid (SzI F (cmpI (c : Int) 48) L (i + 1) u v) := HI.out.next hi k1 (dg0_end h2)
              have o := order_any wc (c : Int) 48
              clear HI k1
              go_wp2_with (go_at_call 118; refine o.mono ?_; rintro e W ⟨rfl, rfl⟩)
              go_roundg (L - (i + 1))
              case measure => omega
              case rel => exact ⟨_, i + 1, rfl, by first | rfl | simp, by omega, HN, rfl⟩
          · have h1I : ¬ ((i : Int) < (u.size : Int)) := by omega
            have h1D : decide ((i : Int) < (u.size : Int)) = false := decide_eq_false h1I
            have h2 : i < v.size := by have := HL.out; omega
            have h2I : (i : Int) < (v.size : Int) := by omega
            have h2D : decide ((i : Int) < (v.size : Int)) = true := decide_eq_true h2I
            obtain ⟨d, hd⟩ : ∃ d, v[i].toNat = d := ⟨_, rfl⟩
            have hd256 : d < 256 := by rw [← hd]; exact UInt8.toNat_lt _
            have HN : Hid (SzI F (cmpI 48 (d : Int)) L (i + 1) u v) := HI.out.next hi (dg0_end h1) (dg0_at h2 hd)
            have o := order_any wc 48 (d : Int)
            clear HI
            go_wp2_with (go_at_call 118; refine o.mono ?_; rintro e W ⟨rfl, rfl⟩)
            go_roundg (L - (i + 1))
            case measure => omega
            case rel => exact ⟨_, i + 1, rfl, by first | rfl | simp, by omega, HN, rfl⟩
        · have h1I : ¬ ((i : Int) < (u.size : Int)) := by omega
          have h1D : decide ((i : Int) < (u.size : Int)) = false := decide_eq_false h1I
          have h2I : ¬ ((i : Int) < (v.size : Int)) := by omega
          have h2D : decide ((i : Int) < (v.size : Int)) = false := decide_eq_false h2I
          have hF : (0 : Int) = F := by
            have := HI.out.2 rfl
            rw [show L - i = 0 by omega, lx] at this
            exact this
          subst hF
          clear HI
          go_wp2
          go_ret
          exact ⟨rfl, HB2.out⟩
      · have hkB : (k == 0) = false := by simpa using hk
        have hF : k = F := HI.out.1 hk
        subst hF
        clear HI hk
        go_wp2
        go_ret
        exact ⟨rfl, HB2.out⟩
end Go.Proofs.YtehgeninocbpeaaGreatDoor.Nu

namespace Go.Proofs.YtehgeninocbpeaaGreatDoor.Nu
open Go Go.Proofs Go.RowKit NumLine
theorem csz_one (a b : Nm) : -1 ≤ csz a b ∧ csz a b ≤ 1 := by
  have h0 : ∀ x y : Nm, -1 ≤ csz0 x y ∧ csz0 x y ≤ 1 := fun x y => by
    unfold csz0
    split
    · omega
    · rcases cmpI_cases ((x.d * 10 ^ (x.e - y.e).toNat : Nat) : Int) (y.d : Int) with ⟨h, e⟩ | ⟨h, e⟩ | ⟨h, e⟩ <;> omega
  unfold csz
  have h1 := h0 a b
  have h2 := h0 b a
  split <;> omega
set_option maxRecDepth 100000 in
set_option maxHeartbeats 4000000 in
theorem rcompare_any (w : World) (a b : Nm) (ha : a.d < 18446744073709551616) (hb : b.d < 18446744073709551616)
    (he1 : -9223372036854775808 ≤ a.e) (he2 : a.e ≤ 9223372036854775807) (he3 : -9223372036854775808 ≤ b.e) (he4 : b.e ≤ 9223372036854775807) (hp : Pow w) :
    Calls Tryz.prog 53 #[nv a, nv b] w fun e w' => e = .returned (.int .i64 (cmpN a b)) ∧ Below w.heap.size w w' := by
  have f := fun W h => size39_any W a b ha hb he1 he2 he3 he4 h
  have hsz : a.d ≠ 0 → b.d ≠ 0 → szD a b = csz a b := fun h1 h2 => szD_csz h1 h2 (Nat.lt_of_lt_of_le ha (by decide)) (Nat.lt_of_lt_of_le hb (by decide))
  have hone := csz_one a b
  have HC : Hid (cmpN a b = if cmpI (sgn a) (sgn b) ≠ 0 then cmpI (sgn a) (sgn b) else sgn a * csz a b) := rfl
  have g1 : sgn a = if a.d = 0 then 0 else if a.neg = true then -1 else 1 := rfl
  have g2 : sgn b = if b.d = 0 then 0 else if b.neg = true then -1 else 1 := rfl
  generalize cmpN a b = R at *
  obtain ⟨n1, d1, x1⟩ := a
  obtain ⟨n2, d2, x2⟩ := b
  unfold nv at *
  dsimp only at *
  have HT : Hid (Two ((w.alloc (.cells #[.bool n1, .int .u64 (d1 : Int), .int .i64 x1] 73)).alloc (.cells #[.bool n2, .int .u64 (d2 : Int), .int .i64 x2] 73)) w.heap.size n1 d1 x1 n2 d2 x2) := Two.start w n1 d1 x1 n2 d2 x2
  obtain ⟨W0, hW0⟩ : ∃ W0, (w.alloc (.cells #[.bool n1, .int .u64 (d1 : Int), .int .i64 x1] 73)).alloc (.cells #[.bool n2, .int .u64 (d2 : Int), .int .i64 x2] 73) = W0 := ⟨_, rfl⟩
  have HB0 : Hid (Below w.heap.size w W0) := hW0 ▸ ((Below.refl _ _).alloc (Nat.le_refl _) _).alloc (by simp) _
  have HS0 : Hid (w.heap.size + 2 ≤ W0.heap.size) := by show _ ≤ _; rw [← hW0]; simp
  rw [hW0] at HT
  have HP0 : Hid (Pow W0) := by
    show Pow W0
    rw [← hW0]
    exact (hp.on ((Below.refl _ _).alloc (Nat.le_refl _) _)).on ((Below.refl _ _).alloc (Nat.le_refl _) _)
  have c1 := f W0 HP0.out
  obtain ⟨t0, t1, t2, t3, t4, t5⟩ := HT.out
  generalize sgn ⟨n1, d1, x1⟩ = S1 at *
  generalize sgn ⟨n2, d2, x2⟩ = S2 at *
  generalize szD ⟨n1, d1, x1⟩ ⟨n2, d2, x2⟩ = Z at *
  generalize csz ⟨n1, d1, x1⟩ ⟨n2, d2, x2⟩ = Y at *
  clear f ha hb hp he1 he2 he3 he4
  by_cases h1 : d1 = 0
  · have h1I : ((d1 : Int) == 0) = true := by rw [h1]; rfl
    rw [if_pos h1] at g1
    by_cases h2 : d2 = 0
    · have h2I : ((d2 : Int) == 0) = true := by rw [h2]; rfl
      rw [if_pos h2] at g2
      obtain rfl : R = 0 := by rw [HC.out, g1, g2]; simp [cmpI]
      clear h1 h2 g1 g2 HC hsz c1
      go_enter Tryz.func53, Tryz.ntmps53
      go_wp2
      go_ret
      exact ⟨rfl, HB0.out⟩
    · have h2I : ((d2 : Int) == 0) = false := by simpa using h2
      rw [if_neg h2] at g2
      cases n2 with
      | true =>
        rw [if_pos rfl] at g2
        obtain rfl : R = 1 := by rw [HC.out, g1, g2, if_pos (by decide)]; decide
        clear h1 h2 g1 g2 HC hsz c1
        go_enter Tryz.func53, Tryz.ntmps53
        go_wp2
        go_ret
        exact ⟨rfl, HB0.out⟩
      | false =>
        rw [if_neg (by decide)] at g2
        obtain rfl : R = -1 := by rw [HC.out, g1, g2, if_pos (by decide)]; decide
        clear h1 h2 g1 g2 HC hsz c1
        go_enter Tryz.func53, Tryz.ntmps53
        go_wp2
        go_ret
        exact ⟨rfl, HB0.out⟩
  · have h1I : ((d1 : Int) == 0) = false := by simpa using h1
    rw [if_neg h1] at g1
    by_cases h2 : d2 = 0
    · have h2I : ((d2 : Int) == 0) = true := by rw [h2]; rfl
      rw [if_pos h2] at g2
      cases n1 with
      | true =>
        rw [if_pos rfl] at g1
        obtain rfl : R = -1 := by rw [HC.out, g1, g2, if_pos (by decide)]; decide
        clear h1 h2 g1 g2 HC hsz c1
        go_enter Tryz.func53, Tryz.ntmps53
        go_wp2
        go_ret
        exact ⟨rfl, HB0.out⟩
      | false =>
        rw [if_neg (by decide)] at g1
        obtain rfl : R = 1 := by rw [HC.out, g1, g2, if_pos (by decide)]; decide
        clear h1 h2 g1 g2 HC hsz c1
        go_enter Tryz.func53, Tryz.ntmps53
        go_wp2
        go_ret
        exact ⟨rfl, HB0.out⟩
    · have h2I : ((d2 : Int) == 0) = false := by simpa using h2
      rw [if_neg h2] at g2
      have hZ := hsz h1 h2
      rw [hZ] at c1
      obtain ⟨y1, y2⟩ := hone
      clear hZ hsz
      cases n1 with
      | true =>
        rw [if_pos rfl] at g1
        cases n2 with
        | true =>
          rw [if_pos rfl] at g2
          obtain rfl : R = -Y := by rw [HC.out, g1, g2, if_neg (by decide)]; omega
          clear h1 h2 g1 g2 HC
          go_enter Tryz.func53, Tryz.ntmps53
          go_wp2_with (go_at_call 91; refine Stop.mk ?_)
          refine Stop.out (c1.mono ?_)
          rintro e W1 ⟨rfl, hb1⟩
          have HB1 : Hid (Below w.heap.size w W1) := HB0.out.trans (hb1.mono HB0.out.size)
          have HT1 : Hid (Two W1 w.heap.size true d1 x1 true d2 x2) := HT.out.on (hb1.mono HS0.out)
          clear t0 t1 t2 t3 t4 t5 HB0 HS0 HT c1 hW0 HP0 hb1
          obtain ⟨t0, t1, t2, t3, t4, t5⟩ := HT1.out
          go_wp2
          go_ret
          exact ⟨by first | rfl | simp, HB1.out⟩
        | false =>
          rw [if_neg (by decide)] at g2
          obtain rfl : R = -1 := by rw [HC.out, g1, g2, if_pos (by decide)]; decide
          clear h1 h2 g1 g2 HC c1
          go_enter Tryz.func53, Tryz.ntmps53
          go_wp2
          go_ret
          exact ⟨rfl, HB0.out⟩
      | false =>
        rw [if_neg (by decide)] at g1
        cases n2 with
        | true =>
          rw [if_pos rfl] at g2
          obtain rfl : R = 1 := by rw [HC.out, g1, g2, if_pos (by decide)]; decide
          clear h1 h2 g1 g2 HC c1
          go_enter Tryz.func53, Tryz.ntmps53
          go_wp2
          go_ret
          exact ⟨rfl, HB0.out⟩
        | false =>
          rw [if_neg (by decide)] at g2
          obtain rfl : R = Y := by rw [HC.out, g1, g2, if_neg (by decide)]; omega
          clear h1 h2 g1 g2 HC
          go_enter Tryz.func53, Tryz.ntmps53
          go_wp2_with (go_at_call 91; refine Stop.mk ?_)
          refine Stop.out (c1.mono ?_)
          rintro e W1 ⟨rfl, hb1⟩
          have HB1 : Hid (Below w.heap.size w W1) := HB0.out.trans (hb1.mono HB0.out.size)
          have HT1 : Hid (Two W1 w.heap.size false d1 x1 false d2 x2) := HT.out.on (hb1.mono HS0.out)
          clear t0 t1 t2 t3 t4 t5 HB0 HS0 HT c1 hW0 HP0 hb1
          obtain ⟨t0, t1, t2, t3, t4, t5⟩ := HT1.out
          go_wp2
          go_ret
          exact ⟨by first | rfl | simp, HB1.out⟩
end Go.Proofs.YtehgeninocbpeaaGreatDoor.Nu

namespace Go.Proofs.YtehgeninocbpeaaGreatDoor.Tm
open Go Go.Proofs Go.RowKit
theorem md_law (y m : Nat) (h1 : 1 ≤ m) (h2 : m ≤ 12) : md y m = if m = 4 ∨ m = 6 ∨ m = 9 ∨ m = 11 then 30 else if m = 2 then (if Lp y then 29 else 28) else 31 := by
  unfold md
  rw [if_neg (by omega)]
  rcases (by omega : m = 1 ∨ m = 2 ∨ m = 3 ∨ m = 4 ∨ m = 5 ∨ m = 6 ∨ m = 7 ∨ m = 8 ∨ m = 9 ∨ m = 10 ∨ m = 11 ∨ m = 12) with rfl | rfl | rfl | rfl | rfl | rfl | rfl | rfl | rfl | rfl | rfl | rfl
  all_goals simp [mL]
set_option maxRecDepth 100000 in
theorem leap66_any (w : World) (y : Nat) : Calls Tryz.prog 137 #[.int .i64 (y : Int)] w fun e w' => e = .returned (.bool (decide (Lp y))) ∧ w = w' := by
  by_cases h4 : y % 4 = 0
  · have a4 : ((y : Int) % 4 == 0) = true := by simp; omega
    by_cases h1 : y % 100 = 0
    · have e : decide (Lp y) = decide (y % 400 = 0) := by unfold Lp; simp [h4, h1]
      rw [e]
      have a1 : ((y : Int) % 100 == 0) = true := by simp; omega
      have a1' : (y : Int) % 100 = 0 := by omega
      have a0 : decide (y % 400 = 0) = ((y : Int) % 400 == 0) := by rw [Bool.eq_iff_iff, decide_eq_true_eq, beq_iff_eq]; omega
      rw [a0]
      clear a0 e
      go_enter Tryz.func137, Tryz.ntmps137
      go_wp2
      go_ret
      exact ⟨rfl, rfl⟩
    · have e : decide (Lp y) = true := by unfold Lp; simp [h4, h1]
      rw [e]
      have a1 : ((y : Int) % 100 == 0) = false := by simp; omega
      have a1' : ¬ ((y : Int) % 100 = 0) := by omega
      clear e
      go_enter Tryz.func137, Tryz.ntmps137
      go_wp2
      go_ret
      exact ⟨rfl, rfl⟩
  · have e : decide (Lp y) = false := by unfold Lp; simp [h4]
    rw [e]
    have a4 : ((y : Int) % 4 == 0) = false := by simp; omega
    clear e
    go_enter Tryz.func137, Tryz.ntmps137
    go_wp2
    go_ret
    exact ⟨rfl, rfl⟩
def yl (y : Nat) : Nat := if Lp y then 366 else 365
set_option maxRecDepth 100000 in
theorem year38_any (w : World) (y : Nat) : Calls Tryz.prog 108 #[.int .i64 (y : Int)] w fun e w' => e = .returned (.int .i64 (yl y : Nat)) ∧ w = w' := by
  have c := leap66_any w y
  unfold yl
  by_cases h : Lp y
  · rw [if_pos h]
    have e : decide (Lp y) = true := by simpa using h
    rw [e] at c
    clear e h
    go_enter Tryz.func108, Tryz.ntmps108
    go_wp2_with (go_at_call 137; refine c.mono ?_; rintro e w' ⟨rfl, rfl⟩)
    go_ret
    exact ⟨rfl, rfl⟩
  · rw [if_neg h]
    have e : decide (Lp y) = false := by simpa using h
    rw [e] at c
    clear e h
    go_enter Tryz.func108, Tryz.ntmps108
    go_wp2_with (go_at_call 137; refine c.mono ?_; rintro e w' ⟨rfl, rfl⟩)
    go_ret
    exact ⟨rfl, rfl⟩
set_option maxRecDepth 100000 in
theorem month39_any (w : World) (y m : Nat) (h1 : 1 ≤ m) (h2 : m ≤ 12) : Calls Tryz.prog 109 #[.int .i64 (y : Int), .int .i64 (m : Int)] w fun e w' => e = .returned (.int .i64 (md y m : Nat)) ∧ w = w' := by
  have c := leap66_any w y
  rw [md_law y m h1 h2]
  have hm : m = 1 ∨ m = 2 ∨ m = 3 ∨ m = 4 ∨ m = 5 ∨ m = 6 ∨ m = 7 ∨ m = 8 ∨ m = 9 ∨ m = 10 ∨ m = 11 ∨ m = 12 := by omega
  clear h1 h2
  by_cases hL : Lp y
  · have e : decide (Lp y) = true := by simpa using hL
    rw [e] at c
    simp only [if_pos hL]
    clear e hL
    rcases hm with rfl | rfl | rfl | rfl | rfl | rfl | rfl | rfl | rfl | rfl | rfl | rfl
    all_goals
      go_enter Tryz.func109, Tryz.ntmps109
      go_wp2_with (go_at_call 137; refine c.mono ?_; rintro e w' ⟨rfl, rfl⟩)
      go_ret
      exact ⟨rfl, rfl⟩
  · have e : decide (Lp y) = false := by simpa using hL
    rw [e] at c
    simp only [if_neg hL]
    clear e hL
    rcases hm with rfl | rfl | rfl | rfl | rfl | rfl | rfl | rfl | rfl | rfl | rfl | rfl
    all_goals
      go_enter Tryz.func109, Tryz.ntmps109
      go_wp2_with (go_at_call 137; refine c.mono ?_; rintro e w' ⟨rfl, rfl⟩)
      go_ret
      exact ⟨rfl, rfl⟩
set_option maxRecDepth 100000 in
set_option maxHeartbeats 1000000 in
theorem dayNo_any (w : World) (y m d : Int) : Calls Tryz.prog 112 #[dv y m d] w fun e w' => e = .returned (.int .i64 (uf y m d)) ∧ Below w.heap.size w w' := by
  obtain ⟨W, hW⟩ : ∃ W, w.alloc (.cells #[.int .i64 y, .int .i64 m, .int .i64 d] 118) = W := ⟨_, rfl⟩
  have HB : Hid (Below w.heap.size w W) := hW ▸ (Below.refl _ _).alloc (Nat.le_refl _) _
  have q0 : W.cell? ⟨w.heap.size, 0, none⟩ = some (.int .i64 y) := by rw [← hW]; simp
  have q1 : W.cell? ⟨w.heap.size, 1, none⟩ = some (.int .i64 m) := by rw [← hW]; simp
  have q2 : W.cell? ⟨w.heap.size, 2, none⟩ = some (.int .i64 d) := by rw [← hW]; simp
  unfold uf dv
  by_cases h1 : y < 1
  · rw [if_pos (.inl h1)]
    go_enter Tryz.func112, Tryz.ntmps112
    go_wp2
    go_ret
    exact ⟨rfl, HB.out⟩
  · by_cases h2 : 9999 < y
    · rw [if_pos (.inr h2)]
      go_enter Tryz.func112, Tryz.ntmps112
      go_wp2
      go_ret
      exact ⟨rfl, HB.out⟩
    · rw [if_neg (fun h => by omega)]
      by_cases h3 : m < 1
      · rw [if_pos (.inl h3)]
        go_enter Tryz.func112, Tryz.ntmps112
        go_wp2
        go_ret
        exact ⟨rfl, HB.out⟩
      · by_cases h4 : 12 < m
        · rw [if_pos (.inr h4)]
          go_enter Tryz.func112, Tryz.ntmps112
          go_wp2
          go_ret
          exact ⟨rfl, HB.out⟩
        · rw [if_neg (fun h => by omega)]
          obtain ⟨yn, rfl⟩ : ∃ yn : Nat, y = yn := ⟨y.toNat, by omega⟩
          obtain ⟨mn, rfl⟩ : ∃ mn : Nat, m = mn := ⟨m.toNat, by omega⟩
          have c := fun W' => month39_any W' yn mn (by omega) (by omega)
          rw [Int.toNat_natCast, Int.toNat_natCast]
          generalize md yn mn = L at *
          have c' := fun n => c (W.drewN n)
          have h1' : decide ((yn : Int) < 1) = false := by simp; omega
          have h2' : decide ((9999 : Int) < (yn : Int)) = false := by simp; omega
          have h3' : decide ((mn : Int) < 1) = false := by simp; omega
          have h4' : decide ((12 : Int) < (mn : Int)) = false := by simp; omega
          by_cases h5 : d < 1
          · rw [if_pos (.inl h5)]
            have h5' : decide (d < 1) = true := by simpa using h5
            clear c c'
            go_enter Tryz.func112, Tryz.ntmps112
            go_wp2
            go_quiet (fail)
            go_wp2
            go_ret
            exact ⟨rfl, below_drewN HB.out _⟩
          · have h5' : decide (d < 1) = false := by simpa using h5
            by_cases h6 : (L : Int) < d
            · rw [if_pos (.inr h6)]
              have h6' : decide ((L : Int) < d) = true := by simpa using h6
              clear h5 h6
              go_enter Tryz.func112, Tryz.ntmps112
              go_wp2
              go_quiet (first | (go_at_call 109; exact (c' _).mono fun _ _ h => ⟨h.1, _, h.2.symm⟩) | fail)
              go_wp2
              go_ret
              exact ⟨rfl, below_drewN HB.out _⟩
            · rw [if_neg (fun h => by omega)]
              have h6' : decide ((L : Int) < d) = false := by simpa using h6
              clear h5 h6
              go_enter Tryz.func112, Tryz.ntmps112
              go_wp2
              go_quiet (first | (go_at_call 109; exact (c' _).mono fun _ _ h => ⟨h.1, _, h.2.symm⟩) | fail)
              go_wp2
              go_ret
              exact ⟨rfl, below_drewN HB.out _⟩
end Go.Proofs.YtehgeninocbpeaaGreatDoor.Tm

namespace Go.Proofs.YtehgeninocbpeaaGreatDoor.Tm
open Go Go.Proofs Go.RowKit
theorem none34_any (w : World) : Calls Tryz.prog 27 #[] w fun e w' => e = .returned (.agg #[.slice none 0 0, .int .i64 0]) ∧ Below w.heap.size w w' := by
  obtain ⟨W0, hW0⟩ : ∃ W0, w.alloc (.cells #[.slice none 0 0, .int .i64 0] 35) = W0 := ⟨_, rfl⟩
  have HB : Hid (Below w.heap.size w W0) := hW0 ▸ (Below.refl _ _).alloc (Nat.le_refl _) _
  have a0 : W0.cell? ⟨w.heap.size, 0, none⟩ = some (.slice none 0 0) := by rw [← hW0]; simp
  have a1 : W0.cell? ⟨w.heap.size, 1, none⟩ = some (.int .i64 0) := by rw [← hW0]; simp
  have af : ∀ i, W0.frozen? ⟨w.heap.size, i, none⟩ = false := fun i => by rw [← hW0]; simp
  go_enter Tryz.func27, Tryz.ntmps27
  go_wp2
  refine bodyPost_ret (v := .agg #[.slice none 0 0, .int .i64 0]) (by simp [results, Tryz.results27, go_sem, a0, a1]) rfl ?_
  exact ⟨rfl, (HB.out.setCell (p := ⟨w.heap.size, 0, none⟩) (Nat.le_refl _) _).setCell (p := ⟨w.heap.size, 1, none⟩) (Nat.le_refl _) _⟩
theorem row_on {w w' : World} {r : Nat} {t : TypeId} {n : Nat} {f : Nat → Value} (h : w.rowIs r t n f) (hb : Below w.heap.size w w') : w'.rowIs r t n f :=
  row_kept (q := r + 1) h (grown_below (grown_refl _ _) hb) (by omega)
def fN : Nat → Value := fun k => if k = 0 then .slice none 0 0 else .int .i64 0
theorem uf_is (y m d : Int) : uf y m d = -1 ∨ (0 ≤ uf y m d ∧ uf y m d ≤ 2) := by
  unfold uf
  by_cases h1 : y < 1 ∨ 9999 < y
  · rw [if_pos h1]; omega
  · by_cases h2 : m < 1 ∨ 12 < m
    · rw [if_neg h1, if_pos h2]; omega
    · rw [if_neg h1, if_neg h2]
      split <;> omega
def PostF (w : World) (V : Value) (o : Option (Int × Int)) (e : Ending) (w' : World) : Prop := ∃ v, e = .returned (.tuple #[V, v]) ∧ RErr w' v o ∧ Below w.heap.size w w'
set_option maxRecDepth 100000 in
set_option maxHeartbeats 1000000 in
theorem count37_any (w : World) (y m d : Nat) (hd : Day y m d) : Calls Tryz.prog 83 #[dv y m d] w fun e w' => e = .returned (.int .i64 (num y m d : Nat)) ∧ Below w.heap.size w w' := by
  obtain ⟨hy1, hy2, hm1, hm2, hd1, hd2⟩ := hd
  have hd31 : d ≤ 31 := Nat.le_trans hd2 (md_le y m)
  obtain ⟨W, hW⟩ : ∃ W, w.alloc (.cells #[.int .i64 (y : Int), .int .i64 (m : Int), .int .i64 (d : Int)] 118) = W := ⟨_, rfl⟩
  have HB : Hid (Below w.heap.size w W) := hW ▸ (Below.refl _ _).alloc (Nat.le_refl _) _
  have q0 : W.cell? ⟨w.heap.size, 0, none⟩ = some (.int .i64 (y : Int)) := by rw [← hW]; simp
  have q1 : W.cell? ⟨w.heap.size, 1, none⟩ = some (.int .i64 (m : Int)) := by rw [← hW]; simp
  have q2 : W.cell? ⟨w.heap.size, 2, none⟩ = some (.int .i64 (d : Int)) := by rw [← hW]; simp
  have HE : Hid (num y m d = dA y + cu y (m - 1) + d - 1) := by show _ = _; unfold num; omega
  generalize num y m d = N at *
  clear hd2
  unfold dv
  go_enter Tryz.func83, Tryz.ntmps83
  go_wp2
  go_loopg [3, 4] (y - 1) (fun g s3 s4 wx => ∃ k : Nat, s4 = .int .i64 (k : Int) ∧ 1 ≤ k ∧ k ≤ y ∧ g + k = y ∧ (∃ S : Nat, s3 = .int .i64 (S : Int) ∧ S ≤ 3700000 ∧ Hid (S = dA k)) ∧ W = wx)
  case atStart => exact ⟨1, rfl, by omega, by omega, by omega, ⟨0, rfl, by omega, by show 0 = dA 1; decide⟩, rfl⟩
  case round =>
    obtain ⟨k, rfl, hk1, hky, hg, ⟨S, rfl, hS, HS⟩, rfl⟩ := hrel
    by_cases hk : k < y
    · have hkI : (k : Int) < (y : Int) := by omega
      have c := year38_any W k
      have HS2 : Hid (S + yl k = dA (k + 1)) := by
        show _ = _
        rw [dA_next k hk1, ← HS.out]
        rfl
      have hS2 : S + yl k ≤ 3700000 := by
        rw [HS2.out]
        have := dA_le (y := k + 1) (by omega)
        omega
      generalize yl k = L at *
      have hLS : L ≤ 3700000 := by omega
      go_wp2_with (go_at_call 108; refine c.mono ?_; rintro e w' ⟨rfl, rfl⟩)
      go_roundg (y - (k + 1))
      case measure => omega
      case rel => exact ⟨k + 1, by simp, by omega, by omega, by omega, ⟨S + L, by simp, hS2, HS2⟩, rfl⟩
    · obtain rfl : k = y := by omega
      have hkI : ¬ ((k : Int) < (k : Int)) := by omega
      go_wp2
      go_loopg [3, 5] (m - 1) (fun g s3 s5 wx => ∃ j : Nat, s5 = .int .i64 (j : Int) ∧ 1 ≤ j ∧ j ≤ m ∧ g + j = m ∧ (∃ S : Nat, s3 = .int .i64 (S : Int) ∧ S ≤ 3700000 ∧ Hid (S = dA k + cu k (j - 1))) ∧ W = wx)
      case atStart => exact ⟨1, rfl, by omega, by omega, by omega, ⟨S, rfl, hS, by show _ = _; rw [HS.out]; rfl⟩, rfl⟩
      case round =>
        obtain ⟨j, rfl, hj1, hjm, hg, ⟨T, rfl, hT, HT⟩, rfl⟩ := hrel
        by_cases hj : j < m
        · have hjI : (j : Int) < (m : Int) := by omega
          have c := month39_any W k j hj1 (by omega)
          have HT2 : Hid (T + md k j = dA k + cu k (j + 1 - 1)) := by
            obtain ⟨i, rfl⟩ : ∃ i, j = i + 1 := ⟨j - 1, by omega⟩
            show _ = _
            rw [HT.out, show i + 1 + 1 - 1 = i + 1 by omega, show i + 1 - 1 = i by omega, cu]
            omega
          have hT2 : T + md k j ≤ 3700000 := by
            rw [HT2.out]
            have := cu_le k (j + 1 - 1)
            have := dA_le (y := k) (by omega)
            omega
          generalize md k j = L at *
          have hLS : L ≤ 3700000 := by omega
          go_wp2_with (go_at_call 109; refine c.mono ?_; rintro e w' ⟨rfl, rfl⟩)
          go_roundg (m - (j + 1))
          case measure => omega
          case rel => exact ⟨j + 1, by simp, by omega, by omega, by omega, ⟨T + L, by simp, hT2, HT2⟩, rfl⟩
        · obtain rfl : j = m := by omega
          have hjI : ¬ ((j : Int) < (j : Int)) := by omega
          have HN : Hid ((T : Int) + (d : Int) - 1 = (N : Int)) := by
            have h1 := HT.out
            have h2 := HE.out
            show _ = _
            omega
          go_wp2
          refine bodyPost_ret (v := .int .i64 ((T : Int) + (d : Int) - 1)) (by simp [results, Tryz.results83, go_sem]) rfl ⟨by rw [HN.out], HB.out⟩
end Go.Proofs.YtehgeninocbpeaaGreatDoor.Tm
