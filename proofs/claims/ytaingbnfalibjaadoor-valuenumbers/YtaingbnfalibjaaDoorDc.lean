import Derived.Test.YtaingbnfalibjaaDoorDa
import Derived.Test.YtaingbnfalibjaaDoorV
/-
  DERIVED. The document's number of digits and an exponent.
-/
namespace Go.Proofs.YtaingbnfalibjaaDoor
open Go Go.Proofs Go.RowKit NumLine

theorem isD_lt {s : ByteArray} {a : Nat} (h : isD s a = true) : a < s.size := by
  unfold isD at h; simp at h; exact h.1
theorem cnt_not {s : ByteArray} {a : Nat} (h : isD s a = false) (m : Nat) : cnt s a m = 0 := by
  cases m with
  | zero => rfl
  | succ m => rw [cnt, if_neg (by rw [h]; decide)]
theorem cnt_more (s : ByteArray) : ∀ m m' a, s.size ≤ a + m → s.size ≤ a + m' → cnt s a m = cnt s a m'
  | 0, m', a, h, _ => by
    have : isD s a = false := by
      cases hd : isD s a with
      | true => have := isD_lt hd; omega
      | false => rfl
    rw [cnt_not this, cnt_not this]
  | m + 1, m', a, h, h' => by
    cases hd : isD s a with
    | false => rw [cnt_not hd, cnt_not hd]
    | true =>
      have := isD_lt hd
      obtain ⟨k, rfl⟩ : ∃ k, m' = k + 1 := ⟨m' - 1, by omega⟩
      rw [cnt, cnt, if_pos hd, if_pos hd, cnt_more s m k (a + 1) (by omega) (by omega)]
theorem cnt_stop (s : ByteArray) : ∀ m a, s.size ≤ a + m → isD s (a + cnt s a m) = false
  | 0, a, h => by
    cases hd : isD s (a + cnt s a 0) with
    | true => have := isD_lt hd; omega
    | false => rfl
  | m + 1, a, h => by
    cases hd : isD s a with
    | false => rw [cnt_not hd]; exact hd
    | true =>
      have := cnt_stop s m (a + 1) (by omega)
      rw [cnt, if_pos hd, ← Nat.add_assoc]
      exact this

theorem none34_any (w : World) : Calls Tryd.prog 34 #[] w fun e w' => e = .returned (.agg #[.slice none 0 0, .int .i64 0]) ∧ Below w.heap.size w w' := by
  go_enter Tryd.func34, Tryd.ntmps34
  go_wp2
  refine bodyPost_ret (v := .agg #[.slice none 0 0, .int .i64 0]) (by simp [results, Tryd.results34, go_sem]) rfl ⟨rfl, ?_⟩
  repeat (first | exact Below.refl _ _ | refine Below.setCell ?_ (Nat.le_refl _) _ | refine Below.alloc ?_ (Nat.le_refl _) _)

theorem zrow_cells {W : World} {B : Nat} (h : W.rowIs B 24 3 zf) : W.cell? ⟨B, 0, none⟩ = some (.bool false) ∧ W.cell? ⟨B, 1, none⟩ = some (.int .u64 0) ∧ W.cell? ⟨B, 2, none⟩ = some (.int .i64 0) :=
  ⟨h.cell (i := 0) (by omega), h.cell (i := 1) (by omega), h.cell (i := 2) (by omega)⟩
theorem put3_cells {W : World} {B : Nat} (hr : W.rowIs B 24 3 zf) (r : Nm) :
    (W.setCell ⟨B, 0, none⟩ (.bool r.neg)).cell? ⟨B, 0, none⟩ = some (.bool r.neg) ∧ ((W.setCell ⟨B, 0, none⟩ (.bool r.neg)).setCell ⟨B, 1, none⟩ (.int .u64 (r.d : Int))).cell? ⟨B, 1, none⟩ = some (.int .u64 (r.d : Int)) ∧ (put3 W B r).cell? ⟨B, 2, none⟩ = some (.int .i64 r.e) :=
  (put3_all hr (v := .nilIface) (o := none) rfl r).2
set_option maxRecDepth 100000 in
set_option maxHeartbeats 1000000 in
theorem short36_any (w : World) (neg : Bool) (u : ByteArray) (x : Int) (hu : Digs u) (h16 : u.size ≤ 16) (hx1 : -100000000000000000 ≤ x) (hx2 : x ≤ 100000000000000000) :
    Calls Tryd.prog 36 #[.bool neg, .string u, .int .i64 x] w fun e w' => (∃ r, e = .returned (nv r) ∧ Ex neg (val u.data.toList) x r) ∧ Below w.heap.size w w' := by
  have HE0 : Hid (valN (u.data.toList.drop 0) 0 = val u.data.toList) := rfl
  have HU : Hid (Digs u) := hu
  generalize val u.data.toList = E at *
  obtain ⟨W0, hW0⟩ : ∃ W0, w.alloc (Obj.cells #[Value.bool false, Value.int IntKind.u64 0, Value.int IntKind.i64 0] 24) = W0 := ⟨_, rfl⟩
  have HB : Hid (Below w.heap.size w W0) := hW0 ▸ (Below.refl _ _).alloc (Nat.le_refl _) _
  have HR : Hid (W0.rowIs w.heap.size 24 3 zf) := hW0 ▸ zrow w
  clear hu
  go_enter Tryd.func36, Tryd.ntmps36
  go_wp2
  go_loopg [7, 8] u.size (fun g s7 s8 wx => ∃ pos n : Nat, s7 = .int .u64 (n : Int) ∧ s8 = .int .i64 (pos : Int) ∧ g + pos = u.size ∧ n ≤ 9999999999999999 ∧ Hid (n < 10 ^ pos) ∧ Hid (valN (u.data.toList.drop pos) n = E) ∧ W0 = wx)
  case atStart => exact ⟨0, 0, rfl, rfl, by omega, by omega, by show 0 < 10 ^ 0; omega, HE0, rfl⟩
  case round =>
    clear HE0 hW0
    obtain ⟨pos, n, rfl, rfl, hg, hn8, HN, HE, rfl⟩ := hrel
    by_cases hp : pos < u.size
    · have hd := HU.out u[pos] (by
        have h2 : pos < u.data.size := hp
        have : u[pos] = u.data[pos] := rfl
        rw [this]
        exact Array.getElem_mem_toList h2)
      have h1 := HE.out
      rw [drop_byte hp, valN] at h1
      obtain ⟨c, hc⟩ : ∃ c, u[pos].toNat = c := ⟨_, rfl⟩
      rw [hc] at hd h1
      have HN2 : Hid (10 * n + (c - 48) < 10 ^ (pos + 1)) := by
        have := HN.out
        show _ < _
        rw [Nat.pow_succ]
        omega
      have hN8 : 10 * n + (c - 48) ≤ 9999999999999999 := by
        have h2 := HN2.out
        have h3 : 10 ^ (pos + 1) ≤ 10 ^ 16 := Nat.pow_le_pow_right (by omega) (by omega)
        omega
      have HE2 : Hid (valN (u.data.toList.drop (pos + 1)) (10 * n + (c - 48)) = E) := h1
      obtain ⟨d, hdd⟩ : ∃ d, c - 48 = d := ⟨_, rfl⟩
      rw [hdd] at HE2 HN2 hN8
      have hcd : (c : Int) - 48 = (d : Int) := by omega
      have hd9 : d ≤ 9 := by omega
      have hc57 : c ≤ 57 := by omega
      have hpI : (pos : Int) < (u.size : Int) := by omega
      clear h1 hdd hd HE HN
      go_wp2
      go_roundg (u.size - (pos + 1))
      case measure => omega
      case rel => exact ⟨pos + 1, 10 * n + d, by first | rfl | (simp; omega), by first | rfl | simp, by omega, hN8, HN2, HE2, rfl⟩
    · have hpI : ¬ ((pos : Int) < (u.size : Int)) := by omega
      have hE : n = E := by
        have h1 := HE.out
        rw [List.drop_eq_nil_of_le (by rw [Array.length_toList]; show u.size ≤ _; omega)] at h1
        exact h1
      subst hE
      clear HE HN
      obtain ⟨r0, r1, r2⟩ := zrow_cells HR.out
      have rf : ∀ i, W0.frozen? ⟨w.heap.size, i, none⟩ = false := fun i => HR.out.frozen i
      have hput := fun r => put3_cells HR.out r
      have hpb := fun r => put3_below HB.out r
      have HPC : Hid (∀ r : Nm, (put3 W0 w.heap.size r).cell? ⟨w.heap.size, 2, none⟩ = some (.int .i64 r.e)) := fun r => (hput r).2.2
      by_cases h0 : n = 0
      · have HN0 : Hid (n = 0) := h0
        have hI : ((n : Int) == 0) = true := by simp; exact h0
        obtain ⟨q0, q1, q2⟩ := hput ⟨false, 0, 0⟩
        have HQ : Hid _ := hpb ⟨false, 0, 0⟩
        clear h0 hput hpb
        unfold put3 at *
        dsimp only at *
        rw [show ((0 : Nat) : Int) = 0 from rfl] at *
        go_wp2
        refine bodyPost_ret (v := nv ⟨false, 0, 0⟩) (by simp [results, Tryd.results36, go_sem, nv, q0, q1, q2]) rfl ⟨⟨_, rfl, .inl ⟨HN0.out, rfl⟩⟩, HQ.out⟩
      · have hI : ((n : Int) == 0) = false := by simp; exact h0
        clear hg
        go_wp2
        go_loopg [7, 2] n (fun g s7 s2 wx => ∃ (m k : Nat) (y : Int), s7 = .int .u64 (m : Int) ∧ s2 = .int .i64 y ∧ g = m ∧ 0 < m ∧ m ≤ 9999999999999999 ∧ Hid (m * 10 ^ k = n) ∧ Hid (y = x + (k : Int)) ∧ y ≤ 1000000000000000020 ∧ -1000000000000000000 ≤ y ∧ W0 = wx)
        case atStart => exact ⟨n, 0, x, rfl, rfl, rfl, by omega, hn8, by show _ = _; simp, by show _ = _; simp, by omega, by omega, rfl⟩
        case round =>
          obtain ⟨m, k, y, rfl, rfl, rfl, hm, hm2, HM, HY, hy, hy2, rfl⟩ := hrel
          have hk : k < 20 := pow_small HM.out (Nat.lt_of_le_of_lt hn8 (by decide)) h0
          have hyk : y ≤ x + (k : Int) := by rw [HY.out]; exact Int.le_refl _
          by_cases hz : gk % 10 = 0
          · obtain ⟨q, hq⟩ : ∃ q, gk = 10 * q := ⟨gk / 10, by omega⟩
            subst hq
            have h1 : (((10 * q : Nat) : Int) % 10 == 0) = true := by simp
            have h2 : ((10 * q : Nat) : Int) / 10 = (q : Int) := by omega
            have HM2 : Hid (q * 10 ^ (k + 1) = n) := by show _ = _; rw [← HM.out, Nat.pow_succ]; ac_rfl
            clear hput hpb
            go_wp2
            go_roundg q
            case measure => omega
            case rel => exact ⟨q, k + 1, y + 1, by first | rfl | (simp [h2]), rfl, rfl, by omega, by omega, HM2, by show _ = _; rw [HY.out]; omega, by omega, by omega, rfl⟩
          · have h1 : ((gk : Int) % 10 == 0) = false := by simp; omega
            obtain ⟨q0, q1, q2⟩ := hput ⟨neg, gk, y⟩
            have HQ : Hid _ := hpb ⟨neg, gk, y⟩
            clear hput hpb
            unfold put3 at *
            dsimp only at *
            go_wp2
            refine bodyPost_ret (v := nv ⟨neg, gk, y⟩) (by simp [results, Tryd.results36, go_sem, nv, q0, q1, q2]) rfl ⟨⟨_, rfl, .inr ⟨h0, k, rfl, HM.out, hz, HY.out⟩⟩, HQ.out⟩
end Go.Proofs.YtaingbnfalibjaaDoor
