import Derived.Test.YtgdemlebohlolaaGreatDoorQG
/-
  DERIVED. So many digits.
-/
namespace Go.Proofs.YtgdemlebohlolaaGreatDoor.Tm
open Go Go.Proofs Go.RowKit

def cnt (s : ByteArray) : Nat → Nat → Nat
  | _, 0 => 0
  | a, m + 1 => if isD s a = true then 1 + cnt s (a + 1) m else 0
theorem cnt_le (s : ByteArray) : ∀ m a, cnt s a m ≤ m
  | 0, _ => by simp [cnt]
  | m + 1, a => by
    rw [cnt]
    split
    · have := cnt_le s m (a + 1); omega
    · omega
theorem cnt_size (s : ByteArray) : ∀ m a, a ≤ s.size → a + cnt s a m ≤ s.size
  | 0, a, h => by simpa [cnt] using h
  | m + 1, a, h => by
    rw [cnt]
    split
    · rename_i hd
      have hl : a < s.size := by unfold isD at hd; simp at hd; exact hd.1
      have := cnt_size s m (a + 1) hl
      omega
    · omega

theorem grown_set {w w0 : World} {q : Nat} (h : w0.grownBy w (some q)) (i : Nat) (v : Value) : w0.grownBy (w.setCell ⟨q, i, none⟩ v) (some q) :=
  ⟨h.os, h.tape, h.output, by rw [World.size_setCell]; exact h.size, fun k hk hne => by
    rw [Below.heap_setCell w ⟨q, i, none⟩ v k (fun e => hne (by rw [e]))]
    exact h.block k hk hne⟩
theorem grown_drewN {w w0 : World} {q : Option Nat} (h : w0.grownBy w q) (n : Nat) : w0.grownBy (w.drewN n) q := ⟨h.os, h.tape, h.output, h.size, h.block⟩
theorem grown_refl (w : World) (q : Option Nat) : w.grownBy w q := ⟨rfl, rfl, rfl, Nat.le_refl _, fun _ _ _ => rfl⟩

def up (f : Nat → Value) (i : Nat) (v : Value) : Nat → Value := fun j => if j = i then v else f j

set_option maxRecDepth 100000 in
set_option maxHeartbeats 1000000 in
theorem digits_any (w : World) (q : Nat) (f : Nat → Value) (s : ByteArray) (a : Nat) (b : Bool) (h : Cur w q f s a b) (ha : a ≤ s.size) (hs : s.size ≤ 140737488351232) (least most : Nat) (hm : most ≤ 100) (hl : least ≤ 100) (c : Nat) (hc : c = if b = true then 0 else cnt s a most) :
    Calls Tryz.prog 152 #[.pointer (some ⟨q, 0, none⟩), .int .i64 (least : Int), .int .i64 (most : Int)] w fun e w' => ∃ f', e = .returned (.string (s.extract a (a + c))) ∧ Cur w' q f' s (a + c) (b || decide (c < least)) ∧ (∀ k, 3 ≤ k → f' k = f k) ∧ w.grownBy w' (some q) := by
  have hcs : a + c ≤ s.size := by
    rw [hc]
    cases b with
    | true => simpa using ha
    | false => exact cnt_size s most a ha
  have hcm : c ≤ most := by
    rw [hc]
    cases b with
    | true => simp
    | false => exact cnt_le s most a
  obtain ⟨q0, q1, q2⟩ := h.cells
  have HC0 : Hid (Cur w q f s a b) := h
  have HE0 : Hid (0 + (if b = true then 0 else cnt s (a + 0) (most - 0)) = c) := by show _ = _; rw [hc, Nat.zero_add]; rfl
  clear h hc
  go_enter Tryz.func152, Tryz.ntmps152
  go_wp2
  clear q0 q1 q2
  go_loopg [] most (fun g wx => ∃ (j p : Nat) (fj : Nat → Value), g + j = most ∧ Hid (a + j = p) ∧ p ≤ s.size ∧ a ≤ p ∧ Hid (Cur wx q fj s p b) ∧ Hid (∀ k, 3 ≤ k → fj k = f k) ∧ Hid (j + (if b = true then 0 else cnt s p (most - j)) = c) ∧ Hid (w.grownBy wx (some q)))
  case atStart => exact ⟨0, a, f, by omega, rfl, by omega, by omega, HC0, fun _ _ => rfl, HE0, grown_refl _ _⟩
  case round =>
    clear HC0 HE0
    obtain ⟨j, p, fj, hg, HP, haj, hap, HC, HF, HE, HG⟩ := hrel
    obtain ⟨q0, q1, q2⟩ := HC.out.cells
    have qf : ∀ i, wr.frozen? ⟨q, i, none⟩ = false := fun i => HC.out.row.frozen i
    have hsub : (p : Int) - (a : Int) = (j : Int) := by have := HP.out; omega
    have c72 := onDigit_any wr q fj s p b HC.out haj
    have hp63 : (p : Int) + 1 < 9223372036854775807 := by omega
    by_cases hj : j < most
    · have hjI : (j : Int) < (most : Int) := by omega
      cases hd : (!b && isD s p) with
      | true =>
        rw [hd] at c72
        have hb : b = false := by cases b with | true => simp at hd | false => rfl
        subst hb
        have hd' : isD s p = true := by simpa using hd
        have hlt : p < s.size := by unfold isD at hd'; simp at hd'; exact hd'.1
        have HE2 : Hid (j + 1 + (if false = true then 0 else cnt s (p + 1) (most - (j + 1))) = c) := by
          have h1 := HE.out
          show _ = _
          rw [if_neg (by decide)] at h1 ⊢
          obtain ⟨r, hr⟩ : ∃ r, most - j = r + 1 := ⟨most - j - 1, by omega⟩
          rw [hr, cnt, if_pos hd'] at h1
          rw [show most - (j + 1) = r by omega]
          omega
        have HC2 : Hid (Cur (wr.setCell ⟨q, 1, none⟩ (.int .i64 ((p : Int) + 1))) q (up fj 1 (.int .i64 ((p : Int) + 1))) s (p + 1) false) := by
          refine ⟨HC.out.row.set 1 _, ?_, rfl, ?_⟩
          · show (if (0 : Nat) = 1 then _ else _) = _; rw [if_neg (by omega)]; exact HC.out.c0
          · show (if (2 : Nat) = 1 then _ else _) = _; rw [if_neg (by omega)]; exact HC.out.c2
        have HF2 : Hid (∀ k, 3 ≤ k → up fj 1 (.int .i64 ((p : Int) + 1)) k = f k) := fun k hk => by
          show (if k = 1 then _ else _) = _
          rw [if_neg (by omega)]
          exact HF.out k hk
        clear hd hd' HE HF
        go_wp2_with (go_at_call 150; refine c72.mono ?_; rintro e w' ⟨rfl, n, rfl⟩)
        go_roundg (most - (j + 1))
        case measure => omega
        case rel => exact ⟨j + 1, p + 1, up fj 1 (.int .i64 ((p : Int) + 1)), by omega, by show _ = _; rw [← HP.out]; omega, by omega, by omega, ⟨HC2.out.row, HC2.out.c0, HC2.out.c1, HC2.out.c2⟩, HF2, HE2, grown_set (grown_drewN HG.out n) 1 _⟩
      | false =>
        rw [hd] at c72
        have hjc : j = c := by
          have h1 := HE.out
          cases b with
          | true => simpa using h1
          | false =>
            rw [if_neg (by decide)] at h1
            obtain ⟨r, hr⟩ : ∃ r, most - j = r + 1 := ⟨most - j - 1, by omega⟩
            have hd' : isD s p = false := by simpa using hd
            rw [hr, cnt, if_neg (by rw [hd']; decide)] at h1
            omega
        subst hjc
        clear hd HE
        by_cases hle : j < least
        · have hleI : (j : Int) < (least : Int) := by omega
          have hpI : (a : Int) ≤ (p : Int) := by omega
          have hpI2 : (p : Int) ≤ (s.size : Int) := by omega
          have HC2 : Hid (Cur (wr.setCell ⟨q, 2, none⟩ (.bool true)) q (up fj 2 (.bool true)) s (a + j) (b || decide (j < least))) := by
            refine ⟨HC.out.row.set 2 _, ?_, ?_, ?_⟩
            · show (if (0 : Nat) = 2 then _ else _) = _; rw [if_neg (by omega)]; exact HC.out.c0
            · show (if (1 : Nat) = 2 then _ else _) = _; rw [if_neg (by omega), HP.out]; exact HC.out.c1
            · show _ = _; rw [decide_eq_true hle, Bool.or_true]; rfl
          have HF2 : Hid (∀ k, 3 ≤ k → up fj 2 (.bool true) k = f k) := fun k hk => by
            show (if k = 2 then _ else _) = _
            rw [if_neg (by omega)]
            exact HF.out k hk
          clear HF
          go_wp2_with (first | (go_at_call 150; refine c72.mono ?_; rintro e w' ⟨rfl, n, rfl⟩) | fail)
          go_quiet (fail)
          go_wp2
          go_ret
          exact ⟨up fj 2 (.bool true), by rw [HP.out]; rfl, ⟨HC2.out.row, HC2.out.c0, HC2.out.c1, HC2.out.c2⟩, HF2.out, grown_drewN (grown_set (grown_drewN HG.out n) 2 _) _⟩
        · have hleI : ¬ ((j : Int) < (least : Int)) := by omega
          have hpI : (a : Int) ≤ (p : Int) := by omega
          have hpI2 : (p : Int) ≤ (s.size : Int) := by omega
          have HC2 : Hid (Cur wr q fj s (a + j) (b || decide (j < least))) := by
            refine ⟨HC.out.row, HC.out.c0, by rw [HP.out]; exact HC.out.c1, ?_⟩
            rw [decide_eq_false hle, Bool.or_false]; exact HC.out.c2
          clear HC
          go_wp2_with (first | (go_at_call 150; refine c72.mono ?_; rintro e w' ⟨rfl, n, rfl⟩) | fail)
          go_quiet (fail)
          go_wp2
          go_ret
          exact ⟨fj, by rw [HP.out]; rfl, ⟨HC2.out.row, HC2.out.c0, HC2.out.c1, HC2.out.c2⟩, HF.out, grown_drewN (grown_drewN HG.out n) _⟩
    · have hjI : ¬ ((j : Int) < (most : Int)) := by omega
      have hjm : j = most := by omega
      have hjc : j = c := by
        have h1 := HE.out
        rw [show most - j = 0 by omega, cnt] at h1
        cases b with
        | true => simpa using h1
        | false => simpa using h1
      subst hjc
      clear HE c72 hjm
      by_cases hle : j < least
      · have hleI : (j : Int) < (least : Int) := by omega
        have hpI : (a : Int) ≤ (p : Int) := by omega
        have hpI2 : (p : Int) ≤ (s.size : Int) := by omega
        have HC2 : Hid (Cur (wr.setCell ⟨q, 2, none⟩ (.bool true)) q (up fj 2 (.bool true)) s (a + j) (b || decide (j < least))) := by
          refine ⟨HC.out.row.set 2 _, ?_, ?_, ?_⟩
          · show (if (0 : Nat) = 2 then _ else _) = _; rw [if_neg (by omega)]; exact HC.out.c0
          · show (if (1 : Nat) = 2 then _ else _) = _; rw [if_neg (by omega), HP.out]; exact HC.out.c1
          · show _ = _; rw [decide_eq_true hle, Bool.or_true]; rfl
        have HF2 : Hid (∀ k, 3 ≤ k → up fj 2 (.bool true) k = f k) := fun k hk => by
          show (if k = 2 then _ else _) = _
          rw [if_neg (by omega)]
          exact HF.out k hk
        clear HF
        go_wp2_with (first | fail | fail)
        go_quiet (fail)
        go_wp2
        go_ret
        exact ⟨up fj 2 (.bool true), by rw [HP.out]; rfl, ⟨HC2.out.row, HC2.out.c0, HC2.out.c1, HC2.out.c2⟩, HF2.out, grown_drewN (grown_set HG.out 2 _) _⟩
      · have hleI : ¬ ((j : Int) < (least : Int)) := by omega
        have hpI : (a : Int) ≤ (p : Int) := by omega
        have hpI2 : (p : Int) ≤ (s.size : Int) := by omega
        have HC2 : Hid (Cur wr q fj s (a + j) (b || decide (j < least))) := by
          refine ⟨HC.out.row, HC.out.c0, by rw [HP.out]; exact HC.out.c1, ?_⟩
          rw [decide_eq_false hle, Bool.or_false]; exact HC.out.c2
        clear HC
        go_wp2_with (first | fail | fail)
        go_quiet (fail)
        go_wp2
        go_ret
        exact ⟨fj, by rw [HP.out]; rfl, ⟨HC2.out.row, HC2.out.c0, HC2.out.c1, HC2.out.c2⟩, HF.out, grown_drewN HG.out _⟩
end Go.Proofs.YtgdemlebohlolaaGreatDoor.Tm

/-
  DERIVED. What digits are worth.
-/
namespace Go.Proofs.YtgdemlebohlolaaGreatDoor.Tm
open Go Go.Proofs Go.RowKit

def valN : List UInt8 → Nat → Nat
  | [], n => n
  | b :: l, n => valN l (10 * n + (b.toNat - 48))
theorem valN_lt : ∀ (l : List UInt8) (n : Nat), (∀ b ∈ l, 48 ≤ b.toNat ∧ b.toNat ≤ 57) → valN l n < (n + 1) * 10 ^ l.length
  | [], n, _ => by simp [valN]
  | b :: l, n, h => by
    rw [valN]
    have hb := h b (by simp)
    have := valN_lt l (10 * n + (b.toNat - 48)) (fun c hc => h c (by simp [hc]))
    rw [List.length_cons, Nat.pow_succ]
    refine Nat.lt_of_lt_of_le this ?_
    rw [Nat.mul_comm (10 ^ l.length) 10, ← Nat.mul_assoc]
    exact Nat.mul_le_mul_right _ (by omega)
def val (l : List UInt8) : Nat := valN l 0
def Digs (u : ByteArray) : Prop := ∀ b ∈ u.data.toList, 48 ≤ b.toNat ∧ b.toNat ≤ 57

theorem drop_byte {s : ByteArray} {k : Nat} (h : k < s.size) : s.data.toList.drop k = s[k] :: s.data.toList.drop (k + 1) := by
  have h2 : k < s.data.toList.length := by rw [Array.length_toList]; exact h
  rw [List.drop_eq_getElem_cons h2]
  rfl

set_option maxRecDepth 100000 in
set_option maxHeartbeats 1000000 in
theorem worth_any (w : World) (u : ByteArray) (hu : Digs u) (h8 : u.size ≤ 8) :
    Calls Tryz.prog 153 #[.string u] w fun e w' => e = .returned (.int .i64 (val u.data.toList : Nat)) ∧ Below w.heap.size w w' := by
  obtain ⟨B, hB⟩ : ∃ B, w.heap.size = B := ⟨_, rfl⟩
  rw [hB]
  have HE0 : Hid (valN (u.data.toList.drop 0) 0 = val u.data.toList) := rfl
  have HU : Hid (Digs u) := hu
  generalize val u.data.toList = E at *
  clear hu
  go_enter Tryz.func153, Tryz.ntmps153
  go_wp2
  go_loopg [3] u.size (fun g s3 wx => ∃ pos n : Nat, s3 = .int .i64 (n : Int) ∧ g + pos = u.size ∧ n ≤ 99999999 ∧ Hid (n < 10 ^ pos) ∧ Hid (valN (u.data.toList.drop pos) n = E) ∧ Hid (wx.heap[B]? = some (.stringIter u pos)) ∧ Hid (Below B w wx))
  case atStart =>
    refine ⟨0, 0, rfl, by omega, by omega, by show 0 < 10 ^ 0; omega, HE0, ?_, ?_⟩
    · show _ = _; rw [← hB]; exact World.iter_heap w u 0
    · show Below _ _ _; rw [← hB]; exact (Below.refl _ w).alloc (Nat.le_refl _) _
  case round =>
    clear HE0
    obtain ⟨pos, n, rfl, hg, hn8, HN, HE, HI, HBw⟩ := hrel
    by_cases hp : pos < u.size
    · have hd := HU.out u[pos] (by
        have h2 : pos < u.data.size := hp
        have : u[pos] = u.data[pos] := rfl
        rw [this]
        exact Array.getElem_mem_toList h2)
      have h1 := HE.out
      rw [drop_byte hp, valN] at h1
      have hnx : ∀ ty, (Instr.next (.pointer (some ⟨B, 0, none⟩)) true ty).run Tryz.prog wr = _ := fun ty => Lib.run_next_ascii_at wr B u pos ty HI.out hp (by omega)
      obtain ⟨c, hc⟩ : ∃ c, u[pos].toNat = c := ⟨_, rfl⟩
      rw [hc] at hd h1 hnx
      have HI2 : Hid ((wr.iterAt B u (pos + 1)).heap[B]? = some (.stringIter u (pos + 1))) := Lib.iterAt_heap wr B u pos (pos + 1) HI.out
      have HB2 : Hid (Below B w (wr.iterAt B u (pos + 1))) := Lib.below_iterAt HBw.out (k := B) (Nat.le_refl _) u (pos + 1)
      have HN2 : Hid (10 * n + (c - 48) < 10 ^ (pos + 1)) := by
        have := HN.out
        show _ < _
        rw [Nat.pow_succ]
        omega
      have hN8 : 10 * n + (c - 48) ≤ 99999999 := by
        have h2 := HN2.out
        have h3 : 10 ^ (pos + 1) ≤ 10 ^ 8 := Nat.pow_le_pow_right (by omega) (by omega)
        omega
      have HE2 : Hid (valN (u.data.toList.drop (pos + 1)) (10 * n + (c - 48)) = E) := h1
      obtain ⟨d, hdd⟩ : ∃ d, c - 48 = d := ⟨_, rfl⟩
      rw [hdd] at HE2 HN2 hN8
      have hcd : (c : Int) - 48 = (d : Int) := by omega
      have hd9 : d ≤ 9 := by omega
      have hc57 : c ≤ 57 := by omega
      generalize wr.iterAt B u (pos + 1) = W1 at *
      clear h1 hdd hd HE HN
      go_wp2
      go_roundg (u.size - (pos + 1))
      case measure => omega
      case rel => exact ⟨pos + 1, 10 * n + d, by first | rfl | simp, by omega, hN8, HN2, HE2, HI2, HB2⟩
    · have hnx : ∀ ty, (Instr.next (.pointer (some ⟨B, 0, none⟩)) true ty).run Tryz.prog wr = _ := fun ty => Lib.run_next_end_at wr B u pos ty HI.out hp
      have hE : n = E := by
        have h1 := HE.out
        rw [List.drop_eq_nil_of_le (by rw [Array.length_toList]; show u.size ≤ _; omega)] at h1
        exact h1
      subst hE
      clear HE
      go_wp2
      go_ret
      exact ⟨rfl, HBw.out⟩

theorem cnt_digit (s : ByteArray) : ∀ m a i, i < cnt s a m → isD s (a + i) = true
  | 0, a, i, h => by simp [cnt] at h
  | m + 1, a, i, h => by
    rw [cnt] at h
    split at h
    · rename_i hd
      cases i with
      | zero => exact hd
      | succ i =>
        have := cnt_digit s m (a + 1) i (by omega)
        rw [show a + (i + 1) = a + 1 + i by omega]
        exact this
    · omega

theorem digs_ext (s : ByteArray) (a c m : Nat) (hc : c ≤ cnt s a m) : Digs (s.extract a (a + c)) := by
  intro b hb
  rw [ByteArray.data_extract] at hb
  obtain ⟨i, hi, rfl⟩ := List.getElem_of_mem hb
  have hi' := hi
  rw [Array.length_toList, Array.size_extract] at hi'
  have hd := cnt_digit s m a i (by omega)
  unfold isD at hd
  simp only [Bool.and_eq_true, decide_eq_true_eq] at hd
  have hl : a + i < s.data.size := hd.1
  have e : s.get! (a + i) = s.data[a + i] := (get_get! s (a + i) hd.1).symm
  rw [e] at hd
  simp only [Array.getElem_toList, Array.getElem_extract]
  exact hd.2

/-- The number that is read. -/
def nv (s : ByteArray) (a c : Nat) : Nat := val (s.extract a (a + c)).data.toList

theorem grown_below {w w0 w' : World} {q : Nat} (h : w0.grownBy w (some q)) (hb : Below w.heap.size w w') : w0.grownBy w' (some q) :=
  ⟨hb.os.trans h.os, hb.tape.trans h.tape, hb.output.trans h.output, Nat.le_trans h.size hb.size, fun k hk hne => (hb.block k (Nat.lt_of_lt_of_le hk h.size)).trans (h.block k hk hne)⟩
theorem Cur.on {w w' : World} {q : Nat} {f : Nat → Value} {s : ByteArray} {a : Nat} {b : Bool} (h : Cur w q f s a b) (hb : Below w.heap.size w w') : Cur w' q f s a b :=
  ⟨h.row.of_block (hb.block q h.row.lt), h.c0, h.c1, h.c2⟩

set_option maxRecDepth 100000 in
theorem number74_any (w : World) (q : Nat) (f : Nat → Value) (s : ByteArray) (a : Nat) (b : Bool) (h : Cur w q f s a b) (ha : a ≤ s.size) (hs : s.size ≤ 140737488351232) (k : Nat) (hk : k ≤ 8) (c : Nat) (hc : c = if b = true then 0 else cnt s a k) :
    Calls Tryz.prog 155 #[.pointer (some ⟨q, 0, none⟩), .int .i64 (k : Int)] w fun e w' => ∃ f', e = .returned (.int .i64 (nv s a c : Nat)) ∧ Cur w' q f' s (a + c) (b || decide (c < k)) ∧ (∀ j, 3 ≤ j → f' j = f j) ∧ w.grownBy w' (some q) := by
  have c74 := digits_any w q f s a b h ha hs k k (by omega) (by omega) c hc
  have hck : c ≤ k ∧ (c ≤ cnt s a k) := by
    cases b with
    | true => simp at hc; omega
    | false => simp at hc; subst hc; exact ⟨cnt_le s k a, Nat.le_refl _⟩
  have hz : (s.extract a (a + c)).size ≤ 8 := by rw [ByteArray.size_extract]; omega
  have c75 := fun W => worth_any W (s.extract a (a + c)) (digs_ext s a c k hck.2) hz
  have he : val (s.extract a (a + c)).data.toList = nv s a c := rfl
  rw [he] at c75
  generalize nv s a c = N at *
  generalize s.extract a (a + c) = u at *
  clear h hc hck hz he
  go_enter Tryz.func155, Tryz.ntmps155
  go_wp2_with (go_at_call 152; refine Stop.mk ?_)
  refine Stop.out (c74.mono ?_)
  rintro e W1 ⟨f1, rfl, hc1, hf1, hg1⟩
  have HC : Hid (Cur W1 q f1 s (a + c) (b || decide (c < k))) := hc1
  have HF : Hid (∀ j, 3 ≤ j → f1 j = f j) := hf1
  have HG : Hid (w.grownBy W1 (some q)) := hg1
  clear c74 hc1 hf1 hg1
  go_wp2_with (go_at_call 153; refine Stop.mk ?_)
  refine Stop.out ((c75 _).mono ?_)
  rintro e W2 ⟨rfl, hb2⟩
  have HC2 : Hid (Cur W2 q f1 s (a + c) (b || decide (c < k))) := HC.out.on hb2
  have HG2 : Hid (w.grownBy W2 (some q)) := grown_below HG.out hb2
  clear c75 hb2
  go_wp2
  go_ret
  exact ⟨f1, rfl, HC2.out, HF.out, HG2.out⟩

/-- What is kept for the end. -/
def Dbt (w : World) (q : Nat) (v : Value) (o : Option (Int × Int)) : Prop := PErr w v o ∧ ∀ p, v = .iface 44 (.pointer (some ⟨p, 0, none⟩)) → p ≠ q
theorem Dbt.grown {w w' : World} {q : Nat} {v : Value} {o : Option (Int × Int)} (h : Dbt w q v o) (hg : w.grownBy w' (some q)) : Dbt w' q v o := by
  refine ⟨?_, h.2⟩
  cases o with
  | none => exact h.1
  | some x =>
    obtain ⟨p, rfl, h0, h1, h2⟩ := h.1
    have hne := h.2 p rfl
    exact ⟨p, rfl, hg.cell h0 (by simpa using hne), hg.cell h1 (by simpa using hne), hg.cell h2 (by simpa using hne)⟩
theorem Dbt.on {w w' : World} {q : Nat} {v : Value} {o : Option (Int × Int)} (h : Dbt w q v o) (hb : Below w.heap.size w w') : Dbt w' q v o := ⟨h.1.next hb, h.2⟩

def PostD (w : World) (q : Nat) (f : Nat → Value) (s : ByteArray) (a : Nat) (b : Bool) (o : Option (Int × Int)) (e : Ending) (w' : World) : Prop :=
  ∃ f' v, e = .returned v ∧ Cur w' q f' s a b ∧ (∀ j, 4 ≤ j → f' j = f j) ∧ Dbt w' q (f' 3) o ∧ w.grownBy w' (some q)

set_option maxRecDepth 100000 in
set_option maxHeartbeats 1000000 in
theorem doubt_any (w : World) (q : Nat) (f : Nat → Value) (s : ByteArray) (a : Nat) (b : Bool) (o : Option (Int × Int)) (h : Cur w q f s a b) (hd : Dbt w q (f 3) o) (pl : Nat) :
    Calls Tryz.prog 157 #[.pointer (some ⟨q, 0, none⟩), .int .i64 (pl : Int)] w (PostD w q f s a b (if o = none then some ((pl : Int), 101) else o)) := by
  have q3 : w.cell? ⟨q, 3, none⟩ = some (f 3) := h.row.cell (i := 3) (by omega)
  have qf : ∀ i, w.frozen? ⟨q, i, none⟩ = false := fun i => h.row.frozen i
  have hql := h.row.lt
  have HC : Hid (Cur w q f s a b) := h
  cases o with
  | some x =>
    have hd' := hd
    obtain ⟨⟨p, hp, _⟩, _⟩ := hd'
    have HD : Hid (Dbt w q (f 3) (some x)) := hd
    rw [hp] at q3
    clear h hd hp
    go_enter Tryz.func157, Tryz.ntmps157
    go_wp2
    exact bodyPost_end (results_none rfl _ _ _) rfl ⟨f, _, rfl, HC.out, fun _ _ => rfl, HD.out, grown_refl _ _⟩
  | none =>
    have hp : f 3 = .nilIface := hd.1
    rw [hp] at q3
    have c24 := refusal_any (pl : Int) 101 w
    clear h hd hp
    go_enter Tryz.func157, Tryz.ntmps157
    go_wp2_with (go_at_call 126; refine Stop.mk ?_)
    refine Stop.out (c24.mono ?_)
    rintro e W1 ⟨v, rfl, hv, hb⟩
    have hv0 := hv
    obtain ⟨p, rfl, hF⟩ := hv0
    have g3 := (hb.cell (p := ⟨q, 3, none⟩) hql).trans q3
    have gf : ∀ i, W1.frozen? ⟨q, i, none⟩ = false := fun i => (hb.frozen (p := ⟨q, i, none⟩) hql).trans (qf i)
    have hpq : p ≠ q := by
      rintro rfl
      have h2 := hF.2.2
      rw [(hb.cell (p := ⟨p, 2, none⟩) hql).trans (HC.out.row.cell (i := 2) (by omega)), HC.out.c2] at h2
      cases h2
    have hne : ∀ p', (Value.iface 44 (.pointer (some ⟨p, 0, none⟩))) = .iface 44 (.pointer (some ⟨p', 0, none⟩)) → p' ≠ q := fun p' h => by
      obtain rfl : p = p' := by simpa using h
      exact hpq
    obtain ⟨v, hvv⟩ : ∃ v, Value.iface 44 (.pointer (some ⟨p, 0, none⟩)) = v := ⟨_, rfl⟩
    rw [hvv] at hv hne
    have HR : Hid ((W1.setCell ⟨q, 3, none⟩ v).rowIs q 131 15 (up f 3 v)) := (HC.out.row.of_block (hb.block q hql)).set 3 v
    have HD : Hid (Dbt (W1.setCell ⟨q, 3, none⟩ v) q v (some ((pl : Int), 101))) := Dbt.grown (w := W1) ⟨hv, hne⟩ (grown_set (grown_refl _ _) 3 v)
    have HG : Hid (w.grownBy (W1.setCell ⟨q, 3, none⟩ v) (some q)) := grown_set (grown_below (grown_refl _ _) hb) 3 v
    clear hv hb hne c24 q3 qf hF
    subst hvv
    go_wp2
    refine bodyPost_end (results_none rfl _ _ _) rfl ⟨up f 3 _, _, rfl, ⟨HR.out, ?_, ?_, ?_⟩, ?_, HD.out, HG.out⟩
    · show (if (0 : Nat) = 3 then _ else _) = _; rw [if_neg (by omega)]; exact HC.out.c0
    · show (if (1 : Nat) = 3 then _ else _) = _; rw [if_neg (by omega)]; exact HC.out.c1
    · show (if (2 : Nat) = 3 then _ else _) = _; rw [if_neg (by omega)]; exact HC.out.c2
    · intro j hj
      show (if j = 3 then _ else _) = _
      rw [if_neg (by omega)]
end Go.Proofs.YtgdemlebohlolaaGreatDoor.Tm
