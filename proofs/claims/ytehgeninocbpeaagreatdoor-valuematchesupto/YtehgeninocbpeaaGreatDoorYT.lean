import Derived.Test.YtehgeninocbpeaaGreatDoorYH
import Derived.Lib.Bytealg
namespace Go.Proofs.YtehgeninocbpeaaGreatDoor.Nu
open Go Go.Proofs Go.RowKit
def valN : List UInt8 → Nat → Nat
  | [], n => n
  | b :: l, n => valN l (10 * n + (b.toNat - 48))
theorem valN_lt : ∀ (l : List UInt8) (n : Nat), (∀ b ∈ l, 48 ≤ b.toNat ∧ b.toNat ≤ 57) → valN l n < (n + 1) * 10 ^ l.length
  | [], n, _ => by simp [valN]
  | b :: l, n, h => by
    rw [valN]
    have hb := h b (by simp)
    have := valN_lt l (10 * n + (b.toNat - 48)) (fun c hc => h c (by simp [hc]))
    rw [List.length_cons, Nat.pow_succ]
    refine Nat.lt_of_lt_of_le this ?_
    rw [Nat.mul_comm (10 ^ l.length) 10, ← Nat.mul_assoc]
    exact Nat.mul_le_mul_right _ (by omega)
def val (l : List UInt8) : Nat := valN l 0
def Digs (u : ByteArray) : Prop := ∀ b ∈ u.data.toList, 48 ≤ b.toNat ∧ b.toNat ≤ 57
theorem drop_byte {s : ByteArray} {k : Nat} (h : k < s.size) : s.data.toList.drop k = s[k] :: s.data.toList.drop (k + 1) := by
  have h2 : k < s.data.toList.length := by rw [Array.length_toList]; exact h
  rw [List.drop_eq_getElem_cons h2]
  rfl
set_option maxRecDepth 100000 in
set_option maxHeartbeats 1000000 in
theorem worth_any (w : World) (u : ByteArray) (hu : Digs u) (h8 : u.size ≤ 18) :
    Calls Tryz.prog 76 #[.string u] w fun e w' => e = .returned (.int .i64 (val u.data.toList : Nat)) ∧ Below w.heap.size w w' := by
  obtain ⟨B, hB⟩ : ∃ B, w.heap.size = B := ⟨_, rfl⟩
  rw [hB]
  have HE0 : Hid (valN (u.data.toList.drop 0) 0 = val u.data.toList) := rfl
  have HU : Hid (Digs u) := hu
  generalize val u.data.toList = E at *
  clear hu
  go_enter Tryz.func76, Tryz.ntmps76
  go_wp2
  go_loopg [3] u.size (fun g s3 wx => ∃ pos n : Nat, s3 = .int .i64 (n : Int) ∧ g + pos = u.size ∧ n ≤ 999999999999999999 ∧ Hid (n < 10 ^ pos) ∧ Hid (valN (u.data.toList.drop pos) n = E) ∧ Hid (wx.heap[B]? = some (.stringIter u pos)) ∧ Hid (Below B w wx))
  case atStart =>
    refine ⟨0, 0, rfl, by omega, by omega, by show 0 < 10 ^ 0; omega, HE0, ?_, ?_⟩
    · show _ = _; rw [← hB]; exact World.iter_heap w u 0
    · show Below _ _ _; rw [← hB]; exact (Below.refl _ w).alloc (Nat.le_refl _) _
  case round =>
    clear HE0
    obtain ⟨pos, n, rfl, hg, hn8, HN, HE, HI, HBw⟩ := hrel
    by_cases hp : pos < u.size
    · have hd := HU.out u[pos] (by
        have h2 : pos < u.data.size := hp
        have : u[pos] = u.data[pos] := rfl
        rw [this]
        exact Array.getElem_mem_toList h2)
      have h1 := HE.out
      rw [drop_byte hp, valN] at h1
      have hnx : ∀ ty, (Instr.next (.pointer (some ⟨B, 0, none⟩)) true ty).run Tryz.prog wr = _ := fun ty => Lib.run_next_ascii_at wr B u pos ty HI.out hp (by omega)
      obtain ⟨c, hc⟩ : ∃ c, u[pos].toNat = c := ⟨_, rfl⟩
      rw [hc] at hd h1 hnx
      have HI2 : Hid ((wr.iterAt B u (pos + 1)).heap[B]? = some (.stringIter u (pos + 1))) := Lib.iterAt_heap wr B u pos (pos + 1) HI.out
      have HB2 : Hid (Below B w (wr.iterAt B u (pos + 1))) := Lib.below_iterAt HBw.out (k := B) (Nat.le_refl _) u (pos + 1)
      have HN2 : Hid (10 * n + (c - 48) < 10 ^ (pos + 1)) := by
        have := HN.out
        show _ < _
        rw [Nat.pow_succ]
        omega
      have hN8 : 10 * n + (c - 48) ≤ 999999999999999999 := by
        have h2 := HN2.out
        have h3 : 10 ^ (pos + 1) ≤ 10 ^ 18 := Nat.pow_le_pow_right (by omega) (by omega)
        omega
      have HE2 : Hid (valN (u.data.toList.drop (pos + 1)) (10 * n + (c - 48)) = E) := h1
      obtain ⟨d, hdd⟩ : ∃ d, c - 48 = d := ⟨_, rfl⟩
      rw [hdd] at HE2 HN2 hN8
      have hcd : (c : Int) - 48 = (d : Int) := by omega
      have hd9 : d ≤ 9 := by omega
      have hc57 : c ≤ 57 := by omega
      generalize wr.iterAt B u (pos + 1) = W1 at *
      clear h1 hdd hd HE HN
      go_wp2
      go_roundg (u.size - (pos + 1))
      case measure => omega
      case rel => exact ⟨pos + 1, 10 * n + d, by first | rfl | simp, by omega, hN8, HN2, HE2, HI2, HB2⟩
    · have hnx : ∀ ty, (Instr.next (.pointer (some ⟨B, 0, none⟩)) true ty).run Tryz.prog wr = _ := fun ty => Lib.run_next_end_at wr B u pos ty HI.out hp
      have hE : n = E := by
        have h1 := HE.out
        rw [List.drop_eq_nil_of_le (by rw [Array.length_toList]; show u.size ≤ _; omega)] at h1
        exact h1
      subst hE
      clear HE
      go_wp2
      go_ret
      exact ⟨rfl, HBw.out⟩
theorem cnt_digit (s : ByteArray) : ∀ m a i, i < cnt s a m → isD s (a + i) = true
  | 0, a, i, h => by simp [cnt] at h
  | m + 1, a, i, h => by
    rw [cnt] at h
    split at h
    · rename_i hd
      cases i with
      | zero => exact hd
      | succ i =>
        have := cnt_digit s m (a + 1) i (by omega)
        rw [show a + (i + 1) = a + 1 + i by omega]
        exact this
    · omega
theorem digs_ext (s : ByteArray) (a c m : Nat) (hc : c ≤ cnt s a m) : Digs (s.extract a (a + c)) := by
  intro b hb
  rw [ByteArray.data_extract] at hb
  obtain ⟨i, hi, rfl⟩ := List.getElem_of_mem hb
  have hi' := hi
  rw [Array.length_toList, Array.size_extract] at hi'
  have hd := cnt_digit s m a i (by omega)
  unfold isD at hd
  simp only [Bool.and_eq_true, decide_eq_true_eq] at hd
  have hl : a + i < s.data.size := hd.1
  have e : s.get! (a + i) = s.data[a + i] := (get_get! s (a + i) hd.1).symm
  rw [e] at hd
  simp only [Array.getElem_toList, Array.getElem_extract]
  exact hd.2
theorem grown_below {w w0 w' : World} {q : Nat} (h : w0.grownBy w (some q)) (hb : Below w.heap.size w w') : w0.grownBy w' (some q) :=
  ⟨hb.os.trans h.os, hb.tape.trans h.tape, hb.output.trans h.output, Nat.le_trans h.size hb.size, fun k hk hne => (hb.block k (Nat.lt_of_lt_of_le hk h.size)).trans (h.block k hk hne)⟩
theorem Cur.on {w w' : World} {q : Nat} {f : Nat → Value} {s : ByteArray} {a : Nat} {b : Bool} (h : Cur w q f s a b) (hb : Below w.heap.size w w') : Cur w' q f s a b :=
  ⟨h.row.of_block (hb.block q h.row.lt), h.c0, h.c1, h.c2⟩
end Go.Proofs.YtehgeninocbpeaaGreatDoor.Nu

namespace Go.Proofs.YtehgeninocbpeaaGreatDoor.Nu
open Go Go.Proofs Go.RowKit
def PostE (w : World) (o : Option (Int × Int)) (e : Ending) (w' : World) : Prop := ∃ v, e = .returned v ∧ PErr w' v o ∧ Below w.heap.size w w'
set_option maxRecDepth 100000 in
set_option maxHeartbeats 1000000 in
theorem end78_any (w : World) (q : Nat) (f : Nat → Value) (s : ByteArray) (a : Nat) (b : Bool) (h : Cur w q f s a b) (o : Option (Int × Int)) (ho : (b = true ∨ a < s.size) ∧ o = some ((a : Int), 100) ∨ (b = false ∧ ¬ a < s.size) ∧ o = none) :
    Calls Tryz.prog 70 #[.pointer (some ⟨q, 0, none⟩)] w (PostE w o) := by
  obtain ⟨q0, q1, q2⟩ := h.cells
  clear h
  rcases ho with ⟨hb, rfl⟩ | ⟨⟨rfl, hb⟩, rfl⟩
  · have c24 := fun k => refusal_any (a : Int) 100 (w.drewN k)
    have hcase : b = true ∨ (b = false ∧ a < s.size) := by
      cases b with
      | true => exact .inl rfl
      | false => exact .inr ⟨rfl, by simpa using hb⟩
    clear hb
    rcases hcase with rfl | ⟨rfl, hl⟩
    · go_enter Tryz.func70, Tryz.ntmps70
      go_wp2
      go_quiet (fail)
      go_wp2_with (go_at_call 46; refine Stop.mk ?_)
      refine Stop.out ((c24 _).mono ?_)
      rintro e W1 ⟨v, rfl, hv, hb1⟩
      have HV : Hid (PErr W1 v (some ((a : Int), 100))) := hv
      have HB : Hid (Below w.heap.size w W1) := (below_drewN (Below.refl _ _) _).trans hb1
      clear hv hb1 c24
      go_wp2
      go_ret
      exact ⟨v, rfl, HV.out, HB.out⟩
    · have hlI : decide ((a : Int) < (s.size : Int)) = true := by simp; omega
      go_enter Tryz.func70, Tryz.ntmps70
      go_wp2
      go_quiet (fail)
      go_wp2_with (go_at_call 46; refine Stop.mk ?_)
      refine Stop.out ((c24 _).mono ?_)
      rintro e W1 ⟨v, rfl, hv, hb1⟩
      have HV : Hid (PErr W1 v (some ((a : Int), 100))) := hv
      have HB : Hid (Below w.heap.size w W1) := (below_drewN (Below.refl _ _) _).trans hb1
      clear hv hb1 c24
      go_wp2
      go_ret
      exact ⟨v, rfl, HV.out, HB.out⟩
  · have hlI : decide ((a : Int) < (s.size : Int)) = false := by simp; omega
    have hlN : decide (a < s.size) = false := by simp; omega
    go_enter Tryz.func70, Tryz.ntmps70
    go_wp2
    go_quiet (fail)
    go_wp2
    go_ret
    exact ⟨_, rfl, rfl, below_drewN (Below.refl _ _) _⟩
end Go.Proofs.YtehgeninocbpeaaGreatDoor.Nu

namespace Go.Proofs.YtehgeninocbpeaaGreatDoor.Nu
open Go Go.Proofs Go.RowKit
set_option maxRecDepth 100000 in
theorem idx95_any (w : World) (s : ByteArray) (c : Int) : Calls Tryz.prog 132 #[.string s, .int .u8 c] w fun e w' => e = .returned (.int .i64 (Lib.indexByte s.data.toList c.toNat.toUInt8)) ∧ w = w' := by
  go_enter Tryz.func132, Tryz.ntmps132
  go_wp2
  rw [run_callFunc_extern Tryz.func156 (by kernel_rfl) (by kernel_rfl) (by kernel_rfl) (e := Extern.BytealgIndexByte.indexByte) (by kernel_rfl), Lib.run_indexByteString]
  simp only [Result.andThen]
  rw [Oper.upon_value]
  go_wp2
  go_ret
  exact ⟨rfl, rfl⟩
theorem idx88_any (w : World) (s : ByteArray) (c : Int) : Calls Tryz.prog 102 #[.string s, .int .u8 c] w fun e w' => e = .returned (.int .i64 (Lib.indexByte s.data.toList c.toNat.toUInt8)) ∧ w = w' := by
  have h := idx95_any w s c
  go_enter Tryz.func102, Tryz.ntmps102
  go_wp2_with (go_at_call 132; refine h.mono ?_; rintro e w' ⟨rfl, rfl⟩)
  go_ret
  exact ⟨rfl, rfl⟩
theorem up_ne {f : Nat → Value} {i j : Nat} {v : Value} (h : j ≠ i) : up f i v j = f j := if_neg h
theorem nx_lt (s : ByteArray) (a : Nat) (b : Bool) : nx s a b < 256 := by
  unfold nx
  split
  · omega
  · exact UInt8.toNat_lt _
theorem nx_pos {s : ByteArray} {a : Nat} {b : Bool} (h : nx s a b ≠ 0) : b = false ∧ a < s.size := by
  unfold nx at h
  split at h
  · exact absurd rfl h
  · rename_i hn
    simp at hn
    exact ⟨by cases b with | true => simp at hn | false => rfl, hn.2⟩
def PostT (w : World) (q : Nat) (f : Nat → Value) (s : ByteArray) (a : Nat) (b : Bool) (x : Nat) (e : Ending) (w' : World) : Prop := ∃ f', e = .returned (.int .u8 (x : Int)) ∧ Cur w' q f' s a b ∧ (∀ j, 3 ≤ j → f' j = f j) ∧ w.grownBy w' (some q)
set_option maxRecDepth 100000 in
set_option maxHeartbeats 1000000 in
theorem take_no (w : World) (q : Nat) (f : Nat → Value) (s : ByteArray) (a : Nat) (b : Bool) (h : Cur w q f s a b) (ha : a ≤ s.size) (u : ByteArray) (hI : Lib.indexByte u.data.toList (nx s a b).toUInt8 < 0) :
    Calls Tryz.prog 73 #[.pointer (some ⟨q, 0, none⟩), .string u] w (PostT w q f s a b 0) := by
  have c87 := next_any w q f s a b h ha
  have c88 := fun W => idx88_any W u (nx s a b : Nat)
  rw [Int.toNat_natCast] at c88
  generalize Lib.indexByte u.data.toList (nx s a b).toUInt8 = I at *
  generalize nx s a b = x at *
  have HC : Hid (Cur w q f s a b) := h
  clear h
  go_enter Tryz.func73, Tryz.ntmps73
  go_wp2_with (first | (go_at_call 101; refine c87.mono ?_; rintro e w' ⟨rfl, n, rfl⟩) | (go_at_call 102; refine (c88 _).mono ?_; rintro e w' ⟨rfl, rfl⟩))
  go_ret
  exact ⟨f, rfl, ⟨HC.out.row, HC.out.c0, HC.out.c1, HC.out.c2⟩, fun _ _ => rfl, grown_drewN (grown_refl _ _) n⟩
set_option maxRecDepth 100000 in
set_option maxHeartbeats 1000000 in
theorem take_yes (w : World) (q : Nat) (f : Nat → Value) (s : ByteArray) (a : Nat) (b : Bool) (h : Cur w q f s a b) (ha : a ≤ s.size) (hs : s.size ≤ 140737488351232) (u : ByteArray) (hI : 0 ≤ Lib.indexByte u.data.toList (nx s a b).toUInt8) :
    Calls Tryz.prog 73 #[.pointer (some ⟨q, 0, none⟩), .string u] w (PostT w q f s (a + 1) b (nx s a b)) := by
  have c87 := next_any w q f s a b h ha
  have c88 := fun W => idx88_any W u (nx s a b : Nat)
  rw [Int.toNat_natCast] at c88
  have hI' : decide (Lib.indexByte u.data.toList (nx s a b).toUInt8 < 0) = false := by simp; omega
  generalize Lib.indexByte u.data.toList (nx s a b).toUInt8 = I at *
  generalize nx s a b = x at *
  obtain ⟨q0, q1, q2⟩ := h.cells
  have qf : ∀ i, w.frozen? ⟨q, i, none⟩ = false := fun i => h.row.frozen i
  have hp63 : (a : Int) + 1 < 9223372036854775807 := by omega
  have HC : Hid (Cur w q f s a b) := h
  have HC2 : Hid (Cur (w.setCell ⟨q, 1, none⟩ (.int .i64 ((a : Int) + 1))) q (up f 1 (.int .i64 ((a : Int) + 1))) s (a + 1) b) := by
    refine ⟨HC.out.row.set 1 _, ?_, rfl, ?_⟩
    · show (if (0 : Nat) = 1 then _ else _) = _; rw [if_neg (by omega)]; exact HC.out.c0
    · show (if (2 : Nat) = 1 then _ else _) = _; rw [if_neg (by omega)]; exact HC.out.c2
  clear h hI
  go_enter Tryz.func73, Tryz.ntmps73
  go_wp2_with (first | (go_at_call 101; refine c87.mono ?_; rintro e w' ⟨rfl, n, rfl⟩) | (go_at_call 102; refine (c88 _).mono ?_; rintro e w' ⟨rfl, rfl⟩))
  go_ret
  exact ⟨_, rfl, ⟨HC2.out.row, HC2.out.c0, HC2.out.c1, HC2.out.c2⟩, fun j hj => up_ne (by omega), grown_set (grown_drewN (grown_refl _ _) n) 1 _⟩
set_option maxRecDepth 100000 in
theorem idx_dot (x : Nat) (h : x < 256) : (x = 46 ∧ 0 ≤ Lib.indexByte (⟨#[46]⟩ : ByteArray).data.toList x.toUInt8) ∨ (x ≠ 46 ∧ Lib.indexByte (⟨#[46]⟩ : ByteArray).data.toList x.toUInt8 < 0) := by
  revert x
  decide +kernel
set_option maxRecDepth 100000 in
theorem idx_sign (x : Nat) (h : x < 256) : ((x = 43 ∨ x = 45) ∧ 0 ≤ Lib.indexByte (⟨#[43, 45]⟩ : ByteArray).data.toList x.toUInt8) ∨ (¬ (x = 43 ∨ x = 45) ∧ Lib.indexByte (⟨#[43, 45]⟩ : ByteArray).data.toList x.toUInt8 < 0) := by
  revert x
  decide +kernel
end Go.Proofs.YtehgeninocbpeaaGreatDoor.Nu

namespace Go.Proofs.YtehgeninocbpeaaGreatDoor.Nu
open Go Go.Proofs Go.RowKit
def dP (s : ByteArray) (a : Nat) : Nat := if nx s a false = 46 then a + 1 else a
theorem dP_le {s : ByteArray} {a : Nat} (h : a ≤ s.size) : dP s a ≤ s.size := by
  unfold dP
  split
  · rename_i h2
    have := (nx_pos (s := s) (a := a) (b := false) (by omega)).2
    omega
  · exact h
theorem take_dot (w : World) (q : Nat) (f : Nat → Value) (s : ByteArray) (a : Nat) (h : Cur w q f s a false) (ha : a ≤ s.size) (hs : s.size ≤ 140737488351232) :
    Calls Tryz.prog 73 #[.pointer (some ⟨q, 0, none⟩), .string ⟨#[46]⟩] w fun e w' => ∃ x f', e = .returned (.int .u8 x) ∧ Cur w' q f' s (dP s a) false ∧ w.grownBy w' (some q) := by
  unfold dP
  rcases idx_dot (nx s a false) (nx_lt _ _ _) with ⟨h1, h2⟩ | ⟨h1, h2⟩
  · rw [if_pos h1]
    refine (take_yes w q f s a false h ha hs _ h2).mono ?_
    rintro e w' ⟨f', rfl, hc, _, hg⟩
    exact ⟨_, f', rfl, hc, hg⟩
  · rw [if_neg h1]
    refine (take_no w q f s a false h ha _ h2).mono ?_
    rintro e w' ⟨f', rfl, hc, _, hg⟩
    exact ⟨_, f', rfl, hc, hg⟩
theorem grown_trans {w w1 w2 : World} {q : Nat} (h : w.grownBy w1 (some q)) (k : w1.grownBy w2 (some q)) : w.grownBy w2 (some q) :=
  ⟨k.os.trans h.os, k.tape.trans h.tape, k.output.trans h.output, Nat.le_trans h.size k.size, fun i hi hne => (k.block i (Nat.lt_of_lt_of_le hi h.size) hne).trans (h.block i hi hne)⟩
theorem Cur.lt {w : World} {q : Nat} {f : Nat → Value} {s : ByteArray} {a : Nat} {b : Bool} (h : Cur w q f s a b) : q < w.heap.size := h.row.lt
set_option maxRecDepth 100000 in
set_option maxHeartbeats 1000000 in
theorem decimal_any (w : World) (q : Nat) (f : Nat → Value) (s : ByteArray) (a c1 a2 c2 : Nat) (h : Cur w q f s a false) (ha : a ≤ s.size) (hs : s.size ≤ 16)
    (h1 : cnt s a s.size = c1) (h2 : dP s (a + c1) = a2) (h3 : cnt s a2 s.size = c2) :
    Calls Tryz.prog 74 #[.pointer (some ⟨q, 0, none⟩)] w fun e w' => ∃ f', e = .returned (.tuple #[.string (s.extract a (a + c1) ++ s.extract a2 (a2 + c2)), .int .i64 (-(c2 : Int))]) ∧ Cur w' q f' s (a2 + c2) (decide (c1 + c2 < 1)) ∧ w.grownBy w' (some q) := by
  have l1 : a + c1 ≤ s.size := h1 ▸ cnt_size s s.size a ha
  have l2 : a2 ≤ s.size := h2 ▸ dP_le l1
  have l3 : a2 + c2 ≤ s.size := h3 ▸ cnt_size s s.size a2 l2
  have hq := h.lt
  have d1 := digits_any w q f s a false h ha (by omega) 0 s.size (by omega) (by omega) c1 (by simp [h1])
  rw [show ((0 : Nat) : Int) = 0 from rfl] at d1
  obtain ⟨q0, q1, q2⟩ := h.cells
  obtain ⟨u1, hu1⟩ : ∃ u, s.extract a (a + c1) = u := ⟨_, rfl⟩
  have z1 : u1.size = c1 := by rw [← hu1, ByteArray.size_extract]; omega
  obtain ⟨u2, hu2⟩ : ∃ u, s.extract a2 (a2 + c2) = u := ⟨_, rfl⟩
  have z2 : u2.size = c2 := by rw [← hu2, ByteArray.size_extract]; omega
  rw [hu1] at d1 ⊢
  rw [hu2]
  by_cases hc0 : c1 = 0
  · have hz : u1.size = 0 := by omega
    clear h
    go_enter Tryz.func74, Tryz.ntmps74
    go_wp2_with (go_at_call 100; refine Stop.mk ?_)
    refine Stop.out (d1.mono ?_)
    rintro e W1 ⟨f1, rfl, hc1, _, hg1⟩
    have hc1' : Cur W1 q f1 s (a + c1) false := ⟨hc1.row, hc1.c0, hc1.c1, by rw [hc1.c2]; simp⟩
    have d2 := take_dot W1 q f1 s (a + c1) hc1' l1 (by omega)
    rw [h2] at d2
    have HG1 : Hid (w.grownBy W1 (some q)) := hg1
    clear hc1 hc1' hg1 d1 q0 q1 q2 hu1
    go_wp2_with (go_at_call 73; refine Stop.mk ?_)
    refine Stop.out (d2.mono ?_)
    rintro e W2 ⟨x, f2, rfl, hc2, hg2⟩
    have HG2 : Hid (w.grownBy W2 (some q)) := grown_trans HG1.out hg2
    have d3 := digits_any W2 q f2 s a2 false hc2 l2 (by omega) 1 s.size (by omega) (by omega) c2 (by simp [h3])
    rw [hu2, show ((1 : Nat) : Int) = 1 from rfl] at d3
    obtain ⟨q0, q1, q2⟩ := hc2.cells
    clear hc2 hg2 d2 HG1
    go_wp2_with (go_at_call 100; refine Stop.mk ?_)
    refine Stop.out (d3.mono ?_)
    rintro e W3 ⟨f3, rfl, hc3, _, hg3⟩
    have HC3 : Hid (Cur W3 q f3 s (a2 + c2) (decide (c1 + c2 < 1))) := ⟨hc3.row, hc3.c0, hc3.c1, by rw [hc3.c2, Bool.false_or, decide_eq_decide.2 (show c2 < 1 ↔ c1 + c2 < 1 by omega)]⟩
    have HG3 : Hid (w.grownBy W3 (some q)) := grown_trans HG2.out hg3
    clear hc3 hg3 HG2 d3 q0 q1 q2 hu2
    go_wp2
    refine bodyPost_ret (v := .tuple #[.string (u1 ++ u2), .int .i64 (-(c2 : Int))]) (by simp [results, Tryz.results74, go_sem]) rfl ⟨f3, rfl, HC3.out, HG3.out⟩
  · have hz : ¬ ((0 : Int) < 1 - (u1.size : Int)) := by omega
    have hz2 : ¬ ((0 : Int) < 1 - (c1 : Int)) := by omega
    have hz3 : (1 : Int) - (c1 : Int) ≤ 0 := by omega
    clear h
    go_enter Tryz.func74, Tryz.ntmps74
    go_wp2_with (go_at_call 100; refine Stop.mk ?_)
    refine Stop.out (d1.mono ?_)
    rintro e W1 ⟨f1, rfl, hc1, _, hg1⟩
    have hc1' : Cur W1 q f1 s (a + c1) false := ⟨hc1.row, hc1.c0, hc1.c1, by rw [hc1.c2]; simp⟩
    have d2 := take_dot W1 q f1 s (a + c1) hc1' l1 (by omega)
    rw [h2] at d2
    have HG1 : Hid (w.grownBy W1 (some q)) := hg1
    clear hc1 hc1' hg1 d1 q0 q1 q2 hu1
    go_wp2_with (go_at_call 73; refine Stop.mk ?_)
    refine Stop.out (d2.mono ?_)
    rintro e W2 ⟨x, f2, rfl, hc2, hg2⟩
    have HG2 : Hid (w.grownBy W2 (some q)) := grown_trans HG1.out hg2
    have d3 := digits_any W2 q f2 s a2 false hc2 l2 (by omega) 0 s.size (by omega) (by omega) c2 (by simp [h3])
    rw [hu2, show ((0 : Nat) : Int) = 0 from rfl] at d3
    obtain ⟨q0, q1, q2⟩ := hc2.cells
    clear hc2 hg2 d2 HG1
    go_wp2_with (go_at_call 100; refine Stop.mk ?_)
    refine Stop.out (d3.mono ?_)
    rintro e W3 ⟨f3, rfl, hc3, _, hg3⟩
    have HC3 : Hid (Cur W3 q f3 s (a2 + c2) (decide (c1 + c2 < 1))) := ⟨hc3.row, hc3.c0, hc3.c1, by rw [hc3.c2, Bool.false_or, decide_eq_decide.2 (show c2 < 0 ↔ c1 + c2 < 1 by omega)]⟩
    have HG3 : Hid (w.grownBy W3 (some q)) := grown_trans HG2.out hg3
    clear hc3 hg3 HG2 d3 q0 q1 q2 hu2
    go_wp2
    refine bodyPost_ret (v := .tuple #[.string (u1 ++ u2), .int .i64 (-(c2 : Int))]) (by simp [results, Tryz.results74, go_sem]) rfl ⟨f3, rfl, HC3.out, HG3.out⟩
end Go.Proofs.YtehgeninocbpeaaGreatDoor.Nu

namespace Go.Proofs.YtehgeninocbpeaaGreatDoor.Nu
open Go Go.Proofs Go.RowKit
def tk (s : ByteArray) (a x y : Nat) : Nat := if nx s a false = x ∨ nx s a false = y then nx s a false else 0
def tP (s : ByteArray) (a x y : Nat) : Nat := if nx s a false = x ∨ nx s a false = y then a + 1 else a
theorem tP_le {s : ByteArray} {a x y : Nat} (h : a ≤ s.size) (hx : x ≠ 0) (hy : y ≠ 0) : tP s a x y ≤ s.size := by
  unfold tP
  split
  · rename_i h2
    have := (nx_pos (s := s) (a := a) (b := false) (by rcases h2 with h2 | h2 <;> omega)).2
    omega
  · exact h
set_option maxRecDepth 100000 in
theorem idx_E (x : Nat) (h : x < 256) : ((x = 69 ∨ x = 101) ∧ 0 ≤ Lib.indexByte (⟨#[69, 101]⟩ : ByteArray).data.toList x.toUInt8) ∨ (¬ (x = 69 ∨ x = 101) ∧ Lib.indexByte (⟨#[69, 101]⟩ : ByteArray).data.toList x.toUInt8 < 0) := by
  revert x
  decide +kernel
theorem take_sign (w : World) (q : Nat) (f : Nat → Value) (s : ByteArray) (a : Nat) (h : Cur w q f s a false) (ha : a ≤ s.size) (hs : s.size ≤ 140737488351232) :
    Calls Tryz.prog 73 #[.pointer (some ⟨q, 0, none⟩), .string ⟨#[43, 45]⟩] w fun e w' => ∃ f', e = .returned (.int .u8 (tk s a 43 45 : Nat)) ∧ Cur w' q f' s (tP s a 43 45) false ∧ w.grownBy w' (some q) := by
  unfold tk tP
  rcases idx_sign (nx s a false) (nx_lt _ _ _) with ⟨h1, h2⟩ | ⟨h1, h2⟩
  · rw [if_pos h1, if_pos h1]
    refine (take_yes w q f s a false h ha hs _ h2).mono ?_
    rintro e w' ⟨f', rfl, hc, _, hg⟩
    exact ⟨f', rfl, hc, hg⟩
  · rw [if_neg h1, if_neg h1]
    refine (take_no w q f s a false h ha _ h2).mono ?_
    rintro e w' ⟨f', rfl, hc, _, hg⟩
    exact ⟨f', rfl, hc, hg⟩
theorem take_E (w : World) (q : Nat) (f : Nat → Value) (s : ByteArray) (a : Nat) (b : Bool) (h : Cur w q f s a b) (ha : a ≤ s.size) (hs : s.size ≤ 140737488351232) (hb : b = true → nx s a b = 0) :
    Calls Tryz.prog 73 #[.pointer (some ⟨q, 0, none⟩), .string ⟨#[69, 101]⟩] w fun e w' => ∃ f', e = .returned (.int .u8 ((if b = true then 0 else tk s a 69 101 : Nat) : Int)) ∧ Cur w' q f' s (if b = true then a else tP s a 69 101) b ∧ w.grownBy w' (some q) := by
  cases b with
  | true =>
    have hn := hb rfl
    rw [if_pos rfl, if_pos rfl]
    rcases idx_E (nx s a true) (nx_lt _ _ _) with ⟨h1, h2⟩ | ⟨h1, h2⟩
    · omega
    · refine (take_no w q f s a true h ha _ h2).mono ?_
      rintro e w' ⟨f', rfl, hc, _, hg⟩
      exact ⟨f', rfl, hc, hg⟩
  | false =>
    rw [if_neg (by decide), if_neg (by decide)]
    unfold tk tP
    rcases idx_E (nx s a false) (nx_lt _ _ _) with ⟨h1, h2⟩ | ⟨h1, h2⟩
    · rw [if_pos h1, if_pos h1]
      refine (take_yes w q f s a false h ha hs _ h2).mono ?_
      rintro e w' ⟨f', rfl, hc, _, hg⟩
      exact ⟨f', rfl, hc, hg⟩
    · rw [if_neg h1, if_neg h1]
      refine (take_no w q f s a false h ha _ h2).mono ?_
      rintro e w' ⟨f', rfl, hc, _, hg⟩
      exact ⟨f', rfl, hc, hg⟩
def PostW (w : World) (q : Nat) (s : ByteArray) (a : Nat) (b : Bool) (v : Value) (e : Ending) (w' : World) : Prop := ∃ f', e = .returned v ∧ Cur w' q f' s a b ∧ w.grownBy w' (some q)
def whV (s : ByteArray) (a : Nat) : Int :=
  let p := tP s a 43 45
  let n : Int := (val (s.extract p (p + cnt s p s.size)).data.toList : Nat)
  if tk s a 43 45 = 45 then -n else n
set_option maxRecDepth 100000 in
set_option maxHeartbeats 1000000 in
theorem whole_any (w : World) (q : Nat) (f : Nat → Value) (s : ByteArray) (a p c : Nat) (h : Cur w q f s a false) (ha : a ≤ s.size) (hs : s.size ≤ 16)
    (hp : tP s a 43 45 = p) (hc : cnt s p s.size = c) :
    Calls Tryz.prog 69 #[.pointer (some ⟨q, 0, none⟩)] w (PostW w q s (p + c) (decide (c < 1)) (.int .i64 (whV s a))) := by
  have l1 : p ≤ s.size := hp ▸ tP_le ha (by decide) (by decide)
  have l2 : p + c ≤ s.size := hc ▸ cnt_size s s.size p l1
  have d1 := take_sign w q f s a h ha (by omega)
  unfold whV
  dsimp only
  rw [hp] at d1 ⊢
  rw [hc]
  generalize tk s a 43 45 = y at *
  have hD : Digs (s.extract p (p + c)) := digs_ext s p c s.size (by omega)
  obtain ⟨u, hu⟩ : ∃ u, s.extract p (p + c) = u := ⟨_, rfl⟩
  have z1 : u.size = c := by rw [← hu, ByteArray.size_extract]; omega
  rw [hu] at hD ⊢
  have c23 := fun W => worth_any W u hD (by omega)
  have hN : val u.data.toList < 1000000000000000000 := by
    have h1 := valN_lt u.data.toList 0 hD
    have h2 : u.data.toList.length ≤ 16 := by rw [Array.length_toList]; show u.size ≤ 16; omega
    have h3 : 10 ^ u.data.toList.length ≤ 10 ^ 16 := Nat.pow_le_pow_right (by decide) h2
    unfold val
    omega
  generalize val u.data.toList = n at *
  obtain ⟨V, HV⟩ : ∃ V, Hid ((if y = 45 then -(n : Int) else (n : Int)) = V) := ⟨_, rfl⟩
  rw [HV.out]
  obtain ⟨bb, HBB⟩ : ∃ bb, Hid (decide (c < 1) = bb) := ⟨_, rfl⟩
  rw [HBB.out]
  clear h hD
  go_enter Tryz.func69, Tryz.ntmps69
  go_wp2_with (go_at_call 73; refine Stop.mk ?_)
  refine Stop.out (d1.mono ?_)
  rintro e W1 ⟨f1, rfl, hc1, hg1⟩
  have HG1 : Hid (w.grownBy W1 (some q)) := hg1
  have d2 := digits_any W1 q f1 s p false hc1 l1 (by omega) 1 s.size (by omega) (by omega) c (by simp [hc])
  rw [hu, show ((1 : Nat) : Int) = 1 from rfl] at d2
  obtain ⟨q0, q1, q2⟩ := hc1.cells
  clear hc1 hg1 d1
  go_wp2_with (go_at_call 100; refine Stop.mk ?_)
  refine Stop.out (d2.mono ?_)
  rintro e W2 ⟨f2, rfl, hc2, _, hg2⟩
  have HG2 : Hid (w.grownBy W2 (some q)) := grown_trans HG1.out hg2
  have HC2 : Hid (Cur W2 q f2 s (p + c) bb) := ⟨hc2.row, hc2.c0, hc2.c1, by rw [hc2.c2, Bool.false_or, HBB.out]⟩
  clear hc2 hg2 d2 q0 q1 q2 HG1 hu
  go_wp2_with (go_at_call 76; refine Stop.mk ?_)
  refine Stop.out ((c23 _).mono ?_)
  rintro e W3 ⟨rfl, hb3⟩
  have HC3 : Hid (Cur W3 q f2 s (p + c) bb) := HC2.out.on hb3
  have HG3 : Hid (w.grownBy W3 (some q)) := grown_below HG2.out hb3
  clear hb3 HC2 HG2 c23
  by_cases hy : y = 45
  · have hyI : ((y : Int) == 45) = true := by rw [hy]; rfl
    go_wp2
    go_ret
    exact ⟨f2, by rw [← HV.out, if_pos hy]; rfl, HC3.out, HG3.out⟩
  · have hyI : ((y : Int) == 45) = false := by simp; omega
    go_wp2
    go_ret
    exact ⟨f2, by rw [← HV.out, if_neg hy]; rfl, HC3.out, HG3.out⟩
end Go.Proofs.YtehgeninocbpeaaGreatDoor.Nu
