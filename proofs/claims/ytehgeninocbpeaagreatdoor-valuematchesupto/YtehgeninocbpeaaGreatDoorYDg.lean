import Derived.Test.YtehgeninocbpeaaGreatDoorYH
import Derived.Shelf.Strconv.Itoa3
import Derived.Lib.AppendIntMem
import Derived.Test.YtehgeninocbpeaaGreatDoorYDc
import Derived.Lib.Repeat
import Derived.Test.YtehgeninocbpeaaGreatDoorYW
namespace Go.Proofs.YtehgeninocbpeaaGreatDoor.Nu
open Go Go.Proofs Go.RowKit Go.Shelf Go.Sort Go.Lib
def fmtLays_ren : Go.Shelf.Ren := ⟨fun | 129 => 171  | 283 => 158 | 284 => 159 | 285 => 160 | 286 => 161 | 317 => 170 | 318 => 172 | 319 => 173 | 320 => 174 | 337 => 181 | 338 => 182 | n => n, fun | 0 => 0 | 2 => 2 | 3 => 3 | 4 => 4 | 5 => 5 | 9 => 9 | 20 => 20 | 37 => 87 | 46 => 176 | 51 => 184 | 53 => 71 | 171 => 191 | 173 => 194 | 212 => 203 | 213 => 204 | 232 => 220 | 233 => 221 | n => n, fun | 17 => 6 | 18 => 7 | 19 => 8 | n => n⟩
theorem fmtL283 : Go.Proofs.Lays.n283 Tryz.prog fmtLays_ren := {
  mixed := by kernel_rfl,
  f283 := Tryz.func158.trans (congrArg some (by kernel_rfl)),
  t3 := Tryz.underlying3,
  a3 := Tryz.isAgg3,
  z3 := Tryz.sizeOf3,
  v3 := Tryz.zeroValue3,
  t4 := Tryz.underlying4,
  a4 := Tryz.isAgg4,
  z4 := Tryz.sizeOf4,
  v4 := Tryz.zeroValue4,
  t9 := Tryz.underlying9,
  a9 := Tryz.isAgg9,
  z9 := Tryz.sizeOf9,
  v9 := Tryz.zeroValue9 }
theorem fmtL284 : Go.Proofs.LaysM.n284 Tryz.prog fmtLays_ren := {
  mixed := by kernel_rfl,
  f129 := Tryz.func171.trans (congrArg some (by kernel_rfl)),
  f284 := Tryz.func159.trans (congrArg some (by kernel_rfl)),
  f317 := Tryz.func170.trans (congrArg some (by kernel_rfl)),
  f318 := Tryz.func172.trans (congrArg some (by kernel_rfl)),
  t0 := Tryz.underlying0,
  a0 := Tryz.isAgg0,
  z0 := Tryz.sizeOf0,
  v0 := Tryz.zeroValue0,
  t3 := Tryz.underlying3,
  a3 := Tryz.isAgg3,
  z3 := Tryz.sizeOf3,
  v3 := Tryz.zeroValue3,
  t4 := Tryz.underlying4,
  a4 := Tryz.isAgg4,
  z4 := Tryz.sizeOf4,
  v4 := Tryz.zeroValue4,
  t5 := Tryz.underlying5,
  a5 := Tryz.isAgg5,
  z5 := Tryz.sizeOf5,
  v5 := Tryz.zeroValue5,
  t9 := Tryz.underlying9,
  a9 := Tryz.isAgg9,
  z9 := Tryz.sizeOf9,
  v9 := Tryz.zeroValue9,
  t46 := Tryz.underlying176,
  a46 := Tryz.isAgg176,
  z46 := Tryz.sizeOf176,
  v46 := Tryz.zeroValue176,
  t53 := Tryz.underlying71,
  a53 := Tryz.isAgg71,
  z53 := Tryz.sizeOf71,
  v53 := Tryz.zeroValue71,
  t212 := Tryz.underlying203,
  a212 := Tryz.isAgg203,
  z212 := Tryz.sizeOf203,
  v212 := Tryz.zeroValue203,
  g17 := by kernel_rfl,
  i0 := by kernel_rfl,
  i3 := by kernel_rfl,
  i4 := by kernel_rfl,
  i5 := by kernel_rfl,
  i9 := by kernel_rfl,
  i46 := by kernel_rfl,
  i53 := by kernel_rfl,
  i212 := by kernel_rfl,
  m17 := by kernel_rfl }
theorem fmtL285 : Go.Proofs.Lays.n285 Tryz.prog fmtLays_ren := {
  mixed := by kernel_rfl,
  f285 := Tryz.func160.trans (congrArg some (by kernel_rfl)),
  t0 := Tryz.underlying0,
  a0 := Tryz.isAgg0,
  z0 := Tryz.sizeOf0,
  v0 := Tryz.zeroValue0,
  t3 := Tryz.underlying3,
  a3 := Tryz.isAgg3,
  z3 := Tryz.sizeOf3,
  v3 := Tryz.zeroValue3,
  t4 := Tryz.underlying4,
  a4 := Tryz.isAgg4,
  z4 := Tryz.sizeOf4,
  v4 := Tryz.zeroValue4,
  t5 := Tryz.underlying5,
  a5 := Tryz.isAgg5,
  z5 := Tryz.sizeOf5,
  v5 := Tryz.zeroValue5,
  t9 := Tryz.underlying9,
  a9 := Tryz.isAgg9,
  z9 := Tryz.sizeOf9,
  v9 := Tryz.zeroValue9,
  t37 := Tryz.underlying87,
  a37 := Tryz.isAgg87,
  z37 := Tryz.sizeOf87,
  v37 := Tryz.zeroValue87,
  t51 := Tryz.underlying184,
  a51 := Tryz.isAgg184,
  z51 := Tryz.sizeOf184,
  v51 := Tryz.zeroValue184,
  t53 := Tryz.underlying71,
  a53 := Tryz.isAgg71,
  z53 := Tryz.sizeOf71,
  v53 := Tryz.zeroValue71 }
theorem below_grow {w : World} (k : Nat) (os : Array Obj) : Below w.heap.size w (grow (w.drewN k) os) :=
  ⟨rfl, rfl, rfl, by show _ ≤ (_ ++ _ : Array Obj).size; simp, fun j hj => by show (w.heap ++ os : Array Obj)[j]? = _; rw [Array.getElem?_append_left hj]⟩
def Pow (w : World) : Prop := Lib.TabIs Tryz.prog w "internal/strconv.uint64pow10" .u64 Lib.pow10Tab
set_option maxHeartbeats 6400000 in
set_option maxRecDepth 100000 in
theorem fmtUint49_any (w : World) (u : Nat) (hu64 : u < 18446744073709551616) (htab : Pow w) :
    Calls Tryz.prog 138 #[.int .u64 (u : Int), .int .i64 10] w fun e w' => e = .returned (.string ⟨(Lib.decDigits u).toArray⟩) ∧ Below w.heap.size w w' := by
  by_cases hs : u < 100
  · have hsI : (u : Int) < 100 := by omega
    have c := fun W => Any.internal_strconv_small (P := Tryz.prog) (ρ := fmtLays_ren) fmtL283 u hs W
    go_enter Tryz.func138, Tryz.ntmps138
    go_wp2_with (go_at_call 158; refine (c _).mono ?_; rintro e w' ⟨rfl, rfl⟩)
    go_ret
    exact ⟨rfl, Below.refl _ _⟩
  · have hsI : ¬ ((u : Int) < 100) := by omega
    have hu1 : 1 ≤ u := by omega
    have hnd20 : Lib.nDigits u ≤ 20 := by have := Lib.numDigits_eq u hu1 hu64; split at this <;> omega
    have hal : Tryz.prog.arrayLen 191 = 24 := by simp [Program.arrayLen, Tryz.underlying191]
    have hsl : ∀ W, (Instr.sliceAt 191 (.pointer (some ⟨w.heap.size, 0, none⟩)) none (some (.int .i64 (Lib.nDigits u : Int))) none).run Tryz.prog W = .ok (.slice (some ⟨w.heap.size, 0, none⟩) (Lib.nDigits u) 24) W := fun W => by
      rw [run_sliceAt_array_h W 191 ⟨w.heap.size, 0, none⟩ (by simp [Program.arrayLen, Program.elem, Tryz.underlying191]) .i64 (Lib.nDigits u : Int) (by omega) (by rw [hal]; omega)]
      go_simp
    have hH0 := Lib.holds_zero0 w 191 (Lib.nDigits u) (by omega)
    have hfmt := Any.internal_strconv_formatBase10 (P := Tryz.prog) (ρ := fmtLays_ren) fmtL285 w.heap.size 0 24 u (Array.replicate (Lib.nDigits u) 0) (w.alloc (.cells Lib.zeros24 191)) hH0 (by rw [Array.size_replicate]; exact Lib.lt_pow_nDigits u) hu64 (by rw [Array.size_replicate]; omega)
    rw [Array.size_replicate] at hfmt
    have cn := fun W h => Any.internal_strconv_numDigits (P := Tryz.prog) (ρ := fmtLays_ren) fmtL284 u hu1 hu64 W h
    have HH0 := Lib.hid hH0
    clear hH0 hal
    go_enter Tryz.func138, Tryz.ntmps138
    go_wp2_with (first
      | (go_at_call 159; refine (cn _ (Lib.tabIs_alloc htab _)).mono ?_; rintro e w' ⟨rfl, rfl⟩)
      | (go_at_call 160; refine Stop.mk ?_))
    refine Stop.out (hfmt.mono ?_)
    rintro e w' ⟨rfl, k, v', dk, rfl, hF⟩
    have hcv : (convert 87 9 (.slice (some ⟨w.heap.size, 0, none⟩) (Lib.nDigits u) 24)).run Tryz.prog ((putRow (fun (b : UInt8) => Value.int .u8 (b.toNat : Int)) (w.alloc (.cells Lib.zeros24 191)) w.heap.size 0 dk).drewN k) = .ok (.string ⟨(Lib.decDigits u).toArray⟩) ((putRow (fun (b : UInt8) => Value.int .u8 (b.toNat : Int)) (w.alloc (.cells Lib.zeros24 191)) w.heap.size 0 dk).drewN k) := by
      have h := run_convert_bytes_back (P := Tryz.prog) ((putRow (fun (b : UInt8) => Value.int .u8 (b.toNat : Int)) (w.alloc (.cells Lib.zeros24 191)) w.heap.size 0 dk).drewN k) 87 9 5 ⟨w.heap.size, 0, none⟩ 24 (Lib.decDigits u) Tryz.underlying87 Tryz.underlying5 Tryz.underlying9 (fun j hj => by
        rw [Lib.row_is_numeral hF j hj, Lib.add_plain, World.cell?_drewN]
        exact cell?_putRow (fun (b : UInt8) => Value.int .u8 (b.toNat : Int)) _ w.heap.size 0 _ dk HH0.out (by rw [hF.size, Array.size_replicate]) j (by rw [hF.size]; rw [Lib.decDigits_length] at hj; exact hj))
      rw [Lib.decDigits_length] at h
      exact h
    obtain ⟨os, eo⟩ := Lib.fin_at w (.cells Lib.zeros24 191) dk k 0
    have HO : Hid (_ = grow (w.drewN k) os) := eo
    clear eo HH0 hfmt
    go_wp2
    go_ret
    refine ⟨rfl, ?_⟩
    rw [HO.out]
    exact below_grow k os
theorem fmtUint_any (w : World) (u : Nat) (hu64 : u < 18446744073709551616) (htab : Pow w) :
    Calls Tryz.prog 116 #[.int .u64 (u : Int), .int .i64 10] w fun e w' => e = .returned (.string ⟨(Lib.decDigits u).toArray⟩) ∧ Below w.heap.size w w' := by
  have c := fmtUint49_any w u hu64 htab
  go_enter Tryz.func116, Tryz.ntmps116
  go_wp2_with (go_at_call 138; refine Stop.mk ?_)
  refine Stop.out (c.mono ?_)
  rintro e w' ⟨rfl, hb⟩
  go_wp2
  go_ret
  exact ⟨rfl, hb⟩
end Go.Proofs.YtehgeninocbpeaaGreatDoor.Nu

namespace Go.Proofs.YtehgeninocbpeaaGreatDoor.Nu
open Go Go.Proofs Go.RowKit NumLine
theorem dec_pos (u : Nat) : 1 ≤ (Lib.decDigits u).length := by
  rw [Lib.decDigits]
  split
  · simp
  · simp
theorem dec_len (u : Nat) (h : u < 18446744073709551616) : 1 ≤ (Lib.decDigits u).length ∧ (Lib.decDigits u).length ≤ 20 := by
  refine ⟨dec_pos u, ?_⟩
  by_cases h1 : 1 ≤ u
  · rw [Lib.decDigits_length]
    have h2 := Lib.numDigits_eq u h1 h
    split at h2 <;> omega
  · obtain rfl : u = 0 := by omega
    rw [Lib.decDigits_one (by omega)]
    simp
def dig (b : UInt8) : Bool := decide (48 ≤ b.toNat) && decide (b.toNat ≤ 57)
theorem valN_app : ∀ (l m : List UInt8) (n : Nat), valN (l ++ m) n = valN m (valN l n)
  | [], _, _ => rfl
  | b :: l, m, n => by rw [List.cons_append, valN, valN, valN_app l m]
theorem val_dec : ∀ (u : Nat), val (Lib.decDigits u) = u ∧ ∀ b ∈ Lib.decDigits u, dig b = true := by
  intro u
  induction u using Nat.strongRecOn with
  | ind u ih =>
    have one : ∀ k, k < 10 → (UInt8.ofNat (48 + k)).toNat = 48 + k := fun k hk => by
      rw [UInt8.toNat_ofNat']
      omega
    have dgt : ∀ k, k < 10 → dig (UInt8.ofNat (48 + k)) = true := fun k hk => by
      unfold dig
      rw [one k hk, decide_eq_true (by omega), decide_eq_true (by omega)]
      rfl
    rw [Lib.decDigits]
    split
    · rename_i h
      refine ⟨?_, ?_⟩
      · show 10 * 0 + ((UInt8.ofNat (48 + u)).toNat - 48) = u
        rw [one u h]
        omega
      · intro b hb
        rw [List.mem_singleton] at hb
        subst hb
        exact dgt u h
    · rename_i h
      obtain ⟨h1, h2⟩ := ih (u / 10) (by omega)
      refine ⟨?_, ?_⟩
      · unfold val at *
        rw [valN_app, h1]
        show 10 * (u / 10) + ((UInt8.ofNat (48 + u % 10)).toNat - 48) = u
        rw [one _ (by omega)]
        omega
      · intro b hb
        rw [List.mem_append, List.mem_singleton] at hb
        rcases hb with hb | rfl
        · exact h2 b hb
        · exact dgt _ (by omega)
theorem valN_zeros : ∀ (k n : Nat), valN (Lib.repeatL [48] k) n = n * 10 ^ k
  | 0, n => by simp [Lib.repeatL, valN]
  | k + 1, n => by
    show valN (Lib.repeatL [48] k) (10 * n + ((48 : UInt8).toNat - 48)) = _
    rw [valN_zeros k, show (48 : UInt8).toNat - 48 = 0 from rfl, Nat.pow_succ]
    rw [Nat.add_zero, Nat.mul_comm 10 n, Nat.mul_assoc, Nat.mul_comm 10]
theorem zeros_dig : ∀ (k : Nat), ∀ b ∈ Lib.repeatL [48] k, dig b = true
  | 0, b, h => by simp [Lib.repeatL] at h
  | k + 1, b, h => by
    have h' : b ∈ (48 : UInt8) :: Lib.repeatL [48] k := h
    rw [List.mem_cons] at h'
    rcases h' with rfl | h'
    · decide
    · exact zeros_dig k b h'
theorem ex_one {neg : Bool} {d : Nat} {x : Int} {r a : Nm} (h : Ex neg d x r) (hnz : a.d % 10 ≠ 0) (k : Nat) (h1 : neg = a.neg) (h2 : d = a.d * 10 ^ k) (h3 : x = a.e - (k : Int)) : r = a := by
  have hd : d ≠ 0 := by
    rw [h2]
    have : 0 < a.d * 10 ^ k := Nat.mul_pos (by omega) (Nat.pow_pos (by decide))
    omega
  rcases h with ⟨h0, _⟩ | ⟨_, j, e1, e2, e3, e4⟩
  · exact absurd h0 hd
  · have hjk : j = k := by
      rw [h2] at e2
      rcases Nat.lt_trichotomy j k with hl | hl | hl
      · exfalso
        obtain ⟨m, rfl⟩ : ∃ m, k = j + 1 + m := ⟨k - j - 1, by omega⟩
        have e5 : r.d * 10 ^ j = (a.d * 10 ^ m * 10) * 10 ^ j := by rw [e2, Nat.pow_add, Nat.pow_add, Nat.pow_one]; ac_rfl
        have e6 := Nat.mul_right_cancel (Nat.pow_pos (by decide)) e5
        omega
      · exact hl
      · exfalso
        obtain ⟨m, rfl⟩ : ∃ m, j = k + 1 + m := ⟨j - k - 1, by omega⟩
        have e5 : (r.d * 10 ^ m * 10) * 10 ^ k = a.d * 10 ^ k := by rw [← e2, Nat.pow_add, Nat.pow_add, Nat.pow_one]; ac_rfl
        have e6 := Nat.mul_right_cancel (Nat.pow_pos (by decide)) e5
        omega
    subst hjk
    rw [h2] at e2
    have e6 := Nat.mul_right_cancel (Nat.pow_pos (by decide)) e2
    obtain ⟨rn, rd, re⟩ := r
    obtain ⟨an, ad, ae⟩ := a
    dsimp only at *
    subst e6
    simp only [Nm.mk.injEq, true_and]
    exact ⟨by rw [e1, h1], by omega⟩
theorem dig_lt {b : UInt8} (h : dig b = true) : 48 ≤ b.toNat ∧ b.toNat ≤ 57 := by
  unfold dig at h
  simpa using h
end Go.Proofs.YtehgeninocbpeaaGreatDoor.Nu

namespace Go.Proofs.YtehgeninocbpeaaGreatDoor.Nu
open Go Go.Proofs Go.RowKit NumLine
theorem and255 (x : Int) : bits .and .i64 x 255 = x % 256 := by
  unfold bits
  dsimp only
  have h1 : (BitVec.ofInt 64 x &&& BitVec.ofInt 64 255).toNat = (x % 256).toNat := by
    rw [BitVec.toNat_and, BitVec.toNat_ofInt, BitVec.toNat_ofInt]
    rw [show ((255 : Int) % ((2 ^ 64 : Nat) : Int)).toNat = 2 ^ 8 - 1 by decide, Nat.and_two_pow_sub_one_eq_mod]
    omega
  show IntKind.i64.wrap _ = _
  have h2 : ((BitVec.ofInt IntKind.i64.bits x &&& BitVec.ofInt IntKind.i64.bits 255).toNat : Int) = x % 256 := by
    show ((BitVec.ofInt 64 x &&& BitVec.ofInt 64 255).toNat : Int) = _
    rw [h1]
    omega
  rw [h2]
  obtain ⟨k, hk⟩ : ∃ k : Nat, x % 256 = (k : Int) := ⟨(x % 256).toNat, by omega⟩
  rw [hk]
  have hk2 : k < 256 := by omega
  first | go_num | (simp [go_sem]; omega) | (unfold IntKind.wrap; simp [IntKind.bits]; omega)
theorem valN_ge : ∀ (l : List UInt8) (n : Nat), n * 10 ^ l.length ≤ valN l n
  | [], n => by simp [valN]
  | b :: l, n => by
    rw [valN]
    have := valN_ge l (10 * n + (b.toNat - 48))
    refine Nat.le_trans ?_ this
    rw [List.length_cons, Nat.pow_succ, Nat.mul_comm (10 ^ l.length) 10, ← Nat.mul_assoc]
    exact Nat.mul_le_mul_right _ (by omega)
def dg0 (l : List UInt8) : Nat := match l with | [] => 48 | x :: _ => x.toNat
def lx : Nat → List UInt8 → List UInt8 → Int
  | 0, _, _ => 0
  | L + 1, X, Y => if cmpI (dg0 X : Int) (dg0 Y : Int) = 0 then lx L X.tail Y.tail else cmpI (dg0 X : Int) (dg0 Y : Int)
theorem rep_succ (k : Nat) : Lib.repeatL [48] (k + 1) = 48 :: Lib.repeatL [48] k := rfl
theorem rep_len (k : Nat) : (Lib.repeatL [48] k).length = k := by
  induction k with
  | zero => rfl
  | succ k ih => rw [rep_succ, List.length_cons, ih]
theorem pad_step (X : List UInt8) (L : Nat) (h : X.length ≤ L + 1) (n : Nat) : valN (X ++ Lib.repeatL [48] (L + 1 - X.length)) n = valN (X.tail ++ Lib.repeatL [48] (L - X.tail.length)) (10 * n + (dg0 X - 48)) := by
  cases X with
  | nil => show valN (Lib.repeatL [48] (L + 1)) n = _; rw [rep_succ]; rfl
  | cons x X =>
    have e : L + 1 - (x :: X).length = L - X.length := by rw [List.length_cons]; omega
    rw [e]
    rfl
theorem dg0_is {X : List UInt8} (h : ∀ b ∈ X, dig b = true) : 48 ≤ dg0 X ∧ dg0 X ≤ 57 := by
  cases X with
  | nil => exact ⟨by decide, by decide⟩
  | cons x X => exact dig_lt (h x (by simp))
theorem lx_val : ∀ (L n : Nat) (X Y : List UInt8), (∀ b ∈ X, dig b = true) → (∀ b ∈ Y, dig b = true) → X.length ≤ L → Y.length ≤ L →
    lx L X Y = cmpI (valN (X ++ Lib.repeatL [48] (L - X.length)) n : Nat) (valN (Y ++ Lib.repeatL [48] (L - Y.length)) n : Nat) := by
  intro L
  induction L with
  | zero =>
    intro n X Y _ _ h1 h2
    obtain rfl : X = [] := List.length_eq_zero_iff.1 (by omega)
    obtain rfl : Y = [] := List.length_eq_zero_iff.1 (by omega)
    simp [lx, cmpI]
  | succ L ih =>
    intro n X Y dX dY h1 h2
    rw [pad_step X L h1, pad_step Y L h2]
    have q1 := dg0_is dX
    have q2 := dg0_is dY
    have t1 : ∀ b ∈ X.tail, dig b = true := fun b hb => dX b (List.mem_of_mem_tail hb)
    have t2 : ∀ b ∈ Y.tail, dig b = true := fun b hb => dY b (List.mem_of_mem_tail hb)
    have l1 : X.tail.length ≤ L := by rw [List.length_tail]; omega
    have l2 : Y.tail.length ≤ L := by rw [List.length_tail]; omega
    rw [lx]
    have dz : ∀ (Z : List UInt8), (∀ b ∈ Z, dig b = true) → ∀ b ∈ Z ++ Lib.repeatL [48] (L - Z.length), 48 ≤ b.toNat ∧ b.toNat ≤ 57 := fun Z hZ b hb => by
      rw [List.mem_append] at hb
      rcases hb with hb | hb
      · exact dig_lt (hZ b hb)
      · exact dig_lt (zeros_dig _ b hb)
    have zl : ∀ (Z : List UInt8), Z.length ≤ L → (Z ++ Lib.repeatL [48] (L - Z.length)).length = L := fun Z hZ => by rw [List.length_append, rep_len]; omega
    rcases cmpI_cases (dg0 X : Int) (dg0 Y : Int) with ⟨h, e⟩ | ⟨h, e⟩ | ⟨h, e⟩
    · rw [e, if_neg (by decide)]
      have u := valN_lt _ (10 * n + (dg0 X - 48)) (dz _ t1)
      have v := valN_ge (Y.tail ++ Lib.repeatL [48] (L - Y.tail.length)) (10 * n + (dg0 Y - 48))
      rw [zl _ l1] at u
      rw [zl _ l2] at v
      have w : (10 * n + (dg0 X - 48) + 1) * 10 ^ L ≤ (10 * n + (dg0 Y - 48)) * 10 ^ L := Nat.mul_le_mul_right _ (by omega)
      generalize valN (X.tail ++ Lib.repeatL [48] (L - X.tail.length)) (10 * n + (dg0 X - 48)) = A at *
      generalize valN (Y.tail ++ Lib.repeatL [48] (L - Y.tail.length)) (10 * n + (dg0 Y - 48)) = B at *
      have hAB : (A : Int) < (B : Int) := by omega
      unfold cmpI
      rw [if_pos hAB]
    · rw [e, if_pos rfl, show dg0 X = dg0 Y by omega]
      exact ih _ _ _ t1 t2 l1 l2
    · rw [e, if_neg (by decide)]
      have u := valN_lt _ (10 * n + (dg0 Y - 48)) (dz _ t2)
      have v := valN_ge (X.tail ++ Lib.repeatL [48] (L - X.tail.length)) (10 * n + (dg0 X - 48))
      rw [zl _ l2] at u
      rw [zl _ l1] at v
      have w : (10 * n + (dg0 Y - 48) + 1) * 10 ^ L ≤ (10 * n + (dg0 X - 48)) * 10 ^ L := Nat.mul_le_mul_right _ (by omega)
      generalize valN (X.tail ++ Lib.repeatL [48] (L - X.tail.length)) (10 * n + (dg0 X - 48)) = A at *
      generalize valN (Y.tail ++ Lib.repeatL [48] (L - Y.tail.length)) (10 * n + (dg0 Y - 48)) = B at *
      have hAB : (B : Int) < (A : Int) := by omega
      unfold cmpI
      rw [if_neg (by omega), if_pos hAB]
theorem dec_low : ∀ (u : Nat), u ≠ 0 → 10 ^ ((Lib.decDigits u).length - 1) ≤ u := by
  intro u
  induction u using Nat.strongRecOn with
  | ind u ih =>
    intro h0
    rw [Lib.decDigits]
    split
    · show 10 ^ 0 ≤ u; omega
    · rename_i h
      have := ih (u / 10) (by omega) (by omega)
      rw [List.length_append, List.length_singleton, Nat.add_sub_cancel]
      have hp := dec_pos (u / 10)
      obtain ⟨k, hk⟩ : ∃ k, (Lib.decDigits (u / 10)).length = k + 1 := ⟨(Lib.decDigits (u / 10)).length - 1, by omega⟩
      rw [hk] at this ⊢
      rw [Nat.add_sub_cancel] at this
      rw [Nat.pow_succ]
      omega
theorem dec_high (u : Nat) : u < 10 ^ (Lib.decDigits u).length := by
  have h := valN_lt (Lib.decDigits u) 0 (fun b hb => dig_lt ((val_dec u).2 b hb))
  have e : valN (Lib.decDigits u) 0 = u := (val_dec u).1
  rw [e] at h
  omega
def szD (a b : Nm) : Int :=
  if cmpI (a.e + (Lib.decDigits a.d).length) (b.e + (Lib.decDigits b.d).length) = 0 then lx (max (Lib.decDigits a.d).length (Lib.decDigits b.d).length) (Lib.decDigits a.d) (Lib.decDigits b.d) else cmpI (a.e + (Lib.decDigits a.d).length) (b.e + (Lib.decDigits b.d).length)
theorem mag_lt {a b : Nm} (hb0 : b.d ≠ 0) {m : Int} (hma : m ≤ a.e) (hmb : m ≤ b.e) (h : a.e + (Lib.decDigits a.d).length < b.e + (Lib.decDigits b.d).length) : mag m a < mag m b := by
  unfold mag
  have h1 := dec_high a.d
  have h2 := dec_low b.d hb0
  have h3 := dec_pos b.d
  generalize (Lib.decDigits a.d).length = n at *
  generalize (Lib.decDigits b.d).length = k at *
  obtain ⟨x, hx⟩ : ∃ x : Nat, a.e - m = (x : Int) := ⟨(a.e - m).toNat, by omega⟩
  obtain ⟨y, hy⟩ : ∃ y : Nat, b.e - m = (y : Int) := ⟨(b.e - m).toNat, by omega⟩
  rw [show (a.e - m).toNat = x by omega, show (b.e - m).toNat = y by omega]
  have h4 : n + x ≤ (k - 1) + y := by omega
  have p1 : a.d * 10 ^ x < 10 ^ n * 10 ^ x := Nat.mul_lt_mul_of_pos_right h1 (Nat.pow_pos (by decide))
  have p2 : 10 ^ (k - 1) * 10 ^ y ≤ b.d * 10 ^ y := Nat.mul_le_mul_right _ h2
  have p3 : 10 ^ (n + x) ≤ 10 ^ ((k - 1) + y) := Nat.pow_le_pow_right (by decide) h4
  rw [Nat.pow_add, Nat.pow_add] at p3
  omega
theorem szD_csz {a b : Nm} (ha0 : a.d ≠ 0) (hb0 : b.d ≠ 0) (ha20 : a.d < 10 ^ 20) (hb20 : b.d < 10 ^ 20) : szD a b = csz a b := by
  unfold szD
  rcases cmpI_cases (a.e + (Lib.decDigits a.d).length) (b.e + (Lib.decDigits b.d).length) with ⟨h, e⟩ | ⟨h, e⟩ | ⟨h, e⟩
  · rw [e, if_neg (by decide)]
    obtain ⟨m, h1, h2⟩ : ∃ m : Int, m ≤ a.e ∧ m ≤ b.e := ⟨min a.e b.e, by omega, by omega⟩
    rw [csz_mag h1 h2 ha0 hb0 ha20 hb20]
    have := mag_lt hb0 h1 h2 h
    unfold cmpI
    rw [if_pos (by omega)]
  · rw [e, if_pos rfl]
    obtain ⟨L, hL⟩ : ∃ L : Nat, max (Lib.decDigits a.d).length (Lib.decDigits b.d).length = L := ⟨_, rfl⟩
    rw [hL]
    have l1 : (Lib.decDigits a.d).length ≤ L := by omega
    have l2 : (Lib.decDigits b.d).length ≤ L := by omega
    have h1 : a.e + (Lib.decDigits a.d).length - L ≤ a.e := by omega
    have h2 : a.e + (Lib.decDigits a.d).length - L ≤ b.e := by omega
    rw [csz_mag h1 h2 ha0 hb0 ha20 hb20, lx_val L 0 _ _ (val_dec a.d).2 (val_dec b.d).2 l1 l2, valN_app, valN_app, valN_zeros, valN_zeros]
    have e1 : valN (Lib.decDigits a.d) 0 = a.d := (val_dec a.d).1
    have e2 : valN (Lib.decDigits b.d) 0 = b.d := (val_dec b.d).1
    rw [e1, e2]
    unfold mag
    rw [show (a.e - (a.e + (Lib.decDigits a.d).length - L)).toNat = L - (Lib.decDigits a.d).length by omega, show (b.e - (a.e + (Lib.decDigits a.d).length - L)).toNat = L - (Lib.decDigits b.d).length by omega]
  · rw [e, if_neg (by decide)]
    obtain ⟨m, h1, h2⟩ : ∃ m : Int, m ≤ a.e ∧ m ≤ b.e := ⟨min a.e b.e, by omega, by omega⟩
    rw [csz_mag h1 h2 ha0 hb0 ha20 hb20]
    have := mag_lt ha0 h2 h1 h
    unfold cmpI
    rw [if_neg (by omega), if_pos (by omega)]
end Go.Proofs.YtehgeninocbpeaaGreatDoor.Nu
