import Derived.Test.YtoikdpjjcnmgeaaGreatDoorBa
import Derived.Test.YtoikdpjjcnmgeaaGreatDoorNx
import Derived.Test.YtoikdpjjcnmgeaaGreatDoorBp
import Derived.Test.YtoikdpjjcnmgeaaGreatDoorRF
import Derived.Test.YtoikdpjjcnmgeaaGreatDoorTH
import Derived.Deep.RegionHeld3
import Derived.Deep.RegionLawGrows
import Derived.Test.YtoikdpjjcnmgeaaGreatDoorLa
section
/-
  DERIVED. Parts of a list of nodes, by places; what is laid down of them.
-/
namespace Go.Proofs.YtoikdpjjcnmgeaaGreatDoor
open Go Go.Proofs Go.RowKit
open Wk (Nd NV NAt goN nxt)

/-- From one place to another. -/
def sub (L : List Nd) (i e : Nat) : List Nd := (L.take e).drop i
theorem sub_len {L : List Nd} {i e : Nat} (h : e ≤ L.length) : (sub L i e).length = e - i := by
  rw [sub, List.length_drop, List.length_take, Nat.min_eq_left h]
theorem sub_nil {L : List Nd} {i e : Nat} (h : e ≤ i) : sub L i e = [] := List.drop_eq_nil_of_le (by rw [List.length_take]; omega)
theorem sub_all (L : List Nd) : sub L 0 L.length = L := by rw [sub, List.take_length]; rfl
theorem sub_cons {L : List Nd} {i e : Nat} (hi : i < e) (he : e ≤ L.length) : sub L i e = (L[i]'(by omega)) :: sub L (i + 1) e := by
  have h : i < (L.take e).length := by rw [List.length_take]; omega
  rw [sub, List.drop_eq_getElem_cons h, List.getElem_take]
  rfl
theorem sub_mem {L : List Nd} {i e : Nat} {a : Nd} (h : a ∈ sub L i e) : a ∈ L := List.mem_of_mem_take (List.mem_of_mem_drop h)
/-- The nodes from one place to another are whole ones of a level. -/
def Lev (L : List Nd) (i e : Nat) : Prop := ∃ w, e = i + goN (L.drop i) w
theorem goN_full : ∀ (L : List Nd) (w : Nat), L.length ≤ w → goN L w = L.length
  | [], _, _ => by simp [goN]
  | a :: L, 0, h => by simp at h
  | a :: L, w + 1, h => by
    simp only [List.length_cons] at h
    show 1 + goN L (w + a.n.toNat) = _
    rw [goN_full L _ (by omega), List.length_cons]
    omega
theorem Lev.top (L : List Nd) : Lev L 0 L.length := ⟨L.length, by rw [List.drop_zero, goN_full L _ (Nat.le_refl _)]; omega⟩
theorem Lev.next {L : List Nd} {i e : Nat} (h : Lev L i e) (hi : i < e) (he : e ≤ L.length) : nxt L i ≤ e ∧ i < nxt L i ∧ Lev L (i + 1) (nxt L i) ∧ Lev L (nxt L i) e ∧ nxt L i = i + 1 + goN (L.drop (i + 1)) (L[i]'(by omega)).n.toNat := by
  obtain ⟨w, hw⟩ := h
  have hl : i < L.length := by omega
  have hs := Wk.goN_step (w := 0) hl
  rw [Nat.zero_add, Nat.zero_add] at hs
  cases w with
  | zero => rw [Wk.goN_zero] at hw; omega
  | succ w =>
    rw [Nat.add_comm w 1, goN_add] at hw
    refine ⟨?_, Wk.nxt_gt hl, ⟨(L[i]'hl).n.toNat, ?_⟩, ⟨w, ?_⟩, ?_⟩
    · unfold nxt; omega
    · unfold nxt; rw [hs, Nat.add_assoc]
    · unfold nxt
      rw [List.drop_drop] at hw
      rw [hw]
      omega
    · unfold nxt; rw [hs]; omega
theorem sub_cut {L : List Nd} {i e : Nat} (h : Lev L i e) (hi : i < e) (he : e ≤ L.length) :
    (sub L (i + 1) e).take (goN (sub L (i + 1) e) (L[i]'(by omega)).n.toNat) = sub L (i + 1) (nxt L i) ∧ (sub L (i + 1) e).drop (goN (sub L (i + 1) e) (L[i]'(by omega)).n.toNat) = sub L (nxt L i) e := by
  obtain ⟨h1, h2, -, -, h5⟩ := h.next hi he
  have hr : sub L (i + 1) e = (L.drop (i + 1)).take (e - (i + 1)) := by rw [sub, List.drop_take]
  have hg : goN (sub L (i + 1) e) (L[i]'(by omega)).n.toNat = nxt L i - (i + 1) := by
    rw [hr, goN_take _ _ _ (by omega)]
    omega
  rw [hg]
  constructor
  · rw [hr, List.take_take, Nat.min_eq_left (by omega), sub, List.drop_take]
  · rw [sub, List.drop_drop, sub]
    congr 1
    omega

/-- What the document counts and lays down. -/
def Enc.sD (X : Enc) (b : Bool) (M : List Nd) : Nat := X.szD M.length b M
def Enc.lD (X : Enc) (b : Bool) (M : List Nd) : List UInt8 := X.layD M.length b M
/-- What the program lays down. -/
def Enc.wP (X : Enc) (M : List Nd) : List UInt8 := X.wrP M.length M
section
variable (X : Enc) {L : List Nd} {i e : Nat} (h : Lev L i e) (hi : i < e) (he : e ≤ L.length)
include h hi he
theorem Enc.sD_elem : X.sD false (sub L i e) = X.hs (L[i]'(by omega)) + (if (L[i]'(by omega)).v ≠ 18 then (X.pv (L[i]'(by omega))).length else if X.und (L[i]'(by omega)) = true then 8 else 0) + X.sD true (sub L (i + 1) (nxt L i)) + X.sD false (sub L (nxt L i) e) := by
  obtain ⟨h1, h2, -, -, -⟩ := h.next hi he
  obtain ⟨c1, c2⟩ := sub_cut h hi he
  have l1 := sub_len (L := L) (i := i + 1) (e := e) he
  have l2 := sub_len (L := L) (i := i + 1) (e := nxt L i) (by omega)
  have l3 := sub_len (L := L) (i := nxt L i) (e := e) he
  unfold Enc.sD
  rw [sub_cons hi he, List.length_cons, Enc.szD, c1, c2, X.szD_fuel _ (sub L (i + 1) (nxt L i)).length true (sub L (i + 1) (nxt L i)) (by omega) (Nat.le_refl _), X.szD_fuel _ (sub L (nxt L i) e).length false (sub L (nxt L i) e) (by omega) (Nat.le_refl _)]
theorem Enc.sD_item : X.sD true (sub L i e) = 8 + X.sD false (sub L (i + 1) (nxt L i)) + X.sD true (sub L (nxt L i) e) := by
  obtain ⟨h1, h2, -, -, -⟩ := h.next hi he
  obtain ⟨c1, c2⟩ := sub_cut h hi he
  have l1 := sub_len (L := L) (i := i + 1) (e := e) he
  have l2 := sub_len (L := L) (i := i + 1) (e := nxt L i) (by omega)
  have l3 := sub_len (L := L) (i := nxt L i) (e := e) he
  unfold Enc.sD
  rw [sub_cons hi he, List.length_cons, Enc.szD, c1, c2, X.szD_fuel _ (sub L (i + 1) (nxt L i)).length false (sub L (i + 1) (nxt L i)) (by omega) (Nat.le_refl _), X.szD_fuel _ (sub L (nxt L i) e).length true (sub L (nxt L i) e) (by omega) (Nat.le_refl _)]
theorem Enc.lD_elem : X.lD false (sub L i e) = (if (L[i]'(by omega)).v ≠ 18 then X.hd (L[i]'(by omega)) (X.pv (L[i]'(by omega))).length ++ X.pv (L[i]'(by omega)) else X.hd (L[i]'(by omega)) (if X.und (L[i]'(by omega)) = true then 4294967295 else X.sD true (sub L (i + 1) (nxt L i))) ++ X.lD true (sub L (i + 1) (nxt L i)) ++ (if X.und (L[i]'(by omega)) = true then X.em else [])) ++ X.lD false (sub L (nxt L i) e) := by
  obtain ⟨h1, h2, -, -, -⟩ := h.next hi he
  obtain ⟨c1, c2⟩ := sub_cut h hi he
  have l1 := sub_len (L := L) (i := i + 1) (e := e) he
  have l2 := sub_len (L := L) (i := i + 1) (e := nxt L i) (by omega)
  have l3 := sub_len (L := L) (i := nxt L i) (e := e) he
  unfold Enc.lD Enc.sD
  rw [sub_cons hi he, List.length_cons, Enc.layD, c1, c2, X.szD_fuel _ (sub L (i + 1) (nxt L i)).length true (sub L (i + 1) (nxt L i)) (by omega) (Nat.le_refl _), X.layD_fuel _ (sub L (i + 1) (nxt L i)).length true (sub L (i + 1) (nxt L i)) (by omega) (Nat.le_refl _), X.layD_fuel _ (sub L (nxt L i) e).length false (sub L (nxt L i) e) (by omega) (Nat.le_refl _)]
  split <;> rfl
theorem Enc.lD_item : X.lD true (sub L i e) = X.ih (X.sD false (sub L (i + 1) (nxt L i))) ++ X.lD false (sub L (i + 1) (nxt L i)) ++ X.lD true (sub L (nxt L i) e) := by
  obtain ⟨h1, h2, -, -, -⟩ := h.next hi he
  obtain ⟨c1, c2⟩ := sub_cut h hi he
  have l1 := sub_len (L := L) (i := i + 1) (e := e) he
  have l2 := sub_len (L := L) (i := i + 1) (e := nxt L i) (by omega)
  have l3 := sub_len (L := L) (i := nxt L i) (e := e) he
  unfold Enc.lD Enc.sD
  rw [sub_cons hi he, List.length_cons, Enc.layD, c1, c2, X.szD_fuel _ (sub L (i + 1) (nxt L i)).length false (sub L (i + 1) (nxt L i)) (by omega) (Nat.le_refl _), X.layD_fuel _ (sub L (i + 1) (nxt L i)).length false (sub L (i + 1) (nxt L i)) (by omega) (Nat.le_refl _), X.layD_fuel _ (sub L (nxt L i) e).length true (sub L (nxt L i) e) (by omega) (Nat.le_refl _)]
theorem Enc.wP_next : X.wP (sub L i e) = X.hd (L[i]'(by omega)) (if X.und (L[i]'(by omega)) = true then 4294967295 else (X.pv (L[i]'(by omega))).length + X.szP (sub L (i + 1) (nxt L i))) ++ X.pv (L[i]'(by omega)) ++ X.wP (sub L (i + 1) (nxt L i)) ++ (if X.und (L[i]'(by omega)) = true then X.em else []) ++ X.wP (sub L (nxt L i) e) := by
  obtain ⟨h1, h2, -, -, -⟩ := h.next hi he
  obtain ⟨c1, c2⟩ := sub_cut h hi he
  have l1 := sub_len (L := L) (i := i + 1) (e := e) he
  have l2 := sub_len (L := L) (i := i + 1) (e := nxt L i) (by omega)
  have l3 := sub_len (L := L) (i := nxt L i) (e := e) he
  unfold Enc.wP
  rw [sub_cons hi he, List.length_cons, Enc.wrP, c1, c2, X.wrP_fuel _ (sub L (i + 1) (nxt L i)).length (sub L (i + 1) (nxt L i)) (by omega) (Nat.le_refl _), X.wrP_fuel _ (sub L (nxt L i) e).length (sub L (nxt L i) e) (by omega) (Nat.le_refl _)]
theorem Enc.szP_next : X.szP (sub L i e) = X.sz1 (L[i]'(by omega)) + X.szP (sub L (i + 1) (nxt L i)) + X.szP (sub L (nxt L i) e) := by
  obtain ⟨c1, c2⟩ := sub_cut h hi he
  rw [sub_cons hi he, Enc.szP, X.szP_cut (sub L (i + 1) e) (goN (sub L (i + 1) e) (L[i]'(by omega)).n.toNat), c1, c2]
  omega
end
theorem Enc.szP_snoc (X : Enc) {L : List Nd} {i : Nat} (hi : i < L.length) : X.szP (L.take (i + 1)) = X.szP (L.take i) + X.sz1 (L[i]'hi) := by
  rw [X.szP_cut (L.take (i + 1)) i, List.take_take, Nat.min_eq_left (by omega)]
  congr 1
  have : (L.take (i + 1)).drop i = [L[i]'hi] := by
    have := sub_cons (L := L) (i := i) (e := i + 1) (by omega) (by omega)
    rw [sub_nil (Nat.le_refl _)] at this
    exact this
  rw [this]
  show X.sz1 _ + 0 = _
  omega
theorem Enc.szP_le (X : Enc) (M : List Nd) (j : Nat) : X.szP (M.take j) ≤ X.szP M ∧ X.szP (M.drop j) ≤ X.szP M := by
  have := X.szP_cut M j
  omega

/-- Part of a list that lies there. -/
theorem NV.part {w : World} {b off n cap : Nat} {L : List Nd} (h : NV w (some ⟨b, off, none⟩) n cap L) {i e : Nat} (hie : i ≤ e) (he : e ≤ n) (z : Nat) (hz : i < e → z = off + i * 4) : NV w (some ⟨b, z, none⟩) (e - i) (cap - i) (sub L i e) := by
  have hl := h.len
  have hr := h.room
  have hs := h.small
  refine ⟨by rw [sub_len (by omega)], by omega, by omega, fun hp => ?_, fun x hx => h.num x (sub_mem hx)⟩
  obtain ⟨b', off', ha, hn⟩ := h.lies (by omega)
  cases ha
  refine ⟨b, z, rfl, fun j hj => ?_⟩
  rw [sub_len (by omega)] at hj
  have hg : (sub L i e)[j]'(by rw [sub_len (by omega)]; exact hj) = L[i + j]'(by omega) := by
    unfold sub
    rw [List.getElem_drop, List.getElem_take]
  rw [hg, hz (by omega)]
  have := hn (i + j) (by omega)
  rw [show off + i * 4 + j * 4 = off + (i + j) * 4 by omega]
  exact this
end Go.Proofs.YtoikdpjjcnmgeaaGreatDoor
end

section
/-
  DERIVED. Numbers, tags and plain heads laid down: the program's.
-/
namespace Go.Proofs.YtoikdpjjcnmgeaaGreatDoor
open Go Go.Proofs Go.RowKit
open Wk (Nd NV goN)

set_option maxRecDepth 100000 in
set_option maxHeartbeats 2000000 in
theorem put_any (w : World) (base : Nat) (v : Value) (ys : List UInt8) (k n : Nat) (hk : k ≤ 4) (hn : n < 4294967296) (hown : Ob base w v ys) (hb : base ≤ w.heap.size) (hl : ys.length ≤ 50000000) :
    Calls Tryz.prog 128 #[v, .int .i64 (k : Int), .int .u32 (n : Int)] w fun e w' => ∃ u, e = .returned u ∧ Hid (Ob base w' u (ys ++ le k n)) ∧ Hid (By base w w') := by
  have HO : Hid (Ob base w v ys ∧ base ≤ w.heap.size) := ⟨hown, hb⟩
  clear hown hb
  go_enter Tryz.func128, Tryz.ntmps128
  go_wp2
  go_loopw [0, 2, 8] (fun x0 x2 x8 wr => ∃ i : Nat, x8 = .int .i64 (i : Int) ∧ x2 = .int .u32 ((n / 256 ^ i : Nat) : Int) ∧ i ≤ k ∧ Hid (Ob base wr x0 (ys ++ le i n) ∧ By base w wr)) (fun _ _ x8 _ => k - (intOf x8).toNat)
  case atStart => exact ⟨0, rfl, by simp, by omega, by simpa [le] using HO.out.1, By.refl _ _⟩
  case round =>
    obtain ⟨i, rfl, rfl, hi, HI⟩ := hrel
    by_cases hlt : i < k
    · obtain ⟨m, hm⟩ : ∃ m, n / 256 ^ i = m := ⟨_, rfl⟩
      have hml : m < 4294967296 := by rw [← hm]; exact Nat.lt_of_le_of_lt (Nat.div_le_self _ _) hn
      have HS : Hid (le (i + 1) n = le i n ++ [UInt8.ofNat m]) := by show _ = _; rw [le_snoc, hm]
      have HD : Hid (n / 256 ^ (i + 1) = m / 256) := by show _ = _; rw [Nat.pow_succ, ← Nat.div_div_eq_div_mul, hm]
      have hI : (i : Int) < (k : Int) := by omega
      rw [hm]
      clear hm
      go_wp2_with (at_builtin; refine StopB.out ?_)
      have hb1 : Below wr.heap.size wr (wr.alloc (.cells #[.int .u8 ((m : Int) % 256)] 5)) := (Below.refl _ _).alloc (Nat.le_refl _) _
      have hbb : base ≤ wr.heap.size := Nat.le_trans HO.out.2 HI.out.2.size
      refine ⟨app_bytes rfl (.tmp 10) (.tmp 13) rfl base _ _ rfl (HI.out.1.on hb1) ⟨wr.heap.size, 0, none⟩ 1 1 [UInt8.ofNat m] rfl rfl (news_b rfl _ _ (by simp [bvs]) _) (by rw [List.length_append, le_len]; omega) (Nat.le_trans hbb hb1.size) ?_⟩
      intro u W2 ho hby
      have HI2 : Hid (Ob base W2 u (ys ++ le (i + 1) n) ∧ By base w W2) := ⟨by rw [HS.out, ← List.append_assoc]; exact ho, HI.out.2.trans ((By.of hb1 hbb).trans hby)⟩
      clear ho hby hb1
      go_wp2
      go_roundw
      case rel => exact ⟨i + 1, by go_num, by rw [HD.out]; go_num, by omega, HI2⟩
      case measure => simp [intOf]; omega
    · obtain rfl : i = k := by omega
      have hI : ¬ (i : Int) < (i : Int) := by omega
      go_wp2
      go_ret
      exact ⟨_, rfl, HI.out.1, HI.out.2⟩
theorem put2_any (w : World) (base : Nat) (v : Value) (ys : List UInt8) (n : Nat) (hn : n < 4294967296) (hown : Ob base w v ys) (hb : base ≤ w.heap.size) (hl : ys.length ≤ 50000000) :
    Calls Tryz.prog 128 #[v, .int .i64 2, .int .u32 (n : Int)] w fun e w' => ∃ u, e = .returned u ∧ Hid (Ob base w' u (ys ++ le 2 n)) ∧ Hid (By base w w') := put_any w base v ys 2 n (by decide) hn hown hb hl
theorem put4_any (w : World) (base : Nat) (v : Value) (ys : List UInt8) (n : Nat) (hn : n < 4294967296) (hown : Ob base w v ys) (hb : base ≤ w.heap.size) (hl : ys.length ≤ 50000000) :
    Calls Tryz.prog 128 #[v, .int .i64 4, .int .u32 (n : Int)] w fun e w' => ∃ u, e = .returned u ∧ Hid (Ob base w' u (ys ++ le 4 n)) ∧ Hid (By base w w') := put_any w base v ys 4 n (by decide) hn hown hb hl

set_option maxRecDepth 100000 in
theorem putTag_any (w : World) (base : Nat) (v : Value) (ys : List UInt8) (t : Nat) (ht : t < 4294967296) (hown : Ob base w v ys) (hb : base ≤ w.heap.size) (hl : ys.length ≤ 40000000) :
    Calls Tryz.prog 129 #[v, .int .u32 (t : Int)] w fun e w' => ∃ u, e = .returned u ∧ Hid (Ob base w' u (ys ++ tagL t)) ∧ Hid (By base w w') := by
  have c1 := put2_any w base v ys (t / 65536) (by omega) hown hb (by omega)
  have HB : Hid (base ≤ w.heap.size) := hb
  have hsh : ((t / 65536 : Nat) : Int) = (t : Int) / 65536 := by omega
  rw [hsh] at c1
  clear hown hb hsh
  go_enter Tryz.func129, Tryz.ntmps129
  go_wp2_with (go_at_call 128; refine StopB.out ?_)
  refine ⟨Calls.mono c1 ?_⟩
  rintro e W1 ⟨u1, rfl, ho1, hb1⟩
  clear c1
  go_wp2_with (go_at_call 128; refine StopB.out ?_)
  refine ⟨Calls.mono (put2_any W1 base u1 _ t ht ho1.out (Nat.le_trans HB.out hb1.out.size) (by rw [List.length_append, le_len]; omega)) ?_⟩
  rintro e W2 ⟨u2, rfl, ho2, hb2⟩
  go_wp2
  go_ret
  exact ⟨_, rfl, by rw [tagL, ← List.append_assoc]; exact ho2.out, hb1.out.trans hb2.out⟩
set_option maxRecDepth 100000 in
theorem putPlain_any (w : World) (base : Nat) (v : Value) (ys : List UInt8) (t n : Nat) (ht : t < 4294967296) (hn : n < 4294967296) (hown : Ob base w v ys) (hb : base ≤ w.heap.size) (hl : ys.length ≤ 30000000) :
    Calls Tryz.prog 109 #[v, .int .u32 (t : Int), .int .u32 (n : Int)] w fun e w' => ∃ u, e = .returned u ∧ Hid (Ob base w' u (ys ++ plL t n)) ∧ Hid (By base w w') := by
  have c1 := putTag_any w base v ys t ht hown hb (by omega)
  have HB : Hid (base ≤ w.heap.size) := hb
  clear hown hb
  go_enter Tryz.func109, Tryz.ntmps109
  go_wp2_with (go_at_call 129; refine StopB.out ?_)
  refine ⟨Calls.mono c1 ?_⟩
  rintro e W1 ⟨u1, rfl, ho1, hb1⟩
  clear c1
  go_wp2_with (go_at_call 128; refine StopB.out ?_)
  refine ⟨Calls.mono (put4_any W1 base u1 _ n hn ho1.out (Nat.le_trans HB.out hb1.out.size) (by rw [List.length_append, tagL_len]; omega)) ?_⟩
  rintro e W2 ⟨u2, rfl, ho2, hb2⟩
  go_wp2
  go_ret
  exact ⟨_, rfl, by rw [plL, ← List.append_assoc]; exact ho2.out, hb1.out.trans hb2.out⟩
end Go.Proofs.YtoikdpjjcnmgeaaGreatDoor
end

section
/-
  DERIVED. About, letters and the length's length: the program's.
-/
namespace Go.Proofs.YtoikdpjjcnmgeaaGreatDoor.Rp
open Go Go.Proofs Go.RowKit

theorem I8.put {W : World} {g : Nat} {n0 : ByteArray} {p0 u0 m0 : Int} {t0 c0 q0 l0 : Bool} (h : I8 W g n0 p0 u0 m0 t0 c0 q0 l0) (n : ByteArray) (p u m : Int) (t c q l : Bool) : I8 ((((((((W.setCell ⟨g, 0, none⟩ (.string n)).setCell ⟨g, 1, none⟩ (.int .u8 p)).setCell ⟨g, 2, none⟩ (.int .i64 u)).setCell ⟨g, 3, none⟩ (.int .i64 m)).setCell ⟨g, 4, none⟩ (.bool t)).setCell ⟨g, 5, none⟩ (.bool c)).setCell ⟨g, 6, none⟩ (.bool q)).setCell ⟨g, 7, none⟩ (.bool l)) g n p u m t c q l := by
  have hU := h.sets (.string n) (.int .u8 p) (.int .i64 u) (.int .i64 m) (.bool t) (.bool c) (.bool q) (.bool l)
  simp only at hU
  obtain ⟨u0, u1, u2, u3, u4, u5, u6, u7⟩ := hU
  exact ⟨u0, u1, u2, u3, u4, u5, u6, u7, fun i => by simp only [World.frozen?_setCell]; exact h.cf i⟩

theorem about_fin {V : World} {g : Nat} {n : ByteArray} {p u m : Int} {t c q l b : Bool} (h : I8 V g n p u m t c q l) (tmps : Array Value) (h2 : tmps.getD 2 undef = .pointer (some ⟨g, 0, none⟩)) (h3 : tmps.getD 3 undef = .bool b) :
    (results Tryz.f274 tmps).run Tryz.prog V = .ok (.tuple #[.agg #[.string n, .int .u8 p, .int .i64 u, .int .i64 m, .bool t, .bool c, .bool q, .bool l], .bool b]) V := by
  obtain ⟨c0, c1, c2, c3, c4, c5, c6, c7, _⟩ := h
  rw [results_cell_tmp rfl, h2, h3]
  simp [go_sem, c0, c1, c2, c3, c4, c5, c6, c7]

set_option maxRecDepth 100000 in
theorem about_any (w : World) (v : Int) : Calls Tryz.prog 274 #[.int .i64 v] w fun e w' => e = .returned (.tuple #[infoV (vn v), .bool (decide (1 ≤ v ∧ v ≤ 28))]) ∧ Below w.heap.size w w' := by
  have hb1 : Below w.heap.size w (w.alloc (.cells #[.string ⟨#[]⟩, .int .u8 0, .int .i64 0, .int .i64 0, .bool false, .bool false, .bool false, .bool false] 140)) := (Below.refl _ _).alloc (Nat.le_refl _) _
  obtain ⟨cf, ff, hcf, hff, c⟩ := repOf_open (w.alloc (.cells #[.string ⟨#[]⟩, .int .u8 0, .int .i64 0, .int .i64 0, .bool false, .bool false, .bool false, .bool false] 140)) v
  unfold infoV
  generalize nm (vn v) = n at c ⊢
  generalize pd (vn v) = p at c ⊢
  generalize un (vn v) = u at c ⊢
  generalize mo (vn v) = m at c ⊢
  generalize tx (vn v) = t at c ⊢
  generalize ch (vn v) = c' at c ⊢
  generalize mu (vn v) = q at c ⊢
  generalize lo (vn v) = l at c ⊢
  generalize decide (1 ≤ v ∧ v ≤ 28) = b at c ⊢
  rcases hcf with rfl | ⟨j, rfl⟩ <;> rcases hff with rfl | ⟨j2, rfl⟩
  all_goals go_enter Tryz.func274, Tryz.ntmps274
  all_goals go_wp2_with (go_at_call 81; fail)
  all_goals refine c.mono ?_
  all_goals rintro e W1 ⟨rfl, hb⟩
  all_goals have HZ : Hid (I8 W1 w.heap.size ⟨#[]⟩ 0 0 0 false false false false) := I8.next ⟨by simp, by simp, by simp, by simp, by simp, by simp, by simp, by simp, fun i => by simp⟩ hb (by simp)
  all_goals obtain ⟨z0, z1, z2, z3, z4, z5, z6, z7, zf⟩ := HZ.out
  all_goals have HB : Hid (Below w.heap.size w W1) := hb1.trans (hb.mono (by simp))
  all_goals have hlt : w.heap.size < W1.heap.size := cell_lt z0
  all_goals clear c hb
  all_goals go_wp2
  all_goals exact bodyPost_ret (about_fin (I8.next (HZ.out.put n p u m t c' q l) ((Below.refl _ _).alloc (Nat.le_refl _) _) (by simp; omega)) _ rfl rfl) rfl ⟨rfl, Below.alloc ((((((((HB.out.setCell (p := ⟨w.heap.size, 0, none⟩) (Nat.le_refl _) _).setCell (p := ⟨w.heap.size, 1, none⟩) (Nat.le_refl _) _).setCell (p := ⟨w.heap.size, 2, none⟩) (Nat.le_refl _) _).setCell (p := ⟨w.heap.size, 3, none⟩) (Nat.le_refl _) _).setCell (p := ⟨w.heap.size, 4, none⟩) (Nat.le_refl _) _).setCell (p := ⟨w.heap.size, 5, none⟩) (Nat.le_refl _) _).setCell (p := ⟨w.heap.size, 6, none⟩) (Nat.le_refl _) _).setCell (p := ⟨w.heap.size, 7, none⟩) (Nat.le_refl _) _) (by simp; omega) _⟩


theorem about_open (w : World) (v : Int) : Calls Tryz.prog 274 #[.int .i64 v] w fun e w' => e = .returned (.tuple #[.agg #[.string (nm (vn v)), .int .u8 (pd (vn v)), .int .i64 (un (vn v)), .int .i64 (mo (vn v)), .bool (tx (vn v)), .bool (ch (vn v)), .bool (mu (vn v)), .bool (lo (vn v))], .bool (decide (1 ≤ v ∧ v ≤ 28))]) ∧ Below w.heap.size w w' := about_any w v

set_option maxRecDepth 100000 in
theorem vrword_any (w : World) (v : Int) : Calls Tryz.prog 270 #[.int .i64 v] w fun e w' => e = .returned (.string (nm (vn v))) ∧ Below w.heap.size w w' := by
  obtain ⟨cf, ff, hcf, hff, c⟩ := repOf_open w v
  generalize nm (vn v) = n at c ⊢
  generalize pd (vn v) = p at c
  generalize un (vn v) = u at c
  generalize mo (vn v) = m at c
  generalize tx (vn v) = t at c
  generalize ch (vn v) = c' at c
  generalize mu (vn v) = q at c
  generalize lo (vn v) = l at c
  generalize decide (1 ≤ v ∧ v ≤ 28) = b at c
  rcases hcf with rfl | ⟨j, rfl⟩ <;> rcases hff with rfl | ⟨j2, rfl⟩
  all_goals go_enter Tryz.func270, Tryz.ntmps270
  all_goals go_wp2_with (first | (go_at_call 81; refine c.mono ?_; rintro e W1 ⟨rfl, hb⟩) | fail)
  all_goals go_ret
  all_goals exact ⟨rfl, hb.alloc hb.size _⟩
set_option maxRecDepth 100000 in
theorem long_any (w : World) (v : Int) : Calls Tryz.prog 269 #[.int .i64 v] w fun e w' => e = .returned (.bool (lo (vn v))) ∧ Below w.heap.size w w' := by
  have c := about_open w v
  generalize nm (vn v) = n at c
  generalize pd (vn v) = p at c
  generalize un (vn v) = u at c
  generalize mo (vn v) = m at c
  generalize tx (vn v) = t at c
  generalize ch (vn v) = c' at c
  generalize mu (vn v) = q at c
  generalize lo (vn v) = l at c ⊢
  generalize decide (1 ≤ v ∧ v ≤ 28) = b at c
  go_enter Tryz.func269, Tryz.ntmps269
  go_wp2_with (first | (go_at_call 274; refine c.mono ?_; rintro e W1 ⟨rfl, hb⟩) | fail)
  go_ret
  exact ⟨rfl, hb.alloc hb.size _⟩
end Go.Proofs.YtoikdpjjcnmgeaaGreatDoor.Rp
end

section
/-
  DERIVED. What the two syntaxes ask of a node and lay down of it: the program's.
-/
namespace Go.Proofs.YtoikdpjjcnmgeaaGreatDoor
open Go Go.Proofs Go.RowKit
open Wk (Nd NV goN)

/-- A node, as a value. -/
abbrev ndV (t v z : Int) (s : ByteArray) : Value := .agg #[.int .u32 t, .int .i64 v, .int .i64 z, .string s]

theorem mI_hs (w : World) : (Go.method 414 107 (.agg #[]) "modality/dataset.headSize").run Tryz.prog w = .ok (261, .agg #[]) w := by kernel_rfl
theorem mI_un (w : World) : (Go.method 414 107 (.agg #[]) "modality/dataset.isUndefined").run Tryz.prog w = .ok (262, .agg #[]) w := by kernel_rfl
theorem mI_ph (w : World) : (Go.method 414 107 (.agg #[]) "modality/dataset.putHead").run Tryz.prog w = .ok (263, .agg #[]) w := by kernel_rfl
theorem mE_hs (w : World) : (Go.method 414 108 (.agg #[]) "modality/dataset.headSize").run Tryz.prog w = .ok (265, .agg #[]) w := by kernel_rfl
theorem mE_un (w : World) : (Go.method 414 108 (.agg #[]) "modality/dataset.isUndefined").run Tryz.prog w = .ok (266, .agg #[]) w := by kernel_rfl
theorem mE_ph (w : World) : (Go.method 414 108 (.agg #[]) "modality/dataset.putHead").run Tryz.prog w = .ok (267, .agg #[]) w := by kernel_rfl
set_option maxRecDepth 100000 in
theorem hsI_any (w : World) (t v z : Int) (s : ByteArray) : Calls Tryz.prog 261 #[.agg #[], ndV t v z s] w fun e w' => e = .returned (.int .i64 8) ∧ Below w.heap.size w w' := by
  go_enter Tryz.func261, Tryz.ntmps261
  go_wp2
  go_ret
  exact ⟨rfl, ((Below.refl _ _).alloc (Nat.le_refl _) _).alloc (by simp) _⟩
set_option maxRecDepth 100000 in
theorem unE_any (w : World) (t v z : Int) (s : ByteArray) : Calls Tryz.prog 266 #[.agg #[], ndV t v z s] w fun e w' => e = .returned (.bool false) ∧ Below w.heap.size w w' := by
  go_enter Tryz.func266, Tryz.ntmps266
  go_wp2
  go_ret
  exact ⟨rfl, ((Below.refl _ _).alloc (Nat.le_refl _) _).alloc (by simp) _⟩
set_option maxRecDepth 100000 in
theorem unI_any (w : World) (t : Nat) (ht : t < 4294967296) (v z : Int) (s : ByteArray) (r : Bool) (hr : encI.und ⟨(t : Int), v, z, s⟩ = r) : Calls Tryz.prog 262 #[.agg #[], ndV (t : Int) v z s] w fun e w' => e = .returned (.bool r) ∧ Below w.heap.size w w' := by
  have hr2 : (decide (v = 18) && !(Tb.docF t (Tb.upTo 10)).isSome) = r := hr
  by_cases hv : v = 18
  · have HR : Hid ((!(Tb.docF t (Tb.upTo 10)).isSome) = r) := by show _ = _; rw [← hr2, decide_eq_true hv]; rfl
    have bv : (v == 18) = true := by rw [hv]; rfl
    clear hr hr2 hv
    have c := fun W => known_any W t ht
    generalize (Tb.docF t (Tb.upTo 10)).isSome = k at c HR
    go_enter Tryz.func262, Tryz.ntmps262
    go_wp2_with (first | (go_at_call 46; refine (c _).mono ?_; rintro e W1 ⟨rfl, hb⟩) | fail)
    go_ret
    refine ⟨by rw [← HR.out]; rfl, ?_⟩
    have h0 : Below w.heap.size w ((w.alloc (.cells #[] 107)).alloc (.cells #[.int .u32 (t : Int), .int .i64 v, .int .i64 z, .string s] 54)) := ((Below.refl _ _).alloc (Nat.le_refl _) _).alloc (by simp) _
    exact h0.trans (hb.mono h0.size)
  · have HR : Hid (false = r) := by show _ = _; rw [← hr2, decide_eq_false hv]; rfl
    have bv : (v == 18) = false := beq_eq_false_iff_ne.2 hv
    clear hr hr2 hv
    go_enter Tryz.func262, Tryz.ntmps262
    go_wp2
    go_ret
    exact ⟨by rw [← HR.out]; rfl, ((Below.refl _ _).alloc (Nat.le_refl _) _).alloc (by simp) _⟩
set_option maxRecDepth 100000 in
theorem hsE_any (w : World) (t v z : Int) (s : ByteArray) (r : Nat) (hr : (if Rp.lo (Rp.vn v) = true then 12 else 8) = r) : Calls Tryz.prog 265 #[.agg #[], ndV t v z s] w fun e w' => e = .returned (.int .i64 (r : Int)) ∧ Below w.heap.size w w' := by
  have c := fun W => Rp.long_any W v
  have h0 : Below w.heap.size w ((w.alloc (.cells #[] 108)).alloc (.cells #[.int .u32 t, .int .i64 v, .int .i64 z, .string s] 54)) := ((Below.refl _ _).alloc (Nat.le_refl _) _).alloc (by simp) _
  have HR : Hid _ := hr
  clear hr
  cases hl : Rp.lo (Rp.vn v) with
  | true =>
    have HR2 : Hid (12 = r) := by have := HR.out; rw [if_pos hl] at this; exact this
    rw [hl] at c
    clear hl HR
    go_enter Tryz.func265, Tryz.ntmps265
    go_wp2_with (first | (go_at_call 269; refine (c _).mono ?_; rintro e W1 ⟨rfl, hb⟩) | fail)
    go_ret
    exact ⟨by rw [← HR2.out]; rfl, h0.trans (hb.mono h0.size)⟩
  | false =>
    have HR2 : Hid (8 = r) := by have := HR.out; rw [if_neg (by rw [hl]; decide)] at this; exact this
    rw [hl] at c
    clear hl HR
    go_enter Tryz.func265, Tryz.ntmps265
    go_wp2_with (first | (go_at_call 269; refine (c _).mono ?_; rintro e W1 ⟨rfl, hb⟩) | fail)
    go_ret
    exact ⟨by rw [← HR2.out]; rfl, h0.trans (hb.mono h0.size)⟩
set_option maxRecDepth 100000 in
theorem phI_any (w : World) (base : Nat) (b : Value) (ys : List UInt8) (t n : Nat) (ht : t < 4294967296) (hn : n < 4294967296) (v z : Int) (s : ByteArray) (hown : Ob base w b ys) (hb : base ≤ w.heap.size) (hl : ys.length ≤ 30000000) :
    Calls Tryz.prog 263 #[.agg #[], b, ndV (t : Int) v z s, .int .u32 (n : Int)] w fun e w' => ∃ u, e = .returned u ∧ Hid (Ob base w' u (ys ++ plL t n)) ∧ Hid (By base w w') := by
  obtain ⟨W, hW⟩ : ∃ W, (w.alloc (.cells #[] 107)).alloc (.cells #[.int .u32 (t : Int), .int .i64 v, .int .i64 z, .string s] 54) = W := ⟨_, rfl⟩
  have h0 : Below w.heap.size w W := by rw [← hW]; exact ((Below.refl _ _).alloc (Nat.le_refl _) _).alloc (by simp) _
  have k0 : W.cell? ⟨w.heap.size + 1, 0, none⟩ = some (.int .u32 (t : Int)) := by rw [← hW]; simp
  have c := putPlain_any W base b ys t n ht hn (hown.on h0) (Nat.le_trans hb h0.size) hl
  have H0 : Hid (By base w W) := By.of h0 hb
  clear hown hb h0
  go_enter Tryz.func263, Tryz.ntmps263
  go_wp2_with (go_at_call 109; refine StopB.out ?_)
  refine ⟨Calls.mono c ?_⟩
  rintro e W1 ⟨u, rfl, ho, hby⟩
  go_wp2
  go_ret
  exact ⟨_, rfl, ho, H0.out.trans hby.out⟩
theorem hsI_ok (w : World) (t v z : Int) (s : ByteArray) (r : Nat) (hr : encI.hs ⟨t, v, z, s⟩ = r) : Calls Tryz.prog 261 #[.agg #[], ndV t v z s] w fun e w' => e = .returned (.int .i64 (r : Int)) ∧ Below w.heap.size w w' := by
  have hr2 : 8 = r := hr
  rw [← hr2]
  exact hsI_any w t v z s
theorem hsE_ok (w : World) (t v z : Int) (s : ByteArray) (r : Nat) (hr : encE.hs ⟨t, v, z, s⟩ = r) : Calls Tryz.prog 265 #[.agg #[], ndV t v z s] w fun e w' => e = .returned (.int .i64 (r : Int)) ∧ Below w.heap.size w w' := hsE_any w t v z s r hr
theorem unI_ok (w : World) (t : Nat) (ht : t < 4294967296) (v z : Int) (s : ByteArray) (r : Bool) (hr : encI.und ⟨(t : Int), v, z, s⟩ = r) : Calls Tryz.prog 262 #[.agg #[], ndV (t : Int) v z s] w fun e w' => e = .returned (.bool r) ∧ Below w.heap.size w w' := unI_any w t ht v z s r hr
theorem unE_ok (w : World) (t : Nat) (_ : t < 4294967296) (v z : Int) (s : ByteArray) (r : Bool) (hr : encE.und ⟨(t : Int), v, z, s⟩ = r) : Calls Tryz.prog 266 #[.agg #[], ndV (t : Int) v z s] w fun e w' => e = .returned (.bool r) ∧ Below w.heap.size w w' := by
  have hr2 : false = r := hr
  rw [← hr2]
  exact unE_any w (t : Int) v z s
theorem phI_ok (w : World) (base : Nat) (b : Value) (ys : List UInt8) (t n : Nat) (ht : t < 4294967296) (hn : n < 4294967296) (v z : Int) (s : ByteArray) (_ : v = 29 ∨ (1 ≤ v ∧ v ≤ 28)) (hown : Ob base w b ys) (hb : base ≤ w.heap.size) (hl : ys.length ≤ 30000000) :
    Calls Tryz.prog 263 #[.agg #[], b, ndV (t : Int) v z s, .int .u32 (n : Int)] w fun e w' => ∃ u, e = .returned u ∧ Hid (Ob base w' u (ys ++ encI.hd ⟨(t : Int), v, z, s⟩ n)) ∧ Hid (By base w w') := phI_any w base b ys t n ht hn v z s hown hb hl
end Go.Proofs.YtoikdpjjcnmgeaaGreatDoor
end

section
/-
  DERIVED. A head with letters: the program's.
-/
namespace Go.Proofs.YtoikdpjjcnmgeaaGreatDoor
open Go Go.Proofs Go.RowKit
open Wk (Nd NV goN)

set_option maxRecDepth 100000 in
set_option maxHeartbeats 4000000 in
theorem phE_ok (w : World) (base : Nat) (b : Value) (ys : List UInt8) (t n : Nat) (ht : t < 4294967296) (hn : n < 4294967296) (v z : Int) (s : ByteArray) (hv : v = 29 ∨ (1 ≤ v ∧ v ≤ 28)) (hown : Ob base w b ys) (hb : base ≤ w.heap.size) (hl : ys.length ≤ 30000000) :
    Calls Tryz.prog 267 #[.agg #[], b, ndV (t : Int) v z s, .int .u32 (n : Int)] w fun e w' => ∃ u, e = .returned u ∧ Hid (Ob base w' u (ys ++ encE.hd ⟨(t : Int), v, z, s⟩ n)) ∧ Hid (By base w w') := by
  obtain ⟨W, hW⟩ : ∃ W, (w.alloc (.cells #[] 108)).alloc (.cells #[.int .u32 (t : Int), .int .i64 v, .int .i64 z, .string s] 54) = W := ⟨_, rfl⟩
  have h0 : Below w.heap.size w W := by rw [← hW]; exact ((Below.refl _ _).alloc (Nat.le_refl _) _).alloc (by simp) _
  have k0 : W.cell? ⟨w.heap.size + 1, 0, none⟩ = some (.int .u32 (t : Int)) := by rw [← hW]; simp
  have k1 : W.cell? ⟨w.heap.size + 1, 1, none⟩ = some (.int .i64 v) := by rw [← hW]; simp
  have KB : Hid (W.heap[w.heap.size + 1]? = some (.cells #[.int .u32 (t : Int), .int .i64 v, .int .i64 z, .string s] 54 (0, 0))) := by
    show _ = _
    rw [← hW]
    have := Wk.heap_new (w.alloc (.cells #[] 108)) (.cells #[.int .u32 (t : Int), .int .i64 v, .int .i64 z, .string s] 54)
    rw [Wk.size_alloc] at this
    exact this
  have H0 : Hid (By base w W) := By.of h0 hb
  have HO : Hid (Ob base W b ys) := hown.on h0
  have HBW : Hid (base ≤ W.heap.size) := Nat.le_trans hb h0.size
  clear hown hb h0
  by_cases h29 : v = 29
  · have b29 : (v == 29) = true := by rw [h29]; rfl
    have HD : Hid (encE.hd ⟨(t : Int), v, z, s⟩ n = plL t n) := by show (if v = 29 then plL (t : Int).toNat n else _) = _; rw [if_pos h29]; rfl
    have c := putPlain_any W base b ys t n ht hn HO.out HBW.out hl
    clear h29 hv
    go_enter Tryz.func267, Tryz.ntmps267
    go_wp2_with (go_at_call 109; refine StopB.out ?_)
    refine ⟨Calls.mono c ?_⟩
    rintro e W1 ⟨u, rfl, ho, hby⟩
    go_wp2
    go_ret
    exact ⟨_, rfl, by rw [HD.out]; exact ho, H0.out.trans hby.out⟩
  · have b29 : (v == 29) = false := beq_eq_false_iff_ne.2 h29
    have HV : Hid (1 ≤ v ∧ v ≤ 28) := hv.resolve_left h29
    have HD : Hid (encE.hd ⟨(t : Int), v, z, s⟩ n = exL t v n) := by show (if v = 29 then _ else exL (t : Int).toNat v n) = _; rw [if_neg h29]; rfl
    clear h29 hv
    go_enter Tryz.func267, Tryz.ntmps267
    have c58 := fun X (hX : Below W.heap.size W X) => putTag_any X base b ys t ht (HO.out.on hX) (Nat.le_trans HBW.out hX.size) (by omega)
    have c225 := fun X => Rp.vrword_any X v
    have HN : Hid ((Rp.nm (Rp.vn v)).data.toList = ltr v) := rfl
    have hnl : (Rp.nm (Rp.vn v)).size = 2 := ltr_len HV.out
    generalize Rp.nm (Rp.vn v) = nm at c225 HN hnl
    have C58 : Hid _ := c58
    have KK : Hid (∀ X X' : World, Below W.heap.size W X → By base X X' → X'.cell? ⟨w.heap.size + 1, 0, none⟩ = some (.int .u32 (t : Int)) ∧ X'.cell? ⟨w.heap.size + 1, 1, none⟩ = some (.int .i64 v)) := fun X X' hX hB => by
      have hlt : w.heap.size + 1 < W.heap.size := (Array.getElem?_eq_some_iff.1 KB.out).1
      have e1 : X.heap[w.heap.size + 1]? = W.heap[w.heap.size + 1]? := hX.block _ hlt
      have e2 : X'.heap[w.heap.size + 1]? = X.heap[w.heap.size + 1]? := hB.cell (e1.trans KB.out) (by decide)
      exact ⟨(World.cell?_of_block (e2.trans e1)).trans k0, (World.cell?_of_block (e2.trans e1)).trans k1⟩
    clear c58
    go_wp2
    clear hW
    go_region_law (first | (go_simp; go_at_call 129; refine Calls.mono (C58.out _ (by first | exact Below.refl _ _ | exact (Below.refl _ _).drew | exact Wk.below_drw (Below.refl _ _) _)) ?_; rintro e W1 ⟨u1, rfl, ho1, hb1⟩; obtain ⟨q0, q1⟩ := KK.out _ W1 (by first | exact Below.refl _ _ | exact (Below.refl _ _).drew | exact Wk.below_drw (Below.refl _ _) _) hb1.out) | (go_simp; go_at_call 270; refine Calls.mono (c225 _) ?_; rintro e W2 ⟨rfl, hb2⟩) | (refine step_text rfl (.tmp 20) (.tmp 23) rfl base _ _ (by simp [Act.eval]) (ho1.out.on hb2) nm (by simp [Act.eval]) (by rw [List.length_append, tagL_len, hnl]; omega) (Nat.le_trans (Nat.le_trans HBW.out hb1.out.size) hb2.size) ?_; intro u3 W3 ho3 hb3))
    all_goals have hBW : By base W W3 := (By.of (by first | exact Below.refl _ _ | exact (Below.refl _ _).drew | exact Wk.below_drw (Below.refl _ _) _) HBW.out).trans (hb1.out.trans ((By.of hb2 (Nat.le_trans HBW.out hb1.out.size)).trans hb3))
    all_goals have q3 : W3.cell? ⟨w.heap.size + 1, 1, none⟩ = some (.int .i64 v) := (World.cell?_of_block (hBW.cell KB.out (by decide))).trans k1
    all_goals have HO3 : Hid (Ob base W3 u3 (ys ++ tagL t ++ ltr v)) := by rw [← HN.out]; exact ho3
    all_goals have HB3 : Hid (By base w W3) := H0.out.trans hBW
    all_goals have HS3 : Hid (base ≤ W3.heap.size) := Nat.le_trans HBW.out hBW.size
    all_goals clear hBW ho3 hb3 hb2 hb1 ho1 k0 k1 q0 q1 C58 KK HO H0 HBW c225 HN
    all_goals have cl := Rp.long_any W3 v
    all_goals rcases hlo : Rp.lo (Rp.vn v) with _ | _
    all_goals rw [hlo] at cl
    all_goals first
      | (have HX : Hid (exL t v n = tagL t ++ ltr v ++ le 2 n) := by
           show _ = _
           rw [exL, if_neg (by rw [hlo]; decide)]
         clear hlo
         go_wp2_with (first | (go_at_call 269; refine Calls.mono cl ?_; rintro e W4 ⟨rfl, hb4⟩) | (go_at_call 128; refine StopB.out ?_))
         refine ⟨Calls.mono (put2_any W4 base u3 _ n hn (HO3.out.on hb4) (Nat.le_trans HS3.out hb4.size) (by rw [List.length_append, List.length_append, tagL_len, ltr_len HV.out]; omega)) ?_⟩
         rintro e W5 ⟨u5, rfl, ho5, hb5⟩
         go_wp2
         go_ret
         exact ⟨_, rfl, by rw [HD.out, HX.out, ← List.append_assoc, ← List.append_assoc]; exact ho5.out, HB3.out.trans ((By.of hb4 HS3.out).trans hb5.out)⟩)
      | (have HX : Hid (exL t v n = tagL t ++ ltr v ++ ([0, 0] ++ le 4 n)) := by
           show _ = _
           rw [exL, if_pos hlo]
         clear hlo
         go_wp2_with (first | (go_at_call 269; refine Calls.mono cl ?_; rintro e W4 ⟨rfl, hb4⟩) | (at_builtin; refine StopB.out ?_))
         have hb4' : Below W3.heap.size W3 (W4.alloc (.cells #[.int .u8 0, .int .u8 0] 5)) := hb4.alloc hb4.size _
         have hsz : base ≤ (W4.alloc (.cells #[.int .u8 0, .int .u8 0] 5)).heap.size := Nat.le_trans HS3.out hb4'.size
         refine ⟨app_bytes rfl (.tmp 28) (.tmp 29) rfl base _ _ rfl (HO3.out.on hb4') ⟨W4.heap.size, 0, none⟩ 2 2 [0, 0] rfl rfl (news_b rfl _ _ rfl _) (by rw [List.length_append, List.length_append, tagL_len, ltr_len HV.out]; omega) hsz ?_⟩
         intro u5 W5 ho5 hb5
         go_wp2_with (go_at_call 128; refine StopB.out ?_)
         refine ⟨Calls.mono (put4_any W5 base u5 _ n hn ho5 (Nat.le_trans hsz hb5.size) (by rw [List.length_append, List.length_append, List.length_append, tagL_len, ltr_len HV.out]; simp; omega)) ?_⟩
         rintro e W6 ⟨u6, rfl, ho6, hb6⟩
         go_wp2
         go_ret
         refine ⟨_, rfl, ?_, HB3.out.trans ((By.of hb4' HS3.out).trans (hb5.trans hb6.out))⟩
         rw [HD.out, HX.out, ← List.append_assoc, ← List.append_assoc, ← List.append_assoc]
         exact ho6.out)
end Go.Proofs.YtoikdpjjcnmgeaaGreatDoor
end

section
/-
  DERIVED. Nodes that lie there, one by one.
-/
namespace Go.Proofs.YtoikdpjjcnmgeaaGreatDoor
open Go Go.Proofs
open Wk (Nd NV)

/-- Tags are tags. -/
def TagsOk (L : List Nd) : Prop := ∀ x ∈ L, 0 ≤ x.t ∧ x.t < 4294967296
theorem NV.cells {w : World} {a : Option Addr} {n cap : Nat} {L : List Nd} (h : NV w a n cap L) {j : Nat} (hj : j < n) : ∃ (b off : Nat) (hl : j < L.length), a = some ⟨b, off, none⟩ ∧ w.cell? ⟨b, off + j * 4, none⟩ = some (.int .u32 (L[j]'hl).t) ∧ w.cell? ⟨b, off + j * 4 + 1, none⟩ = some (.int .i64 (L[j]'hl).v) ∧ w.cell? ⟨b, off + j * 4 + 2, none⟩ = some (.int .i64 (L[j]'hl).n) ∧ w.cell? ⟨b, off + j * 4 + 3, none⟩ = some (.string (L[j]'hl).s) := by
  have hl : j < L.length := by have := h.len; omega
  obtain ⟨b, off, ha, hb⟩ := h.lies (by omega)
  exact ⟨b, off, hl, ha, hb j hl⟩
end Go.Proofs.YtoikdpjjcnmgeaaGreatDoor
end
