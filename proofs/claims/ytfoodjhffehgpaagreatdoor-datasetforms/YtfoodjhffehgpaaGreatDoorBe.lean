import Derived.Test.YtfoodjhffehgpaaGreatDoorBa
import Derived.Test.YtfoodjhffehgpaaGreatDoorNx
import Derived.Test.YtfoodjhffehgpaaGreatDoorBp
import Derived.Test.YtfoodjhffehgpaaGreatDoorRF
section
/-
  DERIVED. Parts of a list of nodes, by places; what is laid down of them.
-/
namespace Go.Proofs.YtfoodjhffehgpaaGreatDoor
open Go Go.Proofs Go.RowKit
open Wk (Nd NV NAt goN nxt)

/-- From one place to another. -/
def sub (L : List Nd) (i e : Nat) : List Nd := (L.take e).drop i
theorem sub_len {L : List Nd} {i e : Nat} (h : e ≤ L.length) : (sub L i e).length = e - i := by
  rw [sub, List.length_drop, List.length_take, Nat.min_eq_left h]
theorem sub_nil {L : List Nd} {i e : Nat} (h : e ≤ i) : sub L i e = [] := List.drop_eq_nil_of_le (by rw [List.length_take]; omega)
theorem sub_all (L : List Nd) : sub L 0 L.length = L := by rw [sub, List.take_length]; rfl
theorem sub_cons {L : List Nd} {i e : Nat} (hi : i < e) (he : e ≤ L.length) : sub L i e = (L[i]'(by omega)) :: sub L (i + 1) e := by
  have h : i < (L.take e).length := by rw [List.length_take]; omega
  rw [sub, List.drop_eq_getElem_cons h, List.getElem_take]
  rfl
theorem sub_mem {L : List Nd} {i e : Nat} {a : Nd} (h : a ∈ sub L i e) : a ∈ L := List.mem_of_mem_take (List.mem_of_mem_drop h)
/-- The nodes from one place to another are whole ones of a level. -/
def Lev (L : List Nd) (i e : Nat) : Prop := ∃ w, e = i + goN (L.drop i) w
theorem goN_full : ∀ (L : List Nd) (w : Nat), L.length ≤ w → goN L w = L.length
  | [], _, _ => by simp [goN]
  | a :: L, 0, h => by simp at h
  | a :: L, w + 1, h => by
    simp only [List.length_cons] at h
    show 1 + goN L (w + a.n.toNat) = _
    rw [goN_full L _ (by omega), List.length_cons]
    omega
theorem Lev.top (L : List Nd) : Lev L 0 L.length := ⟨L.length, by rw [List.drop_zero, goN_full L _ (Nat.le_refl _)]; omega⟩
theorem Lev.next {L : List Nd} {i e : Nat} (h : Lev L i e) (hi : i < e) (he : e ≤ L.length) : nxt L i ≤ e ∧ i < nxt L i ∧ Lev L (i + 1) (nxt L i) ∧ Lev L (nxt L i) e ∧ nxt L i = i + 1 + goN (L.drop (i + 1)) (L[i]'(by omega)).n.toNat := by
  obtain ⟨w, hw⟩ := h
  have hl : i < L.length := by omega
  have hs := Wk.goN_step (w := 0) hl
  rw [Nat.zero_add, Nat.zero_add] at hs
  cases w with
  | zero => rw [Wk.goN_zero] at hw; omega
  | succ w =>
    rw [Nat.add_comm w 1, goN_add] at hw
    refine ⟨?_, Wk.nxt_gt hl, ⟨(L[i]'hl).n.toNat, ?_⟩, ⟨w, ?_⟩, ?_⟩
    · unfold nxt; omega
    · unfold nxt; rw [hs, Nat.add_assoc]
    · unfold nxt
      rw [List.drop_drop] at hw
      rw [hw]
      omega
    · unfold nxt; rw [hs]; omega
theorem sub_cut {L : List Nd} {i e : Nat} (h : Lev L i e) (hi : i < e) (he : e ≤ L.length) :
    (sub L (i + 1) e).take (goN (sub L (i + 1) e) (L[i]'(by omega)).n.toNat) = sub L (i + 1) (nxt L i) ∧ (sub L (i + 1) e).drop (goN (sub L (i + 1) e) (L[i]'(by omega)).n.toNat) = sub L (nxt L i) e := by
  obtain ⟨h1, h2, -, -, h5⟩ := h.next hi he
  have hr : sub L (i + 1) e = (L.drop (i + 1)).take (e - (i + 1)) := by rw [sub, List.drop_take]
  have hg : goN (sub L (i + 1) e) (L[i]'(by omega)).n.toNat = nxt L i - (i + 1) := by
    rw [hr, goN_take _ _ _ (by omega)]
    omega
  rw [hg]
  constructor
  · rw [hr, List.take_take, Nat.min_eq_left (by omega), sub, List.drop_take]
  · rw [sub, List.drop_drop, sub]
    congr 1
    omega

/-- What the document counts and lays down. -/
def Enc.sD (X : Enc) (b : Bool) (M : List Nd) : Nat := X.szD M.length b M
def Enc.lD (X : Enc) (b : Bool) (M : List Nd) : List UInt8 := X.layD M.length b M
/-- What the program lays down. -/
def Enc.wP (X : Enc) (M : List Nd) : List UInt8 := X.wrP M.length M
section
variable (X : Enc) {L : List Nd} {i e : Nat} (h : Lev L i e) (hi : i < e) (he : e ≤ L.length)
include h hi he
theorem Enc.sD_elem : X.sD false (sub L i e) = X.hs (L[i]'(by omega)) + (if (L[i]'(by omega)).v ≠ 18 then (X.pv (L[i]'(by omega))).length else if X.und (L[i]'(by omega)) = true then 8 else 0) + X.sD true (sub L (i + 1) (nxt L i)) + X.sD false (sub L (nxt L i) e) := by
  obtain ⟨h1, h2, -, -, -⟩ := h.next hi he
  obtain ⟨c1, c2⟩ := sub_cut h hi he
  have l1 := sub_len (L := L) (i := i + 1) (e := e) he
  have l2 := sub_len (L := L) (i := i + 1) (e := nxt L i) (by omega)
  have l3 := sub_len (L := L) (i := nxt L i) (e := e) he
  unfold Enc.sD
  rw [sub_cons hi he, List.length_cons, Enc.szD, c1, c2, X.szD_fuel _ (sub L (i + 1) (nxt L i)).length true (sub L (i + 1) (nxt L i)) (by omega) (Nat.le_refl _), X.szD_fuel _ (sub L (nxt L i) e).length false (sub L (nxt L i) e) (by omega) (Nat.le_refl _)]
theorem Enc.sD_item : X.sD true (sub L i e) = 8 + X.sD false (sub L (i + 1) (nxt L i)) + X.sD true (sub L (nxt L i) e) := by
  obtain ⟨h1, h2, -, -, -⟩ := h.next hi he
  obtain ⟨c1, c2⟩ := sub_cut h hi he
  have l1 := sub_len (L := L) (i := i + 1) (e := e) he
  have l2 := sub_len (L := L) (i := i + 1) (e := nxt L i) (by omega)
  have l3 := sub_len (L := L) (i := nxt L i) (e := e) he
  unfold Enc.sD
  rw [sub_cons hi he, List.length_cons, Enc.szD, c1, c2, X.szD_fuel _ (sub L (i + 1) (nxt L i)).length false (sub L (i + 1) (nxt L i)) (by omega) (Nat.le_refl _), X.szD_fuel _ (sub L (nxt L i) e).length true (sub L (nxt L i) e) (by omega) (Nat.le_refl _)]
theorem Enc.lD_elem : X.lD false (sub L i e) = (if (L[i]'(by omega)).v ≠ 18 then X.hd (L[i]'(by omega)) (X.pv (L[i]'(by omega))).length ++ X.pv (L[i]'(by omega)) else X.hd (L[i]'(by omega)) (if X.und (L[i]'(by omega)) = true then 4294967295 else X.sD true (sub L (i + 1) (nxt L i))) ++ X.lD true (sub L (i + 1) (nxt L i)) ++ (if X.und (L[i]'(by omega)) = true then X.em else [])) ++ X.lD false (sub L (nxt L i) e) := by
  obtain ⟨h1, h2, -, -, -⟩ := h.next hi he
  obtain ⟨c1, c2⟩ := sub_cut h hi he
  have l1 := sub_len (L := L) (i := i + 1) (e := e) he
  have l2 := sub_len (L := L) (i := i + 1) (e := nxt L i) (by omega)
  have l3 := sub_len (L := L) (i := nxt L i) (e := e) he
  unfold Enc.lD Enc.sD
  rw [sub_cons hi he, List.length_cons, Enc.layD, c1, c2, X.szD_fuel _ (sub L (i + 1) (nxt L i)).length true (sub L (i + 1) (nxt L i)) (by omega) (Nat.le_refl _), X.layD_fuel _ (sub L (i + 1) (nxt L i)).length true (sub L (i + 1) (nxt L i)) (by omega) (Nat.le_refl _), X.layD_fuel _ (sub L (nxt L i) e).length false (sub L (nxt L i) e) (by omega) (Nat.le_refl _)]
  split <;> rfl
theorem Enc.lD_item : X.lD true (sub L i e) = X.ih (X.sD false (sub L (i + 1) (nxt L i))) ++ X.lD false (sub L (i + 1) (nxt L i)) ++ X.lD true (sub L (nxt L i) e) := by
  obtain ⟨h1, h2, -, -, -⟩ := h.next hi he
  obtain ⟨c1, c2⟩ := sub_cut h hi he
  have l1 := sub_len (L := L) (i := i + 1) (e := e) he
  have l2 := sub_len (L := L) (i := i + 1) (e := nxt L i) (by omega)
  have l3 := sub_len (L := L) (i := nxt L i) (e := e) he
  unfold Enc.lD Enc.sD
  rw [sub_cons hi he, List.length_cons, Enc.layD, c1, c2, X.szD_fuel _ (sub L (i + 1) (nxt L i)).length false (sub L (i + 1) (nxt L i)) (by omega) (Nat.le_refl _), X.layD_fuel _ (sub L (i + 1) (nxt L i)).length false (sub L (i + 1) (nxt L i)) (by omega) (Nat.le_refl _), X.layD_fuel _ (sub L (nxt L i) e).length true (sub L (nxt L i) e) (by omega) (Nat.le_refl _)]
theorem Enc.wP_next : X.wP (sub L i e) = X.hd (L[i]'(by omega)) (if X.und (L[i]'(by omega)) = true then 4294967295 else (X.pv (L[i]'(by omega))).length + X.szP (sub L (i + 1) (nxt L i))) ++ X.pv (L[i]'(by omega)) ++ X.wP (sub L (i + 1) (nxt L i)) ++ (if X.und (L[i]'(by omega)) = true then X.em else []) ++ X.wP (sub L (nxt L i) e) := by
  obtain ⟨h1, h2, -, -, -⟩ := h.next hi he
  obtain ⟨c1, c2⟩ := sub_cut h hi he
  have l1 := sub_len (L := L) (i := i + 1) (e := e) he
  have l2 := sub_len (L := L) (i := i + 1) (e := nxt L i) (by omega)
  have l3 := sub_len (L := L) (i := nxt L i) (e := e) he
  unfold Enc.wP
  rw [sub_cons hi he, List.length_cons, Enc.wrP, c1, c2, X.wrP_fuel _ (sub L (i + 1) (nxt L i)).length (sub L (i + 1) (nxt L i)) (by omega) (Nat.le_refl _), X.wrP_fuel _ (sub L (nxt L i) e).length (sub L (nxt L i) e) (by omega) (Nat.le_refl _)]
theorem Enc.szP_next : X.szP (sub L i e) = X.sz1 (L[i]'(by omega)) + X.szP (sub L (i + 1) (nxt L i)) + X.szP (sub L (nxt L i) e) := by
  obtain ⟨c1, c2⟩ := sub_cut h hi he
  rw [sub_cons hi he, Enc.szP, X.szP_cut (sub L (i + 1) e) (goN (sub L (i + 1) e) (L[i]'(by omega)).n.toNat), c1, c2]
  omega
end
theorem Enc.szP_snoc (X : Enc) {L : List Nd} {i : Nat} (hi : i < L.length) : X.szP (L.take (i + 1)) = X.szP (L.take i) + X.sz1 (L[i]'hi) := by
  rw [X.szP_cut (L.take (i + 1)) i, List.take_take, Nat.min_eq_left (by omega)]
  congr 1
  have : (L.take (i + 1)).drop i = [L[i]'hi] := by
    have := sub_cons (L := L) (i := i) (e := i + 1) (by omega) (by omega)
    rw [sub_nil (Nat.le_refl _)] at this
    exact this
  rw [this]
  show X.sz1 _ + 0 = _
  omega
theorem Enc.szP_le (X : Enc) (M : List Nd) (j : Nat) : X.szP (M.take j) ≤ X.szP M ∧ X.szP (M.drop j) ≤ X.szP M := by
  have := X.szP_cut M j
  omega

/-- Part of a list that lies there. -/
theorem NV.part {w : World} {b off n cap : Nat} {L : List Nd} (h : NV w (some ⟨b, off, none⟩) n cap L) {i e : Nat} (hie : i ≤ e) (he : e ≤ n) (z : Nat) (hz : i < e → z = off + i * 4) : NV w (some ⟨b, z, none⟩) (e - i) (cap - i) (sub L i e) := by
  have hl := h.len
  have hr := h.room
  have hs := h.small
  refine ⟨by rw [sub_len (by omega)], by omega, by omega, fun hp => ?_, fun x hx => h.num x (sub_mem hx)⟩
  obtain ⟨b', off', ha, hn⟩ := h.lies (by omega)
  cases ha
  refine ⟨b, z, rfl, fun j hj => ?_⟩
  rw [sub_len (by omega)] at hj
  have hg : (sub L i e)[j]'(by rw [sub_len (by omega)]; exact hj) = L[i + j]'(by omega) := by
    unfold sub
    rw [List.getElem_drop, List.getElem_take]
  rw [hg, hz (by omega)]
  have := hn (i + j) (by omega)
  rw [show off + i * 4 + j * 4 = off + (i + j) * 4 by omega]
  exact this
end Go.Proofs.YtfoodjhffehgpaaGreatDoor
end

section
/-
  DERIVED. Numbers, tags and plain heads laid down: the program's.
-/
namespace Go.Proofs.YtfoodjhffehgpaaGreatDoor
open Go Go.Proofs Go.RowKit
open Wk (Nd NV goN)

set_option maxRecDepth 100000 in
set_option maxHeartbeats 2000000 in
theorem put_any (w : World) (base : Nat) (v : Value) (ys : List UInt8) (k n : Nat) (hk : k ≤ 4) (hn : n < 4294967296) (hown : Ob base w v ys) (hb : base ≤ w.heap.size) (hl : ys.length ≤ 50000000) :
    Calls Tryz.prog 94 #[v, .int .i64 (k : Int), .int .u32 (n : Int)] w fun e w' => ∃ u, e = .returned u ∧ Hid (Ob base w' u (ys ++ le k n)) ∧ Hid (By base w w') := by
  have HO : Hid (Ob base w v ys ∧ base ≤ w.heap.size) := ⟨hown, hb⟩
  clear hown hb
  go_enter Tryz.func94, Tryz.ntmps94
  go_wp2
  go_loopw [0, 2, 8] (fun x0 x2 x8 wr => ∃ i : Nat, x8 = .int .i64 (i : Int) ∧ x2 = .int .u32 ((n / 256 ^ i : Nat) : Int) ∧ i ≤ k ∧ Hid (Ob base wr x0 (ys ++ le i n) ∧ By base w wr)) (fun _ _ x8 _ => k - (intOf x8).toNat)
  case atStart => exact ⟨0, rfl, by simp, by omega, by simpa [le] using HO.out.1, By.refl _ _⟩
  case round =>
    obtain ⟨i, rfl, rfl, hi, HI⟩ := hrel
    by_cases hlt : i < k
    · obtain ⟨m, hm⟩ : ∃ m, n / 256 ^ i = m := ⟨_, rfl⟩
      have hml : m < 4294967296 := by rw [← hm]; exact Nat.lt_of_le_of_lt (Nat.div_le_self _ _) hn
      have HS : Hid (le (i + 1) n = le i n ++ [UInt8.ofNat m]) := by show _ = _; rw [le_snoc, hm]
      have HD : Hid (n / 256 ^ (i + 1) = m / 256) := by show _ = _; rw [Nat.pow_succ, ← Nat.div_div_eq_div_mul, hm]
      have hI : (i : Int) < (k : Int) := by omega
      rw [hm]
      clear hm
      go_wp2_with (at_builtin; refine StopB.out ?_)
      have hb1 : Below wr.heap.size wr (wr.alloc (.cells #[.int .u8 ((m : Int) % 256)] 5)) := (Below.refl _ _).alloc (Nat.le_refl _) _
      have hbb : base ≤ wr.heap.size := Nat.le_trans HO.out.2 HI.out.2.size
      refine ⟨app_bytes rfl (.tmp 10) (.tmp 13) rfl base _ _ rfl (HI.out.1.on hb1) ⟨wr.heap.size, 0, none⟩ 1 1 [UInt8.ofNat m] rfl rfl (news_b rfl _ _ (by simp [bvs]) _) (by rw [List.length_append, le_len]; omega) (Nat.le_trans hbb hb1.size) ?_⟩
      intro u W2 ho hby
      have HI2 : Hid (Ob base W2 u (ys ++ le (i + 1) n) ∧ By base w W2) := ⟨by rw [HS.out, ← List.append_assoc]; exact ho, HI.out.2.trans ((By.of hb1 hbb).trans hby)⟩
      clear ho hby hb1
      go_wp2
      go_roundw
      case rel => exact ⟨i + 1, by go_num, by rw [HD.out]; go_num, by omega, HI2⟩
      case measure => simp [intOf]; omega
    · obtain rfl : i = k := by omega
      have hI : ¬ (i : Int) < (i : Int) := by omega
      go_wp2
      go_ret
      exact ⟨_, rfl, HI.out.1, HI.out.2⟩
theorem put2_any (w : World) (base : Nat) (v : Value) (ys : List UInt8) (n : Nat) (hn : n < 4294967296) (hown : Ob base w v ys) (hb : base ≤ w.heap.size) (hl : ys.length ≤ 50000000) :
    Calls Tryz.prog 94 #[v, .int .i64 2, .int .u32 (n : Int)] w fun e w' => ∃ u, e = .returned u ∧ Hid (Ob base w' u (ys ++ le 2 n)) ∧ Hid (By base w w') := put_any w base v ys 2 n (by decide) hn hown hb hl
theorem put4_any (w : World) (base : Nat) (v : Value) (ys : List UInt8) (n : Nat) (hn : n < 4294967296) (hown : Ob base w v ys) (hb : base ≤ w.heap.size) (hl : ys.length ≤ 50000000) :
    Calls Tryz.prog 94 #[v, .int .i64 4, .int .u32 (n : Int)] w fun e w' => ∃ u, e = .returned u ∧ Hid (Ob base w' u (ys ++ le 4 n)) ∧ Hid (By base w w') := put_any w base v ys 4 n (by decide) hn hown hb hl

set_option maxRecDepth 100000 in
theorem putTag_any (w : World) (base : Nat) (v : Value) (ys : List UInt8) (t : Nat) (ht : t < 4294967296) (hown : Ob base w v ys) (hb : base ≤ w.heap.size) (hl : ys.length ≤ 40000000) :
    Calls Tryz.prog 95 #[v, .int .u32 (t : Int)] w fun e w' => ∃ u, e = .returned u ∧ Hid (Ob base w' u (ys ++ tagL t)) ∧ Hid (By base w w') := by
  have c1 := put2_any w base v ys (t / 65536) (by omega) hown hb (by omega)
  have HB : Hid (base ≤ w.heap.size) := hb
  have hsh : ((t / 65536 : Nat) : Int) = (t : Int) / 65536 := by omega
  rw [hsh] at c1
  clear hown hb hsh
  go_enter Tryz.func95, Tryz.ntmps95
  go_wp2_with (go_at_call 94; refine StopB.out ?_)
  refine ⟨Calls.mono c1 ?_⟩
  rintro e W1 ⟨u1, rfl, ho1, hb1⟩
  clear c1
  go_wp2_with (go_at_call 94; refine StopB.out ?_)
  refine ⟨Calls.mono (put2_any W1 base u1 _ t ht ho1.out (Nat.le_trans HB.out hb1.out.size) (by rw [List.length_append, le_len]; omega)) ?_⟩
  rintro e W2 ⟨u2, rfl, ho2, hb2⟩
  go_wp2
  go_ret
  exact ⟨_, rfl, by rw [tagL, ← List.append_assoc]; exact ho2.out, hb1.out.trans hb2.out⟩
set_option maxRecDepth 100000 in
theorem putPlain_any (w : World) (base : Nat) (v : Value) (ys : List UInt8) (t n : Nat) (ht : t < 4294967296) (hn : n < 4294967296) (hown : Ob base w v ys) (hb : base ≤ w.heap.size) (hl : ys.length ≤ 30000000) :
    Calls Tryz.prog 80 #[v, .int .u32 (t : Int), .int .u32 (n : Int)] w fun e w' => ∃ u, e = .returned u ∧ Hid (Ob base w' u (ys ++ plL t n)) ∧ Hid (By base w w') := by
  have c1 := putTag_any w base v ys t ht hown hb (by omega)
  have HB : Hid (base ≤ w.heap.size) := hb
  clear hown hb
  go_enter Tryz.func80, Tryz.ntmps80
  go_wp2_with (go_at_call 95; refine StopB.out ?_)
  refine ⟨Calls.mono c1 ?_⟩
  rintro e W1 ⟨u1, rfl, ho1, hb1⟩
  clear c1
  go_wp2_with (go_at_call 94; refine StopB.out ?_)
  refine ⟨Calls.mono (put4_any W1 base u1 _ n hn ho1.out (Nat.le_trans HB.out hb1.out.size) (by rw [List.length_append, tagL_len]; omega)) ?_⟩
  rintro e W2 ⟨u2, rfl, ho2, hb2⟩
  go_wp2
  go_ret
  exact ⟨_, rfl, by rw [plL, ← List.append_assoc]; exact ho2.out, hb1.out.trans hb2.out⟩
end Go.Proofs.YtfoodjhffehgpaaGreatDoor
end

section
/-
  DERIVED. About, letters and the length's length: the program's.
-/
namespace Go.Proofs.YtfoodjhffehgpaaGreatDoor.Rp
open Go Go.Proofs Go.RowKit

theorem I8.put {W : World} {g : Nat} {n0 : ByteArray} {p0 u0 m0 : Int} {t0 c0 q0 l0 : Bool} (h : I8 W g n0 p0 u0 m0 t0 c0 q0 l0) (n : ByteArray) (p u m : Int) (t c q l : Bool) : I8 ((((((((W.setCell ⟨g, 0, none⟩ (.string n)).setCell ⟨g, 1, none⟩ (.int .u8 p)).setCell ⟨g, 2, none⟩ (.int .i64 u)).setCell ⟨g, 3, none⟩ (.int .i64 m)).setCell ⟨g, 4, none⟩ (.bool t)).setCell ⟨g, 5, none⟩ (.bool c)).setCell ⟨g, 6, none⟩ (.bool q)).setCell ⟨g, 7, none⟩ (.bool l)) g n p u m t c q l := by
  have hU := h.sets (.string n) (.int .u8 p) (.int .i64 u) (.int .i64 m) (.bool t) (.bool c) (.bool q) (.bool l)
  simp only at hU
  obtain ⟨u0, u1, u2, u3, u4, u5, u6, u7⟩ := hU
  exact ⟨u0, u1, u2, u3, u4, u5, u6, u7, fun i => by simp only [World.frozen?_setCell]; exact h.cf i⟩

theorem about_fin {V : World} {g : Nat} {n : ByteArray} {p u m : Int} {t c q l b : Bool} (h : I8 V g n p u m t c q l) (tmps : Array Value) (h2 : tmps.getD 2 undef = .pointer (some ⟨g, 0, none⟩)) (h3 : tmps.getD 3 undef = .bool b) :
    (results Tryz.f256 tmps).run Tryz.prog V = .ok (.tuple #[.agg #[.string n, .int .u8 p, .int .i64 u, .int .i64 m, .bool t, .bool c, .bool q, .bool l], .bool b]) V := by
  obtain ⟨c0, c1, c2, c3, c4, c5, c6, c7, _⟩ := h
  rw [results_cell_tmp rfl, h2, h3]
  simp [go_sem, c0, c1, c2, c3, c4, c5, c6, c7]

set_option maxRecDepth 100000 in
theorem about_any (w : World) (v : Int) : Calls Tryz.prog 256 #[.int .i64 v] w fun e w' => e = .returned (.tuple #[infoV (vn v), .bool (decide (1 ≤ v ∧ v ≤ 28))]) ∧ Below w.heap.size w w' := by
  have hb1 : Below w.heap.size w (w.alloc (.cells #[.string ⟨#[]⟩, .int .u8 0, .int .i64 0, .int .i64 0, .bool false, .bool false, .bool false, .bool false] 88)) := (Below.refl _ _).alloc (Nat.le_refl _) _
  obtain ⟨cf, ff, hcf, hff, c⟩ := repOf_open (w.alloc (.cells #[.string ⟨#[]⟩, .int .u8 0, .int .i64 0, .int .i64 0, .bool false, .bool false, .bool false, .bool false] 88)) v
  unfold infoV
  generalize nm (vn v) = n at c ⊢
  generalize pd (vn v) = p at c ⊢
  generalize un (vn v) = u at c ⊢
  generalize mo (vn v) = m at c ⊢
  generalize tx (vn v) = t at c ⊢
  generalize ch (vn v) = c' at c ⊢
  generalize mu (vn v) = q at c ⊢
  generalize lo (vn v) = l at c ⊢
  generalize decide (1 ≤ v ∧ v ≤ 28) = b at c ⊢
  rcases hcf with rfl | ⟨j, rfl⟩ <;> rcases hff with rfl | ⟨j2, rfl⟩
  all_goals go_enter Tryz.func256, Tryz.ntmps256
  all_goals go_wp2_with (go_at_call 93; fail)
  all_goals refine c.mono ?_
  all_goals rintro e W1 ⟨rfl, hb⟩
  all_goals have HZ : Hid (I8 W1 w.heap.size ⟨#[]⟩ 0 0 0 false false false false) := I8.next ⟨by simp, by simp, by simp, by simp, by simp, by simp, by simp, by simp, fun i => by simp⟩ hb (by simp)
  all_goals obtain ⟨z0, z1, z2, z3, z4, z5, z6, z7, zf⟩ := HZ.out
  all_goals have HB : Hid (Below w.heap.size w W1) := hb1.trans (hb.mono (by simp))
  all_goals have hlt : w.heap.size < W1.heap.size := cell_lt z0
  all_goals clear c hb
  all_goals go_wp2
  all_goals exact bodyPost_ret (about_fin (I8.next (HZ.out.put n p u m t c' q l) ((Below.refl _ _).alloc (Nat.le_refl _) _) (by simp; omega)) _ rfl rfl) rfl ⟨rfl, Below.alloc ((((((((HB.out.setCell (p := ⟨w.heap.size, 0, none⟩) (Nat.le_refl _) _).setCell (p := ⟨w.heap.size, 1, none⟩) (Nat.le_refl _) _).setCell (p := ⟨w.heap.size, 2, none⟩) (Nat.le_refl _) _).setCell (p := ⟨w.heap.size, 3, none⟩) (Nat.le_refl _) _).setCell (p := ⟨w.heap.size, 4, none⟩) (Nat.le_refl _) _).setCell (p := ⟨w.heap.size, 5, none⟩) (Nat.le_refl _) _).setCell (p := ⟨w.heap.size, 6, none⟩) (Nat.le_refl _) _).setCell (p := ⟨w.heap.size, 7, none⟩) (Nat.le_refl _) _) (by simp; omega) _⟩


theorem about_open (w : World) (v : Int) : Calls Tryz.prog 256 #[.int .i64 v] w fun e w' => e = .returned (.tuple #[.agg #[.string (nm (vn v)), .int .u8 (pd (vn v)), .int .i64 (un (vn v)), .int .i64 (mo (vn v)), .bool (tx (vn v)), .bool (ch (vn v)), .bool (mu (vn v)), .bool (lo (vn v))], .bool (decide (1 ≤ v ∧ v ≤ 28))]) ∧ Below w.heap.size w w' := about_any w v

set_option maxRecDepth 100000 in
theorem vrword_any (w : World) (v : Int) : Calls Tryz.prog 252 #[.int .i64 v] w fun e w' => e = .returned (.string (nm (vn v))) ∧ Below w.heap.size w w' := by
  obtain ⟨cf, ff, hcf, hff, c⟩ := repOf_open w v
  generalize nm (vn v) = n at c ⊢
  generalize pd (vn v) = p at c
  generalize un (vn v) = u at c
  generalize mo (vn v) = m at c
  generalize tx (vn v) = t at c
  generalize ch (vn v) = c' at c
  generalize mu (vn v) = q at c
  generalize lo (vn v) = l at c
  generalize decide (1 ≤ v ∧ v ≤ 28) = b at c
  rcases hcf with rfl | ⟨j, rfl⟩ <;> rcases hff with rfl | ⟨j2, rfl⟩
  all_goals go_enter Tryz.func252, Tryz.ntmps252
  all_goals go_wp2_with (first | (go_at_call 93; refine c.mono ?_; rintro e W1 ⟨rfl, hb⟩) | fail)
  all_goals go_ret
  all_goals exact ⟨rfl, hb.alloc hb.size _⟩
set_option maxRecDepth 100000 in
theorem long_any (w : World) (v : Int) : Calls Tryz.prog 251 #[.int .i64 v] w fun e w' => e = .returned (.bool (lo (vn v))) ∧ Below w.heap.size w w' := by
  have c := about_open w v
  generalize nm (vn v) = n at c
  generalize pd (vn v) = p at c
  generalize un (vn v) = u at c
  generalize mo (vn v) = m at c
  generalize tx (vn v) = t at c
  generalize ch (vn v) = c' at c
  generalize mu (vn v) = q at c
  generalize lo (vn v) = l at c ⊢
  generalize decide (1 ≤ v ∧ v ≤ 28) = b at c
  go_enter Tryz.func251, Tryz.ntmps251
  go_wp2_with (first | (go_at_call 256; refine c.mono ?_; rintro e W1 ⟨rfl, hb⟩) | fail)
  go_ret
  exact ⟨rfl, hb.alloc hb.size _⟩
end Go.Proofs.YtfoodjhffehgpaaGreatDoor.Rp
end
