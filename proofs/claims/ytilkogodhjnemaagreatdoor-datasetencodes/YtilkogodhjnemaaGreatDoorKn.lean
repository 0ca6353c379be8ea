import Derived.Test.YtilkogodhjnemaaGreatDoorBp
import Derived.Test.YtilkogodhjnemaaGreatDoorRF
import Derived.Test.YtilkogodhjnemaaGreatDoorEa
/-
  DERIVED. Numbers, tags and plain heads laid down: the program's.
-/
namespace Go.Proofs.YtilkogodhjnemaaGreatDoor
open Go Go.Proofs Go.RowKit
open Wk (Nd NV goN)

set_option maxRecDepth 100000 in
set_option maxHeartbeats 2000000 in
theorem put_any (w : World) (base : Nat) (v : Value) (ys : List UInt8) (k n : Nat) (hk : k ≤ 4) (hn : n < 4294967296) (hown : Ob base w v ys) (hb : base ≤ w.heap.size) (hl : ys.length ≤ 50000000) :
    Calls Tryz.prog 57 #[v, .int .i64 (k : Int), .int .u32 (n : Int)] w fun e w' => ∃ u, e = .returned u ∧ Hid (Ob base w' u (ys ++ le k n)) ∧ Hid (By base w w') := by
  have HO : Hid (Ob base w v ys ∧ base ≤ w.heap.size) := ⟨hown, hb⟩
  clear hown hb
  go_enter Tryz.func57, Tryz.ntmps57
  go_wp2
  go_loopw [0, 2, 8] (fun x0 x2 x8 wr => ∃ i : Nat, x8 = .int .i64 (i : Int) ∧ x2 = .int .u32 ((n / 256 ^ i : Nat) : Int) ∧ i ≤ k ∧ Hid (Ob base wr x0 (ys ++ le i n) ∧ By base w wr)) (fun _ _ x8 _ => k - (intOf x8).toNat)
  case atStart => exact ⟨0, rfl, by simp, by omega, by simpa [le] using HO.out.1, By.refl _ _⟩
  case round =>
    obtain ⟨i, rfl, rfl, hi, HI⟩ := hrel
    by_cases hlt : i < k
    · obtain ⟨m, hm⟩ : ∃ m, n / 256 ^ i = m := ⟨_, rfl⟩
      have hml : m < 4294967296 := by rw [← hm]; exact Nat.lt_of_le_of_lt (Nat.div_le_self _ _) hn
      have HS : Hid (le (i + 1) n = le i n ++ [UInt8.ofNat m]) := by show _ = _; rw [le_snoc, hm]
      have HD : Hid (n / 256 ^ (i + 1) = m / 256) := by show _ = _; rw [Nat.pow_succ, ← Nat.div_div_eq_div_mul, hm]
      have hI : (i : Int) < (k : Int) := by omega
      rw [hm]
      clear hm
      go_wp2_with (at_builtin; refine StopB.out ?_)
      have hb1 : Below wr.heap.size wr (wr.alloc (.cells #[.int .u8 ((m : Int) % 256)] 5)) := (Below.refl _ _).alloc (Nat.le_refl _) _
      have hbb : base ≤ wr.heap.size := Nat.le_trans HO.out.2 HI.out.2.size
      refine ⟨app_bytes rfl (.tmp 10) (.tmp 13) rfl base _ _ rfl (HI.out.1.on hb1) ⟨wr.heap.size, 0, none⟩ 1 1 [UInt8.ofNat m] rfl rfl (news_b rfl _ _ (by simp [bvs]) _) (by rw [List.length_append, le_len]; omega) (Nat.le_trans hbb hb1.size) ?_⟩
      intro u W2 ho hby
      have HI2 : Hid (Ob base W2 u (ys ++ le (i + 1) n) ∧ By base w W2) := ⟨by rw [HS.out, ← List.append_assoc]; exact ho, HI.out.2.trans ((By.of hb1 hbb).trans hby)⟩
      clear ho hby hb1
      go_wp2
      go_roundw
      case rel => exact ⟨i + 1, by go_num, by rw [HD.out]; go_num, by omega, HI2⟩
      case measure => simp [intOf]; omega
    · obtain rfl : i = k := by omega
      have hI : ¬ (i : Int) < (i : Int) := by omega
      go_wp2
      go_ret
      exact ⟨_, rfl, HI.out.1, HI.out.2⟩
theorem put2_any (w : World) (base : Nat) (v : Value) (ys : List UInt8) (n : Nat) (hn : n < 4294967296) (hown : Ob base w v ys) (hb : base ≤ w.heap.size) (hl : ys.length ≤ 50000000) :
    Calls Tryz.prog 57 #[v, .int .i64 2, .int .u32 (n : Int)] w fun e w' => ∃ u, e = .returned u ∧ Hid (Ob base w' u (ys ++ le 2 n)) ∧ Hid (By base w w') := put_any w base v ys 2 n (by decide) hn hown hb hl
theorem put4_any (w : World) (base : Nat) (v : Value) (ys : List UInt8) (n : Nat) (hn : n < 4294967296) (hown : Ob base w v ys) (hb : base ≤ w.heap.size) (hl : ys.length ≤ 50000000) :
    Calls Tryz.prog 57 #[v, .int .i64 4, .int .u32 (n : Int)] w fun e w' => ∃ u, e = .returned u ∧ Hid (Ob base w' u (ys ++ le 4 n)) ∧ Hid (By base w w') := put_any w base v ys 4 n (by decide) hn hown hb hl

set_option maxRecDepth 100000 in
theorem putTag_any (w : World) (base : Nat) (v : Value) (ys : List UInt8) (t : Nat) (ht : t < 4294967296) (hown : Ob base w v ys) (hb : base ≤ w.heap.size) (hl : ys.length ≤ 40000000) :
    Calls Tryz.prog 58 #[v, .int .u32 (t : Int)] w fun e w' => ∃ u, e = .returned u ∧ Hid (Ob base w' u (ys ++ tagL t)) ∧ Hid (By base w w') := by
  have c1 := put2_any w base v ys (t / 65536) (by omega) hown hb (by omega)
  have HB : Hid (base ≤ w.heap.size) := hb
  have hsh : ((t / 65536 : Nat) : Int) = (t : Int) / 65536 := by omega
  rw [hsh] at c1
  clear hown hb hsh
  go_enter Tryz.func58, Tryz.ntmps58
  go_wp2_with (go_at_call 57; refine StopB.out ?_)
  refine ⟨Calls.mono c1 ?_⟩
  rintro e W1 ⟨u1, rfl, ho1, hb1⟩
  clear c1
  go_wp2_with (go_at_call 57; refine StopB.out ?_)
  refine ⟨Calls.mono (put2_any W1 base u1 _ t ht ho1.out (Nat.le_trans HB.out hb1.out.size) (by rw [List.length_append, le_len]; omega)) ?_⟩
  rintro e W2 ⟨u2, rfl, ho2, hb2⟩
  go_wp2
  go_ret
  exact ⟨_, rfl, by rw [tagL, ← List.append_assoc]; exact ho2.out, hb1.out.trans hb2.out⟩
set_option maxRecDepth 100000 in
theorem putPlain_any (w : World) (base : Nat) (v : Value) (ys : List UInt8) (t n : Nat) (ht : t < 4294967296) (hn : n < 4294967296) (hown : Ob base w v ys) (hb : base ≤ w.heap.size) (hl : ys.length ≤ 30000000) :
    Calls Tryz.prog 43 #[v, .int .u32 (t : Int), .int .u32 (n : Int)] w fun e w' => ∃ u, e = .returned u ∧ Hid (Ob base w' u (ys ++ plL t n)) ∧ Hid (By base w w') := by
  have c1 := putTag_any w base v ys t ht hown hb (by omega)
  have HB : Hid (base ≤ w.heap.size) := hb
  clear hown hb
  go_enter Tryz.func43, Tryz.ntmps43
  go_wp2_with (go_at_call 58; refine StopB.out ?_)
  refine ⟨Calls.mono c1 ?_⟩
  rintro e W1 ⟨u1, rfl, ho1, hb1⟩
  clear c1
  go_wp2_with (go_at_call 57; refine StopB.out ?_)
  refine ⟨Calls.mono (put4_any W1 base u1 _ n hn ho1.out (Nat.le_trans HB.out hb1.out.size) (by rw [List.length_append, tagL_len]; omega)) ?_⟩
  rintro e W2 ⟨u2, rfl, ho2, hb2⟩
  go_wp2
  go_ret
  exact ⟨_, rfl, by rw [plL, ← List.append_assoc]; exact ho2.out, hb1.out.trans hb2.out⟩
end Go.Proofs.YtilkogodhjnemaaGreatDoor

/-
  DERIVED. About, letters and the length's length: the program's.
-/
namespace Go.Proofs.YtilkogodhjnemaaGreatDoor.Rp
open Go Go.Proofs Go.RowKit

theorem I8.put {W : World} {g : Nat} {n0 : ByteArray} {p0 u0 m0 : Int} {t0 c0 q0 l0 : Bool} (h : I8 W g n0 p0 u0 m0 t0 c0 q0 l0) (n : ByteArray) (p u m : Int) (t c q l : Bool) : I8 ((((((((W.setCell ⟨g, 0, none⟩ (.string n)).setCell ⟨g, 1, none⟩ (.int .u8 p)).setCell ⟨g, 2, none⟩ (.int .i64 u)).setCell ⟨g, 3, none⟩ (.int .i64 m)).setCell ⟨g, 4, none⟩ (.bool t)).setCell ⟨g, 5, none⟩ (.bool c)).setCell ⟨g, 6, none⟩ (.bool q)).setCell ⟨g, 7, none⟩ (.bool l)) g n p u m t c q l := by
  have hU := h.sets (.string n) (.int .u8 p) (.int .i64 u) (.int .i64 m) (.bool t) (.bool c) (.bool q) (.bool l)
  simp only at hU
  obtain ⟨u0, u1, u2, u3, u4, u5, u6, u7⟩ := hU
  exact ⟨u0, u1, u2, u3, u4, u5, u6, u7, fun i => by simp only [World.frozen?_setCell]; exact h.cf i⟩

theorem about_fin {V : World} {g : Nat} {n : ByteArray} {p u m : Int} {t c q l b : Bool} (h : I8 V g n p u m t c q l) (tmps : Array Value) (h2 : tmps.getD 2 undef = .pointer (some ⟨g, 0, none⟩)) (h3 : tmps.getD 3 undef = .bool b) :
    (results Tryz.f226 tmps).run Tryz.prog V = .ok (.tuple #[.agg #[.string n, .int .u8 p, .int .i64 u, .int .i64 m, .bool t, .bool c, .bool q, .bool l], .bool b]) V := by
  obtain ⟨c0, c1, c2, c3, c4, c5, c6, c7, _⟩ := h
  rw [results_cell_tmp rfl, h2, h3]
  simp [go_sem, c0, c1, c2, c3, c4, c5, c6, c7]

set_option maxRecDepth 100000 in
theorem about_any (w : World) (v : Int) : Calls Tryz.prog 226 #[.int .i64 v] w fun e w' => e = .returned (.tuple #[infoV (vn v), .bool (decide (1 ≤ v ∧ v ≤ 28))]) ∧ Below w.heap.size w w' := by
  have hb1 : Below w.heap.size w (w.alloc (.cells #[.string ⟨#[]⟩, .int .u8 0, .int .i64 0, .int .i64 0, .bool false, .bool false, .bool false, .bool false] 116)) := (Below.refl _ _).alloc (Nat.le_refl _) _
  obtain ⟨cf, ff, hcf, hff, c⟩ := repOf_open (w.alloc (.cells #[.string ⟨#[]⟩, .int .u8 0, .int .i64 0, .int .i64 0, .bool false, .bool false, .bool false, .bool false] 116)) v
  unfold infoV
  generalize nm (vn v) = n at c ⊢
  generalize pd (vn v) = p at c ⊢
  generalize un (vn v) = u at c ⊢
  generalize mo (vn v) = m at c ⊢
  generalize tx (vn v) = t at c ⊢
  generalize ch (vn v) = c' at c ⊢
  generalize mu (vn v) = q at c ⊢
  generalize lo (vn v) = l at c ⊢
  generalize decide (1 ≤ v ∧ v ≤ 28) = b at c ⊢
  rcases hcf with rfl | ⟨j, rfl⟩ <;> rcases hff with rfl | ⟨j2, rfl⟩
  all_goals go_enter Tryz.func226, Tryz.ntmps226
  all_goals go_wp2_with (go_at_call 56; fail)
  all_goals refine c.mono ?_
  all_goals rintro e W1 ⟨rfl, hb⟩
  all_goals have HZ : Hid (I8 W1 w.heap.size ⟨#[]⟩ 0 0 0 false false false false) := I8.next ⟨by simp, by simp, by simp, by simp, by simp, by simp, by simp, by simp, fun i => by simp⟩ hb (by simp)
  all_goals obtain ⟨z0, z1, z2, z3, z4, z5, z6, z7, zf⟩ := HZ.out
  all_goals have HB : Hid (Below w.heap.size w W1) := hb1.trans (hb.mono (by simp))
  all_goals have hlt : w.heap.size < W1.heap.size := cell_lt z0
  all_goals clear c hb
  all_goals go_wp2
  all_goals exact bodyPost_ret (about_fin (I8.next (HZ.out.put n p u m t c' q l) ((Below.refl _ _).alloc (Nat.le_refl _) _) (by simp; omega)) _ rfl rfl) rfl ⟨rfl, Below.alloc ((((((((HB.out.setCell (p := ⟨w.heap.size, 0, none⟩) (Nat.le_refl _) _).setCell (p := ⟨w.heap.size, 1, none⟩) (Nat.le_refl _) _).setCell (p := ⟨w.heap.size, 2, none⟩) (Nat.le_refl _) _).setCell (p := ⟨w.heap.size, 3, none⟩) (Nat.le_refl _) _).setCell (p := ⟨w.heap.size, 4, none⟩) (Nat.le_refl _) _).setCell (p := ⟨w.heap.size, 5, none⟩) (Nat.le_refl _) _).setCell (p := ⟨w.heap.size, 6, none⟩) (Nat.le_refl _) _).setCell (p := ⟨w.heap.size, 7, none⟩) (Nat.le_refl _) _) (by simp; omega) _⟩


theorem about_open (w : World) (v : Int) : Calls Tryz.prog 226 #[.int .i64 v] w fun e w' => e = .returned (.tuple #[.agg #[.string (nm (vn v)), .int .u8 (pd (vn v)), .int .i64 (un (vn v)), .int .i64 (mo (vn v)), .bool (tx (vn v)), .bool (ch (vn v)), .bool (mu (vn v)), .bool (lo (vn v))], .bool (decide (1 ≤ v ∧ v ≤ 28))]) ∧ Below w.heap.size w w' := about_any w v

set_option maxRecDepth 100000 in
theorem vrword_any (w : World) (v : Int) : Calls Tryz.prog 225 #[.int .i64 v] w fun e w' => e = .returned (.string (nm (vn v))) ∧ Below w.heap.size w w' := by
  obtain ⟨cf, ff, hcf, hff, c⟩ := repOf_open w v
  generalize nm (vn v) = n at c ⊢
  generalize pd (vn v) = p at c
  generalize un (vn v) = u at c
  generalize mo (vn v) = m at c
  generalize tx (vn v) = t at c
  generalize ch (vn v) = c' at c
  generalize mu (vn v) = q at c
  generalize lo (vn v) = l at c
  generalize decide (1 ≤ v ∧ v ≤ 28) = b at c
  rcases hcf with rfl | ⟨j, rfl⟩ <;> rcases hff with rfl | ⟨j2, rfl⟩
  all_goals go_enter Tryz.func225, Tryz.ntmps225
  all_goals go_wp2_with (first | (go_at_call 56; refine c.mono ?_; rintro e W1 ⟨rfl, hb⟩) | fail)
  all_goals go_ret
  all_goals exact ⟨rfl, hb.alloc hb.size _⟩
set_option maxRecDepth 100000 in
theorem long_any (w : World) (v : Int) : Calls Tryz.prog 224 #[.int .i64 v] w fun e w' => e = .returned (.bool (lo (vn v))) ∧ Below w.heap.size w w' := by
  have c := about_open w v
  generalize nm (vn v) = n at c
  generalize pd (vn v) = p at c
  generalize un (vn v) = u at c
  generalize mo (vn v) = m at c
  generalize tx (vn v) = t at c
  generalize ch (vn v) = c' at c
  generalize mu (vn v) = q at c
  generalize lo (vn v) = l at c ⊢
  generalize decide (1 ≤ v ∧ v ≤ 28) = b at c
  go_enter Tryz.func224, Tryz.ntmps224
  go_wp2_with (first | (go_at_call 226; refine c.mono ?_; rintro e W1 ⟨rfl, hb⟩) | fail)
  go_ret
  exact ⟨rfl, hb.alloc hb.size _⟩
end Go.Proofs.YtilkogodhjnemaaGreatDoor.Rp

/-
  DERIVED. Is a tag known?
-/
namespace Go.Proofs.YtilkogodhjnemaaGreatDoor
open Go Go.Proofs Go.RowKit

set_option maxRecDepth 100000 in
theorem known_any (w : World) (t : Nat) (ht : t < 4294967296) : Calls Tryz.prog 219 #[.int .u32 (t : Int)] w fun e w' => e = .returned (.bool (Tb.docF t (Tb.upTo 10)).isSome) ∧ Below w.heap.size w w' := by
  have c32 := Tb.find_any w t ht
  generalize Tb.docF t (Tb.upTo 10) = O at c32 ⊢
  generalize Tb.eT O = e0 at c32
  generalize Tb.eM O = e1 at c32
  generalize Tb.eV O = e2 at c32
  generalize Tb.eS O = e3 at c32
  generalize Tb.eL O = e4 at c32
  generalize Tb.eN O = e5 at c32
  generalize O.isSome = kn at c32 ⊢
  go_enter Tryz.func219, Tryz.ntmps219
  go_wp2_with (first | (go_at_call 75; refine c32.mono ?_; rintro e W2 ⟨rfl, hb2⟩) | fail)
  go_ret
  exact ⟨rfl, by first | exact hb2 | exact hb2.alloc hb2.size _⟩
end Go.Proofs.YtilkogodhjnemaaGreatDoor
