import Derived.Test.YtgdemlebohlolaaGreatDoorQTc
import Derived.Lib.Bytealg
import Derived.Test.YtgdemlebohlolaaGreatDoorQG
import Derived.Shelf.Strconv.Itoa3
import Derived.Shelf.Strings.Repeat
/-
  DERIVED. One byte of these, if it stands ahead.
-/
namespace Go.Proofs.YtgdemlebohlolaaGreatDoor.Tm
open Go Go.Proofs Go.RowKit

set_option maxRecDepth 100000 in
theorem idx95_any (w : World) (s : ByteArray) (c : Int) : Calls Tryz.prog 72 #[.string s, .int .u8 c] w fun e w' => e = .returned (.int .i64 (Lib.indexByte s.data.toList c.toNat.toUInt8)) ∧ w = w' := by
  go_enter Tryz.func72, Tryz.ntmps72
  go_wp2
  rw [run_callFunc_extern Tryz.func91 (by kernel_rfl) (by kernel_rfl) (by kernel_rfl) (e := Extern.BytealgIndexByte.indexByte) (by kernel_rfl), Lib.run_indexByteString]
  simp only [Result.andThen]
  rw [Oper.upon_value]
  go_wp2
  go_ret
  exact ⟨rfl, rfl⟩

theorem idx88_any (w : World) (s : ByteArray) (c : Int) : Calls Tryz.prog 167 #[.string s, .int .u8 c] w fun e w' => e = .returned (.int .i64 (Lib.indexByte s.data.toList c.toNat.toUInt8)) ∧ w = w' := by
  have h := idx95_any w s c
  go_enter Tryz.func167, Tryz.ntmps167
  go_wp2_with (go_at_call 72; refine h.mono ?_; rintro e w' ⟨rfl, rfl⟩)
  go_ret
  exact ⟨rfl, rfl⟩

theorem nx_lt (s : ByteArray) (a : Nat) (b : Bool) : nx s a b < 256 := by
  unfold nx
  split
  · omega
  · exact UInt8.toNat_lt _
theorem nx_pos {s : ByteArray} {a : Nat} {b : Bool} (h : nx s a b ≠ 0) : b = false ∧ a < s.size := by
  unfold nx at h
  split at h
  · exact absurd rfl h
  · rename_i hn
    simp at hn
    exact ⟨by cases b with | true => simp at hn | false => rfl, hn.2⟩

def PostT (w : World) (q : Nat) (f : Nat → Value) (s : ByteArray) (a : Nat) (b : Bool) (x : Nat) (e : Ending) (w' : World) : Prop := ∃ f', e = .returned (.int .u8 (x : Int)) ∧ Cur w' q f' s a b ∧ (∀ j, 3 ≤ j → f' j = f j) ∧ w.grownBy w' (some q)

set_option maxRecDepth 100000 in
set_option maxHeartbeats 1000000 in
theorem take_no (w : World) (q : Nat) (f : Nat → Value) (s : ByteArray) (a : Nat) (b : Bool) (h : Cur w q f s a b) (ha : a ≤ s.size) (u : ByteArray) (hI : Lib.indexByte u.data.toList (nx s a b).toUInt8 < 0) :
    Calls Tryz.prog 151 #[.pointer (some ⟨q, 0, none⟩), .string u] w (PostT w q f s a b 0) := by
  have c87 := next_any w q f s a b h ha
  have c88 := fun W => idx88_any W u (nx s a b : Nat)
  rw [Int.toNat_natCast] at c88
  generalize Lib.indexByte u.data.toList (nx s a b).toUInt8 = I at *
  generalize nx s a b = x at *
  have HC : Hid (Cur w q f s a b) := h
  clear h
  go_enter Tryz.func151, Tryz.ntmps151
  go_wp2_with (first | (go_at_call 172; refine c87.mono ?_; rintro e w' ⟨rfl, n, rfl⟩) | (go_at_call 167; refine (c88 _).mono ?_; rintro e w' ⟨rfl, rfl⟩))
  go_ret
  exact ⟨f, rfl, ⟨HC.out.row, HC.out.c0, HC.out.c1, HC.out.c2⟩, fun _ _ => rfl, grown_drewN (grown_refl _ _) n⟩

set_option maxRecDepth 100000 in
set_option maxHeartbeats 1000000 in
theorem take_yes (w : World) (q : Nat) (f : Nat → Value) (s : ByteArray) (a : Nat) (b : Bool) (h : Cur w q f s a b) (ha : a ≤ s.size) (hs : s.size ≤ 140737488351232) (u : ByteArray) (hI : 0 ≤ Lib.indexByte u.data.toList (nx s a b).toUInt8) :
    Calls Tryz.prog 151 #[.pointer (some ⟨q, 0, none⟩), .string u] w (PostT w q f s (a + 1) b (nx s a b)) := by
  have c87 := next_any w q f s a b h ha
  have c88 := fun W => idx88_any W u (nx s a b : Nat)
  rw [Int.toNat_natCast] at c88
  have hI' : decide (Lib.indexByte u.data.toList (nx s a b).toUInt8 < 0) = false := by simp; omega
  generalize Lib.indexByte u.data.toList (nx s a b).toUInt8 = I at *
  generalize nx s a b = x at *
  obtain ⟨q0, q1, q2⟩ := h.cells
  have qf : ∀ i, w.frozen? ⟨q, i, none⟩ = false := fun i => h.row.frozen i
  have hp63 : (a : Int) + 1 < 9223372036854775807 := by omega
  have HC : Hid (Cur w q f s a b) := h
  have HC2 : Hid (Cur (w.setCell ⟨q, 1, none⟩ (.int .i64 ((a : Int) + 1))) q (up f 1 (.int .i64 ((a : Int) + 1))) s (a + 1) b) := by
    refine ⟨HC.out.row.set 1 _, ?_, rfl, ?_⟩
    · show (if (0 : Nat) = 1 then _ else _) = _; rw [if_neg (by omega)]; exact HC.out.c0
    · show (if (2 : Nat) = 1 then _ else _) = _; rw [if_neg (by omega)]; exact HC.out.c2
  clear h hI
  go_enter Tryz.func151, Tryz.ntmps151
  go_wp2_with (first | (go_at_call 172; refine c87.mono ?_; rintro e w' ⟨rfl, n, rfl⟩) | (go_at_call 167; refine (c88 _).mono ?_; rintro e w' ⟨rfl, rfl⟩))
  go_ret
  exact ⟨_, rfl, ⟨HC2.out.row, HC2.out.c0, HC2.out.c1, HC2.out.c2⟩, fun j hj => up_ne (by omega), grown_set (grown_drewN (grown_refl _ _) n) 1 _⟩

set_option maxRecDepth 100000 in
theorem idx_dot (x : Nat) (h : x < 256) : (x = 46 ∧ 0 ≤ Lib.indexByte (⟨#[46]⟩ : ByteArray).data.toList x.toUInt8) ∨ (x ≠ 46 ∧ Lib.indexByte (⟨#[46]⟩ : ByteArray).data.toList x.toUInt8 < 0) := by
  revert x
  decide +kernel
set_option maxRecDepth 100000 in
theorem idx_sign (x : Nat) (h : x < 256) : ((x = 43 ∨ x = 45) ∧ 0 ≤ Lib.indexByte (⟨#[43, 45]⟩ : ByteArray).data.toList x.toUInt8) ∨ (¬ (x = 43 ∨ x = 45) ∧ Lib.indexByte (⟨#[43, 45]⟩ : ByteArray).data.toList x.toUInt8 < 0) := by
  revert x
  decide +kernel
theorem CkF.next {w w' : World} {q : Nat} {f f' : Nat → Value} {s : ByteArray} {S : Mst} {a : Nat} {b : Bool} (h : CkF w q f s S) (hc : Cur w' q f' s a b) (ha : a ≤ s.size) (hk : ∀ j, 3 ≤ j → f' j = f j) (hg : w.grownBy w' (some q)) : CkF w' q f' s { S with a := a, b := b } :=
  { cur := hc, le := ha, dbt := by rw [hk 3 (by omega)]; exact h.dbt.grown hg, v4 := (hk 4 (by omega)).trans h.v4, v5 := (hk 5 (by omega)).trans h.v5, v6 := (hk 6 (by omega)).trans h.v6, v7 := (hk 7 (by omega)).trans h.v7, v8 := (hk 8 (by omega)).trans h.v8, v9 := (hk 9 (by omega)).trans h.v9, v10 := (hk 10 (by omega)).trans h.v10, v11 := (hk 11 (by omega)).trans h.v11, v12 := (hk 12 (by omega)).trans h.v12, v13 := (hk 13 (by omega)).trans h.v13, v14 := (hk 14 (by omega)).trans h.v14, tab := h.tab.grown hg h.q0, q0 := h.q0 }

theorem CkF.set11 {w : World} {q : Nat} {f : Nat → Value} {s : ByteArray} {S : Mst} (h : CkF w q f s S) (x : Nat) : CkF (w.setCell ⟨q, 11, none⟩ (.int .i64 (x : Int))) q (up f 11 (.int .i64 (x : Int))) s { S with mc := x } :=
  have hg := grown_set (grown_refl w (some q)) 11 (.int .i64 (x : Int))
  { cur := h.cur.set 11 (by omega) _, le := h.le, dbt := by rw [up_ne (by omega)]; exact h.dbt.grown hg, v4 := (up_ne (by omega)).trans h.v4, v5 := (up_ne (by omega)).trans h.v5, v6 := (up_ne (by omega)).trans h.v6, v7 := (up_ne (by omega)).trans h.v7, v8 := (up_ne (by omega)).trans h.v8, v9 := (up_ne (by omega)).trans h.v9, v10 := (up_ne (by omega)).trans h.v10, v11 := up_eq, v12 := (up_ne (by omega)).trans h.v12, v13 := (up_ne (by omega)).trans h.v13, v14 := (up_ne (by omega)).trans h.v14, tab := h.tab.grown hg h.q0, q0 := h.q0 }
theorem CkF.set12 {w : World} {q : Nat} {f : Nat → Value} {s : ByteArray} {S : Mst} (h : CkF w q f s S) (x : Nat) : CkF (w.setCell ⟨q, 12, none⟩ (.int .i64 (x : Int))) q (up f 12 (.int .i64 (x : Int))) s { S with p := x } :=
  have hg := grown_set (grown_refl w (some q)) 12 (.int .i64 (x : Int))
  { cur := h.cur.set 12 (by omega) _, le := h.le, dbt := by rw [up_ne (by omega)]; exact h.dbt.grown hg, v4 := (up_ne (by omega)).trans h.v4, v5 := (up_ne (by omega)).trans h.v5, v6 := (up_ne (by omega)).trans h.v6, v7 := (up_ne (by omega)).trans h.v7, v8 := (up_ne (by omega)).trans h.v8, v9 := (up_ne (by omega)).trans h.v9, v10 := (up_ne (by omega)).trans h.v10, v11 := (up_ne (by omega)).trans h.v11, v12 := up_eq, v13 := (up_ne (by omega)).trans h.v13, v14 := (up_ne (by omega)).trans h.v14, tab := h.tab.grown hg h.q0, q0 := h.q0 }
theorem CkF.set13 {w : World} {q : Nat} {f : Nat → Value} {s : ByteArray} {S : Mst} (h : CkF w q f s S) (x : Bool) : CkF (w.setCell ⟨q, 13, none⟩ (.bool x)) q (up f 13 (.bool x)) s { S with zd := x } :=
  have hg := grown_set (grown_refl w (some q)) 13 (.bool x)
  { cur := h.cur.set 13 (by omega) _, le := h.le, dbt := by rw [up_ne (by omega)]; exact h.dbt.grown hg, v4 := (up_ne (by omega)).trans h.v4, v5 := (up_ne (by omega)).trans h.v5, v6 := (up_ne (by omega)).trans h.v6, v7 := (up_ne (by omega)).trans h.v7, v8 := (up_ne (by omega)).trans h.v8, v9 := (up_ne (by omega)).trans h.v9, v10 := (up_ne (by omega)).trans h.v10, v11 := (up_ne (by omega)).trans h.v11, v12 := (up_ne (by omega)).trans h.v12, v13 := up_eq, v14 := (up_ne (by omega)).trans h.v14, tab := h.tab.grown hg h.q0, q0 := h.q0 }
theorem CkF.set14 {w : World} {q : Nat} {f : Nat → Value} {s : ByteArray} {S : Mst} (h : CkF w q f s S) (x : Int) : CkF (w.setCell ⟨q, 14, none⟩ (.int .i64 x)) q (up f 14 (.int .i64 x)) s { S with z := x } :=
  have hg := grown_set (grown_refl w (some q)) 14 (.int .i64 x)
  { cur := h.cur.set 14 (by omega) _, le := h.le, dbt := by rw [up_ne (by omega)]; exact h.dbt.grown hg, v4 := (up_ne (by omega)).trans h.v4, v5 := (up_ne (by omega)).trans h.v5, v6 := (up_ne (by omega)).trans h.v6, v7 := (up_ne (by omega)).trans h.v7, v8 := (up_ne (by omega)).trans h.v8, v9 := (up_ne (by omega)).trans h.v9, v10 := (up_ne (by omega)).trans h.v10, v11 := (up_ne (by omega)).trans h.v11, v12 := (up_ne (by omega)).trans h.v12, v13 := (up_ne (by omega)).trans h.v13, v14 := up_eq, tab := h.tab.grown hg h.q0, q0 := h.q0 }
theorem CkF.doubt {w w' : World} {q : Nat} {f f' : Nat → Value} {s : ByteArray} {S : Mst} {o : Option (Int × Int)} (h : CkF w q f s S) (hc : Cur w' q f' s S.a S.b) (hk : ∀ j, 4 ≤ j → f' j = f j) (hd : Dbt w' q (f' 3) o) (hg : w.grownBy w' (some q)) : CkF w' q f' s { S with o := o } :=
  { cur := hc, le := h.le, dbt := hd, v4 := (hk 4 (by omega)).trans h.v4, v5 := (hk 5 (by omega)).trans h.v5, v6 := (hk 6 (by omega)).trans h.v6, v7 := (hk 7 (by omega)).trans h.v7, v8 := (hk 8 (by omega)).trans h.v8, v9 := (hk 9 (by omega)).trans h.v9, v10 := (hk 10 (by omega)).trans h.v10, v11 := (hk 11 (by omega)).trans h.v11, v12 := (hk 12 (by omega)).trans h.v12, v13 := (hk 13 (by omega)).trans h.v13, v14 := (hk 14 (by omega)).trans h.v14, tab := h.tab.grown hg h.q0, q0 := h.q0 }
end Go.Proofs.YtgdemlebohlolaaGreatDoor.Tm

/-
  DERIVED. Numbers written with zeros ahead: strconv.Itoa and strings.Repeat, off the shelf.
-/
namespace Go.Proofs.YtgdemlebohlolaaGreatDoor.Tm
open Go Go.Proofs Go.RowKit Go.Shelf

/-- What the shelf's names are here. -/
def repLays_ren : Go.Shelf.Ren := ⟨fun | 105 => 154 | 212 => 173 | 99 => 134 | 165 => 174 | 166 => 175 | 170 => 176 | 169 => 177 | 263 => 187 | 264 => 188 | 206 => 160 | 240 => 189 | 241 => 190 | 276 => 197 | 277 => 198 | n => n, fun | 9 => 9 | 3 => 3 | 4 => 4 | 20 => 20 | 0 => 0 | 46 => 104 | 109 => 158 | 5 => 5 | 72 => 163 | 76 => 164 | 51 => 122 | 146 => 123 | 53 => 171 | 148 => 178 | 70 => 160 | 37 => 161 | 75 => 26 | 127 => 180 | 164 => 186 | 80 => 167 | n => n, fun | n => n⟩
theorem repLays : Go.Proofs.Lays.n105 Tryz.prog repLays_ren := {
  mixed := by kernel_rfl,
  f99 := Tryz.func134.trans (congrArg some (by kernel_rfl)),
  f105 := Tryz.func154.trans (congrArg some (by kernel_rfl)),
  f165 := Tryz.func174.trans (congrArg some (by kernel_rfl)),
  f166 := Tryz.func175.trans (congrArg some (by kernel_rfl)),
  f169 := Tryz.func177.trans (congrArg some (by kernel_rfl)),
  f170 := Tryz.func176.trans (congrArg some (by kernel_rfl)),
  f206 := Tryz.func160.trans (congrArg some (by kernel_rfl)),
  f212 := Tryz.func173.trans (congrArg some (by kernel_rfl)),
  f240 := Tryz.func189.trans (congrArg some (by kernel_rfl)),
  f241 := Tryz.func190.trans (congrArg some (by kernel_rfl)),
  f263 := Tryz.func187.trans (congrArg some (by kernel_rfl)),
  f264 := Tryz.func188.trans (congrArg some (by kernel_rfl)),
  f276 := Tryz.func197.trans (congrArg some (by kernel_rfl)),
  f277 := Tryz.func198.trans (congrArg some (by kernel_rfl)),
  t0 := Tryz.underlying0,
  a0 := Tryz.isAgg0,
  z0 := Tryz.sizeOf0,
  v0 := Tryz.zeroValue0,
  t3 := Tryz.underlying3,
  a3 := Tryz.isAgg3,
  z3 := Tryz.sizeOf3,
  v3 := Tryz.zeroValue3,
  t4 := Tryz.underlying4,
  a4 := Tryz.isAgg4,
  z4 := Tryz.sizeOf4,
  v4 := Tryz.zeroValue4,
  t5 := Tryz.underlying5,
  a5 := Tryz.isAgg5,
  z5 := Tryz.sizeOf5,
  v5 := Tryz.zeroValue5,
  t9 := Tryz.underlying9,
  a9 := Tryz.isAgg9,
  z9 := Tryz.sizeOf9,
  v9 := Tryz.zeroValue9,
  t20 := Tryz.underlying20,
  a20 := Tryz.isAgg20,
  z20 := Tryz.sizeOf20,
  v20 := Tryz.zeroValue20,
  t37 := Tryz.underlying161,
  a37 := Tryz.isAgg161,
  z37 := Tryz.sizeOf161,
  v37 := Tryz.zeroValue161,
  t46 := Tryz.underlying104,
  a46 := Tryz.isAgg104,
  z46 := Tryz.sizeOf104,
  v46 := Tryz.zeroValue104,
  t51 := Tryz.underlying122,
  a51 := Tryz.isAgg122,
  z51 := Tryz.sizeOf122,
  v51 := Tryz.zeroValue122,
  t53 := Tryz.underlying171,
  a53 := Tryz.isAgg171,
  z53 := Tryz.sizeOf171,
  v53 := Tryz.zeroValue171,
  t70 := Tryz.underlying160,
  a70 := Tryz.isAgg160,
  z70 := Tryz.sizeOf160,
  v70 := Tryz.zeroValue160,
  t72 := Tryz.underlying163,
  a72 := Tryz.isAgg163,
  z72 := Tryz.sizeOf163,
  v72 := Tryz.zeroValue163,
  t75 := Tryz.underlying26,
  a75 := Tryz.isAgg26,
  z75 := Tryz.sizeOf26,
  v75 := Tryz.zeroValue26,
  t76 := Tryz.underlying164,
  a76 := Tryz.isAgg164,
  z76 := Tryz.sizeOf164,
  v76 := Tryz.zeroValue164,
  t109 := Tryz.underlying158,
  a109 := Tryz.isAgg158,
  z109 := Tryz.sizeOf158,
  v109 := Tryz.zeroValue158,
  t127 := Tryz.underlying180,
  a127 := Tryz.isAgg180,
  z127 := Tryz.sizeOf180,
  v127 := Tryz.zeroValue180,
  t146 := Tryz.underlying123,
  a146 := Tryz.isAgg123,
  z146 := Tryz.sizeOf123,
  v146 := Tryz.zeroValue123,
  t148 := Tryz.underlying178,
  a148 := Tryz.isAgg178,
  z148 := Tryz.sizeOf178,
  v148 := Tryz.zeroValue178,
  t164 := Tryz.underlying186,
  a164 := Tryz.isAgg186,
  z164 := Tryz.sizeOf186,
  v164 := Tryz.zeroValue186 }

theorem repExtra : Go.Proofs.Builder.Extra Tryz.prog repLays_ren := {
  sizeBuilder := by kernel_rfl,
  liesBuilder := by kernel_rfl,
  t5 := Tryz.underlying5,
  a5 := Tryz.isAgg5,
  z5 := Tryz.sizeOf5,
  v5 := Tryz.zeroValue5,
  infoByte := by kernel_rfl,
  cellsByte := by kernel_rfl,
  sizeByte := by kernel_rfl,
  neB5 := by decide }

/-- A number in so many digits. -/
def pd (n : Nat) : Nat → List UInt8
  | 0 => []
  | k + 1 => pd (n / 10) k ++ [UInt8.ofNat (48 + n % 10)]
theorem pd_len : ∀ (k n : Nat), (pd n k).length = k
  | 0, _ => rfl
  | k + 1, n => by rw [pd, List.length_append, pd_len k]; rfl
theorem pd_zero : ∀ k, pd 0 k = Lib.repeatL [48] k
  | 0 => rfl
  | k + 1 => by
    rw [pd, pd_zero k]
    have : ∀ j, Lib.repeatL ([48] : List UInt8) j ++ [48] = 48 :: Lib.repeatL [48] j := fun j => by
      induction j with
      | zero => rfl
      | succ j ih => rw [Lib.repeatL, List.append_assoc, ih]; rfl
    exact this k
theorem pad_eq : ∀ (k n : Nat), n < 10 ^ k → 1 ≤ k → (Lib.decDigits n).length ≤ k ∧ Lib.repeatL [48] (k - (Lib.decDigits n).length) ++ Lib.decDigits n = pd n k
  | 0, _, _, h => by omega
  | k + 1, n, h, _ => by
    rw [Lib.decDigits]
    by_cases h10 : n < 10
    · rw [dif_pos h10]
      refine ⟨by simp, ?_⟩
      rw [pd, show n / 10 = 0 by omega, pd_zero, show n % 10 = n by omega]
      rfl
    · rw [dif_neg h10]
      have hk : 1 ≤ k := by
        rcases Nat.eq_zero_or_pos k with h0 | h0
        · subst h0; simp at h; omega
        · exact h0
      have ih := pad_eq k (n / 10) (by rw [Nat.pow_succ] at h; omega) hk
      refine ⟨by rw [List.length_append, List.length_singleton]; omega, ?_⟩
      rw [List.length_append, List.length_singleton, show k + 1 - ((Lib.decDigits (n / 10)).length + 1) = k - (Lib.decDigits (n / 10)).length by omega, ← List.append_assoc, ih.2, pd]

def pdB (n k : Nat) : ByteArray := ⟨(pd n k).toArray⟩
theorem pdB_size (n k : Nat) : (pdB n k).size = k := by show (pd n k).toArray.size = k; rw [List.size_toArray, pd_len]

def txt (y m d : Nat) : ByteArray := pdB y 4 ++ pdB m 2 ++ pdB d 2
theorem txt_size (y m d : Nat) : (txt y m d).size = 8 := by unfold txt; rw [ByteArray.size_append, ByteArray.size_append, pdB_size, pdB_size, pdB_size]

end Go.Proofs.YtgdemlebohlolaaGreatDoor.Tm

/-
  DERIVED. A fraction of the second.
-/
namespace Go.Proofs.YtgdemlebohlolaaGreatDoor.Tm
open Go Go.Proofs Go.RowKit Go.Shelf

theorem rep6_any (w : World) (c : Nat) (hc : c ≤ 6) : Calls Tryz.prog 154 #[.string ⟨#[48]⟩, .int .i64 (c : Int)] w fun e w' => e = .returned (.string ⟨(Lib.repeatL [48] c).toArray⟩) ∧ Below w.heap.size w w' :=
  Any.strings_Repeat repLays repExtra ⟨#[48]⟩ c w (by omega) (by show 1 * c ≤ _; omega)

theorem valN_app : ∀ (l l' : List UInt8) (n : Nat), valN (l ++ l') n = valN l' (valN l n)
  | [], _, _ => rfl
  | b :: l, l', n => by rw [List.cons_append, valN, valN_app l l']; rfl
theorem valN_zeros : ∀ (k n : Nat), valN (Lib.repeatL [48] k) n = n * 10 ^ k
  | 0, n => by simp [Lib.repeatL, valN]
  | k + 1, n => by
    have e : Lib.repeatL ([48] : List UInt8) (k + 1) = 48 :: Lib.repeatL [48] k := rfl
    rw [e, valN, valN_zeros k, Nat.pow_succ]
    have : (48 : UInt8).toNat - 48 = 0 := rfl
    rw [this, Nat.add_zero, Nat.mul_comm 10 n, Nat.mul_assoc, Nat.mul_comm 10]

theorem digs_zeros : ∀ k, ∀ b ∈ Lib.repeatL ([48] : List UInt8) k, b = 48
  | 0, b, h => by simp [Lib.repeatL] at h
  | k + 1, b, h => by
    have e : Lib.repeatL ([48] : List UInt8) (k + 1) = 48 :: Lib.repeatL [48] k := rfl
    rw [e] at h
    rcases List.mem_cons.1 h with h | h
    · exact h
    · exact digs_zeros k b h

/-- A fraction, if there is one. -/
def frC (s : ByteArray) (S : Mst) : Nat := cnt s (S.a + 1) 6
def frS (s : ByteArray) (S : Mst) : Mst := { S with a := S.a + 1 + frC s S, b := decide (frC s S < 1), p := S.p + frC s S, mc := nv s (S.a + 1) (frC s S) * 10 ^ (6 - frC s S) }
def fracS (s : ByteArray) (S : Mst) : Mst := if S.p < 3 then S else if nx s S.a S.b = 46 then frS s S else S

set_option maxRecDepth 100000 in
set_option maxHeartbeats 2000000 in
theorem frac_ck {w : World} {q : Nat} {s : ByteArray} {S : Mst} (h : Ck w q s S) (hs : s.size ≤ 140737488351232) (hp : S.p ≤ 100) : Calls Tryz.prog 124 #[.pointer (some ⟨q, 0, none⟩)] w (PostC w q s (fracS s S)) := by
  obtain ⟨f, hf⟩ := h
  have r12 : w.cell? ⟨q, 12, none⟩ = some (.int .i64 (S.p : Int)) := hf.v12 ▸ hf.cur.row.cell (i := 12) (by omega)
  have HF : Hid (CkF w q f s S) := hf
  unfold fracS
  by_cases h3 : S.p < 3
  · rw [if_pos h3]
    have h3I : decide ((S.p : Int) < 3) = true := by simp; omega
    clear hf
    go_enter Tryz.func124, Tryz.ntmps124
    go_wp2
    exact bodyPost_ret (v := .tuple #[]) (by simp [results, go_sem]) rfl ⟨_, rfl, ⟨f, HF.out⟩, grown_refl _ _⟩
  · rw [if_neg h3]
    have h3I : decide ((S.p : Int) < 3) = false := by simp; omega
    by_cases hx : nx s S.a S.b = 46
    · rw [if_pos hx]
      obtain ⟨F, hF⟩ : ∃ F, frS s S = F := ⟨_, rfl⟩
      rw [hF]
      obtain ⟨hSb, hlt⟩ := nx_pos (s := s) (a := S.a) (b := S.b) (by omega)
      have hI := ((idx_dot _ (nx_lt s S.a S.b)).resolve_right (fun h => h.1 (by omega))).2
      have c73 := take_yes w q f s S.a S.b hf.cur hf.le hs _ hI
      rw [hx] at c73
      have hcs : S.a + 1 + frC s S ≤ s.size := cnt_size s 6 (S.a + 1) (by omega)
      have hc6 : frC s S ≤ 6 := cnt_le s 6 (S.a + 1)
      have hFe : { S with a := S.a + 1 + frC s S, b := decide (frC s S < 1), p := S.p + frC s S, mc := nv s (S.a + 1) (frC s S) * 10 ^ (6 - frC s S) } = F := hF
      have hD : Digs (s.extract (S.a + 1) (S.a + 1 + frC s S)) := digs_ext s (S.a + 1) (frC s S) 6 (Nat.le_refl _)
      have hz : (s.extract (S.a + 1) (S.a + 1 + frC s S)).size = frC s S := by rw [ByteArray.size_extract]; omega
      have hD2 : Digs (s.extract (S.a + 1) (S.a + 1 + frC s S) ++ ⟨(Lib.repeatL [48] (6 - frC s S)).toArray⟩) := by
        intro b hb
        rw [ByteArray.data_append, Array.toList_append, List.mem_append] at hb
        rcases hb with hb | hb
        · exact hD b hb
        · have := digs_zeros _ b hb
          subst this
          decide
      have hz0 : (⟨(Lib.repeatL [48] (6 - frC s S)).toArray⟩ : ByteArray).size = 6 - frC s S := by
        show (Lib.repeatL [48] (6 - frC s S)).toArray.size = _
        rw [List.size_toArray, Lib.repeatL_length]
        simp
      have hz2 : (s.extract (S.a + 1) (S.a + 1 + frC s S) ++ ⟨(Lib.repeatL [48] (6 - frC s S)).toArray⟩).size ≤ 8 := by rw [ByteArray.size_append, hz, hz0]; omega
      have hv2 : val (s.extract (S.a + 1) (S.a + 1 + frC s S) ++ ⟨(Lib.repeatL [48] (6 - frC s S)).toArray⟩).data.toList = nv s (S.a + 1) (frC s S) * 10 ^ (6 - frC s S) := by
        rw [ByteArray.data_append, Array.toList_append]
        unfold val
        rw [valN_app]
        exact valN_zeros _ _
      have c75 := fun W => worth_any W _ hD2 hz2
      rw [hv2] at c75
      have c70 := fun W => rep6_any W (6 - frC s S) (by omega)
      have hsub : (6 : Int) - (frC s S : Int) = ((6 - frC s S : Nat) : Int) := by omega
      have c74 := fun W f1 (h1 : Cur W q f1 s (S.a + 1) false) => digits_any W q f1 s (S.a + 1) false h1 (by omega) hs 1 6 (by omega) (by omega) (frC s S) rfl
      generalize nv s (S.a + 1) (frC s S) * 10 ^ (6 - frC s S) = MC at *
      generalize (⟨(Lib.repeatL [48] (6 - frC s S)).toArray⟩ : ByteArray) = ZS at *
      generalize s.extract (S.a + 1) (S.a + 1 + frC s S) = DS at *
      generalize 6 - frC s S = K6 at *
      generalize frC s S = c at *
      have HFe : Hid _ := hFe
      clear hf hI hD hD2 hv2 hFe hF h3
      go_enter Tryz.func124, Tryz.ntmps124
      go_wp2_with (go_at_call 151; refine Stop.mk ?_)
      refine Stop.out (c73.mono ?_)
      rintro e W1 ⟨f1, rfl, hc1, hk1, hg1⟩
      have K1 : Hid (CkF W1 q f1 s { S with a := S.a + 1, b := S.b }) := HF.out.next hc1 (by omega) hk1 hg1
      have G1 : Hid (w.grownBy W1 (some q)) := hg1
      rw [hSb] at hc1
      have c74' := c74 W1 f1 hc1
      rw [Bool.false_or] at c74'
      clear hc1 hk1 hg1 c73 HF c74
      go_wp2_with (go_at_call 152; refine Stop.mk ?_)
      refine Stop.out (c74'.mono ?_)
      rintro e W2 ⟨f2, rfl, hc2, hk2, hg2⟩
      have K2 := CkF.next (S := { S with a := S.a + 1, b := S.b }) K1.out hc2 hcs hk2 hg2
      have G2 : Hid (w.grownBy W2 (some q)) := G1.out.trans hg2
      have K3 := K2.set12 (S.p + c)
      have G3 : w.grownBy _ (some q) := grown_set G2.out 12 (.int .i64 ((S.p + c : Nat) : Int))
      have d12 : W2.cell? ⟨q, 12, none⟩ = some (.int .i64 (S.p : Int)) := by have := K2.cur.row.cell (i := 12) (by omega); rw [K2.v12] at this; exact this
      have df := fun i => K2.cur.row.frozen i
      obtain ⟨W3, hW3⟩ : ∃ W3, W2.setCell ⟨q, 12, none⟩ (.int .i64 ((S.p + c : Nat) : Int)) = W3 := ⟨_, rfl⟩
      rw [hW3] at K3 G3
      have hW3' : W2.setCell ⟨q, 12, none⟩ (.int .i64 ((S.p : Int) + (c : Int))) = W3 := by rw [← hW3]; congr 2
      have K3' : Hid _ := K3
      have G3' : Hid _ := G3
      clear hc2 hk2 hg2 c74' K1 G1 K2 G2 K3 G3 hW3
      go_wp2_with (go_at_call 154; refine Stop.mk ?_)
      refine Stop.out ((c70 _).mono ?_)
      rintro e W4 ⟨rfl, hb4⟩
      have K4 := K3'.out.on hb4
      have G4 : Hid (w.grownBy W4 (some q)) := grown_below G3'.out hb4
      have K4' : Hid _ := K4
      clear c70 hb4 K3' G3' K4
      go_wp2_with (go_at_call 153; refine Stop.mk ?_)
      refine Stop.out ((c75 _).mono ?_)
      rintro e W5 ⟨rfl, hb5⟩
      have K5 := K4'.out.on hb5
      have G5 : Hid (w.grownBy W5 (some q)) := grown_below G4.out hb5
      have d11 := K5.cur.row.cell (i := 11) (by omega)
      have df5 := fun i => K5.cur.row.frozen i
      have K6' := K5.set11 MC
      have HR : Hid (Ck _ q s F) := ⟨_, by rw [← HFe.out]; exact K6'⟩
      have G6 : Hid (w.grownBy _ (some q)) := grown_set G5.out 11 (.int .i64 (MC : Int))
      clear c75 hb5 K4' G4 K5 G5 K6'
      go_wp2
      exact bodyPost_end (results_none rfl _ _ _) rfl ⟨_, rfl, HR.out, G6.out⟩
    · rw [if_neg hx]
      have hI := ((idx_dot _ (nx_lt s S.a S.b)).resolve_left (fun h => hx h.1)).2
      have c73 := take_no w q f s S.a S.b hf.cur hf.le _ hI
      clear hf hI hx
      go_enter Tryz.func124, Tryz.ntmps124
      go_wp2_with (go_at_call 151; refine Stop.mk ?_)
      refine Stop.out (c73.mono ?_)
      rintro e W1 ⟨f1, rfl, hc1, hk1, hg1⟩
      have HR : Hid (PostC w q s S (.returned (.tuple #[])) W1) := ⟨_, rfl, ⟨f1, HF.out.next hc1 HF.out.le hk1 hg1⟩, hg1⟩
      clear hc1 hk1 hg1 c73
      go_wp2
      exact bodyPost_ret (v := .tuple #[]) (by simp [results, go_sem]) rfl HR.out
end Go.Proofs.YtgdemlebohlolaaGreatDoor.Tm
