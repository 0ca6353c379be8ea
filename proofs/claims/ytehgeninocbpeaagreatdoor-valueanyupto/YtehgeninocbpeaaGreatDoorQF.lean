import Derived.Test.YtehgeninocbpeaaGreatDoorQC
import Derived.Shelf.Strconv.Itoa3
import Derived.Shelf.Strings.Repeat
/-
  DERIVED. Numbers written with zeros ahead: strconv.Itoa and strings.Repeat, off the shelf.
-/
namespace Go.Proofs.YtehgeninocbpeaaGreatDoor.Tm
open Go Go.Proofs Go.RowKit Go.Shelf

/-- What the shelf's names are here. -/
def repLays_ren : Go.Shelf.Ren := ⟨fun | 105 => 166 | 212 => 175 | 99 => 49 | 165 => 176 | 166 => 177 | 170 => 178 | 169 => 179 | 263 => 183 | 264 => 184 | 206 => 80 | 240 => 185 | 241 => 186 | 276 => 187 | 277 => 188 | n => n, fun | 9 => 9 | 3 => 3 | 4 => 4 | 20 => 20 | 0 => 0 | 46 => 176 | 109 => 206 | 5 => 5 | 72 => 210 | 76 => 211 | 51 => 184 | 146 => 189 | 53 => 71 | 148 => 217 | 70 => 208 | 37 => 87 | 75 => 23 | 127 => 219 | 164 => 222 | 80 => 214 | n => n, fun | n => n⟩
theorem repLays : Go.Proofs.Lays.n105 Tryz.prog repLays_ren := {
  mixed := by kernel_rfl,
  f99 := Tryz.func49.trans (congrArg some (by kernel_rfl)),
  f105 := Tryz.func166.trans (congrArg some (by kernel_rfl)),
  f165 := Tryz.func176.trans (congrArg some (by kernel_rfl)),
  f166 := Tryz.func177.trans (congrArg some (by kernel_rfl)),
  f169 := Tryz.func179.trans (congrArg some (by kernel_rfl)),
  f170 := Tryz.func178.trans (congrArg some (by kernel_rfl)),
  f206 := Tryz.func80.trans (congrArg some (by kernel_rfl)),
  f212 := Tryz.func175.trans (congrArg some (by kernel_rfl)),
  f240 := Tryz.func185.trans (congrArg some (by kernel_rfl)),
  f241 := Tryz.func186.trans (congrArg some (by kernel_rfl)),
  f263 := Tryz.func183.trans (congrArg some (by kernel_rfl)),
  f264 := Tryz.func184.trans (congrArg some (by kernel_rfl)),
  f276 := Tryz.func187.trans (congrArg some (by kernel_rfl)),
  f277 := Tryz.func188.trans (congrArg some (by kernel_rfl)),
  t0 := Tryz.underlying0,
  a0 := Tryz.isAgg0,
  z0 := Tryz.sizeOf0,
  v0 := Tryz.zeroValue0,
  t3 := Tryz.underlying3,
  a3 := Tryz.isAgg3,
  z3 := Tryz.sizeOf3,
  v3 := Tryz.zeroValue3,
  t4 := Tryz.underlying4,
  a4 := Tryz.isAgg4,
  z4 := Tryz.sizeOf4,
  v4 := Tryz.zeroValue4,
  t5 := Tryz.underlying5,
  a5 := Tryz.isAgg5,
  z5 := Tryz.sizeOf5,
  v5 := Tryz.zeroValue5,
  t9 := Tryz.underlying9,
  a9 := Tryz.isAgg9,
  z9 := Tryz.sizeOf9,
  v9 := Tryz.zeroValue9,
  t20 := Tryz.underlying20,
  a20 := Tryz.isAgg20,
  z20 := Tryz.sizeOf20,
  v20 := Tryz.zeroValue20,
  t37 := Tryz.underlying87,
  a37 := Tryz.isAgg87,
  z37 := Tryz.sizeOf87,
  v37 := Tryz.zeroValue87,
  t46 := Tryz.underlying176,
  a46 := Tryz.isAgg176,
  z46 := Tryz.sizeOf176,
  v46 := Tryz.zeroValue176,
  t51 := Tryz.underlying184,
  a51 := Tryz.isAgg184,
  z51 := Tryz.sizeOf184,
  v51 := Tryz.zeroValue184,
  t53 := Tryz.underlying71,
  a53 := Tryz.isAgg71,
  z53 := Tryz.sizeOf71,
  v53 := Tryz.zeroValue71,
  t70 := Tryz.underlying208,
  a70 := Tryz.isAgg208,
  z70 := Tryz.sizeOf208,
  v70 := Tryz.zeroValue208,
  t72 := Tryz.underlying210,
  a72 := Tryz.isAgg210,
  z72 := Tryz.sizeOf210,
  v72 := Tryz.zeroValue210,
  t75 := Tryz.underlying23,
  a75 := Tryz.isAgg23,
  z75 := Tryz.sizeOf23,
  v75 := Tryz.zeroValue23,
  t76 := Tryz.underlying211,
  a76 := Tryz.isAgg211,
  z76 := Tryz.sizeOf211,
  v76 := Tryz.zeroValue211,
  t109 := Tryz.underlying206,
  a109 := Tryz.isAgg206,
  z109 := Tryz.sizeOf206,
  v109 := Tryz.zeroValue206,
  t127 := Tryz.underlying219,
  a127 := Tryz.isAgg219,
  z127 := Tryz.sizeOf219,
  v127 := Tryz.zeroValue219,
  t146 := Tryz.underlying189,
  a146 := Tryz.isAgg189,
  z146 := Tryz.sizeOf189,
  v146 := Tryz.zeroValue189,
  t148 := Tryz.underlying217,
  a148 := Tryz.isAgg217,
  z148 := Tryz.sizeOf217,
  v148 := Tryz.zeroValue217,
  t164 := Tryz.underlying222,
  a164 := Tryz.isAgg222,
  z164 := Tryz.sizeOf222,
  v164 := Tryz.zeroValue222 }

theorem repExtra : Go.Proofs.Builder.Extra Tryz.prog repLays_ren := {
  sizeBuilder := by kernel_rfl,
  liesBuilder := by kernel_rfl,
  t5 := Tryz.underlying5,
  a5 := Tryz.isAgg5,
  z5 := Tryz.sizeOf5,
  v5 := Tryz.zeroValue5,
  infoByte := by kernel_rfl,
  cellsByte := by kernel_rfl,
  sizeByte := by kernel_rfl,
  neB5 := by decide }

/-- A number in so many digits. -/
def pd (n : Nat) : Nat → List UInt8
  | 0 => []
  | k + 1 => pd (n / 10) k ++ [UInt8.ofNat (48 + n % 10)]
theorem pd_len : ∀ (k n : Nat), (pd n k).length = k
  | 0, _ => rfl
  | k + 1, n => by rw [pd, List.length_append, pd_len k]; rfl
theorem pd_zero : ∀ k, pd 0 k = Lib.repeatL [48] k
  | 0 => rfl
  | k + 1 => by
    rw [pd, pd_zero k]
    have : ∀ j, Lib.repeatL ([48] : List UInt8) j ++ [48] = 48 :: Lib.repeatL [48] j := fun j => by
      induction j with
      | zero => rfl
      | succ j ih => rw [Lib.repeatL, List.append_assoc, ih]; rfl
    exact this k
theorem pad_eq : ∀ (k n : Nat), n < 10 ^ k → 1 ≤ k → (Lib.decDigits n).length ≤ k ∧ Lib.repeatL [48] (k - (Lib.decDigits n).length) ++ Lib.decDigits n = pd n k
  | 0, _, _, h => by omega
  | k + 1, n, h, _ => by
    rw [Lib.decDigits]
    by_cases h10 : n < 10
    · rw [dif_pos h10]
      refine ⟨by simp, ?_⟩
      rw [pd, show n / 10 = 0 by omega, pd_zero, show n % 10 = n by omega]
      rfl
    · rw [dif_neg h10]
      have hk : 1 ≤ k := by
        rcases Nat.eq_zero_or_pos k with h0 | h0
        · subst h0; simp at h; omega
        · exact h0
      have ih := pad_eq k (n / 10) (by rw [Nat.pow_succ] at h; omega) hk
      refine ⟨by rw [List.length_append, List.length_singleton]; omega, ?_⟩
      rw [List.length_append, List.length_singleton, show k + 1 - ((Lib.decDigits (n / 10)).length + 1) = k - (Lib.decDigits (n / 10)).length by omega, ← List.append_assoc, ih.2, pd]

def pdB (n k : Nat) : ByteArray := ⟨(pd n k).toArray⟩
theorem pdB_size (n k : Nat) : (pdB n k).size = k := by show (pd n k).toArray.size = k; rw [List.size_toArray, pd_len]

def txt (y m d : Nat) : ByteArray := pdB y 4 ++ pdB m 2 ++ pdB d 2
theorem txt_size (y m d : Nat) : (txt y m d).size = 8 := by unfold txt; rw [ByteArray.size_append, ByteArray.size_append, pdB_size, pdB_size, pdB_size]

end Go.Proofs.YtehgeninocbpeaaGreatDoor.Tm
