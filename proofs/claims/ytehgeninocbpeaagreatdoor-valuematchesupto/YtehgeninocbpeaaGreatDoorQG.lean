import Derived.Test.YtehgeninocbpeaaGreatDoorProg
import Derived.Shelf.Strings.SlTrimAscii
import Derived.Shelf.Strings.Split
import Derived.Lib.SplitLaws
import Derived.WalkKit
import Derived.WalkSpells
import Derived.WalkLawsBesides
import Derived.Deep.QuietTactic
import Derived.BigQuiet
import Derived.BigRegion
import Derived.KernelRfl
import Derived.Deep.RegionWith
import Derived.Deep.LoopGhost
import Derived.WalkMore
import Derived.Deep.RegionLawGrows
import Derived.WideMake
import Derived.Deep.OwnRows
import Derived.Lib.OthersKept
namespace Go.Proofs.YtehgeninocbpeaaGreatDoor.Sp
open Go Go.Proofs Go.RowKit Go.Shelf Go.Lib
def trRen : Go.Shelf.Ren := ⟨fun | 119 => 180 | 120 => 168 | 137 => 102 | 151 => 153 | 152 => 169 | 162 => 97 | 197 => 104 | 217 => 132 | 224 => 135 | 225 => 134 | 227 => 125 | 228 => 151 | 232 => 124 | 234 => 126 | 236 => 127 | 260 => 133 | 266 => 156 | 271 => 152 | n => n, fun | 0 => 0 | 3 => 3 | 4 => 4 | 5 => 5 | 9 => 9 | 21 => 21 | 46 => 176 | 105 => 145 | 116 => 167 | 117 => 168 | 119 => 185 | 124 => 171 | 138 => 187 | 139 => 188 | n => n, fun | 3 => 3 | 4 => 4 | n => n⟩
theorem trLays162 : Go.Proofs.Lays.n162 Tryz.prog trRen := {
  mixed := by kernel_rfl,
  f119 := Tryz.func180.trans (congrArg some (by kernel_rfl)),
  f120 := Tryz.func168.trans (congrArg some (by kernel_rfl)),
  f137 := Tryz.func102.trans (congrArg some (by kernel_rfl)),
  f151 := Tryz.func153.trans (congrArg some (by kernel_rfl)),
  f152 := Tryz.func169.trans (congrArg some (by kernel_rfl)),
  f162 := Tryz.func97.trans (congrArg some (by kernel_rfl)),
  f197 := Tryz.func104.trans (congrArg some (by kernel_rfl)),
  f217 := Tryz.func132.trans (congrArg some (by kernel_rfl)),
  f224 := Tryz.func135.trans (congrArg some (by kernel_rfl)),
  f225 := Tryz.func134.trans (congrArg some (by kernel_rfl)),
  f227 := Tryz.func125.trans (congrArg some (by kernel_rfl)),
  f228 := Tryz.func151.trans (congrArg some (by kernel_rfl)),
  f232 := Tryz.func124.trans (congrArg some (by kernel_rfl)),
  f234 := Tryz.func126.trans (congrArg some (by kernel_rfl)),
  f236 := Tryz.func127.trans (congrArg some (by kernel_rfl)),
  f260 := Tryz.func133.trans (congrArg some (by kernel_rfl)),
  f266 := Tryz.func156.trans (congrArg some (by kernel_rfl)),
  f271 := Tryz.func152.trans (congrArg some (by kernel_rfl)),
  t0 := Tryz.underlying0,
  a0 := Tryz.isAgg0,
  z0 := Tryz.sizeOf0,
  v0 := Tryz.zeroValue0,
  t3 := Tryz.underlying3,
  a3 := Tryz.isAgg3,
  z3 := Tryz.sizeOf3,
  v3 := Tryz.zeroValue3,
  t4 := Tryz.underlying4,
  a4 := Tryz.isAgg4,
  z4 := Tryz.sizeOf4,
  v4 := Tryz.zeroValue4,
  t5 := Tryz.underlying5,
  a5 := Tryz.isAgg5,
  z5 := Tryz.sizeOf5,
  v5 := Tryz.zeroValue5,
  t9 := Tryz.underlying9,
  a9 := Tryz.isAgg9,
  z9 := Tryz.sizeOf9,
  v9 := Tryz.zeroValue9,
  t21 := Tryz.underlying21,
  a21 := Tryz.isAgg21,
  z21 := Tryz.sizeOf21,
  v21 := Tryz.zeroValue21,
  t46 := Tryz.underlying176,
  a46 := Tryz.isAgg176,
  z46 := Tryz.sizeOf176,
  v46 := Tryz.zeroValue176,
  t105 := Tryz.underlying145,
  a105 := Tryz.isAgg145,
  z105 := Tryz.sizeOf145,
  v105 := Tryz.zeroValue145,
  t116 := Tryz.underlying167,
  a116 := Tryz.isAgg167,
  z116 := Tryz.sizeOf167,
  t117 := Tryz.underlying168,
  a117 := Tryz.isAgg168,
  z117 := Tryz.sizeOf168,
  v117 := Tryz.zeroValue168,
  t119 := Tryz.underlying185,
  a119 := Tryz.isAgg185,
  z119 := Tryz.sizeOf185,
  t124 := Tryz.underlying171,
  a124 := Tryz.isAgg171,
  z124 := Tryz.sizeOf171,
  v124 := Tryz.zeroValue171,
  t138 := Tryz.underlying187,
  a138 := Tryz.isAgg187,
  z138 := Tryz.sizeOf187,
  v138 := Tryz.zeroValue187,
  t139 := Tryz.underlying188,
  a139 := Tryz.isAgg188,
  z139 := Tryz.sizeOf188,
  v139 := Tryz.zeroValue188,
  g3 := by kernel_rfl,
  g4 := by kernel_rfl }
def trimE (s : ByteArray) : ByteArray := ⟨(Lib.trimRightS s.data.toList [94, 61]).toArray⟩
theorem str_trim (s : ByteArray) (w : World) (hs : s.size ≤ 8000000) : Calls Tryz.prog 97 #[.string s, .string { data := #[94, 61] }] w fun e w' => e = .returned (.string (trimE s)) ∧ Below w.heap.size w w' := by
  have hcon := Any.strings_TrimRight_laid trLays162 (by kernel_rfl) s ⟨#[94, 61]⟩ w (by omega) (by decide) (ascii_of_all (by decide))
  exact hcon
end Go.Proofs.YtehgeninocbpeaaGreatDoor.Sp

namespace Go.Proofs.YtehgeninocbpeaaGreatDoor.Sp
open Go Go.Proofs Go.RowKit Go.Shelf Go.Lib
def splRen : Go.Shelf.Ren := ⟨fun | 138 => 78 | 143 => 79 | 146 => 20 | 195 => 103 | 197 => 104 | 217 => 132 | 218 => 105 | 219 => 106 | 221 => 48 | 224 => 135 | 225 => 134 | 260 => 133 | 266 => 156 | 267 => 136 | 268 => 77 | 314 => 157 | n => n, fun | 0 => 0 | 3 => 3 | 4 => 4 | 5 => 5 | 9 => 9 | 21 => 21 | 31 => 48 | 46 => 176 | 51 => 184 | 105 => 145 | 119 => 185 | 138 => 187 | 139 => 188 | 146 => 189 | n => n, fun | 1 => 1 | 3 => 3 | 4 => 4 | n => n⟩
theorem splLays146 : Go.Proofs.Lays.n146 Tryz.prog splRen := {
  mixed := by kernel_rfl,
  f138 := Tryz.func78.trans (congrArg some (by kernel_rfl)),
  f143 := Tryz.func79.trans (congrArg some (by kernel_rfl)),
  f146 := Tryz.func20.trans (congrArg some (by kernel_rfl)),
  f195 := Tryz.func103.trans (congrArg some (by kernel_rfl)),
  f197 := Tryz.func104.trans (congrArg some (by kernel_rfl)),
  f217 := Tryz.func132.trans (congrArg some (by kernel_rfl)),
  f218 := Tryz.func105.trans (congrArg some (by kernel_rfl)),
  f219 := Tryz.func106.trans (congrArg some (by kernel_rfl)),
  f221 := Tryz.func48.trans (congrArg some (by kernel_rfl)),
  f224 := Tryz.func135.trans (congrArg some (by kernel_rfl)),
  f225 := Tryz.func134.trans (congrArg some (by kernel_rfl)),
  f260 := Tryz.func133.trans (congrArg some (by kernel_rfl)),
  f266 := Tryz.func156.trans (congrArg some (by kernel_rfl)),
  f267 := Tryz.func136.trans (congrArg some (by kernel_rfl)),
  f268 := Tryz.func77.trans (congrArg some (by kernel_rfl)),
  f314 := Tryz.func157.trans (congrArg some (by kernel_rfl)),
  t0 := Tryz.underlying0,
  a0 := Tryz.isAgg0,
  z0 := Tryz.sizeOf0,
  v0 := Tryz.zeroValue0,
  t3 := Tryz.underlying3,
  a3 := Tryz.isAgg3,
  z3 := Tryz.sizeOf3,
  v3 := Tryz.zeroValue3,
  t4 := Tryz.underlying4,
  a4 := Tryz.isAgg4,
  z4 := Tryz.sizeOf4,
  v4 := Tryz.zeroValue4,
  t5 := Tryz.underlying5,
  a5 := Tryz.isAgg5,
  z5 := Tryz.sizeOf5,
  v5 := Tryz.zeroValue5,
  t9 := Tryz.underlying9,
  a9 := Tryz.isAgg9,
  z9 := Tryz.sizeOf9,
  v9 := Tryz.zeroValue9,
  t21 := Tryz.underlying21,
  a21 := Tryz.isAgg21,
  z21 := Tryz.sizeOf21,
  v21 := Tryz.zeroValue21,
  t31 := Tryz.underlying48,
  a31 := Tryz.isAgg48,
  z31 := Tryz.sizeOf48,
  v31 := Tryz.zeroValue48,
  t46 := Tryz.underlying176,
  a46 := Tryz.isAgg176,
  z46 := Tryz.sizeOf176,
  v46 := Tryz.zeroValue176,
  t51 := Tryz.underlying184,
  a51 := Tryz.isAgg184,
  z51 := Tryz.sizeOf184,
  v51 := Tryz.zeroValue184,
  t105 := Tryz.underlying145,
  a105 := Tryz.isAgg145,
  z105 := Tryz.sizeOf145,
  v105 := Tryz.zeroValue145,
  t119 := Tryz.underlying185,
  a119 := Tryz.isAgg185,
  z119 := Tryz.sizeOf185,
  t138 := Tryz.underlying187,
  a138 := Tryz.isAgg187,
  z138 := Tryz.sizeOf187,
  v138 := Tryz.zeroValue187,
  t139 := Tryz.underlying188,
  a139 := Tryz.isAgg188,
  z139 := Tryz.sizeOf188,
  v139 := Tryz.zeroValue188,
  t146 := Tryz.underlying189,
  a146 := Tryz.isAgg189,
  z146 := Tryz.sizeOf189,
  v146 := Tryz.zeroValue189,
  g1 := by kernel_rfl,
  g3 := by kernel_rfl,
  g4 := by kernel_rfl }
end Go.Proofs.YtehgeninocbpeaaGreatDoor.Sp

namespace Go.Proofs.YtehgeninocbpeaaGreatDoor.Se
open Go Go.Proofs Go.RowKit Go.Lib
open Go.Proofs.YtehgeninocbpeaaGreatDoor.Sp (splRen splLays146)
def spL : List UInt8 → List (List UInt8)
  | [] => [[]]
  | b :: l => if b = 61 then [] :: spL l else match spL l with
    | h :: t => (b :: h) :: t
    | [] => [[b]]
theorem spL_ne : ∀ l, spL l ≠ []
  | [] => by simp [spL]
  | b :: l => by
      unfold spL
      by_cases h : b = 61
      · rw [if_pos h]; simp
      · rw [if_neg h]; cases spL l <;> simp
theorem spL_none : ∀ l : List UInt8, (∀ k : Nat, l[k]? ≠ some 61) → spL l = [l]
  | [], _ => rfl
  | b :: l, h => by
      have h0 := h 0
      simp at h0
      have := spL_none l (fun k => by have := h (k + 1); simpa using this)
      unfold spL
      rw [if_neg h0, this]
theorem spL_at : ∀ (o : Nat) (l : List UInt8), l[o]? = some 61 → (∀ k : Nat, k < o → l[k]? ≠ some 61) → spL l = l.take o :: spL (l.drop (o + 1))
  | _, [], h, _ => by simp at h
  | 0, b :: l, h, _ => by
      simp at h
      subst h
      simp [spL]
  | o + 1, b :: l, h, hk => by
      have h0 := hk 0 (by omega)
      simp at h0
      have := spL_at o l (by simpa using h) (fun k hk2 => by have := hk (k + 1) (by omega); simpa using this)
      rw [spL, if_neg h0, this]
      simp
theorem splitK_spL : ∀ (k : Nat) (l : List UInt8), l.count 61 ≤ k → splitK [61] 0 k l = spL l := by
  intro k
  induction k with
  | zero =>
    intro l h
    rw [spL_none l]
    · rfl
    · intro j hj
      have : (61 : UInt8) ∈ l := List.mem_of_getElem? hj
      have := List.count_pos_iff.2 this
      omega
  | succ k ih =>
    intro l h
    unfold splitK
    rw [index_one]
    by_cases hm : indexByte l 61 = -1
    · rw [if_pos (by rw [hm]; rfl), spL_none l (indexByte_none hm)]
    · rw [if_neg (by simpa using hm)]
      have hge := indexByte_ge l 61
      obtain ⟨o, ho⟩ : ∃ o : Nat, indexByte l 61 = o := ⟨(indexByte l 61).toNat, by omega⟩
      obtain ⟨h1, h2⟩ := indexByte_some ho
      rw [ho, spL_at o l h1 h2]
      have hlt : o < l.length := by
        rcases Nat.lt_or_ge o l.length with q | q
        · exact q
        · rw [List.getElem?_eq_none q] at h1; cases h1
      have hc : (l.drop (o + 1)).count 61 ≤ k := by
        have e : l = l.take o ++ (61 :: l.drop (o + 1)) := by
          rw [List.getElem?_eq_getElem hlt] at h1
          have := Option.some.inj h1
          rw [← this, List.getElem_cons_drop, List.take_append_drop]
        rw [e, List.count_append, List.count_cons_self] at h
        omega
      simp only [Int.toNat_natCast, Nat.add_zero, List.length_singleton]
      rw [ih _ hc]
def bsL (l : List (List UInt8)) : List ByteArray := l.map fun x => ⟨x.toArray⟩
theorem bsL_back (l : List ByteArray) : bsL (l.map (·.data.toList)) = l := by
  unfold bsL
  rw [List.map_map]
  conv => rhs; rw [← List.map_id l]
  refine List.map_congr_left fun x _ => ?_
  cases x
  simp
def spB (s : ByteArray) : List ByteArray := bsL (spL s.data.toList)
theorem splitB_spB (s : ByteArray) : splitB ⟨#[61]⟩ 0 (countB s ⟨#[61]⟩) s = spB s := by
  rw [← bsL_back (splitB _ _ _ _), splitB_data]
  unfold spB
  rw [splitK_spL]
  show _ ≤ count s.data.toList [61]
  rw [count_one]
  exact Nat.le_refl _
theorem spL_len : ∀ l : List UInt8, (spL l).length ≤ l.length + 1
  | [] => Nat.le_refl _
  | b :: l => by
      have := spL_len l
      unfold spL
      by_cases h : b = 61
      · rw [if_pos h]; simp; omega
      · rw [if_neg h]
        cases hs : spL l with
        | nil => simp
        | cons a t => rw [hs] at this; simp at this ⊢; omega
theorem spB_len (s : ByteArray) : (spB s).length ≤ s.size + 1 := by
  unfold spB bsL
  rw [List.length_map]
  exact spL_len _
set_option maxHeartbeats 2000000 in
theorem str_split (s : ByteArray) (w : World) (hs : s.size ≤ 8000000) :
    Calls Tryz.prog 20 #[.string s, .string { data := #[61] }] w fun e w' => e = .returned (.slice (some ⟨w.heap.size, 0, none⟩) (spB s).length (spB s).length) ∧ w.alloc (.cells ((spB s).map Value.string).toArray 9) = w' := by
  have L := splLays146
  have hlen := Lib.splitB_all ⟨#[61]⟩ (by decide) 0 _ s rfl
  have hle : countB s ⟨#[61]⟩ ≤ s.size := Lib.countB_le ⟨#[61]⟩ (by decide) s.size s (Nat.le_refl _)
  have hI : ∀ (x : ByteArray) (c : Array Value), x.size ≤ s.size → Calls Tryz.prog (splRen.f 143) #[.string x, .string ⟨#[61]⟩] (w.alloc (.cells c (splRen.t 9))) fun e w' => e = .returned (.int .i64 (Lib.indexB x ⟨#[61]⟩)) ∧ w' = w.alloc (.cells c (splRen.t 9)) := fun x c _ =>
    (Any.strings_Index_one { L with } x 61 _).mono fun e w' ⟨he, hw⟩ => ⟨by rw [he]; show _ = Ending.returned (Value.int .i64 (Lib.index x.data.toList [61])); rw [Lib.index_one], hw⟩
  have hC : Calls Tryz.prog (splRen.f 138) #[.string s, .string ⟨#[61]⟩] w fun e w' => e = .returned (.int .i64 (Lib.countB s ⟨#[61]⟩)) ∧ w' = w :=
    (Any.strings_Count_one { L with } s 61 w).mono fun e w' ⟨he, hw⟩ => ⟨by rw [he]; show _ = Ending.returned (Value.int .i64 ((Lib.count s.data.toList [61] : Nat) : Int)); rw [Lib.count_one]; rfl, hw⟩
  have c := Any.strings_genSplit_core (P := Tryz.prog) (ρ := splRen) { L with } (by kernel_rfl) s ⟨#[61]⟩ 0 (-1) (Lib.countB s ⟨#[61]⟩ + 1) w (by omega) (by decide) (Nat.zero_le _) hI hC (by decide) (by decide) (by rw [if_pos (by decide)]; omega)
  rw [Nat.add_sub_cancel, hlen] at c
  have e2 : Lib.cellsOf (Lib.splitB ⟨#[61]⟩ 0 (Lib.countB s ⟨#[61]⟩) s) (Lib.countB s ⟨#[61]⟩ + 1) = ((Lib.splitB ⟨#[61]⟩ 0 (Lib.countB s ⟨#[61]⟩) s).map Value.string).toArray := by rw [← hlen]; exact Lib.cellsOf_full _
  rw [e2, splitB_spB] at c
  have hl2 : Lib.countB s ⟨#[61]⟩ + 1 = (spB s).length := by rw [← splitB_spB, hlen]
  rw [hl2] at c
  replace c : Calls Tryz.prog 48 #[.string s, .string { data := #[61] }, .int .i64 0, .int .i64 (-1)] w fun e w' => e = .returned (.slice (some ⟨w.heap.size, 0, none⟩) (spB s).length (spB s).length) ∧ w' = w.alloc (.cells ((spB s).map Value.string).toArray 9) := c
  generalize (spB s).length = n at *
  generalize ((spB s).map Value.string).toArray = C at *
  clear hI hC e2 hl2 hlen hle
  go_enter Tryz.func20, Tryz.ntmps20
  go_wp2_with (go_at_call 48; refine c.mono ?_; rintro e w' ⟨rfl, rfl⟩)
  go_ret
  exact ⟨rfl, rfl⟩
end Go.Proofs.YtehgeninocbpeaaGreatDoor.Se

namespace Go.Proofs.YtehgeninocbpeaaGreatDoor.Tm
open Go Go.Proofs Go.RowKit
def Stop (p : Prop) : Prop := p
theorem Stop.mk {p : Prop} (h : Stop p) : p := h
theorem Stop.out {p : Prop} (h : p) : Stop p := h
def Lp (y : Nat) : Prop := y % 4 = 0 ∧ (y % 100 ≠ 0 ∨ y % 400 = 0)
instance (y : Nat) : Decidable (Lp y) := by unfold Lp; infer_instance
set_option maxRecDepth 100000 in
theorem isLeap_any (w : World) (y : Nat) : Calls Tryz.prog 167 #[.int .i64 (y : Int)] w fun e w' => e = .returned (.bool (decide (Lp y))) ∧ w = w' := by
  by_cases h4 : y % 4 = 0
  · have a4 : ((y : Int) % 4 == 0) = true := by simp; omega
    by_cases h1 : y % 100 = 0
    · have e : decide (Lp y) = decide (y % 400 = 0) := by unfold Lp; simp [h4, h1]
      rw [e]
      have a1 : ((y : Int) % 100 == 0) = true := by simp; omega
      have a1' : (y : Int) % 100 = 0 := by omega
      have a0 : decide (y % 400 = 0) = ((y : Int) % 400 == 0) := by rw [Bool.eq_iff_iff, decide_eq_true_eq, beq_iff_eq]; omega
      rw [a0]
      clear a0 e
      go_enter Tryz.func167, Tryz.ntmps167
      go_wp2
      go_ret
      exact ⟨rfl, rfl⟩
    · have e : decide (Lp y) = true := by unfold Lp; simp [h4, h1]
      rw [e]
      have a1 : ((y : Int) % 100 == 0) = false := by simp; omega
      have a1' : ¬ ((y : Int) % 100 = 0) := by omega
      clear e
      go_enter Tryz.func167, Tryz.ntmps167
      go_wp2
      go_ret
      exact ⟨rfl, rfl⟩
  · have e : decide (Lp y) = false := by unfold Lp; simp [h4]
    rw [e]
    have a4 : ((y : Int) % 4 == 0) = false := by simp; omega
    clear e
    go_enter Tryz.func167, Tryz.ntmps167
    go_wp2
    go_ret
    exact ⟨rfl, rfl⟩
def dA (y : Nat) : Nat := 365 * (y - 1) + (y - 1) / 4 - (y - 1) / 100 + (y - 1) / 400
theorem div_up (z d : Nat) (hd : 0 < d) (h : (z + 1) % d = 0) : (z + 1) / d = z / d + 1 := by
  have h1 := Nat.div_add_mod (z + 1) d
  rw [h, Nat.add_zero] at h1
  have h2 : z + 1 = d * ((z + 1) / d) := h1.symm
  generalize (z + 1) / d = q at *
  obtain ⟨p, rfl⟩ : ∃ p, q = p + 1 := ⟨q - 1, by
    rcases Nat.eq_zero_or_pos q with h | h
    · subst h; omega
    · omega⟩
  have h3 : z = d * p + (d - 1) := by rw [Nat.mul_add, Nat.mul_one] at h2; omega
  rw [h3, Nat.mul_add_div hd, Nat.div_eq_of_lt (by omega)]
theorem div_same (z d : Nat) (hd : 0 < d) (h : (z + 1) % d ≠ 0) : (z + 1) / d = z / d := by
  have h1 := Nat.div_add_mod (z + 1) d
  have h2 := Nat.mod_lt (z + 1) hd
  generalize (z + 1) / d = q at *
  generalize (z + 1) % d = r at *
  have h3 : z = d * q + (r - 1) := by omega
  rw [h3, Nat.mul_add_div hd, Nat.div_eq_of_lt (by omega)]
  omega
theorem dA_next (y : Nat) (h : 1 ≤ y) : dA (y + 1) = dA y + if Lp y then 366 else 365 := by
  obtain ⟨z, rfl⟩ : ∃ z, y = z + 1 := ⟨y - 1, by omega⟩
  have hle : z / 100 ≤ z / 4 := by omega
  unfold dA
  simp only [Nat.add_sub_cancel]
  by_cases h4 : (z + 1) % 4 = 0
  · rw [div_up z 4 (by omega) h4]
    by_cases h1 : (z + 1) % 100 = 0
    · rw [div_up z 100 (by omega) h1]
      by_cases h0 : (z + 1) % 400 = 0
      · rw [div_up z 400 (by omega) h0, if_pos (show Lp (z + 1) from ⟨h4, .inr h0⟩)]
        generalize z / 4 = a at *; generalize z / 100 = b at *; generalize z / 400 = c at *
        clear h4 h1 h0
        omega
      · rw [div_same z 400 (by omega) h0, if_neg (show ¬ Lp (z + 1) from fun hl => by rcases hl.2 with h | h; exact h h1; exact h0 h)]
        generalize z / 4 = a at *; generalize z / 100 = b at *; generalize z / 400 = c at *
        clear h4 h1 h0
        omega
    · rw [div_same z 100 (by omega) h1, div_same z 400 (by omega) (by omega), if_pos (show Lp (z + 1) from ⟨h4, .inl h1⟩)]
      generalize z / 4 = a at *; generalize z / 100 = b at *; generalize z / 400 = c at *
      clear h4 h1
      omega
  · rw [div_same z 4 (by omega) h4, div_same z 100 (by omega) (by omega), div_same z 400 (by omega) (by omega), if_neg (show ¬ Lp (z + 1) from fun hl => h4 hl.1)]
    generalize z / 4 = a at *; generalize z / 100 = b at *; generalize z / 400 = c at *
    clear h4
    omega
theorem dA_step (a : Nat) (h : 1 ≤ a) : dA a + 365 ≤ dA (a + 1) ∧ dA (a + 1) ≤ dA a + 366 := by
  rw [dA_next a h]
  by_cases hl : Lp a
  · rw [if_pos hl]; omega
  · rw [if_neg hl]; omega
def mL (i : Nat) : Nat := [31, 28, 31, 30, 31, 30, 31, 31, 30, 31, 30, 31].getD i 0
structure Mt (w : World) : Prop where
  p : ∀ i, i < 12 → w.cell? ⟨5, i, none⟩ = some (.int .i64 (mL i : Nat))
theorem Mt.on {w w' : World} (h : Mt w) (hb : Below w.heap.size w w') : Mt w' :=
  ⟨fun i hi => (hb.cell (p := ⟨5, i, none⟩) (World.block_lt_of_cell? w ⟨5, i, none⟩ (h.p i hi))).trans (h.p i hi)⟩
def md (y m : Nat) : Nat := if m < 1 ∨ 12 < m then 0 else if m = 2 ∧ Lp y then 29 else mL (m - 1)
set_option maxRecDepth 100000 in
theorem month_any (w : World) (y m : Nat) (hT : Mt w) : Calls Tryz.prog 150 #[.int .i64 (y : Int), .int .i64 (m : Int)] w fun e w' => e = .returned (.int .i64 (md y m : Nat)) ∧ w = w' := by
  have c := fun W => isLeap_any W y
  unfold md
  by_cases h : m < 1 ∨ 12 < m
  · rw [if_pos h]
    rcases h with h | h
    · have a : (m : Int) < 1 := by omega
      go_enter Tryz.func150, Tryz.ntmps150
      go_wp2
      go_ret
      exact ⟨rfl, rfl⟩
    · have a : ¬ ((m : Int) < 1) := by omega
      have b : (12 : Int) < (m : Int) := by omega
      go_enter Tryz.func150, Tryz.ntmps150
      go_wp2
      go_ret
      exact ⟨rfl, rfl⟩
  · rw [if_neg h]
    obtain ⟨k, rfl⟩ : ∃ k, m = k + 1 := ⟨m - 1, by omega⟩
    have hk : k < 12 := by omega
    have hc := hT.p k hk
    have a : ¬ (((k + 1 : Nat) : Int) < 1) := by omega
    have b : ¬ ((12 : Int) < ((k + 1 : Nat) : Int)) := by omega
    have hsub : ((k + 1 : Nat) : Int) - 1 = (k : Int) := by omega
    have hkI : (k : Int) < 12 := by omega
    rw [show k + 1 - 1 = k by omega]
    generalize mL k = L at *
    by_cases h2 : k = 1
    · subst h2
      by_cases hl : Lp y
      · rw [if_pos ⟨rfl, hl⟩]
        have hd : decide (Lp y) = true := by simpa using hl
        rw [hd] at c
        clear hd h hl
        go_enter Tryz.func150, Tryz.ntmps150
        go_wp2_with (go_at_call 167; refine (c _).mono ?_; rintro e w' ⟨rfl, rfl⟩)
        go_ret
        exact ⟨rfl, rfl⟩
      · rw [if_neg (fun h => hl h.2)]
        have hd : decide (Lp y) = false := by simpa using hl
        rw [hd] at c
        clear hd h hl
        go_enter Tryz.func150, Tryz.ntmps150
        go_wp2_with (go_at_call 167; refine (c _).mono ?_; rintro e w' ⟨rfl, rfl⟩)
        go_ret
        exact ⟨rfl, rfl⟩
    · rw [if_neg (fun h => h2 (by omega))]
      have h2' : (((k + 1 : Nat) : Int) == 2) = false := by simp; omega
      have h3' : ((k : Int) + 1 == 2) = false := by simp; omega
      clear h
      go_enter Tryz.func150, Tryz.ntmps150
      go_wp2
      go_ret
      exact ⟨rfl, rfl⟩
end Go.Proofs.YtehgeninocbpeaaGreatDoor.Tm

namespace Go.Proofs.YtehgeninocbpeaaGreatDoor.Tm
open Go Go.Proofs Go.RowKit
theorem cell_lt {w : World} {a : Addr} {v : Value} (h : w.cell? a = some v) : a.block < w.heap.size := by
  by_cases hl : a.block < w.heap.size
  · exact hl
  · have : w.heap[a.block]? = none := by simp; omega
    simp [World.cell?, this] at h
theorem cell_set_ne {W : World} {b i j : Nat} {v : Value} (h : i ≠ j) : (W.setCell ⟨b, i, none⟩ v).cell? ⟨b, j, none⟩ = W.cell? ⟨b, j, none⟩ := by
  apply World.cell?_setCell_other; simp
theorem cell_set_eq {W : World} {b i : Nat} {v u : Value} (h : W.cell? ⟨b, i, none⟩ = some u) : (W.setCell ⟨b, i, none⟩ v).cell? ⟨b, i, none⟩ = some v := by
  apply World.cell?_setCell_same; exact h
theorem cell_set_off {W : World} {b i c j : Nat} {v : Value} (h : b ≠ c) : (W.setCell ⟨b, i, none⟩ v).cell? ⟨c, j, none⟩ = W.cell? ⟨c, j, none⟩ := by
  apply World.cell?_setCell_other; intro e; exact h (by simpa using congrArg Addr.block e)
theorem owns_succ {W : World} {base : Nat} {e : TypeId} {size : Nat} {v : Value} {k : Nat} {xs : List Value} (h : W.ownsRow base e size v (k + 1) xs) : ∃ g cap, v = .slice (some ⟨g, 0, none⟩) (k + 1) cap := by
  rcases h.2 with ⟨_, h0⟩ | ⟨g, cap, cur, rfl, _⟩
  · omega
  · exact ⟨g, cap, rfl⟩
theorem cell_two_at {w : World} {x0 x1 : Value} {t : TypeId} {B : Nat} (h : B = w.heap.size) : ∀ j u, [x0, x1][j]? = some u → (w.alloc (.cells #[x0, x1] t)).cell? ((⟨B, 0, none⟩ : Addr).add j) = some u := by
  subst h
  intro j u hj
  match j, hj with
  | 0, hj => simp at hj; subst hj; simp [Addr.add]
  | 1, hj => simp at hj; subst hj; simp [Addr.add]
  | n + 2, hj => simp at hj
def FaultAt (w : World) (q : Nat) (a c : Int) : Prop :=
  w.cell? ⟨q, 0, none⟩ = some (.string { data := #[118, 97, 108, 117, 101] }) ∧ w.cell? ⟨q, 1, none⟩ = some (.int .i64 a) ∧ w.cell? ⟨q, 2, none⟩ = some (.iface 83 (.int .i64 c))
theorem FaultAt.next {w w' : World} {q : Nat} {a c : Int} (h : FaultAt w q a c) (hb : Below w.heap.size w w') : FaultAt w' q a c :=
  ⟨(hb.cell (cell_lt h.1)).trans h.1, (hb.cell (cell_lt h.2.1)).trans h.2.1, (hb.cell (cell_lt h.2.2)).trans h.2.2⟩
def PErr (w : World) (v : Value) : Option (Int × Int) → Prop
  | some (a, c) => ∃ q, v = .iface 88 (.pointer (some ⟨q, 0, none⟩)) ∧ FaultAt w q a c
  | none => v = .nilIface
def RErr (w : World) (v : Value) : Option (Int × Int) → Prop
  | some (a, c) => ∃ g k, v = .agg #[.slice (some ⟨g, 0, none⟩) 1 k, .int .i64 c] ∧ w.cell? ⟨g, 0, none⟩ = some (.string { data := #[118, 97, 108, 117, 101] }) ∧ w.cell? ⟨g, 1, none⟩ = some (.int .i64 a)
  | none => v = .agg #[.slice none 0 0, .int .i64 0]
theorem PErr.next {w w' : World} {v : Value} {o : Option (Int × Int)} (h : PErr w v o) (hb : Below w.heap.size w w') : PErr w' v o := by
  cases o with
  | some x => obtain ⟨q, rfl, hf⟩ := h; exact ⟨q, rfl, hf.next hb⟩
  | none => exact h
theorem RErr.next {w w' : World} {v : Value} {o : Option (Int × Int)} (h : RErr w v o) (hb : Below w.heap.size w w') : RErr w' v o := by
  cases o with
  | some x => obtain ⟨g, c, rfl, h0, h1⟩ := h; exact ⟨g, c, rfl, (hb.cell (cell_lt h0)).trans h0, (hb.cell (cell_lt h1)).trans h1⟩
  | none => exact h
theorem refusal_any (a c : Int) (w : World) : Calls Tryz.prog 46 #[.int .i64 a, .iface 83 (.int .i64 c)] w fun e w' => ∃ v, e = .returned v ∧ PErr w' v (some (a, c)) ∧ Below w.heap.size w w' := by
  go_enter Tryz.func46, Tryz.ntmps46
  go_wp2
  go_ret
  exact ⟨_, rfl, ⟨w.heap.size, rfl, by simp, by simp, by simp⟩, (Below.refl _ _).alloc (Nat.le_refl _) _⟩
end Go.Proofs.YtehgeninocbpeaaGreatDoor.Tm

namespace Go.Proofs.YtehgeninocbpeaaGreatDoor.Tm
open Go Go.Proofs Go.RowKit
def dv (y m d : Int) : Value := .agg #[.int .i64 y, .int .i64 m, .int .i64 d]
def uf (y m d : Int) : Int := if y < 1 ∨ 9999 < y then 0 else if m < 1 ∨ 12 < m then 1 else if d < 1 ∨ (md y.toNat m.toNat : Int) < d then 2 else -1
end Go.Proofs.YtehgeninocbpeaaGreatDoor.Tm

namespace Go.Proofs.YtehgeninocbpeaaGreatDoor.Tm
open Go Go.Proofs Go.RowKit
def cu (y : Nat) : Nat → Nat
  | 0 => 0
  | k + 1 => cu y k + md y (k + 1)
theorem md_le (y m : Nat) : md y m ≤ 31 := by
  unfold md
  split
  · omega
  · split
    · omega
    · unfold mL
      rename_i h _
      have : m - 1 < 12 := by omega
      generalize m - 1 = k at *
      rcases (by omega : k = 0 ∨ k = 1 ∨ k = 2 ∨ k = 3 ∨ k = 4 ∨ k = 5 ∨ k = 6 ∨ k = 7 ∨ k = 8 ∨ k = 9 ∨ k = 10 ∨ k = 11) with rfl | rfl | rfl | rfl | rfl | rfl | rfl | rfl | rfl | rfl | rfl | rfl <;> decide
theorem cu_le (y : Nat) : ∀ k, cu y k ≤ 31 * k
  | 0 => by simp [cu]
  | k + 1 => by have := cu_le y k; have := md_le y (k + 1); rw [cu]; omega
def Day (y m d : Nat) : Prop := 1 ≤ y ∧ y ≤ 9999 ∧ 1 ≤ m ∧ m ≤ 12 ∧ 1 ≤ d ∧ d ≤ md y m
def num (y m d : Nat) : Nat := dA y + cu y (m - 1) + d - 1
theorem dA_le {y : Nat} (h : y ≤ 10000) : dA y ≤ 3652059 := by unfold dA; omega
end Go.Proofs.YtehgeninocbpeaaGreatDoor.Tm

namespace Go.Proofs.YtehgeninocbpeaaGreatDoor.Tm
open Go Go.Proofs Go.RowKit
theorem get_get! (s : ByteArray) (pos : Nat) (h : pos < s.size) : s[pos] = s.get! pos := by
  simp [ByteArray.get!, getElem!_pos, h]
  rfl
structure Cur (w : World) (q : Nat) (f : Nat → Value) (s : ByteArray) (a : Nat) (b : Bool) : Prop where
  row : w.rowIs q 179 15 f
  c0 : f 0 = .string s
  c1 : f 1 = .int .i64 (a : Int)
  c2 : f 2 = .bool b
theorem Cur.cells {w : World} {q : Nat} {f : Nat → Value} {s : ByteArray} {a : Nat} {b : Bool} (h : Cur w q f s a b) :
    w.cell? ⟨q, 0, none⟩ = some (.string s) ∧ w.cell? ⟨q, 1, none⟩ = some (.int .i64 (a : Int)) ∧ w.cell? ⟨q, 2, none⟩ = some (.bool b) :=
  ⟨h.c0 ▸ h.row.cell (i := 0) (by omega), h.c1 ▸ h.row.cell (i := 1) (by omega), h.c2 ▸ h.row.cell (i := 2) (by omega)⟩
def isD (s : ByteArray) (a : Nat) : Bool := decide (a < s.size) && (decide (48 ≤ (s.get! a).toNat) && decide ((s.get! a).toNat ≤ 57))
theorem isDigit_any (w : World) (b : Nat) : Calls Tryz.prog 155 #[.int .u8 (b : Int)] w fun e w' => e = .returned (.bool (decide (48 ≤ b) && decide (b ≤ 57))) ∧ w = w' := by
  by_cases h1 : 48 ≤ b
  · have a1 : (48 : Int) ≤ (b : Int) := by omega
    by_cases h2 : b ≤ 57
    · have a2 : (b : Int) ≤ 57 := by omega
      rw [decide_eq_true h1, decide_eq_true h2]
      go_enter Tryz.func155, Tryz.ntmps155
      go_wp2
      go_ret
      exact ⟨rfl, rfl⟩
    · have a2 : decide ((b : Int) ≤ 57) = false := by simp; omega
      rw [decide_eq_true h1, decide_eq_false h2]
      go_enter Tryz.func155, Tryz.ntmps155
      go_wp2
      go_ret
      exact ⟨rfl, rfl⟩
  · have a1 : decide ((48 : Int) ≤ (b : Int)) = false := by simp; omega
    rw [decide_eq_false h1, Bool.false_and]
    go_enter Tryz.func155, Tryz.ntmps155
    go_wp2
    go_ret
    exact ⟨rfl, rfl⟩
def nx (s : ByteArray) (a : Nat) (b : Bool) : Nat := if b = true ∨ ¬ a < s.size then 0 else (s.get! a).toNat
set_option maxRecDepth 100000 in
set_option maxHeartbeats 1000000 in
theorem next_any (w : World) (q : Nat) (f : Nat → Value) (s : ByteArray) (a : Nat) (b : Bool) (h : Cur w q f s a b) (ha : a ≤ s.size) :
    Calls Tryz.prog 101 #[.pointer (some ⟨q, 0, none⟩)] w fun e w' => e = .returned (.int .u8 (nx s a b : Nat)) ∧ ∃ n, w' = w.drewN n := by
  obtain ⟨q0, q1, q2⟩ := h.cells
  clear h
  unfold nx
  cases b with
  | true =>
    rw [if_pos (.inl rfl)]
    go_enter Tryz.func101, Tryz.ntmps101
    go_wp2
    go_quiet (fail)
    go_wp2
    go_ret
    exact ⟨rfl, _, rfl⟩
  | false =>
    by_cases hl : a < s.size
    · rw [if_neg (by simp; exact hl)]
      obtain ⟨c, hc⟩ : ∃ c, s[a].toNat = c := ⟨_, rfl⟩
      rw [show (s.get! a).toNat = c by rw [← hc, get_get! s a hl]]
      have e1 : ((a : Int) == (s.size : Int)) = false := by simp; omega
      have e2 : (a : Int) < (s.size : Int) := by omega
      go_enter Tryz.func101, Tryz.ntmps101
      go_wp2
      go_quiet (fail)
      go_wp2
      go_quiet (fail)
      go_wp2
      go_ret
      exact ⟨rfl, _, by rw [World.drewN_drewN]⟩
    · rw [if_pos (.inr hl)]
      obtain rfl : a = s.size := by omega
      go_enter Tryz.func101, Tryz.ntmps101
      go_wp2
      go_quiet (fail)
      go_wp2
      go_ret
      exact ⟨rfl, _, rfl⟩
theorem nx_digit (s : ByteArray) (a : Nat) (b : Bool) : (decide (48 ≤ nx s a b) && decide (nx s a b ≤ 57)) = (!b && isD s a) := by
  unfold nx isD
  cases b with
  | true => simp
  | false =>
    by_cases h : a < s.size
    · simp [h]
    · simp [h]
set_option maxRecDepth 100000 in
theorem onDigit_any (w : World) (q : Nat) (f : Nat → Value) (s : ByteArray) (a : Nat) (b : Bool) (h : Cur w q f s a b) (ha : a ≤ s.size) :
    Calls Tryz.prog 131 #[.pointer (some ⟨q, 0, none⟩)] w fun e w' => e = .returned (.bool (!b && isD s a)) ∧ ∃ n, w' = w.drewN n := by
  have c := next_any w q f s a b h ha
  have c86 := fun W => isDigit_any W (nx s a b)
  rw [nx_digit] at c86
  generalize nx s a b = x at *
  go_enter Tryz.func131, Tryz.ntmps131
  go_wp2_with (first | (go_at_call 101; refine c.mono ?_; rintro e w' ⟨rfl, n, rfl⟩) | (go_at_call 155; refine (c86 _).mono ?_; rintro e w' ⟨rfl, rfl⟩))
  go_ret
  exact ⟨rfl, _, rfl⟩
end Go.Proofs.YtehgeninocbpeaaGreatDoor.Tm
