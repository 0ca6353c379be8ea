import Derived.Test.YtgdemlebohlolaaGreatDoorLe
import Derived.Test.YtgdemlebohlolaaGreatDoorProg
import Derived.Shelf.Strconv.ParseIntPublic10
import Derived.Shelf.Unicode.DecodeAny
import Derived.Shelf.Utf8.RuneCount
/-
  DERIVED. The program's forms of identifiers.
-/
namespace Go.Proofs.YtgdemlebohlolaaGreatDoor.Ck
open Go Go.Proofs Go.RowKit

/-- A component of an identifier. -/
def zrB (p : ByteArray) : Bool := decide ((p.get! 0).toNat = 48) && !(p.toList == [48])
def prB (p : ByteArray) : Bool := alD p && !zrB p
theorem cell_row (w : World) (xs : List ByteArray) (i : Nat) (h : i < xs.length) : (w.alloc (.cells (xs.map Value.string).toArray 9)).cell? ⟨w.heap.size, i, none⟩ = some (.string xs[i]) := by
  simp [h]
theorem strC_len (c : UInt8) (s : ByteArray) (p : ByteArray) (h : p ∈ spCB c s) : p.size ≤ s.size := by
  unfold spCB Sp.bsL at h
  obtain ⟨x, hx, rfl⟩ := List.mem_map.1 h
  show x.toArray.size ≤ s.data.size
  rw [List.size_toArray, ← Array.length_toList]
  clear h
  generalize s.data.toList = l at *
  induction l generalizing x with
  | nil => simp [spCL] at hx; subst hx; simp
  | cons b l ih =>
    unfold spCL at hx
    split at hx
    · rcases List.mem_cons.1 hx with rfl | hx
      · simp
      · have := ih x hx; simp; omega
    · cases hs : spCL c l with
      | nil => exact absurd hs (spCL_ne c l)
      | cons a t =>
        rw [hs] at hx
        rw [hs] at ih
        rcases List.mem_cons.1 hx with rfl | hx
        · have := ih a (by simp); simp; omega
        · have := ih x (by simp [hx]); simp; omega
set_option maxRecDepth 100000 in
set_option maxHeartbeats 4000000 in
theorem isUID_any (w : World) (s : ByteArray) (hs : s.size ≤ 8000000) : Calls Tryz.prog 110 #[.string s] w fun e w' => e = .returned (.bool ((spCB 46 s).all prB)) ∧ Below w.heap.size w w' := by
  have c := strC_split 46 s w hs
  have hlen := spCB_len 46 s
  have hel := strC_len 46 s
  generalize spCB 46 s = xs at *
  obtain ⟨W0, hW0⟩ : ∃ W0, w.alloc (.cells (xs.map Value.string).toArray 9) = W0 := ⟨_, rfl⟩
  have hb0 : Below w.heap.size w W0 := hW0 ▸ (Below.refl _ _).alloc (Nat.le_refl _) _
  have HCe : Hid (∀ i (h : i < xs.length), W0.cell? ⟨w.heap.size, i, none⟩ = some (.string xs[i])) := fun i h => hW0 ▸ cell_row w xs i h
  rw [hW0] at c
  have HB : Hid (Below w.heap.size w W0) := hb0
  obtain ⟨R, hR⟩ : ∃ R, xs.all prB = R := ⟨_, rfl⟩
  have HR : Hid ((xs.drop 0).all prB = R) := hR
  rw [hR]
  obtain ⟨n, hl⟩ : ∃ n, xs.length = n := ⟨_, rfl⟩
  have HL : Hid (xs.length = n) := hl
  have HE : Hid (∀ p ∈ xs, p.size ≤ s.size) := hel
  rw [hl] at hlen c
  clear hR hl hb0 hW0 hel
  go_enter Tryz.func110, Tryz.ntmps110
  go_wp2_with (go_at_call 115; refine Stop.mk ?_)
  refine Stop.out (c.mono ?_)
  rintro e W1 ⟨rfl, rfl⟩
  go_wp2
  go_loopg [8] n (fun k s8 wx => ∃ i : Nat, s8 = .int .i64 (i : Int) ∧ i ≤ n ∧ k + i = n ∧ Hid ((xs.drop i).all prB = R) ∧ wx = W0)
  case atStart => exact ⟨0, rfl, by omega, by omega, HR, rfl⟩
  case round =>
    clear HR c
    obtain ⟨i, rfl, hi, hg, HI, rfl⟩ := hrel
    by_cases hlt : i < n
    · have iI : (i : Int) < (n : Int) := by omega
      have hlx : i < xs.length := by have := HL.out; omega
      obtain ⟨u, hu⟩ : ∃ u, xs[i] = u := ⟨_, rfl⟩
      have cl : wr.cell? ⟨w.heap.size, i, none⟩ = some (.string u) := by have h0 := HCe.out i hlx; rw [hu] at h0; exact h0
      have hsz : u.size ≤ s.size := HE.out u (by rw [← hu]; exact List.getElem_mem hlx)
      have ca := allDigits_any wr u (by omega)
      have HI2 : Hid ((prB u && (xs.drop (i + 1)).all prB) = R) := by
        have := HI.out
        rw [List.drop_eq_getElem_cons hlx, List.all_cons, hu] at this
        exact this
      clear HI hlx hu
      cases ha : alD u with
      | false =>
        rw [ha] at ca
        obtain rfl : R = false := by have := HI2.out; unfold prB at this; rw [ha, Bool.false_and, Bool.false_and] at this; exact this.symm
        clear HI2 ha
        go_wp2_with (go_at_call 144; refine Stop.mk ?_)
        refine Stop.out (ca.mono ?_)
        rintro e2 W2 ⟨rfl, rfl⟩
        go_wp2
        go_ret
        exact ⟨rfl, HB.out⟩
      | true =>
        rw [ha] at ca
        have HI3 : Hid ((!zrB u && (xs.drop (i + 1)).all prB) = R) := by have := HI2.out; unfold prB at this; rw [ha, Bool.true_and] at this; exact this
        have hu0 : 0 < u.size := by unfold alD at ha; simp only [Bool.and_eq_true, decide_eq_true_eq] at ha; have := ha.1; omega
        have iu : (0 : Int) < (u.size : Int) := by omega
        clear HI2 ha
        obtain ⟨b, hb⟩ : ∃ b, u[0].toNat = b := ⟨_, rfl⟩
        have hgb : (u.get! 0).toNat = b := by rw [← get_get! u 0 hu0, hb]
        unfold zrB at HI3
        rw [hgb] at HI3
        clear hgb
        by_cases h48 : b = 48
        · subst h48
          rw [decide_eq_true rfl, Bool.true_and, Bool.not_not] at HI3
          cases hz : (u.toList == [48]) with
          | true =>
            rw [hz, Bool.true_and] at HI3
            go_wp2_with (go_at_call 144; refine Stop.mk ?_)
            refine Stop.out (ca.mono ?_)
            rintro e2 W2 ⟨rfl, rfl⟩
            go_wp2
            go_roundg (n - (i + 1))
            case measure => omega
            case rel => exact ⟨i + 1, by simp, by omega, by omega, HI3, rfl⟩
          | false =>
            obtain rfl : R = false := by have := HI3.out; rw [hz, Bool.false_and] at this; exact this.symm
            clear HI3
            go_wp2_with (go_at_call 144; refine Stop.mk ?_)
            refine Stop.out (ca.mono ?_)
            rintro e2 W2 ⟨rfl, rfl⟩
            go_wp2
            go_ret
            exact ⟨rfl, HB.out⟩
        · have e1 : ((b : Int) == 48) = false := beq_eq_false_iff_ne.2 (by omega)
          rw [decide_eq_false h48, Bool.false_and, Bool.not_false, Bool.true_and] at HI3
          go_wp2_with (go_at_call 144; refine Stop.mk ?_)
          refine Stop.out (ca.mono ?_)
          rintro e2 W2 ⟨rfl, rfl⟩
          go_wp2
          go_roundg (n - (i + 1))
          case measure => omega
          case rel => exact ⟨i + 1, by simp, by omega, by omega, HI3, rfl⟩
    · have iI : ¬ ((i : Int) < (n : Int)) := by omega
      obtain rfl : R = true := by
        have := HI.out
        rw [List.drop_eq_nil_of_le (by have := HL.out; omega)] at this
        exact this.symm
      clear HI
      go_wp2
      go_ret
      exact ⟨rfl, HB.out⟩
end Go.Proofs.YtgdemlebohlolaaGreatDoor.Ck

/-
  DERIVED. The program's form of names.
-/
namespace Go.Proofs.YtgdemlebohlolaaGreatDoor.Ck
open Go Go.Proofs Go.RowKit

/-- Are there too many components? -/
def crB (p : ByteArray) : Bool := decide (4 < Lib.countByte p.data.toList 94)
theorem crowd_any (w : World) (p : ByteArray) : Calls Tryz.prog 141 #[.string p] w fun e w' => e = .returned (.bool (crB p)) ∧ w = w' := by
  have c : Calls Tryz.prog 142 #[.string p, .string ⟨#[94]⟩] w fun e w' => e = .returned (.int .i64 (Lib.countByte p.data.toList 94)) ∧ w' = w := Any.strings_Count_one coLays138 p 94 w
  unfold crB
  generalize Lib.countByte p.data.toList 94 = k at *
  go_enter Tryz.func141, Tryz.ntmps141
  go_wp2_with (go_at_call 142; refine Stop.mk ?_)
  refine Stop.out (c.mono ?_)
  rintro e W1 ⟨rfl, rfl⟩
  go_wp2
  go_ret
  exact ⟨by simp; omega, rfl⟩
/-- The first piece that the function takes. -/
def fdx (m : ByteArray → Bool) : List ByteArray → Nat → Int
  | [], _ => -1
  | x :: xs, i => if m x = true then (i : Int) else fdx m xs (i + 1)
theorem fdx_any (m : ByteArray → Bool) : ∀ xs i, decide (0 ≤ fdx m xs i) = xs.any m
  | [], i => by rw [fdx]; rfl
  | x :: xs, i => by
    rw [fdx, List.any_cons]
    cases hx : m x with
    | true => rw [if_pos rfl]; simp
    | false => rw [if_neg (by simp), fdx_any m xs (i + 1)]; simp
set_option maxRecDepth 100000 in
set_option maxHeartbeats 2000000 in
theorem idxf_any (W0 : World) (g cap n : Nat) (xs : List ByteArray) (hn : n ≤ 1000000000000) (HL : Hid (xs.length = n)) (HCe : Hid (∀ i (h : i < xs.length), W0.cell? ⟨g, i, none⟩ = some (.string xs[i]))) :
    Calls Tryz.prog 166 #[.slice (some ⟨g, 0, none⟩) n cap, .func (.func 141) #[] #[]] W0 fun e w' => e = .returned (.int .i64 (fdx crB xs 0)) ∧ W0 = w' := by
  obtain ⟨R, hR⟩ : ∃ R, fdx crB xs 0 = R := ⟨_, rfl⟩
  have HR : Hid (fdx crB (xs.drop 0) 0 = R) := hR
  rw [hR]
  clear hR
  go_enter Tryz.func166, Tryz.ntmps166
  go_wp2
  go_loopg [8] n (fun k s8 wx => ∃ i : Nat, s8 = .int .i64 (i : Int) ∧ i ≤ n ∧ k + i = n ∧ Hid (fdx crB (xs.drop i) i = R) ∧ wx = W0)
  case atStart => exact ⟨0, rfl, by omega, by omega, HR, rfl⟩
  case round =>
    clear HR
    obtain ⟨i, rfl, hi, hg, HI, rfl⟩ := hrel
    by_cases hlt : i < n
    · have iI : (i : Int) < (n : Int) := by omega
      have hlx : i < xs.length := by have := HL.out; omega
      obtain ⟨u, hu⟩ : ∃ u, xs[i] = u := ⟨_, rfl⟩
      have cl : wr.cell? ⟨g, i, none⟩ = some (.string u) := by have h0 := HCe.out i hlx; rw [hu] at h0; exact h0
      have c := crowd_any wr u
      have HI2 : Hid ((if crB u = true then (i : Int) else fdx crB (xs.drop (i + 1)) (i + 1)) = R) := by
        have := HI.out
        rw [List.drop_eq_getElem_cons hlx, fdx, hu] at this
        exact this
      clear HI hlx hu
      cases hm : crB u with
      | true =>
        rw [hm] at c
        obtain rfl : (i : Int) = R := by have := HI2.out; rw [if_pos hm] at this; exact this
        clear HI2 hm
        go_wp2_with (go_at_call 141; refine Stop.mk ?_)
        refine Stop.out (c.mono ?_)
        rintro e2 W2 ⟨rfl, rfl⟩
        go_wp2
        go_ret
        exact ⟨rfl, rfl⟩
      | false =>
        rw [hm] at c
        have HI3 : Hid (fdx crB (xs.drop (i + 1)) (i + 1) = R) := by have := HI2.out; rw [hm, if_neg (by decide)] at this; exact this
        clear HI2 hm
        go_wp2_with (go_at_call 141; refine Stop.mk ?_)
        refine Stop.out (c.mono ?_)
        rintro e2 W2 ⟨rfl, rfl⟩
        go_wp2
        go_roundg (n - (i + 1))
        case measure => omega
        case rel => exact ⟨i + 1, by simp, by omega, by omega, HI3, rfl⟩
    · have iI : ¬ ((i : Int) < (n : Int)) := by omega
      obtain rfl : -1 = R := by
        have := HI.out
        rw [List.drop_eq_nil_of_le (by have := HL.out; omega)] at this
        exact this
      clear HI
      go_wp2
      go_ret
      exact ⟨rfl, rfl⟩
theorem contf_any (W0 : World) (g cap n : Nat) (xs : List ByteArray) (hn : n ≤ 1000000000000) (HL : Hid (xs.length = n)) (HCe : Hid (∀ i (h : i < xs.length), W0.cell? ⟨g, i, none⟩ = some (.string xs[i]))) :
    Calls Tryz.prog 143 #[.slice (some ⟨g, 0, none⟩) n cap, .func (.func 141) #[] #[]] W0 fun e w' => e = .returned (.bool (xs.any crB)) ∧ W0 = w' := by
  have c := idxf_any W0 g cap n xs hn HL HCe
  rw [← fdx_any crB xs 0]
  generalize fdx crB xs 0 = k at *
  clear HL HCe
  go_enter Tryz.func143, Tryz.ntmps143
  go_wp2_with (go_at_call 166; refine Stop.mk ?_)
  refine Stop.out (c.mono ?_)
  rintro e W1 ⟨rfl, rfl⟩
  go_wp2
  go_ret
  exact ⟨by simp, rfl⟩
def nmP (s : ByteArray) : Bool := decide ((spCB 61 s).length ≤ 3) && !(spCB 61 s).any crB
set_option maxRecDepth 100000 in
set_option maxHeartbeats 2000000 in
theorem isName_any (w : World) (s : ByteArray) (hs : s.size ≤ 8000000) : Calls Tryz.prog 107 #[.string s] w fun e w' => e = .returned (.bool (nmP s)) ∧ Below w.heap.size w w' := by
  have c := strC_split 61 s w hs
  have hlen := spCB_len 61 s
  unfold nmP
  generalize spCB 61 s = xs at *
  obtain ⟨W0, hW0⟩ : ∃ W0, w.alloc (.cells (xs.map Value.string).toArray 9) = W0 := ⟨_, rfl⟩
  have hb0 : Below w.heap.size w W0 := hW0 ▸ (Below.refl _ _).alloc (Nat.le_refl _) _
  have HCe : Hid (∀ i (h : i < xs.length), W0.cell? ⟨w.heap.size, i, none⟩ = some (.string xs[i])) := fun i h => hW0 ▸ cell_row w xs i h
  rw [hW0] at c
  have HB : Hid (Below w.heap.size w W0) := hb0
  obtain ⟨n, hl⟩ : ∃ n, xs.length = n := ⟨_, rfl⟩
  have cf := contf_any W0 w.heap.size n n xs (by omega) hl HCe
  generalize xs.any crB = Z at *
  rw [hl] at hlen c ⊢
  clear hl hb0 hW0 HCe
  by_cases h3 : n ≤ 3
  · have i3 : (n : Int) ≤ 3 := by omega
    rw [decide_eq_true h3, Bool.true_and]
    go_enter Tryz.func107, Tryz.ntmps107
    go_wp2_with (go_at_call 115; refine Stop.mk ?_)
    refine Stop.out (c.mono ?_)
    rintro e W1 ⟨rfl, rfl⟩
    go_wp2_with (go_at_call 143; refine Stop.mk ?_)
    refine Stop.out (cf.mono ?_)
    rintro e W1 ⟨rfl, rfl⟩
    go_wp2
    go_ret
    exact ⟨rfl, HB.out⟩
  · have i3 : ¬ ((n : Int) ≤ 3) := by omega
    rw [decide_eq_false h3, Bool.false_and]
    go_enter Tryz.func107, Tryz.ntmps107
    go_wp2_with (go_at_call 115; refine Stop.mk ?_)
    refine Stop.out (c.mono ?_)
    rintro e W1 ⟨rfl, rfl⟩
    go_wp2
    go_ret
    exact ⟨rfl, HB.out⟩
end Go.Proofs.YtgdemlebohlolaaGreatDoor.Ck

namespace Go.Proofs.YtgdemlebohlolaaGreatDoor.Ck
open Go Go.Proofs Go.RowKit Go.Shelf Go.Lib

/-- What the shelf's names are here. -/
def piRen : Go.Shelf.Ren := ⟨fun | 129 => 206 | 171 => 196 | 174 => 139 | 205 => 195 | 243 => 199 | 245 => 164 | 246 => 200 | 247 => 163 | 279 => 183 | 280 => 184 | 281 => 185 | 282 => 186 | 283 => 201 | 284 => 202 | 285 => 203 | 286 => 204 | 287 => 182 | 316 => 194 | 317 => 205 | 318 => 207 | 319 => 208 | 320 => 209 | 321 => 192 | 322 => 193 | 337 => 210 | 338 => 211 | n => n, fun | 0 => 0 | 2 => 2 | 3 => 3 | 4 => 4 | 5 => 5 | 9 => 9 | 20 => 20 | 21 => 21 | 37 => 161 | 46 => 104 | 51 => 122 | 53 => 171 | 75 => 26 | 80 => 167 | 85 => 135 | 127 => 180 | 143 => 189 | 145 => 191 | 167 => 170 | 168 => 174 | 171 => 193 | 173 => 196 | 175 => 172 | 210 => 183 | 212 => 199 | 213 => 200 | 232 => 203 | 233 => 204 | n => n, fun | 15 => 6 | 16 => 7 | 17 => 8 | 18 => 9 | 19 => 10 | n => n⟩
theorem piLays174 : Go.Proofs.LaysC.n174 Tryz.prog piRen := {
  mixed := by kernel_rfl,
  f129 := Tryz.func206.trans (congrArg some (by kernel_rfl)),
  f171 := Tryz.func196.trans (congrArg some (by kernel_rfl)),
  f174 := Tryz.func139.trans (congrArg some (by kernel_rfl)),
  f205 := Tryz.func195.trans (congrArg some (by kernel_rfl)),
  f243 := Tryz.func199.trans (congrArg some (by kernel_rfl)),
  f245 := Tryz.func164.trans (congrArg some (by kernel_rfl)),
  f246 := Tryz.func200.trans (congrArg some (by kernel_rfl)),
  f247 := Tryz.func163.trans (congrArg some (by kernel_rfl)),
  f279 := Tryz.func183.trans (congrArg some (by kernel_rfl)),
  f280 := Tryz.func184.trans (congrArg some (by kernel_rfl)),
  f281 := Tryz.func185.trans (congrArg some (by kernel_rfl)),
  f282 := Tryz.func186.trans (congrArg some (by kernel_rfl)),
  f283 := Tryz.func201.trans (congrArg some (by kernel_rfl)),
  f284 := Tryz.func202.trans (congrArg some (by kernel_rfl)),
  f285 := Tryz.func203.trans (congrArg some (by kernel_rfl)),
  f286 := Tryz.func204.trans (congrArg some (by kernel_rfl)),
  f287 := Tryz.func182.trans (congrArg some (by kernel_rfl)),
  f316 := Tryz.func194.trans (congrArg some (by kernel_rfl)),
  f317 := Tryz.func205.trans (congrArg some (by kernel_rfl)),
  f318 := Tryz.func207.trans (congrArg some (by kernel_rfl)),
  f319 := Tryz.func208.trans (congrArg some (by kernel_rfl)),
  f320 := Tryz.func209.trans (congrArg some (by kernel_rfl)),
  f321 := Tryz.func192.trans (congrArg some (by kernel_rfl)),
  f322 := Tryz.func193.trans (congrArg some (by kernel_rfl)),
  f337 := Tryz.func210.trans (congrArg some (by kernel_rfl)),
  f338 := Tryz.func211.trans (congrArg some (by kernel_rfl)),
  t0 := Tryz.underlying0,
  a0 := Tryz.isAgg0,
  z0 := Tryz.sizeOf0,
  v0 := Tryz.zeroValue0,
  t2 := Tryz.underlying2,
  a2 := Tryz.isAgg2,
  z2 := Tryz.sizeOf2,
  v2 := Tryz.zeroValue2,
  t3 := Tryz.underlying3,
  a3 := Tryz.isAgg3,
  z3 := Tryz.sizeOf3,
  v3 := Tryz.zeroValue3,
  t4 := Tryz.underlying4,
  a4 := Tryz.isAgg4,
  z4 := Tryz.sizeOf4,
  v4 := Tryz.zeroValue4,
  t5 := Tryz.underlying5,
  a5 := Tryz.isAgg5,
  z5 := Tryz.sizeOf5,
  v5 := Tryz.zeroValue5,
  t9 := Tryz.underlying9,
  a9 := Tryz.isAgg9,
  z9 := Tryz.sizeOf9,
  v9 := Tryz.zeroValue9,
  t20 := Tryz.underlying20,
  a20 := Tryz.isAgg20,
  z20 := Tryz.sizeOf20,
  v20 := Tryz.zeroValue20,
  t21 := Tryz.underlying21,
  a21 := Tryz.isAgg21,
  z21 := Tryz.sizeOf21,
  v21 := Tryz.zeroValue21,
  t37 := Tryz.underlying161,
  a37 := Tryz.isAgg161,
  z37 := Tryz.sizeOf161,
  v37 := Tryz.zeroValue161,
  t46 := Tryz.underlying104,
  a46 := Tryz.isAgg104,
  z46 := Tryz.sizeOf104,
  v46 := Tryz.zeroValue104,
  t51 := Tryz.underlying122,
  a51 := Tryz.isAgg122,
  z51 := Tryz.sizeOf122,
  v51 := Tryz.zeroValue122,
  t53 := Tryz.underlying171,
  a53 := Tryz.isAgg171,
  z53 := Tryz.sizeOf171,
  v53 := Tryz.zeroValue171,
  t75 := Tryz.underlying26,
  a75 := Tryz.isAgg26,
  z75 := Tryz.sizeOf26,
  v75 := Tryz.zeroValue26,
  t85 := Tryz.underlying135,
  a85 := Tryz.isAgg135,
  z85 := Tryz.sizeOf135,
  v85 := Tryz.zeroValue135,
  t127 := Tryz.underlying180,
  a127 := Tryz.isAgg180,
  z127 := Tryz.sizeOf180,
  v127 := Tryz.zeroValue180,
  t143 := Tryz.underlying189,
  a143 := Tryz.isAgg189,
  z143 := Tryz.sizeOf189,
  v143 := Tryz.zeroValue189,
  t145 := Tryz.underlying191,
  a145 := Tryz.isAgg191,
  z145 := Tryz.sizeOf191,
  v145 := Tryz.zeroValue191,
  t167 := Tryz.underlying170,
  a167 := Tryz.isAgg170,
  z167 := Tryz.sizeOf170,
  v167 := Tryz.zeroValue170,
  t168 := Tryz.underlying174,
  a168 := Tryz.isAgg174,
  z168 := Tryz.sizeOf174,
  v168 := Tryz.zeroValue174,
  t171 := Tryz.underlying193,
  a171 := Tryz.isAgg193,
  z171 := Tryz.sizeOf193,
  v171 := Tryz.zeroValue193,
  t173 := Tryz.underlying196,
  a173 := Tryz.isAgg196,
  z173 := Tryz.sizeOf196,
  v173 := Tryz.zeroValue196,
  t175 := Tryz.underlying172,
  a175 := Tryz.isAgg172,
  z175 := Tryz.sizeOf172,
  v175 := Tryz.zeroValue172,
  t210 := Tryz.underlying183,
  a210 := Tryz.isAgg183,
  z210 := Tryz.sizeOf183,
  v210 := Tryz.zeroValue183,
  t212 := Tryz.underlying199,
  a212 := Tryz.isAgg199,
  z212 := Tryz.sizeOf199,
  v212 := Tryz.zeroValue199,
  t213 := Tryz.underlying200,
  a213 := Tryz.isAgg200,
  z213 := Tryz.sizeOf200,
  t232 := Tryz.underlying203,
  a232 := Tryz.isAgg203,
  z232 := Tryz.sizeOf203,
  v232 := Tryz.zeroValue203,
  t233 := Tryz.underlying204,
  a233 := Tryz.isAgg204,
  z233 := Tryz.sizeOf204,
  v233 := Tryz.zeroValue204,
  g15 := by kernel_rfl,
  g16 := by kernel_rfl,
  g17 := by kernel_rfl,
  g18 := by kernel_rfl,
  g19 := by kernel_rfl,
  t80 := Tryz.underlying167,
  a80 := Tryz.isAgg167,
  z80 := Tryz.sizeOf167,
  v80 := Tryz.zeroValue167,
  i0 := by kernel_rfl,
  i2 := by kernel_rfl,
  i3 := by kernel_rfl,
  i4 := by kernel_rfl,
  i5 := by kernel_rfl,
  i9 := by kernel_rfl,
  i20 := by kernel_rfl,
  i21 := by kernel_rfl,
  i37 := by kernel_rfl,
  i46 := by kernel_rfl,
  i51 := by kernel_rfl,
  i53 := by kernel_rfl,
  i75 := by kernel_rfl,
  i80 := by kernel_rfl,
  i85 := by kernel_rfl,
  i127 := by kernel_rfl,
  i143 := by kernel_rfl,
  i145 := by kernel_rfl,
  i167 := by kernel_rfl,
  i168 := by kernel_rfl,
  i171 := by kernel_rfl,
  i173 := by kernel_rfl,
  i175 := by kernel_rfl,
  i210 := by kernel_rfl,
  i212 := by kernel_rfl,
  i232 := by kernel_rfl,
  i233 := by kernel_rfl,
  m15 := by kernel_rfl,
  m16 := by kernel_rfl,
  m17 := by kernel_rfl,
  m18 := by kernel_rfl,
  m19 := by kernel_rfl,
  c0 := by kernel_rfl,
  c2 := by kernel_rfl,
  c3 := by kernel_rfl,
  c4 := by kernel_rfl,
  c5 := by kernel_rfl,
  c9 := by kernel_rfl,
  c20 := by kernel_rfl,
  c21 := by kernel_rfl,
  c37 := by kernel_rfl,
  c46 := by kernel_rfl,
  c51 := by kernel_rfl,
  c53 := by kernel_rfl,
  c75 := by kernel_rfl,
  c80 := by kernel_rfl,
  c85 := by kernel_rfl,
  c127 := by kernel_rfl,
  c143 := by kernel_rfl,
  c145 := by kernel_rfl,
  c167 := by kernel_rfl,
  c168 := by kernel_rfl,
  c171 := by kernel_rfl,
  c173 := by kernel_rfl,
  c175 := by kernel_rfl,
  c210 := by kernel_rfl,
  c212 := by kernel_rfl,
  c213 := by kernel_rfl,
  c232 := by kernel_rfl,
  c233 := by kernel_rfl }

/-- What the shelf's names are here. -/
def decRen : Go.Shelf.Ren := ⟨fun | 197 => 83 | 260 => 116 | n => n, fun | 0 => 0 | 3 => 3 | 4 => 4 | 5 => 5 | 9 => 9 | 21 => 21 | 46 => 104 | 105 => 114 | 119 => 140 | 138 => 142 | 139 => 143 | n => n, fun | 3 => 3 | 4 => 4 | n => n⟩
theorem decLays197 : Go.Proofs.Lays.n197 Tryz.prog decRen := {
  mixed := by kernel_rfl,
  f197 := Tryz.func83.trans (congrArg some (by kernel_rfl)),
  f260 := Tryz.func116.trans (congrArg some (by kernel_rfl)),
  t0 := Tryz.underlying0,
  a0 := Tryz.isAgg0,
  z0 := Tryz.sizeOf0,
  v0 := Tryz.zeroValue0,
  t3 := Tryz.underlying3,
  a3 := Tryz.isAgg3,
  z3 := Tryz.sizeOf3,
  v3 := Tryz.zeroValue3,
  t4 := Tryz.underlying4,
  a4 := Tryz.isAgg4,
  z4 := Tryz.sizeOf4,
  v4 := Tryz.zeroValue4,
  t5 := Tryz.underlying5,
  a5 := Tryz.isAgg5,
  z5 := Tryz.sizeOf5,
  v5 := Tryz.zeroValue5,
  t9 := Tryz.underlying9,
  a9 := Tryz.isAgg9,
  z9 := Tryz.sizeOf9,
  v9 := Tryz.zeroValue9,
  t21 := Tryz.underlying21,
  a21 := Tryz.isAgg21,
  z21 := Tryz.sizeOf21,
  v21 := Tryz.zeroValue21,
  t46 := Tryz.underlying104,
  a46 := Tryz.isAgg104,
  z46 := Tryz.sizeOf104,
  v46 := Tryz.zeroValue104,
  t105 := Tryz.underlying114,
  a105 := Tryz.isAgg114,
  z105 := Tryz.sizeOf114,
  v105 := Tryz.zeroValue114,
  t119 := Tryz.underlying140,
  a119 := Tryz.isAgg140,
  z119 := Tryz.sizeOf140,
  t138 := Tryz.underlying142,
  a138 := Tryz.isAgg142,
  z138 := Tryz.sizeOf142,
  v138 := Tryz.zeroValue142,
  t139 := Tryz.underlying143,
  a139 := Tryz.isAgg143,
  z139 := Tryz.sizeOf143,
  v139 := Tryz.zeroValue143,
  g3 := by kernel_rfl,
  g4 := by kernel_rfl }

/-- What the shelf's names are here. -/
def rcRen : Go.Shelf.Ren := ⟨fun | 195 => 82 | n => n, fun | 0 => 0 | 3 => 3 | 4 => 4 | 9 => 9 | n => n, fun  | n => n⟩
theorem rcLays195 : Go.Proofs.Lays.n195 Tryz.prog rcRen := {
  mixed := by kernel_rfl,
  f195 := Tryz.func82.trans (congrArg some (by kernel_rfl)),
  t0 := Tryz.underlying0,
  a0 := Tryz.isAgg0,
  z0 := Tryz.sizeOf0,
  v0 := Tryz.zeroValue0,
  t3 := Tryz.underlying3,
  a3 := Tryz.isAgg3,
  z3 := Tryz.sizeOf3,
  v3 := Tryz.zeroValue3,
  t4 := Tryz.underlying4,
  a4 := Tryz.isAgg4,
  z4 := Tryz.sizeOf4,
  v4 := Tryz.zeroValue4,
  t9 := Tryz.underlying9,
  a9 := Tryz.isAgg9,
  z9 := Tryz.sizeOf9,
  v9 := Tryz.zeroValue9 }
end Go.Proofs.YtgdemlebohlolaaGreatDoor.Ck
