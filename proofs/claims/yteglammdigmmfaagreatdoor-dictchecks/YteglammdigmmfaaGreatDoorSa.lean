import Derived.Test.YteglammdigmmfaaGreatDoorRE
import Derived.Test.YteglammdigmmfaaGreatDoorRK
import Derived.Lib.ConvBytes
import Derived.Laws.IdiomStrings
import Derived.Test.YteglammdigmmfaaGreatDoorProg
import Derived.Shelf.Strings.Split
/-
  DERIVED. A text that is bumped; nodes that are turned where they lie.
-/
namespace Go.Proofs.YteglammdigmmfaaGreatDoor.Sp
open Go Go.Proofs Go.RowKit

theorem cell_set_neq {W : World} {b i j : Nat} {v : Value} (h : i ≠ j) : (W.setCell ⟨b, i, none⟩ v).cell? ⟨b, j, none⟩ = W.cell? ⟨b, j, none⟩ := by
  apply World.cell?_setCell_other; simp
theorem cell_set_eq {W : World} {b i : Nat} {v u : Value} (h : W.cell? ⟨b, i, none⟩ = some u) : (W.setCell ⟨b, i, none⟩ v).cell? ⟨b, i, none⟩ = some v := by
  apply World.cell?_setCell_same; exact h

/-- A VR whose elements have values. -/
def okV (v : Int) : Bool := decide (1 ≤ v ∧ v ≤ 28 ∧ v ≠ 18)
set_option maxRecDepth 100000 in
set_option maxHeartbeats 2000000 in
theorem values_any (W : World) (v : Int) : ∃ n p u m t c q l cf ff, (Rp.FunV cf ∧ Rp.FunV ff) ∧ (okV v = true → u = Rp.un (Rp.vn v) ∧ t = Rp.tx (Rp.vn v) ∧ q = Rp.mu (Rp.vn v)) ∧ Calls Tryz.prog 13 #[.int .i64 v] W fun e w' => e = .returned (.tuple #[.agg #[.string n, .int .u8 p, .int .i64 u, .int .i64 m, .bool t, .bool c, .bool q, .bool l, cf, ff], .bool (okV v)]) ∧ Hid (Below W.heap.size W w') := by
  by_cases h18 : v = 18
  · subst h18
    rw [show okV 18 = false from by decide]
    refine ⟨{ data := #[] }, 0, 0, 0, false, false, false, false, .nilFunc, .nilFunc, ⟨⟨.inl rfl, .inl rfl⟩, fun h => (by cases h), ?_⟩⟩
    go_enter Tryz.func13, Tryz.ntmps13
    go_wp2
    exact bodyPost_ret (by simp only [results, Tryz.results13]; simp [go_sem]) rfl ⟨rfl, (Below.refl _ _).alloc (Nat.le_refl _) _⟩
  · obtain ⟨cf, ff, hcf, hff, c25⟩ : ∃ cf ff, Rp.FunV cf ∧ Rp.FunV ff ∧ ∀ W, Calls Tryz.prog 31 #[.int .i64 v] W fun e w' => e = .returned (.tuple #[.agg #[.string (Rp.nm (Rp.vn v)), .int .u8 (Rp.pd (Rp.vn v)), .int .i64 (Rp.un (Rp.vn v)), .int .i64 (Rp.mo (Rp.vn v)), .bool (Rp.tx (Rp.vn v)), .bool (Rp.ch (Rp.vn v)), .bool (Rp.mu (Rp.vn v)), .bool (Rp.lo (Rp.vn v)), cf, ff], .bool (decide (1 ≤ v ∧ v ≤ 28))]) ∧ Below W.heap.size W w' := by
      obtain ⟨cf, ff, h1, h2, h3⟩ := Rp.rep_shape v
      refine ⟨cf, ff, h1, h2, fun W => ?_⟩
      have := Rp.repOf_any W v
      rw [h3] at this
      exact this
    refine ⟨Rp.nm (Rp.vn v), Rp.pd (Rp.vn v), Rp.un (Rp.vn v), Rp.mo (Rp.vn v), Rp.tx (Rp.vn v), Rp.ch (Rp.vn v), Rp.mu (Rp.vn v), Rp.lo (Rp.vn v), cf, ff, ⟨⟨hcf, hff⟩, fun _ => ⟨rfl, rfl, rfl⟩, ?_⟩⟩
    have hok : decide (1 ≤ v ∧ v ≤ 28) = okV v := by unfold okV; simp [h18]
    rw [hok] at c25
    generalize okV v = ok at *
    generalize Rp.nm (Rp.vn v) = n at *
    generalize Rp.pd (Rp.vn v) = p at *
    generalize Rp.un (Rp.vn v) = u at *
    generalize Rp.mo (Rp.vn v) = m at *
    generalize Rp.tx (Rp.vn v) = t at *
    generalize Rp.ch (Rp.vn v) = c at *
    generalize Rp.mu (Rp.vn v) = q at *
    generalize Rp.lo (Rp.vn v) = l at *
    clear hok
    have HC : Hid (∀ w', Below (W.heap.size + 1) (W.alloc (.cells #[.string ⟨#[]⟩, .int .u8 0, .int .i64 0, .int .i64 0, .bool false, .bool false, .bool false, .bool false, .nilFunc, .nilFunc] 44)) w' → w'.cell? ⟨W.heap.size, 0, none⟩ = some (.string ⟨#[]⟩) ∧ w'.frozen? ⟨W.heap.size, 0, none⟩ = false ∧ w'.cell? ⟨W.heap.size, 1, none⟩ = some (.int .u8 0) ∧ w'.frozen? ⟨W.heap.size, 1, none⟩ = false ∧ w'.cell? ⟨W.heap.size, 2, none⟩ = some (.int .i64 0) ∧ w'.frozen? ⟨W.heap.size, 2, none⟩ = false ∧ w'.cell? ⟨W.heap.size, 3, none⟩ = some (.int .i64 0) ∧ w'.frozen? ⟨W.heap.size, 3, none⟩ = false ∧ w'.cell? ⟨W.heap.size, 4, none⟩ = some (.bool false) ∧ w'.frozen? ⟨W.heap.size, 4, none⟩ = false ∧ w'.cell? ⟨W.heap.size, 5, none⟩ = some (.bool false) ∧ w'.frozen? ⟨W.heap.size, 5, none⟩ = false ∧ w'.cell? ⟨W.heap.size, 6, none⟩ = some (.bool false) ∧ w'.frozen? ⟨W.heap.size, 6, none⟩ = false ∧ w'.cell? ⟨W.heap.size, 7, none⟩ = some (.bool false) ∧ w'.frozen? ⟨W.heap.size, 7, none⟩ = false ∧ w'.cell? ⟨W.heap.size, 8, none⟩ = some (.nilFunc) ∧ w'.frozen? ⟨W.heap.size, 8, none⟩ = false ∧ w'.cell? ⟨W.heap.size, 9, none⟩ = some (.nilFunc) ∧ w'.frozen? ⟨W.heap.size, 9, none⟩ = false) := fun w' hb => by
      have hh : w'.heap[W.heap.size]? = some (.cells #[.string ⟨#[]⟩, .int .u8 0, .int .i64 0, .int .i64 0, .bool false, .bool false, .bool false, .bool false, .nilFunc, .nilFunc] 44) := (hb.block W.heap.size (by omega)).trans (Wk.heap_new W _)
      refine ⟨?_, ?_, ?_, ?_, ?_, ?_, ?_, ?_, ?_, ?_, ?_, ?_, ?_, ?_, ?_, ?_, ?_, ?_, ?_, ?_⟩
      all_goals first | (rw [cell_of_row _ _ _ _ _ _ hh]; rfl) | (rw [World.frozen?, hh]; rfl)
    rcases hcf with rfl | ⟨j, rfl⟩ <;> rcases hff with rfl | ⟨j2, rfl⟩
    all_goals go_enter Tryz.func13, Tryz.ntmps13
    all_goals go_wp2_with (first | (go_at_call 31; refine (c25 _).mono ?_; rintro e w' ⟨rfl, hb⟩; rw [Wk.size_alloc] at hb; obtain ⟨c0, f0, c1, f1, c2, f2, c3, f3, c4, f4, c5, f5, c6, f6, c7, f7, c8, f8, c9, f9⟩ := HC.out w' hb; have HBL : Hid (Below W.heap.size W w') := (((Below.refl _ _).alloc (Nat.le_refl _) _)).trans (hb.mono (by omega)); clear hb) | fail)
    all_goals exact bodyPost_ret (by simp only [results, Tryz.results13]; simp [go_sem, *]) rfl ⟨rfl, ((((((((((HBL.out.setCell (Nat.le_refl _) _).setCell (Nat.le_refl _) _).setCell (Nat.le_refl _) _).setCell (Nat.le_refl _) _).setCell (Nat.le_refl _) _).setCell (Nat.le_refl _) _).setCell (Nat.le_refl _) _).setCell (Nat.le_refl _) _).setCell (Nat.le_refl _) _).setCell (Nat.le_refl _) _)⟩
end Go.Proofs.YteglammdigmmfaaGreatDoor.Sp

/-
  DERIVED. Bytes that are cut into units.
-/
namespace Go.Proofs.YteglammdigmmfaaGreatDoor.Sp
open Go Go.Proofs Go.RowKit
open Wk (cell_lt own_keep Stop)

theorem below_grown {B : Nat} {W X W' : World} {v : Value} {e : TypeId} {sz n : Nat} {xs : List Value} (hb : Below B W X) (ho : X.ownsRow B e sz v n xs) (hB : B ≤ X.heap.size) (hg : X.grownBy W' v.ownBlock) : Below B W W' :=
  ⟨hg.os.trans hb.os, hg.tape.trans hb.tape, hg.output.trans hb.output, Nat.le_trans hb.size hg.size, fun k hk => (hg.block k (by omega) (fun q => by have := (ho.lt k q.symm).1; omega)).trans (hb.block k hk)⟩

/-- The units of a text, from a place on. -/
def pcF (s : ByteArray) (u : Nat) : Nat → Nat → List ByteArray
  | 0, f => [s.extract f s.size]
  | n + 1, f => if f + u < s.size then s.extract f (f + u) :: pcF s u n (f + u) else [s.extract f s.size]
theorem pcF_fuel (s : ByteArray) (u : Nat) (hu : 0 < u) : ∀ (n m f : Nat), s.size ≤ f + n → s.size ≤ f + m → pcF s u n f = pcF s u m f
  | 0, 0, _, _, _ => rfl
  | 0, m + 1, f, h, _ => by
      show [s.extract f s.size] = if f + u < s.size then _ else _
      rw [if_neg (by omega)]
  | n + 1, 0, f, _, h => by
      show (if f + u < s.size then _ else _) = [s.extract f s.size]
      rw [if_neg (by omega)]
  | n + 1, m + 1, f, h1, h2 => by
      show (if f + u < s.size then _ else _) = (if f + u < s.size then _ else _)
      by_cases h : f + u < s.size
      · rw [if_pos h, if_pos h, pcF_fuel s u hu n m (f + u) (by omega) (by omega)]
      · rw [if_neg h, if_neg h]
/-- All its units. -/
def pcs (s : ByteArray) (u : Nat) (f : Nat) : List ByteArray := pcF s u s.size f
theorem pcs_more {s : ByteArray} {u f : Nat} (hu : 0 < u) (h : f + u < s.size) : pcs s u f = s.extract f (f + u) :: pcs s u (f + u) := by
  obtain ⟨n, hn⟩ : ∃ n, s.size = n + 1 := ⟨s.size - 1, by omega⟩
  unfold pcs
  rw [pcF_fuel s u hu s.size (n + 1) f (by omega) (by omega)]
  show (if f + u < s.size then _ else _) = _
  rw [if_pos h, pcF_fuel s u hu n s.size (f + u) (by omega) (by omega)]
theorem pcs_last {s : ByteArray} {u f : Nat} (h : ¬ f + u < s.size) : pcs s u f = [s.extract f s.size] := by
  unfold pcs
  cases hn : s.size with
  | zero => show [s.extract f s.size] = _; rw [hn]
  | succ n =>
    show (if f + u < s.size then _ else [s.extract f s.size]) = _
    rw [if_neg h, hn]
theorem pcs_len (s : ByteArray) (u : Nat) (hu : 0 < u) : ∀ (n f : Nat), (pcF s u n f).length ≤ n + 1
  | 0, _ => Nat.le_refl _
  | n + 1, f => by
      show (if f + u < s.size then _ else _ : List ByteArray).length ≤ _
      by_cases h : f + u < s.size
      · rw [if_pos h, List.length_cons]; have := pcs_len s u hu n (f + u); omega
      · rw [if_neg h]; simp
theorem ext_size (s : ByteArray) (f : Nat) (h : f ≤ s.size) : (s.extract f s.size).size = s.size - f := by rw [ByteArray.size_extract]; omega
theorem ext_head (s : ByteArray) (f u : Nat) (h : f + u ≤ s.size) : (s.extract f s.size).extract 0 u = s.extract f (f + u) := by
  rw [ByteArray.extract_extract]; congr 1; omega
theorem ext_tail (s : ByteArray) (f u : Nat) (_h : f + u ≤ s.size) : (s.extract f s.size).extract u (s.size - f) = s.extract (f + u) s.size := by
  rw [ByteArray.extract_extract]; congr 1; omega

set_option maxRecDepth 100000 in
set_option maxHeartbeats 4000000 in
theorem pieces_any (W : World) (s : ByteArray) (u : Nat) (hu : 0 < u) (hu2 : u ≤ 1000) (hs : s.size ≤ 8000000) :
    Calls Tryz.prog 49 #[.string s, .int .i64 (u : Int)] W fun e w' => ∃ v, e = .returned v ∧ Hid (w'.ownsRow W.heap.size 9 1 v (pcs s u 0).length (u8s (pcs s u 0)) ∧ Below W.heap.size W w') := by
  have hs0 : s = s.extract 0 s.size := by rw [ByteArray.extract_zero_size]
  obtain ⟨B, hB⟩ : ∃ B, W.heap.size = B := ⟨_, rfl⟩
  rw [hB]
  go_enter Tryz.func49, Tryz.ntmps49
  go_wp2
  go_loopg [0, 5] s.size (fun g s0 s5 wx => ∃ (f : Nat) (L : List ByteArray), s0 = .string (s.extract f s.size) ∧ g + f = s.size ∧ f ≤ s.size ∧ Hid (wx.ownsRow B 9 1 s5 L.length (u8s L) ∧ Below B W wx ∧ L ++ pcs s u f = pcs s u 0 ∧ L.length ≤ f))
  case atStart => exact ⟨0, [], by rw [← hs0], by omega, by omega, World.ownsRow_nil _ _ _ _, Below.refl _ _, rfl, Nat.le_refl _⟩
  case round =>
    obtain ⟨f, L, rfl, hgf, hfs, HR⟩ := hrel
    have hz := ext_size s f hfs
    have hBw : B ≤ wr.heap.size := by rw [← hB]; exact HR.out.2.1.size
    have hll := HR.out.2.2.2
    have hd := ext_head s f u
    have ht := ext_tail s f u
    obtain ⟨r, hr⟩ : ∃ r, s.size - f = r := ⟨_, rfl⟩
    rw [hr] at hz ht
    obtain ⟨x, hx⟩ : ∃ x, s.extract f s.size = x := ⟨_, rfl⟩
    rw [hx] at hz hd ht ⊢
    by_cases hmore : u < r
    · have hI : (u : Int) < (r : Int) := by omega
      have hI2 : (u : Int) ≤ (r : Int) := by omega
      have HD : Hid _ := hd (by omega)
      have HT : Hid _ := ht (by omega)
      clear hd ht hx
      go_wp2_with (at_builtin; refine Stop.mk ?_)
      refine Stop.out (wpList_append_keeps rfl (.tmp 10) (.tmp 14) rfl B u5 L.length _ rfl (World.ownsRow.alloc HR.out.1 _) ⟨wr.heap.size, 0, none⟩ (.string (x.extract 0 u)) rfl rfl (by simp) (by unfold maxLen; omega) (by omega) (by simp; omega) ?_)
      intro g9 c9 W9 ho9 hg9 _
      have HB9 : Hid (Below B W W9) := below_grown (HR.out.2.1.alloc hBw _) (World.ownsRow.alloc HR.out.1 _) (by simp; omega) hg9
      have HO9 : Hid _ := ho9
      clear ho9 hg9
      go_wp2
      go_roundg (s.size - (f + u))
      case measure => omega
      case rel =>
        refine ⟨f + u, L ++ [s.extract f (f + u)], by rw [← HT.out], by omega, by omega, ?_, HB9.out, ?_, by rw [List.length_append, List.length_singleton]; omega⟩
        · rw [u8s_append, ← HD.out, List.length_append, List.length_singleton]
          exact HO9.out
        · rw [List.append_assoc, List.singleton_append, ← pcs_more hu (by omega)]
          exact HR.out.2.2.1
    · have hI : ¬ (u : Int) < (r : Int) := by omega
      clear hd ht
      have HX : Hid (s.extract f s.size = x) := hx
      clear hx
      go_wp2_with (at_builtin; refine Stop.mk ?_)
      refine Stop.out (wpList_append_keeps rfl (.tmp 19) (.tmp 21) rfl B u5 L.length _ rfl (World.ownsRow.alloc HR.out.1 _) ⟨wr.heap.size, 0, none⟩ (.string x) rfl rfl (by simp) (by unfold maxLen; omega) (by omega) (by simp; omega) ?_)
      intro g9 c9 W9 ho9 hg9 _
      have HB9 : Hid (Below B W W9) := below_grown (HR.out.2.1.alloc hBw _) (World.ownsRow.alloc HR.out.1 _) (by simp; omega) hg9
      have hfin : L ++ [x] = pcs s u 0 := by rw [← HX.out, ← pcs_last (u := u) (by omega)]; exact HR.out.2.2.1
      have HO9 : Hid (W9.ownsRow B 9 1 (.slice (some ⟨g9, 0, none⟩) (L.length + 1) c9) (pcs s u 0).length (u8s (pcs s u 0))) := by
        rw [← hfin, u8s_append, List.length_append, List.length_singleton]
        exact ho9
      clear ho9 hg9 hfin
      go_wp2
      go_ret
      exact ⟨_, rfl, HO9.out, HB9.out⟩
end Go.Proofs.YteglammdigmmfaaGreatDoor.Sp

namespace Go.Proofs.YteglammdigmmfaaGreatDoor.Sp
open Go Go.Proofs Go.RowKit Go.Shelf Go.Lib

/-- What the shelf's names are here. -/
def splRen : Go.Shelf.Ren := ⟨fun | 138 => 91 | 143 => 92 | 146 => 48 | 195 => 58 | 197 => 59 | 217 => 133 | 218 => 120 | 219 => 121 | 221 => 64 | 224 => 135 | 225 => 134 | 260 => 89 | 266 => 148 | 267 => 136 | 268 => 90 | 314 => 149 | n => n, fun | 0 => 0 | 3 => 3 | 4 => 4 | 5 => 5 | 9 => 9 | 21 => 21 | 31 => 57 | 46 => 97 | 51 => 22 | 105 => 95 | 119 => 116 | 138 => 118 | 139 => 119 | 146 => 145 | n => n, fun | 1 => 2 | 3 => 0 | 4 => 1 | n => n⟩
theorem splLays146 : Go.Proofs.Lays.n146 Tryz.prog splRen := {
  mixed := by kernel_rfl,
  f138 := Tryz.func91.trans (congrArg some (by kernel_rfl)),
  f143 := Tryz.func92.trans (congrArg some (by kernel_rfl)),
  f146 := Tryz.func48.trans (congrArg some (by kernel_rfl)),
  f195 := Tryz.func58.trans (congrArg some (by kernel_rfl)),
  f197 := Tryz.func59.trans (congrArg some (by kernel_rfl)),
  f217 := Tryz.func133.trans (congrArg some (by kernel_rfl)),
  f218 := Tryz.func120.trans (congrArg some (by kernel_rfl)),
  f219 := Tryz.func121.trans (congrArg some (by kernel_rfl)),
  f221 := Tryz.func64.trans (congrArg some (by kernel_rfl)),
  f224 := Tryz.func135.trans (congrArg some (by kernel_rfl)),
  f225 := Tryz.func134.trans (congrArg some (by kernel_rfl)),
  f260 := Tryz.func89.trans (congrArg some (by kernel_rfl)),
  f266 := Tryz.func148.trans (congrArg some (by kernel_rfl)),
  f267 := Tryz.func136.trans (congrArg some (by kernel_rfl)),
  f268 := Tryz.func90.trans (congrArg some (by kernel_rfl)),
  f314 := Tryz.func149.trans (congrArg some (by kernel_rfl)),
  t0 := Tryz.underlying0,
  a0 := Tryz.isAgg0,
  z0 := Tryz.sizeOf0,
  v0 := Tryz.zeroValue0,
  t3 := Tryz.underlying3,
  a3 := Tryz.isAgg3,
  z3 := Tryz.sizeOf3,
  v3 := Tryz.zeroValue3,
  t4 := Tryz.underlying4,
  a4 := Tryz.isAgg4,
  z4 := Tryz.sizeOf4,
  v4 := Tryz.zeroValue4,
  t5 := Tryz.underlying5,
  a5 := Tryz.isAgg5,
  z5 := Tryz.sizeOf5,
  v5 := Tryz.zeroValue5,
  t9 := Tryz.underlying9,
  a9 := Tryz.isAgg9,
  z9 := Tryz.sizeOf9,
  v9 := Tryz.zeroValue9,
  t21 := Tryz.underlying21,
  a21 := Tryz.isAgg21,
  z21 := Tryz.sizeOf21,
  v21 := Tryz.zeroValue21,
  t31 := Tryz.underlying57,
  a31 := Tryz.isAgg57,
  z31 := Tryz.sizeOf57,
  v31 := Tryz.zeroValue57,
  t46 := Tryz.underlying97,
  a46 := Tryz.isAgg97,
  z46 := Tryz.sizeOf97,
  v46 := Tryz.zeroValue97,
  t51 := Tryz.underlying22,
  a51 := Tryz.isAgg22,
  z51 := Tryz.sizeOf22,
  v51 := Tryz.zeroValue22,
  t105 := Tryz.underlying95,
  a105 := Tryz.isAgg95,
  z105 := Tryz.sizeOf95,
  v105 := Tryz.zeroValue95,
  t119 := Tryz.underlying116,
  a119 := Tryz.isAgg116,
  z119 := Tryz.sizeOf116,
  t138 := Tryz.underlying118,
  a138 := Tryz.isAgg118,
  z138 := Tryz.sizeOf118,
  v138 := Tryz.zeroValue118,
  t139 := Tryz.underlying119,
  a139 := Tryz.isAgg119,
  z139 := Tryz.sizeOf119,
  v139 := Tryz.zeroValue119,
  t146 := Tryz.underlying145,
  a146 := Tryz.isAgg145,
  z146 := Tryz.sizeOf145,
  v146 := Tryz.zeroValue145,
  g1 := by kernel_rfl,
  g3 := by kernel_rfl,
  g4 := by kernel_rfl }
end Go.Proofs.YteglammdigmmfaaGreatDoor.Sp
