import Derived.Test.YtlfmihhnijlpiaaGreatDoorSd
/-
  DERIVED. Bytes that are cut into units.
-/
namespace Go.Proofs.YtlfmihhnijlpiaaGreatDoor.Sp
open Go Go.Proofs Go.RowKit
open Wk (cell_lt own_keep Stop)

theorem below_grown {B : Nat} {W X W' : World} {v : Value} {e : TypeId} {sz n : Nat} {xs : List Value} (hb : Below B W X) (ho : X.ownsRow B e sz v n xs) (hB : B ≤ X.heap.size) (hg : X.grownBy W' v.ownBlock) : Below B W W' :=
  ⟨hg.os.trans hb.os, hg.tape.trans hb.tape, hg.output.trans hb.output, Nat.le_trans hb.size hg.size, fun k hk => (hg.block k (by omega) (fun q => by have := (ho.lt k q.symm).1; omega)).trans (hb.block k hk)⟩

/-- The units of a text, from a place on. -/
def pcF (s : ByteArray) (u : Nat) : Nat → Nat → List ByteArray
  | 0, f => [s.extract f s.size]
  | n + 1, f => if f + u < s.size then s.extract f (f + u) :: pcF s u n (f + u) else [s.extract f s.size]
theorem pcF_fuel (s : ByteArray) (u : Nat) (hu : 0 < u) : ∀ (n m f : Nat), s.size ≤ f + n → s.size ≤ f + m → pcF s u n f = pcF s u m f
  | 0, 0, _, _, _ => rfl
  | 0, m + 1, f, h, _ => by
      show [s.extract f s.size] = if f + u < s.size then _ else _
      rw [if_neg (by omega)]
  | n + 1, 0, f, _, h => by
      show (if f + u < s.size then _ else _) = [s.extract f s.size]
      rw [if_neg (by omega)]
  | n + 1, m + 1, f, h1, h2 => by
      show (if f + u < s.size then _ else _) = (if f + u < s.size then _ else _)
      by_cases h : f + u < s.size
      · rw [if_pos h, if_pos h, pcF_fuel s u hu n m (f + u) (by omega) (by omega)]
      · rw [if_neg h, if_neg h]
/-- All its units. -/
def pcs (s : ByteArray) (u : Nat) (f : Nat) : List ByteArray := pcF s u s.size f
theorem pcs_more {s : ByteArray} {u f : Nat} (hu : 0 < u) (h : f + u < s.size) : pcs s u f = s.extract f (f + u) :: pcs s u (f + u) := by
  obtain ⟨n, hn⟩ : ∃ n, s.size = n + 1 := ⟨s.size - 1, by omega⟩
  unfold pcs
  rw [pcF_fuel s u hu s.size (n + 1) f (by omega) (by omega)]
  show (if f + u < s.size then _ else _) = _
  rw [if_pos h, pcF_fuel s u hu n s.size (f + u) (by omega) (by omega)]
theorem pcs_last {s : ByteArray} {u f : Nat} (h : ¬ f + u < s.size) : pcs s u f = [s.extract f s.size] := by
  unfold pcs
  cases hn : s.size with
  | zero => show [s.extract f s.size] = _; rw [hn]
  | succ n =>
    show (if f + u < s.size then _ else [s.extract f s.size]) = _
    rw [if_neg h, hn]
theorem pcs_len (s : ByteArray) (u : Nat) (hu : 0 < u) : ∀ (n f : Nat), (pcF s u n f).length ≤ n + 1
  | 0, _ => Nat.le_refl _
  | n + 1, f => by
      show (if f + u < s.size then _ else _ : List ByteArray).length ≤ _
      by_cases h : f + u < s.size
      · rw [if_pos h, List.length_cons]; have := pcs_len s u hu n (f + u); omega
      · rw [if_neg h]; simp
theorem ext_size (s : ByteArray) (f : Nat) (h : f ≤ s.size) : (s.extract f s.size).size = s.size - f := by rw [ByteArray.size_extract]; omega
theorem ext_head (s : ByteArray) (f u : Nat) (h : f + u ≤ s.size) : (s.extract f s.size).extract 0 u = s.extract f (f + u) := by
  rw [ByteArray.extract_extract]; congr 1; omega
theorem ext_tail (s : ByteArray) (f u : Nat) (_h : f + u ≤ s.size) : (s.extract f s.size).extract u (s.size - f) = s.extract (f + u) s.size := by
  rw [ByteArray.extract_extract]; congr 1; omega

set_option maxRecDepth 100000 in
set_option maxHeartbeats 4000000 in
theorem pieces_any (W : World) (s : ByteArray) (u : Nat) (hu : 0 < u) (hu2 : u ≤ 1000) (hs : s.size ≤ 8000000) :
    Calls Tryz.prog 14 #[.string s, .int .i64 (u : Int)] W fun e w' => ∃ v, e = .returned v ∧ Hid (w'.ownsRow W.heap.size 9 1 v (pcs s u 0).length (u8s (pcs s u 0)) ∧ Below W.heap.size W w') := by
  have hs0 : s = s.extract 0 s.size := by rw [ByteArray.extract_zero_size]
  obtain ⟨B, hB⟩ : ∃ B, W.heap.size = B := ⟨_, rfl⟩
  rw [hB]
  go_enter Tryz.func14, Tryz.ntmps14
  go_wp2
  go_loopg [0, 5] s.size (fun g s0 s5 wx => ∃ (f : Nat) (L : List ByteArray), s0 = .string (s.extract f s.size) ∧ g + f = s.size ∧ f ≤ s.size ∧ Hid (wx.ownsRow B 9 1 s5 L.length (u8s L) ∧ Below B W wx ∧ L ++ pcs s u f = pcs s u 0 ∧ L.length ≤ f))
  case atStart => exact ⟨0, [], by rw [← hs0], by omega, by omega, World.ownsRow_nil _ _ _ _, Below.refl _ _, rfl, Nat.le_refl _⟩
  case round =>
    obtain ⟨f, L, rfl, hgf, hfs, HR⟩ := hrel
    have hz := ext_size s f hfs
    have hBw : B ≤ wr.heap.size := by rw [← hB]; exact HR.out.2.1.size
    have hll := HR.out.2.2.2
    have hd := ext_head s f u
    have ht := ext_tail s f u
    obtain ⟨r, hr⟩ : ∃ r, s.size - f = r := ⟨_, rfl⟩
    rw [hr] at hz ht
    obtain ⟨x, hx⟩ : ∃ x, s.extract f s.size = x := ⟨_, rfl⟩
    rw [hx] at hz hd ht ⊢
    by_cases hmore : u < r
    · have hI : (u : Int) < (r : Int) := by omega
      have hI2 : (u : Int) ≤ (r : Int) := by omega
      have HD : Hid _ := hd (by omega)
      have HT : Hid _ := ht (by omega)
      clear hd ht hx
      go_wp2_with (at_builtin; refine Stop.mk ?_)
      refine Stop.out (wpList_append_keeps rfl (.tmp 10) (.tmp 14) rfl B u5 L.length _ rfl (World.ownsRow.alloc HR.out.1 _) ⟨wr.heap.size, 0, none⟩ (.string (x.extract 0 u)) rfl rfl (by simp) (by unfold maxLen; omega) (by omega) (by simp; omega) ?_)
      intro g9 c9 W9 ho9 hg9 _
      have HB9 : Hid (Below B W W9) := below_grown (HR.out.2.1.alloc hBw _) (World.ownsRow.alloc HR.out.1 _) (by simp; omega) hg9
      have HO9 : Hid _ := ho9
      clear ho9 hg9
      go_wp2
      go_roundg (s.size - (f + u))
      case measure => omega
      case rel =>
        refine ⟨f + u, L ++ [s.extract f (f + u)], by rw [← HT.out], by omega, by omega, ?_, HB9.out, ?_, by rw [List.length_append, List.length_singleton]; omega⟩
        · rw [u8s_append, ← HD.out, List.length_append, List.length_singleton]
          exact HO9.out
        · rw [List.append_assoc, List.singleton_append, ← pcs_more hu (by omega)]
          exact HR.out.2.2.1
    · have hI : ¬ (u : Int) < (r : Int) := by omega
      clear hd ht
      have HX : Hid (s.extract f s.size = x) := hx
      clear hx
      go_wp2_with (at_builtin; refine Stop.mk ?_)
      refine Stop.out (wpList_append_keeps rfl (.tmp 19) (.tmp 21) rfl B u5 L.length _ rfl (World.ownsRow.alloc HR.out.1 _) ⟨wr.heap.size, 0, none⟩ (.string x) rfl rfl (by simp) (by unfold maxLen; omega) (by omega) (by simp; omega) ?_)
      intro g9 c9 W9 ho9 hg9 _
      have HB9 : Hid (Below B W W9) := below_grown (HR.out.2.1.alloc hBw _) (World.ownsRow.alloc HR.out.1 _) (by simp; omega) hg9
      have hfin : L ++ [x] = pcs s u 0 := by rw [← HX.out, ← pcs_last (u := u) (by omega)]; exact HR.out.2.2.1
      have HO9 : Hid (W9.ownsRow B 9 1 (.slice (some ⟨g9, 0, none⟩) (L.length + 1) c9) (pcs s u 0).length (u8s (pcs s u 0))) := by
        rw [← hfin, u8s_append, List.length_append, List.length_singleton]
        exact ho9
      clear ho9 hg9 hfin
      go_wp2
      go_ret
      exact ⟨_, rfl, HO9.out, HB9.out⟩
end Go.Proofs.YtlfmihhnijlpiaaGreatDoor.Sp
