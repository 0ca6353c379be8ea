import Derived.Test.YtehgeninocbpeaaGreatDoorProg
import Derived.WalkKit
import Derived.WalkSpells
import Derived.WalkLawsBesides
import Derived.Deep.QuietTactic
import Derived.BigQuiet
import Derived.BigRegion
import Derived.KernelRfl
import Derived.Deep.RegionWith
import Derived.Deep.AppendLies
import Derived.Lib.OthersKept
import Derived.BigCall
/-
  DERIVED. What a text is made of, by the program.
-/
namespace Go.Proofs.YtehgeninocbpeaaGreatDoor.Gl
open Go Go.Proofs Go.RowKit

def Stop (p : Prop) : Prop := p
theorem Stop.mk {p : Prop} (h : Stop p) : p := h
theorem Stop.out {p : Prop} (h : p) : Stop p := h
theorem wrap_small {b : Nat} (h : b < 256) : wrap32 (b : Int) = (b : Int) := by unfold wrap32; omega
theorem wrap_neg {b : Nat} (h : b < 256) : wrap32 (-(b : Int)) = -(b : Int) := by unfold wrap32; omega
/-- Does a text begin with another? -/
def hpB (s p : ByteArray) : Bool := decide (p.size ≤ s.size) && ((s.extract 0 p.size).toList == p.toList)

theorem hp23_any (w : World) (s p : ByteArray) : Calls Tryz.prog 80 #[.string s, .string p] w fun e w' => e = .returned (.bool (hpB s p)) ∧ w = w' := by
  unfold hpB
  by_cases h : (p.size : Int) ≤ (s.size : Int)
  · have e : decide (p.size ≤ s.size) = true := by simp; omega
    rw [e, Bool.true_and]
    clear e
    have h0 : (0 : Int) ≤ (p.size : Int) := by omega
    go_enter Tryz.func80, Tryz.ntmps80
    go_wp2
    go_ret
    exact ⟨rfl, rfl⟩
  · have e : decide (p.size ≤ s.size) = false := by simp; omega
    have h2 : decide ((p.size : Int) ≤ (s.size : Int)) = false := by simp; omega
    rw [e, Bool.false_and]
    have h3 : s.size < p.size := by omega
    clear h
    go_enter Tryz.func80, Tryz.ntmps80
    go_wp2
    go_ret
    exact ⟨rfl, rfl⟩

theorem hp_any (w : World) (s p : ByteArray) : Calls Tryz.prog 49 #[.string s, .string p] w fun e w' => e = .returned (.bool (hpB s p)) ∧ w = w' := by
  have c := hp23_any w s p
  go_enter Tryz.func49, Tryz.ntmps49
  go_wp2_with (go_at_call 80; refine c.mono ?_; rintro e w' ⟨rfl, rfl⟩)
  go_ret
  exact ⟨rfl, rfl⟩

def fffd : ByteArray := ⟨#[239, 191, 189]⟩

/-- The element at a place: a rune, or less than nothing where there is none. -/
def elAt (s : ByteArray) (pos : Nat) : Int :=
  if (Utf8.decode s pos).1 = 65533 ∧ hpB (s.extract pos s.size) fffd = false then -((s.get! pos).toNat : Int) else ((Utf8.decode s pos).1 : Int)
/-- What stands from a place on. -/
def els (s : ByteArray) : Nat → Nat → List Int
  | 0, _ => []
  | fuel + 1, pos => if pos < s.size then elAt s pos :: els s fuel (pos + (Utf8.decode s pos).2) else []
def elems (s : ByteArray) : List Int := els s s.size 0

theorem els_end (s : ByteArray) (fuel pos : Nat) (h : ¬ pos < s.size) : els s fuel pos = [] := by
  cases fuel with
  | zero => rfl
  | succ f => simp [els, h]
theorem width_pos (s : ByteArray) (pos : Nat) (h : pos < s.size) : 1 ≤ (Utf8.decode s pos).2 := by
  by_cases ha : (s[pos]'h).toNat < 128
  · rw [decode_ascii s pos h ha]
    exact Nat.le_refl _
  · exact (decode_high s pos h (by omega)).2

def i32C (l : List Int) : List Value := l.map (.int .i32)
theorem i32C_one (l : List Int) : ∀ u ∈ i32C l, u.oneCell' = true := by
  intro u hu
  obtain ⟨x, _, rfl⟩ := List.mem_map.1 hu
  rfl
theorem i32C_append (l r : List Int) : i32C (l ++ r) = i32C l ++ i32C r := List.map_append
theorem i32Info : (Tryz.prog.info? 21).map (fun i => (i.zero, i.size, i.bytes)) = some (some (.int .i32 0), 1, 4) := by kernel_rfl

/-- An iterator stays while a row of numbers grows. -/
theorem iter_kept {w w' : World} {v : Value} {B n k : Nat} {xs : List Value} {e : TypeId} {s : ByteArray} {pos : Nat} (ho : w.ownsRow B e 1 v n xs) (hg : w.grownBy w' v.ownBlock) (h : w.heap[k]? = some (.stringIter s pos)) : w'.heap[k]? = some (.stringIter s pos) := by
  rw [hg.block k (Array.getElem?_eq_some_iff.1 h).1 ?_]
  · exact h
  · intro e
    rcases ho.2 with ⟨rfl, _⟩ | ⟨g, cap, cur, rfl, hb, hgg, _⟩
    · simp [Value.ownBlock] at e
    · simp [Value.ownBlock] at e
      subst e
      rw [h] at hgg
      cases hgg

theorem own_iterAt {w : World} {v : Value} {B n k : Nat} {xs : List Value} {e : TypeId} {s : ByteArray} {pos : Nat} (ho : w.ownsRow B e 1 v n xs) (h : w.heap[k]? = some (.stringIter s pos)) (pos' : Nat) : (w.iterAt k s pos').ownsRow B e 1 v n xs := by
  refine ⟨ho.1, ?_⟩
  rcases ho.2 with hn | ⟨g, cap, cur, rfl, hb, hgg, rest⟩
  · exact .inl hn
  · refine .inr ⟨g, cap, cur, rfl, hb, ?_, rest⟩
    rw [Lib.iterAt_other]
    · exact hgg
    · rintro rfl
      rw [h] at hgg
      cases hgg

theorem get_get! (s : ByteArray) (pos : Nat) (h : pos < s.size) : s[pos] = s.get! pos := by
  simp [ByteArray.get!, getElem!_pos, h]
  rfl

set_option maxRecDepth 100000 in
set_option maxHeartbeats 1000000 in
theorem elements_any (w : World) (s : ByteArray) (hs : s.size ≤ 2097152) :
    Calls Tryz.prog 21 #[.string s] w fun e w' => ∃ v, e = .returned v ∧ w'.ownsRow w.heap.size 21 1 v (elems s).length (i32C (elems s)) ∧ Below w.heap.size w w' := by
  obtain ⟨i0, hi, hz0, hz1, hz2⟩ := info_parts i32Info
  obtain ⟨B, hB⟩ : ∃ B, w.heap.size = B := ⟨_, rfl⟩
  have HB : Hid (w.heap.size = B) := hB
  have HE : Hid (els s s.size 0 = elems s) := rfl
  generalize elems s = E at HE ⊢
  rw [hB]
  have c20 := fun W u => hp_any W u ⟨#[239, 191, 189]⟩
  go_enter Tryz.func21, Tryz.ntmps21
  go_wp2
  go_loopw [3] (fun u wr => ∃ (pos fuel : Nat) (acc : List Int), Hid (wr.ownsRow B 21 1 u acc.length (i32C acc)) ∧ Hid (wr.heap[B]? = some (.stringIter s pos)) ∧ Hid (Below B w wr) ∧ Hid (acc ++ els s fuel pos = E) ∧ Hid (s.size ≤ pos + fuel) ∧ Hid (acc.length ≤ pos)) (fun _ wr => s.size - wr.iterPos B)
  case atStart =>
    refine ⟨0, s.size, [], World.ownsRow_nil _ _ _ _, ?_, ?_, HE.out, by show _ ≤ _; omega, by show _ ≤ _; simp⟩
    · show _ = _; rw [← hB]; exact World.iter_heap w s 0
    · show Below _ _ _; rw [← hB]; exact (Below.refl _ w).alloc (Nat.le_refl _) _
  case round =>
    obtain ⟨pos, fuel, acc, HO, HI, HBw, HA, HF, HL⟩ := hrel
    by_cases hp : pos < s.size
    · have hnx : ∀ ty, (Instr.next (.pointer (some ⟨B, 0, none⟩)) true ty).run Tryz.prog wr = _ := fun ty => Lib.run_next_any_at wr B s pos ty HI.out hp
      have hwd := width_pos s pos hp
      have hd1 := decode_le s pos
      have HI1 : Hid ((wr.iterAt B s (pos + (Utf8.decode s pos).2)).heap[B]? = some (.stringIter s (pos + (Utf8.decode s pos).2))) := Lib.iterAt_heap wr B s pos (pos + (Utf8.decode s pos).2) HI.out
      have HO1 : Hid ((wr.iterAt B s (pos + (Utf8.decode s pos).2)).ownsRow B 21 1 u3 acc.length (i32C acc)) := own_iterAt HO.out HI.out (pos + (Utf8.decode s pos).2)
      have HB1 : Hid (Below B w (wr.iterAt B s (pos + (Utf8.decode s pos).2))) := Lib.below_iterAt HBw.out (k := B) (Nat.le_refl _) s (pos + (Utf8.decode s pos).2)
      have hsz1 : B < (wr.iterAt B s (pos + (Utf8.decode s pos).2)).heap.size := by
        rw [Lib.iterAt_size]; exact (Array.getElem?_eq_some_iff.1 HI.out).1
      have HM : Hid (wr.iterPos B = pos) := by show _ = _; simp only [World.iterPos, HI.out]
      have HA2 : Hid ((acc ++ [elAt s pos]) ++ els s (fuel - 1) (pos + (Utf8.decode s pos).2) = E) := by
        have h1 := HA.out
        have h2 := HF.out
        obtain ⟨f, rfl⟩ : ∃ f, fuel = f + 1 := ⟨fuel - 1, by omega⟩
        rw [els, if_pos hp] at h1
        show _ = _
        rw [List.append_assoc]
        exact h1
      have HF2 : Hid (s.size ≤ pos + (Utf8.decode s pos).2 + (fuel - 1)) := by
        have := HF.out
        show _ ≤ _
        omega
      have HW : Hid (1 ≤ (Utf8.decode s pos).2) := hwd
      have HD : Hid (elAt s pos = if (Utf8.decode s pos).1 = 65533 ∧ hpB (s.extract pos s.size) ⟨#[239, 191, 189]⟩ = false then -((s.get! pos).toNat : Int) else ((Utf8.decode s pos).1 : Int)) := rfl
      obtain ⟨bt, hb⟩ : ∃ bt, s[pos].toNat = bt := ⟨_, rfl⟩
      have hgb : (s.get! pos).toNat = bt := by rw [← hb, get_get! s pos hp]
      rw [hgb] at HD
      clear hgb
      have hl : acc.length + 1 ≤ 2097152 := by have := HL.out; omega
      have h63 : acc.length + 1 ≤ maxLen := by unfold maxLen; omega
      have hby : (acc.length + 1) * 4 ≤ 140737488355328 := by omega
      have hbt : bt < 256 := hb ▸ (s[pos]).toNat_lt
      generalize elAt s pos = x at HD HA2
      generalize (Utf8.decode s pos).1 = d1 at *
      generalize (Utf8.decode s pos).2 = d2 at *
      generalize wr.iterAt B s (pos + d2) = W1 at *
      clear hwd HF HA HO HI HBw
      have HL2 : Hid ((acc ++ [x]).length ≤ pos + d2) := by
        have := HL.out
        have := HW.out
        show _ ≤ _
        simp
        omega
      have fin : ∀ (W4 : World) (g4 cap4 : Nat), W4.ownsRow B 21 1 (.slice (some ⟨g4, 0, none⟩) (acc.length + 1) cap4) (acc.length + 1) (i32C acc ++ [.int .i32 x]) → (W1.alloc (.cells #[.int .i32 x] 21)).grownBy W4 (u3.ownBlock) →
          Hid (W4.ownsRow B 21 1 (.slice (some ⟨g4, 0, none⟩) (acc.length + 1) cap4) (acc ++ [x]).length (i32C (acc ++ [x]))) ∧ Hid (W4.heap[B]? = some (.stringIter s (pos + d2))) ∧ Hid (Below B w W4) := by
        intro W4 g4 cap4 h1 h2
        refine ⟨?_, ?_, ?_⟩
        · show World.ownsRow _ _ _ _ _ _ _
          rw [i32C_append, List.length_append]
          exact h1
        · have hk := Below.heap_alloc W1 (.cells #[.int .i32 x] 21) B hsz1
          exact iter_kept (HO1.out.alloc _) h2 (hk.trans HI1.out)
        · exact (HB1.out.alloc (Nat.le_of_lt hsz1) _).grown h2 (by simp; omega) (fun k hk => (HO1.out.lt k hk).1)
      clear HL
      by_cases h5 : d1 = 65533
      · have h5' : ((d1 : Int) == 65533) = true := by simp; omega
        have hpi : (pos : Int) ≤ (s.size : Int) := by omega
        have hpi2 : (pos : Int) < (s.size : Int) := by omega
        have c := c20 W1 (s.extract pos s.size)
        cases hh : hpB (s.extract pos s.size) ⟨#[239, 191, 189]⟩ with
        | false =>
          rw [hh] at c
          have hx : x = -(bt : Int) := by have := HD.out; rw [if_pos ⟨h5, hh⟩] at this; exact this
          clear HD hh
          subst hx
          have hb2 : B ≤ (W1.alloc (.cells #[.int .i32 (-(bt : Int))] 21)).heap.size := by simp; omega
          go_wp2_with (first | (at_builtin; refine Stop.mk ?_) | (go_at_call 49; refine c.mono ?_; rintro e w' ⟨rfl, rfl⟩))
          refine Stop.out ?_
          refine (wpList_append_lies _ rfl (.tmp 26) (.tmp 28) 50 rfl B 21 i0 _ 1 4 Tryz.underlying50 hi hz0 hz1 hz2 rfl (by decide) u3 acc.length (i32C acc) rfl (HO1.out.alloc _) ⟨W1.heap.size, 0, none⟩ 1 1 [.int .i32 (-(bt : Int))] rfl rfl (World.news_of_block (heap_alloc_new W1 _)) (i32C_one [-(bt : Int)]) (by decide) h63 hby hb2 _ rfl ?_)
          intro g4 cap4 W4 hown4 hgrow4 _ _
          obtain ⟨HO4, HI4, HB4⟩ := fin W4 g4 cap4 hown4 hgrow4
          clear hown4 hgrow4
          go_wp2
          go_roundw
          case rel => exact ⟨pos + d2, fuel - 1, acc ++ [-(bt : Int)], HO4, HI4, HB4, HA2, HF2, HL2⟩
          case measure => rw [HM.out, show W4.iterPos B = pos + d2 by simp only [World.iterPos, HI4.out]]; have := HW.out; omega
        | true =>
          rw [hh] at c
          have hx : x = 65533 := by have := HD.out; rw [if_neg (fun h => by rw [hh] at h; exact absurd h.2 (by decide)), h5] at this; exact this
          subst hx
          subst h5
          clear HD hh
          have hb2 : B ≤ (W1.alloc (.cells #[.int .i32 65533] 21)).heap.size := by simp; omega
          go_wp2_with (first | (at_builtin; refine Stop.mk ?_) | (go_at_call 49; refine c.mono ?_; rintro e w' ⟨rfl, rfl⟩))
          refine Stop.out ?_
          refine (wpList_append_lies _ rfl (.tmp 26) (.tmp 28) 50 rfl B 21 i0 _ 1 4 Tryz.underlying50 hi hz0 hz1 hz2 rfl (by decide) u3 acc.length (i32C acc) rfl (HO1.out.alloc _) ⟨W1.heap.size, 0, none⟩ 1 1 [.int .i32 65533] rfl rfl (World.news_of_block (heap_alloc_new W1 _)) (i32C_one [65533]) (by decide) h63 hby hb2 _ rfl ?_)
          intro g4 cap4 W4 hown4 hgrow4 _ _
          obtain ⟨HO4, HI4, HB4⟩ := fin W4 g4 cap4 hown4 hgrow4
          clear hown4 hgrow4
          go_wp2
          go_roundw
          case rel => exact ⟨pos + d2, fuel - 1, acc ++ [65533], HO4, HI4, HB4, HA2, HF2, HL2⟩
          case measure => rw [HM.out, show W4.iterPos B = pos + d2 by simp only [World.iterPos, HI4.out]]; have := HW.out; omega
      · have h5' : ((d1 : Int) == 65533) = false := by simp; omega
        have hx : x = (d1 : Int) := by have := HD.out; rw [if_neg (fun h => h5 h.1)] at this; exact this
        subst hx
        clear HD h5
        have hb2 : B ≤ (W1.alloc (.cells #[.int .i32 (d1 : Int)] 21)).heap.size := by simp; omega
        go_wp2_with (first | (at_builtin; refine Stop.mk ?_) | fail)
        refine Stop.out ?_
        refine (wpList_append_lies _ rfl (.tmp 26) (.tmp 28) 50 rfl B 21 i0 _ 1 4 Tryz.underlying50 hi hz0 hz1 hz2 rfl (by decide) u3 acc.length (i32C acc) rfl (HO1.out.alloc _) ⟨W1.heap.size, 0, none⟩ 1 1 [.int .i32 (d1 : Int)] rfl rfl (World.news_of_block (heap_alloc_new W1 _)) (i32C_one [(d1 : Int)]) (by decide) h63 hby hb2 _ rfl ?_)
        intro g4 cap4 W4 hown4 hgrow4 _ _
        obtain ⟨HO4, HI4, HB4⟩ := fin W4 g4 cap4 hown4 hgrow4
        clear hown4 hgrow4
        go_wp2
        go_roundw
        case rel => exact ⟨pos + d2, fuel - 1, acc ++ [(d1 : Int)], HO4, HI4, HB4, HA2, HF2, HL2⟩
        case measure => rw [HM.out, show W4.iterPos B = pos + d2 by simp only [World.iterPos, HI4.out]]; have := HW.out; omega
    · have hnx : ∀ ty, (Instr.next (.pointer (some ⟨B, 0, none⟩)) true ty).run Tryz.prog wr = _ := fun ty => Lib.run_next_end_at wr B s pos ty HI.out hp
      have hA := HA.out
      rw [els_end s fuel pos hp, List.append_nil] at hA
      subst hA
      clear HE
      go_wp2
      go_ret
      exact ⟨_, rfl, HO.out, HBw.out⟩

end Go.Proofs.YtehgeninocbpeaaGreatDoor.Gl
