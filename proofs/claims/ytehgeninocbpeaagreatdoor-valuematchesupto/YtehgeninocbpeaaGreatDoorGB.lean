import Derived.Test.YtehgeninocbpeaaGreatDoorProg
import Derived.WalkKit
import Derived.WalkSpells
import Derived.WalkLawsBesides
import Derived.Deep.QuietTactic
import Derived.BigQuiet
import Derived.BigRegion
import Derived.KernelRfl
import Derived.Deep.RegionWith
import Derived.Deep.AppendLies
import Derived.Lib.OthersKept
import Derived.BigCall
namespace Go.Proofs.YtehgeninocbpeaaGreatDoor.Gl
open Go Go.Proofs Go.RowKit
def Stop (p : Prop) : Prop := p
theorem Stop.mk {p : Prop} (h : Stop p) : p := h
theorem Stop.out {p : Prop} (h : p) : Stop p := h
def hpB (s p : ByteArray) : Bool := decide (p.size ≤ s.size) && ((s.extract 0 p.size).toList == p.toList)
theorem hp23_any (w : World) (s p : ByteArray) : Calls Tryz.prog 80 #[.string s, .string p] w fun e w' => e = .returned (.bool (hpB s p)) ∧ w = w' := by
  unfold hpB
  by_cases h : (p.size : Int) ≤ (s.size : Int)
  · have e : decide (p.size ≤ s.size) = true := by simp; omega
    rw [e, Bool.true_and]
    clear e
    have h0 : (0 : Int) ≤ (p.size : Int) := by omega
    go_enter Tryz.func80, Tryz.ntmps80
    go_wp2
    go_ret
    exact ⟨rfl, rfl⟩
  · have e : decide (p.size ≤ s.size) = false := by simp; omega
    have h2 : decide ((p.size : Int) ≤ (s.size : Int)) = false := by simp; omega
    rw [e, Bool.false_and]
    have h3 : s.size < p.size := by omega
    clear h
    go_enter Tryz.func80, Tryz.ntmps80
    go_wp2
    go_ret
    exact ⟨rfl, rfl⟩
theorem hp_any (w : World) (s p : ByteArray) : Calls Tryz.prog 49 #[.string s, .string p] w fun e w' => e = .returned (.bool (hpB s p)) ∧ w = w' := by
  have c := hp23_any w s p
  go_enter Tryz.func49, Tryz.ntmps49
  go_wp2_with (go_at_call 80; refine c.mono ?_; rintro e w' ⟨rfl, rfl⟩)
  go_ret
  exact ⟨rfl, rfl⟩
def fffd : ByteArray := ⟨#[239, 191, 189]⟩
def elAt (s : ByteArray) (pos : Nat) : Int :=
  if (Utf8.decode s pos).1 = 65533 ∧ hpB (s.extract pos s.size) fffd = false then -((s.get! pos).toNat : Int) else ((Utf8.decode s pos).1 : Int)
def els (s : ByteArray) : Nat → Nat → List Int
  | 0, _ => []
  | fuel + 1, pos => if pos < s.size then elAt s pos :: els s fuel (pos + (Utf8.decode s pos).2) else []
def elems (s : ByteArray) : List Int := els s s.size 0
theorem els_end (s : ByteArray) (fuel pos : Nat) (h : ¬ pos < s.size) : els s fuel pos = [] := by
  cases fuel with
  | zero => rfl
  | succ f => simp [els, h]
theorem width_pos (s : ByteArray) (pos : Nat) (h : pos < s.size) : 1 ≤ (Utf8.decode s pos).2 := by
  by_cases ha : (s[pos]'h).toNat < 128
  · rw [decode_ascii s pos h ha]
    exact Nat.le_refl _
  · exact (decode_high s pos h (by omega)).2
def i32C (l : List Int) : List Value := l.map (.int .i32)
theorem i32C_one (l : List Int) : ∀ u ∈ i32C l, u.oneCell' = true := by
  intro u hu
  obtain ⟨x, _, rfl⟩ := List.mem_map.1 hu
  rfl
theorem i32C_append (l r : List Int) : i32C (l ++ r) = i32C l ++ i32C r := List.map_append
theorem i32Info : (Tryz.prog.info? 21).map (fun i => (i.zero, i.size, i.bytes)) = some (some (.int .i32 0), 1, 4) := by kernel_rfl
theorem iter_kept {w w' : World} {v : Value} {B n k : Nat} {xs : List Value} {e : TypeId} {s : ByteArray} {pos : Nat} (ho : w.ownsRow B e 1 v n xs) (hg : w.grownBy w' v.ownBlock) (h : w.heap[k]? = some (.stringIter s pos)) : w'.heap[k]? = some (.stringIter s pos) := by
  rw [hg.block k (Array.getElem?_eq_some_iff.1 h).1 ?_]
  · exact h
  · intro e
    rcases ho.2 with ⟨rfl, _⟩ | ⟨g, cap, cur, rfl, hb, hgg, _⟩
    · simp [Value.ownBlock] at e
    · simp [Value.ownBlock] at e
      subst e
      rw [h] at hgg
      cases hgg
theorem own_iterAt {w : World} {v : Value} {B n k : Nat} {xs : List Value} {e : TypeId} {s : ByteArray} {pos : Nat} (ho : w.ownsRow B e 1 v n xs) (h : w.heap[k]? = some (.stringIter s pos)) (pos' : Nat) : (w.iterAt k s pos').ownsRow B e 1 v n xs := by
  refine ⟨ho.1, ?_⟩
  rcases ho.2 with hn | ⟨g, cap, cur, rfl, hb, hgg, rest⟩
  · exact .inl hn
  · refine .inr ⟨g, cap, cur, rfl, hb, ?_, rest⟩
    rw [Lib.iterAt_other]
    · exact hgg
    · rintro rfl
      rw [h] at hgg
      cases hgg
theorem get_get! (s : ByteArray) (pos : Nat) (h : pos < s.size) : s[pos] = s.get! pos := by
  simp [ByteArray.get!, getElem!_pos, h]
  rfl
set_option maxRecDepth 100000 in
set_option maxHeartbeats 1000000 in
theorem elements_any (w : World) (s : ByteArray) (hs : s.size ≤ 2097152) :
    Calls Tryz.prog 21 #[.string s] w fun e w' => ∃ v, e = .returned v ∧ w'.ownsRow w.heap.size 21 1 v (elems s).length (i32C (elems s)) ∧ Below w.heap.size w w' := by
  obtain ⟨i0, hi, hz0, hz1, hz2⟩ := info_parts i32Info
  obtain ⟨B, hB⟩ : ∃ B, w.heap.size = B := ⟨_, rfl⟩
  have HB : Hid (w.heap.size = B) := hB
  have HE : Hid (els s s.size 0 = elems s) := rfl
  generalize elems s = E at HE ⊢
  rw [hB]
  have c20 := fun W u => hp_any W u ⟨#[239, 191, 189]⟩
  go_enter Tryz.func21, Tryz.ntmps21
  go_wp2
  go_loopw [3] (fun u wr => ∃ (pos fuel : Nat) (acc : List Int), Hid (wr.ownsRow B 21 1 u acc.length (i32C acc)) ∧ Hid (wr.heap[B]? = some (.stringIter s pos)) ∧ Hid (Below B w wr) ∧ Hid (acc ++ els s fuel pos = E) ∧ Hid (s.size ≤ pos + fuel) ∧ Hid (acc.length ≤ pos)) (fun _ wr => s.size - wr.iterPos B)
  case atStart =>
    refine ⟨0, s.size, [], World.ownsRow_nil _ _ _ _, ?_, ?_, HE.out, by show _ ≤ _; omega, by show _ ≤ _; simp⟩
    · show _ = _; rw [← hB]; exact World.iter_heap w s 0
    · show Below _ _ _; rw [← hB]; exact (Below.refl _ w).alloc (Nat.le_refl _) _
  case round =>
    obtain ⟨pos, fuel, acc, HO, HI, HBw, HA, HF, HL⟩ := hrel
    by_cases hp : pos < s.size
    · have hnx : ∀ ty, (Instr.next (.pointer (some ⟨B, 0, none⟩)) true ty).run Tryz.prog wr = _ := fun ty => Lib.run_next_any_at wr B s pos ty HI.out hp
      have hwd := width_pos s pos hp
      have hd1 := decode_le s pos
      have HI1 : Hid ((wr.iterAt B s (pos + (Utf8.decode s pos).2)).heap[B]? = some (.stringIter s (pos + (Utf8.decode s pos).2))) := Lib.iterAt_heap wr B s pos (pos + (Utf8.decode s pos).2) HI.out
      have HO1 : Hid ((wr.iterAt B s (pos + (Utf8.decode s pos).2)).ownsRow B 21 1 u3 acc.length (i32C acc)) := own_iterAt HO.out HI.out (pos + (Utf8.decode s pos).2)
      have HB1 : Hid (Below B w (wr.iterAt B s (pos + (Utf8.decode s pos).2))) := Lib.below_iterAt HBw.out (k := B) (Nat.le_refl _) s (pos + (Utf8.decode s pos).2)
      have hsz1 : B < (wr.iterAt B s (pos + (Utf8.decode s pos).2)).heap.size := by
        rw [Lib.iterAt_size]; exact (Array.getElem?_eq_some_iff.1 HI.out).1
      have HM : Hid (wr.iterPos B = pos) := by show _ = _; simp only [World.iterPos, HI.out]
      have HA2 : Hid ((acc ++ [elAt s pos]) ++ els s (fuel - 1) (pos + (Utf8.decode s pos).2) = E) := by
        have h1 := HA.out
        have h2 := HF.out
        obtain ⟨f, rfl⟩ : ∃ f, fuel = f + 1 := ⟨fuel - 1, by omega⟩
        rw [els, if_pos hp] at h1
        show _ = _
        rw [List.append_assoc]
        exact h1
      have HF2 : Hid (s.size ≤ pos + (Utf8.decode s pos).2 + (fuel - 1)) := by
        have := HF.out
        show _ ≤ _
        omega
      have HW : Hid (1 ≤ (Utf8.decode s pos).2) := hwd
      have HD : Hid (elAt s pos = if (Utf8.decode s pos).1 = 65533 ∧ hpB (s.extract pos s.size) ⟨#[239, 191, 189]⟩ = false then -((s.get! pos).toNat : Int) else ((Utf8.decode s pos).1 : Int)) := rfl
      obtain ⟨bt, hb⟩ : ∃ bt, s[pos].toNat = bt := ⟨_, rfl⟩
      have hgb : (s.get! pos).toNat = bt := by rw [← hb, get_get! s pos hp]
      rw [hgb] at HD
      clear hgb
      have hl : acc.length + 1 ≤ 2097152 := by have := HL.out; omega
      have h63 : acc.length + 1 ≤ maxLen := by unfold maxLen; omega
      have hby : (acc.length + 1) * 4 ≤ 140737488355328 := by omega
      have hbt : bt < 256 := hb ▸ (s[pos]).toNat_lt
      generalize elAt s pos = x at HD HA2
      generalize (Utf8.decode s pos).1 = d1 at *
      generalize (Utf8.decode s pos).2 = d2 at *
      generalize wr.iterAt B s (pos + d2) = W1 at *
      clear hwd HF HA HO HI HBw
      have HL2 : Hid ((acc ++ [x]).length ≤ pos + d2) := by
        have := HL.out
        have := HW.out
        show _ ≤ _
        simp
        omega
      have fin : ∀ (W4 : World) (g4 cap4 : Nat), W4.ownsRow B 21 1 (.slice (some ⟨g4, 0, none⟩) (acc.length + 1) cap4) (acc.length + 1) (i32C acc ++ [.int .i32 x]) → (W1.alloc (.cells #[.int .i32 x] 21)).grownBy W4 (u3.ownBlock) →
          Hid (W4.ownsRow B 21 1 (.slice (some ⟨g4, 0, none⟩) (acc.length + 1) cap4) (acc ++ [x]).length (i32C (acc ++ [x]))) ∧ Hid (W4.heap[B]? = some (.stringIter s (pos + d2))) ∧ Hid (Below B w W4) := by
        intro W4 g4 cap4 h1 h2
        refine ⟨?_, ?_, ?_⟩
        · show World.ownsRow _ _ _ _ _ _ _
          rw [i32C_append, List.length_append]
          exact h1
        · have hk := Below.heap_alloc W1 (.cells #[.int .i32 x] 21) B hsz1
          exact iter_kept (HO1.out.alloc _) h2 (hk.trans HI1.out)
        · exact (HB1.out.alloc (Nat.le_of_lt hsz1) _).grown h2 (by simp; omega) (fun k hk => (HO1.out.lt k hk).1)
      clear HL
      by_cases h5 : d1 = 65533
      · have h5' : ((d1 : Int) == 65533) = true := by simp; omega
        have hpi : (pos : Int) ≤ (s.size : Int) := by omega
        have hpi2 : (pos : Int) < (s.size : Int) := by omega
        have c := c20 W1 (s.extract pos s.size)
        cases hh : hpB (s.extract pos s.size) ⟨#[239, 191, 189]⟩ with
        | false =>
          rw [hh] at c
          have hx : x = -(bt : Int) := by have := HD.out; rw [if_pos ⟨h5, hh⟩] at this; exact this
          clear HD hh
          subst hx
          have hb2 : B ≤ (W1.alloc (.cells #[.int .i32 (-(bt : Int))] 21)).heap.size := by simp; omega
          go_wp2_with (first | (at_builtin; refine Stop.mk ?_) | (go_at_call 49; refine c.mono ?_; rintro e w' ⟨rfl, rfl⟩))
          refine Stop.out ?_
          refine (wpList_append_lies _ rfl (.tmp 26) (.tmp 28) 50 rfl B 21 i0 _ 1 4 Tryz.underlying50 hi hz0 hz1 hz2 rfl (by decide) u3 acc.length (i32C acc) rfl (HO1.out.alloc _) ⟨W1.heap.size, 0, none⟩ 1 1 [.int .i32 (-(bt : Int))] rfl rfl (World.news_of_block (heap_alloc_new W1 _)) (i32C_one [-(bt : Int)]) (by decide) h63 hby hb2 _ rfl ?_)
          intro g4 cap4 W4 hown4 hgrow4 _ _
          obtain ⟨HO4, HI4, HB4⟩ := fin W4 g4 cap4 hown4 hgrow4
          clear hown4 hgrow4
          go_wp2
          go_roundw
          case rel => exact ⟨pos + d2, fuel - 1, acc ++ [-(bt : Int)], HO4, HI4, HB4, HA2, HF2, HL2⟩
          case measure => rw [HM.out, show W4.iterPos B = pos + d2 by simp only [World.iterPos, HI4.out]]; have := HW.out; omega
        | true =>
          rw [hh] at c
          have hx : x = 65533 := by have := HD.out; rw [if_neg (fun h => by rw [hh] at h; exact absurd h.2 (by decide)), h5] at this; exact this
          subst hx
          subst h5
          clear HD hh
          have hb2 : B ≤ (W1.alloc (.cells #[.int .i32 65533] 21)).heap.size := by simp; omega
          go_wp2_with (first | (at_builtin; refine Stop.mk ?_) | (go_at_call 49; refine c.mono ?_; rintro e w' ⟨rfl, rfl⟩))
          refine Stop.out ?_
          refine (wpList_append_lies _ rfl (.tmp 26) (.tmp 28) 50 rfl B 21 i0 _ 1 4 Tryz.underlying50 hi hz0 hz1 hz2 rfl (by decide) u3 acc.length (i32C acc) rfl (HO1.out.alloc _) ⟨W1.heap.size, 0, none⟩ 1 1 [.int .i32 65533] rfl rfl (World.news_of_block (heap_alloc_new W1 _)) (i32C_one [65533]) (by decide) h63 hby hb2 _ rfl ?_)
          intro g4 cap4 W4 hown4 hgrow4 _ _
          obtain ⟨HO4, HI4, HB4⟩ := fin W4 g4 cap4 hown4 hgrow4
          clear hown4 hgrow4
          go_wp2
          go_roundw
          case rel => exact ⟨pos + d2, fuel - 1, acc ++ [65533], HO4, HI4, HB4, HA2, HF2, HL2⟩
          case measure => rw [HM.out, show W4.iterPos B = pos + d2 by simp only [World.iterPos, HI4.out]]; have := HW.out; omega
      · have h5' : ((d1 : Int) == 65533) = false := by simp; omega
        have hx : x = (d1 : Int) := by have := HD.out; rw [if_neg (fun h => h5 h.1)] at this; exact this
        subst hx
        clear HD h5
        have hb2 : B ≤ (W1.alloc (.cells #[.int .i32 (d1 : Int)] 21)).heap.size := by simp; omega
        go_wp2_with (first | (at_builtin; refine Stop.mk ?_) | fail)
        refine Stop.out ?_
        refine (wpList_append_lies _ rfl (.tmp 26) (.tmp 28) 50 rfl B 21 i0 _ 1 4 Tryz.underlying50 hi hz0 hz1 hz2 rfl (by decide) u3 acc.length (i32C acc) rfl (HO1.out.alloc _) ⟨W1.heap.size, 0, none⟩ 1 1 [.int .i32 (d1 : Int)] rfl rfl (World.news_of_block (heap_alloc_new W1 _)) (i32C_one [(d1 : Int)]) (by decide) h63 hby hb2 _ rfl ?_)
        intro g4 cap4 W4 hown4 hgrow4 _ _
        obtain ⟨HO4, HI4, HB4⟩ := fin W4 g4 cap4 hown4 hgrow4
        clear hown4 hgrow4
        go_wp2
        go_roundw
        case rel => exact ⟨pos + d2, fuel - 1, acc ++ [(d1 : Int)], HO4, HI4, HB4, HA2, HF2, HL2⟩
        case measure => rw [HM.out, show W4.iterPos B = pos + d2 by simp only [World.iterPos, HI4.out]]; have := HW.out; omega
    · have hnx : ∀ ty, (Instr.next (.pointer (some ⟨B, 0, none⟩)) true ty).run Tryz.prog wr = _ := fun ty => Lib.run_next_end_at wr B s pos ty HI.out hp
      have hA := HA.out
      rw [els_end s fuel pos hp, List.append_nil] at hA
      subst hA
      clear HE
      go_wp2
      go_ret
      exact ⟨_, rfl, HO.out, HBw.out⟩
end Go.Proofs.YtehgeninocbpeaaGreatDoor.Gl

namespace Go.Proofs.YtehgeninocbpeaaGreatDoor.Gl
open Go Go.Proofs Go.RowKit
def gmStar (f : List Int → Bool) : List Int → Bool
  | [] => f []
  | x :: t => f (x :: t) || gmStar f t
def gmHead (c : Int) (f : List Int → Bool) : List Int → Bool
  | [] => false
  | x :: t => (decide (c = 63) || decide (c = x)) && f t
def gm : List Int → List Int → Bool
  | [] => fun t => t.isEmpty
  | c :: p => fun t => if c = 42 then gmStar (gm p) t else gmHead c (gm p) t
theorem gmStar_true {f : List Int → Bool} : ∀ {t : List Int}, gmStar f t = true ↔ ∃ k, k ≤ t.length ∧ f (t.drop k) = true
  | [] => by
    rw [gmStar]
    constructor
    · intro h; exact ⟨0, by simp, by simpa using h⟩
    · rintro ⟨k, hk, h⟩; simpa using h
  | x :: t => by
    rw [gmStar, Bool.or_eq_true, gmStar_true]
    constructor
    · rintro (h | ⟨k, hk, h⟩)
      · exact ⟨0, by simp, by simpa using h⟩
      · exact ⟨k + 1, by simp; omega, by simpa using h⟩
    · rintro ⟨k, hk, h⟩
      cases k with
      | zero => exact .inl (by simpa using h)
      | succ k => exact .inr ⟨k, by simpa using hk, by simpa using h⟩
theorem gm_star (p t : List Int) : gm (42 :: p) t = gmStar (gm p) t := by simp only [gm, if_true]
theorem gm_nil (t : List Int) : gm [] t = t.isEmpty := rfl
theorem gm_none {c : Int} (h : c ≠ 42) (p : List Int) : gm (c :: p) [] = false := by simp only [gm, if_neg h, gmHead]
theorem gm_one {c : Int} (h : c ≠ 42) (p : List Int) (x : Int) (t : List Int) : gm (c :: p) (x :: t) = ((decide (c = 63) || decide (c = x)) && gm p t) := by simp only [gm, if_neg h, gmHead]
theorem star_more {p t : List Int} {m k : Nat} (h : gm (42 :: p) (t.drop m) = true) (hk : k ≤ m) : gm (42 :: p) (t.drop k) = true := by
  rw [gm_star, gmStar_true] at h ⊢
  obtain ⟨j, hj, h⟩ := h
  rw [List.drop_drop] at h
  rw [List.length_drop] at hj
  rcases Nat.lt_or_ge t.length m with hm | hm
  · refine ⟨t.length - k, by rw [List.length_drop]; omega, ?_⟩
    rw [List.drop_drop, List.drop_eq_nil_of_le (by omega)]
    rw [List.drop_eq_nil_of_le (by omega)] at h
    exact h
  · refine ⟨m + j - k, by rw [List.length_drop]; omega, ?_⟩
    rw [List.drop_drop]
    have e : k + (m + j - k) = m + j := by omega
    rw [e]
    exact h
theorem plain_takes : ∀ (Q X U : List Int), (∀ c ∈ Q, c ≠ 42) → gm (Q ++ X) U = true → Q.length ≤ U.length ∧ gm X (U.drop Q.length) = true
  | [], X, U, _, h => ⟨by simp, by simpa using h⟩
  | c :: Q, X, U, hq, h => by
    have hc : c ≠ 42 := hq c (by simp)
    cases U with
    | nil => rw [List.cons_append, gm_none hc] at h; cases h
    | cons x U =>
      rw [List.cons_append, gm_one hc, Bool.and_eq_true] at h
      have := plain_takes Q X U (fun d hd => hq d (by simp [hd])) h.2
      exact ⟨by simp; omega, by simpa using this.2⟩
theorem drop_cons {l : List Int} {i : Nat} {c : Int} (h : l[i]? = some c) : l.drop i = c :: l.drop (i + 1) := by
  obtain ⟨hi, rfl⟩ := List.getElem?_eq_some_iff.1 h
  exact List.drop_eq_getElem_cons hi
def Inv (P T : List Int) (R : Bool) (i : Nat) (star : Int) (fr j : Nat) : Prop :=
  i ≤ P.length ∧ fr ≤ j ∧ j ≤ T.length ∧
  ((star = -1 ∧ gm (P.drop i) (T.drop j) = R) ∨
   ∃ st : Nat, star = st ∧ P[st]? = some 42 ∧ st < i ∧ i - st - 1 = j - fr ∧ (∀ k, st < k → k < i → P[k]? ≠ some 42) ∧ gm (P.drop st) (T.drop fr) = R ∧ gm (P.drop (st + 1)) (T.drop fr) = gm (P.drop i) (T.drop j))
theorem inv_start (P T : List Int) : Inv P T (gm P T) 0 (-1) 0 0 := ⟨by omega, by omega, by omega, .inl ⟨rfl, by simp⟩⟩
theorem between {P : List Int} {st i : Nat} (hi : i ≤ P.length) (hst : st < i) (hs : ∀ k, st < k → k < i → P[k]? ≠ some 42) :
    ∃ Q, P.drop (st + 1) = Q ++ P.drop i ∧ Q.length = i - st - 1 ∧ ∀ c ∈ Q, c ≠ 42 := by
  refine ⟨(P.drop (st + 1)).take (i - st - 1), ?_, ?_, ?_⟩
  · have e : P.drop i = (P.drop (st + 1)).drop (i - st - 1) := by rw [List.drop_drop]; congr 1; omega
    rw [e, List.take_append_drop]
  · rw [List.length_take, List.length_drop]; omega
  · rintro c hc rfl
    obtain ⟨n, hn, e⟩ := List.getElem_of_mem hc
    rw [List.length_take, List.length_drop] at hn
    rw [List.getElem_take, List.getElem_drop] at e
    refine hs (st + 1 + n) (by omega) (by omega) ?_
    rw [List.getElem?_eq_getElem (by omega), e]
theorem inv_now {P T : List Int} {R : Bool} {i : Nat} {star : Int} {fr j : Nat} (h : Inv P T R i star fr j) (h42 : P[i]? = some 42) : gm (P.drop i) (T.drop j) = R := by
  obtain ⟨hi, hf, hj, h | ⟨st, rfl, hs, hlt, hd, hno, hR, hE⟩⟩ := h
  · exact h.2
  · obtain ⟨Q, hQ, hl, hq⟩ := between hi hlt hno
    rw [drop_cons hs, gm_star] at hR
    cases R with
    | true =>
      rw [gmStar_true] at hR
      obtain ⟨k, hk, hR⟩ := hR
      rw [hQ] at hR
      obtain ⟨h1, h2⟩ := plain_takes Q _ _ hq hR
      rw [List.drop_drop, List.drop_drop] at h2
      rw [drop_cons h42] at h2 ⊢
      exact star_more h2 (by omega)
    | false =>
      cases h : gm (P.drop i) (T.drop j) with
      | false => rfl
      | true =>
        rw [h] at hE
        rw [← hR]
        exact (gmStar_true.2 ⟨0, by omega, by simpa using hE⟩).symm
theorem inv_star {P T : List Int} {R : Bool} {i : Nat} {star : Int} {fr j : Nat} (h : Inv P T R i star fr j) (h42 : P[i]? = some 42) : Inv P T R (i + 1) (i : Nat) j j :=
  ⟨(List.getElem?_eq_some_iff.1 h42).1, Nat.le_refl _, h.2.2.1, .inr ⟨i, rfl, h42, by omega, by omega, fun k h1 h2 => by omega, inv_now h h42, rfl⟩⟩
theorem inv_step {P T : List Int} {R : Bool} {i : Nat} {star : Int} {fr j : Nat} {c x : Int} (h : Inv P T R i star fr j) (hc : P[i]? = some c) (h42 : c ≠ 42) (hx : T[j]? = some x) (hm : c = 63 ∨ c = x) : Inv P T R (i + 1) star fr (j + 1) := by
  obtain ⟨hi, hf, hj, h⟩ := h
  have e : gm (P.drop i) (T.drop j) = gm (P.drop (i + 1)) (T.drop (j + 1)) := by
    rw [drop_cons hc, drop_cons hx, gm_one h42]
    have : (decide (c = 63) || decide (c = x)) = true := by simpa using hm
    rw [this, Bool.true_and]
  refine ⟨(List.getElem?_eq_some_iff.1 hc).1, by omega, (List.getElem?_eq_some_iff.1 hx).1, ?_⟩
  rcases h with h | ⟨st, rfl, hs, hlt, hd, hno, hR, hE⟩
  · exact .inl ⟨h.1, e ▸ h.2⟩
  · refine .inr ⟨st, rfl, hs, by omega, by omega, ?_, hR, hE.trans e⟩
    intro k h1 h2
    rcases Nat.lt_or_ge k i with h3 | h3
    · exact hno k h1 h3
    · obtain rfl : k = i := by omega
      rw [hc]
      intro h4
      exact h42 (Option.some.inj h4)
theorem miss {P T : List Int} {i j : Nat} {x : Int} (hx : T[j]? = some x) (h : i = P.length ∨ ∃ c, P[i]? = some c ∧ c ≠ 42 ∧ c ≠ 63 ∧ c ≠ x) : gm (P.drop i) (T.drop j) = false := by
  rw [drop_cons hx]
  rcases h with rfl | ⟨c, hc, h1, h2, h3⟩
  · rw [List.drop_length, gm_nil]; rfl
  · rw [drop_cons hc, gm_one h1]
    simp [h2, h3]
theorem inv_lost {P T : List Int} {R : Bool} {i fr j : Nat} (h : Inv P T R i (-1) fr j) (hm : gm (P.drop i) (T.drop j) = false) : R = false := by
  obtain ⟨hi, hf, hj, h | ⟨st, h, _⟩⟩ := h
  · rw [← h.2, hm]
  · omega
theorem inv_back {P T : List Int} {R : Bool} {i st fr j : Nat} (h : Inv P T R i (st : Nat) fr j) (hj : j < T.length) (hm : gm (P.drop i) (T.drop j) = false) : Inv P T R (st + 1) (st : Nat) (fr + 1) (fr + 1) := by
  obtain ⟨hi, hf, _, h | ⟨st', h, hs, hlt, hd, hno, hR, hE⟩⟩ := h
  · omega
  · obtain rfl : st = st' := by omega
    refine ⟨by omega, Nat.le_refl _, by omega, .inr ⟨st, rfl, hs, by omega, by omega, fun k h1 h2 => by omega, ?_, rfl⟩⟩
    have hx : T.drop fr = T[fr] :: T.drop (fr + 1) := List.drop_eq_getElem_cons (by omega)
    rw [← hR, drop_cons hs, gm_star, gm_star, hx, gmStar, ← hx, hE, hm, Bool.false_or]
theorem gm_end : ∀ X : List Int, gm X [] = X.all (fun c => decide (c = 42))
  | [] => rfl
  | c :: X => by
    by_cases h : c = 42
    · subst h; rw [gm_star, gmStar, gm_end X]; simp
    · rw [gm_none h]; simp [h]
theorem inv_end {P T : List Int} {R : Bool} {i : Nat} {star : Int} {fr j : Nat} (h : Inv P T R i star fr j) (hj : j = T.length) : R = (P.drop i).all (fun c => decide (c = 42)) := by
  obtain ⟨hi, hf, _, h | ⟨st, rfl, hs, hlt, hd, hno, hR, hE⟩⟩ := h
  · rw [← h.2, hj, List.drop_length, gm_end]
  · obtain ⟨Q, hQ, hl, hq⟩ := between hi hlt hno
    rw [hj, List.drop_length] at hE
    rw [← gm_end, ← hE]
    rw [drop_cons hs, gm_star] at hR
    cases h : gm (P.drop (st + 1)) (T.drop fr) with
    | true => rw [← hR]; exact gmStar_true.2 ⟨0, by omega, by simpa using h⟩
    | false =>
      cases R with
      | false => rfl
      | true =>
        rw [gmStar_true] at hR
        obtain ⟨k, hk, hR⟩ := hR
        have hR' := hR
        rw [hQ] at hR'
        obtain ⟨h1, _⟩ := plain_takes Q _ _ hq hR'
        rw [List.length_drop, List.length_drop] at h1
        rw [List.length_drop] at hk
        obtain rfl : k = 0 := by omega
        rw [List.drop_zero, h] at hR
        cases hR
end Go.Proofs.YtehgeninocbpeaaGreatDoor.Gl
