
import Derived.Test.YtegfgbcimlacbaaGreatDoorG
import Derived.Room.AppendFits
import Derived.WideMake
/-
  DERIVED. New, of whatever terms.
-/
namespace Go.Proofs.YtegfgbcimlacbaaGreatDoor
open Go Go.Proofs Go.RowKit

/-- A list of texts, read. -/
def TS (w : World) (v : Value) (T : List ByteArray) : Prop :=
  ∃ ao cap, v = .slice ao T.length cap ∧ (0 < T.length → ∃ b off, ao = some ⟨b, off, none⟩ ∧ ∀ k s, T[k]? = some s → w.cell? ⟨b, off + k, none⟩ = some (.string s))

theorem TS.next {w w' : World} {v : Value} {T : List ByteArray} (h : TS w v T) (hb : Below w.heap.size w w') : TS w' v T := by
  obtain ⟨ao, cap, rfl, hf⟩ := h
  refine ⟨ao, cap, rfl, fun hp => ?_⟩
  obtain ⟨b, off, rfl, hc⟩ := hf hp
  exact ⟨b, off, rfl, fun k s hk => (hb.cell (p := ⟨b, off + k, none⟩) (cell_lt (hc k s hk))).trans (hc k s hk)⟩

/-- The program's reading of the terms from a place on. -/
def newL (cnt : Nat) : List ByteArray → Nat → List (Nat × ByteArray) → Bool → (Int × Int) ⊕ (List (Nat × ByteArray) × Bool)
  | [], _, N, x => .inr (N, x)
  | s :: T, i, N, _ =>
    match nmd (fullB s i cnt) 7 0 with
    | none => .inl (i, 80)
    | some (k, y) => if !y && decide (1 < cnt) then .inl (i, 83) else if N.any (fun r => r.1 == k) then .inl (i, 82) else newL cnt T (i + 1) (N ++ [(k, fullB s i cnt)]) y

def namesOf (R : List Row) : List (Nat × ByteArray) := R.map fun r => (r.1, r.2.1)
theorem any_names (R : List Row) (k : Nat) : (namesOf R).any (fun r => r.1 == k) = R.any (fun r => r.1 == k) := by
  unfold namesOf
  rw [List.any_map]
  rfl

/-- What New gives of terms. -/
def newS (T : List ByteArray) : (Int × Int) ⊕ (List (Nat × ByteArray) × Bool) :=
  if 6 < T.length then .inl (6, 81) else if T.length = 0 then .inr ([(0, sp 0)], false) else newL T.length T 0 [] false

/-- The answer, in memory. -/
def NewAt (w : World) (H : Nat) (v e : Value) : (Int × Int) ⊕ (List (Nat × ByteArray) × Bool) → Prop
  | .inl (a, c) => v = .pointer none ∧ PErr w e (some (a, c))
  | .inr (N, x) => ∃ q u R, v = .pointer (some ⟨q, 0, none⟩) ∧ e = .nilIface ∧ H ≤ q ∧ SetAt w q u R x ∧ namesOf R = N

theorem newL_step (cnt : Nat) (s : ByteArray) (T : List ByteArray) (i : Nat) (R : List Row) (x : Bool) :
    newL cnt (s :: T) i (namesOf R) x = match addS (fullB s i cnt) cnt R with
      | (c, none) => .inl (i, (c : Int))
      | (_, some (k, y)) => newL cnt T (i + 1) (namesOf R ++ [(k, fullB s i cnt)]) y := by
  rw [newL]
  unfold addS
  cases nmd (fullB s i cnt) 7 0 with
  | none => rfl
  | some ky =>
    obtain ⟨k, y⟩ := ky
    simp only
    by_cases h1 : (!y && decide (1 < cnt)) = true
    · rw [if_pos h1, if_pos h1]; rfl
    · rw [if_neg h1, if_neg h1, any_names]
      by_cases h2 : (R.any fun r => r.1 == k) = true
      · rw [if_pos h2, if_pos h2]; rfl
      · rw [if_neg h2, if_neg h2]
theorem addS_no {t : ByteArray} {cnt : Nat} {R : List Row} {c : Nat} (h : addS t cnt R = (c, none)) : ((c : Int) != 0) = true ∧ (c : Int) ≠ 0 := by
  unfold addS at h
  have : c = 80 ∨ c = 83 ∨ c = 82 := by
    split at h
    · simp at h; omega
    · split at h
      · simp at h; omega
      · split at h
        · simp at h; omega
        · simp at h
  rcases this with rfl | rfl | rfl <;> exact ⟨by decide, by decide⟩
theorem addS_yes {t : ByteArray} {cnt : Nat} {R : List Row} {c : Nat} {k : Nat} {y : Bool} (h : addS t cnt R = (c, some (k, y))) : c = 0 := by
  unfold addS at h
  split at h
  · simp at h
  · split at h
    · simp at h
    · split at h
      · simp at h
      · simp at h; omega

/-- What holds ahead of each round of New. -/
def NewInv (w : World) (n : Nat) (T : List ByteArray) (RES : (Int × Int) ⊕ (List (Nat × ByteArray) × Bool)) (y : Value) (wr : World) : Prop :=
  ∃ k : Nat, y = .int .i64 (k : Int) ∧ k ≤ n ∧ Below w.heap.size w wr ∧ ∃ u R x, R.length = k ∧ SetAt wr w.heap.size u R x ∧ newL n (T.drop k) k (namesOf R) x = RES

set_option maxRecDepth 100000 in
set_option maxHeartbeats 2000000 in
theorem new_any (w : World) (v : Value) (T : List ByteArray) (hT : TS w v T) (hsz : ∀ s ∈ T, s.size ≤ 140737488351232) (hn0 : 0 < T.length) (hn6 : T.length ≤ 6) (hS : Spell w) :
    Calls Tryz.prog 11 #[v] w fun e w' => ∃ p er, e = .returned (.tuple #[p, er]) ∧ NewAt w' w.heap.size p er (newL T.length T 0 [] false) ∧ Below w.heap.size w w' := by
  obtain ⟨ao, cap, rfl, hf⟩ := hT
  obtain ⟨b, off, rfl, hc⟩ := hf hn0
  obtain ⟨n, hn⟩ : ∃ n, T.length = n := ⟨_, rfl⟩
  have HN : Hid (T.length = n) := hn
  obtain ⟨RES, hRES⟩ : ∃ RES, newL T.length T 0 [] false = RES := ⟨_, rfl⟩
  rw [hRES]
  have HRES : Hid (newL n (T.drop 0) 0 (namesOf []) false = RES) := by show _ = _; rw [← hRES, hn]; rfl
  rw [hn] at hn0 hn6 ⊢
  have HC : Hid (∀ k s, T[k]? = some s → w.cell? ⟨b, off + k, none⟩ = some (.string s)) := hc
  have HSZ : Hid (∀ s ∈ T, s.size ≤ 140737488351232) := hsz
  have HSp : Hid (Spell w) := hS
  obtain ⟨W2, hW2⟩ : ∃ W2, w.alloc (.cells #[.slice none 0 0, .bool false] 72) = W2 := ⟨_, rfl⟩
  have hb2 : Below w.heap.size w W2 := hW2 ▸ (Below.refl _ _).alloc (Nat.le_refl _) _
  have HSet2 : Hid (SetAt W2 w.heap.size (.slice none 0 0) [] false) := hW2 ▸ setAt_new w
  have HB2 : Hid (Below w.heap.size w W2) := hb2
  have hnI : (0 : Int) < (n : Int) := by omega
  have hn6I : (n : Int) ≤ 6 := by omega
  have hne0 : ((n : Int) == 0) = false := by simp; omega
  have hd6 : decide ((6 : Int) < (n : Int)) = false := by simp; omega
  clear hc hsz hS hb2 hRES hf hn
  go_enter Tryz.func11, Tryz.ntmps11
  go_wp2
  go_loopw [21] (fun y wr => NewInv w n T RES y wr) (fun y _ => n - (intOf y).toNat)
  case atStart => exact ⟨0, rfl, by omega, HB2.out, _, [], false, rfl, HSet2.out, HRES.out⟩
  case round =>
    obtain ⟨k, rfl, hk, hbr, u, R, x, hRl, hset, hres⟩ := hrel
    have HBr : Hid (Below w.heap.size w wr) := hbr
    clear hbr
    by_cases hkn : k < n
    · have hkT : k < T.length := by rw [HN.out]; exact hkn
      obtain ⟨s, hs⟩ : ∃ s, T[k]? = some s := ⟨T[k], List.getElem?_eq_getElem hkT⟩
      have hcell := (HBr.out.cell (p := ⟨b, off + k, none⟩) (cell_lt (HC.out k s hs))).trans (HC.out k s hs)
      have hds : T.drop k = s :: T.drop (k + 1) := by
        rw [List.drop_eq_getElem_cons hkT]
        have := (List.getElem?_eq_some_iff.1 hs).2
        rw [this]
      rw [hds, newL_step] at hres
      have c29 := full_any wr s (HSZ.out s (List.mem_of_getElem? hs)) (k : Int) (n : Int) (HSp.out.on HBr.out)
      have hq : 1 < w.heap.size := HSp.out.lt
      have c28 := fun W (hb : Below wr.heap.size wr W) => add_any W w.heap.size u R x (fullB s k n) n (by omega) (hset.on hb) ((HSp.out.on HBr.out).on hb) hq
      have HSr : Hid (SetAt wr w.heap.size u R x) := hset
      have HRl : Hid (R.length = k) := hRl
      generalize fullB s k n = t at c29 c28 hres
      cases hadd : addS t n R with
      | mk c o =>
        rw [hadd] at hres c28
        simp only at hres c28
        cases o with
        | none =>
          simp only at hres c28
          subst hres
          obtain ⟨hc0, hc0'⟩ := addS_no hadd
          have c27 := fun W => refusal_any (k : Int) (c : Int) W
          clear hadd hs hds hset hRl hkT
          go_wp2_with (first | (go_at_call 29; refine c29.mono ?_; rintro e W3 ⟨rfl, hb3⟩) | (go_at_call 28; refine (c28 W3 hb3).mono ?_; rintro e W4 ⟨rfl, hb4, -⟩) | (go_at_call 27; refine (c27 _).mono ?_; rintro e W5 ⟨er, rfl, hpe, hb5⟩))
          have h3 : w.heap.size ≤ W3.heap.size := Nat.le_trans HBr.out.size hb3.size
          have h4 : w.heap.size ≤ W4.heap.size := Nat.le_trans h3 hb4.size
          exact bodyPost_ret (v := .tuple #[.pointer none, er]) (by simp [results, Tryz.results11, go_sem]) rfl ⟨_, _, rfl, ⟨rfl, hpe⟩, ((HBr.out.trans (hb3.mono HBr.out.size)).trans hb4).trans (hb5.mono h4)⟩
        | some ky =>
          obtain ⟨kk, y⟩ := ky
          simp only at hres c28
          obtain rfl := addS_yes hadd
          have HRS : Hid (newL n (T.drop (k + 1)) (k + 1) (namesOf R ++ [(kk, t)]) y = RES) := hres
          clear hadd hs hds hset hRl hkT hres
          go_wp2_with (first | (go_at_call 29; refine c29.mono ?_; rintro e W3 ⟨rfl, hb3⟩) | (go_at_call 28; refine (c28 W3 hb3).mono ?_; rintro e W4 ⟨rfl, hb4, u', B', HS4⟩))
          have h3 : w.heap.size ≤ W3.heap.size := Nat.le_trans HBr.out.size hb3.size
          have hnm : namesOf (R ++ [(kk, t, B')]) = namesOf R ++ [(kk, t)] := by unfold namesOf; simp
          have HF : Hid ((R ++ [(kk, t, B')]).length = k + 1 ∧ SetAt W4 w.heap.size u' (R ++ [(kk, t, B')]) y ∧ newL n (T.drop (k + 1)) (k + 1) (namesOf (R ++ [(kk, t, B')])) y = RES) := ⟨by simp [HRl.out], HS4, by rw [hnm]; exact HRS.out⟩
          have HBF : Hid (Below w.heap.size w W4) := (HBr.out.trans (hb3.mono HBr.out.size)).trans hb4
          go_roundw
          case rel => exact ⟨k + 1, by simp, by omega, HBF.out, u', _, y, HF.out⟩
          case measure => simp [intOf]; omega
    · obtain rfl : k = n := by omega
      rw [List.drop_eq_nil_of_le (by rw [HN.out]; exact Nat.le_refl _), newL] at hres
      subst hres
      have HSr : Hid (SetAt wr w.heap.size u R x) := hset
      clear hset hRl
      go_wp2
      exact bodyPost_ret (v := .tuple #[.pointer (some ⟨w.heap.size, 0, none⟩), .nilIface]) (by simp [results, Tryz.results11, go_sem]) rfl ⟨_, _, rfl, ⟨w.heap.size, u, R, rfl, rfl, Nat.le_refl _, HSr.out, rfl⟩, HBr.out⟩
end Go.Proofs.YtegfgbcimlacbaaGreatDoor
