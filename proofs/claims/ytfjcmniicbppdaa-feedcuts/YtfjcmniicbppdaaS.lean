import Derived.Test.YtfjcmniicbppdaaR
import Derived.Deep.LoopGhost
/-
  DERIVED. Texts in frames, pure; clean; what the law of cuts lays.
-/
namespace Go.Proofs.Ytfjcmniicbppdaa
open Go Go.Proofs Go.RowKit Go.Deep

/-- May the text stand in a frame? -/
def okB (s : ByteArray) : Bool := (sn s).all fun x => x != 11 && x != 28
def cl (s : ByteArray) : Bool := okB s && decide (s.size ≤ 16384)

theorem all_take_succ (l : List Nat) (p : Nat → Bool) (k : Nat) (h : k < l.length) : (l.take (k + 1)).all p = ((l.take k).all p && p (l.getD k 0)) := by
  rw [List.take_add_one, List.getElem?_eq_getElem h, List.all_append, List.getD_eq_getElem?_getD, List.getElem?_eq_getElem h]
  simp

set_option maxRecDepth 100000 in
theorem clean_any (w : World) (s : ByteArray) (hs : s.size ≤ 9223372036854775807) : Calls Try.prog 10 #[.string s] w fun e w' => e = .returned (.bool (cl s)) ∧ w = w' := by
  go_enter Try.func10, Try.ntmps10
  go_wp2
  go_loopw [3] (fun i wr => ∃ k : Nat, k ≤ s.size ∧ i = .int .i64 k ∧ wr = w ∧ Hid (((sn s).take k).all (fun x => x != 11 && x != 28) = true)) (fun i _ => s.size - (intOf i).toNat)
  case atStart => exact ⟨0, Nat.zero_le _, rfl, rfl, rfl⟩
  case round =>
    obtain ⟨k, hk, rfl, rfl, HA⟩ := hrel
    by_cases hkn : k < s.size
    · have hy := sn_get s k hkn
      obtain ⟨y, hy'⟩ : ∃ y, s[k].toNat = y := ⟨_, rfl⟩
      rw [hy'] at hy
      have hall := all_take_succ (sn s) (fun x => x != 11 && x != 28) k (by rw [sn_length]; exact hkn)
      rw [HA.out, hy, Bool.true_and] at hall
      by_cases h11 : y = 11
      · subst h11
        have hf : cl s = false := by
          have : okB s = false := by
            unfold okB
            rw [Bool.eq_false_iff]
            intro h
            have := List.all_eq_true.1 h ((sn s).getD k 0) (by rw [List.getD_eq_getElem?_getD, List.getElem?_eq_getElem (by rw [sn_length]; exact hkn)]; exact List.getElem_mem _)
            rw [hy] at this
            cases this
          unfold cl; rw [this]; rfl
        go_wp2
        go_ret
        exact ⟨by rw [hf]; rfl, rfl⟩
      · have e1 : ((y : Int) == 11) = false := by simp; omega
        by_cases h28 : y = 28
        · subst h28
          have hf : cl s = false := by
            have : okB s = false := by
              unfold okB
              rw [Bool.eq_false_iff]
              intro h
              have := List.all_eq_true.1 h ((sn s).getD k 0) (by rw [List.getD_eq_getElem?_getD, List.getElem?_eq_getElem (by rw [sn_length]; exact hkn)]; exact List.getElem_mem _)
              rw [hy] at this
              cases this
            unfold cl; rw [this]; rfl
          go_wp2
          go_ret
          exact ⟨by rw [hf]; rfl, rfl⟩
        · have e2 : ((y : Int) == 28) = false := by simp; omega
          go_wp2
          go_roundw
          case rel =>
            refine ⟨k + 1, by omega, by go_num, by trivial, ?_⟩
            show ((sn s).take (k + 1)).all _ = true
            rw [hall]; simp [h11, h28]
          case measure => simp [intOf]; omega
    · have hk' : k = s.size := by omega
      subst hk'
      have hb : okB s = true := by
        have := HA.out
        rw [List.take_of_length_le (by rw [sn_length]; exact Nat.le_refl _)] at this
        exact this
      by_cases hl : s.size ≤ 16384
      · have e1 : decide ((s.size : Int) ≤ 16384) = true := by simp; omega
        have e2 : cl s = true := by unfold cl; rw [hb, decide_eq_true hl]; rfl
        go_wp2
        go_ret
        exact ⟨by rw [e2]; rfl, rfl⟩
      · have e1 : decide ((s.size : Int) ≤ 16384) = false := by simp; omega
        have e2 : cl s = false := by unfold cl; rw [hb, decide_eq_false hl]; rfl
        go_wp2
        go_ret
        exact ⟨by rw [e2]; rfl, rfl⟩

theorem tk_app (A B : List Nat) : ∀ (s : FSt) (fs : Fs), tk (A ++ B) s fs = tk B (tk A s fs).1 (tk A s fs).2 := by
  induction A with
  | nil => intro s fs; rfl
  | cons c r ih => intro s fs; exact ih _ _
theorem tk_acc (A : List Nat) : ∀ (s : FSt) (fs gs : Fs), tk A s (fs ++ gs) = ((tk A s gs).1, fs ++ (tk A s gs).2) := by
  induction A with
  | nil => intro s fs gs; rfl
  | cons c r ih => intro s fs gs; show tk r (sp c s) (fs ++ gs ++ ot c s) = _; rw [List.append_assoc, ih]; rfl
theorem tk_text : ∀ (l tx : List Nat) (fs : Fs), (∀ x ∈ l, x ≠ 11 ∧ x ≠ 28) → tx.length + l.length ≤ 16384 → tk l (2, tx, false) fs = ((2, tx ++ l, false), fs)
  | [], tx, fs, _, _ => by simp [tk]
  | c :: r, tx, fs, h, hl => by
    have h1 := h c (List.mem_cons_self ..)
    have hl' : tx.length + (r.length + 1) ≤ 16384 := hl
    show tk r (sp c (2, tx, false)) (fs ++ ot c (2, tx, false)) = _
    rw [sp2, ot2, List.append_nil]
    have e : lk c tx false = (2, tx ++ [c], false) := by simp [lk, h1.1, h1.2, kpT, kpL, show ¬ tx.length = 16384 by omega]
    rw [e, tk_text r (tx ++ [c]) fs (fun x hx => h x (List.mem_cons_of_mem _ hx)) (by simp; omega), List.append_assoc]
    rfl
theorem cl_iff {s : ByteArray} (h : cl s = true) : (∀ x ∈ sn s, x ≠ 11 ∧ x ≠ 28) ∧ s.size ≤ 16384 := by
  unfold cl at h
  rw [Bool.and_eq_true] at h
  refine ⟨fun x hx => ?_, of_decide_eq_true h.2⟩
  have := List.all_eq_true.1 h.1 x hx
  simpa using this
theorem tk_frame {s : ByteArray} (h : cl s = true) (fs : Fs) : tk (fb s) (1, [], false) fs = ((1, [], false), fs ++ [(sn s, false)]) := by
  obtain ⟨h1, h2⟩ := cl_iff h
  show tk ([11] ++ sn s ++ [28, 13]) _ _ = _
  rw [tk_app, tk_app]
  have e1 : tk [11] (1, [], false) fs = ((2, [], false), fs) := by simp [tk, sp, ot]
  rw [e1, tk_text (sn s) [] fs h1 (by rw [sn_length]; simpa using h2)]
  simp [tk, sp, ot, lk]
theorem tk_between : ∀ (l : List Nat) (fs : Fs), (∀ x ∈ l, x ≠ 11) → tk l (1, [], false) fs = ((1, [], false), fs)
  | [], _, _ => rfl
  | c :: r, fs, h => by
    show tk r (sp c (1, [], false)) (fs ++ ot c (1, [], false)) = _
    rw [sp1n (h c (List.mem_cons_self ..)), ot1, List.append_nil]
    exact tk_between r fs fun x hx => h x (List.mem_cons_of_mem _ hx)

/-- All bytes: the texts in frames, each with what stands between behind it. -/
def alB (bw : List Nat) (wt : List ByteArray) : List Nat := wt.flatMap fun t => fb t ++ bw
def frs (wt : List ByteArray) : Fs := wt.map fun t => (sn t, false)
theorem alB_app (bw : List Nat) (wt : List ByteArray) (t : ByteArray) : alB bw (wt ++ [t]) = alB bw wt ++ (fb t ++ bw) := by simp [alB]
theorem tk_all (bw : List Nat) (hb : ∀ x ∈ bw, x ≠ 11) : ∀ (wt : List ByteArray) (fs : Fs), (∀ t ∈ wt, cl t = true) → tk (alB bw wt) (1, [], false) fs = ((1, [], false), fs ++ frs wt)
  | [], fs, _ => by simp [alB, tk, frs]
  | t :: r, fs, h => by
    show tk ((fb t ++ bw) ++ alB bw r) _ _ = _
    rw [tk_app, tk_app, tk_frame (h t (List.mem_cons_self ..)), tk_between bw _ hb, tk_all bw hb r _ fun x hx => h x (List.mem_cons_of_mem _ hx), List.append_assoc]
    rfl
theorem arr_sn (s : ByteArray) : arr (sn s) = s := by
  unfold arr sn
  rw [List.map_map]
  have : (Nat.toUInt8 ∘ fun x : UInt8 => x.toNat) = id := by funext x; simp
  rw [this]
  simp
end Go.Proofs.Ytfjcmniicbppdaa
