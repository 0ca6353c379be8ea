import Derived.Test.YtnheeenkdjmhoaaDoorK
/-
  DERIVED. Frames, and texts in frames: pure.
-/
namespace Go.Proofs.YtnheeenkdjmhoaaDoor
open Go Go.Proofs Go.RowKit Go.Deep

/-- A text's bytes. -/
def sn (s : ByteArray) : List Nat := s.data.toList.map (·.toNat)
theorem sn_length (s : ByteArray) : (sn s).length = s.size := by rw [sn, List.length_map, Array.length_toList]; rfl
theorem sn_lt (s : ByteArray) : ∀ x ∈ sn s, x < 256 := by
  intro x hx
  obtain ⟨b, _, rfl⟩ := List.mem_map.1 hx
  exact b.toNat_lt
theorem sn_cells (s : ByteArray) : Lib.strCells s = u8s (sn s) := by simp [Lib.strCells, u8s, sn]
theorem sn_get (s : ByteArray) (k : Nat) (h : k < s.size) : (sn s).getD k 0 = s[k].toNat := by
  have h' : k < s.data.toList.length := by simpa using h
  rw [List.getD_eq_getElem?_getD, sn, List.getElem?_map, List.getElem?_eq_getElem h']
  simp
  rfl
/-- A frame's bytes. -/
def fb (s : ByteArray) : List Nat := [11] ++ sn s ++ [28, 13]
theorem fb_length (s : ByteArray) : (fb s).length = s.size + 3 := by simp [fb, sn_length]
theorem fb_lt (s : ByteArray) : ∀ x ∈ fb s, x < 256 := by
  intro x hx
  simp only [fb, List.mem_append] at hx
  rcases hx with (hx | hx) | hx
  · simp at hx; omega
  · exact sn_lt s x hx
  · simp at hx; omega
theorem frame_v (w : World) (s : ByteArray) (hl : s.size ≤ 16777216) : Calls Tryd.prog 20 #[.string s] w fun e w' => ∃ v, e = .returned v ∧ V w' v (fb s) ∧ (∃ g c, v = .slice (some ⟨g, 0, none⟩) (s.size + 3) c ∧ w.heap.size ≤ g ∧ g < w'.heap.size) ∧ Below w.heap.size w w' := by
  refine (frame_any w s (by omega)).mono fun e w' ⟨he, ho, hb⟩ => ⟨_, he, ?_, ⟨_, _, rfl, Nat.le_refl _, (ho.lt _ rfl).2⟩, hb⟩
  refine own_v (B := w.heap.size) ?_ (fb_lt s)
  rw [fb_length]
  have : u8s (fb s) = ([.int .u8 11] ++ Lib.strCells s) ++ [.int .u8 28, .int .u8 13] := by rw [fb, u8s_append, u8s_append, sn_cells]; rfl
  rw [this]
  exact ho

/-- May the text stand in a frame? -/
def clB (s : ByteArray) : Bool := (sn s).all fun x => x != 11 && x != 28
def cl (s : ByteArray) : Bool := clB s && decide (s.size ≤ 16384)

theorem tk_app (A B : List Nat) : ∀ (s : FSt) (fs : Fs), tk (A ++ B) s fs = tk B (tk A s fs).1 (tk A s fs).2 := by
  induction A with
  | nil => intro s fs; rfl
  | cons c r ih => intro s fs; exact ih _ _
theorem tk_acc (A : List Nat) : ∀ (s : FSt) (fs gs : Fs), tk A s (fs ++ gs) = ((tk A s gs).1, fs ++ (tk A s gs).2) := by
  induction A with
  | nil => intro s fs gs; rfl
  | cons c r ih => intro s fs gs; show tk r (sp c s) (fs ++ gs ++ ot c s) = _; rw [List.append_assoc, ih]; rfl
theorem tk_text : ∀ (l tx : List Nat) (fs : Fs), (∀ x ∈ l, x ≠ 11 ∧ x ≠ 28) → tx.length + l.length ≤ 16384 → tk l (2, tx, false) fs = ((2, tx ++ l, false), fs)
  | [], tx, fs, _, _ => by simp [tk]
  | c :: r, tx, fs, h, hl => by
    have h1 := h c (List.mem_cons_self ..)
    have hl' : tx.length + (r.length + 1) ≤ 16384 := hl
    show tk r (sp c (2, tx, false)) (fs ++ ot c (2, tx, false)) = _
    rw [sp2, ot2, List.append_nil]
    have e : lk c tx false = (2, tx ++ [c], false) := by simp [lk, h1.1, h1.2, kpT, kpL, show ¬ tx.length = 16384 by omega]
    rw [e, tk_text r (tx ++ [c]) fs (fun x hx => h x (List.mem_cons_of_mem _ hx)) (by simp; omega), List.append_assoc]
    rfl
theorem cl_iff {s : ByteArray} (h : cl s = true) : (∀ x ∈ sn s, x ≠ 11 ∧ x ≠ 28) ∧ s.size ≤ 16384 := by
  unfold cl at h
  rw [Bool.and_eq_true] at h
  refine ⟨fun x hx => ?_, of_decide_eq_true h.2⟩
  have := List.all_eq_true.1 h.1 x hx
  simpa using this
theorem tk_frame {s : ByteArray} (h : cl s = true) (fs : Fs) : tk (fb s) (1, [], false) fs = ((1, [], false), fs ++ [(sn s, false)]) := by
  obtain ⟨h1, h2⟩ := cl_iff h
  show tk ([11] ++ sn s ++ [28, 13]) _ _ = _
  rw [tk_app, tk_app]
  have e1 : tk [11] (1, [], false) fs = ((2, [], false), fs) := by simp [tk, sp, ot]
  rw [e1, tk_text (sn s) [] fs h1 (by rw [sn_length]; simpa using h2)]
  simp [tk, sp, ot, lk]
theorem tk_between : ∀ (l : List Nat) (fs : Fs), (∀ x ∈ l, x ≠ 11) → tk l (1, [], false) fs = ((1, [], false), fs)
  | [], _, _ => rfl
  | c :: r, fs, h => by
    show tk r (sp c (1, [], false)) (fs ++ ot c (1, [], false)) = _
    rw [sp1n (h c (List.mem_cons_self ..)), ot1, List.append_nil]
    exact tk_between r fs fun x hx => h x (List.mem_cons_of_mem _ hx)

/-- All bytes: the texts in frames, each with what stands between behind it. -/
def alB (bw : List Nat) (wt : List ByteArray) : List Nat := wt.flatMap fun t => fb t ++ bw
def frs (wt : List ByteArray) : Fs := wt.map fun t => (sn t, false)
theorem alB_app (bw : List Nat) (wt : List ByteArray) (t : ByteArray) : alB bw (wt ++ [t]) = alB bw wt ++ (fb t ++ bw) := by simp [alB]
theorem tk_all (bw : List Nat) (hb : ∀ x ∈ bw, x ≠ 11) : ∀ (wt : List ByteArray) (fs : Fs), (∀ t ∈ wt, cl t = true) → tk (alB bw wt) (1, [], false) fs = ((1, [], false), fs ++ frs wt)
  | [], fs, _ => by simp [alB, tk, frs]
  | t :: r, fs, h => by
    show tk ((fb t ++ bw) ++ alB bw r) _ _ = _
    rw [tk_app, tk_app, tk_frame (h t (List.mem_cons_self ..)), tk_between bw _ hb, tk_all bw hb r _ fun x hx => h x (List.mem_cons_of_mem _ hx), List.append_assoc]
    rfl
theorem arr_sn (s : ByteArray) : arr (sn s) = s := by
  unfold arr sn
  rw [List.map_map]
  have : (Nat.toUInt8 ∘ fun x : UInt8 => x.toNat) = id := by funext x; simp
  rw [this]
  simp
end Go.Proofs.YtnheeenkdjmhoaaDoor
