import Derived.Test.YteglammdigmmfaaGreatDoorMj
import Derived.Test.YteglammdigmmfaaGreatDoorSi
/-
  DERIVED. The document's Valid.
-/
namespace Go.Proofs.YteglammdigmmfaaGreatDoor.Ck
open Go Go.Proofs Go.RowKit
open Go.Proofs.YteglammdigmmfaaGreatDoor.Sp (okV spT u8s)

theorem ck_one (v : Int) (s : ByteArray) : ckK v s = none ∨ ∃ a c, ckK v s = some ([(dB, a)], c) ∧ c ≠ 0 := by
  unfold ckK ckO
  split
  · exact .inr ⟨_, _, rfl, by decide⟩
  split
  · exact .inl rfl
  split
  · exact .inr ⟨_, _, rfl, by decide⟩
  split
  · exact .inr ⟨_, _, rfl, by decide⟩
  split
  · exact .inl rfl
  · exact .inr ⟨_, _, rfl, by decide⟩
/-- What is said of single values, from the i-th on. -/
def vdL (v : Int) : List ByteArray → Nat → Option (List Lk × Int)
  | [], _ => none
  | x :: xs, i => match ckK v x with
    | some (ls, c) => some ((dB, (i : Int)) :: ls, c)
    | none => vdL v xs (i + 1)
def vdO (v : Int) (s : ByteArray) : Option (List Lk × Int) := match bdO v s with
  | some x => some x
  | none => vdL v (spT v s) 0
theorem spL_sp : ∀ l : List UInt8, Sp.spL l = spCL 92 l
  | [] => rfl
  | b :: l => by
    unfold Sp.spL spCL
    rw [spL_sp l]
    rfl
theorem pcF_len (s : ByteArray) (u : Nat) : ∀ n f, ∀ p ∈ Sp.pcF s u n f, p.size ≤ s.size
  | 0, f, p, h => by
    rw [Sp.pcF] at h
    rw [List.mem_singleton.1 h, ByteArray.size_extract]; omega
  | n + 1, f, p, h => by
    rw [Sp.pcF] at h
    split at h
    · rcases List.mem_cons.1 h with rfl | h
      · rw [ByteArray.size_extract]; omega
      · exact pcF_len s u n _ p h
    · rw [List.mem_singleton.1 h, ByteArray.size_extract]; omega
theorem spT_mem (v : Int) (s p : ByteArray) (h : p ∈ spT v s) : p.size ≤ s.size := by
  unfold spT at h
  split at h
  · cases h
  split at h
  · rw [List.mem_singleton.1 h]; exact Nat.le_refl _
  split at h
  · have e : Sp.spB s = spCB 92 s := by unfold Sp.spB spCB; rw [spL_sp]
    rw [e] at h
    exact strC_len 92 s p h
  · exact pcF_len s _ _ _ p h
/-- Texts lie in a row. -/
def TxAt (X : World) (ao : Option Addr) (T : List ByteArray) : Prop := ∀ i (h : i < T.length), ∃ g, ao = some ⟨g, 0, none⟩ ∧ X.cell? ⟨g, i, none⟩ = some (.string T[i])
theorem row_of {W : World} {base : Nat} {x : Value} {T : List ByteArray} (h : W.ownsRow base 9 1 x T.length (u8s T)) : ∃ ao cap, x = .slice ao T.length cap ∧ TxAt W ao T := by
  have h2 := h
  rcases h.2 with ⟨rfl, h0⟩ | ⟨g, cap, cur, rfl, _⟩
  · exact ⟨none, 0, by rw [h0], fun i hi => by omega⟩
  · refine ⟨_, cap, rfl, fun i hi => ⟨g, rfl, ?_⟩⟩
    rw [h2.cellAt i (by omega)]
    simp [u8s, hi]
theorem TxAt.on {X Y : World} {ao : Option Addr} {T : List ByteArray} (h : TxAt X ao T) (hb : Below X.heap.size X Y) : TxAt Y ao T := fun i hi => by
  obtain ⟨g, h1, h2⟩ := h i hi
  exact ⟨g, h1, (hb.cell (clt h2)).trans h2⟩
theorem TxAt.put {X : World} {ao : Option Addr} {T : List ByteArray} {F : Nat} (h : TxAt X ao T) (hf : Rz F X) (v0 v1 : Value) : TxAt ((X.setCell ⟨F, 0, none⟩ v0).setCell ⟨F, 1, none⟩ v1) ao T := fun i hi => by
  obtain ⟨g, h1, h2⟩ := h i hi
  obtain ⟨g', h1', h2'⟩ := h 0 (by omega)
  have hne : F ≠ g := fun e => by
    rw [h1] at h1'
    have : g = g' := by simpa using h1'
    rw [← this, ← e, hf.r0] at h2'
    cases h2'
  exact ⟨g, h1, ((Rp.cell_set_off hne).trans (Rp.cell_set_off hne)).trans h2⟩
theorem Rz.off {X : World} {b F : Nat} (h : Rz b X) (hne : F ≠ b) (v0 v1 : Value) : Rz b ((X.setCell ⟨F, 0, none⟩ v0).setCell ⟨F, 1, none⟩ v1) :=
  ⟨((Rp.cell_set_off hne).trans (Rp.cell_set_off hne)).trans h.r0, ((Rp.cell_set_off hne).trans (Rp.cell_set_off hne)).trans h.r1, fun j => by rw [World.frozen?_setCell, World.frozen?_setCell]; exact h.rf j⟩
theorem Rz.same {X : World} {F : Nat} (h : Rz F X) : Rz F ((X.setCell ⟨F, 0, none⟩ (.slice none 0 0)).setCell ⟨F, 1, none⟩ (.int .i64 0)) :=
  ⟨(Rp.cell_set_ne (by decide)).trans (Rp.cell_set_eq h.r0), Rp.cell_set_eq ((Rp.cell_set_ne (by decide)).trans h.r1), fun j => by rw [World.frozen?_setCell, World.frozen?_setCell]; exact h.rf j⟩
theorem lk_ne {X : World} {b g : Nat} {x : Lk} {ls : List Lk} (h : Rz b X) (hl : LkAt X g (x :: ls)) : b ≠ g := fun e => by
  have := (hl 0 (by simp)).1
  rw [← e] at this
  rw [Nat.zero_mul, h.r0] at this
  cases this
theorem rcheck_nil (w : World) (v : Int) (s : ByteArray) (hs : s.size ≤ 140737488351232) (h : ckK v s = none) : Calls Tryz.prog 6 #[.int .i64 v, .string s] w fun e w' => e = .returned (.agg #[.slice none 0 0, .int .i64 0]) ∧ Below w.heap.size w w' := by
  refine (rcheck_any w v s hs).mono ?_
  rintro e W ⟨r, rfl, hf, hb⟩
  rw [h] at hf
  exact ⟨by rw [show r = _ from hf], hb⟩
theorem rcheck_some (w : World) (v : Int) (s : ByteArray) (hs : s.size ≤ 140737488351232) (a c : Int) (h : ckK v s = some ([(dB, a)], c)) : Calls Tryz.prog 6 #[.int .i64 v, .string s] w fun e w' => ∃ g cp, e = .returned (.agg #[.slice (some ⟨g, 0, none⟩) 1 cp, .int .i64 c]) ∧ LkAt w' g [(dB, a)] ∧ Below w.heap.size w w' := by
  refine (rcheck_any w v s hs).mono ?_
  rintro e W ⟨r, rfl, hf, hb⟩
  rw [h] at hf
  obtain ⟨g, cp, rfl, hl⟩ := hf
  exact ⟨g, cp, rfl, hl, hb⟩
theorem rbounds_nil (w : World) (v : Int) (s : ByteArray) (h : bdO v s = none) : Calls Tryz.prog 25 #[.int .i64 v, .string s] w fun e w' => e = .returned (.agg #[.slice none 0 0, .int .i64 0]) ∧ Below w.heap.size w w' := by
  refine (rbounds_any w v s).mono ?_
  rintro e W ⟨r, rfl, hf, hb⟩
  rw [h] at hf
  exact ⟨by rw [show r = _ from hf], hb⟩
theorem rbounds_some (w : World) (v : Int) (s : ByteArray) (a c : Int) (h : bdO v s = some ([(dB, a)], c)) : Calls Tryz.prog 25 #[.int .i64 v, .string s] w fun e w' => ∃ g cp, e = .returned (.agg #[.slice (some ⟨g, 0, none⟩) 1 cp, .int .i64 c]) ∧ LkAt w' g [(dB, a)] ∧ Below w.heap.size w w' := by
  refine (rbounds_any w v s).mono ?_
  rintro e W ⟨r, rfl, hf, hb⟩
  rw [h] at hf
  obtain ⟨g, cp, rfl, hl⟩ := hf
  exact ⟨g, cp, rfl, hl, hb⟩
theorem bd_cases (v : Int) (s : ByteArray) : (bdO v s = none ∧ okV v = true ∧ s.size ≤ 65534) ∨ ∃ a c, bdO v s = some ([(dB, a)], c) ∧ c ≠ 0 := by
  unfold bdO
  split
  · exact .inr ⟨_, _, rfl, by decide⟩
  · rename_i h
    split
    · exact .inr ⟨_, _, rfl, by decide⟩
    · refine .inl ⟨rfl, ?_, by omega⟩
      cases hh : okV v with
      | true => rfl
      | false => exact absurd hh h
/-- What both keep while they look at one value after another. -/
structure VI (w X : World) (F : Nat) (ao : Option Addr) (T : List ByteArray) : Prop where
  r : Rz w.heap.size X
  f : Rz F X
  t : TxAt X ao T
  b : Below w.heap.size w X
theorem VI.on {w X Y : World} {F : Nat} {ao : Option Addr} {T : List ByteArray} (h : VI w X F ao T) (hb : Below X.heap.size X Y) : VI w Y F ao T := ⟨h.r.on hb, h.f.on hb, h.t.on hb, h.b.trans (hb.mono h.b.size)⟩
set_option maxRecDepth 100000 in
set_option maxHeartbeats 8000000 in
theorem rvalid_bad (w : World) (v : Int) (s : ByteArray) (a c : Int) (h : bdO v s = some ([(dB, a)], c)) (hc : c ≠ 0) : Calls Tryz.prog 8 #[.int .i64 v, .string s] w (CkD w (some ([(dB, a)], c))) := by
  have HR0 : Hid (Rz w.heap.size (w.alloc (.cells #[.slice none 0 0, .int .i64 0] 31))) := Rz.new w
  have HB0 : Hid (Below w.heap.size w (w.alloc (.cells #[.slice none 0 0, .int .i64 0] 31))) := (Below.refl _ _).alloc (Nat.le_refl _) _
  go_enter Tryz.func8, Tryz.ntmps8
  go_wp2_with (go_at_call 25; refine Stop.mk ?_)
  refine Stop.out ((rbounds_some _ v s a c h).mono ?_)
  rintro e W1 ⟨g, cp, rfl, hl1, hb1⟩
  have hbA : Below W1.heap.size W1 (W1.alloc (.cells #[.slice (some ⟨g, 0, none⟩) 1 cp, .int .i64 c] 31)) := (Below.refl _ _).alloc (Nat.le_refl _) _
  have HR1 : Hid (Rz w.heap.size (W1.alloc (.cells #[.slice (some ⟨g, 0, none⟩) 1 cp, .int .i64 c] 31))) := (HR0.out.on hb1).on hbA
  have HL1 : Hid (LkAt (W1.alloc (.cells #[.slice (some ⟨g, 0, none⟩) 1 cp, .int .i64 c] 31)) g [(dB, a)]) := hl1.on hbA
  have HBa : Hid (Below w.heap.size w W1) := HB0.out.trans (hb1.mono HB0.out.size)
  have HB1 : Hid (Below w.heap.size w (W1.alloc (.cells #[.slice (some ⟨g, 0, none⟩) 1 cp, .int .i64 c] 31))) := HBa.out.trans (hbA.mono HBa.out.size)
  clear hb1 hbA hl1 HBa h
  go_wp2_with (go_at_call 26; refine Stop.mk ?_)
  refine Stop.out ((rany_some _ g 1 cp c hc).mono ?_)
  rintro e W2 ⟨rfl, hb2⟩
  obtain ⟨r0, r1, rf⟩ := HR1.out.on hb2
  have HL2 : Hid (LkAt W2 g [(dB, a)]) := HL1.out.on hb2
  have HG2 : Hid (w.heap.size ≠ g) := lk_ne (HR1.out.on hb2) HL2.out
  have HB2 : Hid (Below w.heap.size w W2) := HB1.out.trans (hb2.mono HB1.out.size)
  have f0 : W2.cell? ⟨W1.heap.size, 0, none⟩ = some (.slice (some ⟨g, 0, none⟩) 1 cp) := (hb2.cell (by simp)).trans (by simp)
  have f1 : W2.cell? ⟨W1.heap.size, 1, none⟩ = some (.int .i64 c) := (hb2.cell (by simp)).trans (by simp)
  clear hb2 hc
  go_wp2
  refine bodyPost_ret (v := .agg #[.slice (some ⟨g, 0, none⟩) 1 cp, .int .i64 c]) (by simp [results, Tryz.results8, go_sem, r0, r1]) rfl ⟨_, rfl, ⟨g, cp, rfl, lk_put HL2.out HG2.out _ _⟩, below_put HB2.out _ _⟩
set_option maxRecDepth 100000 in
set_option maxHeartbeats 8000000 in
theorem rvalid_good (w : World) (v : Int) (s : ByteArray) (h : bdO v s = none) (hs : s.size ≤ 65534) : Calls Tryz.prog 8 #[.int .i64 v, .string s] w (CkD w (vdL v (spT v s) 0)) := by
  have c27 := fun W => Sp.rsplit_any W v s (by omega)
  have hlen := Sp.spT_len v s
  have HE : Hid (∀ p ∈ spT v s, p.size ≤ s.size) := spT_mem v s
  generalize spT v s = T at *
  obtain ⟨R, hR⟩ : ∃ R, vdL v T 0 = R := ⟨_, rfl⟩
  have HR : Hid (vdL v (T.drop 0) 0 = R) := hR
  rw [hR]
  obtain ⟨n, hl⟩ : ∃ n, T.length = n := ⟨_, rfl⟩
  have HL : Hid (T.length = n) := hl
  rw [hl] at hlen
  clear hR hl
  have HR0 : Hid (Rz w.heap.size (w.alloc (.cells #[.slice none 0 0, .int .i64 0] 31))) := Rz.new w
  have HB0 : Hid (Below w.heap.size w (w.alloc (.cells #[.slice none 0 0, .int .i64 0] 31))) := (Below.refl _ _).alloc (Nat.le_refl _) _
  go_enter Tryz.func8, Tryz.ntmps8
  go_wp2_with (go_at_call 25; refine Stop.mk ?_)
  refine Stop.out ((rbounds_nil _ v s h).mono ?_)
  rintro e W1 ⟨rfl, hb1⟩
  have hbA : Below W1.heap.size W1 (W1.alloc (.cells #[.slice none 0 0, .int .i64 0] 31)) := (Below.refl _ _).alloc (Nat.le_refl _) _
  have HR1 : Hid (Rz w.heap.size (W1.alloc (.cells #[.slice none 0 0, .int .i64 0] 31))) := (HR0.out.on hb1).on hbA
  have HF1 : Hid (Rz W1.heap.size (W1.alloc (.cells #[.slice none 0 0, .int .i64 0] 31))) := Rz.new W1
  have HBa : Hid (Below w.heap.size w W1) := HB0.out.trans (hb1.mono HB0.out.size)
  have HB1 : Hid (Below w.heap.size w (W1.alloc (.cells #[.slice none 0 0, .int .i64 0] 31))) := HBa.out.trans (hbA.mono HBa.out.size)
  have HN : Hid (W1.heap.size ≠ w.heap.size) := by have := hb1.size; simp at this; show W1.heap.size ≠ w.heap.size; omega
  have HM : Hid (w.heap.size ≤ W1.heap.size) := HBa.out.size
  clear hb1 hbA HBa h
  go_wp2_with (go_at_call 26; refine Stop.mk ?_)
  refine Stop.out ((rany_none _).mono ?_)
  rintro e W2 ⟨rfl, hb2⟩
  have HR2 : Hid (Rz w.heap.size W2) := HR1.out.on hb2
  have HF2 : Hid (Rz W1.heap.size W2) := HF1.out.on hb2
  have HB2 : Hid (Below w.heap.size w W2) := HB1.out.trans (hb2.mono HB1.out.size)
  clear hb2
  go_wp2_with (go_at_call 27; refine Stop.mk ?_)
  refine Stop.out ((c27 _).mono ?_)
  rintro e W3 ⟨x, rfl, hx⟩
  obtain ⟨ao, cp, rfl, ht⟩ := row_of hx.out.1
  have HV : Hid (VI w W3 W1.heap.size ao T) := ⟨HR2.out.on hx.out.2, HF2.out.on hx.out.2, ht, HB2.out.trans (hx.out.2.mono HB2.out.size)⟩
  rw [HL.out]
  clear hx ht c27 HR2 HF2 HB2 HR1 HF1 HB1 HR0 HB0
  generalize W1.heap.size = F at *
  go_wp2
  go_loopg [7] n (fun k s7 wx => ∃ i : Nat, s7 = .int .i64 (i : Int) ∧ i ≤ n ∧ k + i = n ∧ Hid (vdL v (T.drop i) i = R) ∧ Hid (VI w wx F ao T))
  case atStart => exact ⟨0, rfl, by omega, by omega, HR, HV⟩
  case round =>
    clear HR HV
    obtain ⟨i, rfl, hi, hg, HI, HV⟩ := hrel
    by_cases hlt : i < n
    · have iI : (i : Int) < (n : Int) := by omega
      have hlx : i < T.length := by have := HL.out; omega
      obtain ⟨u, hu⟩ : ∃ u, T[i] = u := ⟨_, rfl⟩
      obtain ⟨g, hao, cl⟩ := HV.out.t i hlx
      rw [hu] at cl
      subst hao
      have hsz : u.size ≤ s.size := HE.out u (by rw [← hu]; exact List.getElem_mem hlx)
      have HI2 := HI.out
      rw [List.drop_eq_getElem_cons hlx, hu, vdL] at HI2
      clear HI hlx hu
      rcases ck_one v u with hk | ⟨a, c, hk, hc⟩
      · rw [hk] at HI2
        have HI3 : Hid (vdL v (T.drop (i + 1)) (i + 1) = R) := HI2
        clear HI2
        go_wp2_with (go_at_call 6; refine Stop.mk ?_)
        refine Stop.out ((rcheck_nil _ v u (by omega) hk).mono ?_)
        rintro e4 W4 ⟨rfl, hb4⟩
        have HV4 : Hid (VI w W4 F (some ⟨g, 0, none⟩) T) := HV.out.on hb4
        obtain ⟨f0, f1, ff⟩ := HV4.out.f
        have HV5 : Hid (VI w ((W4.setCell ⟨F, 0, none⟩ (.slice none 0 0)).setCell ⟨F, 1, none⟩ (.int .i64 0)) F (some ⟨g, 0, none⟩) T) := ⟨HV4.out.r.off HN.out _ _, HV4.out.f.same, HV4.out.t.put HV4.out.f _ _, (HV4.out.b.setCell (p := ⟨F, 0, none⟩) HM.out _).setCell (p := ⟨F, 1, none⟩) HM.out _⟩
        clear hb4 HV hk HV4 cl
        go_wp2_with (go_at_call 26; refine Stop.mk ?_)
        refine Stop.out ((rany_none _).mono ?_)
        rintro e5 W5 ⟨rfl, hb5⟩
        have HV6 : Hid (VI w W5 F (some ⟨g, 0, none⟩) T) := HV5.out.on hb5
        clear hb5 HV5 f0 f1 ff
        go_wp2
        go_roundg (n - (i + 1))
        case measure => omega
        case rel => exact ⟨i + 1, by simp, by omega, by omega, HI3, HV6⟩
      · rw [hk] at HI2
        have HI3 : Hid (some ([(dB, (i : Int)), (dB, a)], c) = R) := HI2
        clear HI2
        go_wp2_with (go_at_call 6; refine Stop.mk ?_)
        refine Stop.out ((rcheck_some _ v u (by omega) a c hk).mono ?_)
        rintro e4 W4 ⟨g4, cp4, rfl, hl4, hb4⟩
        have HV4 : Hid (VI w W4 F (some ⟨g, 0, none⟩) T) := HV.out.on hb4
        obtain ⟨f0, f1, ff⟩ := HV4.out.f
        obtain ⟨X, hX⟩ : ∃ X, (W4.setCell ⟨F, 0, none⟩ (.slice (some ⟨g4, 0, none⟩) 1 cp4)).setCell ⟨F, 1, none⟩ (.int .i64 c) = X := ⟨_, rfl⟩
        have HRx : Hid (Rz w.heap.size X) := hX ▸ HV4.out.r.off HN.out _ _
        have HBx : Hid (Below w.heap.size w X) := hX ▸ (HV4.out.b.setCell (p := ⟨F, 0, none⟩) HM.out _).setCell (p := ⟨F, 1, none⟩) HM.out _
        have HLx : Hid (LkAt X g4 [(dB, a)]) := hX ▸ lk_put hl4 (lk_ne HV4.out.f hl4) _ _
        have x0 : X.cell? ⟨F, 0, none⟩ = some (.slice (some ⟨g4, 0, none⟩) 1 cp4) := by rw [← hX]; exact (Rp.cell_set_ne (by decide)).trans (Rp.cell_set_eq f0)
        have x1 : X.cell? ⟨F, 1, none⟩ = some (.int .i64 c) := by rw [← hX]; exact Rp.cell_set_eq ((Rp.cell_set_ne (by decide)).trans f1)
        clear hb4 HV hk HV4 cl hl4
        go_wp2_with (go_at_call 26; refine Stop.mk ?_)
        refine Stop.out ((rany_some _ g4 1 cp4 c hc).mono ?_)
        rintro e5 W5 ⟨rfl, hb5⟩
        have HR5 : Hid (Rz w.heap.size W5) := HRx.out.on hb5
        have HB5 : Hid (Below w.heap.size w W5) := HBx.out.trans (hb5.mono HBx.out.size)
        have HL5 : Hid (LkAt W5 g4 [(dB, a)]) := HLx.out.on hb5
        have y0 : W5.cell? ⟨F, 0, none⟩ = some (.slice (some ⟨g4, 0, none⟩) 1 cp4) := (hb5.cell (clt x0)).trans x0
        have y1 : W5.cell? ⟨F, 1, none⟩ = some (.int .i64 c) := (hb5.cell (clt x1)).trans x1
        clear hb5 x0 x1 HRx HBx HLx f0 f1 ff hX
        go_wp2_with (go_at_call 28; refine Stop.mk ?_)
        refine Stop.out ((rwrap_any _ (i : Int) a c dB g4 cp4 (HL5.out 0 (by simp)).1 (HL5.out 0 (by simp)).2).mono ?_)
        rintro e6 W6 ⟨g6, c6, rfl, hl6, hb6⟩
        obtain ⟨r0, r1, rf⟩ := HR5.out.on hb6.out
        have HG6 : Hid (w.heap.size ≠ g6) := lk_ne (HR5.out.on hb6.out) hl6.out
        have HB6 : Hid (Below w.heap.size w W6) := HB5.out.trans (hb6.out.mono HB5.out.size)
        clear hb6 y0 y1
        go_wp2
        refine bodyPost_ret (v := .agg #[.slice (some ⟨g6, 0, none⟩) 2 c6, .int .i64 c]) (by simp [results, Tryz.results8, go_sem, r0, r1]) rfl ⟨_, rfl, by rw [← HI3.out]; exact ⟨g6, c6, rfl, lk_put hl6.out HG6.out _ _⟩, below_put HB6.out _ _⟩
    · have iI : ¬ ((i : Int) < (n : Int)) := by omega
      have HI3 : Hid (none = R) := by
        have := HI.out
        rw [List.drop_eq_nil_of_le (by have := HL.out; omega)] at this
        exact this
      clear HI
      go_wp2_with (go_at_call 19; refine Stop.mk ?_)
      refine Stop.out ((Tb.none_any _).mono ?_)
      rintro e W9 ⟨rfl, hb9⟩
      have HV9 : Hid (VI w W9 F ao T) := HV.out.on hb9
      obtain ⟨r0, r1, rf⟩ := HV9.out.r
      clear hb9 HV
      go_wp2
      refine bodyPost_ret (v := .agg #[.slice none 0 0, .int .i64 0]) (by simp [results, Tryz.results8, go_sem, r0, r1]) rfl ⟨_, rfl, by rw [← HI3.out]; rfl, below_put HV9.out.b _ _⟩
theorem rvalid_any (w : World) (v : Int) (s : ByteArray) : Calls Tryz.prog 8 #[.int .i64 v, .string s] w (CkD w (vdO v s)) := by
  unfold vdO
  rcases bd_cases v s with ⟨h, _, hs⟩ | ⟨a, c, h, hc⟩
  · rw [h]; exact rvalid_good w v s h hs
  · rw [h]; exact rvalid_bad w v s a c h hc
end Go.Proofs.YteglammdigmmfaaGreatDoor.Ck
