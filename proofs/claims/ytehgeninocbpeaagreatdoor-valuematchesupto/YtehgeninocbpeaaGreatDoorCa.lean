import Derived.Test.YtehgeninocbpeaaGreatDoorQG
import Derived.Test.YtehgeninocbpeaaGreatDoorWa
import Derived.Test.YtehgeninocbpeaaGreatDoorGO
import Derived.Deep.RegionWith
import Derived.Deep.RegionHeld3
import Derived.Deep.Cut
namespace Go.Proofs.YtehgeninocbpeaaGreatDoor.Tm
open Go Go.Proofs Go.RowKit
set_option maxRecDepth 100000 in
set_option maxHeartbeats 2000000 in
theorem indexFunc63 (W : World) (g cap : Nat) (xs : List ByteArray) (hn : xs.length ≤ 1000000000000) (cells : ∀ i (h : i < xs.length), W.cell? ⟨g, i, none⟩ = some (.string xs[i])) (p0 : Nat) (m : ByteArray → Bool)
    (hc : ∀ W', Below W.heap.size W W' → ∀ u ∈ xs, Calls Tryz.prog 63 #[.string u, ptr p0] W' (BoolP W' (m u))) :
    Calls Tryz.prog 47 #[.slice (some ⟨g, 0, none⟩) xs.length cap, .func (.func 63) #[] #[ptr p0]] W fun e w' => e = .returned (.int .i64 (fdx m xs 0)) ∧ Below W.heap.size W w' := by
  unfold ptr at hc ⊢
  obtain ⟨R, hR⟩ : ∃ R, fdx m xs 0 = R := ⟨_, rfl⟩
  have HR : Hid (fdx m (xs.drop 0) 0 = R) := hR
  rw [hR]
  obtain ⟨n, hl⟩ : ∃ n, xs.length = n := ⟨_, rfl⟩
  have HL : Hid (xs.length = n) := hl
  have HCe : Hid (∀ i (h : i < xs.length), W.cell? ⟨g, i, none⟩ = some (.string xs[i])) := cells
  have HC : Hid _ := hc
  rw [hl] at hn ⊢
  clear hR cells hc hl
  go_enter Tryz.func47, Tryz.ntmps47
  go_wp2
  go_loopg [8] n (fun k s8 wx => ∃ i : Nat, s8 = .int .i64 (i : Int) ∧ i ≤ n ∧ k + i = n ∧ Hid (fdx m (xs.drop i) i = R) ∧ Hid (Below W.heap.size W wx))
  case atStart => exact ⟨0, rfl, by omega, by omega, HR, Below.refl _ _⟩
  case round =>
    obtain ⟨i, rfl, hi, hg, HI, HB⟩ := hrel
    by_cases hlt : i < n
    · have hlx : i < xs.length := by have := HL.out; omega
      obtain ⟨u, hu⟩ : ∃ u, xs[i] = u := ⟨_, rfl⟩
      have cl : wr.cell? ⟨g, i, none⟩ = some (.string u) := by
        have h0 := HCe.out i hlx
        rw [hu] at h0
        exact (HB.out.cell (cell_lt h0)).trans h0
      have c := HC.out wr HB.out u (by rw [← hu]; exact List.getElem_mem hlx)
      have HI2 : Hid ((if m u = true then (i : Int) else fdx m (xs.drop (i + 1)) (i + 1)) = R) := by
        have := HI.out
        rw [List.drop_eq_getElem_cons hlx, fdx, hu] at this
        exact this
      clear HI hlx hu
      cases hm : m u with
      | true =>
        rw [hm] at c
        have e : Hid ((i : Int) = R) := by have := HI2.out; rw [if_pos hm] at this; exact this
        clear HI2 hm
        go_wp2_with (go_at_call 63; refine Stop.mk ?_)
        refine Stop.out (c.mono ?_)
        rintro e2 W2 ⟨rfl, hb2⟩
        have HB2 : Hid (Below W.heap.size W W2) := HB.out.trans (hb2.mono HB.out.size)
        clear hb2 c
        go_wp2
        go_ret
        exact ⟨by rw [← e.out]; rfl, HB2.out⟩
      | false =>
        rw [hm] at c
        have HI3 : Hid (fdx m (xs.drop (i + 1)) (i + 1) = R) := by have := HI2.out; rw [if_neg (by rw [hm]; simp)] at this; exact this
        clear HI2 hm
        go_wp2_with (go_at_call 63; refine Stop.mk ?_)
        refine Stop.out (c.mono ?_)
        rintro e2 W2 ⟨rfl, hb2⟩
        have HB2 : Hid (Below W.heap.size W W2) := HB.out.trans (hb2.mono HB.out.size)
        clear hb2 c
        go_wp2
        go_roundg (n - (i + 1))
        case measure => omega
        case rel => exact ⟨i + 1, by simp, by omega, by omega, HI3, HB2⟩
    · have e : Hid ((-1 : Int) = R) := by
        have := HI.out
        rw [List.drop_eq_nil_of_le (by have := HL.out; omega), fdx] at this
        exact this
      clear HI
      go_wp2
      go_ret
      exact ⟨by rw [← e.out]; rfl, HB.out⟩
set_option maxRecDepth 100000 in
theorem contains63 (W : World) (g cap : Nat) (xs : List ByteArray) (hn : xs.length ≤ 1000000000000) (cells : ∀ i (h : i < xs.length), W.cell? ⟨g, i, none⟩ = some (.string xs[i])) (p0 : Nat) (m : ByteArray → Bool)
    (hc : ∀ W', Below W.heap.size W W' → ∀ u ∈ xs, Calls Tryz.prog 63 #[.string u, ptr p0] W' (BoolP W' (m u))) :
    Calls Tryz.prog 19 #[.slice (some ⟨g, 0, none⟩) xs.length cap, .func (.func 63) #[] #[ptr p0]] W (BoolP W (xs.any m)) := by
  have c := indexFunc63 W g cap xs hn cells p0 m hc
  have e := fdx_any m xs 0
  have b := fdx_le m xs 0
  rw [← e]
  generalize fdx m xs 0 = R at *
  clear hc cells e
  generalize xs.length = n at *
  unfold ptr at c ⊢
  go_enter Tryz.func19, Tryz.ntmps19
  go_wp2_with (go_at_call 47; refine Stop.mk ?_)
  refine Stop.out (c.mono ?_)
  rintro e W1 ⟨rfl, hb⟩
  go_wp2
  go_ret
  exact ⟨rfl, hb⟩
theorem seB_size (v : ByteArray) : ∀ u ∈ Se.spB v, u.size ≤ v.size := by
  have key : ∀ l : List UInt8, ∀ x ∈ Se.spL l, x.length ≤ l.length := by
    intro l
    induction l with
    | nil => intro x hx; rw [Se.spL] at hx; rw [List.mem_singleton.1 hx]; exact Nat.le_refl _
    | cons b l ih =>
      intro x hx
      rw [Se.spL] at hx
      split at hx
      · rcases List.mem_cons.1 hx with rfl | hx
        · exact Nat.zero_le _
        · have := ih x hx
          rw [List.length_cons]; omega
      · cases hs : Se.spL l with
        | nil => exact absurd hs (Se.spL_ne l)
        | cons a t =>
          rw [hs] at hx ih
          rcases List.mem_cons.1 hx with rfl | hx
          · have := ih a (by simp)
            rw [List.length_cons, List.length_cons]; omega
          · have := ih x (List.mem_cons_of_mem _ hx)
            rw [List.length_cons]; omega
  intro u hu
  unfold Se.spB Se.bsL at hu
  obtain ⟨x, hx, rfl⟩ := List.mem_map.1 hu
  have := key _ x hx
  rw [Array.length_toList] at this
  show x.toArray.size ≤ _
  rw [List.size_toArray]
  exact this
def foldB (s : ByteArray) : ByteArray := ⟨(Gl.fol s s.size).toArray⟩
def grp (s : ByteArray) : List ByteArray := Se.spB (Sp.trimE (foldB s))
theorem foldB_size (s : ByteArray) : (foldB s).size = s.size := by
  show (Gl.fol s s.size).toArray.size = _
  rw [List.size_toArray, Gl.fol_len]
theorem trimE_size (s : ByteArray) : (Sp.trimE s).size ≤ s.size := by
  show (Lib.trimRightS s.data.toList [94, 61]).toArray.size ≤ _
  rw [List.size_toArray]
  unfold Lib.trimRightS
  rw [List.length_reverse]
  have := (List.dropWhile_sublist (([94, 61] : List UInt8).contains ·) (l := s.data.toList.reverse)).length_le
  rw [List.length_reverse, Array.length_toList] at this
  exact this
theorem grp_size (s : ByteArray) : ∀ u ∈ grp s, u.size ≤ s.size := fun u hu => by
  have h1 := seB_size _ u hu
  have h2 := trimE_size (foldB s)
  have h3 := foldB_size s
  omega
theorem grp_len (s : ByteArray) : (grp s).length ≤ s.size + 1 := by
  have h1 := Se.spB_len (Sp.trimE (foldB s))
  have h2 := trimE_size (foldB s)
  have h3 := foldB_size s
  unfold grp
  omega
def GrP (w : World) (xs : List ByteArray) : Ending → World → Prop := fun e w' => ∃ g, e = .returned (.slice (some ⟨g, 0, none⟩) xs.length xs.length) ∧ (∀ i (h : i < xs.length), w'.cell? ⟨g, i, none⟩ = some (.string xs[i])) ∧ Below w.heap.size w w'
theorem groupsOf_any (w : World) (s : ByteArray) (hs : s.size ≤ 2097152) : Calls Tryz.prog 62 #[.string s] w (GrP w (grp s)) := by
  have cF := Gl.fold_any w s hs
  change Calls Tryz.prog 98 _ _ (fun e w' => e = .returned (.string (foldB s)) ∧ Below w.heap.size w w') at cF
  have cT := fun W => Sp.str_trim (foldB s) W (by rw [foldB_size]; omega)
  have cS := fun W => Se.str_split (Sp.trimE (foldB s)) W (by have h2 := trimE_size (foldB s); have h3 := foldB_size s; omega)
  unfold grp
  generalize Sp.trimE (foldB s) = T at *
  generalize foldB s = F at *
  generalize Se.spB T = xs at *
  go_enter Tryz.func62, Tryz.ntmps62
  go_wp2_with (go_at_call 98; refine Stop.mk ?_)
  refine Stop.out (cF.mono ?_)
  rintro e W1 ⟨rfl, hb1⟩
  go_wp2_with (go_at_call 97; refine Stop.mk ?_)
  refine Stop.out ((cT W1).mono ?_)
  rintro e W2 ⟨rfl, hb2⟩
  go_wp2_with (go_at_call 20; refine Stop.mk ?_)
  refine Stop.out ((cS W2).mono ?_)
  rintro e W3 ⟨rfl, hw3⟩
  have hb3 : Below W2.heap.size W2 W3 := hw3 ▸ (Below.refl _ _).alloc (Nat.le_refl _) _
  have hb12 := hb1.trans (hb2.mono hb1.size)
  have hb := hb12.trans (hb3.mono hb12.size)
  have hc := cells_of hw3
  have HP : Hid (GrP w xs (.returned (.slice (some ⟨W2.heap.size, 0, none⟩) xs.length xs.length)) W3) := ⟨_, rfl, hc, hb⟩
  clear hc hb hb12 hb3 hw3 cS cT cF hb1 hb2
  generalize xs.length = n at *
  go_wp2
  go_ret
  exact HP.out
theorem some_any (W : World) (pat : ByteArray) (hp : pat.size ≤ 2097152) (g cap : Nat) (xs : List ByteArray) (hn : xs.length ≤ 1000000000000) (cells : ∀ i (h : i < xs.length), W.cell? ⟨g, i, none⟩ = some (.string xs[i])) (hx : ∀ u ∈ xs, u.size ≤ 2097152) :
    Calls Tryz.prog 64 #[.string pat, .slice (some ⟨g, 0, none⟩) xs.length cap] W (BoolP W (decide (pat.size = 0) || xs.any (fits pat))) := by
  obtain ⟨W0, hW0⟩ : ∃ W0, W.alloc (.cells #[.string pat] 9) = W0 := ⟨_, rfl⟩
  have hb0 : Below W.heap.size W W0 := hW0 ▸ (Below.refl _ _).alloc (Nat.le_refl _) _
  have c0 : W0.cell? ⟨W.heap.size, 0, none⟩ = some (.string pat) := by rw [← hW0]; simp
  have cells0 : ∀ i (h : i < xs.length), W0.cell? ⟨g, i, none⟩ = some (.string xs[i]) := fun i h => (hb0.cell (cell_lt (cells i h))).trans (cells i h)
  have cc := contains99 W0 g cap xs hn cells0 W.heap.size (fits pat) (fun W' hb u hu => clos99 W' _ pat u ((hb.cell (cell_lt c0)).trans c0) hp (hx u hu))
  clear cells0 cells hx
  by_cases h0 : pat.size = 0
  · obtain rfl : pat = ⟨#[]⟩ := ByteArray.ext (Array.eq_empty_of_size_eq_zero h0)
    rw [decide_eq_true h0, Bool.true_or]
    have HB : Hid (Below W.heap.size W W0) := hb0
    clear cc hb0 hn
    generalize xs.length = n at *
    go_enter Tryz.func64, Tryz.ntmps64
    go_wp2
    go_ret
    exact ⟨rfl, HB.out⟩
  · have hke := text_some h0
    rw [decide_eq_false h0, Bool.false_or]
    have HB : Hid (Below W.heap.size W W0) := hb0
    clear hb0 hn h0
    generalize xs.any (fits pat) = Z at *
    generalize xs.length = n at *
    unfold ptr at cc
    go_enter Tryz.func64, Tryz.ntmps64
    go_wp2_with (go_at_call 19; refine Stop.mk ?_)
    refine Stop.out (cc.mono ?_)
    rintro e W1 ⟨rfl, hb⟩
    have HB1 : Hid (Below W.heap.size W W1) := HB.out.trans (hb.mono HB.out.size)
    clear hb HB cc
    go_wp2
    go_ret
    exact ⟨rfl, HB1.out⟩
end Go.Proofs.YtehgeninocbpeaaGreatDoor.Tm

namespace Go.Proofs.YtehgeninocbpeaaGreatDoor.Tm
open Go Go.Proofs Go.RowKit
structure Nk (W : World) (p ga : Nat) (a : ByteArray) : Prop where
  p : W.cell? ⟨p, 0, none⟩ = some (.slice (some ⟨ga, 0, none⟩) 1 1)
  a : W.cell? ⟨ga, 0, none⟩ = some (.string a)
theorem Nk.on {W W' : World} {p ga : Nat} {a : ByteArray} (h : Nk W p ga a) {k : Nat} (hk : W.heap.size ≤ k) (hb : Below k W W') : Nk W' p ga a := ⟨(hb.cell (Nat.lt_of_lt_of_le (cell_lt h.p) hk)).trans h.p, (hb.cell (Nat.lt_of_lt_of_le (cell_lt h.a) hk)).trans h.a⟩
set_option maxRecDepth 100000 in
set_option maxHeartbeats 2000000 in
theorem clos63 (W : World) (p ga : Nat) (a u : ByteArray) (hK : Nk W p ga a) (has : a.size ≤ 2097152) (hu : u.size ≤ 2097152) : Calls Tryz.prog 63 #[.string u, ptr p] W (BoolP W (decide (a.size = 0) || (grp u).any (fits a))) := by
  have cG := fun W => groupsOf_any W u hu
  have hlen := grp_len u
  have hgs := grp_size u
  generalize grp u = xs at *
  have cI := fun W g cells => some_any W a has g xs.length xs (by omega) cells (fun v hv => by have := hgs v hv; omega)
  obtain ⟨Z, hZ⟩ : ∃ Z, (decide (a.size = 0) || xs.any (fits a)) = Z := ⟨_, rfl⟩
  rw [hZ] at cI ⊢
  clear hZ hgs has hu
  unfold ptr
  go_enter Tryz.func63, Tryz.ntmps63
  go_upto_region 1 with fail
  have hB : Nk W.drew p ga a := ⟨hK.p, hK.a⟩
  have hW : Below W.heap.size W W.drew := (Below.refl _ _).drew
  go_region_held3 (fun w' => w'.cell? ⟨p, 0, none⟩ = some (.slice (some ⟨ga, 0, none⟩) 1 1) ∧ w'.cell? ⟨ga, 0, none⟩ = some (.string a)) (exact ⟨hB.p, hB.a⟩) (first | (go_at_call 62; refine (cG _).mono ?_; rintro e W9 ⟨g9, rfl, cells9, hb9⟩; replace hB := hB.on (Nat.le_refl _) hb9; replace hW := hW.trans (hb9.mono hW.size)) | (go_at_call 64; refine (cI _ _ cells9).mono ?_; rintro e W8 ⟨rfl, hb8⟩; replace hB := hB.on (Nat.le_refl _) hb8; replace hW := hW.trans (hb8.mono hW.size)) | fail)
  all_goals
    go_wp2
    go_ret
    exact ⟨rfl, hW⟩
theorem nameM_one (w : World) (key a : ByteArray) (hs : key.size ≤ 2097152) (hg : grp key = [a]) : Calls Tryz.prog 37 #[.string key] w fun e w' => ∃ p ga, e = .returned (.func (.func 63) #[] #[ptr p]) ∧ Nk w' p ga a ∧ Below w.heap.size w w' := by
  have cG := groupsOf_any w key hs
  rw [hg] at cG
  clear hg
  go_enter Tryz.func37, Tryz.ntmps37
  go_wp2_with (go_at_call 62; refine Stop.mk ?_)
  refine Stop.out (cG.mono ?_)
  rintro e W1 ⟨g, rfl, cells, hb1⟩
  have h0 : W1.cell? ⟨g, 0, none⟩ = some (.string a) := cells 0 (by simp)
  have hlt := cell_lt h0
  have hlen : ([a] : List ByteArray).length = 1 := rfl
  rw [hlen]
  clear cells cG hlen
  go_wp2
  have hb2 : Below W1.heap.size W1 (W1.alloc (.cells #[.slice (some ⟨g, 0, none⟩) 1 1] 48)) := (Below.refl _ _).alloc (Nat.le_refl _) _
  go_ret
  exact ⟨_, _, rfl, ⟨by simp, (hb2.cell hlt).trans h0⟩, hb1.trans (hb2.mono hb1.size)⟩
theorem matcher_name (w : World) (vr : Int) (hv : rB vr = 2) (key a : ByteArray) (hs : key.size ≤ 2097152) (hk0 : key.size ≠ 0) (hg : grp key = [a]) (hR : Rt w) : Calls Tryz.prog 17 #[.int .i64 vr, .string key] w fun e w' => ∃ p ga, e = .returned (.tuple #[.func (.func 63) #[] #[ptr p], .nilIface]) ∧ Nk w' p ga a ∧ Below w.heap.size w w' := by
  obtain ⟨W0, hW0⟩ : ∃ W0, w.alloc (.cells #[.string key] 9) = W0 := ⟨_, rfl⟩
  have hb0 : Below w.heap.size w W0 := hW0 ▸ (Below.refl _ _).alloc (Nat.le_refl _) _
  have c0 : W0.cell? ⟨w.heap.size, 0, none⟩ = some (.string key) := by rw [← hW0]; simp
  have cR := ruleOf_any W0 vr (hR.on hb0)
  rw [hv] at cR
  have cN := fun W => nameM_one W key a hs hg
  have HB : Hid (Below w.heap.size w W0) := hb0
  have hke := text_some hk0
  clear hR hb0 hk0 hv hg
  go_enter Tryz.func17, Tryz.ntmps17
  go_wp2_with (go_at_call 18; refine Stop.mk ?_)
  refine Stop.out (cR.mono ?_)
  rintro e W1 ⟨rfl, hb⟩
  have hf := field0 W1 2 (rC vr)
  have c1 : W1.cell? ⟨w.heap.size, 0, none⟩ = some (.string key) := (hb.cell (cell_lt c0)).trans c0
  have HB1 : Hid (Below w.heap.size w W1) := HB.out.trans (hb.mono HB.out.size)
  clear cR hb HB c0 hW0
  go_wp2_with (go_at_call 37; refine Stop.mk ?_)
  refine Stop.out ((cN W1).mono ?_)
  rintro e W2 ⟨p, ga, rfl, hK, hb2⟩
  have HB2 : Hid (Below w.heap.size w W2) := HB1.out.trans (hb2.mono HB1.out.size)
  have HK : Hid (Nk W2 p ga a) := hK
  clear hb2 HB1 cN hK
  unfold ptr
  go_wp2
  refine bodyPost_ret (v := .tuple #[.func (.func 63) #[] #[ptr p], .nilIface]) (by simp [results, Tryz.results17, go_sem, ptr]) rfl ⟨_, _, rfl, HK.out, HB2.out⟩
end Go.Proofs.YtehgeninocbpeaaGreatDoor.Tm

namespace Go.Proofs.YtehgeninocbpeaaGreatDoor.Cu
open Go Go.Proofs Go.RowKit
def Stop (p : Prop) : Prop := p
theorem Stop.mk {p : Prop} (h : Stop p) : p := h
theorem Stop.out {p : Prop} (h : p) : Stop p := h
theorem get_get! (s : ByteArray) (pos : Nat) (h : pos < s.size) : s[pos] = s.get! pos := by
  simp [ByteArray.get!, getElem!_pos, h]
  rfl
def fe (s : ByteArray) (c : Nat) : Nat → Nat → Nat
  | 0, p => p
  | f + 1, p => if p < s.size then (if (s.get! p).toNat = c then p else fe s c f (p + 1)) else p
theorem fe_ge (s : ByteArray) (c : Nat) : ∀ f p, p ≤ fe s c f p
  | 0, p => Nat.le_refl _
  | f + 1, p => by
    rw [fe]
    split
    · split
      · exact Nat.le_refl _
      · have := fe_ge s c f (p + 1); omega
    · exact Nat.le_refl _
theorem fe_le (s : ByteArray) (c : Nat) : ∀ f p, p ≤ s.size → fe s c f p ≤ s.size
  | 0, p, h => h
  | f + 1, p, h => by
    rw [fe]
    split
    · split
      · exact h
      · exact fe_le s c f (p + 1) (by omega)
    · exact h
def fx (s : ByteArray) (c p : Nat) : Nat := fe s c (s.size - p) p
theorem fx_ge (s : ByteArray) (c p : Nat) : p ≤ fx s c p := fe_ge _ _ _ _
theorem fx_le (s : ByteArray) (c p : Nat) (h : p ≤ s.size) : fx s c p ≤ s.size := fe_le _ _ _ _ h
theorem fx_step (s : ByteArray) (c p : Nat) : fx s c p = if p < s.size then (if (s.get! p).toNat = c then p else fx s c (p + 1)) else p := by
  unfold fx
  by_cases h : p < s.size
  · rw [if_pos h, show s.size - p = (s.size - (p + 1)) + 1 by omega, fe, if_pos h]
  · rw [if_neg h, show s.size - p = 0 by omega, fe]
theorem fx_is (s : ByteArray) (c : Nat) : ∀ (n p k : Nat), n = k - p → p ≤ k → k ≤ s.size → (∀ j, p ≤ j → j < k → (s.get! j).toNat ≠ c) → (k < s.size → (s.get! k).toNat = c) → fx s c p = k
  | 0, p, k, hn, hp, hk, _, hc => by
    obtain rfl : p = k := by omega
    rw [fx_step]
    split
    · rename_i h; rw [if_pos (hc h)]
    · rfl
  | n + 1, p, k, hn, hp, hk, hj, hc => by
    rw [fx_step, if_pos (by omega), if_neg (hj p (Nat.le_refl _) (by omega))]
    exact fx_is s c n (p + 1) k (by omega) (by omega) hk (fun j h1 h2 => hj j (by omega) h2) hc
theorem fx_no (s : ByteArray) (c : Nat) : ∀ (n p : Nat), n = s.size - p → ∀ j, p ≤ j → j < fx s c p → (s.get! j).toNat ≠ c
  | 0, p, hn, j, h1, h2 => by
    rw [fx_step, if_neg (by omega)] at h2
    omega
  | n + 1, p, hn, j, h1, h2 => by
    rw [fx_step, if_pos (by omega)] at h2
    split at h2
    · omega
    · rename_i hc
      by_cases hj : j = p
      · subst hj; exact hc
      · exact fx_no s c n (p + 1) (by omega) j (by omega) h2
def cuts (s : ByteArray) (c : Nat) : Nat → Nat → List ByteArray
  | 0, p => [s.extract p s.size]
  | f + 1, p => if fx s c p < s.size then s.extract p (fx s c p) :: cuts s c f (fx s c p + 1) else [s.extract p s.size]
theorem cuts_fuel (s : ByteArray) (c : Nat) : ∀ f g p, s.size ≤ p + f → s.size ≤ p + g → cuts s c f p = cuts s c g p
  | 0, 0, p, _, _ => rfl
  | 0, g + 1, p, h, _ => by
    have := fx_ge s c p
    rw [cuts, cuts, if_neg (by omega)]
  | f + 1, 0, p, _, h => by
    have := fx_ge s c p
    rw [cuts, cuts, if_neg (by omega)]
  | f + 1, g + 1, p, h1, h2 => by
    have := fx_ge s c p
    rw [cuts, cuts]
    split
    · rw [cuts_fuel s c f g _ (by omega) (by omega)]
    · rfl
def cx (s : ByteArray) (c p : Nat) : List ByteArray := cuts s c (s.size - p) p
theorem cx_more (s : ByteArray) (c p : Nat) (h : fx s c p < s.size) : cx s c p = s.extract p (fx s c p) :: cx s c (fx s c p + 1) := by
  have hg := fx_ge s c p
  unfold cx
  rw [show s.size - p = (s.size - (p + 1)) + 1 by omega, cuts, if_pos h, cuts_fuel s c (s.size - (p + 1)) (s.size - (fx s c p + 1)) _ (by omega) (by omega)]
theorem cx_last (s : ByteArray) (c p : Nat) (h : ¬ fx s c p < s.size) : cx s c p = [s.extract p s.size] := by
  unfold cx
  cases hn : s.size - p with
  | zero => rfl
  | succ n => rw [cuts, if_neg h]
theorem fx_at (s : ByteArray) (c : Nat) : ∀ (n p : Nat), n = s.size - p → fx s c p < s.size → (s.get! (fx s c p)).toNat = c
  | 0, p, hn, h => by
    have := fx_ge s c p
    omega
  | n + 1, p, hn, h => by
    have hp : p < s.size := by omega
    rw [fx_step, if_pos hp] at h ⊢
    by_cases hc : (s.get! p).toNat = c
    · rw [if_pos hc]; exact hc
    · rw [if_neg hc] at h ⊢
      exact fx_at s c n (p + 1) (by omega) h
theorem cx_ne (s : ByteArray) (c p : Nat) : cx s c p ≠ [] := by
  by_cases h : fx s c p < s.size
  · rw [cx_more s c p h]; simp
  · rw [cx_last s c p h]; simp
def sp (c : UInt8) : List UInt8 → List (List UInt8)
  | [] => [[]]
  | b :: l => if b = c then [] :: sp c l else (b :: (sp c l).headD []) :: (sp c l).tail
theorem sp_none (c : UInt8) : ∀ x : List UInt8, c ∉ x → sp c x = [x]
  | [], _ => rfl
  | b :: l, h => by
    have hb : b ≠ c := fun e => h (by simp [e])
    rw [sp, if_neg hb, sp_none c l (fun e => h (List.mem_cons_of_mem _ e))]
    rfl
theorem sp_app (c : UInt8) : ∀ x l : List UInt8, c ∉ x → sp c (x ++ c :: l) = x :: sp c l
  | [], l, _ => by rw [List.nil_append, sp, if_pos rfl]
  | b :: x, l, h => by
    have hb : b ≠ c := fun e => h (by simp [e])
    rw [List.cons_append, sp, if_neg hb, sp_app c x l (fun e => h (List.mem_cons_of_mem _ e))]
    rfl
def BA (l : List UInt8) : ByteArray := ⟨l.toArray⟩
theorem BA_list (l : List UInt8) : (BA l).data.toList = l := by unfold BA; simp
theorem BA_of (x : ByteArray) : BA x.data.toList = x := by cases x; rfl
theorem get_l (s : ByteArray) (k : Nat) (h : k < s.size) : s.data.toList[k]? = some (s.get! k) := by
  rw [← get_get! s k h]
  show s.data.toList[k]? = some s.data[k]
  rw [Array.getElem?_toList, Array.getElem?_eq_getElem]
theorem ext_l (s : ByteArray) (a b : Nat) : (s.extract a b).data.toList = (s.data.toList.drop a).take (b - a) := by
  rw [ByteArray.data_extract, Array.toList_extract]
theorem drop_at (s : ByteArray) (p k : Nat) (hp : p ≤ k) (hk : k < s.size) : s.data.toList.drop p = (s.extract p k).data.toList ++ s.get! k :: s.data.toList.drop (k + 1) := by
  have h1 : k < s.data.toList.length := by rw [Array.length_toList]; exact hk
  have h2 : s.data.toList.drop k = s.get! k :: s.data.toList.drop (k + 1) := by
    rw [List.drop_eq_getElem_cons h1]
    congr 1
    have := get_l s k hk
    rw [List.getElem?_eq_getElem h1] at this
    exact Option.some.inj this
  rw [ext_l, ← h2]
  have h3 := List.take_append_drop (k - p) (s.data.toList.drop p)
  rw [List.drop_drop, show p + (k - p) = k by omega] at h3
  exact h3.symm
theorem not_in (s : ByteArray) (c : UInt8) (p k : Nat) (hk : k ≤ s.size) (h : ∀ j, p ≤ j → j < k → (s.get! j).toNat ≠ c.toNat) : c ∉ (s.extract p k).data.toList := by
  intro hc
  rw [ext_l] at hc
  obtain ⟨i, hi⟩ := List.getElem?_of_mem hc
  have hlt : i < k - p := by
    have := (List.getElem?_eq_some_iff.1 hi).1
    rw [List.length_take] at this
    omega
  rw [List.getElem?_take, if_pos hlt, List.getElem?_drop, get_l s (p + i) (by omega)] at hi
  exact h (p + i) (by omega) (by omega) (by rw [Option.some.inj hi])
theorem ext_end (s : ByteArray) (p : Nat) : s.extract p s.size = BA (s.data.toList.drop p) := by
  rw [← BA_of (s.extract p s.size), ext_l, List.take_of_length_le (by rw [List.length_drop, Array.length_toList]; exact Nat.le_refl _)]
theorem cx_sp (s : ByteArray) (c : UInt8) : ∀ (n p : Nat), n = s.size - p → p ≤ s.size → cx s c.toNat p = (sp c (s.data.toList.drop p)).map BA := by
  intro n
  induction n using Nat.strongRecOn with
  | _ n ih =>
    intro p hn hp
    have hno := fx_no s c.toNat n p hn
    have hge := fx_ge s c.toNat p
    by_cases h : fx s c.toNat p < s.size
    · have hat := fx_at s c.toNat n p hn h
      rw [cx_more s _ p h, ih (s.size - (fx s c.toNat p + 1)) (by omega) _ rfl (by omega), drop_at s p _ hge h]
      have hc : s.get! (fx s c.toNat p) = c := UInt8.toNat_inj.1 hat
      rw [hc, sp_app c _ _ (not_in s c p _ (by omega) hno), List.map_cons, BA_of]
    · have hle := fx_le s c.toNat p hp
      have he : fx s c.toNat p = s.size := by omega
      rw [cx_last s _ p h, ext_end s p]
      have := not_in s c p s.size (Nat.le_refl _) (by rw [he] at hno; exact hno)
      rw [ext_end, BA_list] at this
      rw [sp_none c _ this]
      rfl
theorem sp_92 : ∀ l : List UInt8, sp 92 l = Sp.spL l
  | [] => rfl
  | b :: l => by
    have h := sp_92 l
    have hn := Sp.spL_ne l
    rw [sp, Sp.spL, h]
    split
    · rfl
    · cases hs : Sp.spL l with
      | nil => exact absurd hs hn
      | cons a t => rfl
theorem sp_61 : ∀ l : List UInt8, sp 61 l = Se.spL l
  | [] => rfl
  | b :: l => by
    have h := sp_61 l
    have hn := Se.spL_ne l
    rw [sp, Se.spL, h]
    split
    · rfl
    · cases hs : Se.spL l with
      | nil => exact absurd hs hn
      | cons a t => rfl
theorem cx_92 (s : ByteArray) : cx s 92 0 = Sp.spB s := by
  have := cx_sp s 92 _ 0 rfl (Nat.zero_le _)
  rw [show (92 : UInt8).toNat = 92 from rfl] at this
  rw [this, sp_92]
  rfl
theorem cx_61 (s : ByteArray) : cx s 61 0 = Se.spB s := by
  have := cx_sp s 61 _ 0 rfl (Nat.zero_le _)
  rw [show (61 : UInt8).toNat = 61 from rfl] at this
  rw [this, sp_61]
  rfl
def strC (l : List ByteArray) : List Value := l.map .string
theorem strC_one (l : List ByteArray) : ∀ u ∈ strC l, u.oneCell' = true := by
  intro u hu
  obtain ⟨x, _, rfl⟩ := List.mem_map.1 hu
  rfl
theorem strC_append (l r : List ByteArray) : strC (l ++ r) = strC l ++ strC r := List.map_append
theorem strInfo : (Tryz.prog.info? 9).map (fun i => (i.zero, i.size, i.bytes)) = some (some (.string ⟨#[]⟩), 1, 16) := by kernel_rfl
set_option maxRecDepth 100000 in
set_option maxHeartbeats 2000000 in
theorem cut12_any (w : World) (s : ByteArray) (hs : s.size ≤ 2097152) (c : Nat) :
    Calls Tryz.prog 29 #[.string s, .int .u8 (c : Int)] w fun e w' => ∃ v, e = .returned v ∧ w'.ownsRow w.heap.size 9 1 v (cx s c 0).length (strC (cx s c 0)) ∧ Below w.heap.size w w' := by
  obtain ⟨i0, hi, hz0, hz1, hz2⟩ := info_parts strInfo
  obtain ⟨B, hB⟩ : ∃ B, w.heap.size = B := ⟨_, rfl⟩
  have HE : Hid ([] ++ cx s c 0 = cx s c 0) := rfl
  generalize hEE : cx s c 0 = E at HE ⊢
  rw [hB]
  have HE0 : Hid ([] ++ cx s c 0 = E) := by show _ = _; rw [hEE]; rfl
  clear hEE HE
  go_enter Tryz.func29, Tryz.ntmps29
  go_wp2
  go_loopg [5, 6, 7] s.size (fun g u s6 s7 wr => ∃ (i fr : Nat) (acc : List ByteArray), s6 = .int .i64 (fr : Int) ∧ s7 = .int .i64 (i : Int) ∧ g + i = s.size ∧ fr ≤ i ∧ Hid (wr.ownsRow B 9 1 u acc.length (strC acc)) ∧ Hid (Below B w wr) ∧ Hid (acc ++ cx s c fr = E) ∧ Hid (∀ j, fr ≤ j → j < i → (s.get! j).toNat ≠ c) ∧ acc.length ≤ i)
  case atStart => exact ⟨0, 0, [], rfl, rfl, by omega, by omega, World.ownsRow_nil _ _ _ _, by rw [← hB]; exact Below.refl _ _, HE0, fun j _ h => absurd h (Nat.not_lt_zero _), by show 0 ≤ 0; omega⟩
  case round =>
    clear HE0
    obtain ⟨i, fr, acc, rfl, rfl, hg, hfi, HO, HBw, HA, HJ, hal⟩ := hrel
    have hBs : B ≤ wr.heap.size := by rw [← hB]; exact HBw.out.size
    have h63 : acc.length + 1 ≤ maxLen := by unfold maxLen; omega
    have hby : (acc.length + 1) * 16 ≤ 140737488355328 := by omega
    by_cases hp : i < s.size
    · have hpI : (i : Int) < (s.size : Int) := by omega
      obtain ⟨b, hb⟩ : ∃ b, s[i].toNat = b := ⟨_, rfl⟩
      have hgb : (s.get! i).toNat = b := by rw [← get_get! s i hp, hb]
      by_cases hbc : b = c
      · have ebc : ((b : Int) == (c : Int)) = true := by rw [hbc]; simp
        have hfx : fx s c fr = i := fx_is s c _ fr i rfl hfi (by omega) (fun j h1 h2 => HJ.out j h1 h2) (fun _ => by rw [hgb]; exact hbc)
        have HA2 : Hid ((acc ++ [s.extract fr i]) ++ cx s c (i + 1) = E) := by
          have h1 := HA.out
          rw [cx_more s c fr (by omega), hfx] at h1
          show _ = _
          rw [List.append_assoc]
          exact h1
        obtain ⟨x, hx⟩ : ∃ x, s.extract fr i = x := ⟨_, rfl⟩
        rw [hx] at HA2
        have hb2 : B ≤ (wr.alloc (.cells #[.string x] 9)).heap.size := by simp; omega
        have b1 : (fr : Int) ≤ (i : Int) := by omega
        have b2 : (i : Int) ≤ (s.size : Int) := by omega
        clear HA HJ hfx hgb hbc
        go_wp2_with (at_builtin; refine Stop.mk ?_)
        refine Stop.out ?_
        refine (wpList_append_lies _ rfl (.tmp 19) (.tmp 24) 48 rfl B 9 i0 _ 1 16 Tryz.underlying48 hi hz0 hz1 hz2 rfl (by decide) u5 acc.length (strC acc) rfl (HO.out.alloc _) ⟨wr.heap.size, 0, none⟩ 1 1 [.string x] rfl rfl (World.news_of_block (heap_alloc_new wr _)) (strC_one [x]) (by decide) h63 hby hb2 _ rfl ?_)
        intro g4 cap4 W4 hown4 hgrow4 _ _
        have HB4 : Hid (Below B w W4) := (HBw.out.alloc hBs _).grown hgrow4 (by simp; omega) (fun k hk => (HO.out.lt k hk).1)
        have HO4 : Hid (W4.ownsRow B 9 1 (.slice (some ⟨g4, 0, none⟩) (acc.length + 1) cap4) (acc ++ [x]).length (strC (acc ++ [x]))) := by
          show World.ownsRow _ _ _ _ _ _ _
          rw [strC_append, List.length_append]
          exact hown4
        clear hown4 hgrow4
        go_wp2
        go_roundg (s.size - (i + 1))
        case measure => omega
        case rel => exact ⟨i + 1, i + 1, acc ++ [x], by first | rfl | simp, by first | rfl | simp, by omega, by omega, HO4, HB4, HA2, fun j h1 h2 => absurd h2 (by omega), by rw [List.length_append, List.length_singleton]; omega⟩
      · have ebc : ((b : Int) == (c : Int)) = false := by simpa using (by omega : ¬ (b : Int) = (c : Int))
        have HJ2 : Hid (∀ j, fr ≤ j → j < i + 1 → (s.get! j).toNat ≠ c) := fun j h1 h2 => by
          by_cases hj : j = i
          · subst hj; rw [hgb]; exact hbc
          · exact HJ.out j h1 (by omega)
        clear HJ hgb hbc
        go_wp2
        go_roundg (s.size - (i + 1))
        case measure => omega
        case rel => exact ⟨i + 1, fr, acc, rfl, by first | rfl | simp, by omega, by omega, HO, HBw, HA, HJ2, by omega⟩
    · have hpI : ¬ ((i : Int) < (s.size : Int)) := by omega
      have his : i = s.size := by omega
      have hfx : fx s c fr = s.size := fx_is s c _ fr s.size rfl (by omega) (Nat.le_refl _) (fun j h1 h2 => HJ.out j h1 (by omega)) (fun h => absurd h (Nat.lt_irrefl _))
      have hA := HA.out
      rw [cx_last s c fr (by omega)] at hA
      obtain ⟨x, hx⟩ : ∃ x, s.extract fr s.size = x := ⟨_, rfl⟩
      rw [hx] at hA
      have hb2 : B ≤ (wr.alloc (.cells #[.string x] 9)).heap.size := by simp; omega
      have b1 : (fr : Int) ≤ (s.size : Int) := by omega
      subst hA
      clear HA HJ hfx his
      go_wp2_with (at_builtin; refine Stop.mk ?_)
      refine Stop.out ?_
      refine (wpList_append_lies _ rfl (.tmp 28) (.tmp 32) 48 rfl B 9 i0 _ 1 16 Tryz.underlying48 hi hz0 hz1 hz2 rfl (by decide) u5 acc.length (strC acc) rfl (HO.out.alloc _) ⟨wr.heap.size, 0, none⟩ 1 1 [.string x] rfl rfl (World.news_of_block (heap_alloc_new wr _)) (strC_one [x]) (by decide) h63 hby hb2 _ rfl ?_)
      intro g4 cap4 W4 hown4 hgrow4 _ _
      have HB4 : Hid (Below B w W4) := (HBw.out.alloc hBs _).grown hgrow4 (by simp; omega) (fun k hk => (HO.out.lt k hk).1)
      have HO4 : Hid (W4.ownsRow B 9 1 (.slice (some ⟨g4, 0, none⟩) (acc.length + 1) cap4) (acc ++ [x]).length (strC (acc ++ [x]))) := by
        show World.ownsRow _ _ _ _ _ _ _
        rw [strC_append, List.length_append]
        exact hown4
      clear hown4 hgrow4
      go_wp2
      go_ret
      exact ⟨_, rfl, HO4.out, HB4.out⟩
theorem own_str {w : World} {B : Nat} {v : Value} {l : List ByteArray} (h : w.ownsRow B 9 1 v l.length (strC l)) : ∃ a cap, v = .slice a l.length cap ∧ l.length ≤ cap ∧ (∀ k x, l[k]? = some x → ∃ g, a = some ⟨g, 0, none⟩ ∧ w.cell? ⟨g, k, none⟩ = some (.string x)) := by
  rcases h.2 with ⟨rfl, h0⟩ | ⟨g, cap, cur, rfl, hb, hg, hn, hm, hc, hx⟩
  · refine ⟨none, 0, by rw [h0], by omega, ?_⟩
    intro k x hk
    have := (List.getElem?_eq_some_iff.1 hk).1
    omega
  · refine ⟨some ⟨g, 0, none⟩, cap, rfl, hn, ?_⟩
    intro k x hk
    refine ⟨g, rfl, ?_⟩
    have := h.cells (g := g) rfl k (.string x) (by unfold strC; rw [List.getElem?_map, hk]; rfl)
    have hadd : (⟨g, 0, none⟩ : Addr).add k = ⟨g, k, none⟩ := by unfold Addr.add; split <;> simp_all
    rw [hadd] at this
    exact this
end Go.Proofs.YtehgeninocbpeaaGreatDoor.Cu
