import Derived.Test.YtdggplhkeekdjaaGreatDoorNb
import Derived.Test.YtdggplhkeekdjaaGreatDoorMi
/-
  DERIVED. The program's isTitle.
-/
namespace Go.Proofs.YtdggplhkeekdjaaGreatDoor.Ck
open Go Go.Proofs Go.RowKit

/-- A text without the spaces around it. -/
def tmT (s : ByteArray) : ByteArray := ⟨(Lib.trimB s.data.toList 32).toArray⟩
theorem trim_sp (w : World) (s : ByteArray) (hs : s.size ≤ 140737488351232) : Calls Tryz.prog 49 #[.string s, .string { data := #[32] }] w fun e w' => e = .returned (.string (tmT s)) ∧ Below w.heap.size w w' :=
  (Any.strings_Trim_one tmLays160 s 32 (by decide) w (by omega)).mono fun _ _ h => ⟨h.1, by rcases h.2 with h | h <;> rw [h]; exact Below.refl _ _; exact (Below.refl _ _).drew⟩
def ErV (b : Bool) (v : Value) : Prop := (b = true ∧ v = .nilIface) ∨ (b = false ∧ ∃ t q, v = .iface t (.pointer (some ⟨q, 0, none⟩)))
theorem check_er (w : World) (v : Int) (s : ByteArray) (hs : s.size ≤ 140737488351232) (hG : Gb w) : Calls Tryz.prog 50 #[.int .i64 v, .string s] w fun e w' => ∃ r, e = .returned r ∧ ErV (ckK v s).isNone r ∧ Below w.heap.size w w' := by
  refine (check_any w v s hs hG).mono ?_
  rintro e W ⟨r, rfl, hf, hb⟩
  refine ⟨r, rfl, ?_, hb⟩
  unfold ckK ckO at *
  split at hf
  · rename_i h; rw [if_pos h]; obtain ⟨q, _, h1, _⟩ := hf; exact .inr ⟨rfl, _, q, h1⟩
  rename_i h; rw [if_neg h]
  split at hf
  · rename_i h; rw [if_pos h]; exact .inl ⟨rfl, hf⟩
  rename_i h; rw [if_neg h]
  split at hf
  · rename_i h; rw [if_pos h]; obtain ⟨q, _, h1, _⟩ := hf; exact .inr ⟨rfl, _, q, h1⟩
  rename_i h; rw [if_neg h]
  split at hf
  · rename_i h; rw [if_pos h]; obtain ⟨q, _, h1, _⟩ := hf; exact .inr ⟨rfl, _, q, h1⟩
  rename_i h; rw [if_neg h]
  split at hf
  · rename_i h; rw [if_pos h]; exact .inl ⟨rfl, hf⟩
  · rename_i h; rw [if_neg h]; obtain ⟨q, _, h1, _⟩ := hf; exact .inr ⟨rfl, _, q, h1⟩
def itB (s : ByteArray) : Bool := !s.toList.isEmpty && ((s.toList == (tmT s).toList) && (ckK 1 s).isNone)
set_option maxRecDepth 100000 in
set_option maxHeartbeats 4000000 in
theorem isTitle_is (w : World) (s : ByteArray) (hs : s.size ≤ 140737488351232) (hG : Gb w) : Calls Tryz.prog 34 #[.string s] w fun e w' => e = .returned (.bool (itB s)) ∧ Below w.heap.size w w' := by
  unfold itB
  have c49 := trim_sp w s hs
  have HC : Hid (∀ W, Gb W → Calls Tryz.prog 50 #[.int .i64 1, .string s] W fun e w' => ∃ r, e = .returned r ∧ ErV (ckK 1 s).isNone r ∧ Below W.heap.size W w') := fun W h => check_er W 1 s hs h
  have HG : Hid (Gb w) := hG
  generalize tmT s = T at *
  generalize (ckK 1 s).isNone = K at *
  clear hG hs
  cases h0 : s.toList.isEmpty with
  | true =>
    go_enter Tryz.func34, Tryz.ntmps34
    go_wp2
    go_ret
    exact ⟨rfl, Below.refl _ _⟩
  | false =>
    cases hq : (s.toList == T.toList) with
    | false =>
      go_enter Tryz.func34, Tryz.ntmps34
      go_wp2_with (go_at_call 49; refine Stop.mk ?_)
      refine Stop.out (c49.mono ?_)
      rintro e W1 ⟨rfl, hb1⟩
      go_wp2
      go_ret
      exact ⟨rfl, hb1⟩
    | true =>
      go_enter Tryz.func34, Tryz.ntmps34
      go_wp2_with (go_at_call 49; refine Stop.mk ?_)
      refine Stop.out (c49.mono ?_)
      rintro e W1 ⟨rfl, hb1⟩
      have HB1 : Hid _ := hb1
      clear hb1
      go_wp2_with (go_at_call 50; refine Stop.mk ?_)
      refine Stop.out ((HC.out _ (HG.out.on HB1.out)).mono ?_)
      rintro e W2 ⟨r, rfl, hr, hb2⟩
      have HB2 : Hid (Below w.heap.size w W2) := HB1.out.trans (hb2.mono HB1.out.size)
      clear hb2
      rcases hr with ⟨rfl, rfl⟩ | ⟨rfl, t, q, rfl⟩
      · go_wp2
        go_ret
        exact ⟨rfl, HB2.out⟩
      · go_wp2
        go_ret
        exact ⟨rfl, HB2.out⟩
end Go.Proofs.YtdggplhkeekdjaaGreatDoor.Ck

/-
  DERIVED. Titles: both ways are one.
-/
namespace Go.Proofs.YtdggplhkeekdjaaGreatDoor.Ck
open Go Go.Proofs Go.RowKit

theorem tl_bc (s : ByteArray) : ∀ f i, tlG s f i = decide (bcB (plB 1) s f i < 0)
  | 0, i => by rw [tlG, bcB]; rfl
  | f + 1, i => by
    rw [tlG, bcB]
    by_cases hi : i < s.size
    · rw [if_pos hi, if_pos hi]
      have hp : plB 1 (s.get! i).toNat = (decide (32 ≤ (s.get! i).toNat) && (decide ((s.get! i).toNat ≤ 126) && decide ((s.get! i).toNat ≠ 92))) := rfl
      by_cases h : (s.get! i).toNat < 32 ∨ 126 < (s.get! i).toNat ∨ (s.get! i).toNat = 92
      · have : ¬ plB 1 (s.get! i).toNat = true := by rw [hp]; simp; omega
        rw [if_pos h, if_neg this, decide_eq_false (by omega)]
      · have : plB 1 (s.get! i).toNat = true := by rw [hp]; simp; omega
        rw [if_neg h, if_pos this, tl_bc s f (i + 1)]
    · rw [if_neg hi, if_neg hi]; rfl
theorem dw_len (l : List UInt8) : (l.dropWhile (· == 32)).length ≤ l.length := by
  induction l with
  | nil => simp
  | cons a l ih =>
    rw [List.dropWhile_cons]
    split
    · simp; omega
    · exact Nat.le_refl _
theorem dw_id (a : UInt8) (l : List UInt8) : ((a :: l).dropWhile (· == 32) = a :: l) ↔ a ≠ 32 := by
  rw [List.dropWhile_cons]
  by_cases h : a = 32
  · have hl := dw_len l
    rw [if_pos (by simp [h])]
    refine ⟨fun e => ?_, fun e => absurd h e⟩
    rw [e, List.length_cons] at hl
    omega
  · rw [if_neg (by simp [h])]
    exact ⟨fun _ => h, fun _ => rfl⟩
theorem trim_id (l : List UInt8) (h : l ≠ []) : (Lib.trimB l 32 = l) ↔ (l.head h ≠ 32 ∧ l.getLast h ≠ 32) := by
  have hr : l.reverse ≠ [] := by simpa using h
  obtain ⟨z, m, hm⟩ : ∃ z m, l.reverse = z :: m := by
    cases e : l.reverse with
    | nil => exact absurd e hr
    | cons z m => exact ⟨z, m, rfl⟩
  have hz : l.getLast h = z := by
    have h1 : l = m.reverse ++ [z] := by rw [← List.reverse_reverse l, hm]; simp
    subst h1
    simp
  have e1 : Lib.trimRightB l 32 = ((z :: m).dropWhile (· == 32)).reverse := by unfold Lib.trimRightB; rw [hm]
  unfold Lib.trimB
  rw [hz]
  by_cases h2 : z = 32
  · refine ⟨fun e => ?_, fun e => absurd h2 e.2⟩
    have hl1 : (Lib.trimLeftB (Lib.trimRightB l 32) 32).length ≤ (Lib.trimRightB l 32).length := dw_len _
    have hl2 : (Lib.trimRightB l 32).length < l.length := by
      rw [e1, List.length_reverse, List.dropWhile_cons, if_pos (by simp [h2])]
      have := dw_len m
      have h3 : l.length = m.length + 1 := by rw [← List.length_reverse, hm]; rfl
      omega
    rw [e] at hl1
    omega
  · have e2 : Lib.trimRightB l 32 = l := by rw [e1, (dw_id z m).2 h2, ← hm, List.reverse_reverse]
    rw [e2]
    cases l with
    | nil => exact absurd rfl h
    | cons a r =>
      unfold Lib.trimLeftB
      rw [dw_id a r]
      simp [h2]
theorem ck_title (s : ByteArray) (h0 : s.size ≠ 0) : (ckK 1 s).isNone = (decide (s.size ≤ 16) && decide (bcB (plB 1) s s.size 0 < 0)) := by
  have e1 : wlK 1 s = if 65534 < s.size then 65534 else if 16 < s.size then 16 else -1 := by
    show wlP _ _ _ _ _ _ s = _
    unfold wlP
    by_cases hb : 65534 < s.size
    · rw [if_pos hb, if_pos hb]
    · rw [if_neg hb, if_neg hb, if_pos (show Rp.tx 1 = true from rfl)]
      show (if (16 : Nat) ≠ 0 ∧ 16 < s.size then ((16 : Nat) : Int) else -1) = _
      by_cases h : 16 < s.size
      · rw [if_pos ⟨by decide, h⟩, if_pos h]; rfl
      · rw [if_neg (fun x => h x.2), if_neg h]
  have e2 := wc_1 s
  show (ckO true s.size (wlK 1 s) (wcK 1 s) true).isNone = _
  unfold ckO
  rw [if_neg (by decide), if_neg h0, e1, e2]
  by_cases hb : 65534 < s.size
  · rw [if_pos hb, if_pos (by decide), decide_eq_false (by omega)]; rfl
  · rw [if_neg hb]
    by_cases h : 16 < s.size
    · rw [if_pos h, if_pos (by decide), decide_eq_false (by omega)]; rfl
    · rw [if_neg h, if_neg (by decide), decide_eq_true (by omega), Bool.true_and]
      by_cases hw : 0 ≤ bcB (plB 1) s s.size 0
      · rw [if_pos hw, decide_eq_false (by omega)]; rfl
      · rw [if_neg hw, if_pos rfl, decide_eq_true (by omega)]; rfl
theorem title_eq (s : ByteArray) : itB s = tlB s := by
  unfold itB tlB
  by_cases h0 : s.size = 0
  · rw [text_none h0, if_pos (.inl (by omega))]; rfl
  · rw [text_some h0, ck_title s h0, ← tl_bc, Bool.not_false, Bool.true_and]
    by_cases h1 : s.size < 1 ∨ 16 < s.size
    · rw [if_pos h1, decide_eq_false (by omega), Bool.false_and, Bool.and_false]
    · rw [if_neg h1, decide_eq_true (by omega), Bool.true_and]
      have hl : s.data.toList ≠ [] := fun e => h0 (by have := congrArg List.length e; rw [Array.length_toList] at this; exact this)
      have ht : (s.toList == (tmT s).toList) = decide (s.data.toList.head hl ≠ 32 ∧ s.data.toList.getLast hl ≠ 32) := by
        rw [Bool.eq_iff_iff, beq_iff_eq, decide_eq_true_eq, ← trim_id s.data.toList hl, ByteArray.toList_eq, ByteArray.toList_eq]
        exact ⟨fun e => e.symm, fun e => e.symm⟩
      have hh : s.data.toList.head hl = s.get! 0 := by
        rw [List.head_eq_getElem, ← get_get! s 0 (by omega)]; rfl
      have hg : s.data.toList.getLast hl = s.get! (s.size - 1) := by
        rw [List.getLast_eq_getElem, ← get_get! s (s.size - 1) (by omega)]; rfl
      rw [ht, hh, hg]
      by_cases h2 : (s.get! 0).toNat = 32 ∨ (s.get! (s.size - 1)).toNat = 32
      · rw [if_pos h2, decide_eq_false, Bool.false_and]
        rintro ⟨a, b⟩
        rcases h2 with h2 | h2
        · exact a (UInt8.toNat_inj.1 h2)
        · exact b (UInt8.toNat_inj.1 h2)
      · rw [if_neg h2, decide_eq_true, Bool.true_and]
        exact ⟨fun e => h2 (.inl (by rw [e]; rfl)), fun e => h2 (.inr (by rw [e]; rfl))⟩
end Go.Proofs.YtdggplhkeekdjaaGreatDoor.Ck

/-
  DERIVED. The program's areClasses.
-/
namespace Go.Proofs.YtdggplhkeekdjaaGreatDoor.Ck
open Go Go.Proofs Go.RowKit

/-- Texts lie in a row. -/
def TxAt (X : World) (ao : Option Addr) (T : List ByteArray) : Prop := ∀ i (h : i < T.length), ∃ g, ao = some ⟨g, 0, none⟩ ∧ X.cell? ⟨g, i, none⟩ = some (.string T[i])
theorem TxAt.on {X Y : World} {ao : Option Addr} {T : List ByteArray} (h : TxAt X ao T) (hb : Below X.heap.size X Y) : TxAt Y ao T := fun i hi => by
  obtain ⟨g, h1, h2⟩ := h i hi
  exact ⟨g, h1, (hb.cell (clt h2)).trans h2⟩
/-- A class's name. -/
def clB (s : ByteArray) : Bool := !s.toList.isEmpty && (ckK 23 s).isNone
def csB (T : List ByteArray) : Bool := decide (T.length ≠ 0) && (decide (T.length ≤ 128) && T.all clB)
set_option maxRecDepth 100000 in
set_option maxHeartbeats 4000000 in
theorem areClasses_any (w : World) (ao : Option Addr) (cp : Nat) (T : List ByteArray) (n : Nat) (hn : T.length = n) (hz : ∀ p ∈ T, p.size ≤ 140737488351232) (hT : TxAt w ao T) (hG : Gb w) : Calls Tryz.prog 35 #[.slice ao n cp] w fun e w' => e = .returned (.bool (csB T)) ∧ Below w.heap.size w w' := by
  unfold csB
  rw [hn]
  by_cases h0 : n = 0
  · subst h0
    rw [decide_eq_false (by simp)]
    go_enter Tryz.func35, Tryz.ntmps35
    go_wp2
    go_ret
    exact ⟨rfl, Below.refl _ _⟩
  have i0 : ((n : Int) == 0) = false := beq_eq_false_iff_ne.2 (by omega)
  rw [decide_eq_true h0, Bool.true_and]
  by_cases h1 : 128 < n
  · have i1 : (n : Int) > 128 := by omega
    rw [decide_eq_false (by omega)]
    go_enter Tryz.func35, Tryz.ntmps35
    go_wp2
    go_ret
    exact ⟨rfl, Below.refl _ _⟩
  have i1 : ¬ ((n : Int) > 128) := by omega
  rw [decide_eq_true (by omega), Bool.true_and]
  obtain ⟨R, hR⟩ : ∃ R, T.all clB = R := ⟨_, rfl⟩
  have HR : Hid ((T.drop 0).all clB = R) := hR
  rw [hR]
  have HL : Hid (T.length = n) := hn
  have HZ : Hid (∀ p ∈ T, p.size ≤ 140737488351232) := hz
  have HV : Hid (TxAt w ao T ∧ Below w.heap.size w w) := ⟨hT, Below.refl _ _⟩
  have HG : Hid (Gb w) := hG
  clear hR hn hz hT hG
  go_enter Tryz.func35, Tryz.ntmps35
  go_wp2
  clear i0 i1
  go_loopg [15] n (fun k s15 wx => ∃ i : Nat, s15 = .int .i64 (i : Int) ∧ i ≤ n ∧ k + i = n ∧ Hid ((T.drop i).all clB = R) ∧ Hid (TxAt wx ao T ∧ Below w.heap.size w wx))
  case atStart => exact ⟨0, rfl, by omega, by omega, HR, HV⟩
  case round =>
    clear HR HV
    obtain ⟨i, rfl, hi, hg, HI, HV⟩ := hrel
    by_cases hlt : i < n
    · have iI : (i : Int) < (n : Int) := by omega
      have hlx : i < T.length := by have := HL.out; omega
      obtain ⟨u, hu⟩ : ∃ u, T[i] = u := ⟨_, rfl⟩
      obtain ⟨g, hao, cl⟩ := HV.out.1 i hlx
      rw [hu] at cl
      subst hao
      have hsz : u.size ≤ 140737488351232 := HZ.out u (by rw [← hu]; exact List.getElem_mem hlx)
      have HI2 : Hid ((!u.toList.isEmpty && (ckK 23 u).isNone && (T.drop (i + 1)).all clB) = R) := by
        have := HI.out
        rw [List.drop_eq_getElem_cons hlx, List.all_cons, hu] at this
        exact this
      have HC : Hid (Calls Tryz.prog 50 #[.int .i64 23, .string u] wr fun e w' => ∃ r, e = .returned r ∧ ErV (ckK 23 u).isNone r ∧ Below wr.heap.size wr w') := check_er wr 23 u hsz (HG.out.on HV.out.2)
      generalize (ckK 23 u).isNone = K at *
      clear HI hlx hu hsz
      cases h2 : u.toList.isEmpty with
      | true =>
        obtain rfl : R = false := by have := HI2.out; rw [h2] at this; exact this.symm
        clear HI2
        go_wp2
        go_ret
        exact ⟨rfl, HV.out.2⟩
      | false =>
        go_wp2_with (go_at_call 50; refine Stop.mk ?_)
        refine Stop.out (HC.out.mono ?_)
        rintro e2 W2 ⟨r, rfl, hr, hb2⟩
        have HV2 : Hid (TxAt W2 (some ⟨g, 0, none⟩) T ∧ Below w.heap.size w W2) := ⟨HV.out.1.on hb2, HV.out.2.trans (hb2.mono HV.out.2.size)⟩
        clear hb2 HC HV cl
        rcases hr with ⟨rfl, rfl⟩ | ⟨rfl, t, q, rfl⟩
        · have HI3 : Hid ((T.drop (i + 1)).all clB = R) := by have := HI2.out; rw [h2] at this; exact this
          clear HI2
          go_wp2
          go_roundg (n - (i + 1))
          case measure => omega
          case rel => exact ⟨i + 1, by simp, by omega, by omega, HI3, HV2⟩
        · obtain rfl : R = false := by have := HI2.out; rw [h2] at this; exact this.symm
          clear HI2
          go_wp2
          go_ret
          exact ⟨rfl, HV2.out.2⟩
    · have iI : ¬ ((i : Int) < (n : Int)) := by omega
      obtain rfl : R = true := by
        have := HI.out
        rw [List.drop_eq_nil_of_le (by have := HL.out; omega)] at this
        exact this.symm
      clear HI
      go_wp2
      go_ret
      exact ⟨rfl, HV.out.2⟩
end Go.Proofs.YtdggplhkeekdjaaGreatDoor.Ck
