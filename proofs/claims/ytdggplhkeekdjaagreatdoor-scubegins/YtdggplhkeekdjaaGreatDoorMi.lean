import Derived.Test.YtdggplhkeekdjaaGreatDoorMh
import Derived.Test.YtdggplhkeekdjaaGreatDoorLq
/-
  DERIVED. The document's Check, of any kind.
-/
namespace Go.Proofs.YtdggplhkeekdjaaGreatDoor.Ck
open Go Go.Proofs Go.RowKit
open Go.Proofs.YtdggplhkeekdjaaGreatDoor.Sp (okV)

theorem rcheck_text (w : World) (v : Int) (n : ByteArray) (p : Int) (u m : Nat) (c q l : Bool) (s : ByteArray) (hv : v ≠ 18) (lg : Bool) (wc : Int) (fo : Bool)
    (C17 : ∀ W, Calls Tryz.prog 39 #[.int .i64 v] W fun e w' => e = .returned (.tuple #[.agg #[.string n, .int .u8 p, .int .i64 (u : Int), .int .i64 (m : Int), .bool true, .bool c, .bool q, .bool l], .bool true]) ∧ Below W.heap.size W w')
    (c20 : ∀ W, Calls Tryz.prog 40 #[.int .i64 v, .agg #[.string n, .int .u8 p, .int .i64 (u : Int), .int .i64 (m : Int), .bool true, .bool c, .bool q, .bool l], .string s] W fun e w' => e = .returned (.bool lg) ∧ Below W.heap.size W w')
    (hl : lg = decide (m < szP n c s))
    (c21 : ∀ W, Calls Tryz.prog 41 #[.int .i64 v, .agg #[.string n, .int .u8 p, .int .i64 (u : Int), .int .i64 (m : Int), .bool true, .bool c, .bool q, .bool l], .string s] W fun e w' => e = .returned (.int .i64 wc) ∧ Below W.heap.size W w')
    (c22 : wlP n u m true c q s < 0 → wc < 0 → ∀ W, Calls Tryz.prog 42 #[.int .i64 v, .string s] W fun e w' => e = .returned (.bool fo) ∧ Below W.heap.size W w') :
    Calls Tryz.prog 24 #[.int .i64 v, .string s] w (CkD w (ckO true s.size (wlP n u m true c q s) wc fo)) := by
  unfold ckO
  rw [if_neg (by decide)]
  by_cases h0 : s.size = 0
  · rw [if_pos h0]; exact rcheck_empty w v n p u m true c q l s hv h0 C17
  rw [if_neg h0]
  by_cases hb : 65534 < s.size
  · have e : wlP n u m true c q s = 65534 := by unfold wlP; rw [if_pos hb]
    rw [e, if_pos (by decide)]
    exact rcheck_big w v n p u m true c q l s hv hb C17
  have hb' : s.size ≤ 65534 := by omega
  have ew : wlP n u m true c q s = if m ≠ 0 ∧ m < szP n c s then (m : Int) else -1 := by unfold wlP; rw [if_neg hb, if_pos rfl]
  by_cases hm : m = 0
  · rw [if_neg (fun x => x.1 hm)] at ew
    rw [ew] at c22 ⊢
    rw [if_neg (by decide)]
    by_cases hw : 0 ≤ wc
    · rw [if_pos hw]; exact rcheck_free_char w v n p u m c q l s hv h0 hb' hm wc c21 hw C17
    · rw [if_neg hw]
      have c22' := c22 (by decide) (by omega)
      cases fo with
      | true => exact rcheck_free_good w v n p u m c q l s hv h0 hb' hm wc c21 hw c22' C17
      | false => exact rcheck_free_form w v n p u m c q l s hv h0 hb' hm wc c21 hw c22' C17
  · by_cases hz : m < szP n c s
    · have e : lg = true := by rw [hl, decide_eq_true hz]
      rw [e] at c20
      rw [if_pos ⟨hm, hz⟩] at ew
      rw [ew, if_pos (by omega)]
      exact rcheck_long w v n p u m c q l s hv h0 hb' (by omega) c20 C17
    · have e : lg = false := by rw [hl, decide_eq_false hz]
      rw [e] at c20
      rw [if_neg (fun x => hz x.2)] at ew
      rw [ew] at c22 ⊢
      rw [if_neg (by decide)]
      by_cases hw : 0 ≤ wc
      · rw [if_pos hw]; exact rcheck_text_char w v n p u m c q l s hv h0 hb' (by omega) c20 wc c21 hw C17
      · rw [if_neg hw]
        have c22' := c22 (by decide) (by omega)
        cases fo with
        | true => exact rcheck_text_good w v n p u m c q l s hv h0 hb' (by omega) c20 wc c21 hw c22' C17
        | false => exact rcheck_text_form w v n p u m c q l s hv h0 hb' (by omega) c20 wc c21 hw c22' C17
theorem rcheck_bytes (w : World) (v : Int) (n : ByteArray) (p : Int) (u m : Nat) (c q l : Bool) (s : ByteArray) (hv : v ≠ 18) (hu : 0 < u) (hq : q = true → u % 2 = 0)
    (C17 : ∀ W, Calls Tryz.prog 39 #[.int .i64 v] W fun e w' => e = .returned (.tuple #[.agg #[.string n, .int .u8 p, .int .i64 (u : Int), .int .i64 (m : Int), .bool false, .bool c, .bool q, .bool l], .bool true]) ∧ Below W.heap.size W w')
    (c21 : ∀ W, Calls Tryz.prog 41 #[.int .i64 v, .agg #[.string n, .int .u8 p, .int .i64 (u : Int), .int .i64 (m : Int), .bool false, .bool c, .bool q, .bool l], .string s] W fun e w' => e = .returned (.int .i64 (-1)) ∧ Below W.heap.size W w')
    (c22 : ∀ W, Calls Tryz.prog 42 #[.int .i64 v, .string s] W fun e w' => e = .returned (.bool true) ∧ Below W.heap.size W w') :
    Calls Tryz.prog 24 #[.int .i64 v, .string s] w (CkD w (ckO true s.size (wlP n u m false c q s) (-1) true)) := by
  unfold ckO
  rw [if_neg (by decide)]
  by_cases h0 : s.size = 0
  · rw [if_pos h0]; exact rcheck_empty w v n p u m false c q l s hv h0 C17
  rw [if_neg h0]
  by_cases hb : 65534 < s.size
  · have e : wlP n u m false c q s = 65534 := by unfold wlP; rw [if_pos hb]
    rw [e, if_pos (by decide)]
    exact rcheck_big w v n p u m false c q l s hv hb C17
  have hb' : s.size ≤ 65534 := by omega
  have ew : wlP n u m false c q s = if whB q u s.size = true then -1 else (s.size : Int) := by unfold wlP; rw [if_neg hb, if_neg (by decide)]
  by_cases h2 : s.size % 2 = 1
  · have e : whB q u s.size = false := by
      unfold whB
      cases q with
      | true => rw [if_pos rfl, decide_eq_false]; have := hq rfl; omega
      | false => rw [if_neg (by decide), decide_eq_false (by omega)]; rfl
    rw [e, if_neg (by decide)] at ew
    rw [ew, if_pos (by omega)]
    exact rcheck_odd w v n p u m c q l s hv hb' hu h2 C17
  by_cases h3 : s.size % u = 0
  · cases q with
    | true =>
      by_cases h4 : s.size = u
      · have e : whB true u s.size = true := by unfold whB; rw [if_pos rfl, decide_eq_true h4]
        rw [e, if_pos rfl] at ew
        rw [ew, if_neg (by decide), if_neg (by decide), if_pos rfl]
        exact rcheck_one_good w v n p u m c l s hv hb' hu h2 h3 h4 (-1) c21 (by decide) c22 C17
      · have e : whB true u s.size = false := by unfold whB; rw [if_pos rfl, decide_eq_false h4]
        rw [e, if_neg (by decide)] at ew
        rw [ew, if_pos (by omega)]
        exact rcheck_more w v n p u m c l s hv h0 hb' hu h2 h3 h4 C17
    | false =>
      have e : whB false u s.size = true := by unfold whB; rw [if_neg (by decide), decide_eq_true (by omega), decide_eq_true h3]; rfl
      rw [e, if_pos rfl] at ew
      rw [ew, if_neg (by decide), if_neg (by decide), if_pos rfl]
      exact rcheck_many_good w v n p u m c l s hv h0 hb' hu h2 h3 (-1) c21 (by decide) c22 C17
  · have e : whB q u s.size = false := by
      unfold whB
      cases q with
      | true => rw [if_pos rfl, decide_eq_false]; intro x; rw [x, Nat.mod_self] at h3; exact h3 rfl
      | false => rw [if_neg (by decide), decide_eq_false h3, Bool.and_false]
    rw [e, if_neg (by decide)] at ew
    rw [ew, if_pos (by omega)]
    exact rcheck_part w v n p u m c q l s hv h0 hb' hu h2 h3 C17
theorem same_below {f : Nat} {a : Array Value} {r : Value} (h : ∀ W, Calls Tryz.prog f a W fun e w' => e = .returned r ∧ W = w') (W : World) : Calls Tryz.prog f a W fun e w' => e = .returned r ∧ Below W.heap.size W w' := (h W).mono fun _ _ x => ⟨x.1, x.2 ▸ Below.refl _ _⟩

theorem wc_1 (s : ByteArray) : wcK 1 s = bcB (plB 1) s s.size 0 := wc_bytes tiI (plB 1) (fun c h => (plain_small c h).1) (fun c h => (ti_big c h).1) (fun c h => (plain_big c h).1) s s.size 0
theorem wc_2 (s : ByteArray) : wcK 2 s = bcB (plB 2) s s.size 0 := wc_bytes (doI ageM) (plB 2) (fun c h => (plain_small c h).2.1) (fun c h => doI_big _ c h) (fun c h => (plain_big c h).2.1) s s.size 0
theorem wc_4 (s : ByteArray) : wcK 4 s = bcB (plB 4) s s.size 0 := wc_bytes cdI (plB 4) (fun c h => (plain_small c h).2.2.1) (fun c h => (ti_big c h).2.2) (fun c h => (plain_big c h).2.2.1) s s.size 0
theorem wc_5 (s : ByteArray) : wcK 5 s = bcB (plB 5) s s.size 0 := wc_bytes dgI (plB 5) (fun c h => (plain_small c h).2.2.2.1) (fun c h => dgI_big c h) (fun c h => (plain_big c h).2.2.2.1) s s.size 0
theorem wc_6 (s : ByteArray) : wcK 6 s = bcB (plB 6) s s.size 0 := wc_bytes (doI decimalM) (plB 6) (fun c h => (plain_small c h).2.2.2.2.1) (fun c h => doI_big _ c h) (fun c h => (plain_big c h).2.2.2.2.1) s s.size 0
theorem wc_7 (s : ByteArray) : wcK 7 s = bcB (plB 7) s s.size 0 := wc_bytes (doI momM) (plB 7) (fun c h => (plain_small c h).2.2.2.2.2.1) (fun c h => doI_big _ c h) (fun c h => (plain_big c h).2.2.2.2.2.1) s s.size 0
theorem wc_10 (s : ByteArray) : wcK 10 s = bcB (plB 10) s s.size 0 := wc_bytes (doI wholeM) (plB 10) (fun c h => (plain_small c h).2.2.2.2.2.2.1) (fun c h => doI_big _ c h) (fun c h => (plain_big c h).2.2.2.2.2.2.1) s s.size 0
theorem wc_21 (s : ByteArray) : wcK 21 s = bcB (plB 21) s s.size 0 := wc_bytes (doI pointedM) (plB 21) (fun c h => (plain_small c h).2.2.2.2.2.2.2.1) (fun c h => doI_big _ c h) (fun c h => (plain_big c h).2.2.2.2.2.2.2.1) s s.size 0
theorem wc_23 (s : ByteArray) : wcK 23 s = bcB (plB 23) s s.size 0 := wc_bytes (doI pointedM) (plB 23) (fun c h => (plain_small c h).2.2.2.2.2.2.2.2.1) (fun c h => doI_big _ c h) (fun c h => (plain_big c h).2.2.2.2.2.2.2.2.1) s s.size 0
theorem wc_26 (s : ByteArray) : wcK 26 s = bcB (plB 26) s s.size 0 := wc_bytes lkI (plB 26) (fun c h => (plain_small c h).2.2.2.2.2.2.2.2.2) (fun c h => (ti_big c h).2.1) (fun c h => (plain_big c h).2.2.2.2.2.2.2.2.2) s s.size 0
theorem wc_11 (s : ByteArray) : wcK 11 s = bcC (chB false) s s.size 0 := wc_chars lnI (chB false) (fun c _ => ln_ch c) rfl s s.size 0
theorem wc_15 (s : ByteArray) : wcK 15 s = bcC (chB false) s s.size 0 := wc_chars lnI (chB false) (fun c _ => ln_ch c) rfl s s.size 0
theorem wc_16 (s : ByteArray) : wcK 16 s = bcC (chB false) s s.size 0 := wc_chars lnI (chB false) (fun c _ => ln_ch c) rfl s s.size 0
theorem wc_22 (s : ByteArray) : wcK 22 s = bcC (chB false) s s.size 0 := wc_chars lnI (chB false) (fun c _ => ln_ch c) rfl s s.size 0
theorem wc_12 (s : ByteArray) : wcK 12 s = bcC (chB true) s s.size 0 := wc_chars prI (chB true) (fun c _ => pr_ch c) rfl s s.size 0
theorem wc_20 (s : ByteArray) : wcK 20 s = bcC (chB true) s s.size 0 := wc_chars prI (chB true) (fun c _ => pr_ch c) rfl s s.size 0
theorem wc_28 (s : ByteArray) : wcK 28 s = bcC (chB true) s s.size 0 := wc_chars prI (chB true) (fun c _ => pr_ch c) rfl s s.size 0
theorem szP_bytes (n : ByteArray) (s : ByteArray) : szP n false s = s.size := rfl
theorem lg_b (m : Nat) (n s : ByteArray) : lgG false false m s s.size 0 0 = decide (m < szP n false s) := by
  rw [lg_bytes m s s.size 0 0 (by omega) (by omega), szP_bytes]
  congr 1
  apply propext
  omega
theorem lg_r (m : Nat) (n s : ByteArray) (h : (n.toList == [80, 78]) = false) : lgG false true m s s.size 0 0 = decide (m < szP n true s) := by
  rw [lg_runes m s s.size 0 0 (by omega), Nat.zero_add]
  unfold szP
  rw [if_pos rfl, h, if_neg (by decide)]
  rfl
theorem lg_n (m : Nat) (n s : ByteArray) (h : (n.toList == [80, 78]) = true) : lgG true true m s s.size 0 0 = decide (m < szP n true s) := by
  rw [lg_groups]
  unfold szP
  rw [if_pos rfl, h, if_pos rfl]
theorem small_of {n : ByteArray} {u m : Nat} {q : Bool} {s : ByteArray} (hm : m ≠ 0) (h : wlP n u m true false q s < 0) : s.size ≤ m := by
  unfold wlP at h
  split at h
  · omega
  · rw [if_pos rfl] at h
    split at h
    · omega
    · rename_i h1
      rw [szP_bytes] at h1
      omega
theorem dgs_of (s : ByteArray) (h : wcK 5 s < 0) : cnt s s.size 0 = s.size := cnt_full s _ _ fun k h1 h2 => by
  have := (wc_ascii dgI (fun c hc => by unfold dgI at hc; simp at hc; omega) s s.size 0 (by omega) h k h1 (by omega)).2
  unfold isD
  rw [decide_eq_true (by omega), Bool.true_and, ← dgI_dg]
  exact this
theorem doI_small (m : ByteArray) (c : Int) (h : doI m c = true) : c < 128 := by
  unfold doI at h
  rcases Bool.or_eq_true _ _ ▸ h with h | h
  · unfold dgI at h; simp at h; omega
  · unfold hasR at h; simp at h; omega
theorem fo_2 (s : ByteArray) : (decide (s.size = 4) && decide (cnt s 4 0 = 3)) = foK 2 s := by
  show _ = agF s
  unfold agF
  by_cases h : s.size = 4
  · rw [h]
  · rw [decide_eq_false h]; rfl
theorem fo_5 (s : ByteArray) (h : wcK 5 s < 0) : ((s.size : Int) == 8) = foK 5 s := by
  show _ = daF s
  unfold daF
  rw [dgs_of s h]
theorem fo_23 (s : ByteArray) (h : wcK 23 s < 0) : uidF s = foK 23 s := by
  refine (uid_eq s fun b hb => ?_).symm
  obtain ⟨k, hk, rfl⟩ := mem_get s b hb
  have := (wc_ascii (doI pointedM) (doI_small _) s s.size 0 (by omega) h k (by omega) hk).2
  unfold doI at this
  rcases Bool.or_eq_true _ _ ▸ this with h1 | h1
  · rw [dgI_dg] at h1; exact .inl h1
  · right
    unfold hasR at h1
    simp [pointedM] at h1
    exact h1.2.symm
theorem rcheck_1 (w : World) (s : ByteArray) (hs : s.size ≤ 140737488351232) : Calls Tryz.prog 24 #[.int .i64 1, .string s] w (CkD w (ckO true s.size (wlK 1 s) (wcK 1 s) (foK 1 s))) :=
  rcheck_text w 1 ⟨#[65, 69]⟩ 32 1 16 false true false s (by decide) (lgG false false 16 s s.size 0 0) (wcK 1 s) (foK 1 s) (fun W => Rp.rabout_open W 1)
    (fun W => long_any W 1 ⟨#[65, 69]⟩ 32 1 16 true false true false s hs (by decide) false (by decide)) (lg_b 16 ⟨#[65, 69]⟩ s)
    (fun W => by rw [wc_1]; exact bad_bytes W 1 ⟨#[65, 69]⟩ 32 1 16 true false s hs (plB 1) (fun W b => plain_1 W b))
    (fun _ _ W => (formed_else W 1 (by decide) s).mono fun _ _ x => ⟨x.1, x.2 ▸ Below.refl _ _⟩)
theorem rcheck_2 (w : World) (s : ByteArray) (hs : s.size ≤ 140737488351232) : Calls Tryz.prog 24 #[.int .i64 2, .string s] w (CkD w (ckO true s.size (wlK 2 s) (wcK 2 s) (foK 2 s))) :=
  rcheck_text w 2 ⟨#[65, 83]⟩ 32 1 4 false true false s (by decide) (lgG false false 4 s s.size 0 0) (wcK 2 s) (foK 2 s) (fun W => Rp.rabout_open W 2)
    (fun W => long_any W 2 ⟨#[65, 83]⟩ 32 1 4 true false true false s hs (by decide) false (by decide)) (lg_b 4 ⟨#[65, 83]⟩ s)
    (fun W => by rw [wc_2]; exact bad_bytes W 2 ⟨#[65, 83]⟩ 32 1 4 true false s hs (plB 2) (fun W b => plain_2 W b))
    (fun _ _ W => by rw [show foK 2 s = _ from (fo_2 s).symm]; exact (formed_2 W s hs).mono fun _ _ x => ⟨x.1, x.2 ▸ Below.refl _ _⟩)
theorem rcheck_3 (w : World) (s : ByteArray) : Calls Tryz.prog 24 #[.int .i64 3, .string s] w (CkD w (ckO true s.size (wlK 3 s) (wcK 3 s) (foK 3 s))) :=
  rcheck_bytes w 3 ⟨#[65, 84]⟩ 0 4 4 false true false s (by decide) (by decide) (by decide) (fun W => Rp.rabout_open W 3)
    (fun W => bad_none W 3 ⟨#[65, 84]⟩ 0 4 4 false true false s) (fun W => (formed_else W 3 (by decide) s).mono fun _ _ x => ⟨x.1, x.2 ▸ Below.refl _ _⟩)
theorem rcheck_4 (w : World) (s : ByteArray) (hs : s.size ≤ 140737488351232) : Calls Tryz.prog 24 #[.int .i64 4, .string s] w (CkD w (ckO true s.size (wlK 4 s) (wcK 4 s) (foK 4 s))) :=
  rcheck_text w 4 ⟨#[67, 83]⟩ 32 1 16 false true false s (by decide) (lgG false false 16 s s.size 0 0) (wcK 4 s) (foK 4 s) (fun W => Rp.rabout_open W 4)
    (fun W => long_any W 4 ⟨#[67, 83]⟩ 32 1 16 true false true false s hs (by decide) false (by decide)) (lg_b 16 ⟨#[67, 83]⟩ s)
    (fun W => by rw [wc_4]; exact bad_bytes W 4 ⟨#[67, 83]⟩ 32 1 16 true false s hs (plB 4) (fun W b => plain_4 W b))
    (fun _ _ W => (formed_else W 4 (by decide) s).mono fun _ _ x => ⟨x.1, x.2 ▸ Below.refl _ _⟩)
theorem rcheck_5 (w : World) (s : ByteArray) (hs : s.size ≤ 140737488351232) : Calls Tryz.prog 24 #[.int .i64 5, .string s] w (CkD w (ckO true s.size (wlK 5 s) (wcK 5 s) (foK 5 s))) :=
  rcheck_text w 5 ⟨#[68, 65]⟩ 32 1 8 false true false s (by decide) (lgG false false 8 s s.size 0 0) (wcK 5 s) (foK 5 s) (fun W => Rp.rabout_open W 5)
    (fun W => long_any W 5 ⟨#[68, 65]⟩ 32 1 8 true false true false s hs (by decide) false (by decide)) (lg_b 8 ⟨#[68, 65]⟩ s)
    (fun W => by rw [wc_5]; exact bad_bytes W 5 ⟨#[68, 65]⟩ 32 1 8 true false s hs (plB 5) (fun W b => plain_5 W b))
    (fun _ h W => by rw [show foK 5 s = _ from (fo_5 s h).symm]; exact (formed_5 W s).mono fun _ _ x => ⟨x.1, x.2 ▸ Below.refl _ _⟩)
theorem rcheck_6 (w : World) (s : ByteArray) (hs : s.size ≤ 140737488351232) : Calls Tryz.prog 24 #[.int .i64 6, .string s] w (CkD w (ckO true s.size (wlK 6 s) (wcK 6 s) (foK 6 s))) :=
  rcheck_text w 6 ⟨#[68, 83]⟩ 32 1 16 false true false s (by decide) (lgG false false 16 s s.size 0 0) (wcK 6 s) (foK 6 s) (fun W => Rp.rabout_open W 6)
    (fun W => long_any W 6 ⟨#[68, 83]⟩ 32 1 16 true false true false s hs (by decide) false (by decide)) (lg_b 16 ⟨#[68, 83]⟩ s)
    (fun W => by rw [wc_6]; exact bad_bytes W 6 ⟨#[68, 83]⟩ 32 1 16 true false s hs (plB 6) (fun W b => plain_6 W b))
    (fun _ _ W => by rw [show foK 6 s = _ from ((decimal_eq s).symm).symm]; exact (formed_6 W s hs).mono fun _ _ x => ⟨x.1, x.2 ▸ Below.refl _ _⟩)
theorem rcheck_7 (w : World) (s : ByteArray) (hs : s.size ≤ 140737488351232) : Calls Tryz.prog 24 #[.int .i64 7, .string s] w (CkD w (ckO true s.size (wlK 7 s) (wcK 7 s) (foK 7 s))) :=
  rcheck_text w 7 ⟨#[68, 84]⟩ 32 1 26 false true false s (by decide) (lgG false false 26 s s.size 0 0) (wcK 7 s) (foK 7 s) (fun W => Rp.rabout_open W 7)
    (fun W => long_any W 7 ⟨#[68, 84]⟩ 32 1 26 true false true false s hs (by decide) false (by decide)) (lg_b 26 ⟨#[68, 84]⟩ s)
    (fun W => by rw [wc_7]; exact bad_bytes W 7 ⟨#[68, 84]⟩ 32 1 26 true false s hs (plB 7) (fun W b => plain_7 W b))
    (fun _ _ W => by rw [show foK 7 s = _ from ((moment_eq s).symm).symm]; exact (formed_7 W s hs).mono fun _ _ x => ⟨x.1, x.2 ▸ Below.refl _ _⟩)
theorem rcheck_8 (w : World) (s : ByteArray) : Calls Tryz.prog 24 #[.int .i64 8, .string s] w (CkD w (ckO true s.size (wlK 8 s) (wcK 8 s) (foK 8 s))) :=
  rcheck_bytes w 8 ⟨#[70, 68]⟩ 0 8 8 false true false s (by decide) (by decide) (by decide) (fun W => Rp.rabout_open W 8)
    (fun W => bad_none W 8 ⟨#[70, 68]⟩ 0 8 8 false true false s) (fun W => (formed_else W 8 (by decide) s).mono fun _ _ x => ⟨x.1, x.2 ▸ Below.refl _ _⟩)
theorem rcheck_9 (w : World) (s : ByteArray) : Calls Tryz.prog 24 #[.int .i64 9, .string s] w (CkD w (ckO true s.size (wlK 9 s) (wcK 9 s) (foK 9 s))) :=
  rcheck_bytes w 9 ⟨#[70, 76]⟩ 0 4 4 false true false s (by decide) (by decide) (by decide) (fun W => Rp.rabout_open W 9)
    (fun W => bad_none W 9 ⟨#[70, 76]⟩ 0 4 4 false true false s) (fun W => (formed_else W 9 (by decide) s).mono fun _ _ x => ⟨x.1, x.2 ▸ Below.refl _ _⟩)
theorem rcheck_10 (w : World) (s : ByteArray) (hs : s.size ≤ 140737488351232) : Calls Tryz.prog 24 #[.int .i64 10, .string s] w (CkD w (ckO true s.size (wlK 10 s) (wcK 10 s) (foK 10 s))) :=
  rcheck_text w 10 ⟨#[73, 83]⟩ 32 1 12 false true false s (by decide) (lgG false false 12 s s.size 0 0) (wcK 10 s) (foK 10 s) (fun W => Rp.rabout_open W 10)
    (fun W => long_any W 10 ⟨#[73, 83]⟩ 32 1 12 true false true false s hs (by decide) false (by decide)) (lg_b 12 ⟨#[73, 83]⟩ s)
    (fun W => by rw [wc_10]; exact bad_bytes W 10 ⟨#[73, 83]⟩ 32 1 12 true false s hs (plB 10) (fun W b => plain_10 W b))
    (fun h1 _ W => by rw [show foK 10 s = _ from ((whole_eq s).symm).symm]; exact (formed_10 W s (by have := small_of (by decide) h1; omega)).mono fun _ _ x => ⟨x.1, x.2 ▸ Below.refl _ _⟩)
theorem rcheck_11 (w : World) (s : ByteArray) (hs : s.size ≤ 140737488351232) : Calls Tryz.prog 24 #[.int .i64 11, .string s] w (CkD w (ckO true s.size (wlK 11 s) (wcK 11 s) (foK 11 s))) :=
  rcheck_text w 11 ⟨#[76, 79]⟩ 32 1 64 true true false s (by decide) (lgG false true 64 s s.size 0 0) (wcK 11 s) (foK 11 s) (fun W => Rp.rabout_open W 11)
    (fun W => long_any W 11 ⟨#[76, 79]⟩ 32 1 64 true true true false s hs (by decide) false (by decide)) (lg_r 64 ⟨#[76, 79]⟩ s (by kernel_rfl))
    (fun W => by rw [wc_11]; exact bad_chars W 11 ⟨#[76, 79]⟩ 32 1 64 true false s hs (chB false) (fun W c => char_else W 11 (by decide) c))
    (fun _ _ W => (formed_else W 11 (by decide) s).mono fun _ _ x => ⟨x.1, x.2 ▸ Below.refl _ _⟩)
theorem rcheck_12 (w : World) (s : ByteArray) (hs : s.size ≤ 140737488351232) : Calls Tryz.prog 24 #[.int .i64 12, .string s] w (CkD w (ckO true s.size (wlK 12 s) (wcK 12 s) (foK 12 s))) :=
  rcheck_text w 12 ⟨#[76, 84]⟩ 32 1 10240 true false false s (by decide) (lgG false true 10240 s s.size 0 0) (wcK 12 s) (foK 12 s) (fun W => Rp.rabout_open W 12)
    (fun W => long_any W 12 ⟨#[76, 84]⟩ 32 1 10240 true true false false s hs (by decide) false (by decide)) (lg_r 10240 ⟨#[76, 84]⟩ s (by kernel_rfl))
    (fun W => by rw [wc_12]; exact bad_chars W 12 ⟨#[76, 84]⟩ 32 1 10240 false false s hs (chB true) (fun W c => char_12 W c))
    (fun _ _ W => (formed_else W 12 (by decide) s).mono fun _ _ x => ⟨x.1, x.2 ▸ Below.refl _ _⟩)
theorem rcheck_13 (w : World) (s : ByteArray) : Calls Tryz.prog 24 #[.int .i64 13, .string s] w (CkD w (ckO true s.size (wlK 13 s) (wcK 13 s) (foK 13 s))) :=
  rcheck_bytes w 13 ⟨#[79, 66]⟩ 0 1 0 false false true s (by decide) (by decide) (by decide) (fun W => Rp.rabout_open W 13)
    (fun W => bad_none W 13 ⟨#[79, 66]⟩ 0 1 0 false false true s) (fun W => (formed_else W 13 (by decide) s).mono fun _ _ x => ⟨x.1, x.2 ▸ Below.refl _ _⟩)
theorem rcheck_14 (w : World) (s : ByteArray) : Calls Tryz.prog 24 #[.int .i64 14, .string s] w (CkD w (ckO true s.size (wlK 14 s) (wcK 14 s) (foK 14 s))) :=
  rcheck_bytes w 14 ⟨#[79, 87]⟩ 0 2 0 false false true s (by decide) (by decide) (by decide) (fun W => Rp.rabout_open W 14)
    (fun W => bad_none W 14 ⟨#[79, 87]⟩ 0 2 0 false false true s) (fun W => (formed_else W 14 (by decide) s).mono fun _ _ x => ⟨x.1, x.2 ▸ Below.refl _ _⟩)
theorem rcheck_15 (w : World) (s : ByteArray) (hs : s.size ≤ 140737488351232) : Calls Tryz.prog 24 #[.int .i64 15, .string s] w (CkD w (ckO true s.size (wlK 15 s) (wcK 15 s) (foK 15 s))) :=
  rcheck_text w 15 ⟨#[80, 78]⟩ 32 1 64 true true false s (by decide) (lgG true true 64 s s.size 0 0) (wcK 15 s) (foK 15 s) (fun W => Rp.rabout_open W 15)
    (fun W => long_any W 15 ⟨#[80, 78]⟩ 32 1 64 true true true false s hs (by decide) true (by decide)) (lg_n 64 ⟨#[80, 78]⟩ s (by kernel_rfl))
    (fun W => by rw [wc_15]; exact bad_chars W 15 ⟨#[80, 78]⟩ 32 1 64 true false s hs (chB false) (fun W c => char_else W 15 (by decide) c))
    (fun _ _ W => by rw [show foK 15 s = _ from ((name_eq s).symm).symm]; exact (formed_15 W s hs).mono fun _ _ x => ⟨x.1, x.2 ▸ Below.refl _ _⟩)
theorem rcheck_16 (w : World) (s : ByteArray) (hs : s.size ≤ 140737488351232) : Calls Tryz.prog 24 #[.int .i64 16, .string s] w (CkD w (ckO true s.size (wlK 16 s) (wcK 16 s) (foK 16 s))) :=
  rcheck_text w 16 ⟨#[83, 72]⟩ 32 1 16 true true false s (by decide) (lgG false true 16 s s.size 0 0) (wcK 16 s) (foK 16 s) (fun W => Rp.rabout_open W 16)
    (fun W => long_any W 16 ⟨#[83, 72]⟩ 32 1 16 true true true false s hs (by decide) false (by decide)) (lg_r 16 ⟨#[83, 72]⟩ s (by kernel_rfl))
    (fun W => by rw [wc_16]; exact bad_chars W 16 ⟨#[83, 72]⟩ 32 1 16 true false s hs (chB false) (fun W c => char_else W 16 (by decide) c))
    (fun _ _ W => (formed_else W 16 (by decide) s).mono fun _ _ x => ⟨x.1, x.2 ▸ Below.refl _ _⟩)
theorem rcheck_17 (w : World) (s : ByteArray) : Calls Tryz.prog 24 #[.int .i64 17, .string s] w (CkD w (ckO true s.size (wlK 17 s) (wcK 17 s) (foK 17 s))) :=
  rcheck_bytes w 17 ⟨#[83, 76]⟩ 0 4 4 false true false s (by decide) (by decide) (by decide) (fun W => Rp.rabout_open W 17)
    (fun W => bad_none W 17 ⟨#[83, 76]⟩ 0 4 4 false true false s) (fun W => (formed_else W 17 (by decide) s).mono fun _ _ x => ⟨x.1, x.2 ▸ Below.refl _ _⟩)
theorem rcheck_19 (w : World) (s : ByteArray) : Calls Tryz.prog 24 #[.int .i64 19, .string s] w (CkD w (ckO true s.size (wlK 19 s) (wcK 19 s) (foK 19 s))) :=
  rcheck_bytes w 19 ⟨#[83, 83]⟩ 0 2 2 false true false s (by decide) (by decide) (by decide) (fun W => Rp.rabout_open W 19)
    (fun W => bad_none W 19 ⟨#[83, 83]⟩ 0 2 2 false true false s) (fun W => (formed_else W 19 (by decide) s).mono fun _ _ x => ⟨x.1, x.2 ▸ Below.refl _ _⟩)
theorem rcheck_20 (w : World) (s : ByteArray) (hs : s.size ≤ 140737488351232) : Calls Tryz.prog 24 #[.int .i64 20, .string s] w (CkD w (ckO true s.size (wlK 20 s) (wcK 20 s) (foK 20 s))) :=
  rcheck_text w 20 ⟨#[83, 84]⟩ 32 1 1024 true false false s (by decide) (lgG false true 1024 s s.size 0 0) (wcK 20 s) (foK 20 s) (fun W => Rp.rabout_open W 20)
    (fun W => long_any W 20 ⟨#[83, 84]⟩ 32 1 1024 true true false false s hs (by decide) false (by decide)) (lg_r 1024 ⟨#[83, 84]⟩ s (by kernel_rfl))
    (fun W => by rw [wc_20]; exact bad_chars W 20 ⟨#[83, 84]⟩ 32 1 1024 false false s hs (chB true) (fun W c => char_20 W c))
    (fun _ _ W => (formed_else W 20 (by decide) s).mono fun _ _ x => ⟨x.1, x.2 ▸ Below.refl _ _⟩)
theorem rcheck_21 (w : World) (s : ByteArray) (hs : s.size ≤ 140737488351232) : Calls Tryz.prog 24 #[.int .i64 21, .string s] w (CkD w (ckO true s.size (wlK 21 s) (wcK 21 s) (foK 21 s))) :=
  rcheck_text w 21 ⟨#[84, 77]⟩ 32 1 14 false true false s (by decide) (lgG false false 14 s s.size 0 0) (wcK 21 s) (foK 21 s) (fun W => Rp.rabout_open W 21)
    (fun W => long_any W 21 ⟨#[84, 77]⟩ 32 1 14 true false true false s hs (by decide) false (by decide)) (lg_b 14 ⟨#[84, 77]⟩ s)
    (fun W => by rw [wc_21]; exact bad_bytes W 21 ⟨#[84, 77]⟩ 32 1 14 true false s hs (plB 21) (fun W b => plain_21 W b))
    (fun _ _ W => by rw [show foK 21 s = _ from ((time_eq s).symm).symm]; exact (formed_21 W s hs).mono fun _ _ x => ⟨x.1, x.2 ▸ Below.refl _ _⟩)
theorem rcheck_22 (w : World) (s : ByteArray) (hs : s.size ≤ 140737488351232) : Calls Tryz.prog 24 #[.int .i64 22, .string s] w (CkD w (ckO true s.size (wlK 22 s) (wcK 22 s) (foK 22 s))) :=
  rcheck_text w 22 ⟨#[85, 67]⟩ 32 1 0 true true true s (by decide) (lgG false true 0 s s.size 0 0) (wcK 22 s) (foK 22 s) (fun W => Rp.rabout_open W 22)
    (fun W => long_any W 22 ⟨#[85, 67]⟩ 32 1 0 true true true true s hs (by decide) false (by decide)) (lg_r 0 ⟨#[85, 67]⟩ s (by kernel_rfl))
    (fun W => by rw [wc_22]; exact bad_chars W 22 ⟨#[85, 67]⟩ 32 1 0 true true s hs (chB false) (fun W c => char_else W 22 (by decide) c))
    (fun _ _ W => (formed_else W 22 (by decide) s).mono fun _ _ x => ⟨x.1, x.2 ▸ Below.refl _ _⟩)
theorem rcheck_23 (w : World) (s : ByteArray) (hs : s.size ≤ 140737488351232) : Calls Tryz.prog 24 #[.int .i64 23, .string s] w (CkD w (ckO true s.size (wlK 23 s) (wcK 23 s) (foK 23 s))) :=
  rcheck_text w 23 ⟨#[85, 73]⟩ 0 1 64 false true false s (by decide) (lgG false false 64 s s.size 0 0) (wcK 23 s) (foK 23 s) (fun W => Rp.rabout_open W 23)
    (fun W => long_any W 23 ⟨#[85, 73]⟩ 0 1 64 true false true false s hs (by decide) false (by decide)) (lg_b 64 ⟨#[85, 73]⟩ s)
    (fun W => by rw [wc_23]; exact bad_bytes W 23 ⟨#[85, 73]⟩ 0 1 64 true false s hs (plB 23) (fun W b => plain_23 W b))
    (fun _ h W => by rw [show foK 23 s = _ from (fo_23 s h).symm]; exact (formed_23 W s hs).mono fun _ _ x => ⟨x.1, x.2 ▸ Below.refl _ _⟩)
theorem rcheck_24 (w : World) (s : ByteArray) : Calls Tryz.prog 24 #[.int .i64 24, .string s] w (CkD w (ckO true s.size (wlK 24 s) (wcK 24 s) (foK 24 s))) :=
  rcheck_bytes w 24 ⟨#[85, 76]⟩ 0 4 4 false true false s (by decide) (by decide) (by decide) (fun W => Rp.rabout_open W 24)
    (fun W => bad_none W 24 ⟨#[85, 76]⟩ 0 4 4 false true false s) (fun W => (formed_else W 24 (by decide) s).mono fun _ _ x => ⟨x.1, x.2 ▸ Below.refl _ _⟩)
theorem rcheck_25 (w : World) (s : ByteArray) : Calls Tryz.prog 24 #[.int .i64 25, .string s] w (CkD w (ckO true s.size (wlK 25 s) (wcK 25 s) (foK 25 s))) :=
  rcheck_bytes w 25 ⟨#[85, 78]⟩ 0 1 0 false false true s (by decide) (by decide) (by decide) (fun W => Rp.rabout_open W 25)
    (fun W => bad_none W 25 ⟨#[85, 78]⟩ 0 1 0 false false true s) (fun W => (formed_else W 25 (by decide) s).mono fun _ _ x => ⟨x.1, x.2 ▸ Below.refl _ _⟩)
theorem rcheck_26 (w : World) (s : ByteArray) (hs : s.size ≤ 140737488351232) : Calls Tryz.prog 24 #[.int .i64 26, .string s] w (CkD w (ckO true s.size (wlK 26 s) (wcK 26 s) (foK 26 s))) :=
  rcheck_text w 26 ⟨#[85, 82]⟩ 32 1 0 false false true s (by decide) (lgG false false 0 s s.size 0 0) (wcK 26 s) (foK 26 s) (fun W => Rp.rabout_open W 26)
    (fun W => long_any W 26 ⟨#[85, 82]⟩ 32 1 0 true false false true s hs (by decide) false (by decide)) (lg_b 0 ⟨#[85, 82]⟩ s)
    (fun W => by rw [wc_26]; exact bad_bytes W 26 ⟨#[85, 82]⟩ 32 1 0 false true s hs (plB 26) (fun W b => plain_26 W b))
    (fun _ _ W => (formed_else W 26 (by decide) s).mono fun _ _ x => ⟨x.1, x.2 ▸ Below.refl _ _⟩)
theorem rcheck_27 (w : World) (s : ByteArray) : Calls Tryz.prog 24 #[.int .i64 27, .string s] w (CkD w (ckO true s.size (wlK 27 s) (wcK 27 s) (foK 27 s))) :=
  rcheck_bytes w 27 ⟨#[85, 83]⟩ 0 2 2 false true false s (by decide) (by decide) (by decide) (fun W => Rp.rabout_open W 27)
    (fun W => bad_none W 27 ⟨#[85, 83]⟩ 0 2 2 false true false s) (fun W => (formed_else W 27 (by decide) s).mono fun _ _ x => ⟨x.1, x.2 ▸ Below.refl _ _⟩)
theorem rcheck_28 (w : World) (s : ByteArray) (hs : s.size ≤ 140737488351232) : Calls Tryz.prog 24 #[.int .i64 28, .string s] w (CkD w (ckO true s.size (wlK 28 s) (wcK 28 s) (foK 28 s))) :=
  rcheck_text w 28 ⟨#[85, 84]⟩ 32 1 0 true false true s (by decide) (lgG false true 0 s s.size 0 0) (wcK 28 s) (foK 28 s) (fun W => Rp.rabout_open W 28)
    (fun W => long_any W 28 ⟨#[85, 84]⟩ 32 1 0 true true false true s hs (by decide) false (by decide)) (lg_r 0 ⟨#[85, 84]⟩ s (by kernel_rfl))
    (fun W => by rw [wc_28]; exact bad_chars W 28 ⟨#[85, 84]⟩ 32 1 0 false true s hs (chB true) (fun W c => char_28 W c))
    (fun _ _ W => (formed_else W 28 (by decide) s).mono fun _ _ x => ⟨x.1, x.2 ▸ Below.refl _ _⟩)
theorem rcheck_none (w : World) (v : Int) (h : okV v = false) (s : ByteArray) : Calls Tryz.prog 24 #[.int .i64 v, .string s] w (CkD w (some ([(dB, 0)], 62))) := by
  by_cases h18 : v = 18
  · rw [h18]
    exact rcheck_18 w _ _ 1 0 _ _ _ _ s (fun W => Rp.rabout_open W 18)
  · have hn : ¬ (1 ≤ v ∧ v ≤ 28) := by
      unfold okV at h
      simp only [decide_eq_false_iff_not] at h
      omega
    have h0 : Rp.vn v = 0 := by unfold Rp.vn; rw [if_neg (by omega)]
    refine rcheck_no w v (Rp.nm 0) (Rp.pd 0) 0 0 (Rp.tx 0) (Rp.ch 0) (Rp.mu 0) (Rp.lo 0) s (fun W => ?_)
    have c := Rp.rabout_open W v
    rw [h0, decide_eq_false hn] at c
    exact c
/-- The document's Check says what the program's says. -/
theorem rcheck_any (w : World) (v : Int) (s : ByteArray) (hs : s.size ≤ 140737488351232) : Calls Tryz.prog 24 #[.int .i64 v, .string s] w (CkD w (ckK v s)) := by
  unfold ckK
  cases h : okV v with
  | false => exact rcheck_none w v h s
  | true =>
    have hv : 1 ≤ v ∧ v ≤ 28 ∧ v ≠ 18 := by unfold okV at h; simpa using h
    have hk : v = 1 ∨ v = 2 ∨ v = 3 ∨ v = 4 ∨ v = 5 ∨ v = 6 ∨ v = 7 ∨ v = 8 ∨ v = 9 ∨ v = 10 ∨ v = 11 ∨ v = 12 ∨ v = 13 ∨ v = 14 ∨ v = 15 ∨ v = 16 ∨ v = 17 ∨ v = 19 ∨ v = 20 ∨ v = 21 ∨ v = 22 ∨ v = 23 ∨ v = 24 ∨ v = 25 ∨ v = 26 ∨ v = 27 ∨ v = 28 := by omega
    rcases hk with rfl | rfl | rfl | rfl | rfl | rfl | rfl | rfl | rfl | rfl | rfl | rfl | rfl | rfl | rfl | rfl | rfl | rfl | rfl | rfl | rfl | rfl | rfl | rfl | rfl | rfl | rfl
    · exact rcheck_1 w s hs
    · exact rcheck_2 w s hs
    · exact rcheck_3 w s
    · exact rcheck_4 w s hs
    · exact rcheck_5 w s hs
    · exact rcheck_6 w s hs
    · exact rcheck_7 w s hs
    · exact rcheck_8 w s
    · exact rcheck_9 w s
    · exact rcheck_10 w s hs
    · exact rcheck_11 w s hs
    · exact rcheck_12 w s hs
    · exact rcheck_13 w s
    · exact rcheck_14 w s
    · exact rcheck_15 w s hs
    · exact rcheck_16 w s hs
    · exact rcheck_17 w s
    · exact rcheck_19 w s
    · exact rcheck_20 w s hs
    · exact rcheck_21 w s hs
    · exact rcheck_22 w s hs
    · exact rcheck_23 w s hs
    · exact rcheck_24 w s
    · exact rcheck_25 w s
    · exact rcheck_26 w s hs
    · exact rcheck_27 w s
    · exact rcheck_28 w s hs
end Go.Proofs.YtdggplhkeekdjaaGreatDoor.Ck
