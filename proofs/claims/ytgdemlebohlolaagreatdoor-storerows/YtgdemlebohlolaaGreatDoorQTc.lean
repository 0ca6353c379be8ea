import Derived.Test.YtgdemlebohlolaaGreatDoorQTa
/-
  DERIVED. One piece behind the other.
-/
namespace Go.Proofs.YtgdemlebohlolaaGreatDoor.Tm
open Go Go.Proofs Go.RowKit

theorem CkF.on {w w' : World} {q : Nat} {f : Nat → Value} {s : ByteArray} {S : Mst} (h : CkF w q f s S) (hb : Below w.heap.size w w') : CkF w' q f s S :=
  { h with cur := h.cur.on hb, dbt := h.dbt.on hb, tab := h.tab.on hb }
theorem Ck.on {w w' : World} {q : Nat} {s : ByteArray} {S : Mst} (h : Ck w q s S) (hb : Below w.heap.size w w') : Ck w' q s S := by
  obtain ⟨f, hf⟩ := h
  exact ⟨f, hf.on hb⟩
theorem onDigit_ck {w : World} {q : Nat} {s : ByteArray} {S : Mst} (h : Ck w q s S) :
    Calls Tryz.prog 150 #[.pointer (some ⟨q, 0, none⟩)] w fun e w' => e = .returned (.bool (!S.b && isD s S.a)) ∧ ∃ n, w' = w.drewN n := by
  obtain ⟨f, hf⟩ := h
  exact onDigit_any w q f s S.a S.b hf.cur hf.le

def moreS (s : ByteArray) : List (Mst → Mst) → Mst → Mst
  | [], S => S
  | t :: l, S => if (!S.b && isD s S.a) = true then moreS s l (t S) else S

def fv (k q : Nat) : Value := .func (.func k) #[.pointer (some ⟨q, 0, none⟩)] #[]

set_option maxRecDepth 100000 in
set_option maxHeartbeats 2000000 in
theorem more2_ck {w : World} {q p : Nat} {s : ByteArray} {S : Mst} (h : Ck w q s S) (hs : s.size ≤ 140737488351232) (hpq : p ≠ q)
    (h0 : w.cell? ⟨p, 0, none⟩ = some (fv 122 q))
    (h1 : w.cell? ⟨p, 1, none⟩ = some (fv 123 q)) :
    Calls Tryz.prog 121 #[.pointer (some ⟨q, 0, none⟩), .slice (some ⟨p, 0, none⟩) 2 2] w (PostC w q s (moreS s [minuteS s, secondS s] S)) := by
  obtain ⟨F, hF⟩ : ∃ F, moreS s [minuteS s, secondS s] S = F := ⟨_, rfl⟩
  have HF0 : Hid (moreS s ([minuteS s, secondS s].drop 0) S = F) := hF
  rw [hF]
  have HC0 : Hid (Ck w q s S) := h
  have HP : Hid (w.cell? ⟨p, 0, none⟩ = some (fv 122 q) ∧ w.cell? ⟨p, 1, none⟩ = some (fv 123 q)) := ⟨h0, h1⟩
  clear hF h h0 h1
  go_enter Tryz.func121, Tryz.ntmps121
  go_wp2
  go_loopg [8] 2 (fun g s8 wx => ∃ (i : Nat) (Sx : Mst), s8 = .int .i64 (i : Int) ∧ g + i = 2 ∧ Hid (Ck wx q s Sx) ∧ Hid (moreS s ([minuteS s, secondS s].drop i) Sx = F) ∧ Hid (w.grownBy wx (some q)))
  case atStart => exact ⟨0, S, rfl, by omega, HC0, HF0, grown_refl _ _⟩
  case round =>
    clear HC0 HF0
    obtain ⟨i, Sx, rfl, hg, HC, HE, HG⟩ := hrel
    have c72 := onDigit_ck HC.out
    have hi : i = 0 ∨ i = 1 ∨ i = 2 := by omega
    rcases hi with rfl | rfl | rfl
    · have hcell : wr.cell? ⟨p, 0, none⟩ = some (.func (.func 122) #[.pointer (some ⟨q, 0, none⟩)] #[]) := HG.out.cell (HP.out.1) (by simpa using hpq)
      have hE : (if (!Sx.b && isD s Sx.a) = true then moreS s ([minuteS s, secondS s].drop 1) (minuteS s Sx) else Sx) = F := HE.out
      cases hd : (!Sx.b && isD s Sx.a) with
      | false =>
        rw [hd] at c72 hE
        rw [if_neg (by decide)] at hE
        subst hE
        clear hd HE
        go_wp2_with (go_at_call 150; refine c72.mono ?_; rintro e w' ⟨rfl, n, rfl⟩)
        exact bodyPost_ret (v := .tuple #[]) (by simp [results, go_sem]) rfl ⟨_, rfl, HC.out.on (below_drewN (Below.refl _ _) n), grown_drewN HG.out n⟩
      | true =>
        rw [hd] at c72 hE
        rw [if_pos rfl] at hE
        have HE2 : Hid (moreS s ([minuteS s, secondS s].drop 1) (minuteS s Sx) = F) := hE
        have cf := fun n => minute_ck (HC.out.on (below_drewN (Below.refl _ wr) n)) hs
        clear hd HE hE
        go_wp2_with (first | (go_at_call 150; refine c72.mono ?_; rintro e w' ⟨rfl, n, rfl⟩) | (go_at_call 122; refine Stop.mk ?_))
        refine Stop.out ((cf _).mono ?_)
        rintro e W2 ⟨v, rfl, hc2, hg2⟩
        have HC2 : Hid (Ck W2 q s (minuteS s Sx)) := hc2
        have HG2 : Hid (w.grownBy W2 (some q)) := (grown_drewN HG.out _).trans hg2
        clear hc2 hg2 cf c72 HC HG
        go_wp2
        go_roundg 1
        case measure => omega
        case rel => exact ⟨1, minuteS s Sx, rfl, by omega, HC2, HE2, HG2⟩
    · have hcell : wr.cell? ⟨p, 1, none⟩ = some (.func (.func 123) #[.pointer (some ⟨q, 0, none⟩)] #[]) := HG.out.cell (HP.out.2) (by simpa using hpq)
      have hE : (if (!Sx.b && isD s Sx.a) = true then moreS s ([minuteS s, secondS s].drop 2) (secondS s Sx) else Sx) = F := HE.out
      cases hd : (!Sx.b && isD s Sx.a) with
      | false =>
        rw [hd] at c72 hE
        rw [if_neg (by decide)] at hE
        subst hE
        clear hd HE
        go_wp2_with (go_at_call 150; refine c72.mono ?_; rintro e w' ⟨rfl, n, rfl⟩)
        exact bodyPost_ret (v := .tuple #[]) (by simp [results, go_sem]) rfl ⟨_, rfl, HC.out.on (below_drewN (Below.refl _ _) n), grown_drewN HG.out n⟩
      | true =>
        rw [hd] at c72 hE
        rw [if_pos rfl] at hE
        have HE2 : Hid (moreS s ([minuteS s, secondS s].drop 2) (secondS s Sx) = F) := hE
        have cf := fun n => second_ck (HC.out.on (below_drewN (Below.refl _ wr) n)) hs
        clear hd HE hE
        go_wp2_with (first | (go_at_call 150; refine c72.mono ?_; rintro e w' ⟨rfl, n, rfl⟩) | (go_at_call 123; refine Stop.mk ?_))
        refine Stop.out ((cf _).mono ?_)
        rintro e W2 ⟨v, rfl, hc2, hg2⟩
        have HC2 : Hid (Ck W2 q s (secondS s Sx)) := hc2
        have HG2 : Hid (w.grownBy W2 (some q)) := (grown_drewN HG.out _).trans hg2
        clear hc2 hg2 cf c72 HC HG
        go_wp2
        go_roundg 0
        case measure => omega
        case rel => exact ⟨2, secondS s Sx, rfl, by omega, HC2, HE2, HG2⟩
    · have hE : Sx = F := HE.out
      subst hE
      clear HE
      go_wp2
      exact bodyPost_end (results_none rfl _ _ _) rfl ⟨_, rfl, HC.out, HG.out⟩
end Go.Proofs.YtgdemlebohlolaaGreatDoor.Tm

/-
  DERIVED. One piece behind the other: five of them.
-/
namespace Go.Proofs.YtgdemlebohlolaaGreatDoor.Tm
open Go Go.Proofs Go.RowKit

set_option maxRecDepth 100000 in
set_option maxHeartbeats 2000000 in
theorem more5_ck {w : World} {q p : Nat} {s : ByteArray} {S : Mst} (h : Ck w q s S) (hs : s.size ≤ 140737488351232) (hpq : p ≠ q)
    (h0 : w.cell? ⟨p, 0, none⟩ = some (fv 118 q))
    (h1 : w.cell? ⟨p, 1, none⟩ = some (fv 119 q))
    (h2 : w.cell? ⟨p, 2, none⟩ = some (fv 120 q))
    (h3 : w.cell? ⟨p, 3, none⟩ = some (fv 122 q))
    (h4 : w.cell? ⟨p, 4, none⟩ = some (fv 123 q)) :
    Calls Tryz.prog 121 #[.pointer (some ⟨q, 0, none⟩), .slice (some ⟨p, 0, none⟩) 5 5] w (PostC w q s (moreS s [monthS s, dayS s, hourS s, minuteS s, secondS s] S)) := by
  obtain ⟨F, hF⟩ : ∃ F, moreS s [monthS s, dayS s, hourS s, minuteS s, secondS s] S = F := ⟨_, rfl⟩
  have HF0 : Hid (moreS s ([monthS s, dayS s, hourS s, minuteS s, secondS s].drop 0) S = F) := hF
  rw [hF]
  have HC0 : Hid (Ck w q s S) := h
  have HP : Hid (w.cell? ⟨p, 0, none⟩ = some (fv 118 q) ∧ w.cell? ⟨p, 1, none⟩ = some (fv 119 q) ∧ w.cell? ⟨p, 2, none⟩ = some (fv 120 q) ∧ w.cell? ⟨p, 3, none⟩ = some (fv 122 q) ∧ w.cell? ⟨p, 4, none⟩ = some (fv 123 q)) := ⟨h0, h1, h2, h3, h4⟩
  clear hF h h0 h1 h2 h3 h4
  go_enter Tryz.func121, Tryz.ntmps121
  go_wp2
  go_loopg [8] 5 (fun g s8 wx => ∃ (i : Nat) (Sx : Mst), s8 = .int .i64 (i : Int) ∧ g + i = 5 ∧ Hid (Ck wx q s Sx) ∧ Hid (moreS s ([monthS s, dayS s, hourS s, minuteS s, secondS s].drop i) Sx = F) ∧ Hid (w.grownBy wx (some q)))
  case atStart => exact ⟨0, S, rfl, by omega, HC0, HF0, grown_refl _ _⟩
  case round =>
    clear HC0 HF0
    obtain ⟨i, Sx, rfl, hg, HC, HE, HG⟩ := hrel
    have c72 := onDigit_ck HC.out
    have hi : i = 0 ∨ i = 1 ∨ i = 2 ∨ i = 3 ∨ i = 4 ∨ i = 5 := by omega
    rcases hi with rfl | rfl | rfl | rfl | rfl | rfl
    · have hcell : wr.cell? ⟨p, 0, none⟩ = some (.func (.func 118) #[.pointer (some ⟨q, 0, none⟩)] #[]) := HG.out.cell (HP.out.1) (by simpa using hpq)
      have hE : (if (!Sx.b && isD s Sx.a) = true then moreS s ([monthS s, dayS s, hourS s, minuteS s, secondS s].drop 1) (monthS s Sx) else Sx) = F := HE.out
      cases hd : (!Sx.b && isD s Sx.a) with
      | false =>
        rw [hd] at c72 hE
        rw [if_neg (by decide)] at hE
        subst hE
        clear hd HE
        go_wp2_with (go_at_call 150; refine c72.mono ?_; rintro e w' ⟨rfl, n, rfl⟩)
        exact bodyPost_ret (v := .tuple #[]) (by simp [results, go_sem]) rfl ⟨_, rfl, HC.out.on (below_drewN (Below.refl _ _) n), grown_drewN HG.out n⟩
      | true =>
        rw [hd] at c72 hE
        rw [if_pos rfl] at hE
        have HE2 : Hid (moreS s ([monthS s, dayS s, hourS s, minuteS s, secondS s].drop 1) (monthS s Sx) = F) := hE
        have cf := fun n => month_ck (HC.out.on (below_drewN (Below.refl _ wr) n)) hs
        clear hd HE hE
        go_wp2_with (first | (go_at_call 150; refine c72.mono ?_; rintro e w' ⟨rfl, n, rfl⟩) | (go_at_call 118; refine Stop.mk ?_))
        refine Stop.out ((cf _).mono ?_)
        rintro e W2 ⟨v, rfl, hc2, hg2⟩
        have HC2 : Hid (Ck W2 q s (monthS s Sx)) := hc2
        have HG2 : Hid (w.grownBy W2 (some q)) := (grown_drewN HG.out _).trans hg2
        clear hc2 hg2 cf c72 HC HG
        go_wp2
        go_roundg 4
        case measure => omega
        case rel => exact ⟨1, monthS s Sx, rfl, by omega, HC2, HE2, HG2⟩
    · have hcell : wr.cell? ⟨p, 1, none⟩ = some (.func (.func 119) #[.pointer (some ⟨q, 0, none⟩)] #[]) := HG.out.cell (HP.out.2.1) (by simpa using hpq)
      have hE : (if (!Sx.b && isD s Sx.a) = true then moreS s ([monthS s, dayS s, hourS s, minuteS s, secondS s].drop 2) (dayS s Sx) else Sx) = F := HE.out
      cases hd : (!Sx.b && isD s Sx.a) with
      | false =>
        rw [hd] at c72 hE
        rw [if_neg (by decide)] at hE
        subst hE
        clear hd HE
        go_wp2_with (go_at_call 150; refine c72.mono ?_; rintro e w' ⟨rfl, n, rfl⟩)
        exact bodyPost_ret (v := .tuple #[]) (by simp [results, go_sem]) rfl ⟨_, rfl, HC.out.on (below_drewN (Below.refl _ _) n), grown_drewN HG.out n⟩
      | true =>
        rw [hd] at c72 hE
        rw [if_pos rfl] at hE
        have HE2 : Hid (moreS s ([monthS s, dayS s, hourS s, minuteS s, secondS s].drop 2) (dayS s Sx) = F) := hE
        have cf := fun n => day_ck (HC.out.on (below_drewN (Below.refl _ wr) n)) hs
        clear hd HE hE
        go_wp2_with (first | (go_at_call 150; refine c72.mono ?_; rintro e w' ⟨rfl, n, rfl⟩) | (go_at_call 119; refine Stop.mk ?_))
        refine Stop.out ((cf _).mono ?_)
        rintro e W2 ⟨v, rfl, hc2, hg2⟩
        have HC2 : Hid (Ck W2 q s (dayS s Sx)) := hc2
        have HG2 : Hid (w.grownBy W2 (some q)) := (grown_drewN HG.out _).trans hg2
        clear hc2 hg2 cf c72 HC HG
        go_wp2
        go_roundg 3
        case measure => omega
        case rel => exact ⟨2, dayS s Sx, rfl, by omega, HC2, HE2, HG2⟩
    · have hcell : wr.cell? ⟨p, 2, none⟩ = some (.func (.func 120) #[.pointer (some ⟨q, 0, none⟩)] #[]) := HG.out.cell (HP.out.2.2.1) (by simpa using hpq)
      have hE : (if (!Sx.b && isD s Sx.a) = true then moreS s ([monthS s, dayS s, hourS s, minuteS s, secondS s].drop 3) (hourS s Sx) else Sx) = F := HE.out
      cases hd : (!Sx.b && isD s Sx.a) with
      | false =>
        rw [hd] at c72 hE
        rw [if_neg (by decide)] at hE
        subst hE
        clear hd HE
        go_wp2_with (go_at_call 150; refine c72.mono ?_; rintro e w' ⟨rfl, n, rfl⟩)
        exact bodyPost_ret (v := .tuple #[]) (by simp [results, go_sem]) rfl ⟨_, rfl, HC.out.on (below_drewN (Below.refl _ _) n), grown_drewN HG.out n⟩
      | true =>
        rw [hd] at c72 hE
        rw [if_pos rfl] at hE
        have HE2 : Hid (moreS s ([monthS s, dayS s, hourS s, minuteS s, secondS s].drop 3) (hourS s Sx) = F) := hE
        have cf := fun n => hour_ck (HC.out.on (below_drewN (Below.refl _ wr) n)) hs
        clear hd HE hE
        go_wp2_with (first | (go_at_call 150; refine c72.mono ?_; rintro e w' ⟨rfl, n, rfl⟩) | (go_at_call 120; refine Stop.mk ?_))
        refine Stop.out ((cf _).mono ?_)
        rintro e W2 ⟨v, rfl, hc2, hg2⟩
        have HC2 : Hid (Ck W2 q s (hourS s Sx)) := hc2
        have HG2 : Hid (w.grownBy W2 (some q)) := (grown_drewN HG.out _).trans hg2
        clear hc2 hg2 cf c72 HC HG
        go_wp2
        go_roundg 2
        case measure => omega
        case rel => exact ⟨3, hourS s Sx, rfl, by omega, HC2, HE2, HG2⟩
    · have hcell : wr.cell? ⟨p, 3, none⟩ = some (.func (.func 122) #[.pointer (some ⟨q, 0, none⟩)] #[]) := HG.out.cell (HP.out.2.2.2.1) (by simpa using hpq)
      have hE : (if (!Sx.b && isD s Sx.a) = true then moreS s ([monthS s, dayS s, hourS s, minuteS s, secondS s].drop 4) (minuteS s Sx) else Sx) = F := HE.out
      cases hd : (!Sx.b && isD s Sx.a) with
      | false =>
        rw [hd] at c72 hE
        rw [if_neg (by decide)] at hE
        subst hE
        clear hd HE
        go_wp2_with (go_at_call 150; refine c72.mono ?_; rintro e w' ⟨rfl, n, rfl⟩)
        exact bodyPost_ret (v := .tuple #[]) (by simp [results, go_sem]) rfl ⟨_, rfl, HC.out.on (below_drewN (Below.refl _ _) n), grown_drewN HG.out n⟩
      | true =>
        rw [hd] at c72 hE
        rw [if_pos rfl] at hE
        have HE2 : Hid (moreS s ([monthS s, dayS s, hourS s, minuteS s, secondS s].drop 4) (minuteS s Sx) = F) := hE
        have cf := fun n => minute_ck (HC.out.on (below_drewN (Below.refl _ wr) n)) hs
        clear hd HE hE
        go_wp2_with (first | (go_at_call 150; refine c72.mono ?_; rintro e w' ⟨rfl, n, rfl⟩) | (go_at_call 122; refine Stop.mk ?_))
        refine Stop.out ((cf _).mono ?_)
        rintro e W2 ⟨v, rfl, hc2, hg2⟩
        have HC2 : Hid (Ck W2 q s (minuteS s Sx)) := hc2
        have HG2 : Hid (w.grownBy W2 (some q)) := (grown_drewN HG.out _).trans hg2
        clear hc2 hg2 cf c72 HC HG
        go_wp2
        go_roundg 1
        case measure => omega
        case rel => exact ⟨4, minuteS s Sx, rfl, by omega, HC2, HE2, HG2⟩
    · have hcell : wr.cell? ⟨p, 4, none⟩ = some (.func (.func 123) #[.pointer (some ⟨q, 0, none⟩)] #[]) := HG.out.cell (HP.out.2.2.2.2) (by simpa using hpq)
      have hE : (if (!Sx.b && isD s Sx.a) = true then moreS s ([monthS s, dayS s, hourS s, minuteS s, secondS s].drop 5) (secondS s Sx) else Sx) = F := HE.out
      cases hd : (!Sx.b && isD s Sx.a) with
      | false =>
        rw [hd] at c72 hE
        rw [if_neg (by decide)] at hE
        subst hE
        clear hd HE
        go_wp2_with (go_at_call 150; refine c72.mono ?_; rintro e w' ⟨rfl, n, rfl⟩)
        exact bodyPost_ret (v := .tuple #[]) (by simp [results, go_sem]) rfl ⟨_, rfl, HC.out.on (below_drewN (Below.refl _ _) n), grown_drewN HG.out n⟩
      | true =>
        rw [hd] at c72 hE
        rw [if_pos rfl] at hE
        have HE2 : Hid (moreS s ([monthS s, dayS s, hourS s, minuteS s, secondS s].drop 5) (secondS s Sx) = F) := hE
        have cf := fun n => second_ck (HC.out.on (below_drewN (Below.refl _ wr) n)) hs
        clear hd HE hE
        go_wp2_with (first | (go_at_call 150; refine c72.mono ?_; rintro e w' ⟨rfl, n, rfl⟩) | (go_at_call 123; refine Stop.mk ?_))
        refine Stop.out ((cf _).mono ?_)
        rintro e W2 ⟨v, rfl, hc2, hg2⟩
        have HC2 : Hid (Ck W2 q s (secondS s Sx)) := hc2
        have HG2 : Hid (w.grownBy W2 (some q)) := (grown_drewN HG.out _).trans hg2
        clear hc2 hg2 cf c72 HC HG
        go_wp2
        go_roundg 0
        case measure => omega
        case rel => exact ⟨5, secondS s Sx, rfl, by omega, HC2, HE2, HG2⟩
    · have hE : Sx = F := HE.out
      subst hE
      clear HE
      go_wp2
      exact bodyPost_end (results_none rfl _ _ _) rfl ⟨_, rfl, HC.out, HG.out⟩
end Go.Proofs.YtgdemlebohlolaaGreatDoor.Tm
