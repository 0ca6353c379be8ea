import Derived.Test.YtghaeolehjgmnaaGreatDoorSb
import Derived.Test.YtghaeolehjgmnaaGreatDoorU
/-
  DERIVED. The law of Decode.
-/
namespace Go.Proofs.YtghaeolehjgmnaaGreatDoor
open Go Go.Proofs Go.RowKit

/-- All is as it was, but one block, and what is new. -/
structure Kp (g : Nat) (A V : World) : Prop where
  os : V.os = A.os
  tape : V.tape = A.tape
  output : V.output = A.output
  size : A.heap.size ≤ V.heap.size
  block : ∀ j, j < A.heap.size → j ≠ g → V.heap[j]? = A.heap[j]?
theorem Kp.refl (g : Nat) (A : World) : Kp g A A := ⟨rfl, rfl, rfl, Nat.le_refl _, fun _ _ _ => rfl⟩
theorem Kp.trans {g : Nat} {A V U : World} (h : Kp g A V) (k : Kp g V U) : Kp g A U :=
  ⟨k.os.trans h.os, k.tape.trans h.tape, k.output.trans h.output, Nat.le_trans h.size k.size, fun j hj hn => (k.block j (Nat.lt_of_lt_of_le hj h.size) hn).trans (h.block j hj hn)⟩
theorem Kp.of_below {g : Nat} {A V : World} (h : Below A.heap.size A V) : Kp g A V := ⟨h.os, h.tape, h.output, h.size, fun j hj _ => h.block j hj⟩
theorem Kp.set (g i : Nat) (A : World) (v : Value) : Kp g A (A.setCell ⟨g, i, none⟩ v) := ⟨rfl, rfl, rfl, by simp, fun k _ hk => Below.heap_setCell _ _ _ k (fun e => hk (by rw [e]))⟩
theorem Kp.grown {g : Nat} {A V U : World} {row : Option Nat} (h : Kp g A V) (k : V.grownBy U row) (hr : ∀ r, row = some r → A.heap.size ≤ r ∨ r = g) : Kp g A U :=
  ⟨k.os.trans h.os, k.tape.trans h.tape, k.output.trans h.output, Nat.le_trans h.size k.size, fun j hj hn => (k.block j (Nat.lt_of_lt_of_le hj h.size) (fun e => by rcases hr j e.symm with h1 | h1 <;> omega)).trans (h.block j hj hn)⟩
theorem Kp.cell {g : Nat} {A V : World} {b i : Nat} {v : Value} (h : Kp g A V) (hn : b ≠ g) (hc : A.cell? ⟨b, i, none⟩ = some v) : V.cell? ⟨b, i, none⟩ = some v :=
  (World.cell?_of_block (h.block b (cell_lt hc) hn)).trans hc
theorem Kp.below {g B : Nat} {A V : World} (h : Kp g A V) (hB : B ≤ g) (hA : B ≤ A.heap.size) : Below B A V := ⟨h.os, h.tape, h.output, h.size, fun k hk => h.block k (by omega) (by omega)⟩
theorem Kp.rerr {g : Nat} {A V : World} {f : Value} {o : Option (Int × Int)} {z : Int} (h : Kp g A V) (hg : A.cell? ⟨g, 0, none⟩ = some (.int .u8 z)) (hr : RErr A f o) : RErr V f o := by
  cases o with
  | none => exact hr
  | some ic =>
    obtain ⟨i, c⟩ := ic
    obtain ⟨l, kk, rfl, h0, h1⟩ := hr
    have hne : l ≠ g := by
      rintro rfl
      rw [hg] at h0
      cases h0
    exact ⟨l, kk, rfl, h.cell hne h0, h.cell hne h1⟩

theorem own_v {w : World} {B : Nat} {v : Value} {bs : List Nat} (h : w.ownsRow B 5 1 v bs.length (u8s bs)) (hb : ∀ x ∈ bs, x < 256) : V w v bs := by
  rcases Nat.eq_zero_or_pos bs.length with h0 | hp
  · obtain ⟨a, cap, rfl⟩ := own_val h
    have : bs = [] := List.eq_nil_of_length_eq_zero h0
    subst this
    exact .inl ⟨a, cap, rfl, rfl⟩
  · rcases h.2 with ⟨_, h0⟩ | ⟨g, cap, cur, rfl, _, _, hc, _⟩
    · omega
    · refine .inr ⟨g, 0, cap, rfl, hp, hc, fun k hk => ?_, hb⟩
      rw [Nat.zero_add, h.cellAt k (by omega), u8s_get bs k hk]

/-- Between two rounds of the copy that is turned round. -/
structure RevI (A : World) (g B n : Nat) (bs : List Nat) (i : Nat) (s17 : Value) (wr : World) : Prop where
  k : Kp g A wr
  o : wr.ownsRow B 5 1 (.slice (some ⟨g, 0, none⟩) (n + 3) (n + 3)) (n + 3) (u8s (bs.reverse.take i ++ bs.drop i ++ [160, 161, 162]))
  b : wr.ownsRow A.heap.size 5 1 s17 (bs.reverse.take i).length (u8s (bs.reverse.take i))

theorem rev_get {bs : List Nat} {i : Nat} (h : i < bs.length) : bs.reverse.getD i 0 = bs.getD (bs.length - 1 - i) 0 := by
  rw [List.getD_eq_getElem?_getD, List.getD_eq_getElem?_getD, List.getElem?_reverse h]
theorem rev_take {bs : List Nat} {i : Nat} (h : i < bs.length) : bs.reverse.take (i + 1) = bs.reverse.take i ++ [bs.getD (bs.length - 1 - i) 0] := by
  rw [List.take_add_one, List.getElem?_eq_getElem (by simp; exact h), ← rev_get h, List.getD_eq_getElem?_getD, List.getElem?_eq_getElem (by simp; exact h)]
  rfl
theorem rev_set {bs : List Nat} {i : Nat} (h : i < bs.length) : (u8s (bs.reverse.take i ++ bs.drop i ++ [160, 161, 162])).set i (.int .u8 ((bs.getD (bs.length - 1 - i) 0 : Nat) : Int)) = u8s (bs.reverse.take (i + 1) ++ bs.drop (i + 1) ++ [160, 161, 162]) := by
  have hl : (u8s (bs.reverse.take i)).length = i := by rw [u8s_length]; simp; omega
  have hd : bs.drop i = bs[i] :: bs.drop (i + 1) := List.drop_eq_getElem_cons h
  rw [hd, rev_take h, List.append_assoc, u8s_append, List.set_append_right _ _ (by omega), hl, Nat.sub_self]
  have e : (u8s (bs[i] :: bs.drop (i + 1) ++ [160, 161, 162])).set 0 (.int .u8 ((bs.getD (bs.length - 1 - i) 0 : Nat) : Int)) = u8s (bs.getD (bs.length - 1 - i) 0 :: bs.drop (i + 1) ++ [160, 161, 162]) := rfl
  rw [e, ← u8s_append]
  congr 1
  simp

set_option maxRecDepth 100000 in
set_option maxHeartbeats 8000000 in
theorem decodes_yes (w : World) (v : Value) (T : List ByteArray) (N : List (Nat × ByteArray)) (x : Bool) (k : Int) (vr vo : Value) (br bo : List Nat) (hr : newS T = .inr (N, x)) (hT : TS w v T) (hl : T.length ≤ 8796093021952) (hsz : ∀ s ∈ T, s.size ≤ 140737488351232)
    (hS : Spell w) (hTb : Tabs w) (hRT : RTabs w) (hK : Kinds w) (hU : ∀ w', Below w.heap.size w w' → Lib.Utf8Tabs 6 7 w') (hvr : V w vr br) (hlr : br.length ≤ 140737488351232) (hvo : V w vo bo) (hlo : bo.length ≤ 140737488351232) :
    Calls Tryz.prog 3 #[v, .int .i64 k, vr, vo] w fun e w' => e = .returned (.bool true) ∧ Below w.heap.size w w' := by
  have c4 := begin_any w v T hT hl hsz hS
  rw [hr] at c4
  obtain ⟨hG, hN0, hN6⟩ := newS_good hr
  obtain ⟨hnd, hsix⟩ := newS_apart hr
  have hext : x = true → ∀ r ∈ N, r.1 ≠ 6 := by rintro rfl; exact newS_ext hr
  obtain ⟨ao, cap, rfl, _⟩ := hT
  obtain ⟨ra, rc, rfl, hrf, hrb⟩ := hvr.form
  obtain ⟨oa, oc, rfl, hof, hob⟩ := hvo.form
  obtain ⟨n, hn⟩ : ∃ n, br.length = n := ⟨_, rfl⟩
  obtain ⟨m, hm⟩ : ∃ m, bo.length = m := ⟨_, rfl⟩
  have HN : Hid _ := hn
  have HM : Hid _ := hm
  have HVR : Hid (V w (.slice ra n rc) br) := by show V _ _ _; rw [← hn]; exact hvr
  have HVO : Hid (V w (.slice oa m oc) bo) := by show V _ _ _; rw [← hm]; exact hvo
  have HRF : Hid (0 < n → ∃ b off, ra = some ⟨b, off, none⟩ ∧ At w b off br) := by rw [← hn]; exact hrf
  have HRB : Hid _ := hrb
  rw [hn] at hlr ⊢
  rw [hm] at hlo ⊢
  clear hr hsz hl hvr hvo hrf hof hrb hob hn hm
  go_enter Tryz.func3, Tryz.ntmps3
  go_wp2_with (go_at_call 4; fail)
  refine c4.mono ?_
  rintro e W1 ⟨s, kk, rfl, ⟨q, u, R, p, u2, H, rfl, rfl, hlq, hlH, hlp, hset, hnames, hrset⟩, hb1⟩
  have hRl : R.length = N.length := by rw [← hnames, names_len]
  have h7R : ∀ b ∈ R, b.1 < 7 := fun b hb => hG (b.1, b.2.1) (by rw [← hnames]; exact List.mem_map.2 ⟨b, hb, rfl⟩)
  have h6R : R.length = 1 ∨ ∀ b ∈ R, b.1 ≠ 6 := by
    rcases hsix with h | h
    · exact .inl (by omega)
    · exact .inr (fun b hb => h (b.1, b.2.1) (by rw [← hnames]; exact List.mem_map.2 ⟨b, hb, rfl⟩))
  have hx6 : x = true → ∀ b ∈ R, b.1 < 6 := fun hx b hb => by
    have h1 := h7R b hb
    have h2 := hext hx (b.1, b.2.1) (by rw [← hnames]; exact List.mem_map.2 ⟨b, hb, rfl⟩)
    simp only at h2
    omega
  have hin := hset.ask h7R (by rw [hnames]; exact hnd) h6R
  obtain ⟨a, R0, rfl⟩ : ∃ a R0, R = a :: R0 := by
    cases R with
    | nil => simp at hRl; omega
    | cons a b => exact ⟨a, b, rfl⟩
  subst hnames
  have HS1 : Hid (Sets W1 q H p u u2 a R0 x) := ⟨hin, hset.c1, hrset, hS.on hb1, hTb.on hb1, hRT.on hb1, hK.on hb1, fun w' hw => hU w' (hb1.trans (hw.mono hb1.size))⟩
  have H6 : Hid ((a :: R0).length ≤ 6) := by show _ ≤ _; omega
  have H7 : Hid _ := h7R
  have HX6 : Hid _ := hx6
  have HB1 : Hid _ := hb1
  obtain ⟨g, hg⟩ : ∃ g, W1.heap.size = g := ⟨_, rfl⟩
  have HG1 : Hid _ := hg
  have hwg : w.heap.size ≤ g := by rw [← hg]; exact hb1.size
  have c5 := lend_any (HVR.out.next hb1) (by rw [HN.out]; exact hlr)
  rw [HN.out, hg] at c5
  have HE : Hid (∀ s, ∀ i c, errF (dcS x a R0 k s) = some (i, c) → (c != 0) = true) := fun s => dcS_err x a R0 k s
  clear hin hset hrset hb1 hG hnd hsix hext h6R h7R hRl hlq hlH hlp hTb hRT hS hK hU hx6 c4 hN0 hN6 hg
  go_wp2_with (go_at_call 5; refine Stop.mk ?_)
  refine Stop.out (c5.mono ?_)
  rintro e W2 ⟨rfl, hown2, hb2⟩
  have HL2 : Hid (Lent W2 g g br) := by show Own _ _ _ _; rw [HN.out]; exact hown2
  have HW2 : Hid (Below g W1 W2) := hb2
  have HSW : Hid (∀ W, Below g W1 W → Sets W q H p u u2 a R0 x ∧ Below w.heap.size w W) := fun W hb => ⟨HS1.out.on (by rw [HG1.out]; exact hb), HB1.out.trans (hb.mono hwg)⟩
  obtain ⟨F, hF⟩ : ∃ F, dcS x a R0 k (arr br) = F := ⟨_, rfl⟩
  have HEF : Hid (∀ i c, errF F = some (i, c) → (c != 0) = true) := hF ▸ HE.out (arr br)
  have hvin : V W2 (.slice (some ⟨g, 0, none⟩) n (n + 3)) br := by have := HL2.out.v (cap := n + 3) (by rw [HN.out]; omega); rw [HN.out] at this; exact this
  have c6 := decP (HSW.out W2 hb2).1 H6.out H7.out k hvin
  rw [hF] at c6
  have HF : Hid (dcS x a R0 k (arr br) = F) := hF
  have HG2 : Hid (g < W2.heap.size) := by have := cell_lt (HL2.out.cell 0 (by omega)); exact this
  clear c5 hown2 hb2 hvin hF HS1
  go_wp2_with (go_at_call 6; refine Stop.mk ?_)
  refine Stop.out (c6.mono ?_)
  rintro e W3 ⟨er, rfl, hp3, hb3⟩
  have HP3 : Hid (PErr W3 er (errF F)) := hp3
  have HL3 : Hid (Lent W3 g g br) := HL2.out.next hb3
  have HG3 : Hid (g < W3.heap.size) := Nat.lt_of_lt_of_le HG2.out hb3.size
  have HW3 : Hid (Below g W1 W3) := HW2.out.trans (hb3.mono (Nat.le_of_lt HG2.out))
  have c7 := decR (HSW.out W3 HW3.out).1 H6.out H7.out HX6.out k (HVR.out.next (HSW.out W3 HW3.out).2)
  rw [HF.out] at c7
  clear c6 hp3 hb3 HL2 HW2 HG2
  go_wp2_with (go_at_call 7; refine Stop.mk ?_)
  refine Stop.out (c7.mono ?_)
  rintro e W4 ⟨fa, fl, fc, fn, rfl, hr4, hb4⟩
  obtain ⟨W5, hW5⟩ : ∃ W5, W4.alloc (.cells #[.slice fa fl fc, .int .i64 fn] 35) = W5 := ⟨_, rfl⟩
  have hb5 : Below W4.heap.size W4 W5 := hW5 ▸ (Below.refl _ _).alloc (Nat.le_refl _) _
  have x0 : W5.cell? ⟨W4.heap.size, 0, none⟩ = some (.slice fa fl fc) := by rw [← hW5]; simp
  have x1 : W5.cell? ⟨W4.heap.size, 1, none⟩ = some (.int .i64 fn) := by rw [← hW5]; simp
  have hb35 : Below W3.heap.size W3 W5 := hb4.trans (hb5.mono hb4.size)
  have HR5 : Hid (RErr W5 (.agg #[.slice fa fl fc, .int .i64 fn]) (errF F)) := hr4.next hb5
  have HL5 : Hid (Lent W5 g g br) := HL3.out.next hb35
  have HG5 : Hid (g < W5.heap.size) := Nat.lt_of_lt_of_le HG3.out hb35.size
  have HW5 : Hid (Below g W1 W5) := HW3.out.trans (hb35.mono (Nat.le_of_lt HG3.out))
  have c8 := is_yes (HP3.out.next hb35) HR5.out HEF.out
  obtain ⟨fb, hfb⟩ : ∃ fb, W4.heap.size = fb := ⟨_, rfl⟩
  have HFG : Hid (g < fb) := by show _ < _; rw [← hfb]; exact Nat.lt_of_lt_of_le HG3.out hb4.size
  have HX : Hid (W5.cell? ⟨fb, 0, none⟩ = some (.slice fa fl fc) ∧ W5.cell? ⟨fb, 1, none⟩ = some (.int .i64 fn)) := by rw [← hfb]; exact ⟨x0, x1⟩
  rw [hfb] at x0 x1
  clear c7 hr4 hb4 hb5 hb35 HL3 HW3 HG3 HP3
  obtain ⟨t1, ht1⟩ : ∃ t1, strF F = t1 := ⟨_, rfl⟩
  have HT1 : Hid (strF F = t1) := ht1
  go_wp2_with (go_at_call 8; refine Stop.mk ?_)
  refine Stop.out (c8.mono ?_)
  rintro e W6 ⟨rfl, hb6⟩
  have HL6 : Hid (Lent W6 g g br) := HL5.out.next hb6
  have HG6 : Hid (g < W6.heap.size) := Nat.lt_of_lt_of_le HG5.out hb6.size
  have HW6 : Hid (Below g W1 W6) := HW5.out.trans (hb6.mono (Nat.le_of_lt HG5.out))
  have HR6 : Hid (RErr W6 (.agg #[.slice fa fl fc, .int .i64 fn]) (errF F)) := HR5.out.next hb6
  have HX6c : Hid (W6.cell? ⟨fb, 0, none⟩ = some (.slice fa fl fc) ∧ W6.cell? ⟨fb, 1, none⟩ = some (.int .i64 fn)) := ⟨(hb6.cell (p := ⟨fb, 0, none⟩) (cell_lt HX.out.1)).trans HX.out.1, (hb6.cell (p := ⟨fb, 1, none⟩) (cell_lt HX.out.2)).trans HX.out.2⟩
  have c9 := kept_any HL6.out (HVR.out.next (HSW.out W6 HW6.out).2) (by rw [HN.out]; exact hlr)
  rw [HN.out] at c9
  clear c8 hb6 HL5 HG5 HW5 HR5 HX x0 x1 hW5
  go_wp2_with (go_at_call 9; refine Stop.mk ?_)
  refine Stop.out (c9.mono ?_)
  rintro e W7 ⟨rfl, mm, hmm⟩
  have hb7 : Below W6.heap.size W6 W7 := hmm ▸ below_drewN (Below.refl _ _) mm
  have HL7 : Hid (Lent W7 g g br) := HL6.out.next hb7
  have HG7 : Hid (g < W7.heap.size) := Nat.lt_of_lt_of_le HG6.out hb7.size
  have HW7 : Hid (Below g W1 W7) := HW6.out.trans (hb7.mono (Nat.le_of_lt HG6.out))
  have HR7 : Hid (RErr W7 (.agg #[.slice fa fl fc, .int .i64 fn]) (errF F)) := HR6.out.next hb7
  have HX7 : Hid (W7.cell? ⟨fb, 0, none⟩ = some (.slice fa fl fc) ∧ W7.cell? ⟨fb, 1, none⟩ = some (.int .i64 fn)) := ⟨(hb7.cell (p := ⟨fb, 0, none⟩) (cell_lt HX6c.out.1)).trans HX6c.out.1, (hb7.cell (p := ⟨fb, 1, none⟩) (cell_lt HX6c.out.2)).trans HX6c.out.2⟩
  clear hmm c9 hb7 HL6 HG6 HW6 HR6 HX6c
  go_wp2
  clear hfb ht1
  obtain ⟨i0, hi, hz0, hz1, hz2⟩ := info_parts info5s
  have HI0 : Hid (RevI W7 g g n br 0 (.slice none 0 0) W7) := by
    refine ⟨Kp.refl _ _, ?_, World.ownsRow_nil _ _ _ _⟩
    have h := HL7.out.1
    rw [List.length_append, HN.out] at h
    simpa using h
  go_loopw [17, 18] (fun s17 s18 wr => ∃ i : Nat, s18 = .int .i64 (i : Int) ∧ i ≤ n ∧ Hid (RevI W7 g g n br i s17 wr)) (fun _ s18 _ => n - (intOf s18).toNat)
  case atStart => exact ⟨0, rfl, by omega, HI0⟩
  case round =>
    clear HI0
    obtain ⟨i, rfl, hin, HI⟩ := hrel
    by_cases hilt : i < n
    · obtain ⟨b, off, rfl, hat⟩ := HRF.out (by omega)
      have hil : i < br.length := by rw [HN.out]; exact hilt
      have hWr : Below w.heap.size w wr := (HSW.out W7 HW7.out).2.trans (HI.out.k.below (by omega) (by have := HG7.out; omega))
      have hcr := (hWr.cell (p := ⟨b, off + (n - 1 - i), none⟩) (cell_lt (hat.1 (n - 1 - i) (by rw [HN.out]; omega)))).trans (hat.1 (n - 1 - i) (by rw [HN.out]; omega))
      obtain ⟨y, hy⟩ : ∃ y, br.getD (n - 1 - i) 0 = y := ⟨_, rfl⟩
      rw [hy] at hcr
      have hy256 : y < 256 := by
        have hm : br.getD (n - 1 - i) 0 ∈ br := by
          rw [List.getD_eq_getElem?_getD, List.getElem?_eq_getElem (show n - 1 - i < br.length by rw [HN.out]; omega)]
          exact List.getElem_mem _
        rw [hy] at hm
        exact HRB.out _ hm
      have HO := HI.out.o
      have hxl : (u8s (br.reverse.take i ++ br.drop i ++ [160, 161, 162])).length = n + 3 := by have := HO.1; omega
      obtain ⟨z, hci⟩ : ∃ z, wr.cell? ⟨g, i, none⟩ = some (.int .u8 z) := by
        refine ⟨((br.reverse.take i ++ br.drop i ++ [160, 161, 162]).getD i 0 : Nat), ?_⟩
        rw [HO.cellAt i (by omega), u8s_get _ i (by rw [u8s_length] at hxl; omega)]
      have hfi := HO.frozenAt i
      have HSt := HO.stored i (.int .u8 (y : Int))
      have hset : (u8s (br.reverse.take i ++ br.drop i ++ [160, 161, 162])).set i (.int .u8 (y : Int)) = u8s (br.reverse.take (i + 1) ++ br.drop (i + 1) ++ [160, 161, 162]) := by
        have := rev_set hil
        rw [HN.out, hy] at this
        exact this
      rw [hset] at HSt
      have htk : br.reverse.take (i + 1) = br.reverse.take i ++ [y] := by
        have := rev_take hil
        rw [HN.out, hy] at this
        exact this
      obtain ⟨Ws, hWs⟩ : ∃ Ws, wr.setCell ⟨g, i, none⟩ (.int .u8 (y : Int)) = Ws := ⟨_, rfl⟩
      have hcs : Ws.cell? ⟨g, i, none⟩ = some (.int .u8 (y : Int)) := hWs ▸ cell_set_eq hci
      have HOs : Hid (Ws.ownsRow g 5 1 (.slice (some ⟨g, 0, none⟩) (n + 3) (n + 3)) (n + 3) (u8s (br.reverse.take (i + 1) ++ br.drop (i + 1) ++ [160, 161, 162]))) := hWs ▸ HSt.1
      have HKs : Hid (Kp g W7 Ws) := hWs ▸ HI.out.k.trans (Kp.set g i wr _)
      have HBk : Hid (Ws.ownsRow W7.heap.size 5 1 u17 (br.reverse.take i).length (u8s (br.reverse.take i))) := hWs ▸ own_set HI.out.b _ HG7.out
      have hlt : (br.reverse.take i).length = i := by simp; rw [HN.out]; omega
      have HTK : Hid _ := htk
      have hb1 : (n : Int) - 1 - (i : Int) = ((n - 1 - i : Nat) : Int) := by omega
      have hb2 : (0 : Int) ≤ (n : Int) - 1 - (i : Int) := by omega
      have hb3 : (n : Int) - 1 - (i : Int) < (n : Int) := by omega
      have hilI : (i : Int) < (n : Int) := by omega
      clear HO HSt hset htk hxl hat hWr hy
      go_wp2_with (at_builtin; refine Stop.mk ?_)
      refine Stop.out (wpList_append_own _ rfl (.tmp 84) (.tmp 89) 23 rfl W7.heap.size 5 i0 _ 1 1 Tryz.underlying23 hi hz0 hz1 hz2 rfl (by decide) u17 (br.reverse.take i).length (u8s (br.reverse.take i)) rfl (World.ownsRow.alloc HBk.out _) ⟨Ws.heap.size, 0, none⟩ 1 1 [.int .u8 (y : Int)] rfl rfl ?_ ?_ ?_ ?_ ?_ ?_)
      · intro q u hq
        match q, hq with
        | 0, hq => simp at hq; subst hq; simp [Addr.add]
      · intro u hu; simp at hu; subst hu; rfl
      · rw [hlt]; unfold maxLen; omega
      · rw [hlt]; omega
      · have := HKs.out.size; simp; omega
      · intro v' w1 hown1 hg1 _
        have HK1 : Hid (Kp g W7 w1) := (HKs.out.trans (Kp.of_below ((Below.refl _ _).alloc (Nat.le_refl _) _))).grown hg1 (fun r e => .inl (own_base HBk.out r e))
        have hgb : ∀ r, u17.ownBlock = some r → r ≠ g := fun r e => by have := own_base HBk.out r e; have := HG7.out; omega
        have HO1 : Hid (w1.ownsRow g 5 1 (.slice (some ⟨g, 0, none⟩) (n + 3) (n + 3)) (n + 3) (u8s (br.reverse.take (i + 1) ++ br.drop (i + 1) ++ [160, 161, 162]))) := World.ownsRow.kept (World.ownsRow.alloc HOs.out _) hg1 (.inr (fun e => hgb _ e.symm rfl))
        have HB1k : Hid (w1.ownsRow W7.heap.size 5 1 v' (br.reverse.take (i + 1)).length (u8s (br.reverse.take (i + 1)))) := by
          show World.ownsRow _ _ _ _ _ _ _
          rw [HTK.out, List.length_append, u8s_append]
          exact hown1
        clear hown1 hg1 hgb
        go_wp2
        exact ⟨⟨i + 1, by simp, by omega, ⟨HK1.out, HO1.out, HB1k.out⟩⟩, by simp [intOf]; omega⟩
    · obtain rfl : i = n := by omega
      have hrl : br.reverse.length = i := by rw [List.length_reverse, HN.out]
      have htake : br.reverse.take i = br.reverse := List.take_of_length_le (by omega)
      have hdrop : br.drop i = [] := List.drop_of_length_le (by have := HN.out; omega)
      have ho8 := HI.out.o
      have hb8 := HI.out.b
      rw [htake, hdrop, List.append_nil] at ho8
      rw [htake] at hb8
      have hrb : ∀ z ∈ br.reverse, z < 256 := fun z hz => HRB.out z (by simpa using hz)
      have hl8 : Lent wr g g br.reverse := by
        refine ⟨?_, fun z hz => ?_⟩
        · rw [hrl, List.length_append, hrl]
          exact ho8
        · rcases List.mem_append.1 hz with hz | hz
          · exact hrb z hz
          · simp at hz; omega
      have hvin : V wr (.slice (some ⟨g, 0, none⟩) i (i + 3)) br.reverse := by have := hl8.v (cap := i + 3) (by omega); rw [hrl] at this; exact this
      have HVB : Hid (V wr u17 br.reverse) := own_v hb8 hrb
      have HW8 : Hid (Below g W1 wr) := HW7.out.trans (HI.out.k.below (Nat.le_refl _) (Nat.le_of_lt HG7.out))
      have hg0 := HL7.out.cell 0 (by omega)
      have HR8 : Hid (RErr wr (.agg #[.slice fa fl fc, .int .i64 fn]) (errF F)) := HI.out.k.rerr hg0 HR7.out
      have hfg : fb ≠ g := by have := HFG.out; omega
      have HX8 : Hid (wr.cell? ⟨fb, 0, none⟩ = some (.slice fa fl fc) ∧ wr.cell? ⟨fb, 1, none⟩ = some (.int .i64 fn)) := ⟨HI.out.k.cell hfg HX7.out.1, HI.out.k.cell hfg HX7.out.2⟩
      have HG8 : Hid (g < wr.heap.size) := Nat.lt_of_lt_of_le HG7.out HI.out.k.size
      obtain ⟨F2, hF2⟩ : ∃ F2, dcS x a R0 k (arr br.reverse) = F2 := ⟨_, rfl⟩
      have HEF2 : Hid (∀ i c, errF F2 = some (i, c) → (c != 0) = true) := hF2 ▸ HE.out (arr br.reverse)
      have HF2 : Hid (dcS x a R0 k (arr br.reverse) = F2) := hF2
      have c6 := decP (HSW.out wr HW8.out).1 H6.out H7.out k hvin
      rw [hF2] at c6
      obtain ⟨ub, uc, hu17⟩ := own_val hb8
      rw [hrl] at hu17
      subst hu17
      have hI : ¬ (i : Int) < (i : Int) := by omega
      clear htake hdrop ho8 hb8 hrb hl8 hvin hg0 hfg hF2 HI hrl
      go_wp2_with (go_at_call 6; refine Stop.mk ?_)
      refine Stop.out (c6.mono ?_)
      rintro e W9 ⟨er2, rfl, hp9, hb9⟩
      have HP9 : Hid (PErr W9 er2 (errF F2)) := hp9
      have HW9 : Hid (Below g W1 W9) := HW8.out.trans (hb9.mono (Nat.le_of_lt HG8.out))
      have HG9 : Hid (g < W9.heap.size) := Nat.lt_of_lt_of_le HG8.out hb9.size
      have HR9 : Hid (RErr W9 (.agg #[.slice fa fl fc, .int .i64 fn]) (errF F)) := HR8.out.next hb9
      have HX9 : Hid (W9.cell? ⟨fb, 0, none⟩ = some (.slice fa fl fc) ∧ W9.cell? ⟨fb, 1, none⟩ = some (.int .i64 fn)) := ⟨(hb9.cell (p := ⟨fb, 0, none⟩) (cell_lt HX8.out.1)).trans HX8.out.1, (hb9.cell (p := ⟨fb, 1, none⟩) (cell_lt HX8.out.2)).trans HX8.out.2⟩
      have c7 := decR (HSW.out W9 HW9.out).1 H6.out H7.out HX6.out k (HVB.out.next hb9)
      rw [HF2.out] at c7
      obtain ⟨t2, ht2⟩ : ∃ t2, strF F2 = t2 := ⟨_, rfl⟩
      clear c6 hp9 hb9 HR8 HX8 HW8 HG8
      go_wp2_with (go_at_call 7; refine Stop.mk ?_)
      refine Stop.out (c7.mono ?_)
      rintro e W10 ⟨fa2, fl2, fc2, fn2, rfl, hr10, hb10⟩
      obtain ⟨W11, hW11⟩ : ∃ W11, W10.alloc (.cells #[.slice fa2 fl2 fc2, .int .i64 fn2] 35) = W11 := ⟨_, rfl⟩
      have hb11 : Below W10.heap.size W10 W11 := hW11 ▸ (Below.refl _ _).alloc (Nat.le_refl _) _
      have x0 : W11.cell? ⟨W10.heap.size, 0, none⟩ = some (.slice fa2 fl2 fc2) := by rw [← hW11]; simp
      have x1 : W11.cell? ⟨W10.heap.size, 1, none⟩ = some (.int .i64 fn2) := by rw [← hW11]; simp
      have hb911 : Below W9.heap.size W9 W11 := hb10.trans (hb11.mono hb10.size)
      have c8 := is_yes (HP9.out.next hb911) (hr10.next hb11) HEF2.out
      have HW11 : Hid (Below g W1 W11) := HW9.out.trans (hb911.mono (Nat.le_of_lt HG9.out))
      have HG11 : Hid (g < W11.heap.size) := Nat.lt_of_lt_of_le HG9.out hb911.size
      have HR11 : Hid (RErr W11 (.agg #[.slice fa fl fc, .int .i64 fn]) (errF F)) := HR9.out.next hb911
      have HX11 : Hid (W11.cell? ⟨fb, 0, none⟩ = some (.slice fa fl fc) ∧ W11.cell? ⟨fb, 1, none⟩ = some (.int .i64 fn)) := ⟨(hb911.cell (p := ⟨fb, 0, none⟩) (cell_lt HX9.out.1)).trans HX9.out.1, (hb911.cell (p := ⟨fb, 1, none⟩) (cell_lt HX9.out.2)).trans HX9.out.2⟩
      clear c7 hr10 hb10 hb11 hb911 HR9 HX9 HW9 HG9 HP9
      go_wp2_with (go_at_call 8; refine Stop.mk ?_)
      refine Stop.out (c8.mono ?_)
      rintro e W12 ⟨rfl, hb12⟩
      have HW12 : Hid (Below g W1 W12) := HW11.out.trans (hb12.mono (Nat.le_of_lt HG11.out))
      have HG12 : Hid (g < W12.heap.size) := Nat.lt_of_lt_of_le HG11.out hb12.size
      have HR12 : Hid (RErr W12 (.agg #[.slice fa fl fc, .int .i64 fn]) (errF F)) := HR11.out.next hb12
      have HX12 : Hid (W12.cell? ⟨fb, 0, none⟩ = some (.slice fa fl fc) ∧ W12.cell? ⟨fb, 1, none⟩ = some (.int .i64 fn)) := ⟨(hb12.cell (p := ⟨fb, 0, none⟩) (cell_lt HX11.out.1)).trans HX11.out.1, (hb12.cell (p := ⟨fb, 1, none⟩) (cell_lt HX11.out.2)).trans HX11.out.2⟩
      have c5 := lend_any (HVO.out.next (HSW.out W12 HW12.out).2) (by rw [HM.out]; exact hlo)
      rw [HM.out] at c5
      clear c8 hb12 HR11 HX11 HW11 HG11 x0 x1 hW11
      go_wp2_with (go_at_call 5; refine Stop.mk ?_)
      refine Stop.out (c5.mono ?_)
      rintro e W13 ⟨rfl, hown13, hb13⟩
      have hl13 : Lent W13 W12.heap.size W12.heap.size bo := by show Own _ _ _ _; rw [HM.out]; exact hown13
      have hv13 : V W13 (.slice (some ⟨W12.heap.size, 0, none⟩) m (m + 3)) bo := by have := hl13.v (cap := m + 3) (by rw [HM.out]; omega); rw [HM.out] at this; exact this
      have HW13 : Hid (Below g W1 W13) := HW12.out.trans (hb13.mono (Nat.le_of_lt HG12.out))
      have HG13 : Hid (g < W13.heap.size) := Nat.lt_of_lt_of_le HG12.out hb13.size
      have c6 := decP (HSW.out W13 HW13.out).1 H6.out H7.out k hv13
      have HB13 : Hid (Below W12.heap.size W12 W13) := hb13
      generalize strF (dcS x a R0 k (arr bo)) = t3 at c6
      clear c5 hown13 hl13 hv13 hb13
      go_wp2_with (go_at_call 6; refine Stop.mk ?_)
      refine Stop.out (c6.mono ?_)
      rintro e W14 ⟨er3, rfl, -, hb14⟩
      have hb1214 : Below W12.heap.size W12 W14 := HB13.out.trans (hb14.mono HB13.out.size)
      have HW14 : Hid (Below g W1 W14) := HW13.out.trans (hb14.mono (Nat.le_of_lt HG13.out))
      have HG14 : Hid (g < W14.heap.size) := Nat.lt_of_lt_of_le HG13.out hb14.size
      have HR14 : Hid (RErr W14 (.agg #[.slice fa fl fc, .int .i64 fn]) (errF F)) := HR12.out.next hb1214
      have HX14 : Hid (W14.cell? ⟨fb, 0, none⟩ = some (.slice fa fl fc) ∧ W14.cell? ⟨fb, 1, none⟩ = some (.int .i64 fn)) := ⟨(hb1214.cell (p := ⟨fb, 0, none⟩) (cell_lt HX12.out.1)).trans HX12.out.1, (hb1214.cell (p := ⟨fb, 1, none⟩) (cell_lt HX12.out.2)).trans HX12.out.2⟩
      have c5 := lend_any (HVR.out.next (HSW.out W14 HW14.out).2) (by rw [HN.out]; exact hlr)
      rw [HN.out] at c5
      clear c6 hb14 hb1214 HB13 HR12 HX12 HW12 HG12 HW13 HG13
      go_wp2_with (go_at_call 5; refine Stop.mk ?_)
      refine Stop.out (c5.mono ?_)
      rintro e W15 ⟨rfl, hown15, hb15⟩
      have hl15 : Lent W15 W14.heap.size W14.heap.size br := by show Own _ _ _ _; rw [HN.out]; exact hown15
      have hv15 : V W15 (.slice (some ⟨W14.heap.size, 0, none⟩) i (i + 3)) br := by have := hl15.v (cap := i + 3) (by rw [HN.out]; omega); rw [HN.out] at this; exact this
      have HW15 : Hid (Below g W1 W15) := HW14.out.trans (hb15.mono (Nat.le_of_lt HG14.out))
      have HG15 : Hid (g < W15.heap.size) := Nat.lt_of_lt_of_le HG14.out hb15.size
      have c6 := decP (HSW.out W15 HW15.out).1 H6.out H7.out k hv15
      rw [HF.out, HT1.out] at c6
      have HB15 : Hid (Below W14.heap.size W14 W15) := hb15
      clear c5 hown15 hl15 hv15 hb15
      go_wp2_with (go_at_call 6; refine Stop.mk ?_)
      refine Stop.out (c6.mono ?_)
      rintro e W16 ⟨er4, rfl, hp16, hb16⟩
      have hb1416 : Below W14.heap.size W14 W16 := HB15.out.trans (hb16.mono HB15.out.size)
      have HW16 : Hid (Below g W1 W16) := HW15.out.trans (hb16.mono (Nat.le_of_lt HG15.out))
      have HG16 : Hid (g < W16.heap.size) := Nat.lt_of_lt_of_le HG15.out hb16.size
      have c8 := is_yes hp16 (HR14.out.next hb1416) HEF.out
      have y0 := (hb1416.cell (p := ⟨fb, 0, none⟩) (cell_lt HX14.out.1)).trans HX14.out.1
      have y1 := (hb1416.cell (p := ⟨fb, 1, none⟩) (cell_lt HX14.out.2)).trans HX14.out.2
      clear c6 hb16 hb1416 hp16 HB15 HR14 HX14 HW14 HG14 HW15 HG15
      go_wp2_with (go_at_call 8; refine Stop.mk ?_)
      refine Stop.out (c8.mono ?_)
      rintro e W17 ⟨rfl, hb17⟩
      have HB17 : Hid (Below w.heap.size w W17) := (HSW.out W17 (HW16.out.trans (hb17.mono (Nat.le_of_lt HG16.out)))).2
      clear c8 hb17 y0 y1
      go_wp2
      go_ret
      exact ⟨by simp, HB17.out⟩

set_option maxRecDepth 100000 in
theorem decodes_no (w : World) (v : Value) (T : List ByteArray) (a : Int × Int) (k : Int) (vr vo : Value) (hr : newS T = .inl a) (hT : TS w v T) (hl : T.length ≤ 8796093021952) (hsz : ∀ s ∈ T, s.size ≤ 140737488351232) (hS : Spell w) :
    Calls Tryz.prog 3 #[v, .int .i64 k, vr, vo] w fun e w' => e = .returned (.bool true) ∧ Below w.heap.size w w' := by
  have c4 := begin_any w v T hT hl hsz hS
  rw [hr] at c4
  obtain ⟨ao, cap, rfl, _⟩ := hT
  clear hr hsz hl
  go_enter Tryz.func3, Tryz.ntmps3
  go_wp2_with (go_at_call 4; fail)
  refine c4.mono ?_
  rintro e W1 ⟨s, kk, rfl, ⟨rfl, rfl⟩, hb1⟩
  go_wp2
  go_ret
  exact ⟨rfl, hb1⟩

theorem decodes_any (w : World) (v : Value) (T : List ByteArray) (k : Int) (vr vo : Value) (br bo : List Nat) (hT : TS w v T) (hl : T.length ≤ 8796093021952) (hsz : ∀ s ∈ T, s.size ≤ 140737488351232)
    (hS : Spell w) (hTb : Tabs w) (hRT : RTabs w) (hK : Kinds w) (hU : ∀ w', Below w.heap.size w w' → Lib.Utf8Tabs 6 7 w') (hvr : V w vr br) (hlr : br.length ≤ 140737488351232) (hvo : V w vo bo) (hlo : bo.length ≤ 140737488351232) :
    Calls Tryz.prog 3 #[v, .int .i64 k, vr, vo] w fun e w' => e = .returned (.bool true) ∧ Below w.heap.size w w' := by
  cases hr : newS T with
  | inl a => exact decodes_no w v T a k vr vo hr hT hl hsz hS
  | inr x =>
    obtain ⟨N, x⟩ := x
    exact decodes_yes w v T N x k vr vo br bo hr hT hl hsz hS hTb hRT hK hU hvr hlr hvo hlo
end Go.Proofs.YtghaeolehjgmnaaGreatDoor
