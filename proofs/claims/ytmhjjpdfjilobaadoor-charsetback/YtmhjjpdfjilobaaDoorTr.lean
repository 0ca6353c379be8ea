import Derived.Test.YtmhjjpdfjilobaaDoorTq
import Derived.Laws.AppendOwnNone
/-
  DERIVED. The law of pieces.
-/
namespace Go.Proofs.YtmhjjpdfjilobaaDoor
open Go Go.Proofs Go.RowKit

theorem u8s_one (bs : List Nat) : ∀ u ∈ u8s bs, u.oneCell' = true := by
  intro u hu
  unfold u8s at hu
  obtain ⟨z, -, rfl⟩ := List.mem_map.1 hu
  rfl

/-- Bytes that lie anywhere, behind bytes of our own. -/
theorem wpList_append_V {w : World} {ops : Array Oper} {rest : List Oper} {o : Oper} {a : Act} {Q : Exit → Act → World → Prop} (hgd : o.guard = none) (s x : Operand)
    (ho : o.op = .call { callee := .builtin .append, args := #[s, x], argTypes := #[43, 43] }) (base : Nat) (v : Value) (n : Nat) (xs : List Value) (hs : a.eval s = v) (hown : w.ownsRow base 5 1 v n xs)
    (ao : Option Addr) (m c : Nat) (bs : List Nat) (hx : a.eval x = .slice ao m c) (hV : V w (.slice ao m c) bs) (hm : bs.length = m) (h0 : ao = none → c = 0) (h63 : n + m ≤ maxLen) (hby : n + m ≤ 140737488355328) (hbase : base ≤ w.heap.size)
    (h : ∀ v' w', w'.ownsRow base 5 1 v' (n + m) (xs ++ u8s bs) → w.grownBy w' v.ownBlock → wpList Tryd.prog ops Q rest (a.put o.dst v') w') : wpList Tryd.prog ops Q (o :: rest) a w := by
  obtain ⟨i0, hi, hz0, hz1, hz2⟩ := info_parts Tryd.info5
  cases ao with
  | none =>
    have hb0 : bs = [] ∧ m = 0 := by
      rcases hV with ⟨ao, cap, e, rfl⟩ | ⟨b, off, cap, e, _⟩
      · exact ⟨rfl, by rw [← hm]; rfl⟩
      · cases e
    obtain ⟨rfl, rfl⟩ := hb0
    obtain rfl := h0 rfl
    refine wpList_append_own_none hgd s x 43 ho base 5 i0 1 Tryd.underlying43 hi v n xs hs hown hx (h v w ?_ ⟨rfl, rfl, rfl, Nat.le_refl _, fun _ _ _ => rfl⟩)
    rw [Nat.add_zero]
    simpa [u8s] using hown
  | some ad =>
    refine wpList_append_own _ hgd s x 43 ho base 5 i0 _ 1 1 Tryd.underlying43 hi hz0 hz1 hz2 rfl (by decide) v n xs hs hown ad m c (u8s bs) hx (by rw [u8s_length, hm]; omega) (fun j u hj => ?_) (u8s_one bs) h63 (by omega) hbase (fun v' w' h1 h2 _ => h v' w' h1 h2)
    have hj' : j < bs.length := by have := (List.getElem?_eq_some_iff.1 hj).1; rw [u8s_length] at this; exact this
    rcases hV with ⟨ao, cap, e, rfl⟩ | ⟨b, off, cap, e, hp, hc, ha⟩
    · simp at hj'
    · cases e
      rw [add_at, ha.1 j hj', ← hj, u8s_get bs j hj']

theorem own_v {w : World} {B : Nat} {v : Value} {bs : List Nat} (h : w.ownsRow B 5 1 v bs.length (u8s bs)) (hb : ∀ x ∈ bs, x < 256) : V w v bs := by
  rcases Nat.eq_zero_or_pos bs.length with h0 | hp
  · have : bs = [] := List.eq_nil_of_length_eq_zero h0
    subst this
    rcases h.2 with ⟨rfl, _⟩ | ⟨g, cap, cur, hv, _⟩
    · exact .inl ⟨_, _, rfl, rfl⟩
    · exact .inl ⟨_, _, hv, rfl⟩
  · rcases h.2 with ⟨_, h0⟩ | ⟨g, cap, cur, rfl, _, _, hc, _⟩
    · omega
    · refine .inr ⟨g, 0, cap, rfl, hp, hc, fun k hk => ?_, hb⟩
      rw [Nat.zero_add, h.cellAt k (by omega), u8s_get bs k hk]

theorem ext_six {t : ByteArray} {k : Nat} (h : nmd t 7 0 = some (k, true)) : k ≠ 6 := by
  rintro rfl
  have := (nmd_is 7 0 _ _ _ h).2 rfl
  rw [sp_list] at this
  simp [spL] at this
/-- With code extensions no repertoire is the seventh. -/
theorem newS_ext {T : List ByteArray} {N : List (Nat × ByteArray)} (h : newS T = .inr (N, true)) : ∀ r ∈ N, r.1 ≠ 6 := by
  unfold newS at h
  split at h
  · simp at h
  · split at h
    · simp at h
    · rename_i h0
      by_cases h1 : 1 < T.length
      · exact newL_six _ h1 T 0 [] false N true (by simp) h
      · obtain ⟨s, rfl⟩ : ∃ s, T = [s] := by
          match T, h0, h1 with
          | [s], _, _ => exact ⟨s, rfl⟩
          | [], h0, _ => exact absurd rfl h0
          | _ :: _ :: _, _, h1 => simp at h1
        rw [newL] at h
        split at h
        · simp at h
        · rename_i k y hk
          split at h
          · simp at h
          · split at h
            · simp at h
            · simp [newL] at h
              obtain ⟨rfl, rfl⟩ := h
              intro r hr
              simp at hr
              subst hr
              exact ext_six hk

theorem bsZ_cut (oA oB : List Int) (e : Nat) : (bsZ (oA ++ (e : Int) :: oB)).toList = ((bsZ oA ++ (⟨#[e.toUInt8]⟩ : ByteArray)) ++ bsZ oB).toList := by
  rw [ByteArray.toList_eq, ByteArray.toList_eq]
  simp [bsZ]

theorem dcS_len {x : Bool} {a : Row} {R : List Row} {k : Int} {s : ByteArray} {o : List Int} (h : dcS x a R k s = .ok o) : o.length ≤ 65534 := by
  unfold dcS at h
  split at h
  · cases h
  · split at h
    · cases h
    · cases hF : rdS x (kdS (2 * k.toNat)) (kdS (2 * k.toNat + 1)) a R s s.size 0 a [] with
      | error ic => rw [hF] at h; simp [dcEnd] at h
      | ok o' =>
        rw [hF] at h
        simp only [dcEnd] at h
        split at h
        · cases h
        · obtain rfl : o' = o := by simpa using h
          omega

set_option maxRecDepth 100000 in
set_option maxHeartbeats 8000000 in
theorem pieces_yes (w : World) (v : Value) (T : List ByteArray) (N : List (Nat × ByteArray)) (x : Bool) (k : Int) (ao bo : Option Addr) (ca cb e : Nat) (A B : List Nat) (hr : newS T = .inr (N, x)) (hT : TS w v T) (hsz : ∀ s ∈ T, s.size ≤ 140737488351232)
    (hS : Spell w) (hTb : Tabs w) (hK : Kinds w) (hU : ∀ w', Below w.heap.size w w' → Lib.Utf8Tabs 6 7 w') (hVA : V w (.slice ao A.length ca) A) (hA : A.length ≤ 1048576) (hA0 : ao = none → ca = 0) (hVB : V w (.slice bo B.length cb) B) (hB : B.length ≤ 1048576) (hB0 : bo = none → cb = 0) (he : e < 256) :
    Calls Tryd.prog 5 #[v, .int .i64 k, .slice ao A.length ca, .int .u8 (e : Int), .slice bo B.length cb] w fun e w' => e = .returned (.bool true) ∧ Below w.heap.size w w' := by
  have c18 := known_any w hS hTb hK hU
  obtain ⟨hG, hN0, hN6⟩ := newS_good hr
  obtain ⟨hnd, hsix⟩ := newS_apart hr
  have hext : x = true → ∀ r ∈ N, r.1 ≠ 6 := by rintro rfl; exact newS_ext hr
  have HNEW : Hid (∀ W, Below w.heap.size w W → Calls Tryd.prog 13 #[v] W fun e w' => ∃ p er, e = .returned (.tuple #[p, er]) ∧ NewAt w' W.heap.size p er (.inr (N, x)) ∧ Below W.heap.size W w') := fun W hb => by
    have := newAll W v T (hT.next hb) hsz (hS.on hb)
    rw [hr] at this
    exact this
  obtain ⟨tao, tc, rfl, _⟩ := hT
  obtain ⟨n, hn⟩ : ∃ n, A.length = n := ⟨_, rfl⟩
  obtain ⟨m, hm⟩ : ∃ m, B.length = m := ⟨_, rfl⟩
  rw [hn] at hVA hA
  rw [hm] at hVB hB
  rw [hn, hm]
  have HN : Hid _ := hn
  have HM : Hid _ := hm
  have HVA : Hid (V w (.slice ao n ca) A) := hVA
  have HVB : Hid (V w (.slice bo m cb) B) := hVB
  have HE : Hid (Spell w ∧ Tabs w ∧ Kinds w ∧ ∀ w', Below w.heap.size w w' → Lib.Utf8Tabs 6 7 w') := ⟨hS, hTb, hK, hU⟩
  clear hr hsz hVA hVB hn hm hS hTb hK hU
  go_enter Tryd.func5, Tryd.ntmps5
  go_wp2_with (go_at_call 18; refine Stop.mk ?_)
  refine Stop.out (c18.mono ?_)
  rintro e' W1 ⟨rfl, hb1⟩
  have c13 := HNEW.out W1 hb1
  have HB1 : Hid _ := hb1
  clear c18 hb1
  go_wp2_with (go_at_call 13; refine Stop.mk ?_)
  refine Stop.out (c13.mono ?_)
  rintro e' W2 ⟨p, er, rfl, ⟨q, u, R, rfl, rfl, hq, hset, hnames⟩, hb2⟩
  have hRl : R.length = N.length := by rw [← hnames, names_len]
  have h7R : ∀ b ∈ R, b.1 < 7 := fun b hb => (hG (b.1, b.2.1) (by rw [← hnames]; exact List.mem_map.2 ⟨b, hb, rfl⟩)).1
  have h6R : R.length = 1 ∨ ∀ b ∈ R, b.1 ≠ 6 := by
    rcases hsix with h | h
    · exact .inl (by omega)
    · exact .inr (fun b hb => h (b.1, b.2.1) (by rw [← hnames]; exact List.mem_map.2 ⟨b, hb, rfl⟩))
  have hx6 : x = true → ∀ b ∈ R, b.1 < 6 := fun hx b hb => by
    have h1 := h7R b hb
    have h2 := hext hx (b.1, b.2.1) (by rw [← hnames]; exact List.mem_map.2 ⟨b, hb, rfl⟩)
    simp only at h2
    omega
  have hin := hset.ask h7R (by rw [hnames]; exact hnd) h6R
  obtain ⟨a, R0, rfl⟩ : ∃ a R0, R = a :: R0 := by
    cases R with
    | nil => simp at hRl; omega
    | cons a b => exact ⟨a, b, rfl⟩
  have HB2 : Hid (Below w.heap.size w W2) := HB1.out.trans (hb2.mono HB1.out.size)
  have HS2 : Hid (SetT W2 q u a R0 x) := ⟨hin, hset.c1, HE.out.1.on HB2.out, HE.out.2.1.on HB2.out, HE.out.2.2.1.on HB2.out, fun w' hw => HE.out.2.2.2 w' (HB2.out.trans (hw.mono HB2.out.size))⟩
  have H6 : Hid ((a :: R0).length ≤ 6) := by show _ ≤ _; omega
  have H7 : Hid _ := h7R
  have HX6 : Hid _ := hx6
  clear hin hset hb2 hG hnd hsix hext h6R h7R hRl hx6 c13 hN0 hN6 hnames
  by_cases hk : k < 0 ∨ 2 < k
  · have hk2 : k < 0 ∨ (¬ k < 0 ∧ 2 < k) := by omega
    rcases hk2 with hk2 | ⟨hk2, hk3⟩
    all_goals
      go_wp2
      go_ret
      exact ⟨rfl, HB2.out⟩
  · obtain ⟨j, hj, rfl⟩ : ∃ j : Nat, j < 3 ∧ k = (j : Int) := ⟨k.toNat, by omega, by omega⟩
    have hkA : ¬ (j : Int) < 0 := by omega
    have hkB : ¬ (2 : Int) < (j : Int) := by omega
    have c19 := fun W => lends_any W j e hj
    cases hend : endsS j e with
    | false =>
      rw [hend] at c19
      go_wp2_with (go_at_call 19; refine (c19 _).mono ?_; rintro e' W9 ⟨rfl, rfl⟩)
      go_ret
      exact ⟨rfl, HB2.out⟩
    | true =>
      rw [hend] at c19
      have HEND : Hid _ := hend
      clear hend hk
      go_wp2_with (first | (go_at_call 19; refine (c19 _).mono ?_; rintro e' W9 ⟨rfl, rfl⟩) | (at_builtin; refine Stop.mk ?_))
      refine Stop.out (wpList_append_V rfl (.tmp 42) (.tmp 43) rfl W2.heap.size (.slice none 0 0) 0 [] rfl (World.ownsRow_nil _ _ _ _) ao n ca A rfl (HVA.out.next HB2.out) HN.out hA0 (by unfold maxLen; omega) (by omega) (Nat.le_refl _) ?_)
      intro v3 W3 hown3 hg3
      rw [Nat.zero_add, List.nil_append] at hown3
      have hb3 : Below W2.heap.size W2 W3 := ⟨hg3.os, hg3.tape, hg3.output, hg3.size, fun j hj => hg3.block j hj (by simp [Value.ownBlock])⟩
      have HO3 : Hid (W3.ownsRow W2.heap.size 5 1 v3 n (u8s A)) := hown3
      have HB3 : Hid (Below W2.heap.size W2 W3) := hb3
      obtain ⟨i0, hi, hz0, hz1, hz2⟩ := info_parts Tryd.info5
      clear hown3 hg3 hb3 c19
      go_wp2_with (at_builtin; refine Stop.mk ?_)
      refine Stop.out (wpList_append_own _ rfl (.tmp 45) (.tmp 47) 43 rfl W2.heap.size 5 i0 _ 1 1 Tryd.underlying43 hi hz0 hz1 hz2 rfl (by decide) v3 n (u8s A) rfl (World.ownsRow.alloc HO3.out _) ⟨W3.heap.size, 0, none⟩ 1 1 [.int .u8 (e : Int)] rfl rfl ?_ ?_ ?_ ?_ ?_ ?_)
      · exact cell_one_new _ _ _
      · intro z hz; simp at hz; subst hz; rfl
      · unfold maxLen; omega
      · omega
      · have := HB3.out.size; simp; omega
      · intro v4 W4 hown4 hg4 _
        have HO4 : Hid (W4.ownsRow W2.heap.size 5 1 v4 (n + 1) (u8s A ++ [.int .u8 (e : Int)])) := hown4
        have HB4 : Hid (Below W2.heap.size W2 W4) := (HB3.out.alloc HB3.out.size _).grown hg4 (by have := HB3.out.size; simp; omega) (fun r e => (World.ownsRow.lt HO3.out r e).1)
        have hbw4 : Below w.heap.size w W4 := HB2.out.trans (HB4.out.mono HB2.out.size)
        clear hown4 hg4
        go_wp2_with (at_builtin; refine Stop.mk ?_)
        refine Stop.out (wpList_append_V rfl (.tmp 49) (.tmp 50) rfl W2.heap.size v4 (n + 1) (u8s A ++ [.int .u8 (e : Int)]) rfl HO4.out bo m cb B rfl (HVB.out.next hbw4) HM.out hB0 (by unfold maxLen; omega) (by omega) HB4.out.size ?_)
        intro v5 W5 hown5 hg5
        have hlist : u8s A ++ [.int .u8 (e : Int)] ++ u8s B = u8s (A ++ e :: B) := by simp [u8s]
        rw [hlist] at hown5
        have hlen : n + 1 + m = (A ++ e :: B).length := by rw [List.length_append, List.length_cons, HN.out, HM.out]; omega
        rw [hlen] at hown5
        have hbytes : ∀ z ∈ A ++ e :: B, z < 256 := by
          intro z hz
          have hfa := HVA.out.form
          have hfb := HVB.out.form
          obtain ⟨_, _, _, _, hfa⟩ := hfa
          obtain ⟨_, _, _, _, hfb⟩ := hfb
          rcases List.mem_append.1 hz with hz | hz
          · exact hfa z hz
          · rcases List.mem_cons.1 hz with rfl | hz
            · exact he
            · exact hfb z hz
        have HV5 : V W5 v5 (A ++ e :: B) := own_v hown5 hbytes
        have HB5 : Hid (Below W2.heap.size W2 W5) := HB4.out.grown hg5 HB4.out.size (fun r e => (World.ownsRow.lt HO4.out r e).1)
        have HSW : Hid (∀ W, Below W2.heap.size W2 W → SetT W q u a R0 x ∧ Below w.heap.size w W) := fun W hb => ⟨HS2.out.on hb, HB2.out.trans (hb.mono HB2.out.size)⟩
        have c20 := decV (HSW.out W5 HB5.out).1 H6.out H7.out (j : Int) HV5
        obtain ⟨F, hF⟩ : ∃ F, dcS x a R0 (j : Int) (arr (A ++ e :: B)) = F := ⟨_, rfl⟩
        rw [hF] at c20
        have HF : Hid _ := hF
        obtain ⟨ga, gc, gn, rfl⟩ : ∃ ga gc gn, v5 = .slice ga gn gc := by
          rcases hown5.2 with ⟨rfl, h0⟩ | ⟨g, cap, cur, hv, _⟩
          · exact ⟨none, 0, 0, rfl⟩
          · exact ⟨_, _, _, hv⟩
        clear hown5 hg5 hlist hlen hbytes HV5 hF hbw4
        cases F with
        | error ic =>
          obtain ⟨i, c⟩ := ic
          simp only [strF, errF] at c20
          go_wp2_with (go_at_call 20; refine Stop.mk ?_)
          refine Stop.out (c20.mono ?_)
          rintro e' W6 ⟨er, rfl, ⟨gq, rfl, -⟩, hb6⟩
          have HB6 : Hid (Below w.heap.size w W6) := (HSW.out W6 (HB5.out.trans (hb6.mono HB5.out.size))).2
          clear c20 hb6
          go_wp2
          go_ret
          exact ⟨rfl, HB6.out⟩
        | ok out =>
          obtain ⟨oA, oB, hoA, hoB, hout⟩ := dcS_cut x a R0 j hj A B e he HEND.out HX6.out out HF.out
          simp only [strF, errF] at c20
          go_wp2_with (go_at_call 20; refine Stop.mk ?_)
          refine Stop.out (c20.mono ?_)
          rintro e' W6 ⟨er, rfl, her, hb6⟩
          obtain rfl : er = .nilIface := her
          have HB6 : Hid (Below W2.heap.size W2 W6) := HB5.out.trans (hb6.mono HB5.out.size)
          have cA := decV (HSW.out W6 HB6.out).1 H6.out H7.out (j : Int) (HVA.out.next (HSW.out W6 HB6.out).2)
          rw [hoA] at cA
          simp only [strF, errF] at cA
          clear c20 hb6
          go_wp2_with (go_at_call 20; refine Stop.mk ?_)
          refine Stop.out (cA.mono ?_)
          rintro e' W7 ⟨er, rfl, her, hb7⟩
          obtain rfl : er = .nilIface := her
          have HB7 : Hid (Below W2.heap.size W2 W7) := HB6.out.trans (hb7.mono HB6.out.size)
          have cB := decV (HSW.out W7 HB7.out).1 H6.out H7.out (j : Int) (HVB.out.next (HSW.out W7 HB7.out).2)
          rw [hoB] at cB
          simp only [strF, errF] at cB
          clear cA hb7
          go_wp2_with (go_at_call 20; refine Stop.mk ?_)
          refine Stop.out (cB.mono ?_)
          rintro e' W8 ⟨er, rfl, her, hb8⟩
          obtain rfl : er = .nilIface := her
          have HB8 : Hid (Below W2.heap.size W2 W8) := HB7.out.trans (hb8.mono HB7.out.size)
          have hcat : ((bsZ (oA ++ (e : Int) :: oB)).toList == ((bsZ oA ++ (⟨#[e.toUInt8]⟩ : ByteArray)) ++ bsZ oB).toList) = true := by rw [bsZ_cut]; exact beq_self_eq_true _
          have HCAT : Hid _ := hcat
          have hlA := dcS_len hoA
          have hlB := dcS_len hoB
          have hz1 : ¬ 9223372036854775807 < (bsZ oA).size + 1 := by rw [bsZ_size]; omega
          have hz2 : ¬ 9223372036854775807 < (bsZ oA).size + 1 + (bsZ oB).size := by rw [bsZ_size, bsZ_size]; omega
          have hcv := fun (W : World) (hc : W.cell? ⟨W8.heap.size, 0, none⟩ = some (.int .u8 (e : Int))) => conv_row (w := W) (g := W8.heap.size) (s := ⟨#[e.toUInt8]⟩) (cap := 1) (fun k hk => by
            have hk0 : k = 0 := by have : k < 1 := hk; omega
            subst hk0
            rw [hc]
            show some (Value.int .u8 (e : Int)) = some (Value.int .u8 ((e.toUInt8).toNat : Int))
            rw [show (e.toUInt8).toNat = e by simp; omega])
          have hcv1 := hcv (W8.alloc (.cells #[.int .u8 (e : Int)] 5)) (by simp)
          have hone : (⟨#[e.toUInt8]⟩ : ByteArray).size = 1 := rfl
          rw [hone] at hcv1
          have HBW : Hid (Below w.heap.size w (W8.alloc (.cells #[.int .u8 (e : Int)] 5))) := (HSW.out W8 HB8.out).2.alloc (HSW.out W8 HB8.out).2.size _
          clear cB hb8 hcv hone hcat hoA hoB
          go_wp2
          go_ret
          exact ⟨congrArg (fun b => Ending.returned (Value.bool b)) HCAT.out, HBW.out⟩

set_option maxRecDepth 100000 in
theorem pieces_no (w : World) (v : Value) (T : List ByteArray) (ac : Int × Int) (k : Int) (va vb ve : Value) (hr : newS T = .inl ac) (hT : TS w v T) (hsz : ∀ s ∈ T, s.size ≤ 140737488351232) (hS : Spell w) (hTb : Tabs w) (hK : Kinds w) (hU : ∀ w', Below w.heap.size w w' → Lib.Utf8Tabs 6 7 w') :
    Calls Tryd.prog 5 #[v, .int .i64 k, va, ve, vb] w fun e w' => e = .returned (.bool true) ∧ Below w.heap.size w w' := by
  have c18 := known_any w hS hTb hK hU
  have HNEW : Hid (∀ W, Below w.heap.size w W → Calls Tryd.prog 13 #[v] W fun e w' => ∃ p er, e = .returned (.tuple #[p, er]) ∧ NewAt w' W.heap.size p er (.inl ac) ∧ Below W.heap.size W w') := fun W hb => by
    have := newAll W v T (hT.next hb) hsz (hS.on hb)
    rw [hr] at this
    exact this
  obtain ⟨tao, tc, rfl, _⟩ := hT
  clear hr hsz hS hTb hK hU
  go_enter Tryd.func5, Tryd.ntmps5
  go_wp2_with (go_at_call 18; refine Stop.mk ?_)
  refine Stop.out (c18.mono ?_)
  rintro e' W1 ⟨rfl, hb1⟩
  have c13 := HNEW.out W1 hb1
  have HB1 : Hid _ := hb1
  clear c18 hb1
  go_wp2_with (go_at_call 13; refine Stop.mk ?_)
  refine Stop.out (c13.mono ?_)
  obtain ⟨a0, c0⟩ := ac
  rintro e' W2 ⟨p, er, rfl, ⟨rfl, gq, rfl, -⟩, hb2⟩
  have HB2 : Hid (Below w.heap.size w W2) := HB1.out.trans (hb2.mono HB1.out.size)
  clear hb2 c13
  go_wp2
  go_ret
  exact ⟨rfl, HB2.out⟩
end Go.Proofs.YtmhjjpdfjilobaaDoor
