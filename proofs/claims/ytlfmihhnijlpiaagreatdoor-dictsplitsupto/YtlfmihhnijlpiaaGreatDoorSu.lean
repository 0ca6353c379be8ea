import Derived.Test.YtlfmihhnijlpiaaGreatDoorSt
/-
  DERIVED. The law.
-/
namespace Go.Proofs.YtlfmihhnijlpiaaGreatDoor.Sp
open Go Go.Proofs Go.RowKit
open Wk (cell_lt own_keep Stop)

theorem u8s_take {xs : List ByteArray} {i : Nat} {x : ByteArray} (h : xs[i]? = some x) : u8s (xs.take (i + 1)) = u8s (xs.take i) ++ [.string x] := by
  rw [List.take_add_one, h, u8s_append]
  rfl
/-- The place of the document's fault in the law's frame. -/
structure FB (F : Nat) (w : World) : Prop where
  r0 : ∃ a n c, w.cell? ⟨F, 0, none⟩ = some (.slice a n c)
  r1 : ∃ u, w.cell? ⟨F, 1, none⟩ = some u
  f0 : w.frozen? ⟨F, 0, none⟩ = false
  f1 : w.frozen? ⟨F, 1, none⟩ = false
theorem FB.block {F : Nat} {w w' : World} (h : FB F w) (hb : w'.heap[F]? = w.heap[F]?) : FB F w' := by
  obtain ⟨a0, n0, c0, h0⟩ := h.r0
  obtain ⟨u1, h1⟩ := h.r1
  refine ⟨⟨a0, n0, c0, (World.cell?_of_block hb).trans h0⟩, ⟨u1, (World.cell?_of_block hb).trans h1⟩, ?_, ?_⟩
  · have := h.f0
    unfold World.frozen? at this ⊢
    rw [hb]; exact this
  · have := h.f1
    unfold World.frozen? at this ⊢
    rw [hb]; exact this
theorem FB.lt {F : Nat} {w : World} (h : FB F w) : F < w.heap.size := by
  obtain ⟨a0, n0, c0, h0⟩ := h.r0
  exact cell_lt h0
theorem FB.start (w : World) (a : Option Addr) (n c : Nat) (b : Value) : FB w.heap.size (w.alloc (.cells #[.slice a n c, b] 34)) := by
  have hh := Wk.heap_new w (.cells #[.slice a n c, b] 34)
  refine ⟨⟨a, n, c, by simp⟩, ⟨b, by simp⟩, ?_, ?_⟩
  · rw [World.frozen?, hh]; rfl
  · rw [World.frozen?, hh]; rfl
/-- What holds while the list is written over. -/
structure LB (W w9 : World) (F : Nat) (xs : List ByteArray) (N : Nat) (ag : Option Addr) (cg : Nat) (i : Nat) (Z : List ByteArray) (o : Value) (w : World) : Prop where
  zl : Z.length = i
  zs : Z.map (·.size) = (xs.take i).map (·.size)
  g : w.ownsRow w9.heap.size 9 1 (.slice ag N cg) N (u8s (Z ++ xs.drop i))
  o : w.ownsRow (F + 1) 9 1 o i (u8s Z)
  b : Below W.heap.size W w
  f : FB F w
theorem drop_get {xs : List ByteArray} {i : Nat} {x : ByteArray} (h : xs[i]? = some x) : xs.drop i = x :: xs.drop (i + 1) := by
  obtain ⟨h1, h2⟩ := List.getElem?_eq_some_iff.1 h
  rw [List.drop_eq_getElem_cons h1, h2]

theorem FB.on {F : Nat} {w w' : World} (h : FB F w) (hb : Below w.heap.size w w') : FB F w' := h.block (hb.block F h.lt)
theorem frozen_off {W : World} {b i c j : Nat} {v : Value} (h : b ≠ c) : (W.setCell ⟨b, i, none⟩ v).frozen? ⟨c, j, none⟩ = W.frozen? ⟨c, j, none⟩ := by
  unfold World.frozen?
  rw [Below.heap_setCell _ _ _ c (fun e => h e.symm)]
theorem LB.put {W w9 w wb : World} {F N cg k gg : Nat} {xs Z : List ByteArray} {ag : Option Addr} {o : Value} {x q : ByteArray} (h : LB W w9 F xs N ag cg k Z o w) (hx : xs[k]? = some x) (hb : Below w.heap.size w wb) (hag : ag = some ⟨gg, 0, none⟩) (hg : gg < F ∧ W.heap.size ≤ gg) :
    (wb.setCell ⟨gg, k, none⟩ (.string q)).ownsRow w9.heap.size 9 1 (.slice ag N cg) N (u8s ((Z ++ [q]) ++ xs.drop (k + 1))) ∧ (wb.setCell ⟨gg, k, none⟩ (.string q)).ownsRow (F + 1) 9 1 o k (u8s Z) ∧ Below W.heap.size W (wb.setCell ⟨gg, k, none⟩ (.string q)) ∧ FB F (wb.setCell ⟨gg, k, none⟩ (.string q)) := by
  have h1 := Wk.ownsRow_below h.g hb (Nat.le_refl _)
  have h2 := Wk.ownsRow_below h.o hb (Nat.le_refl _)
  subst hag
  have hlt := h.f.lt
  refine ⟨?_, ?_, ?_, ?_⟩
  · have h3 := (h1.stored k (.string q)).1
    rw [u8s_set, drop_get hx] at h3
    have e : (Z ++ x :: xs.drop (k + 1)).set k q = (Z ++ [q]) ++ xs.drop (k + 1) := by
      rw [List.set_append_right _ _ (by rw [h.zl]; exact Nat.le_refl _), h.zl, Nat.sub_self, List.set_cons_zero, List.append_assoc]
      rfl
    rw [e] at h3
    exact h3
  · exact ownsRow_setCell_other h2 (fun he => by have := (h2.lt gg he).1; omega) _
  · exact (h.b.trans (hb.mono h.b.size)).setCell hg.2 _
  · exact (h.f.on hb).block (Below.heap_setCell _ _ _ F (by show F ≠ gg; omega))
theorem LB.app {W w9 wc X W' : World} {F N cg k : Nat} {xs Z : List ByteArray} {ag : Option Addr} {o o' : Value} {x q : ByteArray} (hz : Z.length = k) (hs : Z.map (·.size) = (xs.take k).map (·.size)) (hx : xs[k]? = some x) (hq : q.size = x.size) (hgF : ∀ g, (Value.slice ag N cg).ownBlock = some g → g < F ∧ W.heap.size ≤ g) (hWF : W.heap.size ≤ F)
    (h : wc.ownsRow w9.heap.size 9 1 (.slice ag N cg) N (u8s ((Z ++ [q]) ++ xs.drop (k + 1))) ∧ wc.ownsRow (F + 1) 9 1 o k (u8s Z) ∧ Below W.heap.size W wc ∧ FB F wc) (hX : Below wc.heap.size wc X) (hg : X.grownBy W' o.ownBlock) (ho : W'.ownsRow (F + 1) 9 1 o' (k + 1) (u8s Z ++ [.string q])) : LB W w9 F xs N ag cg (k + 1) (Z ++ [q]) o' W' := by
  obtain ⟨h1, h2, h3, h4⟩ := h
  have hlt := h4.lt
  have hXs := hX.size
  have hblk : ∀ b, b ≤ F → W'.heap[b]? = wc.heap[b]? := fun b hb => (hg.block b (by omega) (fun e => by have := (h2.lt b e.symm).1; omega)).trans (hX.block b (by omega))
  refine ⟨by rw [List.length_append, List.length_singleton, hz], ?_, own_keep h1 (fun g hg' => hblk g (by have := hgF g hg'; omega)), by rw [u8s_append]; exact ho, ?_, h4.block (hblk F (Nat.le_refl _))⟩
  · rw [List.map_append, hs, List.take_add_one, hx, List.map_append]
    simp [hq]
  · exact ⟨(hg.os.trans hX.os).trans h3.os, (hg.tape.trans hX.tape).trans h3.tape, (hg.output.trans hX.output).trans h3.output, Nat.le_trans h3.size (Nat.le_trans hXs hg.size), fun b hb => (hblk b (by omega)).trans (h3.block b hb)⟩
theorem PErr.set {w : World} {F : Nat} {x a b : Value} {c p : Int} (h : PErr w x c p) (hf : FB F w) : PErr ((w.setCell ⟨F, 0, none⟩ a).setCell ⟨F, 1, none⟩ b) x c p :=
  ⟨h.zer, fun hc => by
    obtain ⟨q, h1, h2, h3, h4⟩ := h.non hc
    obtain ⟨a0, n0, c0, h0⟩ := hf.r0
    have hne : F ≠ q := fun e => by subst e; rw [h0] at h2; cases h2
    exact ⟨q, h1, (cell_set_off hne).trans ((cell_set_off hne).trans h2), (cell_set_off hne).trans ((cell_set_off hne).trans h3), (cell_set_off hne).trans ((cell_set_off hne).trans h4)⟩⟩
theorem RErr.set {w : World} {F : Nat} {x a b : Value} {c p : Int} (h : RErr w x c p) (hf : FB F w) : RErr ((w.setCell ⟨F, 0, none⟩ a).setCell ⟨F, 1, none⟩ b) x c p :=
  ⟨h.zer, fun hc => by
    obtain ⟨q, cg, h1, h2, h3⟩ := h.non hc
    obtain ⟨a0, n0, c0, h0⟩ := hf.r0
    have hne : F ≠ q := fun e => by subst e; rw [h0] at h2; cases h2
    exact ⟨q, cg, h1, (cell_set_off hne).trans ((cell_set_off hne).trans h2), (cell_set_off hne).trans ((cell_set_off hne).trans h3)⟩⟩

set_option maxRecDepth 100000 in
set_option maxHeartbeats 16000000 in
theorem splits_law (W : World) (v : Int) (s : ByteArray) (y : Value) (xs : List ByteArray) (hs : s.size ≤ 2000000) (hn : xs.length ≤ 2000000) (ht : tot xs ≤ 2000000) (ha : TxAt W y xs) :
    Calls Tryz.prog 3 #[.int .i64 v, .string s, y] W fun e w' => e = .returned (.bool true) ∧ Hid (Below W.heap.size W w') := by
  obtain ⟨ay, cy, hy, hcy, hcell⟩ := ha.form
  have HZ : Hid (Jz xs) := Jz.of hn ht
  have HTT : Hid _ := ht
  obtain ⟨s2, hs2⟩ : ∃ s2, s ++ ({ data := #[92, 49] } : ByteArray) = s2 := ⟨_, rfl⟩
  have hsz2 : s2.size ≤ 2000002 := by rw [← hs2, ByteArray.size_append]; show s.size + 2 ≤ _; omega
  have hl1 := spT_len v s
  have hl2 := spT_len v s2
  obtain ⟨N, hN⟩ : ∃ N, xs.length = N := ⟨_, rfl⟩
  subst hy
  have HN : Hid _ := hN
  rw [hN] at hn hcy ha ⊢
  have HA : Hid (∀ w, Below W.heap.size W w → TxAt w (.slice ay N cy) xs) := fun w hb => ha.on hb
  have HCE : Hid (∀ i, i < N → ∃ b o x, ay = some ⟨b, o, none⟩ ∧ xs[i]? = some x ∧ x.size ≤ 2000000 ∧ ∀ w, Below W.heap.size W w → w.cell? ⟨b, o + i, none⟩ = some (.string x)) := fun i hi => by
    have hil : i < xs.length := by rw [hN]; exact hi
    obtain ⟨b, o, e1, e2⟩ := hcell (by omega)
    exact ⟨b, o, xs[i], e1, List.getElem?_eq_getElem hil, Nat.le_trans (tot_mem (List.getElem_mem hil)) ht, fun w hb => (World.cell?_of_block (hb.block b (cell_lt (e2 i hil)))).trans (e2 i hil)⟩
  clear hN ha hcell ht
  go_enter Tryz.func3, Tryz.ntmps3
  go_wp2_with (go_at_call 4; refine Stop.mk ?_)
  refine Stop.out ((split_any W v s (by omega)).mono ?_)
  rintro e w1 ⟨x1, rfl, h1⟩
  go_wp2_with (go_at_call 4; refine Stop.mk ?_)
  try rw [hs2]
  refine Stop.out ((split_any w1 v s2 (by omega)).mono ?_)
  rintro e w2 ⟨x2, rfl, h2⟩
  go_wp2_with (go_at_call 4; refine Stop.mk ?_)
  refine Stop.out ((split_any w2 v s (by omega)).mono ?_)
  rintro e w3 ⟨x3, rfl, h3⟩
  go_wp2_with (go_at_call 5; refine Stop.mk ?_)
  refine Stop.out ((rsplit_any w3 v s (by omega)).mono ?_)
  rintro e w4 ⟨x4, rfl, h4⟩
  obtain ⟨a1, c1, hx1, -⟩ := own_form h1.out.1
  obtain ⟨a2, c2, hx2, -⟩ := own_form h2.out.1
  obtain ⟨a3, c3, hx3, -⟩ := own_form h3.out.1
  obtain ⟨a4, c4, hx4, -⟩ := own_form h4.out.1
  subst hx1 hx2 hx3 hx4
  go_wp2_with (go_at_call 6; refine Stop.mk ?_)
  refine Stop.out ((same_any w4 _ _ (spT v s) (by omega) (TxAt.own (Wk.ownsRow_below h1.out.1 (bl h2.out.2.1 (bl h3.out.2.1 h4.out.2)) (Nat.le_refl _))) (TxAt.own h4.out.1)).mono ?_)
  rintro e w5 ⟨rfl, h5⟩
  by_cases hT : spT v s = []
  · have e1 := h1.out.2.2 hT
    have hI0 : ((spT v s).length : Int) = 0 := by rw [hT]; rfl
    injection e1 with e1 e2 e3
    subst e1 e3
    clear e2 hT
    go_wp2_with (go_at_call 6; refine Stop.mk ?_)
    refine Stop.out ((same_any w5 _ _ (spT v s) (by omega) (TxAt.own (Wk.ownsRow_below h3.out.1 (bl h4.out.2 h5.out) (Nat.le_refl _))) (TxAt.own (Wk.ownsRow_below h4.out.1 h5.out (Nat.le_refl _)))).mono ?_)
    rintro e w6 ⟨rfl, h6⟩
    go_wp2_with (go_at_call 5; refine Stop.mk ?_)
    try rw [hs2]
    refine Stop.out ((rsplit_any w6 v s2 (by omega)).mono ?_)
    rintro e w7 ⟨x5, rfl, h7⟩
    obtain ⟨a5, c5, hx5, -⟩ := own_form h7.out.1
    subst hx5
    go_wp2_with (go_at_call 6; refine Stop.mk ?_)
    refine Stop.out ((same_any w7 _ _ (spT v s2) (by omega) (TxAt.own (Wk.ownsRow_below h2.out.1 (bl h3.out.2.1 (bl h4.out.2 (bl h5.out (bl h6.out h7.out.2)))) (Nat.le_refl _))) (TxAt.own h7.out.1)).mono ?_)
    rintro e w8 ⟨rfl, h8⟩
    have HR38 : Hid (Below w3.heap.size w3 w8) := bl h4.out.2 (bl h5.out (bl h6.out (bl h7.out.2 h8.out)))
    have HW8 : Hid (Below W.heap.size W w8) := bl h1.out.2.1 (bl h2.out.2.1 (bl h3.out.2.1 HR38.out))
    go_wp2_with (go_at_call 7; refine Stop.mk ?_)
    refine Stop.out ((free3 (W := W) h1.out.1 h2.out.1 h3.out.1 h1.out.2.1.size h2.out.2.1 h3.out.2.1 HR38.out (by omega) (by omega) (by omega)).mono ?_)
    rintro e w9 ⟨rfl, h9⟩
    have HW9 : Hid (Below W.heap.size W w9) := (HW8.out.alloc HW8.out.size _).trans h9.out
    clear h1 h2 h3 h4 h5 h6 h7 h8 h9 HR38 HW8 hl1 hl2 hI0
    go_wp2
    go_loopg [11, 12] N (fun g s11 s12 wx => ∃ i : Nat, s12 = .int .i64 (i : Int) ∧ g + i = N ∧ Hid (wx.ownsRow w9.heap.size 9 1 s11 i (u8s (xs.take i)) ∧ Below w9.heap.size w9 wx))
    case atStart => exact ⟨0, rfl, by omega, World.ownsRow_nil _ _ _ _, Below.refl _ _⟩
    case round =>
      obtain ⟨i, rfl, hgi, HR⟩ := hrel
      have hs9 : w9.heap.size ≤ wr.heap.size := HR.out.2.size
      have HWr : Hid (Below W.heap.size W wr) := bl HW9.out HR.out.2
      by_cases hin : i < N
      · have hI : (i : Int) < (N : Int) := by omega
        obtain ⟨b, o, x, rfl, hxi, hxz, hce⟩ := HCE.out i hin
        have hc := hce wr HWr.out
        have HXI : Hid _ := hxi
        clear hxi hce
        have hbl := cell_lt hc
        go_wp2_with (at_builtin; refine Stop.mk ?_)
        refine Stop.out (wpList_append_keeps rfl (.tmp 72) (.tmp 77) rfl w9.heap.size u11 i _ rfl (World.ownsRow.alloc HR.out.1 _) ⟨wr.heap.size, 0, none⟩ (.string x) rfl rfl (by simp) (by unfold maxLen; omega) (by omega) (by simp; omega) ?_)
        intro g9 c9 W9 ho9 hg9 _
        have HB9 : Hid (Below w9.heap.size w9 W9) := below_grown (HR.out.2.alloc hs9 _) (World.ownsRow.alloc HR.out.1 _) (by simp; omega) hg9
        have HO9 : Hid _ := ho9
        clear ho9 hg9
        go_wp2
        go_roundg (N - (i + 1))
        case measure => omega
        case rel => exact ⟨i + 1, by simp, by omega, by rw [u8s_take HXI.out]; exact HO9.out, HB9.out⟩
      · obtain rfl : i = N := by omega
        have hI : ¬ (i : Int) < (i : Int) := by omega
        have hall : xs.take i = xs := List.take_of_length_le (by rw [HN.out]; exact Nat.le_refl _)
        have HG : Hid (wr.ownsRow w9.heap.size 9 1 u11 i (u8s xs)) := by have := HR.out.1; rw [hall] at this; exact this
        have hgf : ∃ ag cg, u11 = .slice ag i cg := by
          have h := HG.out
          have e : i = xs.length := HN.out.symm
          rw [e] at h ⊢
          obtain ⟨a, c, h2, _⟩ := own_form h
          exact ⟨a, c, h2⟩
        obtain ⟨ag, cg, hag⟩ := hgf
        subst hag
        obtain ⟨w10, hw10⟩ : ∃ w10, w10 = wr := ⟨_, rfl⟩
        rw [← hw10] at HG HWr hs9 ⊢
        clear hw10 HR hall
        go_wp2_with (go_at_call 8; refine Stop.mk ?_)
        refine Stop.out ((join_any w10 v _ xs HZ.out (TxAt.own (n := i) HG.out)).mono ?_)
        rintro e w11 ⟨x, rfl, h11⟩
        go_wp2_with (go_at_call 9; refine Stop.mk ?_)
        refine Stop.out ((rjoin_any w11 v _ xs HZ.out (HA.out _ (bl HWr.out h11.out.2))).mono ?_)
        rintro e w12 ⟨f, rfl, h12⟩
        obtain ⟨fa, fn, fc, fz, hf⟩ := h12.out.1.shape
        subst hf
        have HA12 : Hid (∀ o, Below w12.heap.size w12 (w12.alloc o)) := fun o => (Below.refl _ _).alloc (Nat.le_refl _) o
        go_wp2_with (go_at_call 10; refine Stop.mk ?_)
        refine Stop.out ((is_same _ _ _ _ _ (h11.out.1.on (bl h12.out.2 (HA12.out _))) (h12.out.1.on (HA12.out _))).mono ?_)
        rintro e w13 ⟨rfl, h13⟩
        go_wp2_with (go_at_call 6; refine Stop.mk ?_)
        refine Stop.out ((same_any w13 _ _ xs (by rw [HN.out]; omega) (TxAt.own (n := i) (Wk.ownsRow_below HG.out (bl h11.out.2 (bl h12.out.2 (bl (HA12.out _) h13.out))) (Nat.le_refl _))) (HA.out _ (bl HWr.out (bl h11.out.2 (bl h12.out.2 (bl (HA12.out _) h13.out)))))).mono ?_)
        rintro e w14 ⟨rfl, h14⟩
        obtain ⟨F, hF⟩ : ∃ F, w12.heap.size = F := ⟨_, rfl⟩
        have HR10 : Hid (Below w10.heap.size w10 w14) := bl h11.out.2 (bl h12.out.2 (bl (HA12.out _) (bl h13.out h14.out)))
        have HFB : Hid (FB F w14) := by rw [← hF]; exact ((FB.start w12 _ _ _ _).on h13.out).on h14.out
        have HWF : Hid (W.heap.size ≤ F) := by rw [← hF]; exact (bl HWr.out (bl h11.out.2 h12.out.2)).size
        have HGF : Hid (∀ g, (Value.slice ag i cg).ownBlock = some g → g < F ∧ W.heap.size ≤ g) := fun g hg => by
          have h5 := HG.out.lt g hg
          have h6 := (bl h11.out.2 h12.out.2).size
          have h7 := HW9.out.size
          rw [← hF]
          omega
        have HL0 : Hid (LB W w9 F xs i ag cg 0 [] (.slice none 0 0) w14) := ⟨rfl, rfl, Wk.ownsRow_below HG.out HR10.out (Nat.le_refl _), World.ownsRow_nil _ _ _ _, bl HWr.out HR10.out, HFB.out⟩
        rw [hF]
        clear h11 h12 h13 h14 HA12 HG HR10 HFB hF HWr
        go_wp2
        go_loopg [17, 18] i (fun g s17 s18 wx => ∃ (k : Nat) (Z : List ByteArray), s18 = .int .i64 (k : Int) ∧ g + k = i ∧ Hid (LB W w9 F xs i ag cg k Z s17 wx))
        case atStart => exact ⟨0, [], rfl, by omega, HL0.out⟩
        case round =>
          clear HL0
          obtain ⟨k, Z, rfl, hgk, HL⟩ := hrel
          by_cases hk : k < i
          · have hkI : (k : Int) < (i : Int) := by omega
            obtain ⟨by', oy, z, -, hxi, hxz, -⟩ := HCE.out k hk
            obtain ⟨gg, cc, heq, -, -⟩ := HL.out.g.form (by omega)
            injection heq with heq _ heq3
            subst heq heq3
            have hown := HL.out.g
            have hcc := hown.cellAt k (by omega)
            rw [drop_get hxi, u8s_getE _ k (by rw [List.length_append, HL.out.zl, List.length_cons]; omega)] at hcc
            have hzk : (Z ++ z :: xs.drop (k + 1))[k]'(by rw [List.length_append, HL.out.zl, List.length_cons]; omega) = z := by
              rw [List.getElem_append_right (by rw [HL.out.zl]; exact Nat.le_refl _)]
              simp [HL.out.zl]
            rw [hzk] at hcc
            have HXI : Hid _ := hxi
            clear hown hzk hxi
            go_wp2_with (go_at_call 11; refine Stop.mk ?_)
            refine Stop.out ((bump_any wr z (by omega)).mono ?_)
            rintro e wb ⟨q, rfl, hq, hbb⟩
            have hownb := Wk.ownsRow_below HL.out.g hbb.out (Nat.le_refl _)
            have hfb := hownb.frozenAt k
            have hcb := (World.cell?_of_block (hbb.out.block gg (cell_lt hcc))).trans hcc
            have HP : Hid _ := HL.out.put (q := q) HXI.out hbb.out rfl (HGF.out gg rfl)
            have hcq : (wb.setCell ⟨gg, k, none⟩ (.string q)).cell? ⟨gg, k, none⟩ = some (.string q) := cell_set_eq hcb
            have hHQ : Hid _ := hq
            have HZS : Hid (Z.length = k ∧ Z.map (·.size) = (xs.take k).map (·.size)) := ⟨HL.out.zl, HL.out.zs⟩
            clear hownb hq hcc
            go_wp2_with (at_builtin; refine Stop.mk ?_)
            obtain ⟨wc, hwc⟩ : ∃ wc, wb.setCell ⟨gg, k, none⟩ (.string q) = wc := ⟨_, rfl⟩
            have hsc : wc.heap.size = wb.heap.size := by rw [← hwc]; simp
            rw [hwc] at HP hcq ⊢
            have hFc := HP.out.2.2.2.lt
            refine Stop.out (wpList_append_keeps rfl (.tmp 120) (.tmp 125) rfl (F + 1) u17 k _ rfl (World.ownsRow.alloc HP.out.2.1 _) ⟨wc.heap.size, 0, none⟩ (.string q) rfl (by first | rfl | (rw [hsc]; rfl)) (by simp) (by unfold maxLen; omega) (by omega) (by simp; omega) ?_)
            intro g9 c9 W9 ho9 hg9 _
            have HL9 : Hid (LB W w9 F xs i (some ⟨gg, 0, none⟩) cg (k + 1) (Z ++ [q]) (.slice (some ⟨g9, 0, none⟩) (k + 1) c9) W9) := LB.app HZS.out.1 HZS.out.2 HXI.out hHQ.out HGF.out HWF.out HP.out ((Below.refl _ _).alloc (Nat.le_refl _) _) hg9 ho9
            clear ho9 hg9 hcq hcb hfb
            go_wp2
            go_roundg (i - (k + 1))
            case measure => omega
            case rel => exact ⟨k + 1, _, by simp, by omega, HL9.out⟩
          · obtain rfl : k = i := by omega
            have hkI : ¬ (k : Int) < (k : Int) := by omega
            have hdr : xs.drop k = [] := List.drop_eq_nil_of_le (by rw [HN.out]; exact Nat.le_refl _)
            have htk : xs.take k = xs := List.take_of_length_le (by rw [HN.out]; exact Nat.le_refl _)
            have hzl := HL.out.zl
            have hg2 := HL.out.g
            rw [hdr, List.append_nil] at hg2
            have HG2 : Hid _ := hg2
            have HZZ : Hid (Jz Z) := Jz.of (by omega) (by have h5 := HL.out.zs; rw [htk] at h5; unfold tot; rw [h5]; exact HTT.out)
            clear hg2 hdr htk
            obtain ⟨aov, cov, hov, -⟩ := own_form (T := Z) (by rw [hzl]; exact HL.out.o)
            rw [hzl] at hov
            subst hov
            obtain ⟨w15, hw15⟩ : ∃ w15, w15 = wr := ⟨_, rfl⟩
            rw [← hw15] at HL HG2 ⊢
            clear hw15
            go_wp2_with (go_at_call 8; refine Stop.mk ?_)
            refine Stop.out ((join_any w15 v _ Z HZZ.out (TxAt.own (n := k) HG2.out)).mono ?_)
            rintro e w16 ⟨x2, rfl, h16⟩
            go_wp2_with (go_at_call 9; refine Stop.mk ?_)
            refine Stop.out ((rjoin_any w16 v _ Z HZZ.out ((TxAt.own (n := k) HL.out.o).on h16.out.2)).mono ?_)
            rintro e w17 ⟨f2, rfl, h17⟩
            obtain ⟨fa2, fn2, fc2, fz2, hf2⟩ := h17.out.1.shape
            subst hf2
            have HF2 : Hid (FB F w17) := (HL.out.f.on h16.out.2).on h17.out.2
            obtain ⟨u0, u1', u2', r0⟩ := HF2.out.r0
            obtain ⟨u3', r1⟩ := HF2.out.r1
            have f0 := HF2.out.f0
            have f1 := HF2.out.f1
            go_wp2_with (go_at_call 10; refine Stop.mk ?_)
            refine Stop.out ((is_same _ _ _ _ _ ((h16.out.1.on h17.out.2).set HF2.out) (h17.out.1.set HF2.out)).mono ?_)
            rintro e w18 ⟨rfl, h18⟩
            go_wp2
            go_ret
            exact ⟨rfl, (((bl HL.out.b (bl h16.out.2 h17.out.2)).setCell HWF.out _).setCell HWF.out _).trans (h18.out.mono (by simp; exact (bl HL.out.b (bl h16.out.2 h17.out.2)).size))⟩
  · have hI0 : (((spT v s).length : Int) == 0) = false := by
      have : ¬ ((spT v s).length : Int) = 0 := fun h => hT (List.length_eq_zero_iff.1 (by omega))
      simpa using this
    clear hT
    go_wp2_with (go_at_call 6; refine Stop.mk ?_)
    refine Stop.out ((same_any w5 _ _ (spT v s) (by omega) (TxAt.own (Wk.ownsRow_below h3.out.1 (bl h4.out.2 h5.out) (Nat.le_refl _))) (TxAt.own (Wk.ownsRow_below h4.out.1 h5.out (Nat.le_refl _)))).mono ?_)
    rintro e w6 ⟨rfl, h6⟩
    go_wp2_with (go_at_call 5; refine Stop.mk ?_)
    try rw [hs2]
    refine Stop.out ((rsplit_any w6 v s2 (by omega)).mono ?_)
    rintro e w7 ⟨x5, rfl, h7⟩
    obtain ⟨a5, c5, hx5, -⟩ := own_form h7.out.1
    subst hx5
    go_wp2_with (go_at_call 6; refine Stop.mk ?_)
    refine Stop.out ((same_any w7 _ _ (spT v s2) (by omega) (TxAt.own (Wk.ownsRow_below h2.out.1 (bl h3.out.2.1 (bl h4.out.2 (bl h5.out (bl h6.out h7.out.2)))) (Nat.le_refl _))) (TxAt.own h7.out.1)).mono ?_)
    rintro e w8 ⟨rfl, h8⟩
    have HR38 : Hid (Below w3.heap.size w3 w8) := bl h4.out.2 (bl h5.out (bl h6.out (bl h7.out.2 h8.out)))
    have HW8 : Hid (Below W.heap.size W w8) := bl h1.out.2.1 (bl h2.out.2.1 (bl h3.out.2.1 HR38.out))
    go_wp2_with (go_at_call 7; refine Stop.mk ?_)
    refine Stop.out ((free3 (W := W) h1.out.1 h2.out.1 h3.out.1 h1.out.2.1.size h2.out.2.1 h3.out.2.1 HR38.out (by omega) (by omega) (by omega)).mono ?_)
    rintro e w9 ⟨rfl, h9⟩
    have HW9 : Hid (Below W.heap.size W w9) := (HW8.out.alloc HW8.out.size _).trans h9.out
    clear h1 h2 h3 h4 h5 h6 h7 h8 h9 HR38 HW8 hl1 hl2 hI0
    go_wp2
    go_loopg [11, 12] N (fun g s11 s12 wx => ∃ i : Nat, s12 = .int .i64 (i : Int) ∧ g + i = N ∧ Hid (wx.ownsRow w9.heap.size 9 1 s11 i (u8s (xs.take i)) ∧ Below w9.heap.size w9 wx))
    case atStart => exact ⟨0, rfl, by omega, World.ownsRow_nil _ _ _ _, Below.refl _ _⟩
    case round =>
      obtain ⟨i, rfl, hgi, HR⟩ := hrel
      have hs9 : w9.heap.size ≤ wr.heap.size := HR.out.2.size
      have HWr : Hid (Below W.heap.size W wr) := bl HW9.out HR.out.2
      by_cases hin : i < N
      · have hI : (i : Int) < (N : Int) := by omega
        obtain ⟨b, o, x, rfl, hxi, hxz, hce⟩ := HCE.out i hin
        have hc := hce wr HWr.out
        have HXI : Hid _ := hxi
        clear hxi hce
        have hbl := cell_lt hc
        go_wp2_with (at_builtin; refine Stop.mk ?_)
        refine Stop.out (wpList_append_keeps rfl (.tmp 72) (.tmp 77) rfl w9.heap.size u11 i _ rfl (World.ownsRow.alloc HR.out.1 _) ⟨wr.heap.size, 0, none⟩ (.string x) rfl rfl (by simp) (by unfold maxLen; omega) (by omega) (by simp; omega) ?_)
        intro g9 c9 W9 ho9 hg9 _
        have HB9 : Hid (Below w9.heap.size w9 W9) := below_grown (HR.out.2.alloc hs9 _) (World.ownsRow.alloc HR.out.1 _) (by simp; omega) hg9
        have HO9 : Hid _ := ho9
        clear ho9 hg9
        go_wp2
        go_roundg (N - (i + 1))
        case measure => omega
        case rel => exact ⟨i + 1, by simp, by omega, by rw [u8s_take HXI.out]; exact HO9.out, HB9.out⟩
      · obtain rfl : i = N := by omega
        have hI : ¬ (i : Int) < (i : Int) := by omega
        have hall : xs.take i = xs := List.take_of_length_le (by rw [HN.out]; exact Nat.le_refl _)
        have HG : Hid (wr.ownsRow w9.heap.size 9 1 u11 i (u8s xs)) := by have := HR.out.1; rw [hall] at this; exact this
        have hgf : ∃ ag cg, u11 = .slice ag i cg := by
          have h := HG.out
          have e : i = xs.length := HN.out.symm
          rw [e] at h ⊢
          obtain ⟨a, c, h2, _⟩ := own_form h
          exact ⟨a, c, h2⟩
        obtain ⟨ag, cg, hag⟩ := hgf
        subst hag
        obtain ⟨w10, hw10⟩ : ∃ w10, w10 = wr := ⟨_, rfl⟩
        rw [← hw10] at HG HWr hs9 ⊢
        clear hw10 HR hall
        go_wp2_with (go_at_call 8; refine Stop.mk ?_)
        refine Stop.out ((join_any w10 v _ xs HZ.out (TxAt.own (n := i) HG.out)).mono ?_)
        rintro e w11 ⟨x, rfl, h11⟩
        go_wp2_with (go_at_call 9; refine Stop.mk ?_)
        refine Stop.out ((rjoin_any w11 v _ xs HZ.out (HA.out _ (bl HWr.out h11.out.2))).mono ?_)
        rintro e w12 ⟨f, rfl, h12⟩
        obtain ⟨fa, fn, fc, fz, hf⟩ := h12.out.1.shape
        subst hf
        have HA12 : Hid (∀ o, Below w12.heap.size w12 (w12.alloc o)) := fun o => (Below.refl _ _).alloc (Nat.le_refl _) o
        go_wp2_with (go_at_call 10; refine Stop.mk ?_)
        refine Stop.out ((is_same _ _ _ _ _ (h11.out.1.on (bl h12.out.2 (HA12.out _))) (h12.out.1.on (HA12.out _))).mono ?_)
        rintro e w13 ⟨rfl, h13⟩
        go_wp2_with (go_at_call 6; refine Stop.mk ?_)
        refine Stop.out ((same_any w13 _ _ xs (by rw [HN.out]; omega) (TxAt.own (n := i) (Wk.ownsRow_below HG.out (bl h11.out.2 (bl h12.out.2 (bl (HA12.out _) h13.out))) (Nat.le_refl _))) (HA.out _ (bl HWr.out (bl h11.out.2 (bl h12.out.2 (bl (HA12.out _) h13.out)))))).mono ?_)
        rintro e w14 ⟨rfl, h14⟩
        obtain ⟨F, hF⟩ : ∃ F, w12.heap.size = F := ⟨_, rfl⟩
        have HR10 : Hid (Below w10.heap.size w10 w14) := bl h11.out.2 (bl h12.out.2 (bl (HA12.out _) (bl h13.out h14.out)))
        have HFB : Hid (FB F w14) := by rw [← hF]; exact ((FB.start w12 _ _ _ _).on h13.out).on h14.out
        have HWF : Hid (W.heap.size ≤ F) := by rw [← hF]; exact (bl HWr.out (bl h11.out.2 h12.out.2)).size
        have HGF : Hid (∀ g, (Value.slice ag i cg).ownBlock = some g → g < F ∧ W.heap.size ≤ g) := fun g hg => by
          have h5 := HG.out.lt g hg
          have h6 := (bl h11.out.2 h12.out.2).size
          have h7 := HW9.out.size
          rw [← hF]
          omega
        have HL0 : Hid (LB W w9 F xs i ag cg 0 [] (.slice none 0 0) w14) := ⟨rfl, rfl, Wk.ownsRow_below HG.out HR10.out (Nat.le_refl _), World.ownsRow_nil _ _ _ _, bl HWr.out HR10.out, HFB.out⟩
        rw [hF]
        clear h11 h12 h13 h14 HA12 HG HR10 HFB hF HWr
        go_wp2
        go_loopg [17, 18] i (fun g s17 s18 wx => ∃ (k : Nat) (Z : List ByteArray), s18 = .int .i64 (k : Int) ∧ g + k = i ∧ Hid (LB W w9 F xs i ag cg k Z s17 wx))
        case atStart => exact ⟨0, [], rfl, by omega, HL0.out⟩
        case round =>
          clear HL0
          obtain ⟨k, Z, rfl, hgk, HL⟩ := hrel
          by_cases hk : k < i
          · have hkI : (k : Int) < (i : Int) := by omega
            obtain ⟨by', oy, z, -, hxi, hxz, -⟩ := HCE.out k hk
            obtain ⟨gg, cc, heq, -, -⟩ := HL.out.g.form (by omega)
            injection heq with heq _ heq3
            subst heq heq3
            have hown := HL.out.g
            have hcc := hown.cellAt k (by omega)
            rw [drop_get hxi, u8s_getE _ k (by rw [List.length_append, HL.out.zl, List.length_cons]; omega)] at hcc
            have hzk : (Z ++ z :: xs.drop (k + 1))[k]'(by rw [List.length_append, HL.out.zl, List.length_cons]; omega) = z := by
              rw [List.getElem_append_right (by rw [HL.out.zl]; exact Nat.le_refl _)]
              simp [HL.out.zl]
            rw [hzk] at hcc
            have HXI : Hid _ := hxi
            clear hown hzk hxi
            go_wp2_with (go_at_call 11; refine Stop.mk ?_)
            refine Stop.out ((bump_any wr z (by omega)).mono ?_)
            rintro e wb ⟨q, rfl, hq, hbb⟩
            have hownb := Wk.ownsRow_below HL.out.g hbb.out (Nat.le_refl _)
            have hfb := hownb.frozenAt k
            have hcb := (World.cell?_of_block (hbb.out.block gg (cell_lt hcc))).trans hcc
            have HP : Hid _ := HL.out.put (q := q) HXI.out hbb.out rfl (HGF.out gg rfl)
            have hcq : (wb.setCell ⟨gg, k, none⟩ (.string q)).cell? ⟨gg, k, none⟩ = some (.string q) := cell_set_eq hcb
            have hHQ : Hid _ := hq
            have HZS : Hid (Z.length = k ∧ Z.map (·.size) = (xs.take k).map (·.size)) := ⟨HL.out.zl, HL.out.zs⟩
            clear hownb hq hcc
            go_wp2_with (at_builtin; refine Stop.mk ?_)
            obtain ⟨wc, hwc⟩ : ∃ wc, wb.setCell ⟨gg, k, none⟩ (.string q) = wc := ⟨_, rfl⟩
            have hsc : wc.heap.size = wb.heap.size := by rw [← hwc]; simp
            rw [hwc] at HP hcq ⊢
            have hFc := HP.out.2.2.2.lt
            refine Stop.out (wpList_append_keeps rfl (.tmp 120) (.tmp 125) rfl (F + 1) u17 k _ rfl (World.ownsRow.alloc HP.out.2.1 _) ⟨wc.heap.size, 0, none⟩ (.string q) rfl (by first | rfl | (rw [hsc]; rfl)) (by simp) (by unfold maxLen; omega) (by omega) (by simp; omega) ?_)
            intro g9 c9 W9 ho9 hg9 _
            have HL9 : Hid (LB W w9 F xs i (some ⟨gg, 0, none⟩) cg (k + 1) (Z ++ [q]) (.slice (some ⟨g9, 0, none⟩) (k + 1) c9) W9) := LB.app HZS.out.1 HZS.out.2 HXI.out hHQ.out HGF.out HWF.out HP.out ((Below.refl _ _).alloc (Nat.le_refl _) _) hg9 ho9
            clear ho9 hg9 hcq hcb hfb
            go_wp2
            go_roundg (i - (k + 1))
            case measure => omega
            case rel => exact ⟨k + 1, _, by simp, by omega, HL9.out⟩
          · obtain rfl : k = i := by omega
            have hkI : ¬ (k : Int) < (k : Int) := by omega
            have hdr : xs.drop k = [] := List.drop_eq_nil_of_le (by rw [HN.out]; exact Nat.le_refl _)
            have htk : xs.take k = xs := List.take_of_length_le (by rw [HN.out]; exact Nat.le_refl _)
            have hzl := HL.out.zl
            have hg2 := HL.out.g
            rw [hdr, List.append_nil] at hg2
            have HG2 : Hid _ := hg2
            have HZZ : Hid (Jz Z) := Jz.of (by omega) (by have h5 := HL.out.zs; rw [htk] at h5; unfold tot; rw [h5]; exact HTT.out)
            clear hg2 hdr htk
            obtain ⟨aov, cov, hov, -⟩ := own_form (T := Z) (by rw [hzl]; exact HL.out.o)
            rw [hzl] at hov
            subst hov
            obtain ⟨w15, hw15⟩ : ∃ w15, w15 = wr := ⟨_, rfl⟩
            rw [← hw15] at HL HG2 ⊢
            clear hw15
            go_wp2_with (go_at_call 8; refine Stop.mk ?_)
            refine Stop.out ((join_any w15 v _ Z HZZ.out (TxAt.own (n := k) HG2.out)).mono ?_)
            rintro e w16 ⟨x2, rfl, h16⟩
            go_wp2_with (go_at_call 9; refine Stop.mk ?_)
            refine Stop.out ((rjoin_any w16 v _ Z HZZ.out ((TxAt.own (n := k) HL.out.o).on h16.out.2)).mono ?_)
            rintro e w17 ⟨f2, rfl, h17⟩
            obtain ⟨fa2, fn2, fc2, fz2, hf2⟩ := h17.out.1.shape
            subst hf2
            have HF2 : Hid (FB F w17) := (HL.out.f.on h16.out.2).on h17.out.2
            obtain ⟨u0, u1', u2', r0⟩ := HF2.out.r0
            obtain ⟨u3', r1⟩ := HF2.out.r1
            have f0 := HF2.out.f0
            have f1 := HF2.out.f1
            go_wp2_with (go_at_call 10; refine Stop.mk ?_)
            refine Stop.out ((is_same _ _ _ _ _ ((h16.out.1.on h17.out.2).set HF2.out) (h17.out.1.set HF2.out)).mono ?_)
            rintro e w18 ⟨rfl, h18⟩
            go_wp2
            go_ret
            exact ⟨rfl, (((bl HL.out.b (bl h16.out.2 h17.out.2)).setCell HWF.out _).setCell HWF.out _).trans (h18.out.mono (by simp; exact (bl HL.out.b (bl h16.out.2 h17.out.2)).size))⟩
end Go.Proofs.YtlfmihhnijlpiaaGreatDoor.Sp
