import Derived.Test.YtiieikdbhpflgabDoorXf
import Derived.Deep.RegionWith
/-
  DERIVED. The program's copied gives just the PDU, in memory of its own.
-/
namespace Go.Proofs.YtiieikdbhpflgabDoor
open Go Go.Proofs Go.RowKit

theorem RE.flatn {w : World} {v : Value} {ps : List El} {st n : Nat} {Sh : El → Prop} (h : RE w v ps st Sh) (hlen : ∀ p, Sh p → ∀ vs, InnR w p.inn vs → (p.fl ++ vs).length = st) (hone : ∀ p, Sh p → ∀ vs, InnR w p.inn vs → ∀ u ∈ p.fl ++ vs, u.oneCell' = true) (hst : 0 < st) (hn : ps.length = n) :
    ∃ a cp xs, v = .slice a n cp ∧ Flat w (.slice a n cp) n st xs ∧ ∀ i (h : i < ps.length), ∃ vs, (∀ j u, (ps[i].fl ++ vs)[j]? = some u → xs[i * st + j]? = some u) ∧ InnR w ps[i].inn vs := by
  subst hn
  obtain ⟨xs, h1, h2⟩ := h.flat hlen hone hst
  obtain ⟨-, a, cp, hv, -⟩ := h
  exact ⟨a, cp, xs, hv, hv ▸ h1, h2⟩
theorem V.byte {w : World} {v : Value} {bs : List Nat} (h : V w v bs) : ∀ x ∈ bs, x < 256 := by
  obtain ⟨ao, cap, rfl, hf, hz⟩ := h.form
  intro x hx
  obtain ⟨b, off, e, hc⟩ := hf (List.length_pos_of_mem hx)
  exact hc.2 x hx
set_option maxRecDepth 100000 in
set_option maxHeartbeats 8000000 in
theorem copied_any (w : World) (k : Int) (c : Fin 18 → Value) (D : PdD) (hR : RX w c D) : Calls Tryd.prog 68 #[.agg (Pd k c)] w fun e w' => ∃ c2, e = .returned (.agg (Pd k c2)) ∧ OX w.heap.size w' c2 D ∧ (∀ i, i ≠ 4 → i ≠ 12 → i ≠ 13 → i ≠ 17 → c2 i = c i) ∧ Below w.heap.size w w' := by
  have HRX : Hid (RX w c D) := hR
  obtain ⟨W2, hW2⟩ : ∃ W2, (w.alloc (.cells (Pd k c) 46)).alloc (.cells #[.int .i64 0, .int .u16 0, .string ⟨#[]⟩, .string ⟨#[]⟩, .string ⟨#[]⟩, .slice none 0 0, .bool false, .int .u32 0, .string ⟨#[]⟩, .string ⟨#[]⟩, .bool false, .int .u16 0, .int .u16 0, .slice none 0 0, .slice none 0 0, .int .u8 0, .int .u8 0, .int .u8 0, .slice none 0 0] 46) = W2 := ⟨_, rfl⟩
  have HC2 : Hid (CC w k c #[.int .i64 0, .int .u16 0, .string ⟨#[]⟩, .string ⟨#[]⟩, .string ⟨#[]⟩, .slice none 0 0, .bool false, .int .u32 0, .string ⟨#[]⟩, .string ⟨#[]⟩, .bool false, .int .u16 0, .int .u16 0, .slice none 0 0, .slice none 0 0, .int .u8 0, .int .u8 0, .int .u8 0, .slice none 0 0] W2) := by
    subst hW2
    refine ⟨((Below.refl _ _).alloc (Nat.le_refl _) _).alloc (by simp) _, (Below.heap_alloc _ _ _ (by simp)).trans (alloc_new w _), ?_⟩
    have := alloc_new (w.alloc (.cells (Pd k c) 46)) (.cells #[.int .i64 0, .int .u16 0, .string ⟨#[]⟩, .string ⟨#[]⟩, .string ⟨#[]⟩, .slice none 0 0, .bool false, .int .u32 0, .string ⟨#[]⟩, .string ⟨#[]⟩, .bool false, .int .u16 0, .int .u16 0, .slice none 0 0, .slice none 0 0, .int .u8 0, .int .u8 0, .int .u8 0, .slice none 0 0] 46)
    simpa using this
  obtain ⟨n, hnl⟩ : ∃ n, D.cx.length = n := ⟨_, rfl⟩
  obtain ⟨a4, c4, xs4, h4, hfl4, hel4⟩ := hR.ctx.1.flatn (lenC w) (oneC w) (by decide) hnl
  have y5 : W2.cell? ⟨w.heap.size, 5, none⟩ = some (.slice a4 n c4) := by rw [← h4]; exact HC2.out.cell 4
  have hn : n ≤ 2932031007384 := by have := hR.ctx.2; unfold Fits at this; omega
  have HE4 : Hid (∀ i (h : i < D.cx.length), ∃ vs, (∀ j u, (D.cx[i].fl ++ vs)[j]? = some u → xs4[i * 4 + j]? = some u) ∧ InnR w D.cx[i].inn vs) := hel4
  have hc94 := fresh94 W2 (.slice a4 n c4) n xs4 (hfl4.on HC2.out.below) (by omega)
  have HN4 : Hid (D.cx.length = n) := hnl
  have HSh : Hid ((∀ p ∈ D.cx, ShC p) ∧ (∀ p ∈ D.rl, ShR p) ∧ (∀ p ∈ D.ot, ShO p) ∧ ∀ p ∈ D.vl, ShV p) := by
    obtain ⟨⟨-, _, _, _, s1, -⟩, -⟩ := hR.ctx
    obtain ⟨⟨-, _, _, _, s2, -⟩, -⟩ := hR.role
    obtain ⟨⟨-, _, _, _, s3, -⟩, -⟩ := hR.oth
    obtain ⟨⟨-, _, _, _, s4, -⟩, -⟩ := hR.val
    exact ⟨s1, s2, s3, s4⟩
  have hwlt : w.heap.size < W2.heap.size := by have := HC2.out.size; omega
  clear hR h4 hnl hfl4 hel4
  go_enter Tryd.func68, Tryd.ntmps68
  generalize hPP : Pd k c = PP at hW2
  go_wp2_with (go_at_call 72; refine Stop8.mk ?_)
  refine Stop8.out (hc94.mono ?_)
  rintro e W3 ⟨a1, p1, rfl, ho3, hb3⟩
  clear hW2 hc94
  have hZs : (#[.int .i64 0, .int .u16 0, .string ⟨#[]⟩, .string ⟨#[]⟩, .string ⟨#[]⟩, .slice none 0 0, .bool false, .int .u32 0, .string ⟨#[]⟩, .string ⟨#[]⟩, .bool false, .int .u16 0, .int .u16 0, .slice none 0 0, .slice none 0 0, .int .u8 0, .int .u8 0, .int .u8 0, .slice none 0 0] : Array Value).size = 19 := rfl
  generalize (#[.int .i64 0, .int .u16 0, .string ⟨#[]⟩, .string ⟨#[]⟩, .string ⟨#[]⟩, .slice none 0 0, .bool false, .int .u32 0, .string ⟨#[]⟩, .string ⟨#[]⟩, .bool false, .int .u16 0, .int .u16 0, .slice none 0 0, .slice none 0 0, .int .u8 0, .int .u8 0, .int .u8 0, .slice none 0 0] : Array Value) = Z at HC2 hZs
  have HC3 : Hid (CC w k c Z W3) := HC2.out.on (hb3.mono HC2.out.size)
  have x5 : W3.cell? ⟨w.heap.size, 5, none⟩ = some (c 4) := HC3.out.cell 4
  have x5f : W3.frozen? ⟨w.heap.size, 5, none⟩ = false := HC3.out.froz 5
  have HC4 : Hid (CC w k (up c 4 (.slice a1 n p1)) Z (W3.setCell ⟨w.heap.size, 5, none⟩ (.slice a1 n p1))) := HC3.out.set 5 _ _ (pd_up4 k c _)
  have HL4 : Hid (LP (w.heap.size + 2) w (W3.setCell ⟨w.heap.size, 5, none⟩ (.slice a1 n p1)) (.slice a1 n p1) n 95 4 D.cx 0) := by
    refine LP.start (xs := xs4) ?_ HE4.out HSh.out.1 (lenC w)
    exact own_low (ownsRow_setCell_below ho3 (a := ⟨w.heap.size, 5, none⟩) (by show w.heap.size < W2.heap.size; exact hwlt) _) HC2.out.size
  have HCV : Hid (∀ i, i ≠ 4 → up c 4 (.slice a1 n p1) i = c i) := fun i h4 => by simp [up, h4]
  have y5n : (W3.setCell ⟨w.heap.size, 5, none⟩ (.slice a1 n p1)).cell? ⟨w.heap.size, 5, none⟩ = some (.slice a1 n p1) := cell_set_eq x5
  clear ho3 hb3 HC3 HC2 HE4 y5 hwlt
  go_wp2
  clear x5 x5f y5n
  generalize W3.setCell ⟨w.heap.size, 5, none⟩ (.slice a1 n p1) = W4 at *
  have HU4 : Hid (up c 4 (.slice a1 n p1) 4 = .slice a1 n p1) := by show up c 4 (.slice a1 n p1) 4 = _; simp [up]
  generalize up c 4 (.slice a1 n p1) = cA at *
  go_loopw [21] (fun x wr => ∃ (i : Nat), x = .int .i64 (i : Int) ∧ i ≤ n ∧ Hid (CC w k cA Z wr) ∧ Hid (LP (w.heap.size + 2) w wr (.slice a1 n p1) n 95 4 D.cx i)) (fun x _ => n - (intOf x).toNat)
  case atStart => exact ⟨0, rfl, by omega, HC4, HL4⟩
  case round =>
    clear HC4 HL4
    obtain ⟨i, rfl, hi, HC, HL⟩ := hrel
    have y5 : wr.cell? ⟨w.heap.size, 5, none⟩ = some (.slice a1 n p1) := by rw [← HU4.out]; exact HC.out.cell 4
    by_cases hin : i < n
    · have hin2 : ((i : Int) < (n : Int)) := by omega
      have hix : i < D.cx.length := by rw [HN4.out]; exact hin
      obtain ⟨g, hav, hglo⟩ : ∃ g, a1 = some ⟨g, 0, none⟩ ∧ w.heap.size + 2 ≤ g := by
        obtain ⟨xs, ho, -⟩ := HL.out
        obtain ⟨g, cap, hv, hlo, -⟩ := ho.form (by omega)
        have h2 : a1 = some ⟨g, 0, none⟩ ∧ p1 = cap := by simpa using hv
        exact ⟨g, h2.1, hlo⟩
      obtain ⟨vs, hE1, hE2, hE3⟩ := (hav ▸ HL.out : LP (w.heap.size + 2) w wr (.slice (some ⟨g, 0, none⟩) n p1) n 95 4 D.cx i).cur HN4.out hix
      obtain ⟨x0, x1, s2, T, he⟩ := HSh.out.1 D.cx[i] (List.getElem_mem hix)
      have HE : Hid (∃ h : i < D.cx.length, D.cx[i] = ⟨[.int .u8 x0, .int .u8 x1, .string s2], .tx T⟩) := ⟨hix, he⟩
      rw [he] at hE1 hE2
      obtain ⟨v3, rfl, hT⟩ := hE2
      have e3 : wr.cell? ⟨g, i * 4 + 3, none⟩ = some v3 := hE1 3 _ rfl
      have f3 := hE3 (i * 4 + 3)
      have hgl : g < wr.heap.size := cell_lt e3
      have hpl : w.heap.size < wr.heap.size := cell_lt y5
      have hfl : Flat wr.drew v3 T.length 1 (txs T) := (hT.flat).on (HC.out.below.trans ⟨rfl, rfl, rfl, Nat.le_refl _, fun _ _ => rfl⟩)
      have hzT : T.length * 16 ≤ 140737488355328 := by obtain ⟨_, _, _, _, hz, _⟩ := hT; omega
      have hc95 := fresh95 wr.drew v3 T.length (txs T) hfl hzT
      obtain ⟨ao2, cap2, hv3⟩ : ∃ a c', v3 = .slice a T.length c' := by obtain ⟨a, c', h, -⟩ := hT; exact ⟨a, c', h⟩
      subst hv3
      have HAV : Hid (a1 = some ⟨g, 0, none⟩ ∧ w.heap.size + 2 ≤ g) := ⟨hav, hglo⟩
      have HT2 : Hid (T.length * 16 ≤ 140737488351232) := by obtain ⟨_, _, _, _, hz, _⟩ := hT; exact hz
      rw [hav] at y5
      clear hav hE1 hE3 he hT hfl hix hglo
      go_wp2
      go_region_with (go_at_call 73; refine hc95.mono ?_; rintro x W9 ⟨a9, p9, rfl, hown9, hb9d⟩; have hb9 : Below wr.heap.size wr W9 := ⟨hb9d.os, hb9d.tape, hb9d.output, hb9d.size, hb9d.block⟩; have z5 := (hb9.cell (p := ⟨w.heap.size, 5, none⟩) hpl).trans y5; have zc := (hb9.cell (p := ⟨g, i * 4 + 3, none⟩) hgl).trans e3; have zf := (hb9.frozen (p := ⟨g, i * 4 + 3, none⟩) hgl).trans f3; have HO9 : Hid (W9.ownsRow wr.heap.size 9 1 (.slice a9 T.length p9) T.length (txs T) ∧ Below wr.heap.size wr W9) := ⟨hown9, hb9⟩)
      all_goals
        have HL9 : Hid (LP (w.heap.size + 2) w (W9.setCell ⟨g, i * 4 + 3, none⟩ (.slice a9 T.length p9)) (.slice a1 n p1) n 95 4 D.cx (i + 1)) := by
          obtain ⟨hi2, he2⟩ := HE.out
          have h1 := HL.out
          rw [HAV.out.1] at h1 ⊢
          refine LP.step (f := 3) h1 hi2 (by rw [he2]; rfl) rfl HO9.out.2 ?_ (fun b e => (HO9.out.1.lt b e).1) (fun p hp => by obtain ⟨_, _, _, _, rfl⟩ := HSh.out.1 p hp; rfl)
          rw [he2]
          exact inno_tx HO9.out.1 HT2.out (fun b e => by obtain rfl : g = b := by simpa [Value.ownBlock] using e
                                                         exact hgl) (by have := HC.out.size; omega)
        have HC9 : Hid (CC w k cA Z (W9.setCell ⟨g, i * 4 + 3, none⟩ (.slice a9 T.length p9))) := HC.out.on ((HO9.out.2.mono HC.out.size).setCell (p := ⟨g, i * 4 + 3, none⟩) HAV.out.2 _)
        clear hb9 z5 zc zf hb9d hown9
        go_wp2
        go_roundw
        case rel => exact ⟨i + 1, by go_num, by omega, HC9.out, HL9.out⟩
        case measure => simp [intOf]; omega
    · have hin2 : ¬ ((i : Int) < (n : Int)) := by omega
      obtain rfl : n = i := by omega
      have HA : Hid (OE (w.heap.size + 2) wr (cA 4) D.cx 4 95 ShC) := by
        show OE (w.heap.size + 2) wr (cA 4) D.cx 4 95 ShC
        rw [HU4.out]
        exact HL.out.done HN4.out HSh.out.1
      clear HL HU4 HN4 y5
      obtain ⟨n2, hn2l⟩ : ∃ m, D.rl.length = m := ⟨_, rfl⟩
      obtain ⟨a13, c13, xs13, h13, hfl13, hel13⟩ := HRX.out.role.1.flatn (lenR w) (oneR w) (by decide) hn2l
      have hn2 : n2 * 24 ≤ 140737488355328 := by have := HRX.out.role.2; unfold Fits at this; omega
      have y13 : wr.cell? ⟨w.heap.size, 13, none⟩ = some (.slice a13 n2 c13) := by rw [← h13, ← HCV.out 12 (by decide)]; exact HC.out.cell 12
      have hc96 := fresh96 wr (.slice a13 n2 c13) n2 xs13 (hfl13.on HC.out.below) hn2
      have HE13 : Hid (∀ i (h : i < D.rl.length), ∃ vs, (∀ j u, (D.rl[i].fl ++ vs)[j]? = some u → xs13[i * 3 + j]? = some u) ∧ InnR w D.rl[i].inn vs) := hel13
      have HN13 : Hid (D.rl.length = n2) := hn2l
      have hwlt : w.heap.size < wr.heap.size := by have := HC.out.size; omega
      have HS2 : Hid (w.heap.size + 2 ≤ wr.heap.size) := HC.out.size
      clear h13 hfl13 hel13 hn2l
      go_wp2_with (go_at_call 74; refine Stop8.mk ?_)
      refine Stop8.out (hc96.mono ?_)
      rintro e W5 ⟨a5, p5, rfl, ho5, hb5⟩
      clear hc96 y13
      have HC5 : Hid (CC w k cA Z W5) := HC.out.on (hb5.mono HC.out.size)
      have x13 : W5.cell? ⟨w.heap.size, 13, none⟩ = some (cA 12) := HC5.out.cell 12
      have x13f : W5.frozen? ⟨w.heap.size, 13, none⟩ = false := HC5.out.froz 13
      have HC6 : Hid (CC w k (up cA 12 (.slice a5 n2 p5)) Z (W5.setCell ⟨w.heap.size, 13, none⟩ (.slice a5 n2 p5))) := HC5.out.set 13 _ _ (pd_up12 k cA _)
      have HB6 : Hid (OE (w.heap.size + 2) (W5.setCell ⟨w.heap.size, 13, none⟩ (.slice a5 n2 p5)) (up cA 12 (.slice a5 n2 p5) 12) D.rl 3 97 ShR) := by
        show OE (w.heap.size + 2) (W5.setCell ⟨w.heap.size, 13, none⟩ (.slice a5 n2 p5)) (up cA 12 (.slice a5 n2 p5) 12) D.rl 3 97 ShR
        rw [show up cA 12 (.slice a5 n2 p5) 12 = .slice a5 n2 p5 by simp [up]]
        refine LP.flat (w := w) (LP.start (xs := xs13) ?_ HE13.out HSh.out.2.1 (lenR w)) HSh.out.2.1 HN13.out
        exact own_low (ownsRow_setCell_below ho5 (a := ⟨w.heap.size, 13, none⟩) (by show w.heap.size < wr.heap.size; exact hwlt) _) HC.out.size
      have HA6 : Hid (OE (w.heap.size + 2) (W5.setCell ⟨w.heap.size, 13, none⟩ (.slice a5 n2 p5)) (up cA 12 (.slice a5 n2 p5) 4) D.cx 4 95 ShC) := by
        show OE (w.heap.size + 2) (W5.setCell ⟨w.heap.size, 13, none⟩ (.slice a5 n2 p5)) (up cA 12 (.slice a5 n2 p5) 4) D.cx 4 95 ShC
        rw [show up cA 12 (.slice a5 n2 p5) 4 = cA 4 by simp [up]]
        exact HA.out.keep (fun b h1 h2 => (Below.heap_setCell _ _ _ _ (show b ≠ w.heap.size by omega)).trans (hb5.block b h2))
      have HCV6 : Hid (∀ i, i ≠ 4 → i ≠ 12 → up cA 12 (.slice a5 n2 p5) i = c i) := fun i h4 h12 => by simp [up, h12]; exact HCV.out i h4
      obtain ⟨n3, hn3l⟩ : ∃ m, D.ot.length = m := ⟨_, rfl⟩
      obtain ⟨a14, c14, xs14, h14, hfl14, hel14⟩ := HRX.out.oth.1.flatn (lenO w) (oneO w) (by decide) hn3l
      have hn3 : n3 * 32 ≤ 140737488355328 := by have := HRX.out.oth.2; unfold Fits at this; omega
      have y14 : (W5.setCell ⟨w.heap.size, 13, none⟩ (.slice a5 n2 p5)).cell? ⟨w.heap.size, 14, none⟩ = some (.slice a14 n3 c14) := by rw [← h14, ← HCV6.out 13 (by decide) (by decide)]; exact HC6.out.cell 13
      have hc97 := fresh97 (W5.setCell ⟨w.heap.size, 13, none⟩ (.slice a5 n2 p5)) (.slice a14 n3 c14) n3 xs14 (hfl14.on HC6.out.below) hn3
      have HE14 : Hid (∀ i (h : i < D.ot.length), ∃ vs, (∀ j u, (D.ot[i].fl ++ vs)[j]? = some u → xs14[i * 2 + j]? = some u) ∧ InnR w D.ot[i].inn vs) := hel14
      have HN14 : Hid (D.ot.length = n3) := hn3l
      clear h14 hfl14 hel14 hn3l ho5 hb5 HC HC5 HA HCV HE13 HN13
      go_wp2_with (go_at_call 75; refine Stop8.mk ?_)
      clear x13 x13f y14
      generalize W5.setCell ⟨w.heap.size, 13, none⟩ (.slice a5 n2 p5) = SA at *
      generalize up cA 12 (.slice a5 n2 p5) = cB at *
      refine Stop8.out (hc97.mono ?_)
      rintro e W7 ⟨a7, p7, rfl, ho7, hb7⟩
      clear hc97
      have HSA : Hid (w.heap.size + 2 ≤ SA.heap.size) := HC6.out.size
      have HC7 : Hid (CC w k cB Z W7) := HC6.out.on (hb7.mono HC6.out.size)
      have x14 : W7.cell? ⟨w.heap.size, 14, none⟩ = some (cB 13) := HC7.out.cell 13
      have x14f : W7.frozen? ⟨w.heap.size, 14, none⟩ = false := HC7.out.froz 14
      have HC8 : Hid (CC w k (up cB 13 (.slice a7 n3 p7)) Z (W7.setCell ⟨w.heap.size, 14, none⟩ (.slice a7 n3 p7))) := HC7.out.set 14 _ _ (pd_up13 k cB _)
      have HL8 : Hid (LP SA.heap.size w (W7.setCell ⟨w.heap.size, 14, none⟩ (.slice a7 n3 p7)) (.slice a7 n3 p7) n3 91 2 D.ot 0) := by
        refine LP.start (xs := xs14) ?_ HE14.out HSh.out.2.2.1 (lenO w)
        exact ownsRow_setCell_below ho7 (a := ⟨w.heap.size, 14, none⟩) (by show w.heap.size < SA.heap.size; have := HSA.out; omega) _
      have HK8 : Hid (KP (w.heap.size + 2) SA (W7.setCell ⟨w.heap.size, 14, none⟩ (.slice a7 n3 p7))) := ((KP.refl _ SA).on hb7).set (by omega) _ _
      have HCV8 : Hid (∀ i, i ≠ 4 → i ≠ 12 → i ≠ 13 → (up cB 13 (.slice a7 n3 p7)) i = c i) := fun i h4 h12 h13 => by simp [up, h13]; exact HCV6.out i h4 h12
      have HA6n : Hid (OE (w.heap.size + 2) SA ((up cB 13 (.slice a7 n3 p7)) 4) D.cx 4 95 ShC) := by
        show OE (w.heap.size + 2) SA ((up cB 13 (.slice a7 n3 p7)) 4) D.cx 4 95 ShC
        rw [show (up cB 13 (.slice a7 n3 p7)) 4 = cB 4 by simp [up]]
        exact HA6.out
      have HB6n : Hid (OE (w.heap.size + 2) SA ((up cB 13 (.slice a7 n3 p7)) 12) D.rl 3 97 ShR) := by
        show OE (w.heap.size + 2) SA ((up cB 13 (.slice a7 n3 p7)) 12) D.rl 3 97 ShR
        rw [show (up cB 13 (.slice a7 n3 p7)) 12 = cB 12 by simp [up]]
        exact HB6.out
      have y14n : (W7.setCell ⟨w.heap.size, 14, none⟩ (.slice a7 n3 p7)).cell? ⟨w.heap.size, 14, none⟩ = some (.slice a7 n3 p7) := cell_set_eq x14
      have HU8 : Hid ((up cB 13 (.slice a7 n3 p7)) 13 = .slice a7 n3 p7) := by show (up cB 13 (.slice a7 n3 p7)) 13 = _; simp [up]
      clear ho7 hb7 HC7 HC6 HE14 HCV6 HA6 HB6
      go_wp2
      clear x14 x14f y14n
      generalize (W7.setCell ⟨w.heap.size, 14, none⟩ (.slice a7 n3 p7)) = W8 at *
      generalize (up cB 13 (.slice a7 n3 p7)) = cC at *
      go_loopw [67] (fun x wr => ∃ (i : Nat), x = .int .i64 (i : Int) ∧ i ≤ n3 ∧ Hid (CC w k cC Z wr) ∧ Hid (KP (w.heap.size + 2) SA wr) ∧ Hid (LP SA.heap.size w wr (.slice a7 n3 p7) n3 91 2 D.ot i)) (fun x _ => n3 - (intOf x).toNat)
      case atStart => exact ⟨0, rfl, by omega, HC8, HK8, HL8⟩
      case round =>
        clear HC8 HL8 HK8
        obtain ⟨i, rfl, hi, HC, HK, HL⟩ := hrel
        have y5 : wr.cell? ⟨w.heap.size, 14, none⟩ = some (.slice a7 n3 p7) := by rw [← HU8.out]; exact HC.out.cell 13
        by_cases hin : i < n3
        · have hin2 : ((i : Int) < (n3 : Int)) := by omega
          have hix : i < D.ot.length := by rw [HN14.out]; exact hin
          obtain ⟨g, hav, hglo⟩ : ∃ g, a7 = some ⟨g, 0, none⟩ ∧ SA.heap.size ≤ g := by
            obtain ⟨xs, ho, -⟩ := HL.out
            obtain ⟨g, cap, hv, hlo, -⟩ := ho.form (by omega)
            have h2 : a7 = some ⟨g, 0, none⟩ ∧ p7 = cap := by simpa using hv
            exact ⟨g, h2.1, hlo⟩
          obtain ⟨vs, hE1, hE2, hE3⟩ := (hav ▸ HL.out : LP SA.heap.size w wr (.slice (some ⟨g, 0, none⟩) n3 p7) n3 91 2 D.ot i).cur HN14.out hix
          obtain ⟨x0, bs, he⟩ := HSh.out.2.2.1 D.ot[i] (List.getElem_mem hix)
          have HE : Hid (∃ h : i < D.ot.length, D.ot[i] = ⟨[.int .u8 x0], .by bs⟩) := ⟨hix, he⟩
          rw [he] at hE1 hE2
          obtain ⟨v3, rfl, hV, hzV, hncV⟩ := hE2
          have e3 : wr.cell? ⟨g, i * 2 + 1, none⟩ = some v3 := hE1 1 _ rfl
          have f3 := hE3 (i * 2 + 1)
          have hgl : g < wr.heap.size := cell_lt e3
          have hpl : w.heap.size < wr.heap.size := cell_lt y5
          have hfl : Flat wr.drew v3 bs.length 1 (u8s bs) := (hV.flat hncV).on (HC.out.below.trans ⟨rfl, rfl, rfl, Nat.le_refl _, fun _ _ => rfl⟩)
          have hc98 := fresh98 wr.drew v3 bs.length (u8s bs) hfl (by omega)
          obtain ⟨ao2, cap2, hv3⟩ : ∃ a c', v3 = .slice a bs.length c' := by obtain ⟨-, -, -, a, c', h, -⟩ := hfl; exact ⟨a, c', h⟩
          have HT2 : Hid (bs.length ≤ 140737488351232 ∧ ∀ x ∈ bs, x < 256) := ⟨hzV, hV.byte⟩
          subst hv3
          have HAV : Hid (a7 = some ⟨g, 0, none⟩ ∧ SA.heap.size ≤ g) := ⟨hav, hglo⟩
          rw [hav] at y5
          clear hav hE1 hE3 he hV hzV hncV hfl hix hglo
          go_wp2
          go_region_with (go_at_call 76; refine hc98.mono ?_; rintro x W9 ⟨a9, p9, rfl, hown9, hb9d⟩; have hb9 : Below wr.heap.size wr W9 := ⟨hb9d.os, hb9d.tape, hb9d.output, hb9d.size, hb9d.block⟩; have z5 := (hb9.cell (p := ⟨w.heap.size, 14, none⟩) hpl).trans y5; have zc := (hb9.cell (p := ⟨g, i * 2 + 1, none⟩) hgl).trans e3; have zf := (hb9.frozen (p := ⟨g, i * 2 + 1, none⟩) hgl).trans f3; have HO9 : Hid (W9.ownsRow wr.heap.size 5 1 (.slice a9 bs.length p9) bs.length (u8s bs) ∧ Below wr.heap.size wr W9) := ⟨hown9, hb9⟩)
          all_goals
            have HL9 : Hid (LP SA.heap.size w (W9.setCell ⟨g, i * 2 + 1, none⟩ (.slice a9 bs.length p9)) (.slice a7 n3 p7) n3 91 2 D.ot (i + 1)) := by
              obtain ⟨hi2, he2⟩ := HE.out
              have h1 := HL.out
              rw [HAV.out.1] at h1 ⊢
              refine LP.step (f := 1) h1 hi2 (by rw [he2]; rfl) rfl HO9.out.2 ?_ (fun b e => (HO9.out.1.lt b e).1) (fun p hp => (shO_s (HSh.out.2.2.1 p hp)).1)
              rw [he2]
              exact inno_by ⟨HO9.out.1, HT2.out.2⟩ HT2.out.1 (fun b e => by obtain rfl : g = b := by simpa [Value.ownBlock] using e
                                                                            exact hgl) HK.out.1
            have HC9 : Hid (CC w k cC Z (W9.setCell ⟨g, i * 2 + 1, none⟩ (.slice a9 bs.length p9))) := HC.out.on ((HO9.out.2.mono HC.out.size).setCell (p := ⟨g, i * 2 + 1, none⟩) (Nat.le_trans HSA.out HAV.out.2) _)
            have HK9 : Hid (KP (w.heap.size + 2) SA (W9.setCell ⟨g, i * 2 + 1, none⟩ (.slice a9 bs.length p9))) := HK.out.on ((HO9.out.2.mono HK.out.1).setCell (p := ⟨g, i * 2 + 1, none⟩) HAV.out.2 _)
            clear hb9 z5 zc zf hb9d hown9
            go_wp2
            go_roundw
            case rel => exact ⟨i + 1, by go_num, by omega, HC9.out, HK9.out, HL9.out⟩
            case measure => simp [intOf]; omega
        · have hin2 : ¬ ((i : Int) < (n3 : Int)) := by omega
          obtain rfl : n3 = i := by omega
          have HO7 : Hid (OE (w.heap.size + 2) wr (cC 13) D.ot 2 91 ShO) := by
            show OE (w.heap.size + 2) wr (cC 13) D.ot 2 91 ShO
            rw [HU8.out]
            exact (HL.out.done HN14.out HSh.out.2.2.1).low HSA.out
          have HBO : Hid (BR (w.heap.size + 2) SA.heap.size wr.heap.size wr (cC 13) 91 2 D.ot.length) := by
            show BR (w.heap.size + 2) SA.heap.size wr.heap.size wr (cC 13) 91 2 D.ot.length
            rw [HU8.out]
            exact (HL.out.br HN14.out (fun p hp => shO_s (HSh.out.2.2.1 p hp))).low HSA.out
          have HA6x : Hid (OE (w.heap.size + 2) wr (cC 4) D.cx 4 95 ShC) := HA6n.out.keep (fun b h1 h2 => HK.out.2 b h1 h2)
          have HB6x : Hid (OE (w.heap.size + 2) wr (cC 12) D.rl 3 97 ShR) := HB6n.out.keep (fun b h1 h2 => HK.out.2 b h1 h2)
          clear HL HU8 HN14 y5 HK HSA HA6n HB6n
          obtain ⟨SB, hSB⟩ : ∃ S, S = wr := ⟨_, rfl⟩
          subst hSB
          obtain ⟨n4, hn4l⟩ : ∃ m, D.vl.length = m := ⟨_, rfl⟩
          obtain ⟨a18, c18, xs18, h18, hfl18, hel18⟩ := HRX.out.val.1.flatn (lenV w) (oneV w) (by decide) hn4l
          have hn4 : n4 * 32 ≤ 140737488355328 := by have := HRX.out.val.2; unfold Fits at this; omega
          have y18 : SB.cell? ⟨w.heap.size, 18, none⟩ = some (.slice a18 n4 c18) := by rw [← h18, ← HCV8.out 17 (by decide) (by decide) (by decide)]; exact HC.out.cell 17
          have hc99 := fresh99 SB (.slice a18 n4 c18) n4 xs18 (hfl18.on HC.out.below) hn4
          have HE18 : Hid (∀ i (h : i < D.vl.length), ∃ vs, (∀ j u, (D.vl[i].fl ++ vs)[j]? = some u → xs18[i * 4 + j]? = some u) ∧ InnR w D.vl[i].inn vs) := hel18
          have HN18 : Hid (D.vl.length = n4) := hn4l
          clear h18 hfl18 hel18 hn4l
          go_wp2_with (go_at_call 77; refine Stop8.mk ?_)
          refine Stop8.out (hc99.mono ?_)
          rintro e W11 ⟨a11, p11, rfl, ho11, hb11⟩
          clear hc99 y18
          have HCVb : Hid (∀ i, i ≠ 4 → i ≠ 12 → i ≠ 13 → cC i = c i) := HCV8
          have HCb : Hid (CC w k cC Z SB) := HC
          clear HCV8 HC
          have HSA : Hid (w.heap.size + 2 ≤ SB.heap.size) := HCb.out.size
          have HC7 : Hid (CC w k cC Z W11) := HCb.out.on (hb11.mono HCb.out.size)
          have x14 : W11.cell? ⟨w.heap.size, 18, none⟩ = some (cC 17) := HC7.out.cell 17
          have x14f : W11.frozen? ⟨w.heap.size, 18, none⟩ = false := HC7.out.froz 18
          have HC8 : Hid (CC w k (up cC 17 (.slice a11 n4 p11)) Z (W11.setCell ⟨w.heap.size, 18, none⟩ (.slice a11 n4 p11))) := HC7.out.set 18 _ _ (pd_up17 k cC _)
          have HL8 : Hid (LP SB.heap.size w (W11.setCell ⟨w.heap.size, 18, none⟩ (.slice a11 n4 p11)) (.slice a11 n4 p11) n4 78 4 D.vl 0) := by
            refine LP.start (xs := xs18) ?_ HE18.out HSh.out.2.2.2 (lenV w)
            exact ownsRow_setCell_below ho11 (a := ⟨w.heap.size, 18, none⟩) (by show w.heap.size < SB.heap.size; have := HSA.out; omega) _
          have HK8 : Hid (KP (w.heap.size + 2) SB (W11.setCell ⟨w.heap.size, 18, none⟩ (.slice a11 n4 p11))) := ((KP.refl _ SB).on hb11).set (by omega) _ _
          have HCV8 : Hid (∀ i, i ≠ 4 → i ≠ 12 → i ≠ 13 → i ≠ 17 → (up cC 17 (.slice a11 n4 p11)) i = c i) := fun i h4 h12 h13 h17 => by simp [up, h17]; exact HCVb.out i h4 h12 h13
          have HA6xn : Hid (OE (w.heap.size + 2) SB ((up cC 17 (.slice a11 n4 p11)) 4) D.cx 4 95 ShC) := by
            show OE (w.heap.size + 2) SB ((up cC 17 (.slice a11 n4 p11)) 4) D.cx 4 95 ShC
            rw [show (up cC 17 (.slice a11 n4 p11)) 4 = cC 4 by simp [up]]
            exact HA6x.out
          have HB6xn : Hid (OE (w.heap.size + 2) SB ((up cC 17 (.slice a11 n4 p11)) 12) D.rl 3 97 ShR) := by
            show OE (w.heap.size + 2) SB ((up cC 17 (.slice a11 n4 p11)) 12) D.rl 3 97 ShR
            rw [show (up cC 17 (.slice a11 n4 p11)) 12 = cC 12 by simp [up]]
            exact HB6x.out
          have HO7n : Hid (OE (w.heap.size + 2) SB ((up cC 17 (.slice a11 n4 p11)) 13) D.ot 2 91 ShO) := by
            show OE (w.heap.size + 2) SB ((up cC 17 (.slice a11 n4 p11)) 13) D.ot 2 91 ShO
            rw [show (up cC 17 (.slice a11 n4 p11)) 13 = cC 13 by simp [up]]
            exact HO7.out
          have HBOn : Hid (BR (w.heap.size + 2) SA.heap.size SB.heap.size SB ((up cC 17 (.slice a11 n4 p11)) 13) 91 2 D.ot.length) := by
            show BR (w.heap.size + 2) SA.heap.size SB.heap.size SB ((up cC 17 (.slice a11 n4 p11)) 13) 91 2 D.ot.length
            rw [show (up cC 17 (.slice a11 n4 p11)) 13 = cC 13 by simp [up]]
            exact HBO.out
          have y14n : (W11.setCell ⟨w.heap.size, 18, none⟩ (.slice a11 n4 p11)).cell? ⟨w.heap.size, 18, none⟩ = some (.slice a11 n4 p11) := cell_set_eq x14
          have HU8 : Hid ((up cC 17 (.slice a11 n4 p11)) 17 = .slice a11 n4 p11) := by show (up cC 17 (.slice a11 n4 p11)) 17 = _; simp [up]
          clear ho11 hb11 HC7 HCb HE18 HCVb HA6x HB6x HO7 HBO
          go_wp2
          clear x14 x14f y14n
          generalize (W11.setCell ⟨w.heap.size, 18, none⟩ (.slice a11 n4 p11)) = W8 at *
          generalize (up cC 17 (.slice a11 n4 p11)) = cE at *
          go_loopw [96] (fun x wr => ∃ (i : Nat), x = .int .i64 (i : Int) ∧ i ≤ n4 ∧ Hid (CC w k cE Z wr) ∧ Hid (KP (w.heap.size + 2) SB wr) ∧ Hid (LP SB.heap.size w wr (.slice a11 n4 p11) n4 78 4 D.vl i)) (fun x _ => n4 - (intOf x).toNat)
          case atStart => exact ⟨0, rfl, by omega, HC8, HK8, HL8⟩
          case round =>
            clear HC8 HL8 HK8
            obtain ⟨i, rfl, hi, HC, HK, HL⟩ := hrel
            have y5 : wr.cell? ⟨w.heap.size, 18, none⟩ = some (.slice a11 n4 p11) := by rw [← HU8.out]; exact HC.out.cell 17
            by_cases hin : i < n4
            · have hin2 : ((i : Int) < (n4 : Int)) := by omega
              have hix : i < D.vl.length := by rw [HN18.out]; exact hin
              obtain ⟨g, hav, hglo⟩ : ∃ g, a11 = some ⟨g, 0, none⟩ ∧ SB.heap.size ≤ g := by
                obtain ⟨xs, ho, -⟩ := HL.out
                obtain ⟨g, cap, hv, hlo, -⟩ := ho.form (by omega)
                have h2 : a11 = some ⟨g, 0, none⟩ ∧ p11 = cap := by simpa using hv
                exact ⟨g, h2.1, hlo⟩
              obtain ⟨vs, hE1, hE2, hE3⟩ := (hav ▸ HL.out : LP SB.heap.size w wr (.slice (some ⟨g, 0, none⟩) n4 p11) n4 78 4 D.vl i).cur HN18.out hix
              obtain ⟨x0, y0, z0, bs, he⟩ := HSh.out.2.2.2 D.vl[i] (List.getElem_mem hix)
              have HE : Hid (∃ h : i < D.vl.length, D.vl[i] = ⟨[.int .u8 x0, .bool y0, .bool z0], .by bs⟩) := ⟨hix, he⟩
              rw [he] at hE1 hE2
              obtain ⟨v3, rfl, hV, hzV, hncV⟩ := hE2
              have e3 : wr.cell? ⟨g, i * 4 + 3, none⟩ = some v3 := hE1 3 _ rfl
              have f3 := hE3 (i * 4 + 3)
              have hgl : g < wr.heap.size := cell_lt e3
              have hpl : w.heap.size < wr.heap.size := cell_lt y5
              have hfl : Flat wr.drew v3 bs.length 1 (u8s bs) := (hV.flat hncV).on (HC.out.below.trans ⟨rfl, rfl, rfl, Nat.le_refl _, fun _ _ => rfl⟩)
              have hc98 := fresh98 wr.drew v3 bs.length (u8s bs) hfl (by omega)
              obtain ⟨ao2, cap2, hv3⟩ : ∃ a c', v3 = .slice a bs.length c' := by obtain ⟨-, -, -, a, c', h, -⟩ := hfl; exact ⟨a, c', h⟩
              have HT2 : Hid (bs.length ≤ 140737488351232 ∧ ∀ x ∈ bs, x < 256) := ⟨hzV, hV.byte⟩
              subst hv3
              have HAV : Hid (a11 = some ⟨g, 0, none⟩ ∧ SB.heap.size ≤ g) := ⟨hav, hglo⟩
              rw [hav] at y5
              clear hav hE1 hE3 he hV hzV hncV hfl hix hglo
              go_wp2
              go_region_with (go_at_call 76; refine hc98.mono ?_; rintro x W9 ⟨a9, p9, rfl, hown9, hb9d⟩; have hb9 : Below wr.heap.size wr W9 := ⟨hb9d.os, hb9d.tape, hb9d.output, hb9d.size, hb9d.block⟩; have z5 := (hb9.cell (p := ⟨w.heap.size, 18, none⟩) hpl).trans y5; have zc := (hb9.cell (p := ⟨g, i * 4 + 3, none⟩) hgl).trans e3; have zf := (hb9.frozen (p := ⟨g, i * 4 + 3, none⟩) hgl).trans f3; have HO9 : Hid (W9.ownsRow wr.heap.size 5 1 (.slice a9 bs.length p9) bs.length (u8s bs) ∧ Below wr.heap.size wr W9) := ⟨hown9, hb9⟩)
              all_goals
                have HL9 : Hid (LP SB.heap.size w (W9.setCell ⟨g, i * 4 + 3, none⟩ (.slice a9 bs.length p9)) (.slice a11 n4 p11) n4 78 4 D.vl (i + 1)) := by
                  obtain ⟨hi2, he2⟩ := HE.out
                  have h1 := HL.out
                  rw [HAV.out.1] at h1 ⊢
                  refine LP.step (f := 3) h1 hi2 (by rw [he2]; rfl) rfl HO9.out.2 ?_ (fun b e => (HO9.out.1.lt b e).1) (fun p hp => (shV_s (HSh.out.2.2.2 p hp)).1)
                  rw [he2]
                  exact inno_by ⟨HO9.out.1, HT2.out.2⟩ HT2.out.1 (fun b e => by obtain rfl : g = b := by simpa [Value.ownBlock] using e
                                                                                exact hgl) HK.out.1
                have HC9 : Hid (CC w k cE Z (W9.setCell ⟨g, i * 4 + 3, none⟩ (.slice a9 bs.length p9))) := HC.out.on ((HO9.out.2.mono HC.out.size).setCell (p := ⟨g, i * 4 + 3, none⟩) (Nat.le_trans HSA.out HAV.out.2) _)
                have HK9 : Hid (KP (w.heap.size + 2) SB (W9.setCell ⟨g, i * 4 + 3, none⟩ (.slice a9 bs.length p9))) := HK.out.on ((HO9.out.2.mono HK.out.1).setCell (p := ⟨g, i * 4 + 3, none⟩) HAV.out.2 _)
                clear hb9 z5 zc zf hb9d hown9
                go_wp2
                go_roundw
                case rel => exact ⟨i + 1, by go_num, by omega, HC9.out, HK9.out, HL9.out⟩
                case measure => simp [intOf]; omega
            · have hin2 : ¬ ((i : Int) < (n4 : Int)) := by omega
              obtain rfl : n4 = i := by omega
              have HO11 : Hid (OE (w.heap.size + 2) wr (cE 17) D.vl 4 78 ShV) := by
                show OE (w.heap.size + 2) wr (cE 17) D.vl 4 78 ShV
                rw [HU8.out]
                exact (HL.out.done HN18.out HSh.out.2.2.2).low HSA.out
              have HBV : Hid (BR (w.heap.size + 2) SB.heap.size wr.heap.size wr (cE 17) 78 4 D.vl.length) := by
                show BR (w.heap.size + 2) SB.heap.size wr.heap.size wr (cE 17) 78 4 D.vl.length
                rw [HU8.out]
                exact (HL.out.br HN18.out (fun p hp => shV_s (HSh.out.2.2.2 p hp))).low HSA.out
              have HBOx : Hid (BR (w.heap.size + 2) SA.heap.size SB.heap.size wr (cE 13) 91 2 D.ot.length) := HBOn.out.keep (fun b h1 h2 => HK.out.2 b h1 h2)
              have HA6xx : Hid (OE (w.heap.size + 2) wr (cE 4) D.cx 4 95 ShC) := HA6xn.out.keep (fun b h1 h2 => HK.out.2 b h1 h2)
              have HB6xx : Hid (OE (w.heap.size + 2) wr (cE 12) D.rl 3 97 ShR) := HB6xn.out.keep (fun b h1 h2 => HK.out.2 b h1 h2)
              have HO7x : Hid (OE (w.heap.size + 2) wr (cE 13) D.ot 2 91 ShO) := HO7n.out.keep (fun b h1 h2 => HK.out.2 b h1 h2)
              clear HL HU8 HN18 y5 HK HSA HA6xn HB6xn HO7n HBOn
              obtain ⟨fs2, hu2⟩ := hu40
              have hone : ∀ i, (cE i).oneCell' = true := fun i => by
                by_cases h17 : i = 17
                · subst h17; exact HO11.out.one
                by_cases h4 : i = 4
                · subst h4; exact HA6xx.out.one
                by_cases h12 : i = 12
                · subst h12; exact HB6xx.out.one
                by_cases h13 : i = 13
                · subst h13; exact HO7x.out.one
                rw [HCV8.out i h4 h12 h13 h17]
                exact HRX.out.one i
              have hoc : (Pd k cE).all (·.oneCell') = true := pd_one k cE hone
              have hszQ : (Tryd.prog.info? 46).map (·.size) = some (Pd k cE).size := by unfold Pd; kernel_rfl
              have hgQ := HC.out.p
              have hgR := HC.out.r
              have hPs : Z.size = (Pd k cE).size := hZs
              generalize hPQ : Pd k cE = PQ at hgQ hoc hszQ hPs
              go_wp2_with (first | (refine wpList_load_row rfl 46 (.tmp 1) rfl w.heap.size rfl 46 PQ (0, 0) _ hgQ hu2 rfl hszQ ?_) | (refine wpList_store_row rfl 46 (.tmp 2) (.tmp 112) rfl (w.heap.size + 1) PQ rfl rfl 46 _ hgR hszQ hPs hoc ?_))
              have hh := setRow_heap wr (w.heap.size + 1) _ PQ 46 _ hgR
              have hl := run_loadVar_row (P := Tryd.prog) _ _ _ 46 _ _ _ hh hu2 rfl hszQ
              have ho : ∀ b, b ≠ w.heap.size + 1 → (wr.setRow (w.heap.size + 1) PQ).heap[b]? = wr.heap[b]? := fun b hb => by
                unfold World.setRow
                show (wr.heap.modify _ _)[b]? = _
                rw [Array.getElem?_modify, if_neg (Ne.symm hb)]
              have hok : ∀ b, w.heap.size + 2 ≤ b → (wr.setRow (w.heap.size + 1) PQ).heap[b]? = wr.heap[b]? := fun b hb => ho b (by omega)
              have h1 := HA6xx.out.keep (W' := wr.setRow (w.heap.size + 1) PQ) (fun b hb _ => hok b hb)
              have h2 := HB6xx.out.keep (W' := wr.setRow (w.heap.size + 1) PQ) (fun b hb _ => hok b hb)
              have h3 := HO7x.out.keep (W' := wr.setRow (w.heap.size + 1) PQ) (fun b hb _ => hok b hb)
              have h4 := HO11.out.keep (W' := wr.setRow (w.heap.size + 1) PQ) (fun b hb _ => hok b hb)
              exact bodyPost_ret (v := .agg PQ) (res_cell (k := 2) Tryd.results68 (by kernel_rfl) hl) rfl ⟨cE, by rw [hPQ], OX.low ⟨hone, ⟨h1, HRX.out.ctx.2⟩, ⟨h2, HRX.out.role.2⟩, ⟨h3, HRX.out.oth.2⟩, ⟨h4, HRX.out.val.2⟩, _, _, _, HBOx.out.keep (W' := wr.setRow (w.heap.size + 1) PQ) (fun b hb _ => hok b hb), HBV.out.keep (W' := wr.setRow (w.heap.size + 1) PQ) (fun b hb _ => hok b hb)⟩ (by omega), fun i h4 h12 h13 h17 => HCV8.out i h4 h12 h13 h17, below_setRow HC.out.below (by omega) _⟩
end Go.Proofs.YtiieikdbhpflgabDoor
