import Derived.Test.YtnamkcfmbefkfaaDoorVe
namespace Go.Proofs.YtnamkcfmbefkfaaDoor
open Go Go.Proofs Go.RowKit
theorem MI.drew {F : Nat → Prop} {w wr : World} {PQ : Array Value} {D : PdD} (h : MI F w PQ D wr) : MI F w PQ D wr.drew :=
  ⟨h.kf.trans (KF.of (Below.refl _ wr).drew), h.sk, h.p, h.cc⟩
theorem BY.mark {F : Nat → Prop} {base : Nat} {w wr : World} {PQ : Array Value} {c : Fin 18 → Value} {D : PdD} {us : Nat → Value} {cs : Nat → List Nat} (h : BY base w c D us cs) (hO : OX base w c D) (hM : MI F w PQ D wr) : BY base wr c D us cs := by
  refine ⟨fun i hi => ?_, fun i hi => ?_, fun i hi => ⟨?_, (h.own i hi).2⟩, h.sm, h.ap⟩
  · obtain ⟨g, cap, e, h1⟩ := h.v i hi
    obtain ⟨xs, hx, -⟩ := hO.val.1
    obtain ⟨_, _, cur, fr, t3⟩ := own_ty hx (show (c 17).ownBlock = some g by rw [e]; rfl)
    exact ⟨g, cap, e, hM.cc g cur 60 fr _ _ t3 (.inr (.inr (.inl ⟨rfl, by omega, by omega⟩))) h1⟩
  · obtain ⟨g, cap, e, h1⟩ := h.o i hi
    obtain ⟨xs, hx, -⟩ := hO.oth.1
    obtain ⟨_, _, cur, fr, t3⟩ := own_ty hx (show (c 13).ownBlock = some g by rw [e]; rfl)
    exact ⟨g, cap, e, hM.cc g cur 57 fr _ _ t3 (.inr (.inr (.inr ⟨rfl, by omega, by omega⟩))) h1⟩
  · obtain ⟨ys, hy⟩ := OwnW.sk ⟨_, (h.own i hi).1⟩ hM.sk
    have ho := (h.own i hi).1
    rcases ho.2 with ⟨e, e0⟩ | ⟨g, cap, cur, e, _, k1, _⟩
    · rw [e] at ho ⊢
      exact ⟨ho.1, .inl ⟨rfl, e0⟩⟩
    · have : ys = u8s (cs i) := by
        rw [e] at ho hy
        apply List.ext_getElem?
        intro j
        by_cases hj : j < (cs i).length
        · rw [← hy.cellAt j (by omega)]
          have h1 := ho.cellAt j (by omega)
          rw [u8s_get _ _ hj] at h1 ⊢
          exact hM.cc g cur 5 _ j _ k1 (.inl rfl) h1
        · rw [List.getElem?_eq_none (by have := hy.1; omega), List.getElem?_eq_none (by rw [u8s_length]; omega)]
      rw [← this]
      exact hy
theorem ck_9 (D : PdD) (o : Nat) : ¬ CK D 9 o := fun h => by rcases h with h | ⟨h, _⟩ | ⟨h, _⟩ | ⟨h, _⟩ <;> exact absurd h (by decide)
theorem ck_97 (D : PdD) (o : Nat) : ¬ CK D 54 o := fun h => by rcases h with h | ⟨h, _⟩ | ⟨h, _⟩ | ⟨h, _⟩ <;> exact absurd h (by decide)
theorem ck_78 {D : PdD} {o : Nat} (hn : ¬ (o < D.vl.length * 4 ∧ o % 4 = 3)) : ¬ CK D 60 o := fun h => by
  rcases h with h | ⟨h, _⟩ | ⟨_, h⟩ | ⟨h, _⟩
  · exact absurd h (by decide)
  · exact absurd h (by decide)
  · exact hn h
  · exact absurd h (by decide)
theorem ck_95 {D : PdD} {o : Nat} (hn : ¬ (o < D.cx.length * 4 ∧ o % 4 = 3)) : ¬ CK D 51 o := fun h => by
  rcases h with h | ⟨_, h⟩ | ⟨h, _⟩ | ⟨h, _⟩
  · exact absurd h (by decide)
  · exact hn h
  · exact absurd h (by decide)
  · exact absurd h (by decide)
theorem ck_91 {D : PdD} {o : Nat} (hn : ¬ (o < D.ot.length * 2 ∧ o % 2 = 1)) : ¬ CK D 57 o := fun h => by
  rcases h with h | ⟨h, _⟩ | ⟨h, _⟩ | ⟨_, h⟩
  · exact absurd h (by decide)
  · exact absurd h (by decide)
  · exact absurd h (by decide)
  · exact hn h
def MarkP (F : Nat → Prop) (base : Nat) (w : World) (c : Fin 18 → Value) (D : PdD) (e : Ending) (w' : World) : Prop :=
  e = .returned (.tuple #[]) ∧ KF F w w' ∧ ∀ us cs, BY base w c D us cs → BY base w' c D us cs
set_option maxRecDepth 100000 in
set_option maxHeartbeats 4000000 in
theorem mark_any (w : World) (k : Int) (s : ByteArray) (c : Fin 18 → Value) (D : PdD) (F : Nat → Prop) (base : Nat) (hO : OX base w c D) (hS : Sml D) (hF : PF F w c D) (hb0 : base ≤ w.heap.size) :
    Calls Tryd.prog 23 #[.agg (Pd k c), .string s] w (MarkP F base w c D) := by
  obtain ⟨sv, sl, hsx, hsl⟩ := pick_sx hO.ctx.1 hS.cx.2
  obtain ⟨W1, hW1⟩ : ∃ W1, w.alloc (.cells (Pd k c) 33) = W1 := ⟨_, rfl⟩
  have hb1 : Below w.heap.size w W1 := hW1 ▸ (Below.refl _ _).alloc (Nat.le_refl _) _
  have hp1 : W1.heap[w.heap.size]? = some (.cells (Pd k c) 33) := hW1 ▸ alloc_new w _
  have hq : ∀ i : Fin 18, (Pd k c)[i.val + 1]? = some (c i) := pd_get k c
  generalize Pd k c = PQ at *
  obtain ⟨nv, hnv⟩ : ∃ n, D.vl.length = n := ⟨_, rfl⟩
  obtain ⟨no, hno⟩ : ∃ n, D.ot.length = n := ⟨_, rfl⟩
  obtain ⟨nc, hnc⟩ : ∃ n, D.cx.length = n := ⟨_, rfl⟩
  obtain ⟨nr, hnr⟩ : ∃ n, D.rl.length = n := ⟨_, rfl⟩
  obtain ⟨a17, p17, h17⟩ : ∃ a p, c 17 = .slice a nv p := by obtain ⟨xs, h, -⟩ := hO.val.1; rw [hnv] at h; exact owns_slice h
  obtain ⟨a13, p13, h13⟩ : ∃ a p, c 13 = .slice a no p := by obtain ⟨xs, h, -⟩ := hO.oth.1; rw [hno] at h; exact owns_slice h
  obtain ⟨a4, p4, h4⟩ : ∃ a p, c 4 = .slice a nc p := by obtain ⟨xs, h, -⟩ := hO.ctx.1; rw [hnc] at h; exact owns_slice h
  obtain ⟨a12, p12, h12⟩ : ∃ a p, c 12 = .slice a nr p := by obtain ⟨xs, h, -⟩ := hO.role.1; rw [hnr] at h; exact owns_slice h
  have nvL : nv ≤ 1048576 := hnv ▸ hS.vl.1
  have noL : no ≤ 1048576 := hno ▸ hS.ot.1
  have ncL : nc ≤ 1048576 := hnc ▸ hS.cx.1
  have nrL : nr ≤ 1048576 := hnr ▸ hS.rl.1
  have HP : Hid (∀ W : World, W.heap[w.heap.size]? = some (.cells PQ 33) → W.cell? ⟨w.heap.size, 18, none⟩ = some (.slice a17 nv p17) ∧ W.cell? ⟨w.heap.size, 14, none⟩ = some (.slice a13 no p13) ∧ W.cell? ⟨w.heap.size, 5, none⟩ = some (.slice a4 nc p4) ∧ W.cell? ⟨w.heap.size, 13, none⟩ = some (.slice a12 nr p12)) := by
    show ∀ W : World, _
    intro W hW
    refine ⟨?_, ?_, ?_, ?_⟩
    · rw [cell_of_row W _ _ _ _ _ hW, ← h17]; exact hq 17
    · rw [cell_of_row W _ _ _ _ _ hW, ← h13]; exact hq 13
    · rw [cell_of_row W _ _ _ _ _ hW, ← h4]; exact hq 4
    · rw [cell_of_row W _ _ _ _ _ hW, ← h12]; exact hq 12
  have HO : Hid (OX base w c D ∧ PF F w c D) := ⟨hO, hF⟩
  have HSX : Hid ((∀ i, i < D.cx.length → (∀ g n cap, c 4 = .slice (some ⟨g, 0, none⟩) n cap → w.cell? ⟨g, i * 4 + 3, none⟩ = some (sv i)) ∧ OwnW w base 9 1 (sv i) (sl i)) ∧ ∀ i, i < D.cx.length → sl i ≤ 1048576) := ⟨hsx, hsl⟩
  have HN : Hid ((D.vl.length = nv ∧ D.ot.length = no ∧ D.cx.length = nc ∧ D.rl.length = nr) ∧ c 17 = .slice a17 nv p17 ∧ c 13 = .slice a13 no p13 ∧ c 4 = .slice a4 nc p4 ∧ c 12 = .slice a12 nr p12) := ⟨⟨hnv, hno, hnc, hnr⟩, h17, h13, h4, h12⟩
  have HB0 : Hid (base ≤ w.heap.size) := hb0
  have HTY : Hid (∀ (e : TypeId) (st n g : Nat) (v : Value), OwnW w base e st v n → v.ownBlock = some g → g < w.heap.size ∧ ∃ cur fr, w.heap[g]? = some (.cells cur e fr)) := by
    show ∀ (e : TypeId) (st n g : Nat) (v : Value), _
    intro e st n g v h1 e1
    obtain ⟨xs, h1⟩ := h1
    exact (own_ty h1 e1).2
  have HI : Hid (MI F w PQ D W1) := by
    have hz : w.heap.size < W1.heap.size := (Array.getElem?_eq_some_iff.1 hp1).1
    exact ⟨KF.of hb1, SK.of hb1.block, hp1, fun b cur e fr o y _ _ h => (hb1.cell (cell_lt h)).trans h⟩
  have y18 := (HP.out W1 hp1).1
  clear hsx hsl hO hF hS hq hnv hno hnc hnr h17 h13 h4 h12 hb1 hp1 hb0
  go_enter Tryd.func23, Tryd.ntmps23
  go_wp2
  clear hW1
  go_loopw [4] (fun x wr => ∃ (q : Nat), x = .int .i64 (q : Int) ∧ q ≤ nv ∧ Hid (MI F w PQ D wr)) (fun x _ => nv - (intOf x).toNat)
  case atStart => exact ⟨0, rfl, by omega, HI⟩
  case round =>
    clear HI y18
    obtain ⟨q, rfl, hq, HI⟩ := hrel
    have y18 := (HP.out _ HI.out.p).1
    by_cases hqi : q < nv
    · have hqi2 : (q : Int) < (nv : Int) := by omega
      have hv := HO.out.1.val.1.w.sk HI.out.sk
      obtain ⟨g, cap, e, hlo, hlt⟩ := hv.form (by have := HN.out.1; omega)
      obtain ⟨rfl, -⟩ : a17 = some ⟨g, 0, none⟩ ∧ True := by have := HN.out.2.1.symm.trans e; simp at this; exact ⟨this.1, trivial⟩
      obtain ⟨hgl, cur, fr, ht⟩ := HTY.out 60 4 _ g _ HO.out.1.val.1.w (by rw [e]; rfl)
      rw [e] at hv
      obtain ⟨⟨y, hy⟩, hf⟩ := hv.at (q * 4) (by have := HN.out.1; omega)
      have HI9 : Hid (MI F w PQ D (wr.setCell ⟨g, q * 4, none⟩ (.int .u8 99))) := HI.out.set _ ht (HO.out.2.val g _ cap e).1 (ck_78 (by omega))
      clear hv e ht
      go_wp2
      go_roundw
      case rel => exact ⟨q + 1, by go_num, by omega, HI9.out⟩
      case measure => simp [intOf]; omega
    · have hqi2 : ¬ (q : Int) < (nv : Int) := by omega
      obtain rfl : q = nv := by omega
      go_wp2
      clear y18
      go_loopw [5] (fun x wr => ∃ (r : Nat), x = .int .i64 (r : Int) ∧ r ≤ nc ∧ Hid (MI F w PQ D wr)) (fun x _ => nc - (intOf x).toNat)
      case atStart => exact ⟨0, rfl, by omega, HI⟩
      case round =>
        clear HI
        obtain ⟨r, rfl, hr, HI⟩ := hrel
        have y5 := (HP.out _ HI.out.p).2.2.1
        by_cases hrn : r < nc
        · have hrn2 : (r : Int) < (nc : Int) := by omega
          have hrx : r < D.cx.length := by have := HN.out.1; omega
          obtain ⟨g, cap, e, hlo, hlt⟩ := HO.out.1.ctx.1.w.form (by omega)
          obtain ⟨rfl, -⟩ : a4 = some ⟨g, 0, none⟩ ∧ True := by have := HN.out.2.2.2.1.symm.trans e; simp at this; exact ⟨this.1, trivial⟩
          obtain ⟨hgl, cur, fr, ht⟩ := HTY.out 51 4 _ g _ HO.out.1.ctx.1.w (by rw [e]; rfl)
          obtain ⟨sa, sc, hsv⟩ : ∃ a p, sv r = .slice a (sl r) p := by obtain ⟨xs, h⟩ := (HSX.out.1 r hrx).2; exact owns_slice h
          have hsm := HSX.out.2 r hrx
          obtain ⟨sm, hsme⟩ : ∃ m, sl r = m := ⟨_, rfl⟩
          rw [hsme] at hsv hsm
          have HE3 : Hid (∀ W, MI F w PQ D W → W.cell? ⟨g, r * 4 + 3, none⟩ = some (.slice sa sm sc)) := by
            show ∀ W, _
            intro W hW
            have h1 := hW.cc g cur 51 fr (r * 4 + 3) _ ht (.inr (.inl ⟨rfl, by omega, by omega⟩)) ((HSX.out.1 r hrx).1 g _ cap e)
            rw [hsv] at h1
            exact h1
          have e3 := HE3.out _ HI.out
          have HE : Hid (c 4 = .slice (some ⟨g, 0, none⟩) D.cx.length cap ∧ w.heap[g]? = some (.cells cur 51 fr)) := ⟨e, ht⟩
          have HSV : Hid (sv r = .slice sa sm sc ∧ sl r = sm) := ⟨hsv, hsme⟩
          have HAT : Hid (∀ b, (Value.slice sa sm sc).ownBlock = some b → F b ∧ ∃ cur fr, w.heap[b]? = some (.cells cur 9 fr)) := by
            show ∀ b, _
            intro b hb
            have hsw := (HSX.out.1 r hrx).2
            rw [HSV.out.1] at hsw
            exact ⟨(HO.out.2.ctx g _ cap e).2 (r * 4 + 3) _ b (by omega) ((HSX.out.1 r hrx).1 g _ cap e) (by rw [HSV.out.1]; exact hb), (HTY.out 9 1 _ b _ hsw hb).2⟩
          clear e hsv hsme ht
          go_wp2
          go_loopw [7] (fun x wr => ∃ (t : Nat), x = .int .i64 (t : Int) ∧ t ≤ sm ∧ Hid (MI F w PQ D wr)) (fun x _ => sm - (intOf x).toNat)
          case atStart => exact ⟨0, rfl, by omega, HI⟩
          case round =>
            clear y5 e3 HI hlt
            obtain ⟨t, rfl, ht, HI⟩ := hrel
            have y5 := (HP.out _ HI.out.p).2.2.1
            have e3 := HE3.out _ HI.out
            by_cases htn : t < sm
            · have htn2 : (t : Int) < (sm : Int) := by omega
              have hs9 := (HSX.out.1 r hrx).2.sk HI.out.sk
              rw [HSV.out.1, HSV.out.2] at hs9
              obtain ⟨gs, cs2, es, _, _⟩ := hs9.form (by omega)
              obtain ⟨rfl, rfl⟩ : sa = some ⟨gs, 0, none⟩ ∧ sc = cs2 := by simpa using es
              obtain ⟨⟨y, hy⟩, hf⟩ := hs9.at t (by omega)
              have HI9 : Hid (MI F w PQ D (wr.setCell ⟨gs, t, none⟩ (.string s))) := by
                obtain ⟨hF9, cu9, fr9, h9⟩ := HAT.out gs rfl
                exact HI.out.set _ h9 hF9 (ck_9 _ _)
              clear hs9 es
              go_wp2
              go_roundw
              case rel => exact ⟨t + 1, by go_num, by omega, HI9.out⟩
              case measure => simp [intOf]; omega
            · have htn2 : ¬ (t : Int) < (sm : Int) := by omega
              obtain rfl : t = sm := by omega
              have HA : Hid (AppR F w base 9 1 (t + 0) (.slice sa t sc) wr) := by
                have hs9 := (HSX.out.1 r hrx).2.sk HI.out.sk
                rw [HSV.out.1, HSV.out.2] at hs9
                exact ⟨hs9, fun b hb => .inr (HAT.out b hb)⟩
              go_wp2
              clear y5 e3
              go_loopw [6, 8] (fun l x wr => ∃ (z : Nat), x = .int .i64 (z : Int) ∧ z ≤ 64 ∧ Hid (MI F w PQ D wr ∧ AppR F w base 9 1 (t + z) l wr)) (fun _ x _ => 64 - (intOf x).toNat)
              case atStart => exact ⟨0, rfl, by omega, HI.out, HA.out⟩
              case round =>
                clear HI HA
                obtain ⟨z, rfl, hz, HI⟩ := hrel
                by_cases hzn : z < 64
                · have hzn2 : (z : Int) < 64 := by omega
                  obtain ⟨iS, hiS, hS0, hS1, hS2⟩ := info_parts infoStr
                  obtain ⟨xs, hx⟩ := HI.out.2.own
                  have hsz : base ≤ wr.heap.size := Nat.le_trans HB0.out HI.out.1.kf.size
                  have HX : Hid (wr.ownsRow base 9 1 u6 (t + z) xs) := hx
                  clear hx
                  go_wp2_with (at_builtin; refine Fr.Stop.mk ?_)
                  refine Fr.Stop.out (app_keeps rfl (.tmp 57) (.tmp 58) 34 rfl base 9 iS _ 1 16 Tryd.underlying34 hiS hS0 hS1 hS2 rfl (by decide) u6 (t + z) xs rfl (World.ownsRow.alloc HX.out _) ⟨wr.heap.size, 0, none⟩ [.string ⟨#[103, 114, 111, 119, 110]⟩] rfl rfl (World.news_of_block (alloc_new wr _)) (by intro u hu; simp at hu; subst hu; rfl) (by unfold maxLen; omega) (by omega) (by simp; omega) ?_)
                  intro g9 c9 W9 ho9 hg9 hd9
                  have HI9 : Hid (MI F w PQ D W9 ∧ AppR F w base 9 1 (t + z + 1) (.slice (some ⟨g9, 0, none⟩) (t + z + 1) c9) W9) := (HI.out.1.alloc _).app (HI.out.2.alloc _) (World.ownsRow.alloc HX.out _) (by decide) ho9 hg9 hd9 (fun o hc => absurd hc (ck_9 _ _))
                  clear ho9 hg9 hd9
                  go_wp2
                  go_roundw
                  case rel => exact ⟨z + 1, by go_num, by omega, HI9.out⟩
                  case measure => simp [intOf]; omega
                · have hzn2 : ¬ (z : Int) < 64 := by omega
                  have y5 := (HP.out _ HI.out.1.p).2.2.1
                  have hv := HO.out.1.ctx.1.w.sk HI.out.1.sk
                  rw [HE.out.1] at hv
                  obtain ⟨⟨y, hy⟩, hf⟩ := hv.at (r * 4 + 2) (by omega)
                  have HI9 : Hid (MI F w PQ D (wr.setCell ⟨g, r * 4 + 2, none⟩ (.string s))) := HI.out.1.set _ HE.out.2 (HO.out.2.ctx g _ cap HE.out.1).1 (ck_95 (by omega))
                  clear hv
                  go_wp2
                  go_roundw
                  case rel => exact ⟨r + 1, by go_num, by omega, HI9.out⟩
                  case measure => simp [intOf]; omega
        · have hrn2 : ¬ (r : Int) < (nc : Int) := by omega
          obtain rfl : r = nc := by omega
          go_wp2
          clear y5
          go_loopw [9] (fun x wr => ∃ (t : Nat), x = .int .i64 (t : Int) ∧ t ≤ nr ∧ Hid (MI F w PQ D wr)) (fun x _ => nr - (intOf x).toNat)
          case atStart => exact ⟨0, rfl, by omega, HI⟩
          case round =>
            clear HI
            obtain ⟨t, rfl, ht, HI⟩ := hrel
            have y13 := (HP.out _ HI.out.p).2.2.2
            by_cases htn : t < nr
            · have htn2 : (t : Int) < (nr : Int) := by omega
              have hv := HO.out.1.role.1.w.sk HI.out.sk
              obtain ⟨g, cap, e, hlo, hlt⟩ := hv.form (by have := HN.out.1; omega)
              obtain ⟨rfl, -⟩ : a12 = some ⟨g, 0, none⟩ ∧ True := by have := HN.out.2.2.2.2.symm.trans e; simp at this; exact ⟨this.1, trivial⟩
              obtain ⟨hgl, cur, fr, hty⟩ := HTY.out 54 3 _ g _ HO.out.1.role.1.w (by rw [e]; rfl)
              rw [e] at hv
              obtain ⟨⟨y, hy⟩, hf⟩ := hv.at (t * 3) (by have := HN.out.1; omega)
              have HI9 : Hid (MI F w PQ D (wr.setCell ⟨g, t * 3, none⟩ (.string s))) := HI.out.set _ hty (HO.out.2.role g _ cap e).1 (ck_97 _ _)
              clear hv e hty
              go_wp2
              go_roundw
              case rel => exact ⟨t + 1, by go_num, by omega, HI9.out⟩
              case measure => simp [intOf]; omega
            · have htn2 : ¬ (t : Int) < (nr : Int) := by omega
              obtain rfl : t = nr := by omega
              go_wp2
              clear y13
              go_loopw [10] (fun x wr => ∃ (t : Nat), x = .int .i64 (t : Int) ∧ t ≤ no ∧ Hid (MI F w PQ D wr)) (fun x _ => no - (intOf x).toNat)
              case atStart => exact ⟨0, rfl, by omega, HI⟩
              case round =>
                clear HI
                obtain ⟨z, rfl, hz, HI⟩ := hrel
                have y14 := (HP.out _ HI.out.p).2.1
                by_cases hzn : z < no
                · have hzn2 : (z : Int) < (no : Int) := by omega
                  have hv := HO.out.1.oth.1.w.sk HI.out.sk
                  obtain ⟨g, cap, e, hlo, hlt⟩ := hv.form (by have := HN.out.1; omega)
                  obtain ⟨rfl, -⟩ : a13 = some ⟨g, 0, none⟩ ∧ True := by have := HN.out.2.2.1.symm.trans e; simp at this; exact ⟨this.1, trivial⟩
                  obtain ⟨hgl, cur, fr, hty⟩ := HTY.out 57 2 _ g _ HO.out.1.oth.1.w (by rw [e]; rfl)
                  rw [e] at hv
                  obtain ⟨⟨y, hy⟩, hf⟩ := hv.at (z * 2) (by have := HN.out.1; omega)
                  have HI9 : Hid (MI F w PQ D (wr.setCell ⟨g, z * 2, none⟩ (.int .u8 238))) := HI.out.set _ hty (HO.out.2.oth g _ cap e).1 (ck_91 (by omega))
                  clear hv e hty
                  go_wp2
                  go_roundw
                  case rel => exact ⟨z + 1, by go_num, by omega, HI9.out⟩
                  case measure => simp [intOf]; omega
                · have hzn2 : ¬ (z : Int) < (no : Int) := by omega
                  obtain rfl : z = no := by omega
                  have y18 := (HP.out _ HI.out.p).1
                  have y5 := (HP.out _ HI.out.p).2.2.1
                  have y13 := (HP.out _ HI.out.p).2.2.2
                  go_wp2
                  have HI7 : Hid (MI F w PQ D wr.drew ∧ AppR F w base 60 4 (q + 0) (.slice a17 q p17) wr.drew ∧ AppR F w base 51 4 (r + 0) (.slice a4 r p4) wr.drew ∧ AppR F w base 54 3 (t + 0) (.slice a12 t p12) wr.drew ∧ AppR F w base 57 2 (z + 0) (.slice a13 z p13) wr.drew) := by
                    have hN := HN.out
                    have v1 := HO.out.1.val.1.w
                    have v2 := HO.out.1.ctx.1.w
                    have v3 := HO.out.1.role.1.w
                    have v4 := HO.out.1.oth.1.w
                    rw [hN.1.1, hN.2.1] at v1
                    rw [hN.1.2.2.1, hN.2.2.2.1] at v2
                    rw [hN.1.2.2.2, hN.2.2.2.2] at v3
                    rw [hN.1.2.1, hN.2.2.1] at v4
                    have hat : ∀ (a : Option Addr) (n p m : Nat) (e : TypeId) (s : Nat) (b : Nat), OwnW w base e s (.slice a n p) n → RF F w (.slice a n p) m → (Value.slice a n p).ownBlock = some b → F b ∧ ∃ cur fr, w.heap[b]? = some (.cells cur e fr) := fun a n p m e s b h1 h2 h3 => by
                      refine ⟨?_, (HTY.out e s n b _ h1 h3).2⟩
                      obtain ⟨xs, h1⟩ := h1
                      rcases h1.2 with ⟨e1, _⟩ | ⟨g, cap, cur, e1, _⟩
                      · rw [e1] at h3; cases h3
                      · rw [e1] at h3
                        obtain rfl : g = b := by simpa [Value.ownBlock] using h3
                        exact (h2 g _ _ e1).1
                    refine ⟨HI.out.drew, ⟨v1.sk HI.out.sk, fun b hb => .inr (hat _ _ _ (D.vl.length * 4) _ _ b v1 ?_ hb)⟩, ⟨v2.sk HI.out.sk, fun b hb => .inr (hat _ _ _ (D.cx.length * 4) _ _ b v2 ?_ hb)⟩, ⟨v3.sk HI.out.sk, fun b hb => .inr (hat _ _ _ (D.rl.length * 3) _ _ b v3 ?_ hb)⟩, ⟨v4.sk HI.out.sk, fun b hb => .inr (hat _ _ _ (D.ot.length * 2) _ _ b v4 ?_ hb)⟩⟩
                    · rw [← hN.2.1]; exact HO.out.2.val
                    · rw [← hN.2.2.2.1]; exact HO.out.2.ctx
                    · rw [← hN.2.2.2.2]; exact HO.out.2.role
                    · rw [← hN.2.2.1]; exact HO.out.2.oth
                  clear HI
                  go_region
                  clear y18 y5 y13 y14
                  go_wp2
                  go_loopw [11, 12, 13, 14, 15] (fun lv lc lr lo x wr => ∃ (m : Nat), x = .int .i64 (m : Int) ∧ m ≤ 64 ∧ Hid (MI F w PQ D wr ∧ AppR F w base 60 4 (q + m) lv wr ∧ AppR F w base 51 4 (r + m) lc wr ∧ AppR F w base 54 3 (t + m) lr wr ∧ AppR F w base 57 2 (z + m) lo wr)) (fun _ _ _ _ x _ => 64 - (intOf x).toNat)
                  case atStart => exact ⟨0, rfl, by omega, HI7⟩
                  case round =>
                    clear HI7
                    obtain ⟨m, rfl, hm, HI⟩ := hrel
                    by_cases hmn : m < 64
                    · have hmn2 : (m : Int) < 64 := by omega
                      have hmw : (m : Int) % 256 = (m : Int) := by omega
                      obtain ⟨i0, hi0, hz0, hs0, hb0⟩ := info_parts infoPdv
                      obtain ⟨xs0, hx0⟩ := HI.out.2.1.own
                      have hsz0 : base ≤ wr.heap.size := Nat.le_trans HB0.out HI.out.1.kf.size
                      have HX0 : Hid (wr.ownsRow base 60 4 u11 (q + m) xs0) := hx0
                      clear hx0
                      go_wp2_with (at_builtin; refine Fr.Stop.mk ?_)
                      refine Fr.Stop.out (app_keeps rfl (.tmp 117) (.tmp 121) 31 rfl base 60 i0 _ 4 32 Tryd.underlying31 hi0 hz0 hs0 hb0 rfl (by decide) u11 (q + m) xs0 rfl (World.ownsRow.alloc HX0.out _) ⟨wr.heap.size, 0, none⟩ [.int .u8 (m : Int), .bool false, .bool false, .slice none 0 0] rfl rfl (World.news_of_block (alloc_new wr _)) (by intro u hu; simp at hu; rcases hu with rfl | rfl | rfl | rfl <;> rfl) (by unfold maxLen; omega) (by omega) (by simp; omega) ?_)
                      intro g1 c1 W1 ho1 hg1 hd1
                      have HI10 : Hid (MI F w PQ D W1 ∧ AppR F w base 60 4 (q + m + 1) (.slice (some ⟨g1, 0, none⟩) (q + m + 1) c1) W1 ∧ AppR F w base 51 4 (r + m) u12 W1 ∧ AppR F w base 54 3 (t + m) u13 W1 ∧ AppR F w base 57 2 (z + m) u14 W1) := by
                        have hA := (HI.out.1.alloc _).app (AppR.alloc HI.out.2.1 _) (World.ownsRow.alloc HX0.out _) (by decide) ho1 hg1 hd1 (fun o hc => by have := HN.out.1; by_cases h : o < D.vl.length * 4 ∧ o % 4 = 3 <;> first | omega | exact absurd hc (ck_78 h))
                        exact ⟨hA.1, hA.2, (AppR.alloc HI.out.2.2.1 _).far ⟨_, World.ownsRow.alloc HX0.out _⟩ (by decide) hg1, (AppR.alloc HI.out.2.2.2.1 _).far ⟨_, World.ownsRow.alloc HX0.out _⟩ (by decide) hg1, (AppR.alloc HI.out.2.2.2.2 _).far ⟨_, World.ownsRow.alloc HX0.out _⟩ (by decide) hg1⟩
                      clear ho1 hg1 hd1 HX0
                      obtain ⟨i1, hi1, hz1, hs1, hb1⟩ := info_parts infoCtx
                      obtain ⟨xs1, hx1⟩ := HI10.out.2.2.1.own
                      have hsz1 : base ≤ W1.heap.size := Nat.le_trans HB0.out HI10.out.1.kf.size
                      have HX1 : Hid (W1.ownsRow base 51 4 u12 (r + m) xs1) := hx1
                      clear hx1
                      go_wp2_with (at_builtin; refine Fr.Stop.mk ?_)
                      refine Fr.Stop.out (app_keeps rfl (.tmp 123) (.tmp 127) 23 rfl base 51 i1 _ 4 48 Tryd.underlying23 hi1 hz1 hs1 hb1 rfl (by decide) u12 (r + m) xs1 rfl (World.ownsRow.alloc HX1.out _) ⟨W1.heap.size, 0, none⟩ [.int .u8 (m : Int), .int .u8 0, .string ⟨#[103, 114, 111, 119, 110]⟩, .slice none 0 0] rfl rfl (World.news_of_block (alloc_new W1 _)) (by intro u hu; simp at hu; rcases hu with rfl | rfl | rfl | rfl <;> rfl) (by unfold maxLen; omega) (by omega) (by simp; omega) ?_)
                      intro g2 c2 W2 ho2 hg2 hd2
                      have HI11 : Hid (MI F w PQ D W2 ∧ AppR F w base 60 4 (q + m + 1) (.slice (some ⟨g1, 0, none⟩) (q + m + 1) c1) W2 ∧ AppR F w base 51 4 (r + m + 1) (.slice (some ⟨g2, 0, none⟩) (r + m + 1) c2) W2 ∧ AppR F w base 54 3 (t + m) u13 W2 ∧ AppR F w base 57 2 (z + m) u14 W2) := by
                        have hA := (HI10.out.1.alloc _).app (AppR.alloc HI10.out.2.2.1 _) (World.ownsRow.alloc HX1.out _) (by decide) ho2 hg2 hd2 (fun o hc => by have := HN.out.1; by_cases h : o < D.cx.length * 4 ∧ o % 4 = 3 <;> first | omega | exact absurd hc (ck_95 h))
                        exact ⟨hA.1, (AppR.alloc HI10.out.2.1 _).far ⟨_, World.ownsRow.alloc HX1.out _⟩ (by decide) hg2, hA.2, (AppR.alloc HI10.out.2.2.2.1 _).far ⟨_, World.ownsRow.alloc HX1.out _⟩ (by decide) hg2, (AppR.alloc HI10.out.2.2.2.2 _).far ⟨_, World.ownsRow.alloc HX1.out _⟩ (by decide) hg2⟩
                      clear ho2 hg2 hd2 HX1
                      obtain ⟨i2, hi2, hz2, hs2, hb2⟩ := info_parts infoRole
                      obtain ⟨xs2, hx2⟩ := HI11.out.2.2.2.1.own
                      have hsz2 : base ≤ W2.heap.size := Nat.le_trans HB0.out HI11.out.1.kf.size
                      have HX2 : Hid (W2.ownsRow base 54 3 u13 (t + m) xs2) := hx2
                      clear hx2
                      go_wp2_with (at_builtin; refine Fr.Stop.mk ?_)
                      refine Fr.Stop.out (app_keeps rfl (.tmp 129) (.tmp 131) 25 rfl base 54 i2 _ 3 24 Tryd.underlying25 hi2 hz2 hs2 hb2 rfl (by decide) u13 (t + m) xs2 rfl (World.ownsRow.alloc HX2.out _) ⟨W2.heap.size, 0, none⟩ [.string ⟨#[103, 114, 111, 119, 110]⟩, .int .u8 0, .int .u8 0] rfl rfl (World.news_of_block (alloc_new W2 _)) (by intro u hu; simp at hu; rcases hu with rfl | rfl | rfl | rfl <;> rfl) (by unfold maxLen; omega) (by omega) (by simp; omega) ?_)
                      intro g3 c3 W3 ho3 hg3 hd3
                      have HI12 : Hid (MI F w PQ D W3 ∧ AppR F w base 60 4 (q + m + 1) (.slice (some ⟨g1, 0, none⟩) (q + m + 1) c1) W3 ∧ AppR F w base 51 4 (r + m + 1) (.slice (some ⟨g2, 0, none⟩) (r + m + 1) c2) W3 ∧ AppR F w base 54 3 (t + m + 1) (.slice (some ⟨g3, 0, none⟩) (t + m + 1) c3) W3 ∧ AppR F w base 57 2 (z + m) u14 W3) := by
                        have hA := (HI11.out.1.alloc _).app (AppR.alloc HI11.out.2.2.2.1 _) (World.ownsRow.alloc HX2.out _) (by decide) ho3 hg3 hd3 (fun o hc => absurd hc (ck_97 _ _))
                        exact ⟨hA.1, (AppR.alloc HI11.out.2.1 _).far ⟨_, World.ownsRow.alloc HX2.out _⟩ (by decide) hg3, (AppR.alloc HI11.out.2.2.1 _).far ⟨_, World.ownsRow.alloc HX2.out _⟩ (by decide) hg3, hA.2, (AppR.alloc HI11.out.2.2.2.2 _).far ⟨_, World.ownsRow.alloc HX2.out _⟩ (by decide) hg3⟩
                      clear ho3 hg3 hd3 HX2
                      obtain ⟨i3, hi3, hz3, hs3, hb3⟩ := info_parts infoOth
                      obtain ⟨xs3, hx3⟩ := HI12.out.2.2.2.2.own
                      have hsz3 : base ≤ W3.heap.size := Nat.le_trans HB0.out HI12.out.1.kf.size
                      have HX3 : Hid (W3.ownsRow base 57 2 u14 (z + m) xs3) := hx3
                      clear hx3
                      go_wp2_with (at_builtin; refine Fr.Stop.mk ?_)
                      refine Fr.Stop.out (app_keeps rfl (.tmp 133) (.tmp 137) 26 rfl base 57 i3 _ 2 32 Tryd.underlying26 hi3 hz3 hs3 hb3 rfl (by decide) u14 (z + m) xs3 rfl (World.ownsRow.alloc HX3.out _) ⟨W3.heap.size, 0, none⟩ [.int .u8 (m : Int), .slice none 0 0] rfl rfl (World.news_of_block (alloc_new W3 _)) (by intro u hu; simp at hu; rcases hu with rfl | rfl | rfl | rfl <;> rfl) (by unfold maxLen; omega) (by omega) (by simp; omega) ?_)
                      intro g4 c4 W4 ho4 hg4 hd4
                      have HI13 : Hid (MI F w PQ D W4 ∧ AppR F w base 60 4 (q + m + 1) (.slice (some ⟨g1, 0, none⟩) (q + m + 1) c1) W4 ∧ AppR F w base 51 4 (r + m + 1) (.slice (some ⟨g2, 0, none⟩) (r + m + 1) c2) W4 ∧ AppR F w base 54 3 (t + m + 1) (.slice (some ⟨g3, 0, none⟩) (t + m + 1) c3) W4 ∧ AppR F w base 57 2 (z + m + 1) (.slice (some ⟨g4, 0, none⟩) (z + m + 1) c4) W4) := by
                        have hA := (HI12.out.1.alloc _).app (AppR.alloc HI12.out.2.2.2.2 _) (World.ownsRow.alloc HX3.out _) (by decide) ho4 hg4 hd4 (fun o hc => by have := HN.out.1; by_cases h : o < D.ot.length * 2 ∧ o % 2 = 1 <;> first | omega | exact absurd hc (ck_91 h))
                        exact ⟨hA.1, (AppR.alloc HI12.out.2.1 _).far ⟨_, World.ownsRow.alloc HX3.out _⟩ (by decide) hg4, (AppR.alloc HI12.out.2.2.1 _).far ⟨_, World.ownsRow.alloc HX3.out _⟩ (by decide) hg4, (AppR.alloc HI12.out.2.2.2.1 _).far ⟨_, World.ownsRow.alloc HX3.out _⟩ (by decide) hg4, hA.2⟩
                      clear ho4 hg4 hd4 HX3
                      go_wp2
                      go_roundw
                      case rel => exact ⟨m + 1, by go_num, by omega, HI13.out⟩
                      case measure => simp [intOf]; omega
                    · have hmn2 : ¬ (m : Int) < 64 := by omega
                      go_wp2
                      first | go_end0 | refine bodyPost_end (results_none rfl _ _ _) rfl ?_ | refine bodyPost_ret (results_none rfl _ _ _) rfl ?_ | (simp only [Exit.inBlock, Exit.then]; refine bodyPost_end (results_none rfl _ _ _) rfl ?_)
                      exact ⟨rfl, HI.out.1.kf, fun us cs h => h.mark HO.out.1 HI.out.1⟩
end Go.Proofs.YtnamkcfmbefkfaaDoor
