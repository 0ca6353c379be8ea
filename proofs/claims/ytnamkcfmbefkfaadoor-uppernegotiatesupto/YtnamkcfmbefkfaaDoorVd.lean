import Derived.Test.YtnamkcfmbefkfaaDoorVc
namespace Go.Proofs.YtnamkcfmbefkfaaDoor
open Go Go.Proofs Go.RowKit
structure SI (F : Nat → Prop) (w : World) (PQ : Array Value) (base : Nat) (c : Fin 18 → Value) (D : PdD) (sv : Nat → Value) (sl : Nat → Nat) (wr : World) : Prop where
  kf : KF F w wr
  p : wr.heap[w.heap.size]? = some (.cells PQ 33)
  v : OwnW wr base 60 4 (c 17) D.vl.length
  x : OwnW wr base 51 4 (c 4) D.cx.length
  s : ∀ i, i < D.cx.length → (∀ g n cap, c 4 = .slice (some ⟨g, 0, none⟩) n cap → wr.cell? ⟨g, i * 4 + 3, none⟩ = some (sv i)) ∧ OwnW wr base 9 1 (sv i) (sl i)
  r : OwnW wr base 54 3 (c 12) D.rl.length
theorem SI.set {F : Nat → Prop} {w wr : World} {PQ : Array Value} {base : Nat} {c : Fin 18 → Value} {D : PdD} {sv : Nat → Value} {sl : Nat → Nat} (h : SI F w PQ base c D sv sl wr) {g o : Nat} (u : Value) (hF : F g) (hp : g < w.heap.size) (hx : ∀ n cap, c 4 = .slice (some ⟨g, 0, none⟩) n cap → ∀ i, o ≠ i * 4 + 3) : SI F w PQ base c D sv sl (wr.setCell ⟨g, o, none⟩ u) :=
  ⟨h.kf.set (.inl hF) o u, (Below.heap_setCell _ _ _ _ (show w.heap.size ≠ g by omega)).trans h.p, h.v.set g o u, h.x.set g o u, fun i hi => ⟨fun g' n cap e => by
    by_cases hg : g' = g
    · subst hg
      exact (cell_set_ne (hx n cap e i)).trans ((h.s i hi).1 g' n cap e)
    · exact (World.cell?_of_block (Below.heap_setCell _ _ _ _ (show g' ≠ g from hg))).trans ((h.s i hi).1 g' n cap e), (h.s i hi).2.set g o u⟩, h.r.set g o u⟩
theorem pick_sx {base : Nat} {W : World} {rv : Value} {ps : List El} (h : OE base W rv ps 4 51 ShC) (hI : ∀ p ∈ ps, InnS p.inn) : ∃ (sv : Nat → Value) (sl : Nat → Nat), (∀ i, i < ps.length → (∀ g n cap, rv = .slice (some ⟨g, 0, none⟩) n cap → W.cell? ⟨g, i * 4 + 3, none⟩ = some (sv i)) ∧ OwnW W base 9 1 (sv i) (sl i)) ∧ ∀ i, i < ps.length → sl i ≤ 1048576 := by
  obtain ⟨xs, h1, h2, h3⟩ := h
  have hh : ∀ i, ∃ p : Value × Nat, i < ps.length → (∀ g n cap, rv = .slice (some ⟨g, 0, none⟩) n cap → W.cell? ⟨g, i * 4 + 3, none⟩ = some p.1) ∧ OwnW W base 9 1 p.1 p.2 ∧ p.2 ≤ 1048576 := fun i => by
    by_cases hi : i < ps.length
    · obtain ⟨vs, k1, k2⟩ := h2 i hi
      obtain ⟨x, y, s, T, he⟩ := h3 _ (List.getElem_mem hi)
      have hz := hI _ (List.getElem_mem hi)
      rw [he] at k1 k2 hz
      obtain ⟨v, rfl, hT, -, -⟩ := k2
      refine ⟨(v, T.length), fun _ => ⟨fun g n cap e => ?_, ⟨_, hT⟩, hz⟩⟩
      obtain ⟨a, p, e'⟩ := owns_slice h1
      obtain rfl : n = ps.length := by rw [e] at e'; simp at e'; exact e'.2.1
      rw [e] at h1
      rw [h1.cellAt _ (by omega)]
      exact k1 3 _ rfl
    · exact ⟨(.bool false, 0), fun h => absurd h hi⟩
  obtain ⟨f, hf⟩ := Classical.axiomOfChoice hh
  exact ⟨fun i => (f i).1, fun i => (f i).2, fun i hi => ⟨(hf i hi).1, (hf i hi).2.1⟩, fun i hi => (hf i hi).2.2⟩
theorem OE.w {base : Nat} {W : World} {rv : Value} {ps : List El} {st : Nat} {e : TypeId} {Sh : El → Prop} (h : OE base W rv ps st e Sh) : OwnW W base e st rv ps.length := by
  obtain ⟨xs, h1, -, -⟩ := h
  exact ⟨xs, h1⟩
set_option maxRecDepth 100000 in
set_option maxHeartbeats 4000000 in
theorem spoil_any (w : World) (k : Int) (c : Fin 18 → Value) (D : PdD) (F : Nat → Prop) (base : Nat) (hO : OX base w c D) (hS : Sml D) (hF : PF F w c D) (hb0 : base ≤ w.heap.size) :
    Calls Tryd.prog 9 #[.agg (Pd k c)] w fun e w' => e = .returned (.bool true) ∧ KF F w w' := by
  obtain ⟨us, cs, hBY⟩ := by_of hO hS
  obtain ⟨sv, sl, hsx, hsl⟩ := pick_sx hO.ctx.1 hS.cx.2
  obtain ⟨W1, hW1⟩ : ∃ W1, w.alloc (.cells (Pd k c) 33) = W1 := ⟨_, rfl⟩
  have hb1 : Below w.heap.size w W1 := hW1 ▸ (Below.refl _ _).alloc (Nat.le_refl _) _
  have hp1 : W1.heap[w.heap.size]? = some (.cells (Pd k c) 33) := hW1 ▸ alloc_new w _
  have hs1 : W1.heap.size = w.heap.size + 1 := by rw [← hW1]; simp
  have hq : ∀ i : Fin 18, (Pd k c)[i.val + 1]? = some (c i) := pd_get k c
  generalize Pd k c = PQ at *
  obtain ⟨nv, hnv⟩ : ∃ n, D.vl.length = n := ⟨_, rfl⟩
  obtain ⟨no, hno⟩ : ∃ n, D.ot.length = n := ⟨_, rfl⟩
  obtain ⟨nc, hnc⟩ : ∃ n, D.cx.length = n := ⟨_, rfl⟩
  obtain ⟨nr, hnr⟩ : ∃ n, D.rl.length = n := ⟨_, rfl⟩
  obtain ⟨a17, p17, h17⟩ : ∃ a p, c 17 = .slice a nv p := by obtain ⟨xs, h, -⟩ := hO.val.1; rw [hnv] at h; exact owns_slice h
  obtain ⟨a13, p13, h13⟩ : ∃ a p, c 13 = .slice a no p := by obtain ⟨xs, h, -⟩ := hO.oth.1; rw [hno] at h; exact owns_slice h
  obtain ⟨a4, p4, h4⟩ : ∃ a p, c 4 = .slice a nc p := by obtain ⟨xs, h, -⟩ := hO.ctx.1; rw [hnc] at h; exact owns_slice h
  obtain ⟨a12, p12, h12⟩ : ∃ a p, c 12 = .slice a nr p := by obtain ⟨xs, h, -⟩ := hO.role.1; rw [hnr] at h; exact owns_slice h
  have nvL : nv ≤ 1048576 := hnv ▸ hS.vl.1
  have noL : no ≤ 1048576 := hno ▸ hS.ot.1
  have ncL : nc ≤ 1048576 := hnc ▸ hS.cx.1
  have nrL : nr ≤ 1048576 := hnr ▸ hS.rl.1
  have hPc : ∀ W : World, W.heap[w.heap.size]? = some (.cells PQ 33) → W.cell? ⟨w.heap.size, 18, none⟩ = some (.slice a17 nv p17) ∧ W.cell? ⟨w.heap.size, 14, none⟩ = some (.slice a13 no p13) ∧ W.cell? ⟨w.heap.size, 5, none⟩ = some (.slice a4 nc p4) ∧ W.cell? ⟨w.heap.size, 13, none⟩ = some (.slice a12 nr p12) := fun W hW => by
    refine ⟨?_, ?_, ?_, ?_⟩
    · rw [cell_of_row W _ _ _ _ _ hW, ← h17]; exact hq 17
    · rw [cell_of_row W _ _ _ _ _ hW, ← h13]; exact hq 13
    · rw [cell_of_row W _ _ _ _ _ hW, ← h4]; exact hq 4
    · rw [cell_of_row W _ _ _ _ _ hW, ← h12]; exact hq 12
  have HP : Hid (∀ W : World, W.heap[w.heap.size]? = some (.cells PQ 33) → W.cell? ⟨w.heap.size, 18, none⟩ = some (.slice a17 nv p17) ∧ W.cell? ⟨w.heap.size, 14, none⟩ = some (.slice a13 no p13) ∧ W.cell? ⟨w.heap.size, 5, none⟩ = some (.slice a4 nc p4) ∧ W.cell? ⟨w.heap.size, 13, none⟩ = some (.slice a12 nr p12)) := hPc
  have HB : Hid (BY base w c D us cs) := hBY
  have HO : Hid (OX base w c D ∧ PF F w c D) := ⟨hO, hF⟩
  have HSX : Hid (∀ i, i < D.cx.length → (∀ g n cap, c 4 = .slice (some ⟨g, 0, none⟩) n cap → w.cell? ⟨g, i * 4 + 3, none⟩ = some (sv i)) ∧ OwnW w base 9 1 (sv i) (sl i)) := hsx
  have HSL : Hid (∀ i, i < D.cx.length → sl i ≤ 1048576) := hsl
  have HN : Hid ((D.vl.length = nv ∧ D.ot.length = no ∧ D.cx.length = nc ∧ D.rl.length = nr) ∧ c 17 = .slice a17 nv p17 ∧ c 13 = .slice a13 no p13 ∧ c 4 = .slice a4 nc p4 ∧ c 12 = .slice a12 nr p12) := ⟨⟨hnv, hno, hnc, hnr⟩, h17, h13, h4, h12⟩
  have HW : Hid (Below w.heap.size w W1 ∧ W1.heap[w.heap.size]? = some (.cells PQ 33) ∧ W1.heap.size = w.heap.size + 1 ∧ base ≤ w.heap.size) := ⟨hb1, hp1, hs1, hb0⟩
  have y18 := (hPc W1 hp1).1
  clear hsl hBY hsx hO hF hS hq hnv hno hnc hnr h17 h13 h4 h12 hPc hb1 hp1 hs1 hb0
  go_enter Tryd.func9, Tryd.ntmps9
  go_wp2
  clear hW1
  go_loopw [3, 4] (fun l x wr => ∃ (i : Nat), x = .int .i64 (i : Int) ∧ i ≤ nv ∧ Hid (L12 W1 us i l wr)) (fun _ x _ => nv - (intOf x).toNat)
  case atStart => exact ⟨0, rfl, by omega, L12.nil _ _⟩
  case round =>
    clear y18
    obtain ⟨i, rfl, hi, HL⟩ := hrel
    have y18 : wr.cell? ⟨w.heap.size, 18, none⟩ = some (.slice a17 nv p17) := (HL.out.1.cell (p := ⟨w.heap.size, 18, none⟩) (by have := HW.out.2.2.1; show w.heap.size < _; omega)).trans (HP.out W1 HW.out.2.1).1
    by_cases hin : i < nv
    · have hin2 : ((i : Int) < (nv : Int)) := by omega
      obtain ⟨g, cap, e, e3⟩ := HB.out.v i (by rw [HN.out.1.1]; exact hin)
      obtain ⟨rfl, -⟩ : a17 = some ⟨g, 0, none⟩ ∧ True := by have := HN.out.2.1.symm.trans e; simp at this; exact ⟨this.1, trivial⟩
      obtain ⟨ua, uc, hu⟩ := owns_slice (HB.out.own i (by have := HN.out.1.1; omega)).1
      obtain ⟨um, hum⟩ : ∃ m, (cs i).length = m := ⟨_, rfl⟩
      rw [hum] at hu
      have z3 : wr.cell? ⟨g, i * 4 + 3, none⟩ = some (.slice ua um uc) := by
        rw [← hu, ← e3]
        have h1 : g < w.heap.size := cell_lt e3
        exact (HL.out.1.cell (p := ⟨g, i * 4 + 3, none⟩) (by have := HW.out.2.2.1; show g < _; omega)).trans (HW.out.1.cell (p := ⟨g, i * 4 + 3, none⟩) h1)
      have HU : Hid (us i = .slice ua um uc) := hu
      obtain ⟨i1, hi1, hy0, hy1, hy2⟩ := info_parts Fr.info27
      have hW1w : W1.heap.size ≤ wr.heap.size := HL.out.1.size
      clear e e3 hu hum
      go_wp2_with (at_builtin; refine Fr.Stop.mk ?_)
      refine Fr.Stop.out (wpList_append_lies _ rfl (.tmp 18) (.tmp 25) 77 rfl W1.heap.size 55 i1 _ 1 24 Tryd.underlying77 hi1 hy0 hy1 hy2 rfl (by decide) u3 i _ rfl (World.ownsRow.alloc HL.out.2.1 _) ⟨wr.heap.size, 0, none⟩ 1 1 [.slice ua um uc] rfl rfl (World.news_of_block (alloc_new wr _)) (by intro u hu; simp at hu; subst hu; rfl) (by decide) (by unfold maxLen; omega) (by omega) (by simp; omega) _ rfl ?_)
      intro g9 c9 W9 ho9 hg9 _ _
      have HL9 : Hid (L12 W1 us (i + 1) (.slice (some ⟨g9, 0, none⟩) (i + 1) c9) W9) := HL.out.step HU.out ho9 hg9
      clear ho9 hg9 z3 y18
      go_wp2
      go_roundw
      case rel => exact ⟨i + 1, by go_num, by omega, HL9.out⟩
      case measure => simp [intOf]; omega
    · have hin2 : ¬ ((i : Int) < (nv : Int)) := by omega
      obtain rfl : i = nv := by omega
      have y14 : wr.cell? ⟨w.heap.size, 14, none⟩ = some (.slice a13 no p13) := (HL.out.1.cell (p := ⟨w.heap.size, 14, none⟩) (by have := HW.out.2.2.1; show w.heap.size < _; omega)).trans (HP.out W1 HW.out.2.1).2.1
      go_wp2
      go_loopw [3, 5] (fun l x wr => ∃ (j : Nat), x = .int .i64 (j : Int) ∧ j ≤ no ∧ Hid (L12 W1 us (i + j) l wr)) (fun _ x _ => no - (intOf x).toNat)
      case atStart => exact ⟨0, rfl, by omega, HL⟩
      case round =>
        clear y18 y14 HL
        obtain ⟨j, rfl, hj, HL⟩ := hrel
        have y14 : wr.cell? ⟨w.heap.size, 14, none⟩ = some (.slice a13 no p13) := (HL.out.1.cell (p := ⟨w.heap.size, 14, none⟩) (by have := HW.out.2.2.1; show w.heap.size < _; omega)).trans (HP.out W1 HW.out.2.1).2.1
        by_cases hjn : j < no
        · have hjn2 : ((j : Int) < (no : Int)) := by omega
          obtain ⟨g, cap, e, e3⟩ := HB.out.o j (by rw [HN.out.1.2.1]; exact hjn)
          obtain ⟨rfl, -⟩ : a13 = some ⟨g, 0, none⟩ ∧ True := by have := HN.out.2.2.1.symm.trans e; simp at this; exact ⟨this.1, trivial⟩
          rw [HN.out.1.1] at e3
          obtain ⟨ua, uc, hu⟩ := owns_slice (HB.out.own (i + j) (by have := HN.out.1; omega)).1
          obtain ⟨um, hum⟩ : ∃ m, (cs (i + j)).length = m := ⟨_, rfl⟩
          rw [hum] at hu
          have z3 : wr.cell? ⟨g, j * 2 + 1, none⟩ = some (.slice ua um uc) := by
            rw [← hu, ← e3]
            have h1 : g < w.heap.size := cell_lt e3
            exact (HL.out.1.cell (p := ⟨g, j * 2 + 1, none⟩) (by have := HW.out.2.2.1; show g < _; omega)).trans (HW.out.1.cell (p := ⟨g, j * 2 + 1, none⟩) h1)
          have HU : Hid (us (i + j) = .slice ua um uc) := hu
          obtain ⟨i1, hi1, hy0, hy1, hy2⟩ := info_parts Fr.info27
          have hW1w : W1.heap.size ≤ wr.heap.size := HL.out.1.size
          clear e e3 hu hum
          go_wp2_with (at_builtin; refine Fr.Stop.mk ?_)
          refine Fr.Stop.out (wpList_append_lies _ rfl (.tmp 36) (.tmp 45) 77 rfl W1.heap.size 55 i1 _ 1 24 Tryd.underlying77 hi1 hy0 hy1 hy2 rfl (by decide) u3 (i + j) _ rfl (World.ownsRow.alloc HL.out.2.1 _) ⟨wr.heap.size, 0, none⟩ 1 1 [.slice ua um uc] rfl rfl (World.news_of_block (alloc_new wr _)) (by intro u hu; simp at hu; subst hu; rfl) (by decide) (by unfold maxLen; omega) (by omega) (by simp; omega) _ rfl ?_)
          intro g9 c9 W9 ho9 hg9 _ _
          have HL9 : Hid (L12 W1 us (i + j + 1) (.slice (some ⟨g9, 0, none⟩) (i + j + 1) c9) W9) := HL.out.step HU.out ho9 hg9
          clear ho9 hg9 z3 y14
          go_wp2
          go_roundw
          case rel => exact ⟨j + 1, by go_num, by omega, HL9.out⟩
          case measure => simp [intOf]; omega
        · have hjn2 : ¬ ((j : Int) < (no : Int)) := by omega
          obtain rfl : j = no := by omega
          have hfr : Calls Tryd.prog 22 #[u3] wr fun e w' => e = .returned (.bool true) ∧ Fr.KR (i + j) us wr w' := by
            have h1 := HW.out
            have h2 := HN.out.1
            refine free_l12 (base := base) (cs := cs) (fun q hq => ?_) (fun q hq => HB.out.sm q (by omega)) (fun q r hq hr => HB.out.ap q r (by omega) (by omega)) HL.out (by omega) (by omega)
            have h3 := HB.out.own q (by omega)
            exact ⟨owns_same h3.1 (fun b e => h1.1.block b (h3.1.lt b e).2), h3.2⟩
          have HL2 : Hid (Below W1.heap.size W1 wr) := HL.out.1
          clear HL
          go_wp2_with (go_at_call 22; refine hfr.mono ?_; refine Fr.Stop.mk ?_)
          rintro x W2 rfl hkr
          have HI : Hid (SI F w PQ base c D sv sl W2) := by
            obtain ⟨b1, b2, b3, b4⟩ := HW.out
            have hz := HL2.out.size
            have hN := HN.out.1
            -- what a block of the old memory holds
            have hold : ∀ b, b < w.heap.size → (∀ q, q < i + j → (us q).ownBlock ≠ some b) → W2.heap[b]? = w.heap[b]? := fun b hb hn => (hkr.block b (by omega) hn).trans ((HL2.out.block b (by omega)).trans (b1.block b hb))
            have hty : ∀ (e : TypeId) (s n : Nat) (v : Value), e ≠ 5 → OwnW w base e s v n → OwnW W2 base e s v n := fun e s n v he hv => hv.same fun b hb => by
              obtain ⟨xs, hx⟩ := hv
              obtain ⟨_, t2, cur, fr, t3⟩ := own_ty hx hb
              refine hold b t2 fun q hq e2 => ?_
              obtain ⟨_, _, cur', fr', t4⟩ := own_ty (HB.out.own q (by omega)).1 e2
              rw [t3] at t4
              simp at t4
              exact he t4.2.1
            refine ⟨⟨?_, ?_, ?_, ?_, fun b hb hf => hold b hb fun q hq e2 => hf ?_⟩, ?_, hty _ _ _ _ (by decide) HO.out.1.val.1.w, hty _ _ _ _ (by decide) HO.out.1.ctx.1.w, fun q hq => ⟨fun g n cap e => ?_, hty _ _ _ _ (by decide) (HSX.out q hq).2⟩, hty _ _ _ _ (by decide) HO.out.1.role.1.w⟩
            · exact hkr.os.trans (HL2.out.os.trans b1.os)
            · exact hkr.tape.trans (HL2.out.tape.trans b1.tape)
            · exact hkr.output.trans (HL2.out.output.trans b1.output)
            · have := hkr.size; omega
            · by_cases hqi : q < i
              · obtain ⟨g, cap, e, e3⟩ := HB.out.v q (by omega)
                exact (HO.out.2.val g _ cap e).2 (q * 4 + 3) _ b (by omega) e3 e2
              · obtain ⟨g, cap, e, e3⟩ := HB.out.o (q - i) (by omega)
                rw [hN.1, show i + (q - i) = q by omega] at e3
                exact (HO.out.2.oth g _ cap e).2 ((q - i) * 2 + 1) _ b (by omega) e3 e2
            · exact (hkr.block _ (by omega) (fun q hq e2 => by have := ((HB.out.own q (by omega)).1.lt _ e2).2; omega)).trans ((HL2.out.block _ (by omega)).trans b2)
            · have h1 := (HSX.out q hq).1 g n cap e
              rw [← h1]
              obtain ⟨xs, hx, -⟩ := HO.out.1.ctx.1
              obtain ⟨_, t2, cur, fr, t3⟩ := own_ty hx (show (c 4).ownBlock = some g by rw [e]; rfl)
              refine World.cell?_of_block (hold g t2 fun r hr e2 => ?_)
              obtain ⟨_, _, cur', fr', t4⟩ := own_ty (HB.out.own r (by omega)).1 e2
              rw [t3] at t4
              simp at t4
          clear hkr hfr y14
          have HTY : Hid (∀ (e e' : TypeId) (s s' n n' g : Nat) (v v' : Value), e ≠ e' → OwnW w base e s v n → OwnW w base e' s' v' n' → v.ownBlock = some g → v'.ownBlock ≠ some g) := fun e e' s s' n n' g v v' he h1 h2 e1 e2 => by
            obtain ⟨xs, h1⟩ := h1
            obtain ⟨ys, h2⟩ := h2
            obtain ⟨_, _, cur, fr, t3⟩ := own_ty h1 e1
            obtain ⟨_, _, cur', fr', t4⟩ := own_ty h2 e2
            rw [t3] at t4
            simp at t4
            exact he t4.2.1
          go_wp2
          go_loopw [7] (fun x wr => ∃ (q : Nat), x = .int .i64 (q : Int) ∧ q ≤ i ∧ Hid (SI F w PQ base c D sv sl wr)) (fun x _ => i - (intOf x).toNat)
          case atStart => exact ⟨0, rfl, by omega, HI⟩
          case round =>
            clear HI HL2
            obtain ⟨q, rfl, hq, HI⟩ := hrel
            have y18 := (HP.out _ HI.out.p).1
            by_cases hqi : q < i
            · have hqi2 : (q : Int) < (i : Int) := by omega
              obtain ⟨g, cap, e, hlo, hlt⟩ := HI.out.v.form (by have := HN.out.1; omega)
              obtain ⟨rfl, -⟩ : a17 = some ⟨g, 0, none⟩ ∧ True := by have := HN.out.2.1.symm.trans e; simp at this; exact ⟨this.1, trivial⟩
              have hgl : g < w.heap.size := (HO.out.1.val.1.lt g (by rw [e]; rfl)).2
              have hv := HI.out.v
              rw [e] at hv
              obtain ⟨⟨y, hy⟩, hf⟩ := hv.at (q * 4) (by have := HN.out.1; omega)
              have HI9 : Hid (SI F w PQ base c D sv sl (wr.setCell ⟨g, q * 4, none⟩ (.int .u8 99))) := HI.out.set _ (HO.out.2.val g _ cap e).1 hgl (fun n cp _ i' => by omega)
              clear hv e
              go_wp2
              go_roundw
              case rel => exact ⟨q + 1, by go_num, by omega, HI9.out⟩
              case measure => simp [intOf]; omega
            · have hqi2 : ¬ (q : Int) < (i : Int) := by omega
              obtain rfl : q = i := by omega
              go_wp2
              clear y18
              go_loopw [8] (fun x wr => ∃ (r : Nat), x = .int .i64 (r : Int) ∧ r ≤ nc ∧ Hid (SI F w PQ base c D sv sl wr)) (fun x _ => nc - (intOf x).toNat)
              case atStart => exact ⟨0, rfl, by omega, HI⟩
              case round =>
                clear HI
                obtain ⟨r, rfl, hr, HI⟩ := hrel
                have y5 := (HP.out _ HI.out.p).2.2.1
                by_cases hrn : r < nc
                · have hrn2 : (r : Int) < (nc : Int) := by omega
                  have hrx : r < D.cx.length := by have := HN.out.1; omega
                  obtain ⟨g, cap, e, hlo, hlt⟩ := HI.out.x.form (by omega)
                  obtain ⟨rfl, -⟩ : a4 = some ⟨g, 0, none⟩ ∧ True := by have := HN.out.2.2.2.1.symm.trans e; simp at this; exact ⟨this.1, trivial⟩
                  have hgl : g < w.heap.size := (HO.out.1.ctx.1.lt g (by rw [e]; rfl)).2
                  obtain ⟨sa, sc, hsv⟩ : ∃ a p, sv r = .slice a (sl r) p := by obtain ⟨xs, h⟩ := (HSX.out r hrx).2; exact owns_slice h
                  have hsm := HSL.out r hrx
                  obtain ⟨sm, hsme⟩ : ∃ m, sl r = m := ⟨_, rfl⟩
                  rw [hsme] at hsv hsm
                  have e3 := (HI.out.s r hrx).1 g _ cap e
                  rw [hsv] at e3
                  have HE : Hid (c 4 = .slice (some ⟨g, 0, none⟩) D.cx.length cap) := e
                  have HSV : Hid (sv r = .slice sa sm sc ∧ sl r = sm) := ⟨hsv, hsme⟩
                  clear e hsv hsme
                  go_wp2
                  go_loopw [9] (fun x wr => ∃ (t : Nat), x = .int .i64 (t : Int) ∧ t ≤ sm ∧ Hid (SI F w PQ base c D sv sl wr)) (fun x _ => sm - (intOf x).toNat)
                  case atStart => exact ⟨0, rfl, by omega, HI⟩
                  case round =>
                    clear y5 e3 HI hlt
                    obtain ⟨t, rfl, ht, HI⟩ := hrel
                    have y5 := (HP.out _ HI.out.p).2.2.1
                    have e3 := (HI.out.s r hrx).1 g _ cap HE.out
                    rw [HSV.out.1] at e3
                    by_cases htn : t < sm
                    · have htn2 : (t : Int) < (sm : Int) := by omega
                      have hs9 := (HI.out.s r hrx).2
                      rw [HSV.out.1, HSV.out.2] at hs9
                      obtain ⟨gs, cs2, es, _, _⟩ := hs9.form (by omega)
                      obtain ⟨rfl, rfl⟩ : sa = some ⟨gs, 0, none⟩ ∧ sc = cs2 := by simpa using es
                      obtain ⟨⟨y, hy⟩, hf⟩ := hs9.at t (by omega)
                      have hsw := (HSX.out r hrx).2
                      rw [HSV.out.1] at hsw
                      have hgsl : gs < w.heap.size := by obtain ⟨xs, h⟩ := hsw; exact (h.lt gs rfl).2
                      have HI9 : Hid (SI F w PQ base c D sv sl (wr.setCell ⟨gs, t, none⟩ (.string ⟨#[57, 46, 57]⟩))) := by
                        refine HI.out.set _ ?_ hgsl (fun n cp e4 i' => ?_)
                        · exact (HO.out.2.ctx g _ cap HE.out).2 (r * 4 + 3) _ gs (by omega) ((HSX.out r hrx).1 g _ cap HE.out) (by rw [HSV.out.1]; rfl)
                        · exact absurd (show (c 4).ownBlock = some gs by rw [e4]; rfl) (HTY.out 9 51 _ _ _ _ gs _ _ (by decide) hsw HO.out.1.ctx.1.w rfl)
                      clear hs9 es hsw
                      go_wp2
                      go_roundw
                      case rel => exact ⟨t + 1, by go_num, by omega, HI9.out⟩
                      case measure => simp [intOf]; omega
                    · have htn2 : ¬ (t : Int) < (sm : Int) := by omega
                      obtain rfl : t = sm := by omega
                      have hv := HI.out.x
                      rw [HE.out] at hv
                      obtain ⟨⟨y, hy⟩, hf⟩ := hv.at (r * 4 + 2) (by omega)
                      have HI9 : Hid (SI F w PQ base c D sv sl (wr.setCell ⟨g, r * 4 + 2, none⟩ (.string ⟨#[57, 46, 56]⟩))) := HI.out.set _ (HO.out.2.ctx g _ cap HE.out).1 hgl (fun n cp _ i' => by omega)
                      clear hv
                      go_wp2
                      go_roundw
                      case rel => exact ⟨r + 1, by go_num, by omega, HI9.out⟩
                      case measure => simp [intOf]; omega
                · have hrn2 : ¬ (r : Int) < (nc : Int) := by omega
                  obtain rfl : r = nc := by omega
                  go_wp2
                  clear y5
                  go_loopw [10] (fun x wr => ∃ (t : Nat), x = .int .i64 (t : Int) ∧ t ≤ nr ∧ Hid (SI F w PQ base c D sv sl wr)) (fun x _ => nr - (intOf x).toNat)
                  case atStart => exact ⟨0, rfl, by omega, HI⟩
                  case round =>
                    clear HI
                    obtain ⟨t, rfl, ht, HI⟩ := hrel
                    have y13 := (HP.out _ HI.out.p).2.2.2
                    by_cases htn : t < nr
                    · have htn2 : (t : Int) < (nr : Int) := by omega
                      obtain ⟨g, cap, e, hlo, hlt⟩ := HI.out.r.form (by have := HN.out.1; omega)
                      obtain ⟨rfl, -⟩ : a12 = some ⟨g, 0, none⟩ ∧ True := by have := HN.out.2.2.2.2.symm.trans e; simp at this; exact ⟨this.1, trivial⟩
                      have hgl : g < w.heap.size := (HO.out.1.role.1.lt g (by rw [e]; rfl)).2
                      have hv := HI.out.r
                      rw [e] at hv
                      obtain ⟨⟨y, hy⟩, hf⟩ := hv.at (t * 3) (by have := HN.out.1; omega)
                      have HI9 : Hid (SI F w PQ base c D sv sl (wr.setCell ⟨g, t * 3, none⟩ (.string ⟨#[57, 46, 55]⟩))) := HI.out.set _ (HO.out.2.role g _ cap e).1 hgl (fun n cp e4 i' => absurd (show (c 4).ownBlock = some g by rw [e4]; rfl) (HTY.out 54 51 _ _ _ _ g _ _ (by decide) HO.out.1.role.1.w HO.out.1.ctx.1.w (by rw [e]; rfl)))
                      clear hv e
                      go_wp2
                      go_roundw
                      case rel => exact ⟨t + 1, by go_num, by omega, HI9.out⟩
                      case measure => simp [intOf]; omega
                    · have htn2 : ¬ (t : Int) < (nr : Int) := by omega
                      obtain rfl : t = nr := by omega
                      go_wp2
                      go_ret
                      exact ⟨rfl, HI.out.kf⟩
end Go.Proofs.YtnamkcfmbefkfaaDoor
