import Derived.Test.YtnamkcfmbefkfaaDoorNf
/-
  DERIVED. Is a request rejected? The document's.
-/
namespace Go.Proofs.YtnamkcfmbefkfaaDoor
open Go Go.Proofs Go.RowKit

theorem sameT_comm (a b : ByteArray) : sameT a b = sameT b a := by
  unfold sameT
  generalize (tmT a).toList = x
  generalize (tmT b).toList = y
  by_cases h : x = y
  · rw [h]
  · have h1 : (x == y) = false := by simpa using h
    have h2 : (y == x) = false := by simpa using (fun e => h (Eq.symm e))
    rw [h1, h2]
/-- What stands while the document asks. -/
structure RjR (w W : World) (cv : Value) (r : RqD) (s : SvD) : Prop where
  b : Below w.heap.size w W
  z : W.heap[w.heap.size + 1 + 1]? = some (.cells Z33 33)
  y0 : W.cell? ⟨w.heap.size, 0, none⟩ = some (.int .i64 r.k)
  y1 : W.cell? ⟨w.heap.size + 1 + 1 + 1, 0, none⟩ = some (.int .u16 (r.ver : Int))
  y2 : W.cell? ⟨w.heap.size + 1 + 1 + 1, 1, none⟩ = some (.string r.called)
  y3 : W.cell? ⟨w.heap.size + 1 + 1 + 1, 2, none⟩ = some (.string r.calling)
  y4 : W.cell? ⟨w.heap.size + 1 + 1 + 1, 3, none⟩ = some (.string r.app)
  y6 : W.cell? ⟨w.heap.size + 1 + 1 + 1, 5, none⟩ = some (.bool r.h)
  y7 : W.cell? ⟨w.heap.size + 1 + 1 + 1, 6, none⟩ = some (.int .u32 r.m)
  x0 : W.cell? ⟨w.heap.size + 1, 0, none⟩ = some (.string s.title)
  x1 : W.cell? ⟨w.heap.size + 1, 1, none⟩ = some cv
  x2 : W.cell? ⟨w.heap.size + 1, 2, none⟩ = some (.int .i64 s.lines)
  T : TR W cv s.T
theorem RjR.dn {w W : World} {cv : Value} {r : RqD} {s : SvD} (h : RjR w W cv r s) (q : Nat) : RjR w (W.drewN q) cv r s :=
  ⟨below_dn h.b q, h.z, h.y0, h.y1, h.y2, h.y3, h.y4, h.y6, h.y7, h.x0, h.x1, h.x2, tr_drew h.T q⟩
/-- A request as plain data. -/
structure RqV (k : Int) (c : Fin 18 → Value) (r : RqD) : Prop where
  vl : r.ver < 65536
  k : k = r.k
  c0 : c 0 = .int .u16 (r.ver : Int)
  c1 : c 1 = .string r.called
  c2 : c 2 = .string r.calling
  c3 : c 3 = .string r.app
  c5 : c 5 = .bool r.h
  c6 : c 6 = .int .u32 r.m
  one : ∀ i, (c i).oneCell' = true
theorem as_info (c : Fin 18 → Value) : (Tryd.prog.info? 30).map (·.size) = some (As c).toList.length := by unfold As; kernel_rfl
theorem as_one (c : Fin 18 → Value) (h : ∀ i, (c i).oneCell' = true) : (As c).all (·.oneCell') = true := by
  unfold As
  simp [h]
def Z30 : Array Value := #[.int .u16 0, .string ⟨#[]⟩, .string ⟨#[]⟩, .string ⟨#[]⟩, .slice none 0 0, .bool false, .int .u32 0, .string ⟨#[]⟩, .string ⟨#[]⟩, .bool false, .int .u16 0, .int .u16 0, .slice none 0 0, .slice none 0 0]
set_option maxRecDepth 100000 in
set_option maxHeartbeats 4000000 in
theorem refuses_any (w : World) (k : Int) (c : Fin 18 → Value) (cv : Value) (a1 a2 : Value) (r : RqD) (s : SvD) (busy : Int) (hR : RqV k c r) (hT : TR w cv s.T) (hsm : RqSm r s) :
    Calls Tryd.prog 16 #[.agg (Pd k c), .agg #[.string s.title, cv, .int .i64 s.lines, a1, a2], .int .i64 busy] w fun x w' => x = .returned (.agg (Pd (rjK (rejO r s busy)) (rjF (rejO r s busy)))) ∧ Below w.heap.size w w' := by
  obtain ⟨fs, hu⟩ := hu33
  obtain ⟨fsa, hua⟩ : ∃ fs, Tryd.prog.underlying 30 = some (.struct fs) := ⟨_, Tryd.underlying30⟩
  obtain ⟨CF, hCF⟩ : ∃ CF, #[.string s.title, cv, .int .i64 s.lines, a1, a2] = CF := ⟨_, rfl⟩
  obtain ⟨WA, hWA⟩ : ∃ WA, ((w.alloc (.cells (Pd k c) 33)).alloc (.cells CF 36)).alloc (.cells Z33 33) = WA := ⟨_, rfl⟩
  have hbA : Below w.heap.size w WA := hWA ▸ ((((Below.refl _ _).alloc (Nat.le_refl _) _).alloc (by simp) _).alloc (by simp; omega) _)
  have hzA : WA.heap.size = w.heap.size + 1 + 1 + 1 := by rw [← hWA]; simp
  have g0 : WA.heap[w.heap.size]? = some (.cells (Pd k c) 33) := by
    rw [← hWA]
    exact (Below.heap_alloc _ _ _ (by simp; omega)).trans ((Below.heap_alloc _ _ _ (by simp)).trans (alloc_new w _))
  have g1 : WA.heap[w.heap.size + 1]? = some (.cells CF 36) := by
    rw [← hWA]
    refine (Below.heap_alloc _ _ _ (by simp)).trans ?_
    have := alloc_new (w.alloc (.cells (Pd k c) 33)) (.cells CF 36)
    simpa using this
  have g2 : WA.heap[w.heap.size + 1 + 1]? = some (.cells Z33 33) := by
    rw [← hWA]
    have := alloc_new ((w.alloc (.cells (Pd k c) 33)).alloc (.cells CF 36)) (.cells Z33 33)
    simpa using this
  obtain ⟨WB, hWB⟩ : ∃ WB, (WA.alloc (.cells Z30 30)).setRow (w.heap.size + 1 + 1 + 1) (As c) = WB := ⟨_, rfl⟩
  have hgN : (WA.alloc (.cells Z30 30)).heap[w.heap.size + 1 + 1 + 1]? = some (.cells Z30 30) := by
    have := alloc_new WA (.cells Z30 30)
    rw [hzA] at this
    exact this
  have ho : ∀ b, b < w.heap.size + 1 + 1 + 1 → WB.heap[b]? = WA.heap[b]? := fun b hb => by
    rw [← hWB]
    exact (setRow_other _ _ _ _ (by omega)).trans (Below.heap_alloc _ _ _ (by omega))
  have hgB : WB.heap[w.heap.size + 1 + 1 + 1]? = some (.cells (As c) 30) := hWB ▸ setRow_heap _ _ _ _ _ _ hgN
  have hbB : Below w.heap.size w WB := hWB ▸ below_setRow (hbA.alloc hbA.size _) (by omega) _
  have cP : ∀ i v, (Pd k c)[i]? = some v → WB.cell? ⟨w.heap.size, i, none⟩ = some v := fun i v h => by rw [cell_of_row WB _ _ _ _ _ ((ho _ (by omega)).trans g0)]; exact h
  have cA : ∀ i v, (As c)[i]? = some v → WB.cell? ⟨w.heap.size + 1 + 1 + 1, i, none⟩ = some v := fun i v h => by rw [cell_of_row WB _ _ _ _ _ hgB]; exact h
  have cC : ∀ i v, CF[i]? = some v → WB.cell? ⟨w.heap.size + 1, i, none⟩ = some v := fun i v h => by rw [cell_of_row WB _ _ _ _ _ ((ho _ (by omega)).trans g1)]; exact h
  have HW : Hid (RjR w WB cv r s) := by
    refine ⟨hbB, (ho _ (by omega)).trans g2, cP 0 _ (by rw [← hR.k]; rfl), cA 0 _ (by rw [← hR.c0]; rfl), cA 1 _ (by rw [← hR.c1]; rfl), cA 2 _ (by rw [← hR.c2]; rfl), cA 3 _ (by rw [← hR.c3]; rfl), cA 5 _ (by rw [← hR.c5]; rfl), cA 6 _ (by rw [← hR.c6]; rfl), cC 0 _ (by rw [← hCF]; rfl), cC 1 _ (by rw [← hCF]; rfl), cC 2 _ (by rw [← hCF]; rfl), hT.on hbB⟩
  have HSM : Hid (RqSm r s) := hsm
  have hra : WA.rangeAt w.heap.size 1 (As c).toList := fun j v hv => by rw [cell_of_row WA _ _ _ _ _ g0]; exact as_pd k c j v hv
  have hsa := as_info c
  have hsa' : (Tryd.prog.info? 30).map (·.size) = some (As c).size := by rw [← Array.length_toList]; exact hsa
  have hoa := as_one c hR.one
  have hza : Z30.size = (As c).size := rfl
  have hvl := hR.vl
  obtain ⟨o, ho2⟩ : ∃ o, rejO r s busy = o := ⟨_, rfl⟩
  rw [ho2, hCF]
  clear hbA g0 g1 g2 hbB cP cA cC hT hsm hCF hR ho hgB
  generalize Pd k c = PQ at hWA ⊢
  generalize As c = AQ at *
  unfold Z33 at hWA
  unfold Z30 at *
  go_enter Tryd.func16, Tryd.ntmps16
  go_wp2_with (first | (refine wpList_load_mid rfl 30 (.tmp 10) rfl w.heap.size 1 rfl AQ.toList _ hra hua rfl hsa ?_) | (refine wpList_store_row rfl 30 (.tmp 7) (.tmp 11) rfl (w.heap.size + 1 + 1 + 1) AQ rfl rfl 30 _ hgN hsa' hza hoa ?_; refine Fr.Stop.mk ?_))
  try rw [hWB]
  clear hWB hWA hra hsa hsa' hoa hza hgN hzA
  refine Fr.Stop.out ?_
  unfold rejO at ho2
  obtain ⟨-, -, y0, y1, y2, y3, y4, y6, y7, x0, x1, x2, -⟩ := HW.out
  by_cases d1 : r.k = 1
  · by_cases d2 : r.ver % 2 = 0
    · rw [if_pos (.inr d2)] at ho2
      subst ho2
      have d2' : ((r.ver % 2 : Nat) : Int) = 0 := by omega
      go_wp2_with (go_at_call 32; refine (rreject_any _ 1 2 2).mono ?_; refine Fr.Stop.mk ?_)
      first | (rintro xr W9 rfl hb9) | (rintro xr W9 ⟨rfl, hb9⟩)
      have hg9 : W9.heap[w.heap.size + 1 + 1]? = some (.cells Z33 33) := (hb9.block _ (Array.getElem?_eq_some_iff.1 HW.out.z).1).trans HW.out.z
      have hs := size40' 3 (rjC 1 2 2)
      have h1 := pd_one 3 (rjC 1 2 2) (rj_one _ _ _)
      have hl := z33 3 (rjC 1 2 2)
      have hbl : Below w.heap.size w (W9.setRow (w.heap.size + 1 + 1) (Pd 3 (rjC 1 2 2))) := below_setRow (HW.out.b.trans (hb9.mono HW.out.b.size)) (by omega) _
      have hh := setRow_heap W9 (w.heap.size + 1 + 1) _ (Pd 3 (rjC 1 2 2)) 33 _ hg9
      have hld := run_loadVar_row (P := Tryd.prog) _ _ _ 33 _ _ _ hh hu rfl hs
      obtain ⟨RQ, hRQ⟩ : ∃ RQ, Pd 3 (rjC 1 2 2) = RQ := ⟨_, rfl⟩
      have HRQ : Hid (Pd 3 (rjC 1 2 2) = RQ) := hRQ
      rw [hRQ] at hs h1 hl hbl hh hld ⊢
      clear hRQ hb9 hh
      go_wp2_with (refine wpList_store_row rfl 33 (.tmp 6) (.tmp 22) rfl (w.heap.size + 1 + 1) RQ rfl rfl 33 _ hg9 hs hl h1 ?_)
      refine bodyPost_ret (v := .agg RQ) (res_cell (k := 6) Tryd.results16 (by kernel_rfl) hld) rfl ⟨by rw [← HRQ.out]; rfl, hbl⟩
    · rw [if_neg (fun h => h.elim (fun h => h d1) d2)] at ho2
      have d2' : ¬ ((r.ver % 2 : Nat) : Int) = 0 := by omega
      cases d3 : (r.app.toList == [49, 46, 50, 46, 56, 52, 48, 46, 49, 48, 48, 48, 56, 46, 51, 46, 49, 46, 49, 46, 49])
      · rw [d3, if_pos rfl] at ho2
        subst ho2
        go_wp2_with (go_at_call 32; refine (rreject_any _ 1 1 2).mono ?_; refine Fr.Stop.mk ?_)
        first | (rintro xr W9 rfl hb9) | (rintro xr W9 ⟨rfl, hb9⟩)
        have hg9 : W9.heap[w.heap.size + 1 + 1]? = some (.cells Z33 33) := (hb9.block _ (Array.getElem?_eq_some_iff.1 HW.out.z).1).trans HW.out.z
        have hs := size40' 3 (rjC 1 1 2)
        have h1 := pd_one 3 (rjC 1 1 2) (rj_one _ _ _)
        have hl := z33 3 (rjC 1 1 2)
        have hbl : Below w.heap.size w (W9.setRow (w.heap.size + 1 + 1) (Pd 3 (rjC 1 1 2))) := below_setRow (HW.out.b.trans (hb9.mono HW.out.b.size)) (by omega) _
        have hh := setRow_heap W9 (w.heap.size + 1 + 1) _ (Pd 3 (rjC 1 1 2)) 33 _ hg9
        have hld := run_loadVar_row (P := Tryd.prog) _ _ _ 33 _ _ _ hh hu rfl hs
        obtain ⟨RQ, hRQ⟩ : ∃ RQ, Pd 3 (rjC 1 1 2) = RQ := ⟨_, rfl⟩
        have HRQ : Hid (Pd 3 (rjC 1 1 2) = RQ) := hRQ
        rw [hRQ] at hs h1 hl hbl hh hld ⊢
        clear hRQ hb9 hh
        go_wp2_with (refine wpList_store_row rfl 33 (.tmp 6) (.tmp 27) rfl (w.heap.size + 1 + 1) RQ rfl rfl 33 _ hg9 hs hl h1 ?_)
        refine bodyPost_ret (v := .agg RQ) (res_cell (k := 6) Tryd.results16 (by kernel_rfl) hld) rfl ⟨by rw [← HRQ.out]; rfl, hbl⟩
      · rw [d3, if_neg (by decide)] at ho2
        have hq := fun q x (hx : ByteArray.size x ≤ 140737488351232) => bare_any (WB.drewN q) x hx
        have hza := HSM.out.1.1
        have hzb := HSM.out.2.1
        have d4 : ((tmT r.called).toList == (tmT s.title).toList) = sameT r.called s.title := rfl
        cases d5 : sameT r.called s.title
        · rw [d5, if_pos rfl] at ho2
          subst ho2
          rw [d5] at d4
          go_wp2
          go_quiet ((go_at_call 33; exact (hq _ _ (by assumption)).mono fun _ _ h => ⟨h.1, drewN2 h.2⟩))
          have HW2 : Hid (RjR w (WB.drewN nq) cv r s) := HW.out.dn nq
          clear HW
          clear y0 y1 y2 y3 y4 y6 y7 x0 x1 x2
          generalize WB.drewN nq = W2 at HW2 ⊢
          have HW := HW2
          clear HW2
          obtain ⟨-, -, y0, y1, y2, y3, y4, y6, y7, x0, x1, x2, -⟩ := HW.out
          clear hq d4
          go_wp2_with (go_at_call 32; refine (rreject_any _ 1 1 7).mono ?_; refine Fr.Stop.mk ?_)
          first | (rintro xr W9 rfl hb9) | (rintro xr W9 ⟨rfl, hb9⟩)
          have hg9 : W9.heap[w.heap.size + 1 + 1]? = some (.cells Z33 33) := (hb9.block _ (Array.getElem?_eq_some_iff.1 HW.out.z).1).trans HW.out.z
          have hs := size40' 3 (rjC 1 1 7)
          have h1 := pd_one 3 (rjC 1 1 7) (rj_one _ _ _)
          have hl := z33 3 (rjC 1 1 7)
          have hbl : Below w.heap.size w (W9.setRow (w.heap.size + 1 + 1) (Pd 3 (rjC 1 1 7))) := below_setRow (HW.out.b.trans (hb9.mono HW.out.b.size)) (by omega) _
          have hh := setRow_heap W9 (w.heap.size + 1 + 1) _ (Pd 3 (rjC 1 1 7)) 33 _ hg9
          have hld := run_loadVar_row (P := Tryd.prog) _ _ _ 33 _ _ _ hh hu rfl hs
          obtain ⟨RQ, hRQ⟩ : ∃ RQ, Pd 3 (rjC 1 1 7) = RQ := ⟨_, rfl⟩
          have HRQ : Hid (Pd 3 (rjC 1 1 7) = RQ) := hRQ
          rw [hRQ] at hs h1 hl hbl hh hld ⊢
          clear hRQ hb9 hh
          go_wp2_with (refine wpList_store_row rfl 33 (.tmp 6) (.tmp 36) rfl (w.heap.size + 1 + 1) RQ rfl rfl 33 _ hg9 hs hl h1 ?_)
          refine bodyPost_ret (v := .agg RQ) (res_cell (k := 6) Tryd.results16 (by kernel_rfl) hld) rfl ⟨by rw [← HRQ.out]; rfl, hbl⟩
        · rw [d5, if_neg (by decide)] at ho2
          rw [d5] at d4
          go_wp2
          go_quiet ((go_at_call 33; exact (hq _ _ (by assumption)).mono fun _ _ h => ⟨h.1, drewN2 h.2⟩))
          have HW2 : Hid (RjR w (WB.drewN nq) cv r s) := HW.out.dn nq
          clear HW
          clear y0 y1 y2 y3 y4 y6 y7 x0 x1 x2
          generalize WB.drewN nq = W2 at HW2 ⊢
          have HW := HW2
          clear HW2
          obtain ⟨-, -, y0, y1, y2, y3, y4, y6, y7, x0, x1, x2, -⟩ := HW.out
          clear hq d4
          have HW0 := HW
          obtain ⟨cao, ccap, hcv, hcf, hcz, -⟩ := HW.out.T
          subst hcv
          obtain ⟨n, hn⟩ : ∃ n, s.T.length = n := ⟨_, rfl⟩
          have HN : Hid (s.T.length = n) := hn
          have HF : Hid (0 < n → ∃ b off, cao = some ⟨b, off, none⟩ ∧ ∀ i (h : i < s.T.length), w.cell? ⟨b, off + i, none⟩ = w.cell? ⟨b, off + i, none⟩ ∧ W2.cell? ⟨b, off + i, none⟩ = some (.string s.T[i])) := fun h => by
            obtain ⟨b, off, e, hh⟩ := hcf (by omega)
            exact ⟨b, off, e, fun i hi => ⟨rfl, hh i hi⟩⟩
          have hnz : n ≤ 140737488351232 := by omega
          rw [hn] at x1 HW
          clear hcf hcz
          by_cases hn0 : n = 0
          · have hm : mayB r.calling s.T = true := by unfold mayB; rw [HN.out, decide_eq_true hn0, Bool.or_true]
            rw [hm, if_neg (by decide)] at ho2
            have i8 : ¬ (n : Int) > 0 := by omega
            cases d6 : shortB r.h r.m
            · rw [d6, if_neg (by decide)] at ho2
              cases dh : r.h
              · rw [dh] at y6
                by_cases d7 : s.lines ≤ busy
                · rw [if_pos d7] at ho2
                  subst ho2
                  have d7' : busy ≥ s.lines := d7
                  go_wp2_with (go_at_call 32; refine (rreject_any _ 2 3 2).mono ?_; refine Fr.Stop.mk ?_)
                  first | (rintro xr W9 rfl hb9) | (rintro xr W9 ⟨rfl, hb9⟩)
                  have hg9 : W9.heap[w.heap.size + 1 + 1]? = some (.cells Z33 33) := (hb9.block _ (Array.getElem?_eq_some_iff.1 HW.out.z).1).trans HW.out.z
                  have hs := size40' 3 (rjC 2 3 2)
                  have h1 := pd_one 3 (rjC 2 3 2) (rj_one _ _ _)
                  have hl := z33 3 (rjC 2 3 2)
                  have hbl : Below w.heap.size w (W9.setRow (w.heap.size + 1 + 1) (Pd 3 (rjC 2 3 2))) := below_setRow (HW.out.b.trans (hb9.mono HW.out.b.size)) (by omega) _
                  have hh := setRow_heap W9 (w.heap.size + 1 + 1) _ (Pd 3 (rjC 2 3 2)) 33 _ hg9
                  have hld := run_loadVar_row (P := Tryd.prog) _ _ _ 33 _ _ _ hh hu rfl hs
                  obtain ⟨RQ, hRQ⟩ : ∃ RQ, Pd 3 (rjC 2 3 2) = RQ := ⟨_, rfl⟩
                  have HRQ : Hid (Pd 3 (rjC 2 3 2) = RQ) := hRQ
                  rw [hRQ] at hs h1 hl hbl hh hld ⊢
                  clear hRQ hb9 hh
                  go_wp2_with (refine wpList_store_row rfl 33 (.tmp 6) (.tmp 84) rfl (w.heap.size + 1 + 1) RQ rfl rfl 33 _ hg9 hs hl h1 ?_)
                  refine bodyPost_ret (v := .agg RQ) (res_cell (k := 6) Tryd.results16 (by kernel_rfl) hld) rfl ⟨by rw [← HRQ.out]; rfl, hbl⟩
                · rw [if_neg d7] at ho2
                  subst ho2
                  have d7' : ¬ busy ≥ s.lines := d7
                  have hs := size40' 0 zc
                  have h1 := pd_one 0 zc (by decide)
                  have hl := z33 0 zc
                  have hz0 := pd_zero0
                  have hbl : Below w.heap.size w (W2.setRow (w.heap.size + 1 + 1) (Pd 0 zc)) := below_setRow HW.out.b (by omega) _
                  have hh := setRow_heap W2 (w.heap.size + 1 + 1) _ (Pd 0 zc) 33 _ HW.out.z
                  have hld := run_loadVar_row (P := Tryd.prog) _ _ _ 33 _ _ _ hh hu rfl hs
                  have hg3 := HW.out.z
                  obtain ⟨RQ, hRQ⟩ : ∃ RQ, Pd 0 zc = RQ := ⟨_, rfl⟩
                  have HRQ : Hid (Pd 0 zc = RQ) := hRQ
                  rw [hRQ] at hs h1 hl hz0 hbl hh hld
                  clear hRQ hh
                  go_wp2_with (first | (refine step_build rfl 33 _ rfl RQ (by simp [Act.eval]; exact hz0) ?_) | (refine wpList_store_row rfl 33 (.tmp 6) (.tmp 85) rfl (w.heap.size + 1 + 1) RQ rfl rfl 33 _ hg3 hs hl h1 ?_))
                  refine bodyPost_ret (v := .agg RQ) (res_cell (k := 6) Tryd.results16 (by kernel_rfl) hld) rfl ⟨by rw [← HRQ.out]; rfl, hbl⟩
              · rw [dh] at y6 d6
                have dm : r.m < 1 ∨ 64 ≤ r.m := by
                  unfold shortB toldN at d6
                  simp at d6
                  omega
                by_cases dm1 : 1 ≤ r.m
                · have dm1' : r.m ≥ 1 := dm1
                  have dm2 : ¬ r.m < 64 := by omega
                  by_cases d7 : s.lines ≤ busy
                  · rw [if_pos d7] at ho2
                    subst ho2
                    have d7' : busy ≥ s.lines := d7
                    go_wp2_with (go_at_call 32; refine (rreject_any _ 2 3 2).mono ?_; refine Fr.Stop.mk ?_)
                    first | (rintro xr W9 rfl hb9) | (rintro xr W9 ⟨rfl, hb9⟩)
                    have hg9 : W9.heap[w.heap.size + 1 + 1]? = some (.cells Z33 33) := (hb9.block _ (Array.getElem?_eq_some_iff.1 HW.out.z).1).trans HW.out.z
                    have hs := size40' 3 (rjC 2 3 2)
                    have h1 := pd_one 3 (rjC 2 3 2) (rj_one _ _ _)
                    have hl := z33 3 (rjC 2 3 2)
                    have hbl : Below w.heap.size w (W9.setRow (w.heap.size + 1 + 1) (Pd 3 (rjC 2 3 2))) := below_setRow (HW.out.b.trans (hb9.mono HW.out.b.size)) (by omega) _
                    have hh := setRow_heap W9 (w.heap.size + 1 + 1) _ (Pd 3 (rjC 2 3 2)) 33 _ hg9
                    have hld := run_loadVar_row (P := Tryd.prog) _ _ _ 33 _ _ _ hh hu rfl hs
                    obtain ⟨RQ, hRQ⟩ : ∃ RQ, Pd 3 (rjC 2 3 2) = RQ := ⟨_, rfl⟩
                    have HRQ : Hid (Pd 3 (rjC 2 3 2) = RQ) := hRQ
                    rw [hRQ] at hs h1 hl hbl hh hld ⊢
                    clear hRQ hb9 hh
                    go_wp2_with (refine wpList_store_row rfl 33 (.tmp 6) (.tmp 84) rfl (w.heap.size + 1 + 1) RQ rfl rfl 33 _ hg9 hs hl h1 ?_)
                    refine bodyPost_ret (v := .agg RQ) (res_cell (k := 6) Tryd.results16 (by kernel_rfl) hld) rfl ⟨by rw [← HRQ.out]; rfl, hbl⟩
                  · rw [if_neg d7] at ho2
                    subst ho2
                    have d7' : ¬ busy ≥ s.lines := d7
                    have hs := size40' 0 zc
                    have h1 := pd_one 0 zc (by decide)
                    have hl := z33 0 zc
                    have hz0 := pd_zero0
                    have hbl : Below w.heap.size w (W2.setRow (w.heap.size + 1 + 1) (Pd 0 zc)) := below_setRow HW.out.b (by omega) _
                    have hh := setRow_heap W2 (w.heap.size + 1 + 1) _ (Pd 0 zc) 33 _ HW.out.z
                    have hld := run_loadVar_row (P := Tryd.prog) _ _ _ 33 _ _ _ hh hu rfl hs
                    have hg3 := HW.out.z
                    obtain ⟨RQ, hRQ⟩ : ∃ RQ, Pd 0 zc = RQ := ⟨_, rfl⟩
                    have HRQ : Hid (Pd 0 zc = RQ) := hRQ
                    rw [hRQ] at hs h1 hl hz0 hbl hh hld
                    clear hRQ hh
                    go_wp2_with (first | (refine step_build rfl 33 _ rfl RQ (by simp [Act.eval]; exact hz0) ?_) | (refine wpList_store_row rfl 33 (.tmp 6) (.tmp 85) rfl (w.heap.size + 1 + 1) RQ rfl rfl 33 _ hg3 hs hl h1 ?_))
                    refine bodyPost_ret (v := .agg RQ) (res_cell (k := 6) Tryd.results16 (by kernel_rfl) hld) rfl ⟨by rw [← HRQ.out]; rfl, hbl⟩
                · have dm1' : ¬ r.m ≥ 1 := dm1
                  by_cases d7 : s.lines ≤ busy
                  · rw [if_pos d7] at ho2
                    subst ho2
                    have d7' : busy ≥ s.lines := d7
                    go_wp2_with (go_at_call 32; refine (rreject_any _ 2 3 2).mono ?_; refine Fr.Stop.mk ?_)
                    first | (rintro xr W9 rfl hb9) | (rintro xr W9 ⟨rfl, hb9⟩)
                    have hg9 : W9.heap[w.heap.size + 1 + 1]? = some (.cells Z33 33) := (hb9.block _ (Array.getElem?_eq_some_iff.1 HW.out.z).1).trans HW.out.z
                    have hs := size40' 3 (rjC 2 3 2)
                    have h1 := pd_one 3 (rjC 2 3 2) (rj_one _ _ _)
                    have hl := z33 3 (rjC 2 3 2)
                    have hbl : Below w.heap.size w (W9.setRow (w.heap.size + 1 + 1) (Pd 3 (rjC 2 3 2))) := below_setRow (HW.out.b.trans (hb9.mono HW.out.b.size)) (by omega) _
                    have hh := setRow_heap W9 (w.heap.size + 1 + 1) _ (Pd 3 (rjC 2 3 2)) 33 _ hg9
                    have hld := run_loadVar_row (P := Tryd.prog) _ _ _ 33 _ _ _ hh hu rfl hs
                    obtain ⟨RQ, hRQ⟩ : ∃ RQ, Pd 3 (rjC 2 3 2) = RQ := ⟨_, rfl⟩
                    have HRQ : Hid (Pd 3 (rjC 2 3 2) = RQ) := hRQ
                    rw [hRQ] at hs h1 hl hbl hh hld ⊢
                    clear hRQ hb9 hh
                    go_wp2_with (refine wpList_store_row rfl 33 (.tmp 6) (.tmp 84) rfl (w.heap.size + 1 + 1) RQ rfl rfl 33 _ hg9 hs hl h1 ?_)
                    refine bodyPost_ret (v := .agg RQ) (res_cell (k := 6) Tryd.results16 (by kernel_rfl) hld) rfl ⟨by rw [← HRQ.out]; rfl, hbl⟩
                  · rw [if_neg d7] at ho2
                    subst ho2
                    have d7' : ¬ busy ≥ s.lines := d7
                    have hs := size40' 0 zc
                    have h1 := pd_one 0 zc (by decide)
                    have hl := z33 0 zc
                    have hz0 := pd_zero0
                    have hbl : Below w.heap.size w (W2.setRow (w.heap.size + 1 + 1) (Pd 0 zc)) := below_setRow HW.out.b (by omega) _
                    have hh := setRow_heap W2 (w.heap.size + 1 + 1) _ (Pd 0 zc) 33 _ HW.out.z
                    have hld := run_loadVar_row (P := Tryd.prog) _ _ _ 33 _ _ _ hh hu rfl hs
                    have hg3 := HW.out.z
                    obtain ⟨RQ, hRQ⟩ : ∃ RQ, Pd 0 zc = RQ := ⟨_, rfl⟩
                    have HRQ : Hid (Pd 0 zc = RQ) := hRQ
                    rw [hRQ] at hs h1 hl hz0 hbl hh hld
                    clear hRQ hh
                    go_wp2_with (first | (refine step_build rfl 33 _ rfl RQ (by simp [Act.eval]; exact hz0) ?_) | (refine wpList_store_row rfl 33 (.tmp 6) (.tmp 85) rfl (w.heap.size + 1 + 1) RQ rfl rfl 33 _ hg3 hs hl h1 ?_))
                    refine bodyPost_ret (v := .agg RQ) (res_cell (k := 6) Tryd.results16 (by kernel_rfl) hld) rfl ⟨by rw [← HRQ.out]; rfl, hbl⟩
            · rw [d6, if_pos rfl] at ho2
              subst ho2
              have dh : r.h = true ∧ 1 ≤ r.m ∧ r.m < 64 := by
                unfold shortB toldN at d6
                cases h : r.h
                · rw [h] at d6; simp at d6
                · rw [h] at d6; simp at d6; exact ⟨rfl, by omega, by omega⟩
              obtain ⟨dh, dm1, dm2⟩ := dh
              have dm1' : r.m ≥ 1 := dm1
              rw [dh] at y6
              go_wp2_with (go_at_call 32; refine (rreject_any _ 1 1 1).mono ?_; refine Fr.Stop.mk ?_)
              first | (rintro xr W9 rfl hb9) | (rintro xr W9 ⟨rfl, hb9⟩)
              have hg9 : W9.heap[w.heap.size + 1 + 1]? = some (.cells Z33 33) := (hb9.block _ (Array.getElem?_eq_some_iff.1 HW.out.z).1).trans HW.out.z
              have hs := size40' 3 (rjC 1 1 1)
              have h1 := pd_one 3 (rjC 1 1 1) (rj_one _ _ _)
              have hl := z33 3 (rjC 1 1 1)
              have hbl : Below w.heap.size w (W9.setRow (w.heap.size + 1 + 1) (Pd 3 (rjC 1 1 1))) := below_setRow (HW.out.b.trans (hb9.mono HW.out.b.size)) (by omega) _
              have hh := setRow_heap W9 (w.heap.size + 1 + 1) _ (Pd 3 (rjC 1 1 1)) 33 _ hg9
              have hld := run_loadVar_row (P := Tryd.prog) _ _ _ 33 _ _ _ hh hu rfl hs
              obtain ⟨RQ, hRQ⟩ : ∃ RQ, Pd 3 (rjC 1 1 1) = RQ := ⟨_, rfl⟩
              have HRQ : Hid (Pd 3 (rjC 1 1 1) = RQ) := hRQ
              rw [hRQ] at hs h1 hl hbl hh hld ⊢
              clear hRQ hb9 hh
              go_wp2_with (refine wpList_store_row rfl 33 (.tmp 6) (.tmp 79) rfl (w.heap.size + 1 + 1) RQ rfl rfl 33 _ hg9 hs hl h1 ?_)
              refine bodyPost_ret (v := .agg RQ) (res_cell (k := 6) Tryd.results16 (by kernel_rfl) hld) rfl ⟨by rw [← HRQ.out]; rfl, hbl⟩
          · have i8 : (n : Int) > 0 := by omega
            go_wp2
            clear y0 y1 y2 y3 y4 y6 y7 x0 x1 x2
            go_loopw [8, 9] (fun kn x wr => ∃ i : Nat, x = .int .i64 (i : Int) ∧ i ≤ n ∧ kn = .bool (anyT r.calling (s.T.take i)) ∧ Hid (RjR w wr (.slice cao n ccap) r s ∧ Below W2.heap.size W2 wr)) (fun _ x _ => n - (intOf x).toNat)
            case atStart => exact ⟨0, rfl, by omega, rfl, HW.out, .refl _ _⟩
            case round => as_aux_lemma =>
              clear HW
              obtain ⟨i, rfl, hi, rfl, HWB⟩ := hrel
              have HW : Hid (RjR w wr (.slice cao n ccap) r s) := HWB.out.1
              obtain ⟨-, -, y0, y1, y2, y3, y4, y6, y7, x0, x1, x2, -⟩ := HW.out
              by_cases hin : i < n
              · have hI : (i : Int) < (n : Int) := by omega
                have hil : i < s.T.length := by rw [HN.out]; exact hin
                obtain ⟨b, off, hao, hel⟩ := HF.out (by omega)
                subst hao
                have hc0 := (hel i hil).2
                have hc := (HWB.out.2.cell (cell_lt hc0)).trans hc0
                have hst := anyT_take r.calling s.T i hil
                have hzt := HSM.out.2.2 _ (List.getElem_mem hil)
                have hzc := HSM.out.1.2
                have hq := fun q x (hx : ByteArray.size x ≤ 140737488351232) => bare_any (wr.drewN q) x hx
                clear hel hc0
                generalize s.T[i] = t at hc hst hzt
                cases hk : anyT r.calling (s.T.take i)
                · have hk2 : anyT r.calling (s.T.take (i + 1)) = ((tmT t).toList == (tmT r.calling).toList) := by
                    rw [hst, hk, Bool.false_or, sameT_comm]
                    rfl
                  go_wp2
                  go_quiet ((go_at_call 33; exact (hq _ _ (by assumption)).mono fun _ _ h => ⟨h.1, drewN2 h.2⟩))
                  have HW2 : Hid (RjR w (wr.drewN nq) (.slice (some ⟨b, off, none⟩) n ccap) r s ∧ Below W2.heap.size W2 (wr.drewN nq)) := ⟨HW.out.dn nq, below_dn HWB.out.2 nq⟩
                  go_wp2
                  go_roundw
                  case rel => exact ⟨i + 1, by go_num, by omega, by rw [hk2], HW2.out⟩
                  case measure => simp [intOf]; omega
                · have hk2 : anyT r.calling (s.T.take (i + 1)) = true := by rw [hst, hk, Bool.true_or]
                  go_wp2
                  go_quiet (fail)
                  have HW2 : Hid (RjR w (wr.drewN nq) (.slice (some ⟨b, off, none⟩) n ccap) r s ∧ Below W2.heap.size W2 (wr.drewN nq)) := ⟨HW.out.dn nq, below_dn HWB.out.2 nq⟩
                  go_wp2
                  go_roundw
                  case rel => exact ⟨i + 1, by go_num, by omega, by rw [hk2], HW2.out⟩
                  case measure => simp [intOf]; omega
              · have hI : ¬ (i : Int) < (n : Int) := by omega
                obtain rfl : i = n := by omega
                have htk : s.T.take i = s.T := List.take_of_length_le (by rw [HN.out]; exact Nat.le_refl _)
                rw [htk]
                have hmb : mayB r.calling s.T = anyT r.calling s.T := by unfold mayB; rw [HN.out, decide_eq_false hn0, Bool.or_false]
                rw [hmb] at ho2
                cases hk : anyT r.calling s.T
                · rw [hk, if_pos rfl] at ho2
                  subst ho2
                  go_wp2_with (go_at_call 32; refine (rreject_any _ 1 1 3).mono ?_; refine Fr.Stop.mk ?_)
                  first | (rintro xr W9 rfl hb9) | (rintro xr W9 ⟨rfl, hb9⟩)
                  have hg9 : W9.heap[w.heap.size + 1 + 1]? = some (.cells Z33 33) := (hb9.block _ (Array.getElem?_eq_some_iff.1 HW.out.z).1).trans HW.out.z
                  have hs := size40' 3 (rjC 1 1 3)
                  have h1 := pd_one 3 (rjC 1 1 3) (rj_one _ _ _)
                  have hl := z33 3 (rjC 1 1 3)
                  have hbl : Below w.heap.size w (W9.setRow (w.heap.size + 1 + 1) (Pd 3 (rjC 1 1 3))) := below_setRow (HW.out.b.trans (hb9.mono HW.out.b.size)) (by omega) _
                  have hh := setRow_heap W9 (w.heap.size + 1 + 1) _ (Pd 3 (rjC 1 1 3)) 33 _ hg9
                  have hld := run_loadVar_row (P := Tryd.prog) _ _ _ 33 _ _ _ hh hu rfl hs
                  obtain ⟨RQ, hRQ⟩ : ∃ RQ, Pd 3 (rjC 1 1 3) = RQ := ⟨_, rfl⟩
                  have HRQ : Hid (Pd 3 (rjC 1 1 3) = RQ) := hRQ
                  rw [hRQ] at hs h1 hl hbl hh hld ⊢
                  clear hRQ hb9 hh
                  go_wp2_with (refine wpList_store_row rfl 33 (.tmp 6) (.tmp 63) rfl (w.heap.size + 1 + 1) RQ rfl rfl 33 _ hg9 hs hl h1 ?_)
                  refine bodyPost_ret (v := .agg RQ) (res_cell (k := 6) Tryd.results16 (by kernel_rfl) hld) rfl ⟨by rw [← HRQ.out]; rfl, hbl⟩
                · rw [hk, if_neg (by decide)] at ho2
                  cases d6 : shortB r.h r.m
                  · rw [d6, if_neg (by decide)] at ho2
                    cases dh : r.h
                    · rw [dh] at y6
                      by_cases d7 : s.lines ≤ busy
                      · rw [if_pos d7] at ho2
                        subst ho2
                        have d7' : busy ≥ s.lines := d7
                        go_wp2_with (go_at_call 32; refine (rreject_any _ 2 3 2).mono ?_; refine Fr.Stop.mk ?_)
                        first | (rintro xr W9 rfl hb9) | (rintro xr W9 ⟨rfl, hb9⟩)
                        have hg9 : W9.heap[w.heap.size + 1 + 1]? = some (.cells Z33 33) := (hb9.block _ (Array.getElem?_eq_some_iff.1 HW.out.z).1).trans HW.out.z
                        have hs := size40' 3 (rjC 2 3 2)
                        have h1 := pd_one 3 (rjC 2 3 2) (rj_one _ _ _)
                        have hl := z33 3 (rjC 2 3 2)
                        have hbl : Below w.heap.size w (W9.setRow (w.heap.size + 1 + 1) (Pd 3 (rjC 2 3 2))) := below_setRow (HW.out.b.trans (hb9.mono HW.out.b.size)) (by omega) _
                        have hh := setRow_heap W9 (w.heap.size + 1 + 1) _ (Pd 3 (rjC 2 3 2)) 33 _ hg9
                        have hld := run_loadVar_row (P := Tryd.prog) _ _ _ 33 _ _ _ hh hu rfl hs
                        obtain ⟨RQ, hRQ⟩ : ∃ RQ, Pd 3 (rjC 2 3 2) = RQ := ⟨_, rfl⟩
                        have HRQ : Hid (Pd 3 (rjC 2 3 2) = RQ) := hRQ
                        rw [hRQ] at hs h1 hl hbl hh hld ⊢
                        clear hRQ hb9 hh
                        go_wp2_with (refine wpList_store_row rfl 33 (.tmp 6) (.tmp 84) rfl (w.heap.size + 1 + 1) RQ rfl rfl 33 _ hg9 hs hl h1 ?_)
                        refine bodyPost_ret (v := .agg RQ) (res_cell (k := 6) Tryd.results16 (by kernel_rfl) hld) rfl ⟨by rw [← HRQ.out]; rfl, hbl⟩
                      · rw [if_neg d7] at ho2
                        subst ho2
                        have d7' : ¬ busy ≥ s.lines := d7
                        have hs := size40' 0 zc
                        have h1 := pd_one 0 zc (by decide)
                        have hl := z33 0 zc
                        have hz0 := pd_zero0
                        have hbl : Below w.heap.size w (wr.setRow (w.heap.size + 1 + 1) (Pd 0 zc)) := below_setRow HW.out.b (by omega) _
                        have hh := setRow_heap wr (w.heap.size + 1 + 1) _ (Pd 0 zc) 33 _ HW.out.z
                        have hld := run_loadVar_row (P := Tryd.prog) _ _ _ 33 _ _ _ hh hu rfl hs
                        have hg3 := HW.out.z
                        obtain ⟨RQ, hRQ⟩ : ∃ RQ, Pd 0 zc = RQ := ⟨_, rfl⟩
                        have HRQ : Hid (Pd 0 zc = RQ) := hRQ
                        rw [hRQ] at hs h1 hl hz0 hbl hh hld
                        clear hRQ hh
                        go_wp2_with (first | (refine step_build rfl 33 _ rfl RQ (by simp [Act.eval]; exact hz0) ?_) | (refine wpList_store_row rfl 33 (.tmp 6) (.tmp 85) rfl (w.heap.size + 1 + 1) RQ rfl rfl 33 _ hg3 hs hl h1 ?_))
                        refine bodyPost_ret (v := .agg RQ) (res_cell (k := 6) Tryd.results16 (by kernel_rfl) hld) rfl ⟨by rw [← HRQ.out]; rfl, hbl⟩
                    · rw [dh] at y6 d6
                      have dm : r.m < 1 ∨ 64 ≤ r.m := by
                        unfold shortB toldN at d6
                        simp at d6
                        omega
                      by_cases dm1 : 1 ≤ r.m
                      · have dm1' : r.m ≥ 1 := dm1
                        have dm2 : ¬ r.m < 64 := by omega
                        by_cases d7 : s.lines ≤ busy
                        · rw [if_pos d7] at ho2
                          subst ho2
                          have d7' : busy ≥ s.lines := d7
                          go_wp2_with (go_at_call 32; refine (rreject_any _ 2 3 2).mono ?_; refine Fr.Stop.mk ?_)
                          first | (rintro xr W9 rfl hb9) | (rintro xr W9 ⟨rfl, hb9⟩)
                          have hg9 : W9.heap[w.heap.size + 1 + 1]? = some (.cells Z33 33) := (hb9.block _ (Array.getElem?_eq_some_iff.1 HW.out.z).1).trans HW.out.z
                          have hs := size40' 3 (rjC 2 3 2)
                          have h1 := pd_one 3 (rjC 2 3 2) (rj_one _ _ _)
                          have hl := z33 3 (rjC 2 3 2)
                          have hbl : Below w.heap.size w (W9.setRow (w.heap.size + 1 + 1) (Pd 3 (rjC 2 3 2))) := below_setRow (HW.out.b.trans (hb9.mono HW.out.b.size)) (by omega) _
                          have hh := setRow_heap W9 (w.heap.size + 1 + 1) _ (Pd 3 (rjC 2 3 2)) 33 _ hg9
                          have hld := run_loadVar_row (P := Tryd.prog) _ _ _ 33 _ _ _ hh hu rfl hs
                          obtain ⟨RQ, hRQ⟩ : ∃ RQ, Pd 3 (rjC 2 3 2) = RQ := ⟨_, rfl⟩
                          have HRQ : Hid (Pd 3 (rjC 2 3 2) = RQ) := hRQ
                          rw [hRQ] at hs h1 hl hbl hh hld ⊢
                          clear hRQ hb9 hh
                          go_wp2_with (refine wpList_store_row rfl 33 (.tmp 6) (.tmp 84) rfl (w.heap.size + 1 + 1) RQ rfl rfl 33 _ hg9 hs hl h1 ?_)
                          refine bodyPost_ret (v := .agg RQ) (res_cell (k := 6) Tryd.results16 (by kernel_rfl) hld) rfl ⟨by rw [← HRQ.out]; rfl, hbl⟩
                        · rw [if_neg d7] at ho2
                          subst ho2
                          have d7' : ¬ busy ≥ s.lines := d7
                          have hs := size40' 0 zc
                          have h1 := pd_one 0 zc (by decide)
                          have hl := z33 0 zc
                          have hz0 := pd_zero0
                          have hbl : Below w.heap.size w (wr.setRow (w.heap.size + 1 + 1) (Pd 0 zc)) := below_setRow HW.out.b (by omega) _
                          have hh := setRow_heap wr (w.heap.size + 1 + 1) _ (Pd 0 zc) 33 _ HW.out.z
                          have hld := run_loadVar_row (P := Tryd.prog) _ _ _ 33 _ _ _ hh hu rfl hs
                          have hg3 := HW.out.z
                          obtain ⟨RQ, hRQ⟩ : ∃ RQ, Pd 0 zc = RQ := ⟨_, rfl⟩
                          have HRQ : Hid (Pd 0 zc = RQ) := hRQ
                          rw [hRQ] at hs h1 hl hz0 hbl hh hld
                          clear hRQ hh
                          go_wp2_with (first | (refine step_build rfl 33 _ rfl RQ (by simp [Act.eval]; exact hz0) ?_) | (refine wpList_store_row rfl 33 (.tmp 6) (.tmp 85) rfl (w.heap.size + 1 + 1) RQ rfl rfl 33 _ hg3 hs hl h1 ?_))
                          refine bodyPost_ret (v := .agg RQ) (res_cell (k := 6) Tryd.results16 (by kernel_rfl) hld) rfl ⟨by rw [← HRQ.out]; rfl, hbl⟩
                      · have dm1' : ¬ r.m ≥ 1 := dm1
                        by_cases d7 : s.lines ≤ busy
                        · rw [if_pos d7] at ho2
                          subst ho2
                          have d7' : busy ≥ s.lines := d7
                          go_wp2_with (go_at_call 32; refine (rreject_any _ 2 3 2).mono ?_; refine Fr.Stop.mk ?_)
                          first | (rintro xr W9 rfl hb9) | (rintro xr W9 ⟨rfl, hb9⟩)
                          have hg9 : W9.heap[w.heap.size + 1 + 1]? = some (.cells Z33 33) := (hb9.block _ (Array.getElem?_eq_some_iff.1 HW.out.z).1).trans HW.out.z
                          have hs := size40' 3 (rjC 2 3 2)
                          have h1 := pd_one 3 (rjC 2 3 2) (rj_one _ _ _)
                          have hl := z33 3 (rjC 2 3 2)
                          have hbl : Below w.heap.size w (W9.setRow (w.heap.size + 1 + 1) (Pd 3 (rjC 2 3 2))) := below_setRow (HW.out.b.trans (hb9.mono HW.out.b.size)) (by omega) _
                          have hh := setRow_heap W9 (w.heap.size + 1 + 1) _ (Pd 3 (rjC 2 3 2)) 33 _ hg9
                          have hld := run_loadVar_row (P := Tryd.prog) _ _ _ 33 _ _ _ hh hu rfl hs
                          obtain ⟨RQ, hRQ⟩ : ∃ RQ, Pd 3 (rjC 2 3 2) = RQ := ⟨_, rfl⟩
                          have HRQ : Hid (Pd 3 (rjC 2 3 2) = RQ) := hRQ
                          rw [hRQ] at hs h1 hl hbl hh hld ⊢
                          clear hRQ hb9 hh
                          go_wp2_with (refine wpList_store_row rfl 33 (.tmp 6) (.tmp 84) rfl (w.heap.size + 1 + 1) RQ rfl rfl 33 _ hg9 hs hl h1 ?_)
                          refine bodyPost_ret (v := .agg RQ) (res_cell (k := 6) Tryd.results16 (by kernel_rfl) hld) rfl ⟨by rw [← HRQ.out]; rfl, hbl⟩
                        · rw [if_neg d7] at ho2
                          subst ho2
                          have d7' : ¬ busy ≥ s.lines := d7
                          have hs := size40' 0 zc
                          have h1 := pd_one 0 zc (by decide)
                          have hl := z33 0 zc
                          have hz0 := pd_zero0
                          have hbl : Below w.heap.size w (wr.setRow (w.heap.size + 1 + 1) (Pd 0 zc)) := below_setRow HW.out.b (by omega) _
                          have hh := setRow_heap wr (w.heap.size + 1 + 1) _ (Pd 0 zc) 33 _ HW.out.z
                          have hld := run_loadVar_row (P := Tryd.prog) _ _ _ 33 _ _ _ hh hu rfl hs
                          have hg3 := HW.out.z
                          obtain ⟨RQ, hRQ⟩ : ∃ RQ, Pd 0 zc = RQ := ⟨_, rfl⟩
                          have HRQ : Hid (Pd 0 zc = RQ) := hRQ
                          rw [hRQ] at hs h1 hl hz0 hbl hh hld
                          clear hRQ hh
                          go_wp2_with (first | (refine step_build rfl 33 _ rfl RQ (by simp [Act.eval]; exact hz0) ?_) | (refine wpList_store_row rfl 33 (.tmp 6) (.tmp 85) rfl (w.heap.size + 1 + 1) RQ rfl rfl 33 _ hg3 hs hl h1 ?_))
                          refine bodyPost_ret (v := .agg RQ) (res_cell (k := 6) Tryd.results16 (by kernel_rfl) hld) rfl ⟨by rw [← HRQ.out]; rfl, hbl⟩
                  · rw [d6, if_pos rfl] at ho2
                    subst ho2
                    have dh : r.h = true ∧ 1 ≤ r.m ∧ r.m < 64 := by
                      unfold shortB toldN at d6
                      cases h : r.h
                      · rw [h] at d6; simp at d6
                      · rw [h] at d6; simp at d6; exact ⟨rfl, by omega, by omega⟩
                    obtain ⟨dh, dm1, dm2⟩ := dh
                    have dm1' : r.m ≥ 1 := dm1
                    rw [dh] at y6
                    go_wp2_with (go_at_call 32; refine (rreject_any _ 1 1 1).mono ?_; refine Fr.Stop.mk ?_)
                    first | (rintro xr W9 rfl hb9) | (rintro xr W9 ⟨rfl, hb9⟩)
                    have hg9 : W9.heap[w.heap.size + 1 + 1]? = some (.cells Z33 33) := (hb9.block _ (Array.getElem?_eq_some_iff.1 HW.out.z).1).trans HW.out.z
                    have hs := size40' 3 (rjC 1 1 1)
                    have h1 := pd_one 3 (rjC 1 1 1) (rj_one _ _ _)
                    have hl := z33 3 (rjC 1 1 1)
                    have hbl : Below w.heap.size w (W9.setRow (w.heap.size + 1 + 1) (Pd 3 (rjC 1 1 1))) := below_setRow (HW.out.b.trans (hb9.mono HW.out.b.size)) (by omega) _
                    have hh := setRow_heap W9 (w.heap.size + 1 + 1) _ (Pd 3 (rjC 1 1 1)) 33 _ hg9
                    have hld := run_loadVar_row (P := Tryd.prog) _ _ _ 33 _ _ _ hh hu rfl hs
                    obtain ⟨RQ, hRQ⟩ : ∃ RQ, Pd 3 (rjC 1 1 1) = RQ := ⟨_, rfl⟩
                    have HRQ : Hid (Pd 3 (rjC 1 1 1) = RQ) := hRQ
                    rw [hRQ] at hs h1 hl hbl hh hld ⊢
                    clear hRQ hb9 hh
                    go_wp2_with (refine wpList_store_row rfl 33 (.tmp 6) (.tmp 79) rfl (w.heap.size + 1 + 1) RQ rfl rfl 33 _ hg9 hs hl h1 ?_)
                    refine bodyPost_ret (v := .agg RQ) (res_cell (k := 6) Tryd.results16 (by kernel_rfl) hld) rfl ⟨by rw [← HRQ.out]; rfl, hbl⟩
  · rw [if_pos (.inl d1)] at ho2
    subst ho2
    have d1' : (r.k != 1) = true := by simpa using d1
    go_wp2_with (go_at_call 32; refine (rreject_any _ 1 2 2).mono ?_; refine Fr.Stop.mk ?_)
    first | (rintro xr W9 rfl hb9) | (rintro xr W9 ⟨rfl, hb9⟩)
    have hg9 : W9.heap[w.heap.size + 1 + 1]? = some (.cells Z33 33) := (hb9.block _ (Array.getElem?_eq_some_iff.1 HW.out.z).1).trans HW.out.z
    have hs := size40' 3 (rjC 1 2 2)
    have h1 := pd_one 3 (rjC 1 2 2) (rj_one _ _ _)
    have hl := z33 3 (rjC 1 2 2)
    have hbl : Below w.heap.size w (W9.setRow (w.heap.size + 1 + 1) (Pd 3 (rjC 1 2 2))) := below_setRow (HW.out.b.trans (hb9.mono HW.out.b.size)) (by omega) _
    have hh := setRow_heap W9 (w.heap.size + 1 + 1) _ (Pd 3 (rjC 1 2 2)) 33 _ hg9
    have hld := run_loadVar_row (P := Tryd.prog) _ _ _ 33 _ _ _ hh hu rfl hs
    obtain ⟨RQ, hRQ⟩ : ∃ RQ, Pd 3 (rjC 1 2 2) = RQ := ⟨_, rfl⟩
    have HRQ : Hid (Pd 3 (rjC 1 2 2) = RQ) := hRQ
    rw [hRQ] at hs h1 hl hbl hh hld ⊢
    clear hRQ hb9 hh
    go_wp2_with (refine wpList_store_row rfl 33 (.tmp 6) (.tmp 22) rfl (w.heap.size + 1 + 1) RQ rfl rfl 33 _ hg9 hs hl h1 ?_)
    refine bodyPost_ret (v := .agg RQ) (res_cell (k := 6) Tryd.results16 (by kernel_rfl) hld) rfl ⟨by rw [← HRQ.out]; rfl, hbl⟩
end Go.Proofs.YtnamkcfmbefkfaaDoor
