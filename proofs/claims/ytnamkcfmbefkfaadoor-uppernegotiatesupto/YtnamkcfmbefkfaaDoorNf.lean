import Derived.Test.YtnamkcfmbefkfaaDoorNe
/-
  DERIVED. Is a request rejected? The program's.
-/
namespace Go.Proofs.YtnamkcfmbefkfaaDoor
open Go Go.Proofs Go.RowKit

theorem res_two {P : Program} {fn : Func} {tmps : Array Value} {t : TypeId} {k j : Nat} {ad : Addr} {W : World} {v u : Value} (hr : fn.results = #[.cell k t, .tmp j]) (h0 : tmps.getD k undef = .pointer (some ad)) (hl : (loadVar t ad).run P W = .ok v W) (hj : tmps.getD j undef = u) : (results fn tmps).run P W = .ok (.tuple #[v, u]) W := by
  have h0' : tmps[k]?.getD undef = .pointer (some ad) := by simpa using h0
  have hj' : tmps[j]?.getD undef = u := by simpa using hj
  simp [results, hr, asAddr, h0', hl, hj']
theorem res_five {P : Program} {fn : Func} {tmps : Array Value} {t t2 : TypeId} {k k2 j1 j2 j3 : Nat} {ad ad2 : Addr} {W : World} {v v2 u1 u2 u3 : Value} (hr : fn.results = #[.cell k t, .tmp j1, .tmp j2, .cell k2 t2, .tmp j3]) (h0 : tmps.getD k undef = .pointer (some ad)) (hl : (loadVar t ad).run P W = .ok v W) (h1 : tmps.getD j1 undef = u1) (h2 : tmps.getD j2 undef = u2) (h3 : tmps.getD k2 undef = .pointer (some ad2)) (hl2 : (loadVar t2 ad2).run P W = .ok v2 W) (h4 : tmps.getD j3 undef = u3) : (results fn tmps).run P W = .ok (.tuple #[v, u1, u2, v2, u3]) W := by
  have h0' : tmps[k]?.getD undef = .pointer (some ad) := by simpa using h0
  have h1' : tmps[j1]?.getD undef = u1 := by simpa using h1
  have h2' : tmps[j2]?.getD undef = u2 := by simpa using h2
  have h3' : tmps[k2]?.getD undef = .pointer (some ad2) := by simpa using h3
  have h4' : tmps[j3]?.getD undef = u3 := by simpa using h4
  simp [results, hr, asAddr, h0', hl, h1', h2', h3', hl2, h4']
/-- What is asked for. -/
structure RqD where
  k : Int
  ver : Nat
  called : ByteArray
  calling : ByteArray
  app : ByteArray
  h : Bool
  m : Int
/-- The server. -/
structure SvD where
  title : ByteArray
  T : List ByteArray
  lines : Int
/-- Why a request is rejected. -/
def rejO (r : RqD) (s : SvD) (busy : Int) : Option (Int × Int × Int) :=
  if r.k ≠ 1 ∨ r.ver % 2 = 0 then some (1, 2, 2) else if (r.app.toList == [49, 46, 50, 46, 56, 52, 48, 46, 49, 48, 48, 48, 56, 46, 51, 46, 49, 46, 49, 46, 49]) = false then some (1, 1, 2) else if sameT r.called s.title = false then some (1, 1, 7) else if mayB r.calling s.T = false then some (1, 1, 3)
  else if shortB r.h r.m = true then some (1, 1, 1) else if s.lines ≤ busy then some (2, 3, 2) else none
def rjK (o : Option (Int × Int × Int)) : Int := if o.isSome then 3 else 0
def rjF : Option (Int × Int × Int) → Fin 18 → Value
  | some (a, b, c) => rjC a b c
  | none => zc
/-- A request lies there. -/
structure RqAt (w : World) (e : Nat) (k : Int) (c : Fin 18 → Value) (r : RqD) : Prop where
  row : w.heap[e]? = some (.cells (Pd k c) 33)
  vl : r.ver < 65536
  k : k = r.k
  c0 : c 0 = .int .u16 (r.ver : Int)
  c1 : c 1 = .string r.called
  c2 : c 2 = .string r.calling
  c3 : c 3 = .string r.app
  c5 : c 5 = .bool r.h
  c6 : c 6 = .int .u32 r.m
/-- A server's configuration lies there. -/
structure SvAt (w : World) (g : Nat) (cv : Value) (s : SvD) : Prop where
  row : ∃ a1 a2, w.heap[g]? = some (.cells #[.string s.title, cv, .int .i64 s.lines, a1, a2] 36)
  T : TR w cv s.T
theorem below_dn {B : Nat} {a w : World} (h : Below B a w) (q : Nat) : Below B a (w.drewN q) := h.trans ⟨rfl, rfl, rfl, Nat.le_refl _, fun _ _ => rfl⟩
theorem bits_one (a : Nat) (ha : a < 65536) : bits .and .u16 (a : Int) 1 = ((a % 2 : Nat) : Int) := by
  have h1 : (BitVec.ofInt 16 (a : Int)).toNat = a := by
    rw [BitVec.ofInt_natCast, BitVec.toNat_ofNat]; exact Nat.mod_eq_of_lt (by omega)
  show IntKind.u16.wrap ((BitVec.ofInt 16 (a : Int) &&& BitVec.ofInt 16 1).toNat : Int) = _
  rw [BitVec.toNat_and, h1, show (BitVec.ofInt 16 1).toNat = 1 from by decide, Nat.and_one_is_mod]
  unfold IntKind.wrap
  simp [IntKind.bits, IntKind.signed]
  omega
/-- What stands while it is asked whether a request is rejected. -/
structure RjW (w W : World) (e g : Nat) (cv : Value) (r : RqD) (s : SvD) : Prop where
  b : Below w.heap.size w W
  z : W.heap[w.heap.size]? = some (.cells Z33 33)
  y0 : W.cell? ⟨e, 0, none⟩ = some (.int .i64 r.k)
  y1 : W.cell? ⟨e, 1, none⟩ = some (.int .u16 (r.ver : Int))
  y2 : W.cell? ⟨e, 2, none⟩ = some (.string r.called)
  y3 : W.cell? ⟨e, 3, none⟩ = some (.string r.calling)
  y4 : W.cell? ⟨e, 4, none⟩ = some (.string r.app)
  y6 : W.cell? ⟨e, 6, none⟩ = some (.bool r.h)
  y7 : W.cell? ⟨e, 6 + 1, none⟩ = some (.int .u32 r.m)
  x0 : W.cell? ⟨g, 0, none⟩ = some (.string s.title)
  x1 : W.cell? ⟨g, 1, none⟩ = some cv
  x2 : W.cell? ⟨g, 2, none⟩ = some (.int .i64 s.lines)
  T : TR W cv s.T
theorem RjW.dn {w W : World} {e g : Nat} {cv : Value} {r : RqD} {s : SvD} (h : RjW w W e g cv r s) (q : Nat) : RjW w (W.drewN q) e g cv r s :=
  ⟨below_dn h.b q, h.z, h.y0, h.y1, h.y2, h.y3, h.y4, h.y6, h.y7, h.x0, h.x1, h.x2, tr_drew h.T q⟩
def RqSm (r : RqD) (s : SvD) : Prop := (r.called.size ≤ 140737488351232 ∧ r.calling.size ≤ 140737488351232) ∧ s.title.size ≤ 140737488351232 ∧ ∀ x ∈ s.T, x.size ≤ 140737488351232
theorem RqAt.on {w w' : World} {e : Nat} {k : Int} {c : Fin 18 → Value} {r : RqD} (h : RqAt w e k c r) (hb : w'.heap[e]? = w.heap[e]?) : RqAt w' e k c r := ⟨hb.trans h.row, h.vl, h.k, h.c0, h.c1, h.c2, h.c3, h.c5, h.c6⟩
theorem SvAt.on {w w' : World} {g : Nat} {cv : Value} {s : SvD} (h : SvAt w g cv s) (hb : Below w.heap.size w w') : SvAt w' g cv s := by
  obtain ⟨⟨a1, a2, h1⟩, h2⟩ := h
  exact ⟨⟨a1, a2, (hb.block g (Array.getElem?_eq_some_iff.1 h1).1).trans h1⟩, h2.on hb⟩
set_option maxRecDepth 100000 in
set_option maxHeartbeats 4000000 in
theorem rejection_any (w : World) (e g : Nat) (k : Int) (c : Fin 18 → Value) (cv : Value) (r : RqD) (s : SvD) (busy : Int) (hR : RqAt w e k c r) (hS : SvAt w g cv s) (hsm : RqSm r s) :
    Calls Tryd.prog 12 #[.pointer (some ⟨e, 0, none⟩), .pointer (some ⟨g, 0, none⟩), .int .i64 busy] w fun x w' => x = .returned (.tuple #[.agg (Pd (rjK (rejO r s busy)) (rjF (rejO r s busy))), .bool (rejO r s busy).isSome]) ∧ Below w.heap.size w w' := by
  obtain ⟨fs, hu⟩ := hu33
  obtain ⟨W1, hW1⟩ : ∃ W1, w.alloc (.cells #[.int .i64 0, .int .u16 0, .string ⟨#[]⟩, .string ⟨#[]⟩, .string ⟨#[]⟩, .slice none 0 0, .bool false, .int .u32 0, .string ⟨#[]⟩, .string ⟨#[]⟩, .bool false, .int .u16 0, .int .u16 0, .slice none 0 0, .slice none 0 0, .int .u8 0, .int .u8 0, .int .u8 0, .slice none 0 0] 33) = W1 := ⟨_, rfl⟩
  have hb1 : Below w.heap.size w W1 := hW1 ▸ (Below.refl _ _).alloc (Nat.le_refl _) _
  have hg1 : ∀ q, (W1.drewN q).heap[w.heap.size]? = some (.cells Z33 33) := fun q => hW1 ▸ alloc_new w _
  have hR1 : RqAt W1 e k c r := hR.on (hb1.block e (Array.getElem?_eq_some_iff.1 hR.row).1)
  have hS1 : SvAt W1 g cv s := hS.on hb1
  have y0 : W1.cell? ⟨e, 0, none⟩ = some (.int .i64 r.k) := by rw [cell_of_row W1 _ _ _ _ _ hR1.row, ← hR.k]; rfl
  have y1 : W1.cell? ⟨e, 1, none⟩ = some (.int .u16 (r.ver : Int)) := by rw [cell_of_row W1 _ _ _ _ _ hR1.row, ← hR.c0]; rfl
  have y2 : W1.cell? ⟨e, 2, none⟩ = some (.string r.called) := by rw [cell_of_row W1 _ _ _ _ _ hR1.row, ← hR.c1]; rfl
  have y3 : W1.cell? ⟨e, 3, none⟩ = some (.string r.calling) := by rw [cell_of_row W1 _ _ _ _ _ hR1.row, ← hR.c2]; rfl
  have y4 : W1.cell? ⟨e, 4, none⟩ = some (.string r.app) := by rw [cell_of_row W1 _ _ _ _ _ hR1.row, ← hR.c3]; rfl
  have y6 : W1.cell? ⟨e, 6, none⟩ = some (.bool r.h) := by rw [cell_of_row W1 _ _ _ _ _ hR1.row, ← hR.c5]; rfl
  have y7 : W1.cell? ⟨e, 6 + 1, none⟩ = some (.int .u32 r.m) := by rw [cell_of_row W1 _ _ _ _ _ hR1.row, ← hR.c6]; rfl
  obtain ⟨⟨a1, a2, hgr⟩, hTR⟩ := hS1
  have x0 : W1.cell? ⟨g, 0, none⟩ = some (.string s.title) := by rw [cell_of_row W1 _ _ _ _ _ hgr]; rfl
  have x1 : W1.cell? ⟨g, 1, none⟩ = some cv := by rw [cell_of_row W1 _ _ _ _ _ hgr]; rfl
  have x2 : W1.cell? ⟨g, 2, none⟩ = some (.int .i64 s.lines) := by rw [cell_of_row W1 _ _ _ _ _ hgr]; rfl
  have HW : Hid (RjW w W1 e g cv r s) := ⟨hb1, hg1 0, y0, y1, y2, y3, y4, y6, y7, x0, x1, x2, hTR⟩
  have HSM : Hid (RqSm r s) := hsm
  have hbo := bits_one r.ver hR.vl
  clear hR hR1 hS hsm hgr hTR hb1 y0 y1 y2 y3 y4 y6 y7 x0 x1 x2 hg1
  obtain ⟨o, ho⟩ : ∃ o, rejO r s busy = o := ⟨_, rfl⟩
  rw [ho]
  unfold rejO at ho
  by_cases d1 : r.k = 1
  · by_cases d2 : r.ver % 2 = 0
    · rw [if_pos (.inr d2)] at ho
      subst ho
      have d2' : ((r.ver % 2 : Nat) : Int) = 0 := by omega
      obtain ⟨-, -, y0, y1, y2, y3, y4, y6, y7, x0, x1, x2, -⟩ := HW.out
      go_enter Tryd.func12, Tryd.ntmps12
      go_wp2_with (go_at_call 25; refine (rejected_any _ 1 2 2).mono ?_; refine Fr.Stop.mk ?_)
      rintro xr W9 ⟨rfl, hb3⟩
      have hg3 : W9.heap[w.heap.size]? = some (.cells Z33 33) := (hb3.block _ (Array.getElem?_eq_some_iff.1 HW.out.z).1).trans HW.out.z
      have hs := size40' 3 (rjC 1 2 2)
      have h1 := pd_one 3 (rjC 1 2 2) (rj_one _ _ _)
      have hl := z33 3 (rjC 1 2 2)
      have hbl : Below w.heap.size w (W9.setRow w.heap.size (Pd 3 (rjC 1 2 2))) := below_setRow (HW.out.b.trans (hb3.mono HW.out.b.size)) (Nat.le_refl _) _
      have hh := setRow_heap W9 w.heap.size _ (Pd 3 (rjC 1 2 2)) 33 _ hg3
      have hld := run_loadVar_row (P := Tryd.prog) _ _ _ 33 _ _ _ hh hu rfl hs
      obtain ⟨RQ, hRQ⟩ : ∃ RQ, Pd 3 (rjC 1 2 2) = RQ := ⟨_, rfl⟩
      have HRQ : Hid (Pd 3 (rjC 1 2 2) = RQ) := hRQ
      rw [hRQ] at hs h1 hl hbl hh hld ⊢
      clear hRQ hb3 hh
      go_wp2_with (refine wpList_store_row rfl 33 (.tmp 6) (.tmp 26) rfl w.heap.size RQ rfl rfl 33 _ hg3 hs hl h1 ?_)
      refine bodyPost_ret (v := .tuple #[.agg RQ, .bool true]) (res_two Tryd.results12 (by kernel_rfl) hld (by kernel_rfl)) rfl ⟨by rw [← HRQ.out]; rfl, hbl⟩
    · rw [if_neg (fun h => h.elim (fun h => h d1) d2)] at ho
      have d2' : ¬ ((r.ver % 2 : Nat) : Int) = 0 := by omega
      cases d3 : (r.app.toList == [49, 46, 50, 46, 56, 52, 48, 46, 49, 48, 48, 48, 56, 46, 51, 46, 49, 46, 49, 46, 49])
      · rw [d3, if_pos rfl] at ho
        subst ho
        obtain ⟨-, -, y0, y1, y2, y3, y4, y6, y7, x0, x1, x2, -⟩ := HW.out
        go_enter Tryd.func12, Tryd.ntmps12
        go_wp2_with (go_at_call 25; refine (rejected_any _ 1 1 2).mono ?_; refine Fr.Stop.mk ?_)
        rintro xr W9 ⟨rfl, hb3⟩
        have hg3 : W9.heap[w.heap.size]? = some (.cells Z33 33) := (hb3.block _ (Array.getElem?_eq_some_iff.1 HW.out.z).1).trans HW.out.z
        have hs := size40' 3 (rjC 1 1 2)
        have h1 := pd_one 3 (rjC 1 1 2) (rj_one _ _ _)
        have hl := z33 3 (rjC 1 1 2)
        have hbl : Below w.heap.size w (W9.setRow w.heap.size (Pd 3 (rjC 1 1 2))) := below_setRow (HW.out.b.trans (hb3.mono HW.out.b.size)) (Nat.le_refl _) _
        have hh := setRow_heap W9 w.heap.size _ (Pd 3 (rjC 1 1 2)) 33 _ hg3
        have hld := run_loadVar_row (P := Tryd.prog) _ _ _ 33 _ _ _ hh hu rfl hs
        obtain ⟨RQ, hRQ⟩ : ∃ RQ, Pd 3 (rjC 1 1 2) = RQ := ⟨_, rfl⟩
        have HRQ : Hid (Pd 3 (rjC 1 1 2) = RQ) := hRQ
        rw [hRQ] at hs h1 hl hbl hh hld ⊢
        clear hRQ hb3 hh
        go_wp2_with (refine wpList_store_row rfl 33 (.tmp 6) (.tmp 33) rfl w.heap.size RQ rfl rfl 33 _ hg3 hs hl h1 ?_)
        refine bodyPost_ret (v := .tuple #[.agg RQ, .bool true]) (res_two Tryd.results12 (by kernel_rfl) hld (by kernel_rfl)) rfl ⟨by rw [← HRQ.out]; rfl, hbl⟩
      · rw [d3, if_neg (by decide)] at ho
        cases d4 : sameT r.called s.title
        · rw [d4, if_pos rfl] at ho
          subst ho
          have hq6 := fun q => sameT_any (W1.drewN q) r.called s.title HSM.out.1.1 HSM.out.2.1
          rw [d4] at hq6
          obtain ⟨-, -, y0, y1, y2, y3, y4, y6, y7, x0, x1, x2, -⟩ := HW.out
          go_enter Tryd.func12, Tryd.ntmps12
          go_wp2
          go_quiet ((go_at_call 26; exact (hq6 _).mono fun _ _ h => ⟨h.1, drewN2 h.2⟩))
          have HW2 : Hid (RjW w (W1.drewN nq) e g cv r s) := HW.out.dn nq
          clear HW hq6 y0 y1 y2 y3 y4 y6 y7 x0 x1 x2 hW1
          generalize W1.drewN nq = W2 at HW2 ⊢
          have HW := HW2
          clear HW2
          obtain ⟨-, -, y0, y1, y2, y3, y4, y6, y7, x0, x1, x2, -⟩ := HW.out
          go_wp2_with (go_at_call 25; refine (rejected_any _ 1 1 7).mono ?_; refine Fr.Stop.mk ?_)
          rintro xr W9 ⟨rfl, hb3⟩
          have hg3 : W9.heap[w.heap.size]? = some (.cells Z33 33) := (hb3.block _ (Array.getElem?_eq_some_iff.1 HW.out.z).1).trans HW.out.z
          have hs := size40' 3 (rjC 1 1 7)
          have h1 := pd_one 3 (rjC 1 1 7) (rj_one _ _ _)
          have hl := z33 3 (rjC 1 1 7)
          have hbl : Below w.heap.size w (W9.setRow w.heap.size (Pd 3 (rjC 1 1 7))) := below_setRow (HW.out.b.trans (hb3.mono HW.out.b.size)) (Nat.le_refl _) _
          have hh := setRow_heap W9 w.heap.size _ (Pd 3 (rjC 1 1 7)) 33 _ hg3
          have hld := run_loadVar_row (P := Tryd.prog) _ _ _ 33 _ _ _ hh hu rfl hs
          obtain ⟨RQ, hRQ⟩ : ∃ RQ, Pd 3 (rjC 1 1 7) = RQ := ⟨_, rfl⟩
          have HRQ : Hid (Pd 3 (rjC 1 1 7) = RQ) := hRQ
          rw [hRQ] at hs h1 hl hbl hh hld ⊢
          clear hRQ hb3 hh
          go_wp2_with (refine wpList_store_row rfl 33 (.tmp 6) (.tmp 45) rfl w.heap.size RQ rfl rfl 33 _ hg3 hs hl h1 ?_)
          refine bodyPost_ret (v := .tuple #[.agg RQ, .bool true]) (res_two Tryd.results12 (by kernel_rfl) hld (by kernel_rfl)) rfl ⟨by rw [← HRQ.out]; rfl, hbl⟩
        · rw [d4, if_neg (by decide)] at ho
          cases d5 : mayB r.calling s.T
          · rw [d5, if_pos rfl] at ho
            subst ho
            have hq6 := fun q => sameT_any (W1.drewN q) r.called s.title HSM.out.1.1 HSM.out.2.1
            rw [d4] at hq6
            obtain ⟨-, -, y0, y1, y2, y3, y4, y6, y7, x0, x1, x2, -⟩ := HW.out
            go_enter Tryd.func12, Tryd.ntmps12
            go_wp2
            go_quiet ((go_at_call 26; exact (hq6 _).mono fun _ _ h => ⟨h.1, drewN2 h.2⟩))
            have HW2 : Hid (RjW w (W1.drewN nq) e g cv r s) := HW.out.dn nq
            clear HW hq6 y0 y1 y2 y3 y4 y6 y7 x0 x1 x2 hW1
            generalize W1.drewN nq = W2 at HW2 ⊢
            have HW := HW2
            clear HW2
            obtain ⟨-, -, y0, y1, y2, y3, y4, y6, y7, x0, x1, x2, -⟩ := HW.out
            have hq8 := fun q => mayCall_any (W2.drewN q) r.calling s.T cv (tr_drew HW.out.T q) HSM.out.1.2 HSM.out.2.2
            rw [d5] at hq8
            go_wp2
            go_quiet ((go_at_call 27; exact (hq8 _).mono fun _ _ h => ⟨h.1, drewN2 h.2⟩))
            have HW2 : Hid (RjW w (W2.drewN nq) e g cv r s) := HW.out.dn nq
            clear HW hq8 y0 y1 y2 y3 y4 y6 y7 x0 x1 x2
            generalize W2.drewN nq = W3 at HW2 ⊢
            have HW := HW2
            clear HW2
            obtain ⟨-, -, y0, y1, y2, y3, y4, y6, y7, x0, x1, x2, -⟩ := HW.out
            go_wp2_with (go_at_call 25; refine (rejected_any _ 1 1 3).mono ?_; refine Fr.Stop.mk ?_)
            rintro xr W9 ⟨rfl, hb3⟩
            have hg3 : W9.heap[w.heap.size]? = some (.cells Z33 33) := (hb3.block _ (Array.getElem?_eq_some_iff.1 HW.out.z).1).trans HW.out.z
            have hs := size40' 3 (rjC 1 1 3)
            have h1 := pd_one 3 (rjC 1 1 3) (rj_one _ _ _)
            have hl := z33 3 (rjC 1 1 3)
            have hbl : Below w.heap.size w (W9.setRow w.heap.size (Pd 3 (rjC 1 1 3))) := below_setRow (HW.out.b.trans (hb3.mono HW.out.b.size)) (Nat.le_refl _) _
            have hh := setRow_heap W9 w.heap.size _ (Pd 3 (rjC 1 1 3)) 33 _ hg3
            have hld := run_loadVar_row (P := Tryd.prog) _ _ _ 33 _ _ _ hh hu rfl hs
            obtain ⟨RQ, hRQ⟩ : ∃ RQ, Pd 3 (rjC 1 1 3) = RQ := ⟨_, rfl⟩
            have HRQ : Hid (Pd 3 (rjC 1 1 3) = RQ) := hRQ
            rw [hRQ] at hs h1 hl hbl hh hld ⊢
            clear hRQ hb3 hh
            go_wp2_with (refine wpList_store_row rfl 33 (.tmp 6) (.tmp 57) rfl w.heap.size RQ rfl rfl 33 _ hg3 hs hl h1 ?_)
            refine bodyPost_ret (v := .tuple #[.agg RQ, .bool true]) (res_two Tryd.results12 (by kernel_rfl) hld (by kernel_rfl)) rfl ⟨by rw [← HRQ.out]; rfl, hbl⟩
          · rw [d5, if_neg (by decide)] at ho
            cases d6 : shortB r.h r.m
            · rw [d6, if_neg (by decide)] at ho
              by_cases d7 : s.lines ≤ busy
              · rw [if_pos d7] at ho
                subst ho
                have d7' : busy ≥ s.lines := d7
                have hq6 := fun q => sameT_any (W1.drewN q) r.called s.title HSM.out.1.1 HSM.out.2.1
                rw [d4] at hq6
                obtain ⟨-, -, y0, y1, y2, y3, y4, y6, y7, x0, x1, x2, -⟩ := HW.out
                go_enter Tryd.func12, Tryd.ntmps12
                go_wp2
                go_quiet ((go_at_call 26; exact (hq6 _).mono fun _ _ h => ⟨h.1, drewN2 h.2⟩))
                have HW2 : Hid (RjW w (W1.drewN nq) e g cv r s) := HW.out.dn nq
                clear HW hq6 y0 y1 y2 y3 y4 y6 y7 x0 x1 x2 hW1
                generalize W1.drewN nq = W2 at HW2 ⊢
                have HW := HW2
                clear HW2
                obtain ⟨-, -, y0, y1, y2, y3, y4, y6, y7, x0, x1, x2, -⟩ := HW.out
                have hq8 := fun q => mayCall_any (W2.drewN q) r.calling s.T cv (tr_drew HW.out.T q) HSM.out.1.2 HSM.out.2.2
                rw [d5] at hq8
                go_wp2
                go_quiet ((go_at_call 27; exact (hq8 _).mono fun _ _ h => ⟨h.1, drewN2 h.2⟩))
                have HW2 : Hid (RjW w (W2.drewN nq) e g cv r s) := HW.out.dn nq
                clear HW hq8 y0 y1 y2 y3 y4 y6 y7 x0 x1 x2
                generalize W2.drewN nq = W3 at HW2 ⊢
                have HW := HW2
                clear HW2
                obtain ⟨-, -, y0, y1, y2, y3, y4, y6, y7, x0, x1, x2, -⟩ := HW.out
                have hq10 := short_any W3 e 6 r.h r.m y6 y7
                rw [d6] at hq10
                go_wp2_with (first | (go_at_call 28; refine hq10.mono ?_; rintro _ _ ⟨rfl, rfl⟩) | (go_at_call 25; refine (rejected_any _ 2 3 2).mono ?_; refine Fr.Stop.mk ?_))
                rintro xr W9 ⟨rfl, hb3⟩
                have hg3 : W9.heap[w.heap.size]? = some (.cells Z33 33) := (hb3.block _ (Array.getElem?_eq_some_iff.1 HW.out.z).1).trans HW.out.z
                have hs := size40' 3 (rjC 2 3 2)
                have h1 := pd_one 3 (rjC 2 3 2) (rj_one _ _ _)
                have hl := z33 3 (rjC 2 3 2)
                have hbl : Below w.heap.size w (W9.setRow w.heap.size (Pd 3 (rjC 2 3 2))) := below_setRow (HW.out.b.trans (hb3.mono HW.out.b.size)) (Nat.le_refl _) _
                have hh := setRow_heap W9 w.heap.size _ (Pd 3 (rjC 2 3 2)) 33 _ hg3
                have hld := run_loadVar_row (P := Tryd.prog) _ _ _ 33 _ _ _ hh hu rfl hs
                obtain ⟨RQ, hRQ⟩ : ∃ RQ, Pd 3 (rjC 2 3 2) = RQ := ⟨_, rfl⟩
                have HRQ : Hid (Pd 3 (rjC 2 3 2) = RQ) := hRQ
                rw [hRQ] at hs h1 hl hbl hh hld ⊢
                clear hRQ hb3 hh
                go_wp2_with (refine wpList_store_row rfl 33 (.tmp 6) (.tmp 71) rfl w.heap.size RQ rfl rfl 33 _ hg3 hs hl h1 ?_)
                refine bodyPost_ret (v := .tuple #[.agg RQ, .bool true]) (res_two Tryd.results12 (by kernel_rfl) hld (by kernel_rfl)) rfl ⟨by rw [← HRQ.out]; rfl, hbl⟩
              · rw [if_neg d7] at ho
                subst ho
                have d7' : ¬ busy ≥ s.lines := d7
                have hq6 := fun q => sameT_any (W1.drewN q) r.called s.title HSM.out.1.1 HSM.out.2.1
                rw [d4] at hq6
                obtain ⟨-, -, y0, y1, y2, y3, y4, y6, y7, x0, x1, x2, -⟩ := HW.out
                go_enter Tryd.func12, Tryd.ntmps12
                go_wp2
                go_quiet ((go_at_call 26; exact (hq6 _).mono fun _ _ h => ⟨h.1, drewN2 h.2⟩))
                have HW2 : Hid (RjW w (W1.drewN nq) e g cv r s) := HW.out.dn nq
                clear HW hq6 y0 y1 y2 y3 y4 y6 y7 x0 x1 x2 hW1
                generalize W1.drewN nq = W2 at HW2 ⊢
                have HW := HW2
                clear HW2
                obtain ⟨-, -, y0, y1, y2, y3, y4, y6, y7, x0, x1, x2, -⟩ := HW.out
                have hq8 := fun q => mayCall_any (W2.drewN q) r.calling s.T cv (tr_drew HW.out.T q) HSM.out.1.2 HSM.out.2.2
                rw [d5] at hq8
                go_wp2
                go_quiet ((go_at_call 27; exact (hq8 _).mono fun _ _ h => ⟨h.1, drewN2 h.2⟩))
                have HW2 : Hid (RjW w (W2.drewN nq) e g cv r s) := HW.out.dn nq
                clear HW hq8 y0 y1 y2 y3 y4 y6 y7 x0 x1 x2
                generalize W2.drewN nq = W3 at HW2 ⊢
                have HW := HW2
                clear HW2
                obtain ⟨-, -, y0, y1, y2, y3, y4, y6, y7, x0, x1, x2, -⟩ := HW.out
                have hs := size40' 0 zc
                have h1 := pd_one 0 zc (by decide)
                have hl := z33 0 zc
                have hz0 := pd_zero0
                have hbl : Below w.heap.size w (W3.setRow w.heap.size (Pd 0 zc)) := below_setRow HW.out.b (Nat.le_refl _) _
                have hh := setRow_heap W3 w.heap.size _ (Pd 0 zc) 33 _ HW.out.z
                have hld := run_loadVar_row (P := Tryd.prog) _ _ _ 33 _ _ _ hh hu rfl hs
                have hg3 := HW.out.z
                obtain ⟨RQ, hRQ⟩ : ∃ RQ, Pd 0 zc = RQ := ⟨_, rfl⟩
                have HRQ : Hid (Pd 0 zc = RQ) := hRQ
                rw [hRQ] at hs h1 hl hz0 hbl hh hld
                clear hRQ hh
                have hq10 := short_any W3 e 6 r.h r.m y6 y7
                rw [d6] at hq10
                go_wp2_with (first | (go_at_call 28; refine hq10.mono ?_; rintro _ _ ⟨rfl, rfl⟩) | (refine step_build rfl 33 _ rfl RQ (by simp [Act.eval]; exact hz0) ?_) | (refine wpList_store_row rfl 33 (.tmp 6) (.tmp 72) rfl w.heap.size RQ rfl rfl 33 _ hg3 hs hl h1 ?_))
                refine bodyPost_ret (v := .tuple #[.agg RQ, .bool false]) (res_two Tryd.results12 (by kernel_rfl) hld (by kernel_rfl)) rfl ⟨by rw [← HRQ.out]; rfl, hbl⟩
            · rw [d6, if_pos rfl] at ho
              subst ho
              have hq6 := fun q => sameT_any (W1.drewN q) r.called s.title HSM.out.1.1 HSM.out.2.1
              rw [d4] at hq6
              obtain ⟨-, -, y0, y1, y2, y3, y4, y6, y7, x0, x1, x2, -⟩ := HW.out
              go_enter Tryd.func12, Tryd.ntmps12
              go_wp2
              go_quiet ((go_at_call 26; exact (hq6 _).mono fun _ _ h => ⟨h.1, drewN2 h.2⟩))
              have HW2 : Hid (RjW w (W1.drewN nq) e g cv r s) := HW.out.dn nq
              clear HW hq6 y0 y1 y2 y3 y4 y6 y7 x0 x1 x2 hW1
              generalize W1.drewN nq = W2 at HW2 ⊢
              have HW := HW2
              clear HW2
              obtain ⟨-, -, y0, y1, y2, y3, y4, y6, y7, x0, x1, x2, -⟩ := HW.out
              have hq8 := fun q => mayCall_any (W2.drewN q) r.calling s.T cv (tr_drew HW.out.T q) HSM.out.1.2 HSM.out.2.2
              rw [d5] at hq8
              go_wp2
              go_quiet ((go_at_call 27; exact (hq8 _).mono fun _ _ h => ⟨h.1, drewN2 h.2⟩))
              have HW2 : Hid (RjW w (W2.drewN nq) e g cv r s) := HW.out.dn nq
              clear HW hq8 y0 y1 y2 y3 y4 y6 y7 x0 x1 x2
              generalize W2.drewN nq = W3 at HW2 ⊢
              have HW := HW2
              clear HW2
              obtain ⟨-, -, y0, y1, y2, y3, y4, y6, y7, x0, x1, x2, -⟩ := HW.out
              have hq10 := short_any W3 e 6 r.h r.m y6 y7
              rw [d6] at hq10
              go_wp2_with (first | (go_at_call 28; refine hq10.mono ?_; rintro _ _ ⟨rfl, rfl⟩) | (go_at_call 25; refine (rejected_any _ 1 1 1).mono ?_; refine Fr.Stop.mk ?_))
              rintro xr W9 ⟨rfl, hb3⟩
              have hg3 : W9.heap[w.heap.size]? = some (.cells Z33 33) := (hb3.block _ (Array.getElem?_eq_some_iff.1 HW.out.z).1).trans HW.out.z
              have hs := size40' 3 (rjC 1 1 1)
              have h1 := pd_one 3 (rjC 1 1 1) (rj_one _ _ _)
              have hl := z33 3 (rjC 1 1 1)
              have hbl : Below w.heap.size w (W9.setRow w.heap.size (Pd 3 (rjC 1 1 1))) := below_setRow (HW.out.b.trans (hb3.mono HW.out.b.size)) (Nat.le_refl _) _
              have hh := setRow_heap W9 w.heap.size _ (Pd 3 (rjC 1 1 1)) 33 _ hg3
              have hld := run_loadVar_row (P := Tryd.prog) _ _ _ 33 _ _ _ hh hu rfl hs
              obtain ⟨RQ, hRQ⟩ : ∃ RQ, Pd 3 (rjC 1 1 1) = RQ := ⟨_, rfl⟩
              have HRQ : Hid (Pd 3 (rjC 1 1 1) = RQ) := hRQ
              rw [hRQ] at hs h1 hl hbl hh hld ⊢
              clear hRQ hb3 hh
              go_wp2_with (refine wpList_store_row rfl 33 (.tmp 6) (.tmp 63) rfl w.heap.size RQ rfl rfl 33 _ hg3 hs hl h1 ?_)
              refine bodyPost_ret (v := .tuple #[.agg RQ, .bool true]) (res_two Tryd.results12 (by kernel_rfl) hld (by kernel_rfl)) rfl ⟨by rw [← HRQ.out]; rfl, hbl⟩
  · rw [if_pos (.inl d1)] at ho
    subst ho
    have d1' : (r.k != 1) = true := by simpa using d1
    obtain ⟨-, -, y0, y1, y2, y3, y4, y6, y7, x0, x1, x2, -⟩ := HW.out
    go_enter Tryd.func12, Tryd.ntmps12
    go_wp2_with (go_at_call 25; refine (rejected_any _ 1 2 2).mono ?_; refine Fr.Stop.mk ?_)
    rintro xr W9 ⟨rfl, hb3⟩
    have hg3 : W9.heap[w.heap.size]? = some (.cells Z33 33) := (hb3.block _ (Array.getElem?_eq_some_iff.1 HW.out.z).1).trans HW.out.z
    have hs := size40' 3 (rjC 1 2 2)
    have h1 := pd_one 3 (rjC 1 2 2) (rj_one _ _ _)
    have hl := z33 3 (rjC 1 2 2)
    have hbl : Below w.heap.size w (W9.setRow w.heap.size (Pd 3 (rjC 1 2 2))) := below_setRow (HW.out.b.trans (hb3.mono HW.out.b.size)) (Nat.le_refl _) _
    have hh := setRow_heap W9 w.heap.size _ (Pd 3 (rjC 1 2 2)) 33 _ hg3
    have hld := run_loadVar_row (P := Tryd.prog) _ _ _ 33 _ _ _ hh hu rfl hs
    obtain ⟨RQ, hRQ⟩ : ∃ RQ, Pd 3 (rjC 1 2 2) = RQ := ⟨_, rfl⟩
    have HRQ : Hid (Pd 3 (rjC 1 2 2) = RQ) := hRQ
    rw [hRQ] at hs h1 hl hbl hh hld ⊢
    clear hRQ hb3 hh
    go_wp2_with (refine wpList_store_row rfl 33 (.tmp 6) (.tmp 26) rfl w.heap.size RQ rfl rfl 33 _ hg3 hs hl h1 ?_)
    refine bodyPost_ret (v := .tuple #[.agg RQ, .bool true]) (res_two Tryd.results12 (by kernel_rfl) hld (by kernel_rfl)) rfl ⟨by rw [← HRQ.out]; rfl, hbl⟩
end Go.Proofs.YtnamkcfmbefkfaaDoor
