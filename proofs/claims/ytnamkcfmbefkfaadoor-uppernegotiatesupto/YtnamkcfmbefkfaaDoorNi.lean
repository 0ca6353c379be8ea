import Derived.Test.YtnamkcfmbefkfaaDoorNh
/-
  DERIVED. The answer to a context that is asked for.
-/
namespace Go.Proofs.YtnamkcfmbefkfaaDoor
open Go Go.Proofs Go.RowKit

/-- The first syntax that is known. -/
def firstS (T : List ByteArray) : Option ByteArray := T.find? (fun u => decide (syN u ≠ 0))
def ansO (s : ByteArray) (T : List ByteArray) : Option ByteArray := if svB s = true then firstS T else none
def ansR (s : ByteArray) (T : List ByteArray) : Int := if svB s = true then (if (firstS T).isSome then 0 else 4) else 3
def ansT (s : ByteArray) (T : List ByteArray) : List ByteArray := (ansO s T).toList
def ctxC (x : Int) (s : ByteArray) (n : Int) : Array Value := #[.int .u8 x, .string s, .int .i64 n]
def ansC (x : Int) (s : ByteArray) (T : List ByteArray) : Array Value := match ansO s T with
  | some u => ctxC x s (syN u)
  | none => ctxC 0 ⟨#[]⟩ 0
def pcC (x y : Int) (s : ByteArray) (v : Value) : Array Value := #[.int .u8 x, .int .u8 y, .string s, v]
theorem firstS_drop (T : List ByteArray) (i : Nat) (h : i < T.length) : firstS (T.drop i) = if syN T[i] ≠ 0 then some T[i] else firstS (T.drop (i + 1)) := by
  unfold firstS
  rw [List.drop_eq_getElem_cons h, List.find?_cons]
  by_cases hc : syN T[i] = 0
  · simp [hc]
  · simp [hc]
theorem res_cc {P : Program} {fn : Func} {tmps : Array Value} {t t2 : TypeId} {k k2 : Nat} {ad ad2 : Addr} {W : World} {v v2 : Value} (hr : fn.results = #[.cell k t, .cell k2 t2]) (h0 : tmps.getD k undef = .pointer (some ad)) (hl : (loadVar t ad).run P W = .ok v W) (h3 : tmps.getD k2 undef = .pointer (some ad2)) (hl2 : (loadVar t2 ad2).run P W = .ok v2 W) : (results fn tmps).run P W = .ok (.tuple #[v, v2]) W := by
  have h0' : tmps[k]?.getD undef = .pointer (some ad) := by simpa using h0
  have h3' : tmps[k2]?.getD undef = .pointer (some ad2) := by simpa using h3
  simp [results, hr, asAddr, h0', hl, h3', hl2]
theorem hu51 : ∃ fs, Tryd.prog.underlying 51 = some (.struct fs) := ⟨_, Tryd.underlying51⟩
theorem hu44 : ∃ fs, Tryd.prog.underlying 44 = some (.struct fs) := ⟨_, Tryd.underlying44⟩
theorem sz51 (x y : Int) (s : ByteArray) (v : Value) : (Tryd.prog.info? 51).map (·.size) = some (pcC x y s v).size := by unfold pcC; kernel_rfl
theorem sz44 (x : Int) (s : ByteArray) (n : Int) : (Tryd.prog.info? 44).map (·.size) = some (ctxC x s n).size := by unfold ctxC; kernel_rfl
theorem pc_one (x y : Int) (s : ByteArray) (v : Value) (h : v.oneCell' = true) : (pcC x y s v).all (·.oneCell') = true := by simp only [pcC, List.all_toArray, List.all_cons, List.all_nil, h]; rfl
theorem ctx_one (x : Int) (s : ByteArray) (n : Int) : (ctxC x s n).all (·.oneCell') = true := by simp only [ctxC, List.all_toArray, List.all_cons, List.all_nil]; rfl
theorem ctx_zero : Tryd.prog.built 44 [] = some (ctxC 0 ⟨#[]⟩ 0) := by kernel_rfl
theorem built_ctx (x : Int) (s : ByteArray) (n : Int) : Tryd.prog.built 44 [(0, .int .u8 x), (1, .string s), (2, .int .i64 n)] = some (ctxC x s n) := by kernel_rfl
theorem built_pc (x y : Int) : Tryd.prog.built 51 [(0, .int .u8 x), (1, .int .u8 y)] = some (pcC x y ⟨#[]⟩ (.slice none 0 0)) := by kernel_rfl
theorem built_pv (x y : Int) (a : Option Addr) (n c : Nat) : Tryd.prog.built 51 [(0, .int .u8 x), (1, .int .u8 y), (3, .slice a n c)] = some (pcC x y ⟨#[]⟩ (.slice a n c)) := by kernel_rfl
/-- Two rows, one behind the other. -/
theorem two_rows (W : World) (g : Nat) (Z A Y C : Array Value) (h1 : W.heap[g]? = some (.cells Z 51 (0, 0))) (h2 : W.heap[g + 1]? = some (.cells Y 44 (0, 0))) (hA : (Tryd.prog.info? 51).map (·.size) = some A.size) (hC : (Tryd.prog.info? 44).map (·.size) = some C.size) :
    (W.setRow g A).heap[g + 1]? = some (.cells Y 44 (0, 0)) ∧ (loadVar 51 ⟨g, 0, none⟩).run Tryd.prog ((W.setRow g A).setRow (g + 1) C) = .ok (.agg A) ((W.setRow g A).setRow (g + 1) C) ∧ (loadVar 44 ⟨g + 1, 0, none⟩).run Tryd.prog ((W.setRow g A).setRow (g + 1) C) = .ok (.agg C) ((W.setRow g A).setRow (g + 1) C) := by
  obtain ⟨f1, u1⟩ := hu51
  obtain ⟨f2, u2⟩ := hu44
  have k2 : (W.setRow g A).heap[g + 1]? = some (.cells Y 44 (0, 0)) := (setRow_other _ _ _ _ (by omega)).trans h2
  refine ⟨k2, run_loadVar_row (P := Tryd.prog) _ _ _ 51 _ _ _ ((setRow_other _ _ _ _ (by omega)).trans (setRow_heap _ _ _ _ _ _ h1)) u1 rfl hA, run_loadVar_row (P := Tryd.prog) _ _ _ 44 _ _ _ (setRow_heap _ _ _ _ _ _ k2) u2 rfl hC⟩
theorem fill_str (u : ByteArray) : Instr.fill (fun i => some (i * 1, 1)) (Array.map (fun x => (Value.string { data := #[] }).cells[x % (Value.string { data := #[] }).cells.size]!) (Array.range (1 * 1))) [(0, Value.string u)] = some #[Value.string u] := by kernel_rfl
theorem op_bs34 {o : Oper} {a : Act} {w : World} {K : Act → World → Prop} {Q : Exit → Act → World → Prop} (x : Operand) (u : ByteArray) (ho : o.op = .buildSlice 34 1 #[(0, x)]) (hx : a.eval x = .string u)
    (h : K (a.put o.dst (.slice (some ⟨w.heap.size, 0, none⟩) 1 1)) (w.alloc (.cells #[.string u] 9))) : o.wp Tryd.prog a w K Q := by
  obtain ⟨i, hi, hz, hs, _⟩ := info_parts infoStr
  refine wp_buildSlice 34 9 1 #[(0, x)] ho #[.string u] i (.string ⟨#[]⟩) Tryd.underlying34 hi hz (by rw [hs]; decide) (by rw [hs]; decide) ?_ h
  rw [hs]
  simp only [List.map_toArray, List.map_cons, List.map_nil, hx]
  exact fill_str u
/-- The answer to a context. -/
def AnsP (w : World) (x : Int) (s : ByteArray) (T : List ByteArray) (e : Ending) (w' : World) : Prop :=
  ∃ sv, e = .returned (.tuple #[.agg (pcC x (ansR s T) ⟨#[]⟩ sv), .agg (ansC x s T)]) ∧ w'.ownsRow w.heap.size 9 1 sv (ansT s T).length (txs (ansT s T)) ∧ Below w.heap.size w w'
set_option maxRecDepth 100000 in
set_option maxHeartbeats 4000000 in
theorem answer_any (w : World) (b o : Nat) (x : Int) (s : ByteArray) (v : Value) (T : List ByteArray) (h0 : w.cell? ⟨b, o, none⟩ = some (.int .u8 x)) (h2 : w.cell? ⟨b, o + 2, none⟩ = some (.string s)) (h3 : w.cell? ⟨b, o + 3, none⟩ = some v) (hT : TR w v T) :
    Calls Tryd.prog 14 #[.pointer (some ⟨b, o, none⟩)] w (AnsP w x s T) := by
  have hb : b < w.heap.size := cell_lt h0
  obtain ⟨ao, cap, rfl, hE, hz, -⟩ := hT
  obtain ⟨W1, hW1⟩ : ∃ W1, (w.alloc (.cells #[.int .u8 0, .int .u8 0, .string ⟨#[]⟩, .slice none 0 0] 51)).alloc (.cells #[.int .u8 0, .string ⟨#[]⟩, .int .i64 0] 44) = W1 := ⟨_, rfl⟩
  obtain ⟨-, g1, g2, hs1⟩ := two_new w (.cells #[.int .u8 0, .int .u8 0, .string ⟨#[]⟩, .slice none 0 0] 51) (.cells #[.int .u8 0, .string ⟨#[]⟩, .int .i64 0] 44)
  have hb1 : Below w.heap.size w W1 := hW1 ▸ ((Below.refl _ _).alloc (Nat.le_refl _) _).alloc (by simp) _
  rw [hW1] at g1 g2 hs1
  have y0 := (hb1.cell (cell_lt h0)).trans h0
  have y2 := (hb1.cell (cell_lt h2)).trans h2
  have y3 := (hb1.cell (cell_lt h3)).trans h3
  have HG : Hid (Below w.heap.size w W1 ∧ W1.heap[w.heap.size]? = some (.cells (pcC 0 0 ⟨#[]⟩ (.slice none 0 0)) 51) ∧ W1.heap[w.heap.size + 1]? = some (.cells (ctxC 0 ⟨#[]⟩ 0) 44) ∧ W1.heap.size = w.heap.size + 2) := ⟨hb1, g1, g2, hs1⟩
  have hsv := serves_any W1 s
  clear hb1 g1 g2 hs1 h0 h2 h3
  cases d1 : svB s
  · rw [d1] at hsv
    have hbA := built_pc x 3
    have hbC := ctx_zero
    have sA := sz51 x 3 ⟨#[]⟩ (.slice none 0 0)
    have sC := sz44 0 ⟨#[]⟩ 0
    have oA := pc_one x 3 ⟨#[]⟩ (.slice none 0 0) rfl
    have oC := ctx_one 0 ⟨#[]⟩ 0
    have lA : (pcC 0 0 ⟨#[]⟩ (.slice none 0 0)).size = (pcC x 3 ⟨#[]⟩ (.slice none 0 0)).size := rfl
    have hRS : ansR s T = 3 ∧ ansC x s T = ctxC 0 ⟨#[]⟩ 0 ∧ ansT s T = [] := by
      unfold ansR ansC ansT ansO
      rw [d1]
      exact ⟨rfl, rfl, rfl⟩
    obtain ⟨-, g1, g2, -⟩ := HG.out
    obtain ⟨k2, l1, l2⟩ := two_rows W1 w.heap.size _ (pcC x 3 ⟨#[]⟩ (.slice none 0 0)) _ (ctxC 0 ⟨#[]⟩ 0) g1 g2 sA sC
    have hbl : Below w.heap.size w ((W1.setRow w.heap.size (pcC x 3 ⟨#[]⟩ (.slice none 0 0))).setRow (w.heap.size + 1) (ctxC 0 ⟨#[]⟩ 0)) := below_setRow (below_setRow HG.out.1 (Nat.le_refl _) _) (by omega) _
    have HF : Hid (∀ e : Ending, e = .returned (.tuple #[.agg (pcC x 3 ⟨#[]⟩ (.slice none 0 0)), .agg (ctxC 0 ⟨#[]⟩ 0)]) → AnsP w x s T e ((W1.setRow w.heap.size (pcC x 3 ⟨#[]⟩ (.slice none 0 0))).setRow (w.heap.size + 1) (ctxC 0 ⟨#[]⟩ 0))) := fun e he => by
      unfold AnsP
      rw [hRS.1, hRS.2.1, hRS.2.2]
      exact ⟨_, he, World.ownsRow_nil _ _ _ _, hbl⟩
    clear hRS hbl
    generalize pcC x 3 ⟨#[]⟩ (.slice none 0 0) = A at *
    generalize ctxC 0 ⟨#[]⟩ 0 = C at *
    go_enter Tryd.func14, Tryd.ntmps14
    go_wp2_with (first | (rw [hW1]) | (go_at_call 29; refine hsv.mono ?_; rintro _ _ ⟨rfl, rfl⟩) | (refine step_build rfl 51 _ rfl A (by simp [Act.eval]; exact hbA) ?_) | (refine step_build rfl 44 _ rfl C (by simp [Act.eval]; exact hbC) ?_) | (refine wpList_store_row rfl 51 (.tmp 2) (.tmp 18) rfl w.heap.size A rfl rfl 51 _ g1 sA lA oA ?_) | (refine wpList_store_row rfl 44 (.tmp 3) (.tmp 19) rfl (w.heap.size + 1) C rfl rfl 44 _ k2 sC rfl oC ?_))
    refine bodyPost_ret (v := .tuple #[.agg A, .agg C]) (res_cc Tryd.results14 (by kernel_rfl) l1 (by kernel_rfl) l2) rfl (HF.out _ rfl)
  · rw [d1] at hsv
    obtain ⟨n, hn⟩ : ∃ n, T.length = n := ⟨_, rfl⟩
    have HT : Hid (T.length = n ∧ (0 < T.length → ∃ b off, ao = some ⟨b, off, none⟩ ∧ ∀ k (h : k < T.length), W1.cell? ⟨b, off + k, none⟩ = some (.string T[k]))) := ⟨hn, fun h => by
      obtain ⟨b, off, e, h2⟩ := hE h
      exact ⟨b, off, e, fun k hk => (HG.out.1.cell (cell_lt (h2 k hk))).trans (h2 k hk)⟩⟩
    have hnz : n ≤ 140737488351232 := by omega
    rw [hn] at y3
    clear hn hE hz
    go_enter Tryd.func14, Tryd.ntmps14
    go_wp2_with (first | (rw [hW1]) | (go_at_call 29; refine hsv.mono ?_; rintro _ W2 ⟨rfl, hw2⟩; obtain rfl : W1 = W2 := hw2.symm))
    clear hsv
    go_loopg [25] n (fun g x wx => ∃ i : Nat, x = .int .i64 (i : Int) ∧ g + i = n ∧ Hid (firstS T = firstS (T.drop i)) ∧ wx = W1)
    case atStart => exact ⟨0, rfl, by omega, rfl, rfl⟩
    case round =>
      obtain ⟨i, rfl, hgi, HA, hwr⟩ := hrel
      obtain rfl : W1 = wr := hwr.symm
      by_cases hin : i < n
      · have hI : (i : Int) < (n : Int) := by omega
        have hil : i < T.length := by rw [HT.out.1]; exact hin
        obtain ⟨b2, off2, rfl, he⟩ := HT.out.2 (by omega)
        have hc := he i hil
        have hdr := firstS_drop T i hil
        have hsy := syntax_any W1 T[i]
        clear he
        generalize T[i] = u at hc hdr hsy
        by_cases d2 : syN u = 0
        · rw [if_neg (by simp [d2])] at hdr
          have HA' : Hid (firstS T = firstS (T.drop (i + 1))) := HA.out.trans hdr
          rw [d2, decide_eq_false (by decide)] at hsy
          clear hdr
          go_wp2_with (go_at_call 30; refine hsy.mono ?_; rintro _ W2 ⟨rfl, hw2⟩; obtain rfl : W1 = W2 := hw2.symm)
          go_roundg (n - (i + 1))
          case rel => exact ⟨i + 1, by go_num, by omega, HA'.out, rfl⟩
          case measure => omega
        · rw [if_pos d2] at hdr
          rw [decide_eq_true d2] at hsy
          have hRS : ansR s T = 0 ∧ ansC x s T = ctxC x s (syN u) ∧ ansT s T = [u] := by
            have hf := HA.out.trans hdr
            unfold ansR ansC ansT ansO
            rw [d1, if_pos rfl, if_pos rfl, hf]
            exact ⟨rfl, rfl, rfl⟩
          have HRS : Hid _ := hRS
          clear hdr hRS
          have hbA := fun g : Nat => built_pv x 0 (some ⟨g, 0, none⟩) 1 1
          have hbC := built_ctx x s (syN u)
          have sA := fun g : Nat => sz51 x 0 ⟨#[]⟩ (.slice (some ⟨g, 0, none⟩) 1 1)
          have sC := sz44 x s (syN u)
          have oA := fun g : Nat => pc_one x 0 ⟨#[]⟩ (.slice (some ⟨g, 0, none⟩) 1 1) rfl
          have oC := ctx_one x s (syN u)
          have lA : ∀ g : Nat, (pcC 0 0 ⟨#[]⟩ (.slice none 0 0)).size = (pcC x 0 ⟨#[]⟩ (.slice (some ⟨g, 0, none⟩) 1 1)).size := fun _ => rfl
          have lC : (ctxC 0 ⟨#[]⟩ 0).size = (ctxC x s (syN u)).size := rfl
          generalize syN u = m at *
          go_wp2_with (go_at_call 30; refine hsy.mono ?_; rintro _ W2 ⟨rfl, hw2⟩; obtain rfl : W1 = W2 := hw2.symm)
          refine wp_region_held_drew (S := fun w' => w'.cell? ⟨b, o, none⟩ = some (.int .u8 x) ∧ w'.cell? ⟨b, o + 2, none⟩ = some (.string s)) (by kernel_rfl) ⟨y0, y2⟩ (fun hHeld => ?_)
          have HD : Hid (Below w.heap.size w W1.drew ∧ W1.drew.heap[w.heap.size]? = some (.cells (pcC 0 0 ⟨#[]⟩ (.slice none 0 0)) 51) ∧ W1.drew.heap[w.heap.size + 1]? = some (.cells (ctxC 0 ⟨#[]⟩ 0) 44) ∧ W1.drew.heap.size = w.heap.size + 2) := ⟨HG.out.1.trans ((Below.refl _ _).drew.mono HG.out.1.size), HG.out.2.1, HG.out.2.2.1, HG.out.2.2.2⟩
          generalize W1.drew = w1 at HD hHeld ⊢
          refine wpAnyH_take (i := 0) (oi := ({ dst := some 35, op := Op.move (Operand.tmp 0), type := 49, pos := "negotiate.go:134", after := #[], guard := none } : Oper)) (v := .pointer (some ⟨b, o, none⟩)) rfl (by kernel_rfl) (by kernel_rfl) (by kernel_rfl) (fun _ _ _ h => h) (Or.inl ⟨by rfl, fun w _ => by go_simp⟩) hHeld ?_
          try simp only [Act.put, List.setIfInBounds_toArray, List.set_cons_zero, List.set_cons_succ]
          refine wpAnyH_take (i := 1) (oi := ({ dst := some 36, op := Op.nilCheck (Operand.tmp 35), type := 0, pos := "negotiate.go:134", after := #[{ on := 0, ground := Ground.data }], guard := none } : Oper)) (v := .pointer (some ⟨b, o, none⟩)) rfl (by kernel_rfl) (by kernel_rfl) (by kernel_rfl) (fun _ _ _ h => h) (Or.inl ⟨by rfl, fun w _ => by go_simp⟩) hHeld ?_
          try simp only [Act.put, List.setIfInBounds_toArray, List.set_cons_zero, List.set_cons_succ]
          refine wpAnyH_take (i := 2) (oi := ({ dst := some 37, op := Op.fieldAddr 51 (Operand.tmp 36) 0, type := 0, pos := "negotiate.go:134", after := #[{ on := 1, ground := Ground.data }], guard := none } : Oper)) (v := .pointer (some ⟨b, o, none⟩)) rfl (by kernel_rfl) (by kernel_rfl) (by kernel_rfl) (fun _ _ _ h => h) (Or.inl ⟨by rfl, fun w _ => by go_simp⟩) hHeld ?_
          try simp only [Act.put, List.setIfInBounds_toArray, List.set_cons_zero, List.set_cons_succ]
          refine wpAnyH_take (i := 3) (oi := ({ dst := some 38, op := Op.load 5 (Operand.tmp 37), type := 5, pos := "negotiate.go:134", after := #[{ on := 2, ground := Ground.data }], guard := none } : Oper)) (v := .int .u8 x) rfl (by kernel_rfl) (by kernel_rfl) (by kernel_rfl) (fun _ _ _ h => h) (Or.inl ⟨by rfl, fun w h => by have h1 := h.1; go_simp⟩) hHeld ?_
          try simp only [Act.put, List.setIfInBounds_toArray, List.set_cons_zero, List.set_cons_succ]
          refine wpAnyH_take (i := 4) (oi := ({ dst := some 39, op := Op.move (Operand.tmp 5), type := 9, pos := "negotiate.go:134", after := #[], guard := none } : Oper)) (v := .string u) rfl (by kernel_rfl) (by kernel_rfl) (by kernel_rfl) (fun _ _ _ h => h) (Or.inl ⟨by rfl, fun w _ => by go_simp⟩) hHeld ?_
          try simp only [Act.put, List.setIfInBounds_toArray, List.set_cons_zero, List.set_cons_succ]
          refine wpAnyH_take (i := 7) (oi := ({ dst := some 42, op := Op.move (Operand.tmp 0), type := 49, pos := "negotiate.go:134", after := #[{ on := 17, ground := Ground.gcOnly Departure.lateStores }], guard := none } : Oper)) (v := .pointer (some ⟨b, o, none⟩)) rfl (by kernel_rfl) (by kernel_rfl) (by kernel_rfl) (fun _ _ _ h => h) (Or.inl ⟨by rfl, fun w _ => by go_simp⟩) hHeld ?_
          try simp only [Act.put, List.setIfInBounds_toArray, List.set_cons_zero, List.set_cons_succ]
          refine wpAnyH_take (i := 8) (oi := ({ dst := some 43, op := Op.nilCheck (Operand.tmp 42), type := 0, pos := "negotiate.go:134", after := #[{ on := 7, ground := Ground.data }, { on := 17, ground := Ground.gcOnly Departure.lateStores }], guard := none } : Oper)) (v := .pointer (some ⟨b, o, none⟩)) rfl (by kernel_rfl) (by kernel_rfl) (by kernel_rfl) (fun _ _ _ h => h) (Or.inl ⟨by rfl, fun w _ => by go_simp⟩) hHeld ?_
          try simp only [Act.put, List.setIfInBounds_toArray, List.set_cons_zero, List.set_cons_succ]
          refine wpAnyH_take (i := 9) (oi := ({ dst := some 44, op := Op.fieldAddr 51 (Operand.tmp 43) 0, type := 0, pos := "negotiate.go:134", after := #[{ on := 8, ground := Ground.data }, { on := 17, ground := Ground.gcOnly Departure.lateStores }], guard := none } : Oper)) (v := .pointer (some ⟨b, o, none⟩)) rfl (by kernel_rfl) (by kernel_rfl) (by kernel_rfl) (fun _ _ _ h => h) (Or.inl ⟨by rfl, fun w _ => by go_simp⟩) hHeld ?_
          try simp only [Act.put, List.setIfInBounds_toArray, List.set_cons_zero, List.set_cons_succ]
          refine wpAnyH_take (i := 10) (oi := ({ dst := some 45, op := Op.load 5 (Operand.tmp 44), type := 5, pos := "negotiate.go:134", after := #[{ on := 9, ground := Ground.data }, { on := 17, ground := Ground.gcOnly Departure.lateStores }], guard := none } : Oper)) (v := .int .u8 x) rfl (by kernel_rfl) (by kernel_rfl) (by kernel_rfl) (fun _ _ _ h => h) (Or.inl ⟨by rfl, fun w h => by have h1 := h.1; go_simp⟩) hHeld ?_
          try simp only [Act.put, List.setIfInBounds_toArray, List.set_cons_zero, List.set_cons_succ]
          refine wpAnyH_take (i := 11) (oi := ({ dst := some 46, op := Op.move (Operand.tmp 0), type := 49, pos := "negotiate.go:134", after := #[{ on := 17, ground := Ground.gcOnly Departure.lateStores }], guard := none } : Oper)) (v := .pointer (some ⟨b, o, none⟩)) rfl (by kernel_rfl) (by kernel_rfl) (by kernel_rfl) (fun _ _ _ h => h) (Or.inl ⟨by rfl, fun w _ => by go_simp⟩) hHeld ?_
          try simp only [Act.put, List.setIfInBounds_toArray, List.set_cons_zero, List.set_cons_succ]
          refine wpAnyH_take (i := 12) (oi := ({ dst := some 47, op := Op.nilCheck (Operand.tmp 46), type := 0, pos := "negotiate.go:134", after := #[{ on := 11, ground := Ground.data }, { on := 17, ground := Ground.gcOnly Departure.lateStores }], guard := none } : Oper)) (v := .pointer (some ⟨b, o, none⟩)) rfl (by kernel_rfl) (by kernel_rfl) (by kernel_rfl) (fun _ _ _ h => h) (Or.inl ⟨by rfl, fun w _ => by go_simp⟩) hHeld ?_
          try simp only [Act.put, List.setIfInBounds_toArray, List.set_cons_zero, List.set_cons_succ]
          refine wpAnyH_take (i := 13) (oi := ({ dst := some 48, op := Op.fieldAddr 51 (Operand.tmp 47) 2, type := 0, pos := "negotiate.go:134", after := #[{ on := 12, ground := Ground.data }, { on := 17, ground := Ground.gcOnly Departure.lateStores }], guard := none } : Oper)) (v := .pointer (some ⟨b, o + 2, none⟩)) rfl (by kernel_rfl) (by kernel_rfl) (by kernel_rfl) (fun _ _ _ h => h) (Or.inl ⟨by rfl, fun w _ => by go_simp⟩) hHeld ?_
          try simp only [Act.put, List.setIfInBounds_toArray, List.set_cons_zero, List.set_cons_succ]
          refine wpAnyH_take (i := 14) (oi := ({ dst := some 49, op := Op.load 9 (Operand.tmp 48), type := 9, pos := "negotiate.go:134", after := #[{ on := 13, ground := Ground.data }, { on := 17, ground := Ground.gcOnly Departure.lateStores }], guard := none } : Oper)) (v := .string s) rfl (by kernel_rfl) (by kernel_rfl) (by kernel_rfl) (fun _ _ _ h => h) (Or.inl ⟨by rfl, fun w h => by have h1 := h.2; go_simp⟩) hHeld ?_
          try simp only [Act.put, List.setIfInBounds_toArray, List.set_cons_zero, List.set_cons_succ]
          refine wpAnyH_take (i := 15) (oi := ({ dst := some 50, op := Op.move (Operand.tmp 6), type := 42, pos := "negotiate.go:134", after := #[{ on := 17, ground := Ground.gcOnly Departure.lateStores }], guard := none } : Oper)) (v := .int .i64 m) rfl (by kernel_rfl) (by kernel_rfl) (by kernel_rfl) (fun _ _ _ h => h) (Or.inl ⟨by rfl, fun w _ => by go_simp⟩) hHeld ?_
          try simp only [Act.put, List.setIfInBounds_toArray, List.set_cons_zero, List.set_cons_succ]
          refine wpAnyH_take (i := 16) (oi := ({ dst := some 51, op := Op.build 44 #[(0, Operand.tmp 45), (1, Operand.tmp 49), (2, Operand.tmp 50)], type := 44, pos := "negotiate.go:134", after := #[{ on := 10, ground := Ground.data }, { on := 14, ground := Ground.data }, { on := 15, ground := Ground.data }, { on := 17, ground := Ground.gcOnly Departure.lateStores }], guard := none } : Oper)) (v := .agg (ctxC x s m)) rfl (by kernel_rfl) (by kernel_rfl) (by kernel_rfl) (fun _ _ _ h => h) (yld_build (by rfl) 44 _ rfl (ctxC x s m) (by simp [Act.eval]; exact hbC)) hHeld ?_
          try simp only [Act.put, List.setIfInBounds_toArray, List.set_cons_zero, List.set_cons_succ]
          refine wpAnyH_ready (rs := [5]) (by kernel_rfl) (by simp) ?_
          refine AllReadyH.cons (o := ({ dst := some 40, op := Op.buildSlice 34 1 #[(0, Operand.tmp 39)], type := 34, pos := "negotiate.go:134", after := #[{ on := 4, ground := Ground.data }], guard := none } : Oper)) rfl (fun K hK => ?_) AllReadyH.nil
          rw [if_pos (by rfl)]
          refine op_bs34 (.tmp 39) u rfl rfl ?_
          have hb2 : Below w.heap.size w (w1.alloc (.cells #[.string u] 9)) := HD.out.1.alloc HD.out.1.size _
          have hnew : (w1.alloc (.cells #[.string u] 9)).heap[w1.heap.size]? = some (.cells #[.string u] 9) := alloc_new w1 _
          have hg1 : (w1.alloc (.cells #[.string u] 9)).heap[w.heap.size]? = some (.cells (pcC 0 0 ⟨#[]⟩ (.slice none 0 0)) 51) := (Below.heap_alloc _ _ _ (by have := HD.out.2.2.2; omega)).trans HD.out.2.1
          have hg2 : (w1.alloc (.cells #[.string u] 9)).heap[w.heap.size + 1]? = some (.cells (ctxC 0 ⟨#[]⟩ 0) 44) := (Below.heap_alloc _ _ _ (by have := HD.out.2.2.2; omega)).trans HD.out.2.2.1
          have hsz := HD.out.2.2.2
          refine hK.out _ _ ⟨((Below.refl w1.heap.size w1).alloc (Nat.le_refl _) _ |>.cell (cell_lt hHeld.1)).trans hHeld.1, ((Below.refl w1.heap.size w1).alloc (Nat.le_refl _) _ |>.cell (cell_lt hHeld.2)).trans hHeld.2⟩ (fun hHeld => ?_)
          clear hK K
          try simp only [Act.put, List.setIfInBounds_toArray, List.set_cons_zero, List.set_cons_succ]
          generalize w1.alloc (.cells #[.string u] 9) = w2 at hb2 hnew hg1 hg2 hHeld ⊢
          generalize w1.heap.size = g3 at hnew hsz ⊢
          have hbA := hbA g3
          have sA := sA g3
          have oA := oA g3
          have lA := lA g3
          obtain ⟨k2, l1, l2⟩ := two_rows w2 w.heap.size _ (pcC x 0 ⟨#[]⟩ (.slice (some ⟨g3, 0, none⟩) 1 1)) _ (ctxC x s m) hg1 hg2 sA sC
          have hbl : Below w.heap.size w ((w2.setRow w.heap.size (pcC x 0 ⟨#[]⟩ (.slice (some ⟨g3, 0, none⟩) 1 1))).setRow (w.heap.size + 1) (ctxC x s m)) := below_setRow (below_setRow hb2 (Nat.le_refl _) _) (by omega) _
          have hn3 : ((w2.setRow w.heap.size (pcC x 0 ⟨#[]⟩ (.slice (some ⟨g3, 0, none⟩) 1 1))).setRow (w.heap.size + 1) (ctxC x s m)).heap[g3]? = some (.cells #[.string u] 9) := (setRow_other _ _ _ _ (by omega)).trans ((setRow_other _ _ _ _ (by omega)).trans hnew)
          have HF : Hid (∀ e : Ending, e = .returned (.tuple #[.agg (pcC x 0 ⟨#[]⟩ (.slice (some ⟨g3, 0, none⟩) 1 1)), .agg (ctxC x s m)]) → AnsP w x s T e ((w2.setRow w.heap.size (pcC x 0 ⟨#[]⟩ (.slice (some ⟨g3, 0, none⟩) 1 1))).setRow (w.heap.size + 1) (ctxC x s m))) := fun e he => by
            have hRS := HRS.out
            unfold AnsP
            rw [hRS.1, hRS.2.1, hRS.2.2]
            exact ⟨_, he, ⟨rfl, .inr ⟨g3, 1, #[.string u], rfl, by omega, hn3, Nat.le_refl _, by decide, rfl, rfl⟩⟩, hbl⟩
          have hbw := hb2
          have hbw1 : Below w.heap.size w (w2.setRow w.heap.size (pcC x 0 ⟨#[]⟩ (.slice (some ⟨g3, 0, none⟩) 1 1))) := below_setRow hb2 (Nat.le_refl _) _
          have hS1 : (w2.setRow w.heap.size (pcC x 0 ⟨#[]⟩ (.slice (some ⟨g3, 0, none⟩) 1 1))).cell? ⟨b, o, none⟩ = some (.int .u8 x) ∧ (w2.setRow w.heap.size (pcC x 0 ⟨#[]⟩ (.slice (some ⟨g3, 0, none⟩) 1 1))).cell? ⟨b, o + 2, none⟩ = some (.string s) := ⟨(World.cell?_of_block (setRow_other _ _ _ _ (by show b ≠ _; omega))).trans hHeld.1, (World.cell?_of_block (setRow_other _ _ _ _ (by show b ≠ _; omega))).trans hHeld.2⟩
          have hS2 : ((w2.setRow w.heap.size (pcC x 0 ⟨#[]⟩ (.slice (some ⟨g3, 0, none⟩) 1 1))).setRow (w.heap.size + 1) (ctxC x s m)).cell? ⟨b, o, none⟩ = some (.int .u8 x) ∧ ((w2.setRow w.heap.size (pcC x 0 ⟨#[]⟩ (.slice (some ⟨g3, 0, none⟩) 1 1))).setRow (w.heap.size + 1) (ctxC x s m)).cell? ⟨b, o + 2, none⟩ = some (.string s) := ⟨(World.cell?_of_block (setRow_other _ _ _ _ (by show b ≠ _; omega))).trans hS1.1, (World.cell?_of_block (setRow_other _ _ _ _ (by show b ≠ _; omega))).trans hS1.2⟩
          clear hbl hn3 hbw hbw1 hnew
          generalize pcC x 0 ⟨#[]⟩ (.slice (some ⟨g3, 0, none⟩) 1 1) = A at *
          generalize ctxC x s m = C at *
          refine wpAnyH_take (i := 6) (oi := ({ dst := some 41, op := Op.build 51 #[(0, Operand.tmp 38), (1, Operand.const (Value.int IntKind.u8 0)), (3, Operand.tmp 40)], type := 51, pos := "negotiate.go:134", after := #[{ on := 3, ground := Ground.data }, { on := 5, ground := Ground.data }], guard := none } : Oper)) (v := .agg A) rfl (by kernel_rfl) (by kernel_rfl) (by kernel_rfl) (fun _ _ _ h => h) (yld_build (by rfl) 51 _ rfl A (by simp [Act.eval]; exact hbA)) hHeld ?_
          try simp only [Act.put, List.setIfInBounds_toArray, List.set_cons_zero, List.set_cons_succ]
          refine wpAnyH_ready (rs := [17]) (by kernel_rfl) (by simp) ?_
          refine AllReadyH.cons (o := ({ dst := none, op := Op.store 51 (Operand.tmp 2) (Operand.tmp 41), type := 0, pos := "negotiate.go:134", after := #[{ on := 6, ground := Ground.data }, { on := 0, ground := Ground.phase }, { on := 1, ground := Ground.phase }, { on := 2, ground := Ground.phase }, { on := 3, ground := Ground.phase }, { on := 4, ground := Ground.phase }, { on := 5, ground := Ground.phase }, { on := 6, ground := Ground.phase }, { on := 7, ground := Ground.textOnly Departure.lateStores }, { on := 8, ground := Ground.textOnly Departure.lateStores }, { on := 9, ground := Ground.textOnly Departure.lateStores }, { on := 10, ground := Ground.textOnly Departure.lateStores }, { on := 11, ground := Ground.textOnly Departure.lateStores }, { on := 12, ground := Ground.textOnly Departure.lateStores }, { on := 13, ground := Ground.textOnly Departure.lateStores }, { on := 14, ground := Ground.textOnly Departure.lateStores }, { on := 15, ground := Ground.textOnly Departure.lateStores }, { on := 16, ground := Ground.textOnly Departure.lateStores }], guard := none } : Oper)) rfl (fun K hK => ?_) AllReadyH.nil
          rw [if_pos (by rfl)]
          refine wp_store_row 51 (.tmp 2) (.tmp 41) rfl w.heap.size A rfl rfl 51 _ hg1 sA lA oA ?_
          refine hK.out _ _ hS1 (fun hHeld => ?_)
          clear hK K
          try simp only [Act.put]
          refine wpAnyH_ready (rs := [18]) (by kernel_rfl) (by simp) ?_
          refine AllReadyH.cons (o := ({ dst := none, op := Op.store 44 (Operand.tmp 3) (Operand.tmp 51), type := 0, pos := "negotiate.go:134", after := #[{ on := 16, ground := Ground.data }, { on := 17, ground := Ground.chain }, { on := 0, ground := Ground.phase }, { on := 1, ground := Ground.phase }, { on := 2, ground := Ground.phase }, { on := 3, ground := Ground.phase }, { on := 4, ground := Ground.phase }, { on := 5, ground := Ground.phase }, { on := 6, ground := Ground.phase }, { on := 7, ground := Ground.phase }, { on := 8, ground := Ground.phase }, { on := 9, ground := Ground.phase }, { on := 10, ground := Ground.phase }, { on := 11, ground := Ground.phase }, { on := 12, ground := Ground.phase }, { on := 13, ground := Ground.phase }, { on := 14, ground := Ground.phase }, { on := 15, ground := Ground.phase }, { on := 16, ground := Ground.phase }, { on := 17, ground := Ground.phase }], guard := none } : Oper)) rfl (fun K hK => ?_) AllReadyH.nil
          rw [if_pos (by rfl)]
          refine wp_store_row 44 (.tmp 3) (.tmp 51) rfl (w.heap.size + 1) C rfl rfl 44 _ k2 sC lC oC ?_
          refine hK.out _ _ hS2 (fun hHeld => ?_)
          clear hK K
          try simp only [Act.put]
          refine wpAnyH_done (by kernel_rfl) ?_ _
          go_wp2
          refine bodyPost_ret (v := .tuple #[.agg A, .agg C]) (res_cc Tryd.results14 (by kernel_rfl) l1 (by kernel_rfl) l2) rfl (HF.out _ rfl)
      · have hI : ¬ (i : Int) < (n : Int) := by omega
        have hRS : ansR s T = 4 ∧ ansC x s T = ctxC 0 ⟨#[]⟩ 0 ∧ ansT s T = [] := by
          have hf := HA.out
          rw [List.drop_eq_nil_of_le (by rw [HT.out.1]; omega)] at hf
          unfold ansR ansC ansT ansO
          rw [d1, if_pos rfl, if_pos rfl, hf]
          exact ⟨rfl, rfl, rfl⟩
        have hbA := built_pc x 4
        have hbC := ctx_zero
        have sA := sz51 x 4 ⟨#[]⟩ (.slice none 0 0)
        have sC := sz44 0 ⟨#[]⟩ 0
        have oA := pc_one x 4 ⟨#[]⟩ (.slice none 0 0) rfl
        have oC := ctx_one 0 ⟨#[]⟩ 0
        have lA : (pcC 0 0 ⟨#[]⟩ (.slice none 0 0)).size = (pcC x 4 ⟨#[]⟩ (.slice none 0 0)).size := rfl
        obtain ⟨-, g1, g2, -⟩ := HG.out
        obtain ⟨k2, l1, l2⟩ := two_rows W1 w.heap.size _ (pcC x 4 ⟨#[]⟩ (.slice none 0 0)) _ (ctxC 0 ⟨#[]⟩ 0) g1 g2 sA sC
        have hbl : Below w.heap.size w ((W1.setRow w.heap.size (pcC x 4 ⟨#[]⟩ (.slice none 0 0))).setRow (w.heap.size + 1) (ctxC 0 ⟨#[]⟩ 0)) := below_setRow (below_setRow HG.out.1 (Nat.le_refl _) _) (by omega) _
        have HF : Hid (∀ e : Ending, e = .returned (.tuple #[.agg (pcC x 4 ⟨#[]⟩ (.slice none 0 0)), .agg (ctxC 0 ⟨#[]⟩ 0)]) → AnsP w x s T e ((W1.setRow w.heap.size (pcC x 4 ⟨#[]⟩ (.slice none 0 0))).setRow (w.heap.size + 1) (ctxC 0 ⟨#[]⟩ 0))) := fun e he => by
          unfold AnsP
          rw [hRS.1, hRS.2.1, hRS.2.2]
          exact ⟨_, he, World.ownsRow_nil _ _ _ _, hbl⟩
        clear hRS hbl
        generalize pcC x 4 ⟨#[]⟩ (.slice none 0 0) = A at *
        generalize ctxC 0 ⟨#[]⟩ 0 = C at *
        go_wp2_with (first | (refine step_build rfl 51 _ rfl A (by simp [Act.eval]; exact hbA) ?_) | (refine step_build rfl 44 _ rfl C (by simp [Act.eval]; exact hbC) ?_) | (refine wpList_store_row rfl 51 (.tmp 2) (.tmp 57) rfl w.heap.size A rfl rfl 51 _ g1 sA lA oA ?_) | (refine wpList_store_row rfl 44 (.tmp 3) (.tmp 58) rfl (w.heap.size + 1) C rfl rfl 44 _ k2 sC rfl oC ?_))
        refine bodyPost_ret (v := .tuple #[.agg A, .agg C]) (res_cc Tryd.results14 (by kernel_rfl) l1 (by kernel_rfl) l2) rfl (HF.out _ rfl)
end Go.Proofs.YtnamkcfmbefkfaaDoor
