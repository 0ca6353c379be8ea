import Derived.Test.YtfoodjhffehgpaaGreatDoorGf
/-
  DERIVED. Numbers, tags, heads behind bytes of our own: no other bytes are touched.
-/
namespace Go.Proofs.YtfoodjhffehgpaaGreatDoor
open Go Go.Proofs Go.RowKit
open Wk (Nd NV goN)

/-- Only the one row is written, or a new one. -/
structure Gy (v : Value) (W : World) (u : Value) (W' : World) : Prop where
  os : W'.os = W.os
  tape : W'.tape = W.tape
  output : W'.output = W.output
  size : W.heap.size ≤ W'.heap.size
  keep : ∀ k, k < W.heap.size → some k ≠ v.ownBlock → W'.heap[k]? = W.heap[k]?
  own : ∀ g, u.ownBlock = some g → v.ownBlock = some g ∨ W.heap.size ≤ g
theorem Gy.refl (v : Value) (W : World) : Gy v W v W := ⟨rfl, rfl, rfl, Nat.le_refl _, fun _ _ _ => rfl, fun _ h => .inl h⟩
theorem Gy.of {v : Value} {W W1 : World} (h : Below W.heap.size W W1) : Gy v W v W1 := ⟨h.os, h.tape, h.output, h.size, fun k hk _ => h.block k hk, fun _ h => .inl h⟩
theorem Gy.trans {v u u2 : Value} {W W1 W2 : World} (h : Gy v W u W1) (h2 : Gy u W1 u2 W2) : Gy v W u2 W2 := by
  refine ⟨h2.os.trans h.os, h2.tape.trans h.tape, h2.output.trans h.output, Nat.le_trans h.size h2.size, fun k hk hv => ?_, fun g hg => ?_⟩
  · refine (h2.keep k (Nat.lt_of_lt_of_le hk h.size) (fun e => ?_)).trans (h.keep k hk hv)
    rcases h.own k e.symm with e1 | e1
    · exact hv e1.symm
    · omega
  · rcases h2.own g hg with e | e
    · exact h.own g e
    · exact .inr (Nat.le_trans h.size e)
theorem ob_ty {base : Nat} {W : World} {u : Value} {ys : List UInt8} (h : Ob base W u ys) {g : Nat} (hg : u.ownBlock = some g) : base ≤ g ∧ g < W.heap.size ∧ ∃ cur, W.heap[g]? = some (.cells cur 5 (0, 0)) := by
  have h0 : W.ownsRow base 5 1 u ys.length (bvs ys) := h
  refine ⟨(h0.lt g hg).1, (h0.lt g hg).2, ?_⟩
  rcases h0.2 with ⟨rfl, -⟩ | ⟨g', cap, cur, rfl, -, hh, -⟩
  · cases hg
  · cases hg
    exact ⟨cur, hh⟩
theorem Gy.cell {base : Nat} {u v : Value} {W W' : World} {ys : List UInt8} (h : Gy v W u W') (ho : Ob base W v ys) {k : Nat} {cs : Array Value} {ty : TypeId} {fr : Nat × Nat} (hk : W.heap[k]? = some (.cells cs ty fr)) (ht : ty ≠ 5) : W'.heap[k]? = W.heap[k]? := by
  refine h.keep k (Array.getElem?_eq_some_iff.1 hk).1 (fun e => ?_)
  obtain ⟨-, -, cur, hc⟩ := ob_ty ho e.symm
  rw [hk] at hc
  cases hc
  exact ht rfl
theorem Gy.by {base : Nat} {u v : Value} {W W' : World} {ys : List UInt8} (h : Gy v W u W') (ho : Ob base W v ys) (hb : base ≤ W.heap.size) : By base W W' := by
  refine ⟨⟨h.os, h.tape, h.output, h.size, fun k hk => h.keep k (by omega) (fun e => ?_)⟩, fun k hk hn => h.keep k hk (fun e => ?_)⟩
  · have := (ob_ty ho e.symm).1
    omega
  · obtain ⟨-, -, cur, hc⟩ := ob_ty ho e.symm
    exact hn _ _ hc
/-- Other bytes are kept. -/
theorem Gy.ob {base : Nat} {u v z : Value} {W W' : World} {ys : List UInt8} (h : Gy v W u W') (ho : Ob base W z ys) (hne : z.ownBlock = none ∨ z.ownBlock ≠ v.ownBlock) : Ob base W' z ys := by
  have h0 : W.ownsRow base 5 1 z ys.length (bvs ys) := ho
  exact Wk.own_keep h0 (fun g hg => h.keep g (h0.lt g hg).2 (fun e => by
    rcases hne with hn | hn
    · rw [hn] at hg; cases hg
    · exact hn (hg.trans e)))
/-- Bytes behind bytes of our own. -/
theorem app_gy {w : World} {ops : Array Oper} {rest : List Oper} {o : Oper} {a : Act} {Q : Exit → Act → World → Prop} (hgd : o.guard = none) (s x : Operand)
    (ho : o.op = .call { callee := .builtin .append, args := #[s, x], argTypes := #[31, 31] }) (base : Nat) (v : Value) (ys : List UInt8) (hs : a.eval s = v) (hown : Ob base w v ys)
    (ad : Addr) (m c : Nat) (zs : List UInt8) (hx : a.eval x = .slice (some ad) m c) (hm : zs.length = m) (hm0 : 0 < m) (hnews : ∀ j u, (bvs zs)[j]? = some u → w.cell? (ad.add j) = some u) (hlen : ys.length + m ≤ 100000000) (hbase : base ≤ w.heap.size)
    (h : ∀ u w', Ob base w' u (ys ++ zs) → Gy v w u w' → wpList Tryz.prog ops Q rest (a.put o.dst u) w') : wpList Tryz.prog ops Q (o :: rest) a w := by
  obtain ⟨i0, hi, hz0, hz1, hz2⟩ := info_parts info8
  refine wpList_append_lies w hgd s x 31 ho base 5 i0 (.int .u8 0) 1 1 Tryz.underlying31 hi hz0 hz1 hz2 rfl (by decide) v ys.length (bvs ys) hs hown ad m c (bvs zs) hx (by rw [bvs_len, hm, Nat.mul_one]) hnews (bvs_one zs) hm0 (by simp only [maxLen]; omega) (by omega) hbase _ rfl ?_
  intro g cap w' h2 h3 h4 _
  refine h _ w' ?_ ⟨h3.os, h3.tape, h3.output, h3.size, fun k hk hv => h3.block k hk hv, fun g' hg' => ?_⟩
  · unfold Ob
    rw [List.length_append, hm, bvs_app]
    exact h2
  · cases hg'
    rcases h4 with e | e
    · exact .inl e
    · exact .inr (by show w.heap.size ≤ g; omega)
/-- The same, as a step of a region that draws its order. -/
theorem step_gy {w : World} {ops : Array Oper} {o : Oper} {a : Act} {K : Act → World → Prop} {Q : Exit → Act → World → Prop} {E : Prop} (hgd : o.guard = none) (s x : Operand)
    (ho : o.op = .call { callee := .builtin .append, args := #[s, x], argTypes := #[31, 31] }) (base : Nat) (v : Value) (ys : List UInt8) (hs : a.eval s = v) (hown : Ob base w v ys)
    (ad : Addr) (m c : Nat) (zs : List UInt8) (hx : a.eval x = .slice (some ad) m c) (hm : zs.length = m) (hm0 : 0 < m) (hnews : ∀ j u, (bvs zs)[j]? = some u → w.cell? (ad.add j) = some u) (hlen : ys.length + m ≤ 100000000) (hbase : base ≤ w.heap.size)
    (h : ∀ u w', Ob base w' u (ys ++ zs) → Gy v w u w' → K (a.put o.dst u) w') :
    if Region.wanted o (yielded ops a.tmps) = true then Oper.wp Tryz.prog o a w K Q else E := by
  obtain ⟨i0, hi, hz0, hz1, hz2⟩ := info_parts info8
  refine step_append_lies w hgd s x 31 ho base 5 i0 (.int .u8 0) 1 1 Tryz.underlying31 hi hz0 hz1 hz2 rfl (by decide) v ys.length (bvs ys) hs hown ad m c (bvs zs) hx (by rw [bvs_len, hm, Nat.mul_one]) hnews (bvs_one zs) hm0 (by simp only [maxLen]; omega) (by omega) hbase _ rfl ?_
  intro g cap w' h2 h3 h4 _
  refine h _ w' ?_ ⟨h3.os, h3.tape, h3.output, h3.size, fun k hk hv => h3.block k hk hv, fun g' hg' => ?_⟩
  · unfold Ob
    rw [List.length_append, hm, bvs_app]
    exact h2
  · cases hg'
    rcases h4 with e | e
    · exact .inl e
    · exact .inr (by show w.heap.size ≤ g; omega)
set_option maxRecDepth 100000 in
set_option maxHeartbeats 1000000 in
theorem u16_gy (w : World) (base : Nat) (v : Value) (ys : List UInt8) (n : Nat) (_ : n < 18446744073709551616) (hown : Ob base w v ys) (hb : base ≤ w.heap.size) (hl : ys.length ≤ 50000000) :
    Calls Tryz.prog 38 #[v, .int .u64 (n : Int)] w fun e w' => ∃ u, e = .returned u ∧ Hid (Ob base w' u (ys ++ le 2 n)) ∧ Hid (Gy v w u w') := by
  have HO : Hid (Ob base w v ys ∧ base ≤ w.heap.size) := ⟨hown, hb⟩
  clear hown hb
  go_enter Tryz.func38, Tryz.ntmps38
  go_wp2_with (at_builtin; refine StopB.out ?_)
  have hb1 : Below w.heap.size w (w.alloc (.cells #[.int .u8 ((n : Int) % 256), .int .u8 ((n : Int) / 256 % 256)] 5)) := (Below.refl _ _).alloc (Nat.le_refl _) _
  refine ⟨app_gy rfl (.tmp 5) (.tmp 11) rfl base _ _ rfl (HO.out.1.on hb1) ⟨w.heap.size, 0, none⟩ 2 2 (le 2 n) rfl rfl (by decide) (news_b rfl _ _ (by rw [le_two]; simp [bvs]) _) (by omega) (Nat.le_trans HO.out.2 hb1.size) ?_⟩
  intro u W2 ho hby
  go_wp2
  go_ret
  exact ⟨_, rfl, ho, (Gy.of hb1).trans hby⟩
set_option maxRecDepth 100000 in
theorem u32_gy (w : World) (base : Nat) (v : Value) (ys : List UInt8) (n : Nat) (hn : n < 18446744073709551616) (hown : Ob base w v ys) (hb : base ≤ w.heap.size) (hl : ys.length ≤ 40000000) :
    Calls Tryz.prog 16 #[v, .int .u64 (n : Int)] w fun e w' => ∃ u, e = .returned u ∧ Hid (Ob base w' u (ys ++ le 4 n)) ∧ Hid (Gy v w u w') := by
  have c1 := u16_gy w base v ys n hn hown hb (by omega)
  have HB : Hid (base ≤ w.heap.size) := hb
  have c2 := fun W u h1 h2 => u16_gy W base u (ys ++ le 2 n) (n / 65536) (by omega) h1 h2 (by rw [List.length_append, le_len]; omega)
  have hsh : ((n / 65536 : Nat) : Int) = (n : Int) / 65536 := by omega
  simp only [hsh] at c2
  clear hown hb hsh
  go_enter Tryz.func16, Tryz.ntmps16
  go_wp2_with (go_at_call 38; refine StopB.out ?_)
  refine ⟨Calls.mono c1 ?_⟩
  rintro e W1 ⟨u1, rfl, ho1, hb1⟩
  clear c1
  go_wp2_with (go_at_call 38; refine StopB.out ?_)
  refine ⟨Calls.mono (c2 W1 u1 ho1.out (Nat.le_trans HB.out hb1.out.size)) ?_⟩
  rintro e W2 ⟨u2, rfl, ho2, hb2⟩
  go_wp2
  go_ret
  exact ⟨_, rfl, by rw [le_four, ← List.append_assoc]; exact ho2.out, hb1.out.trans hb2.out⟩
set_option maxRecDepth 100000 in
theorem tagB_gy (w : World) (base : Nat) (v : Value) (ys : List UInt8) (t : Nat) (ht : t < 4294967296) (hown : Ob base w v ys) (hb : base ≤ w.heap.size) (hl : ys.length ≤ 40000000) :
    Calls Tryz.prog 36 #[v, .int .u32 (t : Int)] w fun e w' => ∃ u, e = .returned u ∧ Hid (Ob base w' u (ys ++ tagL t)) ∧ Hid (Gy v w u w') := by
  have c1 := u16_gy w base v ys (t / 65536) (by omega) hown hb (by omega)
  have HB : Hid (base ≤ w.heap.size) := hb
  have hsh : ((t / 65536 : Nat) : Int) = (t : Int) / 65536 := by omega
  rw [hsh] at c1
  clear hown hb hsh
  go_enter Tryz.func36, Tryz.ntmps36
  go_wp2_with (go_at_call 38; refine StopB.out ?_)
  refine ⟨Calls.mono c1 ?_⟩
  rintro e W1 ⟨u1, rfl, ho1, hb1⟩
  clear c1
  go_wp2_with (go_at_call 38; refine StopB.out ?_)
  refine ⟨Calls.mono (u16_gy W1 base u1 _ t (by omega) ho1.out (Nat.le_trans HB.out hb1.out.size) (by rw [List.length_append, le_len]; omega)) ?_⟩
  rintro e W2 ⟨u2, rfl, ho2, hb2⟩
  go_wp2
  go_ret
  exact ⟨_, rfl, by rw [tagL, ← List.append_assoc]; exact ho2.out, hb1.out.trans hb2.out⟩
set_option maxRecDepth 100000 in
set_option maxHeartbeats 2000000 in
theorem headI_gy (w : World) (base : Nat) (b : Value) (ys : List UInt8) (t n : Nat) (ht : t < 4294967296) (hn : n < 4294967296) (v : Int) (hown : Ob base w b ys) (hb : base ≤ w.heap.size) (hl : ys.length ≤ 30000000) :
    Calls Tryz.prog 15 #[b, .int .u32 (t : Int), .int .i64 v, .int .u64 (n : Int), .bool false] w fun e w' => ∃ u, e = .returned u ∧ Hid (Ob base w' u (ys ++ plL t n)) ∧ Hid (Gy b w u w') := by
  have c1 := tagB_gy w base b ys t ht hown hb (by omega)
  have HB : Hid (base ≤ w.heap.size) := hb
  clear hown hb
  go_enter Tryz.func15, Tryz.ntmps15
  go_wp2_with (go_at_call 36; refine StopB.out ?_)
  refine ⟨Calls.mono c1 ?_⟩
  rintro e W1 ⟨u1, rfl, ho1, hb1⟩
  clear c1
  go_wp2_with (go_at_call 16; refine StopB.out ?_)
  refine ⟨Calls.mono (u32_gy W1 base u1 _ n (by omega) ho1.out (Nat.le_trans HB.out hb1.out.size) (by rw [List.length_append, tagL_len]; omega)) ?_⟩
  rintro e W2 ⟨u2, rfl, ho2, hb2⟩
  go_wp2
  go_ret
  exact ⟨_, rfl, by rw [plL, ← List.append_assoc]; exact ho2.out, hb1.out.trans hb2.out⟩
set_option maxRecDepth 100000 in
set_option maxHeartbeats 2000000 in
theorem headE_gy (w : World) (base : Nat) (b : Value) (ys : List UInt8) (t n : Nat) (ht : t < 4294967296) (hn : n < 4294967296) (v : Int) (hv : 1 ≤ v ∧ v ≤ 28) (hown : Ob base w b ys) (hb : base ≤ w.heap.size) (hl : ys.length ≤ 30000000) :
    Calls Tryz.prog 15 #[b, .int .u32 (t : Int), .int .i64 v, .int .u64 (n : Int), .bool true] w fun e w' => ∃ u, e = .returned u ∧ Hid (Ob base w' u (ys ++ exL t v n)) ∧ Hid (Gy b w u w') := by
  have c1 := tagB_gy w base b ys t ht hown hb (by omega)
  have HB : Hid (base ≤ w.heap.size) := hb
  have c := fun W => Rp.rabout_open W v
  have hll : (ltr v).length = 2 := ltr_len hv
  have hnl : (Rp.nm (Rp.vn v)).size = 2 := hll
  have HEX : Hid (∀ l, Rp.lo (Rp.vn v) = l → exL t v n = tagL t ++ (Rp.nm (Rp.vn v)).data.toList ++ (if l = true then [0, 0] ++ le 4 n else le 2 n)) := by rintro l rfl; rfl
  generalize Rp.nm (Rp.vn v) = nm at c hnl HEX
  generalize Rp.pd (Rp.vn v) = p at c
  generalize Rp.un (Rp.vn v) = u at c
  generalize Rp.mo (Rp.vn v) = m at c
  generalize Rp.tx (Rp.vn v) = tt at c
  generalize Rp.ch (Rp.vn v) = c' at c
  generalize Rp.mu (Rp.vn v) = q at c
  generalize Rp.lo (Rp.vn v) = l at c HEX
  generalize decide (1 ≤ v ∧ v ≤ 28) = bb at c
  have HEX2 : Hid (exL t v n = tagL t ++ nm.data.toList ++ (if l = true then [0, 0] ++ le 4 n else le 2 n)) := HEX.out l rfl
  have htw := two_list hnl
  have h0n : 0 < nm.size := by omega
  have h1n : 1 < nm.size := by omega
  have h0i : (0 : Int) < (nm.size : Int) := by omega
  have h1i : (1 : Int) < (nm.size : Int) := by omega
  have HTW : Hid (nm.data.toList = [nm[0], nm[1]]) := htw
  clear hown hb hv HEX htw hll
  go_enter Tryz.func15, Tryz.ntmps15
  go_wp2_with (go_at_call 36; refine StopB.out ?_)
  refine ⟨Calls.mono c1 ?_⟩
  rintro e W1 ⟨u1, rfl, ho1, hb1⟩
  clear c1
  go_wp2_with (first | (go_at_call 37; refine Calls.mono (c _) ?_; rintro e W2 ⟨rfl, hb2⟩) | fail)
  obtain ⟨V, hV⟩ : ∃ V, W2.alloc (.cells #[.string nm, .int .u8 p, .int .i64 u, .int .i64 m, .bool tt, .bool c', .bool q, .bool l] 88) = V := ⟨_, rfl⟩
  have v0 : V.cell? ⟨W2.heap.size, 0, none⟩ = some (.string nm) := by rw [← hV]; simp
  have v7 : V.cell? ⟨W2.heap.size, 7, none⟩ = some (.bool l) := by rw [← hV]; simp
  have HVB : Hid (V.heap[W2.heap.size]? = some (.cells #[.string nm, .int .u8 p, .int .i64 u, .int .i64 m, .bool tt, .bool c', .bool q, .bool l] 88 (0, 0))) := by show _ = _; rw [← hV]; exact Wk.heap_new W2 _
  have hbV : Below W1.heap.size W1 V := by rw [← hV]; exact hb2.alloc hb2.size _
  have HBV : Hid (Gy b w u1 V) := hb1.out.trans (Gy.of hbV)
  have HOV : Hid (Ob base V u1 (ys ++ tagL t)) := ho1.out.on hbV
  have HSV : Hid (base ≤ V.heap.size) := Nat.le_trans HB.out HBV.out.size
  rw [hV]
  clear hV hbV hb2 ho1 hb1 c
  go_region_law (first | (refine step_gy rfl (.tmp 26) (.tmp 33) rfl base _ _ (by simp [Act.eval]) (HOV.out.on (by first | exact ((Below.refl _ _).drew).alloc (Nat.le_refl _) _ | exact (Below.refl _ _).alloc (Nat.le_refl _) _)) ⟨V.heap.size, 0, none⟩ 2 2 [nm[0], nm[1]] (by simp [Act.eval]) rfl (by decide) (news_b (by rfl) _ _ (by simp [bvs]) _) (by rw [List.length_append, tagL_len]; omega) (by have := HSV.out; simp; omega) ?_; intro u3 W3 ho3 hb3))
  all_goals have hBW : Gy u1 V u3 W3 := (Gy.of (by first | exact ((Below.refl _ _).drew).alloc (Nat.le_refl _) _ | exact (Below.refl _ _).alloc (Nat.le_refl _) _)).trans hb3
  all_goals have q7 : W3.cell? ⟨W2.heap.size, 7, none⟩ = some (.bool l) := (World.cell?_of_block (hBW.cell HOV.out HVB.out (by decide))).trans v7
  all_goals have HO3 : Hid (Ob base W3 u3 (ys ++ tagL t ++ nm.data.toList)) := by rw [HTW.out]; exact ho3
  all_goals have HB3 : Hid (Gy b w u3 W3) := HBV.out.trans hBW
  all_goals have HS3 : Hid (base ≤ W3.heap.size) := Nat.le_trans HSV.out hBW.size
  all_goals have HL3 : Hid ((ys ++ tagL t ++ nm.data.toList).length = ys.length + 6) := by show _ = _; rw [List.length_append, List.length_append, tagL_len, show nm.data.toList.length = 2 from hnl]
  all_goals clear hBW ho3 hb3 v0 v7 HBV HOV HSV HVB HTW h0n h1n h0i h1i
  all_goals cases l
  all_goals first
    | (have HX : Hid (exL t v n = tagL t ++ nm.data.toList ++ le 2 n) := by
         have := HEX2.out
         rw [if_neg (by decide)] at this
         exact this
       clear HEX2
       go_wp2_with (go_at_call 38; refine StopB.out ?_)
       refine ⟨Calls.mono (u16_gy W3 base u3 _ n (by omega) HO3.out HS3.out (by rw [HL3.out]; omega)) ?_⟩
       rintro e W5 ⟨u5, rfl, ho5, hb5⟩
       go_wp2
       go_ret
       exact ⟨_, rfl, by rw [HX.out, ← List.append_assoc, ← List.append_assoc]; exact ho5.out, HB3.out.trans hb5.out⟩)
    | (have HX : Hid (exL t v n = tagL t ++ nm.data.toList ++ ([0, 0] ++ le 4 n)) := by
         have := HEX2.out
         rw [if_pos rfl] at this
         exact this
       clear HEX2
       go_wp2_with (at_builtin; refine StopB.out ?_)
       have hb4 : Below W3.heap.size W3 (W3.alloc (.cells #[.int .u8 0, .int .u8 0] 5)) := (Below.refl _ _).alloc (Nat.le_refl _) _
       have hsz : base ≤ (W3.alloc (.cells #[.int .u8 0, .int .u8 0] 5)).heap.size := Nat.le_trans HS3.out hb4.size
       refine ⟨app_gy rfl (.tmp 37) (.tmp 38) rfl base _ _ rfl (HO3.out.on hb4) ⟨W3.heap.size, 0, none⟩ 2 2 [0, 0] rfl rfl (by decide) (news_b rfl _ _ rfl _) (by rw [HL3.out]; omega) hsz ?_⟩
       intro u5 W5 ho5 hb5
       go_wp2_with (go_at_call 16; refine StopB.out ?_)
       refine ⟨Calls.mono (u32_gy W5 base u5 _ n (by omega) ho5 (Nat.le_trans hsz hb5.size) (by rw [List.length_append, HL3.out]; simp; omega)) ?_⟩
       rintro e W6 ⟨u6, rfl, ho6, hb6⟩
       go_wp2
       go_ret
       refine ⟨_, rfl, ?_, HB3.out.trans ((Gy.of hb4).trans (hb5.trans hb6.out))⟩
       rw [HX.out, ← List.append_assoc, ← List.append_assoc, ← List.append_assoc]
       exact ho6.out)
theorem headX_gy (x : Bool) (w : World) (base : Nat) (b : Value) (ys : List UInt8) (t n : Nat) (ht : t < 4294967296) (hn : n < 4294967296) (v : Int) (hv : 1 ≤ v ∧ v ≤ 28) (hown : Ob base w b ys) (hb : base ≤ w.heap.size) (hl : ys.length ≤ 30000000) :
    Calls Tryz.prog 15 #[b, .int .u32 (t : Int), .int .i64 v, .int .u64 (n : Int), .bool x] w fun e w' => ∃ u, e = .returned u ∧ Hid (Ob base w' u (ys ++ hdX x t v n)) ∧ Hid (Gy b w u w') := by
  cases x with
  | false => exact headI_gy w base b ys t n ht hn v hown hb hl
  | true => exact headE_gy w base b ys t n ht hn v hv hown hb hl
end Go.Proofs.YtfoodjhffehgpaaGreatDoor
