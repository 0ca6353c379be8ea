import Derived.Test.YtidcjobokfgeoaaC
/-
  DERIVED. Keys for all that is known at a place; where the next element begins.
-/
namespace Go.Proofs.Ytidcjobokfgeoaa
open Go Go.Proofs Go.RowKit

def nd (t v n : Int) (s : ByteArray) : List Value := [.int .u32 t, .int .i64 v, .int .i64 n, .string s]
def sel (p : Int) (i : Nat) : List Nat := (List.range i).filter (fun j => decide (pl j = p))
def bk (p : Int) (i : Nat) : List Value := (sel p i).flatMap (fun j => nd (tg j) (vr j) 0 ⟨#[]⟩)
theorem sel_succ (p : Int) (i : Nat) : sel p (i + 1) = if pl i = p then sel p i ++ [i] else sel p i := by
  unfold sel
  rw [List.range_succ, List.filter_append]
  by_cases h : pl i = p
  · rw [if_pos h]; simp [h]
  · rw [if_neg h]; simp [h]
theorem bk_yes {p : Int} {i : Nat} (h : pl i = p) : bk p (i + 1) = bk p i ++ nd (tg i) (vr i) 0 ⟨#[]⟩ := by
  unfold bk
  rw [sel_succ, if_pos h, List.flatMap_append]
  simp
theorem sel_yes {p : Int} {i : Nat} (h : pl i = p) : (sel p (i + 1)).length = (sel p i).length + 1 := by
  rw [sel_succ, if_pos h, List.length_append]; rfl
theorem sel_le (p : Int) (i : Nat) : (sel p i).length ≤ i := by
  unfold sel
  have := List.length_filter_le (fun j => decide (pl j = p)) (List.range i)
  simpa using this
theorem own_base {w : World} {b b2 : Nat} {e : TypeId} {size : Nat} {v : Value} {n : Nat} {xs : List Value} (h : w.ownsRow b e size v n xs) (hb : b2 ≤ b) : w.ownsRow b2 e size v n xs := by
  refine ⟨h.1, ?_⟩
  rcases h.2 with h2 | ⟨g, cap, cur, hv, hg, r⟩
  · exact .inl h2
  · exact .inr ⟨g, cap, cur, hv, by omega, r⟩
theorem nd_one (t v n : Int) (s : ByteArray) : ∀ u ∈ nd t v n s, u.oneCell' = true := by
  intro u hu
  simp [nd] at hu
  rcases hu with rfl | rfl | rfl | rfl <;> rfl

theorem news_new {w : World} {B : Nat} (hB : w.heap.size = B) (cs : Array Value) (t : TypeId) : ∀ j u, cs.toList[j]? = some u → (w.alloc (.cells cs t)).cell? ((⟨B, 0, none⟩ : Addr).add j) = some u := by
  subst hB
  exact World.news_of_block (heap_new w _)
theorem app24 {w : World} {ops : Array Oper} {rest : List Oper} {o : Oper} {a : Act} {Q : Exit → Act → World → Prop} (hgd : o.guard = none) (s x : Operand)
    (ho : o.op = .call { callee := .builtin .append, args := #[s, x], argTypes := #[24, 24] }) (base : Nat) (v : Value) (n : Nat) (xs : List Value) (hs : a.eval s = v) (hown : w.ownsRow base 41 4 v n xs)
    (ad : Addr) (m c : Nat) (news : List Value) (hx : a.eval x = .slice (some ad) m c) (hl : news.length = m * 4) (hnews : ∀ j u, news[j]? = some u → w.cell? (ad.add j) = some u) (h1 : ∀ u ∈ news, u.oneCell' = true) (hm : 0 < m) (hsm : n + m ≤ 1000000) (hbase : base ≤ w.heap.size)
    (h : ∀ g cap w', w'.ownsRow base 41 4 (.slice (some ⟨g, 0, none⟩) (n + m) cap) (n + m) (xs ++ news) → w.grownBy w' v.ownBlock → (v.ownBlock = some g ∨ g = w.heap.size) → g < w'.heap.size → wpList Try.prog ops Q rest (a.put o.dst (.slice (some ⟨g, 0, none⟩) (n + m) cap)) w') : wpList Try.prog ops Q (o :: rest) a w := by
  obtain ⟨i0, hi, hz0, hz1, hz2⟩ := info_parts info41
  exact wpList_append_lies w hgd s x 24 ho base 41 i0 _ 4 40 Try.underlying24 hi hz0 hz1 hz2 rfl (by decide) v n xs hs hown ad m c news hx hl hnews h1 hm (by unfold maxLen; omega) (by omega) hbase _ rfl h
theorem step24 {w : World} {ops : Array Oper} {o : Oper} {a : Act} {K : Act → World → Prop} {Q : Exit → Act → World → Prop} {E : Prop} (hgd : o.guard = none) (s x : Operand)
    (ho : o.op = .call { callee := .builtin .append, args := #[s, x], argTypes := #[24, 24] }) (base : Nat) (v : Value) (n : Nat) (xs : List Value) (hs : a.eval s = v) (hown : w.ownsRow base 41 4 v n xs)
    (ad : Addr) (m c : Nat) (news : List Value) (hx : a.eval x = .slice (some ad) m c) (hl : news.length = m * 4) (hnews : ∀ j u, news[j]? = some u → w.cell? (ad.add j) = some u) (h1 : ∀ u ∈ news, u.oneCell' = true) (hm : 0 < m) (hsm : n + m ≤ 1000000) (hbase : base ≤ w.heap.size)
    (h : ∀ g cap w', w'.ownsRow base 41 4 (.slice (some ⟨g, 0, none⟩) (n + m) cap) (n + m) (xs ++ news) → w.grownBy w' v.ownBlock → (v.ownBlock = some g ∨ g = w.heap.size) → g < w'.heap.size → K (a.put o.dst (.slice (some ⟨g, 0, none⟩) (n + m) cap)) w') :
    if Region.wanted o (yielded ops a.tmps) = true then Oper.wp Try.prog o a w K Q else E := by
  obtain ⟨i0, hi, hz0, hz1, hz2⟩ := info_parts info41
  exact step_append_lies w hgd s x 24 ho base 41 i0 _ 4 40 Try.underlying24 hi hz0 hz1 hz2 rfl (by decide) v n xs hs hown ad m c news hx hl hnews h1 hm (by unfold maxLen; omega) (by omega) hbase _ rfl h
theorem app31 {w : World} {ops : Array Oper} {rest : List Oper} {o : Oper} {a : Act} {Q : Exit → Act → World → Prop} (hgd : o.guard = none) (s x : Operand)
    (ho : o.op = .call { callee := .builtin .append, args := #[s, x], argTypes := #[31, 31] }) (base : Nat) (v : Value) (n : Nat) (xs : List Value) (hs : a.eval s = v) (hown : w.ownsRow base 47 5 v n xs)
    (ad : Addr) (m c : Nat) (news : List Value) (hx : a.eval x = .slice (some ad) m c) (hl : news.length = m * 5) (hnews : ∀ j u, news[j]? = some u → w.cell? (ad.add j) = some u) (h1 : ∀ u ∈ news, u.oneCell' = true) (hm : 0 < m) (hsm : n + m ≤ 1000000) (hbase : base ≤ w.heap.size)
    (h : ∀ g cap w', w'.ownsRow base 47 5 (.slice (some ⟨g, 0, none⟩) (n + m) cap) (n + m) (xs ++ news) → w.grownBy w' v.ownBlock → (v.ownBlock = some g ∨ g = w.heap.size) → g < w'.heap.size → wpList Try.prog ops Q rest (a.put o.dst (.slice (some ⟨g, 0, none⟩) (n + m) cap)) w') : wpList Try.prog ops Q (o :: rest) a w := by
  obtain ⟨i0, hi, hz0, hz1, hz2⟩ := info_parts info47
  exact wpList_append_lies w hgd s x 31 ho base 47 i0 _ 5 48 Try.underlying31 hi hz0 hz1 hz2 rfl (by decide) v n xs hs hown ad m c news hx hl hnews h1 hm (by unfold maxLen; omega) (by omega) hbase _ rfl h
theorem step31 {w : World} {ops : Array Oper} {o : Oper} {a : Act} {K : Act → World → Prop} {Q : Exit → Act → World → Prop} {E : Prop} (hgd : o.guard = none) (s x : Operand)
    (ho : o.op = .call { callee := .builtin .append, args := #[s, x], argTypes := #[31, 31] }) (base : Nat) (v : Value) (n : Nat) (xs : List Value) (hs : a.eval s = v) (hown : w.ownsRow base 47 5 v n xs)
    (ad : Addr) (m c : Nat) (news : List Value) (hx : a.eval x = .slice (some ad) m c) (hl : news.length = m * 5) (hnews : ∀ j u, news[j]? = some u → w.cell? (ad.add j) = some u) (h1 : ∀ u ∈ news, u.oneCell' = true) (hm : 0 < m) (hsm : n + m ≤ 1000000) (hbase : base ≤ w.heap.size)
    (h : ∀ g cap w', w'.ownsRow base 47 5 (.slice (some ⟨g, 0, none⟩) (n + m) cap) (n + m) (xs ++ news) → w.grownBy w' v.ownBlock → (v.ownBlock = some g ∨ g = w.heap.size) → g < w'.heap.size → K (a.put o.dst (.slice (some ⟨g, 0, none⟩) (n + m) cap)) w') :
    if Region.wanted o (yielded ops a.tmps) = true then Oper.wp Try.prog o a w K Q else E := by
  obtain ⟨i0, hi, hz0, hz1, hz2⟩ := info_parts info47
  exact step_append_lies w hgd s x 31 ho base 47 i0 _ 5 48 Try.underlying31 hi hz0 hz1 hz2 rfl (by decide) v n xs hs hown ad m c news hx hl hnews h1 hm (by unfold maxLen; omega) (by omega) hbase _ rfl h

structure BkI (w : World) (p : Int) (g : Nat) (i : Nat) (v : Value) (wx : World) : Prop where
  own : wx.ownsRow (w.heap.size + 1) 41 4 v (sel p i).length (bk p i)
  tb : Tb g wx
  sz : w.heap.size + 1 ≤ wx.heap.size
  b : Below w.heap.size w wx

theorem BkI.app {w wr W' : World} {p : Int} {g i : Nat} {v v' : Value} {o1 o2 : Obj} (h : BkI w p g i v wr) (hg : g = w.heap.size) (hp : pl i = p) (ho : W'.ownsRow (w.heap.size + 1) 41 4 v' ((sel p i).length + 1) (bk p i ++ nd (tg i) (vr i) 0 ⟨#[]⟩)) (hgr : ((wr.alloc o1).alloc o2).grownBy W' v.ownBlock) : BkI w p g (i + 1) v' W' := by
  have hb1 : Below wr.heap.size wr ((wr.alloc o1).alloc o2) := ((Below.refl _ _).alloc (Nat.le_refl _) _).alloc (by simp) _
  have hsz := h.sz
  have hrow : ∀ k, v.ownBlock = some k → w.heap.size + 1 ≤ k := fun k hk => (h.own.lt k hk).1
  refine ⟨?_, ?_, ?_, ?_⟩
  · rw [sel_yes hp, bk_yes hp]; exact ho
  · have hlt := h.tb.lt
    have ht1 := h.tb.on hb1
    have : W'.heap[g]? = ((wr.alloc o1).alloc o2).heap[g]? := hgr.block g (Nat.lt_of_lt_of_le hlt hb1.size) (fun e => by have := hrow g e.symm; omega)
    exact this.trans ht1
  · exact Nat.le_trans hsz (Nat.le_trans hb1.size hgr.size)
  · exact (h.b.trans (hb1.mono h.b.size)).grown hgr (Nat.le_trans h.b.size hb1.size) (fun k hk => by have := hrow k hk; omega)
theorem BkI.skip {w wr : World} {p : Int} {g i : Nat} {v : Value} {o : Obj} (h : BkI w p g i v wr) (hp : ¬ pl i = p) : BkI w p g (i + 1) v (wr.alloc o) := by
  have hb1 : Below wr.heap.size wr (wr.alloc o) := (Below.refl _ _).alloc (Nat.le_refl _) _
  refine ⟨?_, h.tb.on hb1, Nat.le_trans h.sz hb1.size, h.b.trans (hb1.mono h.b.size)⟩
  unfold bk
  rw [sel_succ, if_neg hp]
  exact ownsRow_below h.own hb1 (Nat.le_refl _)

theorem BkI.start {w W : World} {p : Int} (h : W = w.alloc (.cells atC 51)) : BkI w p w.heap.size 0 (.slice none 0 0) W := by
  subst h
  exact ⟨World.ownsRow_nil _ _ _ _, heap_new w _, by rw [size_alloc]; exact Nat.le_refl _, (Below.refl _ _).alloc (Nat.le_refl _) _⟩

set_option maxRecDepth 100000 in
set_option maxHeartbeats 1000000 in
theorem blank_any (w : World) (p : Int) : Calls Try.prog 9 #[.int .i64 p] w fun e w' => ∃ v, e = .returned v ∧ w'.ownsRow w.heap.size 41 4 v (sel p 21).length (bk p 21) ∧ Below w.heap.size w w' := by
  obtain ⟨i0, hi, hz0, hz1, hz2⟩ := info_parts info41
  have HA : Hid _ := attrs_any w
  go_enter Try.func9, Try.ntmps9
  go_wp2_with (go_at_call 14; refine Calls.mono HA.out ?_; rintro e W ⟨rfl, hW⟩; have hT : Hid (BkI w p w.heap.size 0 (.slice none 0 0) W) := BkI.start hW; clear hW)
  clear HA
  go_loopw [3, 8] (fun s3 s8 wx => ∃ i : Nat, s8 = .int .i64 (i : Int) ∧ i ≤ 21 ∧ Hid (BkI w p w.heap.size i s3 wx)) (fun _ s8 _ => 21 - (intOf s8).toNat)
  case atStart => exact ⟨0, rfl, by omega, hT⟩
  case round =>
    obtain ⟨i, rfl, hi21, HI⟩ := hrel
    clear hT
    by_cases hin : i < 21
    · obtain ⟨c0, c1, c2, c3⟩ := HI.out.tb.cells hin
      have hI : (i : Int) < 21 := by omega
      have hff := fn_form i hin
      obtain ⟨f, hf⟩ : ∃ f, fn i = f := ⟨_, rfl⟩
      rw [hf] at hff c3
      clear hf
      have hll := sel_le p i
      have hsz := HI.out.sz
      have hfo : f.oneCell' = true := by rcases hff with rfl | ⟨k, rfl⟩ <;> rfl
      by_cases hp : pl i = p
      · have HP : Hid (pl i = p) := hp
        rcases hff with rfl | ⟨k, rfl⟩
        · go_wp2_with (at_builtin; refine Stop.mk ?_)
          refine Stop.out (app24 rfl (.tmp 16) (.tmp 22) rfl (w.heap.size + 1) u3 _ _ rfl (World.ownsRow.alloc (World.ownsRow.alloc HI.out.own _) _) ⟨wr.heap.size + 1, 0, none⟩ 1 1 (nd (tg i) (vr i) 0 ⟨#[]⟩) rfl rfl (news_new (by rw [size_alloc]) _ _) (nd_one _ _ _ _) (by decide) (by omega) (by rw [size_alloc, size_alloc]; omega) ?_)
          intro g9 c9 W9 ho9 hg9 _ _
          have HI9 : Hid (BkI w p w.heap.size (i + 1) (.slice (some ⟨g9, 0, none⟩) ((sel p i).length + 1) c9) W9) := HI.out.app rfl HP.out ho9 hg9
          clear ho9 hg9
          go_wp2
          go_roundw
          case rel => exact ⟨i + 1, by go_num, by omega, HI9⟩
          case measure => simp [intOf]; omega
        · go_wp2_with (at_builtin; refine Stop.mk ?_)
          refine Stop.out (app24 rfl (.tmp 16) (.tmp 22) rfl (w.heap.size + 1) u3 _ _ rfl (World.ownsRow.alloc (World.ownsRow.alloc HI.out.own _) _) ⟨wr.heap.size + 1, 0, none⟩ 1 1 (nd (tg i) (vr i) 0 ⟨#[]⟩) rfl rfl (news_new (by rw [size_alloc]) _ _) (nd_one _ _ _ _) (by decide) (by omega) (by rw [size_alloc, size_alloc]; omega) ?_)
          intro g9 c9 W9 ho9 hg9 _ _
          have HI9 : Hid (BkI w p w.heap.size (i + 1) (.slice (some ⟨g9, 0, none⟩) ((sel p i).length + 1) c9) W9) := HI.out.app rfl HP.out ho9 hg9
          clear ho9 hg9
          go_wp2
          go_roundw
          case rel => exact ⟨i + 1, by go_num, by omega, HI9⟩
          case measure => simp [intOf]; omega
      · have HP : Hid (¬ pl i = p) := hp
        rcases hff with rfl | ⟨k, rfl⟩
        · go_wp2
          go_roundw
          case rel => exact ⟨i + 1, by go_num, by omega, HI.out.skip HP.out⟩
          case measure => simp [intOf]; omega
        · go_wp2
          go_roundw
          case rel => exact ⟨i + 1, by go_num, by omega, HI.out.skip HP.out⟩
          case measure => simp [intOf]; omega
    · obtain rfl : i = 21 := by omega
      go_wp2
      go_ret
      exact ⟨_, rfl, own_base HI.out.own (by omega), HI.out.b⟩

/-- The next element, where one has no items. -/
theorem next_one (w : World) (g i n cap : Nat) (hin : i < n) (hn : n ≤ 1000000) (hc : w.cell? ⟨g, i * 4 + 2, none⟩ = some (.int .i64 0)) :
    Calls Try.prog 15 #[.slice (some ⟨g, 0, none⟩) n cap, .int .i64 (i : Int)] w fun e w' => e = .returned (.int .i64 ((i + 1 : Nat) : Int)) ∧ w = w' := by
  have h1 : ¬ (i : Int) < 0 := by omega
  have h2 : (i : Int) < (n : Int) := by omega
  have h3 : ¬ (n : Int) ≤ (i : Int) := by omega
  have hmx : max (0 : Int) 0 = 0 := rfl
  go_enter Try.func15, Try.ntmps15
  go_wp2
  go_loop [1, 5] (fun s1 s5 => (s1 = .int .i64 (i : Int) ∧ s5 = .int .i64 1) ∨ (s1 = .int .i64 ((i + 1 : Nat) : Int) ∧ s5 = .int .i64 0)) (fun _ s5 => (intOf s5).toNat)
  case atStart => exact .inl ⟨rfl, rfl⟩
  case round =>
    rcases hrel with ⟨rfl, rfl⟩ | ⟨rfl, rfl⟩
    · go_wp2
      go_round
      case rel => exact .inr ⟨by go_num, by go_num⟩
      case measure => simp [intOf]
    · go_wp2
      all_goals go_wp2
      all_goals go_ret
      all_goals exact ⟨rfl, rfl⟩
end Go.Proofs.Ytidcjobokfgeoaa
