
import Derived.Test.YtegfgbcimlacbaaGreatDoorTg
import Derived.Test.YtegfgbcimlacbaaGreatDoorTd
/-
  DERIVED. A rune put behind what is written, in the first repertoire that has it.
-/
namespace Go.Proofs.YtegfgbcimlacbaaGreatDoor
open Go Go.Proofs Go.RowKit

theorem firstB_find (r : Int) : ∀ (R : List Row) (b : Row), R.find? (fun b => !(byteOf b.1 r == 0)) = some b → firstB r R = byteOf b.1 r
  | [], b, h => by simp at h
  | a :: R, b, h => by
    rw [List.find?_cons] at h
    by_cases ha : byteOf a.1 r = 0
    · simp only [ha] at h
      rw [firstB, if_pos ha]
      exact firstB_find r R b (by simpa using h)
    · have : (!(byteOf a.1 r == 0)) = true := by simpa using ha
      simp only [this] at h
      cases h
      rw [firstB, if_neg ha]
/-- What is written for a rune of another repertoire: its escape, its byte. -/
def escZ (b : Row) (r : Int) : List Int := (sp (3 * b.1 + 2)).data.toList.map (fun b => (b.toNat : Int)) ++ [(byteOf b.1 r : Int)]
theorem escZ_bytes (b : Row) (r : Int) : ∀ z ∈ escZ b r, 0 ≤ z ∧ z < 256 := by
  intro z hz
  unfold escZ at hz
  rw [List.mem_append] at hz
  rcases hz with hz | hz
  · rw [List.mem_map] at hz
    obtain ⟨c, _, rfl⟩ := hz
    have := c.toNat_lt
    omega
  · simp at hz
    have := byte_lt b.1 r
    omega

theorem own_some {W : World} {base n : Nat} {v : Value} {xs : List Value} (h : W.ownsRow base 5 1 v (n + 3) xs) : ∃ g cap, v = .slice (some ⟨g, 0, none⟩) (n + 3) cap := by
  rcases h.2 with ⟨_, h0⟩ | ⟨g, cap, cur, hv, _⟩
  · omega
  · exact ⟨g, cap, hv⟩
theorem cellsZ_app (x y : List Int) : cellsZ (x ++ y) = cellsZ x ++ cellsZ y := by
  unfold cellsZ
  rw [List.map_append]

set_option maxRecDepth 100000 in
set_option maxHeartbeats 4000000 in
/-- In the first repertoire that has it. -/
theorem put_first (w : World) (q : Nat) (v u : Value) (a : Row) (R : List Row) (x : Bool) (h : Row) (i base : Nat) (out : List Int) (r : Int) (hr0 : -2147483648 ≤ r) (hr1 : r < 2147483648) (hset : SetIn w q v (a :: R) x) (hu : a.1 ≠ 6) (hm : (a :: R)[i]? = some h) (h7 : h.1 < 7) (hb : byteOf h.1 r = 0) (hR6 : (a :: R).length ≤ 6) (hN7 : ∀ r ∈ a :: R, r.1 < 7) (b : Row) (hfd : (a :: R).find? (fun b => !(byteOf b.1 r == 0)) = some b) (he3 : (sp (3 * b.1 + 2)).size = 3) (hT : Tabs w) (hq : 5 < q)
    (hown : w.ownsRow base 5 1 u out.length (cellsZ out)) (hne : u = .slice none 0 0 ∨ 0 < out.length) (hlen : out.length ≤ 300000) (hbase : base ≤ w.heap.size) (hfar : ∀ r ∈ a :: R, r.2.2 + 1 < base) :
    Calls Tryz.prog 37 #[.pointer (some ⟨q, 0, none⟩), u, rowV h, .int .i32 r] w fun e w' => ∃ v', e = .returned (.tuple #[v', rowV b]) ∧ w'.ownsRow base 5 1 v' (out ++ escZ b r).length (cellsZ (out ++ escZ b r)) ∧ SetIn w' q v (a :: R) x ∧ KB (a :: R) base w w' := by
  obtain ⟨i0, hi, hz0, hz1, hz2⟩ := info_parts Tryz.info5
  obtain ⟨ua, uc, hue⟩ : ∃ ua uc, u = .slice ua out.length uc := by
    rcases hown.2 with ⟨rfl, h0⟩ | ⟨g, cap, cur, hv, _⟩
    · exact ⟨none, 0, by rw [h0]⟩
    · exact ⟨_, _, hv⟩
  have c37 := fun W hW => univ_any W q v a R x (hset.on hW)
  have hu6 : (a.1 == 6) = false := by simpa using hu
  rw [hu6] at c37
  obtain ⟨W1, hW1⟩ : ∃ W1, w.alloc (.cells #[.int .i64 (h.1 : Int), .string h.2.1, .string (sp (3 * h.1 + 2)), .func (.func (mfN h.1)) #[] #[], .func (.func 75) #[] (caps h.2.2)] 82) = W1 := ⟨_, rfl⟩
  obtain ⟨W2, hW2⟩ : ∃ W2, W1.alloc (.cells #[.int .i64 0, .string ⟨#[]⟩, .string ⟨#[]⟩, .nilFunc, .nilFunc] 82) = W2 := ⟨_, rfl⟩
  have hb1 : Below w.heap.size w W1 := hW1 ▸ (Below.refl _ _).alloc (Nat.le_refl _) _
  have hb2 : Below W1.heap.size W1 W2 := hW2 ▸ (Below.refl _ _).alloc (Nat.le_refl _) _
  have hb12 : Below w.heap.size w W2 := hb1.trans (hb2.mono hb1.size)
  have hs1 : W1.heap.size = w.heap.size + 1 := by rw [← hW1]; simp
  have hs2 : W2.heap.size = w.heap.size + 2 := by rw [← hW2]; simp; omega
  have hr1' : Row5 W1 w.heap.size 0 h := hW1 ▸ Row5.new w h
  have HR2 : Hid (Row5 W2 w.heap.size 0 h) := hr1'.on hb2 (by omega)
  have hset2 := hset.on hb12
  have HS2 : Hid (SetIn W2 q v (a :: R) x) := hset2
  have HT2 : Hid (Tabs W2) := hT.on hb12
  have cB := byte_any W2 h.2.2 h.1 h7 r hr0 hr1 (hset2.st h (List.mem_of_getElem? hm)).1 (hT.on hb12) (by have := (hset2.st h (List.mem_of_getElem? hm)).2; omega)
  have cU := c37 W2 hb12
  have hown2 := ownsRow_below hown hb12 (Nat.le_refl _)
  have hP : ∀ i, W2.frozen? ⟨w.heap.size + 1, i, none⟩ = false := fun i => by rw [← hW2, ← hs1]; simp
  have z0 : W2.cell? ⟨w.heap.size + 1, 0, none⟩ = some (.int .i64 0) := by rw [← hW2, ← hs1]; simp
  have z1 : W2.cell? ⟨w.heap.size + 1, 1, none⟩ = some (.string ⟨#[]⟩) := by rw [← hW2, ← hs1]; simp
  have z2 : W2.cell? ⟨w.heap.size + 1, 2, none⟩ = some (.string ⟨#[]⟩) := by rw [← hW2, ← hs1]; simp
  have z3 : W2.cell? ⟨w.heap.size + 1, 3, none⟩ = some .nilFunc := by rw [← hW2, ← hs1]; simp
  have z4 : W2.cell? ⟨w.heap.size + 1, 4, none⟩ = some .nilFunc := by rw [← hW2, ← hs1]; simp
  have HP1 : Hid (∀ W : World, W2.heap[w.heap.size + 1]? = W.heap[w.heap.size + 1]? → (W.cell? ⟨w.heap.size + 1, 0, none⟩ = some (.int .i64 0) ∧ W.cell? ⟨w.heap.size + 1, 1, none⟩ = some (.string ⟨#[]⟩) ∧ W.cell? ⟨w.heap.size + 1, 2, none⟩ = some (.string ⟨#[]⟩) ∧ W.cell? ⟨w.heap.size + 1, 3, none⟩ = some .nilFunc ∧ W.cell? ⟨w.heap.size + 1, 4, none⟩ = some .nilFunc) ∧ ∀ i, W.frozen? ⟨w.heap.size + 1, i, none⟩ = false) := fun W hW =>
    ⟨⟨(World.cell?_of_block hW.symm).trans z0, (World.cell?_of_block hW.symm).trans z1, (World.cell?_of_block hW.symm).trans z2, (World.cell?_of_block hW.symm).trans z3, (World.cell?_of_block hW.symm).trans z4⟩, fun i => (World.frozen?_of_block hW.symm).trans (hP i)⟩
  have HP0 : Hid (∀ W : World, W2.heap[w.heap.size]? = W.heap[w.heap.size]? → Row5 W w.heap.size 0 h) := fun W hW =>
    ⟨(World.cell?_of_block hW.symm).trans HR2.out.c0, (World.cell?_of_block hW.symm).trans HR2.out.c1, (World.cell?_of_block hW.symm).trans HR2.out.c2, (World.cell?_of_block hW.symm).trans HR2.out.c3, (World.cell?_of_block hW.symm).trans HR2.out.c4⟩
  obtain ⟨y0, y1, y2, y3, y4⟩ := HR2.out
  obtain ⟨n, hn⟩ : ∃ n, out.length = n := ⟨_, rfl⟩
  subst hue
  have HN : Hid _ := hn
  have HOW2 : Hid (W2.ownsRow base 5 1 (.slice ua out.length uc) out.length (cellsZ out)) := hown2
  have HGL : Hid (∀ g, (Value.slice ua out.length uc).ownBlock = some g → g < w.heap.size) := fun g hg => (hown.lt g hg).2
  have HSET : Hid _ := hset
  have HB12 : Hid _ := hb12
  have HFAR : Hid _ := hfar
  have HNE : Hid _ := hne
  have HM : Hid _ := hm
  have hfb : firstB r (a :: R) = byteOf b.1 r := firstB_find r _ b hfd
  have HFD : Hid _ := hfd
  have HL : Hid (escZ b r = (sp (3 * b.1 + 2)).data.toList.map (fun b => (b.toNat : Int)) ++ [(byteOf b.1 r : Int)]) := rfl
  have c39 : Hid (∀ W, SetIn W q v (a :: R) x → Tabs W → _) := fun W h1 h2 => first_row W q v (a :: R) x r hr0 hr1 h1 hR6 hN7 h2 hq
  rw [hfb] at c39
  have h5R : Hid (∀ r ∈ a :: R, 5 < r.2.2) := fun r hr => Nat.lt_trans hq (hset.st r hr).2
  have hbl : byteOf b.1 r < 256 := byte_lt _ _
  have HZE : Hid (∀ z ∈ escZ b r, 0 ≤ z ∧ z < 256) := escZ_bytes b r
  obtain ⟨bb, hbb⟩ : ∃ bb, byteOf b.1 r = bb := ⟨_, rfl⟩
  rw [hbb] at c39 HL hbl
  rw [hb] at cB
  rw [hn] at hlen ⊢
  obtain ⟨L, hL⟩ : ∃ L, escZ b r = L := ⟨_, rfl⟩
  rw [hL] at HL HZE ⊢
  obtain ⟨bv, hbv⟩ : ∃ bv, rowV b = bv := ⟨_, rfl⟩
  have HBV : Hid _ := hbv
  rw [hbv]
  unfold rowV
  unfold caps at hW1 y4 ⊢
  clear hset2 hown2 hset hb1 hb2 hb12 hr1' hT c37 hu hu6 hfar hne hown hP z0 z1 z2 z3 z4 hb hbb hn hm hfd hfb hR6 hN7 hL hbv
  go_enter Tryz.func37, Tryz.ntmps37
  go_wp2_with (first | (go_at_call 49; refine cU.mono ?_; rintro e W9 ⟨rfl, rfl⟩) | (go_at_call 75; refine Stop.mk ?_))
  refine Stop.out (cB.mono ?_)
  rintro e W3 ⟨rfl, hst3, hg3⟩
  obtain ⟨hs3, hk3⟩ := HS2.out.asked HM.out hst3 hg3
  have HS3 : Hid (SetIn W3 q v (a :: R) x) := hs3
  have HK3 : Hid (Keep (a :: R) W2 W3) := hk3
  have c4 := c39.out W3 hs3 (hk3.tabs HT2.out h5R.out)
  have hs23 := hk3.size
  clear hs3 hk3 hst3 hg3 cB cU y0 y1 y2 y3 y4 c39
  go_wp2_with (first | (go_at_call 51; refine Stop.mk ?_))
  refine Stop.out (c4.mono ?_)
  rintro e W4 ⟨av, rfl, hfr, hs4, hk4⟩
  have hav : av = rowV b := by
    rcases hfr with ⟨b', h1, h2⟩ | h1
    · rw [HFD.out] at h1; cases h1; exact h2
    · rw [HFD.out] at h1; cases h1
  subst hav
  have HK4 : Hid (Keep (a :: R) W2 W4) := HK3.out.trans hk4
  have hs24 := HK4.out.size
  have hne1 : ∀ b ∈ a :: R, w.heap.size + 1 ≠ b.2.2 + 1 := fun b hb => by have := HFAR.out b hb; omega
  have q1 := HK4.out.block (w.heap.size + 1) (by omega) hne1
  have hown4 : W4.ownsRow base 5 1 (.slice ua n uc) n (cellsZ out) := by
    have h1 := HOW2.out
    rw [HN.out] at h1
    refine own_keep h1 (fun g hg => HK4.out.block g (World.ownsRow.lt h1 g hg).2 (fun b hb => ?_))
    have := HFAR.out b hb
    have := (World.ownsRow.lt h1 g hg).1
    omega
  obtain ⟨W5, hW5⟩ : ∃ W5, W4.alloc (.cells #[.int .i64 (b.1 : Int), .string b.2.1, .string (sp (3 * b.1 + 2)), .func (.func (mfN b.1)) #[] #[], .func (.func 75) #[] (caps b.2.2)] 82) = W5 := ⟨_, rfl⟩
  have hb5 : Below W4.heap.size W4 W5 := hW5 ▸ (Below.refl _ _).alloc (Nat.le_refl _) _
  have hs5 : W5.heap.size = W4.heap.size + 1 := by rw [← hW5]; simp
  have hrow5 : Row5 W5 W4.heap.size 0 b := hW5 ▸ Row5.new W4 b
  obtain ⟨⟨p0, p1, p2, p3, p4⟩, pf⟩ := HP1.out W4 q1.symm
  have HPW : Hid (PW w base q v a R x (w.heap.size + 1) W4.heap.size b W5) := by
    have e1 : W5.heap[w.heap.size + 1]? = W4.heap[w.heap.size + 1]? := hb5.block _ (by omega)
    exact ⟨(World.cell?_of_block e1).trans p0, (World.cell?_of_block e1).trans p1, (World.cell?_of_block e1).trans p2, (World.cell?_of_block e1).trans p3, (World.cell?_of_block e1).trans p4, fun j => (World.frozen?_of_block e1).trans (pf j), hrow5, hs4.on hb5, ((KB.of_below (HB12.out.mono hbase)).trans (KB.of_keep HK4.out (by omega))).trans (KB.of_below (hb5.mono (by omega))), by omega⟩
  have HO5 : Hid (W5.ownsRow base 5 1 (.slice ua n uc) n (cellsZ out)) := ownsRow_below hown4 hb5 (Nat.le_refl _)
  have HGL5 : Hid (∀ g, (Value.slice ua n uc).ownBlock = some g → g < W5.heap.size) := fun g hg => (World.ownsRow.lt HO5.out g hg).2
  have HNE5 : Hid (Value.slice ua n uc = .slice none 0 0 ∨ 0 < out.length) := by have := HNE.out; rw [HN.out] at this; show _ ∨ _; rw [HN.out]; exact this
  have HW6 : Hid (∀ (X W6 : World) (v6 : Value), X.grownBy W6 (Value.slice ua n uc).ownBlock → W6.ownsRow base 5 1 v6 (n + 3) (cellsZ out ++ Lib.strCells (sp (3 * b.1 + 2))) → Below W5.heap.size W5 X → PW w base q v a R x (w.heap.size + 1) W4.heap.size b W6 ∧ base ≤ W6.heap.size ∧ W5.heap.size ≤ W6.heap.size ∧ (∀ j, W5.heap.size ≤ j → j < X.heap.size → W6.heap[j]? = X.heap[j]?)) := fun X W6 v6 hg ho hX => by
    have hownX : X.ownsRow base 5 1 (.slice ua n uc) out.length (cellsZ out) := by rw [HN.out]; exact ownsRow_below HO5.out hX (Nat.le_refl _)
    have h6 := (HPW.out.below hX).grown (u := .slice ua n uc) hownX HNE5.out hg
    refine ⟨h6, h6.bs, Nat.le_trans hX.size hg.size, fun j hj hjX => hg.block j hjX (fun e => ?_)⟩
    have := HGL5.out j e.symm
    omega
  obtain ⟨E, hE⟩ : ∃ E, sp (3 * b.1 + 2) = E := ⟨_, rfl⟩
  obtain ⟨r0, r1, r2, r3, r4⟩ := HPW.out.r
  have HBS5 := HPW.out.bs
  have H63 : n + E.size ≤ maxLen := by rw [← hE, he3]; unfold maxLen; omega
  have HBY : n + E.size ≤ 140737488355328 := by rw [← hE, he3]; omega
  rw [hE] at HW6 r2 he3 hW5 HL
  unfold caps at hW5 r4
  clear hb5 hfr hs4 hk4 c4 q1 hne1 hown4 hrow5 p0 p1 p2 p3 p4 pf
  unfold rowV caps
  rw [hE]
  go_wp2
  clear hW5
  have oa0 := fun ob => cell_alloc (o := ob) r0
  have oa1 := fun ob => cell_alloc (o := ob) r1
  have oa2 := fun ob => cell_alloc (o := ob) r2
  have oa3 := fun ob => cell_alloc (o := ob) r3
  have oa4 := fun ob => cell_alloc (o := ob) r4
  have H631 : n + 3 + 1 ≤ maxLen := by unfold maxLen; omega
  have HBY1 : (n + 3 + 1) * 1 ≤ 140737488355328 := by omega
  have HW7 : Hid (∀ (X W6 W7 : World) (v6 : Value), PW w base q v a R x (w.heap.size + 1) W4.heap.size b W6 → W6.ownsRow base 5 1 v6 (n + 3) (cellsZ out ++ Lib.strCells E) → X.grownBy W7 v6.ownBlock → Below W6.heap.size W6 X → PW w base q v a R x (w.heap.size + 1) W4.heap.size b W7) := fun X W6 W7 v6 hp ho hg hX => by
    have ho' : W6.ownsRow base 5 1 v6 (out ++ E.data.toList.map (fun b => (b.toNat : Int))).length (cellsZ (out ++ E.data.toList.map (fun b => (b.toNat : Int)))) := by
      rw [cellsZ_app, ← strZ, List.length_append, HN.out, List.length_map, show E.data.toList.length = 3 from he3]
      exact ho
    refine (hp.below hX).grown (u := v6) (ownsRow_below ho' hX (Nat.le_refl _)) (.inr ?_) hg
    rw [List.length_append, List.length_map, show E.data.toList.length = 3 from he3]
    omega
  have HOL : Hid (∀ (W : World) (v7 : Value), W.ownsRow base 5 1 v7 (n + 3 + 1) (cellsZ out ++ Lib.strCells E ++ [.int .u8 (bb : Int)]) → W.ownsRow base 5 1 v7 (out ++ L).length (cellsZ (out ++ L))) := fun W v7 ho => by
    rw [HL.out, cellsZ_app, cellsZ_app, ← strZ, List.length_append, List.length_append, HN.out, List.length_map, show E.data.toList.length = 3 from he3, ← List.append_assoc]
    exact ho
  have HL0 : Hid (0 < (out ++ L).length) := by
    show _ < _
    rw [HL.out, List.length_append, List.length_append, List.length_singleton]
    omega
  go_region_law (first
    | (refine step_append_string _ rfl (.tmp 36) (.tmp 38) 27 9 rfl base 5 i0 Tryz.underlying27 Tryz.underlying9 hi hz0 hz1 hz2 (.slice ua n uc) n (cellsZ out) (by simp [Act.eval]) (by first | exact HO5.out | exact World.ownsRow.alloc HO5.out _) E (by simp [Act.eval]) H63 HBY (by simp; omega) ?_; intro v6 W6 hown6 hgrow6; rw [he3] at hown6; obtain ⟨g6, c6, rfl⟩ := own_some hown6; obtain ⟨hp6, hbs6, hsz6, hx6⟩ := HW6.out _ W6 _ hgrow6 hown6 (by first | exact (Below.refl _ W5).drew | exact ((Below.refl _ W5).alloc (Nat.le_refl _) _).drew | exact ((Below.refl _ W5).drew.alloc (Nat.le_refl _) _)); have HX6 : Hid _ := hx6; have HP6 : Hid _ := hp6; have HO6 : Hid _ := hown6; obtain ⟨k0, k1, k2, k3, k4⟩ := HP6.out.r; rw [hE] at k2; unfold caps at k4; have ka0 := fun ob => cell_alloc (o := ob) k0; have ka1 := fun ob => cell_alloc (o := ob) k1; have ka2 := fun ob => cell_alloc (o := ob) k2; have ka3 := fun ob => cell_alloc (o := ob) k3; have ka4 := fun ob => cell_alloc (o := ob) k4; clear hp6 hown6 hgrow6 hx6)
    | (refine step_append_lies _ rfl (.tmp 39) (.tmp 41) 27 rfl base 5 i0 _ 1 1 Tryz.underlying27 hi hz0 hz1 hz2 rfl (by decide) (.slice (some ⟨g6, 0, none⟩) (n + 3) c6) (n + 3) (cellsZ out ++ Lib.strCells E) (by simp [Act.eval]) (World.ownsRow.alloc HO6.out _) ⟨W6.heap.size, 0, none⟩ 1 1 [.int .u8 (bb : Int)] (by simp [Act.eval]) rfl (World.news_of_block (heap_alloc_new W6 _)) (cells1 bb) (by decide) H631 HBY1 (by simp; omega) _ rfl ?_; intro g7 c7 W7 hown7 hgrow7 hat7 hlt7; have hp7 := HW7.out _ W6 W7 _ HP6.out HO6.out hgrow7 ((Below.refl _ W6).alloc (Nat.le_refl _) _); have HP7 : Hid _ := hp7; have HO7 : Hid (W7.ownsRow base 5 1 (.slice (some ⟨g7, 0, none⟩) (n + 3 + 1) c7) (n + 3 + 1) (cellsZ out ++ Lib.strCells E ++ [.int .u8 (bb : Int)])) := hown7; obtain ⟨l0, l1, l2, l3, l4⟩ := HP7.out.r; rw [hE] at l2; unfold caps at l4; obtain ⟨m0, m1, m2, m3, m4, mf, -, -, -, -⟩ := hp7; clear hown7 hgrow7 hat7 hlt7)
    | (refine step_append_lies _ rfl (.tmp 39) (.tmp 41) 27 rfl base 5 i0 _ 1 1 Tryz.underlying27 hi hz0 hz1 hz2 rfl (by decide) (.slice (some ⟨g6, 0, none⟩) (n + 3) c6) (n + 3) (cellsZ out ++ Lib.strCells E) (by simp [Act.eval]) HO6.out ⟨W5.heap.size, 0, none⟩ 1 1 [.int .u8 (bb : Int)] (by simp [Act.eval]) rfl (World.news_of_block ((HX6.out W5.heap.size (Nat.le_refl _) (by simp)).trans (heap_alloc_new W5 _))) (cells1 bb) (by decide) H631 HBY1 hbs6 _ rfl ?_; intro g7 c7 W7 hown7 hgrow7 hat7 hlt7; have hp7 := HW7.out _ W6 W7 _ HP6.out HO6.out hgrow7 (Below.refl _ W6); have HP7 : Hid _ := hp7; have HO7 : Hid (W7.ownsRow base 5 1 (.slice (some ⟨g7, 0, none⟩) (n + 3 + 1) c7) (n + 3 + 1) (cellsZ out ++ Lib.strCells E ++ [.int .u8 (bb : Int)])) := hown7; obtain ⟨l0, l1, l2, l3, l4⟩ := HP7.out.r; rw [hE] at l2; unfold caps at l4; obtain ⟨m0, m1, m2, m3, m4, mf, -, -, -, -⟩ := hp7; clear hown7 hgrow7 hat7 hlt7))
  all_goals
    have hrow := row_written b m0 m1 m2 m3 m4
    have hgrS := rowSet_grown W7 (w.heap.size + 1) b
    have HSU : Hid (SetIn (rowSet W7 (w.heap.size + 1) b) q v (a :: R) x) := by
      refine HP7.out.st.beside m0 ?_ ?_ (fun j hj hn => hgrS.block j hj (by simp; omega))
      · have := cell_lt HSET.out.c0
        simp only at this
        omega
      · intro g' hg'
        have := (HSET.out.own.lt g' hg').2
        omega
    have HG7 := own_ne (HOL.out _ _ HO7.out) (.inr HL0.out) m0
    have HOU : Hid ((rowSet W7 (w.heap.size + 1) b).ownsRow base 5 1 (.slice (some ⟨g7, 0, none⟩) (n + 3 + 1) c7) (out ++ L).length (cellsZ (out ++ L))) := HOL.out _ _ (World.ownsRow.kept HO7.out hgrS (.inr (fun e => HG7 e.symm)))
    have HKU : Hid (KB (a :: R) base w (rowSet W7 (w.heap.size + 1) b)) := HP7.out.kb.trans (KB.of_grown hgrS HP7.out.bs (fun r e => by cases e; omega))
    unfold rowSet caps at HSU HOU HKU
    unfold caps at hrow
    rw [hE] at HSU HOU HKU
    obtain ⟨u0, u1, u2, u3, u4⟩ := hrow
    rw [hE] at u0 u1 u2 u3 u4
    clear hgrS m0 m1 m2 m3 m4 mf l0 l1 l2 l3 l4 HG7
    go_wp2
    exact bodyPost_ret (v := .tuple #[.slice (some ⟨g7, 0, none⟩) (n + 3 + 1) c7, .agg #[.int .i64 (b.1 : Int), .string b.2.1, .string E, .func (.func (mfN b.1)) #[] #[], .func (.func 75) #[] #[.pointer (some ⟨b.2.2 + 1 + 1, 0, none⟩), .pointer (some ⟨b.2.2 + 1 + 1 + 1, 0, none⟩)]]]) (by simp only [results, Tryz.results37]; simp [go_sem, u0, u1, u2, u3, u4, caps]) rfl ⟨_, by rw [← HBV.out]; unfold rowV caps; rw [hE], HOU.out, HSU.out, HKU.out⟩

end Go.Proofs.YtegfgbcimlacbaaGreatDoor
