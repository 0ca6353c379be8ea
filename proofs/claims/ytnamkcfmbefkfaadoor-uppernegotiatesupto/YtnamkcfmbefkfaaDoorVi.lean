import Derived.Test.YtnamkcfmbefkfaaDoorVh
namespace Go.Proofs.YtnamkcfmbefkfaaDoor
open Go Go.Proofs Go.RowKit
structure L13 (W1 : World) (B : Nat) (lv : Value) (m : Nat) (xs : List Value) (us : Nat → Value) (i : Nat) (l : Value) (wr : World) : Prop where
  kf : KF (fun b => lv.ownBlock = some b) W1 wr
  own : wr.ownsRow B 55 1 l (m + i) (xs ++ (List.range i).map us)
  at' : ∀ b, l.ownBlock = some b → lv.ownBlock = some b ∨ W1.heap.size ≤ b
  nil : m + i = 0 → l = .slice none 0 0
theorem L13.start {W1 : World} {B m : Nat} {lv : Value} {xs : List Value} (us : Nat → Value) (h : W1.ownsRow B 55 1 lv m xs) (h0 : m = 0 → lv = .slice none 0 0) : L13 W1 B lv m xs us 0 lv W1 := ⟨.refl _ _, by simpa using h, fun _ h => .inl h, h0⟩
theorem L13.step {W1 wr W9 : World} {B m i g9 c9 : Nat} {lv l u : Value} {xs : List Value} {us : Nat → Value} {o : Obj} (h : L13 W1 B lv m xs us i l wr) (hu : us i = u) (ho9 : W9.ownsRow B 55 1 (.slice (some ⟨g9, 0, none⟩) (m + i + 1) c9) (m + i + 1) ((xs ++ (List.range i).map us) ++ [u])) (hg : (wr.alloc o).grownBy W9 l.ownBlock)
    (hd : l = .slice (some ⟨g9, 0, none⟩) (m + i) c9 ∨ ((wr.alloc o).heap.size ≤ g9 ∧ ∀ k, k < (wr.alloc o).heap.size → W9.heap[k]? = (wr.alloc o).heap[k]?)) : L13 W1 B lv m xs us (i + 1) (.slice (some ⟨g9, 0, none⟩) (m + i + 1) c9) W9 := by
  have hz : (wr.alloc o).heap.size = wr.heap.size + 1 := by simp
  have hs := h.kf.size
  have hgs := hg.size
  refine ⟨⟨hg.os.trans h.kf.os, hg.tape.trans h.kf.tape, hg.output.trans h.kf.output, by omega, fun b h1 h2 => ?_⟩, ?_, fun b hb => ?_, fun h => by omega⟩
  · have h3 : l.ownBlock ≠ some b := fun e => by
      rcases h.at' b e with h4 | h4
      · exact h2 h4
      · omega
    exact (hg.block b (by omega) (fun e => h3 e.symm)).trans ((Below.heap_alloc wr o b (by omega)).trans (h.kf.block b h1 h2))
  · rw [List.range_succ, List.map_append, ← List.append_assoc]
    show W9.ownsRow _ _ _ _ _ (_ ++ [us i])
    rw [hu]
    exact ho9
  · obtain rfl : g9 = b := by simpa [Value.ownBlock] using hb
    rcases hd with rfl | ⟨hd, -⟩
    · exact h.at' g9 rfl
    · exact .inr (by omega)
set_option maxRecDepth 100000 in
set_option maxHeartbeats 4000000 in
theorem bytesIn_any (w : World) (k : Int) (c : Fin 18 → Value) (D : PdD) (us : Nat → Value) (cs : Nat → List Nat) (F : Nat → Prop) (B m : Nat) (lv : Value) (xs : List Value) (hB : BYF F 0 w c D us cs) (hF : ∀ b, F b → b < B) (hS : D.vl.length ≤ 1048576 ∧ D.ot.length ≤ 1048576) (h17 : ∃ a p, c 17 = .slice a D.vl.length p) (h13 : ∃ a p, c 13 = .slice a D.ot.length p) (ho : w.ownsRow B 55 1 lv m xs) (h0 : m = 0 → lv = .slice none 0 0) (hm : m ≤ 4398044413952) (hBw : B ≤ w.heap.size) :
    Calls Tryd.prog 24 #[lv, .agg (Pd k c)] w fun e w' => ∃ lv', e = .returned lv' ∧ w'.ownsRow B 55 1 lv' (m + (D.vl.length + D.ot.length)) (xs ++ (List.range (D.vl.length + D.ot.length)).map us) ∧ (m + (D.vl.length + D.ot.length) = 0 → lv' = .slice none 0 0) ∧ Below B w w' := by
  obtain ⟨W1, hW1⟩ : ∃ W1, w.alloc (.cells (Pd k c) 33) = W1 := ⟨_, rfl⟩
  have hb1 : Below w.heap.size w W1 := hW1 ▸ (Below.refl _ _).alloc (Nat.le_refl _) _
  have hp1 : W1.heap[w.heap.size]? = some (.cells (Pd k c) 33) := hW1 ▸ alloc_new w _
  have hs1 : W1.heap.size = w.heap.size + 1 := by rw [← hW1]; simp
  have hq : ∀ i : Fin 18, (Pd k c)[i.val + 1]? = some (c i) := pd_get k c
  generalize Pd k c = PQ at *
  obtain ⟨nv, hnv⟩ : ∃ n, D.vl.length = n := ⟨_, rfl⟩
  obtain ⟨no, hno⟩ : ∃ n, D.ot.length = n := ⟨_, rfl⟩
  obtain ⟨a17, p17, h17⟩ := h17
  obtain ⟨a13, p13, h13⟩ := h13
  rw [hnv] at h17 hS ⊢
  rw [hno] at h13 hS ⊢
  obtain ⟨nvL, noL⟩ := hS
  have hlv : ∀ b, lv.ownBlock = some b → B ≤ b ∧ b < w.heap.size := ho.lt
  have HP : Hid (∀ W : World, W.heap[w.heap.size]? = some (.cells PQ 33) → W.cell? ⟨w.heap.size, 18, none⟩ = some (.slice a17 nv p17) ∧ W.cell? ⟨w.heap.size, 14, none⟩ = some (.slice a13 no p13)) := by
    show ∀ W : World, _
    intro W hW
    refine ⟨?_, ?_⟩
    · rw [cell_of_row W _ _ _ _ _ hW, ← h17]; exact hq 17
    · rw [cell_of_row W _ _ _ _ _ hW, ← h13]; exact hq 13
  have HB : Hid (BYF F 0 w c D us cs) := hB
  have HF : Hid (∀ b, F b → b < B) := hF
  have HN : Hid ((D.vl.length = nv ∧ D.ot.length = no) ∧ c 17 = .slice a17 nv p17 ∧ c 13 = .slice a13 no p13) := ⟨⟨hnv, hno⟩, h17, h13⟩
  have HLV : Hid (∀ b, lv.ownBlock = some b → B ≤ b ∧ b < w.heap.size) := hlv
  have HW : Hid (Below w.heap.size w W1 ∧ W1.heap[w.heap.size]? = some (.cells PQ 33) ∧ W1.heap.size = w.heap.size + 1 ∧ B ≤ w.heap.size) := ⟨hb1, hp1, hs1, hBw⟩
  have HL0 : Hid (L13 W1 B lv m xs us 0 lv W1) := L13.start us (owns_same ho (fun b e => hb1.block b (hlv b e).2)) h0
  have HC : Hid (∀ b, b < B → ∀ l i wr, L13 W1 B lv m xs us i l wr → wr.heap[b]? = w.heap[b]?) := by
    show ∀ b, b < B → _
    intro b hb l i wr h
    exact (h.kf.block b (by omega) (fun e => by have := (hlv b e).1; omega)).trans (hb1.block b (by omega))
  have HPP : Hid (∀ l i wr, L13 W1 B lv m xs us i l wr → wr.heap[w.heap.size]? = some (.cells PQ 33)) := by
    show ∀ l i wr, _
    intro l i wr h
    exact (h.kf.block _ (by omega) (fun e => by have := (hlv _ e).2; omega)).trans hp1
  have y18 := (HP.out W1 hp1).1
  clear hB hF hq hnv hno h17 h13 hb1 hp1 hs1 ho h0 hlv
  go_enter Tryd.func24, Tryd.ntmps24
  go_wp2
  clear hW1
  go_loopw [0, 5] (fun l x wr => ∃ (i : Nat), x = .int .i64 (i : Int) ∧ i ≤ nv ∧ Hid (L13 W1 B lv m xs us i l wr)) (fun _ x _ => nv - (intOf x).toNat)
  case atStart => exact ⟨0, rfl, by omega, HL0⟩
  case round =>
    clear y18 HL0
    obtain ⟨i, rfl, hi, HL⟩ := hrel
    have y18 := (HP.out wr (HPP.out _ _ _ HL.out)).1
    by_cases hin : i < nv
    · have hin2 : ((i : Int) < (nv : Int)) := by omega
      obtain ⟨g, cap, e, e3⟩ := HB.out.v i (by rw [HN.out.1.1]; exact hin)
      have hgB : g < B := HF.out g (HB.out.g17 g (by rw [e]; rfl))
      obtain ⟨rfl, -⟩ : a17 = some ⟨g, 0, none⟩ ∧ True := by have := HN.out.2.1.symm.trans e; simp at this; exact ⟨this.1, trivial⟩
      obtain ⟨ua, uc, hu⟩ := owns_slice (HB.out.own i (by have := HN.out.1.1; omega)).1
      obtain ⟨um, hum⟩ : ∃ m, (cs i).length = m := ⟨_, rfl⟩
      rw [hum] at hu
      have z3 : wr.cell? ⟨g, i * 4 + 3, none⟩ = some (.slice ua um uc) := by
        rw [← hu, ← e3]
        exact World.cell?_of_block (HC.out g hgB _ _ _ HL.out)
      have HU : Hid (us i = .slice ua um uc) := hu
      obtain ⟨i1, hi1, hy0, hy1, hy2⟩ := info_parts Fr.info27
      have hBr : B ≤ wr.heap.size := by have := HL.out.kf.size; have := HW.out.2.2; omega
      clear e e3 hu hum
      go_wp2_with (at_builtin; refine Fr.Stop.mk ?_)
      refine Fr.Stop.out (app_keeps rfl (.tmp 14) (.tmp 21) 77 rfl B 55 i1 _ 1 24 Tryd.underlying77 hi1 hy0 hy1 hy2 rfl (by decide) u0 (m + i) _ rfl (World.ownsRow.alloc HL.out.own _) ⟨wr.heap.size, 0, none⟩ [.slice ua um uc] rfl rfl (World.news_of_block (alloc_new wr _)) (by intro u hu; simp at hu; subst hu; rfl) (by unfold maxLen; omega) (by omega) (by simp; omega) ?_)
      intro g9 c9 W9 ho9 hg9 hd9
      have HL9 : Hid (L13 W1 B lv m xs us (i + 1) (.slice (some ⟨g9, 0, none⟩) (m + i + 1) c9) W9) := HL.out.step HU.out ho9 hg9 hd9
      clear ho9 hg9 hd9 z3 y18
      go_wp2
      go_roundw
      case rel => exact ⟨i + 1, by go_num, by omega, HL9.out⟩
      case measure => simp [intOf]; omega
    · have hin2 : ¬ ((i : Int) < (nv : Int)) := by omega
      obtain rfl : i = nv := by omega
      have y14 := (HP.out wr (HPP.out _ _ _ HL.out)).2
      go_wp2
      go_loopw [0, 6] (fun l x wr => ∃ (j : Nat), x = .int .i64 (j : Int) ∧ j ≤ no ∧ Hid (L13 W1 B lv m xs us (i + j) l wr)) (fun _ x _ => no - (intOf x).toNat)
      case atStart => exact ⟨0, rfl, by omega, HL⟩
      case round =>
        clear y18 y14 HL
        obtain ⟨j, rfl, hj, HL⟩ := hrel
        have y14 := (HP.out wr (HPP.out _ _ _ HL.out)).2
        by_cases hjn : j < no
        · have hjn2 : ((j : Int) < (no : Int)) := by omega
          obtain ⟨g, cap, e, e3⟩ := HB.out.o j (by rw [HN.out.1.2]; exact hjn)
          have hgB : g < B := HF.out g (HB.out.g13 g (by rw [e]; rfl))
          obtain ⟨rfl, -⟩ : a13 = some ⟨g, 0, none⟩ ∧ True := by have := HN.out.2.2.symm.trans e; simp at this; exact ⟨this.1, trivial⟩
          rw [HN.out.1.1] at e3
          obtain ⟨ua, uc, hu⟩ := owns_slice (HB.out.own (i + j) (by have := HN.out.1; omega)).1
          obtain ⟨um, hum⟩ : ∃ m, (cs (i + j)).length = m := ⟨_, rfl⟩
          rw [hum] at hu
          have z3 : wr.cell? ⟨g, j * 2 + 1, none⟩ = some (.slice ua um uc) := by
            rw [← hu, ← e3]
            exact World.cell?_of_block (HC.out g hgB _ _ _ HL.out)
          have HU : Hid (us (i + j) = .slice ua um uc) := hu
          obtain ⟨i1, hi1, hy0, hy1, hy2⟩ := info_parts Fr.info27
          have hBr : B ≤ wr.heap.size := by have := HL.out.kf.size; have := HW.out.2.2; omega
          clear e e3 hu hum
          go_wp2_with (at_builtin; refine Fr.Stop.mk ?_)
          refine Fr.Stop.out (app_keeps rfl (.tmp 32) (.tmp 41) 77 rfl B 55 i1 _ 1 24 Tryd.underlying77 hi1 hy0 hy1 hy2 rfl (by decide) u0 (m + (i + j)) _ rfl (World.ownsRow.alloc HL.out.own _) ⟨wr.heap.size, 0, none⟩ [.slice ua um uc] rfl rfl (World.news_of_block (alloc_new wr _)) (by intro u hu; simp at hu; subst hu; rfl) (by unfold maxLen; omega) (by omega) (by simp; omega) ?_)
          intro g9 c9 W9 ho9 hg9 hd9
          have HL9 : Hid (L13 W1 B lv m xs us (i + j + 1) (.slice (some ⟨g9, 0, none⟩) (m + (i + j) + 1) c9) W9) := HL.out.step HU.out ho9 hg9 hd9
          clear ho9 hg9 hd9 z3 y14
          go_wp2
          go_roundw
          case rel => exact ⟨j + 1, by go_num, by omega, HL9.out⟩
          case measure => simp [intOf]; omega
        · have hjn2 : ¬ ((j : Int) < (no : Int)) := by omega
          obtain rfl : j = no := by omega
          go_wp2
          go_ret
          refine ⟨_, rfl, HL.out.own, (by intros; exact HL.out.nil (by omega)), HL.out.kf.os.trans HW.out.1.os, HL.out.kf.tape.trans HW.out.1.tape, HL.out.kf.output.trans HW.out.1.output, ?_, fun b hb => HC.out b hb _ _ _ HL.out⟩
          have := HL.out.kf.size
          have := HW.out.2.2
          omega
end Go.Proofs.YtnamkcfmbefkfaaDoor
