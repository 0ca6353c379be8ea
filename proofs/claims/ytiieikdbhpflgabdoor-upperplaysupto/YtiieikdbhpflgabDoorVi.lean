import Derived.Test.YtiieikdbhpflgabDoorVg
/-
  DERIVED. The byte strings of many PDUs, gathered; they may be written over.
-/
namespace Go.Proofs.YtiieikdbhpflgabDoor
open Go Go.Proofs Go.RowKit

/-- The byte strings of a PDU, in blocks of this kind. -/
structure BYF (F : Nat → Prop) (base : Nat) (W : World) (c : Fin 18 → Value) (D : PdD) (us : Nat → Value) (cs : Nat → List Nat) : Prop extends BY base W c D us cs where
  g17 : ∀ g, (c 17).ownBlock = some g → F g
  g13 : ∀ g, (c 13).ownBlock = some g → F g
  gu : ∀ i, i < D.vl.length + D.ot.length → ∀ g, (us i).ownBlock = some g → F g
theorem byf_of {F : Nat → Prop} {base : Nat} {W : World} {c : Fin 18 → Value} {D : PdD} (h : OXF F base W c D) (hs : Sml D) : ∃ us cs, BYF F base W c D us cs := by
  obtain ⟨us, cs, hb⟩ := by_of h.toOX hs
  refine ⟨us, cs, hb, fun g e => (h.val.1.blockF h.ft.val g e).1, fun g e => (h.oth.1.blockF h.ft.oth g e).1, fun i hi b e2 => ?_⟩
  by_cases hv : i < D.vl.length
  · obtain ⟨g, cap, e, e3⟩ := hb.v i hv
    exact (h.ft.val g _ cap e).2 (i * 4 + 3) _ b (by omega) e3 e2
  · obtain ⟨g, cap, e, e3⟩ := hb.o (i - D.vl.length) (by omega)
    rw [show D.vl.length + (i - D.vl.length) = i by omega] at e3
    exact (h.ft.oth g _ cap e).2 ((i - D.vl.length) * 2 + 1) _ b (by omega) e3 e2
theorem BYF.keepF {F : Nat → Prop} {base : Nat} {W W' : World} {c : Fin 18 → Value} {D : PdD} {us : Nat → Value} {cs : Nat → List Nat} (h : BYF F base W c D us cs) (hk : ∀ b, b < W.heap.size → F b → W'.heap[b]? = W.heap[b]?) : BYF F base W' c D us cs := by
  refine ⟨⟨fun i hi => ?_, fun i hi => ?_, fun i hi => ⟨owns_same (h.own i hi).1 (fun b e => hk b ((h.own i hi).1.lt b e).2 (h.gu i hi b e)), (h.own i hi).2⟩, h.sm, h.ap⟩, h.g17, h.g13, h.gu⟩
  · obtain ⟨g, cap, e, h1⟩ := h.v i hi
    exact ⟨g, cap, e, (World.cell?_of_block (hk g (cell_lt h1) (h.g17 g (by rw [e]; rfl)))).trans h1⟩
  · obtain ⟨g, cap, e, h1⟩ := h.o i hi
    exact ⟨g, cap, e, (World.cell?_of_block (hk g (cell_lt h1) (h.g13 g (by rw [e]; rfl)))).trans h1⟩
/-- Rows of strings, one behind the other. -/
def bls (N : Nat → Nat) (f : Nat → Nat → Value × List Nat) : Nat → List (Value × List Nat)
  | 0 => []
  | i + 1 => bls N f i ++ (List.range (N i)).map (f i)
theorem bls_mem {N : Nat → Nat} {f : Nat → Nat → Value × List Nat} {x : Value × List Nat} : ∀ {n : Nat}, x ∈ bls N f n → ∃ j q, j < n ∧ q < N j ∧ x = f j q
  | 0, h => absurd h List.not_mem_nil
  | n + 1, h => by
    rcases List.mem_append.1 h with h | h
    · obtain ⟨j, q, h1, h2⟩ := bls_mem h
      exact ⟨j, q, by omega, h2⟩
    · obtain ⟨q, h1, rfl⟩ := List.mem_map.1 h
      exact ⟨n, q, by omega, List.mem_range.1 h1, rfl⟩
theorem bls_len {N : Nat → Nat} {f : Nat → Nat → Value × List Nat} {M : Nat} (h : ∀ j, N j ≤ M) : ∀ n, (bls N f n).length ≤ n * M
  | 0 => by simp [bls]
  | n + 1 => by
    have h1 := bls_len (f := f) h n
    have h2 := h n
    show (bls N f n ++ (List.range (N n)).map (f n)).length ≤ _
    rw [List.length_append, List.length_map, List.length_range, Nat.add_mul]
    omega
/-- Rows that are apart. -/
def Apt (x y : Value × List Nat) : Prop := ∀ g, x.1.ownBlock = some g → y.1.ownBlock ≠ some g
theorem bls_apt {N : Nat → Nat} {f : Nat → Nat → Value × List Nat} : ∀ n, (∀ j, j < n → ∀ q r, q < N j → r < N j → q ≠ r → Apt (f j q) (f j r)) → (∀ i j, i < n → j < n → i ≠ j → ∀ q r, q < N i → r < N j → Apt (f i q) (f j r)) → (bls N f n).Pairwise Apt
  | 0, _, _ => List.Pairwise.nil
  | n + 1, h1, h2 => by
    refine List.pairwise_append.2 ⟨bls_apt n (fun j hj => h1 j (by omega)) (fun i j hi hj => h2 i j (by omega) (by omega)), ?_, fun x hx y hy => ?_⟩
    · rw [List.pairwise_map]
      refine List.Pairwise.imp_of_mem (fun {q r} hq hr hqr => h1 n (by omega) q r (List.mem_range.1 hq) (List.mem_range.1 hr) (by omega)) (List.pairwise_lt_range (n := N n))
    · obtain ⟨j, q, hj, hq, rfl⟩ := bls_mem hx
      obtain ⟨r, hr, rfl⟩ := List.mem_map.1 hy
      exact h2 j n (by omega) (by omega) (by omega) q r hq (List.mem_range.1 hr)
/-- All gathered strings may be written over. -/
theorem free_bl (W : World) (B : Nat) (bl : List (Value × List Nat)) (l : Value) (ho : W.ownsRow B 75 1 l bl.length (bl.map (·.1))) (h0 : bl.length = 0 → l = .slice none 0 0) (hO : ∀ x ∈ bl, Own W 0 x.1 x.2 ∧ x.2.length ≤ 1048576) (hp : bl.Pairwise Apt) (hn : bl.length ≤ 4398046511104) :
    Calls Tryd.prog 34 #[l] W fun e w' => e = .returned (.bool true) ∧ KF (fun b => ∃ x ∈ bl, x.1.ownBlock = some b) W w' := by
  by_cases hz : bl.length = 0
  · rw [h0 hz]
    refine (Fr.free_nil W).mono ?_
    rintro e w' ⟨rfl, hb⟩
    exact ⟨rfl, .of hb⟩
  · obtain ⟨G, cap, rfl, hG, hGl⟩ := ho.form (by omega)
    have hget : ∀ i (h : i < bl.length), bl.getD i (.bool false, []) = bl[i] := fun i h => by rw [List.getD_eq_getElem?_getD, List.getElem?_eq_getElem h]; rfl
    have hm : ∀ i, i < bl.length → bl.getD i (.bool false, []) ∈ bl := fun i h => by rw [hget i h]; exact List.getElem_mem h
    have hap : ∀ i j, i < bl.length → j < bl.length → i ≠ j → ∀ g, (bl.getD i (.bool false, [])).1.ownBlock = some g → (bl.getD j (.bool false, [])).1.ownBlock ≠ some g := fun i j hi hj hij g => by
      rw [hget i hi, hget j hj]
      rcases Nat.lt_or_ge i j with h | h
      · exact List.pairwise_iff_getElem.1 hp i j hi hj h g
      · exact fun e e' => List.pairwise_iff_getElem.1 hp j i hj hi (by omega) g e' e
    refine (Fr.free_any W bl.length G 0 cap (fun i => (bl.getD i (.bool false, [])).1) (fun i => (bl.getD i (.bool false, [])).2.length) (fun i => (bl.getD i (.bool false, [])).2) ⟨hn, fun i hi => ?_, fun i hi => ?_, hap, fun i hi e => ?_⟩ ⟨fun i hi => ?_, fun i hi => ?_, Fr.KR.refl _ _ _⟩ (fun _ _ => rfl) (Nat.zero_le _)).mono ?_
    · have hO := (hO _ (hm i hi)).1.1
      rcases hO.2 with ⟨e, e0⟩ | ⟨g, cap, cur, e, _⟩
      · exact ⟨none, 0, by rw [e, e0], fun h => by omega⟩
      · exact ⟨_, cap, e, fun _ => ⟨g, rfl⟩⟩
    · exact Nat.le_trans (hO _ (hm i hi)).2 (by decide)
    · obtain ⟨_, _, cur, fr, t3⟩ := own_ty (hO _ (hm i hi)).1.1 e
      obtain ⟨_, _, cur', fr', t4⟩ := own_ty ho (show (Value.slice (some ⟨G, 0, none⟩) bl.length cap).ownBlock = some G from rfl)
      rw [t3] at t4
      simp at t4
    · rw [ho.cellAt i (by omega), List.getElem?_map, List.getElem?_eq_getElem hi]
      show some (bl[i].1) = some (bl.getD i (.bool false, [])).1
      rw [hget i hi]
    · exact (hO _ (hm i hi)).1.1
    · rintro e w' ⟨rfl, hk⟩
      refine ⟨rfl, hk.os, hk.tape, hk.output, hk.size, fun k h1 h2 => hk.block k h1 fun i hi e => h2 ⟨_, hm i hi, e⟩⟩
end Go.Proofs.YtiieikdbhpflgabDoor

/-
  DERIVED. bytesIn: the byte strings of a PDU behind those of others.
-/
namespace Go.Proofs.YtiieikdbhpflgabDoor
open Go Go.Proofs Go.RowKit

/-- A list of byte strings that is being gathered behind what it had. -/
structure L13 (W1 : World) (B : Nat) (lv : Value) (m : Nat) (xs : List Value) (us : Nat → Value) (i : Nat) (l : Value) (wr : World) : Prop where
  kf : KF (fun b => lv.ownBlock = some b) W1 wr
  own : wr.ownsRow B 75 1 l (m + i) (xs ++ (List.range i).map us)
  at' : ∀ b, l.ownBlock = some b → lv.ownBlock = some b ∨ W1.heap.size ≤ b
  nil : m + i = 0 → l = .slice none 0 0
theorem L13.start {W1 : World} {B m : Nat} {lv : Value} {xs : List Value} (us : Nat → Value) (h : W1.ownsRow B 75 1 lv m xs) (h0 : m = 0 → lv = .slice none 0 0) : L13 W1 B lv m xs us 0 lv W1 := ⟨.refl _ _, by simpa using h, fun _ h => .inl h, h0⟩
theorem L13.step {W1 wr W9 : World} {B m i g9 c9 : Nat} {lv l u : Value} {xs : List Value} {us : Nat → Value} {o : Obj} (h : L13 W1 B lv m xs us i l wr) (hu : us i = u) (ho9 : W9.ownsRow B 75 1 (.slice (some ⟨g9, 0, none⟩) (m + i + 1) c9) (m + i + 1) ((xs ++ (List.range i).map us) ++ [u])) (hg : (wr.alloc o).grownBy W9 l.ownBlock)
    (hd : l = .slice (some ⟨g9, 0, none⟩) (m + i) c9 ∨ ((wr.alloc o).heap.size ≤ g9 ∧ ∀ k, k < (wr.alloc o).heap.size → W9.heap[k]? = (wr.alloc o).heap[k]?)) : L13 W1 B lv m xs us (i + 1) (.slice (some ⟨g9, 0, none⟩) (m + i + 1) c9) W9 := by
  have hz : (wr.alloc o).heap.size = wr.heap.size + 1 := by simp
  have hs := h.kf.size
  have hgs := hg.size
  refine ⟨⟨hg.os.trans h.kf.os, hg.tape.trans h.kf.tape, hg.output.trans h.kf.output, by omega, fun b h1 h2 => ?_⟩, ?_, fun b hb => ?_, fun h => by omega⟩
  · have h3 : l.ownBlock ≠ some b := fun e => by
      rcases h.at' b e with h4 | h4
      · exact h2 h4
      · omega
    exact (hg.block b (by omega) (fun e => h3 e.symm)).trans ((Below.heap_alloc wr o b (by omega)).trans (h.kf.block b h1 h2))
  · rw [List.range_succ, List.map_append, ← List.append_assoc]
    show W9.ownsRow _ _ _ _ _ (_ ++ [us i])
    rw [hu]
    exact ho9
  · obtain rfl : g9 = b := by simpa [Value.ownBlock] using hb
    rcases hd with rfl | ⟨hd, -⟩
    · exact h.at' g9 rfl
    · exact .inr (by omega)
set_option maxRecDepth 100000 in
set_option maxHeartbeats 4000000 in
theorem bytesIn_any (w : World) (k : Int) (c : Fin 18 → Value) (D : PdD) (us : Nat → Value) (cs : Nat → List Nat) (F : Nat → Prop) (B m : Nat) (lv : Value) (xs : List Value) (hB : BYF F 0 w c D us cs) (hF : ∀ b, F b → b < B) (hS : D.vl.length ≤ 1048576 ∧ D.ot.length ≤ 1048576) (h17 : ∃ a p, c 17 = .slice a D.vl.length p) (h13 : ∃ a p, c 13 = .slice a D.ot.length p) (ho : w.ownsRow B 75 1 lv m xs) (h0 : m = 0 → lv = .slice none 0 0) (hm : m ≤ 4398044413952) (hBw : B ≤ w.heap.size) :
    Calls Tryd.prog 49 #[lv, .agg (Pd k c)] w fun e w' => ∃ lv', e = .returned lv' ∧ w'.ownsRow B 75 1 lv' (m + (D.vl.length + D.ot.length)) (xs ++ (List.range (D.vl.length + D.ot.length)).map us) ∧ (m + (D.vl.length + D.ot.length) = 0 → lv' = .slice none 0 0) ∧ Below B w w' := by
  obtain ⟨W1, hW1⟩ : ∃ W1, w.alloc (.cells (Pd k c) 46) = W1 := ⟨_, rfl⟩
  have hb1 : Below w.heap.size w W1 := hW1 ▸ (Below.refl _ _).alloc (Nat.le_refl _) _
  have hp1 : W1.heap[w.heap.size]? = some (.cells (Pd k c) 46) := hW1 ▸ alloc_new w _
  have hs1 : W1.heap.size = w.heap.size + 1 := by rw [← hW1]; simp
  have hq : ∀ i : Fin 18, (Pd k c)[i.val + 1]? = some (c i) := pd_get k c
  generalize Pd k c = PQ at *
  obtain ⟨nv, hnv⟩ : ∃ n, D.vl.length = n := ⟨_, rfl⟩
  obtain ⟨no, hno⟩ : ∃ n, D.ot.length = n := ⟨_, rfl⟩
  obtain ⟨a17, p17, h17⟩ := h17
  obtain ⟨a13, p13, h13⟩ := h13
  rw [hnv] at h17 hS ⊢
  rw [hno] at h13 hS ⊢
  obtain ⟨nvL, noL⟩ := hS
  have hlv : ∀ b, lv.ownBlock = some b → B ≤ b ∧ b < w.heap.size := ho.lt
  have HP : Hid (∀ W : World, W.heap[w.heap.size]? = some (.cells PQ 46) → W.cell? ⟨w.heap.size, 18, none⟩ = some (.slice a17 nv p17) ∧ W.cell? ⟨w.heap.size, 14, none⟩ = some (.slice a13 no p13)) := by
    show ∀ W : World, _
    intro W hW
    refine ⟨?_, ?_⟩
    · rw [cell_of_row W _ _ _ _ _ hW, ← h17]; exact hq 17
    · rw [cell_of_row W _ _ _ _ _ hW, ← h13]; exact hq 13
  have HB : Hid (BYF F 0 w c D us cs) := hB
  have HF : Hid (∀ b, F b → b < B) := hF
  have HN : Hid ((D.vl.length = nv ∧ D.ot.length = no) ∧ c 17 = .slice a17 nv p17 ∧ c 13 = .slice a13 no p13) := ⟨⟨hnv, hno⟩, h17, h13⟩
  have HLV : Hid (∀ b, lv.ownBlock = some b → B ≤ b ∧ b < w.heap.size) := hlv
  have HW : Hid (Below w.heap.size w W1 ∧ W1.heap[w.heap.size]? = some (.cells PQ 46) ∧ W1.heap.size = w.heap.size + 1 ∧ B ≤ w.heap.size) := ⟨hb1, hp1, hs1, hBw⟩
  have HL0 : Hid (L13 W1 B lv m xs us 0 lv W1) := L13.start us (owns_same ho (fun b e => hb1.block b (hlv b e).2)) h0
  have HC : Hid (∀ b, b < B → ∀ l i wr, L13 W1 B lv m xs us i l wr → wr.heap[b]? = w.heap[b]?) := by
    show ∀ b, b < B → _
    intro b hb l i wr h
    exact (h.kf.block b (by omega) (fun e => by have := (hlv b e).1; omega)).trans (hb1.block b (by omega))
  have HPP : Hid (∀ l i wr, L13 W1 B lv m xs us i l wr → wr.heap[w.heap.size]? = some (.cells PQ 46)) := by
    show ∀ l i wr, _
    intro l i wr h
    exact (h.kf.block _ (by omega) (fun e => by have := (hlv _ e).2; omega)).trans hp1
  have y18 := (HP.out W1 hp1).1
  clear hB hF hq hnv hno h17 h13 hb1 hp1 hs1 ho h0 hlv
  go_enter Tryd.func49, Tryd.ntmps49
  go_wp2
  clear hW1
  go_loopw [0, 5] (fun l x wr => ∃ (i : Nat), x = .int .i64 (i : Int) ∧ i ≤ nv ∧ Hid (L13 W1 B lv m xs us i l wr)) (fun _ x _ => nv - (intOf x).toNat)
  case atStart => exact ⟨0, rfl, by omega, HL0⟩
  case round =>
    clear y18 HL0
    obtain ⟨i, rfl, hi, HL⟩ := hrel
    have y18 := (HP.out wr (HPP.out _ _ _ HL.out)).1
    by_cases hin : i < nv
    · have hin2 : ((i : Int) < (nv : Int)) := by omega
      obtain ⟨g, cap, e, e3⟩ := HB.out.v i (by rw [HN.out.1.1]; exact hin)
      have hgB : g < B := HF.out g (HB.out.g17 g (by rw [e]; rfl))
      obtain ⟨rfl, -⟩ : a17 = some ⟨g, 0, none⟩ ∧ True := by have := HN.out.2.1.symm.trans e; simp at this; exact ⟨this.1, trivial⟩
      obtain ⟨ua, uc, hu⟩ := owns_slice (HB.out.own i (by have := HN.out.1.1; omega)).1
      obtain ⟨um, hum⟩ : ∃ m, (cs i).length = m := ⟨_, rfl⟩
      rw [hum] at hu
      have z3 : wr.cell? ⟨g, i * 4 + 3, none⟩ = some (.slice ua um uc) := by
        rw [← hu, ← e3]
        exact World.cell?_of_block (HC.out g hgB _ _ _ HL.out)
      have HU : Hid (us i = .slice ua um uc) := hu
      obtain ⟨i1, hi1, hy0, hy1, hy2⟩ := info_parts Fr.info27
      have hBr : B ≤ wr.heap.size := by have := HL.out.kf.size; have := HW.out.2.2; omega
      clear e e3 hu hum
      go_wp2_with (at_builtin; refine Fr.Stop.mk ?_)
      refine Fr.Stop.out (app_keeps rfl (.tmp 14) (.tmp 21) 89 rfl B 75 i1 _ 1 24 Tryd.underlying89 hi1 hy0 hy1 hy2 rfl (by decide) u0 (m + i) _ rfl (World.ownsRow.alloc HL.out.own _) ⟨wr.heap.size, 0, none⟩ [.slice ua um uc] rfl rfl (World.news_of_block (alloc_new wr _)) (by intro u hu; simp at hu; subst hu; rfl) (by unfold maxLen; omega) (by omega) (by simp; omega) ?_)
      intro g9 c9 W9 ho9 hg9 hd9
      have HL9 : Hid (L13 W1 B lv m xs us (i + 1) (.slice (some ⟨g9, 0, none⟩) (m + i + 1) c9) W9) := HL.out.step HU.out ho9 hg9 hd9
      clear ho9 hg9 hd9 z3 y18
      go_wp2
      go_roundw
      case rel => exact ⟨i + 1, by go_num, by omega, HL9.out⟩
      case measure => simp [intOf]; omega
    · have hin2 : ¬ ((i : Int) < (nv : Int)) := by omega
      obtain rfl : i = nv := by omega
      have y14 := (HP.out wr (HPP.out _ _ _ HL.out)).2
      go_wp2
      go_loopw [0, 6] (fun l x wr => ∃ (j : Nat), x = .int .i64 (j : Int) ∧ j ≤ no ∧ Hid (L13 W1 B lv m xs us (i + j) l wr)) (fun _ x _ => no - (intOf x).toNat)
      case atStart => exact ⟨0, rfl, by omega, HL⟩
      case round =>
        clear y18 y14 HL
        obtain ⟨j, rfl, hj, HL⟩ := hrel
        have y14 := (HP.out wr (HPP.out _ _ _ HL.out)).2
        by_cases hjn : j < no
        · have hjn2 : ((j : Int) < (no : Int)) := by omega
          obtain ⟨g, cap, e, e3⟩ := HB.out.o j (by rw [HN.out.1.2]; exact hjn)
          have hgB : g < B := HF.out g (HB.out.g13 g (by rw [e]; rfl))
          obtain ⟨rfl, -⟩ : a13 = some ⟨g, 0, none⟩ ∧ True := by have := HN.out.2.2.symm.trans e; simp at this; exact ⟨this.1, trivial⟩
          rw [HN.out.1.1] at e3
          obtain ⟨ua, uc, hu⟩ := owns_slice (HB.out.own (i + j) (by have := HN.out.1; omega)).1
          obtain ⟨um, hum⟩ : ∃ m, (cs (i + j)).length = m := ⟨_, rfl⟩
          rw [hum] at hu
          have z3 : wr.cell? ⟨g, j * 2 + 1, none⟩ = some (.slice ua um uc) := by
            rw [← hu, ← e3]
            exact World.cell?_of_block (HC.out g hgB _ _ _ HL.out)
          have HU : Hid (us (i + j) = .slice ua um uc) := hu
          obtain ⟨i1, hi1, hy0, hy1, hy2⟩ := info_parts Fr.info27
          have hBr : B ≤ wr.heap.size := by have := HL.out.kf.size; have := HW.out.2.2; omega
          clear e e3 hu hum
          go_wp2_with (at_builtin; refine Fr.Stop.mk ?_)
          refine Fr.Stop.out (app_keeps rfl (.tmp 32) (.tmp 41) 89 rfl B 75 i1 _ 1 24 Tryd.underlying89 hi1 hy0 hy1 hy2 rfl (by decide) u0 (m + (i + j)) _ rfl (World.ownsRow.alloc HL.out.own _) ⟨wr.heap.size, 0, none⟩ [.slice ua um uc] rfl rfl (World.news_of_block (alloc_new wr _)) (by intro u hu; simp at hu; subst hu; rfl) (by unfold maxLen; omega) (by omega) (by simp; omega) ?_)
          intro g9 c9 W9 ho9 hg9 hd9
          have HL9 : Hid (L13 W1 B lv m xs us (i + j + 1) (.slice (some ⟨g9, 0, none⟩) (m + (i + j) + 1) c9) W9) := HL.out.step HU.out ho9 hg9 hd9
          clear ho9 hg9 hd9 z3 y14
          go_wp2
          go_roundw
          case rel => exact ⟨j + 1, by go_num, by omega, HL9.out⟩
          case measure => simp [intOf]; omega
        · have hjn2 : ¬ ((j : Int) < (no : Int)) := by omega
          obtain rfl : j = no := by omega
          go_wp2
          go_ret
          refine ⟨_, rfl, HL.out.own, (by intros; exact HL.out.nil (by omega)), HL.out.kf.os.trans HW.out.1.os, HL.out.kf.tape.trans HW.out.1.tape, HL.out.kf.output.trans HW.out.1.output, ?_, fun b hb => HC.out b hb _ _ _ HL.out⟩
          have := HL.out.kf.size
          have := HW.out.2.2
          omega
end Go.Proofs.YtiieikdbhpflgabDoor
