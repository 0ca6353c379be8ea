import Derived.Test.YtnamkcfmbefkfaaDoorQ
import Derived.Test.YtnamkcfmbefkfaaDoorXa
namespace Go.Proofs.YtnamkcfmbefkfaaDoor
open Go Go.Proofs Go.RowKit
theorem GE.step {base : Nat} {W5 W6 w2 : World} {a7 : Option Addr} {j p7 : Nat} {xs : List Value} {ps : List El} {st g cp : Nat} {e : TypeId} {el : El} {vs : List Value} {Q i : Nat} {u : Value}
    (hG : GE base W5 (.slice a7 j p7) xs ps st) (hj : ps.length = j) (hO : W5.ownsRow base e st (.slice a7 j p7) j xs) (hi : InnO base W5 (.slice a7 j p7) el.inn vs)
    (h6 : ∀ b, b < W5.heap.size → W6.heap[b]? = W5.heap[b]?) (hs6 : W5.heap.size ≤ W6.heap.size)
    (hgrow : W6.grownBy w2 (Value.slice a7 j p7).ownBlock) (hat : (Value.slice a7 j p7).ownBlock = some g ∨ W5.heap.size ≤ g) (hQ : Q < base) :
    GE base (w2.setCell ⟨Q, i, none⟩ u) (.slice (some ⟨g, 0, none⟩) (j + 1) cp) (xs ++ (el.fl ++ vs)) (ps ++ [el]) st := by
  have hl : xs.length = ps.length * st := by rw [hj]; exact hO.1
  refine (hG.push hl hi).move (fun b hb1 hb2 hb3 => ⟨?_, ?_⟩)
  · rw [Below.heap_setCell _ _ _ _ (show b ≠ Q by omega)]
    exact (hgrow.block b (by omega) (by first | exact hb3 | exact Ne.symm hb3)).trans (h6 b hb2)
  · intro e1
    rcases hat with h | h
    · exact hb3 (h.trans e1)
    · have e2 : g = b := by simpa [Value.ownBlock] using e1
      omega
def KP (lo : Nat) (A W : World) : Prop := A.heap.size ≤ W.heap.size ∧ ∀ b, lo ≤ b → b < A.heap.size → W.heap[b]? = A.heap[b]?
theorem KP.refl (lo : Nat) (A : World) : KP lo A A := ⟨Nat.le_refl _, fun _ _ _ => rfl⟩
theorem KP.on {lo : Nat} {A W W' : World} (h : KP lo A W) (hb : Below A.heap.size W W') : KP lo A W' := ⟨Nat.le_trans h.1 hb.size, fun b h1 h2 => (hb.block b h2).trans (h.2 b h1 h2)⟩
theorem KP.set {lo : Nat} {A W : World} (h : KP lo A W) {b : Nat} (hb : b < lo) (i : Nat) (u : Value) : KP lo A (W.setCell ⟨b, i, none⟩ u) := ⟨by simpa using h.1, fun b' h1 h2 => (Below.heap_setCell _ _ _ _ (show b' ≠ b by omega)).trans (h.2 b' h1 h2)⟩
theorem inno_tx {base : Nat} {W : World} {rv v : Value} {T : List ByteArray} (h : W.ownsRow base 9 1 v T.length (txs T)) (hz : T.length * 16 ≤ 140737488351232) (hr : ∀ b, rv.ownBlock = some b → b < base) {base' : Nat} (hb : base' ≤ base) : InnO base' W rv (.tx T) [v] :=
  ⟨v, rfl, own_low h hb, hz, fun b e e2 => by have := (h.lt b e).1; have := hr b e2; omega⟩
theorem inno_by {base : Nat} {W : World} {rv v : Value} {bs : List Nat} (h : Own W base v bs) (hz : bs.length ≤ 140737488351232) (hr : ∀ b, rv.ownBlock = some b → b < base) {base' : Nat} (hb : base' ≤ base) : InnO base' W rv (.by bs) [v] :=
  ⟨v, rfl, ⟨own_low h.1 hb, h.2⟩, hz, fun b e e2 => by have := (h.1.lt b e).1; have := hr b e2; omega⟩

/-- Contexts in memory of their own, no two of which share their syntaxes. -/
structure OD (base : Nat) (W : World) (rv : Value) (ps : List El) : Prop where
  oe : OE base W rv ps 4 51 ShC
  dj : ∃ xs, W.ownsRow base 51 4 rv ps.length xs ∧ DJ xs 4 ps.length
theorem OD.keep {base : Nat} {W W' : World} {rv : Value} {ps : List El} (h : OD base W rv ps) (hk : ∀ b, base ≤ b → b < W.heap.size → W'.heap[b]? = W.heap[b]?) : OD base W' rv ps := by
  obtain ⟨xs, h1, h2⟩ := h.dj
  exact ⟨h.oe.keep hk, xs, owns_same h1 (fun b e => hk b (h1.lt b e).1 (h1.lt b e).2), h2⟩
theorem OD.low {base base' : Nat} {W : World} {rv : Value} {ps : List El} (h : OD base W rv ps) (hb : base' ≤ base) : OD base' W rv ps := by
  obtain ⟨xs, h1, h2⟩ := h.dj
  exact ⟨h.oe.low hb, xs, own_low h1 hb, h2⟩
theorem GE.ubt {base : Nat} {W : World} {rv : Value} {xs : List Value} {ps : List El} {st : Nat} (h : GE base W rv xs ps st) (hS : ∀ p ∈ ps, p.fl.length + 1 = st ∧ ∃ T, p.inn = .tx T) : UB base W.heap.size xs st ps.length := by
  intro p v b hp hv hb
  obtain ⟨vs, h1, h2⟩ := h p hp
  obtain ⟨hl, T, hi⟩ := hS _ (List.getElem_mem hp)
  rw [hi] at h2
  obtain ⟨u, rfl, hO, -, -⟩ := h2
  have h3 := h1 (st - 1) u (by rw [List.getElem?_append_right (by omega), show st - 1 - ps[p].fl.length = 0 by omega]; rfl)
  rw [hv] at h3
  obtain rfl := Option.some.inj h3
  exact hO.lt b hb
theorem shC_s {p : El} (h : ShC p) : p.fl.length + 1 = 4 ∧ ∃ T, p.inn = .tx T := by
  obtain ⟨x, y, s, T, rfl⟩ := h
  exact ⟨rfl, T, rfl⟩
set_option maxRecDepth 100000 in
set_option maxHeartbeats 8000000 in
theorem copyd_any (w : World) (k : Int) (c : Fin 18 → Value) (D : PdD) (hR : RX w c D) : Calls Tryd.prog 4 #[.agg (Pd k c)] w fun e w' => ∃ c2, e = .returned (.agg (Pd k c2)) ∧ OX w.heap.size w' c2 D ∧ (∀ i, i ≠ 4 → i ≠ 12 → i ≠ 13 → i ≠ 17 → c2 i = c i) ∧ Below w.heap.size w w' ∧ OD w.heap.size w' (c2 4) D.cx := by
  have hsz : (Tryd.prog.info? 33).map (·.size) = some (Pd k c).size := by unfold Pd; kernel_rfl
  have hoc := pd_one k c hR.one
  obtain ⟨W2, hW2⟩ : ∃ W2, ((w.alloc (.cells (Pd k c) 33)).alloc (.cells #[.int .i64 0, .int .u16 0, .string ⟨#[]⟩, .string ⟨#[]⟩, .string ⟨#[]⟩, .slice none 0 0, .bool false, .int .u32 0, .string ⟨#[]⟩, .string ⟨#[]⟩, .bool false, .int .u16 0, .int .u16 0, .slice none 0 0, .slice none 0 0, .int .u8 0, .int .u8 0, .int .u8 0, .slice none 0 0] 33)).alloc (.cells #[.int .i64 0, .int .u16 0, .string ⟨#[]⟩, .string ⟨#[]⟩, .string ⟨#[]⟩, .slice none 0 0, .bool false, .int .u32 0, .string ⟨#[]⟩, .string ⟨#[]⟩, .bool false, .int .u16 0, .int .u16 0, .slice none 0 0, .slice none 0 0, .int .u8 0, .int .u8 0, .int .u8 0, .slice none 0 0] 33) = W2 := ⟨_, rfl⟩
  obtain ⟨W3, hW3⟩ : ∃ W3, W2.setRow (w.heap.size + 1 + 1) (Pd k c) = W3 := ⟨_, rfl⟩
  have hgP : ((w.alloc (.cells (Pd k c) 33)).alloc (.cells #[.int .i64 0, .int .u16 0, .string ⟨#[]⟩, .string ⟨#[]⟩, .string ⟨#[]⟩, .slice none 0 0, .bool false, .int .u32 0, .string ⟨#[]⟩, .string ⟨#[]⟩, .bool false, .int .u16 0, .int .u16 0, .slice none 0 0, .slice none 0 0, .int .u8 0, .int .u8 0, .int .u8 0, .slice none 0 0] 33)).heap[w.heap.size]? = some (.cells (Pd k c) 33) := (Below.heap_alloc _ _ _ (by simp)).trans (alloc_new w _)
  have hgQ : W2.heap[w.heap.size + 1 + 1]? = some (.cells #[.int .i64 0, .int .u16 0, .string ⟨#[]⟩, .string ⟨#[]⟩, .string ⟨#[]⟩, .slice none 0 0, .bool false, .int .u32 0, .string ⟨#[]⟩, .string ⟨#[]⟩, .bool false, .int .u16 0, .int .u16 0, .slice none 0 0, .slice none 0 0, .int .u8 0, .int .u8 0, .int .u8 0, .slice none 0 0] 33) := by
    rw [← hW2]
    have := alloc_new ((w.alloc (.cells (Pd k c) 33)).alloc (.cells #[.int .i64 0, .int .u16 0, .string ⟨#[]⟩, .string ⟨#[]⟩, .string ⟨#[]⟩, .slice none 0 0, .bool false, .int .u32 0, .string ⟨#[]⟩, .string ⟨#[]⟩, .bool false, .int .u16 0, .int .u16 0, .slice none 0 0, .slice none 0 0, .int .u8 0, .int .u8 0, .int .u8 0, .slice none 0 0] 33)) (.cells #[.int .i64 0, .int .u16 0, .string ⟨#[]⟩, .string ⟨#[]⟩, .string ⟨#[]⟩, .slice none 0 0, .bool false, .int .u32 0, .string ⟨#[]⟩, .string ⟨#[]⟩, .bool false, .int .u16 0, .int .u16 0, .slice none 0 0, .slice none 0 0, .int .u8 0, .int .u8 0, .int .u8 0, .slice none 0 0] 33)
    simpa using this
  have hC3 : CI w k c c #[.int .i64 0, .int .u16 0, .string ⟨#[]⟩, .string ⟨#[]⟩, .string ⟨#[]⟩, .slice none 0 0, .bool false, .int .u32 0, .string ⟨#[]⟩, .string ⟨#[]⟩, .bool false, .int .u16 0, .int .u16 0, .slice none 0 0, .slice none 0 0, .int .u8 0, .int .u8 0, .int .u8 0, .slice none 0 0] W3 := by
    have hb2 : Below w.heap.size w W2 := hW2 ▸ ((((Below.refl _ _).alloc (Nat.le_refl _) _).alloc (by simp) _).alloc (by simp; omega) _)
    have ho : ∀ j, j ≠ w.heap.size + 1 + 1 → W3.heap[j]? = W2.heap[j]? := fun j hj => by
      rw [← hW3]
      unfold World.setRow
      show (W2.heap.modify _ _)[j]? = _
      rw [Array.getElem?_modify, if_neg (Ne.symm hj)]
    refine ⟨hW3 ▸ below_setRow hb2 (by omega) _, (ho _ (by omega)).trans ?_, (ho _ (by omega)).trans ?_, hW3 ▸ setRow_heap W2 _ _ _ _ _ hgQ⟩
    · rw [← hW2]; exact (Below.heap_alloc _ _ _ (by simp; omega)).trans hgP
    · rw [← hW2]
      have := alloc_new (w.alloc (.cells (Pd k c) 33)) (.cells #[.int .i64 0, .int .u16 0, .string ⟨#[]⟩, .string ⟨#[]⟩, .string ⟨#[]⟩, .slice none 0 0, .bool false, .int .u32 0, .string ⟨#[]⟩, .string ⟨#[]⟩, .bool false, .int .u16 0, .int .u16 0, .slice none 0 0, .slice none 0 0, .int .u8 0, .int .u8 0, .int .u8 0, .slice none 0 0] 33)
      exact (Below.heap_alloc _ _ _ (by simp)).trans (by simpa using this)
  have hq5 : W3.cell? ⟨w.heap.size + 1 + 1, 5, none⟩ = some (c 4) := hC3.cellq 4
  have hqf := hC3.froz
  obtain ⟨fs, hu⟩ := hu40
  go_enter Tryd.func4, Tryd.ntmps4
  generalize Pd k c = PP at *
  go_wp2_with (first | (refine wpList_load_row rfl 33 (.tmp 1) rfl w.heap.size rfl 33 PP (0, 0) _ hgP hu rfl hsz ?_) | (refine wpList_store_row rfl 33 (.tmp 3) (.tmp 13) rfl (w.heap.size + 1 + 1) PP rfl rfl 33 _ hgQ hsz (by rw [Option.some.inj (hsz.symm.trans (show (Tryd.prog.info? 33).map (·.size) = some 19 by kernel_rfl))]; rfl) hoc ?_))
  have HC4 : Hid (CI w k c (up c 4 (.slice none 0 0)) #[.int .i64 0, .int .u16 0, .string ⟨#[]⟩, .string ⟨#[]⟩, .string ⟨#[]⟩, .slice none 0 0, .bool false, .int .u32 0, .string ⟨#[]⟩, .string ⟨#[]⟩, .bool false, .int .u16 0, .int .u16 0, .slice none 0 0, .slice none 0 0, .int .u8 0, .int .u8 0, .int .u8 0, .slice none 0 0] (W3.setCell ⟨w.heap.size + 1 + 1, 5, none⟩ (.slice none 0 0))) := hC3.set 5 _ _ (pd_up4 k c _)
  obtain ⟨W4, hW4⟩ : ∃ W4, W3.setCell ⟨w.heap.size + 1 + 1, 5, none⟩ (.slice none 0 0) = W4 := ⟨_, rfl⟩
  rw [hW4] at HC4 ⊢
  clear hW4 hC3 hW3 hW2 hgP hgQ hq5 hqf hoc hsz hu
  have hZs : (#[.int .i64 0, .int .u16 0, .string ⟨#[]⟩, .string ⟨#[]⟩, .string ⟨#[]⟩, .slice none 0 0, .bool false, .int .u32 0, .string ⟨#[]⟩, .string ⟨#[]⟩, .bool false, .int .u16 0, .int .u16 0, .slice none 0 0, .slice none 0 0, .int .u8 0, .int .u8 0, .int .u8 0, .slice none 0 0] : Array Value).size = 19 := rfl
  generalize (#[.int .i64 0, .int .u16 0, .string ⟨#[]⟩, .string ⟨#[]⟩, .string ⟨#[]⟩, .slice none 0 0, .bool false, .int .u32 0, .string ⟨#[]⟩, .string ⟨#[]⟩, .bool false, .int .u16 0, .int .u16 0, .slice none 0 0, .slice none 0 0, .int .u8 0, .int .u8 0, .int .u8 0, .slice none 0 0] : Array Value) = Z at HC4 hZs
  obtain ⟨⟨-, ao, cap, hc4, hsh, hel⟩, hfit⟩ := hR.ctx
  obtain ⟨n, hnl⟩ : ∃ n, D.cx.length = n := ⟨_, rfl⟩
  have HN : Hid (D.cx.length = n) := hnl
  have HSh : Hid (∀ p ∈ D.cx, ShC p) := hsh
  have HEl : Hid (0 < D.cx.length → ∃ b off, ao = some ⟨b, off, none⟩ ∧ ∀ k (h : k < D.cx.length), ∃ vs, (∀ j u, (D.cx[k].fl ++ vs)[j]? = some u → w.cell? ⟨b, off + k * 4 + j, none⟩ = some u) ∧ InnR w D.cx[k].inn vs) := hel
  have HFit : Hid (Fits D.cx.length 48) := hfit
  rw [hnl] at hc4 hfit
  have hn : n ≤ 2932031007384 := by unfold Fits at hfit; omega
  clear hel hfit hsh hnl
  go_loopw [4] (fun x wr => ∃ (j : Nat) (c' : Fin 18 → Value) (xs : List Value), x = .int .i64 (j : Int) ∧ j ≤ n ∧ Hid (CI w k c c' Z wr) ∧ Hid (∀ i, i ≠ 4 → c' i = c i) ∧ Hid (wr.ownsRow (w.heap.size + 3) 51 4 (c' 4) j xs) ∧ Hid (GE (w.heap.size + 3) wr (c' 4) xs (D.cx.take j) 4) ∧ Hid (DJ xs 4 j)) (fun x _ => n - (intOf x).toNat)
  case atStart => exact ⟨0, up c 4 (.slice none 0 0), [], rfl, by omega, HC4, fun i hi => by simp [up, hi], World.ownsRow_nil _ _ _ _, GE.nil _ _ _ _ _, DJ.nil _ _⟩
  case round =>
    obtain ⟨j, c', xs, rfl, hj, HC, HS, HO, HG, HDJ⟩ := hrel
    have y5 : wr.cell? ⟨w.heap.size, 5, none⟩ = some (.slice ao n cap) := by rw [← hc4]; exact HC.out.cellp 4
    clear HC4
    by_cases hjn : j < n
    · have hjn2 : ((j : Int) < (n : Int)) := by omega
      have hjx : j < D.cx.length := by rw [HN.out]; exact hjn
      obtain ⟨b, off, hao, hE⟩ := HEl.out (by omega)
      subst hao
      obtain ⟨vs, hE1, hE2⟩ := hE j hjx
      obtain ⟨x0, x1, s2, T, he⟩ := HSh.out D.cx[j] (List.getElem_mem hjx)
      rw [he] at hE1 hE2
      obtain ⟨v3, rfl, ao2, cap2, hv3, hel2, hzT, -⟩ := hE2
      subst hv3
      have HEe : Hid (D.cx.take (j + 1) = D.cx.take j ++ [⟨[.int .u8 x0, .int .u8 x1, .string s2], .tx T⟩]) := by
        show D.cx.take (j + 1) = _
        rw [List.take_succ_eq_append_getElem hjx, he]
      have e0 : w.cell? ⟨b, off + j * 4, none⟩ = some (.int .u8 x0) := hE1 0 _ rfl
      have e1 : w.cell? ⟨b, off + j * 4 + 1, none⟩ = some (.int .u8 x1) := hE1 1 _ rfl
      have e2 : w.cell? ⟨b, off + j * 4 + 2, none⟩ = some (.string s2) := hE1 2 _ rfl
      have e3 : w.cell? ⟨b, off + j * 4 + 3, none⟩ = some (.slice ao2 T.length cap2) := hE1 3 _ rfl
      obtain ⟨m, hml⟩ : ∃ m, T.length = m := ⟨_, rfl⟩
      have HM : Hid (T.length = m ∧ T.length * 16 ≤ 140737488351232) := ⟨hml, hzT⟩
      have HEl2 : Hid (0 < T.length → ∃ b off, ao2 = some ⟨b, off, none⟩ ∧ ∀ k (h : k < T.length), w.cell? ⟨b, off + k, none⟩ = some (.string T[k])) := hel2
      have hm : m ≤ 8796093021952 := by omega
      rw [hml] at e3
      have hbw := HC.out.below
      have E0 := (hbw.cell (cell_lt e0)).trans e0
      have E1 := (hbw.cell (cell_lt e1)).trans e1
      have E2 := (hbw.cell (cell_lt e2)).trans e2
      have E3 := (hbw.cell (cell_lt e3)).trans e3
      clear hel2 hE hE1 e0 e1 e2 e3 HEl hbw he hml hzT
      obtain ⟨w0, hw0⟩ : ∃ w0, wr.alloc (.cells #[.int .u8 x0, .int .u8 x1, .string s2, .slice ao2 m cap2] 51) = w0 := ⟨_, rfl⟩
      have hb0 : Below wr.heap.size wr w0 := hw0 ▸ (Below.refl _ _).alloc (Nat.le_refl _) _
      have hs0 : w0.heap.size = wr.heap.size + 1 := by rw [← hw0]; simp
      have t0 : w0.cell? ⟨wr.heap.size, 0, none⟩ = some (.int .u8 x0) := by rw [← hw0]; simp
      have t1 : w0.cell? ⟨wr.heap.size, 1, none⟩ = some (.int .u8 x1) := by rw [← hw0]; simp
      have t2 : w0.cell? ⟨wr.heap.size, 2, none⟩ = some (.string s2) := by rw [← hw0]; simp
      have t3 : w0.cell? ⟨wr.heap.size, 3, none⟩ = some (.slice ao2 m cap2) := by rw [← hw0]; simp
      have tf : ∀ i, w0.frozen? ⟨wr.heap.size, i, none⟩ = false := fun i => by rw [← hw0]; simp
      have HT : Hid (w0.cell? ⟨wr.heap.size, 0, none⟩ = some (.int .u8 x0) ∧ w0.cell? ⟨wr.heap.size, 1, none⟩ = some (.int .u8 x1) ∧ w0.cell? ⟨wr.heap.size, 2, none⟩ = some (.string s2) ∧ w0.cell? ⟨wr.heap.size, 3, none⟩ = some (.slice ao2 m cap2) ∧ ∀ i, w0.frozen? ⟨wr.heap.size, i, none⟩ = false) := ⟨t0, t1, t2, t3, tf⟩
      have HB0 : Hid (Below wr.heap.size wr w0 ∧ w0.heap.size = wr.heap.size + 1) := ⟨hb0, hs0⟩
      obtain ⟨iS, hiS, hS0, hS1, hS2⟩ := info_parts infoStr
      go_wp2
      clear hw0 hb0 hs0 t0 t1 t2 t3 tf E0 E1 E2 E3 y5
      obtain ⟨wo, hwo⟩ : ∃ wo : World, wo = wr := ⟨_, rfl⟩
      subst hwo
      go_loopw [6, 7] (fun u x wi => ∃ (t : Nat), x = .int .i64 (t : Int) ∧ t ≤ m ∧ Hid (wi.ownsRow w0.heap.size 9 1 u t (txs (T.take t))) ∧ Hid (Below w0.heap.size w0 wi)) (fun _ x _ => m - (intOf x).toNat)
      case atStart => exact ⟨0, rfl, by omega, World.ownsRow_nil _ _ _ _, Below.refl _ _⟩
      case round =>
        obtain ⟨t, rfl, ht, HOi, HBi⟩ := hrel
        have hlt0 : wo.heap.size < w0.heap.size := by have := HB0.out.2; omega
        have t3 := (HBi.out.cell (p := ⟨wo.heap.size, 3, none⟩) hlt0).trans HT.out.2.2.2.1
        by_cases htm : t < m
        · have htx : t < T.length := by rw [HM.out.1]; exact htm
          obtain ⟨b2, off2, hao2, hE2⟩ := HEl2.out (by omega)
          subst hao2
          obtain ⟨sx, hsx0⟩ : ∃ sx, T[t] = sx := ⟨_, rfl⟩
          have hsx := hE2 t htx
          rw [hsx0] at hsx
          have HXe : Hid (txs (T.take t) ++ [.string sx] = txs (T.take (t + 1))) := by
            show txs (T.take t) ++ [.string sx] = txs (T.take (t + 1))
            rw [List.take_succ_eq_append_getElem htx, hsx0]
            simp [txs]
          have hsx2 : wr.cell? ⟨b2, off2 + t, none⟩ = some (.string sx) := by
            have h1 := (HC.out.below.cell (cell_lt hsx)).trans hsx
            have h2 := (HB0.out.1.cell (cell_lt h1)).trans h1
            exact (HBi.out.cell (cell_lt h2)).trans h2
          have htm2 : ((t : Int) < (m : Int)) := by omega
          have hsw : w0.heap.size ≤ wr.heap.size := HBi.out.size
          clear hE2 hsx hsx0 htx
          go_wp2_with (at_builtin; refine wpList_append_own _ rfl (.tmp 37) (.tmp 43) 34 rfl w0.heap.size 9 iS _ 1 16 Tryd.underlying34 hiS hS0 hS1 hS2 rfl (by decide) u6 t (txs (T.take t)) rfl (HOi.out.alloc _) ⟨wr.heap.size, 0, none⟩ 1 1 [.string sx] rfl rfl ?_ ?_ ?_ ?_ ?_ ?_)
          · exact cell_one_new _ _ _
          · intro u hu; simp at hu; subst hu; rfl
          · unfold maxLen; omega
          · omega
          · simp; omega
          · intro v' w2 hown' hgrow _
            have hbe' : Below w0.heap.size w0 w2 := (HBi.out.alloc hsw _).grown hgrow (by simp; omega) (fun j hj => (HOi.out.lt j hj).1)
            rw [HXe.out] at hown'
            clear hgrow
            go_wp2
            go_roundw
            case rel => exact ⟨t + 1, by go_num, by omega, hown', hbe'⟩
            case measure => simp [intOf]; omega
        · have htm2 : ¬ ((t : Int) < (m : Int)) := by omega
          have t0 := (HBi.out.cell (p := ⟨wo.heap.size, 0, none⟩) hlt0).trans HT.out.1
          have t1 := (HBi.out.cell (p := ⟨wo.heap.size, 1, none⟩) hlt0).trans HT.out.2.1
          have t2 := (HBi.out.cell (p := ⟨wo.heap.size, 2, none⟩) hlt0).trans HT.out.2.2.1
          have tf : ∀ i, wr.frozen? ⟨wo.heap.size, i, none⟩ = false := fun i => (HBi.out.frozen (p := ⟨wo.heap.size, i, none⟩) hlt0).trans (HT.out.2.2.2.2 i)
          obtain ⟨a6, p6, hu6⟩ := owns_slice HOi.out
          subst hu6
          obtain ⟨W5, hW5⟩ : ∃ W5, wr.setCell ⟨wo.heap.size, 3, none⟩ (.slice a6 t p6) = W5 := ⟨_, rfl⟩
          have HTT : Hid (W5.ownsRow w0.heap.size 9 1 (.slice a6 t p6) T.length (txs T)) := by
            have h1 := HOi.out
            have e1 : t = T.length := by have := HM.out.1; omega
            rw [e1, List.take_length] at h1
            rw [← e1] at h1
            show W5.ownsRow w0.heap.size 9 1 (.slice a6 t p6) T.length (txs T)
            rw [← e1, ← hW5]
            exact ownsRow_setCell_below h1 (a := ⟨wo.heap.size, 3, none⟩) hlt0 _
          have hb5 : Below wo.heap.size wo W5 := by
            rw [← hW5]
            exact (HB0.out.1.trans (HBi.out.mono (by omega))).setCell (p := ⟨wo.heap.size, 3, none⟩) (Nat.le_refl _) _
          have s0 : W5.cell? ⟨wo.heap.size, 0, none⟩ = some (.int .u8 x0) := by rw [← hW5]; exact (cell_set_ne (by omega)).trans t0
          have s1 : W5.cell? ⟨wo.heap.size, 1, none⟩ = some (.int .u8 x1) := by rw [← hW5]; exact (cell_set_ne (by omega)).trans t1
          have s2' : W5.cell? ⟨wo.heap.size, 2, none⟩ = some (.string s2) := by rw [← hW5]; exact (cell_set_ne (by omega)).trans t2
          have s3 : W5.cell? ⟨wo.heap.size, 3, none⟩ = some (.slice a6 t p6) := by rw [← hW5]; exact cell_set_eq t3
          have hsz3 := HC.out.size
          have HC5 : Hid (CI w k c c' Z W5) := HC.out.on (hb5.mono hsz3)
          have q5 : W5.cell? ⟨w.heap.size + 1 + 1, 5, none⟩ = some (c' 4) := HC5.out.cellq 4
          have HO5 : Hid (W5.ownsRow (w.heap.size + 3) 51 4 (c' 4) j xs) := owns_next HO.out hb5
          have hs5 : w.heap.size + 3 ≤ W5.heap.size := HC5.out.size
          obtain ⟨iC, hiC, hC0, hC1, hC2⟩ := info_parts infoCtx
          have HG5 : Hid (GE (w.heap.size + 3) W5 (c' 4) xs (D.cx.take j) 4 ∧ (D.cx.take j).length = j ∧ InnO (w.heap.size + 3) W5 (c' 4) (.tx T) [.slice a6 t p6]) := by
            refine ⟨HG.out.move (fun b hb1 hb2 hb3 => ⟨hb5.block b hb2, hb3⟩), by rw [List.length_take, HN.out]; omega, ?_⟩
            exact inno_tx HTT.out HM.out.2 (fun b e => by have := (HO.out.lt b e).2; omega) (by have := HB0.out.2; omega)
          have HDJ5 : Hid (DJ (xs ++ [.int .u8 x0, .int .u8 x1, .string s2, .slice a6 t p6]) 4 (j + 1)) := by
            have hub := HG.out.ubt (fun p hp => shC_s (HSh.out p (List.mem_of_mem_take hp)))
            rw [show (D.cx.take j).length = j by rw [List.length_take, HN.out]; omega] at hub
            exact DJ.push (fl := [.int .u8 x0, .int .u8 x1, .string s2]) HDJ.out HO.out.1 rfl hub (fun b e => by have h1 := (HTT.out.lt b e).1; have h2 := HB0.out.2; omega)
          obtain ⟨cv, hcv⟩ : ∃ cv, c' 4 = cv := ⟨_, rfl⟩
          rw [hcv] at q5 HO5 HG5
          obtain ⟨a7, p7, hu7⟩ := owns_slice HO5.out
          subst hu7
          clear HTT
          go_wp2_with (at_builtin; refine wpList_append_lies _ rfl (.tmp 49) (.tmp 51) 23 rfl (w.heap.size + 3) 51 iC _ 4 48 Tryd.underlying23 hiC hC0 hC1 hC2 rfl (by decide) (.slice a7 j p7) j xs rfl (HO5.out.alloc _) ⟨W5.heap.size, 0, none⟩ 1 1 [.int .u8 x0, .int .u8 x1, .string s2, .slice a6 t p6] rfl rfl ?_ ?_ (by decide) ?_ ?_ ?_ _ rfl ?_)
          · exact ⟨rfl, rfl, rfl, rfl⟩
          · unfold maxLen; omega
          · omega
          · omega
          · intro g cp w2 hown' hgrow hat hlt
            have hb6 : Below (w.heap.size + 3) W5 w2 := ((Below.refl _ _).alloc hs5 _).grown hgrow (by simp; omega) (fun j hj => (HO5.out.lt j hj).1)
            have HC6 : Hid (CI w k c c' Z w2) := HC5.out.on hb6
            have q5b : w2.cell? ⟨w.heap.size + 1 + 1, 5, none⟩ = some (c' 4) := HC6.out.cellq 4
            have q5f := HC6.out.froz
            have HO6 : Hid (w2.ownsRow (w.heap.size + 3) 51 4 (.slice (some ⟨g, 0, none⟩) (j + 1) cp) (j + 1) (xs ++ [.int .u8 x0, .int .u8 x1, .string s2, .slice a6 t p6])) := hown'
            have HG6 : Hid (GE (w.heap.size + 3) (w2.setCell ⟨w.heap.size + 1 + 1, 5, none⟩ (.slice (some ⟨g, 0, none⟩) (j + 1) cp)) (.slice (some ⟨g, 0, none⟩) (j + 1) cp) (xs ++ [.int .u8 x0, .int .u8 x1, .string s2, .slice a6 t p6]) (D.cx.take (j + 1)) 4) := by
              rw [HEe.out]
              exact GE.step (el := ⟨[.int .u8 x0, .int .u8 x1, .string s2], .tx T⟩) (vs := [.slice a6 t p6]) HG5.out.1 HG5.out.2.1 HO5.out HG5.out.2.2 (fun b hb => Below.heap_alloc W5 _ b hb) (by simp) hgrow (hat.imp_right (fun h => by omega)) (by omega)
            clear hgrow hown' HO5 s0 s1 s2' s3 q5 hW5 hat hlt
            go_wp2
            go_roundw
            case rel => exact ⟨j + 1, up c' 4 (.slice (some ⟨g, 0, none⟩) (j + 1) cp), _, by go_num, by omega, HC6.out.set 5 _ _ (pd_up4 k c' _), fun i hi => by rw [← HS.out i hi]; simp [up, hi], by exact ownsRow_setCell_below HO6.out (a := ⟨w.heap.size + 1 + 1, 5, none⟩) (by show w.heap.size + 1 + 1 < w.heap.size + 3; omega) _, by exact HG6.out, by exact HDJ5.out⟩
            case measure => simp [intOf]; omega
    · have hjn2 : ¬ ((j : Int) < (n : Int)) := by omega
      obtain rfl : n = j := by omega
      have q13 : wr.cell? ⟨w.heap.size + 1 + 1, 13, none⟩ = some (c' 12) := HC.out.cellq 12
      have qf := HC.out.froz
      have HA1 : Hid (OD (w.heap.size + 3) wr (c' 4) D.cx ∧ Fits D.cx.length 48) := by
        refine ⟨⟨⟨xs, ?_, ?_, HSh.out⟩, ⟨xs, ?_, ?_⟩⟩, HFit.out⟩
        · rw [HN.out]; exact HO.out
        · have := HG.out; rw [← HN.out, List.take_length] at this; exact this
        · rw [HN.out]; exact HO.out
        · rw [HN.out]; exact HDJ.out
      obtain ⟨W5, hW5⟩ : ∃ W5, wr.setCell ⟨w.heap.size + 1 + 1, 13, none⟩ (.slice none 0 0) = W5 := ⟨_, rfl⟩
      have HC5 : Hid (CI w k c (up c' 12 (.slice none 0 0)) Z W5) := hW5 ▸ HC.out.set 13 _ _ (pd_up12 k c' _)
      have HA : Hid (OD (w.heap.size + 3) W5 (up c' 12 (.slice none 0 0) 4) D.cx ∧ Fits D.cx.length 48 ∧ ∀ i, i ≠ 4 → i ≠ 12 → up c' 12 (.slice none 0 0) i = c i) :=
        ⟨hW5 ▸ HA1.out.1.keep (fun b hb _ => Below.heap_setCell _ _ _ _ (show b ≠ w.heap.size + 1 + 1 by omega)), HA1.out.2, fun i h4 h12 => by rw [← HS.out i h4]; simp [up, h12]⟩
      go_wp2
      clear HEl y5 q13 qf hW5 HC HS HO HG hjn hjn2 hj hn hc4 HA1 HN HSh HFit
      have HU : Hid (up (up c' 12 (.slice none 0 0)) 12 (.slice none 0 0) = up c' 12 (.slice none 0 0)) := funext fun i => by by_cases h : i = 12 <;> simp [up, h]
      generalize up c' 12 (.slice none 0 0) = cA at *
      obtain ⟨⟨-, ao2, cap2, hc12, hsh2, hel2⟩, hfit2⟩ := hR.role
      obtain ⟨n2, hnl2⟩ : ∃ n, D.rl.length = n := ⟨_, rfl⟩
      have HN2 : Hid (D.rl.length = n2) := hnl2
      have HSh2 : Hid (∀ p ∈ D.rl, ShR p) := hsh2
      have HEl2 : Hid (0 < D.rl.length → ∃ b off, ao2 = some ⟨b, off, none⟩ ∧ ∀ k (h : k < D.rl.length), ∃ vs, (∀ j u, (D.rl[k].fl ++ vs)[j]? = some u → w.cell? ⟨b, off + k * 3 + j, none⟩ = some u) ∧ InnR w D.rl[k].inn vs) := hel2
      have HFit2 : Hid (Fits D.rl.length 24) := hfit2
      rw [hnl2] at hc12 hfit2
      have hn2 : n2 ≤ 5864062014768 := by unfold Fits at hfit2; omega
      clear hel2 hfit2 hsh2 hnl2
      have hSA : w.heap.size + 3 ≤ W5.heap.size := HC5.out.size
      go_loopw [8] (fun x wr => ∃ (j : Nat) (c' : Fin 18 → Value) (xs : List Value), x = .int .i64 (j : Int) ∧ j ≤ n2 ∧ Hid (CI w k c c' Z wr) ∧ Hid (∀ i, i ≠ 12 → c' i = cA i) ∧ Hid (KP (w.heap.size + 3) W5 wr) ∧ Hid (wr.ownsRow W5.heap.size 54 3 (c' 12) j xs) ∧ Hid (GE W5.heap.size wr (c' 12) xs (D.rl.take j) 3)) (fun x _ => n2 - (intOf x).toNat)
      case atStart => exact ⟨0, up cA 12 (.slice none 0 0), [], rfl, by omega, by rw [show up cA 12 (.slice none 0 0) = cA from HU.out]; exact HC5, fun i hi => by simp [up, hi], KP.refl _ _, World.ownsRow_nil _ _ _ _, GE.nil _ _ _ _ _⟩
      case round =>
        clear HC5
        obtain ⟨j, c', xs, rfl, hj, HC, HS, HK, HO, HG⟩ := hrel
        have y13 : wr.cell? ⟨w.heap.size, 13, none⟩ = some (.slice ao2 n2 cap2) := by rw [← hc12]; exact HC.out.cellp 12
        by_cases hjn : j < n2
        · have hjn2 : ((j : Int) < (n2 : Int)) := by omega
          have hjx : j < D.rl.length := by rw [HN2.out]; exact hjn
          obtain ⟨b, off, hao, hE⟩ := HEl2.out (by omega)
          subst hao
          obtain ⟨vs, hE1, hE2⟩ := hE j hjx
          obtain ⟨s0, x1, x2, he⟩ := HSh2.out D.rl[j] (List.getElem_mem hjx)
          rw [he] at hE1 hE2
          obtain rfl : vs = [] := hE2
          have HEe : Hid (D.rl.take (j + 1) = D.rl.take j ++ [⟨[.string s0, .int .u8 x1, .int .u8 x2], .no⟩]) := by
            show D.rl.take (j + 1) = _
            rw [List.take_succ_eq_append_getElem hjx, he]
          have e0 : w.cell? ⟨b, off + j * 3, none⟩ = some (.string s0) := hE1 0 _ rfl
          have e1 : w.cell? ⟨b, off + j * 3 + 1, none⟩ = some (.int .u8 x1) := hE1 1 _ rfl
          have e2 : w.cell? ⟨b, off + j * 3 + 2, none⟩ = some (.int .u8 x2) := hE1 2 _ rfl
          have hbw := HC.out.below
          have E0 := (hbw.cell (cell_lt e0)).trans e0
          have E1 := (hbw.cell (cell_lt e1)).trans e1
          have E2 := (hbw.cell (cell_lt e2)).trans e2
          obtain ⟨a7, p7, hu7⟩ := owns_slice HO.out
          have q13 : wr.cell? ⟨w.heap.size + 1 + 1, 13, none⟩ = some (.slice a7 j p7) := hu7 ▸ HC.out.cellq 12
          have HO7 : Hid (wr.ownsRow W5.heap.size 54 3 (.slice a7 j p7) j xs) := hu7 ▸ HO.out
          have HG7 : Hid (GE W5.heap.size wr (.slice a7 j p7) xs (D.rl.take j) 3 ∧ (D.rl.take j).length = j) := ⟨hu7 ▸ HG.out, by rw [List.length_take, HN2.out]; omega⟩
          have hsz3 : W5.heap.size ≤ wr.heap.size := HK.out.1
          obtain ⟨iC, hiC, hC0, hC1, hC2⟩ := info_parts infoRole
          clear hE hE1 e0 e1 e2 HEl2 hbw he hjx
          have H63 : j + 1 ≤ maxLen := by unfold maxLen; omega
          have HBY : (j + 1) * 24 ≤ 140737488355328 := by omega
          have c1 : ∀ u ∈ [Value.string s0, .int .u8 x1, .int .u8 x2], u.oneCell' = true := by intro u hu; simp at hu; rcases hu with rfl | rfl | rfl <;> rfl
          have q13a := fun ob => cell_al (o := ob) q13
          go_wp2
          go_region_law (go_loud (refine step_append_lies _ rfl (.tmp 70) (.tmp 78) 25 rfl W5.heap.size 54 iC _ 3 24 Tryd.underlying25 hiC hC0 hC1 hC2 rfl (by decide) (.slice a7 j p7) j xs (by simp [Act.eval]) (World.ownsRow.alloc HO7.out _) ⟨wr.heap.size, 0, none⟩ 1 1 [.string s0, .int .u8 x1, .int .u8 x2] (by simp [Act.eval]) rfl (World.news_of_block (alloc_new wr _)) c1 (by decide) H63 HBY (by simp; omega) _ rfl ?_; intro g cap W4 hown4 hgrow4 hat4 hlt4; have hb4 : Below W5.heap.size wr W4 := (((Below.refl _ wr).alloc hsz3 _).drew).grown hgrow4 (by simp; omega) (fun j hj => (HO7.out.lt j hj).1); have HC4 : Hid (CI w k c c' Z W4) := HC.out.on (hb4.mono hSA); have HK4 : Hid (KP (w.heap.size + 3) W5 W4) := HK.out.on hb4; have r13 : W4.cell? ⟨w.heap.size + 1 + 1, 13, none⟩ = some (c' 12) := HC4.out.cellq 12; have rf := HC4.out.froz; have HO4 : Hid (W4.ownsRow W5.heap.size 54 3 (.slice (some ⟨g, 0, none⟩) (j + 1) cap) (j + 1) (xs ++ [.string s0, .int .u8 x1, .int .u8 x2])) := hown4; have HG4 : Hid (GE W5.heap.size (W4.setCell ⟨w.heap.size + 1 + 1, 13, none⟩ (.slice (some ⟨g, 0, none⟩) (j + 1) cap)) (.slice (some ⟨g, 0, none⟩) (j + 1) cap) (xs ++ [.string s0, .int .u8 x1, .int .u8 x2]) (D.rl.take j ++ [⟨[.string s0, .int .u8 x1, .int .u8 x2], .no⟩]) 3) := GE.step (W6 := (wr.alloc (.cells #[.string s0, .int .u8 x1, .int .u8 x2] 54)).drew) (el := ⟨[.string s0, .int .u8 x1, .int .u8 x2], .no⟩) (vs := []) HG7.out.1 HG7.out.2 HO7.out rfl (fun b hb => Below.heap_alloc wr _ b hb) (by simp) hgrow4 (hat4.imp_right (fun h => by first | omega | (rw [h]; simp))) (by omega); clear hown4 hgrow4 hat4 hlt4))
          all_goals
            rw [← HEe.out] at HG4
            go_wp2
            go_roundw
            case rel => exact ⟨j + 1, up c' 12 (.slice (some ⟨g, 0, none⟩) (j + 1) cap), _, by go_num, by omega, HC4.out.set 13 _ _ (pd_up12 k c' _), fun i h12 => by rw [← HS.out i h12]; simp [up, h12], HK4.out.set (by omega) _ _, by exact ownsRow_setCell_below HO4.out (a := ⟨w.heap.size + 1 + 1, 13, none⟩) (by show w.heap.size + 1 + 1 < W5.heap.size; omega) _, by exact HG4.out⟩
            case measure => simp [intOf]; omega
        · have hjn2 : ¬ ((j : Int) < (n2 : Int)) := by omega
          obtain rfl : n2 = j := by omega
          have q14 : wr.cell? ⟨w.heap.size + 1 + 1, 14, none⟩ = some (c' 13) := HC.out.cellq 13
          have qf := HC.out.froz
          have HA2 : Hid (OE (w.heap.size + 3) wr (c' 12) D.rl 3 54 ShR ∧ Fits D.rl.length 24) := by
            refine ⟨OE.low ⟨xs, ?_, ?_, HSh2.out⟩ hSA, HFit2.out⟩
            · rw [HN2.out]; exact HO.out
            · have := HG.out; rw [← HN2.out, List.take_length] at this; exact this
          obtain ⟨W5, hW5⟩ : ∃ W5, wr.setCell ⟨w.heap.size + 1 + 1, 14, none⟩ (.slice none 0 0) = W5 := ⟨_, rfl⟩
          have HC5 : Hid (CI w k c (up c' 13 (.slice none 0 0)) Z W5) := hW5 ▸ HC.out.set 14 _ _ (pd_up13 k c' _)
          have HA' : Hid ((OD (w.heap.size + 3) W5 (up c' 13 (.slice none 0 0) 4) D.cx ∧ Fits D.cx.length 48) ∧ (OE (w.heap.size + 3) W5 (up c' 13 (.slice none 0 0) 12) D.rl 3 54 ShR ∧ Fits D.rl.length 24) ∧ ∀ i, i ≠ 4 → i ≠ 12 → i ≠ 13 → up c' 13 (.slice none 0 0) i = c i) := by
            have hk5 : ∀ W : World, ∀ b, w.heap.size + 3 ≤ b → (W.setCell ⟨w.heap.size + 1 + 1, 14, none⟩ (.slice none 0 0)).heap[b]? = W.heap[b]? := fun W b hb => Below.heap_setCell _ _ _ _ (show b ≠ w.heap.size + 1 + 1 by omega)
            refine ⟨⟨?_, HA.out.2.1⟩, ⟨?_, HA2.out.2⟩, fun i h4 h12 h13 => ?_⟩
            · rw [← hW5]
              have h1 := (HA.out.1.keep (W' := wr) (fun b h1 h2 => HK.out.2 b h1 h2)).keep (fun b hb _ => hk5 wr b hb)
              rw [← HS.out 4 (by decide)] at h1
              exact h1
            · rw [← hW5]
              exact HA2.out.1.keep (fun b hb _ => hk5 wr b hb)
            · rw [show up c' 13 (.slice none 0 0) i = c' i by simp [up, h13], HS.out i h12]
              exact HA.out.2.2 i h4 h12
          go_wp2
          clear HEl2 y13 q14 qf hW5 HC HS HO HG hjn hjn2 hj hn2 hc12 HN2 HSh2 HFit2 HA2 HA HK HU hSA
          have HU : Hid (up (up c' 13 (.slice none 0 0)) 13 (.slice none 0 0) = up c' 13 (.slice none 0 0)) := funext fun i => by by_cases h : i = 13 <;> simp [up, h]
          generalize up c' 13 (.slice none 0 0) = cB3 at *
          obtain ⟨⟨-, ao3, cap3, hc13, hsh3, hel3⟩, hfit3⟩ := hR.oth
          obtain ⟨n3, hnl3⟩ : ∃ n, D.ot.length = n := ⟨_, rfl⟩
          have HN3 : Hid (D.ot.length = n3) := hnl3
          have HSh3 : Hid (∀ p ∈ D.ot, ShO p) := hsh3
          have HEl3 : Hid (0 < D.ot.length → ∃ b off, ao3 = some ⟨b, off, none⟩ ∧ ∀ k (h : k < D.ot.length), ∃ vs, (∀ j u, (D.ot[k].fl ++ vs)[j]? = some u → w.cell? ⟨b, off + k * 2 + j, none⟩ = some u) ∧ InnR w D.ot[k].inn vs) := hel3
          have HFit3 : Hid (Fits D.ot.length 32) := hfit3
          rw [hnl3] at hc13 hfit3
          have hn3 : n3 ≤ 4398046510976 := by unfold Fits at hfit3; omega
          clear hel3 hfit3 hsh3 hnl3
          have hSA : w.heap.size + 3 ≤ W5.heap.size := HC5.out.size
          obtain ⟨SA, hSAe⟩ : ∃ SA : World, SA = W5 := ⟨_, rfl⟩
          rw [← hSAe] at HC5 hSA HA' ⊢
          clear hSAe
          go_loopw [9] (fun x wr => ∃ (j : Nat) (c' : Fin 18 → Value) (xs : List Value), x = .int .i64 (j : Int) ∧ j ≤ n3 ∧ Hid (CI w k c c' Z wr) ∧ Hid (∀ i, i ≠ 13 → c' i = cB3 i) ∧ Hid (KP (w.heap.size + 3) SA wr) ∧ Hid (wr.ownsRow SA.heap.size 57 2 (c' 13) j xs) ∧ Hid (GE SA.heap.size wr (c' 13) xs (D.ot.take j) 2) ∧ Hid (DJ xs 2 j)) (fun x _ => n3 - (intOf x).toNat)
          case atStart => exact ⟨0, up cB3 13 (.slice none 0 0), [], rfl, by omega, by rw [show up cB3 13 (.slice none 0 0) = cB3 from HU.out]; exact HC5, fun i hi => by simp [up, hi], KP.refl _ _, World.ownsRow_nil _ _ _ _, GE.nil _ _ _ _ _, DJ.nil _ _⟩
          case round =>
            clear HC5
            obtain ⟨j, c', xs, rfl, hj, HC, HS, HK, HO, HG, HDJ⟩ := hrel
            have y14 : wr.cell? ⟨w.heap.size, 14, none⟩ = some (.slice ao3 n3 cap3) := by rw [← hc13]; exact HC.out.cellp 13
            by_cases hjn : j < n3
            · have hjn2 : ((j : Int) < (n3 : Int)) := by omega
              have hjx : j < D.ot.length := by rw [HN3.out]; exact hjn
              obtain ⟨b, off, hao, hE⟩ := HEl3.out (by omega)
              subst hao
              obtain ⟨vs, hE1, hE2⟩ := hE j hjx
              obtain ⟨x0, bs, he⟩ := HSh3.out D.ot[j] (List.getElem_mem hjx)
              rw [he] at hE1 hE2
              obtain ⟨v3, rfl, hV, hbl, -⟩ := hE2
              have HEe : Hid (D.ot.take (j + 1) = D.ot.take j ++ [⟨[.int .u8 x0], .by bs⟩]) := by
                show D.ot.take (j + 1) = _
                rw [List.take_succ_eq_append_getElem hjx, he]
              have e0 : w.cell? ⟨b, off + j * 2, none⟩ = some (.int .u8 x0) := hE1 0 _ rfl
              have e1 : w.cell? ⟨b, off + j * 2 + 1, none⟩ = some v3 := hE1 1 _ rfl
              have hbw := HC.out.below
              have hVr := hV.next hbw
              obtain ⟨ao4, cap4, hv3, _, _⟩ := hVr.form
              subst hv3
              have E0 := (hbw.cell (cell_lt e0)).trans e0
              have E1 := (hbw.cell (cell_lt e1)).trans e1
              obtain ⟨w0, hw0⟩ : ∃ w0, wr.alloc (.cells #[.int .u8 x0, .slice ao4 bs.length cap4] 57) = w0 := ⟨_, rfl⟩
              have hb0 : Below wr.heap.size wr w0 := hw0 ▸ (Below.refl _ _).alloc (Nat.le_refl _) _
              have hs0 : w0.heap.size = wr.heap.size + 1 := by rw [← hw0]; simp
              have t0 : w0.cell? ⟨wr.heap.size, 0, none⟩ = some (.int .u8 x0) := by rw [← hw0]; simp
              have t1 : w0.cell? ⟨wr.heap.size, 1, none⟩ = some (.slice ao4 bs.length cap4) := by rw [← hw0]; simp
              have tf : ∀ i, w0.frozen? ⟨wr.heap.size, i, none⟩ = false := fun i => by rw [← hw0]; simp
              have hcp := copyB_any (hVr.next hb0) hbl
              obtain ⟨a7, p7, hu7⟩ := owns_slice HO.out
              have HO7 : Hid (wr.ownsRow SA.heap.size 57 2 (.slice a7 j p7) j xs) := hu7 ▸ HO.out
              have HG7 : Hid (GE SA.heap.size wr (.slice a7 j p7) xs (D.ot.take j) 2 ∧ (D.ot.take j).length = j ∧ bs.length ≤ 140737488351232) := ⟨hu7 ▸ HG.out, by rw [List.length_take, HN3.out]; omega, hbl⟩
              have hsz3 := HC.out.size
              have hszA : SA.heap.size ≤ wr.heap.size := HK.out.1
              obtain ⟨iC, hiC, hC0, hC1, hC2⟩ := info_parts infoOth
              clear hE hE1 e0 e1 HEl3 hbw hV hVr he hjx hbl
              go_wp2_with (first | (go_at_call 11; refine hcp.mono ?_; rintro x W1 ⟨u, rfl, hou, hbu⟩; obtain ⟨a8, p8, hu8⟩ := owns_slice hou.1; subst hu8; have HOU : Hid (Own W1 w0.heap.size (.slice a8 bs.length p8) bs) := hou; have tvb := (hbu.cell (p := ⟨wr.heap.size, 1, none⟩) (by show wr.heap.size < _; omega)).trans t1; have tfb : ∀ i, W1.frozen? ⟨wr.heap.size, i, none⟩ = false := fun i => (hbu.frozen (p := ⟨wr.heap.size, i, none⟩) (by show wr.heap.size < _; omega)).trans (tf i); obtain ⟨W5, hW5⟩ : ∃ W5, W1.setCell ⟨wr.heap.size, 1, none⟩ (.slice a8 bs.length p8) = W5 := ⟨_, rfl⟩; have hb5 : Below wr.heap.size wr W5 := hW5 ▸ ((hb0.trans (hbu.mono (by omega))).setCell (p := ⟨wr.heap.size, 1, none⟩) (Nat.le_refl _) _); have s0 : W5.cell? ⟨wr.heap.size, 0, none⟩ = some (.int .u8 x0) := by { rw [← hW5]; exact (cell_set_ne (by omega)).trans ((hbu.cell (p := ⟨wr.heap.size, 0, none⟩) (by show wr.heap.size < _; omega)).trans t0) }; have s1 : W5.cell? ⟨wr.heap.size, 1, none⟩ = some (.slice a8 bs.length p8) := by { rw [← hW5]; exact cell_set_eq tvb }; have HC5 : Hid (CI w k c c' Z W5) := HC.out.on (hb5.mono hsz3); have HK5 : Hid (KP (w.heap.size + 3) SA W5) := HK.out.on (hb5.mono hszA); have qq : W5.cell? ⟨w.heap.size + 1 + 1, 14, none⟩ = some (.slice a7 j p7) := hu7 ▸ HC5.out.cellq 13; have HO5 : Hid (W5.ownsRow SA.heap.size 57 2 (.slice a7 j p7) j xs) := owns_next HO7.out hb5; have hs5 : SA.heap.size ≤ W5.heap.size := HK5.out.1; have HG5 : Hid (GE SA.heap.size W5 (.slice a7 j p7) xs (D.ot.take j) 2 ∧ InnO SA.heap.size W5 (.slice a7 j p7) (.by bs) [.slice a8 bs.length p8]) := ⟨HG7.out.1.move (fun b hb1 hb2 hb3 => ⟨hb5.block b hb2, hb3⟩), inno_by (base := w0.heap.size) ⟨by { rw [← hW5]; exact ownsRow_setCell_below HOU.out.1 (a := ⟨wr.heap.size, 1, none⟩) (by show wr.heap.size < _; omega) _ }, HOU.out.2⟩ HG7.out.2.2 (fun b e => by have := (HO7.out.lt b e).2; omega) (by omega)⟩) | (at_builtin; refine wpList_append_lies _ rfl (.tmp 109) (.tmp 111) 26 rfl SA.heap.size 57 iC _ 2 32 Tryd.underlying26 hiC hC0 hC1 hC2 rfl (by decide) (.slice a7 j p7) j xs rfl (HO5.out.alloc _) ⟨W5.heap.size, 0, none⟩ 1 1 [.int .u8 x0, .slice a8 bs.length p8] rfl rfl ?_ ?_ (by decide) ?_ ?_ ?_ _ rfl ?_))
              · exact cell_two
              · intro u hu; simp at hu; rcases hu with rfl | rfl <;> rfl
              · unfold maxLen; omega
              · omega
              · simp; omega
              · intro g cp w2 hown' hgrow hat hlt
                have hb6 : Below SA.heap.size W5 w2 := ((Below.refl _ _).alloc hs5 _).grown hgrow (by simp; omega) (fun j hj => (HO5.out.lt j hj).1)
                have HC6 : Hid (CI w k c c' Z w2) := HC5.out.on (hb6.mono hSA)
                have HK6 : Hid (KP (w.heap.size + 3) SA w2) := HK5.out.on hb6
                have qqb : w2.cell? ⟨w.heap.size + 1 + 1, 14, none⟩ = some (c' 13) := HC6.out.cellq 13
                have qqf := HC6.out.froz
                have HO6 : Hid (w2.ownsRow SA.heap.size 57 2 (.slice (some ⟨g, 0, none⟩) (j + 1) cp) (j + 1) (xs ++ [.int .u8 x0, .slice a8 bs.length p8])) := hown'
                have HG6 : Hid (GE SA.heap.size (w2.setCell ⟨w.heap.size + 1 + 1, 14, none⟩ (.slice (some ⟨g, 0, none⟩) (j + 1) cp)) (.slice (some ⟨g, 0, none⟩) (j + 1) cp) (xs ++ [.int .u8 x0, .slice a8 bs.length p8]) (D.ot.take (j + 1)) 2) := by
                  rw [HEe.out]
                  exact GE.step (el := ⟨[.int .u8 x0], .by bs⟩) (vs := [.slice a8 bs.length p8]) HG5.out.1 HG7.out.2.1 HO5.out HG5.out.2 (fun b hb => Below.heap_alloc W5 _ b hb) (by simp) hgrow (hat.imp_right (fun h => by first | omega | (rw [h]; simp))) (by omega)
                have HDJ6 : Hid (DJ (xs ++ [.int .u8 x0, .slice a8 bs.length p8]) 2 (j + 1)) := by
                  have hub := HG7.out.1.ub (fun p hp => shO_s (HSh3.out p (List.mem_of_mem_take hp)))
                  rw [HG7.out.2.1] at hub
                  exact DJ.push (fl := [.int .u8 x0]) HDJ.out HO7.out.1 rfl hub (fun b e => by have := (HOU.out.1.lt b e).1; omega)
                clear hgrow hown' HO5 s0 s1 qq hW5 hat hlt HG5 HK5 HDJ
                go_wp2
                go_roundw
                case rel => exact ⟨j + 1, up c' 13 (.slice (some ⟨g, 0, none⟩) (j + 1) cp), _, by go_num, by omega, HC6.out.set 14 _ _ (pd_up13 k c' _), fun i h => by rw [← HS.out i h]; simp [up, h], HK6.out.set (by omega) _ _, by exact ownsRow_setCell_below HO6.out (a := ⟨w.heap.size + 1 + 1, 14, none⟩) (by show w.heap.size + 1 + 1 < SA.heap.size; omega) _, by exact HG6.out, by exact HDJ6.out⟩
                case measure => simp [intOf]; omega
            · have hjn2 : ¬ ((j : Int) < (n3 : Int)) := by omega
              obtain rfl : n3 = j := by omega
              have HA3 : Hid (OE (w.heap.size + 3) wr (c' 13) D.ot 2 57 ShO ∧ Fits D.ot.length 32) := by
                refine ⟨OE.low ⟨xs, ?_, ?_, HSh3.out⟩ hSA, HFit3.out⟩
                · rw [HN3.out]; exact HO.out
                · have := HG.out; rw [← HN3.out, List.take_length] at this; exact this
              have HBO : Hid (BR (w.heap.size + 3) SA.heap.size wr.heap.size wr (c' 13) 57 2 D.ot.length) := by
                refine ⟨xs, own_low (by rw [HN3.out]; exact HO.out) hSA, by rw [HN3.out]; exact HDJ.out, ?_⟩
                have := HG.out; rw [← HN3.out, List.take_length] at this; exact this.ub (fun p hp => shO_s (HSh3.out p hp))
              have HSAw : Hid (SA.heap.size ≤ wr.heap.size) := HK.out.1
              have q18 : wr.cell? ⟨w.heap.size + 1 + 1, 18, none⟩ = some (c' 17) := HC.out.cellq 17
              have qf := HC.out.froz
              obtain ⟨W5, hW5⟩ : ∃ W5, wr.setCell ⟨w.heap.size + 1 + 1, 18, none⟩ (.slice none 0 0) = W5 := ⟨_, rfl⟩
              have HC5 : Hid (CI w k c (up c' 17 (.slice none 0 0)) Z W5) := hW5 ▸ HC.out.set 18 _ _ (pd_up17 k c' _)
              have HA'' : Hid ((OD (w.heap.size + 3) W5 (up c' 17 (.slice none 0 0) 4) D.cx ∧ Fits D.cx.length 48) ∧ (OE (w.heap.size + 3) W5 (up c' 17 (.slice none 0 0) 12) D.rl 3 54 ShR ∧ Fits D.rl.length 24) ∧ (OE (w.heap.size + 3) W5 (up c' 17 (.slice none 0 0) 13) D.ot 2 57 ShO ∧ Fits D.ot.length 32) ∧ (∀ i, i ≠ 4 → i ≠ 12 → i ≠ 13 → i ≠ 17 → up c' 17 (.slice none 0 0) i = c i) ∧ ∃ m0, BR (w.heap.size + 3) m0 W5.heap.size W5 (up c' 17 (.slice none 0 0) 13) 57 2 D.ot.length) := by
                have hk5 : ∀ W : World, ∀ b, w.heap.size + 3 ≤ b → (W.setCell ⟨w.heap.size + 1 + 1, 18, none⟩ (.slice none 0 0)).heap[b]? = W.heap[b]? := fun W b hb => Below.heap_setCell _ _ _ _ (show b ≠ w.heap.size + 1 + 1 by omega)
                refine ⟨⟨?_, HA'.out.1.2⟩, ⟨?_, HA'.out.2.1.2⟩, ⟨?_, HA3.out.2⟩, fun i h4 h12 h13 h17 => ?_, SA.heap.size, ?_⟩
                · rw [← hW5]
                  have h1 := (HA'.out.1.1.keep (W' := wr) (fun b h1 h2 => HK.out.2 b h1 h2)).keep (fun b hb _ => hk5 wr b hb)
                  rw [← HS.out 4 (by decide)] at h1
                  exact h1
                · rw [← hW5]
                  have h1 := (HA'.out.2.1.1.keep (W' := wr) (fun b h1 h2 => HK.out.2 b h1 h2)).keep (fun b hb _ => hk5 wr b hb)
                  rw [← HS.out 12 (by decide)] at h1
                  exact h1
                · rw [← hW5]
                  exact HA3.out.1.keep (fun b hb _ => hk5 wr b hb)
                · rw [show up c' 17 (.slice none 0 0) i = c' i by simp [up, h17], HS.out i h13]
                  exact HA'.out.2.2 i h4 h12 h13
                · have hs5 : W5.heap.size = wr.heap.size := by rw [← hW5]; simp
                  rw [hs5, ← hW5]
                  exact HBO.out.keep (fun b hb _ => hk5 wr b hb)
              go_wp2
              clear HBO HDJ HSAw HEl3 y14 q18 qf hW5 HC HS HO HG hjn hjn2 hj hn3 hc13 HN3 HSh3 HFit3 HA3 HA' HK HU hSA
              have HU : Hid (up (up c' 17 (.slice none 0 0)) 17 (.slice none 0 0) = up c' 17 (.slice none 0 0)) := funext fun i => by by_cases h : i = 17 <;> simp [up, h]
              generalize up c' 17 (.slice none 0 0) = cB4 at *
              obtain ⟨⟨-, ao4, cap4, hc17, hsh4, hel4⟩, hfit4⟩ := hR.val
              obtain ⟨n4, hnl4⟩ : ∃ n, D.vl.length = n := ⟨_, rfl⟩
              have HN4 : Hid (D.vl.length = n4) := hnl4
              have HSh4 : Hid (∀ p ∈ D.vl, ShV p) := hsh4
              have HEl4 : Hid (0 < D.vl.length → ∃ b off, ao4 = some ⟨b, off, none⟩ ∧ ∀ k (h : k < D.vl.length), ∃ vs, (∀ j u, (D.vl[k].fl ++ vs)[j]? = some u → w.cell? ⟨b, off + k * 4 + j, none⟩ = some u) ∧ InnR w D.vl[k].inn vs) := hel4
              have HFit4 : Hid (Fits D.vl.length 32) := hfit4
              rw [hnl4] at hc17 hfit4
              have hn4 : n4 ≤ 4398046510976 := by unfold Fits at hfit4; omega
              clear hel4 hfit4 hsh4 hnl4
              have hSA : w.heap.size + 3 ≤ W5.heap.size := HC5.out.size
              obtain ⟨SA, hSAe⟩ : ∃ SA : World, SA = W5 := ⟨_, rfl⟩
              rw [← hSAe] at HC5 hSA HA'' ⊢
              clear hSAe
              go_loopw [11] (fun x wr => ∃ (j : Nat) (c' : Fin 18 → Value) (xs : List Value), x = .int .i64 (j : Int) ∧ j ≤ n4 ∧ Hid (CI w k c c' Z wr) ∧ Hid (∀ i, i ≠ 17 → c' i = cB4 i) ∧ Hid (KP (w.heap.size + 3) SA wr) ∧ Hid (wr.ownsRow SA.heap.size 60 4 (c' 17) j xs) ∧ Hid (GE SA.heap.size wr (c' 17) xs (D.vl.take j) 4) ∧ Hid (DJ xs 4 j)) (fun x _ => n4 - (intOf x).toNat)
              case atStart => exact ⟨0, up cB4 17 (.slice none 0 0), [], rfl, by omega, by rw [show up cB4 17 (.slice none 0 0) = cB4 from HU.out]; exact HC5, fun i hi => by simp [up, hi], KP.refl _ _, World.ownsRow_nil _ _ _ _, GE.nil _ _ _ _ _, DJ.nil _ _⟩
              case round =>
                clear HC5
                obtain ⟨j, c', xs, rfl, hj, HC, HS, HK, HO, HG, HDJ⟩ := hrel
                have y18 : wr.cell? ⟨w.heap.size, 18, none⟩ = some (.slice ao4 n4 cap4) := by rw [← hc17]; exact HC.out.cellp 17
                by_cases hjn : j < n4
                · have hjn2 : ((j : Int) < (n4 : Int)) := by omega
                  have hjx : j < D.vl.length := by rw [HN4.out]; exact hjn
                  obtain ⟨b, off, hao, hE⟩ := HEl4.out (by omega)
                  subst hao
                  obtain ⟨vs, hE1, hE2⟩ := hE j hjx
                  obtain ⟨x0, y1, y2, bs, he⟩ := HSh4.out D.vl[j] (List.getElem_mem hjx)
                  rw [he] at hE1 hE2
                  obtain ⟨v3, rfl, hV, hbl, -⟩ := hE2
                  have HEe : Hid (D.vl.take (j + 1) = D.vl.take j ++ [⟨[.int .u8 x0, .bool y1, .bool y2], .by bs⟩]) := by
                    show D.vl.take (j + 1) = _
                    rw [List.take_succ_eq_append_getElem hjx, he]
                  have e0 : w.cell? ⟨b, off + j * 4, none⟩ = some (.int .u8 x0) := hE1 0 _ rfl
                  have e1 : w.cell? ⟨b, off + j * 4 + 1, none⟩ = some (.bool y1) := hE1 1 _ rfl
                  have e2 : w.cell? ⟨b, off + j * 4 + 2, none⟩ = some (.bool y2) := hE1 2 _ rfl
                  have e3 : w.cell? ⟨b, off + j * 4 + 3, none⟩ = some v3 := hE1 3 _ rfl
                  have hbw := HC.out.below
                  have hVr := hV.next hbw
                  obtain ⟨ao4, cap4, hv3, _, _⟩ := hVr.form
                  subst hv3
                  have E0 := (hbw.cell (cell_lt e0)).trans e0
                  have E1 := (hbw.cell (cell_lt e1)).trans e1
                  have E2 := (hbw.cell (cell_lt e2)).trans e2
                  have E3 := (hbw.cell (cell_lt e3)).trans e3
                  obtain ⟨w0, hw0⟩ : ∃ w0, wr.alloc (.cells #[.int .u8 x0, .bool y1, .bool y2, .slice ao4 bs.length cap4] 60) = w0 := ⟨_, rfl⟩
                  have hb0 : Below wr.heap.size wr w0 := hw0 ▸ (Below.refl _ _).alloc (Nat.le_refl _) _
                  have hs0 : w0.heap.size = wr.heap.size + 1 := by rw [← hw0]; simp
                  have t0 : w0.cell? ⟨wr.heap.size, 0, none⟩ = some (.int .u8 x0) := by rw [← hw0]; simp
                  have t1 : w0.cell? ⟨wr.heap.size, 1, none⟩ = some (.bool y1) := by rw [← hw0]; simp
                  have t2 : w0.cell? ⟨wr.heap.size, 2, none⟩ = some (.bool y2) := by rw [← hw0]; simp
                  have t3 : w0.cell? ⟨wr.heap.size, 3, none⟩ = some (.slice ao4 bs.length cap4) := by rw [← hw0]; simp
                  have tf : ∀ i, w0.frozen? ⟨wr.heap.size, i, none⟩ = false := fun i => by rw [← hw0]; simp
                  have hcp := copyB_any (hVr.next hb0) hbl
                  obtain ⟨a7, p7, hu7⟩ := owns_slice HO.out
                  have HO7 : Hid (wr.ownsRow SA.heap.size 60 4 (.slice a7 j p7) j xs) := hu7 ▸ HO.out
                  have HG7 : Hid (GE SA.heap.size wr (.slice a7 j p7) xs (D.vl.take j) 4 ∧ (D.vl.take j).length = j ∧ bs.length ≤ 140737488351232) := ⟨hu7 ▸ HG.out, by rw [List.length_take, HN4.out]; omega, hbl⟩
                  have hsz3 := HC.out.size
                  have hszA : SA.heap.size ≤ wr.heap.size := HK.out.1
                  obtain ⟨iC, hiC, hC0, hC1, hC2⟩ := info_parts infoPdv
                  clear hE hE1 e0 e1 e2 e3 HEl4 hbw hV hVr he hjx hbl
                  go_wp2_with (first | (go_at_call 11; refine hcp.mono ?_; rintro x W1 ⟨u, rfl, hou, hbu⟩; obtain ⟨a8, p8, hu8⟩ := owns_slice hou.1; subst hu8; have HOU : Hid (Own W1 w0.heap.size (.slice a8 bs.length p8) bs) := hou; have tvb := (hbu.cell (p := ⟨wr.heap.size, 3, none⟩) (by show wr.heap.size < _; omega)).trans t3; have tfb : ∀ i, W1.frozen? ⟨wr.heap.size, i, none⟩ = false := fun i => (hbu.frozen (p := ⟨wr.heap.size, i, none⟩) (by show wr.heap.size < _; omega)).trans (tf i); obtain ⟨W5, hW5⟩ : ∃ W5, W1.setCell ⟨wr.heap.size, 3, none⟩ (.slice a8 bs.length p8) = W5 := ⟨_, rfl⟩; have hb5 : Below wr.heap.size wr W5 := hW5 ▸ ((hb0.trans (hbu.mono (by omega))).setCell (p := ⟨wr.heap.size, 3, none⟩) (Nat.le_refl _) _); have s0 : W5.cell? ⟨wr.heap.size, 0, none⟩ = some (.int .u8 x0) := by { rw [← hW5]; exact (cell_set_ne (by omega)).trans ((hbu.cell (p := ⟨wr.heap.size, 0, none⟩) (by show wr.heap.size < _; omega)).trans t0) }; have s1 : W5.cell? ⟨wr.heap.size, 1, none⟩ = some (.bool y1) := by { rw [← hW5]; exact (cell_set_ne (by omega)).trans ((hbu.cell (p := ⟨wr.heap.size, 1, none⟩) (by show wr.heap.size < _; omega)).trans t1) }; have s2 : W5.cell? ⟨wr.heap.size, 2, none⟩ = some (.bool y2) := by { rw [← hW5]; exact (cell_set_ne (by omega)).trans ((hbu.cell (p := ⟨wr.heap.size, 2, none⟩) (by show wr.heap.size < _; omega)).trans t2) }; have s3 : W5.cell? ⟨wr.heap.size, 3, none⟩ = some (.slice a8 bs.length p8) := by { rw [← hW5]; exact cell_set_eq tvb }; have HC5 : Hid (CI w k c c' Z W5) := HC.out.on (hb5.mono hsz3); have HK5 : Hid (KP (w.heap.size + 3) SA W5) := HK.out.on (hb5.mono hszA); have qq : W5.cell? ⟨w.heap.size + 1 + 1, 18, none⟩ = some (.slice a7 j p7) := hu7 ▸ HC5.out.cellq 17; have HO5 : Hid (W5.ownsRow SA.heap.size 60 4 (.slice a7 j p7) j xs) := owns_next HO7.out hb5; have hs5 : SA.heap.size ≤ W5.heap.size := HK5.out.1; have HG5 : Hid (GE SA.heap.size W5 (.slice a7 j p7) xs (D.vl.take j) 4 ∧ InnO SA.heap.size W5 (.slice a7 j p7) (.by bs) [.slice a8 bs.length p8]) := ⟨HG7.out.1.move (fun b hb1 hb2 hb3 => ⟨hb5.block b hb2, hb3⟩), inno_by (base := w0.heap.size) ⟨by { rw [← hW5]; exact ownsRow_setCell_below HOU.out.1 (a := ⟨wr.heap.size, 3, none⟩) (by show wr.heap.size < _; omega) _ }, HOU.out.2⟩ HG7.out.2.2 (fun b e => by have := (HO7.out.lt b e).2; omega) (by omega)⟩) | (at_builtin; refine wpList_append_lies _ rfl (.tmp 134) (.tmp 136) 31 rfl SA.heap.size 60 iC _ 4 32 Tryd.underlying31 hiC hC0 hC1 hC2 rfl (by decide) (.slice a7 j p7) j xs rfl (HO5.out.alloc _) ⟨W5.heap.size, 0, none⟩ 1 1 [.int .u8 x0, .bool y1, .bool y2, .slice a8 bs.length p8] rfl rfl ?_ ?_ (by decide) ?_ ?_ ?_ _ rfl ?_))
                  · exact cell_four
                  · intro u hu; simp at hu; rcases hu with rfl | rfl | rfl | rfl <;> rfl
                  · unfold maxLen; omega
                  · omega
                  · simp; omega
                  · intro g cp w2 hown' hgrow hat hlt
                    have hb6 : Below SA.heap.size W5 w2 := ((Below.refl _ _).alloc hs5 _).grown hgrow (by simp; omega) (fun j hj => (HO5.out.lt j hj).1)
                    have HC6 : Hid (CI w k c c' Z w2) := HC5.out.on (hb6.mono hSA)
                    have HK6 : Hid (KP (w.heap.size + 3) SA w2) := HK5.out.on hb6
                    have qqb : w2.cell? ⟨w.heap.size + 1 + 1, 18, none⟩ = some (c' 17) := HC6.out.cellq 17
                    have qqf := HC6.out.froz
                    have HO6 : Hid (w2.ownsRow SA.heap.size 60 4 (.slice (some ⟨g, 0, none⟩) (j + 1) cp) (j + 1) (xs ++ [.int .u8 x0, .bool y1, .bool y2, .slice a8 bs.length p8])) := hown'
                    have HG6 : Hid (GE SA.heap.size (w2.setCell ⟨w.heap.size + 1 + 1, 18, none⟩ (.slice (some ⟨g, 0, none⟩) (j + 1) cp)) (.slice (some ⟨g, 0, none⟩) (j + 1) cp) (xs ++ [.int .u8 x0, .bool y1, .bool y2, .slice a8 bs.length p8]) (D.vl.take (j + 1)) 4) := by
                      rw [HEe.out]
                      exact GE.step (el := ⟨[.int .u8 x0, .bool y1, .bool y2], .by bs⟩) (vs := [.slice a8 bs.length p8]) HG5.out.1 HG7.out.2.1 HO5.out HG5.out.2 (fun b hb => Below.heap_alloc W5 _ b hb) (by simp) hgrow (hat.imp_right (fun h => by first | omega | (rw [h]; simp))) (by omega)
                    have HDJ6 : Hid (DJ (xs ++ [.int .u8 x0, .bool y1, .bool y2, .slice a8 bs.length p8]) 4 (j + 1)) := by
                      have hub := HG7.out.1.ub (fun p hp => shV_s (HSh4.out p (List.mem_of_mem_take hp)))
                      rw [HG7.out.2.1] at hub
                      exact DJ.push (fl := [.int .u8 x0, .bool y1, .bool y2]) HDJ.out HO7.out.1 rfl hub (fun b e => by have := (HOU.out.1.lt b e).1; omega)
                    clear hgrow hown' HO5 s0 s1 s2 s3 qq hW5 hat hlt HG5 HK5 HDJ
                    go_wp2
                    go_roundw
                    case rel => exact ⟨j + 1, up c' 17 (.slice (some ⟨g, 0, none⟩) (j + 1) cp), _, by go_num, by omega, HC6.out.set 18 _ _ (pd_up17 k c' _), fun i h => by rw [← HS.out i h]; simp [up, h], HK6.out.set (by omega) _ _, by exact ownsRow_setCell_below HO6.out (a := ⟨w.heap.size + 1 + 1, 18, none⟩) (by show w.heap.size + 1 + 1 < SA.heap.size; omega) _, by exact HG6.out, by exact HDJ6.out⟩
                    case measure => simp [intOf]; omega
                · have hjn2 : ¬ ((j : Int) < (n4 : Int)) := by omega
                  obtain rfl : n4 = j := by omega
                  have HA4 : Hid (OE (w.heap.size + 3) wr (c' 17) D.vl 4 60 ShV ∧ Fits D.vl.length 32) := by
                    refine ⟨OE.low ⟨xs, ?_, ?_, HSh4.out⟩ hSA, HFit4.out⟩
                    · rw [HN4.out]; exact HO.out
                    · have := HG.out; rw [← HN4.out, List.take_length] at this; exact this
                  have HBV : Hid (BR (w.heap.size + 3) SA.heap.size wr.heap.size wr (c' 17) 60 4 D.vl.length) := by
                    refine ⟨xs, own_low (by rw [HN4.out]; exact HO.out) hSA, by rw [HN4.out]; exact HDJ.out, ?_⟩
                    have := HG.out; rw [← HN4.out, List.take_length] at this; exact this.ub (fun p hp => shV_s (HSh4.out p hp))
                  obtain ⟨fs2, hu2⟩ := hu40
                  have hone : ∀ i, (c' i).oneCell' = true := fun i => by
                    by_cases h17 : i = 17
                    · subst h17; exact owns_one HO.out
                    rw [HS.out i h17]
                    by_cases h4 : i = 4
                    · subst h4; exact HA''.out.1.1.oe.one
                    by_cases h12 : i = 12
                    · subst h12; exact HA''.out.2.1.1.one
                    by_cases h13 : i = 13
                    · subst h13; exact HA''.out.2.2.1.1.one
                    rw [HA''.out.2.2.2.1 i h4 h12 h13 h17]
                    exact hR.one i
                  have hoc : (Pd k c').all (·.oneCell') = true := pd_one k c' hone
                  have hszQ : (Tryd.prog.info? 33).map (·.size) = some (Pd k c').size := by unfold Pd; kernel_rfl
                  have hgQ := HC.out.q
                  have hgR := HC.out.r
                  have hPs : Z.size = (Pd k c').size := hZs
                  generalize hPQ : Pd k c' = PQ at hgQ hoc hszQ hPs
                  go_wp2_with (first | (refine wpList_load_row rfl 33 (.tmp 3) rfl (w.heap.size + 1 + 1) rfl 33 PQ (0, 0) _ hgQ hu2 rfl hszQ ?_) | (refine wpList_store_row rfl 33 (.tmp 2) (.tmp 139) rfl (w.heap.size + 1) PQ rfl rfl 33 _ hgR hszQ hPs hoc ?_))
                  have hh := setRow_heap wr (w.heap.size + 1) _ PQ 33 _ hgR
                  have hl := run_loadVar_row (P := Tryd.prog) _ _ _ 33 _ _ _ hh hu2 rfl hszQ
                  have ho : ∀ b, b ≠ w.heap.size + 1 → (wr.setRow (w.heap.size + 1) PQ).heap[b]? = wr.heap[b]? := fun b hb => by
                    unfold World.setRow
                    show (wr.heap.modify _ _)[b]? = _
                    rw [Array.getElem?_modify, if_neg (Ne.symm hb)]
                  have hok : ∀ b, w.heap.size + 3 ≤ b → (wr.setRow (w.heap.size + 1) PQ).heap[b]? = wr.heap[b]? := fun b hb => ho b (by omega)
                  have h1 := (HA''.out.1.1.keep (W' := wr) (fun b h1 h2 => HK.out.2 b h1 h2)).keep (W' := wr.setRow (w.heap.size + 1) PQ) (fun b hb _ => hok b hb)
                  rw [← HS.out 4 (by decide)] at h1
                  have h2 := (HA''.out.2.1.1.keep (W' := wr) (fun b h1 h2 => HK.out.2 b h1 h2)).keep (W' := wr.setRow (w.heap.size + 1) PQ) (fun b hb _ => hok b hb)
                  rw [← HS.out 12 (by decide)] at h2
                  have h3 := (HA''.out.2.2.1.1.keep (W' := wr) (fun b h1 h2 => HK.out.2 b h1 h2)).keep (W' := wr.setRow (w.heap.size + 1) PQ) (fun b hb _ => hok b hb)
                  rw [← HS.out 13 (by decide)] at h3
                  have h4 := HA4.out.1.keep (W' := wr.setRow (w.heap.size + 1) PQ) (fun b hb _ => hok b hb)
                  obtain ⟨m0, h5⟩ := HA''.out.2.2.2.2
                  have h5 := (h5.keep (W' := wr) (fun b h1 h2 => HK.out.2 b h1 h2)).keep (W' := wr.setRow (w.heap.size + 1) PQ) (fun b hb _ => hok b hb)
                  rw [← HS.out 13 (by decide)] at h5
                  have h6 := HBV.out.keep (W' := wr.setRow (w.heap.size + 1) PQ) (fun b hb _ => hok b hb)
                  refine bodyPost_ret (v := .agg PQ) (res_cell (k := 2) Tryd.results4 (by kernel_rfl) hl) rfl ⟨c', by rw [hPQ], OX.low ⟨hone, ⟨h1.oe, HA''.out.1.2⟩, ⟨h2, HA''.out.2.1.2⟩, ⟨h3, HA''.out.2.2.1.2⟩, ⟨h4, HA4.out.2⟩, _, _, _, h5, h6⟩ (by omega), fun i h4 h12 h13 h17 => ?_, below_setRow HC.out.below (by omega) _, h1.low (by omega)⟩
                  rw [HS.out i h17]
                  exact HA''.out.2.2.2.1 i h4 h12 h13 h17
theorem copyx_any (w : World) (k : Int) (c : Fin 18 → Value) (D : PdD) (hR : RX w c D) : Calls Tryd.prog 4 #[.agg (Pd k c)] w fun e w' => ∃ c2, e = .returned (.agg (Pd k c2)) ∧ OX w.heap.size w' c2 D ∧ (∀ i, i ≠ 4 → i ≠ 12 → i ≠ 13 → i ≠ 17 → c2 i = c i) ∧ Below w.heap.size w w' :=
  (copyd_any w k c D hR).mono fun _ _ ⟨c2, h1, h2, h3, h4, _⟩ => ⟨c2, h1, h2, h3, h4⟩
end Go.Proofs.YtnamkcfmbefkfaaDoor
