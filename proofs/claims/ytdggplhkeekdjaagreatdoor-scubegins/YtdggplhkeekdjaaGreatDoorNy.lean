import Derived.Test.YtdggplhkeekdjaaGreatDoorNw
/-
  DERIVED. begin.
-/
namespace Go.Proofs.YtdggplhkeekdjaaGreatDoor.Ck
open Go Go.Proofs Go.RowKit

/-- What begin leaves. -/
def BegP (w : World) (e : Ending) (w' : World) : Prop :=
  ((∃ q p m q' p', e = .returned (.tuple #[.pointer (some ⟨q, 0, none⟩), .pointer (some ⟨q', 0, none⟩), .bool true]) ∧ Nv.SpAt w' q p m ∧ Nv.RpAt w' q' p') ∨ e = .returned (.tuple #[.pointer none, .pointer none, .bool true])) ∧ Below w.heap.size w w'
/-- What lies there while the copies are written over. -/
structure LB (w X : World) (C C' : Array Value) (B5 B9 K : Nat) (P6 : Option Addr) (v7 : Value) (P8 a9 : Option Addr) (n9 p9 : Nat) (c9 : Int) : Prop where
  k1 : Bk X w.heap.size C 26
  k5 : Bk X B5 C' 26
  k9 : Bk X B9 #[.slice a9 n9 p9, .int .i64 c9] 45
  q : BQ K X P6 v7 P8 a9 n9 p9 c9
  b : Below w.heap.size w X
theorem LB.set {w X : World} {C C' : Array Value} {B5 B9 K : Nat} {P6 : Option Addr} {v7 : Value} {P8 a9 : Option Addr} {n9 p9 : Nat} {c9 : Int} (h : LB w X C C' B5 B9 K P6 v7 P8 a9 n9 p9 c9) {b i : Nat} (h1 : w.heap.size < b) (h5 : b < B5) (h9 : B5 < B9) (hK : B5 < K) (u : Value) : LB w (X.setCell ⟨b, i, none⟩ u) C C' B5 B9 K P6 v7 P8 a9 n9 p9 c9 :=
  ⟨h.k1.off (by omega) _, h.k5.off (by omega) _, h.k9.off (by omega) _, h.q.set (by omega) _, h.b.setCell (p := ⟨b, i, none⟩) (show w.heap.size ≤ b by omega) _⟩
theorem LB.on {w X Y : World} {C C' : Array Value} {B5 B9 K : Nat} {P6 : Option Addr} {v7 : Value} {P8 a9 : Option Addr} {n9 p9 : Nat} {c9 : Int} (h : LB w X C C' B5 B9 K P6 v7 P8 a9 n9 p9 c9) (hb : Below X.heap.size X Y) : LB w Y C C' B5 B9 K P6 v7 P8 a9 n9 p9 c9 :=
  ⟨h.k1.on hb, h.k5.on hb, h.k9.on hb, h.q.on hb, h.b.trans (hb.mono h.b.size)⟩
/-- The copies, the first of which is written over up to a place. -/
def R1 (B0 : Nat) (a' : Option Addr) (n cq : Nat) (b' : Option Addr) (m dq : Nat) (T : List ByteArray) (l : List Int) (X : World) (i : Nat) : Prop :=
  (∃ xs, X.ownsRow B0 9 1 (.slice a' n cq) n xs ∧ ∀ j (h : j < T.length), i ≤ j → xs[j]? = some (.string T[j])) ∧ X.ownsRow B0 48 1 (.slice b' m dq) m (i8s l)
theorem R1.next {B0 : Nat} {g1 n cq : Nat} {b' : Option Addr} {m dq : Nat} {T : List ByteArray} {l : List Int} {X : World} {i : Nat} (h : R1 B0 (some ⟨g1, 0, none⟩) n cq b' m dq T l X i) (u : Value) : R1 B0 (some ⟨g1, 0, none⟩) n cq b' m dq T l (X.setCell ⟨g1, i, none⟩ u) (i + 1) := by
  obtain ⟨⟨xs, h1, h2⟩, h3⟩ := h
  refine ⟨⟨xs.set i u, (h1.stored i u).1, fun j hj hi => ?_⟩, Wk.own_keep h3 fun g hg => Below.heap_setCell _ _ _ g ?_⟩
  · rw [List.getElem?_set_ne (by omega)]
    exact h2 j hj (by omega)
  · exact fun e => own_two h1 h3 g1 g rfl hg e.symm
def R2 (B0 : Nat) (b' : Option Addr) (m dq : Nat) (X : World) : Prop := ∃ ys, X.ownsRow B0 48 1 (.slice b' m dq) m ys
theorem drew1_b (w : World) : Below w.heap.size w w.drew := ⟨rfl, rfl, rfl, Nat.le_refl _, fun _ _ => rfl⟩
set_option maxRecDepth 100000 in
set_option maxHeartbeats 8000000 in
theorem begin_any (w : World) (t c : ByteArray) (ao bo : Option Addr) (n cp m dp : Nat) (mo ar : Int) (T : List ByteArray) (l : List Int) (hn : T.length = n) (hm : l.length = m) (hT : TxD w ao T) (hl : IxD w bo l)
    (hao : ao = none → n = 0 ∧ cp = 0) (hbo : bo = none → m = 0 ∧ dp = 0) (hN : n * 16 ≤ 140737488351232) (hM : m * 8 ≤ 140737488351232) (ht : t.size ≤ 140737488351232) (hc : c.size ≤ 140737488351232) (hz : ∀ p ∈ T, p.size ≤ 140737488351232) (hG : Gb w) :
    Calls Tryz.prog 4 #[.agg #[.string t, .string c, .slice ao n cp, .slice bo m dp, .int .u32 mo, .int .i64 ar]] w (BegP w) := by
  have HT : Hid (TxD w ao T ∧ T.length = n ∧ n * 16 ≤ 140737488351232 ∧ (ao = none → n = 0 ∧ cp = 0) ∧ ∀ p ∈ T, p.size ≤ 140737488351232) := ⟨hT, hn, hN, hao, hz⟩
  have HL : Hid (IxD w bo l ∧ l.length = m ∧ m * 8 ≤ 140737488351232 ∧ (bo = none → m = 0 ∧ dp = 0)) := ⟨hl, hm, hM, hbo⟩
  have HS : Hid (t.size ≤ 140737488351232 ∧ c.size ≤ 140737488351232 ∧ Gb w) := ⟨ht, hc, hG⟩
  obtain ⟨W0, hW0⟩ : ∃ W0, w.alloc (.cells #[.string t, .string c, .slice ao n cp, .slice bo m dp, .int .u32 mo, .int .i64 ar] 26) = W0 := ⟨_, rfl⟩
  have hb0 : Below w.heap.size w W0 := hW0 ▸ (Below.refl _ _).alloc (Nat.le_refl _) _
  have hk0 : Bk W0 w.heap.size #[.string t, .string c, .slice ao n cp, .slice bo m dp, .int .u32 mo, .int .i64 ar] 26 := hW0 ▸ Bk.new _ _ _
  have z0 := hk0.cell (i := 0) (v := .string t) rfl
  have z1 := hk0.cell (i := 1) (v := .string c) rfl
  have z2 := hk0.cell (i := 2) (v := .slice ao n cp) rfl
  have z3 := hk0.cell (i := 3) (v := .slice bo m dp) rfl
  have z4 := hk0.cell (i := 4) (v := .int .u32 mo) rfl
  have z5 := hk0.cell (i := 5) (v := .int .i64 ar) rfl
  have HC : Hid (Calls Tryz.prog 8 #[.agg #[.string t, .string c, .slice ao n cp, .slice bo m dp, .int .u32 mo, .int .i64 ar]] W0 _) := copy_any W0 t c ao bo n cp m dp mo ar T l hn hm (hT.on hb0) (hl.on hb0) hao hbo (by omega) (by omega)
  have HK0 : Hid (Bk W0 w.heap.size #[.string t, .string c, .slice ao n cp, .slice bo m dp, .int .u32 mo, .int .i64 ar] 26 ∧ Below w.heap.size w W0) := ⟨hk0, hb0⟩
  clear hn hm hT hl hao hbo hN hM ht hc hz hG hb0 hk0
  go_enter Tryz.func4, Tryz.ntmps4
  go_wp2_with (go_at_call 8; refine Stop.mk ?_)
  refine Stop.out (HC.out.mono ?_)
  rintro e W1 ⟨a', cq, b', dq, rfl, ho1, ho2, hb1⟩
  have HK1 : Hid (Bk W1 w.heap.size #[.string t, .string c, .slice ao n cp, .slice bo m dp, .int .u32 mo, .int .i64 ar] 26 ∧ Below w.heap.size w W1 ∧ w.heap.size < W0.heap.size ∧ w.heap.size < W1.heap.size) := ⟨HK0.out.1.on hb1, HK0.out.2.trans (hb1.mono HK0.out.2.size), HK0.out.1.lt, (HK0.out.1.on hb1).lt⟩
  clear HC HK0 hb1 hW0 z0 z1 z2 z3 z4 z5
  have hbA : Below W1.heap.size W1 (W1.alloc (.cells #[.string t, .string c, .slice a' n cq, .slice b' m dq, .int .u32 mo, .int .i64 ar] 26)) := (Below.refl _ _).alloc (Nat.le_refl _) _
  have HO1 : Hid ((W1.alloc (.cells #[.string t, .string c, .slice a' n cq, .slice b' m dq, .int .u32 mo, .int .i64 ar] 26)).ownsRow W0.heap.size 9 1 (.slice a' n cq) n (Sp.u8s T) ∧ ∀ g, (Value.slice a' n cq).ownBlock = some g → W0.heap.size ≤ g ∧ g < W1.heap.size) := ⟨World.ownsRow.alloc ho1 _, ho1.lt⟩
  have HO2 : Hid ((W1.alloc (.cells #[.string t, .string c, .slice a' n cq, .slice b' m dq, .int .u32 mo, .int .i64 ar] 26)).ownsRow W0.heap.size 48 1 (.slice b' m dq) m (i8s l) ∧ ∀ g, (Value.slice b' m dq).ownBlock = some g → W0.heap.size ≤ g ∧ g < W1.heap.size) := ⟨World.ownsRow.alloc ho2 _, ho2.lt⟩
  have HK2 : Hid (Bk (W1.alloc (.cells #[.string t, .string c, .slice a' n cq, .slice b' m dq, .int .u32 mo, .int .i64 ar] 26)) w.heap.size #[.string t, .string c, .slice ao n cp, .slice bo m dp, .int .u32 mo, .int .i64 ar] 26 ∧ Bk (W1.alloc (.cells #[.string t, .string c, .slice a' n cq, .slice b' m dq, .int .u32 mo, .int .i64 ar] 26)) W1.heap.size #[.string t, .string c, .slice a' n cq, .slice b' m dq, .int .u32 mo, .int .i64 ar] 26 ∧ Below w.heap.size w (W1.alloc (.cells #[.string t, .string c, .slice a' n cq, .slice b' m dq, .int .u32 mo, .int .i64 ar] 26)) ∧ W1.heap.size < (W1.alloc (.cells #[.string t, .string c, .slice a' n cq, .slice b' m dq, .int .u32 mo, .int .i64 ar] 26)).heap.size) :=
    ⟨HK1.out.1.alloc _, Bk.new _ _ _, HK1.out.2.1.alloc (Nat.le_of_lt HK1.out.2.2.2) _, (Bk.new _ _ _).lt⟩
  clear hbA ho1 ho2
  go_wp2_with (go_at_call 9; refine Stop.mk ?_)
  generalize W1.alloc (.cells #[.string t, .string c, .slice a' n cq, .slice b' m dq, .int .u32 mo, .int .i64 ar] 26) = W2 at *
  obtain ⟨O, hO⟩ : ∃ O, wsO (tlB t) (tlB c) (csB T) (ssB l) mo ar = O := ⟨_, rfl⟩
  have HC9 : Hid (Calls Tryz.prog 9 #[.agg #[.string t, .string c, .slice a' n cq, .slice b' m dq, .int .u32 mo, .int .i64 ar]] W2 (NewP W2 O)) := by
    obtain ⟨hT1, hT2, hT3⟩ := txd_own HO1.out.1 HT.out.2.1
    obtain ⟨hL1, hL2, hL3⟩ := ixd_own HO2.out.1 HL.out.2.1
    have hg2 : Gb W2 := HS.out.2.2.on HK2.out.2.2.1
    rw [← hO, ← title_eq, ← title_eq]
    exact new_any W2 t c a' b' n cq m dq mo ar (itB t) (itB c) (csB T) (ssB l) T l HT.out.2.1 HL.out.2.1 hT1 hL1 hT3 hL3 (by have := HT.out.2.2.1; omega) (by have := HL.out.2.2.1; omega)
      (fun W h => isTitle_is W t HS.out.1 (hg2.on h)) (fun W h => isTitle_is W c HS.out.2.1 (hg2.on h))
      (fun W h => areClasses_any W a' cq T n HT.out.2.1 HT.out.2.2.2.2 (hT2.on h) (hg2.on h))
      (fun W h => areSyntaxes_any W b' dq l m HL.out.2.1 (by have := HL.out.2.2.1; omega) (fun i hi => by obtain ⟨g, e1, e2⟩ := hL2 i hi; exact ⟨g, e1, (h.cell (clt e2)).trans e2⟩))
  refine Stop.out (HC9.out.mono ?_)
  rintro e W3 h9
  obtain ⟨P6, v7, rfl⟩ := newP_form h9
  have H9 : Hid (NewP W2 O (.returned (.tuple #[.pointer P6, v7])) W3) := h9
  have HK3 : Hid (Bk W3 w.heap.size #[.string t, .string c, .slice ao n cp, .slice bo m dp, .int .u32 mo, .int .i64 ar] 26 ∧ Bk W3 W1.heap.size #[.string t, .string c, .slice a' n cq, .slice b' m dq, .int .u32 mo, .int .i64 ar] 26 ∧ Below w.heap.size w W3) := ⟨HK2.out.1.on h9.2, HK2.out.2.1.on h9.2, HK2.out.2.2.1.trans (h9.2.mono HK2.out.2.2.1.size)⟩
  have HO13 : Hid (W3.ownsRow W0.heap.size 9 1 (.slice a' n cq) n (Sp.u8s T)) := Wk.own_keep HO1.out.1 fun g hg => h9.2.block g (HO1.out.1.lt g hg).2
  have HO23 : Hid (W3.ownsRow W0.heap.size 48 1 (.slice b' m dq) m (i8s l)) := Wk.own_keep HO2.out.1 fun g hg => h9.2.block g (HO2.out.1.lt g hg).2
  have y0 := HK3.out.1.cell (i := 0) (v := .string t) rfl
  have y1 := HK3.out.1.cell (i := 1) (v := .string c) rfl
  have y2 := HK3.out.1.cell (i := 2) (v := .slice ao n cp) rfl
  have y3 := HK3.out.1.cell (i := 3) (v := .slice bo m dp) rfl
  have y4 := HK3.out.1.cell (i := 4) (v := .int .u32 mo) rfl
  have y5 := HK3.out.1.cell (i := 5) (v := .int .i64 ar) rfl
  have HC10 : Hid (Calls Tryz.prog 10 #[.agg #[.string t, .string c, .slice ao n cp, .slice bo m dp, .int .u32 mo, .int .i64 ar]] W3 (RNewP W3 O)) := by
    rw [← hO]
    exact rnew_any W3 t c ao bo n cp m dp mo ar T l HT.out.2.1 HL.out.2.1 (HT.out.1.on HK3.out.2.2) (HL.out.1.on HK3.out.2.2) (by have := HT.out.2.2.1; omega) (by have := HL.out.2.2.1; omega) HS.out.1 HS.out.2.1 HT.out.2.2.2.2
  clear h9 hO HC9
  go_wp2_with (go_at_call 10; refine Stop.mk ?_)
  refine Stop.out (HC10.out.mono ?_)
  rintro e W4 h10
  obtain ⟨P8, a9, n9, p9, c9, rfl⟩ := rnewP_form h10
  have hbB : Below W4.heap.size W4 (W4.alloc (.cells #[.slice a9 n9 p9, .int .i64 c9] 45)) := (Below.refl _ _).alloc (Nat.le_refl _) _
  have HLB : Hid (LB w (W4.alloc (.cells #[.slice a9 n9 p9, .int .i64 c9] 45)) #[.string t, .string c, .slice ao n cp, .slice bo m dp, .int .u32 mo, .int .i64 ar] #[.string t, .string c, .slice a' n cq, .slice b' m dq, .int .u32 mo, .int .i64 ar] W1.heap.size W4.heap.size W2.heap.size P6 v7 P8 a9 n9 p9 c9) :=
    ⟨(HK3.out.1.on h10.2).on hbB, (HK3.out.2.1.on h10.2).on hbB, Bk.new _ _ _, (bq_of H9.out h10 (Nat.le_refl _)).on hbB, (HK3.out.2.2.trans (h10.2.mono HK3.out.2.2.size)).alloc (HK3.out.2.2.trans (h10.2.mono HK3.out.2.2.size)).size _⟩
  have HP1 : Hid ((W4.alloc (.cells #[.slice a9 n9 p9, .int .i64 c9] 45)).ownsRow W0.heap.size 9 1 (.slice a' n cq) n (Sp.u8s T)) := World.ownsRow.alloc (Wk.own_keep HO13.out fun g hg => h10.2.block g (HO13.out.lt g hg).2) _
  have HP2 : Hid ((W4.alloc (.cells #[.slice a9 n9 p9, .int .i64 c9] 45)).ownsRow W0.heap.size 48 1 (.slice b' m dq) m (i8s l)) := World.ownsRow.alloc (Wk.own_keep HO23.out fun g hg => h10.2.block g (HO23.out.lt g hg).2) _
  have HD : Hid ((∀ g, (Value.slice a' n cq).ownBlock = some g → w.heap.size < g ∧ g < W1.heap.size) ∧ (∀ g, (Value.slice b' m dq).ownBlock = some g → w.heap.size < g ∧ g < W1.heap.size) ∧ W1.heap.size < W4.heap.size ∧ W1.heap.size < W2.heap.size) :=
    ⟨fun g hg => ⟨Nat.lt_of_lt_of_le HK1.out.2.2.1 (HO1.out.2 g hg).1, (HO1.out.2 g hg).2⟩, fun g hg => ⟨Nat.lt_of_lt_of_le HK1.out.2.2.1 (HO2.out.2 g hg).1, (HO2.out.2 g hg).2⟩, (HK3.out.2.1.on h10.2).lt, HK2.out.2.2.2⟩
  clear HC10 h10 hbB HO1 HO2 HO13 HO23 H9 HK1 HK2 HK3 y0 y1 y2 y3 y4 y5
  go_wp2
  generalize W4.alloc (.cells #[.slice a9 n9 p9, .int .i64 c9] 45) = W5 at *
  generalize W1.heap.size = B5 at *
  generalize W4.heap.size = B9 at *
  generalize W2.heap.size = K at *
  generalize W0.heap.size = B0 at *
  have HR1 : Hid (R1 B0 a' n cq b' m dq T l W5 0) := ⟨⟨_, HP1.out, fun j hj _ => by rw [Sp.u8s_getE T j hj]⟩, HP2.out⟩
  clear HP1 HP2 HS
  have hnb : n ≤ 140737488351232 := by have := HT.out.2.2.1; omega
  have hmb : m ≤ 140737488351232 := by have := HL.out.2.2.1; omega
  go_loopg [10] n (fun k s10 wx => ∃ i : Nat, s10 = .int .i64 (i : Int) ∧ i ≤ n ∧ k + i = n ∧ Hid (LB w wx #[.string t, .string c, .slice ao n cp, .slice bo m dp, .int .u32 mo, .int .i64 ar] #[.string t, .string c, .slice a' n cq, .slice b' m dq, .int .u32 mo, .int .i64 ar] B5 B9 K P6 v7 P8 a9 n9 p9 c9) ∧ Hid (R1 B0 a' n cq b' m dq T l wx i))
  case atStart => exact ⟨0, rfl, by omega, by omega, HLB, HR1⟩
  case round =>
    clear HLB HR1
    obtain ⟨i, rfl, hi, hg, HLB, HR1⟩ := hrel
    have z5 := HLB.out.k5.cell (i := 2) (v := .slice a' n cq) rfl
    by_cases hlt : i < n
    · have iI : (i : Int) < (n : Int) := by omega
      have hlx : i < T.length := by have := HT.out.2.1; omega
      obtain ⟨⟨xs, hx1, hx2⟩, hx3⟩ := HR1.out
      obtain ⟨g1, cap, hav, -, -⟩ := hx1.form (by omega)
      obtain ⟨ha, rfl⟩ : a' = some ⟨g1, 0, none⟩ ∧ cq = cap := by simpa using hav
      have hg1 := HD.out.1 g1 (by rw [ha]; rfl)
      rw [ha] at hx1 z5
      have cl1 : wr.cell? ⟨g1, i, none⟩ = some (.string T[i]) := by rw [hx1.cellAt i (by omega)]; exact hx2 i hlx (Nat.le_refl _)
      have fz1 := hx1.frozenAt i
      have z1 := HLB.out.k1.cell (i := 2) (v := .slice ao n cp) rfl
      obtain ⟨g, o, hao, cl⟩ := (HT.out.1.on HLB.out.b) i hlx
      rw [hao] at z1
      have HNX : Hid (∀ nq u, LB w ((wr.drewN nq).setCell ⟨g1, i, none⟩ u) #[.string t, .string c, .slice ao n cp, .slice bo m dp, .int .u32 mo, .int .i64 ar] #[.string t, .string c, .slice a' n cq, .slice b' m dq, .int .u32 mo, .int .i64 ar] B5 B9 K P6 v7 P8 a9 n9 p9 c9 ∧ R1 B0 a' n cq b' m dq T l (((wr.drewN nq).setCell ⟨g1, i, none⟩ u)) (i + 1)) := fun nq u => by
        refine ⟨(HLB.out.on (drewN_b wr nq)).set hg1.1 hg1.2 HD.out.2.2.1 HD.out.2.2.2 u, ?_⟩
        have h1 : R1 B0 a' n cq b' m dq T l (wr.drewN nq) i := HR1.out
        rw [ha] at h1 ⊢
        exact h1.next u
      generalize T[i] = u at *
      clear hx1 hx2 hx3 hav HLB HR1 hao ha hlx xs
      go_wp2
      go_quiet (fail)
      go_wp2
      go_roundg (n - (i + 1))
      case measure => omega
      case rel => exact ⟨i + 1, by simp, by omega, by omega, (HNX.out _ _).1, (HNX.out _ _).2⟩
    · have iI : ¬ ((i : Int) < (n : Int)) := by omega
      have HR2 : Hid (R2 B0 b' m dq wr) := ⟨_, HR1.out.2⟩
      clear HR1 HT
      go_wp2
      clear z5
      go_loopg [11] m (fun k s11 wx => ∃ i : Nat, s11 = .int .i64 (i : Int) ∧ i ≤ m ∧ k + i = m ∧ Hid (LB w wx #[.string t, .string c, .slice ao n cp, .slice bo m dp, .int .u32 mo, .int .i64 ar] #[.string t, .string c, .slice a' n cq, .slice b' m dq, .int .u32 mo, .int .i64 ar] B5 B9 K P6 v7 P8 a9 n9 p9 c9) ∧ Hid (R2 B0 b' m dq wx))
      case atStart => exact ⟨0, rfl, by omega, by omega, HLB, HR2⟩
      case round =>
        clear HLB HR2
        obtain ⟨j, rfl, hj, hgj, HLB, HR2⟩ := hrel
        have z5 := HLB.out.k5.cell (i := 3) (v := .slice b' m dq) rfl
        by_cases hlt2 : j < m
        · have iJ : (j : Int) < (m : Int) := by omega
          obtain ⟨ys, hy⟩ := HR2.out
          obtain ⟨g2, cap, hbv, -, -⟩ := hy.form (by omega)
          obtain ⟨hb, rfl⟩ : b' = some ⟨g2, 0, none⟩ ∧ dq = cap := by simpa using hbv
          have hg2 := HD.out.2.1 g2 (by rw [hb]; rfl)
          rw [hb] at hy z5
          have hyl : j < ys.length := by have := hy.1; omega
          have cl1 : wr.cell? ⟨g2, j, none⟩ = some ys[j] := by rw [hy.cellAt j (by omega)]; exact List.getElem?_eq_getElem hyl
          have fz1 := hy.frozenAt j
          have HNX : Hid (LB w (wr.setCell ⟨g2, j, none⟩ (.int .i64 7)) #[.string t, .string c, .slice ao n cp, .slice bo m dp, .int .u32 mo, .int .i64 ar] #[.string t, .string c, .slice a' n cq, .slice b' m dq, .int .u32 mo, .int .i64 ar] B5 B9 K P6 v7 P8 a9 n9 p9 c9 ∧ R2 B0 b' m dq (wr.setCell ⟨g2, j, none⟩ (.int .i64 7))) := by
            refine ⟨HLB.out.set hg2.1 hg2.2 HD.out.2.2.1 HD.out.2.2.2 _, ?_⟩
            rw [hb]
            exact ⟨_, (hy.stored j _).1⟩
          generalize ys[j] = u at *
          clear hy hbv HLB HR2 hb hyl ys
          go_wp2
          go_roundg (m - (j + 1))
          case measure => omega
          case rel => exact ⟨j + 1, by simp, by omega, by omega, HNX.out.1, HNX.out.2⟩
        · have iJ : ¬ ((j : Int) < (m : Int)) := by omega
          have y0 := HLB.out.k9.cell (i := 0) (v := .slice a9 n9 p9) rfl
          have y1 := HLB.out.k9.cell (i := 1) (v := .int .i64 c9) rfl
          clear HR2
          rcases HLB.out.q with ⟨q, p, mm, q', p', rfl, rfl, rfl, ⟨rfl, rfl, rfl, rfl⟩, hs, hr, -⟩ | ⟨q, g, k, rfl, rfl, rfl, ⟨rfl, rfl, rfl, rfl⟩, hch, hlk, -⟩
          · have HF : Hid (Nv.SpAt wr q p mm ∧ Nv.RpAt wr q' p' ∧ Below w.heap.size w wr) := ⟨hs, hr, HLB.out.b⟩
            clear HLB hs hr
            go_wp2_with (go_at_call 11; refine Stop.mk ?_)
            refine Stop.out ((Rp.is_nil _).mono ?_)
            rintro e W6 ⟨rfl, hb6⟩
            have HE : Hid _ := (show Nv.SpAt W6 q p mm ∧ Nv.RpAt W6 q' p' ∧ Below w.heap.size w W6 from ⟨HF.out.1.on hb6, HF.out.2.1.on hb6, HF.out.2.2.trans (hb6.mono HF.out.2.2.size)⟩)
            clear hb6 HF y0 y1 z5
            go_wp2
            exact bodyPost_ret (v := .tuple #[.pointer (some ⟨q, 0, none⟩), .pointer (some ⟨q', 0, none⟩), .bool true]) (by simp [results, Tryz.results4, go_sem]) rfl ⟨.inl ⟨q, p, mm, q', p', rfl, HE.out.1, HE.out.2.1⟩, HE.out.2.2⟩
          · have HF : Hid (Chain wr [(scB, k)] 340 (.iface 115 (.pointer (some ⟨q, 0, none⟩))) ∧ LkAt wr g [(scB, k)] ∧ Below w.heap.size w wr) := ⟨hch, hlk, HLB.out.b⟩
            clear HLB hch hlk
            go_wp2_with (go_at_call 11; refine Stop.mk ?_)
            refine Stop.out ((is_chain _ [(scB, k)] 340 _ g 1 1 HF.out.1 (by decide) rfl (by decide) (by decide) HF.out.2.1).mono ?_)
            rintro e W6 ⟨rfl, hb6⟩
            have HE : Hid (Below w.heap.size w W6) := HF.out.2.2.trans (hb6.mono HF.out.2.2.size)
            clear hb6 HF y0 y1 z5
            go_wp2
            exact bodyPost_ret (v := .tuple #[.pointer none, .pointer none, .bool true]) (by simp [results, Tryz.results4, go_sem]) rfl ⟨.inr rfl, HE.out⟩
end Go.Proofs.YtdggplhkeekdjaaGreatDoor.Ck
