import Derived.Test.YtiieikdbhpflgabDoorVm
/-
  DERIVED. late: what is told is left as it is until all have come.
-/
namespace Go.Proofs.YtiieikdbhpflgabDoor
open Go Go.Proofs Go.RowKit

theorem ar_len {B : Nat} {W : World} {v : Value} : ∀ {L : List AcD}, AR B W v L → L.length ≤ 2
  | [], _ => by simp
  | [_], _ => by simp
  | [_, _], _ => by simp
  | _ :: _ :: _ :: _, h => h.elim
/-- The cells of a state. -/
def stC (S : Prov) : List Value := [.int .i64 S.sta, .bool S.asked, .bool (decide (0 < S.left)), .int .i64 S.left]
theorem rv_range {w : World} {q : Nat} {S S' : Prov} (h : RvE w q S') (hs : PSim S S') : w.rangeAt q 1 (stC S) := by
  obtain ⟨PV, c0, h⟩ := h
  intro j v hv
  rw [cell_of_row w _ _ _ _ _ h.row]
  rcases j with _ | _ | _ | _ | j
  · obtain rfl : Value.int .i64 S.sta = v := by simpa [stC] using hv
    rw [← hs.sta]; exact h.v1
  · obtain rfl : Value.bool S.asked = v := by simpa [stC] using hv
    rw [← hs.asked]; exact h.v2
  · obtain rfl : Value.bool (decide (0 < S.left)) = v := by simpa [stC] using hv
    rw [← hs.left]; exact h.v3
  · obtain rfl : Value.int .i64 S.left = v := by simpa [stC] using hv
    rw [← hs.left]; exact h.v4
  · simp [stC] at hv
theorem range_same {w w' : World} {q o : Nat} {cs : List Value} (h : w.rangeAt q o cs) (hk : w'.heap[q]? = w.heap[q]?) : w'.rangeAt q o cs := fun j v hv => (World.cell?_of_block hk).trans (h j v hv)
theorem pv_same {w w' : World} {q : Nat} {a l s : Int} {b : Bool} (h : Pv w q a l s b) (hk : w'.heap[q]? = w.heap[q]?) : Pv w' q a l s b :=
  ⟨(World.cell?_of_block hk).trans h.1, (World.cell?_of_block hk).trans h.2.1, (World.cell?_of_block hk).trans h.2.2.1, (World.cell?_of_block hk).trans h.2.2.2⟩
/-- The event that was lent says the same. -/
def lentD (d : EvD) (c3 c4 : Fin 18 → Value) (B : Nat) : EvD := ⟨d.kd, ⟨d.p.k, c3, d.p.D, fun b => B ≤ b⟩, d.bad, ⟨d.a.k, c4, d.a.D, fun _ => True⟩, d.rs, d.s⟩
def docD (d : EvD) (B : Nat) : EvD := { d with p := { d.p with F := fun b => B ≤ b } }
theorem lent_sim {d : EvD} {c3 c4 : Fin 18 → Value} {B B' : Nat} (h : ∀ i, i ≠ 4 → i ≠ 12 → i ≠ 13 → i ≠ 17 → c3 i = d.p.c i ∧ c4 i = d.a.c i) : EvSim (docD d B) (lentD d c3 c4 B') :=
  ⟨rfl, ⟨rfl, rfl, fun i h4 h12 h13 h17 => (h i h4 h12 h13 h17).1⟩, rfl, ⟨rfl, rfl, fun i h4 h12 h13 h17 => (h i h4 h12 h13 h17).2⟩, rfl, rfl⟩
/-- One event, handed to both. -/
structure Ev1 (w : World) (EV : Array Value) (d : EvD) : Prop where
  y : EvY w EV d
  t1 : TyC d.p.c
  t2 : TyC d.a.c
  m1 : Sml d.p.D
  m2 : Sml d.a.D
/-- What both have done with it. -/
structure Did (a : Int) (p q : Nat) (W3 W4 W5 : World) (S S' : Prov) (v4 v5 : Value) (S1 S1' : Prov) (L M : List AcD) (g g' : Nat) (t t' : Nat → KpD) : Prop where
  mach : Mach a p q W5 S1 S1'
  k1 : ∀ b, S1.K.F b → (b < W3.heap.size ∧ S.K.F b) ∨ (L = [⟨1, 0, 0, zc, D0⟩] ∧ W3.heap.size ≤ b ∧ b < W4.heap.size)
  k2 : ∀ b, S1'.K.F b → (b < W3.heap.size ∧ S'.K.F b) ∨ W4.heap.size ≤ b
  sim : LSim M L
  gd : ∀ x ∈ L, Gd x.c x.D
  len : L.length ≤ 2
  tl : Tl W4 W3.heap.size v4 L g t
  apt : ∀ i j, i < L.length → j < L.length → i ≠ j → ∀ b, (t i).F b → ¬ (t j).F b
  con : L = [⟨1, 0, 0, zc, D0⟩] → ∀ b, ¬ (t 0).F b
  tl' : Tl W5 W4.heap.size v5 M g' t'
  zs : Zs L
  ar : AR W3.heap.size W4 v4 L
  ax : AX W4.heap.size W5 v5 M
theorem did_of {a : Int} {p q : Nat} {W3 W4 W5 : World} {S S' : Prov} {d : EvD} {c3 c4 : Fin 18 → Value} {v4 v5 : Value} {w : World} {EV : Array Value} (ha : 1 ≤ a) (h : Mach a p q W3 S S') (hE : Ev1 w EV d) (hs : ∀ i, i ≠ 4 → i ≠ 12 → i ≠ 13 → i ≠ 17 → c3 i = d.p.c i ∧ c4 i = d.a.c i)
    (hA4 : AR W3.heap.size W4 v4 (doS S (lentD d c3 c4 W3.heap.size)).2) (hP4 : PvE W4 p (doS S (lentD d c3 c4 W3.heap.size)).1) (hB4 : BelBut p W3 W4) (hA5 : AX W4.heap.size W5 v5 (rdoS S' (docD d W4.heap.size)).2) (hR5 : RvE W5 q (rdoS S' (docD d W4.heap.size)).1) (hB5 : BelBut q W4 W5) :
    ∃ S1 S1' L M g g' t t', Did a p q W3 W4 W5 S S' v4 v5 S1 S1' L M g g' t t' := by
  have hd := lent_sim (B := W4.heap.size) (B' := W3.heap.size) hs
  have hg1 : Gd (lentD d c3 c4 W3.heap.size).p.c (lentD d c3 c4 W3.heap.size).p.D := ⟨hE.t1.same fun i h4 h12 h13 h17 => (hs i h4 h12 h13 h17).1, hE.m1⟩
  have hg2 : Gd (lentD d c3 c4 W3.heap.size).a.c (lentD d c3 c4 W3.heap.size).a.D := ⟨hE.t2.same fun i h4 h12 h13 h17 => (hs i h4 h12 h13 h17).2, hE.m2⟩
  obtain ⟨F1, F2, k1, k2, k3⟩ := Mach.both ha h hd rfl rfl hg1 hg2 hP4 hB4 hR5 hB5
  obtain ⟨g, t, t1, t2, t3⟩ := ar_told hA4 (do_zs _ _)
  obtain ⟨g', t', t4⟩ := ax_told hA5
  exact ⟨_, _, _, _, g, g', t, t', k1, k2, k3, (do_sim ha h.inv h.asked h.sim hd).1, (do_gd h.gk hg1 hg2).1, ar_len hA4, t1, t2, t3, t4, do_zs _ _, hA4, hA5⟩
theorem size48 : (Tryd.prog.info? 48).map (·.size) = some 41 := by kernel_rfl
theorem tl_slice {W : World} {lo : Nat} {v : Value} {L : List AcD} {g : Nat} {t : Nat → KpD} (h : Tl W lo v L g t) {n : Nat} (hn : L.length = n) : ∃ ao cap, v = .slice ao n cap ∧ (0 < n → ao = some ⟨g, 0, none⟩) := by subst hn; exact h.v
/-- One event is done: what was told may come into the lists. -/
theorem late_mid {W W3 W4 W5 : World} {a : Int} {p q B m : Nat} {T : Nat → KpD} {wc : Nat → Fin 18 → Value} {G : Nat → Prop} {S S' S1 S1' : Prov} {tv wv v4 v5 : Value} {L M : List AcD} {g g' : Nat} {t t' : Nat → KpD}
    (hM : Mach a p q W S S') (hL : Ls W q m T wc G) (hT : Rw W B m tv (fun j => (T j).k) (fun j => (T j).c)) (hW : Rw W B m wv (fun j => (T j).k) wc) (hne : ∀ b, tv.ownBlock = some b → wv.ownBlock ≠ some b) (hno : ∀ b, (tv.ownBlock = some b ∨ wv.ownBlock = some b) → ¬ S.K.F b ∧ ¬ S'.K.F b ∧ ¬ G b ∧ ∀ j, j < m → ¬ (T j).F b)
    (hqB : q < B) (hb3 : Below W.heap.size W W3) (hB4 : BelBut p W3 W4) (hB5 : BelBut q W4 W5) (hD : Did a p q W3 W4 W5 S S' v4 v5 S1 S1' L M g g' t t') :
    Ls W5 q (m + L.length) (catT m T t) (catC m wc t') (fun b => G b ∨ (W4.heap.size ≤ b ∧ b < W5.heap.size)) ∧ In W5 B m 0 0 (fun j => (catT m T t j).k) (fun j => (catT m T t j).c) (catC m wc t') tv wv tv wv W5 ∧
    (∀ b, (tv.ownBlock = some b ∨ wv.ownBlock = some b) → B ≤ b ∧ ¬ S1.K.F b ∧ ¬ S1'.K.F b ∧ ¬ (G b ∨ (W4.heap.size ≤ b ∧ b < W5.heap.size)) ∧ ∀ j, j < m + L.length → ¬ (catT m T t j).F b) ∧
    (∀ b, (tv.ownBlock = some b ∨ wv.ownBlock = some b) → b < W3.heap.size) := by
  have s3 := hb3.size
  have s4 := hB4.size
  have s5 := hB5.size
  have hpq := hM.pq
  have hql := hM.rv.lt
  have hk : ∀ b, q < b → b < W.heap.size → W5.heap[b]? = W.heap[b]? := fun b h1 h2 => (hB5.block b (by omega) (by omega)).trans ((hB4.block b (by omega) (by omega)).trans (hb3.block b h2))
  have hlt : ∀ b, (tv.ownBlock = some b ∨ wv.ownBlock = some b) → B ≤ b ∧ b < W.heap.size := fun b h => h.elim (hT.lt b) (hW.lt b)
  refine ⟨hL.ext hk s3 s4 (by omega) hD.tl hD.apt hD.tl' hB5 hD.sim hD.gd, ⟨.refl _ _, ?_, ?_, fun b h => .inl h, fun b h => .inl h, hne⟩, fun b hb => ?_, fun b hb => by have := (hlt b hb).2; omega⟩
  · exact (hT.keep fun b e => hk b (by have := (hT.lt b e).1; omega) (hT.lt b e).2).congr fun j hj => by
      show (catT m T t j).k = _ ∧ (catT m T t j).c = _
      rw [catT_old hj]; exact ⟨rfl, rfl⟩
  · exact (hW.keep fun b e => hk b (by have := (hW.lt b e).1; omega) (hW.lt b e).2).congr fun j hj => by
      show (catT m T t j).k = _ ∧ catC m wc t' j = _
      rw [catT_old hj, catC_old hj]; exact ⟨rfl, rfl⟩
  · obtain ⟨l1, l2⟩ := hlt b hb
    obtain ⟨n1, n2, n3, n4⟩ := hno b hb
    refine ⟨l1, fun e => ?_, fun e => ?_, fun e => ?_, fun j hj e => ?_⟩
    · rcases hD.k1 b e with h | h
      · exact n1 h.2
      · omega
    · rcases hD.k2 b e with h | h
      · exact n2 h.2
      · omega
    · rcases e with h | h
      · exact n3 h
      · omega
    · by_cases hm : j < m
      · rw [catT_old hm] at e; exact n4 j hm e
      · rw [catT_new hm] at e
        have := (hD.tl.lo _ (by omega) b e).1
        omega
theorem aph_of {W : World} {q B m : Nat} {T : Nat → KpD} {wc : Nat → Fin 18 → Value} {G : Nat → Prop} {tv wv : Value} (hL : Ls W q m T wc G) (hT : Rw W B m tv (fun j => (T j).k) (fun j => (T j).c)) (hW : Rw W B m wv (fun j => (T j).k) wc) (hno : ∀ b, (tv.ownBlock = some b ∨ wv.ownBlock = some b) → ∀ j, j < m → ¬ (T j).F b) {W' : World} (hk : W'.heap = W.heap) : ApH W' m T wc G tv wv := by
  have hkb : ∀ b : Nat, W'.heap[b]? = W.heap[b]? := fun b => by rw [hk]
  have hL' := hL.keep (W' := W') (by rw [hk]; exact Nat.le_refl _) (fun b _ _ => hkb b)
  exact ⟨(hT.keep fun b _ => hkb b).pl fun b e ⟨j, hj, h⟩ => hno b (.inl e) j hj h, (hW.keep fun b _ => hkb b).pl fun b e ⟨j, hj, h⟩ => hno b (.inr e) j hj h, hL'.ox, hL'.wo, hL'.gd, hL'.same, hL'.apt, hL'.far, fun j hj b hb => (hL'.lt j hj b hb).2⟩
set_option maxRecDepth 100000 in
set_option maxHeartbeats 4000000 in
theorem lateAll_any (w : World) (a : Int) (v : Value) (n : Nat) (h1 : 1 ≤ a) (h2 : a ≤ 1000) (hn : n ≤ 1048576) (hv : EvsT w v n) (hT : Tb w) (hN : Nd w) :
    Calls Tryd.prog 14 #[.int .i64 a, v] w fun x w' => x = .returned (.bool true) ∧ Below w.heap.size w w' := by
  obtain ⟨ao, cap, rfl, hel⟩ := hv
  have HEl : Hid (0 < n → ∃ b off, ao = some ⟨b, off, none⟩ ∧ ∀ i, i < n → ∃ EV d, w.rangeAt b (off + i * 41) EV.toList ∧ Ev1 w EV d) := fun h0 => by
    obtain ⟨b, off, e, h⟩ := hel h0
    refine ⟨b, off, e, fun i hi => ?_⟩
    obtain ⟨EV, d, e1, e2, ⟨e3, e4⟩, e5, e6⟩ := h i hi
    exact ⟨EV, d, e1, e2, e3, e4, e5, e6⟩
  have hp0 : 1 < w.heap.size := hN.lt
  clear hel
  obtain ⟨fs, hu⟩ : ∃ fs, Tryd.prog.underlying 48 = some (.struct fs) := ⟨_, Tryd.underlying48⟩
  obtain ⟨fs6, hu6⟩ : ∃ fs, Tryd.prog.underlying 46 = some (.struct fs) := ⟨_, Tryd.underlying46⟩
  have HN : Hid (Tb w ∧ Nd w ∧ 1 < w.heap.size ∧ 1 ≤ a ∧ a ≤ 1000) := ⟨hT, hN, hp0, h1, h2⟩
  have hnw := new_x w a h1 h2
  have hrn := fun W => rnew_x W a h1 h2
  clear hT hN hp0
  go_enter Tryd.func14, Tryd.ntmps14
  go_wp2_with (go_at_call 4; refine hnw.mono ?_; refine Fr.Stop.mk ?_)
  rintro x W1 ⟨rfl, hb1, PV1, hP1⟩
  have HB1 : Hid (Below w.heap.size w W1 ∧ PvE W1 w.heap.size (S0 a)) := ⟨hb1, PV1, zc, hP1⟩
  have hrn1 := hrn W1
  clear hb1 hP1 hnw hrn
  go_wp2_with (go_at_call 5; refine hrn1.mono ?_; refine Fr.Stop.mk ?_)
  rintro x W2 ⟨rfl, hb2, hR2⟩
  have hz2 := hR2.lt
  obtain ⟨q, hq⟩ : ∃ q, W1.heap.size + 1 = q := ⟨_, rfl⟩
  rw [hq] at hR2 hz2 ⊢
  have HB2 : Hid (Below w.heap.size w W2 ∧ Mach a w.heap.size q W2 (S0 a) (S0 a)) := ⟨HB1.out.1.trans (hb2.mono HB1.out.1.size), mach0 (HB1.out.2.on hb2) hR2 (by have := HB1.out.2.lt; omega)⟩
  clear hb2 hR2 hrn1 h1 h2 HB1 hq
  go_wp2
  obtain ⟨o31, ho31⟩ : ∃ o, Obj.cells #[Value.slice none 0 0, Value.int IntKind.i64 0] 31 = o := ⟨_, rfl⟩
  rw [ho31]
  clear ho31
  obtain ⟨WL, hWL⟩ : ∃ W, W2.alloc o31 = W := ⟨_, rfl⟩
  obtain ⟨B, hB⟩ : ∃ B, WL.heap.size = B := ⟨_, rfl⟩
  have hbL : Below W2.heap.size W2 WL := hWL ▸ (Below.refl _ _).alloc (Nat.le_refl _) _
  have hBz : W2.heap.size < B := by rw [← hB, ← hWL]; simp
  have HB : Hid (w.heap.size ≤ B ∧ q < B) := ⟨by have := HB2.out.1.size; omega, by omega⟩
  have HI0 : Hid (LateI w a w.heap.size q B 0 (.slice none 0 0) (.slice none 0 0) WL) := by
    refine ⟨0, fun _ => noPdu, fun _ => zc, fun _ => False, S0 a, S0 a, ⟨HB2.out.1.trans (hbL.mono HB2.out.1.size), Nat.le_refl _, Nat.le_of_eq hB.symm⟩, HB2.out.2.on hbL, Ls.nil _ _ _ _, Rw.nil _ _ _ _, Rw.nil _ _ _ _, ?_, ?_⟩
    · intro b h
      cases h
    · intro b h
      rcases h with h | h <;> cases h
  rw [hWL]
  clear HB2 hbL hBz hB hz2
  go_loopw [9, 10, 11] (fun tv wv x wr => ∃ (i : Nat), x = .int .i64 (i : Int) ∧ i ≤ n ∧ Hid (LateI w a w.heap.size q B i tv wv wr)) (fun _ _ x _ => n - (intOf x).toNat)
  case atStart => exact ⟨0, rfl, by omega, HI0⟩
  case round => as_aux_lemma =>
    clear HI0 hWL
    obtain ⟨i, rfl, hi, HI⟩ := hrel
    by_cases hin : i < n
    · have hI : ((i : Int) < (n : Int)) := by omega
      obtain ⟨b, off, hao, hE⟩ := HEl.out (by omega)
      subst hao
      obtain ⟨m, T, wc, G, S, S', ⟨hbw, hm, hBw⟩, hM, hL, hT, hW, hne, hno⟩ := HI.out
      obtain ⟨EV, d, hr0, hev⟩ := hE i hin
      have hr := range_onX hr0 hbw
      have hevy := hev.y.on hbw
      have hsz : (Tryd.prog.info? 48).map (·.size) = some EV.toList.length := by rw [Array.length_toList, hev.y.ev.sz]; exact size48
      have hln := lend_own wr EV _ _ _ _ _ _ _ hevy.ev
      have HE : Hid (Ev1 w EV d ∧ w.rangeAt b (off + i * 41) EV.toList) := ⟨hev, hr0⟩
      have HS : Hid ((Below w.heap.size w wr ∧ m ≤ 2 * i ∧ B ≤ wr.heap.size) ∧ Mach a w.heap.size q wr S S') := ⟨⟨hbw, hm, hBw⟩, hM⟩
      have HL : Hid (Ls wr q m T wc G ∧ Rw wr B m u9 (fun j => (T j).k) (fun j => (T j).c) ∧ Rw wr B m u10 (fun j => (T j).k) wc ∧ (∀ b, u9.ownBlock = some b → u10.ownBlock ≠ some b) ∧ ∀ b, (u9.ownBlock = some b ∨ u10.ownBlock = some b) → ¬ S.K.F b ∧ ¬ S'.K.F b ∧ ¬ G b ∧ ∀ j, j < m → ¬ (T j).F b) := ⟨hL, hT, hW, hne, hno⟩
      clear hE hr0 hevy hev hbw hm hBw hM hL hT hW hne hno HI
      go_wp2_with (first | (refine wpList_load_mid rfl 48 (.tmp 44) rfl b (off + i * 41) rfl EV.toList _ hr hu rfl hsz ?_) | (go_at_call 7; refine hln.mono ?_; refine Fr.Stop.mk ?_))
      rintro x W3 ⟨Q, c3, c4, M, M2, rfl, hex, h20, h40, hsame, hb3, -, -, -, -, -⟩
      have hM3 := HS.out.2.on hb3
      have hwW3 : Below w.heap.size w W3 := HS.out.1.1.trans (hb3.mono HS.out.1.1.size)
      have hy : EvY W3 Q (lentD d c3 c4 W3.heap.size) := ⟨hex, h20.trans HE.out.1.y.bad, h40.trans HE.out.1.y.rs, (hsame 15 (by decide) (by decide) (by decide) (by decide)).1.trans HE.out.1.y.s, fun _ h => h⟩
      have hdo := do_e W3 w.heap.size Q a S (lentD d c3 c4 W3.heap.size) HN.out.2.2.2.2 HN.out.2.2.2.1 hM3.inv hM3.pv hy (HN.out.1.on hwW3) (HN.out.2.1.on hwW3) HN.out.2.2.1
      have HM3 : Hid ((Below wr.heap.size wr W3 ∧ Below w.heap.size w W3) ∧ Mach a w.heap.size q W3 S S' ∧ ∀ i, i ≠ 4 → i ≠ 12 → i ≠ 13 → i ≠ 17 → c3 i = d.p.c i ∧ c4 i = d.a.c i) := ⟨⟨hb3, hwW3⟩, hM3, hsame⟩
      clear hex h20 h40 hsame hb3 hM3 hwW3 hy hln hr
      go_wp2_with (go_at_call 8; refine hdo.mono ?_; refine Fr.Stop.mk ?_)
      rintro x W4 ⟨v4, rfl, hA4, hP4, hB4⟩
      have hwW4 : Below w.heap.size w W4 := HM3.out.1.2.trans (hB4.below (Nat.le_refl _) HM3.out.1.2.size)
      have hr4 : W4.rangeAt b (off + i * 41) EV.toList := range_onX HE.out.2 hwW4
      have hR4 : RvE W4 q S' := HM3.out.2.1.rv.keepF (hB4.block q HM3.out.2.1.rv.lt (by have := HM3.out.2.1.pq; omega)) fun b h1 h2 => hB4.block b h1 (by have := (HM3.out.2.1.lo' b h2).1; have := HM3.out.2.1.pq; omega)
      have hart : S'.art = a := by rw [HM3.out.2.1.sim.art]; exact HM3.out.2.1.inv.art
      have hleft : S'.left ≤ 9223372036854775807 := by
        rw [HM3.out.2.1.sim.left]
        have hI := HM3.out.2.1.inv
        have := HN.out.2.2.2.2
        by_cases ht : Td S.sta
        · have := hI.on ht; omega
        · rw [hI.off ht]; omega
      have hyd : ∀ W', BelBut q W4 W' → EvY W' EV (docD d W4.heap.size) := fun W' hb => by
        have hpq := HM3.out.2.1.pq
        have h1 : Below w.heap.size w W' := hwW4.trans (hb.below (by omega) hwW4.size)
        have h2 := HE.out.1.y.on h1
        exact ⟨h2.ev, h2.bad, h2.rs, h2.s, fun b hb2 => Nat.le_trans hb.size hb2⟩
      have hdd := rdo_any W4 q EV S' (docD d W4.heap.size) hleft (by rw [hart]; exact HN.out.2.2.2.1) hR4 hyd
      have HA4 : Hid (AR W3.heap.size W4 v4 (doS S (lentD d c3 c4 W3.heap.size)).2 ∧ PvE W4 w.heap.size (doS S (lentD d c3 c4 W3.heap.size)).1 ∧ BelBut w.heap.size W3 W4) := ⟨hA4, hP4, hB4⟩
      clear hA4 hP4 hB4 hwW4 hR4 hart hleft hyd hdo
      go_wp2_with (first | (refine wpList_load_mid rfl 48 (.tmp 51) rfl b (off + i * 41) rfl EV.toList _ hr4 hu rfl hsz ?_) | (go_at_call 9; refine hdd.mono ?_; refine Fr.Stop.mk ?_))
      rintro x W5 ⟨v5, rfl, hA5, hR5, hB5⟩
      obtain ⟨S1, S1', L, M', g, g', t, t', hD⟩ := did_of HN.out.2.2.2.1 HM3.out.2.1 HE.out.1 HM3.out.2.2 HA4.out.1 HA4.out.2.1 HA4.out.2.2 hA5 hR5 hB5
      obtain ⟨nl, hnl⟩ : ∃ n, L.length = n := ⟨_, rfl⟩
      obtain ⟨al, cl, e4, hal⟩ := tl_slice hD.tl hnl
      obtain ⟨am, cm, e5, ham⟩ := tl_slice hD.tl' (n := nl) (by rw [← hnl]; exact hD.sim.len.symm)
      subst e4 e5
      have hlm := late_mid HS.out.2 HL.out.1 HL.out.2.1 HL.out.2.2.1 HL.out.2.2.2.1 HL.out.2.2.2.2 HB.out.2 HM3.out.1.1 HA4.out.2.2 hB5 hD
      rw [hnl] at hlm
      have HIn : Hid (In W5 B m 0 0 (fun j => (catT m T t j).k) (fun j => (catT m T t j).c) (catC m wc t') u9 u10 u9 u10 W5) := hlm.2.1
      have hnl2 : nl ≤ 2 := hnl ▸ hD.len
      have hwW5 : Below w.heap.size w W5 := by
        have hpq := HM3.out.2.1.pq
        have h1 := HM3.out.1.2.trans (HA4.out.2.2.below (Nat.le_refl _) HM3.out.1.2.size)
        exact h1.trans (hB5.below (by omega) h1.size)
      have hBW5 : B ≤ W5.heap.size := by have := HS.out.1.2.2; have := HM3.out.1.1.size; have := HA4.out.2.2.size; have := hB5.size; omega
      have hmi : m + nl ≤ 2 * (i + 1) := by have := HS.out.1.2.1; omega
      have HEnd : Hid (∀ tv wv wr, In W5 B m nl nl (fun j => (catT m T t j).k) (fun j => (catT m T t j).c) (catC m wc t') u9 u10 tv wv wr → LateI w a w.heap.size q B (i + 1) tv wv wr) := by
        show ∀ tv wv wr, _
        intro tv wv wr h
        exact late_end hwW5 hmi hBW5 HB.out.1 HB.out.2 hD.mach hlm.1 hlm.2.2.1 h
      have HPT : Hid (∀ k, k < nl → ∀ kt kw tv wv wr, In W5 B m kt kw (fun j => (catT m T t j).k) (fun j => (catT m T t j).c) (catC m wc t') u9 u10 tv wv wr → wr.rangeAt g (k * 21 + 2) (Pd (t k).k (t k).c).toList ∧ wr.rangeAt g' (k * 21 + 2) (Pd (t k).k (t' k).c).toList) := by
        show ∀ k, _
        intro k hk kt kw tv wv wr h
        have k1 : k < L.length := by omega
        have k2 : k < M'.length := by rw [← hD.sim.len]; exact k1
        have g1 := hD.tl.gl (by omega)
        have g2 := hD.tl'.gl (by omega)
        have hq3 := HM3.out.2.1.rv.lt
        have s4 := HA4.out.2.2.size
        have s5 := hB5.size
        have e0 : (t' k).k = (t k).k := by rw [(hD.tl'.s k k2).1, (hD.tl.s k k1).1, (hD.sim.get k k2 k1).k]
        refine ⟨fun j u hu => ?_, fun j u hu => ?_⟩
        · refine (World.cell?_of_block ((h.kf.block g (by omega) fun e => ?_).trans (hB5.block g g1.2 (by omega)))).trans (hD.tl.at' k k1 j u hu)
          have := hlm.2.2.2 g e
          omega
        · rw [← e0] at hu
          refine (World.cell?_of_block (h.kf.block g' g2.2 fun e => ?_)).trans (hD.tl'.at' k k2 j u hu)
          have := hlm.2.2.2 g' e
          omega
      have HONE : Hid (∀ k, k < nl → (∀ i, ((t k).c i).oneCell' = true) ∧ ∀ i, ((t' k).c i).oneCell' = true) := by
        show ∀ k, _
        intro k hk
        exact ⟨(hD.tl.ox k (by omega)).one, (hD.tl'.ox k (by rw [← hD.sim.len]; omega)).one⟩
      have HM2 : Hid (m ≤ 2 * i) := HS.out.1.2.1
      have HBW : Hid (B ≤ W5.heap.size) := hBW5
      clear hlm hD hA5 hR5 hB5 hdd hr4 HA4 HM3 HS HL HE hnl hwW5 hBW5 hmi
      have hb0 : ((nl : Int) == (nl : Int)) = true := by simp
      go_wp2
      obtain ⟨tv0, rfl⟩ : ∃ x, x = u9 := ⟨_, rfl⟩
      obtain ⟨wv0, rfl⟩ : ∃ x, x = u10 := ⟨_, rfl⟩
      go_loopw [9, 10, 14] (fun tv wv x wr => ∃ (k : Nat), x = .int .i64 (k : Int) ∧ k ≤ nl ∧ Hid (In W5 B m k k (fun j => (catT m T t j).k) (fun j => (catT m T t j).c) (catC m wc t') tv0 wv0 tv wv wr)) (fun _ _ x _ => nl - (intOf x).toNat)
      case atStart => exact ⟨0, rfl, by omega, HIn⟩
      case round => as_aux_lemma =>
        clear HIn
        obtain ⟨k, rfl, hk, HIn⟩ := hrel
        by_cases hkn : k < nl
        · have hK : ((k : Int) < (nl : Int)) := by omega
          have hgg : al = some ⟨g, 0, none⟩ := hal (by omega)
          have hgg' : am = some ⟨g', 0, none⟩ := ham (by omega)
          subst hgg hgg'
          obtain ⟨P1, hP1⟩ : ∃ P, Pd (t k).k (t k).c = P := ⟨_, rfl⟩
          obtain ⟨P2, hP2⟩ : ∃ P, Pd (t k).k (t' k).c = P := ⟨_, rfl⟩
          have hr1 := (HPT.out k hkn _ _ _ _ _ HIn.out).1
          rw [hP1] at hr1
          have sz : ∀ k c, (Tryd.prog.info? 46).map (·.size) = some (Pd k c).toList.length := fun k c => by unfold Pd; kernel_rfl
          have hs1 : (Tryd.prog.info? 46).map (·.size) = some P1.toList.length := hP1 ▸ sz _ _
          have hs2 : (Tryd.prog.info? 46).map (·.size) = some P2.toList.length := hP2 ▸ sz _ _
          have hl1 : P1.toList.length = 19 := by rw [← hP1]; rfl
          have hl2 : P2.toList.length = 19 := by rw [← hP2]; rfl
          have ho1 : ∀ v ∈ P1.toList, v.oneCell' = true := fun v hv => Array.all_eq_true_iff_forall_mem.1 (hP1 ▸ pd_one _ _ (HONE.out k hkn).1) v (by simpa using hv)
          have ho2 : ∀ v ∈ P2.toList, v.oneCell' = true := fun v hv => Array.all_eq_true_iff_forall_mem.1 (hP2 ▸ pd_one _ _ (HONE.out k hkn).2) v (by simpa using hv)
          have HP1 : Hid (Pd (t k).k (t k).c = P1) := hP1
          have HP2 : Hid (Pd (t k).k (t' k).c = P2) := hP2
          clear sz
          obtain ⟨i0, hi0, hz0, hsz0, hb0⟩ := info_parts infoPdu
          obtain ⟨xs, hx, hxc⟩ := HIn.out.t
          have HX : Hid (wr.ownsRow B 46 19 u9 (m + k) xs ∧ ∀ j, j < m + k → ∀ i u, (Pd ((fun j => (catT m T t j).k) j) ((fun j => (catT m T t j).c) j)).toList[i]? = some u → xs[j * 19 + i]? = some u) := ⟨hx, hxc⟩
          have HO : Hid ((∀ v ∈ P1.toList, v.oneCell' = true) ∧ ∀ v ∈ P2.toList, v.oneCell' = true) := ⟨ho1, ho2⟩
          have hBr : B ≤ wr.heap.size := by have := HIn.out.kf.size; have := HBW.out; omega
          have hmm := HM2.out
          clear hx hxc ho1 ho2
          go_wp2_with (first | (refine wpList_load_mid rfl 46 (.tmp 69) rfl g (k * 21 + 2) rfl P1.toList _ hr1 hu6 rfl hs1 ?_) | (refine sliceP rfl (.tmp 70) rfl P1 (t k).k (t k).c HP1.out rfl ?_) | (at_builtin; refine Fr.Stop.mk ?_))
          refine Fr.Stop.out (app_keeps rfl (.tmp 65) (.tmp 71) 98 rfl B 46 i0 _ 19 216 Tryd.underlying98 hi0 hz0 hsz0 hb0 rfl (by decide) u9 (m + k) xs rfl (World.ownsRow.alloc HX.out.1 _) ⟨wr.heap.size, 0, none⟩ P1.toList rfl hl1 (World.news_of_block (alloc_new wr _)) HO.out.1 (by unfold maxLen; omega) (by omega) (by simp; omega) ?_)
          intro g1 c1 W6 ho6 hg6 hd6
          have HI6 : Hid (In W5 B m (k + 1) k (fun j => (catT m T t j).k) (fun j => (catT m T t j).c) (catC m wc t') tv0 wv0 (.slice (some ⟨g1, 0, none⟩) (m + k + 1) c1) u10 W6) := by
            refine In.push HIn.out HX.out.1 HX.out.2 ?_ hg6 hd6
            have e1 : catT m T t (m + k) = t k := by rw [catT_new (by omega), show m + k - m = k by omega]
            show W6.ownsRow B 46 19 _ _ (xs ++ (Pd (catT m T t (m + k)).k (catT m T t (m + k)).c).toList)
            rw [e1, HP1.out]
            exact ho6
          have hr2 := (HPT.out k hkn _ _ _ _ _ HI6.out).2
          rw [hP2] at hr2
          obtain ⟨ys, hy, hyc⟩ := HI6.out.w
          have HY : Hid (W6.ownsRow B 46 19 u10 (m + k) ys ∧ ∀ j, j < m + k → ∀ i u, (Pd ((fun j => (catT m T t j).k) j) (catC m wc t' j)).toList[i]? = some u → ys[j * 19 + i]? = some u) := ⟨hy, hyc⟩
          have hB6 : B ≤ W6.heap.size := by have := HI6.out.kf.size; have := HBW.out; omega
          clear ho6 hg6 hd6 hr1 hy hyc HX hs1 hl1
          go_wp2_with (first | (refine wpList_load_mid rfl 46 (.tmp 77) rfl g' (k * 21 + 2) rfl P2.toList _ hr2 hu6 rfl hs2 ?_) | (refine sliceP rfl (.tmp 78) rfl P2 (t k).k (t' k).c HP2.out rfl ?_) | (at_builtin; refine Fr.Stop.mk ?_))
          refine Fr.Stop.out (app_keeps rfl (.tmp 73) (.tmp 79) 98 rfl B 46 i0 _ 19 216 Tryd.underlying98 hi0 hz0 hsz0 hb0 rfl (by decide) u10 (m + k) ys rfl (World.ownsRow.alloc HY.out.1 _) ⟨W6.heap.size, 0, none⟩ P2.toList rfl hl2 (World.news_of_block (alloc_new W6 _)) HO.out.2 (by unfold maxLen; omega) (by omega) (by simp; omega) ?_)
          intro g2 c2 W7 ho7 hg7 hd7
          have HI7 : Hid (In W5 B m (k + 1) (k + 1) (fun j => (catT m T t j).k) (fun j => (catT m T t j).c) (catC m wc t') tv0 wv0 (.slice (some ⟨g1, 0, none⟩) (m + k + 1) c1) (.slice (some ⟨g2, 0, none⟩) (m + k + 1) c2) W7) := by
            refine (In.push HI6.out.swap HY.out.1 HY.out.2 ?_ hg7 hd7).swap
            have e1 : catT m T t (m + k) = t k := by rw [catT_new (by omega), show m + k - m = k by omega]
            have e2 : catC m wc t' (m + k) = (t' k).c := by rw [catC_new (by omega), show m + k - m = k by omega]
            show W7.ownsRow B 46 19 _ _ (ys ++ (Pd (catT m T t (m + k)).k (catC m wc t' (m + k))).toList)
            rw [e1, e2, HP2.out]
            exact ho7
          clear ho7 hg7 hd7 hr2 HY HI6 hs2 hl2 hP1 hP2
          go_wp2
          go_roundw
          case rel => exact ⟨k + 1, by go_num, by omega, HI7.out⟩
          case measure => simp [intOf]; omega
        · have hK : ¬ ((k : Int) < (nl : Int)) := by omega
          obtain rfl : k = nl := by omega
          have HI9 : Hid (LateI w a w.heap.size q B (i + 1) u9 u10 wr) := HEnd.out _ _ _ HIn.out
          clear HEnd HPT HONE HIn
          go_wp2
          go_roundw
          case rel => exact ⟨i + 1, by go_num, by omega, HI9.out⟩
          case measure => simp [intOf]; omega
    · have hI : ¬ ((i : Int) < (n : Int)) := by omega
      obtain rfl : i = n := by omega
      obtain ⟨m, T, wc, G, S, S', ⟨hbw, hm, hBw⟩, hM, hL, hT, hW, hne, hno⟩ := HI.out
      have hap : Calls Tryd.prog 35 #[u9, u10] wr.drew fun e w' => e = .returned (.bool true) ∧ KF (fun b => ∃ j, j < m ∧ (T j).F b) wr.drew w' := apart_any wr.drew m T wc G u9 u10 (aph_of hL hT hW (fun b e => (hno b e).2.2.2) rfl) (by omega)
      have hs0 : Pv wr w.heap.size S.art S.left S.sta S.asked ∧ wr.rangeAt q 1 (stC S) := ⟨by obtain ⟨PV, c0, h⟩ := hM.pv; exact pv_of h, rv_range hM.rv hM.sim⟩
      have hst : Pv wr.drew w.heap.size S.art S.left S.sta S.asked ∧ wr.drew.rangeAt q 1 (stC S) := ⟨pv_same hs0.1 rfl, range_same hs0.2 rfl⟩
      have hS : Hid (∀ W', KF (fun b => ∃ j, j < m ∧ (T j).F b) wr.drew W' → Pv W' w.heap.size S.art S.left S.sta S.asked ∧ W'.rangeAt q 1 (stC S)) := by
        show ∀ W', _
        intro W' hk
        have hpq := hM.pq
        exact ⟨pv_same hst.1 (hk.block w.heap.size hM.pv.lt fun ⟨j, hj, e⟩ => by have := (hL.lt j hj _ e).1; omega), range_same hst.2 (hk.block q hM.rv.lt fun ⟨j, hj, e⟩ => by have := (hL.lt j hj _ e).1; omega)⟩
      have HF : Hid (∀ W', KF (fun b => ∃ j, j < m ∧ (T j).F b) wr.drew W' → Below w.heap.size w W') := by
        show ∀ W', _
        intro W' hk
        have hpq := hM.pq
        exact ⟨hk.os.trans hbw.drew.os, hk.tape.trans hbw.drew.tape, hk.output.trans hbw.drew.output, Nat.le_trans hbw.size hk.size, fun b hb => (hk.block b (Nat.lt_of_lt_of_le hb hbw.size) fun ⟨j, hj, e⟩ => by have := (hL.lt j hj _ e).1; omega).trans (hbw.block b hb)⟩
      have hs5 : (Tryd.prog.info? 55).map (·.size) = some (stC S).length := by kernel_rfl
      clear hbw hm hBw hM hL hT hW hne hno HI hs0 HEl
      go_wp2
      refine wp_region_held_drew (S := fun w' => Pv w' w.heap.size S.art S.left S.sta S.asked ∧ w'.rangeAt q 1 (stC S)) (by kernel_rfl) hst (fun hHeld => ?_)
      (refine wpAnyH_take (i := 0) (oi := ({ dst := some 81, op := Op.move (Operand.tmp 9), type := 98, pos := "exact.go:93", after := #[], guard := none } : Oper)) (v := ?_) rfl (by kernel_rfl) (by kernel_rfl) (by kernel_rfl) (fun _ _ _ h => h) (Or.inl ⟨by rfl, ?_⟩) (by assumption) ?_; rotate_left 1; (focus (intro wS hSw; (try dsimp only at hSw); go_split_ands; go_simp; (try with_reducible rfl))); (try simp only [Act.put, List.setIfInBounds_toArray, List.set_cons_zero, List.set_cons_succ]))
      (refine wpAnyH_take (i := 1) (oi := ({ dst := some 82, op := Op.move (Operand.tmp 10), type := 98, pos := "exact.go:93", after := #[], guard := none } : Oper)) (v := ?_) rfl (by kernel_rfl) (by kernel_rfl) (by kernel_rfl) (fun _ _ _ h => h) (Or.inl ⟨by rfl, ?_⟩) (by assumption) ?_; rotate_left 1; (focus (intro wS hSw; (try dsimp only at hSw); go_split_ands; go_simp; (try with_reducible rfl))); (try simp only [Act.put, List.setIfInBounds_toArray, List.set_cons_zero, List.set_cons_succ]))
      refine wpAnyH_ready (rs := [2]) (by kernel_rfl) (by simp) ?_
      refine AllReadyH.cons (o := ({ dst := some 83, op := Op.call { callee := Callee.value (Operand.func 35), args := #[Operand.tmp 81, Operand.tmp 82], argTypes := #[98, 98] }, type := 4, pos := "exact.go:93", after := #[{ on := 0, ground := Ground.data }, { on := 1, ground := Ground.data }], guard := none } : Oper)) rfl (fun K hK => ?_) AllReadyH.nil
      go_simp
      go_at_call 35
      refine hap.mono ?_
      rintro xx W8 ⟨rfl, hk8⟩
      have HK8 : Hid (KF (fun b => ∃ j, j < m ∧ (T j).F b) wr.drew W8) := hk8
      try go_wp2_with (fail)
      have hS8 := hS.out W8 HK8.out
      refine hK.out _ _ hS8 (fun hHeld => ?_)
      clear hK K hk8 hap
      try simp only [Act.put, List.setIfInBounds_toArray, List.set_cons_zero, List.set_cons_succ]
      (refine wpAnyH_take (i := 3) (oi := ({ dst := some 84, op := Op.move (Operand.tmp 83), type := 4, pos := "exact.go:93", after := #[{ on := 2, ground := Ground.data }, { on := 2, ground := Ground.chain }], guard := none } : Oper)) (v := ?_) rfl (by kernel_rfl) (by kernel_rfl) (by kernel_rfl) (fun _ _ _ h => h) (Or.inl ⟨by rfl, ?_⟩) (by assumption) ?_; rotate_left 1; (focus (intro wS hSw; (try dsimp only at hSw); go_split_ands; go_simp; (try with_reducible rfl))); (try simp only [Act.put, List.setIfInBounds_toArray, List.set_cons_zero, List.set_cons_succ]))
      (refine wpAnyH_take (i := 4) (oi := ({ dst := some 85, op := Op.move (Operand.tmp 5), type := 23, pos := "exact.go:93", after := #[{ on := 3, ground := Ground.guard }], guard := some (3, true) } : Oper)) (v := ?_) rfl (by kernel_rfl) (by kernel_rfl) (by kernel_rfl) (fun _ _ _ h => h) (Or.inl ⟨by rfl, ?_⟩) (by assumption) ?_; rotate_left 1; (focus (intro wS hSw; (try dsimp only at hSw); go_split_ands; go_simp; (try with_reducible rfl))); (try simp only [Act.put, List.setIfInBounds_toArray, List.set_cons_zero, List.set_cons_succ]))
      (refine wpAnyH_take (i := 6) (oi := ({ dst := some 87, op := Op.move (Operand.tmp 7), type := 28, pos := "exact.go:93", after := #[{ on := 3, ground := Ground.guard }], guard := some (3, true) } : Oper)) (v := ?_) rfl (by kernel_rfl) (by kernel_rfl) (by kernel_rfl) (fun _ _ _ h => h) (Or.inl ⟨by rfl, ?_⟩) (by assumption) ?_; rotate_left 1; (focus (intro wS hSw; (try dsimp only at hSw); go_split_ands; go_simp; (try with_reducible rfl))); (try simp only [Act.put, List.setIfInBounds_toArray, List.set_cons_zero, List.set_cons_succ]))
      (refine wpAnyH_take (i := 7) (oi := ({ dst := some 88, op := Op.nilCheck (Operand.tmp 87), type := 0, pos := "exact.go:93", after := #[{ on := 6, ground := Ground.data }, { on := 3, ground := Ground.guard }], guard := some (3, true) } : Oper)) (v := ?_) rfl (by kernel_rfl) (by kernel_rfl) (by kernel_rfl) (fun _ _ _ h => h) (Or.inl ⟨by rfl, ?_⟩) (by assumption) ?_; rotate_left 1; (focus (intro wS hSw; (try dsimp only at hSw); go_split_ands; go_simp; (try with_reducible rfl))); (try simp only [Act.put, List.setIfInBounds_toArray, List.set_cons_zero, List.set_cons_succ]))
      (refine wpAnyH_take (i := 8) (oi := ({ dst := some 89, op := Op.fieldAddr 58 (Operand.tmp 88) 1, type := 0, pos := "exact.go:93", after := #[{ on := 7, ground := Ground.data }, { on := 3, ground := Ground.guard }], guard := some (3, true) } : Oper)) (v := ?_) rfl (by kernel_rfl) (by kernel_rfl) (by kernel_rfl) (fun _ _ _ h => h) (Or.inl ⟨by rfl, ?_⟩) (by assumption) ?_; rotate_left 1; (focus (intro wS hSw; (try dsimp only at hSw); go_split_ands; go_simp; (try with_reducible rfl))); (try simp only [Act.put, List.setIfInBounds_toArray, List.set_cons_zero, List.set_cons_succ]))
      refine wpAnyH_take (i := 9) (oi := ({ dst := some 90, op := Op.load 55 (Operand.tmp 89), type := 55, pos := "exact.go:93", after := #[{ on := 8, ground := Ground.data }, { on := 3, ground := Ground.guard }], guard := some (3, true) } : Oper)) (v := .agg (stC S).toArray) rfl (by kernel_rfl) (by kernel_rfl) (by kernel_rfl) (fun _ _ _ h => h) (yieldsIf_load_mid (by rfl) 55 (.tmp 89) rfl q 1 rfl (stC S) _ (fun w h => h.2) Tryd.underlying55 rfl hs5) hHeld ?_
      try simp only [Act.put, List.setIfInBounds_toArray, List.set_cons_zero, List.set_cons_succ]
      refine wpAnyH_ready (rs := [5]) (by kernel_rfl) (by simp) ?_
      refine AllReadyH.cons (o := ({ dst := some 86, op := Op.call { callee := Callee.value (Operand.func 12), args := #[Operand.tmp 85], argTypes := #[23] }, type := 55, pos := "exact.go:93", after := #[{ on := 4, ground := Ground.data }, { on := 3, ground := Ground.chain }, { on := 3, ground := Ground.guard }], guard := some (3, true) } : Oper)) rfl (fun K hK => ?_) AllReadyH.nil
      go_simp
      go_at_call 12
      refine (state_any W8 _ _ _ _ _ hHeld.1).mono ?_
      rintro xx W9 ⟨rfl, hb9⟩
      have HB9 : Hid (Below W8.heap.size W8 W9) := hb9
      try go_wp2_with (fail)
      have hS9 : Pv W9 w.heap.size S.art S.left S.sta S.asked ∧ W9.rangeAt q 1 (stC S) := ⟨hHeld.1.on HB9.out, fun j v hv => (HB9.out.cell (cell_lt (hHeld.2 j v hv))).trans (hHeld.2 j v hv)⟩
      refine hK.out _ _ hS9 (fun hHeld => ?_)
      clear hK K hb9
      try simp only [Act.put, List.setIfInBounds_toArray, List.set_cons_zero, List.set_cons_succ]
      refine wpAnyH_take (i := 10) (oi := ({ dst := some 91, op := Op.binOp BinOp.eql 55 (Operand.tmp 86) (Operand.tmp 90) 55, type := 4, pos := "exact.go:93", after := #[{ on := 5, ground := Ground.data }, { on := 9, ground := Ground.data }, { on := 3, ground := Ground.guard }], guard := some (3, true) } : Oper)) (v := .bool true) rfl (by kernel_rfl) (by kernel_rfl) (by kernel_rfl) (fun _ _ _ h => h) (Or.inl ⟨by rfl, ?_⟩) hHeld ?_
      · intro w hSw
        (try dsimp only at hSw)
        go_split_ands
        simp only [stC]
        go_simp
        try simp
      try simp only [Act.put, List.setIfInBounds_toArray, List.set_cons_zero, List.set_cons_succ]
      (refine wpAnyH_take (i := 11) (oi := ({ dst := some 92, op := Op.pick (Operand.tmp 84) (Operand.tmp 91) (Operand.const (Value.bool false)), type := 4, pos := "exact.go:93", after := #[{ on := 3, ground := Ground.data }, { on := 10, ground := Ground.data }], guard := none } : Oper)) (v := ?_) rfl (by kernel_rfl) (by kernel_rfl) (by kernel_rfl) (fun _ _ _ h => h) (Or.inl ⟨by rfl, ?_⟩) (by assumption) ?_; rotate_left 1; (focus (intro wS hSw; (try dsimp only at hSw); go_split_ands; go_simp; (try with_reducible rfl))); (try simp only [Act.put, List.setIfInBounds_toArray, List.set_cons_zero, List.set_cons_succ]))
      (refine wpAnyH_take (i := 12) (oi := ({ dst := some 4, op := Op.assign (Operand.tmp 92), type := 4, pos := "exact.go:93", after := #[{ on := 11, ground := Ground.data }, { on := 5, ground := Ground.chain }, { on := 0, ground := Ground.phase }, { on := 1, ground := Ground.phase }, { on := 2, ground := Ground.phase }, { on := 3, ground := Ground.phase }, { on := 4, ground := Ground.phase }, { on := 5, ground := Ground.phase }, { on := 6, ground := Ground.phase }, { on := 7, ground := Ground.phase }, { on := 8, ground := Ground.phase }, { on := 9, ground := Ground.phase }, { on := 10, ground := Ground.phase }, { on := 11, ground := Ground.phase }], guard := none } : Oper)) (v := ?_) rfl (by kernel_rfl) (by kernel_rfl) (by kernel_rfl) (fun _ _ _ h => h) (Or.inl ⟨by rfl, ?_⟩) (by assumption) ?_; rotate_left 1; (focus (intro wS hSw; (try dsimp only at hSw); go_split_ands; go_simp; (try with_reducible rfl))); (try simp only [Act.put, List.setIfInBounds_toArray, List.set_cons_zero, List.set_cons_succ]))
      refine wpAnyH_done (by kernel_rfl) ?_ _
      go_wp2
      go_ret
      have h8 := HF.out W8 HK8.out
      exact ⟨rfl, h8.trans (HB9.out.mono h8.size)⟩
end Go.Proofs.YtiieikdbhpflgabDoor
