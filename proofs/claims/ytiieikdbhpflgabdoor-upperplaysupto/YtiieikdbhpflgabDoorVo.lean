import Derived.Test.YtiieikdbhpflgabDoorVn
import Derived.Test.YtiieikdbhpflgabDoorVk
/-
  DERIVED. The law: both machines, event by event; what was lent, what is told.
-/
namespace Go.Proofs.YtiieikdbhpflgabDoor
open Go Go.Proofs Go.RowKit

theorem mk_keep {K lo : Nat} {W W' : World} {rv : Value} {ps : List El} {j : Nat} (h : MK K W rv ps j) (hr : ∀ b, rv.ownBlock = some b → lo ≤ b) (hs : W.heap.size ≤ W'.heap.size) (hk : ∀ b, lo ≤ b → b < W.heap.size → W'.heap[b]? = W.heap[b]?) : MK K W' rv ps j := fun q hq hqj => by
  obtain ⟨g, n, cap, m, mc, bs, e, h1, h2, h3, h4, h5⟩ := h q hq hqj
  have hg := hr g (by rw [e]; rfl)
  exact ⟨g, n, cap, m, mc, bs, e, (World.cell?_of_block (hk g hg (cell_lt h1))).trans h1, h2, h3, ⟨h4.1, h4.2.1, by omega⟩, fun i hi => (World.cell?_of_block (hk m (by omega) h4.2.2)).trans (h5 i hi)⟩
/-- What was lent, at a later time. -/
structure Lent (lo hi M M2 : Nat) (Q : Array Value) (d : EvD) (c3 c4 : Fin 18 → Value) (W : World) : Prop where
  ev : EvX W Q d.kd d.p.k c3 d.p.D d.a.k c4 d.a.D
  o3 : OXF (fun b => lo ≤ b ∧ b < hi ∧ (b < M ∨ M2 ≤ b)) 0 W c3 d.p.D
  o4 : OXF (fun b => lo ≤ b ∧ b < hi ∧ M ≤ b ∧ b < M2) 0 W c4 d.a.D
  mks : MK M2 W (c3 17) d.p.D.vl d.p.D.vl.length
theorem lent_at {wr W3 W : World} {Q : Array Value} {d : EvD} {c3 c4 : Fin 18 → Value} {M M2 : Nat} (hx : EvX W3 Q d.kd d.p.k c3 d.p.D d.a.k c4 d.a.D) (h3 : OX wr.heap.size W3 c3 d.p.D) (h4 : OX wr.heap.size W3 c4 d.a.D)
    (p3 : PF (fun b => wr.heap.size ≤ b ∧ b < W3.heap.size ∧ (b < M ∨ M2 ≤ b)) W3 c3 d.p.D) (p4 : PF (fun b => wr.heap.size ≤ b ∧ b < W3.heap.size ∧ M ≤ b ∧ b < M2) W3 c4 d.a.D) (mk : MK M2 W3 (c3 17) d.p.D.vl d.p.D.vl.length)
    (hs : W3.heap.size ≤ W.heap.size) (hk : ∀ b, wr.heap.size ≤ b → b < W3.heap.size → W.heap[b]? = W3.heap[b]?) : Lent wr.heap.size W3.heap.size M M2 Q d c3 c4 W := by
  have o3 : OXF _ 0 W c3 d.p.D := (OXF.keepF (W := W3) (W' := W) ⟨h3.low (Nat.zero_le _), p3⟩ fun b h1 h2 => hk b h2.1 h1)
  have o4 : OXF _ 0 W c4 d.a.D := (OXF.keepF (W := W3) (W' := W) ⟨h4.low (Nat.zero_le _), p4⟩ fun b h1 h2 => hk b h2.1 h1)
  exact ⟨⟨hx.sz, hx.kd, hx.one, hx.pdu, hx.ans, o3.toOX.rx, o4.toOX.rx⟩, o3, o4, mk_keep mk (fun b e => (h3.val.1.lt b e).1) hs hk⟩
/-- What stands behind the events so far. -/
def PlaysI (w : World) (a : Int) (p q : Nat) (wr : World) : Prop := ∃ S S', Below w.heap.size w wr ∧ Mach a p q wr S S' ∧ w.heap.size ≤ p
theorem evsT_on {w w' : World} {v : Value} {n : Nat} (h : EvsT w v n) (hb : Below w.heap.size w w') : EvsT w' v n := by
  obtain ⟨ao, cap, e, h⟩ := h
  refine ⟨ao, cap, e, fun h0 => ?_⟩
  obtain ⟨b, off, e, h⟩ := h h0
  refine ⟨b, off, e, fun i hi => ?_⟩
  obtain ⟨EV, d, e1, e2, e3⟩ := h i hi
  exact ⟨EV, d, range_onX e1 hb, e2.on hb, e3⟩
/-- All that one event has turned is in these blocks. -/
theorem plays_end {w wr W3 Ws W4 W5 W8 Wa Wz : World} {a : Int} {p q : Nat} {S S' S1 S1' : Prov} {v4 v5 : Value} {L M : List AcD} {g g' nl : Nat} {t t' : Nat → KpD} (hpw : w.heap.size ≤ p) (hbw : Below w.heap.size w wr) (hM : Mach a p q wr S S') (hb3 : Below wr.heap.size wr W3) (hs3 : W3.heap.size < Ws.heap.size) (hbs : Below W3.heap.size W3 Ws) (hB4 : BelBut p Ws W4) (hB5 : BelBut q W4 W5)
    (hD : Did a p q Ws W4 W5 S S' v4 v5 S1 S1' L M g g' t t') (hnl : L.length = nl) (hb8 : Below W5.heap.size W5 W8) (hA : KF (fun b => wr.heap.size ≤ b ∧ b < W3.heap.size) W8 Wa) (hT : KF (fun b => ∃ j, j < nl ∧ (t j).F b) Wa Wz) : PlaysI w a p q Wz := by
  have s1 := hbw.size
  have s2 := hb3.size
  have s4 := hB4.size
  have s5 := hB5.size
  have s8 := hb8.size
  have sa := hA.size
  have sz := hT.size
  have hpq := hM.pq
  have hq := hM.rv.lt
  have ht : ∀ b, (∃ j, j < nl ∧ (t j).F b) → Ws.heap.size ≤ b ∧ b < W4.heap.size := fun b ⟨j, hj, e⟩ => by
    have := hD.tl.lo j (by omega) b e
    omega
  have hch : ∀ b, b < W5.heap.size → ¬ (wr.heap.size ≤ b ∧ b < W3.heap.size) → ¬ (∃ j, j < nl ∧ (t j).F b) → Wz.heap[b]? = W5.heap[b]? := fun b h1 h2 h3 => (hT.block b (by omega) h3).trans ((hA.block b (by omega) h2).trans (hb8.block b h1))
  have hlow : ∀ b, b < wr.heap.size → Wz.heap[b]? = W5.heap[b]? := fun b hb => hch b (by omega) (by omega) (fun h => by have := ht b h; omega)
  refine ⟨S1, S1', ⟨?_, ?_, ?_, by omega, fun b hb => ?_⟩, hD.mach.keep (by omega) (hlow p hM.pv.lt) (hlow q hq) (fun b h1 h2 => ?_), hpw⟩
  · exact hT.os.trans (hA.os.trans (hb8.os.trans (hB5.os.trans (hB4.os.trans (hbs.os.trans (hb3.os.trans hbw.os))))))
  · exact hT.tape.trans (hA.tape.trans (hb8.tape.trans (hB5.tape.trans (hB4.tape.trans (hbs.tape.trans (hb3.tape.trans hbw.tape))))))
  · exact hT.output.trans (hA.output.trans (hb8.output.trans (hB5.output.trans (hB4.output.trans (hbs.output.trans (hb3.output.trans hbw.output))))))
  · exact (hlow b (by omega)).trans ((hB5.block b (by omega) (by omega)).trans ((hB4.block b (by omega) (by omega)).trans ((hbs.block b (by omega)).trans ((hb3.block b (by omega)).trans (hbw.block b hb)))))
  · rcases h2 with h2 | h2
    · rcases hD.k1 b h2 with h3 | ⟨h3, h4, h5⟩
      · exact hlow b (hM.lo b h3.2).2
      · refine hch b h1 (by omega) fun ⟨j, hj, e⟩ => ?_
        have : nl = 1 := by rw [← hnl, h3]; rfl
        obtain rfl : j = 0 := by omega
        exact hD.con h3 b e
    · rcases hD.k2 b h2 with h3 | h3
      · exact hlow b (hM.lo' b h3.2).2
      · exact hch b h1 (by omega) fun h => by have := ht b h; omega
set_option maxRecDepth 100000 in
set_option maxHeartbeats 4000000 in
theorem plays_out (w : World) (a : Int) (v : Value) (h : a < 1 ∨ 1000 < a) :
    Calls Tryd.prog 3 #[.int .i64 a, v] w fun x w' => x = .returned (.bool true) ∧ Below w.heap.size w w' := by
  have hnw := new_no w a h
  have hrn := fun W => rnew_no W a h
  clear h
  go_enter Tryd.func3, Tryd.ntmps3
  go_wp2_with (go_at_call 4; refine hnw.mono ?_; refine Fr.Stop.mk ?_)
  rintro x W1 ⟨v1, rfl, hb1, hp1⟩
  obtain ⟨q1, rfl, -⟩ : ∃ q, v1 = .iface 100 (.pointer (some ⟨q, 0, none⟩)) ∧ True := by obtain ⟨q, e, -⟩ := hp1; exact ⟨q, e, trivial⟩
  have hrn1 := hrn W1
  have HP1 : Hid (Below w.heap.size w W1 ∧ PErr W1 (.iface 100 (.pointer (some ⟨q1, 0, none⟩))) (some (0, 180))) := ⟨hb1, hp1⟩
  clear hnw hrn hb1 hp1
  go_wp2_with (go_at_call 5; refine hrn1.mono ?_; refine Fr.Stop.mk ?_)
  rintro x W2 ⟨v2, rfl, hb2, hr2⟩
  obtain ⟨g2, k2, rfl, -⟩ : ∃ g k, v2 = .agg #[.slice (some ⟨g, 0, none⟩) 1 k, .int .i64 180] ∧ True := by obtain ⟨g, k, e, -⟩ := hr2; exact ⟨g, k, e, trivial⟩
  have HR2 : Hid (Below W1.heap.size W1 W2 ∧ RErr W2 (.agg #[.slice (some ⟨g2, 0, none⟩) 1 k2, .int .i64 180]) (some (0, 180))) := ⟨hb2, hr2⟩
  clear hrn1 hb2 hr2
  go_wp2_with (go_at_call 6; refine Fr.Stop.mk ?_)
  obtain ⟨WL, hWL⟩ : ∃ W, W2.alloc (.cells #[.slice (some ⟨g2, 0, none⟩) 1 k2, .int .i64 180] 31) = W := ⟨_, rfl⟩
  rw [hWL]
  have hbL : Below W2.heap.size W2 WL := hWL ▸ (Below.refl _ _).alloc (Nat.le_refl _) _
  have his := is_yes ((HP1.out.2.next HR2.out.1).next hbL) (HR2.out.2.next hbL) (fun a c h => by cases h; rfl)
  have HB : Hid (Below w.heap.size w WL) := (HP1.out.1.trans (HR2.out.1.mono HP1.out.1.size)).trans (hbL.mono (Nat.le_trans HP1.out.1.size HR2.out.1.size))
  clear hbL hWL
  refine Fr.Stop.out ?_
  refine his.mono ?_
  rintro x W3 ⟨rfl, hb3⟩
  have HB3 : Hid (Below w.heap.size w W3) := HB.out.trans (hb3.mono HB.out.size)
  clear hb3 his
  go_wp2
  go_ret
  exact ⟨rfl, HB3.out⟩
set_option maxRecDepth 100000 in
set_option maxHeartbeats 8000000 in
theorem plays_in (w : World) (a : Int) (v : Value) (n : Nat) (h1 : 1 ≤ a) (h2 : a ≤ 1000) (hn : n ≤ 1048576) (hv : EvsT w v n) (hT : Tb w) (hN : Nd w) :
    Calls Tryd.prog 3 #[.int .i64 a, v] w fun x w' => x = .returned (.bool true) ∧ Below w.heap.size w w' := by
  have HV : Hid (EvsT w v n) := hv
  obtain ⟨ao, cap, rfl, hel⟩ := hv
  have HEl : Hid (0 < n → ∃ b off, ao = some ⟨b, off, none⟩ ∧ ∀ i, i < n → ∃ EV d, w.rangeAt b (off + i * 41) EV.toList ∧ Ev1 w EV d) := fun h0 => by
    obtain ⟨b, off, e, h⟩ := hel h0
    refine ⟨b, off, e, fun i hi => ?_⟩
    obtain ⟨EV, d, e1, e2, ⟨e3, e4⟩, e5, e6⟩ := h i hi
    exact ⟨EV, d, e1, e2, e3, e4, e5, e6⟩
  have hp0 : 1 < w.heap.size := hN.lt
  clear hel
  obtain ⟨fs, hu⟩ : ∃ fs, Tryd.prog.underlying 48 = some (.struct fs) := ⟨_, Tryd.underlying48⟩
  obtain ⟨fs6, hu6⟩ : ∃ fs, Tryd.prog.underlying 46 = some (.struct fs) := ⟨_, Tryd.underlying46⟩
  have HN : Hid (Tb w ∧ Nd w ∧ 1 < w.heap.size ∧ 1 ≤ a ∧ a ≤ 1000) := ⟨hT, hN, hp0, h1, h2⟩
  have hnw := new_x w a h1 h2
  have hrn := fun W => rnew_x W a h1 h2
  clear hT hN hp0
  go_enter Tryd.func3, Tryd.ntmps3
  go_wp2_with (go_at_call 4; refine hnw.mono ?_; refine Fr.Stop.mk ?_)
  rintro x W1 ⟨rfl, hb1, PV1, hP1⟩
  have HB1 : Hid (Below w.heap.size w W1 ∧ PvE W1 w.heap.size (S0 a)) := ⟨hb1, PV1, zc, hP1⟩
  have hrn1 := hrn W1
  clear hb1 hP1 hnw hrn
  go_wp2_with (go_at_call 5; refine hrn1.mono ?_; refine Fr.Stop.mk ?_)
  rintro x W2 ⟨rfl, hb2, hR2⟩
  have hz2 := hR2.lt
  obtain ⟨q, hq⟩ : ∃ q, W1.heap.size + 1 = q := ⟨_, rfl⟩
  rw [hq] at hR2 hz2 ⊢
  have HB2 : Hid (Below w.heap.size w W2 ∧ Mach a w.heap.size q W2 (S0 a) (S0 a)) := ⟨HB1.out.1.trans (hb2.mono HB1.out.1.size), mach0 (HB1.out.2.on hb2) hR2 (by have := HB1.out.2.lt; omega)⟩
  clear hb2 hR2 hrn1 h1 h2 HB1 hq
  go_wp2_with (go_at_call 6; refine Fr.Stop.mk ?_)
  obtain ⟨WL, hWL⟩ : ∃ W, W2.alloc (.cells #[.slice none 0 0, .int .i64 0] 31) = W := ⟨_, rfl⟩
  rw [hWL]
  have hbL : Below W2.heap.size W2 WL := hWL ▸ (Below.refl _ _).alloc (Nat.le_refl _) _
  have his := is_nil WL
  have HBL : Hid (Below w.heap.size w WL ∧ Mach a w.heap.size q WL (S0 a) (S0 a)) := ⟨HB2.out.1.trans (hbL.mono HB2.out.1.size), HB2.out.2.on hbL⟩
  clear hbL HB2 hz2 hWL
  refine Fr.Stop.out ?_
  refine his.mono ?_
  rintro x WM ⟨rfl, hbM⟩
  have HI0 : Hid (PlaysI w a w.heap.size q WM) := ⟨S0 a, S0 a, HBL.out.1.trans (hbM.mono HBL.out.1.size), HBL.out.2.on hbM, Nat.le_refl _⟩
  clear hbM his HBL
  go_wp2
  go_loopw [9] (fun x wr => ∃ (i : Nat), x = .int .i64 (i : Int) ∧ i ≤ n ∧ Hid (PlaysI w a w.heap.size q wr)) (fun x _ => n - (intOf x).toNat)
  case atStart => exact ⟨0, rfl, by omega, HI0⟩
  case round => as_aux_lemma =>
    clear HI0
    obtain ⟨i, rfl, hi, HI⟩ := hrel
    by_cases hin : i < n
    · have hI : ((i : Int) < (n : Int)) := by omega
      obtain ⟨b, off, hao, hE⟩ := HEl.out (by omega)
      subst hao
      obtain ⟨S, S', hbw, hM, hpw⟩ := HI.out
      obtain ⟨EV, d, hr0, hev⟩ := hE i hin
      have hr := range_onX hr0 hbw
      have hevy := hev.y.on hbw
      have hsz : (Tryd.prog.info? 48).map (·.size) = some EV.toList.length := by rw [Array.length_toList, hev.y.ev.sz]; exact size48
      have hln := lend_own wr EV _ _ _ _ _ _ _ hevy.ev
      have HE : Hid (Ev1 w EV d ∧ w.rangeAt b (off + i * 41) EV.toList) := ⟨hev, hr0⟩
      have HS : Hid (Below w.heap.size w wr ∧ Mach a w.heap.size q wr S S') := ⟨hbw, hM⟩
      clear hE hr0 hevy hev hbw hM HI hpw
      go_wp2_with (first | (refine wpList_load_mid rfl 48 (.tmp 45) rfl b (off + i * 41) rfl EV.toList _ hr hu rfl hsz ?_) | (go_at_call 7; refine hln.mono ?_; refine Fr.Stop.mk ?_))
      rintro x W3 ⟨Q, c3, c4, M, M2, rfl, hex, h20, h40, hsame, hb3, ho3, ho4, hp3, hp4, hmk⟩
      have hQs : Q.size = 41 := hex.sz
      have hsQ : (Tryd.prog.info? 48).map (·.size) = some Q.size := by rw [hQs]; exact size50
      have hszQ : (Tryd.prog.info? 48).map (·.size) = some Q.toList.length := by rw [Array.length_toList]; exact hsQ
      have h1Q : Q.all (·.oneCell') = true := hex.one
      have HQ : Hid ((EvX W3 Q d.kd d.p.k c3 d.p.D d.a.k c4 d.a.D ∧ Q[20]? = EV[20]? ∧ Q[40]? = EV[40]? ∧ ∀ i, i ≠ 4 → i ≠ 12 → i ≠ 13 → i ≠ 17 → c3 i = d.p.c i ∧ c4 i = d.a.c i) ∧ Below wr.heap.size wr W3 ∧ (OX wr.heap.size W3 c3 d.p.D ∧ OX wr.heap.size W3 c4 d.a.D) ∧ (PF (fun b => wr.heap.size ≤ b ∧ b < W3.heap.size ∧ (b < M ∨ M2 ≤ b)) W3 c3 d.p.D ∧ PF (fun b => wr.heap.size ≤ b ∧ b < W3.heap.size ∧ M ≤ b ∧ b < M2) W3 c4 d.a.D) ∧ MK M2 W3 (c3 17) d.p.D.vl d.p.D.vl.length) :=
        ⟨⟨hex, h20, h40, hsame⟩, hb3, ⟨ho3, ho4⟩, ⟨hp3, hp4⟩, hmk⟩
      clear hex h20 h40 hsame hb3 ho3 ho4 hp3 hp4 hmk hln hr
      go_wp2_with (refine wpList_store_row rfl 48 (.tmp 10) (.tmp 47) rfl W3.heap.size Q rfl rfl 48 _ (alloc_new W3 _) hsQ (by rw [hQs]; rfl) h1Q ?_; refine Fr.Stop.mk ?_)
      have hbs0 : ∀ o, Below W3.heap.size W3 ((W3.alloc o).setRow W3.heap.size Q) := fun o => below_setRow ((Below.refl _ _).alloc (Nat.le_refl _) _) (Nat.le_refl _) _
      have hgs0 : ∀ Z, ((W3.alloc (.cells Z 48)).setRow W3.heap.size Q).heap[W3.heap.size]? = some (.cells Q 48) := fun Z => setRow_heap _ _ _ _ _ _ (alloc_new W3 _)
      generalize hZ : (#[Value.int .i64 0, .int .i64 0, .int .u16 0, .string ⟨#[]⟩, .string ⟨#[]⟩, .string ⟨#[]⟩, .slice none 0 0, .bool false, .int .u32 0, .string ⟨#[]⟩, .string ⟨#[]⟩, .bool false, .int .u16 0, .int .u16 0, .slice none 0 0, .slice none 0 0, .int .u8 0, .int .u8 0, .int .u8 0, .slice none 0 0, .bool false, .int .i64 0, .int .u16 0, .string ⟨#[]⟩, .string ⟨#[]⟩, .string ⟨#[]⟩, .slice none 0 0, .bool false, .int .u32 0, .string ⟨#[]⟩, .string ⟨#[]⟩, .bool false, .int .u16 0, .int .u16 0, .slice none 0 0, .slice none 0 0, .int .u8 0, .int .u8 0, .int .u8 0, .slice none 0 0, .int .u8 0] : Array Value) = Z
      have hbs := hbs0 (.cells Z 48)
      have hgs := hgs0 Z
      clear hbs0 hgs0 hZ
      generalize (W3.alloc (.cells Z 48)).setRow W3.heap.size Q = Ws at hbs hgs ⊢
      have hzs : W3.heap.size < Ws.heap.size := (Array.getElem?_eq_some_iff.1 hgs).1
      have hMs : Mach a w.heap.size q Ws S S' := (HS.out.2.on HQ.out.2.1).on hbs
      have hwWs : Below w.heap.size w Ws := (HS.out.1.trans (HQ.out.2.1.mono HS.out.1.size)).trans (hbs.mono (Nat.le_trans HS.out.1.size HQ.out.2.1.size))
      have hy : EvY Ws Q (lentD d c3 c4 Ws.heap.size) := ⟨HQ.out.1.1.on hbs, HQ.out.1.2.1.trans HE.out.1.y.bad, HQ.out.1.2.2.1.trans HE.out.1.y.rs, (HQ.out.1.2.2.2 15 (by decide) (by decide) (by decide) (by decide)).1.trans HE.out.1.y.s, fun _ h => h⟩
      have hdo := do_e Ws w.heap.size Q a S (lentD d c3 c4 Ws.heap.size) HN.out.2.2.2.2 HN.out.2.2.2.1 hMs.inv hMs.pv hy (HN.out.1.on hwWs) (HN.out.2.1.on hwWs) HN.out.2.2.1
      have HMs : Hid ((Below W3.heap.size W3 Ws ∧ Below w.heap.size w Ws) ∧ Mach a w.heap.size q Ws S S' ∧ W3.heap.size < Ws.heap.size ∧ Ws.heap[W3.heap.size]? = some (.cells Q 48)) := ⟨⟨hbs, hwWs⟩, hMs, hzs, hgs⟩
      clear hbs hMs hwWs hy hzs
      refine Fr.Stop.out ?_
      go_wp2_with (first | (refine wpList_load_row rfl 48 (.tmp 10) rfl W3.heap.size rfl 48 Q (0, 0) _ hgs hu rfl hsQ ?_) | (go_at_call 8; refine hdo.mono ?_; refine Fr.Stop.mk ?_))
      rintro x W4 ⟨v4, rfl, hA4, hP4, hB4⟩
      have hwW4 : Below w.heap.size w W4 := HMs.out.1.2.trans (hB4.below (Nat.le_refl _) HMs.out.1.2.size)
      have hr4 : W4.rangeAt b (off + i * 41) EV.toList := range_onX HE.out.2 hwW4
      have hR4 : RvE W4 q S' := HMs.out.2.1.rv.keepF (hB4.block q HMs.out.2.1.rv.lt (by have := HMs.out.2.1.pq; omega)) fun b h1 h2 => hB4.block b h1 (by have := (HMs.out.2.1.lo' b h2).1; have := HMs.out.2.1.pq; omega)
      have hart : S'.art = a := by rw [HMs.out.2.1.sim.art]; exact HMs.out.2.1.inv.art
      have hleft : S'.left ≤ 9223372036854775807 := by
        rw [HMs.out.2.1.sim.left]
        have hI := HMs.out.2.1.inv
        have := HN.out.2.2.2.2
        by_cases ht : Td S.sta
        · have := hI.on ht; omega
        · rw [hI.off ht]; omega
      have hyd : ∀ W', BelBut q W4 W' → EvY W' EV (docD d W4.heap.size) := fun W' hb => by
        have hpq := HMs.out.2.1.pq
        have h1 : Below w.heap.size w W' := hwW4.trans (hb.below (by omega) hwW4.size)
        have h2 := HE.out.1.y.on h1
        exact ⟨h2.ev, h2.bad, h2.rs, h2.s, fun b hb2 => Nat.le_trans hb.size hb2⟩
      have hdd := rdo_any W4 q EV S' (docD d W4.heap.size) hleft (by rw [hart]; exact HN.out.2.2.2.1) hR4 hyd
      have HA4 : Hid (AR Ws.heap.size W4 v4 (doS S (lentD d c3 c4 Ws.heap.size)).2 ∧ PvE W4 w.heap.size (doS S (lentD d c3 c4 Ws.heap.size)).1 ∧ BelBut w.heap.size Ws W4) := ⟨hA4, hP4, hB4⟩
      clear hA4 hP4 hB4 hwW4 hR4 hart hleft hyd hdo hgs
      go_wp2_with (first | (refine wpList_load_mid rfl 48 (.tmp 54) rfl b (off + i * 41) rfl EV.toList _ hr4 hu rfl hsz ?_) | (go_at_call 9; refine hdd.mono ?_; refine Fr.Stop.mk ?_))
      rintro x W5 ⟨v5, rfl, hA5, hR5, hB5⟩
      obtain ⟨S1, S1', L, M', g, g', t, t', hD⟩ := did_of HN.out.2.2.2.1 HMs.out.2.1 HE.out.1 HQ.out.1.2.2.2 HA4.out.1 HA4.out.2.1 HA4.out.2.2 hA5 hR5 hB5
      obtain ⟨nl, hnl⟩ : ∃ n, L.length = n := ⟨_, rfl⟩
      obtain ⟨al, cl, e4, hal⟩ := tl_slice hD.tl hnl
      subst e4
      have hq3 := HMs.out.2.1.rv.lt
      have hpq := HMs.out.2.1.pq
      have s4 := HA4.out.2.2.size
      have s5 := hB5.size
      have ss := HMs.out.2.2.1
      have s3 := HQ.out.2.1.size
      have hp0 := HS.out.2.rv.lt
      have HK35 : Hid (∀ b, wr.heap.size ≤ b → b < W3.heap.size → W5.heap[b]? = W3.heap[b]?) := by
        show ∀ b, _
        intro b h1 h2
        exact (hB5.block b (by omega) (by omega)).trans ((HA4.out.2.2.block b (by omega) (by omega)).trans (HMs.out.1.1.block b h2))
      have HW5 : Hid (Below w.heap.size w W5) := by
        have h1 := HMs.out.1.2.trans (HA4.out.2.2.below (Nat.le_refl _) HMs.out.1.2.size)
        exact h1.trans (hB5.below (by omega) h1.size)
      have hgs5 : W5.heap[W3.heap.size]? = some (.cells Q 48) := (hB5.block _ (by omega) (by omega)).trans ((HA4.out.2.2.block _ ss (by omega)).trans HMs.out.2.2.2)
      have hac4 : Acts W5 (.slice al nl cl) L ∧ Acts W5 v5 M' := ⟨(hD.ar.keep fun b h1 h2 => hB5.block b h2 (by omega)).acts hD.zs, hD.ax.acts⟩
      have HAC : Hid (AR Ws.heap.size W5 (.slice al nl cl) L ∧ AX W4.heap.size W5 v5 M') := ⟨hD.ar.keep fun b h1 h2 => hB5.block b h2 (by omega), hD.ax⟩
      have htyL : ∀ x ∈ L, TyC x.c := fun x hx => (hD.gd x hx).1
      have HD : Hid (Did a w.heap.size q Ws W4 W5 S S' (.slice al nl cl) v5 S1 S1' L M' g g' t t' ∧ L.length = nl ∧ BelBut q W4 W5) := ⟨hD, hnl, hB5⟩
      have hnl2 : nl ≤ 2 := hnl ▸ hD.len
      have hc10 : Hid (∀ w', Below W5.heap.size W5 w' → Calls Tryd.prog 10 #[.slice al nl cl, v5] w' fun e w2 => e = .returned (.bool true) ∧ Below w'.heap.size w' w2) := by
        show ∀ w', _
        intro w' hb
        exact acts_same w' _ v5 L M' hD.sim (by omega) htyL (hac4.1.on hb) (hac4.2.on hb)
      have hlent : Hid (∀ w', Below W5.heap.size W5 w' → Lent wr.heap.size W3.heap.size M M2 Q d c3 c4 w') := by
        show ∀ w', _
        intro w' hb
        have := hb.size
        exact lent_at HQ.out.1.1 HQ.out.2.2.1.1 HQ.out.2.2.1.2 HQ.out.2.2.2.1.1 HQ.out.2.2.2.1.2 HQ.out.2.2.2.2 (by omega) (fun b h1 h2 => (hb.block b (by omega)).trans (HK35.out b h1 h2))
      have hc11 : Hid (∀ w', Below W5.heap.size W5 w' → Calls Tryd.prog 11 #[.agg Q, .agg EV] w' fun e w2 => e = .returned (.bool true) ∧ Below w'.heap.size w' w2) := by
        show ∀ w', _
        intro w' hb
        have hl := hlent.out w' hb
        have hwb := HW5.out.trans (hb.mono HW5.out.size)
        have hsm : SameC d.p.c c3 ∧ SameC d.a.c c4 := ⟨fun i h4 h12 h13 h17 => (HQ.out.1.2.2.2 i h4 h12 h13 h17).1, fun i h4 h12 h13 h17 => (HQ.out.1.2.2.2 i h4 h12 h13 h17).2⟩
        exact keptEvent_any w' Q EV _ _ _ _ _ _ _ _ _ M2 hl.ev (HE.out.1.y.on hwb).ev hsm.1.symm hsm.2.symm (HE.out.1.t1.same hsm.1) (HE.out.1.t2.same hsm.2) HE.out.1.m1 hl.mks
      have hpq1 : Hid (∀ w', Below W5.heap.size W5 w' → Pv w' w.heap.size S1.art S1.left S1.sta S1.asked ∧ w'.rangeAt q 1 (stC S1)) := by
        show ∀ w', _
        intro w' hb
        have hm := hD.mach.on hb
        exact ⟨by obtain ⟨PV, c0, h⟩ := hm.pv; exact pv_of h, rv_range hm.rv hm.sim⟩
      have hrs : Hid (∀ w', Below W5.heap.size W5 w' → w'.rangeAt W3.heap.size 0 Q.toList ∧ w'.rangeAt b (off + i * 41) EV.toList) := by
        show ∀ w', _
        intro w' hb
        refine ⟨fun j v hv => ?_, range_onX HE.out.2 (HW5.out.trans (hb.mono HW5.out.size))⟩
        rw [cell_of_row w' _ _ _ _ _ ((hb.block _ (by omega)).trans hgs5), Nat.zero_add]
        simpa using hv
      have hs5 : (Tryd.prog.info? 55).map (·.size) = some (stC S1).length := by kernel_rfl
      have hst : Below W5.heap.size W5 W5.drew := (Below.refl _ _).drew
      clear hD hnl hA5 hR5 hB5 hdd hr4 hq3 hpq s4 s5 ss s3 hp0 hgs5 hac4 htyL
      go_wp2
      refine wp_region_held_drew (S := fun w' => Below W5.heap.size W5 w') (by kernel_rfl) hst (fun hHeld => ?_)
      (refine wpAnyH_take (i := 0) (oi := ({ dst := some 57, op := Op.move (Operand.tmp 11), type := 50, pos := "exact.go:56", after := #[], guard := none } : Oper)) (v := ?_) rfl (by kernel_rfl) (by kernel_rfl) (by kernel_rfl) (fun _ _ _ h => h) (Or.inl ⟨by rfl, ?_⟩) (by assumption) ?_; rotate_left 1; (focus (intro wS hSw; (try dsimp only at hSw); go_split_ands; go_simp; (try with_reducible rfl))); (try simp only [Act.put, List.setIfInBounds_toArray, List.set_cons_zero, List.set_cons_succ]))
      (refine wpAnyH_take (i := 1) (oi := ({ dst := some 58, op := Op.move (Operand.tmp 12), type := 50, pos := "exact.go:56", after := #[], guard := none } : Oper)) (v := ?_) rfl (by kernel_rfl) (by kernel_rfl) (by kernel_rfl) (fun _ _ _ h => h) (Or.inl ⟨by rfl, ?_⟩) (by assumption) ?_; rotate_left 1; (focus (intro wS hSw; (try dsimp only at hSw); go_split_ands; go_simp; (try with_reducible rfl))); (try simp only [Act.put, List.setIfInBounds_toArray, List.set_cons_zero, List.set_cons_succ]))
      refine wpAnyH_ready (rs := [2]) (by kernel_rfl) (by simp) ?_
      refine AllReadyH.cons (o := ({ dst := some 59, op := Op.call { callee := Callee.value (Operand.func 10), args := #[Operand.tmp 57, Operand.tmp 58], argTypes := #[50, 50] }, type := 4, pos := "exact.go:56", after := #[{ on := 0, ground := Ground.data }, { on := 1, ground := Ground.data }], guard := none } : Oper)) rfl (fun K hK => ?_) AllReadyH.nil
      go_simp
      go_at_call 10
      refine (hc10.out _ hHeld).mono ?_
      rintro xx W6 ⟨rfl, hb6⟩
      have HB6 : Hid (Below W5.heap.size W5 W6) := hHeld.trans (hb6.mono hHeld.size)
      try go_wp2_with (fail)
      refine hK.out _ _ HB6.out (fun hHeld => ?_)
      clear hb6
      clear hK K
      try simp only [Act.put, List.setIfInBounds_toArray, List.set_cons_zero, List.set_cons_succ]
      (refine wpAnyH_take (i := 3) (oi := ({ dst := some 60, op := Op.unOp UnOp.not 4 (Operand.tmp 59), type := 4, pos := "exact.go:56", after := #[{ on := 2, ground := Ground.data }], guard := none } : Oper)) (v := ?_) rfl (by kernel_rfl) (by kernel_rfl) (by kernel_rfl) (fun _ _ _ h => h) (Or.inl ⟨by rfl, ?_⟩) (by assumption) ?_; rotate_left 1; (focus (intro wS hSw; (try dsimp only at hSw); go_split_ands; go_simp; (try with_reducible rfl))); (try simp only [Act.put, List.setIfInBounds_toArray, List.set_cons_zero, List.set_cons_succ]))
      (refine wpAnyH_take (i := 4) (oi := ({ dst := some 61, op := Op.move (Operand.tmp 60), type := 4, pos := "exact.go:56", after := #[{ on := 3, ground := Ground.data }, { on := 2, ground := Ground.chain }], guard := none } : Oper)) (v := ?_) rfl (by kernel_rfl) (by kernel_rfl) (by kernel_rfl) (fun _ _ _ h => h) (Or.inl ⟨by rfl, ?_⟩) (by assumption) ?_; rotate_left 1; (focus (intro wS hSw; (try dsimp only at hSw); go_split_ands; go_simp; (try with_reducible rfl))); (try simp only [Act.put, List.setIfInBounds_toArray, List.set_cons_zero, List.set_cons_succ]))
      refine wpAnyH_take (i := 5) (oi := ({ dst := some 62, op := Op.load 48 (Operand.tmp 10), type := 48, pos := "exact.go:56", after := #[{ on := 4, ground := Ground.guard }], guard := some (4, false) } : Oper)) (v := .agg Q) rfl (by kernel_rfl) (by kernel_rfl) (by kernel_rfl) (fun _ _ _ h => h) (yieldsIf_load_mid (by rfl) 48 (.tmp 10) rfl W3.heap.size 0 rfl Q.toList _ (fun w h => (hrs.out w h).1) hu rfl hszQ) hHeld ?_
      try simp only [Act.put, List.setIfInBounds_toArray, List.set_cons_zero, List.set_cons_succ]
      (refine wpAnyH_take (i := 6) (oi := ({ dst := some 63, op := Op.move (Operand.tmp 1), type := 22, pos := "exact.go:56", after := #[{ on := 4, ground := Ground.guard }], guard := some (4, false) } : Oper)) (v := ?_) rfl (by kernel_rfl) (by kernel_rfl) (by kernel_rfl) (fun _ _ _ h => h) (Or.inl ⟨by rfl, ?_⟩) (by assumption) ?_; rotate_left 1; (focus (intro wS hSw; (try dsimp only at hSw); go_split_ands; go_simp; (try with_reducible rfl))); (try simp only [Act.put, List.setIfInBounds_toArray, List.set_cons_zero, List.set_cons_succ]))
      (refine wpAnyH_take (i := 7) (oi := ({ dst := some 64, op := Op.move (Operand.tmp 9), type := 3, pos := "exact.go:56", after := #[{ on := 4, ground := Ground.guard }], guard := some (4, false) } : Oper)) (v := ?_) rfl (by kernel_rfl) (by kernel_rfl) (by kernel_rfl) (fun _ _ _ h => h) (Or.inl ⟨by rfl, ?_⟩) (by assumption) ?_; rotate_left 1; (focus (intro wS hSw; (try dsimp only at hSw); go_split_ands; go_simp; (try with_reducible rfl))); (try simp only [Act.put, List.setIfInBounds_toArray, List.set_cons_zero, List.set_cons_succ]))
      (refine wpAnyH_take (i := 8) (oi := ({ dst := some 65, op := Op.indexAddr 22 (Operand.tmp 63) (Operand.tmp 64), type := 0, pos := "exact.go:56", after := #[{ on := 6, ground := Ground.data }, { on := 7, ground := Ground.data }, { on := 4, ground := Ground.guard }], guard := some (4, false) } : Oper)) (v := ?_) rfl (by kernel_rfl) (by kernel_rfl) (by kernel_rfl) (fun _ _ _ h => h) (Or.inl ⟨by rfl, ?_⟩) (by assumption) ?_; rotate_left 1; (focus (intro wS hSw; (try dsimp only at hSw); go_split_ands; go_simp; (try with_reducible rfl))); (try simp only [Act.put, List.setIfInBounds_toArray, List.set_cons_zero, List.set_cons_succ]))
      refine wpAnyH_take (i := 9) (oi := ({ dst := some 66, op := Op.load 48 (Operand.tmp 65), type := 48, pos := "exact.go:56", after := #[{ on := 8, ground := Ground.data }, { on := 4, ground := Ground.guard }], guard := some (4, false) } : Oper)) (v := .agg EV) rfl (by kernel_rfl) (by kernel_rfl) (by kernel_rfl) (fun _ _ _ h => h) (yieldsIf_load_mid (by rfl) 48 (.tmp 65) rfl b (off + i * 41) rfl EV.toList _ (fun w h => (hrs.out w h).2) hu rfl hsz) hHeld ?_
      try simp only [Act.put, List.setIfInBounds_toArray, List.set_cons_zero, List.set_cons_succ]
      refine wpAnyH_ready (rs := [10]) (by kernel_rfl) (by simp) ?_
      refine AllReadyH.cons (o := ({ dst := some 67, op := Op.call { callee := Callee.value (Operand.func 11), args := #[Operand.tmp 62, Operand.tmp 66], argTypes := #[48, 48] }, type := 4, pos := "exact.go:56", after := #[{ on := 5, ground := Ground.data }, { on := 9, ground := Ground.data }, { on := 4, ground := Ground.chain }, { on := 4, ground := Ground.guard }], guard := some (4, false) } : Oper)) rfl (fun K hK => ?_) AllReadyH.nil
      go_simp
      go_at_call 11
      refine (hc11.out _ hHeld).mono ?_
      rintro xx W7 ⟨rfl, hb7⟩
      have HB7 : Hid (Below W5.heap.size W5 W7) := hHeld.trans (hb7.mono hHeld.size)
      try go_wp2_with (fail)
      refine hK.out _ _ HB7.out (fun hHeld => ?_)
      clear hb7
      clear hK K
      try simp only [Act.put, List.setIfInBounds_toArray, List.set_cons_zero, List.set_cons_succ]
      (refine wpAnyH_take (i := 11) (oi := ({ dst := some 68, op := Op.unOp UnOp.not 4 (Operand.tmp 67), type := 4, pos := "exact.go:56", after := #[{ on := 10, ground := Ground.data }, { on := 4, ground := Ground.guard }], guard := some (4, false) } : Oper)) (v := ?_) rfl (by kernel_rfl) (by kernel_rfl) (by kernel_rfl) (fun _ _ _ h => h) (Or.inl ⟨by rfl, ?_⟩) (by assumption) ?_; rotate_left 1; (focus (intro wS hSw; (try dsimp only at hSw); go_split_ands; go_simp; (try with_reducible rfl))); (try simp only [Act.put, List.setIfInBounds_toArray, List.set_cons_zero, List.set_cons_succ]))
      (refine wpAnyH_take (i := 12) (oi := ({ dst := some 69, op := Op.pick (Operand.tmp 61) (Operand.const (Value.bool true)) (Operand.tmp 68), type := 4, pos := "exact.go:56", after := #[{ on := 4, ground := Ground.data }, { on := 11, ground := Ground.data }], guard := none } : Oper)) (v := ?_) rfl (by kernel_rfl) (by kernel_rfl) (by kernel_rfl) (fun _ _ _ h => h) (Or.inl ⟨by rfl, ?_⟩) (by assumption) ?_; rotate_left 1; (focus (intro wS hSw; (try dsimp only at hSw); go_split_ands; go_simp; (try with_reducible rfl))); (try simp only [Act.put, List.setIfInBounds_toArray, List.set_cons_zero, List.set_cons_succ]))
      (refine wpAnyH_take (i := 13) (oi := ({ dst := some 70, op := Op.move (Operand.tmp 69), type := 4, pos := "exact.go:56", after := #[{ on := 12, ground := Ground.data }, { on := 10, ground := Ground.chain }], guard := none } : Oper)) (v := ?_) rfl (by kernel_rfl) (by kernel_rfl) (by kernel_rfl) (fun _ _ _ h => h) (Or.inl ⟨by rfl, ?_⟩) (by assumption) ?_; rotate_left 1; (focus (intro wS hSw; (try dsimp only at hSw); go_split_ands; go_simp; (try with_reducible rfl))); (try simp only [Act.put, List.setIfInBounds_toArray, List.set_cons_zero, List.set_cons_succ]))
      (refine wpAnyH_take (i := 14) (oi := ({ dst := some 71, op := Op.move (Operand.tmp 5), type := 23, pos := "exact.go:56", after := #[{ on := 13, ground := Ground.guard }], guard := some (13, false) } : Oper)) (v := ?_) rfl (by kernel_rfl) (by kernel_rfl) (by kernel_rfl) (fun _ _ _ h => h) (Or.inl ⟨by rfl, ?_⟩) (by assumption) ?_; rotate_left 1; (focus (intro wS hSw; (try dsimp only at hSw); go_split_ands; go_simp; (try with_reducible rfl))); (try simp only [Act.put, List.setIfInBounds_toArray, List.set_cons_zero, List.set_cons_succ]))
      (refine wpAnyH_take (i := 16) (oi := ({ dst := some 73, op := Op.move (Operand.tmp 7), type := 28, pos := "exact.go:56", after := #[{ on := 13, ground := Ground.guard }], guard := some (13, false) } : Oper)) (v := ?_) rfl (by kernel_rfl) (by kernel_rfl) (by kernel_rfl) (fun _ _ _ h => h) (Or.inl ⟨by rfl, ?_⟩) (by assumption) ?_; rotate_left 1; (focus (intro wS hSw; (try dsimp only at hSw); go_split_ands; go_simp; (try with_reducible rfl))); (try simp only [Act.put, List.setIfInBounds_toArray, List.set_cons_zero, List.set_cons_succ]))
      (refine wpAnyH_take (i := 17) (oi := ({ dst := some 74, op := Op.nilCheck (Operand.tmp 73), type := 0, pos := "exact.go:56", after := #[{ on := 16, ground := Ground.data }, { on := 13, ground := Ground.guard }], guard := some (13, false) } : Oper)) (v := ?_) rfl (by kernel_rfl) (by kernel_rfl) (by kernel_rfl) (fun _ _ _ h => h) (Or.inl ⟨by rfl, ?_⟩) (by assumption) ?_; rotate_left 1; (focus (intro wS hSw; (try dsimp only at hSw); go_split_ands; go_simp; (try with_reducible rfl))); (try simp only [Act.put, List.setIfInBounds_toArray, List.set_cons_zero, List.set_cons_succ]))
      (refine wpAnyH_take (i := 18) (oi := ({ dst := some 75, op := Op.fieldAddr 58 (Operand.tmp 74) 1, type := 0, pos := "exact.go:56", after := #[{ on := 17, ground := Ground.data }, { on := 13, ground := Ground.guard }], guard := some (13, false) } : Oper)) (v := ?_) rfl (by kernel_rfl) (by kernel_rfl) (by kernel_rfl) (fun _ _ _ h => h) (Or.inl ⟨by rfl, ?_⟩) (by assumption) ?_; rotate_left 1; (focus (intro wS hSw; (try dsimp only at hSw); go_split_ands; go_simp; (try with_reducible rfl))); (try simp only [Act.put, List.setIfInBounds_toArray, List.set_cons_zero, List.set_cons_succ]))
      refine wpAnyH_take (i := 19) (oi := ({ dst := some 76, op := Op.load 55 (Operand.tmp 75), type := 55, pos := "exact.go:56", after := #[{ on := 18, ground := Ground.data }, { on := 13, ground := Ground.guard }], guard := some (13, false) } : Oper)) (v := .agg (stC S1).toArray) rfl (by kernel_rfl) (by kernel_rfl) (by kernel_rfl) (fun _ _ _ h => h) (yieldsIf_load_mid (by rfl) 55 (.tmp 75) rfl q 1 rfl (stC S1) _ (fun w h => (hpq1.out w h).2) Tryd.underlying55 rfl hs5) hHeld ?_
      try simp only [Act.put, List.setIfInBounds_toArray, List.set_cons_zero, List.set_cons_succ]
      refine wpAnyH_ready (rs := [15]) (by kernel_rfl) (by simp) ?_
      refine AllReadyH.cons (o := ({ dst := some 72, op := Op.call { callee := Callee.value (Operand.func 12), args := #[Operand.tmp 71], argTypes := #[23] }, type := 55, pos := "exact.go:56", after := #[{ on := 14, ground := Ground.data }, { on := 13, ground := Ground.chain }, { on := 13, ground := Ground.guard }], guard := some (13, false) } : Oper)) rfl (fun K hK => ?_) AllReadyH.nil
      go_simp
      go_at_call 12
      refine (state_any W7 _ _ _ _ _ (hpq1.out _ hHeld).1).mono ?_
      rintro xx W8 ⟨rfl, hb8⟩
      have HB8 : Hid (Below W5.heap.size W5 W8) := hHeld.trans (hb8.mono hHeld.size)
      try go_wp2_with (fail)
      refine hK.out _ _ HB8.out (fun hHeld => ?_)
      clear hb8
      clear hK K
      try simp only [Act.put, List.setIfInBounds_toArray, List.set_cons_zero, List.set_cons_succ]
      refine wpAnyH_take (i := 20) (oi := ({ dst := some 77, op := Op.binOp BinOp.neq 55 (Operand.tmp 72) (Operand.tmp 76) 55, type := 4, pos := "exact.go:56", after := #[{ on := 15, ground := Ground.data }, { on := 19, ground := Ground.data }, { on := 13, ground := Ground.guard }], guard := some (13, false) } : Oper)) (v := .bool false) rfl (by kernel_rfl) (by kernel_rfl) (by kernel_rfl) (fun _ _ _ h => h) (Or.inl ⟨by rfl, ?_⟩) hHeld ?_
      · intro w hSw
        (try dsimp only at hSw)
        go_split_ands
        simp only [stC]
        go_simp
        try simp
      try simp only [Act.put, List.setIfInBounds_toArray, List.set_cons_zero, List.set_cons_succ]
      (refine wpAnyH_take (i := 21) (oi := ({ dst := some 78, op := Op.pick (Operand.tmp 70) (Operand.const (Value.bool true)) (Operand.tmp 77), type := 4, pos := "exact.go:56", after := #[{ on := 13, ground := Ground.data }, { on := 20, ground := Ground.data }], guard := none } : Oper)) (v := ?_) rfl (by kernel_rfl) (by kernel_rfl) (by kernel_rfl) (fun _ _ _ h => h) (Or.inl ⟨by rfl, ?_⟩) (by assumption) ?_; rotate_left 1; (focus (intro wS hSw; (try dsimp only at hSw); go_split_ands; go_simp; (try with_reducible rfl))); (try simp only [Act.put, List.setIfInBounds_toArray, List.set_cons_zero, List.set_cons_succ]))
      refine wpAnyH_done (by kernel_rfl) ?_ _
      have hl8 := hlent.out W8 HB8.out
      have hr8 := (hrs.out W8 HB8.out).1
      obtain ⟨P3, hP3⟩ : ∃ P, Pd d.p.k c3 = P := ⟨_, rfl⟩
      obtain ⟨P4, hP4⟩ : ∃ P, Pd d.a.k c4 = P := ⟨_, rfl⟩
      have sz : ∀ k c, (Tryd.prog.info? 46).map (·.size) = some (Pd k c).toList.length := fun k c => by unfold Pd; kernel_rfl
      have hs3 : (Tryd.prog.info? 46).map (·.size) = some P3.toList.length := hP3 ▸ sz _ _
      have hs4 : (Tryd.prog.info? 46).map (·.size) = some P4.toList.length := hP4 ▸ sz _ _
      have hr3 : W8.rangeAt W3.heap.size 1 P3.toList := fun j v hv => by
        rw [← hP3] at hv
        have h1 := hl8.ev.pdu j v hv
        have h2 := hr8 (1 + j) v (by simpa using h1)
        rw [Nat.zero_add] at h2
        exact h2
      have hr4 : W8.rangeAt W3.heap.size 21 P4.toList := fun j v hv => by
        rw [← hP4] at hv
        have h1 := hl8.ev.ans j v hv
        have h2 := hr8 (21 + j) v (by simpa using h1)
        rw [Nat.zero_add] at h2
        exact h2
      have hsp3 : Calls Tryd.prog 13 #[.agg P3] W8 fun e w' => e = .returned (.bool true) ∧ KF (fun b => wr.heap.size ≤ b ∧ b < W3.heap.size ∧ (b < M ∨ M2 ≤ b)) W8 w' := by
        rw [← hP3]
        exact spoil_any W8 _ _ _ _ 0 hl8.o3.toOX HE.out.1.m1 hl8.o3.ft (Nat.zero_le _)
      have HO4 : Hid (OXF (fun b => wr.heap.size ≤ b ∧ b < W3.heap.size ∧ M ≤ b ∧ b < M2) 0 W8 c4 d.a.D) := hl8.o4
      have HR4 : Hid (W8.rangeAt W3.heap.size 21 P4.toList) := hr4
      clear hr8 hl8 sz hP3 hr4
      repeat (clear hHeld)
      go_wp2_with (first | (refine wpList_load_mid rfl 46 (.tmp 79) rfl W3.heap.size 1 rfl P3.toList _ hr3 hu6 rfl hs3 ?_) | (go_at_call 13; refine hsp3.mono ?_; refine Fr.Stop.mk ?_))
      rintro x W9 ⟨rfl, hk9⟩
      have HK9 : Hid (KF (fun b => wr.heap.size ≤ b ∧ b < W3.heap.size ∧ (b < M ∨ M2 ≤ b)) W8 W9) := hk9
      have hgl : W3.heap.size < W8.heap.size := by have := HMs.out.2.2.1; have := HA4.out.2.2.size; have := HD.out.2.2.size; have := HB8.out.size; omega
      have hr49 : W9.rangeAt W3.heap.size 21 P4.toList := range_same HR4.out (HK9.out.block _ hgl (by omega))
      have hsp4 : Calls Tryd.prog 13 #[.agg P4] W9 fun e w' => e = .returned (.bool true) ∧ KF (fun b => wr.heap.size ≤ b ∧ b < W3.heap.size ∧ M ≤ b ∧ b < M2) W9 w' := by
        rw [← hP4]
        have h9 := HO4.out.keepF (W' := W9) fun b h1 h2 => HK9.out.block b h1 (by omega)
        exact spoil_any W9 _ _ _ _ 0 h9.toOX HE.out.1.m2 h9.ft (Nat.zero_le _)
      clear hr3 hsp3 hk9 hgl
      go_wp2_with (first | (refine wpList_load_mid rfl 46 (.tmp 82) rfl W3.heap.size 21 rfl P4.toList _ hr49 hu6 rfl hs4 ?_) | (go_at_call 13; refine hsp4.mono ?_; refine Fr.Stop.mk ?_))
      rintro x W10 ⟨rfl, hk10⟩
      have HK10 : Hid (KF (fun b => wr.heap.size ≤ b ∧ b < W3.heap.size) W8 W10) := (HK9.out.mono fun b h => ⟨h.1, h.2.1⟩).trans (hk10.mono fun b h => ⟨h.1, h.2.1⟩)
      have hk510 : ∀ b, Ws.heap.size ≤ b → b < W5.heap.size → W10.heap[b]? = W5.heap[b]? := fun b h1 h2 => (HK10.out.block b (by have := HB8.out.size; omega) (by have := HMs.out.2.2.1; omega)).trans (HB8.out.block b h2)
      have hcA : Calls Tryd.prog 10 #[.slice al nl cl, v5] W10 fun e w2 => e = .returned (.bool true) ∧ Below W10.heap.size W10 w2 := by
        have h4 : Acts W10 (.slice al nl cl) L := (HAC.out.1.keep hk510).acts HD.out.1.zs
        have h5 : Acts W10 v5 M' := (HAC.out.2.keep fun b h1 h2 => hk510 b (by have := HA4.out.2.2.size; omega) h2).acts
        exact acts_same W10 _ v5 L M' HD.out.1.sim (by rw [HD.out.2.1]; omega) (fun x hx => (HD.out.1.gd x hx).1) h4 h5
      clear hr49 hsp4 hk10 hk510 hP4 hs3 hs4
      go_wp2_with (go_at_call 10; refine hcA.mono ?_; refine Fr.Stop.mk ?_)
      rintro x W11 ⟨rfl, hb11⟩
      have HA11 : Hid (KF (fun b => wr.heap.size ≤ b ∧ b < W3.heap.size) W8 W11) := HK10.out.trans (.of hb11)
      have HT11 : Hid (∀ k, k < nl → OXF (t k).F 0 W11 (t k).c (t k).D ∧ W11.rangeAt g (k * 21 + 2) (Pd (t k).k (t k).c).toList ∧ Sml (t k).D ∧ g < W11.heap.size ∧ ∀ j, j < nl → ¬ (t j).F g) := by
        show ∀ k, _
        intro k hk
        obtain ⟨hD, hnl, hB5⟩ := HD.out
        have k1 : k < L.length := by omega
        have g1 := hD.tl.gl (by omega)
        have hq3 := HMs.out.2.1.rv.lt
        have s5 := hB5.size
        have s8 := HB8.out.size
        have s11 := HA11.out.size
        have ss := HMs.out.2.2.1
        have hk : ∀ b, Ws.heap.size ≤ b → b < W4.heap.size → W11.heap[b]? = W4.heap[b]? := fun b h1 h2 => (HA11.out.block b (by omega) (by omega)).trans ((HB8.out.block b (by omega)).trans (hB5.block b h2 (by omega)))
        refine ⟨(hD.tl.ox k k1).keepF fun b h1 h2 => hk b (hD.tl.lo k k1 b h2).1 h1, fun j u hu => (World.cell?_of_block (hk g g1.1 g1.2)).trans (hD.tl.at' k k1 j u hu), ?_, by omega, fun j hj e => (hD.tl.lo j (by omega) g e).2.2 rfl⟩
        rw [(hD.tl.s k k1).2.1]
        exact (hD.gd _ (List.getElem_mem k1)).2
      have HEnd : Hid (∀ Wz, KF (fun b => ∃ j, j < nl ∧ (t j).F b) W11 Wz → PlaysI w a w.heap.size q Wz) := by
        show ∀ Wz, _
        intro Wz hz
        exact plays_end (Nat.le_refl _) HS.out.1 HS.out.2 HQ.out.2.1 HMs.out.2.2.1 HMs.out.1.1 HA4.out.2.2 HD.out.2.2 HD.out.1 HD.out.2.1 HB8.out HA11.out hz
      have HAPT : Hid (∀ i j, i < nl → j < nl → i ≠ j → ∀ b, (t i).F b → ¬ (t j).F b) := by
        have h := HD.out.1.apt
        rw [HD.out.2.1] at h
        exact h
      clear hb11 hcA HK9 HK10 HA11 HD HAC hc10 hc11 hlent hpq1 hrs HB6 HB7 HB8 HK35 HW5 HMs HQ HS HE HO4 HR4 HA4 hst hs5
      go_wp2
      go_loopw [13] (fun x wx => ∃ (k : Nat), x = .int .i64 (k : Int) ∧ k ≤ nl ∧ Hid (KF (fun b => ∃ j, j < k ∧ (t j).F b) W11 wx)) (fun x _ => nl - (intOf x).toNat)
      case atStart => exact ⟨0, rfl, by omega, Hid.mk' (KF.refl _ _)⟩
      case round => as_aux_lemma =>
        obtain ⟨k, rfl, hk, HK⟩ := hrel
        by_cases hkn : k < nl
        · have hK : ((k : Int) < (nl : Int)) := by omega
          have hgg : al = some ⟨g, 0, none⟩ := hal (by omega)
          subst hgg
          obtain ⟨o1, o2, o3, o4, o5⟩ := HT11.out k hkn
          obtain ⟨P1, hP1⟩ : ∃ P, Pd (t k).k (t k).c = P := ⟨_, rfl⟩
          have hs1 : (Tryd.prog.info? 46).map (·.size) = some P1.toList.length := by rw [← hP1]; unfold Pd; kernel_rfl
          have hr1 : wr.rangeAt g (k * 21 + 2) P1.toList := by
            rw [← hP1]
            exact range_same o2 (HK.out.block g o4 fun ⟨j, hj, e⟩ => o5 j (by omega) e)
          have hsp : Calls Tryd.prog 13 #[.agg P1] wr fun e w' => e = .returned (.bool true) ∧ KF (t k).F wr w' := by
            rw [← hP1]
            have h9 := o1.keepF (W' := wr) fun b h1 h2 => HK.out.block b h1 fun ⟨j, hj, e⟩ => HAPT.out k j hkn (by omega) (by omega) b h2 e
            exact spoil_any wr _ _ _ _ 0 h9.toOX o3 h9.ft (Nat.zero_le _)
          clear o1 o2 o3 o4 o5 hP1
          go_wp2_with (first | (refine wpList_load_mid rfl 46 (.tmp 98) rfl g (k * 21 + 2) rfl P1.toList _ hr1 hu6 rfl hs1 ?_) | (go_at_call 13; refine hsp.mono ?_; refine Fr.Stop.mk ?_))
          rintro x W12 rfl hk12
          have HK12 : Hid (KF (fun b => ∃ j, j < k + 1 ∧ (t j).F b) W11 W12) := (HK.out.mono fun b ⟨j, hj, e⟩ => ⟨j, by omega, e⟩).trans (hk12.mono fun b e => ⟨k, by omega, e⟩)
          clear hr1 hsp hk12 hs1
          go_wp2
          go_roundw
          case rel => exact ⟨k + 1, by go_num, by omega, HK12.out⟩
          case measure => simp [intOf]; omega
        · have hK : ¬ ((k : Int) < (nl : Int)) := by omega
          obtain rfl : k = nl := by omega
          have HI9 : Hid (PlaysI w a w.heap.size q wr) := HEnd.out _ HK.out
          clear HEnd HT11 HK HAPT
          go_wp2
          go_roundw
          case rel => exact ⟨i + 1, by go_num, by omega, HI9.out⟩
          case measure => simp [intOf]; omega
    · have hI : ¬ ((i : Int) < (n : Int)) := by omega
      obtain rfl : i = n := by omega
      obtain ⟨S, S', hbw, hM, -⟩ := HI.out
      have HBW : Hid (Below w.heap.size w wr) := hbw
      have hpq1 : Hid (∀ w', Below wr.heap.size wr w' → Pv w' w.heap.size S.art S.left S.sta S.asked ∧ w'.rangeAt q 1 (stC S)) := by
        show ∀ w', _
        intro w' hb
        have hm := hM.on hb
        exact ⟨by obtain ⟨PV, c0, h⟩ := hm.pv; exact pv_of h, rv_range hm.rv hm.sim⟩
      have hlate : Hid (∀ w', Below wr.heap.size wr w' → Calls Tryd.prog 14 #[.int .i64 a, .slice ao i cap] w' fun e w2 => e = .returned (.bool true) ∧ Below w'.heap.size w' w2) := by
        show ∀ w', _
        intro w' hb
        have h := HBW.out.trans (hb.mono HBW.out.size)
        exact lateAll_any w' a _ i HN.out.2.2.2.1 HN.out.2.2.2.2 hn (evsT_on HV.out h) (HN.out.1.on h) (HN.out.2.1.on h)
      have hs5 : (Tryd.prog.info? 55).map (·.size) = some (stC S).length := by kernel_rfl
      have hst : Below wr.heap.size wr wr.drew := (Below.refl _ _).drew
      clear hbw hM HI HEl
      go_wp2
      refine wp_region_held_drew (S := fun w' => Below wr.heap.size wr w') (by kernel_rfl) hst (fun hHeld => ?_)
      (refine wpAnyH_take (i := 0) (oi := ({ dst := some 102, op := Op.move (Operand.tmp 5), type := 23, pos := "exact.go:70", after := #[], guard := none } : Oper)) (v := ?_) rfl (by kernel_rfl) (by kernel_rfl) (by kernel_rfl) (fun _ _ _ h => h) (Or.inl ⟨by rfl, ?_⟩) (by assumption) ?_; rotate_left 1; (focus (intro wS hSw; (try dsimp only at hSw); go_split_ands; go_simp; (try with_reducible rfl))); (try simp only [Act.put, List.setIfInBounds_toArray, List.set_cons_zero, List.set_cons_succ]))
      (refine wpAnyH_take (i := 2) (oi := ({ dst := some 104, op := Op.move (Operand.tmp 7), type := 28, pos := "exact.go:70", after := #[], guard := none } : Oper)) (v := ?_) rfl (by kernel_rfl) (by kernel_rfl) (by kernel_rfl) (fun _ _ _ h => h) (Or.inl ⟨by rfl, ?_⟩) (by assumption) ?_; rotate_left 1; (focus (intro wS hSw; (try dsimp only at hSw); go_split_ands; go_simp; (try with_reducible rfl))); (try simp only [Act.put, List.setIfInBounds_toArray, List.set_cons_zero, List.set_cons_succ]))
      (refine wpAnyH_take (i := 3) (oi := ({ dst := some 105, op := Op.nilCheck (Operand.tmp 104), type := 0, pos := "exact.go:70", after := #[{ on := 2, ground := Ground.data }], guard := none } : Oper)) (v := ?_) rfl (by kernel_rfl) (by kernel_rfl) (by kernel_rfl) (fun _ _ _ h => h) (Or.inl ⟨by rfl, ?_⟩) (by assumption) ?_; rotate_left 1; (focus (intro wS hSw; (try dsimp only at hSw); go_split_ands; go_simp; (try with_reducible rfl))); (try simp only [Act.put, List.setIfInBounds_toArray, List.set_cons_zero, List.set_cons_succ]))
      (refine wpAnyH_take (i := 4) (oi := ({ dst := some 106, op := Op.fieldAddr 58 (Operand.tmp 105) 1, type := 0, pos := "exact.go:70", after := #[{ on := 3, ground := Ground.data }], guard := none } : Oper)) (v := ?_) rfl (by kernel_rfl) (by kernel_rfl) (by kernel_rfl) (fun _ _ _ h => h) (Or.inl ⟨by rfl, ?_⟩) (by assumption) ?_; rotate_left 1; (focus (intro wS hSw; (try dsimp only at hSw); go_split_ands; go_simp; (try with_reducible rfl))); (try simp only [Act.put, List.setIfInBounds_toArray, List.set_cons_zero, List.set_cons_succ]))
      refine wpAnyH_take (i := 5) (oi := ({ dst := some 107, op := Op.load 55 (Operand.tmp 106), type := 55, pos := "exact.go:70", after := #[{ on := 4, ground := Ground.data }], guard := none } : Oper)) (v := .agg (stC S).toArray) rfl (by kernel_rfl) (by kernel_rfl) (by kernel_rfl) (fun _ _ _ h => h) (yieldsIf_load_mid (by rfl) 55 (.tmp 106) rfl q 1 rfl (stC S) _ (fun w h => (hpq1.out w h).2) Tryd.underlying55 rfl hs5) hHeld ?_
      try simp only [Act.put, List.setIfInBounds_toArray, List.set_cons_zero, List.set_cons_succ]
      refine wpAnyH_ready (rs := [1]) (by kernel_rfl) (by simp) ?_
      refine AllReadyH.cons (o := ({ dst := some 103, op := Op.call { callee := Callee.value (Operand.func 12), args := #[Operand.tmp 102], argTypes := #[23] }, type := 55, pos := "exact.go:70", after := #[{ on := 0, ground := Ground.data }], guard := none } : Oper)) rfl (fun K hK => ?_) AllReadyH.nil
      go_simp
      go_at_call 12
      refine (state_any wr.drew _ _ _ _ _ (hpq1.out _ hHeld).1).mono ?_
      rintro xx W8 ⟨rfl, hb8⟩
      have HB8 : Hid (Below wr.heap.size wr W8) := hHeld.trans (hb8.mono hHeld.size)
      try go_wp2_with (fail)
      refine hK.out _ _ HB8.out (fun hHeld => ?_)
      clear hb8
      clear hK K
      try simp only [Act.put, List.setIfInBounds_toArray, List.set_cons_zero, List.set_cons_succ]
      refine wpAnyH_take (i := 6) (oi := ({ dst := some 108, op := Op.binOp BinOp.eql 55 (Operand.tmp 103) (Operand.tmp 107) 55, type := 4, pos := "exact.go:70", after := #[{ on := 1, ground := Ground.data }, { on := 5, ground := Ground.data }], guard := none } : Oper)) (v := .bool true) rfl (by kernel_rfl) (by kernel_rfl) (by kernel_rfl) (fun _ _ _ h => h) (Or.inl ⟨by rfl, ?_⟩) hHeld ?_
      · intro w hSw
        (try dsimp only at hSw)
        go_split_ands
        simp only [stC]
        go_simp
        try simp
      try simp only [Act.put, List.setIfInBounds_toArray, List.set_cons_zero, List.set_cons_succ]
      (refine wpAnyH_take (i := 7) (oi := ({ dst := some 109, op := Op.move (Operand.tmp 108), type := 4, pos := "exact.go:70", after := #[{ on := 6, ground := Ground.data }, { on := 1, ground := Ground.chain }], guard := none } : Oper)) (v := ?_) rfl (by kernel_rfl) (by kernel_rfl) (by kernel_rfl) (fun _ _ _ h => h) (Or.inl ⟨by rfl, ?_⟩) (by assumption) ?_; rotate_left 1; (focus (intro wS hSw; (try dsimp only at hSw); go_split_ands; go_simp; (try with_reducible rfl))); (try simp only [Act.put, List.setIfInBounds_toArray, List.set_cons_zero, List.set_cons_succ]))
      (refine wpAnyH_take (i := 8) (oi := ({ dst := some 110, op := Op.move (Operand.tmp 0), type := 3, pos := "exact.go:70", after := #[{ on := 7, ground := Ground.guard }], guard := some (7, true) } : Oper)) (v := ?_) rfl (by kernel_rfl) (by kernel_rfl) (by kernel_rfl) (fun _ _ _ h => h) (Or.inl ⟨by rfl, ?_⟩) (by assumption) ?_; rotate_left 1; (focus (intro wS hSw; (try dsimp only at hSw); go_split_ands; go_simp; (try with_reducible rfl))); (try simp only [Act.put, List.setIfInBounds_toArray, List.set_cons_zero, List.set_cons_succ]))
      (refine wpAnyH_take (i := 9) (oi := ({ dst := some 111, op := Op.move (Operand.tmp 1), type := 22, pos := "exact.go:70", after := #[{ on := 7, ground := Ground.guard }], guard := some (7, true) } : Oper)) (v := ?_) rfl (by kernel_rfl) (by kernel_rfl) (by kernel_rfl) (fun _ _ _ h => h) (Or.inl ⟨by rfl, ?_⟩) (by assumption) ?_; rotate_left 1; (focus (intro wS hSw; (try dsimp only at hSw); go_split_ands; go_simp; (try with_reducible rfl))); (try simp only [Act.put, List.setIfInBounds_toArray, List.set_cons_zero, List.set_cons_succ]))
      refine wpAnyH_ready (rs := [10]) (by kernel_rfl) (by simp) ?_
      refine AllReadyH.cons (o := ({ dst := some 112, op := Op.call { callee := Callee.value (Operand.func 14), args := #[Operand.tmp 110, Operand.tmp 111], argTypes := #[3, 22] }, type := 4, pos := "exact.go:70", after := #[{ on := 8, ground := Ground.data }, { on := 9, ground := Ground.data }, { on := 7, ground := Ground.chain }, { on := 7, ground := Ground.guard }], guard := some (7, true) } : Oper)) rfl (fun K hK => ?_) AllReadyH.nil
      go_simp
      go_at_call 14
      refine (hlate.out _ hHeld).mono ?_
      rintro xx W9 ⟨rfl, hb9⟩
      have HB9 : Hid (Below wr.heap.size wr W9) := hHeld.trans (hb9.mono hHeld.size)
      try go_wp2_with (fail)
      refine hK.out _ _ HB9.out (fun hHeld => ?_)
      clear hb9
      clear hK K
      try simp only [Act.put, List.setIfInBounds_toArray, List.set_cons_zero, List.set_cons_succ]
      (refine wpAnyH_take (i := 11) (oi := ({ dst := some 113, op := Op.pick (Operand.tmp 109) (Operand.tmp 112) (Operand.const (Value.bool false)), type := 4, pos := "exact.go:70", after := #[{ on := 7, ground := Ground.data }, { on := 10, ground := Ground.data }], guard := none } : Oper)) (v := ?_) rfl (by kernel_rfl) (by kernel_rfl) (by kernel_rfl) (fun _ _ _ h => h) (Or.inl ⟨by rfl, ?_⟩) (by assumption) ?_; rotate_left 1; (focus (intro wS hSw; (try dsimp only at hSw); go_split_ands; go_simp; (try with_reducible rfl))); (try simp only [Act.put, List.setIfInBounds_toArray, List.set_cons_zero, List.set_cons_succ]))
      (refine wpAnyH_take (i := 12) (oi := ({ dst := some 4, op := Op.assign (Operand.tmp 113), type := 4, pos := "exact.go:70", after := #[{ on := 11, ground := Ground.data }, { on := 10, ground := Ground.chain }, { on := 0, ground := Ground.phase }, { on := 1, ground := Ground.phase }, { on := 2, ground := Ground.phase }, { on := 3, ground := Ground.phase }, { on := 4, ground := Ground.phase }, { on := 5, ground := Ground.phase }, { on := 6, ground := Ground.phase }, { on := 7, ground := Ground.phase }, { on := 8, ground := Ground.phase }, { on := 9, ground := Ground.phase }, { on := 10, ground := Ground.phase }, { on := 11, ground := Ground.phase }], guard := none } : Oper)) (v := ?_) rfl (by kernel_rfl) (by kernel_rfl) (by kernel_rfl) (fun _ _ _ h => h) (Or.inl ⟨by rfl, ?_⟩) (by assumption) ?_; rotate_left 1; (focus (intro wS hSw; (try dsimp only at hSw); go_split_ands; go_simp; (try with_reducible rfl))); (try simp only [Act.put, List.setIfInBounds_toArray, List.set_cons_zero, List.set_cons_succ]))
      refine wpAnyH_done (by kernel_rfl) ?_ _
      go_wp2
      go_ret
      exact ⟨rfl, HBW.out.trans (HB9.out.mono HBW.out.size)⟩
theorem plays_any (w : World) (a : Int) (v : Value) (n : Nat) (hn : n ≤ 1048576) (hv : EvsT w v n) (hT : Tb w) (hN : Nd w) :
    Calls Tryd.prog 3 #[.int .i64 a, v] w fun x w' => x = .returned (.bool true) ∧ Below w.heap.size w w' := by
  by_cases h : a < 1 ∨ 1000 < a
  · exact plays_out w a v h
  · exact plays_in w a v n (by omega) (by omega) hn hv hT hN
end Go.Proofs.YtiieikdbhpflgabDoor
