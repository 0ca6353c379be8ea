import Derived.Test.YtiieikdbhpflgabDoorXq
/-
  DERIVED. Do, exactly.
-/
namespace Go.Proofs.YtiieikdbhpflgabDoor
open Go Go.Proofs Go.RowKit

/-- An event of which the kind alone is told. -/
def evZ (kd : Int) : Array Value := #[.int .i64 kd] ++ Pd 0 zc ++ #[.bool false] ++ Pd 0 zc ++ #[.int .u8 0]
def evD (kd : Int) : EvD := ⟨kd, ⟨0, zc, D0, fun _ => True⟩, false, noPdu, 0, 0⟩
theorem evZ_built (kd : Int) : Tryd.prog.built 48 [(0, .int .i64 kd)] = some (evZ kd) := by kernel_rfl
theorem evZ_size (kd : Int) : (evZ kd).size = 41 := by kernel_rfl
theorem evZ_info (kd : Int) : (Tryd.prog.info? 48).map (·.size) = some (evZ kd).size := by rw [evZ_size]; exact size50
theorem rx_zero (W : World) : RX W zc D0 := (ox_zero 0 W zc zc_one rfl rfl rfl rfl).rx
theorem evZ_0 (kd : Int) : (evZ kd)[0]? = some (.int .i64 kd) := by kernel_rfl
theorem evZ_20 (kd : Int) : (evZ kd)[20]? = some (.bool false) := by kernel_rfl
theorem evZ_40 (kd : Int) : (evZ kd)[40]? = some (.int .u8 0) := by kernel_rfl
theorem evZ_one (kd : Int) : (evZ kd).all (·.oneCell') = true := by kernel_rfl
theorem evZ_p (kd : Int) : ∀ j : Fin 19, (evZ kd)[1 + j.val]? = (Pd 0 zc).toList[j.val]?
  | ⟨0, _⟩ => by kernel_rfl
  | ⟨1, _⟩ => by kernel_rfl
  | ⟨2, _⟩ => by kernel_rfl
  | ⟨3, _⟩ => by kernel_rfl
  | ⟨4, _⟩ => by kernel_rfl
  | ⟨5, _⟩ => by kernel_rfl
  | ⟨6, _⟩ => by kernel_rfl
  | ⟨7, _⟩ => by kernel_rfl
  | ⟨8, _⟩ => by kernel_rfl
  | ⟨9, _⟩ => by kernel_rfl
  | ⟨10, _⟩ => by kernel_rfl
  | ⟨11, _⟩ => by kernel_rfl
  | ⟨12, _⟩ => by kernel_rfl
  | ⟨13, _⟩ => by kernel_rfl
  | ⟨14, _⟩ => by kernel_rfl
  | ⟨15, _⟩ => by kernel_rfl
  | ⟨16, _⟩ => by kernel_rfl
  | ⟨17, _⟩ => by kernel_rfl
  | ⟨18, _⟩ => by kernel_rfl
  | ⟨n + 19, h⟩ => absurd h (by omega)
theorem evZ_a (kd : Int) : ∀ j : Fin 19, (evZ kd)[21 + j.val]? = (Pd 0 zc).toList[j.val]?
  | ⟨0, _⟩ => by kernel_rfl
  | ⟨1, _⟩ => by kernel_rfl
  | ⟨2, _⟩ => by kernel_rfl
  | ⟨3, _⟩ => by kernel_rfl
  | ⟨4, _⟩ => by kernel_rfl
  | ⟨5, _⟩ => by kernel_rfl
  | ⟨6, _⟩ => by kernel_rfl
  | ⟨7, _⟩ => by kernel_rfl
  | ⟨8, _⟩ => by kernel_rfl
  | ⟨9, _⟩ => by kernel_rfl
  | ⟨10, _⟩ => by kernel_rfl
  | ⟨11, _⟩ => by kernel_rfl
  | ⟨12, _⟩ => by kernel_rfl
  | ⟨13, _⟩ => by kernel_rfl
  | ⟨14, _⟩ => by kernel_rfl
  | ⟨15, _⟩ => by kernel_rfl
  | ⟨16, _⟩ => by kernel_rfl
  | ⟨17, _⟩ => by kernel_rfl
  | ⟨18, _⟩ => by kernel_rfl
  | ⟨n + 19, h⟩ => absurd h (by omega)
theorem evZ_y (W : World) (kd : Int) : EvY W (evZ kd) (evD kd) :=
  ⟨⟨evZ_size kd, evZ_0 kd, evZ_one kd, fun j _ hv => (evZ_p kd ⟨j, (List.getElem?_eq_some_iff.1 hv).1⟩).trans hv, fun j _ hv => (evZ_a kd ⟨j, (List.getElem?_eq_some_iff.1 hv).1⟩).trans hv, rx_zero W, rx_zero W⟩, evZ_20 kd, evZ_40 kd, rfl, fun _ _ => trivial⟩

/-- What an event of the table does. -/
def evS (S : Prov) (d : EvD) : Prov × List AcD :=
  if actP S.sta d.kd = 0 ∨ complB d.kd d.p.k d.bad d.a.k = false then (S, []) else (stepN (actP S.sta d.kd).toNat S d, actsN (actP S.sta d.kd).toNat S d)
/-- What Do does. -/
def doS (S : Prov) (d : EvD) : Prov × List AcD :=
  if d.kd = 20 then (if S.left ≤ 0 then (S, []) else if S.left = 1 then evS { S with left := 0 } (evD 18) else ({ S with left := S.left - 1 }, [])) else evS S d
def DoP (w : World) (p : Nat) (r : Prov × List AcD) (x : Ending) (w' : World) : Prop :=
  ∃ v PV' c', x = .returned v ∧ AR w.heap.size w' v r.2 ∧ PvS w' p PV' c' r.1 ∧ BelBut p w w'
theorem pvS_left {w W3 : World} {p : Nat} {PV : Array Value} {c0 : Fin 18 → Value} {S : Prov} (h : PvS w p PV c0 S) (l : Int) (hr : W3.heap[p]? = some (.cells (PV.setIfInBounds 1 (.int .i64 l)) 68)) (ho : ∀ b, b ≠ p → b < w.heap.size → W3.heap[b]? = w.heap[b]?) :
    PvS W3 p (PV.setIfInBounds 1 (.int .i64 l)) c0 { S with left := l } := by
  obtain ⟨u1, u2, u3, u4, u5, u6, u7⟩ := pv_set h.x.row h.x.sz h.x.one 1 (by omega) (.int .i64 l) rfl
  exact ⟨⟨hr, u2, u3, fun j v hv => (u5 _ (by omega)).trans (h.x.kept j v hv), h.x.ox.keep fun b h1 h2 => ho b (by omega) h2⟩, h.same, (u5 0 (by omega)).trans h.v0, u4, (u5 2 (by omega)).trans h.v2, (u5 3 (by omega)).trans h.v3⟩
theorem actP_lt (s e : Int) : 0 ≤ actP s e ∧ actP s e ≤ 28 := by
  unfold actP
  split
  · omega
  · have : ∀ k : Nat, tbL.getD k 0 ≤ 28 := fun k => by
      by_cases hk : k < 247
      · have : ∀ j : Fin 247, tbL.getD j.val 0 ≤ 28 := by decide +kernel
        exact this ⟨k, hk⟩
      · rw [List.getD_eq_getElem?_getD, List.getElem?_eq_none (by rw [show tbL.length = 247 by decide +kernel]; omega)]
        exact Nat.zero_le _
    have := this ((e - 1).toNat * 13 + (s - 1).toNat)
    omega
theorem actP_in {s e : Int} (h : actP s e ≠ 0) : 1 ≤ e ∧ e ≤ 19 ∧ 1 ≤ s ∧ s ≤ 13 := by
  unfold actP at h
  split at h
  · exact absurd rfl h
  · omega
set_option maxRecDepth 100000 in
set_option maxHeartbeats 4000000 in
theorem do_ev (w : World) (p : Nat) (PV EV : Array Value) (c0 : Fin 18 → Value) (S : Prov) (d : EvD) (hk : d.kd ≠ 20) (hP : PvS w p PV c0 S) (hE : EvY w EV d) (hT : Tb w) (hN : Nd w) :
    Calls Tryd.prog 8 #[.pointer (some ⟨p, 0, none⟩), .agg EV] w (DoP w p (evS S d)) := by
  have hpl := hP.x.lt
  obtain ⟨W1, hW1⟩ : ∃ W1, w.alloc (.cells EV 48) = W1 := ⟨_, rfl⟩
  have hb1 : Below w.heap.size w W1 := hW1 ▸ (Below.refl _ _).alloc (Nat.le_refl _) _
  have hr1 : W1.heap[w.heap.size]? = some (.cells EV 48) := hW1 ▸ alloc_new w _
  have hkz : (d.kd == 20) = false := by simpa using hk
  have hsE : (Tryd.prog.info? 48).map (·.size) = some EV.size := by rw [hE.ev.sz]; exact size50
  clear hk
  go_enter Tryd.func8, Tryd.ntmps8
  have hP7 := hP.on hb1
  have hrow7 := hr1
  have hE7 := hE.on hb1
  have k2 : W1.cell? ⟨p, 2, none⟩ = some (.int .i64 S.sta) := by rw [cell_of_row _ _ _ _ _ _ hP7.x.row]; exact hP7.v2
  have e0 : W1.cell? ⟨w.heap.size, 0, none⟩ = some (.int .i64 d.kd) := by rw [cell_of_row _ _ _ _ _ _ hrow7]; exact hE7.ev.kd
  have e1 : W1.cell? ⟨w.heap.size, 1, none⟩ = some (.int .i64 d.p.k) := by rw [cell_of_row _ _ _ _ _ _ hrow7]; exact hE7.ev.pdu 0 _ rfl
  have e20 : W1.cell? ⟨w.heap.size, 20, none⟩ = some (.bool d.bad) := by rw [cell_of_row _ _ _ _ _ _ hrow7]; exact hE7.bad
  have e21 : W1.cell? ⟨w.heap.size, 21, none⟩ = some (.int .i64 d.a.k) := by rw [cell_of_row _ _ _ _ _ _ hrow7]; exact hE7.ev.ans 0 _ rfl
  have hbd : Below W1.heap.size W1 W1.drew := (Below.refl _ _).drew
  have h8 := act_any W1.drew S.sta d.kd ((hT.on hb1).on (Below.refl _ W1).drew)
  obtain ⟨r1, r2⟩ := actP_lt S.sta d.kd
  obtain ⟨n, hn⟩ : ∃ n : Nat, actP S.sta d.kd = (n : Int) := ⟨(actP S.sta d.kd).toNat, by omega⟩
  have hin := @actP_in S.sta d.kd
  have h32 := fun (h : actP S.sta d.kd ≠ 0) => complete_any W1.drew w.heap.size d.kd d.p.k d.a.k d.bad (by have := hin h; omega) (by have := hin h; omega) ((hN.on hb1).on (Below.refl _ W1).drew) e0 e1 e20 e21
  have h33 := fun (h0 : 0 < n) (h1 : n ≤ 28) => act33_any W1.drew p w.heap.size _ _ _ S d n h0 h1 (hP7.on hbd) hrow7 (hE7.on hbd)
  obtain ⟨CB, hCB⟩ : ∃ b, complB d.kd d.p.k d.bad d.a.k = b := ⟨_, rfl⟩
  have HR : Hid (evS S d = if n = 0 ∨ CB = false then (S, []) else (stepN n S d, actsN n S d)) := by
    show evS _ _ = _
    unfold evS
    rw [hn, hCB, Int.toNat_natCast]
    by_cases hz : n = 0
    · rw [if_pos (.inl (by omega)), if_pos (.inl hz)]
    · by_cases hc : CB = false
      · rw [if_pos (.inr hc), if_pos (.inr hc)]
      · rw [if_neg (fun h => h.elim (fun h => hz (by omega)) hc), if_neg (fun h => h.elim hz hc)]
  have HQ : Hid (PvS W1.drew p PV c0 S ∧ BelBut p w W1.drew ∧ w.heap.size ≤ W1.drew.heap.size) := ⟨hP7.on hbd, (BelBut.of hb1 : BelBut p w W1).trans (.of hbd), (BelBut.of hb1 : BelBut p w W1).size⟩
  rw [hn] at h8 h32
  have hn28 : n ≤ 28 := by omega
  clear hin r1 r2 hn hP7 hE7 hrow7 e1 e20 e21 hbd
  by_cases hz : n = 0
  · subst hz
    clear h32 h33
    go_wp2
    go_region_with (go_at_call 23; refine h8.mono ?_; rintro x W8 ⟨rfl, rfl⟩)
    all_goals
      go_wp2
      go_ret
      rw [HR.out, if_pos (by simp)]
      exact ⟨_, _, _, rfl, rfl, HQ.out.1, HQ.out.2.1⟩
  · have h32' := h32 (by omega)
    have h33' := h33 (by omega) hn28
    rw [hCB] at h32'
    have hnz : ((n : Int) == 0) = false := by simpa using hz
    have HZ : Hid (¬ n = 0) := hz
    clear h32 h33 hz hCB hn28
    cases CB
    · go_wp2
      go_region_with (go_at_call 23; refine h8.mono ?_; rintro x W8 ⟨rfl, rfl⟩)
      all_goals
        go_wp2_with (go_at_call 24; refine h32'.mono ?_; rintro x W9 ⟨rfl, rfl⟩)
        all_goals first | (exfalso; have := HZ.out; omega) | skip
        go_ret
        rw [HR.out, if_pos (by simp)]
        exact ⟨_, _, _, rfl, rfl, HQ.out.1, HQ.out.2.1⟩
    · go_wp2
      go_region_with (go_at_call 23; refine h8.mono ?_; rintro x W8 ⟨rfl, rfl⟩)
      all_goals
        go_wp2_with (first | (go_at_call 24; refine h32'.mono ?_; rintro x W9 ⟨rfl, rfl⟩) | (go_at_call 25; refine h33'.mono ?_; rintro x W9 ⟨v, PV9, c9, rfl, hA9, hP9, hB9⟩; have HA9 : Hid (AR _ W9 v (actsN n S d) ∧ PvS W9 p PV9 c9 (stepN n S d) ∧ BelBut p _ W9) := ⟨hA9, hP9, hB9⟩; clear hA9 hP9 hB9))
        all_goals first | (exfalso; have := HZ.out; omega) | skip
        go_ret
        rw [HR.out, if_neg (by have := HZ.out; simp; omega)]
        exact ⟨v, PV9, c9, rfl, HA9.out.1.low HQ.out.2.2, HA9.out.2.1, HQ.out.2.1.trans HA9.out.2.2⟩
set_option maxRecDepth 100000 in
set_option maxHeartbeats 4000000 in
theorem do_last (w : World) (p : Nat) (PV EV : Array Value) (c0 : Fin 18 → Value) (S : Prov) (d : EvD) (hk : d.kd = 20) (hl : S.left = 1) (hP : PvS w p PV c0 S) (hE : EvY w EV d) (hT : Tb w) (hN : Nd w) (hp0 : 1 < p) :
    Calls Tryd.prog 8 #[.pointer (some ⟨p, 0, none⟩), .agg EV] w (DoP w p (evS { S with left := 0 } (evD 18))) := by
  have hpl := hP.x.lt
  obtain ⟨W1, hW1⟩ : ∃ W1, w.alloc (.cells EV 48) = W1 := ⟨_, rfl⟩
  have hb1 : Below w.heap.size w W1 := hW1 ▸ (Below.refl _ _).alloc (Nat.le_refl _) _
  have hr1 : W1.heap[w.heap.size]? = some (.cells EV 48) := hW1 ▸ alloc_new w _
  have k00 : W1.cell? ⟨w.heap.size, 0, none⟩ = some (.int .i64 20) := by rw [cell_of_row _ _ _ _ _ _ hr1, hE.ev.kd, hk]
  have hP1 := hP.on hb1
  have y1 : W1.cell? ⟨p, 1, none⟩ = some (.int .i64 1) := by rw [cell_of_row _ _ _ _ _ _ hP1.x.row, ← hl]; exact hP1.v1
  have y1f : W1.frozen? ⟨p, 1, none⟩ = false := by simp [World.frozen?, hP1.x.row]
  have htk := tick_on W1 p 1 y1 y1f (by omega) (by omega)
  obtain ⟨u1, u2, u3, u4, u5, ho2, hB2⟩ := pv_set hP1.x.row hP1.x.sz hP1.x.one 1 (by omega) (.int .i64 0) rfl
  rw [show decide ((1 : Int) = 1) = true from rfl, show (1 : Int) - 1 = 0 from rfl] at htk
  obtain ⟨W2, hW2⟩ : ∃ W2, W1.setCell ⟨p, 1, none⟩ (.int .i64 0) = W2 := ⟨_, rfl⟩
  rw [hW2] at htk u1 ho2 hB2
  have hr2 : W2.heap[w.heap.size]? = some (.cells EV 48) := (ho2 _ (by omega)).trans hr1
  have hzs : EV.size = (evZ 18).size := by rw [evZ_size, hE.ev.sz]
  have hr3 := setRow_heap W2 w.heap.size EV (evZ 18) 48 _ hr2
  have hi3 := evZ_info 18
  have hone3 := evZ_one 18
  have hb3 : Below w.heap.size W2 (W2.setRow w.heap.size (evZ 18)) := below_setRow (Below.refl _ _) (Nat.le_refl _) _
  have hbZ := evZ_built 18
  have hE3 := fun W => evZ_y W 18
  have z0 := evZ_0 18
  obtain ⟨W3, hW3⟩ : ∃ W3, W2.setRow w.heap.size (evZ 18) = W3 := ⟨_, rfl⟩
  rw [hW3] at hr3 hb3
  have hoth : ∀ b, b ≠ p → b < w.heap.size → W3.heap[b]? = w.heap[b]? := fun b hb hl => (hb3.block b hl).trans ((ho2 b hb).trans (hb1.block b hl))
  have hP3 := pvS_left hP 0 ((hb3.block p hpl).trans u1) hoth
  have hB3 : BelBut p w W3 := ⟨hb3.os.trans (hB2.os.trans hb1.os), hb3.tape.trans (hB2.tape.trans hb1.tape), hb3.output.trans (hB2.output.trans hb1.output), Nat.le_trans hb1.size (Nat.le_trans hB2.size hb3.size), fun b hb hp => hoth b hp hb⟩
  have hT3 : Tb W3 := fun k hk => (World.cell?_of_block (hoth 0 (by omega) hT.lt)).trans (hT k hk)
  have hN3 : Nd W3 := fun k hk => (World.cell?_of_block (hoth 1 (by omega) hN.lt)).trans (hN k hk)
  obtain ⟨ZE, hZE⟩ : ∃ A, evZ 18 = A := ⟨_, rfl⟩
  rw [hZE] at hbZ hi3 hone3 hzs hE3 hr3 hW3 z0
  obtain ⟨S0, hS0⟩ : ∃ S0, ({ S with left := 0 } : Prov) = S0 := ⟨_, rfl⟩
  obtain ⟨DX, hDX⟩ : ∃ DX, evD 18 = DX := ⟨_, rfl⟩
  rw [hS0] at hP3 ⊢
  rw [hDX] at hE3 ⊢
  have hE33 := hE3 W3
  clear hE hP hP1 hr1 hB2 u1 u2 u3 u4 u5 ho2 hb3 hoth hE3 hk hl hT hN z0
  go_enter Tryd.func8, Tryd.ntmps8
  go_wp2_with (first | (go_at_call 22; refine htk.mono ?_; rintro x WX ⟨rfl, rfl⟩) | (refine step_build rfl 48 _ rfl ZE (by simp [Act.eval]; exact hbZ) ?_) | (refine wpList_store_row rfl 48 (.tmp 3) (.tmp 16) rfl w.heap.size ZE rfl rfl 48 _ hr2 hi3 hzs hone3 ?_))
  have hP7 := hP3
  have hrow7 := hr3
  have hE7 := hE33
  have k2 : W3.cell? ⟨p, 2, none⟩ = some (.int .i64 S0.sta) := by rw [cell_of_row _ _ _ _ _ _ hP7.x.row]; exact hP7.v2
  have e0 : W3.cell? ⟨w.heap.size, 0, none⟩ = some (.int .i64 DX.kd) := by rw [cell_of_row _ _ _ _ _ _ hrow7]; exact hE7.ev.kd
  have e1 : W3.cell? ⟨w.heap.size, 1, none⟩ = some (.int .i64 DX.p.k) := by rw [cell_of_row _ _ _ _ _ _ hrow7]; exact hE7.ev.pdu 0 _ rfl
  have e20 : W3.cell? ⟨w.heap.size, 20, none⟩ = some (.bool DX.bad) := by rw [cell_of_row _ _ _ _ _ _ hrow7]; exact hE7.bad
  have e21 : W3.cell? ⟨w.heap.size, 21, none⟩ = some (.int .i64 DX.a.k) := by rw [cell_of_row _ _ _ _ _ _ hrow7]; exact hE7.ev.ans 0 _ rfl
  have hbd : Below W3.heap.size W3 W3.drew := (Below.refl _ _).drew
  have h8 := act_any W3.drew S0.sta DX.kd (hT3.on (Below.refl _ W3).drew)
  obtain ⟨r1, r2⟩ := actP_lt S0.sta DX.kd
  obtain ⟨n, hn⟩ : ∃ n : Nat, actP S0.sta DX.kd = (n : Int) := ⟨(actP S0.sta DX.kd).toNat, by omega⟩
  have hin := @actP_in S0.sta DX.kd
  have h32 := fun (h : actP S0.sta DX.kd ≠ 0) => complete_any W3.drew w.heap.size DX.kd DX.p.k DX.a.k DX.bad (by have := hin h; omega) (by have := hin h; omega) (hN3.on (Below.refl _ W3).drew) e0 e1 e20 e21
  have h33 := fun (h0 : 0 < n) (h1 : n ≤ 28) => act33_any W3.drew p w.heap.size _ _ _ S0 DX n h0 h1 (hP7.on hbd) hrow7 (hE7.on hbd)
  obtain ⟨CB, hCB⟩ : ∃ b, complB DX.kd DX.p.k DX.bad DX.a.k = b := ⟨_, rfl⟩
  have HR : Hid (evS S0 DX = if n = 0 ∨ CB = false then (S0, []) else (stepN n S0 DX, actsN n S0 DX)) := by
    show evS _ _ = _
    unfold evS
    rw [hn, hCB, Int.toNat_natCast]
    by_cases hz : n = 0
    · rw [if_pos (.inl (by omega)), if_pos (.inl hz)]
    · by_cases hc : CB = false
      · rw [if_pos (.inr hc), if_pos (.inr hc)]
      · rw [if_neg (fun h => h.elim (fun h => hz (by omega)) hc), if_neg (fun h => h.elim hz hc)]
  have HQ : Hid (PvS W3.drew p (PV.setIfInBounds 1 (.int .i64 0)) c0 S0 ∧ BelBut p w W3.drew ∧ w.heap.size ≤ W3.drew.heap.size) := ⟨hP7.on hbd, hB3.trans (.of hbd), hB3.size⟩
  rw [hn] at h8 h32
  have hn28 : n ≤ 28 := by omega
  clear hin r1 r2 hn hP7 hE7 hrow7 e1 e20 e21 hbd
  by_cases hz : n = 0
  · subst hz
    clear h32 h33
    go_wp2
    go_region_with (go_at_call 23; refine h8.mono ?_; rintro x W8 ⟨rfl, rfl⟩)
    all_goals
      go_wp2
      go_ret
      rw [HR.out, if_pos (by simp)]
      exact ⟨_, _, _, rfl, rfl, HQ.out.1, HQ.out.2.1⟩
  · have h32' := h32 (by omega)
    have h33' := h33 (by omega) hn28
    rw [hCB] at h32'
    have hnz : ((n : Int) == 0) = false := by simpa using hz
    have HZ : Hid (¬ n = 0) := hz
    clear h32 h33 hz hCB hn28
    cases CB
    · go_wp2
      go_region_with (go_at_call 23; refine h8.mono ?_; rintro x W8 ⟨rfl, rfl⟩)
      all_goals
        go_wp2_with (go_at_call 24; refine h32'.mono ?_; rintro x W9 ⟨rfl, rfl⟩)
        all_goals first | (exfalso; have := HZ.out; omega) | skip
        go_ret
        rw [HR.out, if_pos (by simp)]
        exact ⟨_, _, _, rfl, rfl, HQ.out.1, HQ.out.2.1⟩
    · go_wp2
      go_region_with (go_at_call 23; refine h8.mono ?_; rintro x W8 ⟨rfl, rfl⟩)
      all_goals
        go_wp2_with (first | (go_at_call 24; refine h32'.mono ?_; rintro x W9 ⟨rfl, rfl⟩) | (go_at_call 25; refine h33'.mono ?_; rintro x W9 ⟨v, PV9, c9, rfl, hA9, hP9, hB9⟩; have HA9 : Hid (AR _ W9 v (actsN n S0 DX) ∧ PvS W9 p PV9 c9 (stepN n S0 DX) ∧ BelBut p _ W9) := ⟨hA9, hP9, hB9⟩; clear hA9 hP9 hB9))
        all_goals first | (exfalso; have := HZ.out; omega) | skip
        go_ret
        rw [HR.out, if_neg (by have := HZ.out; simp; omega)]
        exact ⟨v, PV9, c9, rfl, HA9.out.1.low HQ.out.2.2, HA9.out.2.1, HQ.out.2.1.trans HA9.out.2.2⟩
set_option maxRecDepth 100000 in
set_option maxHeartbeats 4000000 in
theorem do_off (w : World) (p : Nat) (PV EV : Array Value) (c0 : Fin 18 → Value) (S : Prov) (d : EvD) (hk : d.kd = 20) (hl : S.left ≤ 0) (hP : PvS w p PV c0 S) (hE : EvY w EV d) :
    Calls Tryd.prog 8 #[.pointer (some ⟨p, 0, none⟩), .agg EV] w (DoP w p (S, [])) := by
  obtain ⟨W1, hW1⟩ : ∃ W1, w.alloc (.cells EV 48) = W1 := ⟨_, rfl⟩
  have hb1 : Below w.heap.size w W1 := hW1 ▸ (Below.refl _ _).alloc (Nat.le_refl _) _
  have hr1 : W1.heap[w.heap.size]? = some (.cells EV 48) := hW1 ▸ alloc_new w _
  have k00 : W1.cell? ⟨w.heap.size, 0, none⟩ = some (.int .i64 20) := by rw [cell_of_row _ _ _ _ _ _ hr1, hE.ev.kd, hk]
  have hP1 := hP.on hb1
  have y1 : W1.cell? ⟨p, 1, none⟩ = some (.int .i64 S.left) := by rw [cell_of_row _ _ _ _ _ _ hP1.x.row]; exact hP1.v1
  have htk := tick_off W1 p S.left y1 (by omega)
  have HQ : Hid (PvS W1 p PV c0 S ∧ BelBut p w W1) := ⟨hP1, .of hb1⟩
  clear hP hP1 hE hk hl hb1 y1
  go_enter Tryd.func8, Tryd.ntmps8
  go_wp2_with (go_at_call 22; refine htk.mono ?_; rintro x WX ⟨rfl, rfl⟩)
  go_ret
  exact ⟨_, _, _, rfl, rfl, HQ.out.1, HQ.out.2⟩
set_option maxRecDepth 100000 in
set_option maxHeartbeats 4000000 in
theorem do_tick (w : World) (p : Nat) (PV EV : Array Value) (c0 : Fin 18 → Value) (S : Prov) (d : EvD) (hk : d.kd = 20) (hl : 1 < S.left) (hl2 : S.left ≤ 9223372036854775807) (hP : PvS w p PV c0 S) (hE : EvY w EV d) :
    Calls Tryd.prog 8 #[.pointer (some ⟨p, 0, none⟩), .agg EV] w (DoP w p ({ S with left := S.left - 1 }, [])) := by
  have hpl := hP.x.lt
  obtain ⟨W1, hW1⟩ : ∃ W1, w.alloc (.cells EV 48) = W1 := ⟨_, rfl⟩
  have hb1 : Below w.heap.size w W1 := hW1 ▸ (Below.refl _ _).alloc (Nat.le_refl _) _
  have hr1 : W1.heap[w.heap.size]? = some (.cells EV 48) := hW1 ▸ alloc_new w _
  have k00 : W1.cell? ⟨w.heap.size, 0, none⟩ = some (.int .i64 20) := by rw [cell_of_row _ _ _ _ _ _ hr1, hE.ev.kd, hk]
  have hP1 := hP.on hb1
  have y1 : W1.cell? ⟨p, 1, none⟩ = some (.int .i64 S.left) := by rw [cell_of_row _ _ _ _ _ _ hP1.x.row]; exact hP1.v1
  have y1f : W1.frozen? ⟨p, 1, none⟩ = false := by simp [World.frozen?, hP1.x.row]
  have htk := tick_on W1 p S.left y1 y1f (by omega) hl2
  rw [show decide (S.left = 1) = false from by simp; omega] at htk
  obtain ⟨u1, u2, u3, u4, u5, ho2, hB2⟩ := pv_set hP1.x.row hP1.x.sz hP1.x.one 1 (by omega) (.int .i64 (S.left - 1)) rfl
  have hP3 := pvS_left hP (S.left - 1) u1 (fun b hb hl => (ho2 b hb).trans (hb1.block b hl))
  have HQ : Hid (PvS (W1.setCell ⟨p, 1, none⟩ (.int .i64 (S.left - 1))) p (PV.setIfInBounds 1 (.int .i64 (S.left - 1))) c0 { S with left := S.left - 1 } ∧ BelBut p w (W1.setCell ⟨p, 1, none⟩ (.int .i64 (S.left - 1)))) := ⟨hP3, (BelBut.of hb1).trans hB2⟩
  obtain ⟨W2, hW2⟩ : ∃ W2, W1.setCell ⟨p, 1, none⟩ (.int .i64 (S.left - 1)) = W2 := ⟨_, rfl⟩
  rw [hW2] at htk HQ
  clear hP hP1 hE hk hl hl2 hb1 y1 y1f u1 u2 u3 u4 u5 ho2 hB2 hP3 hW2
  go_enter Tryd.func8, Tryd.ntmps8
  go_wp2_with (go_at_call 22; refine htk.mono ?_; rintro x WX ⟨rfl, rfl⟩)
  go_ret
  exact ⟨_, _, _, rfl, rfl, HQ.out.1, HQ.out.2⟩
theorem do_any (w : World) (p : Nat) (PV EV : Array Value) (c0 : Fin 18 → Value) (S : Prov) (d : EvD) (hl2 : S.left ≤ 9223372036854775807) (hP : PvS w p PV c0 S) (hE : EvY w EV d) (hT : Tb w) (hN : Nd w) (hp0 : 1 < p) :
    Calls Tryd.prog 8 #[.pointer (some ⟨p, 0, none⟩), .agg EV] w (DoP w p (doS S d)) := by
  unfold doS
  by_cases hk : d.kd = 20
  · rw [if_pos hk]
    by_cases h0 : S.left ≤ 0
    · rw [if_pos h0]; exact do_off w p PV EV c0 S d hk h0 hP hE
    · rw [if_neg h0]
      by_cases h1 : S.left = 1
      · rw [if_pos h1]; exact do_last w p PV EV c0 S d hk h1 hP hE hT hN hp0
      · rw [if_neg h1]; exact do_tick w p PV EV c0 S d hk (by omega) hl2 hP hE
  · rw [if_neg hk]; exact do_ev w p PV EV c0 S d hk hP hE hT hN
end Go.Proofs.YtiieikdbhpflgabDoor
