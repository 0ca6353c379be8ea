import Derived.Test.YtoikdpjjcnmgeaaGreatDoorBi
/-
  DERIVED. Nodes laid down, one behind the other: the program's.
-/
namespace Go.Proofs.YtoikdpjjcnmgeaaGreatDoor
open Go Go.Proofs Go.RowKit
open Wk (Nd NV goN nxt)

theorem TagsOk.sub {L : List Nd} (h : TagsOk L) (i e : Nat) : TagsOk (sub L i e) := fun x hx => h x (sub_mem hx)
theorem Good.sub {L : List Nd} (h : Good L) (i e : Nat) : Good (sub L i e) := fun x hx => h x (sub_mem hx)
set_option maxRecDepth 100000 in
set_option maxHeartbeats 4000000 in
theorem wrI_step (m : Nat) (hw : WrI m) : WrI (m + 1) := by
  intro W base b off n cap L v ys hL hP
  have HP : Hid (WrP encI base b off n cap L v ys W) := hP
  have HW : Hid (WrI m) := hw
  have HL : Hid (L.length ≤ m + 1) := hL
  have HN : Hid (n = L.length) := hP.nv.len
  have hroom := hP.nv.room
  have hn40 := hP.n40
  clear hP hw hL
  go_enter Tryz.func41, Tryz.ntmps41
  go_wp2
  go_loopw [0, 7] (fun x0 x7 wr => ∃ (i : Nat) (Z : List UInt8), x7 = .int .i64 (i : Int) ∧ i ≤ n ∧ Hid (Lev L i L.length ∧ Ob base wr x0 Z ∧ Z ++ encI.wP (sub L i L.length) = ys ++ encI.wP L ∧ Z.length + encI.szP (sub L i L.length) ≤ 3000000 ∧ By base W wr)) (fun _ x7 _ => n - (intOf x7).toNat)
  case atStart => exact ⟨0, ys, rfl, by omega, Lev.top L, HP.out.own, by rw [sub_all], by rw [sub_all]; exact HP.out.len, By.refl _ _⟩
  case round =>
    obtain ⟨i, Z, rfl, hin, HI⟩ := hrel
    by_cases hlt : i < n
    · have hltI : (i : Int) < (n : Int) := by omega
      have hlL : i < L.length := by rw [← HN.out]; exact hlt
      have hnv : NV wr (some ⟨b, off, none⟩) n cap L := NV.lo HP.out.nv HI.out.2.2.2.2.b HP.out.lt
      have cn := Wk.next_in wr (some ⟨b, off, none⟩) n cap i L hnv hlt (by omega)
      obtain ⟨h1, h2, h3, h4, -⟩ := HI.out.1.next hlL (Nat.le_refl _)
      have HWP := encI.wP_next HI.out.1 hlL (Nat.le_refl _)
      have HSP := encI.szP_next HI.out.1 hlL (Nat.le_refl _)
      obtain ⟨b', off', hl, he, e0, e1, e2, e3⟩ := NV.cells hnv hlt
      cases he
      have htg := HP.out.tg _ (List.getElem_mem hl)
      obtain ⟨hvv, hss, -⟩ := HP.out.gd _ (List.getElem_mem hl)
      obtain ⟨x, hx⟩ : ∃ x, nxt L i = x := ⟨_, rfl⟩
      rw [hx] at cn h1 h2 h3 h4 HWP HSP
      have hxn : x ≤ n := by rw [HN.out]; exact h1
      have hcut : ∀ zz, (i + 1 < x → zz = off + (i + 1) * 4) → NV wr (some ⟨b, zz, none⟩) (x - (i + 1)) (cap - (i + 1)) (sub L (i + 1) x) := fun zz hz => NV.part hnv (by omega) hxn zz hz
      have HCUT : Hid _ := hcut
      generalize hq : L[i]'hl = q at e0 e1 e2 e3 htg hvv hss HWP HSP
      obtain ⟨t, vv, z, s⟩ := q
      simp only at e0 e1 e2 e3 htg hvv hss
      obtain ⟨tn, rfl⟩ : ∃ tn : Nat, t = (tn : Int) := ⟨t.toNat, by omega⟩
      have htn : tn < 4294967296 := by omega
      have hsl : (sub L (i + 1) x).length ≤ m := by rw [sub_len h1]; have := HL.out; omega
      have hlen3 : Z.length + (encI.sz1 ⟨(tn : Int), vv, z, s⟩ + encI.szP (sub L (i + 1) x)) ≤ 3000000 := by have := HI.out.2.2.2.1; rw [HSP] at this; omega
      have HONE : Hid (∀ (X : World) (zz cc : Nat), Below wr.heap.size wr X → (i + 1 < x → zz = off + (i + 1) * 4) → cc = cap - (i + 1) → Calls Tryz.prog 69 #[u0, ndV (tn : Int) vv z s, .slice (some ⟨b, zz, none⟩) (x - (i + 1)) cc, .iface 107 (.agg #[])] X fun e W' => ∃ u, e = .returned u ∧ Hid (Ob base W' u (Z ++ oneBI ⟨(tn : Int), vv, z, s⟩ (sub L (i + 1) x))) ∧ Hid (By base X W')) := by
        intro X zz cc hX hz hcc
        subst hcc
        refine woI_of m HW.out X base b zz (x - (i + 1)) (cap - (i + 1)) (sub L (i + 1) x) u0 Z hsl ⟨(hcut zz hz).on hX, HP.out.lt, TagsOk.sub HP.out.tg _ _, Good.sub HP.out.gd _ _, by omega, by omega, HI.out.2.1.on hX, Nat.le_trans (Nat.le_trans HP.out.hb HI.out.2.2.2.2.size) hX.size⟩ tn htn vv z s hvv hss hlen3
      have HNX : Hid (∀ u W', Ob base W' u (Z ++ oneBI ⟨(tn : Int), vv, z, s⟩ (sub L (i + 1) x)) → By base wr W' → Lev L x L.length ∧ Ob base W' u (Z ++ oneBI ⟨(tn : Int), vv, z, s⟩ (sub L (i + 1) x)) ∧ (Z ++ oneBI ⟨(tn : Int), vv, z, s⟩ (sub L (i + 1) x)) ++ encI.wP (sub L x L.length) = ys ++ encI.wP L ∧ (Z ++ oneBI ⟨(tn : Int), vv, z, s⟩ (sub L (i + 1) x)).length + encI.szP (sub L x L.length) ≤ 3000000 ∧ By base W W') := by
        intro u W' ho hb
        have hone : (oneBI ⟨(tn : Int), vv, z, s⟩ (sub L (i + 1) x)).length = encI.sz1 ⟨(tn : Int), vv, z, s⟩ + encI.szP (sub L (i + 1) x) := by
          have hdl : ∀ q, (encI.hd ⟨(tn : Int), vv, z, s⟩ q).length = encI.hs ⟨(tn : Int), vv, z, s⟩ := hd_len false (a := ⟨(tn : Int), vv, z, s⟩) hvv
          unfold oneBI Enc.sz1
          simp only [List.length_append]
          rw [hdl, show (encI.wP (sub L (i + 1) x)).length = encI.szP (sub L (i + 1) x) from wr_len false _ _ (Nat.le_refl _) (Good.sub HP.out.gd _ _)]
          split
          · rw [show encI.em.length = 8 from plL_len _ _]; omega
          · simp only [List.length_nil]; omega
        refine ⟨h4, ho, ?_, ?_, HI.out.2.2.2.2.trans hb⟩
        · rw [← HI.out.2.2.1, HWP]
          unfold oneBI
          simp only [List.append_assoc]
        · have := HI.out.2.2.2.1
          rw [HSP] at this
          rw [List.length_append, hone]
          omega
      have hxi : ((x - (i + 1) : Nat) : Int) = (x : Int) - ((i : Int) + 1) := by omega
      have f0 : (0 : Int) ≤ (i : Int) + 1 := by omega
      have f4 : IntKind.i64.wrap ((i : Int) + 1) = (i : Int) + 1 := Go.IntWalk.i64_in _ (by omega)
      have f1 : (i : Int) + 1 ≤ (x : Int) := by omega
      have f2 : (x : Int) ≤ (cap : Int) := by omega
      have f3 : (x : Int) ≤ (n : Int) := by omega
      clear hcut hsl hlen3 HWP HSP h3 h4 hq hnv htg hvv hss hlL hl hx
      by_cases hce : cap = i + 1
      · obtain rfl : x = i + 1 := by omega
        subst hce
        have H0 : Hid (∀ X : World, Below wr.heap.size wr X → Calls Tryz.prog 69 #[u0, ndV (tn : Int) vv z s, .slice (some ⟨b, off, none⟩) 0 0, .iface 107 (.agg #[])] X fun e W' => ∃ u, e = .returned u ∧ Hid (Ob base W' u (Z ++ oneBI ⟨(tn : Int), vv, z, s⟩ (sub L (i + 1) (i + 1)))) ∧ Hid (By base X W')) := by
          intro X hX
          have := HONE.out X off 0 hX (fun h => by omega) (by omega)
          rw [show i + 1 - (i + 1) = 0 by omega] at this
          exact this
        clear HONE
        go_wp2_with (first | (go_at_call 68; refine Calls.mono cn ?_; rintro e W1 ⟨rfl, rfl⟩) | fail)
        go_region_held3 (fun w' => w'.cell? ⟨b, off + i * 4, none⟩ = some (.int .u32 (tn : Int)) ∧ w'.cell? ⟨b, off + i * 4 + 1, none⟩ = some (.int .i64 vv) ∧ w'.cell? ⟨b, off + i * 4 + 2, none⟩ = some (.int .i64 z) ∧ w'.cell? ⟨b, off + i * 4 + 3, none⟩ = some (.string s)) (first | (go_keep; done) | exact ⟨by assumption, by assumption, by assumption, by assumption⟩) (first | (go_at_call 69; refine Calls.mono (H0.out _ (Below.refl _ _).drew) ?_; rintro e W2 ⟨u2, rfl, ho2, hb2⟩; have g0 : W2.cell? ⟨b, off + i * 4, none⟩ = some (.int .u32 (tn : Int)) := (World.cell?_of_block (hb2.out.b.block b HP.out.lt)).trans e0; have g1 : W2.cell? ⟨b, off + i * 4 + 1, none⟩ = some (.int .i64 vv) := (World.cell?_of_block (hb2.out.b.block b HP.out.lt)).trans e1; have g2 : W2.cell? ⟨b, off + i * 4 + 2, none⟩ = some (.int .i64 z) := (World.cell?_of_block (hb2.out.b.block b HP.out.lt)).trans e2; have g3 : W2.cell? ⟨b, off + i * 4 + 3, none⟩ = some (.string s) := (World.cell?_of_block (hb2.out.b.block b HP.out.lt)).trans e3))
        have HR : Hid _ := HNX.out u2 W2 ho2.out ((By.of (Below.refl _ _).drew (Nat.le_trans HP.out.hb HI.out.2.2.2.2.size)).trans hb2.out)
        clear ho2 hb2 g0 g1 g2 g3 HNX H0
        go_wp2
        go_roundw
        case rel => exact ⟨i + 1, _, by go_num, hxn, HR.out⟩
        case measure => simp [intOf]; omega
      · have hce' : ¬ (cap : Int) = (i : Int) + 1 := by omega
        go_wp2_with (first | (go_at_call 68; refine Calls.mono cn ?_; rintro e W1 ⟨rfl, rfl⟩) | fail)
        go_region_held3 (fun w' => w'.cell? ⟨b, off + i * 4, none⟩ = some (.int .u32 (tn : Int)) ∧ w'.cell? ⟨b, off + i * 4 + 1, none⟩ = some (.int .i64 vv) ∧ w'.cell? ⟨b, off + i * 4 + 2, none⟩ = some (.int .i64 z) ∧ w'.cell? ⟨b, off + i * 4 + 3, none⟩ = some (.string s)) (first | (go_keep; done) | exact ⟨by assumption, by assumption, by assumption, by assumption⟩) (first | (go_at_call 69; refine Calls.mono (HONE.out _ _ _ (Below.refl _ _).drew (fun _ => rfl) rfl) ?_; rintro e W2 ⟨u2, rfl, ho2, hb2⟩; have g0 : W2.cell? ⟨b, off + i * 4, none⟩ = some (.int .u32 (tn : Int)) := (World.cell?_of_block (hb2.out.b.block b HP.out.lt)).trans e0; have g1 : W2.cell? ⟨b, off + i * 4 + 1, none⟩ = some (.int .i64 vv) := (World.cell?_of_block (hb2.out.b.block b HP.out.lt)).trans e1; have g2 : W2.cell? ⟨b, off + i * 4 + 2, none⟩ = some (.int .i64 z) := (World.cell?_of_block (hb2.out.b.block b HP.out.lt)).trans e2; have g3 : W2.cell? ⟨b, off + i * 4 + 3, none⟩ = some (.string s) := (World.cell?_of_block (hb2.out.b.block b HP.out.lt)).trans e3))
        have HR : Hid _ := HNX.out u2 W2 ho2.out ((By.of (Below.refl _ _).drew (Nat.le_trans HP.out.hb HI.out.2.2.2.2.size)).trans hb2.out)
        clear ho2 hb2 g0 g1 g2 g3 HNX HONE
        go_wp2
        go_roundw
        case rel => exact ⟨x, _, rfl, hxn, HR.out⟩
        case measure => simp [intOf]; omega
    · obtain rfl : i = n := by omega
      have hltI : ¬ (i : Int) < (i : Int) := by omega
      have HE : Hid (Z = ys ++ encI.wP L) := by
        have := HI.out.2.2.1
        rw [sub_nil (by rw [← HN.out]; exact Nat.le_refl _)] at this
        rw [← this]
        exact (List.append_nil Z).symm
      go_wp2
      go_ret
      exact ⟨_, rfl, by rw [← HE.out]; exact HI.out.2.1, HI.out.2.2.2.2⟩
set_option maxRecDepth 100000 in
theorem wrI_zero : WrI 0 := by
  intro W base b off n cap L v ys hL hP
  obtain rfl : L = [] := List.length_eq_zero_iff.1 (by omega)
  obtain rfl : n = 0 := hP.nv.len
  have HP : Hid (WrP encI base b off 0 cap [] v ys W) := hP
  clear hP hL
  go_enter Tryz.func41, Tryz.ntmps41
  go_wp2
  refine wp_loop_rounds 1 ?_
  rw [rounds_succ]
  go_wp2
  go_ret
  refine ⟨_, rfl, ?_, By.refl _ _⟩
  rw [show encI.wP [] = [] from rfl, List.append_nil]
  exact HP.out.own
theorem wrI_any : ∀ m, WrI m
  | 0 => wrI_zero
  | m + 1 => wrI_step m (wrI_any m)
set_option maxRecDepth 100000 in
set_option maxHeartbeats 4000000 in
theorem wrE_step (m : Nat) (hw : WrE m) : WrE (m + 1) := by
  intro W base b off n cap L v ys hL hP
  have HP : Hid (WrP encE base b off n cap L v ys W) := hP
  have HW : Hid (WrE m) := hw
  have HL : Hid (L.length ≤ m + 1) := hL
  have HN : Hid (n = L.length) := hP.nv.len
  have hroom := hP.nv.room
  have hn40 := hP.n40
  clear hP hw hL
  go_enter Tryz.func41, Tryz.ntmps41
  go_wp2
  go_loopw [0, 7] (fun x0 x7 wr => ∃ (i : Nat) (Z : List UInt8), x7 = .int .i64 (i : Int) ∧ i ≤ n ∧ Hid (Lev L i L.length ∧ Ob base wr x0 Z ∧ Z ++ encE.wP (sub L i L.length) = ys ++ encE.wP L ∧ Z.length + encE.szP (sub L i L.length) ≤ 3000000 ∧ By base W wr)) (fun _ x7 _ => n - (intOf x7).toNat)
  case atStart => exact ⟨0, ys, rfl, by omega, Lev.top L, HP.out.own, by rw [sub_all], by rw [sub_all]; exact HP.out.len, By.refl _ _⟩
  case round =>
    obtain ⟨i, Z, rfl, hin, HI⟩ := hrel
    by_cases hlt : i < n
    · have hltI : (i : Int) < (n : Int) := by omega
      have hlL : i < L.length := by rw [← HN.out]; exact hlt
      have hnv : NV wr (some ⟨b, off, none⟩) n cap L := NV.lo HP.out.nv HI.out.2.2.2.2.b HP.out.lt
      have cn := Wk.next_in wr (some ⟨b, off, none⟩) n cap i L hnv hlt (by omega)
      obtain ⟨h1, h2, h3, h4, -⟩ := HI.out.1.next hlL (Nat.le_refl _)
      have HWP := encE.wP_next HI.out.1 hlL (Nat.le_refl _)
      have HSP := encE.szP_next HI.out.1 hlL (Nat.le_refl _)
      obtain ⟨b', off', hl, he, e0, e1, e2, e3⟩ := NV.cells hnv hlt
      cases he
      have htg := HP.out.tg _ (List.getElem_mem hl)
      obtain ⟨hvv, hss, -⟩ := HP.out.gd _ (List.getElem_mem hl)
      obtain ⟨x, hx⟩ : ∃ x, nxt L i = x := ⟨_, rfl⟩
      rw [hx] at cn h1 h2 h3 h4 HWP HSP
      have hxn : x ≤ n := by rw [HN.out]; exact h1
      have hcut : ∀ zz, (i + 1 < x → zz = off + (i + 1) * 4) → NV wr (some ⟨b, zz, none⟩) (x - (i + 1)) (cap - (i + 1)) (sub L (i + 1) x) := fun zz hz => NV.part hnv (by omega) hxn zz hz
      have HCUT : Hid _ := hcut
      generalize hq : L[i]'hl = q at e0 e1 e2 e3 htg hvv hss HWP HSP
      obtain ⟨t, vv, z, s⟩ := q
      simp only at e0 e1 e2 e3 htg hvv hss
      obtain ⟨tn, rfl⟩ : ∃ tn : Nat, t = (tn : Int) := ⟨t.toNat, by omega⟩
      have htn : tn < 4294967296 := by omega
      have hsl : (sub L (i + 1) x).length ≤ m := by rw [sub_len h1]; have := HL.out; omega
      have hlen3 : Z.length + (encE.sz1 ⟨(tn : Int), vv, z, s⟩ + encE.szP (sub L (i + 1) x)) ≤ 3000000 := by have := HI.out.2.2.2.1; rw [HSP] at this; omega
      have HONE : Hid (∀ (X : World) (zz cc : Nat), Below wr.heap.size wr X → (i + 1 < x → zz = off + (i + 1) * 4) → cc = cap - (i + 1) → Calls Tryz.prog 69 #[u0, ndV (tn : Int) vv z s, .slice (some ⟨b, zz, none⟩) (x - (i + 1)) cc, .iface 108 (.agg #[])] X fun e W' => ∃ u, e = .returned u ∧ Hid (Ob base W' u (Z ++ oneBE ⟨(tn : Int), vv, z, s⟩ (sub L (i + 1) x))) ∧ Hid (By base X W')) := by
        intro X zz cc hX hz hcc
        subst hcc
        refine woE_of m HW.out X base b zz (x - (i + 1)) (cap - (i + 1)) (sub L (i + 1) x) u0 Z hsl ⟨(hcut zz hz).on hX, HP.out.lt, TagsOk.sub HP.out.tg _ _, Good.sub HP.out.gd _ _, by omega, by omega, HI.out.2.1.on hX, Nat.le_trans (Nat.le_trans HP.out.hb HI.out.2.2.2.2.size) hX.size⟩ tn htn vv z s hvv hss hlen3
      have HNX : Hid (∀ u W', Ob base W' u (Z ++ oneBE ⟨(tn : Int), vv, z, s⟩ (sub L (i + 1) x)) → By base wr W' → Lev L x L.length ∧ Ob base W' u (Z ++ oneBE ⟨(tn : Int), vv, z, s⟩ (sub L (i + 1) x)) ∧ (Z ++ oneBE ⟨(tn : Int), vv, z, s⟩ (sub L (i + 1) x)) ++ encE.wP (sub L x L.length) = ys ++ encE.wP L ∧ (Z ++ oneBE ⟨(tn : Int), vv, z, s⟩ (sub L (i + 1) x)).length + encE.szP (sub L x L.length) ≤ 3000000 ∧ By base W W') := by
        intro u W' ho hb
        have hone : (oneBE ⟨(tn : Int), vv, z, s⟩ (sub L (i + 1) x)).length = encE.sz1 ⟨(tn : Int), vv, z, s⟩ + encE.szP (sub L (i + 1) x) := by
          have hdl : ∀ q, (encE.hd ⟨(tn : Int), vv, z, s⟩ q).length = encE.hs ⟨(tn : Int), vv, z, s⟩ := hd_len true (a := ⟨(tn : Int), vv, z, s⟩) hvv
          unfold oneBE Enc.sz1
          simp only [List.length_append]
          rw [hdl, show (encE.wP (sub L (i + 1) x)).length = encE.szP (sub L (i + 1) x) from wr_len true _ _ (Nat.le_refl _) (Good.sub HP.out.gd _ _)]
          split
          · rw [show encE.em.length = 8 from plL_len _ _]; omega
          · simp only [List.length_nil]; omega
        refine ⟨h4, ho, ?_, ?_, HI.out.2.2.2.2.trans hb⟩
        · rw [← HI.out.2.2.1, HWP]
          unfold oneBE
          simp only [List.append_assoc]
        · have := HI.out.2.2.2.1
          rw [HSP] at this
          rw [List.length_append, hone]
          omega
      have hxi : ((x - (i + 1) : Nat) : Int) = (x : Int) - ((i : Int) + 1) := by omega
      have f0 : (0 : Int) ≤ (i : Int) + 1 := by omega
      have f4 : IntKind.i64.wrap ((i : Int) + 1) = (i : Int) + 1 := Go.IntWalk.i64_in _ (by omega)
      have f1 : (i : Int) + 1 ≤ (x : Int) := by omega
      have f2 : (x : Int) ≤ (cap : Int) := by omega
      have f3 : (x : Int) ≤ (n : Int) := by omega
      clear hcut hsl hlen3 HWP HSP h3 h4 hq hnv htg hvv hss hlL hl hx
      by_cases hce : cap = i + 1
      · obtain rfl : x = i + 1 := by omega
        subst hce
        have H0 : Hid (∀ X : World, Below wr.heap.size wr X → Calls Tryz.prog 69 #[u0, ndV (tn : Int) vv z s, .slice (some ⟨b, off, none⟩) 0 0, .iface 108 (.agg #[])] X fun e W' => ∃ u, e = .returned u ∧ Hid (Ob base W' u (Z ++ oneBE ⟨(tn : Int), vv, z, s⟩ (sub L (i + 1) (i + 1)))) ∧ Hid (By base X W')) := by
          intro X hX
          have := HONE.out X off 0 hX (fun h => by omega) (by omega)
          rw [show i + 1 - (i + 1) = 0 by omega] at this
          exact this
        clear HONE
        go_wp2_with (first | (go_at_call 68; refine Calls.mono cn ?_; rintro e W1 ⟨rfl, rfl⟩) | fail)
        go_region_held3 (fun w' => w'.cell? ⟨b, off + i * 4, none⟩ = some (.int .u32 (tn : Int)) ∧ w'.cell? ⟨b, off + i * 4 + 1, none⟩ = some (.int .i64 vv) ∧ w'.cell? ⟨b, off + i * 4 + 2, none⟩ = some (.int .i64 z) ∧ w'.cell? ⟨b, off + i * 4 + 3, none⟩ = some (.string s)) (first | (go_keep; done) | exact ⟨by assumption, by assumption, by assumption, by assumption⟩) (first | (go_at_call 69; refine Calls.mono (H0.out _ (Below.refl _ _).drew) ?_; rintro e W2 ⟨u2, rfl, ho2, hb2⟩; have g0 : W2.cell? ⟨b, off + i * 4, none⟩ = some (.int .u32 (tn : Int)) := (World.cell?_of_block (hb2.out.b.block b HP.out.lt)).trans e0; have g1 : W2.cell? ⟨b, off + i * 4 + 1, none⟩ = some (.int .i64 vv) := (World.cell?_of_block (hb2.out.b.block b HP.out.lt)).trans e1; have g2 : W2.cell? ⟨b, off + i * 4 + 2, none⟩ = some (.int .i64 z) := (World.cell?_of_block (hb2.out.b.block b HP.out.lt)).trans e2; have g3 : W2.cell? ⟨b, off + i * 4 + 3, none⟩ = some (.string s) := (World.cell?_of_block (hb2.out.b.block b HP.out.lt)).trans e3))
        have HR : Hid _ := HNX.out u2 W2 ho2.out ((By.of (Below.refl _ _).drew (Nat.le_trans HP.out.hb HI.out.2.2.2.2.size)).trans hb2.out)
        clear ho2 hb2 g0 g1 g2 g3 HNX H0
        go_wp2
        go_roundw
        case rel => exact ⟨i + 1, _, by go_num, hxn, HR.out⟩
        case measure => simp [intOf]; omega
      · have hce' : ¬ (cap : Int) = (i : Int) + 1 := by omega
        go_wp2_with (first | (go_at_call 68; refine Calls.mono cn ?_; rintro e W1 ⟨rfl, rfl⟩) | fail)
        go_region_held3 (fun w' => w'.cell? ⟨b, off + i * 4, none⟩ = some (.int .u32 (tn : Int)) ∧ w'.cell? ⟨b, off + i * 4 + 1, none⟩ = some (.int .i64 vv) ∧ w'.cell? ⟨b, off + i * 4 + 2, none⟩ = some (.int .i64 z) ∧ w'.cell? ⟨b, off + i * 4 + 3, none⟩ = some (.string s)) (first | (go_keep; done) | exact ⟨by assumption, by assumption, by assumption, by assumption⟩) (first | (go_at_call 69; refine Calls.mono (HONE.out _ _ _ (Below.refl _ _).drew (fun _ => rfl) rfl) ?_; rintro e W2 ⟨u2, rfl, ho2, hb2⟩; have g0 : W2.cell? ⟨b, off + i * 4, none⟩ = some (.int .u32 (tn : Int)) := (World.cell?_of_block (hb2.out.b.block b HP.out.lt)).trans e0; have g1 : W2.cell? ⟨b, off + i * 4 + 1, none⟩ = some (.int .i64 vv) := (World.cell?_of_block (hb2.out.b.block b HP.out.lt)).trans e1; have g2 : W2.cell? ⟨b, off + i * 4 + 2, none⟩ = some (.int .i64 z) := (World.cell?_of_block (hb2.out.b.block b HP.out.lt)).trans e2; have g3 : W2.cell? ⟨b, off + i * 4 + 3, none⟩ = some (.string s) := (World.cell?_of_block (hb2.out.b.block b HP.out.lt)).trans e3))
        have HR : Hid _ := HNX.out u2 W2 ho2.out ((By.of (Below.refl _ _).drew (Nat.le_trans HP.out.hb HI.out.2.2.2.2.size)).trans hb2.out)
        clear ho2 hb2 g0 g1 g2 g3 HNX HONE
        go_wp2
        go_roundw
        case rel => exact ⟨x, _, rfl, hxn, HR.out⟩
        case measure => simp [intOf]; omega
    · obtain rfl : i = n := by omega
      have hltI : ¬ (i : Int) < (i : Int) := by omega
      have HE : Hid (Z = ys ++ encE.wP L) := by
        have := HI.out.2.2.1
        rw [sub_nil (by rw [← HN.out]; exact Nat.le_refl _)] at this
        rw [← this]
        exact (List.append_nil Z).symm
      go_wp2
      go_ret
      exact ⟨_, rfl, by rw [← HE.out]; exact HI.out.2.1, HI.out.2.2.2.2⟩
set_option maxRecDepth 100000 in
theorem wrE_zero : WrE 0 := by
  intro W base b off n cap L v ys hL hP
  obtain rfl : L = [] := List.length_eq_zero_iff.1 (by omega)
  obtain rfl : n = 0 := hP.nv.len
  have HP : Hid (WrP encE base b off 0 cap [] v ys W) := hP
  clear hP hL
  go_enter Tryz.func41, Tryz.ntmps41
  go_wp2
  refine wp_loop_rounds 1 ?_
  rw [rounds_succ]
  go_wp2
  go_ret
  refine ⟨_, rfl, ?_, By.refl _ _⟩
  rw [show encE.wP [] = [] from rfl, List.append_nil]
  exact HP.out.own
theorem wrE_any : ∀ m, WrE m
  | 0 => wrE_zero
  | m + 1 => wrE_step m (wrE_any m)
end Go.Proofs.YtoikdpjjcnmgeaaGreatDoor
