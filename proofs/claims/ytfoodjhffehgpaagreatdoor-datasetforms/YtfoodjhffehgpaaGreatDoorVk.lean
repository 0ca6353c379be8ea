import Derived.Test.YtfoodjhffehgpaaGreatDoorBi
import Derived.Test.YtfoodjhffehgpaaGreatDoorIh
import Derived.Test.YtfoodjhffehgpaaGreatDoorGc
section
/-
  DERIVED. Nodes laid down, one behind the other: the program's.
-/
namespace Go.Proofs.YtfoodjhffehgpaaGreatDoor
open Go Go.Proofs Go.RowKit
open Wk (Nd NV goN nxt)

theorem TagsOk.sub {L : List Nd} (h : TagsOk L) (i e : Nat) : TagsOk (sub L i e) := fun x hx => h x (sub_mem hx)
theorem Good.sub {L : List Nd} (h : Good L) (i e : Nat) : Good (sub L i e) := fun x hx => h x (sub_mem hx)
set_option maxRecDepth 100000 in
set_option maxHeartbeats 4000000 in
theorem wrI_step (m : Nat) (hw : WrI m) : WrI (m + 1) := by
  intro W base b off n cap L v ys hL hP
  have HP : Hid (WrP encI base b off n cap L v ys W) := hP
  have HW : Hid (WrI m) := hw
  have HL : Hid (L.length ≤ m + 1) := hL
  have HN : Hid (n = L.length) := hP.nv.len
  have hroom := hP.nv.room
  have hn40 := hP.n40
  clear hP hw hL
  go_enter Tryz.func32, Tryz.ntmps32
  go_wp2
  go_loopw [0, 7] (fun x0 x7 wr => ∃ (i : Nat) (Z : List UInt8), x7 = .int .i64 (i : Int) ∧ i ≤ n ∧ Hid (Lev L i L.length ∧ Ob base wr x0 Z ∧ Z ++ encI.wP (sub L i L.length) = ys ++ encI.wP L ∧ Z.length + encI.szP (sub L i L.length) ≤ 3000000 ∧ By base W wr)) (fun _ x7 _ => n - (intOf x7).toNat)
  case atStart => exact ⟨0, ys, rfl, by omega, Lev.top L, HP.out.own, by rw [sub_all], by rw [sub_all]; exact HP.out.len, By.refl _ _⟩
  case round =>
    obtain ⟨i, Z, rfl, hin, HI⟩ := hrel
    by_cases hlt : i < n
    · have hltI : (i : Int) < (n : Int) := by omega
      have hlL : i < L.length := by rw [← HN.out]; exact hlt
      have hnv : NV wr (some ⟨b, off, none⟩) n cap L := NV.lo HP.out.nv HI.out.2.2.2.2.b HP.out.lt
      have cn := Wk.next_in wr (some ⟨b, off, none⟩) n cap i L hnv hlt (by omega)
      obtain ⟨h1, h2, h3, h4, -⟩ := HI.out.1.next hlL (Nat.le_refl _)
      have HWP := encI.wP_next HI.out.1 hlL (Nat.le_refl _)
      have HSP := encI.szP_next HI.out.1 hlL (Nat.le_refl _)
      obtain ⟨b', off', hl, he, e0, e1, e2, e3⟩ := NV.cells hnv hlt
      cases he
      have htg := HP.out.tg _ (List.getElem_mem hl)
      obtain ⟨hvv, hss, -⟩ := HP.out.gd _ (List.getElem_mem hl)
      obtain ⟨x, hx⟩ : ∃ x, nxt L i = x := ⟨_, rfl⟩
      rw [hx] at cn h1 h2 h3 h4 HWP HSP
      have hxn : x ≤ n := by rw [HN.out]; exact h1
      have hcut : ∀ zz, (i + 1 < x → zz = off + (i + 1) * 4) → NV wr (some ⟨b, zz, none⟩) (x - (i + 1)) (cap - (i + 1)) (sub L (i + 1) x) := fun zz hz => NV.part hnv (by omega) hxn zz hz
      have HCUT : Hid _ := hcut
      generalize hq : L[i]'hl = q at e0 e1 e2 e3 htg hvv hss HWP HSP
      obtain ⟨t, vv, z, s⟩ := q
      simp only at e0 e1 e2 e3 htg hvv hss
      obtain ⟨tn, rfl⟩ : ∃ tn : Nat, t = (tn : Int) := ⟨t.toNat, by omega⟩
      have htn : tn < 4294967296 := by omega
      have hsl : (sub L (i + 1) x).length ≤ m := by rw [sub_len h1]; have := HL.out; omega
      have hlen3 : Z.length + (encI.sz1 ⟨(tn : Int), vv, z, s⟩ + encI.szP (sub L (i + 1) x)) ≤ 3000000 := by have := HI.out.2.2.2.1; rw [HSP] at this; omega
      have HONE : Hid (∀ (X : World) (zz cc : Nat), Below wr.heap.size wr X → (i + 1 < x → zz = off + (i + 1) * 4) → cc = cap - (i + 1) → Calls Tryz.prog 50 #[u0, ndV (tn : Int) vv z s, .slice (some ⟨b, zz, none⟩) (x - (i + 1)) cc, .iface 98 (.agg #[])] X fun e W' => ∃ u, e = .returned u ∧ Hid (Ob base W' u (Z ++ oneBI ⟨(tn : Int), vv, z, s⟩ (sub L (i + 1) x))) ∧ Hid (By base X W')) := by
        intro X zz cc hX hz hcc
        subst hcc
        refine woI_of m HW.out X base b zz (x - (i + 1)) (cap - (i + 1)) (sub L (i + 1) x) u0 Z hsl ⟨(hcut zz hz).on hX, HP.out.lt, TagsOk.sub HP.out.tg _ _, Good.sub HP.out.gd _ _, by omega, by omega, HI.out.2.1.on hX, Nat.le_trans (Nat.le_trans HP.out.hb HI.out.2.2.2.2.size) hX.size⟩ tn htn vv z s hvv hss hlen3
      have HNX : Hid (∀ u W', Ob base W' u (Z ++ oneBI ⟨(tn : Int), vv, z, s⟩ (sub L (i + 1) x)) → By base wr W' → Lev L x L.length ∧ Ob base W' u (Z ++ oneBI ⟨(tn : Int), vv, z, s⟩ (sub L (i + 1) x)) ∧ (Z ++ oneBI ⟨(tn : Int), vv, z, s⟩ (sub L (i + 1) x)) ++ encI.wP (sub L x L.length) = ys ++ encI.wP L ∧ (Z ++ oneBI ⟨(tn : Int), vv, z, s⟩ (sub L (i + 1) x)).length + encI.szP (sub L x L.length) ≤ 3000000 ∧ By base W W') := by
        intro u W' ho hb
        have hone : (oneBI ⟨(tn : Int), vv, z, s⟩ (sub L (i + 1) x)).length = encI.sz1 ⟨(tn : Int), vv, z, s⟩ + encI.szP (sub L (i + 1) x) := by
          have hdl : ∀ q, (encI.hd ⟨(tn : Int), vv, z, s⟩ q).length = encI.hs ⟨(tn : Int), vv, z, s⟩ := hd_len false (a := ⟨(tn : Int), vv, z, s⟩) hvv
          unfold oneBI Enc.sz1
          simp only [List.length_append]
          rw [hdl, show (encI.wP (sub L (i + 1) x)).length = encI.szP (sub L (i + 1) x) from wr_len false _ _ (Nat.le_refl _) (Good.sub HP.out.gd _ _)]
          split
          · rw [show encI.em.length = 8 from plL_len _ _]; omega
          · simp only [List.length_nil]; omega
        refine ⟨h4, ho, ?_, ?_, HI.out.2.2.2.2.trans hb⟩
        · rw [← HI.out.2.2.1, HWP]
          unfold oneBI
          simp only [List.append_assoc]
        · have := HI.out.2.2.2.1
          rw [HSP] at this
          rw [List.length_append, hone]
          omega
      have hxi : ((x - (i + 1) : Nat) : Int) = (x : Int) - ((i : Int) + 1) := by omega
      have f0 : (0 : Int) ≤ (i : Int) + 1 := by omega
      have f4 : IntKind.i64.wrap ((i : Int) + 1) = (i : Int) + 1 := Go.IntWalk.i64_in _ (by omega)
      have f1 : (i : Int) + 1 ≤ (x : Int) := by omega
      have f2 : (x : Int) ≤ (cap : Int) := by omega
      have f3 : (x : Int) ≤ (n : Int) := by omega
      clear hcut hsl hlen3 HWP HSP h3 h4 hq hnv htg hvv hss hlL hl hx
      by_cases hce : cap = i + 1
      · obtain rfl : x = i + 1 := by omega
        subst hce
        have H0 : Hid (∀ X : World, Below wr.heap.size wr X → Calls Tryz.prog 50 #[u0, ndV (tn : Int) vv z s, .slice (some ⟨b, off, none⟩) 0 0, .iface 98 (.agg #[])] X fun e W' => ∃ u, e = .returned u ∧ Hid (Ob base W' u (Z ++ oneBI ⟨(tn : Int), vv, z, s⟩ (sub L (i + 1) (i + 1)))) ∧ Hid (By base X W')) := by
          intro X hX
          have := HONE.out X off 0 hX (fun h => by omega) (by omega)
          rw [show i + 1 - (i + 1) = 0 by omega] at this
          exact this
        clear HONE
        go_wp2_with (first | (go_at_call 49; refine Calls.mono cn ?_; rintro e W1 ⟨rfl, rfl⟩) | fail)
        go_region_held3 (fun w' => w'.cell? ⟨b, off + i * 4, none⟩ = some (.int .u32 (tn : Int)) ∧ w'.cell? ⟨b, off + i * 4 + 1, none⟩ = some (.int .i64 vv) ∧ w'.cell? ⟨b, off + i * 4 + 2, none⟩ = some (.int .i64 z) ∧ w'.cell? ⟨b, off + i * 4 + 3, none⟩ = some (.string s)) (first | (go_keep; done) | exact ⟨by assumption, by assumption, by assumption, by assumption⟩) (first | (go_at_call 50; refine Calls.mono (H0.out _ (Below.refl _ _).drew) ?_; rintro e W2 ⟨u2, rfl, ho2, hb2⟩; have g0 : W2.cell? ⟨b, off + i * 4, none⟩ = some (.int .u32 (tn : Int)) := (World.cell?_of_block (hb2.out.b.block b HP.out.lt)).trans e0; have g1 : W2.cell? ⟨b, off + i * 4 + 1, none⟩ = some (.int .i64 vv) := (World.cell?_of_block (hb2.out.b.block b HP.out.lt)).trans e1; have g2 : W2.cell? ⟨b, off + i * 4 + 2, none⟩ = some (.int .i64 z) := (World.cell?_of_block (hb2.out.b.block b HP.out.lt)).trans e2; have g3 : W2.cell? ⟨b, off + i * 4 + 3, none⟩ = some (.string s) := (World.cell?_of_block (hb2.out.b.block b HP.out.lt)).trans e3))
        have HR : Hid _ := HNX.out u2 W2 ho2.out ((By.of (Below.refl _ _).drew (Nat.le_trans HP.out.hb HI.out.2.2.2.2.size)).trans hb2.out)
        clear ho2 hb2 g0 g1 g2 g3 HNX H0
        go_wp2
        go_roundw
        case rel => exact ⟨i + 1, _, by go_num, hxn, HR.out⟩
        case measure => simp [intOf]; omega
      · have hce' : ¬ (cap : Int) = (i : Int) + 1 := by omega
        go_wp2_with (first | (go_at_call 49; refine Calls.mono cn ?_; rintro e W1 ⟨rfl, rfl⟩) | fail)
        go_region_held3 (fun w' => w'.cell? ⟨b, off + i * 4, none⟩ = some (.int .u32 (tn : Int)) ∧ w'.cell? ⟨b, off + i * 4 + 1, none⟩ = some (.int .i64 vv) ∧ w'.cell? ⟨b, off + i * 4 + 2, none⟩ = some (.int .i64 z) ∧ w'.cell? ⟨b, off + i * 4 + 3, none⟩ = some (.string s)) (first | (go_keep; done) | exact ⟨by assumption, by assumption, by assumption, by assumption⟩) (first | (go_at_call 50; refine Calls.mono (HONE.out _ _ _ (Below.refl _ _).drew (fun _ => rfl) rfl) ?_; rintro e W2 ⟨u2, rfl, ho2, hb2⟩; have g0 : W2.cell? ⟨b, off + i * 4, none⟩ = some (.int .u32 (tn : Int)) := (World.cell?_of_block (hb2.out.b.block b HP.out.lt)).trans e0; have g1 : W2.cell? ⟨b, off + i * 4 + 1, none⟩ = some (.int .i64 vv) := (World.cell?_of_block (hb2.out.b.block b HP.out.lt)).trans e1; have g2 : W2.cell? ⟨b, off + i * 4 + 2, none⟩ = some (.int .i64 z) := (World.cell?_of_block (hb2.out.b.block b HP.out.lt)).trans e2; have g3 : W2.cell? ⟨b, off + i * 4 + 3, none⟩ = some (.string s) := (World.cell?_of_block (hb2.out.b.block b HP.out.lt)).trans e3))
        have HR : Hid _ := HNX.out u2 W2 ho2.out ((By.of (Below.refl _ _).drew (Nat.le_trans HP.out.hb HI.out.2.2.2.2.size)).trans hb2.out)
        clear ho2 hb2 g0 g1 g2 g3 HNX HONE
        go_wp2
        go_roundw
        case rel => exact ⟨x, _, rfl, hxn, HR.out⟩
        case measure => simp [intOf]; omega
    · obtain rfl : i = n := by omega
      have hltI : ¬ (i : Int) < (i : Int) := by omega
      have HE : Hid (Z = ys ++ encI.wP L) := by
        have := HI.out.2.2.1
        rw [sub_nil (by rw [← HN.out]; exact Nat.le_refl _)] at this
        rw [← this]
        exact (List.append_nil Z).symm
      go_wp2
      go_ret
      exact ⟨_, rfl, by rw [← HE.out]; exact HI.out.2.1, HI.out.2.2.2.2⟩
set_option maxRecDepth 100000 in
theorem wrI_zero : WrI 0 := by
  intro W base b off n cap L v ys hL hP
  obtain rfl : L = [] := List.length_eq_zero_iff.1 (by omega)
  obtain rfl : n = 0 := hP.nv.len
  have HP : Hid (WrP encI base b off 0 cap [] v ys W) := hP
  clear hP hL
  go_enter Tryz.func32, Tryz.ntmps32
  go_wp2
  refine wp_loop_rounds 1 ?_
  rw [rounds_succ]
  go_wp2
  go_ret
  refine ⟨_, rfl, ?_, By.refl _ _⟩
  rw [show encI.wP [] = [] from rfl, List.append_nil]
  exact HP.out.own
theorem wrI_any : ∀ m, WrI m
  | 0 => wrI_zero
  | m + 1 => wrI_step m (wrI_any m)
set_option maxRecDepth 100000 in
set_option maxHeartbeats 4000000 in
theorem wrE_step (m : Nat) (hw : WrE m) : WrE (m + 1) := by
  intro W base b off n cap L v ys hL hP
  have HP : Hid (WrP encE base b off n cap L v ys W) := hP
  have HW : Hid (WrE m) := hw
  have HL : Hid (L.length ≤ m + 1) := hL
  have HN : Hid (n = L.length) := hP.nv.len
  have hroom := hP.nv.room
  have hn40 := hP.n40
  clear hP hw hL
  go_enter Tryz.func32, Tryz.ntmps32
  go_wp2
  go_loopw [0, 7] (fun x0 x7 wr => ∃ (i : Nat) (Z : List UInt8), x7 = .int .i64 (i : Int) ∧ i ≤ n ∧ Hid (Lev L i L.length ∧ Ob base wr x0 Z ∧ Z ++ encE.wP (sub L i L.length) = ys ++ encE.wP L ∧ Z.length + encE.szP (sub L i L.length) ≤ 3000000 ∧ By base W wr)) (fun _ x7 _ => n - (intOf x7).toNat)
  case atStart => exact ⟨0, ys, rfl, by omega, Lev.top L, HP.out.own, by rw [sub_all], by rw [sub_all]; exact HP.out.len, By.refl _ _⟩
  case round =>
    obtain ⟨i, Z, rfl, hin, HI⟩ := hrel
    by_cases hlt : i < n
    · have hltI : (i : Int) < (n : Int) := by omega
      have hlL : i < L.length := by rw [← HN.out]; exact hlt
      have hnv : NV wr (some ⟨b, off, none⟩) n cap L := NV.lo HP.out.nv HI.out.2.2.2.2.b HP.out.lt
      have cn := Wk.next_in wr (some ⟨b, off, none⟩) n cap i L hnv hlt (by omega)
      obtain ⟨h1, h2, h3, h4, -⟩ := HI.out.1.next hlL (Nat.le_refl _)
      have HWP := encE.wP_next HI.out.1 hlL (Nat.le_refl _)
      have HSP := encE.szP_next HI.out.1 hlL (Nat.le_refl _)
      obtain ⟨b', off', hl, he, e0, e1, e2, e3⟩ := NV.cells hnv hlt
      cases he
      have htg := HP.out.tg _ (List.getElem_mem hl)
      obtain ⟨hvv, hss, -⟩ := HP.out.gd _ (List.getElem_mem hl)
      obtain ⟨x, hx⟩ : ∃ x, nxt L i = x := ⟨_, rfl⟩
      rw [hx] at cn h1 h2 h3 h4 HWP HSP
      have hxn : x ≤ n := by rw [HN.out]; exact h1
      have hcut : ∀ zz, (i + 1 < x → zz = off + (i + 1) * 4) → NV wr (some ⟨b, zz, none⟩) (x - (i + 1)) (cap - (i + 1)) (sub L (i + 1) x) := fun zz hz => NV.part hnv (by omega) hxn zz hz
      have HCUT : Hid _ := hcut
      generalize hq : L[i]'hl = q at e0 e1 e2 e3 htg hvv hss HWP HSP
      obtain ⟨t, vv, z, s⟩ := q
      simp only at e0 e1 e2 e3 htg hvv hss
      obtain ⟨tn, rfl⟩ : ∃ tn : Nat, t = (tn : Int) := ⟨t.toNat, by omega⟩
      have htn : tn < 4294967296 := by omega
      have hsl : (sub L (i + 1) x).length ≤ m := by rw [sub_len h1]; have := HL.out; omega
      have hlen3 : Z.length + (encE.sz1 ⟨(tn : Int), vv, z, s⟩ + encE.szP (sub L (i + 1) x)) ≤ 3000000 := by have := HI.out.2.2.2.1; rw [HSP] at this; omega
      have HONE : Hid (∀ (X : World) (zz cc : Nat), Below wr.heap.size wr X → (i + 1 < x → zz = off + (i + 1) * 4) → cc = cap - (i + 1) → Calls Tryz.prog 50 #[u0, ndV (tn : Int) vv z s, .slice (some ⟨b, zz, none⟩) (x - (i + 1)) cc, .iface 99 (.agg #[])] X fun e W' => ∃ u, e = .returned u ∧ Hid (Ob base W' u (Z ++ oneBE ⟨(tn : Int), vv, z, s⟩ (sub L (i + 1) x))) ∧ Hid (By base X W')) := by
        intro X zz cc hX hz hcc
        subst hcc
        refine woE_of m HW.out X base b zz (x - (i + 1)) (cap - (i + 1)) (sub L (i + 1) x) u0 Z hsl ⟨(hcut zz hz).on hX, HP.out.lt, TagsOk.sub HP.out.tg _ _, Good.sub HP.out.gd _ _, by omega, by omega, HI.out.2.1.on hX, Nat.le_trans (Nat.le_trans HP.out.hb HI.out.2.2.2.2.size) hX.size⟩ tn htn vv z s hvv hss hlen3
      have HNX : Hid (∀ u W', Ob base W' u (Z ++ oneBE ⟨(tn : Int), vv, z, s⟩ (sub L (i + 1) x)) → By base wr W' → Lev L x L.length ∧ Ob base W' u (Z ++ oneBE ⟨(tn : Int), vv, z, s⟩ (sub L (i + 1) x)) ∧ (Z ++ oneBE ⟨(tn : Int), vv, z, s⟩ (sub L (i + 1) x)) ++ encE.wP (sub L x L.length) = ys ++ encE.wP L ∧ (Z ++ oneBE ⟨(tn : Int), vv, z, s⟩ (sub L (i + 1) x)).length + encE.szP (sub L x L.length) ≤ 3000000 ∧ By base W W') := by
        intro u W' ho hb
        have hone : (oneBE ⟨(tn : Int), vv, z, s⟩ (sub L (i + 1) x)).length = encE.sz1 ⟨(tn : Int), vv, z, s⟩ + encE.szP (sub L (i + 1) x) := by
          have hdl : ∀ q, (encE.hd ⟨(tn : Int), vv, z, s⟩ q).length = encE.hs ⟨(tn : Int), vv, z, s⟩ := hd_len true (a := ⟨(tn : Int), vv, z, s⟩) hvv
          unfold oneBE Enc.sz1
          simp only [List.length_append]
          rw [hdl, show (encE.wP (sub L (i + 1) x)).length = encE.szP (sub L (i + 1) x) from wr_len true _ _ (Nat.le_refl _) (Good.sub HP.out.gd _ _)]
          split
          · rw [show encE.em.length = 8 from plL_len _ _]; omega
          · simp only [List.length_nil]; omega
        refine ⟨h4, ho, ?_, ?_, HI.out.2.2.2.2.trans hb⟩
        · rw [← HI.out.2.2.1, HWP]
          unfold oneBE
          simp only [List.append_assoc]
        · have := HI.out.2.2.2.1
          rw [HSP] at this
          rw [List.length_append, hone]
          omega
      have hxi : ((x - (i + 1) : Nat) : Int) = (x : Int) - ((i : Int) + 1) := by omega
      have f0 : (0 : Int) ≤ (i : Int) + 1 := by omega
      have f4 : IntKind.i64.wrap ((i : Int) + 1) = (i : Int) + 1 := Go.IntWalk.i64_in _ (by omega)
      have f1 : (i : Int) + 1 ≤ (x : Int) := by omega
      have f2 : (x : Int) ≤ (cap : Int) := by omega
      have f3 : (x : Int) ≤ (n : Int) := by omega
      clear hcut hsl hlen3 HWP HSP h3 h4 hq hnv htg hvv hss hlL hl hx
      by_cases hce : cap = i + 1
      · obtain rfl : x = i + 1 := by omega
        subst hce
        have H0 : Hid (∀ X : World, Below wr.heap.size wr X → Calls Tryz.prog 50 #[u0, ndV (tn : Int) vv z s, .slice (some ⟨b, off, none⟩) 0 0, .iface 99 (.agg #[])] X fun e W' => ∃ u, e = .returned u ∧ Hid (Ob base W' u (Z ++ oneBE ⟨(tn : Int), vv, z, s⟩ (sub L (i + 1) (i + 1)))) ∧ Hid (By base X W')) := by
          intro X hX
          have := HONE.out X off 0 hX (fun h => by omega) (by omega)
          rw [show i + 1 - (i + 1) = 0 by omega] at this
          exact this
        clear HONE
        go_wp2_with (first | (go_at_call 49; refine Calls.mono cn ?_; rintro e W1 ⟨rfl, rfl⟩) | fail)
        go_region_held3 (fun w' => w'.cell? ⟨b, off + i * 4, none⟩ = some (.int .u32 (tn : Int)) ∧ w'.cell? ⟨b, off + i * 4 + 1, none⟩ = some (.int .i64 vv) ∧ w'.cell? ⟨b, off + i * 4 + 2, none⟩ = some (.int .i64 z) ∧ w'.cell? ⟨b, off + i * 4 + 3, none⟩ = some (.string s)) (first | (go_keep; done) | exact ⟨by assumption, by assumption, by assumption, by assumption⟩) (first | (go_at_call 50; refine Calls.mono (H0.out _ (Below.refl _ _).drew) ?_; rintro e W2 ⟨u2, rfl, ho2, hb2⟩; have g0 : W2.cell? ⟨b, off + i * 4, none⟩ = some (.int .u32 (tn : Int)) := (World.cell?_of_block (hb2.out.b.block b HP.out.lt)).trans e0; have g1 : W2.cell? ⟨b, off + i * 4 + 1, none⟩ = some (.int .i64 vv) := (World.cell?_of_block (hb2.out.b.block b HP.out.lt)).trans e1; have g2 : W2.cell? ⟨b, off + i * 4 + 2, none⟩ = some (.int .i64 z) := (World.cell?_of_block (hb2.out.b.block b HP.out.lt)).trans e2; have g3 : W2.cell? ⟨b, off + i * 4 + 3, none⟩ = some (.string s) := (World.cell?_of_block (hb2.out.b.block b HP.out.lt)).trans e3))
        have HR : Hid _ := HNX.out u2 W2 ho2.out ((By.of (Below.refl _ _).drew (Nat.le_trans HP.out.hb HI.out.2.2.2.2.size)).trans hb2.out)
        clear ho2 hb2 g0 g1 g2 g3 HNX H0
        go_wp2
        go_roundw
        case rel => exact ⟨i + 1, _, by go_num, hxn, HR.out⟩
        case measure => simp [intOf]; omega
      · have hce' : ¬ (cap : Int) = (i : Int) + 1 := by omega
        go_wp2_with (first | (go_at_call 49; refine Calls.mono cn ?_; rintro e W1 ⟨rfl, rfl⟩) | fail)
        go_region_held3 (fun w' => w'.cell? ⟨b, off + i * 4, none⟩ = some (.int .u32 (tn : Int)) ∧ w'.cell? ⟨b, off + i * 4 + 1, none⟩ = some (.int .i64 vv) ∧ w'.cell? ⟨b, off + i * 4 + 2, none⟩ = some (.int .i64 z) ∧ w'.cell? ⟨b, off + i * 4 + 3, none⟩ = some (.string s)) (first | (go_keep; done) | exact ⟨by assumption, by assumption, by assumption, by assumption⟩) (first | (go_at_call 50; refine Calls.mono (HONE.out _ _ _ (Below.refl _ _).drew (fun _ => rfl) rfl) ?_; rintro e W2 ⟨u2, rfl, ho2, hb2⟩; have g0 : W2.cell? ⟨b, off + i * 4, none⟩ = some (.int .u32 (tn : Int)) := (World.cell?_of_block (hb2.out.b.block b HP.out.lt)).trans e0; have g1 : W2.cell? ⟨b, off + i * 4 + 1, none⟩ = some (.int .i64 vv) := (World.cell?_of_block (hb2.out.b.block b HP.out.lt)).trans e1; have g2 : W2.cell? ⟨b, off + i * 4 + 2, none⟩ = some (.int .i64 z) := (World.cell?_of_block (hb2.out.b.block b HP.out.lt)).trans e2; have g3 : W2.cell? ⟨b, off + i * 4 + 3, none⟩ = some (.string s) := (World.cell?_of_block (hb2.out.b.block b HP.out.lt)).trans e3))
        have HR : Hid _ := HNX.out u2 W2 ho2.out ((By.of (Below.refl _ _).drew (Nat.le_trans HP.out.hb HI.out.2.2.2.2.size)).trans hb2.out)
        clear ho2 hb2 g0 g1 g2 g3 HNX HONE
        go_wp2
        go_roundw
        case rel => exact ⟨x, _, rfl, hxn, HR.out⟩
        case measure => simp [intOf]; omega
    · obtain rfl : i = n := by omega
      have hltI : ¬ (i : Int) < (i : Int) := by omega
      have HE : Hid (Z = ys ++ encE.wP L) := by
        have := HI.out.2.2.1
        rw [sub_nil (by rw [← HN.out]; exact Nat.le_refl _)] at this
        rw [← this]
        exact (List.append_nil Z).symm
      go_wp2
      go_ret
      exact ⟨_, rfl, by rw [← HE.out]; exact HI.out.2.1, HI.out.2.2.2.2⟩
set_option maxRecDepth 100000 in
theorem wrE_zero : WrE 0 := by
  intro W base b off n cap L v ys hL hP
  obtain rfl : L = [] := List.length_eq_zero_iff.1 (by omega)
  obtain rfl : n = 0 := hP.nv.len
  have HP : Hid (WrP encE base b off 0 cap [] v ys W) := hP
  clear hP hL
  go_enter Tryz.func32, Tryz.ntmps32
  go_wp2
  refine wp_loop_rounds 1 ?_
  rw [rounds_succ]
  go_wp2
  go_ret
  refine ⟨_, rfl, ?_, By.refl _ _⟩
  rw [show encE.wP [] = [] from rfl, List.append_nil]
  exact HP.out.own
theorem wrE_any : ∀ m, WrE m
  | 0 => wrE_zero
  | m + 1 => wrE_step m (wrE_any m)
end Go.Proofs.YtfoodjhffehgpaaGreatDoor
end

section
/-
  DERIVED. Faults with one link; the size of a data set: the program's.
-/
namespace Go.Proofs.YtfoodjhffehgpaaGreatDoor
open Go Go.Proofs Go.RowKit
open Wk (Nd NV goN nxt)

/-- The syntax by its number. -/
def encS (s : Int) : Enc := encOf (decide (s = 2))
/-- What is refused. -/
def errOf (s : Int) (L : List Nd) : Option (List Lk × Int) :=
  if s ≠ 1 ∧ s ≠ 2 then some ([(dsB, 0)], 120)
  else if (res L).2 = false then some ([(dsB, ((res L).1 : Int)), (dcB, ((res L).1 : Int))], 5)
  else if 1048576 < (encS s).szP L then some ([(dsB, 1048576)], 121) else none
def siz (s : Int) (L : List Nd) : Nat := if (errOf s L).isSome = true then 0 else (encS s).szP L
def outB (s : Int) (L : List Nd) : List UInt8 := if (errOf s L).isSome = true then [] else (encS s).wP L
/-- The program's error. -/
def PErr (w : World) (v : Value) (o : Option (List Lk × Int)) : Prop := (o = none ∧ v = .nilIface) ∨ ∃ ls c, o = some (ls, c) ∧ Chain w ls c v
theorem PErr.on {w w' : World} {v : Value} {o : Option (List Lk × Int)} (h : PErr w v o) (hb : Below w.heap.size w w') : PErr w' v o := by
  rcases h with h | ⟨ls, c, h1, h2⟩
  · exact .inl h
  · exact .inr ⟨ls, c, h1, h2.on hb⟩
theorem err_bad {s : Int} {L : List Nd} (h : s ≠ 1 ∧ s ≠ 2) : errOf s L = some ([(dsB, 0)], 120) := by unfold errOf; rw [if_pos h]
theorem err_form {s : Int} {L : List Nd} (h : ¬ (s ≠ 1 ∧ s ≠ 2)) (hr : (res L).2 = false) : errOf s L = some ([(dsB, ((res L).1 : Int)), (dcB, ((res L).1 : Int))], 5) := by unfold errOf; rw [if_neg h, if_pos hr]
theorem err_long {s : Int} {L : List Nd} (h : ¬ (s ≠ 1 ∧ s ≠ 2)) (hr : (res L).2 = true) (hl : 1048576 < (encS s).szP L) : errOf s L = some ([(dsB, 1048576)], 121) := by unfold errOf; rw [if_neg h, if_neg (by rw [hr]; decide), if_pos hl]
theorem err_none {s : Int} {L : List Nd} (h : ¬ (s ≠ 1 ∧ s ≠ 2)) (hr : (res L).2 = true) (hl : ¬ 1048576 < (encS s).szP L) : errOf s L = none := by unfold errOf; rw [if_neg h, if_neg (by rw [hr]; decide), if_neg hl]
theorem res_wf {L : List Nd} (h : (res L).2 = true) : wf elemOk itemOk L.length false L := run_wf0 elem_n item_n L.length L 0 0 0 (Nat.le_refl _) h
theorem res_good {L : List Nd} (h : (res L).2 = true) : Good L := wf_good _ _ _ (res_wf h)

set_option maxRecDepth 100000 in
theorem refuseN_any (w : World) (a c : Int) : Calls Tryz.prog 27 #[.int .i64 a, .iface 74 (.int .i64 c)] w fun e w' => ∃ ve, e = .returned ve ∧ Hid (Chain w' [(dsB, a)] c ve) ∧ Hid (Below w.heap.size w w') := by
  go_enter Tryz.func27, Tryz.ntmps27
  go_wp2
  go_ret
  exact ⟨_, rfl, ⟨w.heap.size, _, rfl, by simp [dsB], by simp, by simp, rfl⟩, (Below.refl _ _).alloc (Nat.le_refl _) _⟩
set_option maxRecDepth 100000 in
theorem syntax_I (w : World) : Calls Tryz.prog 26 #[.int .i64 1] w fun e w' => e = .returned (.tuple #[.iface 98 (.agg #[]), .nilIface]) ∧ w = w' := by
  go_enter Tryz.func26, Tryz.ntmps26
  go_wp2
  exact bodyPost_ret (by simp [results, Tryz.results26, go_sem]) rfl ⟨rfl, rfl⟩
set_option maxRecDepth 100000 in
theorem syntax_E (w : World) : Calls Tryz.prog 26 #[.int .i64 2] w fun e w' => e = .returned (.tuple #[.iface 99 (.agg #[]), .nilIface]) ∧ w = w' := by
  go_enter Tryz.func26, Tryz.ntmps26
  go_wp2
  exact bodyPost_ret (by simp [results, Tryz.results26, go_sem]) rfl ⟨rfl, rfl⟩
set_option maxRecDepth 100000 in
theorem syntax_no (w : World) (s : Int) (h : s ≠ 1 ∧ s ≠ 2) : Calls Tryz.prog 26 #[.int .i64 s] w fun e w' => ∃ q, e = .returned (.tuple #[.nilIface, .iface 75 (.pointer (some ⟨q, 0, none⟩))]) ∧ Hid (Chain w' [(dsB, 0)] 120 (.iface 75 (.pointer (some ⟨q, 0, none⟩)))) ∧ Hid (Below w.heap.size w w') := by
  have b1 : (s == 1) = false := beq_eq_false_iff_ne.2 h.1
  have b2 : (s == 2) = false := beq_eq_false_iff_ne.2 h.2
  have c := refuseN_any w 0 120
  clear h
  go_enter Tryz.func26, Tryz.ntmps26
  go_wp2_with (go_at_call 27; refine StopB.out ?_)
  refine ⟨Calls.mono c ?_⟩
  rintro e W1 ⟨ve, rfl, hc, hb⟩
  obtain ⟨q, u, rfl, hr⟩ := hc.out
  clear hr
  go_wp2
  exact bodyPost_ret (v := .tuple #[.nilIface, .iface 75 (.pointer (some ⟨q, 0, none⟩))]) (by simp [results, Tryz.results26, go_sem]) rfl ⟨q, rfl, hc, hb⟩
end Go.Proofs.YtfoodjhffehgpaaGreatDoor
end

section
/-
  DERIVED. A node put behind the others.
-/
namespace Go.Proofs.YtfoodjhffehgpaaGreatDoor
open Go Go.Proofs Go.RowKit
open Wk (Nd nds)
open Go.Sort

/-- A row's value has its length. -/
theorem own_form {W : World} {base : Nat} {e : TypeId} {z : Nat} {v : Value} {n : Nat} {xs : List Value} (h : W.ownsRow base e z v n xs) : ∃ a cap, v = .slice a n cap ∧ (0 < n → ∃ g, a = some ⟨g, 0, none⟩ ∧ n ≤ cap) := by
  rcases h.2 with ⟨rfl, rfl⟩ | ⟨g, cap, cur, rfl, _, _, hc, _⟩
  · exact ⟨none, 0, rfl, fun h => absurd h (by omega)⟩
  · exact ⟨_, cap, rfl, fun _ => ⟨g, rfl, hc⟩⟩
/-- Heads in memory stay. -/
def Kp (w w' : World) : Prop := ∀ (g : Nat) (cur : Array Value), w.heap[g]? = some (Obj.cells cur 131) → w'.heap[g]? = w.heap[g]?
theorem Kp.trans {w w' w'' : World} (h : Kp w w') (h2 : Kp w' w'') : Kp w w'' := fun g cur hg => (h2 g cur ((h g cur hg).trans hg)).trans (h g cur hg)
theorem Kp.of {w w' : World} (h : Below w.heap.size w w') : Kp w w' := fun g _ hg => h.block g (Array.getElem?_eq_some_iff.1 hg).1
theorem Kp.grown {base : Nat} {W W1 : World} {e : TypeId} {z : Nat} {v : Value} {n : Nat} {xs : List Value} (ho : W.ownsRow base e z v n xs) (hg : W.grownBy W1 v.ownBlock) (he : e ≠ 131) : Kp W W1 := fun _ _ hc => grown_other ho hg hc (fun h => he h.symm)
theorem Kp.set {W : World} {rb i : Nat} {v : Value} {t : TypeId} (h : ∃ cs, W.heap[rb]? = some (Obj.cells cs t)) (ht : t ≠ 131) : Kp W (W.setCell ⟨rb, i, none⟩ v) := fun g cur hg => heap_setCell_other W ⟨rb, i, none⟩ g v (fun hc => by
  have hc : g = rb := hc
  obtain ⟨cs, h⟩ := h
  rw [hc, h] at hg
  cases hg
  exact ht rfl)
/-- What is told of a node that is put behind. -/
def AddP (base rb : Nat) (bv : Value) (w : World) (k : Nat) (M : List Nd) (M' : List Nd) (st : List Sp) (sv : Value) (e : Ending) (w' : World) : Prop :=
  (if M.length = 4096 then Pan w' k 127 e else e = .returned (.tuple #[]) ∧ ∃ nv', PR base rb bv w' k M' st nv' sv) ∧ Below base w w' ∧ Kp w w'

set_option maxRecDepth 100000 in
set_option maxHeartbeats 4000000 in
theorem add_none (w : World) (base rb : Nat) (bv : Value) (n k : Nat) (M : List Nd) (sp : Sp) (r : List Sp) (nv : Value) (g sc : Nat) (t : Int) (v : Int) (s : ByteArray) (hP : PR base rb bv w k M (sp :: r) nv (.slice (some ⟨g, 0, none⟩) (r.length + 1) sc)) (hI : PI n k M (sp :: r)) (hn : n ≤ 1048576) (hm : M.length ≠ 4096) (hnode : sp.node = none) :
    Calls Tryz.prog 69 #[.pointer (some ⟨rb, 0, none⟩), .agg #[.int .u32 t, .int .i64 v, .int .i64 0, .string s]] w (AddP base rb bv w k M (bump M sp.node 1 ++ [⟨t, v, 0, s⟩]) (sp :: r) (.slice (some ⟨g, 0, none⟩) (r.length + 1) sc)) := by
  obtain ⟨W0, hW0⟩ : ∃ W0, w.alloc (.cells #[.int .u32 t, .int .i64 v, .int .i64 0, .string s] 48) = W0 := ⟨_, rfl⟩
  have hb0 : Below w.heap.size w W0 := by rw [← hW0]; exact (Below.refl _ _).alloc (Nat.le_refl _) _
  have hP0 := hP.on hb0
  have y : W0.cell? ⟨w.heap.size, 0, none⟩ = some (.int .u32 t) ∧ W0.cell? ⟨w.heap.size, 1, none⟩ = some (.int .i64 v) ∧ W0.cell? ⟨w.heap.size, 2, none⟩ = some (.int .i64 0) ∧ W0.cell? ⟨w.heap.size, 3, none⟩ = some (.string s) := by
    rw [← hW0]; exact ⟨by simp, by simp, by simp, by simp⟩
  obtain ⟨y0, y1, y2, y3⟩ := y
  have hl := hI.ln
  obtain ⟨hk, hf⟩ := hI.le
  simp only [List.length_cons] at hl
  obtain ⟨na, ncap, rfl, hna⟩ := own_form hP.nd
  have hml := hI.mo.l
  have c2 := hP0.c2
  have cI := inner_any W0 rb g r.length sc (by omega) hP0.c3
  obtain ⟨s0, -⟩ := hP0.sc
  have b1 : ((M.length : Int) == 4096) = false := beq_eq_false_iff_ne.2 (by omega)
  have HP0 : Hid _ := hP0
  have HB : Hid (base ≤ w.heap.size) := hP.lt
  have HM : Hid (M.length ≠ 4096 ∧ M.length ≤ 4096) := ⟨hm, hml⟩
  have HMS : Hid (M.length ≠ 4096) := hm
  rw [hnode] at s0 ⊢
  obtain ⟨L, hL⟩ : ∃ L, M.length = L := ⟨_, rfl⟩
  obtain ⟨m, hmm⟩ : ∃ m, r.length = m := ⟨_, rfl⟩
  have HL : Hid _ := hL
  rw [hL] at c2 b1 HM HP0
  rw [hmm] at cI s0
  obtain ⟨i0, hi, hz0, hz1, hz2⟩ := info_parts Wk.info34
  clear hP hP0 hI hm hn hk hf hl hml hmm
  go_enter Tryz.func69, Tryz.ntmps69
  go_wp2_with (go_at_call 43; refine StopV.out ?_)
  refine ⟨Calls.mono cI ?_⟩
  rintro e W1 ⟨rfl, hb1⟩
  have s01 : W1.cell? ⟨g, m * 6, none⟩ = some (.int .i64 (-1)) := (hb1.cell (Rp.cell_lt s0)).trans s0
  have c21 := (hb1.cell (Rp.cell_lt c2)).trans c2
  have HP1 : Hid _ := HP0.out.on hb1
  have z0 := (hb1.cell (Rp.cell_lt y0)).trans y0
  have z1 := (hb1.cell (Rp.cell_lt y1)).trans y1
  have z2 := (hb1.cell (Rp.cell_lt y2)).trans y2
  have z3 := (hb1.cell (Rp.cell_lt y3)).trans y3
  clear y0 y1 y2 y3 s0 c2 cI HP0
  clear hna
  go_wp2
  have HW4 : Hid (∀ (X W4 : World) (g4 c4 : Nat), Below W1.heap.size W1 X → X.grownBy W4 (Value.slice na L ncap).ownBlock → W4.ownsRow base 48 4 (.slice (some ⟨g4, 0, none⟩) (L + 1) c4) (L + 1) (nds M ++ [.int .u32 t, .int .i64 v, .int .i64 0, .string s]) →
      W4.cell? ⟨rb, 2, none⟩ = some (.slice na L ncap) ∧ W4.frozen? ⟨rb, 2, none⟩ = false ∧ PR base rb bv (W4.setCell ⟨rb, 2, none⟩ (.slice (some ⟨g4, 0, none⟩) (L + 1) c4)) k (M ++ [⟨t, v, 0, s⟩]) (sp :: r) (.slice (some ⟨g4, 0, none⟩) (L + 1) c4) (.slice (some ⟨g, 0, none⟩) (r.length + 1) sc) ∧ Below base w (W4.setCell ⟨rb, 2, none⟩ (.slice (some ⟨g4, 0, none⟩) (L + 1) c4)) ∧ Kp w (W4.setCell ⟨rb, 2, none⟩ (.slice (some ⟨g4, 0, none⟩) (L + 1) c4))) := by
    intro X W4 g4 c4 hX hg ho
    have hPX := HP1.out.on hX
    have hn' : W4.ownsRow base 48 4 (.slice (some ⟨g4, 0, none⟩) (L + 1) c4) (M ++ [(⟨t, v, 0, s⟩ : Nd)]).length (nds (M ++ [(⟨t, v, 0, s⟩ : Nd)])) := by
      rw [List.length_append, HL.out, Wk.nds_append]
      exact ho
    obtain ⟨a, b, c⟩ := hPX.grownN hg hn' (by rw [List.length_append]; simp)
    have hbx : Below base w X := ((hb0.mono HB.out).trans (hb1.mono (Nat.le_trans HB.out hb0.size))).trans (hX.mono HP1.out.lt)
    exact ⟨a, b, c, (hbx.trans (below_grown hPX.nd hg hPX.lt)).setCell (p := ⟨rb, 2, none⟩) hPX.hb _, ((((Kp.of hb0).trans (Kp.of hb1)).trans (Kp.of hX)).trans (Kp.grown hPX.nd hg (by decide))).trans (Kp.set (by obtain ⟨cs, ht⟩ := hPX.ty; exact ⟨cs, (grown_other hPX.nd hg ht (by decide)).trans ht⟩) (by decide))⟩
  have HO : Hid (∀ o, (W1.alloc o).ownsRow base 48 4 (.slice na L ncap) L (nds M)) := fun o => by
    have := HP1.out.nd
    rw [HL.out] at this
    exact World.ownsRow.alloc this o
  have HBS : Hid (∀ o, base ≤ (W1.alloc o).heap.size) := fun o => Nat.le_trans HP1.out.lt (by simp)
  have h63 : L + 1 ≤ maxLen := by have := HM.out.2; unfold maxLen; omega
  have hby : (L + 1) * 40 ≤ 140737488355328 := by have := HM.out.2; omega
  have c2a : ∀ o, (W1.alloc o).cell? ⟨rb, 2, none⟩ = some (.slice na L ncap) := fun o => (((Below.refl _ W1).alloc (Nat.le_refl _) o).cell (Rp.cell_lt c21)).trans c21
  clear hb1 s01 HP1
  go_region_law (go_loud (refine step_append_lies _ rfl (.tmp 35) (.tmp 37) 22 rfl base 48 i0 _ 4 40 Tryz.underlying22 hi hz0 hz1 hz2 rfl (by decide) (.slice na L ncap) L (nds M) (by simp [Act.eval]) (HO.out _) ⟨W1.heap.size, 0, none⟩ 1 1 [.int .u32 t, .int .i64 v, .int .i64 0, .string s] (by simp [Act.eval]) rfl (World.news_of_block (heap_alloc_new W1 _)) (by intro u hu; simp at hu; rcases hu with rfl | rfl | rfl | rfl <;> rfl) (by decide) h63 hby (HBS.out _) _ rfl ?_; intro g4 c4 W4 hown4 hgrow4 hat4 hlt4; obtain ⟨q2, f2, HPN, HBN, HKN⟩ := HW4.out _ W4 g4 c4 (((Below.refl _ W1).alloc (Nat.le_refl _) _).drew) hgrow4 hown4; clear hown4 hgrow4 hat4 hlt4))
  all_goals exact bodyPost_end (results_none rfl _ _ _) rfl ⟨by rw [if_neg HMS.out]; exact ⟨rfl, _, HPN⟩, HBN, HKN⟩
set_option maxRecDepth 100000 in
set_option maxHeartbeats 4000000 in
theorem add_some (w : World) (base rb : Nat) (bv : Value) (n k : Nat) (M : List Nd) (sp : Sp) (r : List Sp) (nv : Value) (g sc : Nat) (t : Int) (v : Int) (s : ByteArray) (hP : PR base rb bv w k M (sp :: r) nv (.slice (some ⟨g, 0, none⟩) (r.length + 1) sc)) (hI : PI n k M (sp :: r)) (hn : n ≤ 1048576) (hm : M.length ≠ 4096) (p : Nat) (hnode : sp.node = some p) :
    Calls Tryz.prog 69 #[.pointer (some ⟨rb, 0, none⟩), .agg #[.int .u32 t, .int .i64 v, .int .i64 0, .string s]] w (AddP base rb bv w k M (bump M sp.node 1 ++ [⟨t, v, 0, s⟩]) (sp :: r) (.slice (some ⟨g, 0, none⟩) (r.length + 1) sc)) := by
  obtain ⟨W0, hW0⟩ : ∃ W0, w.alloc (.cells #[.int .u32 t, .int .i64 v, .int .i64 0, .string s] 48) = W0 := ⟨_, rfl⟩
  have hb0 : Below w.heap.size w W0 := by rw [← hW0]; exact (Below.refl _ _).alloc (Nat.le_refl _) _
  have hP0 := hP.on hb0
  have y : W0.cell? ⟨w.heap.size, 0, none⟩ = some (.int .u32 t) ∧ W0.cell? ⟨w.heap.size, 1, none⟩ = some (.int .i64 v) ∧ W0.cell? ⟨w.heap.size, 2, none⟩ = some (.int .i64 0) ∧ W0.cell? ⟨w.heap.size, 3, none⟩ = some (.string s) := by
    rw [← hW0]; exact ⟨by simp, by simp, by simp, by simp⟩
  obtain ⟨y0, y1, y2, y3⟩ := y
  have hl := hI.ln
  obtain ⟨hk, hf⟩ := hI.le
  simp only [List.length_cons] at hl
  obtain ⟨na, ncap, rfl, hna⟩ := own_form hP.nd
  have hml := hI.mo.l
  have c2 := hP0.c2
  have cI := inner_any W0 rb g r.length sc (by omega) hP0.c3
  obtain ⟨s0, -⟩ := hP0.sc
  have b1 : ((M.length : Int) == 4096) = false := beq_eq_false_iff_ne.2 (by omega)
  have HP0 : Hid _ := hP0
  have HB : Hid (base ≤ w.heap.size) := hP.lt
  have HM : Hid (M.length ≠ 4096 ∧ M.length ≤ 4096) := ⟨hm, hml⟩
  have HMS : Hid (M.length ≠ 4096) := hm
  rw [hnode] at s0 ⊢
  have hp := hI.nd sp List.mem_cons_self p hnode
  obtain ⟨gn, rfl, hnc⟩ := hna (by omega)
  have hnp := hI.mo.a (M[p]'hp) (List.getElem_mem hp)
  have hn0 := hnp.n0
  have hn1 := hnp.n1
  obtain ⟨z, hz⟩ : ∃ z, (M[p]'hp).n = z := ⟨_, rfl⟩
  have d2 : W0.cell? ⟨gn, p * 4 + 2, none⟩ = some (.int .i64 z) := by
    have := (World.ownsRow.cellAt hP0.nd (p * 4 + 2) (by omega)).trans (Wk.nds_get M p hp 2 (by decide))
    rw [this, ← hz]
    rfl
  have fn := World.ownsRow.frozenAt hP0.nd (p * 4 + 2)
  have HBM : Hid (bump M (some p) 1 = M.set p { (M[p]'hp) with n := (M[p]'hp).n + 1 }) := bump_set hp
  have HNE : Hid (gn ≠ w.heap.size) := Nat.ne_of_lt (World.ownsRow.lt hP.nd gn rfl).2
  have HDN : Hid (∀ W, PR base rb bv W k M (sp :: r) (.slice (some ⟨gn, 0, none⟩) M.length ncap) (.slice (some ⟨g, 0, none⟩) (r.length + 1) sc) → PR base rb bv (W.setCell ⟨gn, p * 4 + 2, none⟩ (.int .i64 (z + 1))) k (bump M (some p) 1) (sp :: r) (.slice (some ⟨gn, 0, none⟩) M.length ncap) (.slice (some ⟨g, 0, none⟩) (r.length + 1) sc) ∧ Below base W (W.setCell ⟨gn, p * 4 + 2, none⟩ (.int .i64 (z + 1))) ∧ Kp W (W.setCell ⟨gn, p * 4 + 2, none⟩ (.int .i64 (z + 1)))) := fun W hW => by
    obtain ⟨a, b⟩ := World.ownsRow.stored hW.nd (p * 4 + 2) (.int .i64 (z + 1))
    rw [nds_setN' M p hp (z + 1), ← hz, ← HBM.out] at a
    refine ⟨hW.keepN (by rw [← hz] at b; exact hz ▸ b) (by rw [bump_len, ← hz]; exact a) (bump_len _ _ _), below_grown hW.nd b hW.lt, Kp.grown hW.nd b (by decide)⟩
  rw [hz] at hn0 hn1
  obtain ⟨L, hL⟩ : ∃ L, M.length = L := ⟨_, rfl⟩
  obtain ⟨m, hmm⟩ : ∃ m, r.length = m := ⟨_, rfl⟩
  have HL : Hid _ := hL
  rw [hL] at c2 b1 HM HP0 HDN hp hnc hn1
  rw [hmm] at cI s0
  obtain ⟨i0, hi, hz0, hz1, hz2⟩ := info_parts Wk.info34
  clear hP hP0 hI hm hn hk hf hl hml hmm
  go_enter Tryz.func69, Tryz.ntmps69
  go_wp2_with (go_at_call 43; refine StopV.out ?_)
  refine ⟨Calls.mono cI ?_⟩
  rintro e W1 ⟨rfl, hb1⟩
  have s01 : W1.cell? ⟨g, m * 6, none⟩ = some (.int .i64 (p : Int)) := (hb1.cell (Rp.cell_lt s0)).trans s0
  have c21 := (hb1.cell (Rp.cell_lt c2)).trans c2
  have HP1 : Hid _ := HP0.out.on hb1
  have z0 := (hb1.cell (Rp.cell_lt y0)).trans y0
  have z1 := (hb1.cell (Rp.cell_lt y1)).trans y1
  have z2 := (hb1.cell (Rp.cell_lt y2)).trans y2
  have z3 := (hb1.cell (Rp.cell_lt y3)).trans y3
  clear y0 y1 y2 y3 s0 c2 cI HP0
  have d21 := (hb1.cell (Rp.cell_lt d2)).trans d2
  have fn1 : W1.frozen? ⟨gn, p * 4 + 2, none⟩ = false := (hb1.frozen (p := ⟨gn, p * 4 + 2, none⟩) (Rp.cell_lt d2)).trans fn
  obtain ⟨W2, hW2⟩ : ∃ W2, W1.setCell ⟨gn, p * 4 + 2, none⟩ (.int .i64 (z + 1)) = W2 := ⟨_, rfl⟩
  have hwz : IntKind.i64.wrap (z + 1) = z + 1 := by rw [IntKind.wrap_i64]; have := HM.out.2; omega
  have hpL : (p : Int) < (L : Int) := by omega
  have hpi : ((p : Int) == -1) = false := beq_eq_false_iff_ne.2 (by omega)
  have hpi2 : ((p : Int) != -1) = true := bne_iff_ne.2 (by omega)
  have HP2 : Hid (PR base rb bv W2 k (bump M (some p) 1) (sp :: r) (.slice (some ⟨gn, 0, none⟩) L ncap) (.slice (some ⟨g, 0, none⟩) (r.length + 1) sc)) := by rw [← hW2]; exact (HDN.out W1 HP1.out).1
  have HB2 : Hid (Below base W1 W2) := by rw [← hW2]; exact (HDN.out W1 HP1.out).2.1
  have HK2 : Hid (Kp W1 W2) := by rw [← hW2]; exact (HDN.out W1 HP1.out).2.2
  have HL2 : Hid ((bump M (some p) 1).length = L) := by show _ = _; rw [bump_len, HL.out]
  have c22 := HP2.out.c2
  have x0 : W2.cell? ⟨w.heap.size, 0, none⟩ = some (.int .u32 t) := by rw [← hW2]; exact (Rp.cell_set_off HNE.out).trans z0
  have x1 : W2.cell? ⟨w.heap.size, 1, none⟩ = some (.int .i64 v) := by rw [← hW2]; exact (Rp.cell_set_off HNE.out).trans z1
  have x2 : W2.cell? ⟨w.heap.size, 2, none⟩ = some (.int .i64 0) := by rw [← hW2]; exact (Rp.cell_set_off HNE.out).trans z2
  have x3 : W2.cell? ⟨w.heap.size, 3, none⟩ = some (.string s) := by rw [← hW2]; exact (Rp.cell_set_off HNE.out).trans z3
  clear d2 fn HDN hp hnc hn1 hn0 hnode HBM
  obtain ⟨M1, hM1⟩ : ∃ M1, bump M (some p) 1 = M1 := ⟨_, rfl⟩
  have HM1 : Hid _ := hM1
  rw [hM1] at HP2 HL2
  clear hM1
  go_wp2
  have HW4 : Hid (∀ (X W4 : World) (g4 c4 : Nat), Below W2.heap.size W2 X → X.grownBy W4 (Value.slice (some ⟨gn, 0, none⟩) L ncap).ownBlock → W4.ownsRow base 48 4 (.slice (some ⟨g4, 0, none⟩) (L + 1) c4) (L + 1) (nds M1 ++ [.int .u32 t, .int .i64 v, .int .i64 0, .string s]) →
      W4.cell? ⟨rb, 2, none⟩ = some (.slice (some ⟨gn, 0, none⟩) L ncap) ∧ W4.frozen? ⟨rb, 2, none⟩ = false ∧ PR base rb bv (W4.setCell ⟨rb, 2, none⟩ (.slice (some ⟨g4, 0, none⟩) (L + 1) c4)) k (M1 ++ [⟨t, v, 0, s⟩]) (sp :: r) (.slice (some ⟨g4, 0, none⟩) (L + 1) c4) (.slice (some ⟨g, 0, none⟩) (r.length + 1) sc) ∧ Below base w (W4.setCell ⟨rb, 2, none⟩ (.slice (some ⟨g4, 0, none⟩) (L + 1) c4)) ∧ Kp w (W4.setCell ⟨rb, 2, none⟩ (.slice (some ⟨g4, 0, none⟩) (L + 1) c4))) := by
    intro X W4 g4 c4 hX hg ho
    have hPX := HP2.out.on hX
    have hn' : W4.ownsRow base 48 4 (.slice (some ⟨g4, 0, none⟩) (L + 1) c4) (M1 ++ [(⟨t, v, 0, s⟩ : Nd)]).length (nds (M1 ++ [(⟨t, v, 0, s⟩ : Nd)])) := by
      rw [List.length_append, HL2.out, Wk.nds_append]
      exact ho
    obtain ⟨a, b, c⟩ := hPX.grownN hg hn' (by rw [List.length_append]; simp)
    have hbx : Below base w X := (((hb0.mono HB.out).trans (hb1.mono (Nat.le_trans HB.out hb0.size))).trans HB2.out).trans (hX.mono HP2.out.lt)
    exact ⟨a, b, c, (hbx.trans (below_grown hPX.nd hg hPX.lt)).setCell (p := ⟨rb, 2, none⟩) hPX.hb _, (((((Kp.of hb0).trans (Kp.of hb1)).trans HK2.out).trans (Kp.of hX)).trans (Kp.grown hPX.nd hg (by decide))).trans (Kp.set (by obtain ⟨cs, ht⟩ := hPX.ty; exact ⟨cs, (grown_other hPX.nd hg ht (by decide)).trans ht⟩) (by decide))⟩
  have HO : Hid (∀ o, (W2.alloc o).ownsRow base 48 4 (.slice (some ⟨gn, 0, none⟩) L ncap) L (nds M1)) := fun o => by
    have := HP2.out.nd
    rw [HL2.out] at this
    exact World.ownsRow.alloc this o
  have HBS : Hid (∀ o, base ≤ (W2.alloc o).heap.size) := fun o => Nat.le_trans HP2.out.lt (by simp)
  have h63 : L + 1 ≤ maxLen := by have := HM.out.2; unfold maxLen; omega
  have hby : (L + 1) * 40 ≤ 140737488355328 := by have := HM.out.2; omega
  have c2a : ∀ o, (W2.alloc o).cell? ⟨rb, 2, none⟩ = some (.slice (some ⟨gn, 0, none⟩) L ncap) := fun o => (((Below.refl _ W2).alloc (Nat.le_refl _) o).cell (Rp.cell_lt c22)).trans c22
  clear hb1 s01 HP1 HP2 HB2 HK2 d21 fn1 z0 z1 z2 z3 hW2
  go_region_law (go_loud (refine step_append_lies _ rfl (.tmp 35) (.tmp 37) 22 rfl base 48 i0 _ 4 40 Tryz.underlying22 hi hz0 hz1 hz2 rfl (by decide) (.slice (some ⟨gn, 0, none⟩) L ncap) L (nds M1) (by simp [Act.eval]) (HO.out _) ⟨W2.heap.size, 0, none⟩ 1 1 [.int .u32 t, .int .i64 v, .int .i64 0, .string s] (by simp [Act.eval]) rfl (World.news_of_block (heap_alloc_new W2 _)) (by intro u hu; simp at hu; rcases hu with rfl | rfl | rfl | rfl <;> rfl) (by decide) h63 hby (HBS.out _) _ rfl ?_; intro g4 c4 W4 hown4 hgrow4 hat4 hlt4; obtain ⟨q2, f2, HPN, HBN, HKN⟩ := HW4.out _ W4 g4 c4 (((Below.refl _ W2).alloc (Nat.le_refl _) _).drew) hgrow4 hown4; clear hown4 hgrow4 hat4 hlt4))
  all_goals exact bodyPost_end (results_none rfl _ _ _) rfl ⟨by rw [if_neg HMS.out, HM1.out]; exact ⟨rfl, _, HPN⟩, HBN, HKN⟩
set_option maxRecDepth 100000 in
set_option maxHeartbeats 4000000 in
theorem add_full (w : World) (base rb : Nat) (bv : Value) (k : Nat) (M : List Nd) (sp : Sp) (r : List Sp) (nv : Value) (g sc : Nat) (t : Int) (v : Int) (s : ByteArray) (hP : PR base rb bv w k M (sp :: r) nv (.slice (some ⟨g, 0, none⟩) (r.length + 1) sc)) (hm : M.length = 4096) :
    Calls Tryz.prog 69 #[.pointer (some ⟨rb, 0, none⟩), .agg #[.int .u32 t, .int .i64 v, .int .i64 0, .string s]] w (AddP base rb bv w k M (bump M sp.node 1 ++ [⟨t, v, 0, s⟩]) (sp :: r) (.slice (some ⟨g, 0, none⟩) (r.length + 1) sc)) := by
  obtain ⟨W0, hW0⟩ : ∃ W0, w.alloc (.cells #[.int .u32 t, .int .i64 v, .int .i64 0, .string s] 48) = W0 := ⟨_, rfl⟩
  have hb0 : Below w.heap.size w W0 := by rw [← hW0]; exact (Below.refl _ _).alloc (Nat.le_refl _) _
  have hP0 := hP.on hb0
  obtain ⟨na, ncap, rfl, hna⟩ := own_form hP.nd
  have c2 := hP0.c2
  have cG := giveUp_any W0 rb k 127 hP0.c1
  have HB : Hid (base ≤ w.heap.size) := hP.lt
  have HMS : Hid (M.length = 4096) := hm
  rw [hm] at c2
  clear hP hP0 hm hna
  go_enter Tryz.func69, Tryz.ntmps69
  go_wp2_with (go_at_call 65; refine StopV.out ?_)
  refine ⟨Calls.mono cG ?_⟩
  rintro e W2 ⟨⟨q, rfl, hc⟩, HB2⟩
  exact ⟨rfl, by rw [if_pos HMS.out]; exact ⟨q, rfl, hc⟩, (hb0.mono HB.out).trans (HB2.out.mono (Nat.le_trans HB.out hb0.size)), (Kp.of hb0).trans (Kp.of HB2.out)⟩
theorem add_any (w : World) (base rb : Nat) (bv : Value) (n k : Nat) (M : List Nd) (sp : Sp) (r : List Sp) (nv : Value) (g sc : Nat) (t : Int) (v : Int) (s : ByteArray) (hP : PR base rb bv w k M (sp :: r) nv (.slice (some ⟨g, 0, none⟩) (r.length + 1) sc)) (hI : PI n k M (sp :: r)) (hn : n ≤ 1048576) :
    Calls Tryz.prog 69 #[.pointer (some ⟨rb, 0, none⟩), .agg #[.int .u32 t, .int .i64 v, .int .i64 0, .string s]] w (AddP base rb bv w k M (bump M sp.node 1 ++ [⟨t, v, 0, s⟩]) (sp :: r) (.slice (some ⟨g, 0, none⟩) (r.length + 1) sc)) := by
  by_cases hm : M.length = 4096
  · exact add_full w base rb bv k M sp r nv g sc t v s hP hm
  · rcases hnode : sp.node with _ | p
    · have := add_none w base rb bv n k M sp r nv g sc t v s hP hI hn hm hnode
      rw [hnode] at this
      exact this
    · have := add_some w base rb bv n k M sp r nv g sc t v s hP hI hn hm p hnode
      rw [hnode] at this
      exact this
end Go.Proofs.YtfoodjhffehgpaaGreatDoor
end
