import Derived.Test.YtdggplhkeekdjaaGreatDoorNr
import Derived.Deep.Cut
import Derived.Deep.RegionWith
/-
  DERIVED. The program's New.
-/
namespace Go.Proofs.YtdggplhkeekdjaaGreatDoor.Ck
open Go Go.Proofs Go.RowKit

def scB : ByteArray := { data := #[115, 99, 117] }
set_option maxRecDepth 100000 in
theorem crefusal_new (w : World) (a c : Int) : Calls Tryz.prog 17 #[.int .i64 a, .iface 94 (.int .i64 c)] w fun e w' => ∃ q, e = .returned (.iface 115 (.pointer (some ⟨q, 0, none⟩))) ∧ Chain w' [(scB, a)] c (.iface 115 (.pointer (some ⟨q, 0, none⟩))) ∧ Below w.heap.size w w' ∧ w.heap.size ≤ q := by
  go_enter Tryz.func17, Tryz.ntmps17
  go_wp2
  go_ret
  exact ⟨_, rfl, ⟨_, _, rfl, by simp [scB], by simp, by simp, rfl⟩, (Below.refl _ _).alloc (Nat.le_refl _) _, Nat.le_refl _⟩
/-- What New leaves. -/
def NewP (w : World) (o : Option Int) (e : Ending) (w' : World) : Prop :=
  (match o with
   | none => ∃ q p m, e = .returned (.tuple #[.pointer (some ⟨q, 0, none⟩), .nilIface]) ∧ Nv.SpAt w' q p m ∧ w.heap.size ≤ q ∧ w.heap.size ≤ p ∧ w.heap.size ≤ m
   | some k => ∃ q, e = .returned (.tuple #[.pointer none, .iface 115 (.pointer (some ⟨q, 0, none⟩))]) ∧ Chain w' [(scB, k)] 340 (.iface 115 (.pointer (some ⟨q, 0, none⟩))) ∧ w.heap.size ≤ q) ∧ Below w.heap.size w w'
/-- The configuration's place, once its lists are copies. -/
def NewC (w : World) (B p : Nat) (t c : ByteArray) (mo ar : Int) (X : World) : Prop :=
  ∃ a' n' cp' b' m' dp', Bk X B #[.string t, .string c, .slice a' n' cp', .slice b' m' dp', .int .u32 mo, .int .i64 ar] 26 ∧ UpAt X p ar ∧ Below w.heap.size w X
theorem newC_fin {w X : World} {B p : Nat} {t c : ByteArray} {v2 v3 : Value} {mo ar : Int} {a' b' : Option Addr} {n' cp' m' dp' : Nat} (k : Bk X B #[.string t, .string c, v2, v3, .int .u32 mo, .int .i64 ar] 26) (hu : UpAt X p ar) (hb : Below w.heap.size w X) (hB : w.heap.size ≤ B) (hp : B < p) : NewC w B p t c mo ar ((X.setCell ⟨B, 2, none⟩ (.slice a' n' cp')).setCell ⟨B, 3, none⟩ (.slice b' m' dp')) := by
  have hne : B ≠ p := by omega
  refine ⟨a', n', cp', b', m', dp', (k.set 2 _).set 3 _, ⟨?_, ?_, ?_, ?_⟩, (hb.setCell (p := ⟨B, 2, none⟩) hB _).setCell (p := ⟨B, 3, none⟩) hB _⟩
  · exact (Nv.set_off hne).trans ((Nv.set_off hne).trans hu.c0)
  · exact (Nv.set_off hne).trans ((Nv.set_off hne).trans hu.c1)
  · exact (Nv.set_off hne).trans ((Nv.set_off hne).trans hu.c2)
  · exact (Nv.set_off hne).trans ((Nv.set_off hne).trans hu.c3)
set_option maxRecDepth 100000 in
set_option maxHeartbeats 8000000 in
theorem new_any (w : World) (t c : ByteArray) (ao bo : Option Addr) (n cp m dp : Nat) (mo ar : Int) (a1 a2 a3 a4 : Bool) (T : List ByteArray) (l : List Int) (hn : T.length = n) (hm : l.length = m) (hT : TxD w ao T) (hl : IxD w bo l)
    (hao : ao = none → n = 0 ∧ cp = 0) (hbo : bo = none → m = 0 ∧ dp = 0) (hN : n * 16 ≤ 140737488355328) (hM : m * 8 ≤ 140737488355328)
    (x1 : ∀ W, Below w.heap.size w W → Calls Tryz.prog 34 #[.string t] W fun e w' => e = .returned (.bool a1) ∧ Below W.heap.size W w')
    (x2 : ∀ W, Below w.heap.size w W → Calls Tryz.prog 34 #[.string c] W fun e w' => e = .returned (.bool a2) ∧ Below W.heap.size W w')
    (x3 : ∀ W, Below w.heap.size w W → Calls Tryz.prog 35 #[.slice ao n cp] W fun e w' => e = .returned (.bool a3) ∧ Below W.heap.size W w')
    (x4 : ∀ W, Below w.heap.size w W → Calls Tryz.prog 36 #[.slice bo m dp] W fun e w' => e = .returned (.bool a4) ∧ Below W.heap.size W w') :
    Calls Tryz.prog 9 #[.agg #[.string t, .string c, .slice ao n cp, .slice bo m dp, .int .u32 mo, .int .i64 ar]] w (NewP w (wsO a1 a2 a3 a4 mo ar)) := by
  have HT : Hid (TxD w ao T ∧ T.length = n ∧ n * 16 ≤ 140737488355328 ∧ (ao = none → n = 0 ∧ cp = 0)) := ⟨hT, hn, hN, hao⟩
  have HL : Hid (IxD w bo l ∧ l.length = m ∧ m * 8 ≤ 140737488355328 ∧ (bo = none → m = 0 ∧ dp = 0)) := ⟨hl, hm, hM, hbo⟩
  obtain ⟨W0, hW0⟩ : ∃ W0, w.alloc (.cells #[.string t, .string c, .slice ao n cp, .slice bo m dp, .int .u32 mo, .int .i64 ar] 26) = W0 := ⟨_, rfl⟩
  have hb0 : Below w.heap.size w W0 := hW0 ▸ (Below.refl _ _).alloc (Nat.le_refl _) _
  have hk0 : Bk W0 w.heap.size #[.string t, .string c, .slice ao n cp, .slice bo m dp, .int .u32 mo, .int .i64 ar] 26 := hW0 ▸ Bk.new _ _ _
  have c16 := wrongSetting_core W0 t c ao bo n cp m dp mo ar a1 a2 a3 a4 (fun W h => x1 W (hb0.trans (h.mono hb0.size))) (fun W h => x2 W (hb0.trans (h.mono hb0.size))) (fun W h => x3 W (hb0.trans (h.mono hb0.size))) (fun W h => x4 W (hb0.trans (h.mono hb0.size)))
  have HA : Hid (wsO a1 a2 a3 a4 mo ar = none → 1 ≤ ar ∧ ar ≤ 1000) := fun h => by
    unfold wsO at h
    repeat' split at h
    all_goals first | (cases h; done) | omega
  generalize wsO a1 a2 a3 a4 mo ar = O at *
  have z0 := hk0.cell (i := 0) (v := .string t) rfl
  have z1 := hk0.cell (i := 1) (v := .string c) rfl
  have z2 := hk0.cell (i := 2) (v := .slice ao n cp) rfl
  have z3 := hk0.cell (i := 3) (v := .slice bo m dp) rfl
  have z4 := hk0.cell (i := 4) (v := .int .u32 mo) rfl
  have z5 := hk0.cell (i := 5) (v := .int .i64 ar) rfl
  have K0 : Hid (Bk W0 w.heap.size #[.string t, .string c, .slice ao n cp, .slice bo m dp, .int .u32 mo, .int .i64 ar] 26 ∧ Below w.heap.size w W0) := ⟨hk0, hb0⟩
  clear hn hm hT hl hao hbo hN hM x1 x2 x3 x4 hb0 hk0
  have HC : Hid (Calls Tryz.prog 16 #[.agg #[.string t, .string c, .slice ao n cp, .slice bo m dp, .int .u32 mo, .int .i64 ar]] W0 fun e w' => e = .returned (wsV O) ∧ Below W0.heap.size W0 w') := c16
  clear c16
  go_enter Tryz.func9, Tryz.ntmps9
  go_wp2_with (go_at_call 16; refine Stop.mk ?_)
  refine Stop.out (HC.out.mono ?_)
  rintro e W1 ⟨rfl, hb1⟩
  have K1 : Hid (Bk W1 w.heap.size #[.string t, .string c, .slice ao n cp, .slice bo m dp, .int .u32 mo, .int .i64 ar] 26 ∧ Below w.heap.size w W1) := ⟨K0.out.1.on hb1, K0.out.2.trans (hb1.mono K0.out.2.size)⟩
  have c5 := K1.out.1.cell (i := 5) (v := .int .i64 ar) rfl
  clear hb1 HC K0 hW0 z0 z1 z2 z3 z4 z5
  cases O with
  | some k =>
    clear HA HT HL
    unfold wsV
    go_wp2_with (go_at_call 17; refine Stop.mk ?_)
    refine Stop.out ((crefusal_new _ k 340).mono ?_)
    rintro e W2 ⟨q, rfl, hq, hb2, hle⟩
    have HLE : Hid (w.heap.size ≤ q) := Nat.le_trans K1.out.2.size hle
    have HQ : Hid _ := hq
    have HB2 : Hid (Below w.heap.size w W2) := K1.out.2.trans (hb2.mono K1.out.2.size)
    clear hq hb2 c5 K1 hle
    go_wp2
    exact bodyPost_ret (v := .tuple #[.pointer none, .iface 115 (.pointer (some ⟨q, 0, none⟩))]) (by simp [results, Tryz.results9, go_sem]) rfl ⟨⟨q, rfl, HQ.out, HLE.out⟩, HB2.out⟩
  | none =>
    obtain ⟨j1, j2⟩ := HA.out rfl
    have HJ : Hid (1 ≤ ar ∧ ar ≤ 1000) := ⟨j1, j2⟩
    clear HA j1 j2
    unfold wsV
    go_wp2_with (go_at_call 18; refine Stop.mk ?_)
    refine Stop.out ((upperNew_ok _ ar HJ.out.1 HJ.out.2).mono ?_)
    rintro e W2 ⟨rfl, hu, hb2⟩
    have HLP : Hid (w.heap.size ≤ W1.heap.size) := K1.out.2.size
    have K2 : Hid (Bk W2 w.heap.size #[.string t, .string c, .slice ao n cp, .slice bo m dp, .int .u32 mo, .int .i64 ar] 26 ∧ Below w.heap.size w W2 ∧ UpAt W2 W1.heap.size ar ∧ w.heap.size < W1.heap.size) := ⟨K1.out.1.on hb2, K1.out.2.trans (hb2.mono K1.out.2.size), hu, K1.out.1.lt⟩
    clear hb2 hu K1 c5
    generalize W1.heap.size = p at *
    go_upto_region 5 with fail
    go_cut [] from 23 (fun wx => Hid (NewC w w.heap.size p t c mo ar wx))
    case first =>
      have k2 := K2.out.1
      have hb := K2.out.2.1
      have hu := K2.out.2.2.1
      have c2 := k2.cell (i := 2) (v := .slice ao n cp) rfl
      have c3 := k2.cell (i := 3) (v := .slice bo m dp) rfl
      have hp := K2.out.2.2.2
      clear K2
      go_region_with (first | (go_at_call 19; refine (cloneS_any _ ao n cp T HT.out.2.1 (HT.out.1.on hb.drew) HT.out.2.2.2 HT.out.2.2.1).mono ?_; rintro e W3 ⟨⟨a', n', cp', rfl⟩, hb3⟩; replace k2 := (Bk.on (X := W2.drew) k2 hb3); have r3 := k2.cell (i := 3) (v := .slice bo m dp) rfl; replace hu := UpAt.on (w := W2.drew) ⟨hu.c0, hu.c1, hu.c2, hu.c3⟩ hb3; replace hb := hb.drew.trans (hb3.mono hb.size)) | (go_at_call 20; refine (cloneI_any _ bo m dp l HL.out.2.1 (HL.out.1.on hb) HL.out.2.2.2 HL.out.2.2.1).mono ?_; rintro e W4 ⟨⟨b', m', dp', rfl⟩, hb4⟩; replace k2 := k2.on hb4; replace hu := hu.on hb4; replace hb := hb.trans (hb4.mono hb.size); have r2 := k2.cell (i := 2) (v := .slice ao n cp) rfl; have r4 := k2.cell (i := 3) (v := .slice bo m dp) rfl; have rf := k2.fz))
      all_goals (go_wp2_with fail; go_meet; exact newC_fin k2 hu hb (Nat.le_refl _) hp)
    case rest =>
      clear K2 HT HL
      obtain ⟨a', n', cp', b', m', dp', k, hu, hb⟩ := hcut.out
      have d0 := k.cell (i := 0) (v := .string t) rfl
      have d1 := k.cell (i := 1) (v := .string c) rfl
      have d2 := k.cell (i := 2) (v := .slice a' n' cp') rfl
      have d3 := k.cell (i := 3) (v := .slice b' m' dp') rfl
      have d4 := k.cell (i := 4) (v := .int .u32 mo) rfl
      have d5 := k.cell (i := 5) (v := .int .i64 ar) rfl
      have HU : Hid (UpAt wc p ar ∧ Below w.heap.size w wc) := ⟨hu, hb⟩
      clear hu hb k hcut
      have hmm : ∀ X : World, (Instr.makeMap 56 none).run Tryz.prog X = .ok (.map (some X.heap.size)) (X.alloc (.map #[] 0)) := fun _ => rfl
      go_wp2
      have hq : (wc.alloc (.map #[] 0)).heap.size = wc.heap.size + 1 := Wk.size_alloc _ _
      refine bodyPost_ret (v := .tuple #[.pointer (some ⟨wc.heap.size + 1, 0, none⟩), .nilIface]) (by simp [results, Tryz.results9, go_sem]) rfl ⟨⟨wc.heap.size + 1, p, wc.heap.size, rfl, ?_, by have := HU.out.2.size; omega, HLP.out, HU.out.2.size⟩, (HU.out.2.alloc HU.out.2.size _).alloc (by rw [hq]; have := HU.out.2.size; omega) _⟩
      have kq := Bk.new (wc.alloc (.map #[] 0)) #[.string t, .string c, .slice a' n' cp', .slice b' m' dp', .int .u32 mo, .int .i64 ar, .pointer (some ⟨p, 0, none⟩), .map (some wc.heap.size), .pointer none, .slice none 0 0, .int .i64 0, .pointer none] 62
      rw [hq] at kq
      have hb2 : Below wc.heap.size wc ((wc.alloc (.map #[] 0)).alloc (.cells #[.string t, .string c, .slice a' n' cp', .slice b' m' dp', .int .u32 mo, .int .i64 ar, .pointer (some ⟨p, 0, none⟩), .map (some wc.heap.size), .pointer none, .slice none 0 0, .int .i64 0, .pointer none] 62)) := ((Below.refl _ _).alloc (Nat.le_refl _) _).alloc (by rw [hq]; omega) _
      have hu := HU.out.1.on hb2
      refine ⟨kq.cell rfl, kq.cell rfl, kq.cell rfl, kq.cell rfl, hu.c1, hu.c2, hu.c3, ?_⟩
      rw [Below.heap_alloc _ _ _ (by rw [hq]; omega)]
      unfold World.alloc
      exact Array.getElem?_push_size
end Go.Proofs.YtdggplhkeekdjaaGreatDoor.Ck
