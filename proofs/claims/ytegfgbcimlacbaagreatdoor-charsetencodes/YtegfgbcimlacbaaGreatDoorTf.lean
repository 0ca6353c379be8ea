
import Derived.Test.YtegfgbcimlacbaaGreatDoorTb
/-
  DERIVED. The first repertoire that has a rune, as a row.
-/
namespace Go.Proofs.YtegfgbcimlacbaaGreatDoor
open Go Go.Proofs Go.RowKit Go.Maps

theorem find_skip {α : Type} (p : α → Bool) : ∀ (N : List α) (k : Nat), (∀ a ∈ N.take k, p a = false) → N.find? p = (N.drop k).find? p
  | _, 0, _ => by rw [List.drop_zero]
  | [], k + 1, _ => by simp
  | a :: N, k + 1, h => by
    rw [List.find?_cons, h a (by simp), List.drop_succ_cons]
    exact find_skip p N k (fun b hb => h b (by simp [hb]))

/-- The row that is told. -/
def FirstR (r : Int) (R : List Row) (a : Value) : Prop := (∃ b, R.find? (fun b => !(byteOf b.1 r == 0)) = some b ∧ a = rowV b) ∨ R.find? (fun b => !(byteOf b.1 r == 0)) = none

set_option maxRecDepth 100000 in
set_option maxHeartbeats 2000000 in
theorem first_row (w : World) (q : Nat) (v : Value) (R : List Row) (x : Bool) (r : Int) (hr0 : -2147483648 ≤ r) (hr1 : r < 2147483648) (h : SetIn w q v R x) (hR6 : R.length ≤ 6) (hk7 : ∀ a ∈ R, a.1 < 7) (hT : Tabs w) (hq : 5 < q) :
    Calls Tryz.prog 51 #[.pointer (some ⟨q, 0, none⟩), .int .i32 r] w fun e w' => ∃ a, e = .returned (.tuple #[a, .int .u8 (firstB r R : Nat)]) ∧ FirstR r R a ∧ SetIn w' q v R x ∧ Keep R w w' := by
  obtain ⟨ao, cap, rfl⟩ := h.val
  obtain ⟨n, hn⟩ : ∃ n, R.length = n := ⟨_, rfl⟩
  have HN : Hid (R.length = n) := hn
  rw [hn] at hR6 h ⊢
  obtain ⟨W0, hW0⟩ : ∃ W0, w.alloc (.cells #[.int .i64 0, .string ⟨#[]⟩, .string ⟨#[]⟩, .nilFunc, .nilFunc] 82) = W0 := ⟨_, rfl⟩
  have hb0 : Below w.heap.size w W0 := hW0 ▸ (Below.refl _ _).alloc (Nat.le_refl _) _
  have hs0 : w.heap.size < W0.heap.size := by rw [← hW0]; simp
  have z0 : W0.cell? ⟨w.heap.size, 0, none⟩ = some (.int .i64 0) := by rw [← hW0]; simp
  have z1 : W0.cell? ⟨w.heap.size, 1, none⟩ = some (.string ⟨#[]⟩) := by rw [← hW0]; simp
  have z2 : W0.cell? ⟨w.heap.size, 2, none⟩ = some (.string ⟨#[]⟩) := by rw [← hW0]; simp
  have z3 : W0.cell? ⟨w.heap.size, 3, none⟩ = some .nilFunc := by rw [← hW0]; simp
  have z4 : W0.cell? ⟨w.heap.size, 4, none⟩ = some .nilFunc := by rw [← hW0]; simp
  have zf : ∀ i, W0.frozen? ⟨w.heap.size, i, none⟩ = false := fun i => by rw [← hW0]; simp
  have hBl : ∀ a ∈ R, a.2.2 + 1 + 1 + 1 < w.heap.size ∧ 5 < a.2.2 := fun a ha => ⟨cell_lt (h.st a ha).1.p3, by have := (h.st a ha).2; omega⟩
  have hne : ∀ a ∈ R, w.heap.size ≠ a.2.2 + 1 := fun a ha => by have := (hBl a ha).1; omega
  have HZ : Hid (∀ wr, Keep R W0 wr → wr.cell? ⟨w.heap.size, 0, none⟩ = some (.int .i64 0) ∧ wr.cell? ⟨w.heap.size, 1, none⟩ = some (.string ⟨#[]⟩) ∧ wr.cell? ⟨w.heap.size, 2, none⟩ = some (.string ⟨#[]⟩) ∧ wr.cell? ⟨w.heap.size, 3, none⟩ = some .nilFunc ∧ wr.cell? ⟨w.heap.size, 4, none⟩ = some .nilFunc ∧ (∀ i, wr.frozen? ⟨w.heap.size, i, none⟩ = false) ∧ Tabs wr) := fun wr hk =>
    ⟨hk.cell z0 hne, hk.cell z1 hne, hk.cell z2 hne, hk.cell z3 hne, hk.cell z4 hne, fun i => (World.frozen?_of_block (hk.block _ hs0 hne)).trans (zf i), hk.tabs (hT.on hb0) (fun a ha => (hBl a ha).2)⟩
  have HBl : Hid (∀ a ∈ R, a.2.2 + 1 + 1 + 1 < w.heap.size ∧ 5 < a.2.2) := hBl
  have HK7 : Hid (∀ a ∈ R, a.1 < 7) := hk7
  have HS0 : Hid (SetIn W0 q (.slice ao n cap) R x) := h.on hb0
  have HB0 : Hid (Below w.heap.size w W0 ∧ w.heap.size < W0.heap.size) := ⟨hb0, hs0⟩
  have HQl : Hid (q < w.heap.size ∧ ∀ g, (Value.slice ao n cap).ownBlock = some g → g < w.heap.size) := ⟨cell_lt h.c0, fun g hg => (h.own.lt g hg).2⟩
  have hc0 := HS0.out.c0
  obtain ⟨F, hF⟩ : ∃ F, firstB r R = F := ⟨_, rfl⟩
  have HF : Hid (firstB r R = F) := hF
  rw [hF]
  clear hF h hn hb0 hs0 z0 z1 z2 z3 z4 zf hBl hne hT hk7
  go_enter Tryz.func51, Tryz.ntmps51
  go_wp2
  go_loopw [14] (fun y wr => FirstInv W0 q (.slice ao n cap) R x r n y wr) (fun y _ => n - (intOf y).toNat)
  case atStart => exact ⟨0, rfl, by omega, HS0.out, Keep.refl _ _, by simp⟩
  case round =>
    obtain ⟨k, rfl, hk, hset, hkeep, hno⟩ := hrel
    have HSt : Hid (SetIn wr q (.slice ao n cap) R x) := hset
    have HKp : Hid (Keep R W0 wr) := hkeep
    have HNo : Hid (∀ a ∈ R.take k, byteOf a.1 r = 0) := hno
    clear hno hkeep
    by_cases hkn : k < n
    · have hkR : k < R.length := by rw [HN.out]; exact hkn
      obtain ⟨a, ha⟩ : ∃ a, R[k]? = some a := ⟨R[k], List.getElem?_eq_getElem hkR⟩
      obtain ⟨g, rfl, -, r0, r1, r2, r3, r4⟩ := hset.row k a ha
      have HA : Hid (R[k]? = some a) := ha
      have HTk : Hid (R.take (k + 1) = R.take k ++ [a] ∧ R.drop k = a :: R.drop (k + 1)) := by
        refine ⟨by rw [List.take_add_one, ha]; rfl, ?_⟩
        rw [List.drop_eq_getElem_cons hkR, (List.getElem?_eq_some_iff.1 ha).2]
      have hbl := HBl.out a (List.mem_of_getElem? ha)
      have h7 := HK7.out a (List.mem_of_getElem? ha)
      clear ha hset
      obtain ⟨W1, hW1⟩ : ∃ W1, wr.alloc (.cells #[.int .i64 (a.1 : Int), .string a.2.1, .string (sp (3 * a.1 + 2)), .func (.func (mfN a.1)) #[] #[], invF a.2.2] 82) = W1 := ⟨_, rfl⟩
      have hb1 : Below wr.heap.size wr W1 := hW1 ▸ (Below.refl _ _).alloc (Nat.le_refl _) _
      have hs1 := HSt.out.on hb1
      have hK1 : Keep R W0 W1 := HKp.out.trans (Keep.of_below hb1)
      have hz1 := HZ.out W1 hK1
      have cB := byte_any W1 a.2.2 a.1 h7 r hr0 hr1 (hs1.st a (List.mem_of_getElem? HA.out)).1 hz1.2.2.2.2.2.2 hbl.2
      have HS1 : Hid (SetIn W1 q (.slice (some ⟨g, 0, none⟩) n cap) R x) := hs1
      have HK1 : Hid (Keep R W0 W1) := hK1
      have e0 : W1.cell? ⟨wr.heap.size, 0, none⟩ = some (.int .i64 (a.1 : Int)) := by rw [← hW1]; simp
      have e1 : W1.cell? ⟨wr.heap.size, 1, none⟩ = some (.string a.2.1) := by rw [← hW1]; simp
      have e2 : W1.cell? ⟨wr.heap.size, 2, none⟩ = some (.string (sp (3 * a.1 + 2))) := by rw [← hW1]; simp
      have e3 : W1.cell? ⟨wr.heap.size, 3, none⟩ = some (.func (.func (mfN a.1)) #[] #[]) := by rw [← hW1]; simp
      have e4 : W1.cell? ⟨wr.heap.size, 4, none⟩ = some (invF a.2.2) := by rw [← hW1]; simp
      have HWR : Hid (w.heap.size < wr.heap.size ∧ ∀ b ∈ R, wr.heap.size ≠ b.2.2 + 1) := ⟨Nat.lt_of_lt_of_le HB0.out.2 HKp.out.size, fun b hb => by have h1 := (HBl.out b hb).1; have h2 := HB0.out.2; have h3 := HKp.out.size; omega⟩
      have HFB : Hid (firstB r R = if byteOf a.1 r = 0 then firstB r (R.drop (k + 1)) else byteOf a.1 r) := by
        show _ = _
        rw [firstB_skip r R k HNo.out, HTk.out.2, firstB]
      have HKK : Hid (∀ z, byteOf a.1 r = z → z = 0 → ∀ b ∈ R.take (k + 1), byteOf b.1 r = 0) := fun z h1 h2 b hb => by
        rw [HTk.out.1, List.mem_append, List.mem_singleton] at hb
        rcases hb with hb | rfl
        · exact HNo.out b hb
        · rw [h1, h2]
      have hb256 : byteOf a.1 r < 256 := by
        have hL : ∀ m, m ≤ 96 → byteL a.1 r m < 256 := by
          intro m
          induction m with
          | zero => intro _; simp [byteL]
          | succ m ih => intro hm; rw [byteL]; split; omega; exact ih (by omega)
        exact hL 96 (Nat.le_refl _)
      obtain ⟨bb, hbb⟩ : ∃ bb, byteOf a.1 r = bb := ⟨_, rfl⟩
      have HBB : Hid (byteOf a.1 r = bb) := hbb
      rw [hbb] at cB hb256
      have HST : Hid (∀ w', St w' a.2.2 a.1 → W1.grownBy w' (some (a.2.2 + 1)) → SetIn w' q (.slice (some ⟨g, 0, none⟩) n cap) R x ∧ Keep R W1 w') := fun w' h1 h2 => HS1.out.asked HA.out h1 h2
      obtain ⟨an, sa, aB⟩ := a
      simp only at cB e0 e1 e2 e3 e4 r0 r1 r2 r3 r4 hW1 HST hbl
      unfold invF caps at e4 r4 hW1
      have HROW0 : Hid (∀ E jj, sp (3 * an + 2) = E → mfN an = jj → rowV (an, sa, aB) = .agg #[.int .i64 (an : Int), .string sa, .string E, .func (.func jj) #[] #[], .func (.func 75) #[] #[.pointer (some ⟨aB + 1 + 1, 0, none⟩), .pointer (some ⟨aB + 1 + 1 + 1, 0, none⟩)]]) := fun E jj h1 h2 => by subst h1; subst h2; rfl
      generalize hE : sp (3 * an + 2) = E at e2 r2 hW1
      generalize hJ : mfN an = jj at e3 r3 hW1
      have HROW : Hid _ := HROW0.out E jj hE hJ
      clear hE hJ HROW0
      have hki : (k : Int) < (n : Int) := by omega
      clear hs1 hK1 hz1 hb1 hbb h7
      go_wp2_with (go_at_call 75; fail)
      refine cB.mono ?_
      rintro e W2 ⟨rfl, hst2, hg2⟩
      obtain ⟨hs2, hk2⟩ := HST.out W2 hst2 hg2
      have HS2 : Hid (SetIn W2 q (.slice (some ⟨g, 0, none⟩) n cap) R x) := hs2
      have HK2 : Hid (Keep R W0 W2) := HK1.out.trans hk2
      have c0 := hk2.cell e0 HWR.out.2
      have c1 := hk2.cell e1 HWR.out.2
      have c2 := hk2.cell e2 HWR.out.2
      have c3 := hk2.cell e3 HWR.out.2
      have c4 := hk2.cell e4 HWR.out.2
      have hzz := HZ.out W2 HK2.out
      obtain ⟨y0, y1, y2, y3, y4, yf, -⟩ := hzz
      clear hs2 hk2 hst2 hg2 cB e0 e1 e2 e3 e4 HST hW1 r0 r1 r2 r3 r4
      by_cases hb0 : bb = 0
      · have HN2 : Hid (∀ b ∈ R.take (k + 1), byteOf b.1 r = 0) := HKK.out bb HBB.out hb0
        subst hb0
        go_wp2
        go_roundw
        case rel => exact ⟨k + 1, by simp, by omega, HS2.out, HK2.out, HN2.out⟩
        case measure => simp [intOf]; omega
      · have hF : F = bb := by
          have := HFB.out
          rw [HBB.out, if_neg hb0] at this
          exact HF.out.symm.trans this
        have HFD : Hid (R.find? (fun b => !(byteOf b.1 r == 0)) = some (an, sa, aB)) := by
          show _ = _
          rw [find_skip _ R k (fun b hb => by simp [HNo.out b hb]), HTk.out.2, List.find?_cons]
          have hbq : (!(bb == 0)) = true := by simpa using hb0
          have hbe : byteOf an r = bb := HBB.out
          simp only [hbe, hbq]
        have hbn : ((bb : Int) != 0) = true := by simp; omega
        subst hF
        clear hb0
        go_wp2
        obtain ⟨U, hU⟩ : ∃ U, ((((W2.setCell ⟨w.heap.size, 0, none⟩ (.int .i64 (an : Int))).setCell ⟨w.heap.size, 1, none⟩ (.string sa)).setCell ⟨w.heap.size, 2, none⟩ (.string E)).setCell ⟨w.heap.size, 3, none⟩ (.func (.func jj) #[] #[])).setCell ⟨w.heap.size, 4, none⟩ (.func (.func 75) #[] #[.pointer (some ⟨aB + 1 + 1, 0, none⟩), .pointer (some ⟨aB + 1 + 1 + 1, 0, none⟩)]) = U := ⟨_, rfl⟩
        have u0 : U.cell? ⟨w.heap.size, 0, none⟩ = some (.int .i64 (an : Int)) := by rw [← hU]; exact (cell_set_ne (by decide)).trans ((cell_set_ne (by decide)).trans ((cell_set_ne (by decide)).trans ((cell_set_ne (by decide)).trans (cell_set_eq y0))))
        have u1 : U.cell? ⟨w.heap.size, 1, none⟩ = some (.string sa) := by rw [← hU]; exact (cell_set_ne (by decide)).trans ((cell_set_ne (by decide)).trans ((cell_set_ne (by decide)).trans (cell_set_eq ((cell_set_ne (by decide)).trans y1))))
        have u2 : U.cell? ⟨w.heap.size, 2, none⟩ = some (.string E) := by rw [← hU]; exact (cell_set_ne (by decide)).trans ((cell_set_ne (by decide)).trans (cell_set_eq ((cell_set_ne (by decide)).trans ((cell_set_ne (by decide)).trans y2))))
        have u3 : U.cell? ⟨w.heap.size, 3, none⟩ = some (.func (.func jj) #[] #[]) := by rw [← hU]; exact (cell_set_ne (by decide)).trans (cell_set_eq ((cell_set_ne (by decide)).trans ((cell_set_ne (by decide)).trans ((cell_set_ne (by decide)).trans y3))))
        have u4 : U.cell? ⟨w.heap.size, 4, none⟩ = some (.func (.func 75) #[] #[.pointer (some ⟨aB + 1 + 1, 0, none⟩), .pointer (some ⟨aB + 1 + 1 + 1, 0, none⟩)]) := by rw [← hU]; exact cell_set_eq ((cell_set_ne (by decide)).trans ((cell_set_ne (by decide)).trans ((cell_set_ne (by decide)).trans ((cell_set_ne (by decide)).trans y4))))
        have hblk : ∀ j, j ≠ w.heap.size → U.heap[j]? = W2.heap[j]? := fun j hj => by
          rw [← hU]
          exact (heap_set_off (Ne.symm hj)).trans ((heap_set_off (Ne.symm hj)).trans ((heap_set_off (Ne.symm hj)).trans ((heap_set_off (Ne.symm hj)).trans (heap_set_off (Ne.symm hj)))))
        have hUs : U.heap.size = W2.heap.size := by rw [← hU]; simp
        have HSU : Hid (SetIn U q (.slice (some ⟨g, 0, none⟩) n cap) R x) := HS2.out.beside y0 (by have := HQl.out.1; omega) (fun g' hg' => by have := HQl.out.2 g' hg'; omega) (fun j _ hj => hblk j hj)
        have hk0 : Keep R w W2 := (Keep.of_below HB0.out.1).trans HK2.out
        have HKU : Hid (Keep R w U) := ⟨by rw [← hU]; exact hk0.os, by rw [← hU]; exact hk0.tape, by rw [← hU]; exact hk0.output, by rw [hUs]; exact hk0.size, fun j hj hn => (hblk j (by omega)).trans (hk0.block j hj hn)⟩
        rw [hU]
        clear hU hblk hUs hk0
        exact bodyPost_ret (v := .tuple #[.agg #[.int .i64 (an : Int), .string sa, .string E, .func (.func jj) #[] #[], .func (.func 75) #[] #[.pointer (some ⟨aB + 1 + 1, 0, none⟩), .pointer (some ⟨aB + 1 + 1 + 1, 0, none⟩)]], .int .u8 (F : Int)]) (by simp only [results, Tryz.results51]; simp [go_sem, u0, u1, u2, u3, u4]) rfl ⟨_, rfl, .inl ⟨(an, sa, aB), HFD.out, HROW.out.symm⟩, HSU.out, HKU.out⟩
    · obtain rfl : k = n := by omega
      have hF : F = 0 := by
        have := firstB_skip r R k HNo.out
        rw [List.drop_eq_nil_of_le (by rw [HN.out]; exact Nat.le_refl _), firstB] at this
        exact HF.out.symm.trans this
      subst hF
      have HFN : Hid (R.find? (fun b => !(byteOf b.1 r == 0)) = none) := by
        show _ = _
        rw [List.find?_eq_none]
        intro b hb
        have := HNo.out b (by rw [List.take_of_length_le (by rw [HN.out]; exact Nat.le_refl _)]; exact hb)
        simp [this]
      have hzz := HZ.out wr HKp.out
      obtain ⟨y0, y1, y2, y3, y4, yf, -⟩ := hzz
      clear hset
      go_wp2
      obtain ⟨U, hU⟩ : ∃ U, ((((wr.setCell ⟨w.heap.size, 0, none⟩ (.int .i64 0)).setCell ⟨w.heap.size, 1, none⟩ (.string ⟨#[]⟩)).setCell ⟨w.heap.size, 2, none⟩ (.string ⟨#[]⟩)).setCell ⟨w.heap.size, 3, none⟩ .nilFunc).setCell ⟨w.heap.size, 4, none⟩ .nilFunc = U := ⟨_, rfl⟩
      have u0 : U.cell? ⟨w.heap.size, 0, none⟩ = some (.int .i64 0) := by rw [← hU]; exact (cell_set_ne (by decide)).trans ((cell_set_ne (by decide)).trans ((cell_set_ne (by decide)).trans ((cell_set_ne (by decide)).trans (cell_set_eq y0))))
      have u1 : U.cell? ⟨w.heap.size, 1, none⟩ = some (.string ⟨#[]⟩) := by rw [← hU]; exact (cell_set_ne (by decide)).trans ((cell_set_ne (by decide)).trans ((cell_set_ne (by decide)).trans (cell_set_eq ((cell_set_ne (by decide)).trans y1))))
      have u2 : U.cell? ⟨w.heap.size, 2, none⟩ = some (.string ⟨#[]⟩) := by rw [← hU]; exact (cell_set_ne (by decide)).trans ((cell_set_ne (by decide)).trans (cell_set_eq ((cell_set_ne (by decide)).trans ((cell_set_ne (by decide)).trans y2))))
      have u3 : U.cell? ⟨w.heap.size, 3, none⟩ = some .nilFunc := by rw [← hU]; exact (cell_set_ne (by decide)).trans (cell_set_eq ((cell_set_ne (by decide)).trans ((cell_set_ne (by decide)).trans ((cell_set_ne (by decide)).trans y3))))
      have u4 : U.cell? ⟨w.heap.size, 4, none⟩ = some .nilFunc := by rw [← hU]; exact cell_set_eq ((cell_set_ne (by decide)).trans ((cell_set_ne (by decide)).trans ((cell_set_ne (by decide)).trans ((cell_set_ne (by decide)).trans y4))))
      have hblk : ∀ j, j ≠ w.heap.size → U.heap[j]? = wr.heap[j]? := fun j hj => by
        rw [← hU]
        exact (heap_set_off (Ne.symm hj)).trans ((heap_set_off (Ne.symm hj)).trans ((heap_set_off (Ne.symm hj)).trans ((heap_set_off (Ne.symm hj)).trans (heap_set_off (Ne.symm hj)))))
      have hUs : U.heap.size = wr.heap.size := by rw [← hU]; simp
      have HSU : Hid (SetIn U q (.slice ao k cap) R x) := HSt.out.beside y0 (by have := HQl.out.1; omega) (fun g' hg' => by have := HQl.out.2 g' hg'; omega) (fun j _ hj => hblk j hj)
      have hk0 : Keep R w wr := (Keep.of_below HB0.out.1).trans HKp.out
      have HKU : Hid (Keep R w U) := ⟨by rw [← hU]; exact hk0.os, by rw [← hU]; exact hk0.tape, by rw [← hU]; exact hk0.output, by rw [hUs]; exact hk0.size, fun j hj hn => (hblk j (by omega)).trans (hk0.block j hj hn)⟩
      rw [hU]
      clear hU hblk hUs hk0
      exact bodyPost_ret (v := .tuple #[.agg #[.int .i64 0, .string ⟨#[]⟩, .string ⟨#[]⟩, .nilFunc, .nilFunc], .int .u8 0]) (by simp only [results, Tryz.results51]; simp [go_sem, u0, u1, u2, u3, u4]) rfl ⟨_, rfl, .inr HFN.out, HSU.out, HKU.out⟩
end Go.Proofs.YtegfgbcimlacbaaGreatDoor
