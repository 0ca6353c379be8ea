
import Derived.Test.YtegfgbcimlacbaaGreatDoorTb
import Derived.Deep.LoopGhost
import Derived.Lib.DecodeN
/-
  DERIVED. The loop that writes a text: the walk.
-/
namespace Go.Proofs.YtegfgbcimlacbaaGreatDoor
open Go Go.Proofs Go.RowKit

def WrInv (w : World) (B0 B1 B2 q : Nat) (v : Value) (a : Row) (R : List Row) (x : Bool) (kc ke : ByteArray) (P : Row → Int → List Int × Row) (s : ByteArray) (F : Except (Nat × Int) (List Int)) (g : Nat) (s8 : Value) (wx : World) : Prop :=
  ∃ (at' : Nat) (h : Row) (out : List Int), g = s.size - at' ∧ at' ≤ s.size + 4 ∧ wrS P kc ke a R s g at' h out = F ∧ h ∈ a :: R ∧ out.length ≤ 4 * at' ∧ ByteZ out ∧ (s8 = .slice none 0 0 ∨ 0 < out.length) ∧ wx.ownsRow (B2 + 1) 5 1 s8 out.length (cellsZ out) ∧ WrI w B0 B1 B2 q v a R x kc ke h s at' wx

theorem own_low {w : World} {B B' : Nat} {e : TypeId} {sz : Nat} {v : Value} {n : Nat} {xs : List Value} (h : w.ownsRow B e sz v n xs) (hb : B' ≤ B) : w.ownsRow B' e sz v n xs := by
  refine ⟨h.1, ?_⟩
  rcases h.2 with h2 | ⟨g, cap, cur, hv, hg, r⟩
  · exact .inl h2
  · exact .inr ⟨g, cap, cur, hv, by omega, r⟩

theorem dec_max (s : ByteArray) (p : Nat) : (Utf8.decode s p).1 ≤ 1114111 := by
  rw [Lib.decode_at]
  unfold Lib.decodeN
  repeat' split
  all_goals first | (simp only; omega) | omega
theorem dec_four (s : ByteArray) (p : Nat) : (Utf8.decode s p).2 ≤ 4 := by
  rw [Lib.decode_at]
  unfold Lib.decodeN
  repeat' split
  all_goals simp

set_option maxRecDepth 100000 in
set_option maxHeartbeats 8000000 in
theorem write_any (w : World) (q : Nat) (v : Value) (a : Row) (R : List Row) (x : Bool) (kc ke s : ByteArray) (P : Row → Int → List Int × Row) (hset : SetIn w q v (a :: R) x) (hR6 : (a :: R).length ≤ 6) (hN7 : ∀ r ∈ a :: R, r.1 < 7) (hq5 : 5 < q)
    (hkc : Short kc) (hke : Short ke) (hT : Tabs w) (hP : PutOK q v a R x P) (hs : s.size ≤ 65534) :
    Calls Tryz.prog 15 #[.pointer (some ⟨q, 0, none⟩), .agg #[.string kc, .string ke], .string s] w (PostW w q v a R x (wrS P kc ke a R s s.size 0 a [])) := by
  obtain ⟨ao, cap, rfl⟩ := hset.val
  obtain ⟨g, rfl, -, r0, r1, r2, r3, r4⟩ := hset.row 0 a rfl
  simp only [Nat.zero_mul, Nat.zero_add] at r0 r1 r2 r3 r4
  obtain ⟨n, hn⟩ : ∃ n, (a :: R).length = n := ⟨_, rfl⟩
  have hn1 : 0 < n := by rw [← hn]; simp
  obtain ⟨F, hF⟩ : ∃ F, wrS P kc ke a R s s.size 0 a [] = F := ⟨_, rfl⟩
  rw [hF]
  have HF : Hid _ := hF
  have c0 := hset.c0
  rw [hn] at c0 hset hP ⊢
  have hq := cell_lt c0
  simp only at hq
  have HFAR : Hid (∀ b ∈ a :: R, b.2.2 + 1 < w.heap.size) := fun b hb => by have := cell_lt (hset.st b hb).1.p3; simp only at this; omega
  have HQ : Hid (q < w.heap.size) := hq
  have HOB : Hid (∀ g', (Value.slice (some ⟨g, 0, none⟩) n cap).ownBlock = some g' → g' < w.heap.size) := fun g' hg' => (hset.own.lt g' hg').2
  have HT5 : Hid (∀ W, KB (a :: R) w.heap.size w W → Tabs W) := fun W hk => by
    have h5 : ∀ b ∈ a :: R, (4 : Nat) ≠ b.2.2 + 1 ∧ (5 : Nat) ≠ b.2.2 + 1 := fun b hb => by have := (hset.st b hb).2; omega
    exact ⟨fun i hi => hk.cell (hT.p1 i hi) (by omega) (fun b hb => (h5 b hb).1), fun i hi => hk.cell (hT.p2 i hi) (by omega) (fun b hb => (h5 b hb).2)⟩
  have H16 : Hid (∀ W (r : Int), 0 ≤ r → r ≤ 1114111 → SetIn W q (.slice (some ⟨g, 0, none⟩) n cap) (a :: R) x → Tabs W → Calls Tryz.prog 35 #[.pointer (some ⟨q, 0, none⟩), .int .i32 r] W fun e w' => e = .returned (.bool (hasS a R r)) ∧ SetIn w' q (.slice (some ⟨g, 0, none⟩) n cap) (a :: R) x ∧ Keep (a :: R) W w') := fun W r h0 h1 hs hT => has_all W q _ a R x r (by omega) (by omega) hs hR6 hN7 hT hq5
  have H57 : Hid (∀ W (r : Int), Calls Tryz.prog 33 #[.agg #[.string kc, .string ke], .int .i32 r] W fun e w' => e = .returned (.bool (plainR kc r)) ∧ Below W.heap.size W w') := fun W r => plain_any W kc ke hkc r
  have H56 : Hid (∀ W (r : Int), Calls Tryz.prog 34 #[.agg #[.string kc, .string ke], .int .i32 r] W fun e w' => e = .returned (.bool (hasR ke r)) ∧ Below W.heap.size W w') := fun W r => ends_any W kc ke hke r
  have H58 : Hid (∀ W T (r : Int), Calls Tryz.prog 36 #[.string T, .int .i32 r] W fun e w' => e = .returned (.bool (brk T r)) ∧ W = w') := fun W T r => broken_any W T r
  have H27 : Hid (∀ W (i c : Int), Calls Tryz.prog 27 #[.int .i64 i, .iface 69 (.int .i64 c)] W fun e w' => ∃ v, e = .returned v ∧ PErr w' v (some (i, c)) ∧ Below W.heap.size W w') := fun W i c => refusal_any i c W
  have HP : Hid _ := hP
  have H0 : Hid (∀ W, KB (a :: R) w.heap.size w W → SetIn W q (.slice (some ⟨g, 0, none⟩) n cap) (a :: R) x → W.cell? ⟨q, 0, none⟩ = some (.slice (some ⟨g, 0, none⟩) n cap) ∧ Row5 W g 0 a) := fun W _ hs => by
    obtain ⟨g', e', -, w0, w1, w2, w3, w4⟩ := hs.row 0 a rfl
    cases e'
    simp only [Nat.zero_mul, Nat.zero_add] at w0 w1 w2 w3 w4
    unfold invF at w4
    exact ⟨hs.c0, w0, w1, w2, w3, w4⟩
  unfold invF at r4
  obtain ⟨W1, hW1⟩ : ∃ W1, w.alloc (.cells #[.string kc, .string ke] 51) = W1 := ⟨_, rfl⟩
  have hb1 : Below w.heap.size w W1 := hW1 ▸ (Below.refl _ _).alloc (Nat.le_refl _) _
  have hs1 : W1.heap.size = w.heap.size + 1 := by rw [← hW1]; simp
  have c0' := (hb1.cell (p := ⟨q, 0, none⟩) (cell_lt c0)).trans c0
  have y0 := (hb1.cell (p := ⟨g, 0, none⟩) (cell_lt r0)).trans r0
  have y1 := (hb1.cell (p := ⟨g, 1, none⟩) (cell_lt r1)).trans r1
  have y2 := (hb1.cell (p := ⟨g, 2, none⟩) (cell_lt r2)).trans r2
  have y3 := (hb1.cell (p := ⟨g, 3, none⟩) (cell_lt r3)).trans r3
  have y4 := (hb1.cell (p := ⟨g, 4, none⟩) (cell_lt r4)).trans r4
  obtain ⟨W2, hW2⟩ : ∃ W2, W1.alloc (.cells #[.int .i64 (a.1 : Int), .string a.2.1, .string (sp (3 * a.1 + 2)), .func (.func (mfN a.1)) #[] #[], .func (.func 75) #[] (caps a.2.2)] 82) = W2 := ⟨_, rfl⟩
  have hb2 : Below W1.heap.size W1 W2 := hW2 ▸ (Below.refl _ _).alloc (Nat.le_refl _) _
  have hs2 : W2.heap.size = w.heap.size + 2 := by rw [← hW2]; simp; omega
  obtain ⟨W3, hW3⟩ : ∃ W3, W2.iter s 0 = W3 := ⟨_, rfl⟩
  have hb3 : Below W2.heap.size W2 W3 := by rw [← hW3]; exact (Below.refl _ _).alloc (Nat.le_refl _) _
  obtain ⟨i0, hi, hz0, hz1, hz2⟩ := info_parts Tryz.info5
  obtain ⟨B, hB⟩ : ∃ B, w.heap.size = B := ⟨_, rfl⟩
  have HB : Hid (w.heap.size = B) := hB
  have HI0 : Hid (WrI w B (B + 1) (B + 2) q (.slice (some ⟨g, 0, none⟩) n cap) a R x kc ke a s 0 W3) := by
    have k0 : W1.cell? ⟨w.heap.size, 0, none⟩ = some (.string kc) := by rw [← hW1]; simp
    have k1 : W1.cell? ⟨w.heap.size, 1, none⟩ = some (.string ke) := by rw [← hW1]; simp
    have hb13 : Below W1.heap.size W1 W3 := hb2.trans (hb3.mono hb2.size)
    have hb03 : Below w.heap.size w W3 := hb1.trans (hb13.mono hb1.size)
    have hrow : Row5 W2 W1.heap.size 0 a := hW2 ▸ Row5.new W1 a
    have hfr : ∀ i, W2.frozen? ⟨W1.heap.size, i, none⟩ = false := fun i => by rw [← hW2]; simp
    have hit : W3.heap[W2.heap.size]? = some (.stringIter s 0) := by rw [← hW3]; exact heap_alloc_new W2 _
    rw [hs1] at hrow hfr
    rw [hs2] at hit
    rw [← hB]
    exact ⟨KB.of_below hb03, hset.on hb03, (hb13.cell (p := ⟨w.heap.size, 0, none⟩) (by simp; omega)).trans k0, (hb13.cell (p := ⟨w.heap.size, 1, none⟩) (by simp; omega)).trans k1, hrow.on hb3 (by omega), fun i => (hb3.frozen (p := ⟨w.heap.size + 1, i, none⟩) (by simp; omega)).trans (hfr i), hit⟩
  clear r0 r1 r2 r3 r4 c0 hkc hke hT hN7 hF hq hset hP hb1 hb2 hb3
  go_enter Tryz.func15, Tryz.ntmps15
  go_wp2
  clear hW1 hW2 hW3 c0' y0 y1 y2 y3 y4 hs1 hs2 hB
  go_loopg [8] s.size (fun g' s8 wx => Hid (WrInv w B (B + 1) (B + 2) q (.slice (some ⟨g, 0, none⟩) n cap) a R x kc ke P s F g' s8 wx))
  case atStart => exact ⟨0, a, [], by omega, by omega, HF.out, List.mem_cons_self, by simp, fun z hz => by simp at hz, .inl rfl, World.ownsRow_nil _ _ _ _, HI0.out⟩
  case round =>
    clear HI0 HF
    obtain ⟨at', h, out, rfl, hat4, hwr, hmem, hlen, hbz, hne, hown, hwi⟩ := hrel.out
    have h01 : B < B + 1 := by omega
    have h12 : B + 1 < B + 2 := by omega
    have hBle : w.heap.size ≤ B := by rw [HB.out]; exact Nat.le_refl _
    have HMem : Hid (h ∈ a :: R) := hmem
    have HBz : Hid (ByteZ out) := hbz
    have HNe : Hid (u8 = .slice none 0 0 ∨ 0 < out.length) := hne
    by_cases hat : at' < s.size
    · obtain ⟨f, hf⟩ : ∃ f, s.size - at' = f + 1 := ⟨s.size - at' - 1, by omega⟩
      rw [hf, wrS, if_pos hat] at hwr
      have hnx : ∀ ty, (Instr.next (.pointer (some ⟨B + 2, 0, none⟩)) true ty).run Tryz.prog wr = _ := fun ty => Lib.run_next_any_at wr (B + 2) s at' ty hwi.i hat
      have hd1 := decode_le s at'
      have hd2 := dec_pos s at' hat
      have hd3 : (Utf8.decode s at').1 ≤ 1114111 := dec_max s at'
      have hd4 : (Utf8.decode s at').2 ≤ 4 := dec_four s at'
      have hw1 := hwi.next hBle h01 h12 (at' + (Utf8.decode s at').2)
      have hown1 := own_iter (k := B + 2) hown (by omega) s (at' + (Utf8.decode s at').2)
      obtain ⟨W1, hW1⟩ : ∃ W1, wr.iterAt (B + 2) s (at' + (Utf8.decode s at').2) = W1 := ⟨_, rfl⟩
      rw [hW1] at hw1 hown1 hnx
      obtain ⟨rr, hrr⟩ : ∃ rr, (Utf8.decode s at').1 = rr := ⟨_, rfl⟩
      obtain ⟨nn, hnn⟩ : ∃ nn, (Utf8.decode s at').2 = nn := ⟨_, rfl⟩
      rw [hrr] at hwr hnx hd1 hd3
      rw [hnn] at hwr hd2 hd4 hw1
      have HW1 : Hid (WrI w B (B + 1) (B + 2) q (.slice (some ⟨g, 0, none⟩) n cap) a R x kc ke h s (at' + nn) W1) := hw1
      have HO1 : Hid (W1.ownsRow (B + 2 + 1) 5 1 u8 out.length (cellsZ out)) := hown1
      have k0 := hw1.k0
      have k1 := hw1.k1
      have c57 := H57.out W1 (rr : Int)
      have hgo : s.size - (at' + nn) ≤ f := by omega
      clear hwi hown hw1 hown1 hW1 hrr hnn hmem hbz hne hrel
      by_cases hpl : plainR kc (rr : Int) = true
      · rw [if_pos hpl] at hwr
        rw [hpl] at c57
        have hlow := plain_low hpl
        have HWR : Hid _ := hwr
        clear hwr hpl
        go_wp2_with (go_at_call 33; refine Stop.mk ?_)
        refine Stop.out (c57.mono ?_)
        rintro e W2 ⟨rfl, hb2⟩
        have HW2 : Hid (WrI w B (B + 1) (B + 2) q (.slice (some ⟨g, 0, none⟩) n cap) a R x kc ke h s (at' + nn) W2) := HW1.out.step hBle h01 h12 HFAR.out (HW1.out.st.on hb2) (KB.of_below (hb2.mono (by have := HW1.out.size; omega)))
        have HO2 : Hid (W2.ownsRow (B + 2 + 1) 5 1 u8 out.length (cellsZ out)) := ownsRow_below HO1.out hb2 (Nat.le_refl _)
        have hmod : (rr : Int) % 256 = (rr : Int) := by omega
        clear hb2 c57 k0 k1 hnx
        go_wp2_with (at_builtin; refine Stop.mk ?_)
        refine Stop.out (wpList_append_own _ rfl (.tmp 27) (.tmp 30) 27 rfl (B + 2 + 1) 5 i0 _ 1 1 Tryz.underlying27 hi hz0 hz1 hz2 rfl (by decide) u8 out.length (cellsZ out) rfl (World.ownsRow.alloc HO2.out _) ⟨W2.heap.size, 0, none⟩ 1 1 [.int .u8 (rr : Int)] rfl rfl ?_ ?_ ?_ ?_ ?_ ?_)
        · exact cell_one_new _ _ _
        · intro z hz; simp at hz; subst hz; rfl
        · unfold maxLen; omega
        · omega
        · have := HW2.out.size; simp; omega
        · intro v' w1 hown1 hg1 _
          have hba : ∀ o, Below W2.heap.size W2 (W2.alloc o) := fun o => (Below.refl _ _).alloc (Nat.le_refl _) _
          have hszB := HW2.out.size
          have HW3 : Hid (WrI w B (B + 1) (B + 2) q (.slice (some ⟨g, 0, none⟩) n cap) a R x kc ke h s (at' + nn) w1) := HW2.out.step hBle h01 h12 HFAR.out (SetIn.grown (out := out) (HW2.out.st.on (hba _)) (by simp) (World.ownsRow.alloc HO2.out _) HNe.out hg1) ((KB.of_below ((hba _).mono (by omega))).trans (KB.of_grown hg1 (by simp; omega) (fun r e => (World.ownsRow.lt HO2.out r e).1)))
          have HO3 : Hid (w1.ownsRow (B + 2 + 1) 5 1 v' (out ++ [(rr : Int)]).length (cellsZ (out ++ [(rr : Int)]))) := by
            show World.ownsRow _ _ _ _ _ _ _
            rw [List.length_append, show cellsZ (out ++ [(rr : Int)]) = cellsZ out ++ [.int .u8 (rr : Int)] by simp [cellsZ]]
            exact hown1
          have HZ3 : Hid (ByteZ (out ++ [(rr : Int)])) := HBz.out.app (fun z hz => by simp at hz; omega)
          have HL3 : Hid ((out ++ [(rr : Int)]).length ≤ 4 * (at' + nn)) := by show _ ≤ _; rw [List.length_append]; simp; omega
          have HP3 : Hid (0 < (out ++ [(rr : Int)]).length) := by show 0 < _; simp
          clear hown1 hg1 hba hszB
          generalize out ++ [(rr : Int)] = out2 at *
          have k0 := HW3.out.k0
          have k1 := HW3.out.k1
          have c56 := H56.out w1 (rr : Int)
          generalize hasR ke (rr : Int) = eb at *
          have HC56 : Hid (Calls Tryz.prog 34 #[.agg #[.string kc, .string ke], .int .i32 (rr : Int)] w1 fun e w' => e = .returned (.bool eb) ∧ Below w1.heap.size w1 w') := c56
          clear c56
          cases eb with
          | true =>
            go_wp2_with (go_at_call 34; refine HC56.out.mono ?_; rintro e W6 ⟨rfl, hb6⟩; have HW6 : Hid _ := HW3.out.step hBle h01 h12 HFAR.out (HW3.out.st.on hb6) (KB.of_below (hb6.mono HW3.out.size)); have HO6 : Hid (W6.ownsRow (B + 2 + 1) 5 1 v' out2.length (cellsZ out2)) := ownsRow_below HO3.out hb6 (Nat.le_refl _); obtain ⟨p0, pr0, pr1, pr2, pr3, pr4⟩ := H0.out W6 HW6.out.kb HW6.out.st; obtain ⟨z0, z1, z2, z3, z4⟩ := HW6.out.r; have zf := HW6.out.f; clear hb6)
            have HW7 := HW6.out.turn hBle h01 h12 HQ.out HOB.out a
            have HO7 : (rowSet W6 (B + 1) a).ownsRow (B + 2 + 1) 5 1 v' out2.length (cellsZ out2) := World.ownsRow.kept HO6.out (rowSet_grown W6 (B + 1) a) (.inr (fun e => by have := (World.ownsRow.lt HO6.out _ e).1; omega))
            unfold rowSet at HW7 HO7
            go_roundg (s.size - (at' + nn))
            case measure => omega
            case rel => exact ⟨at' + nn, a, out2, rfl, by omega, by rw [← HWR.out, if_pos trivial]; exact wrS_fuel _ _ _ _ _ _ _ _ _ _ _ (by omega) (by omega), List.mem_cons_self, HL3.out, HZ3.out, .inr HP3.out, HO7, HW7⟩
          | false =>
            go_wp2_with (go_at_call 34; refine HC56.out.mono ?_; rintro e W6 ⟨rfl, hb6⟩; have HW6 : Hid _ := HW3.out.step hBle h01 h12 HFAR.out (HW3.out.st.on hb6) (KB.of_below (hb6.mono HW3.out.size)); have HO6 : Hid (W6.ownsRow (B + 2 + 1) 5 1 v' out2.length (cellsZ out2)) := ownsRow_below HO3.out hb6 (Nat.le_refl _); clear hb6)
            go_roundg (s.size - (at' + nn))
            case measure => omega
            case rel => exact ⟨at' + nn, h, out2, rfl, by omega, by rw [← HWR.out, if_neg (by decide)]; exact wrS_fuel _ _ _ _ _ _ _ _ _ _ _ (by omega) (by omega), HMem.out, HL3.out, HZ3.out, .inr HP3.out, HO6.out, HW6.out⟩
      · rw [if_neg hpl] at hwr
        have hplf : plainR kc (rr : Int) = false := by simpa using hpl
        rw [hplf] at c57
        have HASC : Hid (asc (rr : Int) = false) := by
          have := hplf
          unfold plainR at this
          simp at this
          exact this.1
        clear hpl hplf
        have c58 := fun W => H58.out W (s.extract at' s.size) (rr : Int)
        have HHAS : Hid (∀ W, SetIn W q (.slice (some ⟨g, 0, none⟩) n cap) (a :: R) x → Tabs W → Calls Tryz.prog 35 #[.pointer (some ⟨q, 0, none⟩), .int .i32 (rr : Int)] W fun e w' => e = .returned (.bool (hasS a R (rr : Int))) ∧ SetIn w' q (.slice (some ⟨g, 0, none⟩) n cap) (a :: R) x ∧ Keep (a :: R) W w') := fun W h1 h2 => H16.out W (rr : Int) (by omega) (by omega) h1 h2
        have HPUT : Hid (hasS a R (rr : Int) = true → ∀ W, SetIn W q (.slice (some ⟨g, 0, none⟩) n cap) (a :: R) x → Tabs W → W.ownsRow (B + 2 + 1) 5 1 u8 out.length (cellsZ out) → B + 2 + 1 ≤ W.heap.size → _) := fun hh W h1 h2 h3 h4 => HP.out W h u8 (B + 2 + 1) out (rr : Int) (by omega) (by omega) h1 HMem.out hh HASC.out h2 h3 HNe.out (by omega) h4 (fun b hb => by have := HFAR.out b hb; omega)
        have hatI : (at' : Int) ≤ (s.size : Int) := by omega
        generalize hasS a R (rr : Int) = hb at *
        generalize brk (s.extract at' s.size) (rr : Int) = bb at *
        cases hb with
        | false =>
          rw [if_pos (by simp)] at hwr
          subst hwr
          go_wp2_with (first | (go_at_call 33; refine c57.mono ?_; rintro e W2 ⟨rfl, hb2⟩; have HW2 : Hid (WrI w B (B + 1) (B + 2) q (.slice (some ⟨g, 0, none⟩) n cap) a R x kc ke h s (at' + nn) W2) := HW1.out.step hBle h01 h12 HFAR.out (HW1.out.st.on hb2) (KB.of_below (hb2.mono HW1.out.size)); clear hb2) | (go_at_call 35; refine Stop.mk ?_))
          refine Stop.out ((HHAS.out _ HW2.out.st (HT5.out _ HW2.out.kb)).mono ?_)
          rintro e W3 ⟨rfl, hs3, hk3⟩
          have HW3 : Hid (WrI w B (B + 1) (B + 2) q (.slice (some ⟨g, 0, none⟩) n cap) a R x kc ke h s (at' + nn) W3) := HW2.out.step hBle h01 h12 HFAR.out hs3 (KB.of_keep hk3 HW2.out.size)
          clear hs3 hk3
          go_wp2_with (go_at_call 27; refine (H27.out _ _ _).mono ?_; rintro e W8 ⟨er, rfl, hv, hb8⟩)
          have HV : Hid _ := hv
          have HB8 : Hid _ := hb8
          clear hv hb8
          exact bodyPost_ret (v := .tuple #[.slice none 0 0, er]) (by simp [results, Tryz.results15, go_sem]) rfl ⟨HW3.out.kb.trans (KB.of_below (HB8.out.mono HW3.out.kb.size)), HW3.out.st.on HB8.out, er, rfl, HV.out⟩
        | true =>
          cases bb with
          | true =>
            rw [if_pos (by simp)] at hwr
            subst hwr
            go_wp2_with (first | (go_at_call 33; refine c57.mono ?_; rintro e W2 ⟨rfl, hb2⟩; have HW2 : Hid (WrI w B (B + 1) (B + 2) q (.slice (some ⟨g, 0, none⟩) n cap) a R x kc ke h s (at' + nn) W2) := HW1.out.step hBle h01 h12 HFAR.out (HW1.out.st.on hb2) (KB.of_below (hb2.mono HW1.out.size)); clear hb2) | (go_at_call 35; refine Stop.mk ?_))
            refine Stop.out ((HHAS.out _ HW2.out.st (HT5.out _ HW2.out.kb)).mono ?_)
            rintro e W3 ⟨rfl, hs3, hk3⟩
            have HW3 : Hid (WrI w B (B + 1) (B + 2) q (.slice (some ⟨g, 0, none⟩) n cap) a R x kc ke h s (at' + nn) W3) := HW2.out.step hBle h01 h12 HFAR.out hs3 (KB.of_keep hk3 HW2.out.size)
            clear hs3 hk3
            go_wp2_with (first | (go_at_call 36; refine (c58 _).mono ?_; rintro e W4 ⟨rfl, rfl⟩) | (go_at_call 27; refine (H27.out _ _ _).mono ?_; rintro e W8 ⟨er, rfl, hv, hb8⟩))
            have HV : Hid _ := hv
            have HB8 : Hid _ := hb8
            clear hv hb8
            exact bodyPost_ret (v := .tuple #[.slice none 0 0, er]) (by simp [results, Tryz.results15, go_sem]) rfl ⟨HW3.out.kb.trans (KB.of_below (HB8.out.mono HW3.out.kb.size)), HW3.out.st.on HB8.out, er, rfl, HV.out⟩
          | false =>
            rw [if_neg (by simp)] at hwr
            have HWR : Hid _ := hwr
            clear hwr
            go_wp2_with (first | (go_at_call 33; refine c57.mono ?_; rintro e W2 ⟨rfl, hb2⟩; have HW2 : Hid (WrI w B (B + 1) (B + 2) q (.slice (some ⟨g, 0, none⟩) n cap) a R x kc ke h s (at' + nn) W2) := HW1.out.step hBle h01 h12 HFAR.out (HW1.out.st.on hb2) (KB.of_below (hb2.mono HW1.out.size)); have HO2 : Hid (W2.ownsRow (B + 2 + 1) 5 1 u8 out.length (cellsZ out)) := ownsRow_below HO1.out hb2 (Nat.le_refl _); clear hb2) | (go_at_call 35; refine Stop.mk ?_))
            refine Stop.out ((HHAS.out _ HW2.out.st (HT5.out _ HW2.out.kb)).mono ?_)
            rintro e W3 ⟨rfl, hs3, hk3⟩
            have HW3 : Hid (WrI w B (B + 1) (B + 2) q (.slice (some ⟨g, 0, none⟩) n cap) a R x kc ke h s (at' + nn) W3) := HW2.out.step hBle h01 h12 HFAR.out hs3 (KB.of_keep hk3 HW2.out.size)
            have HO3 : Hid (W3.ownsRow (B + 2 + 1) 5 1 u8 out.length (cellsZ out)) := own_kb HO2.out hk3 (fun b hb => by have := HFAR.out b hb; omega)
            clear hs3 hk3
            obtain ⟨c59, hpm, hp0, hp4, hpz⟩ := HPUT.out trivial W3 HW3.out.st (HT5.out _ HW3.out.kb) HO3.out HW3.out.size
            obtain ⟨j0, j1, j2, j3, j4⟩ := HW3.out.r
            have HPM : Hid ((P h (rr : Int)).2 ∈ a :: R) := hpm
            have HPZ : Hid (ByteZ (P h (rr : Int)).1) := hpz
            generalize P h (rr : Int) = PP at *
            obtain ⟨pl, pr⟩ := PP
            simp only at c59 hp0 hp4 hpm hpz
            have HWR2 : Hid (wrS P kc ke a R s f (at' + nn) pr (out ++ pl) = F) := HWR.out
            clear hpm hpz HWR
            unfold rowV at c59
            go_wp2_with (first | (go_at_call 36; refine (c58 _).mono ?_; rintro e W4 ⟨rfl, rfl⟩) | (go_at_call 37; refine Stop.mk ?_))
            refine Stop.out (c59.mono ?_)
            rintro e W5 ⟨v', rfl, hown5, hs5, hk5⟩
            have HW5 : Hid (WrI w B (B + 1) (B + 2) q (.slice (some ⟨g, 0, none⟩) n cap) a R x kc ke h s (at' + nn) W5) := HW3.out.step hBle h01 h12 HFAR.out hs5 hk5
            have HO5 : Hid (W5.ownsRow (B + 2 + 1) 5 1 v' (out ++ pl).length (cellsZ (out ++ pl))) := hown5
            have HZ5 : Hid (ByteZ (out ++ pl)) := HBz.out.app HPZ.out
            have HL5 : Hid ((out ++ pl).length ≤ 4 * (at' + nn) ∧ 0 < (out ++ pl).length) := by
              refine ⟨?_, ?_⟩ <;> rw [List.length_append] <;> omega
            clear hown5 hs5 hk5 c59 j0 j1 j2 j3 j4
            obtain ⟨z0, z1, z2, z3, z4⟩ := HW5.out.r
            have zf := HW5.out.f
            go_wp2
            have HW7 := HW5.out.turn hBle h01 h12 HQ.out HOB.out pr
            have HO7 : (rowSet W5 (B + 1) pr).ownsRow (B + 2 + 1) 5 1 v' (out ++ pl).length (cellsZ (out ++ pl)) := World.ownsRow.kept HO5.out (rowSet_grown W5 (B + 1) pr) (.inr (fun e => by have := (World.ownsRow.lt HO5.out _ e).1; omega))
            unfold rowSet at HW7 HO7
            go_roundg (s.size - (at' + nn))
            case measure => omega
            case rel => exact ⟨at' + nn, pr, out ++ pl, rfl, by omega, by rw [← HWR2.out]; exact wrS_fuel _ _ _ _ _ _ _ _ _ _ _ (by omega) (by omega), HPM.out, HL5.out.1, HZ5.out, .inr HL5.out.2, HO7, HW7⟩
    · rw [wrS_past P kc ke a R s _ at' h out (by omega)] at hwr
      subst hwr
      have hnx : ∀ ty, (Instr.next (.pointer (some ⟨B + 2, 0, none⟩)) true ty).run Tryz.prog wr = _ := fun ty => Lib.run_next_end_at wr (B + 2) s at' ty hwi.i hat
      have HO : Hid (wr.ownsRow (B + 2 + 1) 5 1 u8 out.length (cellsZ out)) := hown
      have HWI : Hid (KB (a :: R) w.heap.size w wr ∧ SetIn wr q (.slice (some ⟨g, 0, none⟩) n cap) (a :: R) x) := ⟨hwi.kb, hwi.st⟩
      have HNE9 : Hid (u8 = .slice none 0 0 ∨ 0 < out.length) := hne
      clear hwi hown hmem hbz hne hrel H0 H16 H56 H57 H58 H27 HP
      go_wp2
      exact bodyPost_ret (v := .tuple #[u8, .nilIface]) (by simp [results, Tryz.results15, go_sem]) rfl ⟨HWI.out.1, HWI.out.2, u8, rfl, own_low HO.out (by omega), HBz.out, HNE9.out⟩
end Go.Proofs.YtegfgbcimlacbaaGreatDoor
