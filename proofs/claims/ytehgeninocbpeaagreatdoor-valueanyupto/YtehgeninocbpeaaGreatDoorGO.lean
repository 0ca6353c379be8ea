import Derived.Test.YtehgeninocbpeaaGreatDoorGN
import Derived.Test.YtehgeninocbpeaaGreatDoorGK
/-
  DERIVED. The program's folding, walked.
-/
namespace Go.Proofs.YtehgeninocbpeaaGreatDoor.Gl
open Go Go.Proofs Go.RowKit

theorem ext_data (s : ByteArray) (a b : Nat) : (s.extract a b).data.toList = bytesFrom s a b := rfl
theorem from_len (s : ByteArray) {a b : Nat} (h1 : a ≤ b) (h2 : b ≤ s.size) : (bytesFrom s a b).length = b - a := by
  unfold bytesFrom
  rw [Array.length_toList]
  show (s.extract a b).size = _
  rw [ByteArray.size_extract]
  omega
theorem fol_len (s : ByteArray) (n : Nat) : (fol s n).length = n := by unfold fol; simp

set_option maxRecDepth 100000 in
set_option maxHeartbeats 2000000 in
theorem fold_any (w : World) (s : ByteArray) (hs : s.size ≤ 2097152) :
    Calls Tryz.prog 98 #[.string s] w fun e w' => e = .returned (.string ⟨(fol s s.size).toArray⟩) ∧ Below w.heap.size w w' := by
  obtain ⟨i0, hi, hz0, hz1, hz2⟩ := info_parts u8Info
  obtain ⟨B, hB⟩ : ∃ B, w.heap.size = B := ⟨_, rfl⟩
  rw [hB]
  obtain ⟨E, hE⟩ : ∃ E, (⟨(fol s s.size).toArray⟩ : ByteArray) = E := ⟨_, rfl⟩
  have HE : Hid ((⟨(fol s s.size).toArray⟩ : ByteArray) = E) := hE
  rw [hE]
  clear hE
  go_enter Tryz.func98, Tryz.ntmps98
  go_wp2
  go_loopg [3, 4] s.size (fun g u y wr => ∃ (pos dn : Nat) (acc : List UInt8), y = .int .i64 (dn : Int) ∧ g = s.size - pos ∧ dn ≤ pos ∧ pos ≤ s.size ∧ acc.length ≤ s.size ∧ Hid (wr.ownsRow B 5 1 u acc.length (u8C acc)) ∧ Hid (wr.heap[B]? = some (.stringIter s pos)) ∧ Hid (Below B w wr) ∧ Hid (acc ++ bytesFrom s dn pos = fol s pos) ∧ Hid (Bd s pos))
  case atStart =>
    refine ⟨0, 0, [], rfl, by omega, by omega, by omega, by simp, World.ownsRow_nil _ _ _ _, ?_, ?_, ?_, ?_⟩
    · show _ = _; rw [← hB]; exact World.iter_heap w s 0
    · show Below _ _ _; rw [← hB]; exact (Below.refl _ w).alloc (Nat.le_refl _) _
    · show _ = _; rw [from_self]; rfl
    · intro h; omega
  case round =>
    obtain ⟨pos, dn, acc, rfl, hg, hdn, hps, hal, HO, HI, HBw, HA, HD⟩ := hrel
    have hBs : B < wr.heap.size := (Array.getElem?_eq_some_iff.1 HI.out).1
    by_cases hp : pos < s.size
    · have hnx : ∀ ty, (Instr.next (.pointer (some ⟨B, 0, none⟩)) true ty).run Tryz.prog wr = _ := fun ty => Lib.run_next_any_at wr B s pos ty HI.out hp
      have hwd := oneW_pos s pos hp
      have hd1 := decode_le s pos
      have HI1 : Hid ((wr.iterAt B s (pos + (Utf8.decode s pos).2)).heap[B]? = some (.stringIter s (pos + (Utf8.decode s pos).2))) := Lib.iterAt_heap wr B s pos (pos + (Utf8.decode s pos).2) HI.out
      have HO1 : Hid ((wr.iterAt B s (pos + (Utf8.decode s pos).2)).ownsRow B 5 1 u3 acc.length (u8C acc)) := own_iterAt HO.out HI.out (pos + (Utf8.decode s pos).2)
      have HB1 : Hid (Below B w (wr.iterAt B s (pos + (Utf8.decode s pos).2))) := Lib.below_iterAt HBw.out (k := B) (Nat.le_refl _) s (pos + (Utf8.decode s pos).2)
      have hsz1 : B < (wr.iterAt B s (pos + (Utf8.decode s pos).2)).heap.size := by
        rw [Lib.iterAt_size]; exact hBs
      have HD2 : Hid (Bd s (pos + (Utf8.decode s pos).2)) := bd_next s pos hp
      have hle : pos + (Utf8.decode s pos).2 ≤ s.size := next_le s pos hp
      have hw1 : 1 ≤ (Utf8.decode s pos).2 := hwd
      by_cases hc : Cap ((Utf8.decode s pos).1 : Nat)
      · obtain ⟨enc, he1, he2, he3, he4⟩ := fold_cap s pos hp hc
        have c16 := fun W => isCap_yes W _ hc
        have c18 := fun W => runeLen_cap W _ hc
        have e : oneW s pos = (Utf8.decode s pos).2 := rfl
        rw [e] at he2 he3 he4
        have c18' : ∀ W, Calls Tryz.prog 130 #[.int .i32 ((Utf8.decode s pos).1 : Nat)] W fun e w' => e = .returned (.int .i64 ((Utf8.decode s pos).2 : Nat)) ∧ W = w' := fun W => by
          have := c18 W
          by_cases h90 : (((Utf8.decode s pos).1 : Nat) : Int) ≤ 90
          · rw [if_pos h90] at this; rw [he3 h90]; exact this
          · rw [if_neg h90] at this; rw [he4 h90]; exact this
        have hr222 : (Utf8.decode s pos).1 ≤ 222 := by rcases hc with h | h <;> omega
        have HA2 : Hid (fol s (pos + (Utf8.decode s pos).2) = fol s pos ++ enc) := he2
        have HE1 : Hid (Lib.runeCells (((Utf8.decode s pos).1 : Nat) + 32) = u8C enc) := he1
        clear he1 he2 he3 he4 c18 hc e
        generalize (Utf8.decode s pos).1 = d1 at *
        generalize (Utf8.decode s pos).2 = d2 at *
        generalize wr.iterAt B s (pos + d2) = W1 at *
        have hzx : (s.extract dn pos).size = pos - dn := by rw [ByteArray.size_extract]; omega
        have HAl : Hid ((acc ++ bytesFrom s dn pos).length = pos) := by show _ = _; rw [HA.out, fol_len]
        have hal2 : acc.length + (s.extract dn pos).size = pos := by
          have := HAl.out
          rw [List.length_append, from_len s hdn hps] at this
          rw [hzx]; omega
        have h63 : acc.length + (s.extract dn pos).size ≤ maxLen := by rw [hal2]; unfold maxLen; omega
        have hby : acc.length + (s.extract dn pos).size ≤ 140737488355328 := by rw [hal2]; omega
        have hdI : (dn : Int) ≤ (pos : Int) := by omega
        have hpI : (pos : Int) ≤ (s.size : Int) := by omega
        clear hzx HAl
        clear HO HI HBw
        go_wp2_with (first | (go_at_call 128; refine (c16 _).mono ?_; rintro e w' ⟨rfl, rfl⟩) | (at_builtin; refine Stop.mk ?_))
        refine Stop.out ?_
        refine Lib.wpList_append_own_string _ rfl (.tmp 16) (.tmp 20) 87 9 rfl B 5 i0 Tryz.underlying87 Tryz.underlying9 hi hz0 hz1 hz2 u3 acc.length (u8C acc) rfl HO1.out (s.extract dn pos) rfl h63 hby (Nat.le_of_lt hsz1) ?_
        intro v2 W2 hown2 hgrow2 _
        rw [hal2, str_u8C, ← u8C_append, ext_data, HA.out] at hown2
        have HI2 : Hid (W2.heap[B]? = some (.stringIter s (pos + d2))) := iter_kept HO1.out hgrow2 HI1.out
        have HB2 : Hid (Below B w W2) := HB1.out.grown hgrow2 (Nat.le_of_lt hsz1) (fun k hk => (HO1.out.lt k hk).1)
        have hsz2 : B < W2.heap.size := (Array.getElem?_eq_some_iff.1 HI2.out).1
        have c17 := append_any B v2 pos (u8C (fol s pos)) ((d1 : Int) + 32) (by omega) (by omega) W2 hown2 (by omega) (Nat.le_of_lt hsz2)
        rw [HE1.out, ← u8C_append, ← HA2.out] at c17
        have HO2 : Hid (W2.ownsRow B 5 1 v2 pos (u8C (fol s pos))) := hown2
        have hlen : pos + (u8C enc).length = pos + d2 := by
          have := congrArg List.length HA2.out
          rw [List.length_append, fol_len, fol_len] at this
          unfold u8C
          rw [List.length_map]; omega
        rw [hlen] at c17
        clear hown2 hgrow2 hlen h63 hby hal2
        go_wp2_with (go_at_call 129; refine Stop.mk ?_)
        refine Stop.out (c17.mono ?_)
        rintro e W3 ⟨v3, rfl, hown3, o3, hgrow3⟩
        have HI3 : Hid (W3.heap[B]? = some (.stringIter s (pos + d2))) := iter_kept (HO2.out.alloc o3) hgrow3 ((Below.heap_alloc W2 o3 B hsz2).trans HI2.out)
        have HB3 : Hid (Below B w W3) := (HB2.out.alloc (Nat.le_of_lt hsz2) o3).grown hgrow3 (by simp; omega) (fun k hk => (HO2.out.lt k hk).1)
        have HO3 : Hid (W3.ownsRow B 5 1 v3 (fol s (pos + d2)).length (u8C (fol s (pos + d2)))) := by
          show World.ownsRow _ _ _ _ _ _ _
          rw [fol_len]; exact hown3
        clear hown3 hgrow3 c17
        go_wp2_with (go_at_call 130; refine (c18' _).mono ?_; rintro e w' ⟨rfl, rfl⟩)
        go_roundg (s.size - (pos + d2))
        case measure => omega
        case rel => exact ⟨pos + d2, pos + d2, fol s (pos + d2), by first | rfl | simp, rfl, by omega, hle, by rw [fol_len]; exact hle, HO3, HI3, HB3, by show _ = _; rw [from_self, List.append_nil], HD2⟩
      · have c16 := fun W => isCap_no W _ hc
        have HA2 : Hid (acc ++ bytesFrom s dn (pos + (Utf8.decode s pos).2) = fol s (pos + (Utf8.decode s pos).2)) := by
          have := fold_plain s pos hp HD.out hc
          show _ = _
          rw [from_add s hdn (show pos ≤ pos + (Utf8.decode s pos).2 by omega), ← List.append_assoc, HA.out]
          exact this.symm
        clear hc
        generalize (Utf8.decode s pos).1 = d1 at *
        generalize (Utf8.decode s pos).2 = d2 at *
        generalize wr.iterAt B s (pos + d2) = W1 at *
        clear HO HI HBw HA
        go_wp2_with (go_at_call 128; refine (c16 _).mono ?_; rintro e w' ⟨rfl, rfl⟩)
        go_roundg (s.size - (pos + d2))
        case measure => omega
        case rel => exact ⟨pos + d2, dn, acc, rfl, rfl, by omega, hle, hal, HO1, HI1, HB1, HA2, HD2⟩
    · obtain rfl : pos = s.size := by omega
      have hnx : ∀ ty, (Instr.next (.pointer (some ⟨B, 0, none⟩)) true ty).run Tryz.prog wr = _ := fun ty => Lib.run_next_end_at wr B s s.size ty HI.out hp
      have hzx : (s.extract dn s.size).size = s.size - dn := by rw [ByteArray.size_extract]; omega
      have hal2 : acc.length + (s.extract dn s.size).size = s.size := by
        have := congrArg List.length HA.out
        rw [List.length_append, from_len s hdn (Nat.le_refl _), fol_len] at this
        rw [hzx]; omega
      have h63 : acc.length + (s.extract dn s.size).size ≤ maxLen := by rw [hal2]; unfold maxLen; omega
      have hby : acc.length + (s.extract dn s.size).size ≤ 140737488355328 := by rw [hal2]; omega
      have hdI : (dn : Int) ≤ (s.size : Int) := by omega
      clear hzx
      go_wp2_with (at_builtin; refine Stop.mk ?_)
      refine Stop.out ?_
      refine Lib.wpList_append_own_string _ rfl (.tmp 30) (.tmp 33) 87 9 rfl B 5 i0 Tryz.underlying87 Tryz.underlying9 hi hz0 hz1 hz2 u3 acc.length (u8C acc) rfl HO.out (s.extract dn s.size) rfl h63 hby (Nat.le_of_lt hBs) ?_
      intro v2 W2 hown2 hgrow2 _
      have HB2 : Hid (Below B w W2) := HBw.out.grown hgrow2 (Nat.le_of_lt hBs) (fun k hk => (HO.out.lt k hk).1)
      rw [hal2, str_u8C, ← u8C_append, ext_data, HA.out] at hown2
      have hcv := conv_own (l := fol s s.size) (by rw [fol_len]; exact hown2)
      rw [HE.out] at hcv
      clear hown2 hgrow2
      go_wp2
      go_ret
      exact ⟨rfl, HB2.out⟩

end Go.Proofs.YtehgeninocbpeaaGreatDoor.Gl
