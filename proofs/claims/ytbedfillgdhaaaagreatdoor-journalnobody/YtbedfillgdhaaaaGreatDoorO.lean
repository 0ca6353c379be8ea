import Derived.Test.YtbedfillgdhaaaaGreatDoorN
namespace Go.Proofs.YtbedfillgdhaaaaGreatDoor
open Go Go.Proofs Go.RowKit

/-- A disk that nobody made: nil, or one whose directory is the nil map. -/
def Nob (w : World) (p : Option Addr) : Prop := p = none ∨ ∃ b, p = some ⟨b, 0, none⟩ ∧ w.cell? ⟨b, 6, none⟩ = some (.map none)

theorem Nob.next {w w' : World} {p : Option Addr} (h : Nob w p) (hb : Below w.heap.size w w') : Nob w' p := by
  rcases h with h | ⟨b, rfl, hc⟩
  · exact .inl h
  · exact .inr ⟨b, rfl, (hb.cell (p := ⟨b, 6, none⟩) (cell_lt hc)).trans hc⟩

theorem made_no (p : Option Addr) (w : World) (h : Nob w p) : Calls Tryz.prog 71 #[.pointer p] w fun e w' => e = .returned (.bool false) ∧ w = w' := by
  rcases h with rfl | ⟨b, rfl, hc⟩
  · go_enter Tryz.func71, Tryz.ntmps71
    go_wp2
    go_ret
    exact ⟨rfl, rfl⟩
  · have hn := fun (w : World) (r : Option Nat) => run_neq_map_nil w 41 _ _ r Tryz.underlying41
    go_enter Tryz.func71, Tryz.ntmps71
    go_wp2
    go_ret
    exact ⟨rfl, rfl⟩

theorem refuse_no (p : Option Addr) (v : Value) (w : World) (h : Nob w p) : Calls Tryz.prog 126 #[.pointer p, v] w fun e w' => e = .returned (.int .i64 3) ∧ w = w' := by
  go_enter Tryz.func126, Tryz.ntmps126
  go_wp2_with (go_at_call 71; refine (made_no _ _ h).mono ?_; rintro e w' ⟨rfl, rfl⟩)
  go_ret
  exact ⟨rfl, rfl⟩

theorem find_no (p : Option Addr) (v : ByteArray) (w : World) (h : Nob w p) : Calls Tryz.prog 170 #[.pointer p, .string v] w fun e w' => e = .returned (.tuple #[.pointer none, .int .i64 3]) ∧ Below w.heap.size w w' := by
  have h1 : ∀ o, Nob (w.alloc o) p := fun o => h.next ((Below.refl _ _).alloc (Nat.le_refl _) _)
  go_enter Tryz.func170, Tryz.ntmps170
  go_wp2_with (go_at_call 126; refine (refuse_no _ _ _ (h1 _)).mono ?_; rintro e w' ⟨rfl, rfl⟩)
  go_ret2
  exact ⟨rfl, (Below.refl _ _).alloc (Nat.le_refl _) _⟩

theorem size_no (p : Option Addr) (v : ByteArray) (w : World) (h : Nob w p) : Calls Tryz.prog 110 #[.pointer p, .string v] w fun e w' => e = .returned (.tuple #[.int .i64 0, .int .i64 3]) ∧ Below w.heap.size w w' := by
  go_enter Tryz.func110, Tryz.ntmps110
  go_wp2_with (go_at_call 170; refine (find_no _ _ _ h).mono ?_; rintro e w' ⟨rfl, hb⟩)
  go_ret2
  exact ⟨rfl, hb⟩

/-- A fault of this layer: this number, as it lies in memory. -/
def FaultAt (w : World) (q : Nat) (c : Int) : Prop :=
  w.cell? ⟨q, 0, none⟩ = some (.string { data := #[106, 111, 117, 114, 110, 97, 108] }) ∧ w.cell? ⟨q, 1, none⟩ = some (.int .i64 0) ∧ w.cell? ⟨q, 2, none⟩ = some (.iface 122 (.int .i64 c))

theorem FaultAt.next {w w' : World} {q : Nat} {c : Int} (h : FaultAt w q c) (hb : Below w.heap.size w w') : FaultAt w' q c :=
  ⟨(hb.cell (cell_lt h.1)).trans h.1, (hb.cell (cell_lt h.2.1)).trans h.2.1, (hb.cell (cell_lt h.2.2)).trans h.2.2⟩

theorem refusal_fault (c : Int) (w : World) : Calls Tryz.prog 53 #[.int .i64 0, .int .i64 c] w fun e w' => ∃ q, e = .returned (.iface 155 (.pointer (some ⟨q, 0, none⟩))) ∧ FaultAt w' q c ∧ Below w.heap.size w w' := by
  refine (refusal_any 0 c w).mono ?_
  rintro e w' ⟨rfl, rfl⟩
  exact ⟨_, rfl, ⟨by simp, by simp, by simp⟩, (Below.refl _ _).alloc (Nat.le_refl _) _⟩

theorem check_no (p : Option Addr) (w : World) (h : Nob w p) : Calls Tryz.prog 45 #[.pointer p] w fun e w' => ∃ q, e = .returned (.iface 155 (.pointer (some ⟨q, 0, none⟩))) ∧ FaultAt w' q 3 ∧ Below w.heap.size w w' := by
  go_enter Tryz.func45, Tryz.ntmps45
  go_wp2_with (first | (go_at_call 110; refine (size_no _ _ _ h).mono ?_; rintro e W1 ⟨rfl, hb1⟩) | (go_at_call 53; refine (refusal_fault _ _).mono ?_; rintro e W2 ⟨q, rfl, hf, hb2⟩))
  go_ret
  exact ⟨q, rfl, hf, hb1.trans (hb2.mono hb1.size)⟩

theorem open_no (p : Option Addr) (w : World) (h : Nob w p) : Calls Tryz.prog 10 #[.pointer p] w fun e w' => ∃ q, e = .returned (.tuple #[.pointer none, .slice none 0 0, .slice none 0 0, .iface 155 (.pointer (some ⟨q, 0, none⟩))]) ∧ FaultAt w' q 3 ∧ Below w.heap.size w w' := by
  go_enter Tryz.func10, Tryz.ntmps10
  go_wp2_with (go_at_call 45; refine (check_no _ _ h).mono ?_; rintro e W1 ⟨q, rfl, hf, hb1⟩)
  exact bodyPost_ret (v := .tuple #[.pointer none, .slice none 0 0, .slice none 0 0, .iface 155 (.pointer (some ⟨q, 0, none⟩))]) (by simp [results, Tryz.results10, go_sem]) rfl ⟨q, rfl, hf, hb1⟩

/-- A journal that nobody made. -/
def NobJ (w : World) (p : Option Addr) : Prop := p = none ∨ ∃ b, p = some ⟨b, 0, none⟩ ∧ w.cell? ⟨b, 0, none⟩ = some (.pointer none)

theorem NobJ.next {w w' : World} {p : Option Addr} (h : NobJ w p) (hb : Below w.heap.size w w') : NobJ w' p := by
  rcases h with h | ⟨b, rfl, hc⟩
  · exact .inl h
  · exact .inr ⟨b, rfl, (hb.cell (p := ⟨b, 0, none⟩) (cell_lt hc)).trans hc⟩

theorem jmade_no (p : Option Addr) (w : World) (h : NobJ w p) : Calls Tryz.prog 66 #[.pointer p] w fun e w' => e = .returned (.bool false) ∧ w = w' := by
  rcases h with rfl | ⟨b, rfl, hc⟩
  · go_enter Tryz.func66, Tryz.ntmps66
    go_wp2
    go_ret
    exact ⟨rfl, rfl⟩
  · go_enter Tryz.func66, Tryz.ntmps66
    go_wp2
    go_ret
    exact ⟨rfl, rfl⟩

theorem usable_no (p : Option Addr) (w : World) (h : NobJ w p) : Calls Tryz.prog 51 #[.pointer p] w fun e w' => ∃ q, e = .returned (.iface 155 (.pointer (some ⟨q, 0, none⟩))) ∧ FaultAt w' q 3 ∧ Below w.heap.size w w' := by
  go_enter Tryz.func51, Tryz.ntmps51
  go_wp2_with (first | (go_at_call 66; refine (jmade_no _ _ h).mono ?_; rintro e w' ⟨rfl, rfl⟩) | (go_at_call 53; refine (refusal_fault _ _).mono ?_; rintro e W2 ⟨q, rfl, hf, hb2⟩))
  go_ret
  exact ⟨q, rfl, hf, hb2⟩

theorem commit_no (p : Option Addr) (v : Value) (w : World) (h : NobJ w p) : Calls Tryz.prog 12 #[.pointer p, v] w fun e w' => ∃ q, e = .returned (.iface 155 (.pointer (some ⟨q, 0, none⟩))) ∧ FaultAt w' q 3 ∧ Below w.heap.size w w' := by
  go_enter Tryz.func12, Tryz.ntmps12
  go_wp2_with (go_at_call 51; refine (usable_no _ _ h).mono ?_; rintro e W2 ⟨q, rfl, hf, hb2⟩)
  go_ret
  exact ⟨q, rfl, hf, hb2⟩

theorem compact_no (p : Option Addr) (v : Value) (w : World) (h : NobJ w p) : Calls Tryz.prog 13 #[.pointer p, v] w fun e w' => ∃ q, e = .returned (.iface 155 (.pointer (some ⟨q, 0, none⟩))) ∧ FaultAt w' q 3 ∧ Below w.heap.size w w' := by
  go_enter Tryz.func13, Tryz.ntmps13
  go_wp2_with (go_at_call 51; refine (usable_no _ _ h).mono ?_; rintro e W2 ⟨q, rfl, hf, hb2⟩)
  go_ret
  exact ⟨q, rfl, hf, hb2⟩

theorem count_no (p : Option Addr) (w : World) (h : NobJ w p) : Calls Tryz.prog 14 #[.pointer p] w fun e w' => e = .returned (.int .i64 0) ∧ w = w' := by
  go_enter Tryz.func14, Tryz.ntmps14
  go_wp2_with (go_at_call 66; refine (jmade_no _ _ h).mono ?_; rintro e w' ⟨rfl, rfl⟩)
  go_ret
  exact ⟨rfl, rfl⟩

theorem state_no (p : Option Addr) (w : World) (h : NobJ w p) : Calls Tryz.prog 15 #[.pointer p] w fun e w' => e = .returned (.agg #[.int .u64 0, .int .i64 0, .int .i64 0, .int .i64 0, .string { data := #[] }, .bool false]) ∧ Below w.heap.size w w' := by
  have h1 : ∀ o, NobJ (w.alloc o) p := fun o => h.next ((Below.refl _ _).alloc (Nat.le_refl _) _)
  go_enter Tryz.func15, Tryz.ntmps15
  go_wp2_with (go_at_call 66; refine (jmade_no _ _ (h1 _)).mono ?_; rintro e w' ⟨rfl, rfl⟩)
  exact bodyPost_ret (v := .agg #[.int .u64 0, .int .i64 0, .int .i64 0, .int .i64 0, .string { data := #[] }, .bool false]) (by simp [results, Tryz.results15, go_sem]) rfl ⟨rfl, (Below.refl _ _).alloc (Nat.le_refl _) _⟩
end Go.Proofs.YtbedfillgdhaaaaGreatDoor
