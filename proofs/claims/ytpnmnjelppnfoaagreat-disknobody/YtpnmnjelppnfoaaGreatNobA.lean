import Derived.Test.YtpnmnjelppnfoaaGreatRows
import Derived.WalkKit
import Derived.WalkSpells
import Derived.WalkLawsBesides
namespace Go.Proofs.YtpnmnjelppnfoaaGreat
open Go.RowKit

/-- A disk that nobody made: nil, or one whose directory is the nil map. -/
def Nob (w : World) (p : Option Addr) : Prop := p = none ∨ ∃ b, p = some ⟨b, 0, none⟩ ∧ w.cell? ⟨b, 6, none⟩ = some (.map none)

theorem Nob.below {w w' : World} {p : Option Addr} {n : Nat} (h : Nob w p) (hb : Below n w w') (hp : ∀ b, p = some ⟨b, 0, none⟩ → b < n) : Nob w' p := by
  rcases h with h | ⟨b, rfl, hc⟩
  · exact .inl h
  · exact .inr ⟨b, rfl, (hb.cell (p := ⟨b, 6, none⟩) (hp b rfl)).trans hc⟩

set_option maxHeartbeats 400000 in
theorem made_nil (w : World) : Calls Tryz.prog 46 #[.pointer none] w fun e w' => e = .returned (.bool false) ∧ w' = w := by
  go_enter Tryz.func46, Tryz.ntmps46
  go_wp2
  go_ret
  exact ⟨rfl, rfl⟩


set_option maxHeartbeats 400000 in
theorem made_plain (b : Nat) (w : World) (h : w.cell? ⟨b, 6, none⟩ = some (.map none)) : Calls Tryz.prog 46 #[.pointer (some ⟨b, 0, none⟩)] w fun e w' => e = .returned (.bool false) ∧ w' = w := by
  have hn := fun (w : World) (r : Option Nat) => run_neq_map_nil w 27 9 98 r Tryz.underlying27
  go_enter Tryz.func46, Tryz.ntmps46
  go_wp2
  go_ret
  exact ⟨rfl, rfl⟩

theorem made_no (p : Option Addr) (w : World) (h : Nob w p) : Calls Tryz.prog 46 #[.pointer p] w fun e w' => e = .returned (.bool false) ∧ w = w' := by
  rcases h with rfl | ⟨b, rfl, hc⟩
  · exact (made_nil w).mono fun e w' h => ⟨h.1, h.2.symm⟩
  · exact (made_plain b w hc).mono fun e w' h => ⟨h.1, h.2.symm⟩

set_option maxHeartbeats 400000 in
theorem refuse_no (p : Option Addr) (v : Value) (w : World) (h : Nob w p) : Calls Tryz.prog 41 #[.pointer p, v] w fun e w' => e = .returned (.int .i64 3) ∧ w = w' := by
  go_enter Tryz.func41, Tryz.ntmps41
  go_wp2_with (go_at_call 46; refine (made_no _ _ h).mono ?_; rintro e w' ⟨rfl, rfl⟩)
  go_ret
  exact ⟨rfl, rfl⟩

set_option maxHeartbeats 400000 in
theorem find_no (p : Option Addr) (v : ByteArray) (w : World) (h : Nob w p) (hp : ∀ b, p = some ⟨b, 0, none⟩ → b < w.heap.size) : Calls Tryz.prog 50 #[.pointer p, .string v] w fun e w' => e = .returned (.tuple #[.pointer none, .int .i64 3]) ∧ Below w.heap.size w w' := by
  have h1 : ∀ o, Nob (w.alloc o) p := fun o => h.below ((Below.refl _ _).alloc (Nat.le_refl _) _) hp
  go_enter Tryz.func50, Tryz.ntmps50
  go_wp2_with (go_at_call 41; refine (refuse_no _ _ _ (h1 _)).mono ?_; rintro e w' ⟨rfl, rfl⟩)
  go_ret2
  exact ⟨rfl, (Below.refl _ _).alloc (Nat.le_refl _) _⟩

set_option maxHeartbeats 400000 in
theorem quota_no (p : Option Addr) (n : Int) (w : World) (h : Nob w p) : Calls Tryz.prog 11 #[.pointer p, .int .i64 n] w fun e w' => (∃ v, e = .returned v) ∧ w = w' := by
  go_enter Tryz.func11, Tryz.ntmps11
  go_wp2_with (go_at_call 46; refine (made_no _ _ h).mono ?_; rintro e w' ⟨rfl, rfl⟩)
  refine bodyPost_ret (results_none rfl _ _ _) rfl ?_
  exact ⟨⟨_, rfl⟩, rfl⟩
end Go.Proofs.YtpnmnjelppnfoaaGreat
