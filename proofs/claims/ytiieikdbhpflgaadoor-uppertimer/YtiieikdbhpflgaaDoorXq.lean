import Derived.Test.YtiieikdbhpflgaaDoorXp
import Derived.Shelf.Abstract
/-
  DERIVED. Is an event complete? What an event does (Do), exactly.
-/
namespace Go.Proofs.YtiieikdbhpflgaaDoor
open Go Go.Proofs Go.RowKit

theorem enters_any : ∀ (f : Fin 17) (args : Array Value) (W : World), (callFunc (f.val + 65) args).run Tryd.prog W = .ok (.enter (f.val + 65) args) W
  | ⟨0, _⟩, args, W => enters_of Tryd.func65 (by kernel_rfl) rfl args W
  | ⟨1, _⟩, args, W => enters_of Tryd.func66 (by kernel_rfl) rfl args W
  | ⟨2, _⟩, args, W => enters_of Tryd.func67 (by kernel_rfl) rfl args W
  | ⟨3, _⟩, args, W => enters_of Tryd.func68 (by kernel_rfl) rfl args W
  | ⟨4, _⟩, args, W => enters_of Tryd.func69 (by kernel_rfl) rfl args W
  | ⟨5, _⟩, args, W => enters_of Tryd.func70 (by kernel_rfl) rfl args W
  | ⟨6, _⟩, args, W => enters_of Tryd.func71 (by kernel_rfl) rfl args W
  | ⟨7, _⟩, args, W => enters_of Tryd.func72 (by kernel_rfl) rfl args W
  | ⟨8, _⟩, args, W => enters_of Tryd.func73 (by kernel_rfl) rfl args W
  | ⟨9, _⟩, args, W => enters_of Tryd.func74 (by kernel_rfl) rfl args W
  | ⟨10, _⟩, args, W => enters_of Tryd.func75 (by kernel_rfl) rfl args W
  | ⟨11, _⟩, args, W => enters_of Tryd.func76 (by kernel_rfl) rfl args W
  | ⟨12, _⟩, args, W => enters_of Tryd.func77 (by kernel_rfl) rfl args W
  | ⟨13, _⟩, args, W => enters_of Tryd.func78 (by kernel_rfl) rfl args W
  | ⟨14, _⟩, args, W => enters_of Tryd.func79 (by kernel_rfl) rfl args W
  | ⟨15, _⟩, args, W => enters_of Tryd.func80 (by kernel_rfl) rfl args W
  | ⟨16, _⟩, args, W => enters_of Tryd.func81 (by kernel_rfl) rfl args W
  | ⟨n + 17, h⟩, _, _ => absurd h (by omega)

theorem fn_in : ∀ k : Fin 30, 65 ≤ fnA (k.val + 1) ∧ fnA (k.val + 1) ≤ 81 := by decide +kernel

/-- Behind an action: all of it. -/
def stepN (n : Nat) (S : Prov) (d : EvD) : Prov := nextS (fnA (whichA n S.asked d.bad)) (timerA (whichA n S.asked d.bad)) (thenA (whichA n S.asked d.bad)) S d
def actsN (n : Nat) (S : Prov) (d : EvD) : List AcD := doesL (fnA (whichA n S.asked d.bad)) (wordA (whichA n S.asked d.bad)) S.K d
def ActN (n : Nat) (w : World) (p : Nat) (S : Prov) (d : EvD) (x : Ending) (w' : World) : Prop :=
  ∃ v PV' c', x = .returned v ∧ AR w.heap.size w' v (actsN n S d) ∧ PvS w' p PV' c' (stepN n S d) ∧ BelBut p w w'
theorem act33_any (w : World) (p e : Nat) (PV EV : Array Value) (c0 : Fin 18 → Value) (S : Prov) (d : EvD) (n : Nat) (h0 : 0 < n) (h1 : n ≤ 28) (hP : PvS w p PV c0 S) (he : w.heap[e]? = some (.cells EV 50)) (hE : EvY w EV d) :
    Calls Tryd.prog 33 #[.pointer (some ⟨p, 0, none⟩), .int .i64 (n : Int), .pointer (some ⟨e, 0, none⟩)] w (ActN n w p S d) := by
  obtain ⟨hr0, hr1⟩ := which_lt S.asked d.bad h0 h1
  have hf := fn_in ⟨whichA n S.asked d.bad - 1, by omega⟩
  rw [show whichA n S.asked d.bad - 1 + 1 = whichA n S.asked d.bad by omega] at hf
  obtain ⟨g, hg⟩ : ∃ g : Fin 17, fnA (whichA n S.asked d.bad) = g.val + 65 := ⟨⟨fnA (whichA n S.asked d.bad) - 65, by omega⟩, by show _ = _ - 65 + 65; omega⟩
  have h := act33_row w p e PV EV c0 S d (n : Int) (fnA (whichA n S.asked d.bad)) (wordA (whichA n S.asked d.bad)) (timerA (whichA n S.asked d.bad)) (thenA (whichA n S.asked d.bad)) hP he hE
    (fun W => actionOf_any W n S.asked d.bad h0 h1) (fun W => by rw [hg]; exact enters_any g _ W)
    (fun W hx hh hy => by
      rw [hg]
      exact does_any g _ hx hP.same ⟨_, hP.v3⟩ hh hy)
  exact h

/-- Which PDU an event's kind needs. -/
def ndA : List Nat := [0, 1, 0, 2, 3, 0, 1, 2, 3, 4, 4, 0, 5, 6, 0, 0, 7, 0, 0, 0]
def Nd (w : World) : Prop := ∀ k, k < 20 → w.cell? ⟨2, k, none⟩ = some (.int .u8 ((ndA.getD k 0 : Nat) : Int))
theorem Nd.lt {w : World} (h : Nd w) : 2 < w.heap.size := cell_lt (h 0 (by omega))
theorem Nd.on {w w' : World} (h : Nd w) (hb : Below w.heap.size w w') : Nd w' := fun k hk => (hb.cell (p := ⟨2, k, none⟩) h.lt).trans (h k hk)
def complB (kd k1 : Int) (bad : Bool) (k2 : Int) : Bool :=
  if ((ndA.getD kd.toNat 0 : Nat) : Int) ≠ 0 ∧ k1 ≠ ((ndA.getD kd.toNat 0 : Nat) : Int) then false else if kd ≠ 6 then true else if bad = false then true else decide (k2 = 3)
set_option maxRecDepth 100000 in
theorem complete_6 (w : World) (e : Nat) (k1 k2 : Int) (bad : Bool) (hN : w.cell? ⟨2, 6, none⟩ = some (.int .u8 1)) (c0 : w.cell? ⟨e, 0, none⟩ = some (.int .i64 6)) (c1 : w.cell? ⟨e, 1, none⟩ = some (.int .i64 k1)) (c20 : w.cell? ⟨e, 20, none⟩ = some (.bool bad)) (c21 : w.cell? ⟨e, 21, none⟩ = some (.int .i64 k2)) :
    Calls Tryd.prog 32 #[.pointer (some ⟨e, 0, none⟩)] w fun x w' => x = .returned (.bool (complB 6 k1 bad k2)) ∧ w' = w := by
  by_cases a : k1 = 1
  · subst a
    cases bad
    · go_enter Tryd.func32, Tryd.ntmps32
      go_wp2
      go_ret
      exact ⟨rfl, rfl⟩
    · by_cases b : k2 = 3
      · subst b
        go_enter Tryd.func32, Tryd.ntmps32
        go_wp2
        go_ret
        exact ⟨rfl, rfl⟩
      · have b2 : (k2 == 3) = false := by simpa using b
        have hr : complB 6 1 true k2 = false := by unfold complB; rw [if_neg (by decide), if_neg (by decide), if_neg (by decide)]; simpa using b
        rw [hr]
        clear b hr
        go_enter Tryd.func32, Tryd.ntmps32
        go_wp2
        go_ret
        exact ⟨rfl, rfl⟩
  · have b2 : (k1 == 1) = false := by simpa using a
    have hr : complB 6 k1 bad k2 = false := by unfold complB; rw [if_pos ⟨by decide, a⟩]
    rw [hr]
    clear a hr
    go_enter Tryd.func32, Tryd.ntmps32
    go_wp2
    go_ret
    exact ⟨rfl, rfl⟩
set_option maxRecDepth 100000 in
theorem complete_any (w : World) (e : Nat) (kd k1 k2 : Int) (bad : Bool) (h0 : 0 ≤ kd) (h1 : kd ≤ 19) (hN : Nd w) (c0 : w.cell? ⟨e, 0, none⟩ = some (.int .i64 kd)) (c1 : w.cell? ⟨e, 1, none⟩ = some (.int .i64 k1)) (c20 : w.cell? ⟨e, 20, none⟩ = some (.bool bad)) (c21 : w.cell? ⟨e, 21, none⟩ = some (.int .i64 k2)) :
    Calls Tryd.prog 32 #[.pointer (some ⟨e, 0, none⟩)] w fun x w' => x = .returned (.bool (complB kd k1 bad k2)) ∧ w' = w := by
  by_cases k6 : kd = 6
  · subst k6
    exact complete_6 w e k1 k2 bad (hN 6 (by omega)) c0 c1 c20 c21
  obtain ⟨k, rfl⟩ : ∃ k : Nat, kd = (k : Int) := ⟨kd.toNat, by omega⟩
  have hk : k < 20 := by omega
  have hc := hN k hk
  have b6 : ((k : Int) == 6) = false := by simpa using k6
  unfold complB
  rw [Int.toNat_natCast, if_pos k6]
  have hv : ndA.getD k 0 < 256 := by
    have : ∀ j : Fin 20, ndA.getD j.val 0 < 256 := by decide +kernel
    exact this ⟨k, hk⟩
  generalize ndA.getD k 0 = V at hc hv ⊢
  have K6 : Hid ((k : Int) ≠ 6) := k6
  clear k6 b6
  by_cases a : ((V : Nat) : Int) ≠ 0 ∧ k1 ≠ (V : Int)
  · rw [if_pos a]
    obtain ⟨a1, a2⟩ := a
    have A1 : Hid ((V : Int) ≠ 0 ∧ k1 ≠ (V : Int)) := ⟨a1, a2⟩
    clear a1 a2
    go_enter Tryd.func32, Tryd.ntmps32
    go_wp2
    all_goals first | (exfalso; have := K6.out; have := A1.out; omega) | (exfalso; obtain ⟨a1, a2⟩ := A1.out; simp_all; done) | (exfalso; obtain ⟨a1, a2⟩ := A1.out; simp_all; omega) | (go_ret; exact ⟨rfl, rfl⟩)
  · rw [if_neg a]
    by_cases z : (V : Int) = 0
    · obtain rfl : V = 0 := by omega
      clear a z
      go_enter Tryd.func32, Tryd.ntmps32
      go_wp2
      all_goals first | (exfalso; have := K6.out; omega) | (go_ret; exact ⟨rfl, rfl⟩)
    · have Z1 : Hid (¬ (V : Int) = 0) := z
      obtain rfl : k1 = (V : Int) := by
        by_cases e2 : k1 = (V : Int)
        · exact e2
        · exact absurd ⟨z, e2⟩ a
      clear a z
      go_enter Tryd.func32, Tryd.ntmps32
      go_wp2
      all_goals first | (exfalso; have := K6.out; have := Z1.out; omega) | (go_ret; exact ⟨rfl, rfl⟩)
end Go.Proofs.YtiieikdbhpflgaaDoor
