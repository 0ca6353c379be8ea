import Derived.Test.YtmhjjpdfjilobaaDoorPk
import Derived.Deep.Cut
/-
  DERIVED. Decode, by the program.
-/
namespace Go.Proofs.YtmhjjpdfjilobaaDoor
open Go Go.Proofs Go.RowKit

/-- The three kinds: what may stand in a text, what ends a piece. -/
def kdS : Nat → ByteArray := fun k => #[(⟨#[9, 10, 12, 13]⟩ : ByteArray), ⟨#[9, 10, 12, 13]⟩, ⟨#[]⟩, ⟨#[92]⟩, ⟨#[]⟩, ⟨#[92, 94, 61]⟩].getD k ⟨#[]⟩
structure Kinds (w : World) : Prop where
  p : ∀ i, i < 6 → w.cell? ⟨0, i, none⟩ = some (.string (kdS i))
theorem Kinds.on {w w' : World} (h : Kinds w) (hb : Below w.heap.size w w') : Kinds w' := ⟨fun i hi => (hb.cell (p := ⟨0, i, none⟩) (cell_lt (h.p i hi))).trans (h.p i hi)⟩
theorem kd_short : ∀ k : Fin 6, Short (kdS k.val) := by
  intro k
  match k with
  | ⟨0, _⟩ => exact (show Short (kdS 0) from ⟨by decide, by decide⟩)
  | ⟨1, _⟩ => exact (show Short (kdS 1) from ⟨by decide, by decide⟩)
  | ⟨2, _⟩ => exact (show Short (kdS 2) from ⟨by decide, by decide⟩)
  | ⟨3, _⟩ => exact (show Short (kdS 3) from ⟨by decide, by decide⟩)
  | ⟨4, _⟩ => exact (show Short (kdS 4) from ⟨by decide, by decide⟩)
  | ⟨5, _⟩ => exact (show Short (kdS 5) from ⟨by decide, by decide⟩)

def dcEnd : Except (Nat × Int) (List Int) → Except (Nat × Int) (List Int)
  | .error e => .error e
  | .ok out => if 65534 < out.length then .error (65534, 85) else .ok out
/-- What Decode tells. -/
def dcS (x : Bool) (a : Row) (R : List Row) (k : Int) (s : ByteArray) : Except (Nat × Int) (List Int) :=
  if k < 0 ∨ 3 ≤ k then .error (0, 84)
  else if 65534 < s.size then .error (65534, 85)
  else dcEnd (rdS x (kdS (2 * k.toNat)) (kdS (2 * k.toNat + 1)) a R s s.size 0 a [])

theorem bsZ_size (out : List Int) : (bsZ out).size = out.length := by simp [bsZ, ByteArray.size]

set_option maxRecDepth 100000 in
set_option maxHeartbeats 4000000 in
theorem decode20_any (w : World) (q : Nat) (v : Value) (a : Row) (R : List Row) (x : Bool) (k : Int) (ao : Option Addr) (cap : Nat) (s : ByteArray) (hset : SetIn w q v (a :: R) x) (hx : w.cell? ⟨q, 1, none⟩ = some (.bool x)) (hR6 : (a :: R).length ≤ 6) (hN : ∀ r ∈ a :: R, r.1 < 7)
    (hS : Spell w) (hT : Tabs w) (hU : ∀ w', Below w.heap.size w w' → Lib.Utf8Tabs 6 7 w') (hK : Kinds w) (hraw : ∀ w', Below w.heap.size w w' → (convert 43 9 (.slice ao s.size cap)).run Tryd.prog w' = .ok (.string s) w') :
    Calls Tryd.prog 20 #[.pointer (some ⟨q, 0, none⟩), .int .i64 k, .slice ao s.size cap] w (PostT w (dcS x a R k s)) := by
  have c42 := admits_any w q v a R x k (s.size : Int) hset
  unfold dcS
  by_cases hk : k < 0 ∨ 3 ≤ k
  · rw [if_pos hk]
    unfold admitS at c42
    rw [if_pos hk] at c42
    clear hset hx hR6 hN hS hT hU hK hraw
    go_enter Tryd.func20, Tryd.ntmps20
    go_wp2_with (go_at_call 42; refine Stop.mk ?_)
    refine Stop.out (c42.mono ?_)
    rintro e W1 ⟨u, rfl, ⟨g, rfl, hf⟩, hb1⟩
    have HV : Hid _ := hf
    clear hf
    go_wp2
    exact bodyPost_ret (v := .tuple #[.string ⟨#[]⟩, .iface 91 (.pointer (some ⟨g, 0, none⟩))]) (by simp [results, Tryd.results20, go_sem]) rfl ⟨hb1, _, rfl, g, rfl, HV.out⟩
  · rw [if_neg hk]
    by_cases hs : 65534 < s.size
    · rw [if_pos hs]
      unfold admitS fitS at c42
      rw [if_neg hk, if_pos (by omega)] at c42
      clear hset hx hR6 hN hS hT hU hK hraw
      go_enter Tryd.func20, Tryd.ntmps20
      go_wp2_with (go_at_call 42; refine Stop.mk ?_)
      refine Stop.out (c42.mono ?_)
      rintro e W1 ⟨u, rfl, ⟨g, rfl, hf⟩, hb1⟩
      have HV : Hid _ := hf
      clear hf
      go_wp2
      exact bodyPost_ret (v := .tuple #[.string ⟨#[]⟩, .iface 91 (.pointer (some ⟨g, 0, none⟩))]) (by simp [results, Tryd.results20, go_sem]) rfl ⟨hb1, _, rfl, g, rfl, HV.out⟩
    · rw [if_neg hs]
      unfold admitS fitS at c42
      rw [if_neg hk, if_neg (by omega)] at c42
      have kk : ∀ j : Nat, j < 3 → ∀ W, Below w.heap.size w W → (W.cell? ⟨0, 2 * j, none⟩ = some (.string (kdS (2 * j))) ∧ W.cell? ⟨0, 2 * j + 1, none⟩ = some (.string (kdS (2 * j + 1)))) ∧ Calls Tryd.prog 43 #[.pointer (some ⟨q, 0, none⟩), .agg #[.string (kdS (2 * j)), .string (kdS (2 * j + 1))], .string s] W (PostT W (rdS x (kdS (2 * j)) (kdS (2 * j + 1)) a R s s.size 0 a [])) := fun j hj W hb =>
        ⟨⟨(hK.on hb).p _ (by omega), (hK.on hb).p _ (by omega)⟩, read43_any W q v a R x _ _ s (hset.on hb) ((hb.cell (p := ⟨q, 1, none⟩) (cell_lt hx)).trans hx) hR6 hN (kd_short ⟨2 * j, by omega⟩) (kd_short ⟨2 * j + 1, by omega⟩) (hS.on hb) (hT.on hb) (fun w' hw' => hU w' (hb.trans (hw'.mono hb.size))) (by omega)⟩
      obtain ⟨j, hj, rfl⟩ : ∃ j : Nat, j < 3 ∧ k = (j : Int) := ⟨k.toNat, by omega, by omega⟩
      have hkk := kk j hj
      rw [Int.toNat_natCast]
      have HRAW : Hid _ := hraw
      obtain ⟨F, hF⟩ : ∃ F, rdS x (kdS (2 * j)) (kdS (2 * j + 1)) a R s s.size 0 a [] = F := ⟨_, rfl⟩
      rw [hF] at hkk ⊢
      generalize kdS (2 * j) = kc at *
      generalize kdS (2 * j + 1) = ke at *
      obtain ⟨G, hG⟩ : ∃ G, dcEnd F = G := ⟨_, rfl⟩
      rw [hG]
      have HG : Hid _ := hG
      clear hG
      have HKK : Hid _ := hkk
      clear hset hx hR6 hN hS hT hU hK hraw kk hF hkk
      have hjI : (j : Int) < 3 := by omega
      go_enter Tryd.func20, Tryd.ntmps20
      go_wp2_with (go_at_call 42; refine Stop.mk ?_)
      refine Stop.out (c42.mono ?_)
      rintro e W1 ⟨u, rfl, hu, hb1⟩
      obtain rfl : u = .nilIface := hu
      have HB1 : Hid _ := hb1
      obtain ⟨⟨g0, g1⟩, c43⟩ := HKK.out W1.drew hb1.drew
      have g0' : W1.cell? ⟨0, j * 2, none⟩ = some (.string kc) := by rw [Nat.mul_comm]; exact g0
      have g1' : W1.cell? ⟨0, j * 2 + 1, none⟩ = some (.string ke) := by rw [Nat.mul_comm]; exact g1
      have hcv := HRAW.out W1 hb1
      have hcv2 := HRAW.out W1.drew hb1.drew
      clear c42 hb1 g0 g1
      go_upto_region 4 with fail
      cases F with
      | error ic =>
        obtain ⟨i, c⟩ := ic
        have hG := HG.out
        simp only [dcEnd] at hG
        subst hG
        clear HG
        go_cut [9, 10] from 12 (fun s9 s10 wx => s9 = .string ⟨#[]⟩ ∧ Hid (Below w.heap.size w wx) ∧ ∃ g, s10 = .iface 91 (.pointer (some ⟨g, 0, none⟩)) ∧ Hid (FaultAt wx g (i : Int) c))
        case first =>
          go_region_with (first | (go_at_call 43; refine c43.mono ?_; rintro e W9 ⟨hb9, u, rfl, g, rfl, hf⟩; have HF9 : Hid _ := hf; have HB9 : Hid (Below w.heap.size w W9) := HB1.out.drew.trans (hb9.mono HB1.out.size); clear hf hb9) | fail)
          all_goals
            go_wp2_with fail
            go_meet
            case rel => exact ⟨rfl, HB9, g, rfl, HF9⟩
        case rest =>
          obtain ⟨rfl, HB, g, rfl, HFl⟩ := hcut
          clear c43 hcv hcv2 g0' g1'
          go_wp2
          exact bodyPost_ret (v := .tuple #[.string ⟨#[]⟩, .iface 91 (.pointer (some ⟨g, 0, none⟩))]) (by simp [results, Tryd.results20, go_sem]) rfl ⟨HB.out, _, rfl, g, rfl, HFl.out⟩
      | ok out =>
        go_cut [9, 10] from 12 (fun s9 s10 wx => s9 = .string (bsZ out) ∧ s10 = .nilIface ∧ Hid (Below w.heap.size w wx))
        case first =>
          go_region_with (first | (go_at_call 43; refine c43.mono ?_; rintro e W9 ⟨hb9, he⟩; simp only at he; subst he; have HB9 : Hid (Below w.heap.size w W9) := HB1.out.drew.trans (hb9.mono HB1.out.size); clear hb9) | fail)
          all_goals
            go_wp2_with fail
            go_meet
            case rel => exact ⟨rfl, rfl, HB9⟩
        case rest =>
          obtain ⟨rfl, rfl, HB⟩ := hcut
          clear c43 hcv hcv2 g0' g1'
          have c44 := fits_any wc ((bsZ out).size : Int)
          rw [bsZ_size] at c44
          have hsz := bsZ_size out
          unfold fitS at c44
          have hG := HG.out
          simp only [dcEnd] at hG
          clear HG
          by_cases hb : 65534 < out.length
          · rw [if_pos hb] at hG
            subst hG
            rw [if_pos (by omega)] at c44
            go_wp2_with (go_at_call 44; refine Stop.mk ?_)
            refine Stop.out (c44.mono ?_)
            rintro e W5 ⟨u, rfl, ⟨g, rfl, hf⟩, hb5⟩
            have HV : Hid _ := hf
            clear hf
            go_wp2
            exact bodyPost_ret (v := .tuple #[.string ⟨#[]⟩, .iface 91 (.pointer (some ⟨g, 0, none⟩))]) (by simp [results, Tryd.results20, go_sem]) rfl ⟨HB.out.trans (hb5.mono HB.out.size), _, rfl, g, rfl, HV.out⟩
          · rw [if_neg hb] at hG
            subst hG
            rw [if_neg (by omega)] at c44
            go_wp2_with (go_at_call 44; refine Stop.mk ?_)
            refine Stop.out (c44.mono ?_)
            rintro e W5 ⟨u, rfl, hu, hb5⟩
            obtain rfl : u = .nilIface := hu
            go_wp2
            exact bodyPost_ret (v := .tuple #[.string (bsZ out), .nilIface]) (by simp [results, Tryd.results20, go_sem]) rfl ⟨HB.out.trans (hb5.mono HB.out.size), rfl⟩
end Go.Proofs.YtmhjjpdfjilobaaDoor
