import Derived.Test.YtfjcmniicbppdaaM
import Derived.Deep.Cut
/-
  DERIVED. The document's framer at the end of a frame; its Take.
-/
namespace Go.Proofs.Ytfjcmniicbppdaa
open Go Go.Proofs Go.RowKit Go.Deep

theorem RB.on {w : World} {q : Nat} {v0 : Value} {W W' : World} {inn : Bool} {v : Value} {wt : Bool} {T : List Nat} (h : RB w q v0 W inn v wt T) (hb : Below W.heap.size W W') : RB w q v0 W' inn v wt T :=
  ⟨h.row.of_block (hb.block _ h.row.lt), ownsRow_below h.own hb (Nat.le_refl _), h.byt, h.res.of_block (hb.block _ h.res.lt), h.ch.trans (Ch.of_below (S := fun _ => False) hb) (fun _ _ e => e.elim), h.ub, h.lt⟩

theorem pairRow (W : World) (x y : Value) : ((W.alloc (.cells #[x, y] 37)).drew).rowIs W.heap.size 37 2 (fun i => if i = 0 then x else y) := by
  refine World.rowIs.drew (World.rowIs_alloc W #[x, y] 37 _ ?_)
  intro i hi
  have hi' : i < 2 := hi
  rcases (show i = 0 ∨ i = 1 by omega) with rfl | rfl <;> rfl

set_option maxRecDepth 100000 in
set_option maxHeartbeats 4000000 in
theorem byte3d {w : World} {q : Nat} {v : Value} {T : List Nat} (h : RF w q v 3 T) (hT : T.length ≤ 16777216) :
    Calls Try.prog 25 #[.pointer (some ⟨q, 0, none⟩), .int .u8 13] w (PB w q v (3, T) 13) := by
  obtain ⟨ao, cap, rfl⟩ := own_slice h.own
  have HB : Hid (RB w q (.slice ao T.length cap) (w.alloc (.cells #[.string ⟨#[]⟩, .bool false] 37)) _ (.slice ao T.length cap) _ T) := RB.start h
  have hne : w.heap.size ≠ q := by have := h.row.lt; omega
  have hne' : q ≠ w.heap.size := fun e => hne e.symm
  clear h
  have hgt : decide ((16384 : Int) < (T.length : Int)) = decide (16384 < T.length) := by congr 1; simp; omega
  go_enter Try.func25, Try.ntmps25
  go_upto_region 1 with fail
  generalize w.alloc (.cells #[.string ⟨#[]⟩, .bool false] 37) = W1 at *
  have HB : Hid (RB w q (.slice ao T.length cap) W1 true (.slice ao T.length cap) true T) := HB
  obtain ⟨c1, c2, c3, cf⟩ := HB.out.cells
  have kf : ∀ W', Below W1.heap.size W1 W' → Calls Try.prog 36 #[.slice ao T.length cap] W' fun e w' => e = .returned (.string (arr (T.take 16384))) ∧ W' = w' := fun W' hb => first_any (own_v (HB.out.on hb).own HB.out.byt) hT
  have HK : Hid (∀ W', Below W1.heap.size W1 W' → Calls Try.prog 36 #[.slice ao T.length cap] W' fun e w' => e = .returned (.string (arr (T.take 16384))) ∧ W' = w') := kf
  clear kf
  have hq1 : q < W1.heap.size := HB.out.row.lt
  have d2 : ∀ o, (W1.drew.alloc o).cell? ⟨q, 2, none⟩ = some (.slice ao T.length cap) := fun o => (World.cell?_of_block (w := W1) (w' := W1.drew.alloc o) (a := ⟨q, 2, none⟩) (blk_alloc_lt W1.drew o q hq1)).trans c2
  go_upto_region 2 with fail
  go_cut [6] from 7 (fun s6 wx => s6 = .pointer (some ⟨W1.heap.size, 0, none⟩) ∧ Hid (Below W1.heap.size W1 wx) ∧ Hid (wx.rowIs W1.heap.size 37 2 (fun i => if i = 0 then .string (arr (T.take 16384)) else .bool (decide (16384 < T.length)))))
  case first =>
    go_region_law (go_simp; go_at_call 36; refine (HK.out _ (by first | exact (Below.refl _ _).drew | exact ((Below.refl _ W1).drew.alloc (by simp) _))).mono ?_; rintro e w' ⟨rfl, rfl⟩)
    all_goals
      go_wp2
      go_meet
      case rel =>
        exact ⟨rfl, ((Below.refl _ _).alloc (Nat.le_refl _) _).drew, pairRow _ _ _⟩
  case rest =>
    obtain ⟨rfl, hb, hm⟩ := hcut
    have HBc : Hid (RB w q (.slice ao T.length cap) wc true (.slice ao T.length cap) true T) := HB.out.on hb.out
    have HF : Hid (RB w q (.slice ao T.length cap) (((wc.setCell ⟨q, 1, none⟩ (.bool false)).setCell ⟨q, 3, none⟩ (.bool false)).setCell ⟨q, 2, none⟩ (.slice none 0 0)) false (.slice none 0 0) false []) := ((HBc.out.set1 false).set3 false).nil
    have hm0 := hm.out.cell (i := 0) (by omega)
    have hm1 := hm.out.cell (i := 1) (by omega)
    simp only [if_pos, Nat.one_ne_zero] at hm0 hm1
    have n1 : W1.heap.size ≠ q := by omega
    have n2 : q ≠ W1.heap.size := by omega
    have n3 : W1.heap.size ≠ w.heap.size := by have := HB.out.res.lt; omega
    have n4 : w.heap.size ≠ W1.heap.size := by omega
    clear c1 c2 c3 cf d2 hb hm HK
    obtain ⟨c1, c2, c3, cf⟩ := HBc.out.cells
    obtain ⟨r0, r1, rf⟩ := HBc.out.rcells
    go_wp2
    refine bodyPost_ret (v := .tuple #[.agg #[.string (arr (T.take 16384)), .bool (decide (16384 < T.length))], .bool true]) (by simp [results, Try.results25, go_sem, *]) rfl ⟨?_, ?_⟩
    · simp [ot, ab, fOf]
    · exact RB.fin (s := 1) HF.out _ _
end Go.Proofs.Ytfjcmniicbppdaa
