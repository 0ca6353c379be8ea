import Derived.Test.YtidcjobokfgeoaaN
import Derived.Test.YtidcjobokfgeoaaO
import Derived.Test.YtidcjobokfgeoaaQ
/-
  DERIVED. The law of rows.
-/
namespace Go.Proofs.Ytidcjobokfgeoaa
open Go Go.Proofs Go.RowKit

def yOne : Nat → ByteArray := fun i => if i = 0 then ⟨#[49]⟩ else ⟨#[]⟩
def us3 (ga ca go co gb cb : Nat) : Nat → Value
  | 0 => .slice (some ⟨ga, 0, none⟩) 22 ca
  | 1 => .slice (some ⟨go, 0, none⟩) 22 co
  | _ => .slice (some ⟨gb, 0, none⟩) 22 cb
def cs3 (x : Nat → ByteArray) (z : Int) : Nat → List Value
  | 0 => ans x z 22
  | 1 => ans yOne 0 22
  | _ => ans x z 22
theorem three {i : Nat} (h : i < 3) : i = 0 ∨ i = 1 ∨ i = 2 := by omega

theorem free3 {w W : World} {x : Nat → ByteArray} {z : Int} {ga ca go co gb cb : Nat} (hb : Below w.heap.size w W) (h1 : W.ownsRow w.heap.size 41 4 (.slice (some ⟨ga, 0, none⟩) 22 ca) 22 (ans x z 22)) (h2 : W.ownsRow w.heap.size 41 4 (.slice (some ⟨go, 0, none⟩) 22 co) 22 (ans yOne 0 22)) (h3 : W.ownsRow w.heap.size 41 4 (.slice (some ⟨gb, 0, none⟩) 22 cb) 22 (ans x z 22))
    (h12 : ga ≠ go) (h13 : ga ≠ gb) (h23 : go ≠ gb) :
    Calls Try.prog 7 #[.slice (some ⟨W.heap.size, 0, none⟩) 3 3] (W.alloc (.cells #[.slice (some ⟨ga, 0, none⟩) 22 ca, .slice (some ⟨go, 0, none⟩) 22 co, .slice (some ⟨gb, 0, none⟩) 22 cb] 24)) fun e w' => e = .returned (.bool true) ∧ Below w.heap.size w w' := by
  obtain ⟨X, hX⟩ : ∃ X, X = W.alloc (.cells #[.slice (some ⟨ga, 0, none⟩) 22 ca, .slice (some ⟨go, 0, none⟩) 22 co, .slice (some ⟨gb, 0, none⟩) 22 cb] 24) := ⟨_, rfl⟩
  have hh : X.heap[W.heap.size]? = some (.cells #[.slice (some ⟨ga, 0, none⟩) 22 ca, .slice (some ⟨go, 0, none⟩) 22 co, .slice (some ⟨gb, 0, none⟩) 22 cb] 24) := by rw [hX]; exact heap_new W _
  have o1 := World.ownsRow.alloc h1 (.cells #[.slice (some ⟨ga, 0, none⟩) 22 ca, .slice (some ⟨go, 0, none⟩) 22 co, .slice (some ⟨gb, 0, none⟩) 22 cb] 24)
  have o2 := World.ownsRow.alloc h2 (.cells #[.slice (some ⟨ga, 0, none⟩) 22 ca, .slice (some ⟨go, 0, none⟩) 22 co, .slice (some ⟨gb, 0, none⟩) 22 cb] 24)
  have o3 := World.ownsRow.alloc h3 (.cells #[.slice (some ⟨ga, 0, none⟩) 22 ca, .slice (some ⟨go, 0, none⟩) 22 co, .slice (some ⟨gb, 0, none⟩) 22 cb] 24)
  rw [← hX] at o1 o2 o3 ⊢
  have hbX : Below w.heap.size w X := by rw [hX]; exact hb.alloc hb.size _
  have l1 := (h1.lt ga rfl)
  have l2 := (h2.lt go rfl)
  have l3 := (h3.lt gb rfl)
  clear hX
  have hF : Fam 3 W.heap.size 0 (us3 ga ca go co gb cb) (fun _ => 22) := by
    refine ⟨by decide, fun i hi => ?_, fun _ _ => by decide, fun i j hi hj hij g => ?_, fun i hi => ?_⟩
    · rcases three hi with rfl | rfl | rfl <;> exact ⟨_, _, rfl, fun _ => ⟨_, rfl⟩⟩
    · intro e1 e2
      rcases three hi with rfl | rfl | rfl <;> rcases three hj with rfl | rfl | rfl <;> first | exact hij rfl | (simp [us3, Value.ownBlock] at e1 e2; omega)
    · intro e1
      rcases three hi with rfl | rfl | rfl <;> (simp [us3, Value.ownBlock] at e1; omega)
  have h0 : FA X 3 W.heap.size 0 (us3 ga ca go co gb cb) (fun _ => 22) (cs3 x z) X := by
    refine ⟨fun i hi => ?_, fun i hi => ?_, KR.refl _ _ _⟩
    · rcases three hi with rfl | rfl | rfl <;> (simp only [World.cell?, hh]; rfl)
    · rcases three hi with rfl | rfl | rfl
      · exact own_base o1 (Nat.zero_le _)
      · exact own_base o2 (Nat.zero_le _)
      · exact own_base o3 (Nat.zero_le _)
  have hl : ∀ j, j < 3 → (cs3 x z j).length = 22 * 4 := by
    intro j hj
    rcases three hj with rfl | rfl | rfl <;> exact ans_len _ _ _
  refine (free_any X 3 W.heap.size 0 3 (us3 ga ca go co gb cb) (fun _ => 22) (cs3 x z) hF h0 hl (Nat.zero_le _)).mono ?_
  rintro e w' ⟨rfl, hk⟩
  refine ⟨rfl, ⟨hk.os.trans hbX.os, hk.tape.trans hbX.tape, hk.output.trans hbX.output, Nat.le_trans hbX.size hk.size, fun k hkk => ?_⟩⟩
  refine (hk.block k (Nat.lt_of_lt_of_le hkk hbX.size) (fun i hi e => ?_)).trans (hbX.block k hkk)
  rcases three hi with rfl | rfl | rfl <;> (simp [us3, Value.ownBlock] at e; omega)

set_option maxRecDepth 100000 in
set_option maxHeartbeats 4000000 in
theorem rows_law (w : World) (x : Nat → ByteArray) (z : Int) : Calls Try.prog 3 #[.agg (SP x z)] w fun e w' => e = .returned (.bool true) ∧ Below w.heap.size w w' := by
  obtain ⟨w1, hw1⟩ : ∃ w1, w1 = w.alloc (.cells (SP x z) 23) := ⟨_, rfl⟩
  have HS1 : Hid (w1.heap[w.heap.size]? = some (.cells (SP x z) 23)) := by rw [hw1]; exact heap_new w _
  have HB1 : Hid (Below w.heap.size w w1) := by rw [hw1]; exact (Below.refl _ _).alloc (Nat.le_refl _) _
  have hl1 : w.heap.size < w1.heap.size := (Array.getElem?_eq_some_iff.1 HS1.out).1
  obtain ⟨fs23, hu⟩ := under23
  go_enter Try.func3, Try.ntmps3
  go_upto_region 1 with fail
  rw [← hw1]
  clear hw1
  have hS1 := HS1.out
  go_upto_region 2 with (first | (refine wpList_load_row rfl 23 (.tmp 1) rfl w.heap.size rfl 23 (SP x z) (0, 0) _ hS1 hu rfl size23 ?_) | (go_at_call 4; refine Calls.mono (row_any _ x z) ?_; rintro e W2 ⟨ga, ca, rfl, ho2, hb2⟩; have HO2 : Hid (W2.ownsRow w1.heap.size 41 4 (.slice (some ⟨ga, 0, none⟩) 22 ca) 22 (ans x z 22)) := ho2; have HB2 : Hid (Below w1.heap.size w1 W2) := hb2; clear ho2 hb2))
  have cO := row_any W2 yOne 0
  go_upto_region 3 with (go_at_call 4; refine Calls.mono cO ?_; rintro e W3 ⟨go, co, rfl, ho3, hb3⟩; have HO3 : Hid (W3.ownsRow W2.heap.size 41 4 (.slice (some ⟨go, 0, none⟩) 22 co) 22 (ans yOne 0 22)) := ho3; have HB3 : Hid (Below W2.heap.size W2 W3) := hb3; clear ho3 hb3)
  have HC3 : Hid (Below w1.heap.size w1 W3) := HB2.out.trans (HB3.out.mono HB2.out.size)
  have hS3 : W3.heap[w.heap.size]? = some (.cells (SP x z) 23) := (HC3.out.block _ hl1).trans HS1.out
  clear cO
  go_upto_region 4 with (first | (refine wpList_load_row rfl 23 (.tmp 1) rfl w.heap.size rfl 23 (SP x z) (0, 0) _ hS3 hu rfl size23 ?_) | (go_at_call 4; refine Calls.mono (row_any _ x z) ?_; rintro e W4 ⟨gb, cb, rfl, ho4, hb4⟩; have HO4 : Hid (W4.ownsRow W3.heap.size 41 4 (.slice (some ⟨gb, 0, none⟩) 22 cb) 22 (ans x z 22)) := ho4; have HB4 : Hid (Below W3.heap.size W3 W4) := hb4; clear ho4 hb4))
  have HC4 : Hid (Below w1.heap.size w1 W4) := HC3.out.trans (HB4.out.mono HC3.out.size)
  have hS4 : W4.heap[w.heap.size]? = some (.cells (SP x z) 23) := (HC4.out.block _ hl1).trans HS1.out
  go_upto_region 5 with (first | (refine wpList_load_row rfl 23 (.tmp 1) rfl w.heap.size rfl 23 (SP x z) (0, 0) _ hS4 hu rfl size23 ?_) | (go_at_call 5; refine Calls.mono (rowR_any _ x z) ?_; rintro e W5 ⟨gr, cr, rfl, ho5, hb5⟩; have HO5 : Hid (W5.ownsRow W4.heap.size 41 4 (.slice (some ⟨gr, 0, none⟩) 22 cr) 22 (ans x z 22)) := ho5; have HB5 : Hid (Below W4.heap.size W4 W5) := hb5; clear ho5 hb5))
  have HA5 : Hid (W5.ownsRow w1.heap.size 41 4 (.slice (some ⟨ga, 0, none⟩) 22 ca) 22 (ans x z 22)) := ownsRow_below (ownsRow_below (ownsRow_below HO2.out HB3.out (Nat.le_refl _)) HB4.out (Nat.le_refl _)) HB5.out (Nat.le_refl _)
  have HQ5 : Hid (W5.ownsRow W2.heap.size 41 4 (.slice (some ⟨go, 0, none⟩) 22 co) 22 (ans yOne 0 22)) := ownsRow_below (ownsRow_below HO3.out HB4.out (Nat.le_refl _)) HB5.out (Nat.le_refl _)
  have HD5 : Hid (W5.ownsRow W3.heap.size 41 4 (.slice (some ⟨gb, 0, none⟩) 22 cb) 22 (ans x z 22)) := ownsRow_below HO4.out HB5.out (Nat.le_refl _)
  have HC5 : Hid (Below w.heap.size w W5) := HB1.out.trans ((HC4.out.trans (HB5.out.mono HC4.out.size)).mono (Nat.le_of_lt hl1))
  have m2 := (HO2.out.lt ga rfl)
  have m3 := (HO3.out.lt go rfl)
  have m4 := (HO4.out.lt gb rfl)
  have s2 := HB2.out.size
  have s3 := HB3.out.size
  have HN : Hid (ga ≠ go ∧ ga ≠ gb ∧ go ≠ gb) := ⟨by omega, by omega, by omega⟩
  have s1 : w.heap.size ≤ w1.heap.size := Nat.le_of_lt hl1
  clear m2 m3 m4 hS1 hS3 hS4
  have c6a := nodes_same W5 x z ga ca gr cr (own_base HA5.out (Nat.zero_le _)) (own_base HO5.out (Nat.zero_le _))
  go_wp2_with (go_at_call 6; refine StopF.out ?_)
  refine ⟨Calls.mono c6a ?_⟩
  rintro e W6 ⟨rfl, hb6⟩
  have HB6 : Hid (Below W5.heap.size W5 W6) := hb6
  clear hb6 c6a
  have c6b := nodes_same W6 x z gb cb gr cr (own_base (ownsRow_below HD5.out HB6.out (Nat.le_refl _)) (Nat.zero_le _)) (own_base (ownsRow_below HO5.out HB6.out (Nat.le_refl _)) (Nat.zero_le _))
  go_wp2_with (go_at_call 6; refine StopF.out ?_)
  refine ⟨Calls.mono c6b ?_⟩
  rintro e W7 ⟨rfl, hb7⟩
  have HB7 : Hid (Below W5.heap.size W5 W7) := HB6.out.trans (hb7.mono HB6.out.size)
  clear hb7 c6b
  go_wp2_with (go_at_call 7; refine StopF.out ?_)
  refine ⟨?_⟩
  refine Calls.mono (free3 (w := w) (W := W7) (x := x) (z := z) (HC5.out.trans (HB7.out.mono HC5.out.size)) (own_base (ownsRow_below HA5.out HB7.out (Nat.le_refl _)) s1) (own_base (ownsRow_below HQ5.out HB7.out (Nat.le_refl _)) (Nat.le_trans s1 s2)) (own_base (ownsRow_below HD5.out HB7.out (Nat.le_refl _)) (Nat.le_trans s1 (Nat.le_trans s2 s3))) HN.out.1 HN.out.2.1 HN.out.2.2) ?_
  rintro e W8 ⟨rfl, hb8⟩
  have HB8 : Hid (Below w.heap.size w W8) := hb8
  clear hb8
  go_wp2
  go_ret
  exact ⟨rfl, HB8.out⟩
end Go.Proofs.Ytidcjobokfgeoaa
