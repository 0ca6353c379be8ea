import Derived.Test.YtidcjobokfgeoaaL
import Derived.Test.YtidcjobokfgeoaaM
/-
  DERIVED. The document's row.
-/
namespace Go.Proofs.Ytidcjobokfgeoaa
open Go Go.Proofs Go.RowKit

def tA : Nat → Int | 0 => 524368 | 1 => 524432 | 2 => 1048592 | 3 => 1048608 | 4 => 1048609 | 5 => 1048624 | 6 => 1048640 | 7 => 2097165 | 8 => 3280992 | 9 => 4198401 | _ => 0
def tB : Nat → Int | 0 => 16 | 1 => 15 | 2 => 15 | 3 => 11 | 4 => 11 | 5 => 5 | 6 => 4 | 7 => 23 | 8 => 11 | 9 => 16 | _ => 0
def tS (x : Nat → ByteArray) : Nat → ByteArray | 0 => x 1 | 1 => x 10 | 2 => x 5 | 3 => x 6 | 4 => x 7 | 5 => x 8 | 6 => x 9 | 7 => x 4 | 8 => x 3 | 9 => x 2 | _ => ⟨#[]⟩
def iA : Nat → Int | 0 => 524384 | 1 => 4194305 | 2 => 4194306 | 3 => 4194307 | 4 => 4194310 | 5 => 4194311 | 6 => 4194313 | 7 => 4194320 | 8 => 4194321 | 9 => 4194336 | _ => 0
def iB : Nat → Int | 0 => 4 | 1 => 1 | 2 => 5 | 3 => 21 | 4 => 15 | 5 => 11 | 6 => 16 | 7 => 16 | 8 => 16 | 9 => 4 | _ => 0
def iS (x : Nat → ByteArray) (z : Int) : Nat → ByteArray | 0 => x 11 | 1 => x 12 | 2 => x 15 | 3 => x 16 | 4 => x 17 | 5 => x 18 | 6 => x 0 | 7 => x 13 | 8 => x 14 | 9 => wd z | _ => ⟨#[]⟩
theorem topC_at (x : Nat → ByteArray) : ∀ i, i < 10 → (topC x)[i * 3]? = some (.int .u32 (tA i)) ∧ (topC x)[i * 3 + 1]? = some (.int .i64 (tB i)) ∧ (topC x)[i * 3 + 2]? = some (.string (tS x i)) := by
  intro i hi
  have : i = 0 ∨ i = 1 ∨ i = 2 ∨ i = 3 ∨ i = 4 ∨ i = 5 ∨ i = 6 ∨ i = 7 ∨ i = 8 ∨ i = 9 := by omega
  rcases this with rfl | rfl | rfl | rfl | rfl | rfl | rfl | rfl | rfl | rfl <;> exact ⟨rfl, rfl, rfl⟩
theorem innC_at (x : Nat → ByteArray) (z : Int) : ∀ i, i < 10 → (innC x z)[i * 3]? = some (.int .u32 (iA i)) ∧ (innC x z)[i * 3 + 1]? = some (.int .i64 (iB i)) ∧ (innC x z)[i * 3 + 2]? = some (.string (iS x z i)) := by
  intro i hi
  have : i = 0 ∨ i = 1 ∨ i = 2 ∨ i = 3 ∨ i = 4 ∨ i = 5 ∨ i = 6 ∨ i = 7 ∨ i = 8 ∨ i = 9 := by omega
  rcases this with rfl | rfl | rfl | rfl | rfl | rfl | rfl | rfl | rfl | rfl <;> exact ⟨rfl, rfl, rfl⟩

def seqL : List Value := nd 4194560 18 1 ⟨#[]⟩ ++ nd 4294893568 29 10 ⟨#[]⟩
def rowR (x : Nat → ByteArray) (z : Int) : List Value := kn tA tB (tS x) 9 ++ seqL ++ kn iA iB (iS x z) 10 ++ nd (tA 9) (tB 9) 0 (tS x 9)
theorem rowR_eq (x : Nat → ByteArray) (z : Int) : rowR x z = ans x z 22 := by kernel_rfl
theorem kn_one (a b : Nat → Int) (s : Nat → ByteArray) (n : Nat) : ∀ u ∈ kn a b s n, u.oneCell' = true := by
  intro u hu
  unfold kn at hu
  rw [List.mem_flatMap] at hu
  obtain ⟨j, -, h⟩ := hu
  exact nd_one _ _ _ _ u h
theorem kn_len (a b : Nat → Int) (s : Nat → ByteArray) : ∀ n, (kn a b s n).length = n * 4
  | 0 => rfl
  | n + 1 => by rw [kn_next, List.length_append, kn_len a b s n]; simp [nd]; omega
theorem seq_one : ∀ u ∈ seqL, u.oneCell' = true := by
  intro u hu
  unfold seqL at hu
  rw [List.mem_append] at hu
  rcases hu with h | h <;> exact nd_one _ _ _ _ u h
theorem own_get {w : World} {b g n c : Nat} {e : TypeId} {s : Nat} {xs : List Value} (h : w.ownsRow b e s (.slice (some ⟨g, 0, none⟩) n c) n xs) : ∀ j u, xs[j]? = some u → w.cell? ((⟨g, 0, none⟩ : Addr).add j) = some u := World.ownsRow.cells h rfl

set_option maxRecDepth 100000 in
set_option maxHeartbeats 4000000 in
theorem rowR_any (w : World) (x : Nat → ByteArray) (z : Int) : Calls Try.prog 5 #[.agg (SP x z)] w fun e w' => ∃ g cap, e = .returned (.slice (some ⟨g, 0, none⟩) 22 cap) ∧ w'.ownsRow w.heap.size 41 4 (.slice (some ⟨g, 0, none⟩) 22 cap) 22 (ans x z 22) ∧ Below w.heap.size w w' := by
  rw [← rowR_eq]
  obtain ⟨w1, hw1⟩ : ∃ w1, w1 = w.alloc (.cells (SP x z) 23) := ⟨_, rfl⟩
  have HS1 : Hid (w1.heap[w.heap.size]? = some (.cells (SP x z) 23)) := by rw [hw1]; exact heap_new w _
  have HB1 : Hid (Below w.heap.size w w1) := by rw [hw1]; exact (Below.refl _ _).alloc (Nat.le_refl _) _
  have hl1 : w.heap.size < w1.heap.size := (Array.getElem?_eq_some_iff.1 HS1.out).1
  obtain ⟨fs23, hu⟩ := under23
  go_enter Try.func5, Try.ntmps5
  go_upto_region 1 with fail
  rw [← hw1]
  clear hw1
  have hS1 := HS1.out
  go_wp2_with (first | (refine wpList_load_row rfl 23 (.tmp 1) rfl w.heap.size rfl 23 (SP x z) (0, 0) _ hS1 hu rfl size23 ?_) | (go_at_call 12; refine Calls.mono (top_any _ x z) ?_; rintro e W2 ⟨g2, rfl, hh2, hb2⟩; have HH2 : Hid (W2.heap[g2]? = some (.cells (topC x) 53)) := hh2; have HB2 : Hid (Below w1.heap.size w1 W2) := hb2; clear hh2 hb2) | (go_at_call 11; refine Calls.mono (nodes_of _ g2 (topC x) tA tB (tS x) HH2.out (topC_at x)) ?_; rintro e W3 ⟨g3, c3, rfl, ho3, hb3⟩; have HO3 : Hid (W3.ownsRow w1.heap.size 41 4 (.slice (some ⟨g3, 0, none⟩) 10 c3) 10 (kn tA tB (tS x) 10)) := own_base ho3 HB2.out.size; have HB3 : Hid (Below w1.heap.size w1 W3) := HB2.out.trans (hb3.mono HB2.out.size); have hc3 : 10 ≤ c3 := own_cap HO3.out; have hg3 : g3 < W3.heap.size := (World.ownsRow.lt HO3.out g3 rfl).2; clear ho3 hb3 HB2 HH2) | (at_builtin; refine Stop.mk ?_))
  have K0 : KnI W3 0 [] (.slice none 0 0) W3 := ⟨World.ownsRow_nil _ _ _ _, Below.refl _ _⟩
  refine Stop.out (app24 rfl (.const (.slice none 0 0)) (.tmp 9) rfl W3.heap.size (.slice none 0 0) 0 [] rfl K0.own ⟨g3, 0, none⟩ 9 c3 (kn tA tB (tS x) 9) rfl (kn_len _ _ _ 9) (fun j u hj => own_get HO3.out j u (by rw [kn_next, List.getElem?_append_left (List.getElem?_eq_some_iff.1 hj).1]; exact hj)) (kn_one _ _ _ _) (by decide) (by decide) (Nat.le_refl _) ?_)
  intro g4 c4 W4 ho4 hg4 _ _
  have HK4 : Hid (KnI W3 9 (kn tA tB (tS x) 9) (.slice (some ⟨g4, 0, none⟩) 9 c4) W4) := K0.app (n := 0) (m := 9) ho4 hg4
  clear ho4 hg4 K0
  have hs4 := HK4.out.b.size
  go_wp2_with (at_builtin; refine Stop.mk ?_)
  refine Stop.out (app24 rfl (.tmp 11) (.tmp 14) rfl W3.heap.size (.slice (some ⟨g4, 0, none⟩) 9 c4) 9 _ rfl (World.ownsRow.alloc HK4.out.own _) ⟨W4.heap.size, 0, none⟩ 2 2 seqL rfl rfl (news_new rfl _ _) seq_one (by decide) (by decide) (by rw [size_alloc]; omega) ?_)
  intro g5 c5 W5 ho5 hg5 _ _
  have HK5 : Hid (KnI W3 11 (kn tA tB (tS x) 9 ++ seqL) (.slice (some ⟨g5, 0, none⟩) 11 c5) W5) := (HK4.out.on ((Below.refl _ _).alloc (Nat.le_refl _) _)).app (n := 9) (m := 2) ho5 hg5
  clear ho5 hg5 HK4 hs4
  have HB5 : Hid (Below w1.heap.size w1 W5) := HB3.out.trans (HK5.out.b.mono HB3.out.size)
  have hS5 : W5.heap[w.heap.size]? = some (.cells (SP x z) 23) := (HB5.out.block _ hl1).trans HS1.out
  go_wp2_with (first | (refine wpList_load_row rfl 23 (.tmp 1) rfl w.heap.size rfl 23 (SP x z) (0, 0) _ hS5 hu rfl size23 ?_) | (go_at_call 13; refine Calls.mono (inner_any _ x z) ?_; rintro e W6 ⟨g6, rfl, hh6, hb6⟩; have HH6 : Hid (W6.heap[g6]? = some (.cells (innC x z) 53)) := hh6; have HB6 : Hid (Below W5.heap.size W5 W6) := hb6; clear hh6 hb6) | (go_at_call 11; refine Calls.mono (nodes_of _ g6 (innC x z) iA iB (iS x z) HH6.out (innC_at x z)) ?_; rintro e W7 ⟨g7, c7, rfl, ho7, hb7⟩; have HO7 : Hid (W7.ownsRow W6.heap.size 41 4 (.slice (some ⟨g7, 0, none⟩) 10 c7) 10 (kn iA iB (iS x z) 10)) := ho7; have HB7 : Hid (Below W5.heap.size W5 W7) := HB6.out.trans (hb7.mono HB6.out.size); clear ho7 hb7 HB6 HH6) | (at_builtin; refine Stop.mk ?_))
  have HK7 : Hid (KnI W3 11 (kn tA tB (tS x) 9 ++ seqL) (.slice (some ⟨g5, 0, none⟩) 11 c5) W7) := HK5.out.on HB7.out
  refine Stop.out (app24 rfl (.tmp 16) (.tmp 19) rfl W3.heap.size (.slice (some ⟨g5, 0, none⟩) 11 c5) 11 _ rfl HK7.out.own ⟨g7, 0, none⟩ 10 c7 (kn iA iB (iS x z) 10) rfl (kn_len _ _ _ 10) (own_get HO7.out) (kn_one _ _ _ _) (by decide) (by decide) HK7.out.b.size ?_)
  intro g8 c8 W8 ho8 hg8 _ _
  have HK8 : Hid (KnI W3 21 (kn tA tB (tS x) 9 ++ seqL ++ kn iA iB (iS x z) 10) (.slice (some ⟨g8, 0, none⟩) 21 c8) W8) := HK7.out.app (n := 11) (m := 10) ho8 hg8
  clear ho8 hg8 HK7 HO7 HB7 HK5 HB5 hS5
  have l8 := fun j (hj : j < 40) => ((HK8.out.b.cell (p := ⟨g3, j, none⟩) hg3).trans (HO3.out.cellAt j (by omega)))
  have d0 : W8.cell? ⟨g3, 36, none⟩ = some (.int .u32 4198401) := l8 36 (by decide)
  have d1 : W8.cell? ⟨g3, 37, none⟩ = some (.int .i64 16) := l8 37 (by decide)
  have d2 : W8.cell? ⟨g3, 38, none⟩ = some (.int .i64 0) := l8 38 (by decide)
  have d3 : W8.cell? ⟨g3, 39, none⟩ = some (.string (x 2)) := l8 39 (by decide)
  have hs8 := HK8.out.b.size
  clear l8
  go_wp2_with (at_builtin; refine Stop.mk ?_)
  refine Stop.out (app24 rfl (.tmp 21) (.tmp 25) rfl W3.heap.size (.slice (some ⟨g8, 0, none⟩) 21 c8) 21 _ rfl (World.ownsRow.alloc HK8.out.own _) ⟨W8.heap.size, 0, none⟩ 1 1 (nd (tA 9) (tB 9) 0 (tS x 9)) rfl rfl (news_new rfl _ _) (nd_one _ _ _ _) (by decide) (by decide) (by rw [size_alloc]; omega) ?_)
  intro g9 c9 W9 ho9 hg9 _ _
  have HK9 : Hid (KnI W3 22 (rowR x z) (.slice (some ⟨g9, 0, none⟩) 22 c9) W9) := (HK8.out.on ((Below.refl _ _).alloc (Nat.le_refl _) _)).app (n := 21) (m := 1) ho9 hg9
  clear ho9 hg9
  go_wp2
  go_ret
  have hs13 := HB3.out.size
  exact ⟨g9, c9, rfl, own_base HK9.out.own (by omega), HB1.out.trans ((HB3.out.trans (HK9.out.b.mono HB3.out.size)).mono (Nat.le_of_lt hl1))⟩
end Go.Proofs.Ytidcjobokfgeoaa
