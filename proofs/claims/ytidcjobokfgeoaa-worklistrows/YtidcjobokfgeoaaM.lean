import Derived.Test.YtidcjobokfgeoaaFa
import Derived.Deep.RegionHeld3
import Derived.Deep.RegionLawGrows
/-
  DERIVED. Known attributes as elements.
-/
namespace Go.Proofs.Ytidcjobokfgeoaa
open Go Go.Proofs Go.RowKit

def kn (a b : Nat → Int) (s : Nat → ByteArray) (i : Nat) : List Value := (List.range i).flatMap (fun j => nd (a j) (b j) 0 (s j))
theorem kn_next (a b : Nat → Int) (s : Nat → ByteArray) (i : Nat) : kn a b s (i + 1) = kn a b s i ++ nd (a i) (b i) 0 (s i) := by
  unfold kn
  rw [List.range_succ, List.flatMap_append]
  simp
/-- While nodes are gathered. -/
structure KnI (w : World) (n : Nat) (xs : List Value) (v : Value) (wx : World) : Prop where
  own : wx.ownsRow w.heap.size 41 4 v n xs
  b : Below w.heap.size w wx
theorem KnI.on {w wr wx : World} {n : Nat} {xs : List Value} {v : Value} (h : KnI w n xs v wr) (hb : Below wr.heap.size wr wx) : KnI w n xs v wx :=
  ⟨ownsRow_below h.own hb (Nat.le_refl _), h.b.trans (hb.mono h.b.size)⟩
theorem KnI.app {w wr W' : World} {n m : Nat} {xs ys : List Value} {v v' : Value} (h : KnI w n xs v wr) (ho : W'.ownsRow w.heap.size 41 4 v' (n + m) (xs ++ ys)) (hgr : wr.grownBy W' v.ownBlock) : KnI w (n + m) (xs ++ ys) v' W' :=
  ⟨ho, h.b.grown hgr h.b.size (fun k hk => (h.own.lt k hk).1)⟩

set_option maxRecDepth 100000 in
set_option maxHeartbeats 4000000 in
theorem nodes_of (w : World) (g : Nat) (C : Array Value) (a b : Nat → Int) (s : Nat → ByteArray) (hh : w.heap[g]? = some (.cells C 53)) (hC : ∀ i, i < 10 → C[i * 3]? = some (.int .u32 (a i)) ∧ C[i * 3 + 1]? = some (.int .i64 (b i)) ∧ C[i * 3 + 2]? = some (.string (s i))) :
    Calls Try.prog 11 #[.slice (some ⟨g, 0, none⟩) 10 10] w fun e w' => ∃ g' cap, e = .returned (.slice (some ⟨g', 0, none⟩) 10 cap) ∧ w'.ownsRow w.heap.size 41 4 (.slice (some ⟨g', 0, none⟩) 10 cap) 10 (kn a b s 10) ∧ Below w.heap.size w w' := by
  have HC : Hid (∀ i, i < 10 → w.cell? ⟨g, i * 3, none⟩ = some (.int .u32 (a i)) ∧ w.cell? ⟨g, i * 3 + 1, none⟩ = some (.int .i64 (b i)) ∧ w.cell? ⟨g, i * 3 + 2, none⟩ = some (.string (s i))) := fun i hi => by
    obtain ⟨h0, h1, h2⟩ := hC i hi
    simp only [World.cell?, hh]
    exact ⟨h0, h1, h2⟩
  have hgl : g < w.heap.size := (Array.getElem?_eq_some_iff.1 hh).1
  clear hh hC
  go_enter Try.func11, Try.ntmps11
  go_wp2
  go_loopw [3, 4] (fun s3 s4 wx => ∃ i : Nat, s4 = .int .i64 (i : Int) ∧ i ≤ 10 ∧ Hid (KnI w i (kn a b s i) s3 wx)) (fun _ s4 _ => 10 - (intOf s4).toNat)
  case atStart => exact ⟨0, rfl, by omega, ⟨World.ownsRow_nil _ _ _ _, Below.refl _ _⟩⟩
  case round =>
    obtain ⟨i, rfl, hi10, HI⟩ := hrel
    by_cases hin : i < 10
    · obtain ⟨c0, c1, c2⟩ := HC.out i hin
      have hB := HI.out.b
      replace c0 := (hB.cell (p := ⟨g, i * 3, none⟩) hgl).trans c0
      replace c1 := (hB.cell (p := ⟨g, i * 3 + 1, none⟩) hgl).trans c1
      replace c2 := (hB.cell (p := ⟨g, i * 3 + 2, none⟩) hgl).trans c2
      have hsz := hB.size
      clear hB
      have hI : (i : Int) < 10 := by omega
      have HS : Hid ((wr.alloc (.cells #[.int .u32 (a i), .int .i64 (b i), .int .i64 0, .string (s i)] 41)).drew.ownsRow w.heap.size 41 4 u3 i (kn a b s i) ∧ (∀ j u, (nd (a i) (b i) 0 (s i))[j]? = some u → (wr.alloc (.cells #[.int .u32 (a i), .int .i64 (b i), .int .i64 0, .string (s i)] 41)).drew.cell? ((⟨wr.heap.size, 0, none⟩ : Addr).add j) = some u) ∧ w.heap.size ≤ (wr.alloc (.cells #[.int .u32 (a i), .int .i64 (b i), .int .i64 0, .string (s i)] 41)).drew.heap.size) :=
        ⟨World.ownsRow.alloc (w := wr) HI.out.own _, news_new (w := wr) rfl _ _, by show _ ≤ (wr.alloc _).heap.size; rw [size_alloc]; omega⟩
      go_wp2
      go_region_held3 (fun w' => w'.cell? ⟨g, i * 3, none⟩ = some (.int .u32 (a i)) ∧ w'.cell? ⟨g, i * 3 + 1, none⟩ = some (.int .i64 (b i)) ∧ w'.cell? ⟨g, i * 3 + 2, none⟩ = some (.string (s i))) (go_keep) (first | (refine step24 rfl (.tmp 11) (.tmp 28) rfl w.heap.size u3 i (kn a b s i) (by simp [Act.eval]) HS.out.1 ⟨wr.heap.size, 0, none⟩ 1 1 (nd (a i) (b i) 0 (s i)) (by simp [Act.eval]) rfl HS.out.2.1 (nd_one _ _ _ _) (by decide) (by omega) HS.out.2.2 ?_; intro g9 c9 W9 ho9 hg9 _ _; have HI9 : Hid (KnI w (i + 1) (kn a b s (i + 1)) (.slice (some ⟨g9, 0, none⟩) (i + 1) c9) W9) := kn_next a b s i ▸ (HI.out.on ((Below.refl _ _).alloc (Nat.le_refl _) _).drew).app ho9 hg9; have d0 := (HI9.out.b.cell (p := ⟨g, i * 3, none⟩) hgl).trans (HC.out i hin).1; have d1 := (HI9.out.b.cell (p := ⟨g, i * 3 + 1, none⟩) hgl).trans (HC.out i hin).2.1; have d2 := (HI9.out.b.cell (p := ⟨g, i * 3 + 2, none⟩) hgl).trans (HC.out i hin).2.2; clear ho9 hg9))
      go_wp2
      go_roundw
      case rel => exact ⟨i + 1, by go_num, by omega, HI9⟩
      case measure => simp [intOf]; omega
    · obtain rfl : i = 10 := by omega
      go_wp2
      have ho := HI.out.own
      obtain ⟨g', cap, hv⟩ := owns_succ ho
      have HB := HI.out.b
      subst hv
      go_ret
      exact ⟨g', cap, rfl, ho, HB⟩
end Go.Proofs.Ytidcjobokfgeoaa
