import Derived.Test.YtidcjobokfgeoaaA
import Derived.Below
import Derived.Laws.OwnMore
/-
  DERIVED. Where a key is known: the table is looked through.
-/
namespace Go.Proofs.Ytidcjobokfgeoaa
open Go Go.Proofs Go.RowKit

def Stop (p : Prop) : Prop := p
theorem Stop.mk {p : Prop} (h : Stop p) : p := h
theorem Stop.out {p : Prop} (h : p) : Stop p := h
structure StopF (p : Prop) : Prop where
  out : p
theorem cell_lt {w : World} {a : Addr} {v : Value} (h : w.cell? a = some v) : a.block < w.heap.size := World.block_lt_of_cell? w a h
theorem below_drw {B : Nat} {w w' : World} (h : Below B w w') (m : Nat) : Below B w (w'.drewN m) := h.trans ⟨rfl, rfl, rfl, Nat.le_refl _, fun _ _ => rfl⟩
theorem owns_succ {W : World} {base : Nat} {e : TypeId} {size : Nat} {v : Value} {k : Nat} {xs : List Value} (h : W.ownsRow base e size v (k + 1) xs) : ∃ g cap, v = .slice (some ⟨g, 0, none⟩) (k + 1) cap := by
  rcases h.2 with ⟨_, h0⟩ | ⟨g, cap, cur, rfl, _⟩
  · omega
  · exact ⟨g, cap, rfl⟩
theorem ownsRow_below {w w' : World} {A base : Nat} {e : TypeId} {size : Nat} {v : Value} {n : Nat} {xs : List Value} (h : w.ownsRow base e size v n xs) (hb : Below A w w') (hA : w.heap.size ≤ A) : w'.ownsRow base e size v n xs := by
  refine ⟨h.1, ?_⟩
  rcases h.2 with h2 | ⟨g, cap, cur, hv, hg, hh, r⟩
  · exact .inl h2
  · have hlt : g < w.heap.size := (Array.getElem?_eq_some_iff.1 hh).1
    exact .inr ⟨g, cap, cur, hv, hg, (hb.block g (by omega)).trans hh, r⟩
theorem own_keep {w w' : World} {base : Nat} {e : TypeId} {size : Nat} {v : Value} {n : Nat} {xs : List Value} (h : w.ownsRow base e size v n xs) (hk : ∀ g, v.ownBlock = some g → w'.heap[g]? = w.heap[g]?) : w'.ownsRow base e size v n xs := by
  refine ⟨h.1, ?_⟩
  rcases h.2 with h2 | ⟨g, cap, cur, hv, hg, hh, r⟩
  · exact .inl h2
  · exact .inr ⟨g, cap, cur, hv, hg, (hk g (by rw [hv]; rfl)).trans hh, r⟩

/-- The table's rows. -/
def pl (i : Nat) : Int := match atC[4 * i]? with
  | some (.int _ z) => z
  | _ => 0
def tg (i : Nat) : Int := match atC[4 * i + 1]? with
  | some (.int _ z) => z
  | _ => 0
def vr (i : Nat) : Int := match atC[4 * i + 2]? with
  | some (.int _ z) => z
  | _ => 0
def fn (i : Nat) : Value := atC.getD (4 * i + 3) .nilFunc

theorem at_row : ∀ i, i < 21 → atC[4 * i]? = some (.int .i64 (pl i)) ∧ atC[4 * i + 1]? = some (.int .u32 (tg i)) ∧ atC[4 * i + 2]? = some (.int .i64 (vr i)) ∧ atC[4 * i + 3]? = some (fn i) := by
  intro i hi
  have : i = 0 ∨ i = 1 ∨ i = 2 ∨ i = 3 ∨ i = 4 ∨ i = 5 ∨ i = 6 ∨ i = 7 ∨ i = 8 ∨ i = 9 ∨ i = 10 ∨ i = 11 ∨ i = 12 ∨ i = 13 ∨ i = 14 ∨ i = 15 ∨ i = 16 ∨ i = 17 ∨ i = 18 ∨ i = 19 ∨ i = 20 := by omega
  rcases this with rfl | rfl | rfl | rfl | rfl | rfl | rfl | rfl | rfl | rfl | rfl | rfl | rfl | rfl | rfl | rfl | rfl | rfl | rfl | rfl | rfl <;> exact ⟨rfl, rfl, rfl, rfl⟩

/-- The table lies in block g. -/
def Tb (g : Nat) (w : World) : Prop := w.heap[g]? = some (.cells atC 51)
theorem Tb.on {g : Nat} {w w' : World} (h : Tb g w) (hb : Below w.heap.size w w') : Tb g w' := by
  have hlt : g < w.heap.size := (Array.getElem?_eq_some_iff.1 h).1
  exact (hb.block g hlt).trans h
theorem Tb.lt {g : Nat} {w : World} (h : Tb g w) : g < w.heap.size := (Array.getElem?_eq_some_iff.1 h).1
theorem Tb.cells {g : Nat} {w : World} (h : Tb g w) {i : Nat} (hi : i < 21) : w.cell? ⟨g, i * 4, none⟩ = some (.int .i64 (pl i)) ∧ w.cell? ⟨g, i * 4 + 1, none⟩ = some (.int .u32 (tg i)) ∧ w.cell? ⟨g, i * 4 + 2, none⟩ = some (.int .i64 (vr i)) ∧ w.cell? ⟨g, i * 4 + 3, none⟩ = some (fn i) := by
  obtain ⟨h0, h1, h2, h3⟩ := at_row i hi
  unfold Tb at h
  simp only [World.cell?, h, Nat.mul_comm i 4]
  exact ⟨h0, h1, h2, h3⟩

set_option maxRecDepth 100000 in
set_option maxHeartbeats 1000000 in
theorem same_row (w : World) (a b t1 t2 v : Int) (f : Value) (pp kk : Nat) (hp : w.cell? ⟨pp, 0, none⟩ = some (.int .i64 b)) (hk : w.cell? ⟨kk, 0, none⟩ = some (.int .u32 t2)) :
    Calls Try.prog 40 #[.agg #[.int .i64 a, .int .u32 t1, .int .i64 v, f], .pointer (some ⟨pp, 0, none⟩), .pointer (some ⟨kk, 0, none⟩)] w fun e w' => e = .returned (.bool (decide (a = b ∧ t1 = t2))) ∧ Below w.heap.size w w' := by
  go_enter Try.func40, Try.ntmps40
  have hpl := cell_lt hp
  have hkl := cell_lt hk
  have hB := fun o => (Below.refl w.heap.size w).alloc (Nat.le_refl _) o
  by_cases h : a = b
  · by_cases h2 : t1 = t2
    · go_wp2
      go_ret
      exact ⟨by simp, hB _⟩
    · go_wp2
      go_ret
      exact ⟨by simp [h2], hB _⟩
  · go_wp2
    go_ret
    exact ⟨rfl, hB _⟩

/-- The first row from i on with that place and that tag. -/
def firstK (p t : Int) (i : Nat) : Nat → Option Nat
  | 0 => none
  | k + 1 => if pl i = p ∧ tg i = t then some i else firstK p t (i + 1) k
def idx : Option Nat → Int
  | some i => i
  | none => -1

theorem fn_one : ∀ i, i < 21 → (fn i).oneCell' = true := by
  intro i hi
  have : i = 0 ∨ i = 1 ∨ i = 2 ∨ i = 3 ∨ i = 4 ∨ i = 5 ∨ i = 6 ∨ i = 7 ∨ i = 8 ∨ i = 9 ∨ i = 10 ∨ i = 11 ∨ i = 12 ∨ i = 13 ∨ i = 14 ∨ i = 15 ∨ i = 16 ∨ i = 17 ∨ i = 18 ∨ i = 19 ∨ i = 20 := by omega
  rcases this with rfl | rfl | rfl | rfl | rfl | rfl | rfl | rfl | rfl | rfl | rfl | rfl | rfl | rfl | rfl | rfl | rfl | rfl | rfl | rfl | rfl <;> rfl

set_option maxRecDepth 100000 in
set_option maxHeartbeats 1000000 in
theorem index_any (w : World) (g pp kk : Nat) (p t : Int) (hT : Tb g w) (hp : w.cell? ⟨pp, 0, none⟩ = some (.int .i64 p)) (hk : w.cell? ⟨kk, 0, none⟩ = some (.int .u32 t)) :
    Calls Try.prog 39 #[.slice (some ⟨g, 0, none⟩) 21 21, .func (.func 40) #[] #[.pointer (some ⟨pp, 0, none⟩), .pointer (some ⟨kk, 0, none⟩)]] w fun e w' => e = .returned (.int .i64 (idx (firstK p t 0 21))) ∧ Below w.heap.size w w' := by
  obtain ⟨r, hr⟩ : ∃ r, firstK p t 0 21 = r := ⟨_, rfl⟩
  rw [hr]
  have HR : Hid (firstK p t 0 21 = r) := hr
  have HT : Hid (Tb g w) := hT
  have HP : Hid (w.cell? ⟨pp, 0, none⟩ = some (.int .i64 p)) := hp
  have HK : Hid (w.cell? ⟨kk, 0, none⟩ = some (.int .u32 t)) := hk
  clear hr hT hp hk
  go_enter Try.func39, Try.ntmps39
  go_wp2
  go_loopw [8] (fun s8 wx => ∃ i : Nat, s8 = .int .i64 (i : Int) ∧ i ≤ 21 ∧ Hid (firstK p t i (21 - i) = r) ∧ Hid (Below w.heap.size w wx)) (fun s8 _ => 21 - (intOf s8).toNat)
  case atStart => exact ⟨0, rfl, by omega, HR, Below.refl _ _⟩
  case round =>
    obtain ⟨i, rfl, hi, hfk, hbl⟩ := hrel
    by_cases hin : i < 21
    · have HB : Hid (Below w.heap.size w wr) := hbl.out
      have HTr : Hid (Tb g wr) := HT.out.on HB.out
      obtain ⟨c0, c1, c2, c3⟩ := HTr.out.cells hin
      have hI : (i : Int) < 21 := by omega
      have hp1 : wr.cell? ⟨pp, 0, none⟩ = some (.int .i64 p) := (HB.out.cell (cell_lt HP.out)).trans HP.out
      have hk1 : wr.cell? ⟨kk, 0, none⟩ = some (.int .u32 t) := (HB.out.cell (cell_lt HK.out)).trans HK.out
      have HC : Hid _ := same_row wr (pl i) p (tg i) t (vr i) (fn i) pp kk hp1 hk1
      have hs : Hid (21 - i = 21 - (i + 1) + 1) := by show _ = _; omega
      by_cases hm : pl i = p ∧ tg i = t
      · have hr : Hid (r = some i) := by
          show _ = _
          rw [← hfk.out, hs.out, firstK, if_pos hm]
        have HC : Hid _ := same_row wr (pl i) p (tg i) t (vr i) (fn i) pp kk hp1 hk1
        rw [show decide (pl i = p ∧ tg i = t) = true by simpa using hm] at HC
        clear hp1 hk1 hbl hm hfk hs
        go_wp2_with (go_at_call 40; refine Calls.mono HC.out ?_; rintro e w' ⟨rfl, hb⟩)
        go_ret
        exact ⟨by rw [hr.out]; rfl, HB.out.trans (hb.mono HB.out.size)⟩
      · have HF : Hid (firstK p t (i + 1) (21 - (i + 1)) = r) := by
          show _ = _
          rw [← hfk.out, hs.out, firstK, if_neg hm]
        have HC : Hid _ := same_row wr (pl i) p (tg i) t (vr i) (fn i) pp kk hp1 hk1
        rw [show decide (pl i = p ∧ tg i = t) = false by simpa using hm] at HC
        clear hp1 hk1 hbl hm hfk hs
        go_wp2_with (go_at_call 40; refine Calls.mono HC.out ?_; rintro e w' ⟨rfl, hb⟩)
        go_roundw
        case rel => exact ⟨i + 1, by go_num, by omega, HF, HB.out.trans (hb.mono HB.out.size)⟩
        case measure => simp [intOf]; omega
    · obtain rfl : i = 21 := by omega
      have hr : Hid (r = none) := hfk.out.symm
      go_wp2
      go_ret
      exact ⟨by rw [hr.out]; rfl, hbl.out⟩
end Go.Proofs.Ytidcjobokfgeoaa
