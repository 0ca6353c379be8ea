import Derived.Test.YtegfgbcimlacbaaGreatDoorTl
import Derived.Test.YtegfgbcimlacbaaGreatDoorRh
import Derived.Test.YtegfgbcimlacbaaGreatDoorRc
import Derived.Lib.ConvBytes
import Derived.Deep.LoopGhost
/-
  DERIVED. Encode, by the document: what it stands on.
-/
namespace Go.Proofs.YtegfgbcimlacbaaGreatDoor
open Go Go.Proofs Go.RowKit

theorem plain_kc : ∀ (j : Fin 3) (b : Fin 128), plainR (kdS (2 * j.val)) (b.val : Int) = (asc (b.val : Int) || (decide (b.val < 32) && ctlS (j.val : Int) b.val)) := by decide +kernel
theorem ends_ke : ∀ (j : Fin 3) (b : Fin 128), hasR (kdS (2 * j.val + 1)) (b.val : Int) = endS (j.val : Int) b.val := by decide +kernel
theorem wrL_at (k : Nat) (r : Int) : ∀ n d0, wrL k r n d0 ≠ 0 → ∃ d, d0 ≤ d ∧ d < d0 + n ∧ (mean k d : Int) = r ∧ wrL k r n d0 = 160 + d
  | 0, d0, h => by simp [wrL] at h
  | n + 1, d0, h => by
    rw [wrL] at h ⊢
    by_cases hc : (mean k d0 : Int) = r
    · rw [if_pos hc]
      exact ⟨d0, Nat.le_refl _, by omega, hc, rfl⟩
    · rw [if_neg hc] at h ⊢
      obtain ⟨d, h1, h2, h3, h4⟩ := wrL_at k r n (d0 + 1) h
      exact ⟨d, by omega, by omega, h3, h4⟩
theorem writes_eq {k : Nat} (hk : k < 7) {r : Int} (hr : 160 ≤ r) : writesN k r = byteOf k r := by
  by_cases h0 : writesN k r = 0
  · rw [h0]
    by_cases h1 : byteOf k r = 0
    · rw [h1]
    · exact absurd h0 ((byte_writes k hk r).1 h1).2
  · obtain ⟨d, -, h2, h3, h4⟩ := wrL_at k r 96 0 h0
    have h5 : mean k d ≠ 0 := by omega
    have := byteOf_mean hk (show d < 96 by omega) h5
    rw [h3] at this
    rw [this]
    exact h4
theorem esc_fin : ∀ k : Fin 6, k.val ≠ 0 → (sp (3 * k.val + 2)).data.toList.map (fun b => (b.toNat : Int)) = [27, 45, (finN k.val : Int)] := by decide +kernel
theorem fin_lt : ∀ k : Fin 7, finN k.val < 256 := by decide
theorem hasS_low {a : Row} {R : List Row} (h7 : ∀ b ∈ a :: R, b.1 < 7) {r : Nat} (hr : r < 160) : hasS a R (r : Int) = asc (r : Int) := by
  unfold hasS
  have hw : wid (r : Int) = false := by simp [wid]; omega
  have hf : firstB (r : Int) (a :: R) = 0 := by
    rcases Nat.eq_zero_or_pos (firstB (r : Int) (a :: R)) with h | h
    · exact h
    · obtain ⟨b, hb, hb0⟩ := (firstB_iff (r : Int) (a :: R)).1 (by omega)
      obtain ⟨d, h1, h2, h3, -⟩ := byteOf_at hb0
      have := mean_high ⟨b.1, h7 b hb⟩ ⟨d, h1⟩
      simp only at this
      omega
  rw [hw, hf]
  simp
/-- The document's first rune of bytes is the model's, but for what is none. -/
theorem r1_dec (s : ByteArray) (at' : Nat) : r1N (s.size - at') (bsT s at') (bsT s (at' + 1)) (bsT s (at' + 2)) (bsT s (at' + 3)) = if bsT s at' < 128 then Utf8.decode s at' else if (Utf8.decode s at').2 < 2 then (0, 0) else Utf8.decode s at' := by
  rw [decode_bsT]
  unfold r1N
  by_cases h : bsT s at' < 128
  · rw [if_pos h, if_pos h]
    unfold Lib.decodeN
    rw [if_pos h]
  · rw [if_neg h, if_neg h]

def srch (r : Int) (L : List Row) (h : Row) : Row := (L.find? fun b => !(byteOf b.1 r == 0)).getD h
theorem srch_step {r : Int} {L : List Row} {h b : Row} {q : Nat} (hq : L[q]? = some b) : srch r (L.drop q) h = if byteOf b.1 r = 0 then srch r (L.drop (q + 1)) h else b := by
  have hl := (List.getElem?_eq_some_iff.1 hq)
  obtain ⟨hlt, hb⟩ := hl
  rw [List.drop_eq_getElem_cons hlt, hb]
  unfold srch
  rw [List.find?_cons]
  by_cases h0 : byteOf b.1 r = 0
  · have e : (!(byteOf b.1 r == 0)) = false := by rw [h0]; rfl
    rw [if_pos h0, e]
  · have e : (!(byteOf b.1 r == 0)) = true := by simpa using h0
    rw [if_neg h0, e]
    rfl

def RPostE (w : World) (F : Except (Nat × Int) (List Int)) (e : Ending) (w' : World) : Prop :=
  Below w.heap.size w w' ∧ match F with
    | .ok out => ∃ v', e = .returned (.tuple #[v', .agg #[.slice none 0 0, .int .i64 0]]) ∧ w'.ownsRow w.heap.size 5 1 v' out.length (cellsZ out) ∧ ByteZ out
    | .error (i, c) => ∃ f, e = .returned (.tuple #[.slice none 0 0, f]) ∧ RErr w' f (some ((i : Int), c))

/-- The result's cell is still empty. -/
structure DecI (w : World) (B : Nat) (wx : World) : Prop where
  b : Below w.heap.size w wx
  c0 : wx.cell? ⟨B, 0, none⟩ = some (.slice none 0 0)
  c1 : wx.cell? ⟨B, 1, none⟩ = some (.int .i64 0)
  f : ∀ i, wx.frozen? ⟨B, i, none⟩ = false
theorem DecI.on {w wx wy : World} {B : Nat} (i : DecI w B wx) (hb : Below wx.heap.size wx wy) : DecI w B wy :=
  ⟨i.b.trans (hb.mono i.b.size), (hb.cell (p := ⟨B, 0, none⟩) (cell_lt i.c0)).trans i.c0, (hb.cell (p := ⟨B, 1, none⟩) (cell_lt i.c1)).trans i.c1, fun j => (hb.frozen (p := ⟨B, j, none⟩) (show B < _ from cell_lt i.c0)).trans (i.f j)⟩
theorem DecI.grown {w wx wy : World} {B : Nat} {row : Option Nat} (i : DecI w B wx) (hg : wx.grownBy wy row) (hr : ∀ r, row = some r → w.heap.size ≤ r ∧ r ≠ B) : DecI w B wy := by
  have hk : wy.heap[B]? = wx.heap[B]? := hg.block B (cell_lt i.c0) (fun e => (hr B e.symm).2 rfl)
  exact ⟨i.b.grown hg i.b.size (fun r e => (hr r e).1), (World.cell?_of_block (a := ⟨B, 0, none⟩) hk).trans i.c0, (World.cell?_of_block (a := ⟨B, 1, none⟩) hk).trans i.c1, fun j => (World.frozen?_of_block (a := ⟨B, j, none⟩) hk).trans (i.f j)⟩
/-- What is told of a refusal once it lies in the result's cell. -/
theorem refuse_post {w W0 W1 : World} {B g k : Nat} {i : Nat} {c : Int} (hi : DecI w B W0) (hB : w.heap.size ≤ B) (g0 : W1.cell? ⟨g, 0, none⟩ = some (.string { data := #[99, 104, 97, 114, 115, 101, 116] })) (g1 : W1.cell? ⟨g, 1, none⟩ = some (.int .i64 (i : Int))) (hg : W0.heap.size ≤ g) (hb : Below W0.heap.size W0 W1) :
    RPostE w (.error (i, c)) (.returned (.tuple #[.slice none 0 0, .agg #[.slice (some ⟨g, 0, none⟩) 1 k, .int .i64 c]])) ((W1.setCell ⟨B, 0, none⟩ (.slice (some ⟨g, 0, none⟩) 1 k)).setCell ⟨B, 1, none⟩ (.int .i64 c)) := by
  have hl : B < W0.heap.size := cell_lt hi.c0
  refine ⟨((hi.on hb).b.setCell (p := ⟨B, 0, none⟩) hB _).setCell (p := ⟨B, 1, none⟩) hB _, _, rfl, g, k, rfl, ?_, ?_⟩
  · exact (cell_set_off (by omega)).trans ((cell_set_off (by omega)).trans g0)
  · exact (cell_set_off (by omega)).trans ((cell_set_off (by omega)).trans g1)
theorem own_val {w : World} {B : Nat} {e : TypeId} {sz : Nat} {v : Value} {n : Nat} {xs : List Value} (h : w.ownsRow B e sz v n xs) : ∃ a cap, v = .slice a n cap := by
  rcases h.2 with ⟨rfl, h0⟩ | ⟨g, cap, cur, hv, _⟩
  · exact ⟨none, 0, by rw [h0]⟩
  · exact ⟨_, _, hv⟩
theorem own_app {w1 : World} {B : Nat} {v' : Value} {out L : List Int} (h : w1.ownsRow B 5 1 v' (out.length + L.length) (cellsZ out ++ cellsZ L)) : w1.ownsRow B 5 1 v' (out ++ L).length (cellsZ (out ++ L)) := by
  have e1 : (out ++ L).length = out.length + L.length := by simp
  have e2 : cellsZ (out ++ L) = cellsZ out ++ cellsZ L := by simp [cellsZ]
  rw [e1, e2]
  exact h

/-- The bytes of the text, in a row of their own. -/
def RawAt (s : ByteArray) (g : Nat) (wx : World) : Prop := ∀ i, i < s.size → wx.cell? ⟨g, i, none⟩ = some (.int .u8 (bsT s i : Int))
/-- Between two rounds. -/
def EncInv (w : World) (B : Nat) (kc ke : ByteArray) (a : Row) (R : List Row) (s : ByteArray) (F : Except (Nat × Int) (List Int)) (g : Nat) (s8 s9 s11 : Value) (wx : World) : Prop :=
  ∃ (at' : Nat) (h : Row) (out : List Int), s11 = .int .i64 (at' : Int) ∧ s9 = .int .i64 (repN h.1 : Nat) ∧ g = s.size - at' ∧ at' ≤ s.size + 4 ∧ wrS (Pz a R) kc ke a R s g at' h out = F ∧ h ∈ a :: R ∧ out.length ≤ 4 * at' ∧ ByteZ out ∧ wx.ownsRow (B + 2) 5 1 s8 out.length (cellsZ out) ∧ DecI w B wx ∧ RawAt s (B + 1) wx
theorem raw_on {s : ByteArray} {g : Nat} {wx wy : World} (h : RawAt s g wx) (hb : Below wx.heap.size wx wy) : RawAt s g wy := fun i hi => (hb.cell (p := ⟨g, i, none⟩) (cell_lt (h i hi))).trans (h i hi)
theorem raw_grown {s : ByteArray} {g : Nat} {wx wy : World} {row : Option Nat} (h : RawAt s g wx) (hg : wx.grownBy wy row) (hr : row ≠ some g) : RawAt s g wy := fun i hi => by
  rw [← h i hi]
  exact World.cell?_of_block (hg.block g (cell_lt (h i hi)) (fun e => hr e.symm))
end Go.Proofs.YtegfgbcimlacbaaGreatDoor
