
import Derived.Test.YtegfgbcimlacbaaGreatDoorPi
import Derived.Laws.IdiomStrings
import Derived.Shelf.Unicode.DecodeLastEight
import Derived.Lib.BufferRead
/-
  DERIVED. Bytes read as a text, by the program.
-/
namespace Go.Proofs.YtegfgbcimlacbaaGreatDoor
open Go Go.Proofs Go.RowKit

def bsZ (out : List Int) : ByteArray := ⟨(out.map fun z => z.toNat.toUInt8).toArray⟩
def ByteZ (out : List Int) : Prop := ∀ z ∈ out, 0 ≤ z ∧ z < 256
theorem enc_byte (r : Int) : ByteZ (Lib.encodeRuneZ r) := by
  intro z hz
  unfold Lib.encodeRuneZ at hz
  split at hz
  · simp at hz; omega
  · split at hz
    · simp at hz; omega
    · split at hz
      · simp at hz; omega
      · split at hz
        · simp at hz; omega
        · simp at hz; omega
theorem ByteZ.app {a b : List Int} (h : ByteZ a) (k : ByteZ b) : ByteZ (a ++ b) := fun z hz => by
  rcases List.mem_append.1 hz with hz | hz
  · exact h z hz
  · exact k z hz

theorem conv_z {w : World} {B : Nat} {v : Value} {out : List Int} (hz : ByteZ out) (h : w.ownsRow B 5 1 v out.length (cellsZ out)) : (convert 27 9 v).run Tryz.prog w = .ok (.string (bsZ out)) w := by
  rcases h.2 with ⟨rfl, h0⟩ | ⟨g, cap, cur, rfl, hb, hg, hn, hm, hc, hx⟩
  · have : out = [] := List.length_eq_zero_iff.1 h0
    subst this
    exact Lib.run_convert_nil_bytes w 27 9 5 0 Tryz.underlying27 Tryz.underlying5 Tryz.underlying9
  · have := run_convert_bytes_back (P := Tryz.prog) w 27 9 5 ⟨g, 0, none⟩ cap (out.map fun z => z.toNat.toUInt8) Tryz.underlying27 Tryz.underlying5 Tryz.underlying9 (fun j hj => ?_)
    · rw [List.length_map] at this
      exact this
    · rw [List.length_map] at hj
      refine h.cells (g := g) rfl j _ ?_
      unfold cellsZ
      rw [List.getElem?_map, List.getElem?_eq_getElem hj]
      have hb := hz _ (List.getElem_mem hj)
      simp only [Option.map_some, List.getElem_map]
      congr 2
      have : (out[j].toNat.toUInt8).toNat = out[j].toNat := by simp; omega
      rw [this]
      omega

def PostT (w : World) (F : Except (Nat × Int) (List Int)) (e : Ending) (w' : World) : Prop :=
  Below w.heap.size w w' ∧ match F with
    | .ok out => e = .returned (.tuple #[.string (bsZ out), .nilIface])
    | .error (i, c) => ∃ v, e = .returned (.tuple #[.string ⟨#[]⟩, v]) ∧ PErr w' v (some ((i : Int), c))

theorem t126_lt' : ∀ d : Fin 32, t126.getD d.val 0 < 65536 := by decide +kernel
theorem mean_le {k d : Nat} (hd : d < 96) : mean k d ≤ 65535 := by
  unfold mean
  split
  · omega
  · split
    · have := t101_lt ⟨d, hd⟩; simp only at this; omega
    · split
      · split
        · have := t126_lt' ⟨d, ‹_›⟩; simp only at this; omega
        · split <;> omega
      · split
        · split
          · omega
          · split
            · omega
            · split <;> omega
        · split
          · repeat (split; · omega)
            omega
          · omega
theorem headS_bnd (u : Bool) (kc : ByteArray) (h : Row) (b : Nat) (t : ByteArray) (hb : b < 256) : (headS u kc h b t).1 ≤ 1114111 ∧ (headS u kc h b t).2 ≤ 4 := by
  unfold headS
  split
  · exact ⟨by simp; omega, by simp⟩
  · split
    · unfold uHead
      split
      · exact ⟨by simp, by simp⟩
      · rename_i hh
        simp only [Bool.or_eq_true, Bool.not_eq_true', not_or, decide_eq_true_eq] at hh
        have h2 := hh.2
        unfold wid at h2
        simp at h2
        exact ⟨by simp; omega, Lib.decodeGo_le4 t⟩
    · split
      · have := mean_le (k := h.1) (d := b - 160) (by omega)
        exact ⟨by simp; omega, by simp⟩
      · exact ⟨by simp, by simp⟩
theorem enc_len (r : Int) : (Lib.encodeRuneZ r).length ≤ 4 := by
  unfold Lib.encodeRuneZ
  repeat (split; · simp)
  simp

end Go.Proofs.YtegfgbcimlacbaaGreatDoor
