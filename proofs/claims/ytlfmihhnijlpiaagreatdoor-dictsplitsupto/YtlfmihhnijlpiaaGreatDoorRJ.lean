
import Derived.Test.YtlfmihhnijlpiaaGreatDoorRI
/-
  DERIVED. The document's padding; the law.
-/
namespace Go.Proofs.YtlfmihhnijlpiaaGreatDoor.Rp
open Go Go.Proofs Go.RowKit

theorem rabout_open (w : World) (v : Int) : Calls Tryz.prog 15 #[.int .i64 v] w fun e w' => e = .returned (.tuple #[.agg #[.string (nm (vn v)), .int .u8 (pd (vn v)), .int .i64 (un (vn v)), .int .i64 (mo (vn v)), .bool (tx (vn v)), .bool (ch (vn v)), .bool (mu (vn v)), .bool (lo (vn v))], .bool (decide (1 ≤ v ∧ v ≤ 28))]) ∧ Below w.heap.size w w' := rabout_any w v

theorem get_list (s : ByteArray) (k : Nat) (h : k < s.size) : s[k] = s.data.toList.getD k 1 := by
  have h2 : k < s.data.size := h
  show s.data[k] = _
  simp [List.getD_eq_getElem?_getD, Array.getElem?_eq_getElem h2]

end Go.Proofs.YtlfmihhnijlpiaaGreatDoor.Rp
