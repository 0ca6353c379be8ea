import Derived.Test.YtlfmihhnijlpiaaGreatDoorWA
import Derived.Lib.ConvBytes
import Derived.Laws.IdiomStrings
/-
  DERIVED. The text that marks a place.
-/
namespace Go.Proofs.YtlfmihhnijlpiaaGreatDoor.Sp
open Go Go.Proofs Go.RowKit

def mkL (i k : Nat) : List UInt8 := [UInt8.ofNat i, UInt8.ofNat k, UInt8.ofNat (k / 256), 33]
def mkB (i k : Nat) : ByteArray := ⟨(mkL i k).toArray⟩
def mkc (i k : Nat) : Array Value := #[.int .u8 (i : Int), .int .u8 ((k : Int) % 256), .int .u8 ((k : Int) / 256 % 256), .int .u8 33]

set_option maxRecDepth 100000 in
set_option maxHeartbeats 2000000 in
theorem mark_any (w : World) (i k : Nat) (hi : i < 256) (_hk : k < 4294967296) : Calls Tryz.prog 16 #[.int .i64 (i : Int), .int .i64 (k : Int)] w fun e w' => e = .returned (.string (mkB i k)) ∧ w.alloc (.cells (mkc i k) 5) = w' := by
  have hcv : (convert 63 9 (.slice (some ⟨w.heap.size, 0, none⟩) 4 4)).run Tryz.prog (w.alloc (.cells #[.int .u8 (i : Int), .int .u8 ((k : Int) % 256), .int .u8 ((k : Int) / 256 % 256), .int .u8 33] 5)) = .ok (.string (mkB i k)) (w.alloc (.cells #[.int .u8 (i : Int), .int .u8 ((k : Int) % 256), .int .u8 ((k : Int) / 256 % 256), .int .u8 33] 5)) := by
    refine run_convert_bytes_back (P := Tryz.prog) _ 63 9 5 ⟨w.heap.size, 0, none⟩ 4 (mkL i k) Tryz.underlying63 Tryz.underlying5 Tryz.underlying9 (fun j hj => ?_)
    have h4 : (mkL i k).length = 4 := rfl
    rw [h4] at hj
    match j, hj with
    | 0, _ => simp [mkL, Addr.add]; omega
    | 1, _ => simp [mkL, Addr.add]
    | 2, _ => simp [mkL, Addr.add]
    | 3, _ => simp [mkL, Addr.add]
  go_enter Tryz.func16, Tryz.ntmps16
  go_wp2
  go_ret
  exact ⟨rfl, rfl⟩
end Go.Proofs.YtlfmihhnijlpiaaGreatDoor.Sp
