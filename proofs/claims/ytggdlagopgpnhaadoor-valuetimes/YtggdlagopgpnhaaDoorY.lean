import Derived.Test.YtggdlagopgpnhaaDoorX
import Derived.Laws.IdiomStrings
/-
  DERIVED. The document's pad.
-/
namespace Go.Proofs.YtggdlagopgpnhaaDoor
open Go Go.Proofs Go.RowKit

def padI (w : World) (n k : Nat) (v i : Nat) (S : ByteArray) (wx : World) : Prop := (pd v (k - i) ++ S.data.toList = pd n k) ∧ Below w.heap.size w wx

set_option maxRecDepth 100000 in
set_option maxHeartbeats 1000000 in
theorem pad36_any (w : World) (n k : Nat) (hn : n ≤ 9999) (hk : k ≤ 4) : Calls Tryd.prog 36 #[.int .i64 (n : Int), .int .i64 (k : Int)] w fun e w' => e = .returned (.string (pdB n k)) ∧ Below w.heap.size w w' := by
  go_enter Tryd.func36, Tryd.ntmps36
  go_wp2
  go_loopg [0, 5, 6] k (fun g s0 s5 s6 wx => ∃ (v i : Nat) (S : ByteArray), s0 = .int .i64 (v : Int) ∧ s6 = .int .i64 (i : Int) ∧ s5 = .string S ∧ g + i = k ∧ v ≤ 9999 ∧ S.size = i ∧ Hid (padI w n k v i S wx))
  case atStart => exact ⟨n, 0, ⟨#[]⟩, rfl, rfl, rfl, by omega, hn, rfl, ⟨by simp, Below.refl _ _⟩⟩
  case round =>
    obtain ⟨v, i, S, rfl, rfl, rfl, hg, hv, hS, HI⟩ := hrel
    by_cases hi : i < k
    · have hiI : (i : Int) < (k : Int) := by omega
      obtain ⟨c, hc⟩ : ∃ c, v % 10 = c := ⟨_, rfl⟩
      obtain ⟨q, hq⟩ : ∃ q, v / 10 = q := ⟨_, rfl⟩
      have hcI : (v : Int) % 10 = (c : Int) := by omega
      have hqI : (v : Int) / 10 = (q : Int) := by omega
      have hc9 : c ≤ 9 := by omega
      have hq9 : q ≤ 9999 := by omega
      have HP : Hid (pd q (k - (i + 1)) ++ (UInt8.ofNat (48 + c) :: S.data.toList) = pd n k) := by
        have := HI.out.1
        rw [show k - i = (k - (i + 1)) + 1 by omega, pd, hc, hq] at this
        show _ = _
        rw [← this]
        simp
      obtain ⟨b, hb⟩ : ∃ b, UInt8.ofNat (48 + c) = b := ⟨_, rfl⟩
      have hbN : b.toNat = 48 + c := by rw [← hb, UInt8.toNat_ofNat']; omega
      rw [hb] at HP
      obtain ⟨Wa, hWa⟩ : ∃ Wa, wr.alloc (.cells #[.int .u8 (48 + (c : Int))] 5) = Wa := ⟨_, rfl⟩
      have hconv : (convert 106 9 (.slice (some ⟨wr.heap.size, 0, none⟩) 1 1)).run Tryd.prog Wa = .ok (.string ⟨#[b]⟩) Wa := by
        refine run_convert_bytes_back Wa 106 9 5 ⟨wr.heap.size, 0, none⟩ 1 [b] Tryd.underlying106 Tryd.underlying5 Tryd.underlying9 (fun j hj => ?_)
        obtain rfl : j = 0 := by simp at hj; omega
        rw [← hWa]
        simp [hbN, Addr.add]
      have HI2 : Hid (padI w n k q (i + 1) (⟨#[b]⟩ ++ S) Wa) := by
        refine ⟨?_, ?_⟩
        · rw [← HP.out]
          congr 1
        · exact hWa ▸ HI.out.2.alloc HI.out.2.size _
      have hS2 : ((⟨#[b]⟩ : ByteArray) ++ S).size = i + 1 := by rw [ByteArray.size_append, hS]; show 1 + i = i + 1; omega
      clear HP hb hbN hc hq HI
      go_wp2
      go_roundg (k - (i + 1))
      case measure => omega
      case rel => exact ⟨q, i + 1, ⟨#[b]⟩ ++ S, by first | rfl | simp, by first | rfl | simp, rfl, by omega, hq9, hS2, HI2⟩
    · have hiI : ¬ ((i : Int) < (k : Int)) := by omega
      have HE : Hid (S = pdB n k) := by
        have := HI.out.1
        rw [show k - i = 0 by omega, pd, List.nil_append] at this
        show S = pdB n k
        unfold pdB
        rw [← this]
      have HB : Hid (Below w.heap.size w wr) := HI.out.2
      obtain rfl : S = pdB n k := HE.out
      clear HI
      go_wp2
      go_ret
      exact ⟨rfl, HB.out⟩
end Go.Proofs.YtggdlagopgpnhaaDoor
