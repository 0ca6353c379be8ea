import Derived.Test.YtehgeninocbpeaaGreatDoorVb
import Derived.Deep.AppendLies
import Derived.Deep.LoopGhost
import Derived.Laws.IdiomStrings
/-
  DERIVED. The law's own days: eight digits.
-/
namespace Go.Proofs.YtehgeninocbpeaaGreatDoor.Tm
open Go Go.Proofs Go.RowKit

def u8C (l : List UInt8) : List Value := l.map fun b => .int .u8 (b.toNat : Int)
theorem u8C_append (a b : List UInt8) : u8C (a ++ b) = u8C a ++ u8C b := List.map_append
theorem u8C_one (l : List UInt8) : ∀ u ∈ u8C l, u.oneCell' = true := by
  intro u hu
  obtain ⟨b, _, rfl⟩ := List.mem_map.1 hu
  rfl
theorem inf5 : ∃ i, Tryz.prog.info? 5 = some i ∧ i.zero = some (.int .u8 0) ∧ i.size = 1 ∧ i.bytes = 1 := by
  obtain ⟨i, hi⟩ : ∃ i, Tryz.prog.info? 5 = some i := Option.isSome_iff_exists.1 (by kernel_rfl)
  have : (Tryz.prog.info? 5).map (fun i => (i.zero, i.size, i.bytes)) = some (some (.int .u8 0), 1, 1) := by kernel_rfl
  rw [hi] at this
  simp at this
  exact ⟨i, hi, this.1, this.2.1, this.2.2⟩
/-- The digits, the last one first. -/
def dl (n : Nat) : Nat → List UInt8
  | 0 => []
  | k + 1 => dl n k ++ [UInt8.ofNat (48 + n / 10 ^ k % 10)]
theorem dl_len (n : Nat) : ∀ k, (dl n k).length = k
  | 0 => rfl
  | k + 1 => by rw [dl, List.length_append, dl_len n k]; rfl
theorem dl_succ (n : Nat) : ∀ k, dl n (k + 1) = UInt8.ofNat (48 + n % 10) :: dl (n / 10) k
  | 0 => by simp [dl]
  | k + 1 => by
    rw [dl, dl_succ n k, dl, List.cons_append, Nat.div_div_eq_div_mul, Nat.pow_succ, Nat.mul_comm 10]
theorem dl_rev : ∀ (k n : Nat), (dl n k).reverse = pd n k
  | 0, n => by simp [dl, pd]
  | k + 1, n => by rw [dl_succ, List.reverse_cons, dl_rev k (n / 10), pd]

/-- The first bytes changed for the last ones. -/
def swp (D : List UInt8) : Nat → List UInt8
  | 0 => D
  | i + 1 => ((swp D i).set i ((swp D i).getD (7 - i) 0)).set (7 - i) ((swp D i).getD i 0)
theorem swp_rev (D : List UInt8) (h : D.length = 8) : swp D 4 = D.reverse := by
  match D, h with
  | [a, b, c, d, e, f, g, k], _ => rfl
theorem swp_len (D : List UInt8) : ∀ i, (swp D i).length = D.length
  | 0 => rfl
  | i + 1 => by rw [swp, List.length_set, List.length_set, swp_len D i]
theorem u8C_set (l : List UInt8) (i : Nat) (x : UInt8) : (u8C l).set i (.int .u8 (x.toNat : Int)) = u8C (l.set i x) := by unfold u8C; rw [List.map_set]
theorem u8C_at (l : List UInt8) (i : Nat) (h : i < l.length) : (u8C l)[i]? = some (.int .u8 ((l.getD i 0).toNat : Int)) := by
  unfold u8C
  rw [List.getElem?_map, List.getElem?_eq_getElem h, List.getD_eq_getElem?_getD, List.getElem?_eq_getElem h]
  rfl

theorem heap_new (w : World) (o : Obj) : (w.alloc o).heap[w.heap.size]? = some o := by
  show (w.heap.push o)[w.heap.size]? = some o
  simp
theorem byte_of (v : Int) (h0 : 0 ≤ v) : ((UInt8.ofNat (48 + v.toNat % 10)).toNat : Int) = 48 + v % 10 := by
  rw [UInt8.toNat_ofNat']
  omega

set_option maxRecDepth 100000 in
set_option maxHeartbeats 4000000 in
theorem eight_any (w : World) (n : Nat) (hn : n ≤ 99999999) : Calls Tryz.prog 23 #[.int .i64 (n : Int)] w fun e w' => e = .returned (.string (pdB n 8)) ∧ Below w.heap.size w w' := by
  obtain ⟨i0, hi, hz0, hz1, hz2⟩ := inf5
  obtain ⟨B, hB⟩ : ∃ B, w.heap.size = B := ⟨_, rfl⟩
  have HB0 : Hid (Below B w w) := Below.refl _ _
  go_enter Tryz.func23, Tryz.ntmps23
  go_wp2
  go_loopg [0, 3, 4] 8 (fun k s0 s3 s4 wx => ∃ (i : Nat), s4 = .int .i64 (i : Int) ∧ i ≤ 8 ∧ k + i = 8 ∧ (∃ v : Nat, s0 = .int .i64 (v : Int) ∧ v ≤ 99999999 ∧ Hid (v = n / 10 ^ i)) ∧ Hid (wx.ownsRow B 5 1 s3 i (u8C (dl n i))) ∧ Hid (Below B w wx))
  case atStart => exact ⟨0, rfl, by omega, by omega, ⟨n, rfl, hn, by show n = n / 1; omega⟩, World.ownsRow_nil _ _ _ _, HB0⟩
  case round =>
    obtain ⟨i, rfl, hi8, hg, ⟨v, rfl, hv, HV⟩, HO, HBw⟩ := hrel
    have hBs : B ≤ wr.heap.size := by rw [← hB]; have := HBw.out.size; omega
    by_cases hlt : i < 8
    · have hI : (i : Int) < 8 := by omega
      obtain ⟨x, hx⟩ : ∃ x : UInt8, UInt8.ofNat (48 + v % 10) = x := ⟨_, rfl⟩
      have hxI : (48 : Int) + (v : Int) % 10 = (x.toNat : Int) := by rw [← hx, UInt8.toNat_ofNat']; omega
      have HD : Hid (dl n (i + 1) = dl n i ++ [x]) := by show _ = _; rw [dl, ← hx, HV.out]
      have HV2 : Hid (v / 10 = n / 10 ^ (i + 1)) := by show _ = _; rw [HV.out, Nat.div_div_eq_div_mul, Nat.pow_succ]
      have hx256 : x.toNat < 256 := x.toNat_lt
      have h63 : i + 1 ≤ maxLen := by unfold maxLen; omega
      have hby : (i + 1) * 1 ≤ 140737488355328 := by omega
      have hb2 : B ≤ (wr.alloc (.cells #[.int .u8 (x.toNat : Int)] 5)).heap.size := by simp; omega
      clear hx HV
      go_wp2_with (at_builtin; refine Stop.mk ?_)
      refine Stop.out ?_
      refine (wpList_append_lies _ rfl (.tmp 10) (.tmp 15) 87 rfl B 5 i0 _ 1 1 Tryz.underlying87 hi hz0 hz1 hz2 rfl (by decide) u3 i (u8C (dl n i)) rfl (HO.out.alloc _) ⟨wr.heap.size, 0, none⟩ 1 1 [.int .u8 (x.toNat : Int)] rfl rfl (World.news_of_block (heap_new wr _)) (u8C_one [x]) (by decide) h63 hby hb2 _ rfl ?_)
      intro g4 cap4 W4 hown4 hgrow4 _ _
      have HB4 : Hid (Below B w W4) := (HBw.out.alloc hBs _).grown hgrow4 (by simp; omega) (fun k hk => (HO.out.lt k hk).1)
      have HO4 : Hid (W4.ownsRow B 5 1 (.slice (some ⟨g4, 0, none⟩) (i + 1) cap4) (i + 1) (u8C (dl n (i + 1)))) := by
        show World.ownsRow _ _ _ _ _ _ _
        rw [HD.out, u8C_append]
        exact hown4
      have hv10 : v / 10 ≤ 99999999 := by omega
      clear hown4 hgrow4 hxI hx256 HO HBw HD
      go_wp2
      go_roundg (8 - (i + 1))
      case measure => omega
      case rel => exact ⟨i + 1, by simp, by omega, by omega, ⟨v / 10, by simp, hv10, HV2⟩, HO4, HB4⟩
    · obtain rfl : i = 8 := by omega
      obtain ⟨g, cap, rfl, hgB, hglt⟩ := HO.out.form (by omega)
      have HS : Hid (wr.ownsRow B 5 1 (.slice (some ⟨g, 0, none⟩) 8 cap) 8 (u8C (swp (dl n 8) 0))) := HO.out
      clear HO HV
      go_wp2
      go_loopg [5] 4 (fun k s5 wx => ∃ (i : Nat), s5 = .int .i64 (i : Int) ∧ i ≤ 4 ∧ k + i = 4 ∧ Hid (wx.ownsRow B 5 1 (.slice (some ⟨g, 0, none⟩) 8 cap) 8 (u8C (swp (dl n 8) i))) ∧ Hid (Below B w wx))
      case atStart => exact ⟨0, rfl, by omega, by omega, HS, HBw⟩
      case round =>
        obtain ⟨i, rfl, hi4, hg4, HS4, HB4⟩ := hrel
        by_cases hlt4 : i < 4
        · have hl8 : (swp (dl n 8) i).length = 8 := by rw [swp_len, dl_len]
          obtain ⟨x, hx⟩ : ∃ x, (swp (dl n 8) i).getD i 0 = x := ⟨_, rfl⟩
          obtain ⟨y, hy⟩ : ∃ y, (swp (dl n 8) i).getD (7 - i) 0 = y := ⟨_, rfl⟩
          have ex : wr.cell? ⟨g, i, none⟩ = some (.int .u8 (x.toNat : Int)) := by rw [HS4.out.cellAt i (by omega), u8C_at _ _ (by omega), hx]
          have ey : wr.cell? ⟨g, 7 - i, none⟩ = some (.int .u8 (y.toNat : Int)) := by rw [HS4.out.cellAt (7 - i) (by omega), u8C_at _ _ (by omega), hy]
          have ef := fun j => HS4.out.frozenAt j
          have HS5 : Hid (((wr.setCell ⟨g, i, none⟩ (.int .u8 (y.toNat : Int))).setCell ⟨g, 7 - i, none⟩ (.int .u8 (x.toNat : Int))).ownsRow B 5 1 (.slice (some ⟨g, 0, none⟩) 8 cap) 8 (u8C (swp (dl n 8) (i + 1)))) := by
            have h1 := (World.ownsRow.stored HS4.out i (.int .u8 (y.toNat : Int))).1
            have h2 := (World.ownsRow.stored h1 (7 - i) (.int .u8 (x.toNat : Int))).1
            rw [u8C_set, u8C_set] at h2
            show World.ownsRow _ _ _ _ _ _ _
            rw [swp, hx, hy]
            exact h2
          have HB5 : Hid (Below B w ((wr.setCell ⟨g, i, none⟩ (.int .u8 (y.toNat : Int))).setCell ⟨g, 7 - i, none⟩ (.int .u8 (x.toNat : Int)))) := (HB4.out.setCell (p := ⟨g, i, none⟩) hgB _).setCell (p := ⟨g, 7 - i, none⟩) hgB _
          clear hx hy hl8
          rcases (by omega : i = 0 ∨ i = 1 ∨ i = 2 ∨ i = 3) with rfl | rfl | rfl | rfl
          · have ex : wr.drew.cell? ⟨g, 0, none⟩ = some (.int .u8 (x.toNat : Int)) := ex
            have ey : wr.drew.cell? ⟨g, 7, none⟩ = some (.int .u8 (y.toNat : Int)) := ey
            have ef : ∀ j, wr.drew.frozen? ⟨g, j, none⟩ = false := ef
            go_wp2
            go_region
            go_wp2
            go_roundg (4 - (0 + 1))
            case measure => omega
            case rel => exact ⟨0 + 1, by simp, by omega, by omega, HS5.out, HB5.out.drew⟩
          · have ex : wr.drew.cell? ⟨g, 1, none⟩ = some (.int .u8 (x.toNat : Int)) := ex
            have ey : wr.drew.cell? ⟨g, 6, none⟩ = some (.int .u8 (y.toNat : Int)) := ey
            have ef : ∀ j, wr.drew.frozen? ⟨g, j, none⟩ = false := ef
            go_wp2
            go_region
            go_wp2
            go_roundg (4 - (1 + 1))
            case measure => omega
            case rel => exact ⟨1 + 1, by simp, by omega, by omega, HS5.out, HB5.out.drew⟩
          · have ex : wr.drew.cell? ⟨g, 2, none⟩ = some (.int .u8 (x.toNat : Int)) := ex
            have ey : wr.drew.cell? ⟨g, 5, none⟩ = some (.int .u8 (y.toNat : Int)) := ey
            have ef : ∀ j, wr.drew.frozen? ⟨g, j, none⟩ = false := ef
            go_wp2
            go_region
            go_wp2
            go_roundg (4 - (2 + 1))
            case measure => omega
            case rel => exact ⟨2 + 1, by simp, by omega, by omega, HS5.out, HB5.out.drew⟩
          · have ex : wr.drew.cell? ⟨g, 3, none⟩ = some (.int .u8 (x.toNat : Int)) := ex
            have ey : wr.drew.cell? ⟨g, 4, none⟩ = some (.int .u8 (y.toNat : Int)) := ey
            have ef : ∀ j, wr.drew.frozen? ⟨g, j, none⟩ = false := ef
            go_wp2
            go_region
            go_wp2
            go_roundg (4 - (3 + 1))
            case measure => omega
            case rel => exact ⟨3 + 1, by simp, by omega, by omega, HS5.out, HB5.out.drew⟩
        · obtain rfl : i = 4 := by omega
          have hl : swp (dl n 8) 4 = pd n 8 := by rw [swp_rev _ (dl_len n 8), dl_rev]
          have hlen : (pd n 8).length = 8 := pd_len 8 n
          have hcv := run_convert_bytes_back (P := Tryz.prog) wr 87 9 5 ⟨g, 0, none⟩ cap (pd n 8) Tryz.underlying87 Tryz.underlying5 Tryz.underlying9 (fun j hj => by
            have hadd : (⟨g, 0, none⟩ : Addr).add j = ⟨g, j, none⟩ := by unfold Addr.add; split <;> simp_all
            rw [hadd, HS4.out.cellAt j (by omega), hl, u8C_at _ _ hj, List.getD_eq_getElem?_getD, List.getElem?_eq_getElem hj]
            rfl)
          rw [hlen] at hcv
          have HP : Hid (pdB n 8 = ⟨(pd n 8).toArray⟩) := rfl
          generalize (⟨(pd n 8).toArray⟩ : ByteArray) = T at *
          clear hl hlen HS4
          go_wp2
          go_ret
          exact ⟨by rw [HP.out]; rfl, by rw [hB]; exact HB4.out⟩
end Go.Proofs.YtehgeninocbpeaaGreatDoor.Tm
