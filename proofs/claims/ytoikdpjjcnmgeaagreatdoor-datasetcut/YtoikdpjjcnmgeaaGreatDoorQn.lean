import Derived.Test.YtoikdpjjcnmgeaaGreatDoorBn
import Derived.Test.YtoikdpjjcnmgeaaGreatDoorBs
import Derived.Test.YtoikdpjjcnmgeaaGreatDoorDc
import Derived.Test.YtoikdpjjcnmgeaaGreatDoorLa
import Derived.Test.YtoikdpjjcnmgeaaGreatDoorBp
import Derived.BigQuiet
import Derived.WideMake
import Derived.Room.AppendFits
import Derived.Test.YtoikdpjjcnmgeaaGreatDoorBl
import Derived.Test.YtoikdpjjcnmgeaaGreatDoorNx
section
/-
  DERIVED. May it be laid down in both syntaxes? The law's own look.
-/
namespace Go.Proofs.YtoikdpjjcnmgeaaGreatDoor
open Go Go.Proofs Go.RowKit
open Wk (Nd NV nds)
open Go.Sort

theorem some_zero : SomeC 0 :=
  some_step 0 (by decide) fun _ => some_step 1 (by decide) fun _ => some_step 2 (by decide) fun _ => some_step 3 (by decide) fun _ => some_step 4 (by decide) fun h => absurd h (by decide)
set_option maxRecDepth 100000 in
theorem any_gen (w : World) (g m cap : Nat) (c : Int) (hc : c ≠ 0) : Calls Tryz.prog 26 #[.agg #[.slice (some ⟨g, 0, none⟩) m cap, .int .i64 c]] w fun e w' => e = .returned (.bool true) ∧ Below w.heap.size w w' := by
  have b : (c != 0) = true := bne_iff_ne.2 hc
  clear hc
  go_enter Tryz.func26, Tryz.ntmps26
  go_wp2
  go_ret
  exact ⟨rfl, (Below.refl _ _).alloc (Nat.le_refl _) _⟩
theorem err_c {s : Int} {L : List Nd} {ls : List Lk} {c : Int} (h : errOf s L = some (ls, c)) : c ≠ 0 := by
  unfold errOf at h
  split at h
  · cases h; decide
  · split at h
    · cases h; decide
    · split at h
      · cases h; decide
      · cases h
/-- Is a fault told? -/
theorem any_err (w : World) {w0 : World} {v : Value} {s : Int} {L : List Nd} {z : Bool} (h : RErr2 w0 v (errOf s L)) (hz : (errOf s L).isSome = z) : Calls Tryz.prog 26 #[v] w fun e w' => e = .returned (.bool z) ∧ Below w.heap.size w w' := by
  subst hz
  rcases h with ⟨h, rfl⟩ | ⟨ls, c, g, cg, h, rfl, -⟩
  · rw [h]; exact any_none w
  · have := err_c h
    rw [h]
    exact any_gen w g _ cg c this
theorem rerr_form {w : World} {v : Value} {o : Option (List Lk × Int)} (h : RErr2 w v o) : ∃ (a : Option Addr) (m c : Nat) (z : Int), v = .agg #[.slice a m c, .int .i64 z] := by
  rcases h with ⟨-, rfl⟩ | ⟨ls, c, g, cg, -, rfl, -⟩
  · exact ⟨_, _, _, _, rfl⟩
  · exact ⟨_, _, _, _, rfl⟩

set_option maxRecDepth 100000 in
set_option maxHeartbeats 4000000 in
theorem short_any (w : World) (a : Option Addr) (n cap : Nat) (L : List Nd) (hV : NV w a n cap L) (hT : TagsOk L) (z1 z2 : Bool) (hz1 : (errOf 1 L).isSome = z1) (hz2 : (errOf 2 L).isSome = z2) : Calls Tryz.prog 19 #[.slice a n cap] w fun e w' => e = .returned (.bool (!z1 && !z2)) ∧ Below w.heap.size w w' := by
  have HZ1 : Hid ((errOf 1 L).isSome = z1) := hz1
  have HZ2 : Hid ((errOf 2 L).isSome = z2) := hz2
  clear hz1 hz2
  have HV : Hid (NV w a n cap L) := hV
  have HT : Hid (TagsOk L) := hT
  clear hV hT
  go_enter Tryz.func19, Tryz.ntmps19
  go_wp2_with (go_at_call 25; refine StopQ.out ?_)
  refine ⟨Calls.mono (rsize_any some_zero w a n cap L HV.out HT.out 1) ?_⟩
  rintro e W1 ⟨vf, rfl, hp1, hb1⟩
  obtain ⟨fa, fm, fc, fz, hvf⟩ := rerr_form hp1
  subst hvf
  have HP1 : Hid (RErr2 W1 (.agg #[.slice fa fm fc, .int .i64 fz]) (errOf 1 L)) := hp1
  have HB1 : Hid (Below w.heap.size w W1) := hb1
  clear hp1 hb1
  go_wp2_with (go_at_call 25; refine StopQ.out ?_)
  obtain ⟨W2, hW2⟩ : ∃ W2, W1.alloc (.cells #[.slice fa fm fc, .int .i64 fz] 32) = W2 := ⟨_, rfl⟩
  have hb2 : Below W1.heap.size W1 W2 := by rw [← hW2]; exact (Below.refl _ _).alloc (Nat.le_refl _) _
  have c0 : W2.cell? ⟨W1.heap.size, 0, none⟩ = some (.slice fa fm fc) := by rw [← hW2]; simp
  have c1 : W2.cell? ⟨W1.heap.size, 1, none⟩ = some (.int .i64 fz) := by rw [← hW2]; simp
  rw [hW2]
  have HB2 : Hid (Below w.heap.size w W2) := HB1.out.trans (hb2.mono HB1.out.size)
  have HVT : Hid (NV W2 a n cap L ∧ TagsOk L) := ⟨HV.out.on (HB2.out), HT.out⟩
  refine ⟨Calls.mono (rsize_any some_zero W2 a n cap L HVT.out.1 HVT.out.2 2) ?_⟩
  rintro e W3 ⟨vf, rfl, hp3, hb3⟩
  obtain ⟨ga, gm, gc, gz, hvf⟩ := rerr_form hp3
  subst hvf
  obtain ⟨W4, hW4⟩ : ∃ W4, W3.alloc (.cells #[.slice ga gm gc, .int .i64 gz] 32) = W4 := ⟨_, rfl⟩
  have hb4 : Below W3.heap.size W3 W4 := by rw [← hW4]; exact (Below.refl _ _).alloc (Nat.le_refl _) _
  have d0 : W4.cell? ⟨W3.heap.size, 0, none⟩ = some (.slice ga gm gc) := by rw [← hW4]; simp
  have d1 : W4.cell? ⟨W3.heap.size, 1, none⟩ = some (.int .i64 gz) := by rw [← hW4]; simp
  have hb24 : Below W2.heap.size W2 W4 := hb3.trans (hb4.mono hb3.size)
  have e0 := (hb24.cell (Rp.cell_lt c0)).trans c0
  have e1 := (hb24.cell (Rp.cell_lt c1)).trans c1
  have HP3 : Hid (RErr2 W3 (.agg #[.slice ga gm gc, .int .i64 gz]) (errOf 2 L)) := hp3
  have HB4 : Hid (Below w.heap.size w W4) := HB2.out.trans (hb24.mono HB2.out.size)
  clear hp3 hb3 hb4 hb24 c0 c1 hb2 hW2
  go_wp2_with (go_at_call 26; refine StopQ.out ?_)
  refine ⟨Calls.mono (any_err W4 HP1.out HZ1.out) ?_⟩
  rintro e W5 ⟨rfl, hb5⟩
  have f0 := (hb5.cell (Rp.cell_lt d0)).trans d0
  have f1 := (hb5.cell (Rp.cell_lt d1)).trans d1
  have HB5 : Hid (Below w.heap.size w W5) := HB4.out.trans (hb5.mono HB4.out.size)
  clear hb5 hW4 d0 d1 e0 e1
  cases z1
  · go_wp2_with (go_at_call 26; refine StopQ.out ?_)
    refine ⟨Calls.mono (any_err W5 HP3.out HZ2.out) ?_⟩
    rintro e W6 ⟨rfl, hb6⟩
    have HB6 : Hid (Below w.heap.size w W6) := HB5.out.trans (hb6.mono HB5.out.size)
    clear hb6
    go_wp2
    go_ret
    exact ⟨rfl, HB6.out⟩
  · go_wp2
    go_ret
    exact ⟨rfl, HB5.out⟩
end Go.Proofs.YtoikdpjjcnmgeaaGreatDoor
end

section
/-
  DERIVED. Bytes that are lent, and what is left of them.
-/
namespace Go.Proofs.YtoikdpjjcnmgeaaGreatDoor.Le
open Go Go.Proofs Go.RowKit

/-- Bytes that lie there. -/
def At (w : World) (b off : Nat) (bs : List Nat) : Prop := (∀ k, k < bs.length → w.cell? ⟨b, off + k, none⟩ = some (.int .u8 (bs.getD k 0 : Nat))) ∧ (∀ x ∈ bs, x < 256)
/-- A slice value, read: these bytes. -/
def V (w : World) (v : Value) (bs : List Nat) : Prop :=
  (∃ ao cap, v = .slice ao 0 cap ∧ bs = []) ∨ (∃ b off cap, v = .slice (some ⟨b, off, none⟩) bs.length cap ∧ 0 < bs.length ∧ bs.length ≤ cap ∧ At w b off bs)


theorem info5s : (Tryz.prog.info? 5).map (fun i => (i.zero, i.size, i.bytes)) = some (some (.int .u8 0), 1, 1) := by kernel_rfl

def u8s (bs : List Nat) : List Value := bs.map fun (b : Nat) => Value.int .u8 (b : Int)

/-- Bytes in memory of our own, from block B on. -/
def Own (w : World) (B : Nat) (v : Value) (bs : List Nat) : Prop := w.ownsRow B 5 1 v bs.length (u8s bs) ∧ ∀ x ∈ bs, x < 256

theorem At.next {w w' : World} {b off : Nat} {bs : List Nat} (h : At w b off bs) (hb : Below w.heap.size w w') : At w' b off bs :=
  ⟨fun k hk => (hb.cell (World.block_lt_of_cell? w ⟨b, off + k, none⟩ (h.1 k hk))).trans (h.1 k hk), h.2⟩

theorem V.next {w w' : World} {v : Value} {bs : List Nat} (h : V w v bs) (hb : Below w.heap.size w w') : V w' v bs := by
  rcases h with h | ⟨b, off, cap, rfl, hp, hc, h⟩
  · exact .inl h
  · exact .inr ⟨b, off, cap, rfl, hp, hc, h.next hb⟩

theorem u8s_length (bs : List Nat) : (u8s bs).length = bs.length := by simp [u8s]

theorem u8s_get (bs : List Nat) (k : Nat) (hk : k < bs.length) : (u8s bs)[k]? = some (.int .u8 (bs.getD k 0 : Nat)) := by
  simp [u8s, List.getElem?_eq_getElem hk]

theorem u8s_take_succ {bs : List Nat} {k : Nat} (hk : k < bs.length) : u8s (bs.take k) ++ [.int .u8 (bs.getD k 0 : Nat)] = u8s (bs.take (k + 1)) := by
  rw [List.take_add_one, List.getElem?_eq_getElem hk]
  unfold u8s
  rw [List.map_append, List.getD_eq_getElem?_getD, List.getElem?_eq_getElem hk]
  rfl

theorem u8s_append (a b : List Nat) : u8s (a ++ b) = u8s a ++ u8s b := by simp [u8s]

theorem V.form {w : World} {v : Value} {bs : List Nat} (h : V w v bs) : ∃ ao cap, v = .slice ao bs.length cap ∧ (0 < bs.length → ∃ b off, ao = some ⟨b, off, none⟩ ∧ At w b off bs) ∧ ∀ x ∈ bs, x < 256 := by
  rcases h with ⟨a1, c1, rfl, rfl⟩ | ⟨b1, o1, c1, rfl, hp1, _, h1⟩
  · exact ⟨_, _, rfl, by simp, by simp⟩
  · exact ⟨_, _, rfl, fun _ => ⟨_, _, rfl, h1⟩, h1.2⟩

set_option maxRecDepth 100000 in
/-- Lend. -/
theorem lend_any {w : World} {v : Value} {bs : List Nat} (h : V w v bs) (hl : bs.length ≤ 140737488351232) :
    Calls Tryz.prog 9 #[v] w fun e w' => e = .returned (.slice (some ⟨w.heap.size, 0, none⟩) bs.length (bs.length + 3)) ∧ Own w' w.heap.size (.slice (some ⟨w.heap.size, 0, none⟩) (bs.length + 3) (bs.length + 3)) (bs ++ [160, 161, 162]) ∧ Below w.heap.size w w' := by
  obtain ⟨ao, cap, rfl, hf, hbytes⟩ := h.form
  obtain ⟨n, hn⟩ : ∃ n, n = bs.length := ⟨_, rfl⟩
  rw [← hn] at hl
  rw [← hn]
  have HN : Hid (n = bs.length) := hn
  have HF : Hid (0 < n → ∃ b off, ao = some ⟨b, off, none⟩ ∧ At w b off bs) := by rw [hn]; exact hf
  clear hn hf h
  obtain ⟨i0, hi, hz0, hz1, hz2⟩ := info_parts info5s
  obtain ⟨B, hB⟩ : ∃ B, w.heap.size = B := ⟨_, rfl⟩
  rw [hB]
  have HB : Hid (B = w.heap.size) := hB.symm
  go_enter Tryz.func9, Tryz.ntmps9
  go_wp2_with (first | (at_make; refine wpList_make_own _ rfl _ _ 22 rfl B 5 i0 (.int .u8 0) 1 Tryz.underlying22 hi hz0 hz1 .i64 .i64 _ (n + 3) rfl rfl ?_ ?_ ?_ ?_ ?_) | fail)
  · omega
  · rw [hz2]; omega
  · unfold maxLen; omega
  · omega
  · intro w1 hown1 hgrow1
    have hbe1 : Below B w w1 := (Below.refl B w).grown hgrow1 (by omega) (by simp)
    clear hgrow1
    go_wp2
    go_loopw [3, 4] (fun v i wr => ∃ k : Nat, k ≤ n ∧ i = .int .i64 k ∧ v = .slice (some ⟨B, 0, none⟩) k (n + 3) ∧ wr.ownsRow B 5 1 (.slice (some ⟨B, 0, none⟩) k (n + 3)) k (u8s (bs.take k)) ∧ Below B w wr) (fun _ i _ => n - (intOf i).toNat)
    case atStart => exact ⟨0, Nat.zero_le _, rfl, rfl, hown1, hbe1⟩
    case round =>
      clear hown1 hbe1
      obtain ⟨k, hk, rfl, rfl, hown, hbe⟩ := hrel
      have HBr : Hid (B ≤ wr.heap.size) := by have := hbe.size; rw [HB.out]; exact this
      by_cases hkn : k < n
      · obtain ⟨b, off, rfl, hb⟩ := HF.out (by omega)
        have hkl : k < bs.length := by rw [← HN.out]; exact hkn
        obtain ⟨y, HY, hcy⟩ : ∃ y, Hid (y = bs.getD k 0) ∧ wr.cell? ⟨b, off + k, none⟩ = some (.int .u8 (y : Int)) := ⟨_, rfl, (hbe.cell (p := ⟨b, off + k, none⟩) (by rw [HB.out]; exact World.block_lt_of_cell? w _ (hb.1 k hkl))).trans (hb.1 k hkl)⟩
        clear hkl
        go_wp2_with (first | (at_builtin; refine wpList_append_fits _ rfl _ _ 22 rfl B 5 i0 1 Tryz.underlying22 hi hz1 B k (n + 3) _ rfl (hown.alloc _) ⟨wr.heap.size, 0, none⟩ 1 1 [.int .u8 (y : Int)] rfl rfl ?_ ?_ ?_ ?_) | fail)
        · exact cell_one_new _ _ _
        · intro u hu; simp at hu; subst hu; rfl
        · omega
        · intro w2 hown' hgrow
          have hbe' : Below B w w2 := (hbe.alloc HBr.out _).grown hgrow (by have := HBr.out; simp; omega) (fun j hj => by cases hj; omega)
          rw [HY.out, u8s_take_succ (by rw [← HN.out]; exact hkn)] at hown'
          clear hgrow hown hcy
          go_wp2
          go_roundw
          case rel => exact ⟨k + 1, by omega, by go_num, rfl, hown', hbe'⟩
          case measure => simp [intOf]; omega
      · have hkn' : k = n := by omega
        subst hkn'
        rw [HN.out, List.take_length, ← HN.out] at hown
        go_wp2
        go_loopw [3, 5] (fun v i wr => ∃ j : Nat, j ≤ 3 ∧ i = .int .i64 j ∧ v = .slice (some ⟨B, 0, none⟩) (k + j) (k + 3) ∧ wr.ownsRow B 5 1 (.slice (some ⟨B, 0, none⟩) (k + j) (k + 3)) (k + j) (u8s (bs ++ [160, 161, 162].take j)) ∧ Below B w wr) (fun _ i _ => 3 - (intOf i).toNat)
        case atStart => exact ⟨0, by omega, rfl, rfl, by simpa using hown, hbe⟩
        case round =>
          clear hown hbe HBr
          obtain ⟨j, hj, rfl, rfl, hown, hbe⟩ := hrel
          have HBr : Hid (B ≤ wr.heap.size) := by have := hbe.size; rw [HB.out]; exact this
          by_cases hj3 : j < 3
          · have hm : (160 + (j : Int)) % 256 = 160 + (j : Int) := by omega
            go_wp2_with (first | (at_builtin; refine wpList_append_fits _ rfl _ _ 22 rfl B 5 i0 1 Tryz.underlying22 hi hz1 B (k + j) (k + 3) _ rfl (hown.alloc _) ⟨wr.heap.size, 0, none⟩ 1 1 [.int .u8 (160 + (j : Int))] rfl rfl ?_ ?_ ?_ ?_) | fail)
            · exact cell_one_new _ _ _
            · intro u hu; simp at hu; subst hu; rfl
            · omega
            · intro w2 hown' hgrow
              have hbe' : Below B w w2 := (hbe.alloc HBr.out _).grown hgrow (by have := HBr.out; simp; omega) (fun j hj => by cases hj; omega)
              have he : u8s (bs ++ [160, 161, 162].take j) ++ [.int .u8 (160 + (j : Int))] = u8s (bs ++ [160, 161, 162].take (j + 1)) := by
                rw [u8s_append, u8s_append, List.append_assoc]
                congr 1
                rcases (show j = 0 ∨ j = 1 ∨ j = 2 by omega) with rfl | rfl | rfl <;> rfl
              rw [he] at hown'
              clear hgrow hown hm he
              go_wp2
              go_roundw
              case rel => exact ⟨j + 1, by omega, by go_num, by congr 1, hown', hbe'⟩
              case measure => simp [intOf]; omega
          · have hj' : j = 3 := by omega
            subst hj'
            go_wp2
            go_ret
            refine ⟨rfl, ⟨?_, ?_⟩, hbe⟩
            · simpa [← HN.out] using hown
            · intro x hx
              rcases List.mem_append.1 hx with hx | hx
              · exact hbytes x hx
              · simp at hx; omega

theorem bytes_other (w : World) (a1 a2 : Option Addr) (n1 n2 c1 c2 : Nat) (h : n1 ≠ n2) :
    Calls Tryz.prog 27 #[.slice a1 n1 c1, .slice a2 n2 c2] w fun e w' => e = .returned (.bool false) ∧ w = w' := by
  have h2 : ((n1 : Int) != (n2 : Int)) = true := by simp; omega
  go_enter Tryz.func27, Tryz.ntmps27
  go_wp2
  all_goals first | omega | (go_ret; exact ⟨rfl, rfl⟩)

theorem bytes_empty (w : World) (a1 a2 : Option Addr) (c1 c2 : Nat) :
    Calls Tryz.prog 27 #[.slice a1 0 c1, .slice a2 0 c2] w fun e w' => e = .returned (.bool true) ∧ w = w' := by
  go_enter Tryz.func27, Tryz.ntmps27
  go_wp2
  refine wp_loop_rounds 1 ?_
  rw [rounds_succ]
  go_wp2
  go_ret
  exact ⟨rfl, rfl⟩

theorem take_succ_eq {l1 l2 : List Nat} {k : Nat} (h1 : k < l1.length) (h2 : k < l2.length) : (l1.take (k + 1) = l2.take (k + 1)) ↔ (l1.take k = l2.take k ∧ l1.getD k 0 = l2.getD k 0) := by
  rw [List.take_add_one, List.take_add_one, List.getElem?_eq_getElem h1, List.getElem?_eq_getElem h2, List.getD_eq_getElem?_getD, List.getD_eq_getElem?_getD, List.getElem?_eq_getElem h1, List.getElem?_eq_getElem h2]
  simp only [Option.toList_some, Option.getD_some]
  constructor
  · intro h
    have := List.append_inj' h (by simp)
    simpa using this
  · rintro ⟨ha, hb⟩
    rw [ha, hb]

set_option maxRecDepth 100000 in
theorem bytes_some (w : World) (b1 o1 c1 b2 o2 c2 n : Nat) (l1 l2 : List Nat) (h1 : At w b1 o1 l1) (h2 : At w b2 o2 l2) (hn1 : n = l1.length) (hn2 : n = l2.length) (hl : n ≤ 140737488351232) :
    Calls Tryz.prog 27 #[.slice (some ⟨b1, o1, none⟩) n c1, .slice (some ⟨b2, o2, none⟩) n c2] w fun e w' => e = .returned (.bool (decide (l1 = l2))) ∧ ∃ m, w' = w.drewN m := by
  have HN1 : Hid (n = l1.length) := hn1
  have HN2 : Hid (n = l2.length) := hn2
  clear hn1 hn2
  go_enter Tryz.func27, Tryz.ntmps27
  go_wp2
  go_loopw [5] (fun i wr => ∃ k m : Nat, k ≤ n ∧ i = .int .i64 k ∧ wr = w.drewN m ∧ Hid (l1.take k = l2.take k)) (fun i _ => n - (intOf i).toNat)
  case atStart => exact ⟨0, 0, Nat.zero_le _, rfl, rfl, by simp [Hid]⟩
  case round =>
    obtain ⟨k, m, hk, rfl, rfl, HT⟩ := hrel
    by_cases hkn : k < n
    · obtain ⟨y1, HY1, hc1⟩ : ∃ y, Hid (y = l1.getD k 0) ∧ w.cell? ⟨b1, o1 + k, none⟩ = some (.int .u8 (y : Int)) := ⟨_, rfl, h1.1 k (by rw [← HN1.out]; exact hkn)⟩
      obtain ⟨y2, HY2, hc2⟩ : ∃ y, Hid (y = l2.getD k 0) ∧ w.cell? ⟨b2, o2 + k, none⟩ = some (.int .u8 (y : Int)) := ⟨_, rfl, h2.1 k (by rw [← HN2.out]; exact hkn)⟩
      have HS := take_succ_eq (l1 := l1) (l2 := l2) (k := k) (by rw [← HN1.out]; exact hkn) (by rw [← HN2.out]; exact hkn)
      rw [← HY1.out, ← HY2.out] at HS
      by_cases hy : y1 = y2
      · have HS' : Hid (l1.take (k + 1) = l2.take (k + 1)) := HS.2 ⟨HT.out, hy⟩
        subst hy
        clear HS
        go_wp2
        go_quiet (fail)
        go_wp2
        go_roundw
        case rel => exact ⟨k + 1, _, by omega, by go_num, rfl, HS'⟩
        case measure => simp [intOf]; omega
      · have HS' : Hid (decide (l1 = l2) = false) := by
          show _ = _
          simp only [decide_eq_false_iff_not]
          intro he
          exact hy (HS.1 (by rw [he])).2
        have hy' : ((y1 : Int) != (y2 : Int)) = true := by simp; omega
        clear HS
        go_wp2
        go_quiet (fail)
        go_wp2
        go_ret
        exact ⟨by rw [HS'.out]; rfl, _, World.drewN_drewN ..⟩
    · have hkn' : k = n := by omega
      subst hkn'
      have HE : Hid (decide (l1 = l2) = true) := by
        show _ = _
        have := HT.out
        rw [HN1.out, List.take_length, ← HN1.out, HN2.out, List.take_length] at this
        simp [this]
      go_wp2
      go_ret
      exact ⟨by rw [HE.out]; rfl, _, rfl⟩

/-- Bytes: held against each other. -/
theorem bytes_any {w : World} {v1 v2 : Value} {l1 l2 : List Nat} (h1 : V w v1 l1) (h2 : V w v2 l2) (hl : l1.length ≤ 140737488351232) :
    Calls Tryz.prog 27 #[v1, v2] w fun e w' => e = .returned (.bool (decide (l1 = l2))) ∧ ∃ m, w' = w.drewN m := by
  by_cases hlen : l1.length = l2.length
  · rcases h1 with ⟨a1, c1, rfl, rfl⟩ | ⟨b1, o1, c1, rfl, hp1, _, h1⟩
    · rcases h2 with ⟨a2, c2, rfl, rfl⟩ | ⟨b2, o2, c2, rfl, hp2, _, h2⟩
      · refine (bytes_empty w a1 a2 c1 c2).mono ?_; rintro e w' ⟨rfl, rfl⟩; exact ⟨by simp, 0, rfl⟩
      · simp at hlen; omega
    · rcases h2 with ⟨a2, c2, rfl, rfl⟩ | ⟨b2, o2, c2, rfl, hp2, _, h2⟩
      · exact absurd hlen (by simp; intro h; rw [h] at hp1; exact absurd hp1 (by decide))
      · rw [← hlen]
        exact bytes_some w b1 o1 c1 b2 o2 c2 _ l1 l2 h1 h2 rfl hlen hl
  · have hd : decide (l1 = l2) = false := by simp; intro h; exact hlen (by rw [h])
    rw [hd]
    rcases h1 with ⟨a1, c1, rfl, rfl⟩ | ⟨b1, o1, c1, rfl, hp1, _, h1⟩ <;> rcases h2 with ⟨a2, c2, rfl, rfl⟩ | ⟨b2, o2, c2, rfl, hp2, _, h2⟩ <;> (refine (bytes_other w _ _ _ _ _ _ hlen).mono ?_; rintro e w' ⟨rfl, rfl⟩; exact ⟨rfl, 0, rfl⟩)



theorem ownsRow_below {w w' : World} {A base : Nat} {e : TypeId} {size : Nat} {v : Value} {n : Nat} {xs : List Value} (h : w.ownsRow base e size v n xs) (hb : Below A w w') (hA : w.heap.size ≤ A) : w'.ownsRow base e size v n xs := by
  refine ⟨h.1, ?_⟩
  rcases h.2 with h2 | ⟨g, cap, cur, hv, hg, hh, r⟩
  · exact .inl h2
  · have hlt : g < w.heap.size := (Array.getElem?_eq_some_iff.1 hh).1
    exact .inr ⟨g, cap, cur, hv, hg, (hb.block g (by omega)).trans hh, r⟩

/-- What was lent, with its marks. -/
def Lent (w : World) (B g : Nat) (bs : List Nat) : Prop := Own w B (.slice (some ⟨g, 0, none⟩) (bs.length + 3) (bs.length + 3)) (bs ++ [160, 161, 162])

theorem Lent.next {w w' : World} {B g : Nat} {bs : List Nat} (h : Lent w B g bs) (hb : Below w.heap.size w w') : Lent w' B g bs := ⟨ownsRow_below h.1 hb (Nat.le_refl _), h.2⟩

theorem Lent.cell {w : World} {B g : Nat} {bs : List Nat} (h : Lent w B g bs) (k : Nat) (hk : k < bs.length + 3) : w.cell? ⟨g, k, none⟩ = some (.int .u8 ((bs ++ [160, 161, 162]).getD k 0 : Nat)) := by
  have h1 := h.1
  simp only [List.length_append, List.length_cons, List.length_nil] at h1
  have := h1.cellAt (g := g) (cap := bs.length + 3) k (by omega)
  rw [this, u8s_get _ k (by simpa using hk)]

theorem Lent.v {w : World} {B g : Nat} {bs : List Nat} (h : Lent w B g bs) {cap : Nat} (hcap : bs.length ≤ cap) : V w (.slice (some ⟨g, 0, none⟩) bs.length cap) bs := by
  by_cases hp : 0 < bs.length
  · refine .inr ⟨g, 0, cap, rfl, hp, hcap, ?_, fun x hx => h.2 x (by simp [hx])⟩
    intro k hk
    rw [Nat.zero_add, h.cell k (by omega)]
    simp [List.getD_eq_getElem?_getD, List.getElem?_append_left hk]
  · have h0 : bs = [] := List.eq_nil_of_length_eq_zero (by omega)
    subst h0
    exact .inl ⟨_, _, rfl, rfl⟩

set_option maxRecDepth 100000 in
/-- Kept: yes. -/
theorem kept_any {w : World} {v : Value} {B g : Nat} {bs : List Nat} (hx : Lent w B g bs) (h : V w v bs) (hl : bs.length ≤ 140737488351232) :
    Calls Tryz.prog 14 #[.slice (some ⟨g, 0, none⟩) bs.length (bs.length + 3), v] w fun e w' => e = .returned (.bool true) ∧ ∃ m, w' = w.drewN m := by
  have hby := bytes_any (hx.v (cap := bs.length + 3) (by omega)) h (by omega)
  rw [show decide (bs = bs) = true by simp] at hby
  obtain ⟨ao, cap, rfl, _, _⟩ := h.form
  have hc0 := hx.cell bs.length (by omega)
  have hc1 := hx.cell (bs.length + 1) (by omega)
  have hc2 := hx.cell (bs.length + 2) (by omega)
  simp [List.getD_eq_getElem?_getD] at hc0 hc1 hc2
  clear hx h
  obtain ⟨n, hn⟩ : ∃ n, bs.length = n := ⟨_, rfl⟩
  rw [hn] at hby hl hc0 hc1 hc2 ⊢
  clear hn
  go_enter Tryz.func14, Tryz.ntmps14
  go_wp2_with (go_at_call 27; refine hby.mono ?_; rintro e w' ⟨rfl, m, rfl⟩)
  refine wp_loop_rounds 4 ?_
  rw [rounds_succ]
  go_wp2
  rw [rounds_succ]
  go_wp2
  rw [rounds_succ]
  go_wp2
  rw [rounds_succ]
  go_wp2
  go_ret
  exact ⟨rfl, _, rfl⟩
end Go.Proofs.YtoikdpjjcnmgeaaGreatDoor.Le
end

section
/-
  DERIVED. DatasetJoined.
-/
namespace Go.Proofs.YtoikdpjjcnmgeaaGreatDoor
open Go Go.Proofs Go.RowKit
open Wk (Nd NV nds goN nxt)
open Go.Sort

theorem ba_v {base : Nat} {w : World} {a : Option Addr} {n cap : Nat} {ys : List UInt8} (h : BA base w a n cap ys) : Le.V w (.slice a n cap) (ys.map UInt8.toNat) := by
  have hl := h.l
  by_cases hn : n = 0
  · subst hn
    obtain rfl : ys = [] := List.length_eq_zero_iff.1 hl.symm
    exact .inl ⟨a, cap, rfl, rfl⟩
  · obtain ⟨b, off, rfl, -, -⟩ := h.m 0 (by omega)
    refine .inr ⟨b, off, cap, by rw [List.length_map, ← hl], by rw [List.length_map]; omega, by rw [List.length_map]; have := h.c; omega, fun k hk => ?_, fun x hx => ?_⟩
    · rw [List.length_map] at hk
      obtain ⟨b', off', e, -, hc⟩ := h.m k (by omega)
      cases e
      rw [hc]
      unfold gB
      rw [List.getD_eq_getElem?_getD, List.getD_eq_getElem?_getD, List.getElem?_map, List.getElem?_eq_getElem hk]
      rfl
    · obtain ⟨y, -, rfl⟩ := List.mem_map.1 hx
      exact y.toNat_lt
/-- The same bytes. -/
theorem bytes_eq (w : World) {b1 b2 : Nat} {a1 a2 : Option Addr} {n1 n2 c1 c2 : Nat} {ys : List UInt8} (h1 : BA b1 w a1 n1 c1 ys) (h2 : BA b2 w a2 n2 c2 ys) (hl : ys.length ≤ 1048576) : Calls Tryz.prog 27 #[.slice a1 n1 c1, .slice a2 n2 c2] w fun e w' => e = .returned (.bool true) ∧ ∃ m, w' = w.drewN m := by
  refine (Le.bytes_any (ba_v h1) (ba_v h2) (by rw [List.length_map]; omega)).mono ?_
  rintro e w' ⟨rfl, hm⟩
  exact ⟨by simp, hm⟩
theorem BA.take {base : Nat} {w : World} {a : Option Addr} {n cap : Nat} {ys zs : List UInt8} (h : BA base w a n cap (ys ++ zs)) : BA base w a ys.length cap ys := by
  have hl := h.l
  rw [List.length_append] at hl
  refine ⟨rfl, by have := h.c; omega, by have := h.s; omega, fun k hk => ?_⟩
  obtain ⟨b, off, e, hb, hc⟩ := h.m k (by omega)
  refine ⟨b, off, e, hb, ?_⟩
  rw [hc]
  unfold gB
  rw [List.getD_eq_getElem?_getD, List.getElem?_append_left hk, ← List.getD_eq_getElem?_getD]
theorem BA.drop {base : Nat} {w : World} {b off n cap : Nat} {ys zs : List UInt8} (h : BA base w (some ⟨b, off, none⟩) n cap (ys ++ zs)) (z m c : Nat) (hm : m = zs.length) (hc : m ≤ c) (hz : 0 < m → z = off + ys.length) : BA base w (some ⟨b, z, none⟩) m c zs := by
  have hl := h.l
  rw [List.length_append] at hl
  refine ⟨hm, hc, by have := h.s; omega, fun k hk => ?_⟩
  obtain ⟨b', off', e, hb, hcell⟩ := h.m (ys.length + k) (by omega)
  cases e
  refine ⟨b, z, rfl, hb, ?_⟩
  rw [hz (by omega), Nat.add_assoc, hcell]
  unfold gB
  rw [List.getD_eq_getElem?_getD, List.getElem?_append_right (by omega), Nat.add_sub_cancel_left, ← List.getD_eq_getElem?_getD]
theorem BA.on {base : Nat} {w w' : World} {a : Option Addr} {n cap : Nat} {ys : List UInt8} (h : BA base w a n cap ys) (hb : Below base w w') : BA base w' a n cap ys :=
  ⟨h.l, h.c, h.s, fun k hk => by obtain ⟨b, off, e, h1, h2⟩ := h.m k hk; exact ⟨b, off, e, h1, (hb.cell (p := ⟨b, off + k, none⟩) h1).trans h2⟩⟩
/-- Size where nothing is refused. -/
theorem siz_ok (w : World) (a : Option Addr) (n cap : Nat) (L : List Nd) (hV : NV w a n cap L) (hT : TagsOk L) (hE : EG w) (s : Int) (h : errOf s L = none) : Calls Tryz.prog 29 #[.slice a n cap, .int .i64 s] w fun e w' => e = .returned (.tuple #[.int .i64 ((outB s L).length : Int), .nilIface]) ∧ Below w.heap.size w w' := by
  refine (size_any w a n cap L hV hT hE s).mono ?_
  rintro e w' ⟨ve, rfl, hp, hb⟩
  rcases hp with ⟨-, rfl⟩ | ⟨ls, k, e, -⟩
  · refine ⟨?_, hb⟩
    have : siz s L = (outB s L).length := by
      rw [out_len h]
      unfold siz
      rw [h]
      rfl
    rw [this]
  · rw [h] at e; cases e
theorem TagsOk.take {L : List Nd} (h : TagsOk L) (k : Nat) : TagsOk (L.take k) := fun x hx => h x (List.mem_of_mem_take hx)
theorem TagsOk.drop {L : List Nd} (h : TagsOk L) (k : Nat) : TagsOk (L.drop k) := fun x hx => h x (List.mem_of_mem_drop hx)
theorem goN_next (L : List Nd) (k : Nat) : goN L (k + 1) = nxt L (goN L k) := by unfold nxt; rw [goN_add]

set_option maxRecDepth 100000 in
set_option maxHeartbeats 8000000 in
theorem joined_some (w : World) (b off n cap : Nat) (cut s : Int) (L : List Nd) (hV : NV w (some ⟨b, off, none⟩) n cap L) (hn0 : 0 < n) (hcut : cut ≤ 9223372036854775807) (hT : TagsOk L) (hE : EG w) : Calls Tryz.prog 7 #[.slice (some ⟨b, off, none⟩) n cap, .int .i64 cut, .int .i64 s] w fun e w' => e = .returned (.bool true) ∧ Below w.heap.size w w' := by
  have HV : Hid (NV w (some ⟨b, off, none⟩) n cap L) := hV
  have HT : Hid (TagsOk L) := hT
  have HE : Hid (EG w) := hE
  have HNL : Hid (n = L.length) := hV.len
  have hroom := hV.room
  have hsmall := hV.small
  obtain ⟨z, hz⟩ : ∃ z, (errOf s L).isSome = z := ⟨_, rfl⟩
  have HZ : Hid ((errOf s L).isSome = z) := hz
  clear hV hT hE hz
  go_enter Tryz.func7, Tryz.ntmps7
  go_wp2_with (go_at_call 18; refine StopQ.out ?_)
  refine ⟨Calls.mono (alive_any w HE.out) ?_⟩
  rintro e W1 ⟨rfl, hb1⟩
  have HB1 : Hid (Below w.heap.size w W1) := hb1
  clear hb1
  go_wp2_with (go_at_call 25; refine StopQ.out ?_)
  refine ⟨Calls.mono (rsize_any some_zero W1 _ n cap L (HV.out.on HB1.out) HT.out s) ?_⟩
  rintro e W2 ⟨vf, rfl, hp2, hb2⟩
  obtain ⟨fa, fm, fc, fz, hvf⟩ := rerr_form hp2
  subst hvf
  have HP2 : Hid (RErr2 W2 (.agg #[.slice fa fm fc, .int .i64 fz]) (errOf s L)) := hp2
  have HB2 : Hid (Below w.heap.size w W2) := HB1.out.trans (hb2.mono HB1.out.size)
  obtain ⟨W3, hW3⟩ : ∃ W3, W2.alloc (.cells #[.slice fa fm fc, .int .i64 fz] 32) = W3 := ⟨_, rfl⟩
  have hb3 : Below W2.heap.size W2 W3 := by rw [← hW3]; exact (Below.refl _ _).alloc (Nat.le_refl _) _
  have d0 : W3.cell? ⟨W2.heap.size, 0, none⟩ = some (.slice fa fm fc) := by rw [← hW3]; simp
  have d1 : W3.cell? ⟨W2.heap.size, 1, none⟩ = some (.int .i64 fz) := by rw [← hW3]; simp
  have HB3 : Hid (Below w.heap.size w W3) := HB2.out.trans (hb3.mono HB2.out.size)
  clear hp2 hb2 hb3
  go_wp2_with (go_at_call 26; refine StopQ.out ?_)
  refine ⟨Calls.mono (any_err W3 HP2.out HZ.out) ?_⟩
  rintro e W4 ⟨rfl, hb4⟩
  have HB4 : Hid (Below w.heap.size w W4) := HB3.out.trans (hb4.mono HB3.out.size)
  clear hb4 hW3 d0 d1
  cases z with
  | true =>
    go_wp2
    go_ret
    exact ⟨rfl, HB4.out⟩
  | false =>
  have HO : Hid (errOf s L = none) := by show _ = _; simpa using HZ.out
  have h40 : n ≤ 4096 := by rw [HNL.out]; exact (res_ok (err_ok HO.out).2.1).1
  by_cases hc0 : cut < 0
  · go_wp2
    go_ret
    exact ⟨rfl, HB4.out⟩
  have hc0' : ¬ cut < 0 := hc0
  go_wp2
  go_loopw [9, 10] (fun x9 x10 wr => ∃ k : Nat, x10 = .int .i64 (k : Int) ∧ x9 = .int .i64 ((goN L k : Nat) : Int) ∧ k ≤ goN L k ∧ wr = W4) (fun x9 _ _ => 10000 - (intOf x9).toNat)
  case atStart => exact ⟨0, rfl, by rw [Wk.goN_zero]; rfl, by omega, rfl⟩
  case round =>
    obtain ⟨k, rfl, rfl, hk, rfl⟩ := hrel
    obtain ⟨j, hj⟩ : ∃ j, goN L k = j := ⟨_, rfl⟩
    have HJ : Hid (goN L k = j) := hj
    have hjn : j ≤ n := by rw [← hj, HNL.out]; exact goN_le L k
    rw [hj] at hk ⊢
    clear hj
    by_cases hkc : (k : Int) < cut
    · by_cases hjl : j < n
      · have hjI : (j : Int) < (n : Int) := by omega
        have HX : Hid (goN L (k + 1) = nxt L j ∧ j < nxt L j ∧ nxt L j ≤ n) := by
          have e := goN_next L k
          rw [HJ.out] at e
          refine ⟨e, Wk.nxt_gt (by have := HNL.out; omega), ?_⟩
          rw [← e, HNL.out]
          exact goN_le L _
        obtain ⟨x, hx⟩ : ∃ x, nxt L j = x := ⟨_, rfl⟩
        have cN := Wk.nextR_in wr _ n cap j L (HV.out.on HB4.out) hjl (by omega)
        rw [hx] at HX cN
        have hxx := HX.out.2
        clear hx
        go_wp2_with (go_at_call 28; refine cN.mono ?_; rintro e w' ⟨rfl, rfl⟩)
        go_roundw
        case rel => exact ⟨k + 1, by go_num, by rw [HX.out.1], by rw [HX.out.1]; omega, trivial⟩
        case measure => simp [intOf]; omega
      · have hjI : ¬ (j : Int) < (n : Int) := by omega
        have HCUT : Hid (errOf s (L.take j) = none ∧ errOf s (L.drop j) = none ∧ outB s L = outB s (L.take j) ++ outB s (L.drop j)) := by rw [← HJ.out]; exact err_cut HO.out k
        have HNT : Hid (NV wr (some ⟨b, off, none⟩) j cap (L.take j)) := by
          have := NV.part (HV.out.on HB4.out) (i := 0) (e := j) (by omega) hjn off (fun _ => by omega)
          rw [show sub L 0 j = L.take j from rfl, Nat.sub_zero, Nat.sub_zero] at this
          exact this
        have HND : Hid (∀ z c, (j < n → z = off + j * 4) → n - j ≤ c → NV wr (some ⟨b, z, none⟩) (n - j) c (L.drop j)) := fun z c hz hc => by
          have := NV.part (HV.out.on HB4.out) (i := j) (e := n) hjn (Nat.le_refl _) z hz
          rw [show sub L j n = L.drop j by unfold sub; rw [List.take_of_length_le (by have := HNL.out; omega)]] at this
          exact ⟨this.len, hc, this.small, this.lies, this.num⟩
        have HVW : Hid (NV wr (some ⟨b, off, none⟩) n cap L) := HV.out.on HB4.out
        have HVC : Hid (∀ c, n ≤ c → NV wr (some ⟨b, off, none⟩) n c L) := fun c hc => ⟨HVW.out.len, hc, HVW.out.small, HVW.out.lies, HVW.out.num⟩
        have HE4 : Hid (EG wr) := HE.out.keep HB4.out
        obtain ⟨lw, hlw⟩ : ∃ m, (outB s L).length = m := ⟨_, rfl⟩
        obtain ⟨lt, hlt⟩ : ∃ m, (outB s (L.take j)).length = m := ⟨_, rfl⟩
        obtain ⟨ld, hld⟩ : ∃ m, (outB s (L.drop j)).length = m := ⟨_, rfl⟩
        have HLW : Hid ((outB s L).length = lw ∧ (outB s (L.take j)).length = lt ∧ (outB s (L.drop j)).length = ld) := ⟨hlw, hlt, hld⟩
        have hsum : lw = lt + ld := by rw [← hlw, ← hlt, ← hld, HCUT.out.2.2, List.length_append]
        have hlim : lw ≤ 1048576 := by rw [← hlw]; exact (back_ok HO.out HT.out).2.1
        have HL0 : Hid (0 < lw) := by
          show 0 < lw
          rw [← hlw, out_len HO.out]
          exact sz_pos _ L (fun e => by have := HNL.out; rw [e] at this; simp at this; omega)
        have HSUM : Hid (lw = lt + ld ∧ lw ≤ 1048576) := ⟨hsum, hlim⟩
        have hsumI : (lt : Int) + (ld : Int) = (lw : Int) := by omega
        have hltw : lt ≤ lw := by omega
        clear hk hlw hlt hld hsum
        go_wp2_with (go_at_call 20; refine StopQ.out ?_)
        refine ⟨Calls.mono (enc_ok wr _ n cap L HVW.out HT.out HE4.out s HO.out) ?_⟩
        rintro e W5 ⟨a5, c5, rfl, hB5, hb5⟩
        rw [HLW.out.1] at hB5 ⊢
        obtain ⟨b5, o5, ha5, -, -⟩ := hB5.out.m 0 HL0.out
        subst ha5
        have hc5 := hB5.out.c
        go_wp2_with (go_at_call 20; refine StopQ.out ?_)
        refine ⟨Calls.mono (enc_ok W5 _ j cap (L.take j) (HNT.out.on hb5.out) (HT.out.take j) (HE4.out.keep hb5.out) s HCUT.out.1) ?_⟩
        rintro e W6 ⟨a6, c6, rfl, hB6, hb6⟩
        rw [HLW.out.2.1] at hB6 ⊢
        go_wp2_with (go_at_call 20; refine StopQ.out ?_)
        all_goals (
          refine ⟨Calls.mono (enc_ok W6 _ (n - j) _ (L.drop j) (((HND.out _ _ (fun hlt => by omega) (by omega)).on hb5.out).on hb6.out) (HT.out.drop j) ((HE4.out.keep hb5.out).keep hb6.out) s HCUT.out.2.1) ?_⟩
          rintro e W7 ⟨a7, c7, rfl, hB7, hb7⟩
          rw [HLW.out.2.2] at hB7 ⊢
          go_wp2_with (go_at_call 29; refine StopQ.out ?_)
          refine ⟨Calls.mono (siz_ok W7 _ n _ L ((((HVC.out _ (by omega)).on hb5.out).on hb6.out).on hb7.out) HT.out (((HE4.out.keep hb5.out).keep hb6.out).keep hb7.out) s HO.out) ?_⟩
          rintro e W8 ⟨rfl, hb8⟩
          rw [HLW.out.1]
          have hX8 : Below W5.heap.size W5 W8 := hb6.out.trans ((hb7.out.trans (hb8.mono hb7.out.size)).mono hb6.out.size)
          have hY8 : Below W6.heap.size W6 W8 := hb7.out.trans (hb8.mono hb7.out.size)
          have HBW : Hid (BA W5.heap.size W8 (some ⟨b5, o5, none⟩) lw c5 (outB s (L.take j) ++ outB s (L.drop j))) := by rw [← HCUT.out.2.2]; exact hB5.out.on hX8
          have HBT : Hid (BA W5.heap.size W8 (some ⟨b5, o5, none⟩) lt c5 (outB s (L.take j))) := by have := HBW.out.take; rw [HLW.out.2.1] at this; exact this
          have HB6' : Hid (BA W6.heap.size W8 a6 lt c6 (outB s (L.take j))) := hB6.out.on hY8
          have HB7' : Hid (BA W7.heap.size W8 a7 ld c7 (outB s (L.drop j))) := hB7.out.on hb8
          have HLIM : Hid ((outB s (L.take j)).length ≤ 1048576 ∧ (outB s (L.drop j)).length ≤ 1048576) := by rw [HLW.out.2.1, HLW.out.2.2]; exact ⟨by have := HSUM.out; omega, by have := HSUM.out; omega⟩
          have HBB8 : Hid (Below w.heap.size w W8) := HB4.out.trans ((hb5.out.trans (hX8.mono hb5.out.size)).mono HB4.out.size)
          clear hb5 hb6 hb7 hb8 hX8 hY8 hB5 hB6 hB7
          go_wp2_with (go_at_call 27; refine StopQ.out ?_)
          refine ⟨Calls.mono (bytes_eq W8 HBT.out HB6'.out HLIM.out.1) ?_⟩
          rintro e W9 ⟨rfl, m9, hW9⟩
          have hb9 : Below W8.heap.size W8 W9 := by rw [hW9]; exact Wk.below_drw (Below.refl _ _) m9
          have HBB9 : Hid (Below w.heap.size w W9) := HBB8.out.trans (hb9.mono HBB8.out.size)
          have HBW9 : Hid (BA W5.heap.size W9 (some ⟨b5, o5, none⟩) lw c5 (outB s (L.take j) ++ outB s (L.drop j))) := by rw [hW9]; exact HBW.out.on (Wk.below_drw (Below.refl _ _) m9)
          have HB9' : Hid (BA W7.heap.size W9 a7 ld c7 (outB s (L.drop j))) := by rw [hW9]; exact HB7'.out.on (Wk.below_drw (Below.refl _ _) m9)
          clear hb9 hW9
          go_wp2_with (go_at_call 27; refine StopQ.out ?_)
          all_goals (
            refine ⟨Calls.mono (bytes_eq W9 (BA.drop HBW9.out _ (lw - lt) _ (by rw [HLW.out.2.2]; have := HSUM.out; omega) (by omega) (fun hp => by have := HLW.out.2.1; omega)) HB9'.out HLIM.out.2) ?_⟩
            rintro e W10 ⟨rfl, m10, hW10⟩
            have HBB10 : Hid (Below w.heap.size w W10) := by rw [hW10]; exact Wk.below_drw HBB9.out m10
            clear hW10
            go_wp2
            go_ret
            exact ⟨rfl, HBB10.out⟩))
    · skip
      have HCUT : Hid (errOf s (L.take j) = none ∧ errOf s (L.drop j) = none ∧ outB s L = outB s (L.take j) ++ outB s (L.drop j)) := by rw [← HJ.out]; exact err_cut HO.out k
      have HNT : Hid (NV wr (some ⟨b, off, none⟩) j cap (L.take j)) := by
        have := NV.part (HV.out.on HB4.out) (i := 0) (e := j) (by omega) hjn off (fun _ => by omega)
        rw [show sub L 0 j = L.take j from rfl, Nat.sub_zero, Nat.sub_zero] at this
        exact this
      have HND : Hid (∀ z c, (j < n → z = off + j * 4) → n - j ≤ c → NV wr (some ⟨b, z, none⟩) (n - j) c (L.drop j)) := fun z c hz hc => by
        have := NV.part (HV.out.on HB4.out) (i := j) (e := n) hjn (Nat.le_refl _) z hz
        rw [show sub L j n = L.drop j by unfold sub; rw [List.take_of_length_le (by have := HNL.out; omega)]] at this
        exact ⟨this.len, hc, this.small, this.lies, this.num⟩
      have HVW : Hid (NV wr (some ⟨b, off, none⟩) n cap L) := HV.out.on HB4.out
      have HVC : Hid (∀ c, n ≤ c → NV wr (some ⟨b, off, none⟩) n c L) := fun c hc => ⟨HVW.out.len, hc, HVW.out.small, HVW.out.lies, HVW.out.num⟩
      have HE4 : Hid (EG wr) := HE.out.keep HB4.out
      obtain ⟨lw, hlw⟩ : ∃ m, (outB s L).length = m := ⟨_, rfl⟩
      obtain ⟨lt, hlt⟩ : ∃ m, (outB s (L.take j)).length = m := ⟨_, rfl⟩
      obtain ⟨ld, hld⟩ : ∃ m, (outB s (L.drop j)).length = m := ⟨_, rfl⟩
      have HLW : Hid ((outB s L).length = lw ∧ (outB s (L.take j)).length = lt ∧ (outB s (L.drop j)).length = ld) := ⟨hlw, hlt, hld⟩
      have hsum : lw = lt + ld := by rw [← hlw, ← hlt, ← hld, HCUT.out.2.2, List.length_append]
      have hlim : lw ≤ 1048576 := by rw [← hlw]; exact (back_ok HO.out HT.out).2.1
      have HL0 : Hid (0 < lw) := by
        show 0 < lw
        rw [← hlw, out_len HO.out]
        exact sz_pos _ L (fun e => by have := HNL.out; rw [e] at this; simp at this; omega)
      have HSUM : Hid (lw = lt + ld ∧ lw ≤ 1048576) := ⟨hsum, hlim⟩
      have hsumI : (lt : Int) + (ld : Int) = (lw : Int) := by omega
      have hltw : lt ≤ lw := by omega
      clear hk hlw hlt hld hsum
      go_wp2_with (go_at_call 20; refine StopQ.out ?_)
      refine ⟨Calls.mono (enc_ok wr _ n cap L HVW.out HT.out HE4.out s HO.out) ?_⟩
      rintro e W5 ⟨a5, c5, rfl, hB5, hb5⟩
      rw [HLW.out.1] at hB5 ⊢
      obtain ⟨b5, o5, ha5, -, -⟩ := hB5.out.m 0 HL0.out
      subst ha5
      have hc5 := hB5.out.c
      go_wp2_with (go_at_call 20; refine StopQ.out ?_)
      refine ⟨Calls.mono (enc_ok W5 _ j cap (L.take j) (HNT.out.on hb5.out) (HT.out.take j) (HE4.out.keep hb5.out) s HCUT.out.1) ?_⟩
      rintro e W6 ⟨a6, c6, rfl, hB6, hb6⟩
      rw [HLW.out.2.1] at hB6 ⊢
      go_wp2_with (go_at_call 20; refine StopQ.out ?_)
      all_goals (
        refine ⟨Calls.mono (enc_ok W6 _ (n - j) _ (L.drop j) (((HND.out _ _ (fun hlt => by omega) (by omega)).on hb5.out).on hb6.out) (HT.out.drop j) ((HE4.out.keep hb5.out).keep hb6.out) s HCUT.out.2.1) ?_⟩
        rintro e W7 ⟨a7, c7, rfl, hB7, hb7⟩
        rw [HLW.out.2.2] at hB7 ⊢
        go_wp2_with (go_at_call 29; refine StopQ.out ?_)
        refine ⟨Calls.mono (siz_ok W7 _ n _ L ((((HVC.out _ (by omega)).on hb5.out).on hb6.out).on hb7.out) HT.out (((HE4.out.keep hb5.out).keep hb6.out).keep hb7.out) s HO.out) ?_⟩
        rintro e W8 ⟨rfl, hb8⟩
        rw [HLW.out.1]
        have hX8 : Below W5.heap.size W5 W8 := hb6.out.trans ((hb7.out.trans (hb8.mono hb7.out.size)).mono hb6.out.size)
        have hY8 : Below W6.heap.size W6 W8 := hb7.out.trans (hb8.mono hb7.out.size)
        have HBW : Hid (BA W5.heap.size W8 (some ⟨b5, o5, none⟩) lw c5 (outB s (L.take j) ++ outB s (L.drop j))) := by rw [← HCUT.out.2.2]; exact hB5.out.on hX8
        have HBT : Hid (BA W5.heap.size W8 (some ⟨b5, o5, none⟩) lt c5 (outB s (L.take j))) := by have := HBW.out.take; rw [HLW.out.2.1] at this; exact this
        have HB6' : Hid (BA W6.heap.size W8 a6 lt c6 (outB s (L.take j))) := hB6.out.on hY8
        have HB7' : Hid (BA W7.heap.size W8 a7 ld c7 (outB s (L.drop j))) := hB7.out.on hb8
        have HLIM : Hid ((outB s (L.take j)).length ≤ 1048576 ∧ (outB s (L.drop j)).length ≤ 1048576) := by rw [HLW.out.2.1, HLW.out.2.2]; exact ⟨by have := HSUM.out; omega, by have := HSUM.out; omega⟩
        have HBB8 : Hid (Below w.heap.size w W8) := HB4.out.trans ((hb5.out.trans (hX8.mono hb5.out.size)).mono HB4.out.size)
        clear hb5 hb6 hb7 hb8 hX8 hY8 hB5 hB6 hB7
        go_wp2_with (go_at_call 27; refine StopQ.out ?_)
        refine ⟨Calls.mono (bytes_eq W8 HBT.out HB6'.out HLIM.out.1) ?_⟩
        rintro e W9 ⟨rfl, m9, hW9⟩
        have hb9 : Below W8.heap.size W8 W9 := by rw [hW9]; exact Wk.below_drw (Below.refl _ _) m9
        have HBB9 : Hid (Below w.heap.size w W9) := HBB8.out.trans (hb9.mono HBB8.out.size)
        have HBW9 : Hid (BA W5.heap.size W9 (some ⟨b5, o5, none⟩) lw c5 (outB s (L.take j) ++ outB s (L.drop j))) := by rw [hW9]; exact HBW.out.on (Wk.below_drw (Below.refl _ _) m9)
        have HB9' : Hid (BA W7.heap.size W9 a7 ld c7 (outB s (L.drop j))) := by rw [hW9]; exact HB7'.out.on (Wk.below_drw (Below.refl _ _) m9)
        clear hb9 hW9
        go_wp2_with (go_at_call 27; refine StopQ.out ?_)
        all_goals (
          refine ⟨Calls.mono (bytes_eq W9 (BA.drop HBW9.out _ (lw - lt) _ (by rw [HLW.out.2.2]; have := HSUM.out; omega) (by omega) (fun hp => by have := HLW.out.2.1; omega)) HB9'.out HLIM.out.2) ?_⟩
          rintro e W10 ⟨rfl, m10, hW10⟩
          have HBB10 : Hid (Below w.heap.size w W10) := by rw [hW10]; exact Wk.below_drw HBB9.out m10
          clear hW10
          go_wp2
          go_ret
          exact ⟨rfl, HBB10.out⟩))
end Go.Proofs.YtoikdpjjcnmgeaaGreatDoor
end
