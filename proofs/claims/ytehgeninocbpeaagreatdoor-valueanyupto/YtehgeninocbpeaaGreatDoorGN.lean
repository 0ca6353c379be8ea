import Derived.Test.YtehgeninocbpeaaGreatDoorGM
import Derived.Test.YtehgeninocbpeaaGreatDoorGI
import Derived.Lib.AppendStr
import Derived.Lib.BufferRead
import Derived.Shelf.Utf8.AppendRunePlain
/-
  DERIVED. Letters without their case, by the program.
-/
namespace Go.Proofs.YtehgeninocbpeaaGreatDoor.Gl
open Go Go.Proofs Go.RowKit

def Cap (r : Int) : Prop := (65 ≤ r ∧ r ≤ 90) ∨ (192 ≤ r ∧ r ≤ 222 ∧ r ≠ 215)

theorem fol_plain (s : ByteArray) (pos : Nat) : ∀ d, pos + d ≤ s.size → (∀ k, k < d → ¬ Turned s (pos + k)) → fol s (pos + d) = fol s pos ++ bytesFrom s pos (pos + d)
  | 0, _, _ => by rw [Nat.add_zero, from_self, List.append_nil]
  | d + 1, h, hn => by
    rw [show pos + (d + 1) = pos + d + 1 by omega, fol_succ, fol_plain s pos d (by omega) (fun k hk => hn k (by omega)), from_add s (show pos ≤ pos + d by omega) (show pos + d ≤ pos + d + 1 by omega), from_one s (by omega), List.append_assoc]
    unfold rf
    rw [if_neg (hn d (by omega))]

theorem fold_plain (s : ByteArray) (pos : Nat) (h : pos < s.size) (hb : Bd s pos) (hc : ¬ Cap ((Utf8.decode s pos).1 : Nat)) : fol s (pos + oneW s pos) = fol s pos ++ bytesFrom s pos (pos + oneW s pos) := by
  refine fol_plain s pos _ (next_le s pos h) ?_
  have e : oneW s pos = (Utf8.decode s pos).2 := rfl
  have h00 : ¬ Turned s pos ∨ (65 ≤ (s.get! pos).toNat ∧ (s.get! pos).toNat ≤ 90) := by
    by_cases ht : Turned s pos
    · rcases ht with ht | ⟨h1, h2, h3⟩
      · exact .inr ht
      · exact absurd h3.2.2.2 (hb h1 h2)
    · exact .inl ht
  have h0 : ¬ Turned s pos := by
    rcases h00 with h00 | h00
    · exact h00
    · exfalso
      apply hc
      have hd := decode_ascii s pos h (by rw [get_get! s pos h]; omega)
      rw [get_get! s pos h] at hd
      rw [hd]
      left
      simp only
      omega
  intro k hk
  rcases shape s pos h with ⟨hd, _⟩ | ⟨hd, hs⟩ | ⟨hd, hs⟩ | ⟨hd, hs⟩
  · rw [e, hd] at hk
    obtain rfl : k = 0 := by omega
    exact h0
  · rw [e, hd] at hk
    rcases (by omega : k = 0 ∨ k = 1) with rfl | rfl
    · exact h0
    · rintro (ht | ⟨_, h2, h3, h4, h5, _⟩)
      · omega
      · rw [show pos + 1 - 1 = pos by omega] at h2
        apply hc
        right
        omega
  · rw [e, hd] at hk
    rcases (by omega : k = 0 ∨ k = 1 ∨ k = 2) with rfl | rfl | rfl
    · exact h0
    · rintro (ht | ⟨_, h2, _⟩)
      · omega
      · rw [show pos + 1 - 1 = pos by omega] at h2; omega
    · rintro (ht | ⟨_, h2, _⟩)
      · omega
      · rw [show pos + 2 - 1 = pos + 1 by omega] at h2; omega
  · rw [e, hd] at hk
    rcases (by omega : k = 0 ∨ k = 1 ∨ k = 2 ∨ k = 3) with rfl | rfl | rfl | rfl
    · exact h0
    · rintro (ht | ⟨_, h2, _⟩)
      · omega
      · rw [show pos + 1 - 1 = pos by omega] at h2; omega
    · rintro (ht | ⟨_, h2, _⟩)
      · omega
      · rw [show pos + 2 - 1 = pos + 1 by omega] at h2; omega
    · rintro (ht | ⟨_, h2, _⟩)
      · omega
      · rw [show pos + 3 - 1 = pos + 2 by omega] at h2; omega

def u8C (l : List UInt8) : List Value := l.map fun b => .int .u8 (b.toNat : Int)
theorem u8C_append (l r : List UInt8) : u8C (l ++ r) = u8C l ++ u8C r := List.map_append

theorem fold_cap (s : ByteArray) (pos : Nat) (h : pos < s.size) (hc : Cap ((Utf8.decode s pos).1 : Nat)) :
    ∃ enc : List UInt8, Lib.runeCells (((Utf8.decode s pos).1 : Nat) + 32) = u8C enc ∧ fol s (pos + oneW s pos) = fol s pos ++ enc ∧ ((((Utf8.decode s pos).1 : Nat) : Int) ≤ 90 → oneW s pos = 1) ∧ (¬ (((Utf8.decode s pos).1 : Nat) : Int) ≤ 90 → oneW s pos = 2) := by
  have e : oneW s pos = (Utf8.decode s pos).2 := rfl
  rcases shape s pos h with ⟨hd, ⟨hr, hb⟩ | ⟨hr, hb⟩⟩ | ⟨hd, hs⟩ | ⟨hd, hs⟩ | ⟨hd, hs⟩
  · have hcc : 65 ≤ (s.get! pos).toNat ∧ (s.get! pos).toNat ≤ 90 := by
      rw [hr] at hc
      rcases hc with hc | hc <;> omega
    have ht := turned_nat s pos (.inl hcc)
    refine ⟨[rf s pos], ?_, ?_, fun _ => by rw [e, hd], fun h2 => by rw [hr] at h2; omega⟩
    · unfold Lib.runeCells
      rw [hr, Lib.encodeRuneZ_one (by omega) (by omega)]
      unfold u8C
      rw [List.map_singleton, List.map_singleton, ht]
      congr 2
    · rw [e, hd, fol_succ]
  · rw [hr] at hc
    rcases hc with hc | hc <;> omega
  · obtain ⟨h1, h2, h3, h4, h5, hr⟩ := hs
    have hlo : 192 ≤ (Utf8.decode s pos).1 ∧ (Utf8.decode s pos).1 ≤ 222 ∧ (Utf8.decode s pos).1 ≠ 215 := by
      rcases hc with hc | hc <;> omega
    have hb0 : (s.get! pos).toNat = 195 := by omega
    have n0 : ¬ Turned s pos := by rintro (ht | ht) <;> omega
    have t1 : Turned s (pos + 1) := .inr ⟨by omega, by rw [show pos + 1 - 1 = pos by omega]; exact hb0, by omega, by omega, by omega, by rw [show pos + 1 - 1 = pos by omega, e, hd]⟩
    have ht := turned_nat s (pos + 1) t1
    refine ⟨[rf s pos, rf s (pos + 1)], ?_, ?_, fun h2 => by omega, fun _ => by rw [e, hd]⟩
    · unfold Lib.runeCells
      rw [Lib.encodeRuneZ_two (by omega) (by omega)]
      unfold u8C
      simp only [List.map_cons, List.map_nil]
      rw [ht]
      have hf0 : (rf s pos).toNat = 195 := by unfold rf; rw [if_neg n0]; exact hb0
      rw [hf0]
      have e1 : (192 : Int) + (((Utf8.decode s pos).1 : Nat) + 32) / 64 = ((195 : Nat) : Int) := by omega
      have e2 : (128 : Int) + (((Utf8.decode s pos).1 : Nat) + 32) % 64 = (((s.get! (pos + 1)).toNat + 32 : Nat) : Int) := by omega
      rw [e1, e2]
    · rw [e, hd, show pos + 2 = pos + 1 + 1 by omega, fol_succ, fol_succ, List.append_assoc]; rfl
  · rcases hc with hc | hc <;> omega
  · rcases hc with hc | hc <;> omega

theorem u8Info : (Tryz.prog.info? 5).map (fun i => (i.zero, i.size, i.bytes)) = some (some (.int .u8 0), 1, 1) := by kernel_rfl
theorem str_u8C (s : ByteArray) : Lib.strCells s = u8C s.data.toList := rfl

theorem conv_own {w : World} {B : Nat} {v : Value} {l : List UInt8} (h : w.ownsRow B 5 1 v l.length (u8C l)) : (convert 87 9 v).run Tryz.prog w = .ok (.string ⟨l.toArray⟩) w := by
  rcases h.2 with ⟨rfl, h0⟩ | ⟨g, cap, cur, rfl, hb, hg, hn, hm, hc, hx⟩
  · have : l = [] := List.length_eq_zero_iff.1 h0
    subst this
    exact Lib.run_convert_nil_bytes w 87 9 5 0 Tryz.underlying87 Tryz.underlying5 Tryz.underlying9
  · refine run_convert_bytes_back w 87 9 5 ⟨g, 0, none⟩ cap l Tryz.underlying87 Tryz.underlying5 Tryz.underlying9 (fun j hj => ?_)
    exact h.cells (g := g) rfl j _ (by unfold u8C; rw [List.getElem?_map, List.getElem?_eq_getElem hj]; rfl)

def appRen : Go.Shelf.Ren := ⟨fun | 242 => 129 | 278 => 154 | n => n, fun | 37 => 87 | 21 => 21 | 51 => 184 | 4 => 4 | 5 => 5 | 46 => 176 | n => n, fun n => n⟩
theorem appLays : Go.Proofs.Lays.n242 Tryz.prog appRen := {
  mixed := by kernel_rfl,
  f242 := Tryz.func129.trans (congrArg some (by kernel_rfl)),
  f278 := Tryz.func154.trans (congrArg some (by kernel_rfl)),
  t4 := Tryz.underlying4,
  a4 := Tryz.isAgg4,
  z4 := Tryz.sizeOf4,
  v4 := Tryz.zeroValue4,
  t5 := Tryz.underlying5,
  a5 := Tryz.isAgg5,
  z5 := Tryz.sizeOf5,
  v5 := Tryz.zeroValue5,
  t21 := Tryz.underlying21,
  a21 := Tryz.isAgg21,
  z21 := Tryz.sizeOf21,
  v21 := Tryz.zeroValue21,
  t37 := Tryz.underlying87,
  a37 := Tryz.isAgg87,
  z37 := Tryz.sizeOf87,
  v37 := Tryz.zeroValue87,
  t46 := Tryz.underlying176,
  a46 := Tryz.isAgg176,
  z46 := Tryz.sizeOf176,
  v46 := Tryz.zeroValue176,
  t51 := Tryz.underlying184,
  a51 := Tryz.isAgg184,
  z51 := Tryz.sizeOf184,
  v51 := Tryz.zeroValue184 }
theorem append_any (B : Nat) (v : Value) (n : Nat) (xs : List Value) (r : Int) (h0 : -2147483648 ≤ r) (h1 : r ≤ 2147483647) (w : World) (hown : w.ownsRow B 5 1 v n xs) (hn : n + 4 ≤ 140737488355328) (hB : B ≤ w.heap.size) :
    Calls Tryz.prog 129 #[v, .int .i32 r] w fun e w' => ∃ v', e = .returned v' ∧ w'.ownsRow B 5 1 v' (n + (Lib.runeCells r).length) (xs ++ Lib.runeCells r) ∧ ∃ o, (w.alloc o).grownBy w' v.ownBlock :=
  Any.utf8_AppendRune_plain appLays (by kernel_rfl) B v n xs r h0 h1 w hown hn hB

theorem isCap_yes (w : World) (r : Int) (h : Cap r) : Calls Tryz.prog 128 #[.int .i32 r] w fun e w' => e = .returned (.bool true) ∧ w = w' := by
  rcases h with ⟨h1, h2⟩ | ⟨h1, h2, h3⟩
  · go_enter Tryz.func128, Tryz.ntmps128
    go_wp2
    go_ret
    exact ⟨rfl, rfl⟩
  · have a1 : 65 ≤ r := by omega
    have a2 : decide (r ≤ 90) = false := by simp; omega
    have a3 : (r == 215) = false := by simpa using h3
    go_enter Tryz.func128, Tryz.ntmps128
    go_wp2
    go_ret
    exact ⟨by simp [h3], rfl⟩
theorem isCap_no (w : World) (r : Int) (h : ¬ Cap r) : Calls Tryz.prog 128 #[.int .i32 r] w fun e w' => e = .returned (.bool false) ∧ w = w' := by
  unfold Cap at h
  rcases (by omega : r < 65 ∨ (90 < r ∧ r < 192) ∨ r = 215 ∨ 222 < r) with h1 | ⟨h1, h2⟩ | rfl | h1
  · have a1 : decide (65 ≤ r) = false := by simp; omega
    have a2 : decide (192 ≤ r) = false := by simp; omega
    clear h
    go_enter Tryz.func128, Tryz.ntmps128
    go_wp2
    go_ret
    exact ⟨rfl, rfl⟩
  · have a1 : 65 ≤ r := by omega
    have a2 : decide (r ≤ 90) = false := by simp; omega
    have a3 : decide (192 ≤ r) = false := by simp; omega
    clear h
    go_enter Tryz.func128, Tryz.ntmps128
    go_wp2
    go_ret
    exact ⟨rfl, rfl⟩
  · clear h
    go_enter Tryz.func128, Tryz.ntmps128
    go_wp2
    go_ret
    exact ⟨rfl, rfl⟩
  · have a1 : 65 ≤ r := by omega
    have a2 : decide (r ≤ 90) = false := by simp; omega
    have a3 : 192 ≤ r := by omega
    have a4 : decide (r ≤ 222) = false := by simp; omega
    clear h
    go_enter Tryz.func128, Tryz.ntmps128
    go_wp2
    go_ret
    exact ⟨rfl, rfl⟩

theorem runeLen_cap (w : World) (r : Int) (h : Cap r) : Calls Tryz.prog 130 #[.int .i32 r] w fun e w' => e = .returned (.int .i64 (if r ≤ 90 then 1 else 2)) ∧ w = w' := by
  unfold Cap at h
  by_cases h1 : r ≤ 90
  · rw [if_pos h1]
    have a1 : ¬ r < 0 := by omega
    have a2 : r ≤ 127 := by omega
    clear h
    go_enter Tryz.func130, Tryz.ntmps130
    go_wp2
    go_ret
    exact ⟨rfl, rfl⟩
  · rw [if_neg h1]
    have a1 : ¬ r < 0 := by omega
    have a2 : ¬ r ≤ 127 := by omega
    have a3 : r ≤ 2047 := by omega
    clear h h1
    go_enter Tryz.func130, Tryz.ntmps130
    go_wp2
    go_ret
    exact ⟨rfl, rfl⟩
end Go.Proofs.YtehgeninocbpeaaGreatDoor.Gl
