import Derived.Test.YtehgeninocbpeaaGreatDoorGM
import Derived.Test.YtehgeninocbpeaaGreatDoorGI
import Derived.Lib.AppendStr
import Derived.Lib.BufferRead
import Derived.Shelf.Utf8.AppendRunePlain
namespace Go.Proofs.YtehgeninocbpeaaGreatDoor.Gl
open Go Go.Proofs Go.RowKit
def Cap (r : Int) : Prop := (65 ≤ r ∧ r ≤ 90) ∨ (192 ≤ r ∧ r ≤ 222 ∧ r ≠ 215)
theorem fol_plain (s : ByteArray) (pos : Nat) : ∀ d, pos + d ≤ s.size → (∀ k, k < d → ¬ Turned s (pos + k)) → fol s (pos + d) = fol s pos ++ bytesFrom s pos (pos + d)
  | 0, _, _ => by rw [Nat.add_zero, from_self, List.append_nil]
  | d + 1, h, hn => by
    rw [show pos + (d + 1) = pos + d + 1 by omega, fol_succ, fol_plain s pos d (by omega) (fun k hk => hn k (by omega)), from_add s (show pos ≤ pos + d by omega) (show pos + d ≤ pos + d + 1 by omega), from_one s (by omega), List.append_assoc]
    unfold rf
    rw [if_neg (hn d (by omega))]
theorem fold_plain (s : ByteArray) (pos : Nat) (h : pos < s.size) (hb : Bd s pos) (hc : ¬ Cap ((Utf8.decode s pos).1 : Nat)) : fol s (pos + oneW s pos) = fol s pos ++ bytesFrom s pos (pos + oneW s pos) := by
  refine fol_plain s pos _ (next_le s pos h) ?_
  have e : oneW s pos = (Utf8.decode s pos).2 := rfl
  have h00 : ¬ Turned s pos ∨ (65 ≤ (s.get! pos).toNat ∧ (s.get! pos).toNat ≤ 90) := by
    by_cases ht : Turned s pos
    · rcases ht with ht | ⟨h1, h2, h3⟩
      · exact .inr ht
      · exact absurd h3.2.2.2 (hb h1 h2)
    · exact .inl ht
  have h0 : ¬ Turned s pos := by
    rcases h00 with h00 | h00
    · exact h00
    · exfalso
      apply hc
      have hd := decode_ascii s pos h (by rw [get_get! s pos h]; omega)
      rw [get_get! s pos h] at hd
      rw [hd]
      left
      simp only
      omega
  intro k hk
  rcases shape s pos h with ⟨hd, _⟩ | ⟨hd, hs⟩ | ⟨hd, hs⟩ | ⟨hd, hs⟩
  · rw [e, hd] at hk
    obtain rfl : k = 0 := by omega
    exact h0
  · rw [e, hd] at hk
    rcases (by omega : k = 0 ∨ k = 1) with rfl | rfl
    · exact h0
    · rintro (ht | ⟨_, h2, h3, h4, h5, _⟩)
      · omega
      · rw [show pos + 1 - 1 = pos by omega] at h2
        apply hc
        right
        omega
  · rw [e, hd] at hk
    rcases (by omega : k = 0 ∨ k = 1 ∨ k = 2) with rfl | rfl | rfl
    · exact h0
    · rintro (ht | ⟨_, h2, _⟩)
      · omega
      · rw [show pos + 1 - 1 = pos by omega] at h2; omega
    · rintro (ht | ⟨_, h2, _⟩)
      · omega
      · rw [show pos + 2 - 1 = pos + 1 by omega] at h2; omega
  · rw [e, hd] at hk
    rcases (by omega : k = 0 ∨ k = 1 ∨ k = 2 ∨ k = 3) with rfl | rfl | rfl | rfl
    · exact h0
    · rintro (ht | ⟨_, h2, _⟩)
      · omega
      · rw [show pos + 1 - 1 = pos by omega] at h2; omega
    · rintro (ht | ⟨_, h2, _⟩)
      · omega
      · rw [show pos + 2 - 1 = pos + 1 by omega] at h2; omega
    · rintro (ht | ⟨_, h2, _⟩)
      · omega
      · rw [show pos + 3 - 1 = pos + 2 by omega] at h2; omega
def u8C (l : List UInt8) : List Value := l.map fun b => .int .u8 (b.toNat : Int)
theorem u8C_append (l r : List UInt8) : u8C (l ++ r) = u8C l ++ u8C r := List.map_append
theorem fold_cap (s : ByteArray) (pos : Nat) (h : pos < s.size) (hc : Cap ((Utf8.decode s pos).1 : Nat)) :
    ∃ enc : List UInt8, Lib.runeCells (((Utf8.decode s pos).1 : Nat) + 32) = u8C enc ∧ fol s (pos + oneW s pos) = fol s pos ++ enc ∧ ((((Utf8.decode s pos).1 : Nat) : Int) ≤ 90 → oneW s pos = 1) ∧ (¬ (((Utf8.decode s pos).1 : Nat) : Int) ≤ 90 → oneW s pos = 2) := by
  have e : oneW s pos = (Utf8.decode s pos).2 := rfl
  rcases shape s pos h with ⟨hd, ⟨hr, hb⟩ | ⟨hr, hb⟩⟩ | ⟨hd, hs⟩ | ⟨hd, hs⟩ | ⟨hd, hs⟩
  · have hcc : 65 ≤ (s.get! pos).toNat ∧ (s.get! pos).toNat ≤ 90 := by
      rw [hr] at hc
      rcases hc with hc | hc <;> omega
    have ht := turned_nat s pos (.inl hcc)
    refine ⟨[rf s pos], ?_, ?_, fun _ => by rw [e, hd], fun h2 => by rw [hr] at h2; omega⟩
    · unfold Lib.runeCells
      rw [hr, Lib.encodeRuneZ_one (by omega) (by omega)]
      unfold u8C
      rw [List.map_singleton, List.map_singleton, ht]
      congr 2
    · rw [e, hd, fol_succ]
  · rw [hr] at hc
    rcases hc with hc | hc <;> omega
  · obtain ⟨h1, h2, h3, h4, h5, hr⟩ := hs
    have hlo : 192 ≤ (Utf8.decode s pos).1 ∧ (Utf8.decode s pos).1 ≤ 222 ∧ (Utf8.decode s pos).1 ≠ 215 := by
      rcases hc with hc | hc <;> omega
    have hb0 : (s.get! pos).toNat = 195 := by omega
    have n0 : ¬ Turned s pos := by rintro (ht | ht) <;> omega
    have t1 : Turned s (pos + 1) := .inr ⟨by omega, by rw [show pos + 1 - 1 = pos by omega]; exact hb0, by omega, by omega, by omega, by rw [show pos + 1 - 1 = pos by omega, e, hd]⟩
    have ht := turned_nat s (pos + 1) t1
    refine ⟨[rf s pos, rf s (pos + 1)], ?_, ?_, fun h2 => by omega, fun _ => by rw [e, hd]⟩
    · unfold Lib.runeCells
      rw [Lib.encodeRuneZ_two (by omega) (by omega)]
      unfold u8C
      simp only [List.map_cons, List.map_nil]
      rw [ht]
      have hf0 : (rf s pos).toNat = 195 := by unfold rf; rw [if_neg n0]; exact hb0
      rw [hf0]
      have e1 : (192 : Int) + (((Utf8.decode s pos).1 : Nat) + 32) / 64 = ((195 : Nat) : Int) := by omega
      have e2 : (128 : Int) + (((Utf8.decode s pos).1 : Nat) + 32) % 64 = (((s.get! (pos + 1)).toNat + 32 : Nat) : Int) := by omega
      rw [e1, e2]
    · rw [e, hd, show pos + 2 = pos + 1 + 1 by omega, fol_succ, fol_succ, List.append_assoc]; rfl
  · rcases hc with hc | hc <;> omega
  · rcases hc with hc | hc <;> omega
theorem u8Info : (Tryz.prog.info? 5).map (fun i => (i.zero, i.size, i.bytes)) = some (some (.int .u8 0), 1, 1) := by kernel_rfl
theorem str_u8C (s : ByteArray) : Lib.strCells s = u8C s.data.toList := rfl
theorem conv_own {w : World} {B : Nat} {v : Value} {l : List UInt8} (h : w.ownsRow B 5 1 v l.length (u8C l)) : (convert 87 9 v).run Tryz.prog w = .ok (.string ⟨l.toArray⟩) w := by
  rcases h.2 with ⟨rfl, h0⟩ | ⟨g, cap, cur, rfl, hb, hg, hn, hm, hc, hx⟩
  · have : l = [] := List.length_eq_zero_iff.1 h0
    subst this
    exact Lib.run_convert_nil_bytes w 87 9 5 0 Tryz.underlying87 Tryz.underlying5 Tryz.underlying9
  · refine run_convert_bytes_back w 87 9 5 ⟨g, 0, none⟩ cap l Tryz.underlying87 Tryz.underlying5 Tryz.underlying9 (fun j hj => ?_)
    exact h.cells (g := g) rfl j _ (by unfold u8C; rw [List.getElem?_map, List.getElem?_eq_getElem hj]; rfl)
def appRen : Go.Shelf.Ren := ⟨fun | 242 => 129 | 278 => 154 | n => n, fun | 37 => 87 | 21 => 21 | 51 => 184 | 4 => 4 | 5 => 5 | 46 => 176 | n => n, fun n => n⟩
theorem appLays : Go.Proofs.Lays.n242 Tryz.prog appRen := {
  mixed := by kernel_rfl,
  f242 := Tryz.func129.trans (congrArg some (by kernel_rfl)),
  f278 := Tryz.func154.trans (congrArg some (by kernel_rfl)),
  t4 := Tryz.underlying4,
  a4 := Tryz.isAgg4,
  z4 := Tryz.sizeOf4,
  v4 := Tryz.zeroValue4,
  t5 := Tryz.underlying5,
  a5 := Tryz.isAgg5,
  z5 := Tryz.sizeOf5,
  v5 := Tryz.zeroValue5,
  t21 := Tryz.underlying21,
  a21 := Tryz.isAgg21,
  z21 := Tryz.sizeOf21,
  v21 := Tryz.zeroValue21,
  t37 := Tryz.underlying87,
  a37 := Tryz.isAgg87,
  z37 := Tryz.sizeOf87,
  v37 := Tryz.zeroValue87,
  t46 := Tryz.underlying176,
  a46 := Tryz.isAgg176,
  z46 := Tryz.sizeOf176,
  v46 := Tryz.zeroValue176,
  t51 := Tryz.underlying184,
  a51 := Tryz.isAgg184,
  z51 := Tryz.sizeOf184,
  v51 := Tryz.zeroValue184 }
theorem append_any (B : Nat) (v : Value) (n : Nat) (xs : List Value) (r : Int) (h0 : -2147483648 ≤ r) (h1 : r ≤ 2147483647) (w : World) (hown : w.ownsRow B 5 1 v n xs) (hn : n + 4 ≤ 140737488355328) (hB : B ≤ w.heap.size) :
    Calls Tryz.prog 129 #[v, .int .i32 r] w fun e w' => ∃ v', e = .returned v' ∧ w'.ownsRow B 5 1 v' (n + (Lib.runeCells r).length) (xs ++ Lib.runeCells r) ∧ ∃ o, (w.alloc o).grownBy w' v.ownBlock :=
  Any.utf8_AppendRune_plain appLays (by kernel_rfl) B v n xs r h0 h1 w hown hn hB
theorem isCap_yes (w : World) (r : Int) (h : Cap r) : Calls Tryz.prog 128 #[.int .i32 r] w fun e w' => e = .returned (.bool true) ∧ w = w' := by
  rcases h with ⟨h1, h2⟩ | ⟨h1, h2, h3⟩
  · go_enter Tryz.func128, Tryz.ntmps128
    go_wp2
    go_ret
    exact ⟨rfl, rfl⟩
  · have a1 : 65 ≤ r := by omega
    have a2 : decide (r ≤ 90) = false := by simp; omega
    have a3 : (r == 215) = false := by simpa using h3
    go_enter Tryz.func128, Tryz.ntmps128
    go_wp2
    go_ret
    exact ⟨by simp [h3], rfl⟩
theorem isCap_no (w : World) (r : Int) (h : ¬ Cap r) : Calls Tryz.prog 128 #[.int .i32 r] w fun e w' => e = .returned (.bool false) ∧ w = w' := by
  unfold Cap at h
  rcases (by omega : r < 65 ∨ (90 < r ∧ r < 192) ∨ r = 215 ∨ 222 < r) with h1 | ⟨h1, h2⟩ | rfl | h1
  · have a1 : decide (65 ≤ r) = false := by simp; omega
    have a2 : decide (192 ≤ r) = false := by simp; omega
    clear h
    go_enter Tryz.func128, Tryz.ntmps128
    go_wp2
    go_ret
    exact ⟨rfl, rfl⟩
  · have a1 : 65 ≤ r := by omega
    have a2 : decide (r ≤ 90) = false := by simp; omega
    have a3 : decide (192 ≤ r) = false := by simp; omega
    clear h
    go_enter Tryz.func128, Tryz.ntmps128
    go_wp2
    go_ret
    exact ⟨rfl, rfl⟩
  · clear h
    go_enter Tryz.func128, Tryz.ntmps128
    go_wp2
    go_ret
    exact ⟨rfl, rfl⟩
  · have a1 : 65 ≤ r := by omega
    have a2 : decide (r ≤ 90) = false := by simp; omega
    have a3 : 192 ≤ r := by omega
    have a4 : decide (r ≤ 222) = false := by simp; omega
    clear h
    go_enter Tryz.func128, Tryz.ntmps128
    go_wp2
    go_ret
    exact ⟨rfl, rfl⟩
theorem runeLen_cap (w : World) (r : Int) (h : Cap r) : Calls Tryz.prog 130 #[.int .i32 r] w fun e w' => e = .returned (.int .i64 (if r ≤ 90 then 1 else 2)) ∧ w = w' := by
  unfold Cap at h
  by_cases h1 : r ≤ 90
  · rw [if_pos h1]
    have a1 : ¬ r < 0 := by omega
    have a2 : r ≤ 127 := by omega
    clear h
    go_enter Tryz.func130, Tryz.ntmps130
    go_wp2
    go_ret
    exact ⟨rfl, rfl⟩
  · rw [if_neg h1]
    have a1 : ¬ r < 0 := by omega
    have a2 : ¬ r ≤ 127 := by omega
    have a3 : r ≤ 2047 := by omega
    clear h h1
    go_enter Tryz.func130, Tryz.ntmps130
    go_wp2
    go_ret
    exact ⟨rfl, rfl⟩
end Go.Proofs.YtehgeninocbpeaaGreatDoor.Gl

namespace Go.Proofs.YtehgeninocbpeaaGreatDoor.Gl
open Go Go.Proofs Go.RowKit
theorem rels_end (s : ByteArray) (fuel pos : Nat) (h : ¬ pos < s.size) : rels s fuel pos = [] := by
  cases fuel with
  | zero => rfl
  | succ f => simp [rels, h]
def i64C (l : List Int) : List Value := l.map (.int .i64)
theorem i64C_one (l : List Int) : ∀ u ∈ i64C l, u.oneCell' = true := by
  intro u hu
  obtain ⟨x, _, rfl⟩ := List.mem_map.1 hu
  rfl
theorem i64C_append (l r : List Int) : i64C (l ++ r) = i64C l ++ i64C r := List.map_append
theorem i64Info : (Tryz.prog.info? 3).map (fun i => (i.zero, i.size, i.bytes)) = some (some (.int .i64 0), 1, 8) := by kernel_rfl
theorem oneW_pos (s : ByteArray) (pos : Nat) (h : pos < s.size) : 1 ≤ oneW s pos := width_pos s pos h
theorem oneW_le (s : ByteArray) (pos : Nat) : oneW s pos ≤ 4 := by
  unfold oneW
  rw [Lib.decode_at]
  unfold Lib.decodeN
  repeat' split
  all_goals simp only
  all_goals omega
set_option maxRecDepth 100000 in
set_option maxHeartbeats 1000000 in
theorem relements_any (w : World) (s : ByteArray) (hs : s.size ≤ 2097152) :
    Calls Tryz.prog 90 #[.string s] w fun e w' => ∃ v, e = .returned v ∧ w'.ownsRow w.heap.size 3 1 v (relems s).length (i64C (relems s)) ∧ Below w.heap.size w w' := by
  obtain ⟨i0, hi, hz0, hz1, hz2⟩ := info_parts i64Info
  obtain ⟨B, hB⟩ : ∃ B, w.heap.size = B := ⟨_, rfl⟩
  have HB : Hid (w.heap.size = B) := hB
  have HE : Hid (rels s s.size 0 = relems s) := rfl
  generalize relems s = E at HE ⊢
  rw [hB]
  go_enter Tryz.func90, Tryz.ntmps90
  go_wp2
  go_loopg [3, 4] s.size (fun g u y wr => ∃ (pos fuel : Nat) (acc : List Int), y = .int .i64 (pos : Int) ∧ g = s.size - pos ∧ pos ≤ s.size + 4 ∧ Hid (wr.ownsRow B 3 1 u acc.length (i64C acc)) ∧ Hid (Below B w wr) ∧ Hid (acc ++ rels s fuel pos = E) ∧ Hid (s.size ≤ pos + fuel) ∧ Hid (acc.length ≤ pos))
  case atStart => exact ⟨0, s.size, [], rfl, by omega, by omega, World.ownsRow_nil _ _ _ _, Below.refl _ _, HE.out, by show _ ≤ _; omega, by show _ ≤ _; simp⟩
  case round =>
    obtain ⟨pos, fuel, acc, rfl, hg, hp4, HO, HBw, HA, HF, HL⟩ := hrel
    have hBs : B ≤ wr.heap.size := by rw [← hB]; exact HBw.out.size
    by_cases hp : pos < s.size
    · have c := fun W => one_any W s pos hp hs
      have hpI : (pos : Int) < (s.size : Int) := by omega
      have hw1 := oneW_pos s pos hp
      have hw4 := oneW_le s pos
      have HA2 : Hid ((acc ++ [oneV s pos]) ++ rels s (fuel - 1) (pos + oneW s pos) = E) := by
        have h1 := HA.out
        have h2 := HF.out
        obtain ⟨f, rfl⟩ : ∃ f, fuel = f + 1 := ⟨fuel - 1, by omega⟩
        rw [rels, if_pos hp] at h1
        show _ = _
        rw [List.append_assoc]
        exact h1
      have HF2 : Hid (s.size ≤ pos + oneW s pos + (fuel - 1)) := by
        have := HF.out
        show _ ≤ _
        omega
      have hl : acc.length + 1 ≤ 2097152 := by have := HL.out; omega
      have h63 : acc.length + 1 ≤ maxLen := by unfold maxLen; omega
      have hby : (acc.length + 1) * 8 ≤ 140737488355328 := by omega
      generalize oneV s pos = x at *
      generalize oneW s pos = d at *
      have HL2 : Hid ((acc ++ [x]).length ≤ pos + d) := by
        have := HL.out
        show _ ≤ _
        simp
        omega
      clear HF HA HL HE
      have hb2 : B ≤ (wr.alloc (.cells #[.int .i64 x] 3)).heap.size := by simp; omega
      go_wp2_with (first | (go_at_call 115; refine (c _).mono ?_; rintro e w' ⟨rfl, rfl⟩) | (at_builtin; refine Stop.mk ?_))
      refine Stop.out ?_
      refine (wpList_append_lies _ rfl (.tmp 17) (.tmp 19) 30 rfl B 3 i0 _ 1 8 Tryz.underlying30 hi hz0 hz1 hz2 rfl (by decide) u3 acc.length (i64C acc) rfl (HO.out.alloc _) ⟨wr.heap.size, 0, none⟩ 1 1 [.int .i64 x] rfl rfl (World.news_of_block (heap_alloc_new wr _)) (i64C_one [x]) (by decide) h63 hby hb2 _ rfl ?_)
      intro g4 cap4 W4 hown4 hgrow4 _ _
      have HB4 : Hid (Below B w W4) := (HBw.out.alloc hBs _).grown hgrow4 (by simp; omega) (fun k hk => (HO.out.lt k hk).1)
      have HO4 : Hid (W4.ownsRow B 3 1 (.slice (some ⟨g4, 0, none⟩) (acc.length + 1) cap4) (acc ++ [x]).length (i64C (acc ++ [x]))) := by
        show World.ownsRow _ _ _ _ _ _ _
        rw [i64C_append, List.length_append]
        exact hown4
      clear hown4 hgrow4
      go_wp2
      go_roundg (s.size - (pos + d))
      case measure => omega
      case rel => exact ⟨pos + d, fuel - 1, acc ++ [x], by first | rfl | simp, rfl, by omega, HO4, HB4, HA2, HF2, HL2⟩
    · have hA := HA.out
      rw [rels_end s fuel pos hp, List.append_nil] at hA
      subst hA
      have hpI : ¬ ((pos : Int) < (s.size : Int)) := by omega
      clear HE HA
      go_wp2
      go_ret
      exact ⟨_, rfl, HO.out, HBw.out⟩
theorem own_rd64 {w : World} {B : Nat} {v : Value} {l : List Int} (h : w.ownsRow B 3 1 v l.length (i64C l)) : ∃ a cap, v = .slice a l.length cap ∧ l.length ≤ cap ∧ (∀ k x, l[k]? = some x → ∃ g, a = some ⟨g, 0, none⟩ ∧ w.cell? ⟨g, k, none⟩ = some (.int .i64 x)) := by
  rcases h.2 with ⟨rfl, h0⟩ | ⟨g, cap, cur, rfl, hb, hg, hn, hm, hc, hx⟩
  · refine ⟨none, 0, by rw [h0], by omega, ?_⟩
    intro k x hk
    have := (List.getElem?_eq_some_iff.1 hk).1
    omega
  · refine ⟨some ⟨g, 0, none⟩, cap, rfl, hn, ?_⟩
    intro k x hk
    refine ⟨g, rfl, ?_⟩
    have := h.cells (g := g) rfl k (.int .i64 x) (by unfold i64C; rw [List.getElem?_map, hk]; rfl)
    have hadd : (⟨g, 0, none⟩ : Addr).add k = ⟨g, k, none⟩ := by unfold Addr.add; split <;> simp_all
    rw [hadd] at this
    exact this
theorem rels_len (s : ByteArray) : ∀ fuel pos, (rels s fuel pos).length ≤ fuel
  | 0, _ => by simp [rels]
  | f + 1, pos => by
    rw [rels]
    split
    · have := rels_len s f (pos + oneW s pos)
      simp; omega
    · simp
theorem relems_len (s : ByteArray) : (relems s).length ≤ s.size := rels_len s _ _
end Go.Proofs.YtehgeninocbpeaaGreatDoor.Gl

namespace Go.Proofs.YtehgeninocbpeaaGreatDoor.Gl
open Go Go.Proofs Go.RowKit
theorem ext_data (s : ByteArray) (a b : Nat) : (s.extract a b).data.toList = bytesFrom s a b := rfl
theorem from_len (s : ByteArray) {a b : Nat} (h1 : a ≤ b) (h2 : b ≤ s.size) : (bytesFrom s a b).length = b - a := by
  unfold bytesFrom
  rw [Array.length_toList]
  show (s.extract a b).size = _
  rw [ByteArray.size_extract]
  omega
theorem fol_len (s : ByteArray) (n : Nat) : (fol s n).length = n := by unfold fol; simp
set_option maxRecDepth 100000 in
set_option maxHeartbeats 2000000 in
theorem fold_any (w : World) (s : ByteArray) (hs : s.size ≤ 2097152) :
    Calls Tryz.prog 98 #[.string s] w fun e w' => e = .returned (.string ⟨(fol s s.size).toArray⟩) ∧ Below w.heap.size w w' := by
  obtain ⟨i0, hi, hz0, hz1, hz2⟩ := info_parts u8Info
  obtain ⟨B, hB⟩ : ∃ B, w.heap.size = B := ⟨_, rfl⟩
  rw [hB]
  obtain ⟨E, hE⟩ : ∃ E, (⟨(fol s s.size).toArray⟩ : ByteArray) = E := ⟨_, rfl⟩
  have HE : Hid ((⟨(fol s s.size).toArray⟩ : ByteArray) = E) := hE
  rw [hE]
  clear hE
  go_enter Tryz.func98, Tryz.ntmps98
  go_wp2
  go_loopg [3, 4] s.size (fun g u y wr => ∃ (pos dn : Nat) (acc : List UInt8), y = .int .i64 (dn : Int) ∧ g = s.size - pos ∧ dn ≤ pos ∧ pos ≤ s.size ∧ acc.length ≤ s.size ∧ Hid (wr.ownsRow B 5 1 u acc.length (u8C acc)) ∧ Hid (wr.heap[B]? = some (.stringIter s pos)) ∧ Hid (Below B w wr) ∧ Hid (acc ++ bytesFrom s dn pos = fol s pos) ∧ Hid (Bd s pos))
  case atStart =>
    refine ⟨0, 0, [], rfl, by omega, by omega, by omega, by simp, World.ownsRow_nil _ _ _ _, ?_, ?_, ?_, ?_⟩
    · show _ = _; rw [← hB]; exact World.iter_heap w s 0
    · show Below _ _ _; rw [← hB]; exact (Below.refl _ w).alloc (Nat.le_refl _) _
    · show _ = _; rw [from_self]; rfl
    · intro h; omega
  case round =>
    obtain ⟨pos, dn, acc, rfl, hg, hdn, hps, hal, HO, HI, HBw, HA, HD⟩ := hrel
    have hBs : B < wr.heap.size := (Array.getElem?_eq_some_iff.1 HI.out).1
    by_cases hp : pos < s.size
    · have hnx : ∀ ty, (Instr.next (.pointer (some ⟨B, 0, none⟩)) true ty).run Tryz.prog wr = _ := fun ty => Lib.run_next_any_at wr B s pos ty HI.out hp
      have hwd := oneW_pos s pos hp
      have hd1 := decode_le s pos
      have HI1 : Hid ((wr.iterAt B s (pos + (Utf8.decode s pos).2)).heap[B]? = some (.stringIter s (pos + (Utf8.decode s pos).2))) := Lib.iterAt_heap wr B s pos (pos + (Utf8.decode s pos).2) HI.out
      have HO1 : Hid ((wr.iterAt B s (pos + (Utf8.decode s pos).2)).ownsRow B 5 1 u3 acc.length (u8C acc)) := own_iterAt HO.out HI.out (pos + (Utf8.decode s pos).2)
      have HB1 : Hid (Below B w (wr.iterAt B s (pos + (Utf8.decode s pos).2))) := Lib.below_iterAt HBw.out (k := B) (Nat.le_refl _) s (pos + (Utf8.decode s pos).2)
      have hsz1 : B < (wr.iterAt B s (pos + (Utf8.decode s pos).2)).heap.size := by
        rw [Lib.iterAt_size]; exact hBs
      have HD2 : Hid (Bd s (pos + (Utf8.decode s pos).2)) := bd_next s pos hp
      have hle : pos + (Utf8.decode s pos).2 ≤ s.size := next_le s pos hp
      have hw1 : 1 ≤ (Utf8.decode s pos).2 := hwd
      by_cases hc : Cap ((Utf8.decode s pos).1 : Nat)
      · obtain ⟨enc, he1, he2, he3, he4⟩ := fold_cap s pos hp hc
        have c16 := fun W => isCap_yes W _ hc
        have c18 := fun W => runeLen_cap W _ hc
        have e : oneW s pos = (Utf8.decode s pos).2 := rfl
        rw [e] at he2 he3 he4
        have c18' : ∀ W, Calls Tryz.prog 130 #[.int .i32 ((Utf8.decode s pos).1 : Nat)] W fun e w' => e = .returned (.int .i64 ((Utf8.decode s pos).2 : Nat)) ∧ W = w' := fun W => by
          have := c18 W
          by_cases h90 : (((Utf8.decode s pos).1 : Nat) : Int) ≤ 90
          · rw [if_pos h90] at this; rw [he3 h90]; exact this
          · rw [if_neg h90] at this; rw [he4 h90]; exact this
        have hr222 : (Utf8.decode s pos).1 ≤ 222 := by rcases hc with h | h <;> omega
        have HA2 : Hid (fol s (pos + (Utf8.decode s pos).2) = fol s pos ++ enc) := he2
        have HE1 : Hid (Lib.runeCells (((Utf8.decode s pos).1 : Nat) + 32) = u8C enc) := he1
        clear he1 he2 he3 he4 c18 hc e
        generalize (Utf8.decode s pos).1 = d1 at *
        generalize (Utf8.decode s pos).2 = d2 at *
        generalize wr.iterAt B s (pos + d2) = W1 at *
        have hzx : (s.extract dn pos).size = pos - dn := by rw [ByteArray.size_extract]; omega
        have HAl : Hid ((acc ++ bytesFrom s dn pos).length = pos) := by show _ = _; rw [HA.out, fol_len]
        have hal2 : acc.length + (s.extract dn pos).size = pos := by
          have := HAl.out
          rw [List.length_append, from_len s hdn hps] at this
          rw [hzx]; omega
        have h63 : acc.length + (s.extract dn pos).size ≤ maxLen := by rw [hal2]; unfold maxLen; omega
        have hby : acc.length + (s.extract dn pos).size ≤ 140737488355328 := by rw [hal2]; omega
        have hdI : (dn : Int) ≤ (pos : Int) := by omega
        have hpI : (pos : Int) ≤ (s.size : Int) := by omega
        clear hzx HAl
        clear HO HI HBw
        go_wp2_with (first | (go_at_call 128; refine (c16 _).mono ?_; rintro e w' ⟨rfl, rfl⟩) | (at_builtin; refine Stop.mk ?_))
        refine Stop.out ?_
        refine Lib.wpList_append_own_string _ rfl (.tmp 16) (.tmp 20) 87 9 rfl B 5 i0 Tryz.underlying87 Tryz.underlying9 hi hz0 hz1 hz2 u3 acc.length (u8C acc) rfl HO1.out (s.extract dn pos) rfl h63 hby (Nat.le_of_lt hsz1) ?_
        intro v2 W2 hown2 hgrow2 _
        rw [hal2, str_u8C, ← u8C_append, ext_data, HA.out] at hown2
        have HI2 : Hid (W2.heap[B]? = some (.stringIter s (pos + d2))) := iter_kept HO1.out hgrow2 HI1.out
        have HB2 : Hid (Below B w W2) := HB1.out.grown hgrow2 (Nat.le_of_lt hsz1) (fun k hk => (HO1.out.lt k hk).1)
        have hsz2 : B < W2.heap.size := (Array.getElem?_eq_some_iff.1 HI2.out).1
        have c17 := append_any B v2 pos (u8C (fol s pos)) ((d1 : Int) + 32) (by omega) (by omega) W2 hown2 (by omega) (Nat.le_of_lt hsz2)
        rw [HE1.out, ← u8C_append, ← HA2.out] at c17
        have HO2 : Hid (W2.ownsRow B 5 1 v2 pos (u8C (fol s pos))) := hown2
        have hlen : pos + (u8C enc).length = pos + d2 := by
          have := congrArg List.length HA2.out
          rw [List.length_append, fol_len, fol_len] at this
          unfold u8C
          rw [List.length_map]; omega
        rw [hlen] at c17
        clear hown2 hgrow2 hlen h63 hby hal2
        go_wp2_with (go_at_call 129; refine Stop.mk ?_)
        refine Stop.out (c17.mono ?_)
        rintro e W3 ⟨v3, rfl, hown3, o3, hgrow3⟩
        have HI3 : Hid (W3.heap[B]? = some (.stringIter s (pos + d2))) := iter_kept (HO2.out.alloc o3) hgrow3 ((Below.heap_alloc W2 o3 B hsz2).trans HI2.out)
        have HB3 : Hid (Below B w W3) := (HB2.out.alloc (Nat.le_of_lt hsz2) o3).grown hgrow3 (by simp; omega) (fun k hk => (HO2.out.lt k hk).1)
        have HO3 : Hid (W3.ownsRow B 5 1 v3 (fol s (pos + d2)).length (u8C (fol s (pos + d2)))) := by
          show World.ownsRow _ _ _ _ _ _ _
          rw [fol_len]; exact hown3
        clear hown3 hgrow3 c17
        go_wp2_with (go_at_call 130; refine (c18' _).mono ?_; rintro e w' ⟨rfl, rfl⟩)
        go_roundg (s.size - (pos + d2))
        case measure => omega
        case rel => exact ⟨pos + d2, pos + d2, fol s (pos + d2), by first | rfl | simp, rfl, by omega, hle, by rw [fol_len]; exact hle, HO3, HI3, HB3, by show _ = _; rw [from_self, List.append_nil], HD2⟩
      · have c16 := fun W => isCap_no W _ hc
        have HA2 : Hid (acc ++ bytesFrom s dn (pos + (Utf8.decode s pos).2) = fol s (pos + (Utf8.decode s pos).2)) := by
          have := fold_plain s pos hp HD.out hc
          show _ = _
          rw [from_add s hdn (show pos ≤ pos + (Utf8.decode s pos).2 by omega), ← List.append_assoc, HA.out]
          exact this.symm
        clear hc
        generalize (Utf8.decode s pos).1 = d1 at *
        generalize (Utf8.decode s pos).2 = d2 at *
        generalize wr.iterAt B s (pos + d2) = W1 at *
        clear HO HI HBw HA
        go_wp2_with (go_at_call 128; refine (c16 _).mono ?_; rintro e w' ⟨rfl, rfl⟩)
        go_roundg (s.size - (pos + d2))
        case measure => omega
        case rel => exact ⟨pos + d2, dn, acc, rfl, rfl, by omega, hle, hal, HO1, HI1, HB1, HA2, HD2⟩
    · obtain rfl : pos = s.size := by omega
      have hnx : ∀ ty, (Instr.next (.pointer (some ⟨B, 0, none⟩)) true ty).run Tryz.prog wr = _ := fun ty => Lib.run_next_end_at wr B s s.size ty HI.out hp
      have hzx : (s.extract dn s.size).size = s.size - dn := by rw [ByteArray.size_extract]; omega
      have hal2 : acc.length + (s.extract dn s.size).size = s.size := by
        have := congrArg List.length HA.out
        rw [List.length_append, from_len s hdn (Nat.le_refl _), fol_len] at this
        rw [hzx]; omega
      have h63 : acc.length + (s.extract dn s.size).size ≤ maxLen := by rw [hal2]; unfold maxLen; omega
      have hby : acc.length + (s.extract dn s.size).size ≤ 140737488355328 := by rw [hal2]; omega
      have hdI : (dn : Int) ≤ (s.size : Int) := by omega
      clear hzx
      go_wp2_with (at_builtin; refine Stop.mk ?_)
      refine Stop.out ?_
      refine Lib.wpList_append_own_string _ rfl (.tmp 30) (.tmp 33) 87 9 rfl B 5 i0 Tryz.underlying87 Tryz.underlying9 hi hz0 hz1 hz2 u3 acc.length (u8C acc) rfl HO.out (s.extract dn s.size) rfl h63 hby (Nat.le_of_lt hBs) ?_
      intro v2 W2 hown2 hgrow2 _
      have HB2 : Hid (Below B w W2) := HBw.out.grown hgrow2 (Nat.le_of_lt hBs) (fun k hk => (HO.out.lt k hk).1)
      rw [hal2, str_u8C, ← u8C_append, ext_data, HA.out] at hown2
      have hcv := conv_own (l := fol s s.size) (by rw [fol_len]; exact hown2)
      rw [HE.out] at hcv
      clear hown2 hgrow2
      go_wp2
      go_ret
      exact ⟨rfl, HB2.out⟩
end Go.Proofs.YtehgeninocbpeaaGreatDoor.Gl
