import Derived.Test.YtehgeninocbpeaaGreatDoorGI
import Derived.Test.YtehgeninocbpeaaGreatDoorGJ
/-
  DERIVED. The document's elements of a text, walked.
-/
namespace Go.Proofs.YtehgeninocbpeaaGreatDoor.Gl
open Go Go.Proofs Go.RowKit

theorem rels_end (s : ByteArray) (fuel pos : Nat) (h : ¬ pos < s.size) : rels s fuel pos = [] := by
  cases fuel with
  | zero => rfl
  | succ f => simp [rels, h]

def i64C (l : List Int) : List Value := l.map (.int .i64)
theorem i64C_one (l : List Int) : ∀ u ∈ i64C l, u.oneCell' = true := by
  intro u hu
  obtain ⟨x, _, rfl⟩ := List.mem_map.1 hu
  rfl
theorem i64C_append (l r : List Int) : i64C (l ++ r) = i64C l ++ i64C r := List.map_append
theorem i64Info : (Tryz.prog.info? 3).map (fun i => (i.zero, i.size, i.bytes)) = some (some (.int .i64 0), 1, 8) := by kernel_rfl

theorem oneW_pos (s : ByteArray) (pos : Nat) (h : pos < s.size) : 1 ≤ oneW s pos := width_pos s pos h
theorem oneW_le (s : ByteArray) (pos : Nat) : oneW s pos ≤ 4 := by
  unfold oneW
  rw [Lib.decode_at]
  unfold Lib.decodeN
  repeat' split
  all_goals simp only
  all_goals omega

set_option maxRecDepth 100000 in
set_option maxHeartbeats 1000000 in
theorem relements_any (w : World) (s : ByteArray) (hs : s.size ≤ 2097152) :
    Calls Tryz.prog 90 #[.string s] w fun e w' => ∃ v, e = .returned v ∧ w'.ownsRow w.heap.size 3 1 v (relems s).length (i64C (relems s)) ∧ Below w.heap.size w w' := by
  obtain ⟨i0, hi, hz0, hz1, hz2⟩ := info_parts i64Info
  obtain ⟨B, hB⟩ : ∃ B, w.heap.size = B := ⟨_, rfl⟩
  have HB : Hid (w.heap.size = B) := hB
  have HE : Hid (rels s s.size 0 = relems s) := rfl
  generalize relems s = E at HE ⊢
  rw [hB]
  go_enter Tryz.func90, Tryz.ntmps90
  go_wp2
  go_loopg [3, 4] s.size (fun g u y wr => ∃ (pos fuel : Nat) (acc : List Int), y = .int .i64 (pos : Int) ∧ g = s.size - pos ∧ pos ≤ s.size + 4 ∧ Hid (wr.ownsRow B 3 1 u acc.length (i64C acc)) ∧ Hid (Below B w wr) ∧ Hid (acc ++ rels s fuel pos = E) ∧ Hid (s.size ≤ pos + fuel) ∧ Hid (acc.length ≤ pos))
  case atStart => exact ⟨0, s.size, [], rfl, by omega, by omega, World.ownsRow_nil _ _ _ _, Below.refl _ _, HE.out, by show _ ≤ _; omega, by show _ ≤ _; simp⟩
  case round =>
    obtain ⟨pos, fuel, acc, rfl, hg, hp4, HO, HBw, HA, HF, HL⟩ := hrel
    have hBs : B ≤ wr.heap.size := by rw [← hB]; exact HBw.out.size
    by_cases hp : pos < s.size
    · have c := fun W => one_any W s pos hp hs
      have hpI : (pos : Int) < (s.size : Int) := by omega
      have hw1 := oneW_pos s pos hp
      have hw4 := oneW_le s pos
      have HA2 : Hid ((acc ++ [oneV s pos]) ++ rels s (fuel - 1) (pos + oneW s pos) = E) := by
        have h1 := HA.out
        have h2 := HF.out
        obtain ⟨f, rfl⟩ : ∃ f, fuel = f + 1 := ⟨fuel - 1, by omega⟩
        rw [rels, if_pos hp] at h1
        show _ = _
        rw [List.append_assoc]
        exact h1
      have HF2 : Hid (s.size ≤ pos + oneW s pos + (fuel - 1)) := by
        have := HF.out
        show _ ≤ _
        omega
      have hl : acc.length + 1 ≤ 2097152 := by have := HL.out; omega
      have h63 : acc.length + 1 ≤ maxLen := by unfold maxLen; omega
      have hby : (acc.length + 1) * 8 ≤ 140737488355328 := by omega
      generalize oneV s pos = x at *
      generalize oneW s pos = d at *
      have HL2 : Hid ((acc ++ [x]).length ≤ pos + d) := by
        have := HL.out
        show _ ≤ _
        simp
        omega
      clear HF HA HL HE
      have hb2 : B ≤ (wr.alloc (.cells #[.int .i64 x] 3)).heap.size := by simp; omega
      go_wp2_with (first | (go_at_call 115; refine (c _).mono ?_; rintro e w' ⟨rfl, rfl⟩) | (at_builtin; refine Stop.mk ?_))
      refine Stop.out ?_
      refine (wpList_append_lies _ rfl (.tmp 17) (.tmp 19) 30 rfl B 3 i0 _ 1 8 Tryz.underlying30 hi hz0 hz1 hz2 rfl (by decide) u3 acc.length (i64C acc) rfl (HO.out.alloc _) ⟨wr.heap.size, 0, none⟩ 1 1 [.int .i64 x] rfl rfl (World.news_of_block (heap_alloc_new wr _)) (i64C_one [x]) (by decide) h63 hby hb2 _ rfl ?_)
      intro g4 cap4 W4 hown4 hgrow4 _ _
      have HB4 : Hid (Below B w W4) := (HBw.out.alloc hBs _).grown hgrow4 (by simp; omega) (fun k hk => (HO.out.lt k hk).1)
      have HO4 : Hid (W4.ownsRow B 3 1 (.slice (some ⟨g4, 0, none⟩) (acc.length + 1) cap4) (acc ++ [x]).length (i64C (acc ++ [x]))) := by
        show World.ownsRow _ _ _ _ _ _ _
        rw [i64C_append, List.length_append]
        exact hown4
      clear hown4 hgrow4
      go_wp2
      go_roundg (s.size - (pos + d))
      case measure => omega
      case rel => exact ⟨pos + d, fuel - 1, acc ++ [x], by first | rfl | simp, rfl, by omega, HO4, HB4, HA2, HF2, HL2⟩
    · have hA := HA.out
      rw [rels_end s fuel pos hp, List.append_nil] at hA
      subst hA
      have hpI : ¬ ((pos : Int) < (s.size : Int)) := by omega
      clear HE HA
      go_wp2
      go_ret
      exact ⟨_, rfl, HO.out, HBw.out⟩

theorem own_rd64 {w : World} {B : Nat} {v : Value} {l : List Int} (h : w.ownsRow B 3 1 v l.length (i64C l)) : ∃ a cap, v = .slice a l.length cap ∧ l.length ≤ cap ∧ (∀ k x, l[k]? = some x → ∃ g, a = some ⟨g, 0, none⟩ ∧ w.cell? ⟨g, k, none⟩ = some (.int .i64 x)) := by
  rcases h.2 with ⟨rfl, h0⟩ | ⟨g, cap, cur, rfl, hb, hg, hn, hm, hc, hx⟩
  · refine ⟨none, 0, by rw [h0], by omega, ?_⟩
    intro k x hk
    have := (List.getElem?_eq_some_iff.1 hk).1
    omega
  · refine ⟨some ⟨g, 0, none⟩, cap, rfl, hn, ?_⟩
    intro k x hk
    refine ⟨g, rfl, ?_⟩
    have := h.cells (g := g) rfl k (.int .i64 x) (by unfold i64C; rw [List.getElem?_map, hk]; rfl)
    have hadd : (⟨g, 0, none⟩ : Addr).add k = ⟨g, k, none⟩ := by unfold Addr.add; split <;> simp_all
    rw [hadd] at this
    exact this
theorem rels_len (s : ByteArray) : ∀ fuel pos, (rels s fuel pos).length ≤ fuel
  | 0, _ => by simp [rels]
  | f + 1, pos => by
    rw [rels]
    split
    · have := rels_len s f (pos + oneW s pos)
      simp; omega
    · simp
theorem relems_len (s : ByteArray) : (relems s).length ≤ s.size := rels_len s _ _

end Go.Proofs.YtehgeninocbpeaaGreatDoor.Gl
