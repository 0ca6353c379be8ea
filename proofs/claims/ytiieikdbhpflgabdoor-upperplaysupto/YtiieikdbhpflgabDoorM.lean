import Derived.Test.YtiieikdbhpflgabDoorE
import Derived.WideMake
import Derived.Room.AppendFits
import Derived.Test.YtiieikdbhpflgabDoorD
import Derived.Test.YtiieikdbhpflgabDoorB
import Derived.Deep.Cut
import Derived.Deep.AppendLies
import Derived.Deep.CutRange
/-
  DERIVED. Bytes that are lent; the law on sets that New did not give.
-/
namespace Go.Proofs.YtiieikdbhpflgabDoor
open Go Go.Proofs Go.RowKit

/-- Bytes that lie there. -/
def At (w : World) (b off : Nat) (bs : List Nat) : Prop := (∀ k, k < bs.length → w.cell? ⟨b, off + k, none⟩ = some (.int .u8 (bs.getD k 0 : Nat))) ∧ (∀ x ∈ bs, x < 256)
/-- A slice value, read: these bytes. -/
def V (w : World) (v : Value) (bs : List Nat) : Prop :=
  (∃ ao cap, v = .slice ao 0 cap ∧ bs = []) ∨ (∃ b off cap, v = .slice (some ⟨b, off, none⟩) bs.length cap ∧ 0 < bs.length ∧ bs.length ≤ cap ∧ At w b off bs)

theorem Tryd.info5 : (Tryd.prog.info? 5).map (fun i => (i.zero, i.size, i.bytes)) = some (some (.int .u8 0), 1, 1) := by kernel_rfl

def u8s (bs : List Nat) : List Value := bs.map fun (b : Nat) => Value.int .u8 (b : Int)

/-- Bytes in memory of our own, from block B on. -/
def Own (w : World) (B : Nat) (v : Value) (bs : List Nat) : Prop := w.ownsRow B 5 1 v bs.length (u8s bs) ∧ ∀ x ∈ bs, x < 256

theorem At.next {w w' : World} {b off : Nat} {bs : List Nat} (h : At w b off bs) (hb : Below w.heap.size w w') : At w' b off bs :=
  ⟨fun k hk => (hb.cell (World.block_lt_of_cell? w ⟨b, off + k, none⟩ (h.1 k hk))).trans (h.1 k hk), h.2⟩

theorem V.next {w w' : World} {v : Value} {bs : List Nat} (h : V w v bs) (hb : Below w.heap.size w w') : V w' v bs := by
  rcases h with h | ⟨b, off, cap, rfl, hp, hc, h⟩
  · exact .inl h
  · exact .inr ⟨b, off, cap, rfl, hp, hc, h.next hb⟩

theorem u8s_length (bs : List Nat) : (u8s bs).length = bs.length := by simp [u8s]

theorem u8s_get (bs : List Nat) (k : Nat) (hk : k < bs.length) : (u8s bs)[k]? = some (.int .u8 (bs.getD k 0 : Nat)) := by
  simp [u8s, List.getElem?_eq_getElem hk]

theorem u8s_take_succ {bs : List Nat} {k : Nat} (hk : k < bs.length) : u8s (bs.take k) ++ [.int .u8 (bs.getD k 0 : Nat)] = u8s (bs.take (k + 1)) := by
  rw [List.take_add_one, List.getElem?_eq_getElem hk]
  unfold u8s
  rw [List.map_append, List.getD_eq_getElem?_getD, List.getElem?_eq_getElem hk]
  rfl

theorem u8s_append (a b : List Nat) : u8s (a ++ b) = u8s a ++ u8s b := by simp [u8s]

theorem V.form {w : World} {v : Value} {bs : List Nat} (h : V w v bs) : ∃ ao cap, v = .slice ao bs.length cap ∧ (0 < bs.length → ∃ b off, ao = some ⟨b, off, none⟩ ∧ At w b off bs) ∧ ∀ x ∈ bs, x < 256 := by
  rcases h with ⟨a1, c1, rfl, rfl⟩ | ⟨b1, o1, c1, rfl, hp1, _, h1⟩
  · exact ⟨_, _, rfl, by simp, by simp⟩
  · exact ⟨_, _, rfl, fun _ => ⟨_, _, rfl, h1⟩, h1.2⟩

set_option maxRecDepth 100000 in
/-- Lend. -/
theorem lend_any {w : World} {v : Value} {bs : List Nat} (h : V w v bs) (hl : bs.length ≤ 140737488351232) :
    Calls Tryd.prog 21 #[v] w fun e w' => e = .returned (.slice (some ⟨w.heap.size, 0, none⟩) bs.length (bs.length + 3)) ∧ Own w' w.heap.size (.slice (some ⟨w.heap.size, 0, none⟩) (bs.length + 3) (bs.length + 3)) (bs ++ [160, 161, 162]) ∧ Below w.heap.size w w' := by
  obtain ⟨ao, cap, rfl, hf, hbytes⟩ := h.form
  obtain ⟨n, hn⟩ : ∃ n, n = bs.length := ⟨_, rfl⟩
  rw [← hn] at hl
  rw [← hn]
  have HN : Hid (n = bs.length) := hn
  have HF : Hid (0 < n → ∃ b off, ao = some ⟨b, off, none⟩ ∧ At w b off bs) := by rw [hn]; exact hf
  clear hn hf h
  obtain ⟨i0, hi, hz0, hz1, hz2⟩ := info_parts Tryd.info5
  obtain ⟨B, hB⟩ : ∃ B, w.heap.size = B := ⟨_, rfl⟩
  rw [hB]
  have HB : Hid (B = w.heap.size) := hB.symm
  go_enter Tryd.func21, Tryd.ntmps21
  go_wp2_with (first | (at_make; refine wpList_make_own _ rfl _ _ 75 rfl B 5 i0 (.int .u8 0) 1 Tryd.underlying75 hi hz0 hz1 .i64 .i64 _ (n + 3) rfl rfl ?_ ?_ ?_ ?_ ?_) | fail)
  · omega
  · rw [hz2]; omega
  · unfold maxLen; omega
  · omega
  · intro w1 hown1 hgrow1
    have hbe1 : Below B w w1 := (Below.refl B w).grown hgrow1 (by omega) (by simp)
    clear hgrow1
    go_wp2
    go_loopw [3, 4] (fun v i wr => ∃ k : Nat, k ≤ n ∧ i = .int .i64 k ∧ v = .slice (some ⟨B, 0, none⟩) k (n + 3) ∧ wr.ownsRow B 5 1 (.slice (some ⟨B, 0, none⟩) k (n + 3)) k (u8s (bs.take k)) ∧ Below B w wr) (fun _ i _ => n - (intOf i).toNat)
    case atStart => exact ⟨0, Nat.zero_le _, rfl, rfl, hown1, hbe1⟩
    case round =>
      clear hown1 hbe1
      obtain ⟨k, hk, rfl, rfl, hown, hbe⟩ := hrel
      have HBr : Hid (B ≤ wr.heap.size) := by have := hbe.size; rw [HB.out]; exact this
      by_cases hkn : k < n
      · obtain ⟨b, off, rfl, hb⟩ := HF.out (by omega)
        have hkl : k < bs.length := by rw [← HN.out]; exact hkn
        obtain ⟨y, HY, hcy⟩ : ∃ y, Hid (y = bs.getD k 0) ∧ wr.cell? ⟨b, off + k, none⟩ = some (.int .u8 (y : Int)) := ⟨_, rfl, (hbe.cell (p := ⟨b, off + k, none⟩) (by rw [HB.out]; exact World.block_lt_of_cell? w _ (hb.1 k hkl))).trans (hb.1 k hkl)⟩
        clear hkl
        go_wp2_with (first | (at_builtin; refine wpList_append_fits _ rfl _ _ 75 rfl B 5 i0 1 Tryd.underlying75 hi hz1 B k (n + 3) _ rfl (hown.alloc _) ⟨wr.heap.size, 0, none⟩ 1 1 [.int .u8 (y : Int)] rfl rfl ?_ ?_ ?_ ?_) | fail)
        · exact cell_one_new _ _ _
        · intro u hu; simp at hu; subst hu; rfl
        · omega
        · intro w2 hown' hgrow
          have hbe' : Below B w w2 := (hbe.alloc HBr.out _).grown hgrow (by have := HBr.out; simp; omega) (fun j hj => by cases hj; omega)
          rw [HY.out, u8s_take_succ (by rw [← HN.out]; exact hkn)] at hown'
          clear hgrow hown hcy
          go_wp2
          go_roundw
          case rel => exact ⟨k + 1, by omega, by go_num, rfl, hown', hbe'⟩
          case measure => simp [intOf]; omega
      · have hkn' : k = n := by omega
        subst hkn'
        rw [HN.out, List.take_length, ← HN.out] at hown
        go_wp2
        go_loopw [3, 5] (fun v i wr => ∃ j : Nat, j ≤ 3 ∧ i = .int .i64 j ∧ v = .slice (some ⟨B, 0, none⟩) (k + j) (k + 3) ∧ wr.ownsRow B 5 1 (.slice (some ⟨B, 0, none⟩) (k + j) (k + 3)) (k + j) (u8s (bs ++ [160, 161, 162].take j)) ∧ Below B w wr) (fun _ i _ => 3 - (intOf i).toNat)
        case atStart => exact ⟨0, by omega, rfl, rfl, by simpa using hown, hbe⟩
        case round =>
          clear hown hbe HBr
          obtain ⟨j, hj, rfl, rfl, hown, hbe⟩ := hrel
          have HBr : Hid (B ≤ wr.heap.size) := by have := hbe.size; rw [HB.out]; exact this
          by_cases hj3 : j < 3
          · have hm : (160 + (j : Int)) % 256 = 160 + (j : Int) := by omega
            go_wp2_with (first | (at_builtin; refine wpList_append_fits _ rfl _ _ 75 rfl B 5 i0 1 Tryd.underlying75 hi hz1 B (k + j) (k + 3) _ rfl (hown.alloc _) ⟨wr.heap.size, 0, none⟩ 1 1 [.int .u8 (160 + (j : Int))] rfl rfl ?_ ?_ ?_ ?_) | fail)
            · exact cell_one_new _ _ _
            · intro u hu; simp at hu; subst hu; rfl
            · omega
            · intro w2 hown' hgrow
              have hbe' : Below B w w2 := (hbe.alloc HBr.out _).grown hgrow (by have := HBr.out; simp; omega) (fun j hj => by cases hj; omega)
              have he : u8s (bs ++ [160, 161, 162].take j) ++ [.int .u8 (160 + (j : Int))] = u8s (bs ++ [160, 161, 162].take (j + 1)) := by
                rw [u8s_append, u8s_append, List.append_assoc]
                congr 1
                rcases (show j = 0 ∨ j = 1 ∨ j = 2 by omega) with rfl | rfl | rfl <;> rfl
              rw [he] at hown'
              clear hgrow hown hm he
              go_wp2
              go_roundw
              case rel => exact ⟨j + 1, by omega, by go_num, by congr 1, hown', hbe'⟩
              case measure => simp [intOf]; omega
          · have hj' : j = 3 := by omega
            subst hj'
            go_wp2
            go_ret
            refine ⟨rfl, ⟨?_, ?_⟩, hbe⟩
            · simpa [← HN.out] using hown
            · intro x hx
              rcases List.mem_append.1 hx with hx | hx
              · exact hbytes x hx
              · simp at hx; omega


set_option maxRecDepth 100000 in
/-- A copy of bytes. -/
theorem copyB_any {w : World} {v : Value} {bs : List Nat} (h : V w v bs) (hl : bs.length ≤ 140737488351232) :
    Calls Tryd.prog 36 #[v] w fun e w' => ∃ u, e = .returned u ∧ Own w' w.heap.size u bs ∧ Below w.heap.size w w' := by
  obtain ⟨ao, cap, rfl, hf, hbytes⟩ := h.form
  obtain ⟨n, hn⟩ : ∃ n, n = bs.length := ⟨_, rfl⟩
  rw [← hn] at hl
  rw [← hn]
  have HN : Hid (n = bs.length) := hn
  have HF : Hid (0 < n → ∃ b off, ao = some ⟨b, off, none⟩ ∧ At w b off bs) := by rw [hn]; exact hf
  clear hn hf h
  obtain ⟨i0, hi, hz0, hz1, hz2⟩ := info_parts Tryd.info5
  obtain ⟨B, hB⟩ : ∃ B, w.heap.size = B := ⟨_, rfl⟩
  rw [hB]
  have HB : Hid (B = w.heap.size) := hB.symm
  go_enter Tryd.func36, Tryd.ntmps36
  go_wp2
  go_loopw [3, 4] (fun v i wr => ∃ k : Nat, k ≤ n ∧ i = .int .i64 k ∧ wr.ownsRow B 5 1 v k (u8s (bs.take k)) ∧ Below B w wr) (fun _ i _ => n - (intOf i).toNat)
  case atStart => exact ⟨0, Nat.zero_le _, rfl, by simpa [u8s] using World.ownsRow_nil w B 5 1, Below.refl _ _⟩
  case round =>
    obtain ⟨k, hk, rfl, hown, hbe⟩ := hrel
    have HBr : Hid (B ≤ wr.heap.size) := by have := hbe.size; rw [HB.out]; exact this
    by_cases hkn : k < n
    · obtain ⟨b, off, rfl, hb⟩ := HF.out (by omega)
      have hkl : k < bs.length := by rw [← HN.out]; exact hkn
      obtain ⟨y, HY, hcy⟩ : ∃ y, Hid (y = bs.getD k 0) ∧ wr.cell? ⟨b, off + k, none⟩ = some (.int .u8 (y : Int)) := ⟨_, rfl, (hbe.cell (p := ⟨b, off + k, none⟩) (by rw [HB.out]; exact World.block_lt_of_cell? w _ (hb.1 k hkl))).trans (hb.1 k hkl)⟩
      clear hkl
      go_wp2_with (first | (at_builtin; refine wpList_append_own _ rfl (.tmp 11) (.tmp 16) 75 rfl B 5 i0 _ 1 1 Tryd.underlying75 hi hz0 hz1 hz2 rfl (by decide) u3 k (u8s (bs.take k)) rfl (hown.alloc _) ⟨wr.heap.size, 0, none⟩ 1 1 [.int .u8 (y : Int)] rfl rfl ?_ ?_ ?_ ?_ ?_ ?_) | fail)
      · exact cell_one_new _ _ _
      · intro u hu; simp at hu; subst hu; rfl
      · unfold maxLen; omega
      · omega
      · have := HBr.out; simp; omega
      · intro v' w2 hown' hgrow _
        have hbe' : Below B w w2 := (hbe.alloc HBr.out _).grown hgrow (by have := HBr.out; simp; omega) (fun j hj => (hown.lt j hj).1)
        rw [HY.out, u8s_take_succ (by rw [← HN.out]; exact hkn)] at hown'
        clear hgrow hown hcy
        go_wp2
        go_roundw
        case rel => exact ⟨k + 1, by omega, by go_num, hown', hbe'⟩
        case measure => simp [intOf]; omega
    · have hkn' : k = n := by omega
      subst hkn'
      rw [HN.out, List.take_length] at hown
      go_wp2
      go_ret
      exact ⟨_, rfl, ⟨hown, hbytes⟩, hbe⟩
end Go.Proofs.YtiieikdbhpflgabDoor

/-
  DERIVED. Which event a PDU is.
-/
namespace Go.Proofs.YtiieikdbhpflgabDoor
open Go Go.Proofs Go.RowKit

/-- The cells of a PDU behind its kind. -/
def Pd (k : Int) (c : Fin 18 → Value) : Array Value := #[.int .i64 k, c 0, c 1, c 2, c 3, c 4, c 5, c 6, c 7, c 8, c 9, c 10, c 11, c 12, c 13, c 14, c 15, c 16, c 17]

end Go.Proofs.YtiieikdbhpflgabDoor

/-
  DERIVED. A PDU that can be read; what stands between two steps of its copy.
-/
namespace Go.Proofs.YtiieikdbhpflgabDoor
open Go Go.Proofs Go.RowKit

theorem owns_next {w w' : World} {B s n : Nat} {e : TypeId} {v : Value} {xs : List Value} (h : w.ownsRow B e s v n xs) (hb : Below w.heap.size w w') : w'.ownsRow B e s v n xs := by
  refine ⟨h.1, ?_⟩
  rcases h.2 with h2 | ⟨g, cap, cur, rfl, h1, h2, h3⟩
  · exact .inl h2
  · exact .inr ⟨g, cap, cur, rfl, h1, by rw [hb.block g (Array.getElem?_eq_some_iff.1 h2).1]; exact h2, h3⟩
theorem cell_al {w : World} {a : Addr} {v : Value} {o : Obj} (h : w.cell? a = some v) : (w.alloc o).cell? a = some v := (((Below.refl w.heap.size w).alloc (Nat.le_refl _) o).cell (cell_lt h)).trans h
theorem V.same {w w' : World} {v : Value} {bs : List Nat} (h : V w v bs) (hb : ∀ b, v.ownBlock = some b → w'.heap[b]? = w.heap[b]?) : V w' v bs := by
  rcases h with h | ⟨b, off, cap, rfl, hp, hc, h⟩
  · exact .inl h
  · refine .inr ⟨b, off, cap, rfl, hp, hc, fun k hk => ?_, h.2⟩
    have he := h.1 k hk
    unfold World.cell? at he ⊢
    rw [hb b rfl]
    exact he
theorem Own.v {w : World} {B : Nat} {u : Value} {bs : List Nat} (h : Own w B u bs) : V w u bs ∧ ∀ b, u.ownBlock = some b → B ≤ b ∧ b < w.heap.size := by
  refine ⟨?_, fun b hb => h.1.lt b hb⟩
  rcases h.1.2 with ⟨rfl, h0⟩ | ⟨g, cap, cur, rfl, h1, h2, h3, h4, h5, h6⟩
  · exact .inl ⟨none, 0, rfl, List.eq_nil_of_length_eq_zero h0⟩
  · by_cases hz : bs.length = 0
    · exact .inl ⟨some ⟨g, 0, none⟩, cap, by rw [hz], List.eq_nil_of_length_eq_zero hz⟩
    · refine .inr ⟨g, 0, cap, rfl, by omega, h3, fun k hk => ?_, h.2⟩
      rw [Nat.zero_add]
      exact (h.1.cellAt k (by simpa using hk)).trans (u8s_get bs k hk)
theorem owns_same {w w' : World} {B s n : Nat} {e : TypeId} {v : Value} {xs : List Value} (h : w.ownsRow B e s v n xs) (hb : ∀ b, v.ownBlock = some b → w'.heap[b]? = w.heap[b]?) : w'.ownsRow B e s v n xs := by
  refine ⟨h.1, ?_⟩
  rcases h.2 with h2 | ⟨g, cap, cur, rfl, h1, h2, h3⟩
  · exact .inl h2
  · exact .inr ⟨g, cap, cur, rfl, h1, by rw [hb g rfl]; exact h2, h3⟩
theorem owns_one {w : World} {B s n : Nat} {e : TypeId} {v : Value} {xs : List Value} (h : w.ownsRow B e s v n xs) : v.oneCell' = true := by
  rcases h.2 with ⟨rfl, _⟩ | ⟨g, cap, cur, rfl, _⟩ <;> rfl
theorem owns_slice {w : World} {B s n : Nat} {e : TypeId} {v : Value} {xs : List Value} (h : w.ownsRow B e s v n xs) : ∃ a p, v = .slice a n p := by
  rcases h.2 with ⟨rfl, rfl⟩ | ⟨g, cap, cur, rfl, _⟩
  · exact ⟨_, _, rfl⟩
  · exact ⟨_, _, rfl⟩
theorem cell_four {w : World} {x0 x1 x2 x3 : Value} {t : TypeId} : ∀ j u, [x0, x1, x2, x3][j]? = some u → (w.alloc (.cells #[x0, x1, x2, x3] t)).cell? ((⟨w.heap.size, 0, none⟩ : Addr).add j) = some u := by
  intro j u hj
  match j, hj with
  | 0, hj => simp at hj; subst hj; simp [Addr.add]
  | 1, hj => simp at hj; subst hj; simp [Addr.add]
  | 2, hj => simp at hj; subst hj; simp [Addr.add]
  | 3, hj => simp at hj; subst hj; simp [Addr.add]
  | n + 4, hj => simp at hj
theorem cell_two {w : World} {x0 x1 : Value} {t : TypeId} : ∀ j u, [x0, x1][j]? = some u → (w.alloc (.cells #[x0, x1] t)).cell? ((⟨w.heap.size, 0, none⟩ : Addr).add j) = some u := by
  intro j u hj
  match j, hj with
  | 0, hj => simp at hj; subst hj; simp [Addr.add]
  | 1, hj => simp at hj; subst hj; simp [Addr.add]
  | n + 2, hj => simp at hj
theorem cell_three {w : World} {x0 x1 x2 : Value} {t : TypeId} : ∀ j u, [x0, x1, x2][j]? = some u → (w.alloc (.cells #[x0, x1, x2] t)).cell? ((⟨w.heap.size, 0, none⟩ : Addr).add j) = some u := by
  intro j u hj
  match j, hj with
  | 0, hj => simp at hj; subst hj; simp [Addr.add]
  | 1, hj => simp at hj; subst hj; simp [Addr.add]
  | 2, hj => simp at hj; subst hj; simp [Addr.add]
  | n + 3, hj => simp at hj

/-- A slice of n elements of 'st' cells each, every one of which is as E says. -/
def RdL (w : World) (v : Value) (n st : Nat) (E : World → Nat → Nat → Prop) : Prop :=
  ∃ ao cap, v = .slice ao n cap ∧ (0 < n → ∃ b off, ao = some ⟨b, off, none⟩ ∧ ∀ k, k < n → E w b (off + k * st))

/-- An element that stays as it is as long as what was there stays. -/
def Stays (E : World → Nat → Nat → Prop) : Prop := ∀ w w' b o, E w b o → Below w.heap.size w w' → E w' b o

theorem RdL.on {w w' : World} {v : Value} {n st : Nat} {E : World → Nat → Nat → Prop} (h : RdL w v n st E) (hE : Stays E) (hb : Below w.heap.size w w') : RdL w' v n st E := by
  obtain ⟨ao, cap, rfl, hf⟩ := h
  refine ⟨ao, cap, rfl, fun hn => ?_⟩
  obtain ⟨b, off, rfl, hE'⟩ := hf hn
  exact ⟨b, off, rfl, fun k hk => hE _ _ _ _ (hE' k hk) hb⟩

def EStr (w : World) (b o : Nat) : Prop := ∃ s, w.cell? ⟨b, o, none⟩ = some (.string s)
theorem EStr.stays : Stays EStr := fun _ _ _ _ ⟨s, h⟩ hb => ⟨s, (hb.cell (cell_lt h)).trans h⟩

/-- The longest that a slice that is read can be, by the bytes of an element. -/
def Fits (n bytes : Nat) : Prop := n * bytes ≤ 140737488351232

def ECtx (w : World) (b o : Nat) : Prop := ∃ x y s v m, w.cell? ⟨b, o, none⟩ = some (.int .u8 x) ∧ w.cell? ⟨b, o + 1, none⟩ = some (.int .u8 y) ∧ w.cell? ⟨b, o + 2, none⟩ = some (.string s) ∧ w.cell? ⟨b, o + 3, none⟩ = some v ∧ RdL w v m 1 EStr ∧ Fits m 16
theorem ECtx.stays : Stays ECtx := fun _ _ _ _ ⟨x, y, s, v, m, h0, h1, h2, h3, h4, h5⟩ hb => ⟨x, y, s, v, m, (hb.cell (cell_lt h0)).trans h0, (hb.cell (cell_lt h1)).trans h1, (hb.cell (cell_lt h2)).trans h2, (hb.cell (cell_lt h3)).trans h3, h4.on EStr.stays hb, h5⟩

def ERole (w : World) (b o : Nat) : Prop := ∃ s x y, w.cell? ⟨b, o, none⟩ = some (.string s) ∧ w.cell? ⟨b, o + 1, none⟩ = some (.int .u8 x) ∧ w.cell? ⟨b, o + 2, none⟩ = some (.int .u8 y)
theorem ERole.stays : Stays ERole := fun _ _ _ _ ⟨s, x, y, h0, h1, h2⟩ hb => ⟨s, x, y, (hb.cell (cell_lt h0)).trans h0, (hb.cell (cell_lt h1)).trans h1, (hb.cell (cell_lt h2)).trans h2⟩

def EOth (w : World) (b o : Nat) : Prop := ∃ x v bs, w.cell? ⟨b, o, none⟩ = some (.int .u8 x) ∧ w.cell? ⟨b, o + 1, none⟩ = some v ∧ V w v bs ∧ bs.length ≤ 140737488351232
theorem EOth.stays : Stays EOth := fun _ _ _ _ ⟨x, v, bs, h0, h1, h2, h3⟩ hb => ⟨x, v, bs, (hb.cell (cell_lt h0)).trans h0, (hb.cell (cell_lt h1)).trans h1, h2.next hb, h3⟩

def EPdv (w : World) (b o : Nat) : Prop := ∃ x y z v bs, w.cell? ⟨b, o, none⟩ = some (.int .u8 x) ∧ w.cell? ⟨b, o + 1, none⟩ = some (.bool y) ∧ w.cell? ⟨b, o + 2, none⟩ = some (.bool z) ∧ w.cell? ⟨b, o + 3, none⟩ = some v ∧ V w v bs ∧ bs.length ≤ 140737488351232
theorem EPdv.stays : Stays EPdv := fun _ _ _ _ ⟨x, y, z, v, bs, h0, h1, h2, h3, h4, h5⟩ hb => ⟨x, y, z, v, bs, (hb.cell (cell_lt h0)).trans h0, (hb.cell (cell_lt h1)).trans h1, (hb.cell (cell_lt h2)).trans h2, (hb.cell (cell_lt h3)).trans h3, h4.next hb, h5⟩

/-- The lists of a PDU can be read. -/
structure RP (w : World) (c : Fin 18 → Value) : Prop where
  one : ∀ i, (c i).oneCell' = true
  ctx : ∃ n, RdL w (c 4) n 4 ECtx ∧ Fits n 48
  role : ∃ n, RdL w (c 12) n 3 ERole ∧ Fits n 24
  oth : ∃ n, RdL w (c 13) n 2 EOth ∧ Fits n 32
  val : ∃ n, RdL w (c 17) n 4 EPdv ∧ Fits n 32
theorem RP.on {w w' : World} {c : Fin 18 → Value} (h : RP w c) (hb : Below w.heap.size w w') : RP w' c :=
  ⟨h.one, h.ctx.imp fun _ x => ⟨x.1.on ECtx.stays hb, x.2⟩, h.role.imp fun _ x => ⟨x.1.on ERole.stays hb, x.2⟩, h.oth.imp fun _ x => ⟨x.1.on EOth.stays hb, x.2⟩, h.val.imp fun _ x => ⟨x.1.on EPdv.stays hb, x.2⟩⟩

def up (c : Fin 18 → Value) (i : Fin 18) (v : Value) : Fin 18 → Value := fun j => if j = i then v else c j
theorem pd_size (k : Int) (c : Fin 18 → Value) : (Pd k c).size = 19 := rfl
theorem pd_get (k : Int) (c : Fin 18 → Value) (i : Fin 18) : (Pd k c)[i.val + 1]? = some (c i) := by
  match i with
  | ⟨0, _⟩ => rfl | ⟨1, _⟩ => rfl | ⟨2, _⟩ => rfl | ⟨3, _⟩ => rfl | ⟨4, _⟩ => rfl | ⟨5, _⟩ => rfl | ⟨6, _⟩ => rfl | ⟨7, _⟩ => rfl | ⟨8, _⟩ => rfl | ⟨9, _⟩ => rfl | ⟨10, _⟩ => rfl | ⟨11, _⟩ => rfl | ⟨12, _⟩ => rfl | ⟨13, _⟩ => rfl | ⟨14, _⟩ => rfl | ⟨15, _⟩ => rfl | ⟨16, _⟩ => rfl | ⟨17, _⟩ => rfl
  | ⟨n + 18, h⟩ => exact absurd h (by omega)
theorem pd_one (k : Int) (c : Fin 18 → Value) (h : ∀ i, (c i).oneCell' = true) : (Pd k c).all (·.oneCell') = true := by
  have h0 : (Value.int .i64 k).oneCell' = true := rfl
  simp [Pd, h, h0]
theorem pd_up4 (k : Int) (c : Fin 18 → Value) (v : Value) : (Pd k c).setIfInBounds 5 v = Pd k (up c 4 v) := rfl
theorem pd_up12 (k : Int) (c : Fin 18 → Value) (v : Value) : (Pd k c).setIfInBounds 13 v = Pd k (up c 12 v) := rfl
theorem pd_up13 (k : Int) (c : Fin 18 → Value) (v : Value) : (Pd k c).setIfInBounds 14 v = Pd k (up c 13 v) := rfl
theorem pd_up17 (k : Int) (c : Fin 18 → Value) (v : Value) : (Pd k c).setIfInBounds 18 v = Pd k (up c 17 v) := rfl

/-- What stands between two steps of the copy: the PDU that came, where the answer goes, the copy so far. -/
structure CI (w : World) (k : Int) (c c' : Fin 18 → Value) (z : Array Value) (W : World) : Prop where
  below : Below w.heap.size w W
  p : W.heap[w.heap.size]? = some (.cells (Pd k c) 46)
  r : W.heap[w.heap.size + 1]? = some (.cells z 46)
  q : W.heap[w.heap.size + 1 + 1]? = some (.cells (Pd k c') 46)

/-- The rows of values that were copied so far: each with bytes of its own, in a block that is not the rows'. -/
def GV (base : Nat) (W : World) (rv : Value) (j : Nat) (xs : List Value) : Prop :=
  ∀ i, i < j → ∃ x y z v bs, xs[i * 4]? = some (.int .u8 x) ∧ xs[i * 4 + 1]? = some (.bool y) ∧ xs[i * 4 + 2]? = some (.bool z) ∧ xs[i * 4 + 3]? = some v ∧ V W v bs ∧ bs.length ≤ 140737488351232 ∧ ∀ b, v.ownBlock = some b → base ≤ b ∧ b < W.heap.size ∧ rv.ownBlock ≠ some b
theorem GV.move {base : Nat} {W W' : World} {rv rv' : Value} {j : Nat} {xs : List Value} (h : GV base W rv j xs) (hs : W.heap.size ≤ W'.heap.size) (hk : ∀ b, base ≤ b → b < W.heap.size → rv.ownBlock ≠ some b → W'.heap[b]? = W.heap[b]? ∧ rv'.ownBlock ≠ some b) : GV base W' rv' j xs := by
  intro i hi
  obtain ⟨x, y, z, v, bs, h0, h1, h2, h3, hV, hl, hb⟩ := h i hi
  exact ⟨x, y, z, v, bs, h0, h1, h2, h3, hV.same (fun b e => (hk b (hb b e).1 (hb b e).2.1 (hb b e).2.2).1), hl, fun b e => ⟨(hb b e).1, Nat.lt_of_lt_of_le (hb b e).2.1 hs, (hk b (hb b e).1 (hb b e).2.1 (hb b e).2.2).2⟩⟩
theorem GV.low {base base' : Nat} {W : World} {rv : Value} {j : Nat} {xs : List Value} (h : GV base W rv j xs) (hb : base' ≤ base) : GV base' W rv j xs := by
  intro i hi
  obtain ⟨x, y, z, v, bs, h0, h1, h2, h3, hV, hl, ho⟩ := h i hi
  exact ⟨x, y, z, v, bs, h0, h1, h2, h3, hV, hl, fun b e => ⟨Nat.le_trans hb (ho b e).1, (ho b e).2⟩⟩
theorem own_low {w : World} {B B' : Nat} {e : TypeId} {sz : Nat} {v : Value} {n : Nat} {xs : List Value} (h : w.ownsRow B e sz v n xs) (hb : B' ≤ B) : w.ownsRow B' e sz v n xs := by
  refine ⟨h.1, ?_⟩
  rcases h.2 with h2 | ⟨g, cap, cur, rfl, h1, h3⟩
  · exact .inl h2
  · exact .inr ⟨g, cap, cur, rfl, Nat.le_trans hb h1, h3⟩
theorem GV.push {base : Nat} {W : World} {rv : Value} {j : Nat} {xs : List Value} (h : GV base W rv j xs) (hl : xs.length = j * 4) {x : Int} {y z : Bool} {v : Value} {bs : List Nat} (hV : V W v bs) (hb : bs.length ≤ 140737488351232) (ho : ∀ b, v.ownBlock = some b → base ≤ b ∧ b < W.heap.size ∧ rv.ownBlock ≠ some b) : GV base W rv (j + 1) (xs ++ [.int .u8 x, .bool y, .bool z, v]) := by
  intro i hi
  by_cases hij : i < j
  · obtain ⟨x', y', z', v', bs', h0, h1, h2, h3, r⟩ := h i hij
    exact ⟨x', y', z', v', bs', by rw [List.getElem?_append_left (by omega)]; exact h0, by rw [List.getElem?_append_left (by omega)]; exact h1, by rw [List.getElem?_append_left (by omega)]; exact h2, by rw [List.getElem?_append_left (by omega)]; exact h3, r⟩
  · obtain rfl : i = j := by omega
    exact ⟨x, y, z, v, bs, by rw [List.getElem?_append_right (by omega)]; simp [hl], by rw [List.getElem?_append_right (by omega), show i * 4 + 1 - xs.length = 1 by omega]; rfl, by rw [List.getElem?_append_right (by omega), show i * 4 + 2 - xs.length = 2 by omega]; rfl, by rw [List.getElem?_append_right (by omega), show i * 4 + 3 - xs.length = 3 by omega]; rfl, hV, hb, ho⟩
/-- What is asked of a copy: its values can be read. -/
structure RV (B : Nat) (w : World) (c : Fin 18 → Value) : Prop where
  one : ∀ i, (c i).oneCell' = true
  val : ∃ n xs, w.ownsRow B 78 4 (c 17) n xs ∧ GV B w (c 17) n xs ∧ Fits n 32
/-- What was copied can be read. -/
theorem GV.rd {base : Nat} {W : World} {rv : Value} {j : Nat} {xs : List Value} {e : TypeId} (h : GV base W rv j xs) (ho : W.ownsRow base e 4 rv j xs) : RdL W rv j 4 EPdv := by
  rcases ho.2 with ⟨rfl, rfl⟩ | ⟨g, cap, cur, rfl, _⟩
  · exact ⟨none, 0, rfl, fun h => by omega⟩
  · refine ⟨_, cap, rfl, fun _ => ⟨g, 0, rfl, fun i hi => ?_⟩⟩
    obtain ⟨x, y, z, v, bs, h0, h1, h2, h3, hV, hl, _⟩ := h i hi
    rw [Nat.zero_add]
    exact ⟨x, y, z, v, bs, (ho.cellAt _ (by omega)).trans h0, (ho.cellAt _ (by omega)).trans h1, (ho.cellAt _ (by omega)).trans h2, (ho.cellAt _ (by omega)).trans h3, hV, hl⟩

variable {w W W' : World} {k : Int} {c c' : Fin 18 → Value} {z : Array Value}
theorem CI.size (h : CI w k c c' z W) : w.heap.size + 3 ≤ W.heap.size := (Array.getElem?_eq_some_iff.1 h.q).1
theorem CI.cellp (h : CI w k c c' z W) (i : Fin 18) : W.cell? ⟨w.heap.size, i.val + 1, none⟩ = some (c i) := by rw [cell_of_row W _ _ _ _ _ h.p]; exact pd_get k c i
theorem CI.cellq (h : CI w k c c' z W) (i : Fin 18) : W.cell? ⟨w.heap.size + 1 + 1, i.val + 1, none⟩ = some (c' i) := by rw [cell_of_row W _ _ _ _ _ h.q]; exact pd_get k c' i
theorem CI.froz (h : CI w k c c' z W) (i : Nat) : W.frozen? ⟨w.heap.size + 1 + 1, i, none⟩ = false := by simp [World.frozen?, h.q]
theorem CI.on (h : CI w k c c' z W) (hb : Below (w.heap.size + 3) W W') : CI w k c c' z W' :=
  ⟨h.below.trans (hb.mono (by omega)), (hb.block _ (by omega)).trans h.p, (hb.block _ (by omega)).trans h.r, (hb.block _ (by omega)).trans h.q⟩
theorem CI.set (h : CI w k c c' z W) (i : Nat) (v : Value) (c2 : Fin 18 → Value) (hc : (Pd k c').setIfInBounds i v = Pd k c2) : CI w k c c2 z (W.setCell ⟨w.heap.size + 1 + 1, i, none⟩ v) := by
  rw [setCell_eq_setRow W _ _ _ _ _ v h.q, hc]
  have ho : ∀ j, j ≠ w.heap.size + 1 + 1 → (W.setRow (w.heap.size + 1 + 1) (Pd k c2)).heap[j]? = W.heap[j]? := fun j hj => by
    unfold World.setRow
    show (W.heap.modify _ _)[j]? = _
    rw [Array.getElem?_modify, if_neg (Ne.symm hj)]
  exact ⟨below_setRow h.below (by omega) _, (ho _ (by omega)).trans h.p, (ho _ (by omega)).trans h.r, setRow_heap W _ _ _ _ _ h.q⟩
end Go.Proofs.YtiieikdbhpflgabDoor
