import Derived.Test.YtoikdpjjcnmgeaaGreatDoorWA
import Derived.Test.YtoikdpjjcnmgeaaGreatDoorBp
import Derived.BigQuiet
import Derived.WideMake
import Derived.Room.AppendFits
import Derived.Test.YtoikdpjjcnmgeaaGreatDoorVj
import Derived.Deep.LoopGhost
section
/-
  DERIVED. Bytes that are lent, and what is left of them.
-/
namespace Go.Proofs.YtoikdpjjcnmgeaaGreatDoor.Le
open Go Go.Proofs Go.RowKit

/-- Bytes that lie there. -/
def At (w : World) (b off : Nat) (bs : List Nat) : Prop := (∀ k, k < bs.length → w.cell? ⟨b, off + k, none⟩ = some (.int .u8 (bs.getD k 0 : Nat))) ∧ (∀ x ∈ bs, x < 256)
/-- A slice value, read: these bytes. -/
def V (w : World) (v : Value) (bs : List Nat) : Prop :=
  (∃ ao cap, v = .slice ao 0 cap ∧ bs = []) ∨ (∃ b off cap, v = .slice (some ⟨b, off, none⟩) bs.length cap ∧ 0 < bs.length ∧ bs.length ≤ cap ∧ At w b off bs)


theorem info5s : (Tryz.prog.info? 5).map (fun i => (i.zero, i.size, i.bytes)) = some (some (.int .u8 0), 1, 1) := by kernel_rfl

def u8s (bs : List Nat) : List Value := bs.map fun (b : Nat) => Value.int .u8 (b : Int)

/-- Bytes in memory of our own, from block B on. -/
def Own (w : World) (B : Nat) (v : Value) (bs : List Nat) : Prop := w.ownsRow B 5 1 v bs.length (u8s bs) ∧ ∀ x ∈ bs, x < 256

theorem At.next {w w' : World} {b off : Nat} {bs : List Nat} (h : At w b off bs) (hb : Below w.heap.size w w') : At w' b off bs :=
  ⟨fun k hk => (hb.cell (World.block_lt_of_cell? w ⟨b, off + k, none⟩ (h.1 k hk))).trans (h.1 k hk), h.2⟩

theorem V.next {w w' : World} {v : Value} {bs : List Nat} (h : V w v bs) (hb : Below w.heap.size w w') : V w' v bs := by
  rcases h with h | ⟨b, off, cap, rfl, hp, hc, h⟩
  · exact .inl h
  · exact .inr ⟨b, off, cap, rfl, hp, hc, h.next hb⟩

theorem u8s_length (bs : List Nat) : (u8s bs).length = bs.length := by simp [u8s]

theorem u8s_get (bs : List Nat) (k : Nat) (hk : k < bs.length) : (u8s bs)[k]? = some (.int .u8 (bs.getD k 0 : Nat)) := by
  simp [u8s, List.getElem?_eq_getElem hk]

theorem u8s_take_succ {bs : List Nat} {k : Nat} (hk : k < bs.length) : u8s (bs.take k) ++ [.int .u8 (bs.getD k 0 : Nat)] = u8s (bs.take (k + 1)) := by
  rw [List.take_add_one, List.getElem?_eq_getElem hk]
  unfold u8s
  rw [List.map_append, List.getD_eq_getElem?_getD, List.getElem?_eq_getElem hk]
  rfl

theorem u8s_append (a b : List Nat) : u8s (a ++ b) = u8s a ++ u8s b := by simp [u8s]

theorem V.form {w : World} {v : Value} {bs : List Nat} (h : V w v bs) : ∃ ao cap, v = .slice ao bs.length cap ∧ (0 < bs.length → ∃ b off, ao = some ⟨b, off, none⟩ ∧ At w b off bs) ∧ ∀ x ∈ bs, x < 256 := by
  rcases h with ⟨a1, c1, rfl, rfl⟩ | ⟨b1, o1, c1, rfl, hp1, _, h1⟩
  · exact ⟨_, _, rfl, by simp, by simp⟩
  · exact ⟨_, _, rfl, fun _ => ⟨_, _, rfl, h1⟩, h1.2⟩

set_option maxRecDepth 100000 in
/-- Lend. -/
theorem lend_any {w : World} {v : Value} {bs : List Nat} (h : V w v bs) (hl : bs.length ≤ 140737488351232) :
    Calls Tryz.prog 9 #[v] w fun e w' => e = .returned (.slice (some ⟨w.heap.size, 0, none⟩) bs.length (bs.length + 3)) ∧ Own w' w.heap.size (.slice (some ⟨w.heap.size, 0, none⟩) (bs.length + 3) (bs.length + 3)) (bs ++ [160, 161, 162]) ∧ Below w.heap.size w w' := by
  obtain ⟨ao, cap, rfl, hf, hbytes⟩ := h.form
  obtain ⟨n, hn⟩ : ∃ n, n = bs.length := ⟨_, rfl⟩
  rw [← hn] at hl
  rw [← hn]
  have HN : Hid (n = bs.length) := hn
  have HF : Hid (0 < n → ∃ b off, ao = some ⟨b, off, none⟩ ∧ At w b off bs) := by rw [hn]; exact hf
  clear hn hf h
  obtain ⟨i0, hi, hz0, hz1, hz2⟩ := info_parts info5s
  obtain ⟨B, hB⟩ : ∃ B, w.heap.size = B := ⟨_, rfl⟩
  rw [hB]
  have HB : Hid (B = w.heap.size) := hB.symm
  go_enter Tryz.func9, Tryz.ntmps9
  go_wp2_with (first | (at_make; refine wpList_make_own _ rfl _ _ 22 rfl B 5 i0 (.int .u8 0) 1 Tryz.underlying22 hi hz0 hz1 .i64 .i64 _ (n + 3) rfl rfl ?_ ?_ ?_ ?_ ?_) | fail)
  · omega
  · rw [hz2]; omega
  · unfold maxLen; omega
  · omega
  · intro w1 hown1 hgrow1
    have hbe1 : Below B w w1 := (Below.refl B w).grown hgrow1 (by omega) (by simp)
    clear hgrow1
    go_wp2
    go_loopw [3, 4] (fun v i wr => ∃ k : Nat, k ≤ n ∧ i = .int .i64 k ∧ v = .slice (some ⟨B, 0, none⟩) k (n + 3) ∧ wr.ownsRow B 5 1 (.slice (some ⟨B, 0, none⟩) k (n + 3)) k (u8s (bs.take k)) ∧ Below B w wr) (fun _ i _ => n - (intOf i).toNat)
    case atStart => exact ⟨0, Nat.zero_le _, rfl, rfl, hown1, hbe1⟩
    case round =>
      clear hown1 hbe1
      obtain ⟨k, hk, rfl, rfl, hown, hbe⟩ := hrel
      have HBr : Hid (B ≤ wr.heap.size) := by have := hbe.size; rw [HB.out]; exact this
      by_cases hkn : k < n
      · obtain ⟨b, off, rfl, hb⟩ := HF.out (by omega)
        have hkl : k < bs.length := by rw [← HN.out]; exact hkn
        obtain ⟨y, HY, hcy⟩ : ∃ y, Hid (y = bs.getD k 0) ∧ wr.cell? ⟨b, off + k, none⟩ = some (.int .u8 (y : Int)) := ⟨_, rfl, (hbe.cell (p := ⟨b, off + k, none⟩) (by rw [HB.out]; exact World.block_lt_of_cell? w _ (hb.1 k hkl))).trans (hb.1 k hkl)⟩
        clear hkl
        go_wp2_with (first | (at_builtin; refine wpList_append_fits _ rfl _ _ 22 rfl B 5 i0 1 Tryz.underlying22 hi hz1 B k (n + 3) _ rfl (hown.alloc _) ⟨wr.heap.size, 0, none⟩ 1 1 [.int .u8 (y : Int)] rfl rfl ?_ ?_ ?_ ?_) | fail)
        · exact cell_one_new _ _ _
        · intro u hu; simp at hu; subst hu; rfl
        · omega
        · intro w2 hown' hgrow
          have hbe' : Below B w w2 := (hbe.alloc HBr.out _).grown hgrow (by have := HBr.out; simp; omega) (fun j hj => by cases hj; omega)
          rw [HY.out, u8s_take_succ (by rw [← HN.out]; exact hkn)] at hown'
          clear hgrow hown hcy
          go_wp2
          go_roundw
          case rel => exact ⟨k + 1, by omega, by go_num, rfl, hown', hbe'⟩
          case measure => simp [intOf]; omega
      · have hkn' : k = n := by omega
        subst hkn'
        rw [HN.out, List.take_length, ← HN.out] at hown
        go_wp2
        go_loopw [3, 5] (fun v i wr => ∃ j : Nat, j ≤ 3 ∧ i = .int .i64 j ∧ v = .slice (some ⟨B, 0, none⟩) (k + j) (k + 3) ∧ wr.ownsRow B 5 1 (.slice (some ⟨B, 0, none⟩) (k + j) (k + 3)) (k + j) (u8s (bs ++ [160, 161, 162].take j)) ∧ Below B w wr) (fun _ i _ => 3 - (intOf i).toNat)
        case atStart => exact ⟨0, by omega, rfl, rfl, by simpa using hown, hbe⟩
        case round =>
          clear hown hbe HBr
          obtain ⟨j, hj, rfl, rfl, hown, hbe⟩ := hrel
          have HBr : Hid (B ≤ wr.heap.size) := by have := hbe.size; rw [HB.out]; exact this
          by_cases hj3 : j < 3
          · have hm : (160 + (j : Int)) % 256 = 160 + (j : Int) := by omega
            go_wp2_with (first | (at_builtin; refine wpList_append_fits _ rfl _ _ 22 rfl B 5 i0 1 Tryz.underlying22 hi hz1 B (k + j) (k + 3) _ rfl (hown.alloc _) ⟨wr.heap.size, 0, none⟩ 1 1 [.int .u8 (160 + (j : Int))] rfl rfl ?_ ?_ ?_ ?_) | fail)
            · exact cell_one_new _ _ _
            · intro u hu; simp at hu; subst hu; rfl
            · omega
            · intro w2 hown' hgrow
              have hbe' : Below B w w2 := (hbe.alloc HBr.out _).grown hgrow (by have := HBr.out; simp; omega) (fun j hj => by cases hj; omega)
              have he : u8s (bs ++ [160, 161, 162].take j) ++ [.int .u8 (160 + (j : Int))] = u8s (bs ++ [160, 161, 162].take (j + 1)) := by
                rw [u8s_append, u8s_append, List.append_assoc]
                congr 1
                rcases (show j = 0 ∨ j = 1 ∨ j = 2 by omega) with rfl | rfl | rfl <;> rfl
              rw [he] at hown'
              clear hgrow hown hm he
              go_wp2
              go_roundw
              case rel => exact ⟨j + 1, by omega, by go_num, by congr 1, hown', hbe'⟩
              case measure => simp [intOf]; omega
          · have hj' : j = 3 := by omega
            subst hj'
            go_wp2
            go_ret
            refine ⟨rfl, ⟨?_, ?_⟩, hbe⟩
            · simpa [← HN.out] using hown
            · intro x hx
              rcases List.mem_append.1 hx with hx | hx
              · exact hbytes x hx
              · simp at hx; omega

theorem bytes_other (w : World) (a1 a2 : Option Addr) (n1 n2 c1 c2 : Nat) (h : n1 ≠ n2) :
    Calls Tryz.prog 27 #[.slice a1 n1 c1, .slice a2 n2 c2] w fun e w' => e = .returned (.bool false) ∧ w = w' := by
  have h2 : ((n1 : Int) != (n2 : Int)) = true := by simp; omega
  go_enter Tryz.func27, Tryz.ntmps27
  go_wp2
  all_goals first | omega | (go_ret; exact ⟨rfl, rfl⟩)

theorem bytes_empty (w : World) (a1 a2 : Option Addr) (c1 c2 : Nat) :
    Calls Tryz.prog 27 #[.slice a1 0 c1, .slice a2 0 c2] w fun e w' => e = .returned (.bool true) ∧ w = w' := by
  go_enter Tryz.func27, Tryz.ntmps27
  go_wp2
  refine wp_loop_rounds 1 ?_
  rw [rounds_succ]
  go_wp2
  go_ret
  exact ⟨rfl, rfl⟩

theorem take_succ_eq {l1 l2 : List Nat} {k : Nat} (h1 : k < l1.length) (h2 : k < l2.length) : (l1.take (k + 1) = l2.take (k + 1)) ↔ (l1.take k = l2.take k ∧ l1.getD k 0 = l2.getD k 0) := by
  rw [List.take_add_one, List.take_add_one, List.getElem?_eq_getElem h1, List.getElem?_eq_getElem h2, List.getD_eq_getElem?_getD, List.getD_eq_getElem?_getD, List.getElem?_eq_getElem h1, List.getElem?_eq_getElem h2]
  simp only [Option.toList_some, Option.getD_some]
  constructor
  · intro h
    have := List.append_inj' h (by simp)
    simpa using this
  · rintro ⟨ha, hb⟩
    rw [ha, hb]

set_option maxRecDepth 100000 in
theorem bytes_some (w : World) (b1 o1 c1 b2 o2 c2 n : Nat) (l1 l2 : List Nat) (h1 : At w b1 o1 l1) (h2 : At w b2 o2 l2) (hn1 : n = l1.length) (hn2 : n = l2.length) (hl : n ≤ 140737488351232) :
    Calls Tryz.prog 27 #[.slice (some ⟨b1, o1, none⟩) n c1, .slice (some ⟨b2, o2, none⟩) n c2] w fun e w' => e = .returned (.bool (decide (l1 = l2))) ∧ ∃ m, w' = w.drewN m := by
  have HN1 : Hid (n = l1.length) := hn1
  have HN2 : Hid (n = l2.length) := hn2
  clear hn1 hn2
  go_enter Tryz.func27, Tryz.ntmps27
  go_wp2
  go_loopw [5] (fun i wr => ∃ k m : Nat, k ≤ n ∧ i = .int .i64 k ∧ wr = w.drewN m ∧ Hid (l1.take k = l2.take k)) (fun i _ => n - (intOf i).toNat)
  case atStart => exact ⟨0, 0, Nat.zero_le _, rfl, rfl, by simp [Hid]⟩
  case round =>
    obtain ⟨k, m, hk, rfl, rfl, HT⟩ := hrel
    by_cases hkn : k < n
    · obtain ⟨y1, HY1, hc1⟩ : ∃ y, Hid (y = l1.getD k 0) ∧ w.cell? ⟨b1, o1 + k, none⟩ = some (.int .u8 (y : Int)) := ⟨_, rfl, h1.1 k (by rw [← HN1.out]; exact hkn)⟩
      obtain ⟨y2, HY2, hc2⟩ : ∃ y, Hid (y = l2.getD k 0) ∧ w.cell? ⟨b2, o2 + k, none⟩ = some (.int .u8 (y : Int)) := ⟨_, rfl, h2.1 k (by rw [← HN2.out]; exact hkn)⟩
      have HS := take_succ_eq (l1 := l1) (l2 := l2) (k := k) (by rw [← HN1.out]; exact hkn) (by rw [← HN2.out]; exact hkn)
      rw [← HY1.out, ← HY2.out] at HS
      by_cases hy : y1 = y2
      · have HS' : Hid (l1.take (k + 1) = l2.take (k + 1)) := HS.2 ⟨HT.out, hy⟩
        subst hy
        clear HS
        go_wp2
        go_quiet (fail)
        go_wp2
        go_roundw
        case rel => exact ⟨k + 1, _, by omega, by go_num, rfl, HS'⟩
        case measure => simp [intOf]; omega
      · have HS' : Hid (decide (l1 = l2) = false) := by
          show _ = _
          simp only [decide_eq_false_iff_not]
          intro he
          exact hy (HS.1 (by rw [he])).2
        have hy' : ((y1 : Int) != (y2 : Int)) = true := by simp; omega
        clear HS
        go_wp2
        go_quiet (fail)
        go_wp2
        go_ret
        exact ⟨by rw [HS'.out]; rfl, _, World.drewN_drewN ..⟩
    · have hkn' : k = n := by omega
      subst hkn'
      have HE : Hid (decide (l1 = l2) = true) := by
        show _ = _
        have := HT.out
        rw [HN1.out, List.take_length, ← HN1.out, HN2.out, List.take_length] at this
        simp [this]
      go_wp2
      go_ret
      exact ⟨by rw [HE.out]; rfl, _, rfl⟩

/-- Bytes: held against each other. -/
theorem bytes_any {w : World} {v1 v2 : Value} {l1 l2 : List Nat} (h1 : V w v1 l1) (h2 : V w v2 l2) (hl : l1.length ≤ 140737488351232) :
    Calls Tryz.prog 27 #[v1, v2] w fun e w' => e = .returned (.bool (decide (l1 = l2))) ∧ ∃ m, w' = w.drewN m := by
  by_cases hlen : l1.length = l2.length
  · rcases h1 with ⟨a1, c1, rfl, rfl⟩ | ⟨b1, o1, c1, rfl, hp1, _, h1⟩
    · rcases h2 with ⟨a2, c2, rfl, rfl⟩ | ⟨b2, o2, c2, rfl, hp2, _, h2⟩
      · refine (bytes_empty w a1 a2 c1 c2).mono ?_; rintro e w' ⟨rfl, rfl⟩; exact ⟨by simp, 0, rfl⟩
      · simp at hlen; omega
    · rcases h2 with ⟨a2, c2, rfl, rfl⟩ | ⟨b2, o2, c2, rfl, hp2, _, h2⟩
      · exact absurd hlen (by simp; intro h; rw [h] at hp1; exact absurd hp1 (by decide))
      · rw [← hlen]
        exact bytes_some w b1 o1 c1 b2 o2 c2 _ l1 l2 h1 h2 rfl hlen hl
  · have hd : decide (l1 = l2) = false := by simp; intro h; exact hlen (by rw [h])
    rw [hd]
    rcases h1 with ⟨a1, c1, rfl, rfl⟩ | ⟨b1, o1, c1, rfl, hp1, _, h1⟩ <;> rcases h2 with ⟨a2, c2, rfl, rfl⟩ | ⟨b2, o2, c2, rfl, hp2, _, h2⟩ <;> (refine (bytes_other w _ _ _ _ _ _ hlen).mono ?_; rintro e w' ⟨rfl, rfl⟩; exact ⟨rfl, 0, rfl⟩)



theorem ownsRow_below {w w' : World} {A base : Nat} {e : TypeId} {size : Nat} {v : Value} {n : Nat} {xs : List Value} (h : w.ownsRow base e size v n xs) (hb : Below A w w') (hA : w.heap.size ≤ A) : w'.ownsRow base e size v n xs := by
  refine ⟨h.1, ?_⟩
  rcases h.2 with h2 | ⟨g, cap, cur, hv, hg, hh, r⟩
  · exact .inl h2
  · have hlt : g < w.heap.size := (Array.getElem?_eq_some_iff.1 hh).1
    exact .inr ⟨g, cap, cur, hv, hg, (hb.block g (by omega)).trans hh, r⟩

/-- What was lent, with its marks. -/
def Lent (w : World) (B g : Nat) (bs : List Nat) : Prop := Own w B (.slice (some ⟨g, 0, none⟩) (bs.length + 3) (bs.length + 3)) (bs ++ [160, 161, 162])

theorem Lent.next {w w' : World} {B g : Nat} {bs : List Nat} (h : Lent w B g bs) (hb : Below w.heap.size w w') : Lent w' B g bs := ⟨ownsRow_below h.1 hb (Nat.le_refl _), h.2⟩

theorem Lent.cell {w : World} {B g : Nat} {bs : List Nat} (h : Lent w B g bs) (k : Nat) (hk : k < bs.length + 3) : w.cell? ⟨g, k, none⟩ = some (.int .u8 ((bs ++ [160, 161, 162]).getD k 0 : Nat)) := by
  have h1 := h.1
  simp only [List.length_append, List.length_cons, List.length_nil] at h1
  have := h1.cellAt (g := g) (cap := bs.length + 3) k (by omega)
  rw [this, u8s_get _ k (by simpa using hk)]

theorem Lent.v {w : World} {B g : Nat} {bs : List Nat} (h : Lent w B g bs) {cap : Nat} (hcap : bs.length ≤ cap) : V w (.slice (some ⟨g, 0, none⟩) bs.length cap) bs := by
  by_cases hp : 0 < bs.length
  · refine .inr ⟨g, 0, cap, rfl, hp, hcap, ?_, fun x hx => h.2 x (by simp [hx])⟩
    intro k hk
    rw [Nat.zero_add, h.cell k (by omega)]
    simp [List.getD_eq_getElem?_getD, List.getElem?_append_left hk]
  · have h0 : bs = [] := List.eq_nil_of_length_eq_zero (by omega)
    subst h0
    exact .inl ⟨_, _, rfl, rfl⟩

set_option maxRecDepth 100000 in
/-- Kept: yes. -/
theorem kept_any {w : World} {v : Value} {B g : Nat} {bs : List Nat} (hx : Lent w B g bs) (h : V w v bs) (hl : bs.length ≤ 140737488351232) :
    Calls Tryz.prog 14 #[.slice (some ⟨g, 0, none⟩) bs.length (bs.length + 3), v] w fun e w' => e = .returned (.bool true) ∧ ∃ m, w' = w.drewN m := by
  have hby := bytes_any (hx.v (cap := bs.length + 3) (by omega)) h (by omega)
  rw [show decide (bs = bs) = true by simp] at hby
  obtain ⟨ao, cap, rfl, _, _⟩ := h.form
  have hc0 := hx.cell bs.length (by omega)
  have hc1 := hx.cell (bs.length + 1) (by omega)
  have hc2 := hx.cell (bs.length + 2) (by omega)
  simp [List.getD_eq_getElem?_getD] at hc0 hc1 hc2
  clear hx h
  obtain ⟨n, hn⟩ : ∃ n, bs.length = n := ⟨_, rfl⟩
  rw [hn] at hby hl hc0 hc1 hc2 ⊢
  clear hn
  go_enter Tryz.func14, Tryz.ntmps14
  go_wp2_with (go_at_call 27; refine hby.mono ?_; rintro e w' ⟨rfl, m, rfl⟩)
  refine wp_loop_rounds 4 ?_
  rw [rounds_succ]
  go_wp2
  rw [rounds_succ]
  go_wp2
  rw [rounds_succ]
  go_wp2
  rw [rounds_succ]
  go_wp2
  go_ret
  exact ⟨rfl, _, rfl⟩
end Go.Proofs.YtoikdpjjcnmgeaaGreatDoor.Le
end

section
/-
  DERIVED. Bytes are copied.
-/
namespace Go.Proofs.YtoikdpjjcnmgeaaGreatDoor.Le
open Go Go.Proofs Go.RowKit

theorem owns_next {w w' : World} {B n : Nat} {e : TypeId} {v : Value} {xs : List Value} (h : w.ownsRow B e 1 v n xs) (hb : Below w.heap.size w w') : w'.ownsRow B e 1 v n xs := by
  refine ⟨h.1, ?_⟩
  rcases h.2 with h2 | ⟨g, cap, cur, rfl, h1, h2, h3⟩
  · exact .inl h2
  · exact .inr ⟨g, cap, cur, rfl, h1, by rw [hb.block g (Array.getElem?_eq_some_iff.1 h2).1]; exact h2, h3⟩

theorem Own.next {w w' : World} {B : Nat} {v : Value} {bs : List Nat} (h : Own w B v bs) (hb : Below w.heap.size w w') : Own w' B v bs := ⟨owns_next h.1 hb, h.2⟩

theorem Own.v {w : World} {B : Nat} {v : Value} {bs : List Nat} (h : Own w B v bs) : V w v bs := by
  rcases h.1.2 with ⟨rfl, h2⟩ | ⟨g, cap, cur, rfl, h1, h2, h3⟩
  · exact .inl ⟨_, _, rfl, List.eq_nil_of_length_eq_zero h2⟩
  · by_cases hp : 0 < bs.length
    · refine .inr ⟨g, 0, cap, rfl, hp, h3.1, ?_, h.2⟩
      intro k hk
      have := h.1.cellAt (g := g) (cap := cap) k (by omega)
      rw [Nat.zero_add, this, u8s_get bs k hk]
    · have h0 : bs = [] := List.eq_nil_of_length_eq_zero (by omega)
      subst h0
      exact .inl ⟨_, _, rfl, rfl⟩

set_option maxRecDepth 100000 in
theorem copy_some (w : World) (b off cap : Nat) (bs : List Nat) (hb : At w b off bs) (hl : bs.length ≤ 140737488351232) :
    Calls Tryz.prog 16 #[.slice (some ⟨b, off, none⟩) bs.length cap] w fun e w' => ∃ v', e = .returned v' ∧ Own w' w.heap.size v' bs ∧ Below w.heap.size w w' := by
  obtain ⟨n, hn⟩ : ∃ n, n = bs.length := ⟨_, rfl⟩
  rw [← hn] at hl
  rw [← hn]
  have HN : Hid (n = bs.length) := hn
  clear hn
  obtain ⟨i0, hi, hz0, hz1, hz2⟩ := info_parts info5s
  obtain ⟨B, hB⟩ : ∃ B, B = w.heap.size := ⟨_, rfl⟩
  rw [← hB]
  have HB : Hid (B = w.heap.size) := hB
  clear hB
  go_enter Tryz.func16, Tryz.ntmps16
  go_wp2
  go_loopw [3, 4] (fun v i wr => ∃ k : Nat, k ≤ n ∧ i = .int .i64 k ∧ wr.ownsRow B 5 1 v k (u8s (bs.take k)) ∧ Below B w wr) (fun _ i _ => n - (intOf i).toNat)
  case atStart => exact ⟨0, Nat.zero_le _, rfl, World.ownsRow_nil _ _ _ _, Below.refl _ _⟩
  case round =>
    obtain ⟨k, hk, rfl, hown, hbe⟩ := hrel
    have HBr : Hid (B ≤ wr.heap.size) := by have := hbe.size; rw [HB.out]; exact this
    by_cases hkn : k < n
    · have hkl : k < bs.length := by rw [← HN.out]; exact hkn
      obtain ⟨y, HY, hcy⟩ : ∃ y, Hid (y = bs.getD k 0) ∧ wr.cell? ⟨b, off + k, none⟩ = some (.int .u8 (y : Int)) := ⟨_, rfl, (hbe.cell (p := ⟨b, off + k, none⟩) (by rw [HB.out]; exact World.block_lt_of_cell? w _ (hb.1 k hkl))).trans (hb.1 k hkl)⟩
      clear hkl
      go_wp2_with (first | (at_builtin; refine wpList_append_own _ rfl _ _ 22 rfl B 5 i0 (.int .u8 0) 1 1 Tryz.underlying22 hi hz0 hz1 hz2 rfl (by decide) _ _ _ rfl (hown.alloc _) ⟨wr.heap.size, 0, none⟩ 1 1 [.int .u8 (y : Int)] rfl rfl ?_ ?_ ?_ ?_ ?_ ?_) | fail)
      · exact cell_one_new _ _ _
      · intro u hu; simp at hu; subst hu; rfl
      · unfold maxLen; omega
      · omega
      · have := HBr.out; simp; omega
      · intro v' w1 hown' hgrow _
        have hbe' : Below B w w1 := (hbe.alloc HBr.out _).grown hgrow (by have := HBr.out; simp; omega) (fun j hj => (hown.lt j hj).1)
        rw [HY.out, u8s_take_succ (by rw [← HN.out]; exact hkn)] at hown'
        clear hgrow hown hcy
        go_wp2
        go_roundw
        case rel => exact ⟨k + 1, by omega, by go_num, hown', hbe'⟩
        case measure => simp [intOf]; omega
    · have hkn' : k = n := by omega
      subst hkn'
      go_wp2
      go_ret
      refine ⟨_, rfl, ⟨?_, hb.2⟩, hbe⟩
      rw [HN.out, List.take_length] at hown
      exact hown

theorem copy_empty (w : World) (ao : Option Addr) (cap : Nat) :
    Calls Tryz.prog 16 #[.slice ao 0 cap] w fun e w' => e = .returned (.slice none 0 0) ∧ w = w' := by
  go_enter Tryz.func16, Tryz.ntmps16
  go_wp2
  refine wp_loop_rounds 1 ?_
  rw [rounds_succ]
  go_wp2
  go_ret
  exact ⟨rfl, rfl⟩

/-- CopyBytes. -/
theorem copy_any {w : World} {v : Value} {bs : List Nat} (h : V w v bs) (hl : bs.length ≤ 140737488351232) :
    Calls Tryz.prog 16 #[v] w fun e w' => ∃ v', e = .returned v' ∧ Own w' w.heap.size v' bs ∧ Below w.heap.size w w' := by
  rcases h with ⟨a1, c1, rfl, rfl⟩ | ⟨b1, o1, c1, rfl, hp1, _, h1⟩
  · refine (copy_empty w a1 c1).mono ?_
    rintro e w' ⟨rfl, rfl⟩
    exact ⟨_, rfl, ⟨World.ownsRow_nil _ _ _ _, by simp⟩, Below.refl _ _⟩
  · exact copy_some w b1 o1 c1 bs h1 hl
end Go.Proofs.YtoikdpjjcnmgeaaGreatDoor.Le
end

section
/-
  DERIVED. Rows of nodes that share nothing: an append that leaves what it was called with as it was; rows written over.
-/
namespace Go.Proofs.YtoikdpjjcnmgeaaGreatDoor.Wk
open Go Go.Proofs Go.RowKit

def nd (t v n : Int) (s : ByteArray) : List Value := [.int .u32 t, .int .i64 v, .int .i64 n, .string s]
theorem nd_one (t v n : Int) (s : ByteArray) : ∀ u ∈ nd t v n s, u.oneCell' = true := by
  intro u hu
  simp [nd] at hu
  rcases hu with rfl | rfl | rfl | rfl <;> rfl

/-- One node appended to nodes of our own: where it lies then, and that all else is as it was. -/
theorem keeps24 {w : World} {ops : Array Oper} {rest : List Oper} {o : Oper} {a : Act} {Q : Exit → Act → World → Prop} (hgd : o.guard = none) (s x : Operand)
    (ho : o.op = .call { callee := .builtin .append, args := #[s, x], argTypes := #[25, 25] }) (base : Nat) (v : Value) (n : Nat) (xs : List Value) (hs : a.eval s = v) (hown : w.ownsRow base 54 4 v n xs)
    (ad : Addr) (news : List Value) (hl : news.length = 4) (hnews : ∀ j u, news[j]? = some u → w.cell? (ad.add j) = some u) (h1 : ∀ u ∈ news, u.oneCell' = true) (hx : a.eval x = .slice (some ad) 1 1) (hsm : n + 1 ≤ 100000000) (hbase : base ≤ w.heap.size)
    (h : ∀ g cap w', w'.ownsRow base 54 4 (.slice (some ⟨g, 0, none⟩) (n + 1) cap) (n + 1) (xs ++ news) → w.grownBy w' v.ownBlock → (v.ownBlock = some g ∨ (w.heap.size ≤ g ∧ ∀ k, k < w.heap.size → w'.heap[k]? = w.heap[k]?)) → wpList Tryz.prog ops Q rest (a.put o.dst (.slice (some ⟨g, 0, none⟩) (n + 1) cap)) w') : wpList Tryz.prog ops Q (o :: rest) a w := by
  obtain ⟨i0, hi, hz0, hz1, hz2⟩ := info_parts info34
  have h63 : n + 1 ≤ maxLen := by unfold maxLen; omega
  refine wpList_plain hgd fun K hK => ?_
  obtain ⟨v', w', hr, ho', hg', -⟩ := run_append_own (P := Tryz.prog) w base 25 o.type 54 i0 _ 4 40 Tryz.underlying25 hi hz0 hz1 hz2 rfl (by decide) v n xs hown ad 1 1 news (by rw [hl]) hnews h1 h63 (by omega) hbase
  have hend : ∀ g cap, v' = .slice (some ⟨g, 0, none⟩) (n + 1) cap → (v.ownBlock = some g ∨ (w.heap.size ≤ g ∧ ∀ k, k < w.heap.size → w'.heap[k]? = w.heap[k]?)) → Oper.wp Tryz.prog o a w K Q := by
    intro g cap hv' hd
    subst hv'
    unfold Oper.wp execOp
    simp only [ho, resolve, invoke, builtin, Sem.run_bind, Sem.run_pure, Result.andThen_ok, List.map_toArray, List.map_cons, List.map_nil, hs, hx, hr]
    exact hK _ _ (h g cap w' ho' hg' hd)
  rcases hown.2 with ⟨rfl, rfl⟩ | ⟨g, cap, cur, rfl, hbg, hgc, hnc, hcm, hcs, htake⟩
  · have hr2 := run_append_nil (P := Tryz.prog) w 25 o.type 54 i0 _ Tryz.underlying25 hi hz0 ad 1 1 news (by rw [hz1, hl]) hnews (by decide) (by decide) (by rw [hz2]; decide)
    rw [hr2] at hr
    injection hr with hv hw
    refine hend w.heap.size _ hv.symm (.inr ⟨Nat.le_refl _, fun k hk => ?_⟩)
    rw [← hw]
    exact heap_old w.drew _ hk
  · by_cases hroom : n + 1 ≤ cap
    · have hr2 := run_append_room (P := Tryz.prog) w 25 o.type 54 i0 Tryz.underlying25 hi g n cap cur hgc ad 1 1 news (by rw [hz1, hl]) hnews h1 hroom (by rw [hz1, hcs, hl]; omega)
      rw [hr2] at hr
      injection hr with hv hw
      exact hend g cap hv.symm (.inl rfl)
    · have hr2 := run_append_grow (P := Tryz.prog) w 25 o.type 54 i0 _ Tryz.underlying25 hi hz0 ⟨g, 0, none⟩ n cap xs (by rw [hz1]; exact hown.1) (hown.cells (g := g) rfl) ad 1 1 news (by rw [hz1, hl]) hnews (by omega) (by simp only [maxLen] at h63; omega) (by rw [hz2]; exact growslice_fits (by omega) (by omega))
      rw [hr2] at hr
      injection hr with hv hw
      refine hend w.heap.size _ hv.symm (.inr ⟨Nat.le_refl _, fun k hk => ?_⟩)
      rw [← hw]
      exact heap_old w.drew _ hk

/-- The marks. -/
def mkA (j t : Nat) : Value := .int .i64 (100000 * (j : Int) + (t : Int))
def mkB (j t : Nat) : Value := .int .i64 (-1000 * (j : Int) - (t : Int) - 1)

/-- Rows of nodes, each in memory of its own; the list of them lies in block G. -/
structure Fam (n : Nat) (G B : Nat) (us : Nat → Value) (ln : Nat → Nat) : Prop where
  n0 : n ≤ 10000000
  form : ∀ i, i < n → ∃ a cap, us i = .slice a (ln i) cap ∧ (0 < ln i → ∃ g, a = some ⟨g, 0, none⟩)
  small : ∀ i, i < n → ln i ≤ 1048576
  apart : ∀ i j, i < n → j < n → i ≠ j → ∀ g, (us i).ownBlock = some g → (us j).ownBlock ≠ some g
  far : ∀ i, i < n → (us i).ownBlock ≠ some G
/-- All but these rows is as it was. -/
structure KR (n : Nat) (us : Nat → Value) (W0 W : World) : Prop where
  os : W.os = W0.os
  tape : W.tape = W0.tape
  output : W.output = W0.output
  size : W0.heap.size ≤ W.heap.size
  block : ∀ k, k < W0.heap.size → (∀ i, i < n → (us i).ownBlock ≠ some k) → W.heap[k]? = W0.heap[k]?
theorem KR.refl (n : Nat) (us : Nat → Value) (W : World) : KR n us W W := ⟨rfl, rfl, rfl, Nat.le_refl _, fun _ _ _ => rfl⟩
theorem KR.step {n : Nat} {us : Nat → Value} {W0 W W' : World} (h : KR n us W0 W) (h2 : KR n us W W') : KR n us W0 W' :=
  ⟨h2.os.trans h.os, h2.tape.trans h.tape, h2.output.trans h.output, Nat.le_trans h.size h2.size, fun k hk hn => (h2.block k (Nat.lt_of_lt_of_le hk h.size) hn).trans (h.block k hk hn)⟩
structure FA (W0 : World) (n G B : Nat) (us : Nat → Value) (ln : Nat → Nat) (c : Nat → List Value) (W : World) : Prop where
  l : ∀ i, i < n → W.cell? ⟨G, i, none⟩ = some (us i)
  own : ∀ i, i < n → W.ownsRow B 54 4 (us i) (ln i) (c i)
  b : KR n us W0 W

/-- A cell of a row is written. -/
theorem FA.set {W0 W : World} {n G B : Nat} {us : Nat → Value} {c : Nat → List Value} {ln : Nat → Nat} (hF : Fam n G B us ln) (h : FA W0 n G B us ln c W) {i g m cap k : Nat} {b : Value} (hi : i < n) (hu : us i = .slice (some ⟨g, 0, none⟩) m cap) (hm : m = ln i) :
    FA W0 n G B us ln (fun j => if j = i then (c i).set k b else c j) (W.setCell ⟨g, k, none⟩ b) := by
  have hgi : (us i).ownBlock = some g := by rw [hu]; rfl
  have hG : G ≠ g := fun e => hF.far i hi (by rw [hgi, e])
  have hsz : (W.setCell ⟨g, k, none⟩ b).heap.size = W.heap.size := by simp
  refine ⟨fun j hj => ?_, fun j hj => ?_, ?_⟩
  · rw [← h.l j hj]
    exact World.cell?_of_block (Below.heap_setCell _ _ _ G hG)
  · by_cases e : j = i
    · subst e
      simp only [if_pos]
      have h1 := h.own j hj
      rw [hu, ← hm] at h1
      have h2 := h1.stored k b
      rw [hu, ← hm]
      exact h2.1
    · simp only [if_neg e]
      exact ownsRow_setCell_other (h.own j hj) (fun he => hF.apart i j hi hj (fun q => e q.symm) g hgi he) _
  · exact h.b.step ⟨rfl, rfl, rfl, by rw [hsz]; exact Nat.le_refl _, fun j hj hn => Below.heap_setCell _ _ _ j (fun e => hn i hi (by rw [hgi, e]))⟩

/-- What is put behind a row. -/
def apn (i k : Nat) : List Value := (List.range k).flatMap (fun t : Nat => nd 0 0 (-1000 * (i : Int) - (t : Int) - 1) ⟨#[]⟩)
theorem apn_next (i k : Nat) : apn i (k + 1) = apn i k ++ nd 0 0 (-1000 * (i : Int) - (k : Int) - 1) ⟨#[]⟩ := by
  unfold apn
  rw [List.range_succ, List.flatMap_append]
  simp
theorem apn_len (i : Nat) : ∀ k, (apn i k).length = k * 4
  | 0 => rfl
  | k + 1 => by rw [apn_next, List.length_append, apn_len i k]; simp [nd]; omega
theorem apn_get (i : Nat) : ∀ k t, t < k → (apn i k)[t * 4 + 2]? = some (mkB i t)
  | 0, t, h => by omega
  | k + 1, t, h => by
    rw [apn_next]
    by_cases e : t < k
    · rw [List.getElem?_append_left (by rw [apn_len]; omega)]
      exact apn_get i k t e
    · obtain rfl : t = k := by omega
      rw [List.getElem?_append_right (by rw [apn_len]; omega), apn_len, show t * 4 + 2 - t * 4 = 2 by omega]
      rfl

/-- Some rows are grown (i), some of what they have become stand in a list (e). -/
structure P3 (W0 W1 : World) (n G B : Nat) (us : Nat → Value) (ln : Nat → Nat) (c : Nat → List Value) (i e : Nat) (vs : Nat → Value) (p : Value) (wx : World) : Prop where
  l : ∀ j, j < n → wx.cell? ⟨G, j, none⟩ = some (us j)
  un : ∀ j, i ≤ j → j < n → wx.ownsRow B 54 4 (us j) (ln j) (c j)
  rd : ∀ j, j < n → ∀ g, (us j).ownBlock = some g → ∀ t, t < ln j → wx.cell? ⟨g, t * 4 + 2, none⟩ = some (mkA j t)
  vg : ∀ j, j < i → ∃ g cap, vs j = .slice (some ⟨g, 0, none⟩) (ln j + 64) cap ∧ ((us j).ownBlock = some g ∨ W1.heap.size ≤ g) ∧ (∃ cur, wx.heap[g]? = some (.cells cur 54)) ∧ ∀ t, t < ln j + 64 → wx.cell? ⟨g, t * 4 + 2, none⟩ = some (if t < ln j then mkA j t else mkB j (t - ln j))
  pw : wx.ownsRow W1.heap.size 25 1 p e ((List.range e).map vs)
  ne : p = .slice none 0 0 ∨ 0 < e
  kr : KR n us W0 wx
  sz : W1.heap.size ≤ wx.heap.size
/-- One row is being grown. -/
structure P4 (Wi : World) (B i : Nat) (u : Value) (ln : Nat) (c : List Value) (k : Nat) (mv : Value) (wx : World) : Prop where
  own : wx.ownsRow B 54 4 mv (ln + k) (c ++ apn i k)
  lies : mv.ownBlock = u.ownBlock ∨ ∃ g, mv.ownBlock = some g ∧ Wi.heap.size ≤ g
  rd : ∀ g, u.ownBlock = some g → ∀ t, t < ln → wx.cell? ⟨g, t * 4 + 2, none⟩ = some (mkA i t)
  ke : KR 1 (fun _ => u) Wi wx
/-- What stays in all rounds. -/
structure PC (W1 : World) (n G : Nat) (us : Nat → Value) (ln : Nat → Nat) (c : Nat → List Value) : Prop where
  len : ∀ j, j < n → (c j).length = ln j * 4
  mark : ∀ j, j < n → ∀ t, t < ln j → (c j)[t * 4 + 2]? = some (mkA j t)
  lt : ∀ j, j < n → ∀ g, (us j).ownBlock = some g → g < W1.heap.size
  gl : 0 < n → G < W1.heap.size

theorem rep_get {c : List Value} {i k t ln : Nat} (hl : c.length = ln * 4) (ht : t < ln + k) : (c ++ apn i k)[t * 4 + 2]? = if t < ln then c[t * 4 + 2]? else some (mkB i (t - ln)) := by
  by_cases h : t < ln
  · rw [if_pos h, List.getElem?_append_left (by omega)]
  · rw [if_neg h, List.getElem?_append_right (by omega), hl, show t * 4 + 2 - ln * 4 = (t - ln) * 4 + 2 by omega]
    exact apn_get i k (t - ln) (by omega)

theorem P4.app {Wi wr X W' : World} {B i ln k : Nat} {u mv : Value} {c : List Value} (h : P4 Wi B i u ln c k mv wr) (hlc : c.length = ln * 4) (hmk : ∀ t, t < ln → c[t * 4 + 2]? = some (mkA i t)) (hul : ∀ g, u.ownBlock = some g → g < Wi.heap.size) (hX : Below wr.heap.size wr X) {g cap : Nat}
    (ho : W'.ownsRow B 54 4 (.slice (some ⟨g, 0, none⟩) (ln + k + 1) cap) (ln + k + 1) (c ++ apn i k ++ nd 0 0 (-1000 * (i : Int) - (k : Int) - 1) ⟨#[]⟩)) (hg : X.grownBy W' mv.ownBlock)
    (hd : mv.ownBlock = some g ∨ (X.heap.size ≤ g ∧ ∀ b, b < X.heap.size → W'.heap[b]? = X.heap[b]?)) : P4 Wi B i u ln c (k + 1) (.slice (some ⟨g, 0, none⟩) (ln + k + 1) cap) W' := by
  have hsz := h.ke.size
  have hXs := hX.size
  rw [List.append_assoc, ← apn_next] at ho
  refine ⟨ho, ?_, ?_, ?_⟩
  · rcases hd with e | ⟨e, _⟩
    · rcases h.lies with e2 | ⟨g', e2, e3⟩
      · exact .inl (by rw [← e2, e]; rfl)
      · exact .inr ⟨g, rfl, by rw [e] at e2; cases e2; exact e3⟩
    · exact .inr ⟨g, rfl, by omega⟩
  · intro gu hu t ht
    by_cases e : gu = g
    · subst e
      rw [ho.cellAt (t * 4 + 2) (by omega), rep_get hlc (by omega), if_pos ht, hmk t ht]
    · have hgl := hul gu hu
      have hbX : X.heap[gu]? = wr.heap[gu]? := hX.block gu (by omega)
      have hb : W'.heap[gu]? = wr.heap[gu]? := by
        rcases hd with e1 | ⟨_, e1⟩
        · refine (hg.block gu (by omega) ?_).trans hbX
          rw [e1]
          intro q
          exact e (Option.some.inj q)
        · exact (e1 gu (by omega)).trans hbX
      rw [← h.rd gu hu t ht]
      exact World.cell?_of_block hb
  · refine ⟨(hg.os.trans hX.os).trans h.ke.os, (hg.tape.trans hX.tape).trans h.ke.tape, (hg.output.trans hX.output).trans h.ke.output, Nat.le_trans (Nat.le_trans hsz hX.size) hg.size, fun b hb hn => ?_⟩
    have hub := hn 0 (by decide)
    have hmb : some b ≠ mv.ownBlock := by
      rcases h.lies with e | ⟨g', e, e3⟩
      · rw [e]; exact fun q => hub q.symm
      · rw [e]; intro q; have := Option.some.inj q; omega
    exact ((hg.block b (by omega) hmb).trans (hX.block b (by omega))).trans (h.ke.block b hb hn)

section
variable {W0 W1 Wi wx wz : World} {n G B i e : Nat} {us vs : Nat → Value} {ln : Nat → Nat} {c : Nat → List Value} {p p' mv : Value}
/-- A row has been grown. -/
theorem P3.grow (hF : Fam n G B us ln) (hC : PC W1 n G us ln c) (h : P3 W0 W1 n G B us ln c i i vs p Wi) (hi : i < n) (h4 : P4 Wi B i (us i) (ln i) (c i) 64 mv wx) : P3 W0 W1 n G B us ln c (i + 1) i (fun j => if j = i then mv else vs j) p wx := by
  have hb : ∀ b, b < Wi.heap.size → (us i).ownBlock ≠ some b → wx.heap[b]? = Wi.heap[b]? := fun b hb hn => h4.ke.block b hb (fun _ _ => hn)
  have hmap : (List.range i).map (fun j => if j = i then mv else vs j) = (List.range i).map vs := by
    refine List.map_congr_left fun j hj => ?_
    rw [List.mem_range] at hj
    rw [if_neg (by omega)]
  refine ⟨fun j hj => ?_, fun j hj1 hj2 => ?_, fun j hj g hg t ht => ?_, fun j hj => ?_, ?_, h.ne, ?_, Nat.le_trans h.sz h4.ke.size⟩
  · rw [← h.l j hj]
    exact World.cell?_of_block (hb G (cell_lt (h.l j hj)) (hF.far i hi))
  · have ho := h.un j (by omega) hj2
    exact own_keep ho (fun g hg => hb g (ho.lt g hg).2 (fun e => hF.apart i j hi hj2 (by omega) g e hg))
  · by_cases e : j = i
    · subst e; exact h4.rd g hg t ht
    · rw [← h.rd j hj g hg t ht]
      exact World.cell?_of_block (hb g (cell_lt (h.rd j hj g hg t ht)) (fun q => hF.apart i j hi hj (fun z => e z.symm) g q hg))
  · by_cases e : j = i
    · subst e
      simp only [if_pos]
      obtain ⟨g, cap, hm, -, -⟩ := h4.own.form (by omega)
      refine ⟨g, cap, hm, ?_, ?_, fun t ht => ?_⟩
      · rcases h4.lies with q | ⟨g', q, q2⟩
        · exact .inl (by rw [← q, hm]; rfl)
        · rw [hm] at q
          cases q
          exact .inr (Nat.le_trans h.sz q2)
      · rcases h4.own.2 with ⟨-, q⟩ | ⟨g1, c1, cur, hv, -, hh, -⟩
        · omega
        · rw [hm] at hv
          cases hv
          exact ⟨cur, hh⟩
      · have ho := h4.own
        rw [hm] at ho
        rw [ho.cellAt (t * 4 + 2) (by omega), rep_get (hC.len j hi) ht]
        by_cases ht2 : t < ln j
        · rw [if_pos ht2, if_pos ht2, hC.mark j hi t ht2]
        · rw [if_neg ht2, if_neg ht2]
    · simp only [if_neg e]
      obtain ⟨g, cap, h1, h2, ⟨cur, hcur⟩, h3⟩ := h.vg j (by omega)
      have hbg : wx.heap[g]? = Wi.heap[g]? := hb g (cell_lt (h3 0 (by omega))) (fun q => by
        rcases h2 with h2 | h2
        · exact hF.apart i j hi (by omega) (fun z => e z.symm) g q h2
        · have := hC.lt i hi g q; omega)
      refine ⟨g, cap, h1, h2, ⟨cur, hbg.trans hcur⟩, fun t ht => ?_⟩
      rw [← h3 t ht]
      exact World.cell?_of_block hbg
  · rw [hmap]
    exact own_keep h.pw (fun g hg => hb g (h.pw.lt g hg).2 (fun q => by have := hC.lt i hi g q; have := (h.pw.lt g hg).1; omega))
  · exact h.kr.step ⟨h4.ke.os, h4.ke.tape, h4.ke.output, h4.ke.size, fun k hk hn => hb k hk (hn i hi)⟩

/-- What it has become is put into the list. -/
theorem P3.push (h01 : W0.heap.size ≤ W1.heap.size) (hC : PC W1 n G us ln c) (h : P3 W0 W1 n G B us ln c i e vs p wx) (hi0 : 0 < n) {X : World} (hX : Below wx.heap.size wx X) (hg : X.grownBy wz p.ownBlock) (hp : wz.ownsRow W1.heap.size 25 1 p' (e + 1) ((List.range e).map vs ++ [vs e])) : P3 W0 W1 n G B us ln c i (e + 1) vs p' wz := by
  have hb : ∀ b, b < wx.heap.size → p.ownBlock ≠ some b → wz.heap[b]? = wx.heap[b]? := fun b hb hn => (hg.block b (Nat.lt_of_lt_of_le hb hX.size) (fun q => hn q.symm)).trans (hX.block b hb)
  have hpl : ∀ b, b < W1.heap.size → p.ownBlock ≠ some b := fun b hb q => by have := (h.pw.lt b q).1; omega
  have hs1 := h.sz
  refine ⟨fun j hj => ?_, fun j hj1 hj2 => ?_, fun j hj g hg t ht => ?_, fun j hj => ?_, ?_, .inr (by omega), ?_, Nat.le_trans h.sz (Nat.le_trans hX.size hg.size)⟩
  · rw [← h.l j hj]
    exact World.cell?_of_block (hb G (cell_lt (h.l j hj)) (hpl G (hC.gl hi0)))
  · have ho := h.un j hj1 hj2
    exact own_keep ho (fun g hg => hb g (ho.lt g hg).2 (hpl g (hC.lt j hj2 g hg)))
  · rw [← h.rd j hj g hg t ht]
    exact World.cell?_of_block (hb g (cell_lt (h.rd j hj g hg t ht)) (hpl g (hC.lt j hj g hg)))
  · obtain ⟨g, cap, h1, h2, ⟨cur, hcur⟩, h3⟩ := h.vg j hj
    have hbg : wz.heap[g]? = wx.heap[g]? := hb g (cell_lt (h3 0 (by omega))) (fun q => by
      rcases h.pw.2 with ⟨hv, -⟩ | ⟨g1, c1, cur1, hv, -, hh, -⟩
      · rw [hv] at q; cases q
      · rw [hv] at q
        cases q
        rw [hcur] at hh
        cases hh)
    refine ⟨g, cap, h1, h2, ⟨cur, hbg.trans hcur⟩, fun t ht => ?_⟩
    rw [← h3 t ht]
    exact World.cell?_of_block hbg
  · rw [List.range_succ, List.map_append]
    exact hp
  · exact ⟨(hg.os.trans hX.os).trans h.kr.os, (hg.tape.trans hX.tape).trans h.kr.tape, (hg.output.trans hX.output).trans h.kr.output, Nat.le_trans h.kr.size (Nat.le_trans hX.size hg.size), fun k hk hn => (hb k (by omega) (hpl k (by omega))).trans (h.kr.block k hk hn)⟩
end
end Go.Proofs.YtoikdpjjcnmgeaaGreatDoor.Wk
end
