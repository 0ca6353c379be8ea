import Derived.Test.YtfjcmniicbppdaaA
import Derived.BigQuiet
import Derived.WideMake
import Derived.Room.AppendFits
/-
  DERIVED. Bytes that are lent, and what is left of them.
-/
namespace Go.Proofs.Ytfjcmniicbppdaa
open Go Go.Proofs Go.RowKit

/-- Bytes that lie there. -/
def At (w : World) (b off : Nat) (bs : List Nat) : Prop := (∀ k, k < bs.length → w.cell? ⟨b, off + k, none⟩ = some (.int .u8 (bs.getD k 0 : Nat))) ∧ (∀ x ∈ bs, x < 256)
/-- A slice value, read: these bytes. -/
def V (w : World) (v : Value) (bs : List Nat) : Prop :=
  (∃ ao cap, v = .slice ao 0 cap ∧ bs = []) ∨ (∃ b off cap, v = .slice (some ⟨b, off, none⟩) bs.length cap ∧ 0 < bs.length ∧ bs.length ≤ cap ∧ At w b off bs)


theorem info5s : (Try.prog.info? 5).map (fun i => (i.zero, i.size, i.bytes)) = some (some (.int .u8 0), 1, 1) := by kernel_rfl

def u8s (bs : List Nat) : List Value := bs.map fun (b : Nat) => Value.int .u8 (b : Int)

/-- Bytes in memory of our own, from block B on. -/
def Own (w : World) (B : Nat) (v : Value) (bs : List Nat) : Prop := w.ownsRow B 5 1 v bs.length (u8s bs) ∧ ∀ x ∈ bs, x < 256

theorem At.next {w w' : World} {b off : Nat} {bs : List Nat} (h : At w b off bs) (hb : Below w.heap.size w w') : At w' b off bs :=
  ⟨fun k hk => (hb.cell (World.block_lt_of_cell? w ⟨b, off + k, none⟩ (h.1 k hk))).trans (h.1 k hk), h.2⟩

theorem V.next {w w' : World} {v : Value} {bs : List Nat} (h : V w v bs) (hb : Below w.heap.size w w') : V w' v bs := by
  rcases h with h | ⟨b, off, cap, rfl, hp, hc, h⟩
  · exact .inl h
  · exact .inr ⟨b, off, cap, rfl, hp, hc, h.next hb⟩

theorem u8s_length (bs : List Nat) : (u8s bs).length = bs.length := by simp [u8s]

theorem u8s_get (bs : List Nat) (k : Nat) (hk : k < bs.length) : (u8s bs)[k]? = some (.int .u8 (bs.getD k 0 : Nat)) := by
  simp [u8s, List.getElem?_eq_getElem hk]

theorem u8s_take_succ {bs : List Nat} {k : Nat} (hk : k < bs.length) : u8s (bs.take k) ++ [.int .u8 (bs.getD k 0 : Nat)] = u8s (bs.take (k + 1)) := by
  rw [List.take_add_one, List.getElem?_eq_getElem hk]
  unfold u8s
  rw [List.map_append, List.getD_eq_getElem?_getD, List.getElem?_eq_getElem hk]
  rfl

theorem u8s_append (a b : List Nat) : u8s (a ++ b) = u8s a ++ u8s b := by simp [u8s]

theorem V.form {w : World} {v : Value} {bs : List Nat} (h : V w v bs) : ∃ ao cap, v = .slice ao bs.length cap ∧ (0 < bs.length → ∃ b off, ao = some ⟨b, off, none⟩ ∧ At w b off bs) ∧ ∀ x ∈ bs, x < 256 := by
  rcases h with ⟨a1, c1, rfl, rfl⟩ | ⟨b1, o1, c1, rfl, hp1, _, h1⟩
  · exact ⟨_, _, rfl, by simp, by simp⟩
  · exact ⟨_, _, rfl, fun _ => ⟨_, _, rfl, h1⟩, h1.2⟩

set_option maxRecDepth 100000 in
/-- Lend. -/
theorem lend_any {w : World} {v : Value} {bs : List Nat} (h : V w v bs) (hl : bs.length ≤ 140737488351232) :
    Calls Try.prog 12 #[v] w fun e w' => e = .returned (.slice (some ⟨w.heap.size, 0, none⟩) bs.length (bs.length + 3)) ∧ Own w' w.heap.size (.slice (some ⟨w.heap.size, 0, none⟩) (bs.length + 3) (bs.length + 3)) (bs ++ [160, 161, 162]) ∧ Below w.heap.size w w' := by
  obtain ⟨ao, cap, rfl, hf, hbytes⟩ := h.form
  obtain ⟨n, hn⟩ : ∃ n, n = bs.length := ⟨_, rfl⟩
  rw [← hn] at hl
  rw [← hn]
  have HN : Hid (n = bs.length) := hn
  have HF : Hid (0 < n → ∃ b off, ao = some ⟨b, off, none⟩ ∧ At w b off bs) := by rw [hn]; exact hf
  clear hn hf h
  obtain ⟨i0, hi, hz0, hz1, hz2⟩ := info_parts info5s
  obtain ⟨B, hB⟩ : ∃ B, w.heap.size = B := ⟨_, rfl⟩
  rw [hB]
  have HB : Hid (B = w.heap.size) := hB.symm
  go_enter Try.func12, Try.ntmps12
  go_wp2_with (first | (at_make; refine wpList_make_own _ rfl _ _ 22 rfl B 5 i0 (.int .u8 0) 1 Try.underlying22 hi hz0 hz1 .i64 .i64 _ (n + 3) rfl rfl ?_ ?_ ?_ ?_ ?_) | fail)
  · omega
  · rw [hz2]; omega
  · unfold maxLen; omega
  · omega
  · intro w1 hown1 hgrow1
    have hbe1 : Below B w w1 := (Below.refl B w).grown hgrow1 (by omega) (by simp)
    clear hgrow1
    go_wp2
    go_loopw [3, 4] (fun v i wr => ∃ k : Nat, k ≤ n ∧ i = .int .i64 k ∧ v = .slice (some ⟨B, 0, none⟩) k (n + 3) ∧ wr.ownsRow B 5 1 (.slice (some ⟨B, 0, none⟩) k (n + 3)) k (u8s (bs.take k)) ∧ Below B w wr) (fun _ i _ => n - (intOf i).toNat)
    case atStart => exact ⟨0, Nat.zero_le _, rfl, rfl, hown1, hbe1⟩
    case round =>
      clear hown1 hbe1
      obtain ⟨k, hk, rfl, rfl, hown, hbe⟩ := hrel
      have HBr : Hid (B ≤ wr.heap.size) := by have := hbe.size; rw [HB.out]; exact this
      by_cases hkn : k < n
      · obtain ⟨b, off, rfl, hb⟩ := HF.out (by omega)
        have hkl : k < bs.length := by rw [← HN.out]; exact hkn
        obtain ⟨y, HY, hcy⟩ : ∃ y, Hid (y = bs.getD k 0) ∧ wr.cell? ⟨b, off + k, none⟩ = some (.int .u8 (y : Int)) := ⟨_, rfl, (hbe.cell (p := ⟨b, off + k, none⟩) (by rw [HB.out]; exact World.block_lt_of_cell? w _ (hb.1 k hkl))).trans (hb.1 k hkl)⟩
        clear hkl
        go_wp2_with (first | (at_builtin; refine wpList_append_fits _ rfl _ _ 22 rfl B 5 i0 1 Try.underlying22 hi hz1 B k (n + 3) _ rfl (hown.alloc _) ⟨wr.heap.size, 0, none⟩ 1 1 [.int .u8 (y : Int)] rfl rfl ?_ ?_ ?_ ?_) | fail)
        · exact cell_one_new _ _ _
        · intro u hu; simp at hu; subst hu; rfl
        · omega
        · intro w2 hown' hgrow
          have hbe' : Below B w w2 := (hbe.alloc HBr.out _).grown hgrow (by have := HBr.out; simp; omega) (fun j hj => by cases hj; omega)
          rw [HY.out, u8s_take_succ (by rw [← HN.out]; exact hkn)] at hown'
          clear hgrow hown hcy
          go_wp2
          go_roundw
          case rel => exact ⟨k + 1, by omega, by go_num, rfl, hown', hbe'⟩
          case measure => simp [intOf]; omega
      · have hkn' : k = n := by omega
        subst hkn'
        rw [HN.out, List.take_length, ← HN.out] at hown
        go_wp2
        go_loopw [3, 5] (fun v i wr => ∃ j : Nat, j ≤ 3 ∧ i = .int .i64 j ∧ v = .slice (some ⟨B, 0, none⟩) (k + j) (k + 3) ∧ wr.ownsRow B 5 1 (.slice (some ⟨B, 0, none⟩) (k + j) (k + 3)) (k + j) (u8s (bs ++ [160, 161, 162].take j)) ∧ Below B w wr) (fun _ i _ => 3 - (intOf i).toNat)
        case atStart => exact ⟨0, by omega, rfl, rfl, by simpa using hown, hbe⟩
        case round =>
          clear hown hbe HBr
          obtain ⟨j, hj, rfl, rfl, hown, hbe⟩ := hrel
          have HBr : Hid (B ≤ wr.heap.size) := by have := hbe.size; rw [HB.out]; exact this
          by_cases hj3 : j < 3
          · have hm : (160 + (j : Int)) % 256 = 160 + (j : Int) := by omega
            go_wp2_with (first | (at_builtin; refine wpList_append_fits _ rfl _ _ 22 rfl B 5 i0 1 Try.underlying22 hi hz1 B (k + j) (k + 3) _ rfl (hown.alloc _) ⟨wr.heap.size, 0, none⟩ 1 1 [.int .u8 (160 + (j : Int))] rfl rfl ?_ ?_ ?_ ?_) | fail)
            · exact cell_one_new _ _ _
            · intro u hu; simp at hu; subst hu; rfl
            · omega
            · intro w2 hown' hgrow
              have hbe' : Below B w w2 := (hbe.alloc HBr.out _).grown hgrow (by have := HBr.out; simp; omega) (fun j hj => by cases hj; omega)
              have he : u8s (bs ++ [160, 161, 162].take j) ++ [.int .u8 (160 + (j : Int))] = u8s (bs ++ [160, 161, 162].take (j + 1)) := by
                rw [u8s_append, u8s_append, List.append_assoc]
                congr 1
                rcases (show j = 0 ∨ j = 1 ∨ j = 2 by omega) with rfl | rfl | rfl <;> rfl
              rw [he] at hown'
              clear hgrow hown hm he
              go_wp2
              go_roundw
              case rel => exact ⟨j + 1, by omega, by go_num, by congr 1, hown', hbe'⟩
              case measure => simp [intOf]; omega
          · have hj' : j = 3 := by omega
            subst hj'
            go_wp2
            go_ret
            refine ⟨rfl, ⟨?_, ?_⟩, hbe⟩
            · simpa [← HN.out] using hown
            · intro x hx
              rcases List.mem_append.1 hx with hx | hx
              · exact hbytes x hx
              · simp at hx; omega

theorem bytes_other (w : World) (a1 a2 : Option Addr) (n1 n2 c1 c2 : Nat) (h : n1 ≠ n2) :
    Calls Try.prog 14 #[.slice a1 n1 c1, .slice a2 n2 c2] w fun e w' => e = .returned (.bool false) ∧ w = w' := by
  have h2 : ((n1 : Int) != (n2 : Int)) = true := by simp; omega
  go_enter Try.func14, Try.ntmps14
  go_wp2
  all_goals first | omega | (go_ret; exact ⟨rfl, rfl⟩)

theorem bytes_empty (w : World) (a1 a2 : Option Addr) (c1 c2 : Nat) :
    Calls Try.prog 14 #[.slice a1 0 c1, .slice a2 0 c2] w fun e w' => e = .returned (.bool true) ∧ w = w' := by
  go_enter Try.func14, Try.ntmps14
  go_wp2
  refine wp_loop_rounds 1 ?_
  rw [rounds_succ]
  go_wp2
  go_ret
  exact ⟨rfl, rfl⟩

theorem take_succ_eq {l1 l2 : List Nat} {k : Nat} (h1 : k < l1.length) (h2 : k < l2.length) : (l1.take (k + 1) = l2.take (k + 1)) ↔ (l1.take k = l2.take k ∧ l1.getD k 0 = l2.getD k 0) := by
  rw [List.take_add_one, List.take_add_one, List.getElem?_eq_getElem h1, List.getElem?_eq_getElem h2, List.getD_eq_getElem?_getD, List.getD_eq_getElem?_getD, List.getElem?_eq_getElem h1, List.getElem?_eq_getElem h2]
  simp only [Option.toList_some, Option.getD_some]
  constructor
  · intro h
    have := List.append_inj' h (by simp)
    simpa using this
  · rintro ⟨ha, hb⟩
    rw [ha, hb]

set_option maxRecDepth 100000 in
theorem bytes_some (w : World) (b1 o1 c1 b2 o2 c2 n : Nat) (l1 l2 : List Nat) (h1 : At w b1 o1 l1) (h2 : At w b2 o2 l2) (hn1 : n = l1.length) (hn2 : n = l2.length) (hl : n ≤ 140737488351232) :
    Calls Try.prog 14 #[.slice (some ⟨b1, o1, none⟩) n c1, .slice (some ⟨b2, o2, none⟩) n c2] w fun e w' => e = .returned (.bool (decide (l1 = l2))) ∧ ∃ m, w' = w.drewN m := by
  have HN1 : Hid (n = l1.length) := hn1
  have HN2 : Hid (n = l2.length) := hn2
  clear hn1 hn2
  go_enter Try.func14, Try.ntmps14
  go_wp2
  go_loopw [5] (fun i wr => ∃ k m : Nat, k ≤ n ∧ i = .int .i64 k ∧ wr = w.drewN m ∧ Hid (l1.take k = l2.take k)) (fun i _ => n - (intOf i).toNat)
  case atStart => exact ⟨0, 0, Nat.zero_le _, rfl, rfl, by simp [Hid]⟩
  case round =>
    obtain ⟨k, m, hk, rfl, rfl, HT⟩ := hrel
    by_cases hkn : k < n
    · obtain ⟨y1, HY1, hc1⟩ : ∃ y, Hid (y = l1.getD k 0) ∧ w.cell? ⟨b1, o1 + k, none⟩ = some (.int .u8 (y : Int)) := ⟨_, rfl, h1.1 k (by rw [← HN1.out]; exact hkn)⟩
      obtain ⟨y2, HY2, hc2⟩ : ∃ y, Hid (y = l2.getD k 0) ∧ w.cell? ⟨b2, o2 + k, none⟩ = some (.int .u8 (y : Int)) := ⟨_, rfl, h2.1 k (by rw [← HN2.out]; exact hkn)⟩
      have HS := take_succ_eq (l1 := l1) (l2 := l2) (k := k) (by rw [← HN1.out]; exact hkn) (by rw [← HN2.out]; exact hkn)
      rw [← HY1.out, ← HY2.out] at HS
      by_cases hy : y1 = y2
      · have HS' : Hid (l1.take (k + 1) = l2.take (k + 1)) := HS.2 ⟨HT.out, hy⟩
        subst hy
        clear HS
        go_wp2
        go_quiet (fail)
        go_wp2
        go_roundw
        case rel => exact ⟨k + 1, _, by omega, by go_num, rfl, HS'⟩
        case measure => simp [intOf]; omega
      · have HS' : Hid (decide (l1 = l2) = false) := by
          show _ = _
          simp only [decide_eq_false_iff_not]
          intro he
          exact hy (HS.1 (by rw [he])).2
        have hy' : ((y1 : Int) != (y2 : Int)) = true := by simp; omega
        clear HS
        go_wp2
        go_quiet (fail)
        go_wp2
        go_ret
        exact ⟨by rw [HS'.out]; rfl, _, World.drewN_drewN ..⟩
    · have hkn' : k = n := by omega
      subst hkn'
      have HE : Hid (decide (l1 = l2) = true) := by
        show _ = _
        have := HT.out
        rw [HN1.out, List.take_length, ← HN1.out, HN2.out, List.take_length] at this
        simp [this]
      go_wp2
      go_ret
      exact ⟨by rw [HE.out]; rfl, _, rfl⟩

/-- Bytes: held against each other. -/
theorem bytes_any {w : World} {v1 v2 : Value} {l1 l2 : List Nat} (h1 : V w v1 l1) (h2 : V w v2 l2) (hl : l1.length ≤ 140737488351232) :
    Calls Try.prog 14 #[v1, v2] w fun e w' => e = .returned (.bool (decide (l1 = l2))) ∧ ∃ m, w' = w.drewN m := by
  by_cases hlen : l1.length = l2.length
  · rcases h1 with ⟨a1, c1, rfl, rfl⟩ | ⟨b1, o1, c1, rfl, hp1, _, h1⟩
    · rcases h2 with ⟨a2, c2, rfl, rfl⟩ | ⟨b2, o2, c2, rfl, hp2, _, h2⟩
      · refine (bytes_empty w a1 a2 c1 c2).mono ?_; rintro e w' ⟨rfl, rfl⟩; exact ⟨by simp, 0, rfl⟩
      · simp at hlen; omega
    · rcases h2 with ⟨a2, c2, rfl, rfl⟩ | ⟨b2, o2, c2, rfl, hp2, _, h2⟩
      · exact absurd hlen (by simp; intro h; rw [h] at hp1; exact absurd hp1 (by decide))
      · rw [← hlen]
        exact bytes_some w b1 o1 c1 b2 o2 c2 _ l1 l2 h1 h2 rfl hlen hl
  · have hd : decide (l1 = l2) = false := by simp; intro h; exact hlen (by rw [h])
    rw [hd]
    rcases h1 with ⟨a1, c1, rfl, rfl⟩ | ⟨b1, o1, c1, rfl, hp1, _, h1⟩ <;> rcases h2 with ⟨a2, c2, rfl, rfl⟩ | ⟨b2, o2, c2, rfl, hp2, _, h2⟩ <;> (refine (bytes_other w _ _ _ _ _ _ hlen).mono ?_; rintro e w' ⟨rfl, rfl⟩; exact ⟨rfl, 0, rfl⟩)



theorem ownsRow_below {w w' : World} {A base : Nat} {e : TypeId} {size : Nat} {v : Value} {n : Nat} {xs : List Value} (h : w.ownsRow base e size v n xs) (hb : Below A w w') (hA : w.heap.size ≤ A) : w'.ownsRow base e size v n xs := by
  refine ⟨h.1, ?_⟩
  rcases h.2 with h2 | ⟨g, cap, cur, hv, hg, hh, r⟩
  · exact .inl h2
  · have hlt : g < w.heap.size := (Array.getElem?_eq_some_iff.1 hh).1
    exact .inr ⟨g, cap, cur, hv, hg, (hb.block g (by omega)).trans hh, r⟩

/-- What was lent, with its marks. -/
def Lent (w : World) (B g : Nat) (bs : List Nat) : Prop := Own w B (.slice (some ⟨g, 0, none⟩) (bs.length + 3) (bs.length + 3)) (bs ++ [160, 161, 162])

theorem Lent.next {w w' : World} {B g : Nat} {bs : List Nat} (h : Lent w B g bs) (hb : Below w.heap.size w w') : Lent w' B g bs := ⟨ownsRow_below h.1 hb (Nat.le_refl _), h.2⟩

theorem Lent.cell {w : World} {B g : Nat} {bs : List Nat} (h : Lent w B g bs) (k : Nat) (hk : k < bs.length + 3) : w.cell? ⟨g, k, none⟩ = some (.int .u8 ((bs ++ [160, 161, 162]).getD k 0 : Nat)) := by
  have h1 := h.1
  simp only [List.length_append, List.length_cons, List.length_nil] at h1
  have := h1.cellAt (g := g) (cap := bs.length + 3) k (by omega)
  rw [this, u8s_get _ k (by simpa using hk)]

theorem Lent.v {w : World} {B g : Nat} {bs : List Nat} (h : Lent w B g bs) {cap : Nat} (hcap : bs.length ≤ cap) : V w (.slice (some ⟨g, 0, none⟩) bs.length cap) bs := by
  by_cases hp : 0 < bs.length
  · refine .inr ⟨g, 0, cap, rfl, hp, hcap, ?_, fun x hx => h.2 x (by simp [hx])⟩
    intro k hk
    rw [Nat.zero_add, h.cell k (by omega)]
    simp [List.getD_eq_getElem?_getD, List.getElem?_append_left hk]
  · have h0 : bs = [] := List.eq_nil_of_length_eq_zero (by omega)
    subst h0
    exact .inl ⟨_, _, rfl, rfl⟩

set_option maxRecDepth 100000 in
/-- Kept: yes. -/
theorem kept_any {w : World} {v : Value} {B g : Nat} {bs : List Nat} (hx : Lent w B g bs) (h : V w v bs) (hl : bs.length ≤ 140737488351232) :
    Calls Try.prog 19 #[.slice (some ⟨g, 0, none⟩) bs.length (bs.length + 3), v] w fun e w' => e = .returned (.bool true) ∧ ∃ m, w' = w.drewN m := by
  have hby := bytes_any (hx.v (cap := bs.length + 3) (by omega)) h (by omega)
  rw [show decide (bs = bs) = true by simp] at hby
  obtain ⟨ao, cap, rfl, _, _⟩ := h.form
  have hc0 := hx.cell bs.length (by omega)
  have hc1 := hx.cell (bs.length + 1) (by omega)
  have hc2 := hx.cell (bs.length + 2) (by omega)
  simp [List.getD_eq_getElem?_getD] at hc0 hc1 hc2
  clear hx h
  obtain ⟨n, hn⟩ : ∃ n, bs.length = n := ⟨_, rfl⟩
  rw [hn] at hby hl hc0 hc1 hc2 ⊢
  clear hn
  go_enter Try.func19, Try.ntmps19
  go_wp2_with (go_at_call 14; refine hby.mono ?_; rintro e w' ⟨rfl, m, rfl⟩)
  refine wp_loop_rounds 4 ?_
  rw [rounds_succ]
  go_wp2
  rw [rounds_succ]
  go_wp2
  rw [rounds_succ]
  go_wp2
  rw [rounds_succ]
  go_wp2
  go_ret
  exact ⟨rfl, _, rfl⟩
end Go.Proofs.Ytfjcmniicbppdaa
