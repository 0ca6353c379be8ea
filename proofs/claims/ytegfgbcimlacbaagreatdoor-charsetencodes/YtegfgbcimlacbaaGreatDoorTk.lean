import Derived.Test.YtegfgbcimlacbaaGreatDoorTd
import Derived.Test.YtegfgbcimlacbaaGreatDoorX
import Derived.Test.YtegfgbcimlacbaaGreatDoorTp
import Derived.Laws.AppendOwnNone
import Derived.BigQuiet
import Derived.WideMake
import Derived.Room.AppendFits

/-
  DERIVED. Decode of bytes that lie anywhere; of pieces.
-/
namespace Go.Proofs.YtegfgbcimlacbaaGreatDoor
open Go Go.Proofs Go.RowKit

theorem add_at (b o q : Nat) : (⟨b, o, none⟩ : Addr).add q = ⟨b, o + q, none⟩ := by
  unfold Addr.add
  simp
/-- Bytes, where they lie. -/
def BS (w : World) (ao : Option Addr) (s : ByteArray) : Prop := 0 < s.size → ∃ b off, ao = some ⟨b, off, none⟩ ∧ ∀ k (h : k < s.size), w.cell? ⟨b, off + k, none⟩ = some (.int .u8 ((s[k]'h).toNat : Int))
theorem BS.on {w w' : World} {ao : Option Addr} {s : ByteArray} (h : BS w ao s) (hb : Below w.heap.size w w') : BS w' ao s := fun hz => by
  obtain ⟨b, off, e, hc⟩ := h hz
  exact ⟨b, off, e, fun k hk => (hb.cell (p := ⟨b, off + k, none⟩) (cell_lt (hc k hk))).trans (hc k hk)⟩

def arr (bs : List Nat) : ByteArray := ⟨(bs.map fun b => b.toUInt8).toArray⟩
theorem arr_size (bs : List Nat) : (arr bs).size = bs.length := by simp [arr, ByteArray.size]
theorem arr_at {bs : List Nat} (hb : ∀ x ∈ bs, x < 256) {k : Nat} (hk : k < bs.length) (h : k < (arr bs).size) : ((arr bs)[k]'h).toNat = bs.getD k 0 := by
  have e : (arr bs)[k]'h = (bs[k]'hk).toUInt8 := by
    show (arr bs).data[k] = _
    simp [arr]
  rw [e, List.getD_eq_getElem?_getD, List.getElem?_eq_getElem hk]
  have := hb _ (List.getElem_mem hk)
  simp
  omega

theorem V.bs {w : World} {v : Value} {bs : List Nat} (h : V w v bs) : ∃ ao cap, v = .slice ao (arr bs).size cap ∧ (arr bs).size ≤ cap ∧ BS w ao (arr bs) := by
  rcases h with ⟨ao, cap, rfl, rfl⟩ | ⟨b, off, cap, rfl, hp, hc, ha, hb⟩
  · exact ⟨ao, cap, rfl, Nat.zero_le _, fun h => by simp [arr_size] at h⟩
  · refine ⟨_, cap, by rw [arr_size], by rw [arr_size]; exact hc, fun _ => ⟨b, off, rfl, fun k hk => ?_⟩⟩
    have hk' : k < bs.length := by rw [arr_size] at hk; exact hk
    rw [arr_at hb hk' hk]
    exact ha k hk'
theorem BS.conv {w : World} {ao : Option Addr} {s : ByteArray} {cap : Nat} (h : BS w ao s) : (convert 27 9 (.slice ao s.size cap)).run Tryz.prog w = .ok (.string s) w := by
  cases ao with
  | none =>
    have h0 : s.size = 0 := by
      rcases Nat.eq_zero_or_pos s.size with h0 | h0
      · exact h0
      · obtain ⟨b, off, e, _⟩ := h h0; cases e
    have : s = ⟨#[]⟩ := by
      have : s.data = #[] := Array.eq_empty_of_size_eq_zero h0
      cases s; simp_all
    subst this
    exact Lib.run_convert_nil_bytes w 27 9 5 cap Tryz.underlying27 Tryz.underlying5 Tryz.underlying9
  | some ad =>
    have := run_convert_bytes_back (P := Tryz.prog) w 27 9 5 ad cap s.data.toList Tryz.underlying27 Tryz.underlying5 Tryz.underlying9 (fun j hj => ?_)
    · simpa using this
    · have hj' : j < s.size := by simpa using hj
      obtain ⟨b, off, e, hc⟩ := h (by omega)
      cases e
      rw [add_at, hc j hj']
      rfl

def strF : Except (Nat × Int) (List Int) → ByteArray
  | .ok out => bsZ out
  | .error _ => ⟨#[]⟩
def errF : Except (Nat × Int) (List Int) → Option (Int × Int)
  | .ok _ => none
  | .error (i, c) => some ((i : Int), c)

/-- A set, and the tables. -/
structure SetT (w : World) (q : Nat) (u : Value) (a : Row) (R : List Row) (x : Bool) : Prop where
  s : SetIn w q u (a :: R) x
  e : w.cell? ⟨q, 1, none⟩ = some (.bool x)
  sp : Spell w
  t : Tabs w
  k : Kinds w
  u : ∀ w', Below w.heap.size w w' → Lib.Utf8Tabs 6 7 w'
theorem SetT.on {w w' : World} {q : Nat} {u : Value} {a : Row} {R : List Row} {x : Bool} (h : SetT w q u a R x) (hb : Below w.heap.size w w') : SetT w' q u a R x :=
  ⟨h.s.on hb, (hb.cell (p := ⟨q, 1, none⟩) (cell_lt h.e)).trans h.e, h.sp.on hb, h.t.on hb, h.k.on hb, fun w'' hw => h.u w'' (hb.trans (hw.mono hb.size))⟩
def endsS (j : Nat) (b : Nat) : Bool := if j = 0 then (b == 9 || b == 10 || b == 12 || b == 13) else if j = 2 then (b == 92 || b == 94 || b == 61) else b == 92
theorem ends_facts : ∀ (j : Fin 3) (b : Fin 256), endsS j.val b.val = true → b.val < 128 ∧ b.val ∉ [27, 40, 66, 45, 65, 70, 76, 77] ∧ plainR (kdS (2 * j.val)) (b.val : Int) = true ∧ hasR (kdS (2 * j.val + 1)) (b.val : Int) = true := by decide +kernel

/-- Cut behind a byte that ends a piece, both parts are read by themselves. -/
theorem dcS_cut (x : Bool) (a : Row) (R : List Row) (j : Nat) (hj : j < 3) (A B : List Nat) (e : Nat) (he : e < 256) (hend : endsS j e = true) (hx6 : x = true → ∀ r ∈ a :: R, r.1 < 6) (out : List Int) (h : dcS x a R (j : Int) (arr (A ++ e :: B)) = .ok out) :
    ∃ oA oB, dcS x a R (j : Int) (arr A) = .ok oA ∧ dcS x a R (j : Int) (arr B) = .ok oB ∧ out = oA ++ (e : Int) :: oB := by
  obtain ⟨h1, h2, h3, h4⟩ := ends_facts ⟨j, hj⟩ ⟨e, he⟩ hend
  simp only at h1 h2 h3 h4
  have hl : ∀ l : List Nat, (arr l).data.toList = l.map fun b => b.toUInt8 := fun l => by simp [arr]
  have hk : ¬ ((j : Int) < 0 ∨ 3 ≤ (j : Int)) := by omega
  have ho : ∀ l : List Nat, okO (rdS x (kdS (2 * j)) (kdS (2 * j + 1)) a R (arr l) (arr l).size 0 a []) = rdO x (kdS (2 * j)) (kdS (2 * j + 1)) a R l.length (l.map fun b => b.toUInt8) a := fun l => by
    rw [rdS_rdO _ _ _ _ _ _ _ _ _ _ (by omega), hl, List.drop_zero, arr_size]
    simp
  unfold dcS at h ⊢
  rw [if_neg hk] at h ⊢
  rw [if_neg hk]
  rw [Int.toNat_natCast] at h ⊢
  by_cases hs : 65534 < (arr (A ++ e :: B)).size
  · rw [if_pos hs] at h; cases h
  · rw [if_neg hs] at h
    have hsz := hs
    rw [arr_size] at hsz
    simp at hsz
    have hsA : ¬ 65534 < (arr A).size := by rw [arr_size]; omega
    have hsB : ¬ 65534 < (arr B).size := by rw [arr_size]; omega
    rw [if_neg hsA, if_neg hsB]
    cases hF : rdS x (kdS (2 * j)) (kdS (2 * j + 1)) a R (arr (A ++ e :: B)) (arr (A ++ e :: B)).size 0 a [] with
    | error ic => rw [hF] at h; simp [dcEnd] at h
    | ok o =>
      rw [hF] at h
      simp only [dcEnd] at h
      by_cases hL : 65534 < o.length
      · rw [if_pos hL] at h; cases h
      · rw [if_neg hL] at h
        obtain rfl : o = out := by simpa using h
        have hO := ho (A ++ e :: B)
        rw [hF] at hO
        simp only [okO] at hO
        rw [List.map_append, List.map_cons] at hO
        have hen : (e.toUInt8).toNat = e := by simp; omega
        obtain ⟨oA, oB, hA, hB, hout⟩ := rdO_cut x (kdS (2 * j)) (kdS (2 * j + 1)) a R e.toUInt8 (B.map fun b => b.toUInt8) hx6 (by rw [hen]; exact h1) (by rw [hen]; exact h2) (by rw [hen]; exact h3) (by rw [hen]; exact h4) (A ++ e :: B).length (A.map fun b => b.toUInt8) a o (by simp) hO.symm
        rw [hen] at hout
        have hLo : oA.length + (oB.length + 1) = o.length := by rw [hout]; simp
        rw [List.length_map] at hA hB
        have e1 := ho A
        have e2 := ho B
        rw [hA] at e1
        rw [hB] at e2
        refine ⟨oA, oB, ?_, ?_, hout⟩
        · cases hFA : rdS x (kdS (2 * j)) (kdS (2 * j + 1)) a R (arr A) (arr A).size 0 a [] with
          | error ic => rw [hFA] at e1; simp [okO] at e1
          | ok o' =>
            rw [hFA] at e1
            simp [okO] at e1
            subst e1
            simp only [dcEnd]
            rw [if_neg (by omega)]
        · cases hFB : rdS x (kdS (2 * j)) (kdS (2 * j + 1)) a R (arr B) (arr B).size 0 a [] with
          | error ic => rw [hFB] at e2; simp [okO] at e2
          | ok o' =>
            rw [hFB] at e2
            simp [okO] at e2
            subst e2
            simp only [dcEnd]
            rw [if_neg (by omega)]
end Go.Proofs.YtegfgbcimlacbaaGreatDoor


/-
  DERIVED. The law of pieces.
-/
namespace Go.Proofs.YtegfgbcimlacbaaGreatDoor
open Go Go.Proofs Go.RowKit

theorem u8s_one (bs : List Nat) : ∀ u ∈ u8s bs, u.oneCell' = true := by
  intro u hu
  unfold u8s at hu
  obtain ⟨z, -, rfl⟩ := List.mem_map.1 hu
  rfl

/-- Bytes that lie anywhere, behind bytes of our own. -/
theorem wpList_append_V {w : World} {ops : Array Oper} {rest : List Oper} {o : Oper} {a : Act} {Q : Exit → Act → World → Prop} (hgd : o.guard = none) (s x : Operand)
    (ho : o.op = .call { callee := .builtin .append, args := #[s, x], argTypes := #[27, 27] }) (base : Nat) (v : Value) (n : Nat) (xs : List Value) (hs : a.eval s = v) (hown : w.ownsRow base 5 1 v n xs)
    (ao : Option Addr) (m c : Nat) (bs : List Nat) (hx : a.eval x = .slice ao m c) (hV : V w (.slice ao m c) bs) (hm : bs.length = m) (h0 : ao = none → c = 0) (h63 : n + m ≤ maxLen) (hby : n + m ≤ 140737488355328) (hbase : base ≤ w.heap.size)
    (h : ∀ v' w', w'.ownsRow base 5 1 v' (n + m) (xs ++ u8s bs) → w.grownBy w' v.ownBlock → wpList Tryz.prog ops Q rest (a.put o.dst v') w') : wpList Tryz.prog ops Q (o :: rest) a w := by
  obtain ⟨i0, hi, hz0, hz1, hz2⟩ := info_parts Tryz.info5
  cases ao with
  | none =>
    have hb0 : bs = [] ∧ m = 0 := by
      rcases hV with ⟨ao, cap, e, rfl⟩ | ⟨b, off, cap, e, _⟩
      · exact ⟨rfl, by rw [← hm]; rfl⟩
      · cases e
    obtain ⟨rfl, rfl⟩ := hb0
    obtain rfl := h0 rfl
    refine wpList_append_own_none hgd s x 27 ho base 5 i0 1 Tryz.underlying27 hi v n xs hs hown hx (h v w ?_ ⟨rfl, rfl, rfl, Nat.le_refl _, fun _ _ _ => rfl⟩)
    rw [Nat.add_zero]
    simpa [u8s] using hown
  | some ad =>
    refine wpList_append_own _ hgd s x 27 ho base 5 i0 _ 1 1 Tryz.underlying27 hi hz0 hz1 hz2 rfl (by decide) v n xs hs hown ad m c (u8s bs) hx (by rw [u8s_length, hm]; omega) (fun j u hj => ?_) (u8s_one bs) h63 (by omega) hbase (fun v' w' h1 h2 _ => h v' w' h1 h2)
    have hj' : j < bs.length := by have := (List.getElem?_eq_some_iff.1 hj).1; rw [u8s_length] at this; exact this
    rcases hV with ⟨ao, cap, e, rfl⟩ | ⟨b, off, cap, e, hp, hc, ha⟩
    · simp at hj'
    · cases e
      rw [add_at, ha.1 j hj', ← hj, u8s_get bs j hj']

theorem own_v {w : World} {B : Nat} {v : Value} {bs : List Nat} (h : w.ownsRow B 5 1 v bs.length (u8s bs)) (hb : ∀ x ∈ bs, x < 256) : V w v bs := by
  rcases Nat.eq_zero_or_pos bs.length with h0 | hp
  · have : bs = [] := List.eq_nil_of_length_eq_zero h0
    subst this
    rcases h.2 with ⟨rfl, _⟩ | ⟨g, cap, cur, hv, _⟩
    · exact .inl ⟨_, _, rfl, rfl⟩
    · exact .inl ⟨_, _, hv, rfl⟩
  · rcases h.2 with ⟨_, h0⟩ | ⟨g, cap, cur, rfl, _, _, hc, _⟩
    · omega
    · refine .inr ⟨g, 0, cap, rfl, hp, hc, fun k hk => ?_, hb⟩
      rw [Nat.zero_add, h.cellAt k (by omega), u8s_get bs k hk]

theorem ext_six {t : ByteArray} {k : Nat} (h : nmd t 7 0 = some (k, true)) : k ≠ 6 := by
  rintro rfl
  have := (nmd_is 7 0 _ _ _ h).2 rfl
  rw [sp_list] at this
  simp [spL] at this
/-- With code extensions no repertoire is the seventh. -/
theorem newS_ext {T : List ByteArray} {N : List (Nat × ByteArray)} (h : newS T = .inr (N, true)) : ∀ r ∈ N, r.1 ≠ 6 := by
  unfold newS at h
  split at h
  · simp at h
  · split at h
    · simp at h
    · rename_i h0
      by_cases h1 : 1 < T.length
      · exact newL_six _ h1 T 0 [] false N true (by simp) h
      · obtain ⟨s, rfl⟩ : ∃ s, T = [s] := by
          match T, h0, h1 with
          | [s], _, _ => exact ⟨s, rfl⟩
          | [], h0, _ => exact absurd rfl h0
          | _ :: _ :: _, _, h1 => simp at h1
        rw [newL] at h
        split at h
        · simp at h
        · rename_i k y hk
          split at h
          · simp at h
          · split at h
            · simp at h
            · simp [newL] at h
              obtain ⟨rfl, rfl⟩ := h
              intro r hr
              simp at hr
              subst hr
              exact ext_six hk

theorem bsZ_cut (oA oB : List Int) (e : Nat) : (bsZ (oA ++ (e : Int) :: oB)).toList = ((bsZ oA ++ (⟨#[e.toUInt8]⟩ : ByteArray)) ++ bsZ oB).toList := by
  rw [ByteArray.toList_eq, ByteArray.toList_eq]
  simp [bsZ]

theorem dcS_len {x : Bool} {a : Row} {R : List Row} {k : Int} {s : ByteArray} {o : List Int} (h : dcS x a R k s = .ok o) : o.length ≤ 65534 := by
  unfold dcS at h
  split at h
  · cases h
  · split at h
    · cases h
    · cases hF : rdS x (kdS (2 * k.toNat)) (kdS (2 * k.toNat + 1)) a R s s.size 0 a [] with
      | error ic => rw [hF] at h; simp [dcEnd] at h
      | ok o' =>
        rw [hF] at h
        simp only [dcEnd] at h
        split at h
        · cases h
        · obtain rfl : o' = o := by simpa using h
          omega

end Go.Proofs.YtegfgbcimlacbaaGreatDoor


/-
  DERIVED. Bytes held against each other; the terms of a set that was asked.
-/
namespace Go.Proofs.YtegfgbcimlacbaaGreatDoor
open Go Go.Proofs Go.RowKit

set_option maxRecDepth 100000 in
theorem bytes_other (w : World) (a1 a2 : Option Addr) (n1 n2 c1 c2 : Nat) (h : n1 ≠ n2) :
    Calls Tryz.prog 8 #[.slice a1 n1 c1, .slice a2 n2 c2] w fun e w' => e = .returned (.bool false) ∧ w = w' := by
  have h2 : ((n1 : Int) != (n2 : Int)) = true := by simp; omega
  go_enter Tryz.func8, Tryz.ntmps8
  go_wp2
  all_goals first | omega | (go_ret; exact ⟨rfl, rfl⟩)

theorem bytes_empty (w : World) (a1 a2 : Option Addr) (c1 c2 : Nat) :
    Calls Tryz.prog 8 #[.slice a1 0 c1, .slice a2 0 c2] w fun e w' => e = .returned (.bool true) ∧ w = w' := by
  go_enter Tryz.func8, Tryz.ntmps8
  go_wp2
  refine wp_loop_rounds 1 ?_
  rw [rounds_succ]
  go_wp2
  go_ret
  exact ⟨rfl, rfl⟩

theorem take_succ_eq {l1 l2 : List Nat} {k : Nat} (h1 : k < l1.length) (h2 : k < l2.length) : (l1.take (k + 1) = l2.take (k + 1)) ↔ (l1.take k = l2.take k ∧ l1.getD k 0 = l2.getD k 0) := by
  rw [List.take_add_one, List.take_add_one, List.getElem?_eq_getElem h1, List.getElem?_eq_getElem h2, List.getD_eq_getElem?_getD, List.getD_eq_getElem?_getD, List.getElem?_eq_getElem h1, List.getElem?_eq_getElem h2]
  simp only [Option.toList_some, Option.getD_some]
  constructor
  · intro h
    have := List.append_inj' h (by simp)
    simpa using this
  · rintro ⟨ha, hb⟩
    rw [ha, hb]

set_option maxRecDepth 100000 in
theorem bytes_some (w : World) (b1 o1 c1 b2 o2 c2 n : Nat) (l1 l2 : List Nat) (h1 : At w b1 o1 l1) (h2 : At w b2 o2 l2) (hn1 : n = l1.length) (hn2 : n = l2.length) (hl : n ≤ 140737488351232) :
    Calls Tryz.prog 8 #[.slice (some ⟨b1, o1, none⟩) n c1, .slice (some ⟨b2, o2, none⟩) n c2] w fun e w' => e = .returned (.bool (decide (l1 = l2))) ∧ ∃ m, w' = w.drewN m := by
  have HN1 : Hid (n = l1.length) := hn1
  have HN2 : Hid (n = l2.length) := hn2
  clear hn1 hn2
  go_enter Tryz.func8, Tryz.ntmps8
  go_wp2
  go_loopw [5] (fun i wr => ∃ k m : Nat, k ≤ n ∧ i = .int .i64 k ∧ wr = w.drewN m ∧ Hid (l1.take k = l2.take k)) (fun i _ => n - (intOf i).toNat)
  case atStart => exact ⟨0, 0, Nat.zero_le _, rfl, rfl, by simp [Hid]⟩
  case round =>
    obtain ⟨k, m, hk, rfl, rfl, HT⟩ := hrel
    by_cases hkn : k < n
    · obtain ⟨y1, HY1, hc1⟩ : ∃ y, Hid (y = l1.getD k 0) ∧ w.cell? ⟨b1, o1 + k, none⟩ = some (.int .u8 (y : Int)) := ⟨_, rfl, h1.1 k (by rw [← HN1.out]; exact hkn)⟩
      obtain ⟨y2, HY2, hc2⟩ : ∃ y, Hid (y = l2.getD k 0) ∧ w.cell? ⟨b2, o2 + k, none⟩ = some (.int .u8 (y : Int)) := ⟨_, rfl, h2.1 k (by rw [← HN2.out]; exact hkn)⟩
      have HS := take_succ_eq (l1 := l1) (l2 := l2) (k := k) (by rw [← HN1.out]; exact hkn) (by rw [← HN2.out]; exact hkn)
      rw [← HY1.out, ← HY2.out] at HS
      by_cases hy : y1 = y2
      · have HS' : Hid (l1.take (k + 1) = l2.take (k + 1)) := HS.2 ⟨HT.out, hy⟩
        subst hy
        clear HS
        go_wp2
        go_quiet (fail)
        go_wp2
        go_roundw
        case rel => exact ⟨k + 1, _, by omega, by go_num, rfl, HS'⟩
        case measure => simp [intOf]; omega
      · have HS' : Hid (decide (l1 = l2) = false) := by
          show _ = _
          simp only [decide_eq_false_iff_not]
          intro he
          exact hy (HS.1 (by rw [he])).2
        have hy' : ((y1 : Int) != (y2 : Int)) = true := by simp; omega
        clear HS
        go_wp2
        go_quiet (fail)
        go_wp2
        go_ret
        exact ⟨by rw [HS'.out]; rfl, _, World.drewN_drewN ..⟩
    · have hkn' : k = n := by omega
      subst hkn'
      have HE : Hid (decide (l1 = l2) = true) := by
        show _ = _
        have := HT.out
        rw [HN1.out, List.take_length, ← HN1.out, HN2.out, List.take_length] at this
        simp [this]
      go_wp2
      go_ret
      exact ⟨by rw [HE.out]; rfl, _, rfl⟩

/-- Bytes: held against each other. -/
theorem bytes_any {w : World} {v1 v2 : Value} {l1 l2 : List Nat} (h1 : V w v1 l1) (h2 : V w v2 l2) (hl : l1.length ≤ 140737488351232) :
    Calls Tryz.prog 8 #[v1, v2] w fun e w' => e = .returned (.bool (decide (l1 = l2))) ∧ ∃ m, w' = w.drewN m := by
  by_cases hlen : l1.length = l2.length
  · rcases h1 with ⟨a1, c1, rfl, rfl⟩ | ⟨b1, o1, c1, rfl, hp1, _, h1⟩
    · rcases h2 with ⟨a2, c2, rfl, rfl⟩ | ⟨b2, o2, c2, rfl, hp2, _, h2⟩
      · refine (bytes_empty w a1 a2 c1 c2).mono ?_; rintro e w' ⟨rfl, rfl⟩; exact ⟨by simp, 0, rfl⟩
      · simp at hlen; omega
    · rcases h2 with ⟨a2, c2, rfl, rfl⟩ | ⟨b2, o2, c2, rfl, hp2, _, h2⟩
      · exact absurd hlen (by simp; intro h; rw [h] at hp1; exact absurd hp1 (by decide))
      · rw [← hlen]
        exact bytes_some w b1 o1 c1 b2 o2 c2 _ l1 l2 h1 h2 rfl hlen hl
  · have hd : decide (l1 = l2) = false := by simp; intro h; exact hlen (by rw [h])
    rw [hd]
    rcases h1 with ⟨a1, c1, rfl, rfl⟩ | ⟨b1, o1, c1, rfl, hp1, _, h1⟩ <;> rcases h2 with ⟨a2, c2, rfl, rfl⟩ | ⟨b2, o2, c2, rfl, hp2, _, h2⟩ <;> (refine (bytes_other w _ _ _ _ _ _ hlen).mono ?_; rintro e w' ⟨rfl, rfl⟩; exact ⟨rfl, 0, rfl⟩)



end Go.Proofs.YtegfgbcimlacbaaGreatDoor
