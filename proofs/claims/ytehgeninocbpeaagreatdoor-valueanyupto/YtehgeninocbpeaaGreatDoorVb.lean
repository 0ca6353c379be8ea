import Derived.Test.YtehgeninocbpeaaGreatDoorVa
import Derived.Deep.LoopGhost
/-
  DERIVED. A key of spans: matcher, Match.
-/
namespace Go.Proofs.YtehgeninocbpeaaGreatDoor.Tm
open Go Go.Proofs Go.RowKit

/-- What a key's function is, or why there is none. -/
def SpP (W : World) (vr : Int) (F L : Int) (o : Option (Int × Int)) (e : Ending) (w' : World) : Prop :=
  Below W.heap.size W w' ∧ ((o = none ∧ ∃ pv pa, e = .returned (.tuple #[.func (.func 60) #[] #[ptr pv, ptr pa], .nilIface]) ∧ Cap w' pv pa vr F L) ∨ (o ≠ none ∧ ∃ v, e = .returned (.tuple #[.nilFunc, v]) ∧ PErr w' v o))

set_option maxRecDepth 100000 in
set_option maxHeartbeats 2000000 in
theorem spanMatcher_any (w : World) (vr : Int) (hv : isSp vr) (key : ByteArray) (hk : key.size ≤ 140737488351232) (hT : Mt w) (hO : Ot w) (hR : Rt w) : Calls Tryz.prog 36 #[.int .i64 vr, .string key] w (SpP w vr (ask vr key).1.1 (ask vr key).1.2 (ask vr key).2) := by
  obtain ⟨W0, hW0⟩ : ∃ W0, w.alloc (.cells #[.int .i64 vr] 26) = W0 := ⟨_, rfl⟩
  have hb0 : Below w.heap.size w W0 := hW0 ▸ (Below.refl _ _).alloc (Nat.le_refl _) _
  have c0 : W0.cell? ⟨w.heap.size, 0, none⟩ = some (.int .i64 vr) := by rw [← hW0]; simp
  have c := asked_any W0 vr hv key hk (hT.on hb0) (hO.on hb0) (hR.on hb0)
  have HT : Hid (Mt W0) := hT.on hb0
  have HO : Hid (Ot W0) := hO.on hb0
  have HB : Hid (Below w.heap.size w W0) := hb0
  generalize (ask vr key).1.1 = F at *
  generalize (ask vr key).1.2 = L at *
  generalize (ask vr key).2 = o at *
  unfold sp at c
  clear hT hO hR hb0 hv hk
  go_enter Tryz.func36, Tryz.ntmps36
  go_wp2_with (go_at_call 59; refine Stop.mk ?_)
  refine Stop.out (c.mono ?_)
  rintro e W1 ⟨v, rfl, hvv, hb⟩
  obtain ⟨W2, hW2⟩ : ∃ W2, W1.alloc (.cells #[.int .i64 F, .int .i64 L] 66) = W2 := ⟨_, rfl⟩
  have hb2 : Below W1.heap.size W1 W2 := hW2 ▸ (Below.refl _ _).alloc (Nat.le_refl _) _
  have hb02 : Below W0.heap.size W0 W2 := hb.trans (hb2.mono hb.size)
  have C2 : Hid (Cap W2 w.heap.size W1.heap.size vr F L) := ⟨(hb02.cell (cell_lt c0)).trans c0, hW2 ▸ World.rowIs_alloc W1 _ 66 _ (row_lit _), HT.out.on hb02, HO.out.on hb02⟩
  have B2 : Hid (Below w.heap.size w W2) := HB.out.trans (hb02.mono HB.out.size)
  have V2 : Hid (PErr W2 v o) := hvv.next hb2
  clear hb hb2 hb02 HT HO HB c c0 hW0
  cases o with
  | some x =>
    obtain ⟨g, rfl, _⟩ := hvv
    go_wp2
    refine bodyPost_ret (v := .tuple #[.nilFunc, .iface 88 (.pointer (some ⟨g, 0, none⟩))]) (by simp [results, Tryz.results36, go_sem]) rfl ⟨B2.out, .inr ⟨by simp, _, rfl, V2.out⟩⟩
  | none =>
    obtain rfl : v = .nilIface := hvv
    go_wp2
    refine bodyPost_ret (v := .tuple #[.func (.func 60) #[] #[ptr w.heap.size, ptr W1.heap.size], .nilIface]) (by simp [results, Tryz.results36, go_sem, ptr]) rfl ⟨B2.out, .inl ⟨rfl, _, _, rfl, C2.out⟩⟩

/-- The first piece that the function takes. -/
def fdx (m : ByteArray → Bool) : List ByteArray → Nat → Int
  | [], _ => -1
  | x :: xs, i => if m x = true then (i : Int) else fdx m xs (i + 1)
theorem fdx_any (m : ByteArray → Bool) : ∀ xs i, decide (0 ≤ fdx m xs i) = xs.any m
  | [], i => by rw [fdx]; rfl
  | x :: xs, i => by
    rw [fdx, List.any_cons]
    cases hx : m x with
    | true => rw [if_pos rfl]; simp
    | false => rw [if_neg (by simp), fdx_any m xs (i + 1)]; simp
theorem fdx_le (m : ByteArray → Bool) : ∀ xs i, -1 ≤ fdx m xs i ∧ fdx m xs i ≤ i + xs.length
  | [], i => by rw [fdx]; constructor <;> simp
  | x :: xs, i => by
    rw [fdx]
    have := fdx_le m xs (i + 1)
    split
    · simp; omega
    · simp at this ⊢; omega

set_option maxRecDepth 100000 in
set_option maxHeartbeats 2000000 in
theorem indexFunc60 (W : World) (g cap : Nat) (xs : List ByteArray) (hn : xs.length ≤ 1000000000000) (cells : ∀ i (h : i < xs.length), W.cell? ⟨g, i, none⟩ = some (.string xs[i])) (pv pa : Nat) (m : ByteArray → Bool)
    (hc : ∀ W', Below W.heap.size W W' → ∀ u ∈ xs, Calls Tryz.prog 60 #[.string u, ptr pv, ptr pa] W' (BoolP W' (m u))) :
    Calls Tryz.prog 47 #[.slice (some ⟨g, 0, none⟩) xs.length cap, .func (.func 60) #[] #[ptr pv, ptr pa]] W fun e w' => e = .returned (.int .i64 (fdx m xs 0)) ∧ Below W.heap.size W w' := by
  unfold ptr at hc ⊢
  obtain ⟨R, hR⟩ : ∃ R, fdx m xs 0 = R := ⟨_, rfl⟩
  have HR : Hid (fdx m (xs.drop 0) 0 = R) := hR
  rw [hR]
  obtain ⟨n, hl⟩ : ∃ n, xs.length = n := ⟨_, rfl⟩
  have HL : Hid (xs.length = n) := hl
  have HCe : Hid (∀ i (h : i < xs.length), W.cell? ⟨g, i, none⟩ = some (.string xs[i])) := cells
  have HC : Hid _ := hc
  rw [hl] at hn ⊢
  clear hR cells hc hl
  go_enter Tryz.func47, Tryz.ntmps47
  go_wp2
  go_loopg [8] n (fun k s8 wx => ∃ i : Nat, s8 = .int .i64 (i : Int) ∧ i ≤ n ∧ k + i = n ∧ Hid (fdx m (xs.drop i) i = R) ∧ Hid (Below W.heap.size W wx))
  case atStart => exact ⟨0, rfl, by omega, by omega, HR, Below.refl _ _⟩
  case round =>
    obtain ⟨i, rfl, hi, hg, HI, HB⟩ := hrel
    by_cases hlt : i < n
    · have hlx : i < xs.length := by have := HL.out; omega
      obtain ⟨u, hu⟩ : ∃ u, xs[i] = u := ⟨_, rfl⟩
      have cl : wr.cell? ⟨g, i, none⟩ = some (.string u) := by
        have h0 := HCe.out i hlx
        rw [hu] at h0
        exact (HB.out.cell (cell_lt h0)).trans h0
      have c := HC.out wr HB.out u (by rw [← hu]; exact List.getElem_mem hlx)
      have HI2 : Hid ((if m u = true then (i : Int) else fdx m (xs.drop (i + 1)) (i + 1)) = R) := by
        have := HI.out
        rw [List.drop_eq_getElem_cons hlx, fdx, hu] at this
        exact this
      clear HI hlx hu
      cases hm : m u with
      | true =>
        rw [hm] at c
        have e : Hid ((i : Int) = R) := by have := HI2.out; rw [if_pos hm] at this; exact this
        clear HI2 hm
        go_wp2_with (go_at_call 60; refine Stop.mk ?_)
        refine Stop.out (c.mono ?_)
        rintro e2 W2 ⟨rfl, hb2⟩
        have HB2 : Hid (Below W.heap.size W W2) := HB.out.trans (hb2.mono HB.out.size)
        clear hb2 c
        go_wp2
        go_ret
        exact ⟨by rw [← e.out]; rfl, HB2.out⟩
      | false =>
        rw [hm] at c
        have HI3 : Hid (fdx m (xs.drop (i + 1)) (i + 1) = R) := by have := HI2.out; rw [if_neg (by rw [hm]; simp)] at this; exact this
        clear HI2 hm
        go_wp2_with (go_at_call 60; refine Stop.mk ?_)
        refine Stop.out (c.mono ?_)
        rintro e2 W2 ⟨rfl, hb2⟩
        have HB2 : Hid (Below W.heap.size W W2) := HB.out.trans (hb2.mono HB.out.size)
        clear hb2 c
        go_wp2
        go_roundg (n - (i + 1))
        case measure => omega
        case rel => exact ⟨i + 1, by simp, by omega, by omega, HI3, HB2⟩
    · have e : Hid ((-1 : Int) = R) := by
        have := HI.out
        rw [List.drop_eq_nil_of_le (by have := HL.out; omega), fdx] at this
        exact this
      clear HI
      go_wp2
      go_ret
      exact ⟨by rw [← e.out]; rfl, HB.out⟩

set_option maxRecDepth 100000 in
theorem contains60 (W : World) (g cap : Nat) (xs : List ByteArray) (hn : xs.length ≤ 1000000000000) (cells : ∀ i (h : i < xs.length), W.cell? ⟨g, i, none⟩ = some (.string xs[i])) (pv pa : Nat) (m : ByteArray → Bool)
    (hc : ∀ W', Below W.heap.size W W' → ∀ u ∈ xs, Calls Tryz.prog 60 #[.string u, ptr pv, ptr pa] W' (BoolP W' (m u))) :
    Calls Tryz.prog 19 #[.slice (some ⟨g, 0, none⟩) xs.length cap, .func (.func 60) #[] #[ptr pv, ptr pa]] W (BoolP W (xs.any m)) := by
  have c := indexFunc60 W g cap xs hn cells pv pa m hc
  have e := fdx_any m xs 0
  have b := fdx_le m xs 0
  rw [← e]
  generalize fdx m xs 0 = R at *
  clear hc cells e
  generalize xs.length = n at *
  unfold ptr at c ⊢
  go_enter Tryz.func19, Tryz.ntmps19
  go_wp2_with (go_at_call 47; refine Stop.mk ?_)
  refine Stop.out (c.mono ?_)
  rintro e W1 ⟨rfl, hb⟩
  go_wp2
  go_ret
  exact ⟨rfl, hb⟩

theorem text_some {k : ByteArray} (h : k.size ≠ 0) : k.toList.isEmpty = false := by
  rw [ByteArray.toList_eq]
  cases hl : k.data.toList with
  | nil =>
    have : k.data.toList.length = 0 := by rw [hl]; rfl
    rw [Array.length_toList] at this
    exact absurd this h
  | cons a l => rfl

set_option maxRecDepth 100000 in
set_option maxHeartbeats 2000000 in
theorem matcher_sp (w : World) (vr : Int) (hv : isSp vr) (key : ByteArray) (hk : key.size ≤ 140737488351232) (hk0 : key.size ≠ 0) (hT : Mt w) (hO : Ot w) (hR : Rt w) : Calls Tryz.prog 17 #[.int .i64 vr, .string key] w (SpP w vr (ask vr key).1.1 (ask vr key).1.2 (ask vr key).2) := by
  obtain ⟨W0, hW0⟩ : ∃ W0, w.alloc (.cells #[.string key] 9) = W0 := ⟨_, rfl⟩
  have hb0 : Below w.heap.size w W0 := hW0 ▸ (Below.refl _ _).alloc (Nat.le_refl _) _
  have c0 : W0.cell? ⟨w.heap.size, 0, none⟩ = some (.string key) := by rw [← hW0]; simp
  have cR := ruleOf_any W0 vr (hR.on hb0)
  rw [isSp_rB hv] at cR
  have cS := fun W h1 h2 h3 => spanMatcher_any W vr hv key hk h1 h2 h3
  have HT : Hid (Mt W0) := hT.on hb0
  have HO : Hid (Ot W0) := hO.on hb0
  have HR : Hid (Rt W0) := hR.on hb0
  have HB : Hid (Below w.heap.size w W0) := hb0
  have hke := text_some hk0
  generalize (ask vr key).1.1 = F at *
  generalize (ask vr key).1.2 = L at *
  generalize (ask vr key).2 = o at *
  clear hT hO hR hb0 hk hk0
  go_enter Tryz.func17, Tryz.ntmps17
  go_wp2_with (go_at_call 18; refine Stop.mk ?_)
  refine Stop.out (cR.mono ?_)
  rintro e W1 ⟨rfl, hb⟩
  have hf := field0 W1 1 (rC vr)
  have c1 : W1.cell? ⟨w.heap.size, 0, none⟩ = some (.string key) := (hb.cell (cell_lt c0)).trans c0
  have cs := cS W1 (HT.out.on hb) (HO.out.on hb) (HR.out.on hb)
  have HB1 : Hid (Below w.heap.size w W1) := HB.out.trans (hb.mono HB.out.size)
  clear cR hb HT HO HR HB c0 hW0 cS
  go_wp2_with (go_at_call 36; refine Stop.mk ?_)
  refine Stop.out (cs.mono ?_)
  rintro e W2 ⟨hb2, h | h⟩
  · obtain ⟨ho, pv, pa, rfl, hC⟩ := h
    have HB2 : Hid (Below w.heap.size w W2) := HB1.out.trans (hb2.mono HB1.out.size)
    have HC : Hid (Cap W2 pv pa vr F L) := hC
    have HO : Hid (o = none) := ho
    unfold ptr
    clear hC hb2 cs ho
    go_wp2
    refine bodyPost_ret (v := .tuple #[.func (.func 60) #[] #[ptr pv, ptr pa], .nilIface]) (by simp [results, Tryz.results17, go_sem, ptr]) rfl ⟨HB2.out, .inl ⟨HO.out, _, _, rfl, HC.out⟩⟩
  · obtain ⟨ho, v, rfl, hV⟩ := h
    have HB2 : Hid (Below w.heap.size w W2) := HB1.out.trans (hb2.mono HB1.out.size)
    have HV : Hid (PErr W2 v o) := hV
    have HO : Hid (o ≠ none) := ho
    clear hV hb2 cs ho
    go_wp2
    refine bodyPost_ret (v := .tuple #[.nilFunc, v]) (by simp [results, Tryz.results17, go_sem]) rfl ⟨HB2.out, .inr ⟨HO.out, _, rfl, HV.out⟩⟩

/-- What Match tells for a kind with spans. -/
def mtS (vr : Int) (key v : ByteArray) : Bool := if (ask vr key).2 = none then (Sp.spB v).any (spM vr (ask vr key).1.1 (ask vr key).1.2) else false
theorem rC_sp {vr : Int} (h : isSp vr) : rC vr = true := by rcases h with rfl | rfl | rfl <;> rfl

theorem spB_size (v : ByteArray) : ∀ u ∈ Sp.spB v, u.size ≤ v.size := by
  have key : ∀ l : List UInt8, ∀ x ∈ Sp.spL l, x.length ≤ l.length := by
    intro l
    induction l with
    | nil => intro x hx; rw [Sp.spL] at hx; rw [List.mem_singleton.1 hx]; exact Nat.le_refl _
    | cons b l ih =>
      intro x hx
      rw [Sp.spL] at hx
      split at hx
      · rcases List.mem_cons.1 hx with rfl | hx
        · exact Nat.zero_le _
        · have := ih x hx
          rw [List.length_cons]; omega
      · cases hs : Sp.spL l with
        | nil => exact absurd hs (Sp.spL_ne l)
        | cons a t =>
          rw [hs] at hx ih
          rcases List.mem_cons.1 hx with rfl | hx
          · have := ih a (by simp)
            rw [List.length_cons, List.length_cons]; omega
          · have := ih x (List.mem_cons_of_mem _ hx)
            rw [List.length_cons]; omega
  intro u hu
  unfold Sp.spB Sp.bsL at hu
  obtain ⟨x, hx, rfl⟩ := List.mem_map.1 hu
  have := key _ x hx
  rw [Array.length_toList] at this
  show x.toArray.size ≤ _
  rw [List.size_toArray]
  exact this

set_option maxRecDepth 100000 in
set_option maxHeartbeats 2000000 in
theorem match_sp (w : World) (vr : Int) (hv : isSp vr) (key v : ByteArray) (hk : key.size ≤ 140737488351232) (hk0 : key.size ≠ 0) (hvs : v.size ≤ 8000000) (hT : Mt w) (hO : Ot w) (hR : Rt w) : Calls Tryz.prog 6 #[.int .i64 vr, .string key, .string v] w (PostR w (.bool (mtS vr key v)) (ask vr key).2) := by
  have cM := matcher_sp w vr hv key hk hk0 hT hO hR
  have cR := fun W h => ruleOf_any W vr h
  rw [rC_sp hv] at cR
  have cS := fun W => Sp.str_split v W hvs
  have hlen := Sp.spB_len v
  have hsz := spB_size v
  have HM : Hid (mtS vr key v = if (ask vr key).2 = none then (Sp.spB v).any (spM vr (ask vr key).1.1 (ask vr key).1.2) else false) := rfl
  have cC := fun W pv pa F L (h : Cap W pv pa vr F L) u (hu : u ∈ Sp.spB v) => clos60 W pv pa vr F L hv u (by have := hsz u hu; omega) h
  generalize (ask vr key).1.1 = F at *
  generalize (ask vr key).1.2 = L at *
  generalize (ask vr key).2 = o at *
  generalize mtS vr key v = Z at *
  generalize hxs : Sp.spB v = xs at *
  have HR : Hid (Rt w) := hR
  have HC : Hid _ := cC
  clear hT hO hR hsz hxs hk hk0 cC
  go_enter Tryz.func6, Tryz.ntmps6
  go_wp2_with (go_at_call 17; refine Stop.mk ?_)
  refine Stop.out (cM.mono ?_)
  rintro e W1 ⟨hb1, h | h⟩
  · obtain ⟨ho, pv, pa, rfl, hC⟩ := h
    have HB1 : Hid (Below w.heap.size w W1) := hb1
    have HK : Hid (Cap W1 pv pa vr F L) := hC
    have HO : Hid (o = none) := ho
    have HZ : Hid (Z = xs.any (spM vr F L)) := by show _ = _; rw [HM.out, if_pos ho]
    have cr := cR W1 (HR.out.on hb1)
    clear hC hb1 cM ho HM cR HR
    unfold ptr
    go_wp2_with (go_at_call 18; refine Stop.mk ?_)
    refine Stop.out (cr.mono ?_)
    rintro e W2 ⟨rfl, hb2⟩
    have hf := field1 W2 (rB vr) true
    have HB2 : Hid (Below w.heap.size w W2) := HB1.out.trans (hb2.mono HB1.out.size)
    have HK2 : Hid (Cap W2 pv pa vr F L) := HK.out.on hb2
    clear HB1 HK hb2 cr
    go_wp2_with (go_at_call 20; refine Stop.mk ?_)
    refine Stop.out ((cS W2).mono ?_)
    rintro e W3 ⟨rfl, hw3⟩
    have hb3 : Below W2.heap.size W2 W3 := hw3 ▸ (Below.refl _ _).alloc (Nat.le_refl _) _
    have HK3 : Hid (Cap W3 pv pa vr F L) := HK2.out.on hb3
    have HB3 : Hid (Below w.heap.size w W3) := HB2.out.trans (hb3.mono HB2.out.size)
    have cells : ∀ i (h : i < xs.length), W3.cell? ⟨W2.heap.size, i, none⟩ = some (.string xs[i]) := fun i hi => by
      rw [← hw3]
      have := (World.rowIs_alloc W2 (xs.map Value.string).toArray 9 (fun k => (xs.map Value.string).toArray.getD k undef) (row_lit _)).cell (i := i) (by simp; exact hi)
      rw [this]
      simp [Array.getD, hi]
    have cc := contains60 W3 W2.heap.size xs.length xs (by omega) cells pv pa (spM vr F L) (fun W' hb u hu => HC.out W' pv pa F L (HK3.out.on hb) u hu)
    unfold ptr at cc
    rw [← HZ.out] at cc
    clear cells HK2 HB2 hb3 cS hw3 HK3 HC
    generalize xs.length = n at *
    go_wp2_with (go_at_call 19; refine Stop.mk ?_)
    refine Stop.out (cc.mono ?_)
    rintro e W4 ⟨rfl, hb4⟩
    have HB4 : Hid (Below w.heap.size w W4) := HB3.out.trans (hb4.mono HB3.out.size)
    clear hb4 cc HB3
    go_wp2
    refine bodyPost_ret (v := .tuple #[.bool Z, .nilIface]) (by simp [results, Tryz.results6, go_sem]) rfl ⟨_, rfl, by rw [HO.out]; rfl, HB4.out⟩
  · obtain ⟨ho, vv, rfl, hV⟩ := h
    have HB1 : Hid (Below w.heap.size w W1) := hb1
    have HV : Hid (PErr W1 vv o) := hV
    have HZ : Hid (Z = false) := by show _ = _; rw [HM.out, if_neg ho]
    obtain ⟨x, rfl⟩ := Option.ne_none_iff_exists'.1 ho
    obtain ⟨g, rfl, _⟩ := hV
    clear hb1 cM HM cR HR HC cS
    go_wp2
    refine bodyPost_ret (v := .tuple #[.bool Z, .iface 88 (.pointer (some ⟨g, 0, none⟩))]) (by rw [HZ.out]; simp [results, Tryz.results6, go_sem]) rfl ⟨_, rfl, HV.out, HB1.out⟩
end Go.Proofs.YtehgeninocbpeaaGreatDoor.Tm
