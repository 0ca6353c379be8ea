import Derived.Test.YtdggplhkeekdjaaGreatDoorNs
/-
  DERIVED. What the document's New calls.
-/
namespace Go.Proofs.YtdggplhkeekdjaaGreatDoor.Ck
open Go Go.Proofs Go.RowKit

theorem gnew_any (w : World) (s : ByteArray) (a c : Int) : Calls Tryz.prog 38 #[.string s, .int .i64 a, .int .i64 c] w fun e w' => e = .returned (.agg #[.slice (some ⟨w.heap.size + 1, 0, none⟩) 1 1, .int .i64 c]) ∧ Below w.heap.size w w' ∧ LkAt w' (w.heap.size + 1) [(s, a)] := by
  go_enter Tryz.func38, Tryz.ntmps38
  go_wp2
  refine bodyPost_ret (v := .agg #[.slice (some ⟨w.heap.size + 1, 0, none⟩) 1 1, .int .i64 c]) (by simp [results, Tryz.results38, go_sem]) rfl ⟨rfl, ((Below.refl _ _).alloc (Nat.le_refl _) _).alloc (by simp) _, fun i hi => ?_⟩
  obtain rfl : i = 0 := by simp at hi; omega
  exact ⟨by simp, by simp⟩
set_option maxRecDepth 100000 in
theorem cno_any (w : World) (a c : Int) : Calls Tryz.prog 22 #[.int .i64 c, .int .i64 a] w fun e w' => ∃ g, e = .returned (.agg #[.slice (some ⟨g, 0, none⟩) 1 1, .int .i64 c]) ∧ w.heap.size < g ∧ LkAt w' g [(scB, a)] ∧ Below w.heap.size w w' := by
  have HR0 : Hid (Rz w.heap.size (w.alloc (.cells #[.slice none 0 0, .int .i64 0] 45))) := Rz.new w
  have HB0 : Hid (Below w.heap.size w (w.alloc (.cells #[.slice none 0 0, .int .i64 0] 45))) := (Below.refl _ _).alloc (Nat.le_refl _) _
  go_enter Tryz.func22, Tryz.ntmps22
  go_wp2_with (go_at_call 38; refine Stop.mk ?_)
  refine Stop.out ((gnew_any _ scB a c).mono ?_)
  rintro e W1 ⟨rfl, hb1, hl1⟩
  obtain ⟨r0, r1, rf⟩ := HR0.out.on hb1
  have HB1 : Hid (Below w.heap.size w W1) := HB0.out.trans (hb1.mono HB0.out.size)
  rw [Wk.size_alloc] at hl1 ⊢
  have HL1 : Hid (LkAt W1 (w.heap.size + 1 + 1) [(scB, a)]) := hl1
  clear hb1 hl1
  go_wp2
  exact bodyPost_ret (v := .agg #[.slice (some ⟨w.heap.size + 1 + 1, 0, none⟩) 1 1, .int .i64 c]) (by simp [results, Tryz.results22, go_sem, r0, r1]) rfl ⟨_, rfl, by omega, lk_put HL1.out (by omega) _ _, below_put HB1.out _ _⟩
theorem any_no (w : World) : Calls Tryz.prog 23 #[.agg #[.slice none 0 0, .int .i64 0]] w fun e w' => e = .returned (.bool false) ∧ Below w.heap.size w w' := by
  go_enter Tryz.func23, Tryz.ntmps23
  go_wp2
  go_ret
  exact ⟨rfl, (Below.refl _ _).alloc (Nat.le_refl _) _⟩
theorem any_yes (w : World) (g k cap : Nat) (c : Int) (hk : 0 < k) : Calls Tryz.prog 23 #[.agg #[.slice (some ⟨g, 0, none⟩) k cap, .int .i64 c]] w fun e w' => e = .returned (.bool true) ∧ Below w.heap.size w w' := by
  have hk2 : (k : Int) > 0 := by omega
  by_cases h0 : c = 0
  · have e0 : (c != 0) = false := by rw [h0]; rfl
    clear h0
    go_enter Tryz.func23, Tryz.ntmps23
    go_wp2
    go_ret
    exact ⟨rfl, (Below.refl _ _).alloc (Nat.le_refl _) _⟩
  · have e0 : (c != 0) = true := by simpa using h0
    clear h0
    go_enter Tryz.func23, Tryz.ntmps23
    go_wp2
    go_ret
    exact ⟨rfl, (Below.refl _ _).alloc (Nat.le_refl _) _⟩
theorem ck_len {v : Int} {s : ByteArray} {ls : List Lk} {c : Int} (h : ckK v s = some (ls, c)) : 0 < ls.length := by
  unfold ckK ckO at h
  repeat' split at h
  all_goals first | (cases h; done) | (cases h; simp)
/-- Any of what Check told. -/
theorem any_ck (w : World) (v : Int) (s : ByteArray) (r : Value) (h : FltD w r (ckK v s)) : Calls Tryz.prog 23 #[r] w fun e w' => e = .returned (.bool (!(ckK v s).isNone)) ∧ Below w.heap.size w w' := by
  cases hk : ckK v s with
  | none =>
    rw [hk] at h
    obtain rfl := h
    exact any_no w
  | some x =>
    obtain ⟨ls, c⟩ := x
    rw [hk] at h
    obtain ⟨g, cap, rfl, -⟩ := h
    exact any_yes w g _ cap c (ck_len hk)
set_option maxRecDepth 100000 in
set_option maxHeartbeats 4000000 in
theorem rupperNew_bad (w : World) (a : Int) (h : a < 1 ∨ 1000 < a) : Calls Tryz.prog 25 #[.int .i64 a] w fun e w' => ∃ g, e = .returned (.tuple #[.pointer none, .agg #[.slice (some ⟨g, 0, none⟩) 1 1, .int .i64 180]]) ∧ Below w.heap.size w w' := by
  have HR0 : Hid (Rz w.heap.size (w.alloc (.cells #[.slice none 0 0, .int .i64 0] 45))) := Rz.new w
  have HB0 : Hid (Below w.heap.size w (w.alloc (.cells #[.slice none 0 0, .int .i64 0] 45))) := (Below.refl _ _).alloc (Nat.le_refl _) _
  obtain ⟨q, hq⟩ : ∃ q : Bool, decide (a < 1) = q := ⟨_, rfl⟩
  cases q with
  | true =>
    have i1 : a < 1 := of_decide_eq_true hq
    clear hq h
    go_enter Tryz.func25, Tryz.ntmps25
    go_wp2_with (go_at_call 38; refine Stop.mk ?_)
    refine Stop.out ((gnew_any _ _ 0 180).mono ?_)
    rintro e W1 ⟨rfl, hb1, -⟩
    obtain ⟨r0, r1, rf⟩ := HR0.out.on hb1
    have HB1 : Hid (Below w.heap.size w W1) := HB0.out.trans (hb1.mono HB0.out.size)
    clear hb1
    go_wp2
    exact bodyPost_ret (v := .tuple #[.pointer none, .agg #[.slice (some ⟨_, 0, none⟩) 1 1, .int .i64 180]]) (by simp [results, Tryz.results25, go_sem, r0, r1]; rfl) rfl ⟨_, rfl, below_put HB1.out _ _⟩
  | false =>
    have i1 : ¬ (a < 1) := of_decide_eq_false hq
    have i2 : a > 1000 := by omega
    clear hq h
    go_enter Tryz.func25, Tryz.ntmps25
    go_wp2_with (go_at_call 38; refine Stop.mk ?_)
    refine Stop.out ((gnew_any _ _ 0 180).mono ?_)
    rintro e W1 ⟨rfl, hb1, -⟩
    obtain ⟨r0, r1, rf⟩ := HR0.out.on hb1
    have HB1 : Hid (Below w.heap.size w W1) := HB0.out.trans (hb1.mono HB0.out.size)
    clear hb1
    go_wp2
    exact bodyPost_ret (v := .tuple #[.pointer none, .agg #[.slice (some ⟨_, 0, none⟩) 1 1, .int .i64 180]]) (by simp [results, Tryz.results25, go_sem, r0, r1]; rfl) rfl ⟨_, rfl, below_put HB1.out _ _⟩
end Go.Proofs.YtdggplhkeekdjaaGreatDoor.Ck

/-
  DERIVED. What the document's New goes by.
-/
namespace Go.Proofs.YtdggplhkeekdjaaGreatDoor.Ck
open Go Go.Proofs Go.RowKit

/-- What the document's New leaves. -/
def RNewP (w : World) (o : Option Int) (e : Ending) (w' : World) : Prop :=
  (match o with
   | none => ∃ q p, e = .returned (.tuple #[.pointer (some ⟨q, 0, none⟩), .agg #[.slice none 0 0, .int .i64 0]]) ∧ Nv.RpAt w' q p ∧ w.heap.size ≤ q ∧ w.heap.size ≤ p
   | some k => ∃ g, e = .returned (.tuple #[.pointer none, .agg #[.slice (some ⟨g, 0, none⟩) 1 1, .int .i64 340]]) ∧ LkAt w' g [(scB, k)] ∧ w.heap.size ≤ g) ∧ Below w.heap.size w w'
/-- What lies there all the while. -/
structure DI (w X : World) (C : Array Value) : Prop where
  k : Bk X w.heap.size C 26
  r : Rz (w.heap.size + 1) X
  b : Below w.heap.size w X
theorem DI.on {w X Y : World} {C : Array Value} (h : DI w X C) (hb : Below X.heap.size X Y) : DI w Y C := ⟨h.k.on hb, h.r.on hb, h.b.trans (hb.mono h.b.size)⟩
/-- A fault is told. -/
theorem told_fault {w X Y : World} {C : Array Value} {g : Nat} {k : Int} (h : DI w X C) (hg : X.heap.size < g) (hl : LkAt Y g [(scB, k)]) (hb : Below X.heap.size X Y) (v0 v1 : Value) :
    LkAt ((Y.setCell ⟨w.heap.size + 1, 0, none⟩ v0).setCell ⟨w.heap.size + 1, 1, none⟩ v1) g [(scB, k)] ∧ Below w.heap.size w ((Y.setCell ⟨w.heap.size + 1, 0, none⟩ v0).setCell ⟨w.heap.size + 1, 1, none⟩ v1) ∧ w.heap.size ≤ g := by
  have hlt : w.heap.size + 1 < X.heap.size := clt h.r.r0
  refine ⟨lk_put hl (by omega) _ _, ?_, by omega⟩
  exact ((h.b.trans (hb.mono h.b.size)).setCell (p := ⟨w.heap.size + 1, 0, none⟩) (show w.heap.size ≤ w.heap.size + 1 by omega) _).setCell (p := ⟨w.heap.size + 1, 1, none⟩) (show w.heap.size ≤ w.heap.size + 1 by omega) _
theorem cs_out (T : List ByteArray) (n : Nat) (hn : T.length = n) : ((decide (n < 1) || decide (128 < n)) || !(T.drop 0).all clB) = !csB T := by
  unfold csB
  rw [hn, List.drop_zero]
  by_cases h0 : n = 0
  · simp [h0]
  · by_cases h1 : n ≤ 128
    · rw [decide_eq_false (show ¬ n < 1 by omega), decide_eq_false (show ¬ 128 < n by omega), decide_eq_true h1, decide_eq_true (show n ≠ 0 from h0)]; simp
    · rw [decide_eq_false (show ¬ n < 1 by omega), decide_eq_true (show 128 < n by omega), decide_eq_false h1]; simp
/-- A syntax that may not be, at a place. -/
def syB (l : List Int) (i : Nat) : Bool := !s12 (l.getD i 0) || (decide (0 < i) && (l.getD i 0 == l.getD 0 0))
def syG (l : List Int) : Nat → Nat → Bool
  | 0, _ => false
  | f + 1, i => syB l i || syG l f (i + 1)
theorem sy_out (l : List Int) (m : Nat) (hm : l.length = m) : ((decide (m < 1) || decide (2 < m)) || syG l m 0) = !ssB l := by
  unfold ssB
  match l, hm with
  | [], hm => subst hm; rfl
  | [a], hm =>
    subst hm
    show ((false || false) || (syB [a] 0 || false)) = _
    simp [syB]
  | [a, b], hm =>
    subst hm
    show ((false || false) || (syB [a, b] 0 || (syB [a, b] 1 || false))) = _
    by_cases hab : b = a
    · subst hab
      simp [syB]
    · have h1 : (b == a) = false := by simpa using hab
      have h2 : (a != b) = true := by simpa using fun e => hab (e.symm)
      simp [syB, h1, h2]
  | a :: b :: d :: r, hm =>
    have h2 : decide (2 < m) = true := decide_eq_true (by rw [← hm]; simp)
    rw [h2]
    simp
/-- A copy of the configuration, a list of which grows. -/
structure DJ (w X : World) (C : Array Value) (D p j e : Nat) (mk : Option Addr → Nat → Nat → Array Value) (a : Option Addr) (k cp : Nat) (xs : List Value) : Prop where
  di : DI w X C
  p1 : X.cell? ⟨p, 1, none⟩ = some (.int .i64 1)
  d : Bk X D (mk a k cp) 26
  o : X.ownsRow (D + 1) e 1 (.slice a k cp) k xs
  l1 : w.heap.size + 1 < D
  l2 : p < D
theorem DJ.on {w X Y : World} {C : Array Value} {D p j e : Nat} {mk : Option Addr → Nat → Nat → Array Value} {a : Option Addr} {k cp : Nat} {xs : List Value} (h : DJ w X C D p j e mk a k cp xs) (hb : Below X.heap.size X Y) : DJ w Y C D p j e mk a k cp xs :=
  ⟨h.di.on hb, (hb.cell (clt h.p1)).trans h.p1, h.d.on hb, Wk.own_keep h.o fun g hg => hb.block g (h.o.lt g hg).2, h.l1, h.l2⟩
theorem DJ.next {w X W4 : World} {C : Array Value} {D p j e : Nat} {mk : Option Addr → Nat → Nat → Array Value} {a : Option Addr} {k cp : Nat} {xs ys : List Value} {o' : Obj} {g4 c4 : Nat} (h : DJ w X C D p j e mk a k cp xs) (hmk : ∀ a k cp a' k' cp', (mk a k cp).setIfInBounds j (.slice a' k' cp') = mk a' k' cp')
    (ho : W4.ownsRow (D + 1) e 1 (.slice (some ⟨g4, 0, none⟩) (k + 1) c4) (k + 1) ys) (hg : (X.alloc o').drew.grownBy W4 (Value.slice a k cp).ownBlock) :
    Bk W4 D (mk a k cp) 26 ∧ DJ w (W4.setCell ⟨D, j, none⟩ (.slice (some ⟨g4, 0, none⟩) (k + 1) c4)) C D p j e mk (some ⟨g4, 0, none⟩) (k + 1) c4 ys := by
  have hsz : X.heap.size ≤ (X.alloc o').drew.heap.size := by rw [show (X.alloc o').drew.heap.size = (X.alloc o').heap.size from rfl, Wk.size_alloc]; omega
  have hD := h.d.lt
  have hb0 : Below (D + 1) X (X.alloc o').drew := ((Below.refl _ _).alloc hD _).drew
  have hb : Below (D + 1) X W4 := hb0.grown hg (by omega) (fun q hq => (h.o.lt q hq).1)
  have hd4 : Bk W4 D (mk a k cp) 26 := (hb.block D (by omega)).trans h.d
  have hl1 := h.l1
  have hl2 := h.l2
  have hw0 : w.heap.size ≤ X.heap.size := h.di.b.size
  refine ⟨hd4, ⟨⟨?_, ⟨?_, ?_, ?_⟩, ?_⟩, ?_, ?_, ?_, hl1, hl2⟩⟩
  · exact Bk.off ((hb.block _ (by omega)).trans h.di.k) (by omega) _
  · exact (Nv.set_off (by omega)).trans ((hb.cell (p := ⟨w.heap.size + 1, 0, none⟩) (show w.heap.size + 1 < D + 1 by omega)).trans h.di.r.r0)
  · exact (Nv.set_off (by omega)).trans ((hb.cell (p := ⟨w.heap.size + 1, 1, none⟩) (show w.heap.size + 1 < D + 1 by omega)).trans h.di.r.r1)
  · exact fun i => (World.frozen?_setCell _ _ _ _).trans ((hb.frozen (p := ⟨w.heap.size + 1, i, none⟩) (show w.heap.size + 1 < D + 1 by omega)).trans (h.di.r.rf i))
  · exact (h.di.b.trans (hb.mono (by omega))).setCell (p := ⟨D, j, none⟩) (show w.heap.size ≤ D by omega) _
  · exact (Nv.set_off (by omega)).trans ((hb.cell (p := ⟨p, 1, none⟩) (show p < D + 1 by omega)).trans h.p1)
  · have := hd4.set j (.slice (some ⟨g4, 0, none⟩) (k + 1) c4)
    rw [hmk] at this
    exact this
  · exact own_set ho (by omega)
end Go.Proofs.YtdggplhkeekdjaaGreatDoor.Ck
