import Derived.Test.YtoikdpjjcnmgeaaGreatDoorXj
import Derived.Test.YtoikdpjjcnmgeaaGreatDoorQc
import Derived.Test.YtoikdpjjcnmgeaaGreatDoorVq
import Derived.Test.YtoikdpjjcnmgeaaGreatDoorXk
section
/-
  DERIVED. The document's reader in memory: nodes put behind, counts written; what its three functions tell.
-/
namespace Go.Proofs.YtoikdpjjcnmgeaaGreatDoor
open Go Go.Proofs Go.RowKit
open Wk (Nd nds)
open Go.Sort

theorem Kq.grown {base : Nat} {W W1 : World} {z : Nat} {v : Value} {n : Nat} {xs : List Value} (ho : W.ownsRow base 54 z v n xs) (hg : W.grownBy W1 v.ownBlock) : Kq W W1 := fun _ _ _ e _ h2 => grown_other ho hg e h2
theorem DR.lt {base rb : Nat} {bv nv lv : Value} {c : Int} {W : World} {M : List Nd} (h : DR base rb bv W M nv lv c) : base ≤ W.heap.size := by
  have h1 := h.hb
  have h2 : rb < W.heap.size := Rp.cell_lt h.c0
  omega
theorem DR.added {base rb : Nat} {bv nv nv' lv : Value} {c : Int} {W W1 : World} {M M' : List Nd} (h : DR base rb bv W M nv lv c) (hg : W.grownBy W1 nv.ownBlock) (hn : W1.ownsRow base 54 4 nv' M'.length (nds M')) :
    W1.cell? ⟨rb, 1, none⟩ = some nv ∧ W1.frozen? ⟨rb, 1, none⟩ = false ∧ DR base rb bv (W1.setCell ⟨rb, 1, none⟩ nv') M' nv' lv c ∧ Below base W (W1.setCell ⟨rb, 1, none⟩ nv') ∧ Kq W (W1.setCell ⟨rb, 1, none⟩ nv') := by
  obtain ⟨cs, ht⟩ := h.ty
  have hr := grown_other h.nd hg ht (by decide)
  have c0 := (cell_block (i := 0) hr).trans h.c0
  have c1 := (cell_block (i := 1) hr).trans h.c1
  have c2 := (cell_block (i := 2) hr).trans h.c2
  have c3 := (cell_block (i := 3) hr).trans h.c3
  have fz : ∀ i, W1.frozen? ⟨rb, i, none⟩ = false := fun i => (frozen_block hr).trans (h.fz i)
  have hk : ∀ e : TypeId, e ≠ 79 → ∀ (g : Nat) (cur : Array Value), W1.heap[g]? = some (Obj.cells cur e) → (W1.setCell ⟨rb, 1, none⟩ nv').heap[g]? = W1.heap[g]? := fun e he g cur hgg => heap_setCell_other W1 ⟨rb, 1, none⟩ g nv' (fun hc => by
    have hc : g = rb := hc
    rw [hc, hr, ht] at hgg
    cases hgg
    exact he rfl)
  exact ⟨c1, fz 1, ⟨(Rp.cell_set_ne (by decide)).trans c0, Rp.cell_set_eq c1, (Rp.cell_set_ne (by decide)).trans c2, (Rp.cell_set_ne (by decide)).trans c3, fun i => by simpa using fz i, ty_set ⟨cs, hr.trans ht⟩, own_same hn (hk 54 (by decide)), h.hb⟩,
    (below_grown h.nd hg h.lt).setCell (p := ⟨rb, 1, none⟩) h.hb _, (Kq.grown h.nd hg).trans (Kq.set ⟨cs, hr.trans ht⟩)⟩
theorem DR.kept {base rb : Nat} {bv nv lv : Value} {c : Int} {W W1 : World} {M M' : List Nd} (h : DR base rb bv W M nv lv c) (hg : W.grownBy W1 nv.ownBlock) (hn : W1.ownsRow base 54 4 nv M'.length (nds M')) : DR base rb bv W1 M' nv lv c := by
  obtain ⟨cs, ht⟩ := h.ty
  have hr := grown_other h.nd hg ht (by decide)
  exact ⟨(cell_block hr).trans h.c0, (cell_block hr).trans h.c1, (cell_block hr).trans h.c2, (cell_block hr).trans h.c3, fun i => (frozen_block hr).trans (h.fz i), ⟨cs, hr.trans ht⟩, hn, h.hb⟩
/-- A node's count is written. -/
theorem DR.setN {base rb : Nat} {bv nv lv : Value} {c : Int} {W : World} {M : List Nd} (h : DR base rb bv W M nv lv c) (p : Nat) (hp : p < M.length) (z : Int) :
    ∃ gn ncap, nv = .slice (some ⟨gn, 0, none⟩) M.length ncap ∧ M.length ≤ ncap ∧ W.cell? ⟨rb, 1, none⟩ = some (.slice (some ⟨gn, 0, none⟩) M.length ncap) ∧ W.cell? ⟨gn, p * 4 + 2, none⟩ = some (.int .i64 (M[p]'hp).n) ∧ W.frozen? ⟨gn, p * 4 + 2, none⟩ = false ∧
      DR base rb bv (W.setCell ⟨gn, p * 4 + 2, none⟩ (.int .i64 z)) (M.set p { (M[p]'hp) with n := z }) nv lv c ∧ Below base W (W.setCell ⟨gn, p * 4 + 2, none⟩ (.int .i64 z)) ∧ Kq W (W.setCell ⟨gn, p * 4 + 2, none⟩ (.int .i64 z)) ∧
      (∀ g a, LkAt W g [(dsB, a)] → LkAt (W.setCell ⟨gn, p * 4 + 2, none⟩ (.int .i64 z)) g [(dsB, a)]) := by
  obtain ⟨na, ncap, e, hna⟩ := own_form h.nd
  obtain ⟨gn, rfl, hnc⟩ := hna (by omega)
  subst e
  have d2 : W.cell? ⟨gn, p * 4 + 2, none⟩ = some (.int .i64 (M[p]'hp).n) := (World.ownsRow.cellAt h.nd (p * 4 + 2) (by omega)).trans (Wk.nds_get M p hp 2 (by decide))
  have d0 : W.cell? ⟨gn, 0, none⟩ = some (.int .u32 (M[0]'(by omega)).t) := (World.ownsRow.cellAt h.nd 0 (by omega)).trans (Wk.nds_get M 0 (by omega) 0 (by decide))
  have fn := World.ownsRow.frozenAt h.nd (p * 4 + 2)
  obtain ⟨a, b⟩ := World.ownsRow.stored h.nd (p * 4 + 2) (.int .i64 z)
  rw [nds_setN' M p hp z] at a
  refine ⟨gn, ncap, rfl, hnc, h.c1, d2, fn, h.kept b (by rw [List.length_set]; exact a), below_grown h.nd b h.lt, Kq.grown h.nd b, fun g x hl => ?_⟩
  have hne : gn ≠ g := fun e => by
    have e1 := (hl 0 (by simp)).1
    rw [← e, show (0 * 2 : Nat) = 0 from rfl, d0] at e1
    cases e1
  exact hl.off hne _
/-- What the functions are asked with. -/
structure Ask (base rb : Nat) (a : Option Addr) (n cap : Nat) (ys : List UInt8) (w : World) (L : List Nd) (nv : Value) : Prop where
  bv : BV base w a n cap ys
  dr : DR base rb (.slice a n cap) w L nv (.slice none 0 0) 0
  l4 : L.length ≤ 4096
theorem Ask.on {base rb : Nat} {a : Option Addr} {n cap : Nat} {ys : List UInt8} {w w' : World} {L : List Nd} {nv : Value} (h : Ask base rb a n cap ys w L nv) (hb : Below w.heap.size w w') : Ask base rb a n cap ys w' L nv :=
  ⟨h.bv.on (hb.mono h.dr.lt), h.dr.on hb, h.l4⟩
/-- The reader holds a fault, and no fewer nodes. -/
def BadIn (base rb : Nat) (bv : Value) (w' : World) (m : Nat) (a c : Nat) : Prop := ∃ L' nv', DBad base rb bv w' L' nv' (a : Int) (c : Int) ∧ c ≠ 0 ∧ m ≤ L'.length
theorem BadIn.of {base rb : Nat} {bv nv : Value} {W : World} {M : List Nd} {k : Nat} {c : Nat} (h : DBad base rb bv W M nv (k : Int) (c : Int)) (hc : c ≠ 0) : BadIn base rb bv W M.length k c := ⟨M, nv, h, hc, Nat.le_refl _⟩
theorem BadIn.less {base rb : Nat} {bv : Value} {W : World} {m m' a c : Nat} (h : BadIn base rb bv W m a c) (hm : m' ≤ m) : BadIn base rb bv W m' a c := by
  obtain ⟨L, nv, h1, h2, h3⟩ := h
  exact ⟨L, nv, h1, h2, by omega⟩
/-- What room and items tell. -/
def OutP (S : Src) (base rb : Nat) (a : Option Addr) (n cap : Nat) (ys : List UInt8) (w : World) (L : List Nd) (d : Nat) (mk : Option Nat → Sp) (k fin : Nat) (e : Ending) (w' : World) : Prop :=
  ∃ k' cnt : Nat, e = .returned (.tuple #[.int .i64 (k' : Int), .int .i64 (cnt : Int)]) ∧ Hid (Below base w w') ∧ Hid (Kq w w') ∧
    ((∃ x c, BadIn base rb (.slice a n cap) w' L.length x c ∧ BadFor S L.length d mk k x c) ∨ (∃ X nv', Ask base rb a n cap ys w' (L ++ X) nv' ∧ k ≤ k' ∧ k' ≤ fin ∧ cnt ≤ k' ∧ OutFor S L.length d mk k k' cnt X))
def RmC (d : Nat) : Prop := ∀ (w : World) (base rb : Nat) (a : Option Addr) (n cap : Nat) (ys : List UInt8) (L : List Nd) (nv : Value) (k fin : Nat) (opn ex : Bool), Ask base rb a n cap ys w L nv → k ≤ fin → fin ≤ n →
  Calls Tryz.prog 37 #[.pointer (some ⟨rb, 0, none⟩), .int .i64 (k : Int), .int .i64 (fin : Int), .bool opn, .bool ex, .int .i64 (d : Int)] w (OutP (srcS ys) base rb a n cap ys w L (2 * d) (rsp fin opn ex 0) k fin)
def ItC (d : Nat) : Prop := ∀ (w : World) (base rb : Nat) (a : Option Addr) (n cap : Nat) (ys : List UInt8) (L : List Nd) (nv : Value) (k fin : Nat) (opn ex : Bool), Ask base rb a n cap ys w L nv → k ≤ fin → fin ≤ n →
  Calls Tryz.prog 108 #[.pointer (some ⟨rb, 0, none⟩), .int .i64 (k : Int), .int .i64 (fin : Int), .bool opn, .bool ex, .int .i64 (d : Int)] w (OutP (srcS ys) base rb a n cap ys w L (2 * d + 1) (isp fin opn ex) k fin)
/-- What element tells. -/
def ElP (S : Src) (base rb : Nat) (a : Option Addr) (n cap : Nat) (ys : List UInt8) (w : World) (L : List Nd) (d fin : Nat) (ex : Bool) (k : Nat) (h : Hd) (e : Ending) (w' : World) : Prop :=
  ∃ k' : Nat, e = .returned (.int .i64 (k' : Int)) ∧ Hid (Below base w w') ∧ Hid (Kq w w') ∧
    ((∃ x c, BadIn base rb (.slice a n cap) w' L.length x c ∧ ElBad S L.length d fin ex k h x c) ∨ (∃ X nv', Ask base rb a n cap ys w' (L ++ X) nv' ∧ k + 8 ≤ k' ∧ k' ≤ fin ∧ ElGo S L.length d fin ex k h k' X))
def ElC (d : Nat) : Prop := ∀ (w : World) (base rb : Nat) (a : Option Addr) (n cap : Nat) (ys : List UInt8) (L : List Nd) (nv : Value) (k fin : Nat) (ex same : Bool) (h : Hd), Ask base rb a n cap ys w L nv → fin ≤ n → 8 ≤ h.sz → k + h.sz ≤ fin → (tagS ys k % 65536 = 0 → h.v ≠ 18) → h.len < 4294967296 → (ex && same) = h.ex →
  Calls Tryz.prog 67 #[.pointer (some ⟨rb, 0, none⟩), .int .i64 (k : Int), .int .i64 (fin : Int), .int .u32 (tagS ys k : Int), dhV h.v (k + h.sz) h.len same, .bool ex, .int .i64 (d : Int)] w (ElP (srcS ys) base rb a n cap ys w L (2 * d) fin ex k h)
end Go.Proofs.YtoikdpjjcnmgeaaGreatDoor
end

section
/-
  DERIVED. What stands behind a head: the document's: what is refused.
-/
namespace Go.Proofs.YtoikdpjjcnmgeaaGreatDoor
open Go Go.Proofs Go.RowKit
open Wk (Nd nds)
open Go.Sort

set_option maxRecDepth 100000 in
set_option maxHeartbeats 8000000 in
theorem el_A (d : Nat) (w : World) (base rb : Nat) (a : Option Addr) (n cap : Nat) (ys : List UInt8) (L : List Nd) (nv : Value) (k fin : Nat) (ex same : Bool) (v : Int) (sz len : Nat) (hx : Bool) (hA : Ask base rb a n cap ys w L nv) (hfn : fin ≤ n) (hsz : 8 ≤ sz) (hkf : k + sz ≤ fin) (hlen : len < 4294967296) (hu : len = und) (hv : v ≠ 18) :
    Calls Tryz.prog 67 #[.pointer (some ⟨rb, 0, none⟩), .int .i64 (k : Int), .int .i64 (fin : Int), .int .u32 (tagS ys k : Int), dhV v (k + sz) len same, .bool ex, .int .i64 (d : Int)] w (ElP (srcS ys) base rb a n cap ys w L (2 * d) fin ex k ⟨v, sz, len, hx⟩) := by
  have HB : Hid (ElBad (srcS ys) L.length (2 * d) fin ex k ⟨v, sz, len, hx⟩ k 125) := by
    exact ElBad.len (by unfold badLen; simp [hu, hv])
  have HA : Hid (Ask base rb a n cap ys w L nv) := hA
  have hnb : n ≤ 1048576 := hA.bv.s
  have c1w := hA.dr.c1
  have ht := tagS_lt ys k
  obtain ⟨fr, hfr⟩ : ∃ fr, k + sz = fr := ⟨_, rfl⟩
  rw [hfr] at hkf ⊢
  obtain ⟨T, hT⟩ : ∃ T, tagS ys k = T := ⟨_, rfl⟩
  rw [hT] at ht ⊢
  have HT : Hid _ := hT
  have HFR : Hid _ := hfr
  have hfb : fr ≤ 1048576 ∧ fin ≤ 1048576 ∧ k ≤ 1048576 := by omega
  unfold dhV
  obtain ⟨W0, hW0⟩ : ∃ W0, w.alloc (.cells #[.int .i64 v, .int .i64 (fr : Int), .int .u64 (len : Int), .bool same] 124) = W0 := ⟨_, rfl⟩
  have hb0 : Below w.heap.size w W0 := by rw [← hW0]; exact (Below.refl _ _).alloc (Nat.le_refl _) _
  have HH0 : Hid (DH W0 w.heap.size v fr len same) := by rw [← hW0]; exact DH.new w v fr len same
  have HA0 : Hid (Ask base rb a n cap ys W0 L nv) := HA.out.on hb0
  obtain ⟨y0, y1, y2, y3, yf⟩ := HH0.out
  have hm2 : (len : Int).tmod 2 = (len : Int) % 2 := by rw [Int.tmod_eq_emod_of_nonneg (by omega)]
  have wq : IntKind.u64.wrap ((fin : Int) - (fr : Int)) = (fin : Int) - (fr : Int) := by rw [IntKind.wrap_u64]; omega
  clear hA hT c1w
  have bu : ((len : Int) == 4294967295) = true := by rw [hu]; rfl
  have bv : (v != 18) = true := bne_iff_ne.2 hv
  clear hfr hu hv
  go_enter Tryz.func67, Tryz.ntmps67
  go_wp2_with (go_at_call 61; refine StopV.out ?_)
  refine ⟨Calls.mono (bad_any base rb _ _ _ 0 (k : Int) 125 L _ HA0.out.dr) ?_⟩
  rintro e W1 ⟨rfl, hbad, hb1, hk1⟩
  go_wp2
  go_ret
  exact ⟨k, rfl, (hb0.mono HA.out.dr.lt).trans hb1.out, (Kq.below hb0).trans hk1.out, .inl ⟨k, 125, BadIn.of hbad.out (by decide), HB.out⟩⟩
set_option maxRecDepth 100000 in
set_option maxHeartbeats 8000000 in
theorem el_B (d : Nat) (w : World) (base rb : Nat) (a : Option Addr) (n cap : Nat) (ys : List UInt8) (L : List Nd) (nv : Value) (k fin : Nat) (ex same : Bool) (v : Int) (sz len : Nat) (hx : Bool) (hA : Ask base rb a n cap ys w L nv) (hfn : fin ≤ n) (hsz : 8 ≤ sz) (hkf : k + sz ≤ fin) (hlen : len < 4294967296) (hu : len ≠ und) (ho : len % 2 = 1) :
    Calls Tryz.prog 67 #[.pointer (some ⟨rb, 0, none⟩), .int .i64 (k : Int), .int .i64 (fin : Int), .int .u32 (tagS ys k : Int), dhV v (k + sz) len same, .bool ex, .int .i64 (d : Int)] w (ElP (srcS ys) base rb a n cap ys w L (2 * d) fin ex k ⟨v, sz, len, hx⟩) := by
  have HB : Hid (ElBad (srcS ys) L.length (2 * d) fin ex k ⟨v, sz, len, hx⟩ k 125) := by
    exact ElBad.len (by unfold badLen; simp [hu, ho])
  have HA : Hid (Ask base rb a n cap ys w L nv) := hA
  have hnb : n ≤ 1048576 := hA.bv.s
  have c1w := hA.dr.c1
  have ht := tagS_lt ys k
  obtain ⟨fr, hfr⟩ : ∃ fr, k + sz = fr := ⟨_, rfl⟩
  rw [hfr] at hkf ⊢
  obtain ⟨T, hT⟩ : ∃ T, tagS ys k = T := ⟨_, rfl⟩
  rw [hT] at ht ⊢
  have HT : Hid _ := hT
  have HFR : Hid _ := hfr
  have hfb : fr ≤ 1048576 ∧ fin ≤ 1048576 ∧ k ≤ 1048576 := by omega
  unfold dhV
  obtain ⟨W0, hW0⟩ : ∃ W0, w.alloc (.cells #[.int .i64 v, .int .i64 (fr : Int), .int .u64 (len : Int), .bool same] 124) = W0 := ⟨_, rfl⟩
  have hb0 : Below w.heap.size w W0 := by rw [← hW0]; exact (Below.refl _ _).alloc (Nat.le_refl _) _
  have HH0 : Hid (DH W0 w.heap.size v fr len same) := by rw [← hW0]; exact DH.new w v fr len same
  have HA0 : Hid (Ask base rb a n cap ys W0 L nv) := HA.out.on hb0
  obtain ⟨y0, y1, y2, y3, yf⟩ := HH0.out
  have hm2 : (len : Int).tmod 2 = (len : Int) % 2 := by rw [Int.tmod_eq_emod_of_nonneg (by omega)]
  have wq : IntKind.u64.wrap ((fin : Int) - (fr : Int)) = (fin : Int) - (fr : Int) := by rw [IntKind.wrap_u64]; omega
  clear hA hT c1w
  have bu : ((len : Int) == 4294967295) = false := beq_eq_false_iff_ne.2 (by unfold und at hu; omega)
  have bo : ((len : Int) % 2 == 1) = true := beq_iff_eq.2 (by omega)
  clear hfr hu ho
  go_enter Tryz.func67, Tryz.ntmps67
  go_wp2_with (go_at_call 61; refine StopV.out ?_)
  refine ⟨Calls.mono (bad_any base rb _ _ _ 0 (k : Int) 125 L _ HA0.out.dr) ?_⟩
  rintro e W1 ⟨rfl, hbad, hb1, hk1⟩
  go_wp2
  go_ret
  exact ⟨k, rfl, (hb0.mono HA.out.dr.lt).trans hb1.out, (Kq.below hb0).trans hk1.out, .inl ⟨k, 125, BadIn.of hbad.out (by decide), HB.out⟩⟩
set_option maxRecDepth 100000 in
set_option maxHeartbeats 8000000 in
theorem el_C (d : Nat) (w : World) (base rb : Nat) (a : Option Addr) (n cap : Nat) (ys : List UInt8) (L : List Nd) (nv : Value) (k fin : Nat) (ex same : Bool) (v : Int) (sz len : Nat) (hx : Bool) (hA : Ask base rb a n cap ys w L nv) (hfn : fin ≤ n) (hsz : 8 ≤ sz) (hkf : k + sz ≤ fin) (hlen : len < 4294967296) (hu : len ≠ und) (ho : ¬ len % 2 = 1) (hv : v ≠ 18) (hL : 65534 < len) :
    Calls Tryz.prog 67 #[.pointer (some ⟨rb, 0, none⟩), .int .i64 (k : Int), .int .i64 (fin : Int), .int .u32 (tagS ys k : Int), dhV v (k + sz) len same, .bool ex, .int .i64 (d : Int)] w (ElP (srcS ys) base rb a n cap ys w L (2 * d) fin ex k ⟨v, sz, len, hx⟩) := by
  have HB : Hid (ElBad (srcS ys) L.length (2 * d) fin ex k ⟨v, sz, len, hx⟩ k 121) := by
    exact ElBad.long (by unfold badLen; simp [hu, ho]) ⟨hv, hL⟩
  have HA : Hid (Ask base rb a n cap ys w L nv) := hA
  have hnb : n ≤ 1048576 := hA.bv.s
  have c1w := hA.dr.c1
  have ht := tagS_lt ys k
  obtain ⟨fr, hfr⟩ : ∃ fr, k + sz = fr := ⟨_, rfl⟩
  rw [hfr] at hkf ⊢
  obtain ⟨T, hT⟩ : ∃ T, tagS ys k = T := ⟨_, rfl⟩
  rw [hT] at ht ⊢
  have HT : Hid _ := hT
  have HFR : Hid _ := hfr
  have hfb : fr ≤ 1048576 ∧ fin ≤ 1048576 ∧ k ≤ 1048576 := by omega
  unfold dhV
  obtain ⟨W0, hW0⟩ : ∃ W0, w.alloc (.cells #[.int .i64 v, .int .i64 (fr : Int), .int .u64 (len : Int), .bool same] 124) = W0 := ⟨_, rfl⟩
  have hb0 : Below w.heap.size w W0 := by rw [← hW0]; exact (Below.refl _ _).alloc (Nat.le_refl _) _
  have HH0 : Hid (DH W0 w.heap.size v fr len same) := by rw [← hW0]; exact DH.new w v fr len same
  have HA0 : Hid (Ask base rb a n cap ys W0 L nv) := HA.out.on hb0
  obtain ⟨y0, y1, y2, y3, yf⟩ := HH0.out
  have hm2 : (len : Int).tmod 2 = (len : Int) % 2 := by rw [Int.tmod_eq_emod_of_nonneg (by omega)]
  have wq : IntKind.u64.wrap ((fin : Int) - (fr : Int)) = (fin : Int) - (fr : Int) := by rw [IntKind.wrap_u64]; omega
  clear hA hT c1w
  have bu : ((len : Int) == 4294967295) = false := beq_eq_false_iff_ne.2 (by unfold und at hu; omega)
  have bo : ((len : Int) % 2 == 1) = false := beq_eq_false_iff_ne.2 (by omega)
  have bv : (v != 18) = true := bne_iff_ne.2 hv
  have bl : decide ((65534 : Int) < (len : Int)) = true := decide_eq_true (by omega)
  clear hfr hu ho hv hL
  go_enter Tryz.func67, Tryz.ntmps67
  go_wp2_with (go_at_call 61; refine StopV.out ?_)
  refine ⟨Calls.mono (bad_any base rb _ _ _ 0 (k : Int) 121 L _ HA0.out.dr) ?_⟩
  rintro e W1 ⟨rfl, hbad, hb1, hk1⟩
  go_wp2
  go_ret
  exact ⟨k, rfl, (hb0.mono HA.out.dr.lt).trans hb1.out, (Kq.below hb0).trans hk1.out, .inl ⟨k, 121, BadIn.of hbad.out (by decide), HB.out⟩⟩
set_option maxRecDepth 100000 in
set_option maxHeartbeats 8000000 in
theorem el_D1 (d : Nat) (w : World) (base rb : Nat) (a : Option Addr) (n cap : Nat) (ys : List UInt8) (L : List Nd) (nv : Value) (k fin : Nat) (ex same : Bool) (v : Int) (sz len : Nat) (hx : Bool) (hA : Ask base rb a n cap ys w L nv) (hfn : fin ≤ n) (hsz : 8 ≤ sz) (hkf : k + sz ≤ fin) (hlen : len < 4294967296) (hu : len ≠ und) (ho : ¬ len % 2 = 1) (hv : v = 18) (hs : fin - k - sz < len) :
    Calls Tryz.prog 67 #[.pointer (some ⟨rb, 0, none⟩), .int .i64 (k : Int), .int .i64 (fin : Int), .int .u32 (tagS ys k : Int), dhV v (k + sz) len same, .bool ex, .int .i64 (d : Int)] w (ElP (srcS ys) base rb a n cap ys w L (2 * d) fin ex k ⟨v, sz, len, hx⟩) := by
  have HB : Hid (ElBad (srcS ys) L.length (2 * d) fin ex k ⟨v, sz, len, hx⟩ k 122) := by
    exact ElBad.short (by unfold badLen; simp [hu, ho]) (fun h => h.1 hv) ⟨hu, hs⟩
  have HA : Hid (Ask base rb a n cap ys w L nv) := hA
  have hnb : n ≤ 1048576 := hA.bv.s
  have c1w := hA.dr.c1
  have ht := tagS_lt ys k
  obtain ⟨fr, hfr⟩ : ∃ fr, k + sz = fr := ⟨_, rfl⟩
  rw [hfr] at hkf ⊢
  obtain ⟨T, hT⟩ : ∃ T, tagS ys k = T := ⟨_, rfl⟩
  rw [hT] at ht ⊢
  have HT : Hid _ := hT
  have HFR : Hid _ := hfr
  have hfb : fr ≤ 1048576 ∧ fin ≤ 1048576 ∧ k ≤ 1048576 := by omega
  unfold dhV
  obtain ⟨W0, hW0⟩ : ∃ W0, w.alloc (.cells #[.int .i64 v, .int .i64 (fr : Int), .int .u64 (len : Int), .bool same] 124) = W0 := ⟨_, rfl⟩
  have hb0 : Below w.heap.size w W0 := by rw [← hW0]; exact (Below.refl _ _).alloc (Nat.le_refl _) _
  have HH0 : Hid (DH W0 w.heap.size v fr len same) := by rw [← hW0]; exact DH.new w v fr len same
  have HA0 : Hid (Ask base rb a n cap ys W0 L nv) := HA.out.on hb0
  obtain ⟨y0, y1, y2, y3, yf⟩ := HH0.out
  have hm2 : (len : Int).tmod 2 = (len : Int) % 2 := by rw [Int.tmod_eq_emod_of_nonneg (by omega)]
  have wq : IntKind.u64.wrap ((fin : Int) - (fr : Int)) = (fin : Int) - (fr : Int) := by rw [IntKind.wrap_u64]; omega
  clear hA hT c1w
  have bu : ((len : Int) == 4294967295) = false := beq_eq_false_iff_ne.2 (by unfold und at hu; omega)
  have bo : ((len : Int) % 2 == 1) = false := beq_eq_false_iff_ne.2 (by omega)
  have bv : (v != 18) = false := by rw [hv]; rfl
  have bs : decide ((fin : Int) - (fr : Int) < (len : Int)) = true := decide_eq_true (by omega)
  clear hfr hu ho hv hs
  go_enter Tryz.func67, Tryz.ntmps67
  go_wp2_with (go_at_call 61; refine StopV.out ?_)
  refine ⟨Calls.mono (bad_any base rb _ _ _ 0 (k : Int) 122 L _ HA0.out.dr) ?_⟩
  rintro e W1 ⟨rfl, hbad, hb1, hk1⟩
  go_wp2
  go_ret
  exact ⟨k, rfl, (hb0.mono HA.out.dr.lt).trans hb1.out, (Kq.below hb0).trans hk1.out, .inl ⟨k, 122, BadIn.of hbad.out (by decide), HB.out⟩⟩
set_option maxRecDepth 100000 in
set_option maxHeartbeats 8000000 in
theorem el_D2 (d : Nat) (w : World) (base rb : Nat) (a : Option Addr) (n cap : Nat) (ys : List UInt8) (L : List Nd) (nv : Value) (k fin : Nat) (ex same : Bool) (v : Int) (sz len : Nat) (hx : Bool) (hA : Ask base rb a n cap ys w L nv) (hfn : fin ≤ n) (hsz : 8 ≤ sz) (hkf : k + sz ≤ fin) (hlen : len < 4294967296) (hu : len ≠ und) (ho : ¬ len % 2 = 1) (hv : v ≠ 18) (hL : ¬ 65534 < len) (hs : fin - k - sz < len) :
    Calls Tryz.prog 67 #[.pointer (some ⟨rb, 0, none⟩), .int .i64 (k : Int), .int .i64 (fin : Int), .int .u32 (tagS ys k : Int), dhV v (k + sz) len same, .bool ex, .int .i64 (d : Int)] w (ElP (srcS ys) base rb a n cap ys w L (2 * d) fin ex k ⟨v, sz, len, hx⟩) := by
  have HB : Hid (ElBad (srcS ys) L.length (2 * d) fin ex k ⟨v, sz, len, hx⟩ k 122) := by
    exact ElBad.short (by unfold badLen; simp [hu, ho]) (fun h => hL h.2) ⟨hu, hs⟩
  have HA : Hid (Ask base rb a n cap ys w L nv) := hA
  have hnb : n ≤ 1048576 := hA.bv.s
  have c1w := hA.dr.c1
  have ht := tagS_lt ys k
  obtain ⟨fr, hfr⟩ : ∃ fr, k + sz = fr := ⟨_, rfl⟩
  rw [hfr] at hkf ⊢
  obtain ⟨T, hT⟩ : ∃ T, tagS ys k = T := ⟨_, rfl⟩
  rw [hT] at ht ⊢
  have HT : Hid _ := hT
  have HFR : Hid _ := hfr
  have hfb : fr ≤ 1048576 ∧ fin ≤ 1048576 ∧ k ≤ 1048576 := by omega
  unfold dhV
  obtain ⟨W0, hW0⟩ : ∃ W0, w.alloc (.cells #[.int .i64 v, .int .i64 (fr : Int), .int .u64 (len : Int), .bool same] 124) = W0 := ⟨_, rfl⟩
  have hb0 : Below w.heap.size w W0 := by rw [← hW0]; exact (Below.refl _ _).alloc (Nat.le_refl _) _
  have HH0 : Hid (DH W0 w.heap.size v fr len same) := by rw [← hW0]; exact DH.new w v fr len same
  have HA0 : Hid (Ask base rb a n cap ys W0 L nv) := HA.out.on hb0
  obtain ⟨y0, y1, y2, y3, yf⟩ := HH0.out
  have hm2 : (len : Int).tmod 2 = (len : Int) % 2 := by rw [Int.tmod_eq_emod_of_nonneg (by omega)]
  have wq : IntKind.u64.wrap ((fin : Int) - (fr : Int)) = (fin : Int) - (fr : Int) := by rw [IntKind.wrap_u64]; omega
  clear hA hT c1w
  have bu : ((len : Int) == 4294967295) = false := beq_eq_false_iff_ne.2 (by unfold und at hu; omega)
  have bo : ((len : Int) % 2 == 1) = false := beq_eq_false_iff_ne.2 (by omega)
  have bv : (v != 18) = true := bne_iff_ne.2 hv
  have bl : decide ((65534 : Int) < (len : Int)) = false := decide_eq_false (by omega)
  have bs : decide ((fin : Int) - (fr : Int) < (len : Int)) = true := decide_eq_true (by omega)
  clear hfr hu ho hv hL hs
  go_enter Tryz.func67, Tryz.ntmps67
  go_wp2_with (go_at_call 61; refine StopV.out ?_)
  refine ⟨Calls.mono (bad_any base rb _ _ _ 0 (k : Int) 122 L _ HA0.out.dr) ?_⟩
  rintro e W1 ⟨rfl, hbad, hb1, hk1⟩
  go_wp2
  go_ret
  exact ⟨k, rfl, (hb0.mono HA.out.dr.lt).trans hb1.out, (Kq.below hb0).trans hk1.out, .inl ⟨k, 122, BadIn.of hbad.out (by decide), HB.out⟩⟩
set_option maxRecDepth 100000 in
set_option maxHeartbeats 8000000 in
theorem el_F1 (d : Nat) (w : World) (base rb : Nat) (a : Option Addr) (n cap : Nat) (ys : List UInt8) (L : List Nd) (nv : Value) (k fin : Nat) (ex same : Bool) (v : Int) (sz len : Nat) (hx : Bool) (hA : Ask base rb a n cap ys w L nv) (hfn : fin ≤ n) (hsz : 8 ≤ sz) (hkf : k + sz ≤ fin) (hlen : len < 4294967296) (hu : len ≠ und) (ho : ¬ len % 2 = 1) (hv : v = 18) (hs : ¬ fin - k - sz < len) (hg : ¬ tagS ys k % 65536 = 0) (hm : L.length = 4096) :
    Calls Tryz.prog 67 #[.pointer (some ⟨rb, 0, none⟩), .int .i64 (k : Int), .int .i64 (fin : Int), .int .u32 (tagS ys k : Int), dhV v (k + sz) len same, .bool ex, .int .i64 (d : Int)] w (ElP (srcS ys) base rb a n cap ys w L (2 * d) fin ex k ⟨v, sz, len, hx⟩) := by
  have HB : Hid (ElBad (srcS ys) L.length (2 * d) fin ex k ⟨v, sz, len, hx⟩ k 127) := by
    rw [hm]
    exact ElBad.many (by unfold badLen; simp [hu, ho]) (fun h => h.1 hv) (fun h => hs h.2) hg
  have HA : Hid (Ask base rb a n cap ys w L nv) := hA
  have hnb : n ≤ 1048576 := hA.bv.s
  have c1w := hA.dr.c1
  have ht := tagS_lt ys k
  obtain ⟨fr, hfr⟩ : ∃ fr, k + sz = fr := ⟨_, rfl⟩
  rw [hfr] at hkf ⊢
  obtain ⟨T, hT⟩ : ∃ T, tagS ys k = T := ⟨_, rfl⟩
  rw [hT] at ht hg ⊢
  have HT : Hid _ := hT
  have HFR : Hid _ := hfr
  have hfb : fr ≤ 1048576 ∧ fin ≤ 1048576 ∧ k ≤ 1048576 := by omega
  unfold dhV
  obtain ⟨W0, hW0⟩ : ∃ W0, w.alloc (.cells #[.int .i64 v, .int .i64 (fr : Int), .int .u64 (len : Int), .bool same] 124) = W0 := ⟨_, rfl⟩
  have hb0 : Below w.heap.size w W0 := by rw [← hW0]; exact (Below.refl _ _).alloc (Nat.le_refl _) _
  have HH0 : Hid (DH W0 w.heap.size v fr len same) := by rw [← hW0]; exact DH.new w v fr len same
  have HA0 : Hid (Ask base rb a n cap ys W0 L nv) := HA.out.on hb0
  obtain ⟨y0, y1, y2, y3, yf⟩ := HH0.out
  have hm2 : (len : Int).tmod 2 = (len : Int) % 2 := by rw [Int.tmod_eq_emod_of_nonneg (by omega)]
  have wq : IntKind.u64.wrap ((fin : Int) - (fr : Int)) = (fin : Int) - (fr : Int) := by rw [IntKind.wrap_u64]; omega
  clear hA hT c1w
  have bu : ((len : Int) == 4294967295) = false := beq_eq_false_iff_ne.2 (by unfold und at hu; omega)
  have bo : ((len : Int) % 2 == 1) = false := beq_eq_false_iff_ne.2 (by omega)
  have bv : (v != 18) = false := by rw [hv]; rfl
  have bs : decide ((fin : Int) - (fr : Int) < (len : Int)) = false := decide_eq_false (by omega)
  have band : bits .and .u32 (T : Int) 65535 = ((T % 65536 : Nat) : Int) := bits_low16 ht
  obtain ⟨q, hq⟩ : ∃ q, T % 65536 = q := ⟨_, rfl⟩
  rw [hq] at band hg
  have bg : ((q : Int) == 0) = false := beq_eq_false_iff_ne.2 (by omega)
  obtain ⟨na, ncap, rfl, hna⟩ := own_form HA.out.dr.nd
  have c1 := HA0.out.dr.c1
  rw [hm] at c1
  have HM : Hid (L.length = 4096) := hm
  clear hna hm hg hq
  clear hfr hu ho hv hs
  go_enter Tryz.func67, Tryz.ntmps67
  go_wp2_with (go_at_call 61; refine StopV.out ?_)
  refine ⟨Calls.mono (bad_any base rb _ _ _ 0 (k : Int) 127 L _ HA0.out.dr) ?_⟩
  rintro e W1 ⟨rfl, hbad, hb1, hk1⟩
  go_wp2
  go_ret
  exact ⟨k, rfl, (hb0.mono HA.out.dr.lt).trans hb1.out, (Kq.below hb0).trans hk1.out, .inl ⟨k, 127, BadIn.of hbad.out (by decide), HB.out⟩⟩
set_option maxRecDepth 100000 in
set_option maxHeartbeats 8000000 in
theorem el_F2 (d : Nat) (w : World) (base rb : Nat) (a : Option Addr) (n cap : Nat) (ys : List UInt8) (L : List Nd) (nv : Value) (k fin : Nat) (ex same : Bool) (v : Int) (sz len : Nat) (hx : Bool) (hA : Ask base rb a n cap ys w L nv) (hfn : fin ≤ n) (hsz : 8 ≤ sz) (hkf : k + sz ≤ fin) (hlen : len < 4294967296) (hu : len ≠ und) (ho : ¬ len % 2 = 1) (hv : v ≠ 18) (hL : ¬ 65534 < len) (hs : ¬ fin - k - sz < len) (hg : ¬ tagS ys k % 65536 = 0) (hm : L.length = 4096) :
    Calls Tryz.prog 67 #[.pointer (some ⟨rb, 0, none⟩), .int .i64 (k : Int), .int .i64 (fin : Int), .int .u32 (tagS ys k : Int), dhV v (k + sz) len same, .bool ex, .int .i64 (d : Int)] w (ElP (srcS ys) base rb a n cap ys w L (2 * d) fin ex k ⟨v, sz, len, hx⟩) := by
  have HB : Hid (ElBad (srcS ys) L.length (2 * d) fin ex k ⟨v, sz, len, hx⟩ k 127) := by
    rw [hm]
    exact ElBad.many (by unfold badLen; simp [hu, ho]) (fun h => hL h.2) (fun h => hs h.2) hg
  have HA : Hid (Ask base rb a n cap ys w L nv) := hA
  have hnb : n ≤ 1048576 := hA.bv.s
  have c1w := hA.dr.c1
  have ht := tagS_lt ys k
  obtain ⟨fr, hfr⟩ : ∃ fr, k + sz = fr := ⟨_, rfl⟩
  rw [hfr] at hkf ⊢
  obtain ⟨T, hT⟩ : ∃ T, tagS ys k = T := ⟨_, rfl⟩
  rw [hT] at ht hg ⊢
  have HT : Hid _ := hT
  have HFR : Hid _ := hfr
  have hfb : fr ≤ 1048576 ∧ fin ≤ 1048576 ∧ k ≤ 1048576 := by omega
  unfold dhV
  obtain ⟨W0, hW0⟩ : ∃ W0, w.alloc (.cells #[.int .i64 v, .int .i64 (fr : Int), .int .u64 (len : Int), .bool same] 124) = W0 := ⟨_, rfl⟩
  have hb0 : Below w.heap.size w W0 := by rw [← hW0]; exact (Below.refl _ _).alloc (Nat.le_refl _) _
  have HH0 : Hid (DH W0 w.heap.size v fr len same) := by rw [← hW0]; exact DH.new w v fr len same
  have HA0 : Hid (Ask base rb a n cap ys W0 L nv) := HA.out.on hb0
  obtain ⟨y0, y1, y2, y3, yf⟩ := HH0.out
  have hm2 : (len : Int).tmod 2 = (len : Int) % 2 := by rw [Int.tmod_eq_emod_of_nonneg (by omega)]
  have wq : IntKind.u64.wrap ((fin : Int) - (fr : Int)) = (fin : Int) - (fr : Int) := by rw [IntKind.wrap_u64]; omega
  clear hA hT c1w
  have bu : ((len : Int) == 4294967295) = false := beq_eq_false_iff_ne.2 (by unfold und at hu; omega)
  have bo : ((len : Int) % 2 == 1) = false := beq_eq_false_iff_ne.2 (by omega)
  have bv : (v != 18) = true := bne_iff_ne.2 hv
  have bl : decide ((65534 : Int) < (len : Int)) = false := decide_eq_false (by omega)
  have bs : decide ((fin : Int) - (fr : Int) < (len : Int)) = false := decide_eq_false (by omega)
  have band : bits .and .u32 (T : Int) 65535 = ((T % 65536 : Nat) : Int) := bits_low16 ht
  obtain ⟨q, hq⟩ : ∃ q, T % 65536 = q := ⟨_, rfl⟩
  rw [hq] at band hg
  have bg : ((q : Int) == 0) = false := beq_eq_false_iff_ne.2 (by omega)
  obtain ⟨na, ncap, rfl, hna⟩ := own_form HA.out.dr.nd
  have c1 := HA0.out.dr.c1
  rw [hm] at c1
  have HM : Hid (L.length = 4096) := hm
  clear hna hm hg hq
  clear hfr hu ho hv hL hs
  go_enter Tryz.func67, Tryz.ntmps67
  go_wp2_with (go_at_call 61; refine StopV.out ?_)
  refine ⟨Calls.mono (bad_any base rb _ _ _ 0 (k : Int) 127 L _ HA0.out.dr) ?_⟩
  rintro e W1 ⟨rfl, hbad, hb1, hk1⟩
  go_wp2
  go_ret
  exact ⟨k, rfl, (hb0.mono HA.out.dr.lt).trans hb1.out, (Kq.below hb0).trans hk1.out, .inl ⟨k, 127, BadIn.of hbad.out (by decide), HB.out⟩⟩
set_option maxRecDepth 100000 in
set_option maxHeartbeats 8000000 in
theorem el_F3 (d : Nat) (w : World) (base rb : Nat) (a : Option Addr) (n cap : Nat) (ys : List UInt8) (L : List Nd) (nv : Value) (k fin : Nat) (ex same : Bool) (v : Int) (sz len : Nat) (hx : Bool) (hA : Ask base rb a n cap ys w L nv) (hfn : fin ≤ n) (hsz : 8 ≤ sz) (hkf : k + sz ≤ fin) (hlen : len < 4294967296) (hu : len = und) (hv : v = 18) (hg : ¬ tagS ys k % 65536 = 0) (hm : L.length = 4096) :
    Calls Tryz.prog 67 #[.pointer (some ⟨rb, 0, none⟩), .int .i64 (k : Int), .int .i64 (fin : Int), .int .u32 (tagS ys k : Int), dhV v (k + sz) len same, .bool ex, .int .i64 (d : Int)] w (ElP (srcS ys) base rb a n cap ys w L (2 * d) fin ex k ⟨v, sz, len, hx⟩) := by
  have HB : Hid (ElBad (srcS ys) L.length (2 * d) fin ex k ⟨v, sz, len, hx⟩ k 127) := by
    rw [hm]
    exact ElBad.many (by unfold badLen; simp [hu, hv]) (fun h => h.1 hv) (fun h => h.1 hu) hg
  have HA : Hid (Ask base rb a n cap ys w L nv) := hA
  have hnb : n ≤ 1048576 := hA.bv.s
  have c1w := hA.dr.c1
  have ht := tagS_lt ys k
  obtain ⟨fr, hfr⟩ : ∃ fr, k + sz = fr := ⟨_, rfl⟩
  rw [hfr] at hkf ⊢
  obtain ⟨T, hT⟩ : ∃ T, tagS ys k = T := ⟨_, rfl⟩
  rw [hT] at ht hg ⊢
  have HT : Hid _ := hT
  have HFR : Hid _ := hfr
  have hfb : fr ≤ 1048576 ∧ fin ≤ 1048576 ∧ k ≤ 1048576 := by omega
  unfold dhV
  obtain ⟨W0, hW0⟩ : ∃ W0, w.alloc (.cells #[.int .i64 v, .int .i64 (fr : Int), .int .u64 (len : Int), .bool same] 124) = W0 := ⟨_, rfl⟩
  have hb0 : Below w.heap.size w W0 := by rw [← hW0]; exact (Below.refl _ _).alloc (Nat.le_refl _) _
  have HH0 : Hid (DH W0 w.heap.size v fr len same) := by rw [← hW0]; exact DH.new w v fr len same
  have HA0 : Hid (Ask base rb a n cap ys W0 L nv) := HA.out.on hb0
  obtain ⟨y0, y1, y2, y3, yf⟩ := HH0.out
  have hm2 : (len : Int).tmod 2 = (len : Int) % 2 := by rw [Int.tmod_eq_emod_of_nonneg (by omega)]
  have wq : IntKind.u64.wrap ((fin : Int) - (fr : Int)) = (fin : Int) - (fr : Int) := by rw [IntKind.wrap_u64]; omega
  clear hA hT c1w
  have bu : ((len : Int) == 4294967295) = true := by rw [hu]; rfl
  have bv : (v != 18) = false := by rw [hv]; rfl
  have band : bits .and .u32 (T : Int) 65535 = ((T % 65536 : Nat) : Int) := bits_low16 ht
  obtain ⟨q, hq⟩ : ∃ q, T % 65536 = q := ⟨_, rfl⟩
  rw [hq] at band hg
  have bg : ((q : Int) == 0) = false := beq_eq_false_iff_ne.2 (by omega)
  obtain ⟨na, ncap, rfl, hna⟩ := own_form HA.out.dr.nd
  have c1 := HA0.out.dr.c1
  rw [hm] at c1
  have HM : Hid (L.length = 4096) := hm
  clear hna hm hg hq
  clear hfr hu hv
  go_enter Tryz.func67, Tryz.ntmps67
  go_wp2_with (go_at_call 61; refine StopV.out ?_)
  refine ⟨Calls.mono (bad_any base rb _ _ _ 0 (k : Int) 127 L _ HA0.out.dr) ?_⟩
  rintro e W1 ⟨rfl, hbad, hb1, hk1⟩
  go_wp2
  go_ret
  exact ⟨k, rfl, (hb0.mono HA.out.dr.lt).trans hb1.out, (Kq.below hb0).trans hk1.out, .inl ⟨k, 127, BadIn.of hbad.out (by decide), HB.out⟩⟩
end Go.Proofs.YtoikdpjjcnmgeaaGreatDoor
end
