import Derived.Test.YtehgeninocbpeaaGreatDoorMc
import Derived.Test.YtehgeninocbpeaaGreatDoorYDm
import Derived.Test.YtehgeninocbpeaaGreatDoorQR
import Derived.Test.YtehgeninocbpeaaGreatDoorGO
import Derived.Deep.OwnRows
namespace Go.Proofs.YtehgeninocbpeaaGreatDoor.Tm
open Go Go.Proofs Go.RowKit
open Go.Proofs.NumLine (Nm Canon cmpN line)
open Classical in
noncomputable def nmR (s : ByteArray) : Nm × Option (Int × Int) := if h : ∃ p : Nm × Option (Int × Int), Nu.PM s p.1 p.2 then h.choose else (⟨false, 0, 0⟩, none)
theorem pm_one {s : ByteArray} {r q : Nm} {o o' : Option (Int × Int)} (h : Nu.PM s r o) (h' : Nu.PM s q o') : r = q ∧ o = o' := by
  rcases h with ⟨h1, h2, rfl⟩ | ⟨h1, rfl, rfl⟩ <;> rcases h' with ⟨h1', h2', rfl⟩ | ⟨h1', rfl, rfl⟩
  · refine ⟨?_, rfl⟩
    rcases h2' with ⟨h0, rfl⟩ | ⟨h0, k, e1, e2, e3, e4⟩
    · rcases h2 with ⟨_, rfl⟩ | ⟨h1, _⟩
      · rfl
      · exact absurd h0 h1
    · exact Nu.ex_one h2 e3 k e1.symm e2.symm (by omega)
  · exact absurd h1 h1'
  · exact absurd h1' h1
  · exact ⟨rfl, rfl⟩
theorem nmR_of {s : ByteArray} {r : Nm} {o : Option (Int × Int)} (h : Nu.PM s r o) : nmR s = (r, o) := by
  unfold nmR
  have he : ∃ p : Nm × Option (Int × Int), Nu.PM s p.1 p.2 := ⟨(r, o), h⟩
  rw [dif_pos he]
  have := pm_one he.choose_spec h
  exact Prod.ext this.1 this.2
def NmOk (r : Nm) : Prop := Canon r ∧ r.d < 10 ^ 17 ∧ -1000000000000000000 ≤ r.e ∧ r.e ≤ 1000000000000000000
theorem zero_ok : NmOk ⟨false, 0, 0⟩ := ⟨.inl ⟨rfl, rfl, rfl⟩, by decide, by decide, by decide⟩
theorem pm_ok {s : ByteArray} {r : Nm} {o : Option (Int × Int)} (h : Nu.PM s r o) : NmOk r := by
  rcases h with ⟨h1, h2, rfl⟩ | ⟨h1, rfl, rfl⟩
  · rcases h2 with ⟨_, rfl⟩ | ⟨h0, k, e1, e2, e3, e4⟩
    · exact zero_ok
    · have hs := h1.1
      have hd := Nu.nD_lt s hs
      have hk : k < 20 := Nu.pow_small e2 (by omega) h0
      have hw := Nu.whV_lt s hs (Nu.n4 s)
      have hn3 : Nu.n3 s ≤ 16 := by
        have := Nu.cnt_le s s.size (Nu.n2 s)
        unfold Nu.n3
        omega
      have hr : r.d ≤ Nu.val (Nu.nD s).data.toList := by
        rw [← e2]
        exact Nat.le_mul_of_pos_right _ (Nat.pow_pos (by decide))
      refine ⟨.inr e3, by omega, ?_, ?_⟩
      · rw [e4]; unfold Nu.nX; split <;> omega
      · rw [e4]; unfold Nu.nX; split <;> omega
  · exact zero_ok
theorem nmR_ok (s : ByteArray) : NmOk (nmR s).1 := by
  unfold nmR
  split
  · rename_i h; exact pm_ok h.choose_spec
  · exact zero_ok
theorem nm_same {a b : Nm} (ha : NmOk a) (hb : NmOk b) : cmpN a b = 0 ↔ a = b := by
  have := (line (c := a) (Nat.lt_trans ha.2.1 (by decide)) (Nat.lt_trans hb.2.1 (by decide)) (Nat.lt_trans ha.2.1 (by decide))).2.2.2.2.2 ha.1 hb.1
  rw [this]
  obtain ⟨n1, d1, e1⟩ := a
  obtain ⟨n2, d2, e2⟩ := b
  simp
theorem perr_of {W : World} {v : Value} {o : Option (Int × Int)} (h : Nu.PErr W v o) : PErr W v o := by
  cases o with
  | none => exact h
  | some x => exact h
theorem rerr_of {W : World} {v : Value} {o : Option (Int × Int)} (h : Nu.RErr W v o) : RErr W v o := by
  cases o with
  | none => exact h
  | some x => exact h
theorem parse44 (W : World) (s : ByteArray) : Calls Tryz.prog 44 #[.string s] W (PostR W (Nu.nv (nmR s).1) (nmR s).2) :=
  (Nu.parsem_any W s).mono fun _ _ ⟨v, _, _, he, hv, hp, hb⟩ => by rw [nmR_of hp]; exact ⟨v, he, perr_of hv, hb⟩
theorem rparse34 (W : World) (s : ByteArray) : Calls Tryz.prog 34 #[.string s] W (PostF W (Nu.nv (nmR s).1) (nmR s).2) :=
  (Nu.rparse_any W s).mono fun _ _ ⟨v, _, _, he, hv, hp, hb⟩ => by rw [nmR_of hp]; exact ⟨v, he, rerr_of hv, hb⟩
theorem parse42 (W : World) (s : ByteArray) : Calls Tryz.prog 42 #[.string s] W (PostR W (.int .i64 (Nu.WR s).1) (Nu.WR s).2) :=
  (Nu.pwhole_any W s).mono fun _ _ ⟨v, he, hv, hb⟩ => ⟨v, he, perr_of hv, hb⟩
theorem rparse33 (W : World) (s : ByteArray) : Calls Tryz.prog 33 #[.string s] W (PostF W (.int .i64 (Nu.WR s).1) (Nu.WR s).2) :=
  (Nu.rwhole_any W s).mono fun _ _ ⟨v, he, hv, hb⟩ => ⟨v, he, rerr_of hv, hb⟩
def whM (A : Int) (u : ByteArray) : Bool := decide ((Nu.WR u).2 = none) && ((Nu.WR u).1 == A)
set_option maxRecDepth 100000 in
theorem clos68 (W : World) (p0 p1 : Nat) (A : Int) (u : ByteArray) (h0 : W.cell? ⟨p0, 0, none⟩ = some (.func (.func 42) #[] #[])) (h1 : W.cell? ⟨p1, 0, none⟩ = some (.int .i64 A)) : Calls Tryz.prog 68 #[.string u, ptr p0, ptr p1] W (BoolP W (whM A u)) := by
  have c := parse42 W u
  unfold whM ptr
  generalize (Nu.WR u).1 = X at *
  generalize (Nu.WR u).2 = o at *
  go_enter Tryz.func68, Tryz.ntmps68
  go_wp2_with (go_at_call 42; refine Stop.mk ?_)
  refine Stop.out (c.mono ?_)
  rintro e W1 ⟨v, rfl, hv, hb⟩
  have h1' : W1.cell? ⟨p1, 0, none⟩ = some (.int .i64 A) := (hb.cell (cell_lt h1)).trans h1
  have HB : Hid (Below W.heap.size W W1) := hb
  clear c hb h0 h1
  cases o with
  | none =>
    obtain rfl : v = .nilIface := hv
    go_wp2
    go_ret
    exact ⟨by simp, HB.out⟩
  | some x =>
    obtain ⟨g, rfl, _⟩ := hv
    go_wp2
    go_ret
    exact ⟨by simp, HB.out⟩
structure Whk (W : World) (p0 p1 : Nat) (A : Int) : Prop where
  a : W.cell? ⟨p0, 0, none⟩ = some (.func (.func 42) #[] #[])
  b : W.cell? ⟨p1, 0, none⟩ = some (.int .i64 A)
theorem Whk.on {W W' : World} {p0 p1 : Nat} {A : Int} (h : Whk W p0 p1 A) (hb : Below W.heap.size W W') : Whk W' p0 p1 A := ⟨(hb.cell (cell_lt h.a)).trans h.a, (hb.cell (cell_lt h.b)).trans h.b⟩
def WhP (W : World) (A : Int) (o : Option (Int × Int)) (e : Ending) (w' : World) : Prop :=
  Below W.heap.size W w' ∧ ((o = none ∧ ∃ p0 p1, e = .returned (.tuple #[.func (.func 68) #[] #[ptr p0, ptr p1], .nilIface]) ∧ Whk w' p0 p1 A) ∨ (o ≠ none ∧ ∃ v, e = .returned (.tuple #[.nilFunc, v]) ∧ PErr w' v o))
set_option maxRecDepth 100000 in
theorem same41 (w : World) (key : ByteArray) : Calls Tryz.prog 41 #[.func (.func 42) #[] #[], .string key] w (WhP w (Nu.WR key).1 (Nu.WR key).2) := by
  obtain ⟨W0, hW0⟩ : ∃ W0, w.alloc (.cells #[.func (.func 42) #[] #[]] 79) = W0 := ⟨_, rfl⟩
  have hb0 : Below w.heap.size w W0 := hW0 ▸ (Below.refl _ _).alloc (Nat.le_refl _) _
  have c0 : W0.cell? ⟨w.heap.size, 0, none⟩ = some (.func (.func 42) #[] #[]) := by rw [← hW0]; simp
  have c := parse42 W0 key
  generalize (Nu.WR key).1 = A at *
  generalize (Nu.WR key).2 = o at *
  have HB : Hid (Below w.heap.size w W0) := hb0
  clear hb0
  go_enter Tryz.func41, Tryz.ntmps41
  go_wp2_with (go_at_call 42; refine Stop.mk ?_)
  refine Stop.out (c.mono ?_)
  rintro e W1 ⟨v, rfl, hvv, hb⟩
  obtain ⟨W2, hW2⟩ : ∃ W2, W1.alloc (.cells #[.int .i64 A] 2) = W2 := ⟨_, rfl⟩
  have hb2 : Below W1.heap.size W1 W2 := hW2 ▸ (Below.refl _ _).alloc (Nat.le_refl _) _
  have hb02 : Below W0.heap.size W0 W2 := hb.trans (hb2.mono hb.size)
  have C2 : Hid (Whk W2 w.heap.size W1.heap.size A) := ⟨(hb02.cell (cell_lt c0)).trans c0, by rw [← hW2]; simp⟩
  have B2 : Hid (Below w.heap.size w W2) := HB.out.trans (hb02.mono HB.out.size)
  have V2 : Hid (PErr W2 v o) := hvv.next hb2
  clear hb hb2 hb02 HB c c0 hW0
  cases o with
  | some x =>
    obtain ⟨g, rfl, _⟩ := hvv
    go_wp2
    refine bodyPost_ret (v := .tuple #[.nilFunc, .iface 88 (.pointer (some ⟨g, 0, none⟩))]) (by simp [results, Tryz.results41, go_sem]) rfl ⟨B2.out, .inr ⟨by simp, _, rfl, V2.out⟩⟩
  | none =>
    obtain rfl : v = .nilIface := hvv
    go_wp2
    refine bodyPost_ret (v := .tuple #[.func (.func 68) #[] #[ptr w.heap.size, ptr W1.heap.size], .nilIface]) (by simp [results, Tryz.results41, go_sem, ptr]) rfl ⟨B2.out, .inl ⟨rfl, _, _, rfl, C2.out⟩⟩
set_option maxRecDepth 100000 in
theorem matcher_whole (w : World) (vr : Int) (hv : rB vr = 5) (key : ByteArray) (hk0 : key.size ≠ 0) (hR : Rt w) : Calls Tryz.prog 17 #[.int .i64 vr, .string key] w (MtP w (whM (Nu.WR key).1) (Nu.WR key).2 2097152) := by
  obtain ⟨W0, hW0⟩ : ∃ W0, w.alloc (.cells #[.string key] 9) = W0 := ⟨_, rfl⟩
  have hb0 : Below w.heap.size w W0 := hW0 ▸ (Below.refl _ _).alloc (Nat.le_refl _) _
  have c0 : W0.cell? ⟨w.heap.size, 0, none⟩ = some (.string key) := by rw [← hW0]; simp
  have cR := ruleOf_any W0 vr (hR.on hb0)
  rw [hv] at cR
  have cS := fun W => same41 W key
  have HB : Hid (Below w.heap.size w W0) := hb0
  have hke := text_some hk0
  generalize (Nu.WR key).1 = A at *
  generalize (Nu.WR key).2 = o at *
  clear hR hb0 hk0 hv
  go_enter Tryz.func17, Tryz.ntmps17
  go_wp2_with (go_at_call 18; refine Stop.mk ?_)
  refine Stop.out (cR.mono ?_)
  rintro e W1 ⟨rfl, hb⟩
  have hf := field0 W1 5 (rC vr)
  have c1 : W1.cell? ⟨w.heap.size, 0, none⟩ = some (.string key) := (hb.cell (cell_lt c0)).trans c0
  have HB1 : Hid (Below w.heap.size w W1) := HB.out.trans (hb.mono HB.out.size)
  clear cR hb HB c0 hW0
  go_wp2_with (go_at_call 41; refine Stop.mk ?_)
  refine Stop.out ((cS W1).mono ?_)
  rintro e W2 ⟨hb2, h | h⟩
  · obtain ⟨ho, p0, p1, rfl, hC⟩ := h
    have HB2 : Hid (Below w.heap.size w W2) := HB1.out.trans (hb2.mono HB1.out.size)
    have HC : Hid (Whk W2 p0 p1 A) := hC
    have HO : Hid (o = none) := ho
    unfold ptr
    clear hC hb2 cS ho
    go_wp2
    refine bodyPost_ret (v := .tuple #[.func (.func 68) #[] #[ptr p0, ptr p1], .nilIface]) (by simp [results, Tryz.results17, go_sem, ptr]) rfl ⟨HB2.out, _, _, rfl, by rw [HO.out]; rfl, fun _ W' hb' g cap xs hn hx cells => contains68 W' g cap xs hn cells p0 p1 _ (fun W3 hb3 u hu => clos68 W3 p0 p1 A u ((HC.out.on hb').on hb3).a ((HC.out.on hb').on hb3).b)⟩
  · obtain ⟨ho, v, rfl, hV⟩ := h
    have HB2 : Hid (Below w.heap.size w W2) := HB1.out.trans (hb2.mono HB1.out.size)
    have HV : Hid (PErr W2 v o) := hV
    have HO : Hid (o ≠ none) := ho
    clear hV hb2 cS ho
    go_wp2
    refine bodyPost_ret (v := .tuple #[.nilFunc, v]) (by simp [results, Tryz.results17, go_sem]) rfl ⟨HB2.out, _, _, rfl, HV.out, fun h => absurd h HO.out⟩
end Go.Proofs.YtehgeninocbpeaaGreatDoor.Tm

namespace Go.Proofs.YtehgeninocbpeaaGreatDoor.Tm
open Go Go.Proofs Go.RowKit
open Go.Proofs.NumLine (Nm Canon cmpN line)
def eqN (a b : Nm) : Bool := (a.neg == b.neg) && (((a.d : Int) == (b.d : Int)) && (a.e == b.e))
theorem eqN_iff (a b : Nm) : eqN a b = true ↔ a = b := by
  obtain ⟨n1, d1, e1⟩ := a
  obtain ⟨n2, d2, e2⟩ := b
  unfold eqN
  simp
  omega
noncomputable def dcM (A : Nm) (u : ByteArray) : Bool := decide ((nmR u).2 = none) && eqN (nmR u).1 A
def fNm (a : Nm) : Nat → Value := fun k => #[Value.bool a.neg, .int .u64 (a.d : Int), .int .i64 a.e].getD k undef
structure Dck (W : World) (p0 p1 : Nat) (A : Nm) : Prop where
  a : W.cell? ⟨p0, 0, none⟩ = some (.func (.func 44) #[] #[])
  b : W.rowIs p1 73 3 (fNm A)
theorem Dck.on {W W' : World} {p0 p1 : Nat} {A : Nm} (h : Dck W p0 p1 A) (hb : Below W.heap.size W W') : Dck W' p0 p1 A := ⟨(hb.cell (cell_lt h.a)).trans h.a, h.b.of_block (hb.block _ h.b.lt)⟩
set_option maxRecDepth 100000 in
set_option maxHeartbeats 2000000 in
theorem clos72 (W : World) (p0 p1 : Nat) (A : Nm) (u : ByteArray) (hK : Dck W p0 p1 A) : Calls Tryz.prog 72 #[.string u, ptr p0, ptr p1] W (BoolP W (dcM A u)) := by
  have c := parse44 W u
  unfold dcM ptr
  generalize (nmR u).1 = X at *
  generalize (nmR u).2 = o at *
  unfold Nu.nv at c
  have h0 := hK.a
  obtain ⟨n1, d1, e1⟩ := A
  obtain ⟨n2, d2, e2⟩ := X
  unfold eqN
  dsimp only at c ⊢
  go_enter Tryz.func72, Tryz.ntmps72
  go_wp2_with (go_at_call 44; refine Stop.mk ?_)
  refine Stop.out (c.mono ?_)
  rintro e W1 ⟨v, rfl, hv, hb⟩
  have hb2 : Below W1.heap.size W1 (W1.alloc (.cells #[.bool n2, .int .u64 (d2 : Int), .int .i64 e2] 73)) := (Below.refl _ _).alloc (Nat.le_refl _) _
  have hbb := hb.trans (hb2.mono hb.size)
  have hK2 := hK.on hbb
  have hR2 := World.rowIs_alloc W1 #[.bool n2, .int .u64 (d2 : Int), .int .i64 e2] 73 _ (row_lit _)
  obtain ⟨W2, hW2⟩ : ∃ W2, W1.alloc (.cells #[.bool n2, .int .u64 (d2 : Int), .int .i64 e2] 73) = W2 := ⟨_, rfl⟩
  obtain ⟨B1, hB1⟩ : ∃ B1, W1.heap.size = B1 := ⟨_, rfl⟩
  rw [hW2] at hK2 hR2 hbb
  rw [hB1] at hR2
  have a0 : W2.cell? ⟨p1, 0, none⟩ = some (.bool n1) := hK2.b.cell (i := 0) (by simp)
  have a1 : W2.cell? ⟨p1, 1, none⟩ = some (.int .u64 (d1 : Int)) := hK2.b.cell (i := 1) (by simp)
  have a2 : W2.cell? ⟨p1, 2, none⟩ = some (.int .i64 e1) := hK2.b.cell (i := 2) (by simp)
  have b0 : W2.cell? ⟨B1, 0, none⟩ = some (.bool n2) := hR2.cell (i := 0) (by simp)
  have b1 : W2.cell? ⟨B1, 1, none⟩ = some (.int .u64 (d2 : Int)) := hR2.cell (i := 1) (by simp)
  have b2 : W2.cell? ⟨B1, 2, none⟩ = some (.int .i64 e2) := hR2.cell (i := 2) (by simp)
  have HB : Hid (Below W.heap.size W W2) := hbb
  clear c hb h0 hK hb2 hbb hK2 hR2
  cases o with
  | none =>
    obtain rfl : v = .nilIface := hv
    go_upto_region 2 with fail
    try clear hW2 hB1
    go_wp2
    all_goals
      go_ret
      refine ⟨?_, HB.out⟩
      clear a0 a1 a2 b0 b1 b2 HB
      simp_all
  | some x =>
    obtain ⟨g, rfl, _⟩ := hv
    go_upto_region 2 with fail
    try clear hW2 hB1
    go_wp2
    go_ret
    exact ⟨by simp, HB.out⟩
def DcP (W : World) (A : Nm) (o : Option (Int × Int)) (e : Ending) (w' : World) : Prop :=
  Below W.heap.size W w' ∧ ((o = none ∧ ∃ p0 p1, e = .returned (.tuple #[.func (.func 72) #[] #[ptr p0, ptr p1], .nilIface]) ∧ Dck w' p0 p1 A) ∨ (o ≠ none ∧ ∃ v, e = .returned (.tuple #[.nilFunc, v]) ∧ PErr w' v o))
set_option maxRecDepth 100000 in
theorem same43 (w : World) (key : ByteArray) : Calls Tryz.prog 43 #[.func (.func 44) #[] #[], .string key] w (DcP w (nmR key).1 (nmR key).2) := by
  obtain ⟨W0, hW0⟩ : ∃ W0, w.alloc (.cells #[.func (.func 44) #[] #[]] 81) = W0 := ⟨_, rfl⟩
  have hb0 : Below w.heap.size w W0 := hW0 ▸ (Below.refl _ _).alloc (Nat.le_refl _) _
  have c0 : W0.cell? ⟨w.heap.size, 0, none⟩ = some (.func (.func 44) #[] #[]) := by rw [← hW0]; simp
  have c := parse44 W0 key
  generalize (nmR key).1 = A at *
  generalize (nmR key).2 = o at *
  unfold Nu.nv at c
  have HB : Hid (Below w.heap.size w W0) := hb0
  clear hb0
  go_enter Tryz.func43, Tryz.ntmps43
  go_wp2_with (go_at_call 44; refine Stop.mk ?_)
  refine Stop.out (c.mono ?_)
  rintro e W1 ⟨v, rfl, hvv, hb⟩
  obtain ⟨W2, hW2⟩ : ∃ W2, W1.alloc (.cells #[.bool A.neg, .int .u64 (A.d : Int), .int .i64 A.e] 73) = W2 := ⟨_, rfl⟩
  have hb2 : Below W1.heap.size W1 W2 := hW2 ▸ (Below.refl _ _).alloc (Nat.le_refl _) _
  have hb02 : Below W0.heap.size W0 W2 := hb.trans (hb2.mono hb.size)
  have C2 : Hid (Dck W2 w.heap.size W1.heap.size A) := ⟨(hb02.cell (cell_lt c0)).trans c0, hW2 ▸ World.rowIs_alloc W1 _ 73 _ (row_lit _)⟩
  have B2 : Hid (Below w.heap.size w W2) := HB.out.trans (hb02.mono HB.out.size)
  have V2 : Hid (PErr W2 v o) := hvv.next hb2
  clear hb hb2 hb02 HB c c0 hW0
  cases o with
  | some x =>
    obtain ⟨g, rfl, _⟩ := hvv
    go_wp2
    refine bodyPost_ret (v := .tuple #[.nilFunc, .iface 88 (.pointer (some ⟨g, 0, none⟩))]) (by simp [results, Tryz.results43, go_sem]) rfl ⟨B2.out, .inr ⟨by simp, _, rfl, V2.out⟩⟩
  | none =>
    obtain rfl : v = .nilIface := hvv
    go_wp2
    refine bodyPost_ret (v := .tuple #[.func (.func 72) #[] #[ptr w.heap.size, ptr W1.heap.size], .nilIface]) (by simp [results, Tryz.results43, go_sem, ptr]) rfl ⟨B2.out, .inl ⟨rfl, _, _, rfl, C2.out⟩⟩
set_option maxRecDepth 100000 in
theorem matcher_dec (w : World) (vr : Int) (hv : rB vr = 6) (key : ByteArray) (hk0 : key.size ≠ 0) (hR : Rt w) : Calls Tryz.prog 17 #[.int .i64 vr, .string key] w (MtP w (dcM (nmR key).1) (nmR key).2 2097152) := by
  obtain ⟨W0, hW0⟩ : ∃ W0, w.alloc (.cells #[.string key] 9) = W0 := ⟨_, rfl⟩
  have hb0 : Below w.heap.size w W0 := hW0 ▸ (Below.refl _ _).alloc (Nat.le_refl _) _
  have c0 : W0.cell? ⟨w.heap.size, 0, none⟩ = some (.string key) := by rw [← hW0]; simp
  have cR := ruleOf_any W0 vr (hR.on hb0)
  rw [hv] at cR
  have cS := fun W => same43 W key
  have HB : Hid (Below w.heap.size w W0) := hb0
  have hke := text_some hk0
  generalize (nmR key).1 = A at *
  generalize (nmR key).2 = o at *
  clear hR hb0 hk0 hv
  go_enter Tryz.func17, Tryz.ntmps17
  go_wp2_with (go_at_call 18; refine Stop.mk ?_)
  refine Stop.out (cR.mono ?_)
  rintro e W1 ⟨rfl, hb⟩
  have hf := field0 W1 6 (rC vr)
  have c1 : W1.cell? ⟨w.heap.size, 0, none⟩ = some (.string key) := (hb.cell (cell_lt c0)).trans c0
  have HB1 : Hid (Below w.heap.size w W1) := HB.out.trans (hb.mono HB.out.size)
  clear cR hb HB c0 hW0
  go_wp2_with (go_at_call 43; refine Stop.mk ?_)
  refine Stop.out ((cS W1).mono ?_)
  rintro e W2 ⟨hb2, h | h⟩
  · obtain ⟨ho, p0, p1, rfl, hC⟩ := h
    have HB2 : Hid (Below w.heap.size w W2) := HB1.out.trans (hb2.mono HB1.out.size)
    have HC : Hid (Dck W2 p0 p1 A) := hC
    have HO : Hid (o = none) := ho
    unfold ptr
    clear hC hb2 cS ho
    go_wp2
    refine bodyPost_ret (v := .tuple #[.func (.func 72) #[] #[ptr p0, ptr p1], .nilIface]) (by simp [results, Tryz.results17, go_sem, ptr]) rfl ⟨HB2.out, _, _, rfl, by rw [HO.out]; rfl, fun _ W' hb' g cap xs hn hx cells => contains72 W' g cap xs hn cells p0 p1 _ (fun W3 hb3 u hu => clos72 W3 p0 p1 A u ((HC.out.on hb').on hb3))⟩
  · obtain ⟨ho, v, rfl, hV⟩ := h
    have HB2 : Hid (Below w.heap.size w W2) := HB1.out.trans (hb2.mono HB1.out.size)
    have HV : Hid (PErr W2 v o) := hV
    have HO : Hid (o ≠ none) := ho
    clear hV hb2 cS ho
    go_wp2
    refine bodyPost_ret (v := .tuple #[.nilFunc, v]) (by simp [results, Tryz.results17, go_sem]) rfl ⟨HB2.out, _, _, rfl, HV.out, fun h => absurd h HO.out⟩
end Go.Proofs.YtehgeninocbpeaaGreatDoor.Tm

namespace Go.Proofs.YtehgeninocbpeaaGreatDoor.Gl
open Go Go.Proofs Go.RowKit
theorem boolInfo : (Tryz.prog.info? 4).map (fun i => (i.zero, i.size, i.bytes)) = some (some (.bool false), 1, 1) := by kernel_rfl
def rowF (P T : List Int) (i : Nat) : Nat → Value := fun j => .bool (gm (P.take i) (T.take j))
def rowN (P T : List Int) (i j : Nat) : Nat → Value := fun k => .bool (if k < j then gm (P.take (i + 1)) (T.take k) else false)
theorem rowN_next (P T : List Int) (i j : Nat) (b : Bool) (hb : b = gm (P.take (i + 1)) (T.take j)) (k : Nat) : (if k = j then .bool b else rowN P T i j k) = rowN P T i (j + 1) k := by
  unfold rowN
  by_cases h : k = j
  · subst h; rw [if_pos rfl, if_pos (by omega), hb]
  · rw [if_neg h]
    by_cases h2 : k < j
    · rw [if_pos h2, if_pos (by omega)]
    · rw [if_neg h2, if_neg (by omega)]
theorem rowN_skip (P T : List Int) (i j : Nat) (hb : gm (P.take (i + 1)) (T.take j) = false) (k : Nat) : rowN P T i j k = rowN P T i (j + 1) k := by
  have := rowN_next P T i j false hb.symm k
  rw [← this]
  by_cases h : k = j
  · subst h; rw [if_pos rfl]; unfold rowN; rw [if_neg (by omega)]
  · rw [if_neg h]
set_option maxRecDepth 100000 in
set_option maxHeartbeats 2000000 in
theorem rglob_any (w : World) (p t : ByteArray) (hp : p.size ≤ 2097152) (ht : t.size ≤ 2097152) :
    Calls Tryz.prog 52 #[.string p, .string t] w fun e w' => e = .returned (.bool (gm (relems p) (relems t))) ∧ Below w.heap.size w w' := by
  have c1 := relements_any w p hp
  have c2 := fun W => relements_any W t ht
  have HP : Hid ((relems p).length ≤ 2097152) := Nat.le_trans (relems_len p) hp
  have HT : Hid ((relems t).length ≤ 2097152) := Nat.le_trans (relems_len t) ht
  generalize relems p = P at *
  generalize relems t = T at *
  clear hp ht
  obtain ⟨R, hR⟩ : ∃ R, gm P T = R := ⟨_, rfl⟩
  have HRR : Hid (gm P T = R) := hR
  rw [hR]
  clear hR
  go_enter Tryz.func52, Tryz.ntmps52
  go_wp2_with (go_at_call 90; refine Stop.mk ?_)
  refine Stop.out (c1.mono ?_)
  rintro e W1 ⟨v1, rfl, ho1, hb1⟩
  go_wp2_with (go_at_call 90; refine Stop.mk ?_)
  refine Stop.out ((c2 W1).mono ?_)
  rintro e W2 ⟨v2, rfl, ho2, hb2⟩
  obtain ⟨a1, cap1, rfl, hcp1, hr1⟩ := own_rd64 ho1
  obtain ⟨a2, cap2, rfl, hcp2, hr2⟩ := own_rd64 ho2
  have hB : Below w.heap.size w W2 := hb1.trans (hb2.mono hb1.size)
  have HR1 : Hid (∀ k x, P[k]? = some x → ∃ g, a1 = some ⟨g, 0, none⟩ ∧ W2.cell? ⟨g, k, none⟩ = some (.int .i64 x)) := fun k x hk => by
    obtain ⟨g, hg, hc⟩ := hr1 k x hk
    exact ⟨g, hg, (hb2.cell (p := ⟨g, k, none⟩) (World.block_lt_of_cell? W1 ⟨g, k, none⟩ hc)).trans hc⟩
  have HR2 : Hid (∀ k x, T[k]? = some x → ∃ g, a2 = some ⟨g, 0, none⟩ ∧ W2.cell? ⟨g, k, none⟩ = some (.int .i64 x)) := hr2
  have HBw : Hid (Below w.heap.size w W2) := hB
  obtain ⟨n, hn⟩ : ∃ n, P.length = n := ⟨_, rfl⟩
  obtain ⟨m, hm⟩ : ∃ m, T.length = m := ⟨_, rfl⟩
  have HN : Hid (P.length = n) := hn
  have HM : Hid (T.length = m) := hm
  rw [hn] at hcp1
  rw [hm] at hcp2
  have hn2 : n ≤ 2097152 := hn ▸ HP.out
  have hm2 : m ≤ 2097152 := hm ▸ HT.out
  rw [hn, hm]
  clear hr1 hr2 ho1 ho2 hb1 hb2 hB c1 c2 HP HT hn hm
  have hmk : ∀ u : World, (Instr.makeSlice 136 (.int .i64 ((m : Int) + 1)) (.int .i64 ((m : Int) + 1))).run Tryz.prog u = .ok (.slice (some ⟨u.heap.size, 0, none⟩) (m + 1) (m + 1)) (u.alloc (.cells (madeCells #[.bool false] (m + 1)) 4)) :=
    fun u => run_make_row' 136 4 (.bool false) 1 Tryz.underlying136 boolInfo rfl .i64 .i64 (m + 1) (by omega) (by omega) u
  have hnew := World.rowIs_made W2 (.bool false) (m + 1) 4
  have hfz0 := hnew.frozen 0
  have hce0 := hnew.cell (i := 0) (by omega)
  have HF0 : Hid ((W2.alloc (.cells ((madeCells #[.bool false] (m + 1)).setIfInBounds 0 (.bool true)) 4)).rowIs W2.heap.size 4 (m + 1) (rowF P T 0)) := by
    refine ⟨(madeCells #[.bool false] (m + 1)).setIfInBounds 0 (.bool true), heap_alloc_new _ _, by rw [Array.size_setIfInBounds, size_madeCells], fun j hj => ?_⟩
    rw [Array.getElem?_setIfInBounds, size_madeCells, show (madeCells #[.bool false] (m + 1))[j]? = some (.bool false) by simp [madeCells, hj, Nat.mod_one]]
    unfold rowF
    rw [List.take_zero, gm_nil]
    by_cases h : j = 0
    · subst h; rw [if_pos rfl, if_pos (by omega)]; rfl
    · rw [if_neg (fun e => h e.symm)]
      have : (T.take j).isEmpty = false := by
        rw [List.isEmpty_eq_false_iff]
        intro e
        have := congrArg List.length e
        rw [List.length_take, HM.out] at this
        simp at this
        omega
      rw [this]
  clear hnew
  go_wp2
  go_loopg [7, 8] n (fun g s7 s8 wx => ∃ (i gf : Nat), s7 = .slice (some ⟨gf, 0, none⟩) (m + 1) (m + 1) ∧ s8 = .int .i64 (i : Int) ∧ g + i = n ∧ W2.heap.size ≤ gf ∧ Hid (wx.rowIs gf 4 (m + 1) (rowF P T i)) ∧ Hid (Below W2.heap.size W2 wx))
  case atStart => exact ⟨0, W2.heap.size, rfl, rfl, by omega, Nat.le_refl _, HF0, (Below.refl _ W2).alloc (Nat.le_refl _) _⟩
  case round =>
    clear HF0 hce0 hfz0
    obtain ⟨i, gf, rfl, rfl, hg, hgf, HF, HBx⟩ := hrel
    by_cases hin : i < n
    · have hiI : (i : Int) < (n : Int) := by omega
      obtain ⟨c, hc⟩ : ∃ c, P[i]? = some c := ⟨P[i]'(by rw [HN.out]; exact hin), List.getElem?_eq_getElem (by rw [HN.out]; exact hin)⟩
      obtain ⟨g1, rfl, hcc⟩ := HR1.out i c hc
      have hl1 := World.block_lt_of_cell? W2 ⟨g1, i, none⟩ hcc
      have HC1 : Hid (W2.cell? ⟨g1, i, none⟩ = some (.int .i64 c)) := hcc
      have HL1 : Hid (g1 < W2.heap.size) := hl1
      have HPc : Hid (P[i]? = some c) := hc
      have hgl := HF.out.lt
      have hnew := World.rowIs_made wr (.bool false) (m + 1) 4
      have HN0 : Hid ((wr.alloc (.cells (madeCells #[.bool false] (m + 1)) 4)).rowIs wr.heap.size 4 (m + 1) (rowN P T i 0)) := hnew.congr (fun j hj => by unfold rowN; rw [if_neg (by omega)])
      have HFn : Hid ((wr.alloc (.cells (madeCells #[.bool false] (m + 1)) 4)).rowIs gf 4 (m + 1) (rowF P T i)) := HF.out.alloc _
      have hsz := HBx.out.size
      have HBn : Hid (Below W2.heap.size W2 (wr.alloc (.cells (madeCells #[.bool false] (m + 1)) 4))) := HBx.out.alloc hsz _
      obtain ⟨gn, hgn⟩ : ∃ gn, wr.heap.size = gn := ⟨_, rfl⟩
      rw [hgn] at hgl HN0 hsz
      have hne : gf ≠ gn := by omega
      clear hnew hc hcc hl1
      go_wp2
      go_loopg [10] (m + 1) (fun g s10 wx => ∃ j : Nat, s10 = .int .i64 (j : Int) ∧ g + j = m + 1 ∧ Hid (wx.rowIs gn 4 (m + 1) (rowN P T i j)) ∧ Hid (wx.rowIs gf 4 (m + 1) (rowF P T i)) ∧ Hid (Below W2.heap.size W2 wx))
      case atStart => exact ⟨0, rfl, by omega, HN0, HFn, HBn⟩
      case round =>
        clear HN0 HFn HBn HBx HF
        obtain ⟨j, rfl, hgj, HN1, HF, HBx⟩ := hrel
        by_cases hjm : j ≤ m
        · have hjI : (j : Int) ≤ (m : Int) := by omega
          have hc1 := (HBx.out.cell (p := ⟨g1, i, none⟩) HL1.out).trans HC1.out
          have hfz := HN1.out.frozen j
          have hcn := HN1.out.cell (i := j) (by omega)
          have hcf := HF.out.cell (i := j) (by omega)
          have hjI1 : (j : Int) < (m : Int) + 1 := by omega
          have key : ∀ b : Bool, b = gm (P.take (i + 1)) (T.take j) → Hid ((wr.setCell ⟨gn, j, none⟩ (.bool b)).rowIs gn 4 (m + 1) (rowN P T i (j + 1))) ∧ Hid ((wr.setCell ⟨gn, j, none⟩ (.bool b)).rowIs gf 4 (m + 1) (rowF P T i)) ∧ Hid (Below W2.heap.size W2 (wr.setCell ⟨gn, j, none⟩ (.bool b))) := fun b hb =>
            ⟨(HN1.out.set j (.bool b)).congr (fun k _ => rowN_next P T i j b hb k), HF.out.setOther hne _, HBx.out.setCell hsz _⟩
          have HK : Hid (∀ b : Bool, b = gm (P.take (i + 1)) (T.take j) → Hid ((wr.setCell ⟨gn, j, none⟩ (.bool b)).rowIs gn 4 (m + 1) (rowN P T i (j + 1))) ∧ Hid ((wr.setCell ⟨gn, j, none⟩ (.bool b)).rowIs gf 4 (m + 1) (rowF P T i)) ∧ Hid (Below W2.heap.size W2 (wr.setCell ⟨gn, j, none⟩ (.bool b)))) := key
          clear key
          by_cases h42 : c = 42
          · have hT := tab_star P T i j (h42 ▸ HPc.out) (by rw [HM.out]; exact hjm)
            subst h42
            unfold rowF at hcf
            cases hF : gm (P.take i) (T.take j) with
            | true =>
              rw [hF] at hcf
              obtain ⟨k1, k2, k3⟩ := HK.out true (by rw [hT, hF]; rfl)
              clear hT hF HK HN1 HF HBx
              go_wp2
              go_roundg (m - j)
              case measure => omega
              case rel => exact ⟨j + 1, by simp, by omega, k1, k2, k3⟩
            | false =>
              rw [hF] at hcf
              by_cases hj0 : j = 0
              · subst hj0
                obtain ⟨k1, k2, k3⟩ := HK.out false (by rw [hT, hF]; rfl)
                clear hT hF HK HN1 HF HBx
                go_wp2
                go_roundg m
                case measure => omega
                case rel => exact ⟨1, by simp, by omega, k1, k2, k3⟩
              · obtain ⟨j', rfl⟩ : ∃ j', j = j' + 1 := ⟨j - 1, by omega⟩
                have hcp := HN1.out.cell (i := j') (by omega)
                unfold rowN at hcp
                rw [if_pos (by omega)] at hcp
                obtain ⟨k1, k2, k3⟩ := HK.out (gm (P.take (i + 1)) (T.take j')) (by rw [hT, hF]; simp)
                generalize gm (P.take (i + 1)) (T.take j') = B at *
                have hjp : (0 : Int) < ((j' + 1 : Nat) : Int) := by omega
                have hjs : ((j' + 1 : Nat) : Int) - 1 = (j' : Int) := by omega
                clear hT hF HK HN1 HF HBx
                go_wp2
                go_roundg (m - (j' + 1))
                case measure => omega
                case rel => exact ⟨j' + 1 + 1, by simp, by omega, k1, k2, k3⟩
          · have h42' : (c == 42) = false := by simpa using h42
            by_cases hj0 : j = 0
            · have hT := tab_first P T i c HPc.out h42
              have HN2 : Hid (wr.rowIs gn 4 (m + 1) (rowN P T i (0 + 1))) := by
                subst hj0
                exact HN1.out.congr (fun k _ => rowN_skip P T i 0 hT k)
              subst hj0
              clear hT HK HN1 h42
              go_wp2
              go_roundg m
              case measure => omega
              case rel => exact ⟨1, by simp, by omega, HN2, HF, HBx⟩
            · obtain ⟨j', rfl⟩ : ∃ j', j = j' + 1 := ⟨j - 1, by omega⟩
              obtain ⟨x, hx⟩ : ∃ x, T[j']? = some x := ⟨T[j']'(by rw [HM.out]; omega), List.getElem?_eq_getElem (by rw [HM.out]; omega)⟩
              obtain ⟨g2, rfl, hxx⟩ := HR2.out j' x hx
              have hc2 := (HBx.out.cell (p := ⟨g2, j', none⟩) (World.block_lt_of_cell? W2 ⟨g2, j', none⟩ hxx)).trans hxx
              have hT := tab_one P T i j' c x HPc.out h42 hx
              have hcp := HF.out.cell (i := j') (by omega)
              unfold rowF at hcp
              have hjp : (0 : Int) < ((j' + 1 : Nat) : Int) := by omega
              have hjs : ((j' + 1 : Nat) : Int) - 1 = (j' : Int) := by omega
              have hjm' : (j' : Int) < (m : Int) := by omega
              clear hx hxx
              cases hF : gm (P.take i) (T.take j') with
              | false =>
                rw [hF] at hcp
                obtain ⟨k1, k2, k3⟩ := HK.out false (by rw [hT, hF]; rfl)
                clear hT hF HK HN1 HF HBx h42 
                go_wp2
                go_region
                go_wp2
                go_roundg (m - (j' + 1))
                case measure => omega
                case rel => exact ⟨j' + 1 + 1, by simp, by omega, k1, k2, k3.out.drew⟩
              | true =>
                rw [hF] at hcp
                by_cases h63 : c = 63
                · have h63' : (c == 63) = true := by simpa using h63
                  obtain ⟨k1, k2, k3⟩ := HK.out true (by rw [hT, hF]; simp [h63])
                  clear hT hF HK HN1 HF HBx h42 h63
                  go_wp2
                  go_region
                  go_wp2
                  go_roundg (m - (j' + 1))
                  case measure => omega
                  case rel => exact ⟨j' + 1 + 1, by simp, by omega, k1, k2, k3.out.drew⟩
                · have h63' : (c == 63) = false := by simpa using h63
                  by_cases hcx : c = x
                  · subst hcx
                    obtain ⟨k1, k2, k3⟩ := HK.out true (by rw [hT, hF]; simp)
                    clear hT hF HK HN1 HF HBx h42 h63
                    go_wp2
                    go_region
                    go_wp2
                    go_roundg (m - (j' + 1))
                    case measure => omega
                    case rel => exact ⟨j' + 1 + 1, by simp, by omega, k1, k2, k3.out.drew⟩
                  · have hcx' : (c == x) = false := by simpa using hcx
                    obtain ⟨k1, k2, k3⟩ := HK.out false (by rw [hT, hF]; simp [hcx, h63])
                    clear hT hF HK HN1 HF HBx h42 h63 hcx
                    go_wp2
                    go_region
                    go_wp2
                    go_roundg (m - (j' + 1))
                    case measure => omega
                    case rel => exact ⟨j' + 1 + 1, by simp, by omega, k1, k2, k3.out.drew⟩
        · have hjI : ¬ ((j : Int) ≤ (m : Int)) := by omega
          obtain rfl : j = m + 1 := by omega
          have HF2 : Hid (wr.rowIs gn 4 (m + 1) (rowF P T (i + 1))) := HN1.out.congr (fun k hk => by unfold rowN rowF; rw [if_pos hk])
          clear HN1 HF
          go_wp2
          go_roundg (n - (i + 1))
          case measure => omega
          case rel => exact ⟨i + 1, gn, rfl, by simp, by omega, hsz, HF2, HBx⟩
    · obtain rfl : i = n := by omega
      have hcf := HF.out.cell (i := m) (by omega)
      unfold rowF at hcf
      rw [List.take_of_length_le (by rw [HN.out]; exact Nat.le_refl _), List.take_of_length_le (by rw [HM.out]; exact Nat.le_refl _), HRR.out] at hcf
      clear HF
      go_wp2
      go_ret
      exact ⟨rfl, HBw.out.trans (HBx.out.mono HBw.out.size)⟩
end Go.Proofs.YtehgeninocbpeaaGreatDoor.Gl
