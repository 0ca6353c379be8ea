import Derived.Test.YtfoodjhffehgpaaGreatDoorGi
import Derived.Test.YtfoodjhffehgpaaGreatDoorPb
import Derived.ChangeArms
import Derived.SizedLaws
import Derived.OpenShut
section
/-
  DERIVED. DatasetForms.
-/
namespace Go.Proofs.YtfoodjhffehgpaaGreatDoor
open Go Go.Proofs Go.RowKit
open Wk (Nd NV nds goN nxt)
open Go.Sort

theorem el_sq (m : Nat) : ElC m ∧ SqC m := by
  induction m using Nat.strongRecOn with
  | ind m ih => exact ⟨el_step m (fun q h => (ih q h).2), sq_step m (fun q h => (ih q h).1)⟩
set_option maxRecDepth 100000 in
theorem el_nil (w : World) (cb : Nat) (a : Option Addr) (cap : Nat) (x : Bool) : Calls Tryz.prog 6 #[.pointer (some ⟨cb, 0, none⟩), .slice a 0 cap, .int .i64 0, .int .i64 0, .bool x] w fun e w' => e = .returned (.slice none 0 0) ∧ w = w' := by
  go_enter Tryz.func6, Tryz.ntmps6
  go_wp2
  refine wp_loop_rounds 1 ?_
  rw [rounds_succ]
  go_wp2
  go_ret
  exact ⟨rfl, rfl⟩
/-- What is laid down in whatever form is read. -/
theorem forms_ok {s : Int} {L : List Nd} (hs : s = 1 ∨ s = 2) (h : (res L).2 = true) (hT : TagsOk L) (bits : Nat) (hl : (fD bits L false (decide (s = 2)) 0 0 0 L.length).1.length ≤ 1048576) : OkD s (fD bits L false (decide (s = 2)) 0 0 0 L.length).1 (L.map (bkN (decide (s = 2)))) := by
  obtain ⟨c, hw⟩ := run_wt0 elem_n item_n L.length L 0 0 0 (Nat.le_refl _) h
  have h40 := (res_ok h).1
  have e : fD bits L false (decide (s = 2)) 0 0 0 L.length = frm (chB bits) stB L.length false (decide (s = 2)) 0 0 0 L := by
    unfold fD
    rw [sub_all]
  rw [e] at hl ⊢
  obtain ⟨t2, hg⟩ := (forms (chB bits) stB (fun _ => stB_map) (frm (chB bits) stB L.length false (decide (s = 2)) 0 0 0 L).1 L.length false 0 0 c L (Nat.le_refl _) hw hT (Int.le_refl 0) (decide (s = 2)) 0 0 0 0 (frm (chB bits) stB L.length false (decide (s = 2)) 0 0 0 L).1.length 0 false (fun _ => rfl) ⟨[], by rw [List.drop_zero, List.append_nil]⟩ (by rw [Nat.zero_add]; exact Nat.le_refl _) hl (by omega)).1 rfl
  refine ⟨hs, hl, ?_⟩
  refine hg [] none [] _ rfl (fun i e => nomatch e) rfl ?_
  refine .go (zs_end rfl ?_) (.done _ _)
  rw [Nat.zero_add]
  rfl
theorem ob_ba2 {base : Nat} {w : World} {u : Value} {ys : List UInt8} (h : Ob base w u ys) (hl : ys.length ≤ 9223372036854775807) : ∃ a c, u = .slice a ys.length c ∧ BA w.heap.size w a ys.length c ys := by
  have h0 : w.ownsRow base 5 1 u ys.length (bvs ys) := h
  rcases h0.2 with ⟨hv, he⟩ | ⟨g, c, cur, hv, -⟩
  · have e0 : ys.length = 0 := by
      subst hv
      have := he
      first | exact this | (have := congrArg List.length this; rw [bvs_len] at this; simpa using this) | omega | simp_all
    exact ⟨none, 0, by rw [hv, e0], rfl, by omega, by omega, fun k hk => by omega⟩
  · subst hv
    refine ⟨_, c, rfl, rfl, Wk.own_cap h0, by omega, fun k hk => ⟨g, 0, rfl, (World.ownsRow.lt h0 g rfl).2, ?_⟩⟩
    rw [Nat.zero_add]
    refine (World.ownsRow.cellAt h0 k (by omega)).trans ?_
    unfold bvs
    rw [List.getElem?_map, List.getElem?_eq_getElem hk]
    unfold gB
    rw [List.getD_eq_getElem?_getD, List.getElem?_eq_getElem hk]
    rfl
theorem wf_all {L : List Nd} (h : (res L).2 = true) : Wf L false 0 L.length := by
  unfold Wf
  rw [sub_all]
  exact res_wf h

theorem el_all (W : World) (a : Option Addr) (n cap : Nat) (L : List Nd) (x : Bool) (cb bits : Nat) (hV : NV W a n cap L) (hT : TagsOk L) (h : (res L).2 = true) (hpv : pvs L ≤ 1048576) (hne : ∀ b off, a = some ⟨b, off, none⟩ → b ≠ cb ∧ b < W.heap.size) (hC : Cq W cb bits 0) (hbits : bits < 18446744073709551616) :
    Calls Tryz.prog 6 #[.pointer (some ⟨cb, 0, none⟩), .slice a n cap, .int .i64 0, .int .i64 (n : Int), .bool x] W (FdP W cb bits (fD bits L false x 0 0 0 n).1 (fD bits L false x 0 0 0 n).2) := by
  have hl := hV.len
  have h40 := (res_ok h).1
  by_cases hn : n = 0
  · subst hn
    refine (el_nil W cb a cap x).mono ?_
    rintro e w' ⟨rfl, rfl⟩
    rw [fD_nil bits L false x 0 0 0 0 (Nat.le_refl _)]
    exact ⟨_, rfl, World.ownsRow_nil _ _ _ _, hC, Bk.refl _ _ _⟩
  · obtain ⟨b, off, rfl, -⟩ := hV.lies (by omega)
    obtain ⟨hb1, hb2⟩ := hne b off rfl
    have hw : Wf L false 0 n := by rw [hl]; exact wf_all h
    exact (el_sq n).1 W b off n cap L x 0 n cb bits 0 (by omega) ⟨hV, hb2, hb1, hT, res_good h, by omega, hpv⟩ hC hbits (by omega) (Nat.zero_le _) (Nat.le_refl _) (by rw [hl]; exact Lev.top L) hw
theorem BA.lift {base base' : Nat} {w w' : World} {a : Option Addr} {n cap : Nat} {ys : List UInt8} (h : BA base w a n cap ys) (hb : Below base w w') (hl : base ≤ base') : BA base' w' a n cap ys :=
  ⟨h.l, h.c, h.s, fun k hk => by obtain ⟨b, off, e, h1, h2⟩ := h.m k hk; exact ⟨b, off, e, Nat.lt_of_lt_of_le h1 hl, (hb.cell (p := ⟨b, off + k, none⟩) h1).trans h2⟩⟩
theorem nv_lt {W : World} {b off n cap : Nat} {L : List Nd} (h : NV W (some ⟨b, off, none⟩) n cap L) (hn : 0 < n) : b < W.heap.size := by
  have hl := h.len
  obtain ⟨b', off', hll, e, h0, -⟩ := NV.cells h (j := 0) hn
  cases e
  exact Rp.cell_lt h0

set_option maxRecDepth 100000 in
set_option maxHeartbeats 8000000 in
theorem forms_law (w : World) (a : Option Addr) (n cap bits : Nat) (s : Int) (L : List Nd) (hV : NV w a n cap L) (hT : TagsOk L) (hbits : bits < 18446744073709551616) (hE : EG w) : Calls Tryz.prog 3 #[.slice a n cap, .int .u64 (bits : Int), .int .i64 s] w fun e w' => e = .returned (.bool true) ∧ Below w.heap.size w w' := by
  have HV : Hid (NV w a n cap L) := hV
  have HT : Hid (TagsOk L) := hT
  have HE : Hid (EG w) := hE
  have HBT : Hid (bits < 18446744073709551616) := hbits
  have HN : Hid (n = L.length) := hV.len
  obtain ⟨z1, hz1⟩ : ∃ z, (errOf 1 L).isSome = z := ⟨_, rfl⟩
  obtain ⟨z2, hz2⟩ : ∃ z, (errOf 2 L).isSome = z := ⟨_, rfl⟩
  have HZ : Hid ((errOf 1 L).isSome = z1 ∧ (errOf 2 L).isSome = z2) := ⟨hz1, hz2⟩
  clear hV hT hE hz1 hz2 hbits
  go_enter Tryz.func3, Tryz.ntmps3
  go_wp2_with (go_at_call 4; refine StopG.out ?_)
  refine ⟨Calls.mono (alive_any w HE.out) ?_⟩
  rintro e W1 ⟨rfl, hb1⟩
  have HB1 : Hid (Below w.heap.size w W1) := hb1
  clear hb1
  go_wp2_with (go_at_call 5; refine StopG.out ?_)
  refine ⟨Calls.mono (short_any W1 a n cap L (HV.out.on HB1.out) HT.out z1 z2 HZ.out.1 HZ.out.2) ?_⟩
  rintro e W2 ⟨rfl, hb2⟩
  have HB2 : Hid (Below w.heap.size w W2) := HB1.out.trans (hb2.mono HB1.out.size)
  clear hb2 HB1
  rcases hq : (!z1 && !z2) with _ | _
  · go_wp2
    go_ret
    exact ⟨rfl, HB2.out⟩
  obtain ⟨rfl, rfl⟩ : z1 = false ∧ z2 = false := by cases z1 <;> cases z2 <;> simp_all
  have HO : Hid (errOf 1 L = none ∧ errOf 2 L = none) := ⟨by simpa using HZ.out.1, by simpa using HZ.out.2⟩
  clear hq HZ
  have HRES : Hid ((res L).2 = true ∧ pvs L ≤ 1048576) := by
    obtain ⟨r1, r2, r3, r4⟩ := err_ok HO.out.1
    exact ⟨r2, Nat.le_trans (pvs_sz _ L) r3⟩
  have h40 : n ≤ 4096 := by rw [HN.out]; exact (res_ok HRES.out.1).1
  obtain ⟨W3, hW3⟩ : ∃ W3, W2.alloc (.cells #[.int .u64 (bits : Int), .int .u64 0] 30) = W3 := ⟨_, rfl⟩
  have hb3 : Below W2.heap.size W2 W3 := by rw [← hW3]; exact (Below.refl _ _).alloc (Nat.le_refl _) _
  have HC3 : Hid (Cq W3 W2.heap.size bits 0) := by
    rw [← hW3]
    exact Wk.heap_new W2 _
  have HB3 : Hid (Below W2.heap.size W2 W3) := hb3
  have HEL : Hid (∀ x, Calls Tryz.prog 6 #[.pointer (some ⟨W2.heap.size, 0, none⟩), .slice a n cap, .int .i64 0, .int .i64 (n : Int), .bool x] W3 (FdP W3 W2.heap.size bits (fD bits L false x 0 0 0 n).1 (fD bits L false x 0 0 0 n).2)) := fun x => by
    have hv2 := HV.out.on HB2.out
    by_cases hn : n = 0
    · subst hn
      refine (el_nil W3 _ a cap x).mono ?_
      rintro e w' ⟨rfl, rfl⟩
      rw [fD_nil bits L false x 0 0 0 0 (Nat.le_refl _)]
      exact ⟨_, rfl, World.ownsRow_nil _ _ _ _, HC3.out, Bk.refl _ _ _⟩
    · refine el_all W3 a n cap L x _ bits (hv2.on hb3) HT.out HRES.out.1 HRES.out.2 (fun b off e => ?_) HC3.out HBT.out
      subst e
      have h := nv_lt hv2 (by omega)
      exact ⟨by omega, Nat.lt_of_lt_of_le h hb3.size⟩
  clear hb3
  by_cases hs1 : s = 1
  · subst hs1
    obtain ⟨ys, hys⟩ : ∃ ys, (fD bits L false false 0 0 0 n).1 = ys := ⟨_, rfl⟩
    have HYS : Hid (ys.length ≤ 1048576 → OkD 1 ys (L.map imN)) := fun h => by
      have := forms_ok (s := 1) (.inl rfl) HRES.out.1 HT.out bits (by rw [← HN.out, show decide ((1 : Int) = 2) = false from rfl, hys]; exact h)
      rw [← HN.out, show decide ((1 : Int) = 2) = false from rfl, hys] at this
      exact this
    have hyl : ys.length ≤ 9223372036854775807 := by
      have := (fD_bounds (bits := bits) (x := false) (g := 0) (q := 0) (i := 0) (e := n) (by rw [HN.out]; exact Nat.le_refl _) (by rw [HN.out]; exact wf_all HRES.out.1)).1
      rw [hys] at this
      have := HRES.out.2
      omega
    have CE := HEL.out false
    rw [hys] at CE
    clear hys HEL
    go_wp2_with (go_at_call 6; refine StopG.out ?_)
    refine ⟨Calls.mono CE ?_⟩
    rintro e W4 ⟨u, rfl, ho4, -, hb4⟩
    have hbl : Below W2.heap.size W2 W4 := HB3.out.trans ((hb4.out.mono HB3.out.size).below (Nat.le_refl _))
    have HB4 : Hid (Below w.heap.size w W4) := HB2.out.trans (hbl.mono HB2.out.size)
    obtain ⟨a4, c4, rfl, hBA⟩ := ob_ba2 ho4.out hyl
    have HBA : Hid (BA W4.heap.size W4 a4 ys.length c4 ys) := hBA
    obtain ⟨lb, hlb⟩ : ∃ lb, ys.length = lb := ⟨_, rfl⟩
    have HLB : Hid (ys.length = lb) := hlb
    rw [hlb] at HYS HBA ⊢
    clear CE ho4 hb4 hbl hBA hlb hyl hW3
    by_cases hl : 1048576 < lb
    · have hlI : (1048576 : Int) < (lb : Int) := by omega
      go_wp2
      go_ret
      exact ⟨rfl, HB4.out⟩
    · have hlI : ¬ (1048576 : Int) < (lb : Int) := by omega
      have HOK : Hid (OkD 1 ys (L.map imN)) := HYS.out (by omega)
      have c7 := rimplied_any some_zero W4 a n cap L (HV.out.on HB4.out) HT.out
      go_wp2_with (go_at_call 7; refine StopG.out ?_)
      refine ⟨Calls.mono c7 ?_⟩
      rintro e W5 ⟨u5, vf, rfl, ho5, -, hr5, hb5⟩
      have hout : out L = L.map imN := by
        unfold out
        rw [if_pos HRES.out.1]
        rfl
      obtain rfl : vf = .agg #[.slice none 0 0, .int .i64 0] := by
        rcases hr5 with ⟨-, h⟩ | ⟨h, -⟩
        · exact h
        · rw [HRES.out.1] at h; cases h
      have hln : L.length = n := HN.out.symm
      rw [hout] at ho5
      obtain ⟨a5, c5, rfl, hN5⟩ := own_nvi ho5 rfl (by rw [List.length_map, hln]; exact h40) (im_nums HV.out.num)
      rw [List.length_map, hln] at hN5 ⊢
      have HN5 : Hid (NV W5 a5 n c5 (L.map imN)) := hN5
      have HB5 : Hid (Below W4.heap.size W4 W5) := hb5
      have HML : Hid ((L.map imN).length = n) := by show _ = _; rw [List.length_map]; exact hln
      clear ho5 hr5 hb5 hN5 c7 hout hln
      go_wp2_with (go_at_call 8; refine StopG.out ?_)
      have hb6 : Below W5.heap.size W5 (W5.alloc (.cells #[.slice none 0 0, .int .i64 0] 35)) := (Below.refl _ _).alloc (Nat.le_refl _) _
      refine ⟨Calls.mono (dec_ok _ a4 lb c4 ys 1 (L.map imN) (HBA.out.lift (HB5.out.trans (hb6.mono HB5.out.size)) (HB5.out.trans (hb6.mono HB5.out.size)).size) HOK.out) ?_⟩
      rintro e W7 ⟨a7, c7, rfl, hN7, hb7⟩
      rw [HML.out] at hN7 ⊢
      have hb57 : Below W5.heap.size W5 W7 := hb6.trans (hb7.out.mono hb6.size)
      have HN57 : Hid (NV W7 a5 n c5 (L.map imN)) := HN5.out.on hb57
      have HB7 : Hid (Below w.heap.size w W7) := HB4.out.trans ((HB5.out.trans (hb57.mono HB5.out.size)).mono HB4.out.size)
      clear hb6 hb7 hb57
      go_wp2_with (go_at_call 9; refine StopG.out ?_)
      refine ⟨Calls.mono (Wk.nodes_same W7 a7 a5 n c7 c5 (L.map imN) hN7.out HN57.out) ?_⟩
      rintro e W8 ⟨rfl, m8, hW8⟩
      have HB8 : Hid (Below w.heap.size w W8) := by rw [hW8]; exact Wk.below_drw HB7.out m8
      clear hW8
      go_wp2
      go_ret
      exact ⟨rfl, HB8.out⟩
  by_cases hs2 : s = 2
  · subst hs2
    obtain ⟨ys, hys⟩ : ∃ ys, (fD bits L false true 0 0 0 n).1 = ys := ⟨_, rfl⟩
    have HYS : Hid (ys.length ≤ 1048576 → OkD 2 ys L) := fun h => by
      have := forms_ok (s := 2) (.inr rfl) HRES.out.1 HT.out bits (by rw [← HN.out, show decide ((2 : Int) = 2) = true from rfl, hys]; exact h)
      rw [← HN.out, show decide ((2 : Int) = 2) = true from rfl, hys, show L.map (bkN true) = L from List.map_id _] at this
      exact this
    have hyl : ys.length ≤ 9223372036854775807 := by
      have := (fD_bounds (bits := bits) (x := true) (g := 0) (q := 0) (i := 0) (e := n) (by rw [HN.out]; exact Nat.le_refl _) (by rw [HN.out]; exact wf_all HRES.out.1)).1
      rw [hys] at this
      have := HRES.out.2
      omega
    have CE := HEL.out true
    rw [hys] at CE
    clear hys HEL hs1
    go_wp2_with (go_at_call 6; refine StopG.out ?_)
    refine ⟨Calls.mono CE ?_⟩
    rintro e W4 ⟨u, rfl, ho4, -, hb4⟩
    have hbl : Below W2.heap.size W2 W4 := HB3.out.trans ((hb4.out.mono HB3.out.size).below (Nat.le_refl _))
    have HB4 : Hid (Below w.heap.size w W4) := HB2.out.trans (hbl.mono HB2.out.size)
    obtain ⟨a4, c4, rfl, hBA⟩ := ob_ba2 ho4.out hyl
    have HBA : Hid (BA W4.heap.size W4 a4 ys.length c4 ys) := hBA
    obtain ⟨lb, hlb⟩ : ∃ lb, ys.length = lb := ⟨_, rfl⟩
    rw [hlb] at HYS HBA ⊢
    clear CE ho4 hb4 hbl hBA hlb hyl hW3
    by_cases hl : 1048576 < lb
    · have hlI : (1048576 : Int) < (lb : Int) := by omega
      go_wp2
      go_ret
      exact ⟨rfl, HB4.out⟩
    · have hlI : ¬ (1048576 : Int) < (lb : Int) := by omega
      have HOK : Hid (OkD 2 ys L) := HYS.out (by omega)
      have HML : Hid (L.length = n) := HN.out.symm
      go_wp2_with (go_at_call 8; refine StopG.out ?_)
      refine ⟨Calls.mono (dec_ok W4 a4 lb c4 ys 2 L HBA.out HOK.out) ?_⟩
      rintro e W7 ⟨a7, c7, rfl, hN7, hb7⟩
      rw [HML.out] at hN7 ⊢
      have HB7 : Hid (Below w.heap.size w W7) := HB4.out.trans (hb7.out.mono HB4.out.size)
      have HNL : Hid (NV W7 a n cap L) := HV.out.on HB7.out
      clear hb7
      go_wp2_with (go_at_call 9; refine StopG.out ?_)
      refine ⟨Calls.mono (Wk.nodes_same W7 a7 a n c7 cap L hN7.out HNL.out) ?_⟩
      rintro e W8 ⟨rfl, m8, hW8⟩
      have HB8 : Hid (Below w.heap.size w W8) := by rw [hW8]; exact Wk.below_drw HB7.out m8
      clear hW8
      go_wp2
      go_ret
      exact ⟨rfl, HB8.out⟩
  · have b1 : (s == 1) = false := beq_eq_false_iff_ne.2 hs1
    have b2 : (s == 2) = false := beq_eq_false_iff_ne.2 hs2
    have d1 : (s != 1) = true := by simp [bne, b1]
    have d2 : (s != 2) = true := by simp [bne, b2]
    clear hs1 hs2 hW3 HEL
    go_wp2
    go_ret
    exact ⟨rfl, HB2.out⟩
end Go.Proofs.YtfoodjhffehgpaaGreatDoor
end

section
/-
  DERIVED. Nodes that came in, read.
-/
namespace Go.Proofs.YtfoodjhffehgpaaGreatDoor
open Go Go.Proofs Go.RowKit
open Wk (Nd NV)

section
variable {H : Type} {enc : TypeId × Value → H} {W : World} {base : Nat} {spare : Nat → Bool} {held : Bool}

/-- These cells read as something of that type; nothing in it is longer than a machine holds. -/
def Rd (enc : TypeId × Value → H) (W : World) (base : Nat) (spare : Nat → Bool) (held : Bool) (t : TypeId) (cs : List Value) : Prop :=
  ∃ fuel d p, DataW.trod enc Tryz.prog W base spare held fuel t cs = some (d, p) ∧ ∀ n ∈ d.weights Tryz.prog t, n ≤ reachBytes

theorem weights_all {t : TypeId} : ∀ {l : List (DataW H)} {i : Nat} {d : DataW H}, l[i]? = some d → ∀ n ∈ d.weights Tryz.prog t, n ∈ DataW.weightsAll Tryz.prog t l
  | [], _, _, h, _, _ => by simp at h
  | x :: l, 0, d, h, n, hn => by simp at h; subst h; simp [DataW.weightsAll, hn]
  | x :: l, i + 1, d, h, n, hn => by simp at h; simp only [DataW.weightsAll, List.mem_append]; exact .inr (weights_all h n hn)

theorem Rd.field {t : TypeId} {fs : Array Field} {cs : List Value} (h : Rd enc W base spare held t cs) (ht : Tryz.prog.underlying t = some (.struct fs)) (i : Nat) (f : Field) (hf : fs[i]? = some f) : Rd enc W base spare held f.type ((cs.drop f.offset).take (Tryz.prog.cellsOf f.type)) := by
  obtain ⟨fu, d, p, h, hw⟩ := h
  obtain ⟨xs, n, rfl, hx, hl, hxl, hall⟩ := DataW.trod_struct ht h
  have hi : i < fs.size := (Array.getElem?_eq_some_iff.1 hf).1
  obtain ⟨b, hb⟩ : ∃ b, xs[i]? = some b := ⟨xs[i]'(by omega), List.getElem?_eq_getElem (by omega)⟩
  have h1 := hall i f hf
  rw [hb] at h1
  refine ⟨n, b.1, b.2, h1, fun m hm => hw m ?_⟩
  have hd : d = .agg (xs.map (·.1)) := congrArg Prod.fst hx
  subst hd
  simp only [DataW.weights, ht]
  exact DataW.weights_mem_each (j := i) (t := f.type) (d := b.1) (by simp [hf]) (by simp [hb]) m hm

theorem Rd.at {t ty : TypeId} {fs : Array Field} {cs : List Value} (h : Rd enc W base spare held t cs) (ht : Tryz.prog.underlying t = some (.struct fs)) (i o n : Nat) (hf : (fs[i]?).map (fun f => (f.type, f.offset)) = some (ty, o)) (hc : Tryz.prog.cellsOf ty = n) : Rd enc W base spare held ty ((cs.drop o).take n) := by
  obtain ⟨f, hf1, hf2⟩ := Option.map_eq_some_iff.1 hf
  simp only [Prod.mk.injEq] at hf2
  have := h.field ht i f hf1
  rw [hf2.1, hf2.2, hc] at this
  exact this
/-- A slice, element by element. -/
theorem Rd.slice {t e : TypeId} {m : Nat} {cs : List Value} (h : Rd enc W base spare held t cs) (ht : Tryz.prog.underlying t = some (.slice e)) (hm : Tryz.prog.cellsOf e = m) (hm0 : 0 < m) :
    ∃ ao n cap, cs = [.slice ao n cap] ∧ n * Tryz.prog.bytesOf e ≤ reachBytes ∧ n ≤ cap ∧ (0 < n → ∃ b off, ao = some ⟨b, off, none⟩ ∧ ∀ i, i < n → ∃ es : List Value, es.length = m ∧ W.rangeAt b (off + i * m) es ∧ Rd enc W base spare held e es) := by
  obtain ⟨fu, d, p, h, hw⟩ := h
  rcases DataW.trod_slice ht h with ⟨rfl, _⟩ | ⟨a, len, cap, elems, rest, n, rfl, rfl, hx, hb, hlc, hcm, hel, hall, _, _⟩
  · exact ⟨none, 0, 0, rfl, by simp, by omega, fun h => by omega⟩
  · have hd : d = .slice (elems.map (·.1)) (rest.map (·.1)) := congrArg Prod.fst hx
    subst hd
    simp only [DataW.weights, ht] at hw
    have hwl := hw _ (List.mem_cons_self ..)
    refine ⟨some a, len, cap, rfl, ?_, hlc, fun hn => ?_⟩
    · simp only [List.length_map] at hwl
      exact Nat.le_trans (Nat.mul_le_mul_right _ (by omega)) hwl
    · rw [hm] at hall
      have hone : ∀ i, i < len → ∃ es x, W.cells? base (a.add (i * m)) m = some es ∧ DataW.trod enc Tryz.prog W base spare held n e es = some x ∧ elems[i]? = some x := fun i hi => by
        have h1 := hall i hi
        rw [List.getElem?_eq_getElem (by omega)] at h1
        obtain ⟨es, he, hx⟩ := Option.bind_eq_some_iff.1 h1
        exact ⟨es, _, he, hx, List.getElem?_eq_getElem (by omega)⟩
      obtain ⟨es0, x0, hc0, _, _⟩ := hone 0 hn
      obtain ⟨b, off, sp⟩ := a
      have hs : sp = none := by
        have h3 := World.cells?_some hc0
        have h4 := h3.2.2 0 hm0
        rw [List.getElem?_eq_getElem (by omega)] at h4
        have := World.cell?_spot h4
        simpa [Addr.add] using this
      subst hs
      refine ⟨b, off, rfl, fun i hi => ?_⟩
      obtain ⟨es, x, hc, hx, hei⟩ := hone i hi
      have h3 := World.cells?_some hc
      refine ⟨es, h3.2.1, fun j v hv => ?_, n, x.1, x.2, hx, fun w hww => hw w ?_⟩
      · have hj : j < m := by have := (List.getElem?_eq_some_iff.1 hv).1; omega
        have h4 := h3.2.2 j hj
        rw [Addr.add_mid, Addr.add_mid] at h4
        exact h4.trans hv
      · refine List.mem_cons_of_mem _ (List.mem_append.2 (.inl (weights_all (i := i) ?_ w hww)))
        simp [hei]

theorem cells3 : Tryz.prog.cellsOf 3 = 1 := by kernel_rfl
theorem cells9 : Tryz.prog.cellsOf 9 = 1 := by kernel_rfl
theorem cells34 : Tryz.prog.cellsOf 45 = 1 := by kernel_rfl
theorem cells35 : Tryz.prog.cellsOf 46 = 1 := by kernel_rfl
theorem Rd.node {cs : List Value} (h : Rd enc W base spare held 48 cs) (hl : cs.length = 4) : ∃ a : Nd, cs = a.cs ∧ (0 ≤ a.t ∧ a.t < 4294967296) ∧ (-9223372036854775808 ≤ a.n ∧ a.n ≤ 9223372036854775807) ∧ a.s.size ≤ 140737488351232 := by
  match cs, hl with
  | [c0, c1, c2, c3], _ =>
    have r0 : Rd enc W base spare held 45 [c0] := h.at Tryz.underlying48 0 0 1 rfl cells34
    have r1 : Rd enc W base spare held 46 [c1] := h.at Tryz.underlying48 1 1 1 rfl cells35
    have r2 : Rd enc W base spare held 3 [c2] := h.at Tryz.underlying48 2 2 1 rfl cells3
    have r3 : Rd enc W base spare held 9 [c3] := h.at Tryz.underlying48 3 3 1 rfl cells9
    obtain ⟨f0, d0, p0, q0, -⟩ := r0
    obtain ⟨f1, d1, p1, q1, -⟩ := r1
    obtain ⟨f2, d2, p2, q2, -⟩ := r2
    obtain ⟨f3, d3, p3, q3, w3⟩ := r3
    obtain ⟨t, e0, -, hw0⟩ := DataW.trod_int Tryz.underlying45 q0
    obtain ⟨v, e1, -, -⟩ := DataW.trod_int Tryz.underlying46 q1
    obtain ⟨z, e2, -, hw2⟩ := DataW.trod_int Tryz.underlying3 q2
    obtain ⟨s, e3, hx3, -⟩ := DataW.trod_string Tryz.underlying9 q3
    simp only [List.cons.injEq, and_true] at e0 e1 e2 e3
    subst e0 e1 e2 e3
    simp only [Lit.wf, Bool.and_eq_true, decide_eq_true_eq, show IntKind.u32.min = 0 from rfl, show IntKind.u32.max = 4294967295 from rfl] at hw0
    simp only [Lit.wf, Bool.and_eq_true, decide_eq_true_eq, show IntKind.i64.min = -9223372036854775808 from rfl, show IntKind.i64.max = 9223372036854775807 from rfl] at hw2
    refine ⟨⟨t, v, z, s⟩, rfl, ⟨hw0.1, by simp only; omega⟩, hw2, ?_⟩
    have hd : d3 = .lit (.string s.data.toList) := congrArg Prod.fst hx3
    subst hd
    have := w3 s.data.toList.length (by simp [DataW.weights])
    rw [Array.length_toList] at this
    exact this
theorem Rd.nodes {v : Value} (h : Rd enc W base spare held 22 [v]) : ∃ a n cap L, v = .slice a n cap ∧ NV W a n cap L ∧ TagsOk L ∧ ∀ y ∈ L, y.s.size ≤ 140737488351232 := by
  obtain ⟨ao, n, cap, hv, hb, hc, hel⟩ := h.slice Tryz.underlying22 (m := 4) (by kernel_rfl) (by omega)
  simp only [List.cons.injEq, and_true] at hv
  subst hv
  rw [show Tryz.prog.bytesOf 48 = 40 by kernel_rfl, show reachBytes = 140737488351232 from rfl] at hb
  by_cases hn : 0 < n
  · obtain ⟨b, off, rfl, he⟩ := hel hn
    have hz : ∀ i, ∃ q : Nd, i < n → (∀ k u, q.cs[k]? = some u → W.cell? ⟨b, off + i * 4 + k, none⟩ = some u) ∧ (0 ≤ q.t ∧ q.t < 4294967296) ∧ (-9223372036854775808 ≤ q.n ∧ q.n ≤ 9223372036854775807) ∧ q.s.size ≤ 140737488351232 := fun i => by
      by_cases hi : i < n
      · obtain ⟨es, h1, h2, h3⟩ := he i hi
        obtain ⟨q, rfl, k1, k2, k3⟩ := h3.node h1
        exact ⟨q, fun _ => ⟨fun k u hu => h2 k u hu, k1, k2, k3⟩⟩
      · exact ⟨⟨0, 0, 0, ⟨#[]⟩⟩, fun h => absurd h hi⟩
    obtain ⟨F, hF⟩ := Classical.axiomOfChoice hz
    have hmem : ∀ y ∈ (List.range n).map F, ∃ i, i < n ∧ F i = y := fun y hy => by
      obtain ⟨i, hi, rfl⟩ := List.mem_map.1 hy
      exact ⟨i, List.mem_range.1 hi, rfl⟩
    refine ⟨_, n, cap, (List.range n).map F, rfl, ⟨by simp, hc, by omega, fun _ => ⟨b, off, rfl, fun i hi => ?_⟩, fun y hy => ?_⟩, fun y hy => ?_, fun y hy => ?_⟩
    · have hi' : i < n := by simpa using hi
      have e : ((List.range n).map F)[i]'hi = F i := by simp
      rw [e]
      have hk := (hF i hi').1
      exact ⟨hk 0 _ rfl, hk 1 _ rfl, hk 2 _ rfl, hk 3 _ rfl⟩
    · obtain ⟨i, hi, rfl⟩ := hmem y hy
      exact (hF i hi).2.2.1
    · obtain ⟨i, hi, rfl⟩ := hmem y hy
      exact (hF i hi).2.1
    · obtain ⟨i, hi, rfl⟩ := hmem y hy
      exact (hF i hi).2.2.2
  · obtain rfl : n = 0 := by omega
    exact ⟨ao, 0, cap, [], rfl, ⟨rfl, Nat.zero_le _, by omega, fun h => absurd h (by omega), fun y hy => by simp at hy⟩, fun y hy => by simp at hy, fun y hy => by simp at hy⟩
end
end Go.Proofs.YtfoodjhffehgpaaGreatDoor
end
