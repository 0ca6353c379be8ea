import Derived.Test.YtoikdpjjcnmgeaaGreatDoorQn
import Derived.Test.YtoikdpjjcnmgeaaGreatDoorUe
import Derived.Test.YtoikdpjjcnmgeaaGreatDoorBk
import Derived.ChangeArms
import Derived.SizedLaws
import Derived.OpenShut
section
/-
  DERIVED. DatasetJoined: no nodes.
-/
namespace Go.Proofs.YtoikdpjjcnmgeaaGreatDoor
open Go Go.Proofs Go.RowKit
open Wk (Nd NV nds goN nxt)
open Go.Sort

theorem nv_nil (w : World) (a : Option Addr) (c : Nat) : NV w a 0 c [] := ⟨rfl, Nat.zero_le _, by omega, fun h => absurd h (by omega), fun x hx => by simp at hx⟩
theorem tags_nil : TagsOk [] := fun x hx => by simp at hx
theorem out_nil {s : Int} (h : errOf s [] = none) : outB s [] = [] := by rw [(err_ok h).2.2.2]; rfl
theorem enc_nil (w : World) (a : Option Addr) (cap : Nat) (hE : EG w) (s : Int) (h : errOf s [] = none) : Calls Tryz.prog 20 #[.slice a 0 cap, .int .i64 s] w fun e w' => e = .returned (.tuple #[.slice none 0 0, .nilIface]) ∧ Below w.heap.size w w' := by
  refine (encode_any w a 0 cap [] (nv_nil w a cap) tags_nil hE s).mono ?_
  rintro e w' ⟨u, ve, rfl, -, hn, hp, hb⟩
  obtain rfl := hn (out_nil h)
  rcases hp with ⟨-, rfl⟩ | ⟨ls, k, e, -⟩
  · exact ⟨rfl, hb⟩
  · rw [h] at e; cases e
theorem siz_nil (w : World) (a : Option Addr) (cap : Nat) (hE : EG w) (s : Int) (h : errOf s [] = none) : Calls Tryz.prog 29 #[.slice a 0 cap, .int .i64 s] w fun e w' => e = .returned (.tuple #[.int .i64 0, .nilIface]) ∧ Below w.heap.size w w' := by
  have := siz_ok w a 0 cap [] (nv_nil w a cap) tags_nil hE s h
  rw [out_nil h] at this
  exact this

set_option maxRecDepth 100000 in
set_option maxHeartbeats 8000000 in
theorem joined_zero (w : World) (a : Option Addr) (cap : Nat) (cut s : Int) (hc : a = none → cap = 0) (hE : EG w) : Calls Tryz.prog 7 #[.slice a 0 cap, .int .i64 cut, .int .i64 s] w fun e w' => e = .returned (.bool true) ∧ Below w.heap.size w w' := by
  have HE : Hid (EG w) := hE
  have HC : Hid (a = none → cap = 0) := hc
  obtain ⟨z, hz⟩ : ∃ z, (errOf s []).isSome = z := ⟨_, rfl⟩
  have HZ : Hid ((errOf s []).isSome = z) := hz
  clear hE hz hc
  go_enter Tryz.func7, Tryz.ntmps7
  go_wp2_with (go_at_call 18; refine StopQ.out ?_)
  refine ⟨Calls.mono (alive_any w HE.out) ?_⟩
  rintro e W1 ⟨rfl, hb1⟩
  have HB1 : Hid (Below w.heap.size w W1) := hb1
  clear hb1
  go_wp2_with (go_at_call 25; refine StopQ.out ?_)
  refine ⟨Calls.mono (rsize_any some_zero W1 a 0 cap [] (nv_nil W1 a cap) tags_nil s) ?_⟩
  rintro e W2 ⟨vf, rfl, hp2, hb2⟩
  obtain ⟨fa, fm, fc, fz, hvf⟩ := rerr_form hp2
  subst hvf
  have HP2 : Hid (RErr2 W2 (.agg #[.slice fa fm fc, .int .i64 fz]) (errOf s [])) := hp2
  have HB2 : Hid (Below w.heap.size w W2) := HB1.out.trans (hb2.mono HB1.out.size)
  obtain ⟨W3, hW3⟩ : ∃ W3, W2.alloc (.cells #[.slice fa fm fc, .int .i64 fz] 32) = W3 := ⟨_, rfl⟩
  have hb3 : Below W2.heap.size W2 W3 := by rw [← hW3]; exact (Below.refl _ _).alloc (Nat.le_refl _) _
  have d0 : W3.cell? ⟨W2.heap.size, 0, none⟩ = some (.slice fa fm fc) := by rw [← hW3]; simp
  have d1 : W3.cell? ⟨W2.heap.size, 1, none⟩ = some (.int .i64 fz) := by rw [← hW3]; simp
  have HB3 : Hid (Below w.heap.size w W3) := HB2.out.trans (hb3.mono HB2.out.size)
  clear hp2 hb2 hb3
  go_wp2_with (go_at_call 26; refine StopQ.out ?_)
  refine ⟨Calls.mono (any_err W3 HP2.out HZ.out) ?_⟩
  rintro e W4 ⟨rfl, hb4⟩
  have HB4 : Hid (Below w.heap.size w W4) := HB3.out.trans (hb4.mono HB3.out.size)
  clear hb4 hW3 d0 d1
  cases z with
  | true =>
    go_wp2
    go_ret
    exact ⟨rfl, HB4.out⟩
  | false =>
  have HO : Hid (errOf s [] = none) := by show _ = _; simpa using HZ.out
  by_cases hc0 : cut < 0
  · go_wp2
    go_ret
    exact ⟨rfl, HB4.out⟩
  have hc0' : ¬ cut < 0 := hc0
  have HE4 : Hid (EG W4) := HE.out.keep HB4.out
  go_wp2
  refine wp_loop_rounds 1 ?_
  rw [rounds_succ]
  rcases a with _ | ⟨b, off, sp⟩
  · obtain rfl := HC.out rfl
    by_cases hkc : 0 < cut
    all_goals (
      go_wp2_with (go_at_call 20; refine StopQ.out ?_)
      refine ⟨Calls.mono (enc_nil W4 _ _ HE4.out s HO.out) ?_⟩
      rintro e W5 ⟨rfl, hb5⟩
      go_wp2_with (go_at_call 20; refine StopQ.out ?_)
      refine ⟨Calls.mono (enc_nil W5 _ _ (HE4.out.keep hb5) s HO.out) ?_⟩
      rintro e W6 ⟨rfl, hb6⟩
      go_wp2_with (go_at_call 20; refine StopQ.out ?_)
      refine ⟨Calls.mono (enc_nil W6 _ _ ((HE4.out.keep hb5).keep hb6) s HO.out) ?_⟩
      rintro e W7 ⟨rfl, hb7⟩
      go_wp2_with (go_at_call 29; refine StopQ.out ?_)
      refine ⟨Calls.mono (siz_nil W7 _ _ (((HE4.out.keep hb5).keep hb6).keep hb7) s HO.out) ?_⟩
      rintro e W8 ⟨rfl, hb8⟩
      have HB8 : Hid (Below w.heap.size w W8) := HB4.out.trans ((hb5.trans ((hb6.trans ((hb7.trans (hb8.mono hb7.size)).mono hb6.size)).mono hb5.size)).mono HB4.out.size)
      clear hb5 hb6 hb7 hb8
      go_wp2_with (go_at_call 27; refine StopQ.out ?_)
      refine ⟨Calls.mono (Le.bytes_empty W8 _ _ _ _) ?_⟩
      rintro e W9 ⟨rfl, rfl⟩
      go_wp2_with (go_at_call 27; refine StopQ.out ?_)
      refine ⟨Calls.mono (Le.bytes_empty W8 _ _ _ _) ?_⟩
      rintro e W9 ⟨rfl, rfl⟩
      go_wp2
      go_ret
      exact ⟨rfl, HB8.out⟩)
  · by_cases hkc : 0 < cut
    all_goals (
      go_wp2_with (go_at_call 20; refine StopQ.out ?_)
      refine ⟨Calls.mono (enc_nil W4 _ _ HE4.out s HO.out) ?_⟩
      rintro e W5 ⟨rfl, hb5⟩
      go_wp2_with (go_at_call 20; refine StopQ.out ?_)
      refine ⟨Calls.mono (enc_nil W5 _ _ (HE4.out.keep hb5) s HO.out) ?_⟩
      rintro e W6 ⟨rfl, hb6⟩
      go_wp2_with (go_at_call 20; refine StopQ.out ?_)
      all_goals (
        refine ⟨Calls.mono (enc_nil W6 _ _ ((HE4.out.keep hb5).keep hb6) s HO.out) ?_⟩
        rintro e W7 ⟨rfl, hb7⟩
        go_wp2_with (go_at_call 29; refine StopQ.out ?_)
        refine ⟨Calls.mono (siz_nil W7 _ _ (((HE4.out.keep hb5).keep hb6).keep hb7) s HO.out) ?_⟩
        rintro e W8 ⟨rfl, hb8⟩
        have HB8 : Hid (Below w.heap.size w W8) := HB4.out.trans ((hb5.trans ((hb6.trans ((hb7.trans (hb8.mono hb7.size)).mono hb6.size)).mono hb5.size)).mono HB4.out.size)
        clear hb5 hb6 hb7 hb8
        go_wp2_with (go_at_call 27; refine StopQ.out ?_)
        refine ⟨Calls.mono (Le.bytes_empty W8 _ _ _ _) ?_⟩
        rintro e W9 ⟨rfl, rfl⟩
        go_wp2_with (go_at_call 27; refine StopQ.out ?_)
        refine ⟨Calls.mono (Le.bytes_empty W8 _ _ _ _) ?_⟩
        rintro e W9 ⟨rfl, rfl⟩
        go_wp2
        go_ret
        exact ⟨rfl, HB8.out⟩))
theorem joined_law (w : World) (a : Option Addr) (n cap : Nat) (cut s : Int) (L : List Nd) (hV : NV w a n cap L) (hT : TagsOk L) (hc : a = none → cap = 0) (hcut : cut ≤ 9223372036854775807) (hE : EG w) : Calls Tryz.prog 7 #[.slice a n cap, .int .i64 cut, .int .i64 s] w fun e w' => e = .returned (.bool true) ∧ Below w.heap.size w w' := by
  by_cases hn : n = 0
  · subst hn
    exact joined_zero w a cap cut s hc hE
  · obtain ⟨b, off, rfl, -⟩ := hV.lies (by omega)
    exact joined_some w b off n cap cut s L hV (by omega) hcut hT hE
end Go.Proofs.YtoikdpjjcnmgeaaGreatDoor
end

section
/-
  DERIVED. DatasetCut: no nodes.
-/
namespace Go.Proofs.YtoikdpjjcnmgeaaGreatDoor
open Go Go.Proofs Go.RowKit
open Wk (Nd NV nds goN nxt)
open Go.Sort

theorem rdec_nil (w : World) (s : Int) (h : OkD s [] []) : Calls Tryz.prog 11 #[.slice none 0 0, .int .i64 s] w fun e w' => ∃ b c, e = .returned (.tuple #[.slice b 0 c, .agg #[.slice none 0 0, .int .i64 0]]) ∧ Hid (b = none → c = 0) ∧ Hid (Below w.heap.size w w') := by
  refine (rdec_any w none 0 0 [] s ⟨rfl, Nat.le_refl _, by decide, fun k hk => absurd hk (by omega)⟩).mono ?_
  rintro e w' ⟨nv, vf, rfl, hr, hb⟩
  rcases hr.out with ⟨x, c, g, he, -⟩ | ⟨M', ho, rfl, hw⟩
  · exact (errD_ok he h).elim
  · obtain rfl := okD_one ho h
    rcases hw.2 with ⟨rfl, -⟩ | ⟨g, c, cur, rfl, -⟩
    · exact ⟨none, 0, rfl, fun _ => rfl, hb⟩
    · exact ⟨_, c, rfl, fun e => (by cases e), hb⟩
theorem dec_nil (w : World) (s : Int) (h : OkD s [] []) : Calls Tryz.prog 10 #[.slice none 0 0, .int .i64 s] w fun e w' => ∃ b c, e = .returned (.tuple #[.slice b 0 c, .nilIface]) ∧ Hid (NV w' b 0 c []) ∧ Hid (Below w.heap.size w w') := dec_ok w none 0 0 [] s [] ⟨rfl, Nat.le_refl _, by decide, fun k hk => absurd hk (by omega)⟩ h

set_option maxRecDepth 100000 in
set_option maxHeartbeats 8000000 in
theorem cut_zero (w : World) (a : Option Addr) (cap : Nat) (cut s : Int) (hE : EG w) : Calls Tryz.prog 8 #[.slice a 0 cap, .int .i64 cut, .int .i64 s] w fun e w' => e = .returned (.bool true) ∧ Below w.heap.size w w' := by
  have HE : Hid (EG w) := hE
  obtain ⟨z, hz⟩ : ∃ z, (errOf s []).isSome = z := ⟨_, rfl⟩
  have HZ : Hid ((errOf s []).isSome = z) := hz
  clear hE hz
  go_enter Tryz.func8, Tryz.ntmps8
  go_wp2_with (go_at_call 18; refine StopQ.out ?_)
  refine ⟨Calls.mono (alive_any w HE.out) ?_⟩
  rintro e W1 ⟨rfl, hb1⟩
  have HB1 : Hid (Below w.heap.size w W1) := hb1
  clear hb1
  go_wp2_with (go_at_call 25; refine StopQ.out ?_)
  refine ⟨Calls.mono (rsize_any some_zero W1 a 0 cap [] (nv_nil W1 a cap) tags_nil s) ?_⟩
  rintro e W2 ⟨vf, rfl, hp2, hb2⟩
  obtain ⟨fa, fm, fc, fz, hvf⟩ := rerr_form hp2
  subst hvf
  have HP2 : Hid (RErr2 W2 (.agg #[.slice fa fm fc, .int .i64 fz]) (errOf s [])) := hp2
  have HB2 : Hid (Below w.heap.size w W2) := HB1.out.trans (hb2.mono HB1.out.size)
  obtain ⟨W3, hW3⟩ : ∃ W3, W2.alloc (.cells #[.slice fa fm fc, .int .i64 fz] 32) = W3 := ⟨_, rfl⟩
  have hb3 : Below W2.heap.size W2 W3 := by rw [← hW3]; exact (Below.refl _ _).alloc (Nat.le_refl _) _
  have d0 : W3.cell? ⟨W2.heap.size, 0, none⟩ = some (.slice fa fm fc) := by rw [← hW3]; simp
  have d1 : W3.cell? ⟨W2.heap.size, 1, none⟩ = some (.int .i64 fz) := by rw [← hW3]; simp
  have HB3 : Hid (Below w.heap.size w W3) := HB2.out.trans (hb3.mono HB2.out.size)
  clear hp2 hb2 hb3
  go_wp2_with (go_at_call 26; refine StopQ.out ?_)
  refine ⟨Calls.mono (any_err W3 HP2.out HZ.out) ?_⟩
  rintro e W4 ⟨rfl, hb4⟩
  have HB4 : Hid (Below w.heap.size w W4) := HB3.out.trans (hb4.mono HB3.out.size)
  clear hb4 hW3 d0 d1
  cases z with
  | true =>
    go_wp2
    go_ret
    exact ⟨rfl, HB4.out⟩
  | false =>
  have HO : Hid (errOf s [] = none) := by show _ = _; simpa using HZ.out
  have HE4 : Hid (EG W4) := HE.out.keep HB4.out
  have HOK : Hid (OkD s [] []) := by
    have := back_ok HO.out tags_nil
    rw [out_nil HO.out] at this
    exact this
  go_wp2_with (go_at_call 20; refine StopQ.out ?_)
  refine ⟨Calls.mono (enc_nil W4 _ _ HE4.out s HO.out) ?_⟩
  rintro e W5 ⟨rfl, hb5⟩
  have HB5 : Hid (Below w.heap.size w W5) := HB4.out.trans (hb5.mono HB4.out.size)
  clear hb5
  by_cases hc0 : cut < 0
  · go_wp2
    go_ret
    exact ⟨rfl, HB5.out⟩
  by_cases hc1 : 0 < cut
  · go_wp2
    go_ret
    exact ⟨rfl, HB5.out⟩
  obtain rfl : cut = 0 := by omega
  clear hc0 hc1
  go_wp2_with (go_at_call 11; refine StopQ.out ?_)
  refine ⟨Calls.mono (rdec_nil W5 s HOK.out) ?_⟩
  rintro e W6 ⟨a6, c6, rfl, hc6, hb6⟩
  have HB6 : Hid (Below w.heap.size w (W6.alloc (.cells #[.slice none 0 0, .int .i64 0] 32))) := (HB5.out.trans (hb6.out.mono HB5.out.size)).alloc (HB5.out.trans (hb6.out.mono HB5.out.size)).size _
  clear hb6
  go_wp2
  refine wp_loop_rounds 1 ?_
  rw [rounds_succ]
  go_wp2_with (go_at_call 10; refine StopQ.out ?_)
  refine ⟨Calls.mono (dec_nil _ s HOK.out) ?_⟩
  rintro e W7 ⟨a7, c7, rfl, hN7, hb7⟩
  have HB7 : Hid (Below w.heap.size w W7) := HB6.out.trans (hb7.out.mono HB6.out.size)
  clear hb7
  rcases a6 with _ | ⟨b6, o6, sp6⟩
  · obtain rfl := hc6.out rfl
    go_wp2_with (go_at_call 13; refine StopQ.out ?_)
    refine ⟨Calls.mono (Wk.nodes_same W7 a7 _ 0 c7 _ [] hN7.out (nv_nil _ _ _)) ?_⟩
    rintro e W8 ⟨rfl, m8, hW8⟩
    have HB8 : Hid (Below w.heap.size w W8) := by rw [hW8]; exact Wk.below_drw HB7.out m8
    clear hW8
    go_wp2
    go_ret
    exact ⟨rfl, HB8.out⟩
  · go_wp2_with (go_at_call 13; refine StopQ.out ?_)
    refine ⟨Calls.mono (Wk.nodes_same W7 a7 _ 0 c7 _ [] hN7.out (nv_nil _ _ _)) ?_⟩
    rintro e W8 ⟨rfl, m8, hW8⟩
    have HB8 : Hid (Below w.heap.size w W8) := by rw [hW8]; exact Wk.below_drw HB7.out m8
    clear hW8
    go_wp2
    go_ret
    exact ⟨rfl, HB8.out⟩
theorem cut_law (w : World) (a : Option Addr) (n cap : Nat) (cut s : Int) (L : List Nd) (hV : NV w a n cap L) (hT : TagsOk L) (hE : EG w) : Calls Tryz.prog 8 #[.slice a n cap, .int .i64 cut, .int .i64 s] w fun e w' => e = .returned (.bool true) ∧ Below w.heap.size w w' := by
  by_cases hn : n = 0
  · subst hn
    exact cut_zero w a cap cut s hE
  · obtain ⟨b, off, rfl, -⟩ := hV.lies (by omega)
    exact cut_some w b off n cap cut s L hV (by omega) hT hE
end Go.Proofs.YtoikdpjjcnmgeaaGreatDoor
end

section
/-
  DERIVED. Nodes that came in, read.
-/
namespace Go.Proofs.YtoikdpjjcnmgeaaGreatDoor
open Go Go.Proofs Go.RowKit
open Wk (Nd NV)

section
variable {H : Type} {enc : TypeId × Value → H} {W : World} {base : Nat} {spare : Nat → Bool} {held : Bool}

/-- These cells read as something of that type; nothing in it is longer than a machine holds. -/
def Rd (enc : TypeId × Value → H) (W : World) (base : Nat) (spare : Nat → Bool) (held : Bool) (t : TypeId) (cs : List Value) : Prop :=
  ∃ fuel d p, DataW.trod enc Tryz.prog W base spare held fuel t cs = some (d, p) ∧ ∀ n ∈ d.weights Tryz.prog t, n ≤ reachBytes

theorem weights_all {t : TypeId} : ∀ {l : List (DataW H)} {i : Nat} {d : DataW H}, l[i]? = some d → ∀ n ∈ d.weights Tryz.prog t, n ∈ DataW.weightsAll Tryz.prog t l
  | [], _, _, h, _, _ => by simp at h
  | x :: l, 0, d, h, n, hn => by simp at h; subst h; simp [DataW.weightsAll, hn]
  | x :: l, i + 1, d, h, n, hn => by simp at h; simp only [DataW.weightsAll, List.mem_append]; exact .inr (weights_all h n hn)

theorem Rd.field {t : TypeId} {fs : Array Field} {cs : List Value} (h : Rd enc W base spare held t cs) (ht : Tryz.prog.underlying t = some (.struct fs)) (i : Nat) (f : Field) (hf : fs[i]? = some f) : Rd enc W base spare held f.type ((cs.drop f.offset).take (Tryz.prog.cellsOf f.type)) := by
  obtain ⟨fu, d, p, h, hw⟩ := h
  obtain ⟨xs, n, rfl, hx, hl, hxl, hall⟩ := DataW.trod_struct ht h
  have hi : i < fs.size := (Array.getElem?_eq_some_iff.1 hf).1
  obtain ⟨b, hb⟩ : ∃ b, xs[i]? = some b := ⟨xs[i]'(by omega), List.getElem?_eq_getElem (by omega)⟩
  have h1 := hall i f hf
  rw [hb] at h1
  refine ⟨n, b.1, b.2, h1, fun m hm => hw m ?_⟩
  have hd : d = .agg (xs.map (·.1)) := congrArg Prod.fst hx
  subst hd
  simp only [DataW.weights, ht]
  exact DataW.weights_mem_each (j := i) (t := f.type) (d := b.1) (by simp [hf]) (by simp [hb]) m hm

theorem Rd.at {t ty : TypeId} {fs : Array Field} {cs : List Value} (h : Rd enc W base spare held t cs) (ht : Tryz.prog.underlying t = some (.struct fs)) (i o n : Nat) (hf : (fs[i]?).map (fun f => (f.type, f.offset)) = some (ty, o)) (hc : Tryz.prog.cellsOf ty = n) : Rd enc W base spare held ty ((cs.drop o).take n) := by
  obtain ⟨f, hf1, hf2⟩ := Option.map_eq_some_iff.1 hf
  simp only [Prod.mk.injEq] at hf2
  have := h.field ht i f hf1
  rw [hf2.1, hf2.2, hc] at this
  exact this
/-- A slice, element by element. -/
theorem Rd.slice {t e : TypeId} {m : Nat} {cs : List Value} (h : Rd enc W base spare held t cs) (ht : Tryz.prog.underlying t = some (.slice e)) (hm : Tryz.prog.cellsOf e = m) (hm0 : 0 < m) :
    ∃ ao n cap, cs = [.slice ao n cap] ∧ n * Tryz.prog.bytesOf e ≤ reachBytes ∧ n ≤ cap ∧ (0 < n → ∃ b off, ao = some ⟨b, off, none⟩ ∧ ∀ i, i < n → ∃ es : List Value, es.length = m ∧ W.rangeAt b (off + i * m) es ∧ Rd enc W base spare held e es) := by
  obtain ⟨fu, d, p, h, hw⟩ := h
  rcases DataW.trod_slice ht h with ⟨rfl, _⟩ | ⟨a, len, cap, elems, rest, n, rfl, rfl, hx, hb, hlc, hcm, hel, hall, _, _⟩
  · exact ⟨none, 0, 0, rfl, by simp, by omega, fun h => by omega⟩
  · have hd : d = .slice (elems.map (·.1)) (rest.map (·.1)) := congrArg Prod.fst hx
    subst hd
    simp only [DataW.weights, ht] at hw
    have hwl := hw _ (List.mem_cons_self ..)
    refine ⟨some a, len, cap, rfl, ?_, hlc, fun hn => ?_⟩
    · simp only [List.length_map] at hwl
      exact Nat.le_trans (Nat.mul_le_mul_right _ (by omega)) hwl
    · rw [hm] at hall
      have hone : ∀ i, i < len → ∃ es x, W.cells? base (a.add (i * m)) m = some es ∧ DataW.trod enc Tryz.prog W base spare held n e es = some x ∧ elems[i]? = some x := fun i hi => by
        have h1 := hall i hi
        rw [List.getElem?_eq_getElem (by omega)] at h1
        obtain ⟨es, he, hx⟩ := Option.bind_eq_some_iff.1 h1
        exact ⟨es, _, he, hx, List.getElem?_eq_getElem (by omega)⟩
      obtain ⟨es0, x0, hc0, _, _⟩ := hone 0 hn
      obtain ⟨b, off, sp⟩ := a
      have hs : sp = none := by
        have h3 := World.cells?_some hc0
        have h4 := h3.2.2 0 hm0
        rw [List.getElem?_eq_getElem (by omega)] at h4
        have := World.cell?_spot h4
        simpa [Addr.add] using this
      subst hs
      refine ⟨b, off, rfl, fun i hi => ?_⟩
      obtain ⟨es, x, hc, hx, hei⟩ := hone i hi
      have h3 := World.cells?_some hc
      refine ⟨es, h3.2.1, fun j v hv => ?_, n, x.1, x.2, hx, fun w hww => hw w ?_⟩
      · have hj : j < m := by have := (List.getElem?_eq_some_iff.1 hv).1; omega
        have h4 := h3.2.2 j hj
        rw [Addr.add_mid, Addr.add_mid] at h4
        exact h4.trans hv
      · refine List.mem_cons_of_mem _ (List.mem_append.2 (.inl (weights_all (i := i) ?_ w hww)))
        simp [hei]

theorem cells3 : Tryz.prog.cellsOf 3 = 1 := by kernel_rfl
theorem cells9 : Tryz.prog.cellsOf 9 = 1 := by kernel_rfl
theorem cells34 : Tryz.prog.cellsOf 47 = 1 := by kernel_rfl
theorem cells35 : Tryz.prog.cellsOf 48 = 1 := by kernel_rfl
theorem Rd.node {cs : List Value} (h : Rd enc W base spare held 54 cs) (hl : cs.length = 4) : ∃ a : Nd, cs = a.cs ∧ (0 ≤ a.t ∧ a.t < 4294967296) ∧ (-9223372036854775808 ≤ a.n ∧ a.n ≤ 9223372036854775807) ∧ a.s.size ≤ 140737488351232 := by
  match cs, hl with
  | [c0, c1, c2, c3], _ =>
    have r0 : Rd enc W base spare held 47 [c0] := h.at Tryz.underlying54 0 0 1 rfl cells34
    have r1 : Rd enc W base spare held 48 [c1] := h.at Tryz.underlying54 1 1 1 rfl cells35
    have r2 : Rd enc W base spare held 3 [c2] := h.at Tryz.underlying54 2 2 1 rfl cells3
    have r3 : Rd enc W base spare held 9 [c3] := h.at Tryz.underlying54 3 3 1 rfl cells9
    obtain ⟨f0, d0, p0, q0, -⟩ := r0
    obtain ⟨f1, d1, p1, q1, -⟩ := r1
    obtain ⟨f2, d2, p2, q2, -⟩ := r2
    obtain ⟨f3, d3, p3, q3, w3⟩ := r3
    obtain ⟨t, e0, -, hw0⟩ := DataW.trod_int Tryz.underlying47 q0
    obtain ⟨v, e1, -, -⟩ := DataW.trod_int Tryz.underlying48 q1
    obtain ⟨z, e2, -, hw2⟩ := DataW.trod_int Tryz.underlying3 q2
    obtain ⟨s, e3, hx3, -⟩ := DataW.trod_string Tryz.underlying9 q3
    simp only [List.cons.injEq, and_true] at e0 e1 e2 e3
    subst e0 e1 e2 e3
    simp only [Lit.wf, Bool.and_eq_true, decide_eq_true_eq, show IntKind.u32.min = 0 from rfl, show IntKind.u32.max = 4294967295 from rfl] at hw0
    simp only [Lit.wf, Bool.and_eq_true, decide_eq_true_eq, show IntKind.i64.min = -9223372036854775808 from rfl, show IntKind.i64.max = 9223372036854775807 from rfl] at hw2
    refine ⟨⟨t, v, z, s⟩, rfl, ⟨hw0.1, by simp only; omega⟩, hw2, ?_⟩
    have hd : d3 = .lit (.string s.data.toList) := congrArg Prod.fst hx3
    subst hd
    have := w3 s.data.toList.length (by simp [DataW.weights])
    rw [Array.length_toList] at this
    exact this
theorem Rd.nodes {v : Value} (h : Rd enc W base spare held 25 [v]) : ∃ a n cap L, v = .slice a n cap ∧ NV W a n cap L ∧ TagsOk L ∧ ∀ y ∈ L, y.s.size ≤ 140737488351232 := by
  obtain ⟨ao, n, cap, hv, hb, hc, hel⟩ := h.slice Tryz.underlying25 (m := 4) (by kernel_rfl) (by omega)
  simp only [List.cons.injEq, and_true] at hv
  subst hv
  rw [show Tryz.prog.bytesOf 54 = 40 by kernel_rfl, show reachBytes = 140737488351232 from rfl] at hb
  by_cases hn : 0 < n
  · obtain ⟨b, off, rfl, he⟩ := hel hn
    have hz : ∀ i, ∃ q : Nd, i < n → (∀ k u, q.cs[k]? = some u → W.cell? ⟨b, off + i * 4 + k, none⟩ = some u) ∧ (0 ≤ q.t ∧ q.t < 4294967296) ∧ (-9223372036854775808 ≤ q.n ∧ q.n ≤ 9223372036854775807) ∧ q.s.size ≤ 140737488351232 := fun i => by
      by_cases hi : i < n
      · obtain ⟨es, h1, h2, h3⟩ := he i hi
        obtain ⟨q, rfl, k1, k2, k3⟩ := h3.node h1
        exact ⟨q, fun _ => ⟨fun k u hu => h2 k u hu, k1, k2, k3⟩⟩
      · exact ⟨⟨0, 0, 0, ⟨#[]⟩⟩, fun h => absurd h hi⟩
    obtain ⟨F, hF⟩ := Classical.axiomOfChoice hz
    have hmem : ∀ y ∈ (List.range n).map F, ∃ i, i < n ∧ F i = y := fun y hy => by
      obtain ⟨i, hi, rfl⟩ := List.mem_map.1 hy
      exact ⟨i, List.mem_range.1 hi, rfl⟩
    refine ⟨_, n, cap, (List.range n).map F, rfl, ⟨by simp, hc, by omega, fun _ => ⟨b, off, rfl, fun i hi => ?_⟩, fun y hy => ?_⟩, fun y hy => ?_, fun y hy => ?_⟩
    · have hi' : i < n := by simpa using hi
      have e : ((List.range n).map F)[i]'hi = F i := by simp
      rw [e]
      have hk := (hF i hi').1
      exact ⟨hk 0 _ rfl, hk 1 _ rfl, hk 2 _ rfl, hk 3 _ rfl⟩
    · obtain ⟨i, hi, rfl⟩ := hmem y hy
      exact (hF i hi).2.2.1
    · obtain ⟨i, hi, rfl⟩ := hmem y hy
      exact (hF i hi).2.1
    · obtain ⟨i, hi, rfl⟩ := hmem y hy
      exact (hF i hi).2.2.2
  · obtain rfl : n = 0 := by omega
    exact ⟨ao, 0, cap, [], rfl, ⟨rfl, Nat.zero_le _, by omega, fun h => absurd h (by omega), fun y hy => by simp at hy⟩, fun y hy => by simp at hy, fun y hy => by simp at hy⟩
end
end Go.Proofs.YtoikdpjjcnmgeaaGreatDoor
end
