import Derived.Test.YtddbdipgmdmkpaaR
/-
  DERIVED. The program's dictionary, gone through.
-/
namespace Go.Proofs.Ytddbdipgmdmkpaa
open Go Go.RowKit Go.Shelf
attribute [local go_sem] Oper.semAt_some

theorem upTo_prefix {k : Nat} (h : k ≤ 10) : upTo k <+: upTo 10 := by
  have : ∀ m, upTo k <+: upTo (k + m) := fun m => by
    induction m with
    | zero => exact List.prefix_refl _
    | succ m ih => rw [show k + (m + 1) = (k + m) + 1 by omega, upTo_succ]; exact ih.trans (List.prefix_append _ _)
  have h2 := this (10 - k)
  rwa [show k + (10 - k) = 10 by omega] at h2
theorem upTo_more {k : Nat} (h : k < 10) {pre : List Row} (hp : pre <+: partRows k) : upTo k ++ pre <+: upTo 10 := by
  refine List.IsPrefix.trans ?_ (upTo_prefix (k := k + 1) h)
  rw [upTo_succ]
  exact (List.prefix_append_right_inj _).2 hp

theorem grownBy_of_below {W W' : World} (h : Below W.heap.size W W') : W.grownBy W' none := ⟨h.os, h.tape, h.output, h.size, fun k hk _ => h.block k hk⟩

theorem two_ways {e : Ending} {p q : Prop} (h : (e = .returned (.bool true) ∧ p) ∨ (e = .returned (.bool false) ∧ q)) : ∃ v : Bool, e = .returned (.bool v) ∧ ((v = true ∧ p) ∨ (v = false ∧ q)) := by
  rcases h with ⟨h1, h2⟩ | ⟨h1, h2⟩
  · exact ⟨true, h1, .inl ⟨rfl, h2⟩⟩
  · exact ⟨false, h1, .inr ⟨rfl, h2⟩⟩

theorem kept_below (n B : Nat) {V V' : World} (h : Below V.heap.size V V') : KeepsFrom n V V' ∧ KC B V V' :=
  ⟨⟨h.size, fun k _ _ hk _ => (h.block k (Array.getElem?_eq_some_iff.1 hk).1).trans hk⟩, ⟨h.size, fun k _ hk _ _ => (h.block k (Array.getElem?_eq_some_iff.1 hk).1).trans hk⟩⟩

/-- Between two parts. -/
def InvE (PC : Array Value) (l s : Nat) (J : List Row → World → Prop) (a : Act) (V : World) : Prop :=
  ∃ k : Nat, k ≤ 10 ∧ a.tmps.size = 18 ∧ a.tmps.toList.getD 1 undef = .pointer (some ⟨s, 0, none⟩) ∧ a.tmps.toList.getD 5 undef = .agg PC ∧ a.tmps.toList.getD 6 undef = .int .i64 (k : Int) ∧
    J (upTo k) V ∧ V.cell? ⟨s, 0, none⟩ = some (.func (.yield l) #[] #[]) ∧ Marks s a.defers V

set_option maxRecDepth 100000 in
set_option maxHeartbeats 4000000 in
theorem entries1_tells (B : Nat) (w : World) (hB : B < w.heap.size) : Tells Try.prog 24 #[] (fun x : Row => #[x.ent]) B (upTo 10) w := by
  intro l J Jx W hW oJ oJx hY h0
  show CallsIn Fence.wide 0 Try.prog 24 #[.func (.yield l) #[] #[]] W _
  have hBW : B < W.heap.size := Nat.lt_of_lt_of_le hB hW.size
  have c25 := fun W => parts_any W
  refine callsIn_of_wp_marks Try.func24 rfl trivial ?_ rfl
  simp only [Try.ntmps24, List.size_toArray, List.length_cons, List.length_nil, Nat.reduceAdd, Nat.reduceSub, Array.replicate_succ, Array.replicate_zero, List.push_toArray, List.append_toArray, List.nil_append, List.cons_append]
  gi_wp2_with (refine ⟨trivial, ?_⟩; (try refine ⟨rfl, ?_⟩); gi_at_call 25; refine (callsIn_wide.2 (c25 _)).mono ?_; rintro e W1 ⟨rfl, rfl⟩)
  have hTs := part_is
  generalize partsC = PC at *
  refine wpIn_loop (InvE PC l W.heap.size J) (fun a' _ => 10 - (intOf (a'.tmps.toList.getD 6 undef)).toNat) ?_ ?_
  · exact ⟨0, by omega, rfl, rfl, rfl, rfl, oJ.alloc _ (oJ.alloc _ h0), by simp, trivial⟩
  · rintro ⟨t, ds⟩ wr ⟨k, hk, hz, e1, e5, e6, hJ, hc, hM⟩
    obtain ⟨u, hu, ht⟩ := frame18 t hz
    have e1' : u 1 = .pointer (some ⟨W.heap.size, 0, none⟩) := (hu 1).trans e1
    have e5' : u 5 = .agg PC := (hu 5).trans e5
    have e6' : u 6 = .int .i64 (k : Int) := (hu 6).trans e6
    rw [e1', e5', e6'] at ht
    subst ht
    clear hz e1 e5 e6 e1' e5' e6' hu
    generalize u 0 = u0
    generalize u 2 = u2
    generalize u 3 = u3
    generalize u 4 = u4
    generalize u 7 = u7
    generalize u 8 = u8
    generalize u 9 = u9
    generalize u 10 = u10
    generalize u 11 = u11
    generalize u 12 = u12
    generalize u 13 = u13
    generalize u 14 = u14
    generalize u 15 = u15
    generalize u 16 = u16
    generalize u 17 = u17
    by_cases hlt : k < 10
    · have hkI : decide ((k : Int) < 10) = true := by simp; omega
      obtain ⟨T, hT⟩ := hTs k hlt
      clear hTs
      gi_wp2
      obtain ⟨wi, hwi⟩ : ∃ wi, wr.alloc (.cells #[.int .u32 T, .func (.func (31 + k)) #[] #[]] 56) = wi := ⟨_, rfl⟩
      have hbi : Below wr.heap.size wr wi := hwi ▸ (Below.refl _ _).alloc (Nat.le_refl _) _
      have hci : wi.cell? ⟨W.heap.size, 0, none⟩ = some (.func (.yield l) #[] #[]) := (hbi.cell (p := ⟨W.heap.size, 0, none⟩) (cell_lt hc)).trans hc
      have hJi : J (upTo k) wi := hwi ▸ oJ.alloc _ hJ
      have hMi : Marks W.heap.size ds wi := hM.below hbi
      have hsi : W.heap.size < wi.heap.size := cell_lt hci
      rw [hwi]
      clear hbi hc hJ hM hT
      refine loop_tells (gf := 31 + k) (lb := #[]) rfl (part_enters k hlt) (part_tells k hlt B wi (by omega)) (fun _ => rfl)
        (fun pre V => J (upTo k ++ pre) V ∧ Stay W.heap.size wi V) (fun c pre V => c = .ret ∧ Jx (upTo k ++ pre) V ∧ Stay W.heap.size wi V)
        (fun pre A A' row hs hg hr => ⟨oJ _ A A' row hs.1 hg (fun r e => ⟨by have := (hr r e).1; omega, (hr r e).2⟩), hs.2.grown hg (fun r e => (hr r e).1) (Nat.le_refl _)⟩)
        (fun c pre A A' row hs hg hr => ⟨hs.1, oJx _ A A' row hs.2.1 hg (fun r e => ⟨by have := (hr r e).1; omega, (hr r e).2⟩), hs.2.2.grown hg (fun r e => (hr r e).1) (Nat.le_refl _)⟩)
        ⟨by simpa using hJi, Stay.refl _ _⟩
        (fun x a' V => ∃ Bx, V.cell? ⟨Bx, 0, none⟩ = some (.int .u32 (x.t : Int)) ∧ V.cell? ⟨Bx, 1, none⟩ = some (.int .i64 x.v) ∧ V.cell? ⟨Bx, 2, none⟩ = some (.int .i64 x.l) ∧ V.cell? ⟨Bx, 3, none⟩ = some (.int .i64 x.m) ∧ V.cell? ⟨Bx, 4, none⟩ = some (.string x.s) ∧
          a' = { tmps := #[u0, .pointer (some ⟨W.heap.size, 0, none⟩), u2, .pointer (some ⟨wr.heap.size, 0, none⟩), .pointer (some ⟨Bx, 0, none⟩), .agg PC, .int .i64 (k : Int), .bool true, .agg #[.int .u32 T, .func (.func (31 + k)) #[] #[]], .pointer (some ⟨wr.heap.size, 1, none⟩), .func (.func (31 + k)) #[] #[], x.val, u12, u13, u14, u15, u16, u17], defers := [] })
        (fun x a' _ A A' row hs hg hr => by
          obtain ⟨Bx, h0, h1, h2, h3, h4, h5⟩ := hs
          exact ⟨Bx, cell_kept h0 hg (fun r e => (hr r e).2), cell_kept h1 hg (fun r e => (hr r e).2), cell_kept h2 hg (fun r e => (hr r e).2), cell_kept h3 hg (fun r e => (hr r e).2), cell_kept h4 hg (fun r e => (hr r e).2), h5⟩)
        ?assign ?body ?done ?stop
      case assign =>
        rintro l' pre x V K ⟨hj, hst⟩ hK
        unfold Row.val
        gi_wp2
        refine hK _ _ (Stay.of_below ((Below.refl _ _).alloc (Nat.le_refl _) _)) ⟨by simp, fun i o hi _ _ => (Below.heap_alloc V _ i (Array.getElem?_eq_some_iff.1 hi).1).trans hi⟩ ⟨oJ.alloc _ hj, hst.trans (Stay.of_below ((Below.refl _ _).alloc (Nat.le_refl _) _))⟩ ⟨V.heap.size, by simp, by simp, by simp, by simp, by simp, rfl⟩
      case body =>
        rintro l' pre x a' V ⟨hj, hst⟩ ⟨Bx, r0, r1, r2, r3, r4, rfl⟩ hlen
        have y0 : V.cell? ⟨W.heap.size, 0, none⟩ = some (.func (.yield l) #[] #[]) := hst.cell (Nat.le_refl _) hci
        have c26 := fun W => rowEntry_any W x.t x.v x.l x.m x.s
        have hlen2 : (upTo k ++ pre).length < (upTo 10).length := by
          have h1 := (upTo_more hlt (List.prefix_refl _)).length_le
          simp only [List.length_append] at h1 ⊢
          omega
        unfold Row.val
        gi_wp2
        have hm : Try.prog.follows .mixedOrders = true := by kernel_rfl
        gi_region_with_o (first
          | (refine ⟨trivial, ?_⟩; (try refine ⟨rfl, ?_⟩); gi_at_call 26; refine (CallsIn.inRound l' (callsIn_wide.2 (c26 _))).mono ?_; rintro e W9 ⟨rfl, hb9⟩
             have hb9' : Below V.heap.size V W9 := ((Below.refl _ V).drew).trans hb9
             have y9 : W9.cell? ⟨W.heap.size, 0, none⟩ = some (.func (.yield l) #[] #[]) := (hb9'.cell (p := ⟨W.heap.size, 0, none⟩) (cell_lt y0)).trans y0
             have J9 : J (upTo k ++ pre) W9 := oJ _ V W9 none hj (grownBy_of_below hb9') (fun r e => by cases e)
             obtain ⟨fn, tmps, assign, body, hy, hR⟩ := hY (upTo k ++ pre) x W9 J9 hlen2
             unfold Row.ent at hy)
          | (refine ⟨rfl, RoundIn.mono (F := Fence.wide.inRound l') hR ?_⟩; rintro e W3 h3; obtain ⟨v, rfl, g3⟩ := two_ways h3)
          | fail)
        all_goals
          have kb : KeepsFrom wi.heap.size V W9 ∧ KC B V W9 := kept_below _ _ hb9'
          have up : ∀ {A A' : World}, KeepsFrom W.heap.size A A' → KeepsFrom wi.heap.size A A' := fun h => ⟨h.size, fun k o hk => h.same k o (by omega)⟩
          rcases g3 with ⟨rfl, hJ3, hc3, hk3⟩ | ⟨rfl, hJ3, hs3⟩
          · gi_wp2
            exact ⟨kb.1.trans (up hk3), kb.2.trans hc3, by rw [← List.append_assoc]; exact hJ3, (hst.trans (Stay.of_below hb9')).trans (Stay.of_kept hBW hc3 hk3)⟩
          · gi_wp2
            exact ⟨(Stay.of_below hb9').trans (hs3.up (by omega)), rfl, by rw [← List.append_assoc]; exact hJ3, (hst.trans (Stay.of_below hb9')).trans hs3⟩
      case done =>
        rintro D V hD ⟨hj, hst⟩ hK
        gi_wp2
        refine ⟨⟨k + 1, by omega, rfl, rfl, rfl, ?_, by rw [upTo_succ]; exact hj, hst.cell (Nat.le_refl _) hci, hMi.push hst hD (Nat.le_of_lt hsi) hK⟩, ?_⟩
        · show Value.int IntKind.i64 ((k : Int) + 1) = Value.int IntKind.i64 ((k + 1 : Nat) : Int)
          simp
        · show 10 - (intOf (Value.int IntKind.i64 ((k : Int) + 1))).toNat < 10 - (intOf (Value.int IntKind.i64 (k : Int))).toNat
          simp [intOf]
          omega
      case stop =>
        rintro D c pre V hD hpre ⟨rfl, hjx, hst⟩ hK
        gi_wp2
        refine leaves_keep (n₀ := W.heap.size) (Z := fun V => Jx (upTo k ++ pre) V) (fun V D o hz hD ho hc => oJx.putObj _ hz hD ho hc) _ _ (hMi.push hst hD (Nat.le_of_lt hsi) hK) hjx ?_
        intro W' hz
        exact ⟨_, results_none rfl _ _ _, ⟨_, rfl⟩, .inr ⟨upTo k ++ pre, upTo_more hlt hpre, hz⟩⟩
    · obtain rfl : k = 10 := by omega
      gi_wp2
      refine leaves_keep (n₀ := W.heap.size) (Z := fun V => J (upTo 10) V) (fun V D o hz hD ho hc => oJ.putObj _ hz hD ho hc) _ _ hM hJ ?_
      intro W' hz
      exact ⟨_, results_none rfl _ _ _, ⟨_, rfl⟩, .inl hz⟩
end Go.Proofs.Ytddbdipgmdmkpaa
