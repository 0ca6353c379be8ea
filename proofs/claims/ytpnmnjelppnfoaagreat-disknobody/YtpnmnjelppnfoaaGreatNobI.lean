import Derived.Test.YtpnmnjelppnfoaaGreatFrame
namespace Go.Proofs.YtpnmnjelppnfoaaGreat
open Go.RowKit Go.Shelf
attribute [local go_sem] Oper.semAt_some

/-- A call of a script lies at that place. -/
def OpAt (w : World) (b o : Nat) : Prop := ∃ (k n m d : Int) (s t : ByteArray) (a1 a2 : Option Addr) (l1 c1 l2 c2 : Nat),
  w.cell? ⟨b, o, none⟩ = some (.int .i64 k) ∧ w.cell? ⟨b, o + 1, none⟩ = some (.string s) ∧ w.cell? ⟨b, o + 2, none⟩ = some (.string t) ∧ w.cell? ⟨b, o + 3, none⟩ = some (.slice a1 l1 c1) ∧
  w.cell? ⟨b, o + 4, none⟩ = some (.int .i64 n) ∧ w.cell? ⟨b, o + 5, none⟩ = some (.int .i64 m) ∧ w.cell? ⟨b, o + 6, none⟩ = some (.slice a2 l2 c2) ∧ w.cell? ⟨b, o + 7, none⟩ = some (.int .i64 d)

def IsOps (w : World) (a : Option Addr) (len : Nat) : Prop :=
  len = 0 ∨ ∃ b o, a = some ⟨b, o, none⟩ ∧ len ≤ maxLen ∧ b < w.heap.size ∧ ∀ i, i < len → OpAt w b (o + i * 8)

theorem OpAt.below {w w' : World} {n b o : Nat} (h : OpAt w b o) (hb : Below n w w') (hn : b < n) : OpAt w' b o := by
  obtain ⟨k, n, m, d, s, t, a1, a2, l1, c1, l2, c2, h0, h1, h2, h3, h4, h5, h6, h7⟩ := h
  exact ⟨k, n, m, d, s, t, a1, a2, l1, c1, l2, c2, (hb.cell (p := ⟨b, o, none⟩) hn).trans h0, (hb.cell (p := ⟨b, o + 1, none⟩) hn).trans h1, (hb.cell (p := ⟨b, o + 2, none⟩) hn).trans h2, (hb.cell (p := ⟨b, o + 3, none⟩) hn).trans h3,
    (hb.cell (p := ⟨b, o + 4, none⟩) hn).trans h4, (hb.cell (p := ⟨b, o + 5, none⟩) hn).trans h5, (hb.cell (p := ⟨b, o + 6, none⟩) hn).trans h6, (hb.cell (p := ⟨b, o + 7, none⟩) hn).trans h7⟩

theorem IsOps.below {w w' : World} {a : Option Addr} {len n : Nat} (h : IsOps w a len) (hb : Below n w w') (hn : w.heap.size ≤ n) : IsOps w' a len := by
  rcases h with h | ⟨b, o, rfl, hl, hlt, hc⟩
  · exact .inl h
  · exact .inr ⟨b, o, rfl, hl, Nat.lt_of_lt_of_le hlt hb.size, fun i hi => (hc i hi).below hb (Nat.lt_of_lt_of_le hlt hn)⟩

/-- Between two rounds of DiskNobody's loop. -/
def Inv (a : Option Addr) (len cap R : Nat) (p : Option Addr) (W0 : World) (a' : Act) (W : World) : Prop :=
  ∃ k : Nat, k ≤ len ∧ a'.tmps.size = 152 ∧ a'.tmps.toList.getD 1 undef = .slice a len cap ∧ a'.tmps.toList.getD 4 undef = .pointer (some ⟨R, 0, none⟩) ∧ a'.tmps.toList.getD 5 undef = .pointer p ∧
    a'.tmps.toList.getD 8 undef = .int .i64 (k : Int) ∧ Below W0.heap.size W0 W ∧ Marks W0.heap.size a'.defers W

theorem enters55 : ∀ args w, (callFunc 55 args).run Tryz.prog w = .ok (.enter 55 args) w := enters_of Tryz.func55 (by kernel_rfl) rfl

/-- Inside of a round: the call's copy lies at block B. -/
structure St (W2 : World) (p : Option Addr) (ds : List Deferred) (B : Nat) (s1 s2 : ByteArray) (x4 x5 x7 : Int) (a3 : Option Addr) (l3 c3 : Nat) (a6 : Option Addr) (l6 c6 : Nat) (V : World) : Prop where
  bel : Below W2.heap.size W2 V
  mks : Marks W2.heap.size ds V
  nob : Nob V p
  inn : In V p
  lt : B < V.heap.size
  c1 : V.cell? ⟨B, 1, none⟩ = some (.string s1)
  c2 : V.cell? ⟨B, 2, none⟩ = some (.string s2)
  c3 : V.cell? ⟨B, 3, none⟩ = some (.slice a3 l3 c3)
  c4 : V.cell? ⟨B, 4, none⟩ = some (.int .i64 x4)
  c5 : V.cell? ⟨B, 5, none⟩ = some (.int .i64 x5)
  c6 : V.cell? ⟨B, 6, none⟩ = some (.slice a6 l6 c6)
  c7 : V.cell? ⟨B, 7, none⟩ = some (.int .i64 x7)

theorem St.next {W2 : World} {p : Option Addr} {ds : List Deferred} {B : Nat} {s1 s2 : ByteArray} {x4 x5 x7 : Int} {a3 : Option Addr} {l3 c3 : Nat} {a6 : Option Addr} {l6 c6 : Nat} {V V' : World}
    (h : St W2 p ds B s1 s2 x4 x5 x7 a3 l3 c3 a6 l6 c6 V) (hb : Below V.heap.size V V') : St W2 p ds B s1 s2 x4 x5 x7 a3 l3 c3 a6 l6 c6 V' where
  bel := h.bel.trans (hb.mono h.bel.size)
  mks := h.mks.below hb
  nob := h.nob.below hb h.inn
  inn := fun b e => Nat.lt_of_lt_of_le (h.inn b e) hb.size
  lt := Nat.lt_of_lt_of_le h.lt hb.size
  c1 := (hb.cell (p := ⟨B, 1, none⟩) h.lt).trans h.c1
  c2 := (hb.cell (p := ⟨B, 2, none⟩) h.lt).trans h.c2
  c3 := (hb.cell (p := ⟨B, 3, none⟩) h.lt).trans h.c3
  c4 := (hb.cell (p := ⟨B, 4, none⟩) h.lt).trans h.c4
  c5 := (hb.cell (p := ⟨B, 5, none⟩) h.lt).trans h.c5
  c6 := (hb.cell (p := ⟨B, 6, none⟩) h.lt).trans h.c6
  c7 := (hb.cell (p := ⟨B, 7, none⟩) h.lt).trans h.c7

set_option maxRecDepth 100000 in
set_option maxHeartbeats 2000000 in
theorem nobody_false (a : Option Addr) (len cap : Nat) (w : World) (ho : IsOps w a len) :
    Calls Tryz.prog 3 #[.bool false, .slice a len cap] w fun e w' => e = .returned (.bool true) ∧ Below w.heap.size w w' := by
  refine (callsIn_wide (n := 6)).1 ?_
  refine callsIn_of_wp_marks Tryz.func3 rfl trivial ?_ rfl
  simp only [Tryz.ntmps3, List.size_toArray, List.length_cons, List.length_nil, Nat.reduceAdd, Nat.reduceSub, Array.replicate_succ, Array.replicate_zero, List.push_toArray, List.append_toArray, List.nil_append, List.cons_append]
  gi_wp2_with (first | (refine ⟨trivial, ?_⟩; gi_at_call 9; refine (callsIn_wide.2 (new_one _)).mono ?_; rintro e W1 ⟨b, m, rfl, hb1, hnb, hnm, hd⟩) | (refine ⟨trivial, ?_⟩; gi_at_call 10; refine (callsIn_wide.2 (create_a _ _ _ hd)).mono ?_; rintro e W2 ⟨rfl, hb2⟩))
  have hn : Nob W2 none := .inl rfl
  have hin : In W2 none := fun b e => by cases e
  have hbw : Below (w.heap.size + 1) (w.alloc (.cells #[.bool false] 4)) W2 := by
    simp at hb1 hnb hnm
    exact hb1.trans (hb2.mono (by omega))
  obtain ⟨p, hp⟩ : ∃ p : Option Addr, p = none := ⟨_, rfl⟩
  rw [← hp] at hn hin ⊢
  clear hp
  have hres : W2.cell? ⟨w.heap.size, 0, none⟩ = some (.bool false) := (hbw.cell (p := ⟨w.heap.size, 0, none⟩) (by simp)).trans (by simp)
  have hfz : W2.frozen? ⟨w.heap.size, 0, none⟩ = false := (hbw.frozen (p := ⟨w.heap.size, 0, none⟩) (by simp)).trans (by simp)
  have hB0 : Below w.heap.size w W2 := ((Below.refl _ w).alloc (Nat.le_refl _) _).trans (hbw.mono (by omega))
  have hlt : w.heap.size < W2.heap.size := Nat.lt_of_lt_of_le (by simp) hbw.size
  have ho2 := ho.below hB0 (Nat.le_refl _)
  clear hb1 hb2 hnb hnm hd hbw ho
  refine wpIn_loop (Inv a len cap w.heap.size p W2) (fun a' _ => len - (intOf (a'.tmps.toList.getD 8 undef)).toNat) ?_ ?_
  · exact ⟨0, Nat.zero_le _, rfl, rfl, rfl, rfl, rfl, Below.refl _ _, trivial⟩
  · rintro ⟨t, ds⟩ wr ⟨k, hk, hz, e1, e4, e5, e8, hB, hM⟩
    obtain ⟨u, rfl⟩ := frame_known t hz a len cap w.heap.size k p e1 e4 e5 e8
    clear hz e1 e4 e5 e8
    by_cases hkl : k < len
    · rcases ho2 with e0 | ⟨bo, oo, rfl, hml, hbo, hc⟩
      · omega
      obtain ⟨x0, x4, x5, x7, s1, s2, a3, a6, l3, c3, l6, c6, g0, g1, g2, g3, g4, g5, g6, g7⟩ := (hc k hkl).below hB hbo
      have hik : (k : Int) < (len : Int) := by omega
      unfold maxLen at hml
      gi_wp2_with fail
      have hst : St W2 p ds wr.heap.size s1 s2 x4 x5 x7 a3 l3 c3 a6 l6 c6 (wr.alloc (.cells #[.int .i64 x0, .string s1, .string s2, .slice a3 l3 c3, .int .i64 x4, .int .i64 x5, .slice a6 l6 c6, .int .i64 x7] 44)) := by
        have hba : Below wr.heap.size wr (wr.alloc (.cells #[.int .i64 x0, .string s1, .string s2, .slice a3 l3 c3, .int .i64 x4, .int .i64 x5, .slice a6 l6 c6, .int .i64 x7] 44)) := (Below.refl _ _).alloc (Nat.le_refl _) _
        have hnr : Nob wr p := hn.below hB hin
        have hir : In wr p := fun b e => Nat.lt_of_lt_of_le (hin b e) hB.size
        exact ⟨hB.trans (hba.mono hB.size), hM.below hba, hnr.below hba hir, fun b e => Nat.lt_of_lt_of_le (hir b e) hba.size, by simp, by simp, by simp, by simp, by simp, by simp, by simp, by simp⟩
      obtain ⟨V, hV⟩ : ∃ V, wr.alloc (.cells #[.int .i64 x0, .string s1, .string s2, .slice a3 l3 c3, .int .i64 x4, .int .i64 x5, .slice a6 l6 c6, .int .i64 x7] 44) = V := ⟨_, rfl⟩
      obtain ⟨B, hB'⟩ : ∃ B, wr.heap.size = B := ⟨_, rfl⟩
      rw [hV] at hst ⊢
      rw [hB'] at hst ⊢
      clear hV hB' g0 g1 g2 g3 g4 g5 g6 g7 hB hM hc
      have y1 := hst.c1
      have y2 := hst.c2
      have y3 := hst.c3
      have y4 := hst.c4
      have y5 := hst.c5
      have y6 := hst.c6
      have y7 := hst.c7
      gi_wp2_with (first | (refine ⟨trivial, ?_⟩; gi_at_call 11; refine (callsIn_wide.2 (quota_no _ _ _ hst.nob)).mono ?_; rintro e V' ⟨HE, rfl⟩; (first | (obtain ⟨v, rfl⟩ := HE) | subst HE)) | (refine ⟨trivial, ?_⟩; gi_at_call 12; refine (callsIn_wide.2 (fuse_no _ _ _ hst.nob)).mono ?_; rintro e V' ⟨HE, rfl⟩; (first | (obtain ⟨v, rfl⟩ := HE) | subst HE)) | (refine ⟨trivial, ?_⟩; gi_at_call 13; refine (callsIn_wide.2 (cut_no _ _ _ _ hst.nob hst.inn)).mono ?_; rintro e V' ⟨HE, hb⟩; (first | (obtain ⟨v, rfl⟩ := HE) | subst HE); replace hst := hst.next hb; clear y1 y2 y3 y4 y5 y6 y7; clear hb; have y1 := hst.c1; have y2 := hst.c2; have y3 := hst.c3; have y4 := hst.c4; have y5 := hst.c5; have y6 := hst.c6; have y7 := hst.c7) | (refine ⟨trivial, ?_⟩; gi_at_call 10; refine (callsIn_wide.2 (create_no _ _ _ hst.nob hst.inn)).mono ?_; rintro e V' ⟨HE, hb⟩; (first | (obtain ⟨v, rfl⟩ := HE) | subst HE); replace hst := hst.next hb; clear y1 y2 y3 y4 y5 y6 y7; clear hb; have y1 := hst.c1; have y2 := hst.c2; have y3 := hst.c3; have y4 := hst.c4; have y5 := hst.c5; have y6 := hst.c6; have y7 := hst.c7) | (refine ⟨trivial, ?_⟩; gi_at_call 14; refine (callsIn_wide.2 (append_no _ _ _ _ hst.nob hst.inn)).mono ?_; rintro e V' ⟨HE, hb⟩; (first | (obtain ⟨v, rfl⟩ := HE) | subst HE); replace hst := hst.next hb; clear y1 y2 y3 y4 y5 y6 y7; clear hb; have y1 := hst.c1; have y2 := hst.c2; have y3 := hst.c3; have y4 := hst.c4; have y5 := hst.c5; have y6 := hst.c6; have y7 := hst.c7) | (refine ⟨trivial, ?_⟩; gi_at_call 15; refine (callsIn_wide.2 (truncate_no _ _ _ _ hst.nob hst.inn)).mono ?_; rintro e V' ⟨HE, hb⟩; (first | (obtain ⟨v, rfl⟩ := HE) | subst HE); replace hst := hst.next hb; clear y1 y2 y3 y4 y5 y6 y7; clear hb; have y1 := hst.c1; have y2 := hst.c2; have y3 := hst.c3; have y4 := hst.c4; have y5 := hst.c5; have y6 := hst.c6; have y7 := hst.c7) | (refine ⟨trivial, ?_⟩; gi_at_call 16; refine (callsIn_wide.2 (sync_no _ _ _ hst.nob hst.inn)).mono ?_; rintro e V' ⟨HE, hb⟩; (first | (obtain ⟨v, rfl⟩ := HE) | subst HE); replace hst := hst.next hb; clear y1 y2 y3 y4 y5 y6 y7; clear hb; have y1 := hst.c1; have y2 := hst.c2; have y3 := hst.c3; have y4 := hst.c4; have y5 := hst.c5; have y6 := hst.c6; have y7 := hst.c7) | (refine ⟨trivial, ?_⟩; gi_at_call 17; refine (callsIn_wide.2 (rename_no _ _ _ _ hst.nob hst.inn)).mono ?_; rintro e V' ⟨HE, hb⟩; (first | (obtain ⟨v, rfl⟩ := HE) | subst HE); replace hst := hst.next hb; clear y1 y2 y3 y4 y5 y6 y7; clear hb; have y1 := hst.c1; have y2 := hst.c2; have y3 := hst.c3; have y4 := hst.c4; have y5 := hst.c5; have y6 := hst.c6; have y7 := hst.c7) | (refine ⟨trivial, ?_⟩; gi_at_call 18; refine (callsIn_wide.2 (remove_no _ _ _ hst.nob hst.inn)).mono ?_; rintro e V' ⟨HE, hb⟩; (first | (obtain ⟨v, rfl⟩ := HE) | subst HE); replace hst := hst.next hb; clear y1 y2 y3 y4 y5 y6 y7; clear hb; have y1 := hst.c1; have y2 := hst.c2; have y3 := hst.c3; have y4 := hst.c4; have y5 := hst.c5; have y6 := hst.c6; have y7 := hst.c7) | (refine ⟨trivial, ?_⟩; gi_at_call 19; refine (callsIn_wide.2 (syncDir_no _ _ hst.nob)).mono ?_; rintro e V' ⟨HE, rfl⟩; (first | (obtain ⟨v, rfl⟩ := HE) | subst HE)) | (refine ⟨trivial, ?_⟩; gi_at_call 20; refine (callsIn_wide.2 (read_no _ _ _ _ _ hst.nob hst.inn)).mono ?_; rintro e V' ⟨HE, hb⟩; (first | (obtain ⟨v, rfl⟩ := HE) | subst HE); replace hst := hst.next hb; clear y1 y2 y3 y4 y5 y6 y7; clear hb; have y1 := hst.c1; have y2 := hst.c2; have y3 := hst.c3; have y4 := hst.c4; have y5 := hst.c5; have y6 := hst.c6; have y7 := hst.c7) | (refine ⟨trivial, ?_⟩; gi_at_call 21; refine (callsIn_wide.2 (size_no _ _ _ hst.nob hst.inn)).mono ?_; rintro e V' ⟨HE, hb⟩; (first | (obtain ⟨v, rfl⟩ := HE) | subst HE); replace hst := hst.next hb; clear y1 y2 y3 y4 y5 y6 y7; clear hb; have y1 := hst.c1; have y2 := hst.c2; have y3 := hst.c3; have y4 := hst.c4; have y5 := hst.c5; have y6 := hst.c6; have y7 := hst.c7) | (refine ⟨trivial, ?_⟩; gi_at_call 22; refine (callsIn_wide.2 (used_no _ _ hst.nob)).mono ?_; rintro e V' ⟨HE, rfl⟩; (first | (obtain ⟨v, rfl⟩ := HE) | subst HE)))
      refine ⟨trivial, ?_⟩
      refine (callsIn_wide.2 (list_any p _)).mono ?_
      rintro e V2 ⟨rfl, rfl⟩
      have hba : Below V'.heap.size V' (V'.alloc (.cells #[.pointer p] 23)) := (Below.refl _ _).alloc (Nat.le_refl _) _
      have hst2 := hst.next hba
      have hcb : (V'.alloc (.cells #[.pointer p] 23)).cell? ⟨V'.heap.size, 0, none⟩ = some (.pointer p) := by simp
      have hlv : V'.heap.size < (V'.alloc (.cells #[.pointer p] 23)).heap.size := by simp
      clear y1 y2 y3 y4 y5 y6 y7
      gi_wp2
      refine wpIn_rangeFunc_never rfl (by decide) (gf := 55) (lb := #[.pointer (some ⟨V'.heap.size, 0, none⟩)]) rfl trivial enters55
        (fun l W hW => callsIn_wide.2 (list1_no l _ p W ((hW.cell (p := ⟨V'.heap.size, 0, none⟩) hlv).trans hcb) (hst2.nob.below hW hst2.inn))) ?_
      intro D W hW hD hK
      have hst3 := hst2.next hW
      have hmk3 := hst2.mks.cons hW hD hst2.bel.size hK
      have hbe3 := hst3.bel
      clear hba hcb hlv hst hst2 hst3 hW hD hK
      gi_wp2
      refine ⟨⟨k + 1, by omega, rfl, rfl, rfl, rfl, ?_, hbe3, hmk3⟩, ?_⟩
      · show Value.int IntKind.i64 ((k : Int) + 1) = Value.int IntKind.i64 ((k + 1 : Nat) : Int)
        simp
      · show len - (intOf (Value.int IntKind.i64 ((k : Int) + 1))).toNat < len - (intOf (Value.int IntKind.i64 (k : Int))).toNat
        simp [intOf]
        omega
    · have hki : ¬ (k : Int) < (len : Int) := by omega
      have hnr : Nob wr p := hn.below hB hin
      have hir : In wr p := fun b e => Nat.lt_of_lt_of_le (hin b e) hB.size
      have hr1 := (hB.cell (p := ⟨w.heap.size, 0, none⟩) hlt).trans hres
      have hr2 := (hB.frozen (p := ⟨w.heap.size, 0, none⟩) hlt).trans hfz
      have hzr : w.heap.size < wr.heap.size := Nat.lt_of_lt_of_le hlt hB.size
      have HB : Hid (Below W2.heap.size W2 wr) := hB
      have HM : Hid (Marks W2.heap.size ds wr) := hM
      clear hB hM hres hfz
      gi_wp2_with (first | (refine ⟨trivial, ?_⟩; gi_at_call 25; refine (callsIn_wide.2 (image_no _ _ hnr hir)).mono ?_; rintro e V1 ⟨rfl, hv1⟩) | (refine ⟨trivial, ?_⟩; gi_at_call 24; refine (callsIn_wide.2 (same_zero _)).mono ?_; rintro e V2 ⟨rfl, hv2⟩; have hz1 : w.heap.size < V1.heap.size := Nat.lt_of_lt_of_le hzr hv1.size; have q1 := (hv2.cell (p := ⟨w.heap.size, 0, none⟩) hz1).trans ((hv1.cell (p := ⟨w.heap.size, 0, none⟩) hzr).trans hr1); have q2 := (hv2.frozen (p := ⟨w.heap.size, 0, none⟩) hz1).trans ((hv1.frozen (p := ⟨w.heap.size, 0, none⟩) hzr).trans hr2)))
      have hmk : Marks W2.heap.size ds (V2.setCell ⟨w.heap.size, 0, none⟩ (.bool true)) := ((HM.out.below hv1).below hv2).keep fun d hd D e => by
        obtain ⟨D', e', hge, _⟩ := HM.out.mem d hd
        obtain rfl : D' = D := by rw [e] at e'; simpa using e'.symm
        exact Below.heap_setCell _ _ _ _ (by simp; omega)
      have hfin : Below w.heap.size w (V2.setCell ⟨w.heap.size, 0, none⟩ (.bool true)) :=
        (((hB0.trans (HB.out.mono hB0.size)).trans (hv1.mono (by omega))).trans (hv2.mono (by omega))).setCell (p := ⟨w.heap.size, 0, none⟩) (Nat.le_refl _) _
      refine leavesM_marks ds _ hmk ?_
      intro W' hb
      have hres' : W'.cell? ⟨w.heap.size, 0, none⟩ = some (.bool true) := (hb.cell (p := ⟨w.heap.size, 0, none⟩) hlt).trans (cell_set_eq q1)
      exact ⟨.bool true, by simp [results, Tryz.results3, go_sem, hres'], rfl, hfin.trans (hb.mono (by omega))⟩

end Go.Proofs.YtpnmnjelppnfoaaGreat
