import Derived.Test.YtiieikdbhpflgabDoorSd
import Derived.Test.YtiieikdbhpflgabDoorXu
import Derived.Test.YtiieikdbhpflgabDoorVf
import Derived.Test.YtiieikdbhpflgabDoorSa
/-
  DERIVED. The shapes of what is handed in.
-/
namespace Go.Proofs.YtiieikdbhpflgabDoor
open Go Go.Proofs Go.RowKit
set_option linter.unusedVariables false

theorem one_eq {a b : Value} (h : [a] = [b]) : a = b := by simpa using h
set_option maxRecDepth 100000 in
theorem rd_ty {H : Type} {enc : TypeId × Value → H} {W : World} {base : Nat} {spare : Nat → Bool} {held : Bool} {k : Int} {c : Fin 18 → Value} (h : Rd enc W base spare held 46 (Pd k c).toList) : TyC c := by
  have hA : Rd enc W base spare held 43 [c 0, c 1, c 2, c 3, c 4, c 5, c 6, c 7, c 8, c 9, c 10, c 11, c 12, c 13] := h.at Tryd.underlying46 1 1 14 rfl c37
  have hU : Rd enc W base spare held 41 [c 5, c 6, c 7, c 8, c 9, c 10, c 11, c 12, c 13] := hA.at Tryd.underlying43 5 5 9 rfl c35
  have f0 : Rd enc W base spare held 35 [c 0] := hA.at Tryd.underlying43 0 0 1 rfl c29
  have f1 : Rd enc W base spare held 9 [c 1] := hA.at Tryd.underlying43 1 1 1 rfl c9
  have f2 : Rd enc W base spare held 9 [c 2] := hA.at Tryd.underlying43 2 2 1 rfl c9
  have f3 : Rd enc W base spare held 9 [c 3] := hA.at Tryd.underlying43 3 3 1 rfl c9
  have f5 : Rd enc W base spare held 4 [c 5] := hU.at Tryd.underlying41 0 0 1 rfl c4
  have f6 : Rd enc W base spare held 37 [c 6] := hU.at Tryd.underlying41 1 1 1 rfl c31
  have f7 : Rd enc W base spare held 9 [c 7] := hU.at Tryd.underlying41 2 2 1 rfl c9
  have f8 : Rd enc W base spare held 9 [c 8] := hU.at Tryd.underlying41 3 3 1 rfl c9
  have f9 : Rd enc W base spare held 4 [c 9] := hU.at Tryd.underlying41 4 4 1 rfl c4
  have f10 : Rd enc W base spare held 35 [c 10] := hU.at Tryd.underlying41 5 5 1 rfl c29
  have f11 : Rd enc W base spare held 35 [c 11] := hU.at Tryd.underlying41 6 6 1 rfl c29
  have f14 : Rd enc W base spare held 5 [c 14] := h.at Tryd.underlying46 2 15 1 rfl c5
  have f15 : Rd enc W base spare held 5 [c 15] := h.at Tryd.underlying46 3 16 1 rfl c5
  have f16 : Rd enc W base spare held 5 [c 16] := h.at Tryd.underlying46 4 17 1 rfl c5
  obtain ⟨x0, e0⟩ := f0.int Tryd.underlying35
  obtain ⟨x1, e1⟩ := f1.str Tryd.underlying9
  obtain ⟨x2, e2⟩ := f2.str Tryd.underlying9
  obtain ⟨x3, e3⟩ := f3.str Tryd.underlying9
  obtain ⟨x5, e5⟩ := f5.bool Tryd.underlying4
  obtain ⟨x6, e6⟩ := f6.int Tryd.underlying37
  obtain ⟨x7, e7⟩ := f7.str Tryd.underlying9
  obtain ⟨x8, e8⟩ := f8.str Tryd.underlying9
  obtain ⟨x9, e9⟩ := f9.bool Tryd.underlying4
  obtain ⟨x10, e10⟩ := f10.int Tryd.underlying35
  obtain ⟨x11, e11⟩ := f11.int Tryd.underlying35
  obtain ⟨x14, e14⟩ := f14.int Tryd.underlying5
  obtain ⟨x15, e15⟩ := f15.int Tryd.underlying5
  obtain ⟨x16, e16⟩ := f16.int Tryd.underlying5
  exact ⟨⟨x0, one_eq e0⟩, ⟨x1, one_eq e1⟩, ⟨x2, one_eq e2⟩, ⟨x3, one_eq e3⟩, ⟨x5, one_eq e5⟩, ⟨x6, one_eq e6⟩, ⟨x7, one_eq e7⟩, ⟨x8, one_eq e8⟩, ⟨x9, one_eq e9⟩, ⟨x10, one_eq e10⟩, ⟨x11, one_eq e11⟩, ⟨x14, one_eq e14⟩, ⟨x15, one_eq e15⟩, ⟨x16, one_eq e16⟩⟩
theorem cut_eq {cs l : List Value} {o n : Nat} (hl : l.length = n) (hc : o + n ≤ cs.length) (h : ∀ j v, l[j]? = some v → cs[o + j]? = some v) : (cs.drop o).take n = l := by
  apply List.ext_getElem?
  intro j
  by_cases hj : j < n
  · rw [List.getElem?_take, if_pos hj, List.getElem?_drop]
    have : l[j]? = some (l[j]'(by omega)) := List.getElem?_eq_getElem _
    rw [this]; exact h j _ this
  · rw [List.getElem?_eq_none (by simp; omega), List.getElem?_eq_none (by omega)]
theorem pd_len (k : Int) (c : Fin 18 → Value) : (Pd k c).toList.length = 19 := rfl
/-- An event that came in, with the shapes of its PDUs' fields. -/
theorem rd_evT {H : Type} {enc : TypeId × Value → H} {W : World} {base : Nat} {spare : Nat → Bool} {held : Bool} {cs : List Value} (h : Rd enc W base spare held 48 cs) (hl : cs.length = 41) : ∃ d, EvY W cs.toArray d ∧ (TyC d.p.c ∧ TyC d.a.c) ∧ Sml d.p.D ∧ Sml d.a.D := by
  obtain ⟨d, hd, m1, m2⟩ := rd_evX h hl
  have h1 := h.at Tryd.underlying48 1 1 19 rfl c40
  have h3 := h.at Tryd.underlying48 3 21 19 rfl c40
  rw [cut_eq (pd_len d.p.k d.p.c) (by omega) (fun j v hv => by have := hd.ev.pdu j v hv; simpa using this)] at h1
  rw [cut_eq (pd_len d.a.k d.a.c) (by omega) (fun j v hv => by have := hd.ev.ans j v hv; simpa using this)] at h3
  exact ⟨d, hd, ⟨rd_ty h1, rd_ty h3⟩, m1, m2⟩
/-- Events that can be read. -/
def EvsT (w : World) (v : Value) (n : Nat) : Prop := ∃ ao cap, v = .slice ao n cap ∧ (0 < n → ∃ b off, ao = some ⟨b, off, none⟩ ∧ ∀ i, i < n → ∃ EV d, w.rangeAt b (off + i * 41) EV.toList ∧ EvY w EV d ∧ (TyC d.p.c ∧ TyC d.a.c) ∧ Sml d.p.D ∧ Sml d.a.D)
theorem rd_evsT {H : Type} {enc : TypeId × Value → H} {W : World} {base : Nat} {spare : Nat → Bool} {held : Bool} {v : Value} (h : Rd enc W base spare held 22 [v]) : ∃ n, n ≤ 1048576 ∧ EvsT W v n := by
  obtain ⟨ao, n, cap, h1, hw, _, hel⟩ := h.slice Tryd.underlying22 (m := 41) (by kernel_rfl) (by omega)
  simp only [List.cons.injEq, and_true] at h1
  subst h1
  refine ⟨n, hw, ao, cap, rfl, fun hn => ?_⟩
  obtain ⟨b, off, rfl, he⟩ := hel hn
  refine ⟨b, off, rfl, fun i hi => ?_⟩
  obtain ⟨es, h1, h2, h3⟩ := he i hi
  obtain ⟨d, hev, ht, hm⟩ := rd_evT h3 h1
  exact ⟨es.toArray, d, by simpa using h2, hev, ht, hm⟩
end Go.Proofs.YtiieikdbhpflgabDoor

/-
  DERIVED. Is what was lent as it was, its spare room too?
-/
namespace Go.Proofs.YtiieikdbhpflgabDoor
open Go Go.Proofs Go.RowKit

set_option maxRecDepth 100000 in
set_option maxHeartbeats 2000000 in
theorem kept_any (W : World) (b : Value) (bs : List Nat) (g o cap : Nat) (hn : bs.length + 3 ≤ 140737488351232) (hc : bs.length + 3 ≤ cap) (ha : V W (.slice (some ⟨g, o, none⟩) bs.length cap) bs) (hb : V W b bs)
    (hm : ∀ i, i < 3 → W.cell? ⟨g, o + (bs.length + i), none⟩ = some (.int .u8 ((160 + i : Nat) : Int))) :
    Calls Tryd.prog 32 #[.slice (some ⟨g, o, none⟩) bs.length cap, b] W fun e w' => e = .returned (.bool true) ∧ ∃ m, w' = W.drewN m := by
  have hq := bytes_same W _ b bs (by omega) ha hb
  obtain ⟨ab, cb, rfl, _, _⟩ := hb.form
  obtain ⟨n, hn'⟩ : ∃ n, bs.length = n := ⟨_, rfl⟩
  rw [hn'] at hn hc hm hq ⊢
  have HM : Hid _ := hm
  clear hm ha hb hn'
  have b0 : (0 : Int) ≤ (n : Int) := by omega
  have b1 : ((n : Int) + 3) ≤ (cap : Int) := by omega
  have b2 : (0 : Int) ≤ (n : Int) + 3 := by omega
  go_enter Tryd.func32, Tryd.ntmps32
  go_wp2_with (go_at_call 47; refine hq.mono ?_; rintro x W5 ⟨rfl, m, rfl⟩)
  clear b0 b1 b2
  go_loopg [6] 3 (fun g' s6 wx => ∃ i : Nat, s6 = .int .i64 (i : Int) ∧ g' + i = 3 ∧ ∃ m, wx = W.drewN m)
  case atStart => exact ⟨0, rfl, by omega, _, rfl⟩
  case round =>
    obtain ⟨i, rfl, hgi, m, rfl⟩ := hrel
    have h3 : i = 0 ∨ i = 1 ∨ i = 2 ∨ i = 3 := by omega
    have m0 : W.cell? ⟨g, o + (n + 0), none⟩ = some (.int .u8 160) := HM.out 0 (by omega)
    have m1 : W.cell? ⟨g, o + (n + 1), none⟩ = some (.int .u8 161) := HM.out 1 (by omega)
    have m2 : W.cell? ⟨g, o + (n + 2), none⟩ = some (.int .u8 162) := HM.out 2 (by omega)
    rw [Nat.add_zero] at m0
    rcases h3 with rfl | rfl | rfl | rfl
    · have q1 : (n : Int) < (n : Int) + 3 := by omega
      go_wp2
      go_roundg 2
      case rel => exact ⟨1, by go_num, by omega, _, rfl⟩
      case measure => omega
    · have q1 : (n : Int) + 1 < (n : Int) + 3 := by omega
      have q0 : (0 : Int) ≤ (n : Int) + 1 := by omega
      go_wp2
      go_roundg 1
      case rel => exact ⟨2, by go_num, by omega, _, rfl⟩
      case measure => omega
    · have q1 : (n : Int) + 2 < (n : Int) + 3 := by omega
      have q0 : (0 : Int) ≤ (n : Int) + 2 := by omega
      go_wp2
      go_roundg 0
      case rel => exact ⟨3, by go_num, by omega, _, rfl⟩
      case measure => omega
    · go_wp2
      go_ret
      exact ⟨rfl, _, rfl⟩
end Go.Proofs.YtiieikdbhpflgabDoor

/-
  DERIVED. The shapes of what is done.
-/
namespace Go.Proofs.YtiieikdbhpflgabDoor
open Go Go.Proofs Go.RowKit
set_option linter.unusedVariables false

theorem ty_zc : TyC zc := ⟨⟨_, rfl⟩, ⟨_, rfl⟩, ⟨_, rfl⟩, ⟨_, rfl⟩, ⟨_, rfl⟩, ⟨_, rfl⟩, ⟨_, rfl⟩, ⟨_, rfl⟩, ⟨_, rfl⟩, ⟨_, rfl⟩, ⟨_, rfl⟩, ⟨_, rfl⟩, ⟨_, rfl⟩, ⟨_, rfl⟩⟩
theorem ty_ab (r : Int) : TyC (abC r) := ⟨⟨_, rfl⟩, ⟨_, rfl⟩, ⟨_, rfl⟩, ⟨_, rfl⟩, ⟨_, rfl⟩, ⟨_, rfl⟩, ⟨_, rfl⟩, ⟨_, rfl⟩, ⟨_, rfl⟩, ⟨_, rfl⟩, ⟨_, rfl⟩, ⟨_, rfl⟩, ⟨_, rfl⟩, ⟨_, rfl⟩⟩
theorem ty0 : ∀ a ∈ ([] : List AcD), TyC a.c := fun a h => absurd h List.not_mem_nil
theorem ty1 {x : AcD} (h : TyC x.c) : ∀ a ∈ [x], TyC a.c := fun a ha => by
  obtain rfl := List.mem_singleton.1 ha
  exact h
theorem ty2 {x y : AcD} (h : TyC x.c) (h2 : TyC y.c) : ∀ a ∈ [x, y], TyC a.c := fun a ha => by
  rcases List.mem_cons.1 ha with rfl | ha
  · exact h
  · exact ty1 h2 a ha
theorem does_ty (f : Nat) (t : Int) {K : KpD} {d : EvD} (hK : TyC K.c) (hp : TyC d.p.c) (ha : TyC d.a.c) : ∀ a ∈ doesL f t K d, TyC a.c := by
  unfold doesL
  by_cases q : f = 51
  · rw [if_pos q]; ((first | exact ty0 | refine ty1 ?_ | refine ty2 ?_ ?_) <;> first | exact ty_zc | assumption | exact ty_ab _)
  rw [if_neg q]; clear q
  by_cases q : f = 52
  · rw [if_pos q]; ((first | exact ty0 | refine ty1 ?_ | refine ty2 ?_ ?_) <;> first | exact ty_zc | assumption | exact ty_ab _)
  rw [if_neg q]; clear q
  by_cases q : f = 53
  · rw [if_pos q]; ((first | exact ty0 | refine ty1 ?_ | refine ty2 ?_ ?_) <;> first | exact ty_zc | assumption | exact ty_ab _)
  rw [if_neg q]; clear q
  by_cases q : f = 54
  · rw [if_pos q]; ((first | exact ty0 | refine ty1 ?_ | refine ty2 ?_ ?_) <;> first | exact ty_zc | assumption | exact ty_ab _)
  rw [if_neg q]; clear q
  by_cases q : f = 55
  · rw [if_pos q]; ((first | exact ty0 | refine ty1 ?_ | refine ty2 ?_ ?_) <;> first | exact ty_zc | assumption | exact ty_ab _)
  rw [if_neg q]; clear q
  by_cases q : f = 56
  · rw [if_pos q]; ((first | exact ty0 | refine ty1 ?_ | refine ty2 ?_ ?_) <;> first | exact ty_zc | assumption | exact ty_ab _)
  rw [if_neg q]; clear q
  by_cases q : f = 57
  · rw [if_pos q]; ((first | exact ty0 | refine ty1 ?_ | refine ty2 ?_ ?_) <;> first | exact ty_zc | assumption | exact ty_ab _)
  rw [if_neg q]; clear q
  by_cases q : f = 58
  · rw [if_pos q]; ((first | exact ty0 | refine ty1 ?_ | refine ty2 ?_ ?_) <;> first | exact ty_zc | assumption | exact ty_ab _)
  rw [if_neg q]; clear q
  by_cases q : f = 59
  · rw [if_pos q]; ((first | exact ty0 | refine ty1 ?_ | refine ty2 ?_ ?_) <;> first | exact ty_zc | assumption | exact ty_ab _)
  rw [if_neg q]; clear q
  by_cases q : f = 60
  · rw [if_pos q]; ((first | exact ty0 | refine ty1 ?_ | refine ty2 ?_ ?_) <;> first | exact ty_zc | assumption | exact ty_ab _)
  rw [if_neg q]; clear q
  by_cases q : f = 61
  · rw [if_pos q]; ((first | exact ty0 | refine ty1 ?_ | refine ty2 ?_ ?_) <;> first | exact ty_zc | assumption | exact ty_ab _)
  rw [if_neg q]; clear q
  by_cases q : f = 62
  · rw [if_pos q]; ((first | exact ty0 | refine ty1 ?_ | refine ty2 ?_ ?_) <;> first | exact ty_zc | assumption | exact ty_ab _)
  rw [if_neg q]; clear q
  by_cases q : f = 63
  · rw [if_pos q]; ((first | exact ty0 | refine ty1 ?_ | refine ty2 ?_ ?_) <;> first | exact ty_zc | assumption | exact ty_ab _)
  rw [if_neg q]; clear q
  by_cases q : f = 64
  · rw [if_pos q]; ((first | exact ty0 | refine ty1 ?_ | refine ty2 ?_ ?_) <;> first | exact ty_zc | assumption | exact ty_ab _)
  rw [if_neg q]; clear q
  by_cases q : f = 65
  · rw [if_pos q]; ((first | exact ty0 | refine ty1 ?_ | refine ty2 ?_ ?_) <;> first | exact ty_zc | assumption | exact ty_ab _)
  rw [if_neg q]; clear q
  by_cases q : f = 66
  · rw [if_pos q]; ((first | exact ty0 | refine ty1 ?_ | refine ty2 ?_ ?_) <;> first | exact ty_zc | assumption | exact ty_ab _)
  rw [if_neg q]; clear q
  by_cases q : f = 67
  · rw [if_pos q]; ((first | exact ty0 | refine ty1 ?_ | refine ty2 ?_ ?_) <;> first | exact ty_zc | assumption | exact ty_ab _)
  rw [if_neg q]; clear q
  ((first | exact ty0 | refine ty1 ?_ | refine ty2 ?_ ?_) <;> first | exact ty_zc | assumption | exact ty_ab _)
theorem kept_ty (f : Nat) {K : KpD} {d : EvD} (hK : TyC K.c) (hp : TyC d.p.c) : TyC (keptA f K d).c := by
  unfold keptA
  repeat' split
  · exact hp
  · exact ty_zc
  · exact hK
end Go.Proofs.YtiieikdbhpflgabDoor

/-
  DERIVED. PDUs stay where nothing writes into their blocks; what is told may be compared and written over.
-/
namespace Go.Proofs.YtiieikdbhpflgabDoor
open Go Go.Proofs Go.RowKit
set_option linter.unusedVariables false

theorem RF.and {F G : Nat → Prop} {W : World} {rv : Value} {m : Nat} (h : RF F W rv m) (h2 : RF G W rv m) : RF (fun b => F b ∧ G b) W rv m := fun g n cap e => ⟨⟨(h g n cap e).1, (h2 g n cap e).1⟩, fun j v b hj hv hb => ⟨(h g n cap e).2 j v b hj hv hb, (h2 g n cap e).2 j v b hj hv hb⟩⟩
theorem PF.and {F G : Nat → Prop} {W : World} {c : Fin 18 → Value} {D : PdD} (h : PF F W c D) (h2 : PF G W c D) : PF (fun b => F b ∧ G b) W c D := ⟨h.ctx.and h2.ctx, h.role.and h2.role, h.oth.and h2.oth, h.val.and h2.val⟩
theorem PF.zero (F : Nat → Prop) (W : World) (D : PdD) : PF F W zc D := ⟨RF.nil _ _ _ _ _, RF.nil _ _ _ _ _, RF.nil _ _ _ _ _, RF.nil _ _ _ _ _⟩
/-- The block of a list. -/
theorem OE.blockF {G : Nat → Prop} {base m : Nat} {W : World} {rv : Value} {ps : List El} {st : Nat} {e : TypeId} {Sh : El → Prop} (h : OE base W rv ps st e Sh) (hR : RF G W rv m) : ∀ b, rv.ownBlock = some b → G b ∧ b < W.heap.size := fun b hb => by
  refine ⟨?_, (h.lt b hb).2⟩
  obtain ⟨xs, ho, -⟩ := h
  rcases ho.2 with ⟨rfl, _⟩ | ⟨g, cap, cur, rfl, _⟩
  · cases hb
  · obtain rfl : g = b := by simpa [Value.ownBlock] using hb
    exact (hR g _ _ rfl).1
theorem OE.keepF {G : Nat → Prop} {base : Nat} {W W' : World} {rv : Value} {ps : List El} {st : Nat} {e : TypeId} {Sh : El → Prop} (h : OE base W rv ps st e Sh) (hlen : ∀ p, Sh p → ∀ vs, InnR W p.inn vs → (p.fl ++ vs).length = st) (hR : RF G W rv (ps.length * st)) (hk : ∀ b, b < W.heap.size → G b → W'.heap[b]? = W.heap[b]?) : OE base W' rv ps st e Sh := by
  have hbl := h.blockF hR
  obtain ⟨xs, ho, hg, hs⟩ := h
  refine ⟨xs, owns_same ho (fun b e2 => hk b (hbl b e2).2 (hbl b e2).1), fun i hi => ?_, hs⟩
  obtain ⟨vs, h1, h2⟩ := hg i hi
  refine ⟨vs, h1, ?_⟩
  have hl := hlen _ (hs _ (List.getElem_mem hi)) vs h2.rd
  have hq : ∀ u, vs = [u] → ∀ b, u.ownBlock = some b → G b := fun u hu b hb => by
    subst hu
    have h3 := h1 (ps[i].fl.length) u (by rw [List.getElem?_append_right (Nat.le_refl _)]; simp)
    have hlt : i * st + ps[i].fl.length < ps.length * st := by
      have := Nat.mul_le_mul_right st (show i + 1 ≤ ps.length by omega)
      rw [Nat.add_mul, Nat.one_mul] at this
      simp at hl
      omega
    rcases ho.2 with ⟨_, h0⟩ | ⟨g, cap, cur, hrv, _⟩
    · omega
    · refine (hR g _ _ hrv).2 _ u b hlt ?_ hb
      rw [hrv] at ho
      rw [ho.cellAt _ hlt]; exact h3
  generalize ps[i].inn = ii at h2 ⊢
  cases ii with
  | no => exact h2
  | tx T => obtain ⟨v, a1, a2, a3, a4⟩ := h2; exact ⟨v, a1, owns_same a2 (fun b e => hk b (a2.lt b e).2 (hq v a1 b e)), a3, a4⟩
  | «by» bs => obtain ⟨v, a1, a2, a3, a4⟩ := h2; exact ⟨v, a1, ⟨owns_same a2.1 (fun b e => hk b (a2.1.lt b e).2 (hq v a1 b e)), a2.2⟩, a3, a4⟩
theorem OXF.keepF {F : Nat → Prop} {base : Nat} {W W' : World} {c : Fin 18 → Value} {D : PdD} (h : OXF F base W c D) (hk : ∀ b, b < W.heap.size → F b → W'.heap[b]? = W.heap[b]?) : OXF F base W' c D := by
  have k4 := h.ctx.1.blockF h.ft.ctx
  have k12 := h.role.1.blockF h.ft.role
  have k13 := h.oth.1.blockF h.ft.oth
  have k17 := h.val.1.blockF h.ft.val
  refine ⟨⟨h.one, ⟨h.ctx.1.keepF (lenC W) h.ft.ctx hk, h.ctx.2⟩, ⟨h.role.1.keepF (lenR W) h.ft.role hk, h.role.2⟩, ⟨h.oth.1.keepF (lenO W) h.ft.oth hk, h.oth.2⟩, ⟨h.val.1.keepF (lenV W) h.ft.val hk, h.val.2⟩, ?_⟩,
    h.ft.ctx.keep fun b e => hk b (k4 b e).2 (k4 b e).1, h.ft.role.keep fun b e => hk b (k12 b e).2 (k12 b e).1, h.ft.oth.keep fun b e => hk b (k13 b e).2 (k13 b e).1, h.ft.val.keep fun b e => hk b (k17 b e).2 (k17 b e).1⟩
  obtain ⟨m0, m, M, ⟨xs, a1, a2, a3⟩, ⟨ys, b1, b2, b3⟩⟩ := h.dj
  exact ⟨m0, m, M, ⟨xs, owns_same a1 (fun b e => hk b (k13 b e).2 (k13 b e).1), a2, a3⟩, ⟨ys, owns_same b1 (fun b e => hk b (k17 b e).2 (k17 b e).1), b2, b3⟩⟩
theorem OXF.lt {F : Nat → Prop} {base : Nat} {W : World} {c : Fin 18 → Value} {D : PdD} (h : OXF F base W c D) : OXF (fun b => F b ∧ base ≤ b ∧ b < W.heap.size) base W c D := ⟨h.toOX, h.ft.and (PF.of h.toOX (fun b h1 h2 _ => ⟨h1, h2⟩))⟩
theorem OXF.low {F : Nat → Prop} {base base' : Nat} {W : World} {c : Fin 18 → Value} {D : PdD} (h : OXF F base W c D) (hb : base' ≤ base) : OXF F base' W c D := ⟨h.toOX.low hb, h.ft⟩
theorem OXF.mono {F G : Nat → Prop} {base : Nat} {W : World} {c : Fin 18 → Value} {D : PdD} (h : OXF F base W c D) (hg : ∀ b, F b → G b) : OXF G base W c D := ⟨h.toOX, h.ft.mono hg⟩
/-- A provider, the blocks of what it keeps named anew. -/
def Prov.withF (S : Prov) (F : Nat → Prop) : Prov := { S with K := { S.K with F := F } }
theorem PvE.lim {W : World} {p : Nat} {S : Prov} (h : PvE W p S) : PvE W p (S.withF fun b => S.K.F b ∧ p + 1 ≤ b ∧ b < W.heap.size) := by
  obtain ⟨PV, c0, h1, h2, h3, h4, h5, h6⟩ := h
  exact ⟨PV, c0, ⟨h1.row, h1.sz, h1.one, h1.kept, h1.ox.lt⟩, h2, h3, h4, h5, h6⟩
theorem RvE.lim {W : World} {p : Nat} {S : Prov} (h : RvE W p S) : RvE W p (S.withF fun b => S.K.F b ∧ p + 1 ≤ b ∧ b < W.heap.size) := by
  obtain ⟨PV, c0, h1, h2, h3, h4, h5, h6, h7, h8, h9, h10, h11⟩ := h
  exact ⟨PV, c0, h1, h2, h3, h4, h5.lt, h6, h7, h8, h9, h10, h11⟩
theorem PvE.keepF {W W' : World} {p : Nat} {S : Prov} (h : PvE W p S) (hp : W'.heap[p]? = W.heap[p]?) (hk : ∀ b, b < W.heap.size → S.K.F b → W'.heap[b]? = W.heap[b]?) : PvE W' p S := by
  obtain ⟨PV, c0, h1, h2, h3, h4, h5, h6⟩ := h
  exact ⟨PV, c0, ⟨hp.trans h1.row, h1.sz, h1.one, h1.kept, h1.ox.keepF hk⟩, h2, h3, h4, h5, h6⟩
theorem RvE.keepF {W W' : World} {p : Nat} {S : Prov} (h : RvE W p S) (hp : W'.heap[p]? = W.heap[p]?) (hk : ∀ b, b < W.heap.size → S.K.F b → W'.heap[b]? = W.heap[b]?) : RvE W' p S := by
  obtain ⟨PV, c0, h1, h2, h3, h4, h5, h6, h7, h8, h9, h10, h11⟩ := h
  exact ⟨PV, c0, hp.trans h1, h2, h3, h4, h5.keepF hk, h6, h7, h8, h9, h10, h11⟩
theorem PvE.withF {W : World} {p : Nat} {S : Prov} {F : Nat → Prop} (h : PvE W p S) (hF : ∀ b, S.K.F b → F b) : PvE W p (S.withF F) := by
  obtain ⟨PV, c0, h1, h2, h3, h4, h5, h6⟩ := h
  exact ⟨PV, c0, ⟨h1.row, h1.sz, h1.one, h1.kept, h1.ox.mono hF⟩, h2, h3, h4, h5, h6⟩

/-- What is told, what is kept: all of it is of this kind. -/
theorem does_all (P : (Fin 18 → Value) → PdD → Prop) (hz : P zc D0) (hab : ∀ r : Int, P (abC r) D0) (f : Nat) (t : Int) {K : KpD} {d : EvD} (hK : P K.c K.D) (hp : P d.p.c d.p.D) (ha : P d.a.c d.a.D) : ∀ a ∈ doesL f t K d, P a.c a.D := by
  have q0 : ∀ a ∈ ([] : List AcD), P a.c a.D := fun a h => absurd h List.not_mem_nil
  have q1 : ∀ {x : AcD}, P x.c x.D → ∀ a ∈ [x], P a.c a.D := fun h a h2 => by
    obtain rfl := List.mem_singleton.1 h2
    exact h
  have q2 : ∀ {x y : AcD}, P x.c x.D → P y.c y.D → ∀ a ∈ [x, y], P a.c a.D := fun h h' a h2 => by
    rcases List.mem_cons.1 h2 with rfl | h2
    · exact h
    · exact q1 h' a h2
  unfold doesL
  by_cases q : f = 51
  · rw [if_pos q]; exact q1 hz
  rw [if_neg q]; clear q
  by_cases q : f = 52
  · rw [if_pos q]; exact q1 hK
  rw [if_neg q]; clear q
  by_cases q : f = 53
  · rw [if_pos q]; exact q1 hp
  rw [if_neg q]; clear q
  by_cases q : f = 54
  · rw [if_pos q]; exact q2 hp hz
  rw [if_neg q]; clear q
  by_cases q : f = 55
  · rw [if_pos q]; exact q1 hz
  rw [if_neg q]; clear q
  by_cases q : f = 56
  · rw [if_pos q]; exact q1 ha
  rw [if_neg q]; clear q
  by_cases q : f = 57
  · rw [if_pos q]; exact q1 hp
  rw [if_neg q]; clear q
  by_cases q : f = 58
  · rw [if_pos q]; exact q1 hz
  rw [if_neg q]; clear q
  by_cases q : f = 59
  · rw [if_pos q]; exact q1 hz
  rw [if_neg q]; clear q
  by_cases q : f = 60
  · rw [if_pos q]; exact q2 hz hz
  rw [if_neg q]; clear q
  by_cases q : f = 61
  · rw [if_pos q]; exact q1 hz
  rw [if_neg q]; clear q
  by_cases q : f = 62
  · rw [if_pos q]; exact q0
  rw [if_neg q]; clear q
  by_cases q : f = 63
  · rw [if_pos q]; exact q1 hz
  rw [if_neg q]; clear q
  by_cases q : f = 64
  · rw [if_pos q]; exact q1 hz
  rw [if_neg q]; clear q
  by_cases q : f = 65
  · rw [if_pos q]; exact q2 hp hz
  rw [if_neg q]; clear q
  by_cases q : f = 66
  · rw [if_pos q]; exact q1 (hab _)
  rw [if_neg q]; clear q
  by_cases q : f = 67
  · rw [if_pos q]; exact q2 (hab _) hz
  rw [if_neg q]; clear q
  exact q0
/-- Behind the first act nothing has a PDU. -/
def Zs (L : List AcD) : Prop := ∀ b ∈ L.drop 1, b.k = 0 ∧ b.c = zc ∧ b.D = D0
theorem does_zs (f : Nat) (t : Int) (K : KpD) (d : EvD) : Zs (doesL f t K d) := by
  have q0 : Zs [] := fun a h => absurd h List.not_mem_nil
  have q1 : ∀ {x : AcD}, Zs [x] := fun a h => absurd h List.not_mem_nil
  have q2 : ∀ {x : AcD} {u v : Int}, Zs [x, ⟨u, v, 0, zc, D0⟩] := fun a h => by
    obtain rfl := List.mem_singleton.1 h
    exact ⟨rfl, rfl, rfl⟩
  unfold doesL
  by_cases q : f = 51
  · rw [if_pos q]; exact q1
  rw [if_neg q]; clear q
  by_cases q : f = 52
  · rw [if_pos q]; exact q1
  rw [if_neg q]; clear q
  by_cases q : f = 53
  · rw [if_pos q]; exact q1
  rw [if_neg q]; clear q
  by_cases q : f = 54
  · rw [if_pos q]; exact q2
  rw [if_neg q]; clear q
  by_cases q : f = 55
  · rw [if_pos q]; exact q1
  rw [if_neg q]; clear q
  by_cases q : f = 56
  · rw [if_pos q]; exact q1
  rw [if_neg q]; clear q
  by_cases q : f = 57
  · rw [if_pos q]; exact q1
  rw [if_neg q]; clear q
  by_cases q : f = 58
  · rw [if_pos q]; exact q1
  rw [if_neg q]; clear q
  by_cases q : f = 59
  · rw [if_pos q]; exact q1
  rw [if_neg q]; clear q
  by_cases q : f = 60
  · rw [if_pos q]; exact q2
  rw [if_neg q]; clear q
  by_cases q : f = 61
  · rw [if_pos q]; exact q1
  rw [if_neg q]; clear q
  by_cases q : f = 62
  · rw [if_pos q]; exact q0
  rw [if_neg q]; clear q
  by_cases q : f = 63
  · rw [if_pos q]; exact q1
  rw [if_neg q]; clear q
  by_cases q : f = 64
  · rw [if_pos q]; exact q1
  rw [if_neg q]; clear q
  by_cases q : f = 65
  · rw [if_pos q]; exact q2
  rw [if_neg q]; clear q
  by_cases q : f = 66
  · rw [if_pos q]; exact q1
  rw [if_neg q]; clear q
  by_cases q : f = 67
  · rw [if_pos q]; exact q2
  rw [if_neg q]; clear q
  exact q0
/-- Of these kinds is what the provider keeps; where it is new, nothing else is told. -/
def KeptIn (S : Prov) (d : EvD) (r : Prov × List AcD) : Prop := r.1.K = S.K ∨ r.1.K = noPdu ∨ (r.1.K = d.p ∧ r.2 = [⟨1, 0, 0, zc, D0⟩])
theorem ev_kept (S : Prov) (d : EvD) : KeptIn S d (evS S d) := by
  unfold evS
  split
  · exact .inl rfl
  · unfold stepN actsN nextS KeptIn keptA
    simp only
    split
    · exact .inr (.inl rfl)
    · split
      · rename_i h
        refine .inr (.inr ⟨rfl, ?_⟩)
        unfold doesL
        rw [if_pos h]
      · split
        · exact .inr (.inl rfl)
        · exact .inl rfl
theorem do_kept {a : Int} {S : Prov} (d : EvD) (hI : InvS a S) : KeptIn S d (doS S d) := by
  unfold doS
  split
  · split
    · exact .inl rfl
    · rename_i h0
      have ht : Td S.sta := by
        by_cases ht : Td S.sta
        · exact ht
        · have := hI.off ht; omega
      split
      · have e := ev_exp (S := { S with left := 0 }) ht
        right; left
        rw [e.2]
      · exact .inl rfl
  · exact ev_kept S d
theorem do_zs (S : Prov) (d : EvD) : Zs (doS S d).2 := by
  have q0 : Zs [] := fun a h => absurd h List.not_mem_nil
  have hev : ∀ S d, Zs (evS S d).2 := fun S d => by
    unfold evS
    split
    · exact q0
    · exact does_zs _ _ _ _
  unfold doS
  split
  · split
    · exact q0
    · split
      · exact hev _ _
      · exact q0
  · exact hev _ _
/-- Fit to be compared and written over. -/
def Gd (c : Fin 18 → Value) (D : PdD) : Prop := TyC c ∧ Sml D
theorem sml0 : Sml D0 := ⟨⟨Nat.zero_le _, fun p h => absurd h List.not_mem_nil⟩, ⟨Nat.zero_le _, fun p h => absurd h List.not_mem_nil⟩, ⟨Nat.zero_le _, fun p h => absurd h List.not_mem_nil⟩, ⟨Nat.zero_le _, fun p h => absurd h List.not_mem_nil⟩⟩
theorem gd0 : Gd zc D0 := ⟨ty_zc, sml0⟩
theorem ev_gd {S : Prov} {d : EvD} (hK : Gd S.K.c S.K.D) (hp : Gd d.p.c d.p.D) (ha : Gd d.a.c d.a.D) : (∀ a ∈ (evS S d).2, Gd a.c a.D) ∧ Gd (evS S d).1.K.c (evS S d).1.K.D := by
  refine ⟨?_, ?_⟩
  · unfold evS
    split
    · exact fun a h => absurd h List.not_mem_nil
    · exact does_all Gd gd0 (fun r => ⟨ty_ab r, sml0⟩) _ _ hK hp ha
  · rcases ev_kept S d with h | h | ⟨h, -⟩ <;> rw [h]
    · exact hK
    · exact gd0
    · exact hp
theorem do_gd {S : Prov} {d : EvD} (hK : Gd S.K.c S.K.D) (hp : Gd d.p.c d.p.D) (ha : Gd d.a.c d.a.D) : (∀ a ∈ (doS S d).2, Gd a.c a.D) ∧ Gd (doS S d).1.K.c (doS S d).1.K.D := by
  unfold doS
  split
  · split
    · exact ⟨fun a h => absurd h List.not_mem_nil, hK⟩
    · split
      · exact ev_gd (S := { S with left := 0 }) (d := evD 18) hK gd0 gd0
      · exact ⟨fun a h => absurd h List.not_mem_nil, hK⟩
  · exact ev_gd hK hp ha
/-- What the document's provider keeps. -/
theorem rev_kept (S : Prov) (d : EvD) : (revS S d).1.K = S.K ∨ (revS S d).1.K = noPdu ∨ (revS S d).1.K = d.p := by
  unfold revS
  split
  · exact .inl rfl
  · unfold rStep
    simp only
    split
    · exact .inr (.inl rfl)
    · unfold rS
      simp only
      split
      · exact .inr (.inr rfl)
      · exact .inl rfl
theorem rdo_kept {a : Int} {S0 S : Prov} (d : EvD) (hI : InvS a S0) (hS : PSim S0 S) : (rdoS S d).1.K = S.K ∨ (rdoS S d).1.K = noPdu ∨ (rdoS S d).1.K = d.p := by
  unfold rdoS
  split
  · split
    · exact .inl rfl
    · rename_i h0
      have ht : Td S0.sta := by
        by_cases ht : Td S0.sta
        · exact ht
        · have := hI.off ht; have := hS.left; omega
      split
      · have h22 : actP S0.sta 18 = 22 := by rcases ht with h | h <;> rw [h] <;> decide +kernel
        have h22' : actR { S with left := 0 }.sta (evD 18).kd = 22 := by
          show actR S.sta 18 = 22
          rw [hS.sta, ← act_same]; exact h22
        have er : revS { S with left := 0 } (evD 18) = (⟨S.art, 0, 1, false, noPdu⟩, [shA]) := by
          unfold revS
          rw [h22', show refuB (evD 18).kd (evD 18).p.k (evD 18).bad (evD 18).a.k = false by kernel_rfl, if_neg (by decide)]
          rfl
        rw [er]
        exact .inr (.inl rfl)
      · exact .inl rfl
  · exact rev_kept S d
end Go.Proofs.YtiieikdbhpflgabDoor
