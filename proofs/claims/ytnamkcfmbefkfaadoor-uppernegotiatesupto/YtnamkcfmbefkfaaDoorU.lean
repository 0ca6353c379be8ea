import Derived.Test.YtnamkcfmbefkfaaDoorE
import Derived.Test.YtnamkcfmbefkfaaDoorG
import Derived.Test.YtnamkcfmbefkfaaDoorXn
import Derived.Test.YtnamkcfmbefkfaaDoorF
import Derived.Deep.Cut
import Derived.Shelf.Abstract
import Derived.Test.YtnamkcfmbefkfaaDoorQ
import Derived.Test.YtnamkcfmbefkfaaDoorRows
import Derived.Deep.MidRow
import Derived.ChangeArms
import Derived.SizedLaws
import Derived.OpenShut
namespace Go.Proofs.YtnamkcfmbefkfaaDoor
open Go Go.Proofs Go.RowKit
end Go.Proofs.YtnamkcfmbefkfaaDoor

namespace Go.Proofs.YtnamkcfmbefkfaaDoor
open Go Go.Proofs Go.RowKit
def SameC (c c' : Fin 18 → Value) : Prop := ∀ i, i ≠ 4 → i ≠ 12 → i ≠ 13 → i ≠ 17 → c' i = c i
theorem SameC.refl (c : Fin 18 → Value) : SameC c c := fun _ _ _ _ _ => rfl
theorem SameC.trans {a b c : Fin 18 → Value} (h : SameC a b) (h2 : SameC b c) : SameC a c := fun i h4 h12 h13 h17 => (h2 i h4 h12 h13 h17).trans (h i h4 h12 h13 h17)
structure KpD where
  k : Int
  c : Fin 18 → Value
  D : PdD
  F : Nat → Prop
end Go.Proofs.YtnamkcfmbefkfaaDoor

namespace Go.Proofs.YtnamkcfmbefkfaaDoor
open Go Go.Proofs Go.RowKit
end Go.Proofs.YtnamkcfmbefkfaaDoor

namespace Go.Proofs.YtnamkcfmbefkfaaDoor
open Go Go.Proofs Go.RowKit
end Go.Proofs.YtnamkcfmbefkfaaDoor

namespace Go.Proofs.YtnamkcfmbefkfaaDoor
open Go Go.Proofs Go.RowKit
end Go.Proofs.YtnamkcfmbefkfaaDoor

namespace Go.Proofs.YtnamkcfmbefkfaaDoor
open Go Go.Proofs Go.RowKit
end Go.Proofs.YtnamkcfmbefkfaaDoor

namespace Go.Proofs.YtnamkcfmbefkfaaDoor
open Go Go.Proofs Go.RowKit
theorem range_onX {w w' : World} {b o : Nat} {cs : List Value} (h : w.rangeAt b o cs) (hb : Below w.heap.size w w') : w'.rangeAt b o cs := fun j v hv => (hb.cell (cell_lt (h j v hv))).trans (h j v hv)
end Go.Proofs.YtnamkcfmbefkfaaDoor

namespace Go.Proofs.YtnamkcfmbefkfaaDoor
open Go Go.Proofs Go.RowKit
section
variable {H : Type} {enc : TypeId × Value → H} {W : World} {base : Nat} {spare : Nat → Bool} {held : Bool}
theorem bulk_pos : ∀ (d : DataW H), 1 ≤ Rows.uptoBulk d
  | .lit l => by cases l <;> simp [Rows.uptoBulk]
  | .nil => by simp [Rows.uptoBulk]
  | .ptr d => by simp [Rows.uptoBulk]
  | .slice a b => by simp [Rows.uptoBulk]
  | .agg a => by simp [Rows.uptoBulk]
  | .iface _ d => by simp [Rows.uptoBulk]
  | .map e => by simp [Rows.uptoBulk]
  | .held _ => by simp [Rows.uptoBulk]
theorem bulk_mem : ∀ {l : List (DataW H)} {i : Nat} {d : DataW H}, l[i]? = some d → Rows.uptoBulk d ≤ Rows.uptoBulkAll l
  | [], _, _, h => by simp at h
  | x :: l, 0, d, h => by simp at h; subst h; simp [Rows.uptoBulkAll]
  | x :: l, i + 1, d, h => by simp at h; have := bulk_mem h; simp only [Rows.uptoBulkAll]; omega
theorem bulk_len : ∀ (l : List (DataW H)), l.length ≤ Rows.uptoBulkAll l
  | [] => by simp [Rows.uptoBulkAll]
  | x :: l => by have := bulk_len l; have := bulk_pos x; simp only [Rows.uptoBulkAll, List.length_cons]; omega
def Rd (enc : TypeId × Value → H) (W : World) (base : Nat) (spare : Nat → Bool) (held : Bool) (t : TypeId) (cs : List Value) : Prop :=
  ∃ fuel d p, DataW.trod enc Tryd.prog W base spare held fuel t cs = some (d, p) ∧ Rows.uptoBulk d ≤ 1048576
theorem Rd.int {t : TypeId} {k : IntKind} {cs : List Value} (h : Rd enc W base spare held t cs) (ht : Tryd.prog.underlying t = some (.int k)) : ∃ z, cs = [.int k z] := by
  obtain ⟨f, d, p, h, _⟩ := h
  obtain ⟨z, hz, _⟩ := DataW.trod_int ht h
  exact ⟨z, hz⟩
theorem Rd.u8 {cs : List Value} (h : Rd enc W base spare held 5 cs) : ∃ z : Nat, z < 256 ∧ cs = [.int .u8 (z : Int)] := by
  obtain ⟨f, d, p, h, _⟩ := h
  obtain ⟨z, hz, _, hwf⟩ := DataW.trod_int Tryd.underlying5 h
  simp only [Lit.wf, Bool.and_eq_true, decide_eq_true_eq, show IntKind.u8.min = 0 from rfl, show IntKind.u8.max = 255 from rfl] at hwf
  exact ⟨z.toNat, by omega, by rw [hz, Int.toNat_of_nonneg (by omega)]⟩
theorem Rd.bool {t : TypeId} {cs : List Value} (h : Rd enc W base spare held t cs) (ht : Tryd.prog.underlying t = some .bool) : ∃ z, cs = [.bool z] := by
  obtain ⟨f, d, p, h, _⟩ := h
  obtain ⟨z, hz, _⟩ := DataW.trod_bool ht h
  exact ⟨z, hz⟩
theorem Rd.str {t : TypeId} {cs : List Value} (h : Rd enc W base spare held t cs) (ht : Tryd.prog.underlying t = some .string) : ∃ z, cs = [.string z] := by
  obtain ⟨f, d, p, h, _⟩ := h
  obtain ⟨z, hz, _⟩ := DataW.trod_string ht h
  exact ⟨z, hz⟩
theorem Rd.field {t : TypeId} {fs : Array Field} {cs : List Value} (h : Rd enc W base spare held t cs) (ht : Tryd.prog.underlying t = some (.struct fs)) (i : Nat) (f : Field) (hf : fs[i]? = some f) : Rd enc W base spare held f.type ((cs.drop f.offset).take (Tryd.prog.cellsOf f.type)) := by
  obtain ⟨fu, d, p, h, hw⟩ := h
  obtain ⟨xs, n, rfl, hx, hl, hxl, hall⟩ := DataW.trod_struct ht h
  have hi : i < fs.size := (Array.getElem?_eq_some_iff.1 hf).1
  obtain ⟨b, hb⟩ : ∃ b, xs[i]? = some b := ⟨xs[i]'(by omega), List.getElem?_eq_getElem (by omega)⟩
  have h1 := hall i f hf
  rw [hb] at h1
  refine ⟨n, b.1, b.2, h1, ?_⟩
  have hd : d = .agg (xs.map (·.1)) := congrArg Prod.fst hx
  subst hd
  simp only [Rows.uptoBulk] at hw
  have := bulk_mem (l := xs.map (·.1)) (i := i) (d := b.1) (by simp [hb])
  omega
theorem Rd.at {t ty : TypeId} {fs : Array Field} {cs : List Value} (h : Rd enc W base spare held t cs) (ht : Tryd.prog.underlying t = some (.struct fs)) (i o n : Nat) (hf : (fs[i]?).map (fun f => (f.type, f.offset)) = some (ty, o)) (hc : Tryd.prog.cellsOf ty = n) : Rd enc W base spare held ty ((cs.drop o).take n) := by
  obtain ⟨f, hf1, hf2⟩ := Option.map_eq_some_iff.1 hf
  simp only [Prod.mk.injEq] at hf2
  have := h.field ht i f hf1
  rw [hf2.1, hf2.2, hc] at this
  exact this
theorem c3 : Tryd.prog.cellsOf 3 = 1 := by kernel_rfl
theorem c4 : Tryd.prog.cellsOf 4 = 1 := by kernel_rfl
theorem c5 : Tryd.prog.cellsOf 5 = 1 := by kernel_rfl
theorem c9 : Tryd.prog.cellsOf 9 = 1 := by kernel_rfl
theorem c29 : Tryd.prog.cellsOf 22 = 1 := by kernel_rfl
theorem c31 : Tryd.prog.cellsOf 24 = 1 := by kernel_rfl
theorem c71 : Tryd.prog.cellsOf 34 = 1 := by kernel_rfl
theorem c102 : Tryd.prog.cellsOf 55 = 1 := by kernel_rfl
theorem c30 : Tryd.prog.cellsOf 23 = 1 := by kernel_rfl
theorem c32 : Tryd.prog.cellsOf 25 = 1 := by kernel_rfl
theorem c33 : Tryd.prog.cellsOf 26 = 1 := by kernel_rfl
theorem c38 : Tryd.prog.cellsOf 31 = 1 := by kernel_rfl
theorem c35 : Tryd.prog.cellsOf 28 = 9 := by kernel_rfl
theorem c37 : Tryd.prog.cellsOf 30 = 14 := by kernel_rfl
theorem Rd.slice {t e : TypeId} {m : Nat} {cs : List Value} (h : Rd enc W base spare held t cs) (ht : Tryd.prog.underlying t = some (.slice e)) (hm : Tryd.prog.cellsOf e = m) (hm0 : 0 < m) :
    ∃ ao n cap, cs = [.slice ao n cap] ∧ n ≤ 1048576 ∧ n ≤ cap ∧ (0 < n → ∃ b off, ao = some ⟨b, off, none⟩ ∧ ∀ i, i < n → ∃ es : List Value, es.length = m ∧ W.rangeAt b (off + i * m) es ∧ Rd enc W base spare held e es) := by
  obtain ⟨fu, d, p, h, hw⟩ := h
  rcases DataW.trod_slice ht h with ⟨rfl, _⟩ | ⟨a, len, cap, elems, rest, n, rfl, rfl, hx, hb, hlc, hcm, hel, hall, _, _⟩
  · exact ⟨none, 0, 0, rfl, by simp, by omega, fun h => by omega⟩
  · have hd : d = .slice (elems.map (·.1)) (rest.map (·.1)) := congrArg Prod.fst hx
    subst hd
    simp only [Rows.uptoBulk] at hw
    have hwl := bulk_len (elems.map (·.1))
    refine ⟨some a, len, cap, rfl, ?_, hlc, fun hn => ?_⟩
    · simp only [List.length_map] at hwl
      omega
    · rw [hm] at hall
      have hone : ∀ i, i < len → ∃ es x, W.cells? base (a.add (i * m)) m = some es ∧ DataW.trod enc Tryd.prog W base spare held n e es = some x ∧ elems[i]? = some x := fun i hi => by
        have h1 := hall i hi
        rw [List.getElem?_eq_getElem (by omega)] at h1
        obtain ⟨es, he, hx⟩ := Option.bind_eq_some_iff.1 h1
        exact ⟨es, _, he, hx, List.getElem?_eq_getElem (by omega)⟩
      obtain ⟨es0, x0, hc0, _, _⟩ := hone 0 hn
      obtain ⟨b, off, sp⟩ := a
      have hs : sp = none := by
        have h3 := World.cells?_some hc0
        have h4 := h3.2.2 0 hm0
        rw [List.getElem?_eq_getElem (by omega)] at h4
        have := World.cell?_spot h4
        simpa [Addr.add] using this
      subst hs
      refine ⟨b, off, rfl, fun i hi => ?_⟩
      obtain ⟨es, x, hc, hx, hei⟩ := hone i hi
      have h3 := World.cells?_some hc
      refine ⟨es, h3.2.1, fun j v hv => ?_, n, x.1, x.2, hx, ?_⟩
      · have hj : j < m := by have := (List.getElem?_eq_some_iff.1 hv).1; omega
        have h4 := h3.2.2 j hj
        rw [Addr.add_mid, Addr.add_mid] at h4
        exact h4.trans hv
      · have := bulk_mem (l := elems.map (·.1)) (i := i) (d := x.1) (by simp [hei])
        omega
theorem Rd.bytes {cs : List Value} (h : Rd enc W base spare held 55 cs) : ∃ v bs, cs = [v] ∧ V W v bs ∧ bs.length ≤ 1048576 := by
  obtain ⟨ao, n, cap, rfl, hb, hc, hel⟩ := h.slice Tryd.underlying55 (m := 1) (by kernel_rfl) (by omega)
  by_cases hn : 0 < n
  · obtain ⟨b, off, rfl, he⟩ := hel hn
    have hz : ∀ i, ∃ z : Nat, i < n → z < 256 ∧ W.cell? ⟨b, off + i, none⟩ = some (.int .u8 (z : Int)) := fun i => by
      by_cases hi : i < n
      · obtain ⟨es, _, hr, hd⟩ := he i hi
        obtain ⟨z, h1, rfl⟩ := hd.u8
        exact ⟨z, fun _ => ⟨h1, by have := hr 0 _ rfl; simpa using this⟩⟩
      · exact ⟨0, fun h => absurd h hi⟩
    obtain ⟨f, hf⟩ := Classical.axiomOfChoice hz
    refine ⟨_, (List.range n).map f, rfl, .inr ⟨b, off, cap, by simp, by simpa using hn, by simpa using hc, fun k hk => ?_, fun x hx => ?_⟩, by simpa using hb⟩
    · simp at hk
      rw [(hf k hk).2]
      simp [hk]
    · obtain ⟨i, hi, rfl⟩ := List.mem_map.1 hx
      exact (hf i (by simpa using hi)).1
  · obtain rfl : n = 0 := by omega
    exact ⟨_, [], rfl, .inl ⟨ao, cap, rfl, rfl⟩, by simp⟩
theorem Rd.ctx {cs : List Value} {b o : Nat} (h : Rd enc W base spare held 51 cs) (hl : cs.length = 4) (hr : W.rangeAt b o cs) : ECtx W b o := by
  match cs, hl with
  | [a0, a1, a2, a3], _ =>
    obtain ⟨x, _, h0⟩ := (h.at Tryd.underlying51 0 0 1 rfl c5 : Rd enc W base spare held 5 [a0]).u8
    obtain ⟨y, _, h1⟩ := (h.at Tryd.underlying51 1 1 1 rfl c5 : Rd enc W base spare held 5 [a1]).u8
    obtain ⟨s, h2⟩ := (h.at Tryd.underlying51 2 2 1 rfl c9 : Rd enc W base spare held 9 [a2]).str Tryd.underlying9
    obtain ⟨ao, m, cap, h3, hb, _, hel⟩ := (h.at Tryd.underlying51 3 3 1 rfl c71 : Rd enc W base spare held 34 [a3]).slice Tryd.underlying34 (m := 1) (by kernel_rfl) (by omega)
    simp only [List.drop_succ_cons, List.drop_zero, List.take_succ_cons, List.take_zero, List.cons.injEq, and_true] at h0 h1 h2 h3
    subst h0 h1 h2 h3
    refine ⟨x, y, s, _, m, by simpa using hr 0 _ rfl, hr 1 _ rfl, hr 2 _ rfl, hr 3 _ rfl, ⟨ao, cap, rfl, fun hm => ?_⟩, ?_⟩
    · obtain ⟨b2, off2, rfl, he⟩ := hel hm
      refine ⟨b2, off2, rfl, fun k hk => ?_⟩
      obtain ⟨es, _, hr2, hd⟩ := he k hk
      obtain ⟨z, rfl⟩ := hd.str Tryd.underlying9
      exact ⟨z, by have := hr2 0 _ rfl; simpa using this⟩
    · show m * 16 ≤ 140737488351232
      omega
theorem Rd.role {cs : List Value} {b o : Nat} (h : Rd enc W base spare held 54 cs) (hl : cs.length = 3) (hr : W.rangeAt b o cs) : ERole W b o := by
  match cs, hl with
  | [a0, a1, a2], _ =>
    obtain ⟨s, h0⟩ := (h.at Tryd.underlying54 0 0 1 rfl c9 : Rd enc W base spare held 9 [a0]).str Tryd.underlying9
    obtain ⟨x, _, h1⟩ := (h.at Tryd.underlying54 1 1 1 rfl c5 : Rd enc W base spare held 5 [a1]).u8
    obtain ⟨y, _, h2⟩ := (h.at Tryd.underlying54 2 2 1 rfl c5 : Rd enc W base spare held 5 [a2]).u8
    simp only [List.drop_succ_cons, List.drop_zero, List.take_succ_cons, List.take_zero, List.cons.injEq, and_true] at h0 h1 h2
    subst h0 h1 h2
    exact ⟨s, x, y, by simpa using hr 0 _ rfl, hr 1 _ rfl, hr 2 _ rfl⟩
theorem Rd.oth {cs : List Value} {b o : Nat} (h : Rd enc W base spare held 57 cs) (hl : cs.length = 2) (hr : W.rangeAt b o cs) : EOth W b o := by
  match cs, hl with
  | [a0, a1], _ =>
    obtain ⟨x, _, h0⟩ := (h.at Tryd.underlying57 0 0 1 rfl c5 : Rd enc W base spare held 5 [a0]).u8
    obtain ⟨v, bs, h1, hV, hb⟩ := (h.at Tryd.underlying57 1 1 1 rfl c102 : Rd enc W base spare held 55 [a1]).bytes
    simp only [List.drop_succ_cons, List.drop_zero, List.take_succ_cons, List.take_zero, List.cons.injEq, and_true] at h0 h1
    subst h0 h1
    exact ⟨x, a1, bs, by simpa using hr 0 _ rfl, hr 1 _ rfl, hV, Nat.le_trans hb (by decide)⟩
theorem Rd.pdv {cs : List Value} {b o : Nat} (h : Rd enc W base spare held 60 cs) (hl : cs.length = 4) (hr : W.rangeAt b o cs) : EPdv W b o := by
  match cs, hl with
  | [a0, a1, a2, a3], _ =>
    obtain ⟨x, _, h0⟩ := (h.at Tryd.underlying60 0 0 1 rfl c5 : Rd enc W base spare held 5 [a0]).u8
    obtain ⟨y, h1⟩ := (h.at Tryd.underlying60 1 1 1 rfl c4 : Rd enc W base spare held 4 [a1]).bool Tryd.underlying4
    obtain ⟨z, h2⟩ := (h.at Tryd.underlying60 2 2 1 rfl c4 : Rd enc W base spare held 4 [a2]).bool Tryd.underlying4
    obtain ⟨v, bs, h3, hV, hb⟩ := (h.at Tryd.underlying60 3 3 1 rfl c102 : Rd enc W base spare held 55 [a3]).bytes
    simp only [List.drop_succ_cons, List.drop_zero, List.take_succ_cons, List.take_zero, List.cons.injEq, and_true] at h0 h1 h2 h3
    subst h0 h1 h2 h3
    exact ⟨x, y, z, a3, bs, by simpa using hr 0 _ rfl, hr 1 _ rfl, hr 2 _ rfl, hr 3 _ rfl, hV, Nat.le_trans hb (by decide)⟩
theorem Rd.list {t e : TypeId} {st bytes : Nat} {E : World → Nat → Nat → Prop} {a : Value} (h : Rd enc W base spare held t [a]) (ht : Tryd.prog.underlying t = some (.slice e)) (hc : Tryd.prog.cellsOf e = st) (h0 : 0 < st) (hb : bytes ≤ 1048576)
    (hE : ∀ es b o, es.length = st → W.rangeAt b o es → Rd enc W base spare held e es → E W b o) : ∃ n, RdL W a n st E ∧ Fits n bytes := by
  obtain ⟨ao, n, cap, h1, hw, _, hel⟩ := h.slice ht hc h0
  simp only [List.cons.injEq, and_true] at h1
  subst h1
  refine ⟨n, ⟨ao, cap, rfl, fun hn => ?_⟩, Nat.le_trans (Nat.mul_le_mul hw hb) (by decide)⟩
  obtain ⟨b, off, rfl, he⟩ := hel hn
  refine ⟨b, off, rfl, fun k hk => ?_⟩
  obtain ⟨es, h1, h2, h3⟩ := he k hk
  exact hE es b _ h1 h2 h3
theorem one_slice {t e : TypeId} {st : Nat} {a : Value} (h : Rd enc W base spare held t [a]) (ht : Tryd.prog.underlying t = some (.slice e)) (hc : Tryd.prog.cellsOf e = st) (h0 : 0 < st) : a.oneCell' = true := by
  obtain ⟨ao, n, cap, h1, _⟩ := h.slice ht hc h0
  simp only [List.cons.injEq, and_true] at h1
  subst h1; rfl
theorem one_int {t : TypeId} {k : IntKind} {a : Value} (h : Rd enc W base spare held t [a]) (ht : Tryd.prog.underlying t = some (.int k)) : a.oneCell' = true := by
  obtain ⟨z, h1⟩ := h.int ht
  simp only [List.cons.injEq, and_true] at h1
  subst h1; rfl
theorem one_bool {t : TypeId} {a : Value} (h : Rd enc W base spare held t [a]) (ht : Tryd.prog.underlying t = some .bool) : a.oneCell' = true := by
  obtain ⟨z, h1⟩ := h.bool ht
  simp only [List.cons.injEq, and_true] at h1
  subst h1; rfl
theorem one_str {t : TypeId} {a : Value} (h : Rd enc W base spare held t [a]) (ht : Tryd.prog.underlying t = some .string) : a.oneCell' = true := by
  obtain ⟨z, h1⟩ := h.str ht
  simp only [List.cons.injEq, and_true] at h1
  subst h1; rfl
end
end Go.Proofs.YtnamkcfmbefkfaaDoor
