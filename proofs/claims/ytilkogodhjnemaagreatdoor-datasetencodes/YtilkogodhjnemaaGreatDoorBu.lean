import Derived.Test.YtilkogodhjnemaaGreatDoorDe
import Derived.Test.YtilkogodhjnemaaGreatDoorWN
import Derived.Test.YtilkogodhjnemaaGreatDoorBt
import Derived.Test.YtilkogodhjnemaaGreatDoorFz
import Derived.BigQuiet
/-
  DERIVED. The law of Formed.
-/
namespace Go.Proofs.YtilkogodhjnemaaGreatDoor
open Go Go.Proofs Go.RowKit
open Wk (Nd NV Lent TnI KO)

theorem PE.ko {g : Nat} {w w' : World} {v : Value} {r : Nat × Bool} (h : PE w v r) (hk : KO g w w') (hg : ∀ q, v = .iface 72 (.pointer (some ⟨q, 0, none⟩)) → q ≠ g) : PE w' v r := by
  rcases h with h | ⟨h1, q, h2, h3⟩
  · exact .inl h
  · refine .inr ⟨h1, q, h2, ?_⟩
    have hq := hg q h2
    have hb : w'.heap[q]? = w.heap[q]? := hk.block q (Tb.cell_lt h3.1) hq
    have e : ∀ i, w'.cell? ⟨q, i, none⟩ = w.cell? ⟨q, i, none⟩ := fun i => World.cell?_of_block hb
    exact ⟨(e 0).trans h3.1, (e 1).trans h3.2.1, (e 2).trans h3.2.2⟩
theorem NV.ko {g : Nat} {w w' : World} {a : Option Addr} {n cap : Nat} {L : List Nd} (h : NV w a n cap L) (hk : KO g w w') (hg : 0 < n → ∀ b off, a = some ⟨b, off, none⟩ → b ≠ g) : NV w' a n cap L :=
  ⟨h.len, h.room, h.small, fun hn => by
    obtain ⟨b, off, ha, hl⟩ := h.lies hn
    refine ⟨b, off, ha, fun i hi => ?_⟩
    obtain ⟨h0, h1, h2, h3⟩ := hl i hi
    have e : ∀ j, w'.cell? ⟨b, j, none⟩ = w.cell? ⟨b, j, none⟩ := fun j => World.cell?_of_block (hk.block b (Tb.cell_lt h0) (hg hn b off ha))
    exact ⟨(e _).trans h0, (e _).trans h1, (e _).trans h2, (e _).trans h3⟩, h.num⟩
theorem Wk.Lent.lt' {g base : Nat} {L : List Nd} {w : World} (h : Lent g L base w) : base ≤ g := (World.ownsRow.lt h g rfl).1
theorem Sh.tags {L Q : List Nd} (h : Wk.Sh L Q) (hT : TagsOk L) : TagsOk Q := by
  intro x hx
  obtain ⟨j, hj, rfl⟩ := List.getElem_of_mem hx
  have hj' : j < L.length := by rw [← h.1]; exact hj
  rw [(h.2 j hj' hj).1]
  exact hT _ (List.getElem_mem hj')
theorem Sh.num {L Q : List Nd} (h : Wk.Sh L Q) (hN : ∀ x ∈ L, -9223372036854775808 ≤ x.n ∧ x.n ≤ 9223372036854775807) : ∀ x ∈ Q, -9223372036854775808 ≤ x.n ∧ x.n ≤ 9223372036854775807 := by
  intro x hx
  obtain ⟨j, hj, rfl⟩ := List.getElem_of_mem hx
  have hj' : j < L.length := by rw [← h.1]; exact hj
  rw [(h.2 j hj' hj).2.2]
  exact hN _ (List.getElem_mem hj')
theorem nds_setN : ∀ (L : List Nd) (i : Nat) (h : i < L.length) (z : Int), (Wk.nds L).set (i * 4 + 2) (.int .i64 z) = Wk.nds (L.set i { (L[i]'h) with n := z })
  | a :: L, 0, h, z => by simp [Wk.nds, Nd.cs]
  | a :: L, i + 1, h, z => by
    have ih := nds_setN L i (by simpa using h) z
    rw [List.set_cons_succ, show Wk.nds (a :: L) = a.cs ++ Wk.nds L from rfl, show ∀ M, Wk.nds (a :: M) = a.cs ++ Wk.nds M from fun _ => rfl]
    rw [List.set_append_right _ _ (by simp [Nd.cs]; omega), show (i + 1) * 4 + 2 - a.cs.length = i * 4 + 2 by simp [Nd.cs]; omega, ih]
    rfl
theorem Lent.setN {g base : Nat} {L : List Nd} {w : World} (h : Lent g L base w) {i : Nat} (hi : i < L.length) (z : Int) : Lent g (L.set i { (L[i]'hi) with n := z }) base (w.setCell ⟨g, i * 4 + 2, none⟩ (.int .i64 z)) := by
  have h1 := (World.ownsRow.stored h (i * 4 + 2) (.int .i64 z)).1
  rw [nds_setN (L ++ [Wk.mrk]) i (by simp; omega) z, List.getElem_append_left hi, List.set_append_left _ _ hi] at h1
  unfold Lent
  rw [List.length_set]
  exact h1
theorem own_nv {w : World} {base g n c : Nat} {Q : List Nd} (h : w.ownsRow base 47 4 (.slice (some ⟨g, 0, none⟩) n c) n (Wk.nds Q)) (hn : n = Q.length) (hs : n ≤ 3518437208780) (hz : ∀ x ∈ Q, -9223372036854775808 ≤ x.n ∧ x.n ≤ 9223372036854775807) : NV w (some ⟨g, 0, none⟩) n c Q := by
  refine ⟨hn, Wk.own_cap h, hs, fun _ => ⟨g, 0, rfl, fun i hi => ?_⟩, hz⟩
  have hg : ∀ k, k < 4 → w.cell? ⟨g, 0 + i * 4 + k, none⟩ = ((Q[i]'hi).cs)[k]? := fun k hk => by
    rw [Nat.zero_add]
    refine (World.ownsRow.cellAt h (i * 4 + k) (by omega)).trans ?_
    exact Wk.nds_get Q i hi k hk
  exact ⟨hg 0 (by decide), hg 1 (by decide), hg 2 (by decide), hg 3 (by decide)⟩
theorem setN_tags {L : List Nd} {k : Nat} (h : k < L.length) (z : Int) (hT : TagsOk L) : TagsOk (L.set k { (L[k]'h) with n := z }) := by
  intro x hx
  rcases List.mem_or_eq_of_mem_set hx with hx | rfl
  · exact hT x hx
  · have := hT _ (List.getElem_mem h)
    exact this
theorem setN_num {L : List Nd} {k : Nat} (h : k < L.length) (z : Int) (hz : -9223372036854775808 ≤ z ∧ z ≤ 9223372036854775807) (hN : ∀ x ∈ L, -9223372036854775808 ≤ x.n ∧ x.n ≤ 9223372036854775807) : ∀ x ∈ L.set k { (L[k]'h) with n := z }, -9223372036854775808 ≤ x.n ∧ x.n ≤ 9223372036854775807 := by
  intro x hx
  rcases List.mem_or_eq_of_mem_set hx with hx | rfl
  · exact hN x hx
  · exact hz

/-- What the law has in memory: the list that came in, the copy that was lent, the error that was told of it. -/
structure LawI (w : World) (a : Option Addr) (n cap g : Nat) (ve : Value) (L Q : List Nd) (W : World) : Prop where
  nv : NV W a n cap L
  old : 0 < n → ∀ b off, a = some ⟨b, off, none⟩ → b < g
  lent : Lent g Q w.heap.size W
  len : Q.length = n
  tg : TagsOk Q
  num : ∀ x ∈ Q, -9223372036854775808 ≤ x.n ∧ x.n ≤ 9223372036854775807
  pe : PE W ve (res L)
  be : Below w.heap.size w W
theorem LawI.on {w : World} {a : Option Addr} {n cap g : Nat} {ve : Value} {L Q : List Nd} {W W' : World} (h : LawI w a n cap g ve L Q W) (hb : Below W.heap.size W W') : LawI w a n cap g ve L Q W' :=
  ⟨h.nv.on hb, h.old, h.lent.keep (hb.block g h.lent.lt), h.len, h.tg, h.num, h.pe.on hb, h.be.trans (hb.mono h.be.size)⟩
theorem LawI.lnv {w : World} {a : Option Addr} {n cap g : Nat} {ve : Value} {L Q : List Nd} {W : World} (h : LawI w a n cap g ve L Q W) : NV W (some ⟨g, 0, none⟩) n (n + 1) Q := by
  have := h.lent.nv (by rw [h.len]; exact h.nv.small) h.num
  rw [h.len] at this
  exact this
theorem Lent.first {g base : Nat} {L : List Nd} {w : World} (h : Lent g L base w) : ∃ z, w.cell? ⟨g, 0, none⟩ = some (.int .u32 z) := by
  have h1 := World.ownsRow.cellAt h 0 (by omega)
  rw [h1]
  cases L with
  | nil => exact ⟨_, rfl⟩
  | cons a r => exact ⟨_, rfl⟩
theorem PE.apart {w : World} {v : Value} {r : Nat × Bool} {g : Nat} {z : Int} (h : PE w v r) (hz : w.cell? ⟨g, 0, none⟩ = some (.int .u32 z)) : ∀ q, v = .iface 72 (.pointer (some ⟨q, 0, none⟩)) → q ≠ g := by
  rintro q rfl rfl
  rcases h with ⟨_, h⟩ | ⟨_, q', h2, h3⟩
  · cases h
  · cases h2
    have := h3.1
    rw [hz] at this
    cases this
theorem setCell_ko (w : World) (g i : Nat) (v : Value) : KO g w (w.setCell ⟨g, i, none⟩ v) := ⟨rfl, rfl, rfl, by simp, fun k _ hk => Below.heap_setCell w _ _ k hk⟩

/-- And the list of its own that was told. -/
def LawO (w : World) (a : Option Addr) (n cap g : Nat) (ve : Value) (L : List Nd) (b2 : Nat) (ao : Option Addr) (c2 : Nat) (W : World) : Prop :=
  ∃ Q, LawI w a n cap g ve L Q W ∧ W.ownsRow b2 47 4 (.slice ao n c2) n (Wk.nds Q) ∧ g < b2
theorem LawO.on {w : World} {a : Option Addr} {n cap g : Nat} {ve : Value} {L : List Nd} {b2 : Nat} {ao : Option Addr} {c2 : Nat} {W W' : World} (h : LawO w a n cap g ve L b2 ao c2 W) (hb : Below W.heap.size W W') : LawO w a n cap g ve L b2 ao c2 W' := by
  obtain ⟨Q, h1, h2, h3⟩ := h
  exact ⟨Q, h1.on hb, Wk.ownsRow_below h2 hb (Nat.le_refl _), h3⟩
theorem LawO.both {w : World} {a : Option Addr} {n cap g : Nat} {ve : Value} {L : List Nd} {b2 : Nat} {ao : Option Addr} {c2 : Nat} {W : World} (h : LawO w a n cap g ve L b2 ao c2 W) : ∃ Q, TagsOk Q ∧ NV W (some ⟨g, 0, none⟩) n (n + 1) Q ∧ NV W ao n c2 Q ∧ NV W a n cap L ∧ PE W ve (res L) := by
  obtain ⟨Q, h1, h2, h3⟩ := h
  refine ⟨Q, h1.tg, h1.lnv, ?_, h1.nv, h1.pe⟩
  rcases h2.2 with ⟨hv, hn⟩ | ⟨g2, cp, cur, hv, -⟩
  · cases hv
    exact ⟨h1.len.symm, Nat.le_refl _, by omega, fun h => absurd h (by omega), h1.num⟩
  · cases hv
    exact own_nv h2 h1.len.symm h1.nv.small h1.num
theorem LawO.bump {w : World} {a : Option Addr} {n cap g : Nat} {ve : Value} {L : List Nd} {b2 : Nat} {ao : Option Addr} {c2 : Nat} {W : World} (h : LawO w a n cap g ve L b2 ao c2 W) {i : Nat} (hi : i < n) :
    ∃ (g2 : Nat) (z : Int), ao = some ⟨g2, 0, none⟩ ∧ g ≠ g2 ∧ n ≤ c2 ∧ W.cell? ⟨g, i * 4 + 2, none⟩ = some (.int .i64 z) ∧ W.cell? ⟨g2, i * 4 + 2, none⟩ = some (.int .i64 z) ∧ W.frozen? ⟨g, i * 4 + 2, none⟩ = false ∧ W.frozen? ⟨g2, i * 4 + 2, none⟩ = false ∧
      ∀ y, -9223372036854775808 ≤ y ∧ y ≤ 9223372036854775807 → LawO w a n cap g ve L b2 ao c2 ((W.setCell ⟨g, i * 4 + 2, none⟩ (.int .i64 y)).setCell ⟨g2, i * 4 + 2, none⟩ (.int .i64 y)) := by
  obtain ⟨Q, h1, h2, h3⟩ := h
  obtain ⟨g2, rfl⟩ : ∃ g2, ao = some ⟨g2, 0, none⟩ := by
    rcases h2.2 with ⟨hv, hn⟩ | ⟨g2, cp, cur, hv, -⟩
    · omega
    · cases hv; exact ⟨g2, rfl⟩
  have hg2 := (h2.lt g2 rfl).1
  have hg2l := (h2.lt g2 rfl).2
  have hiq : i < Q.length := by rw [h1.len]; exact hi
  have hlen := h1.len
  have e1 : W.cell? ⟨g, i * 4 + 2, none⟩ = some (.int .i64 (Q[i]'hiq).n) := by
    refine (World.ownsRow.cellAt h1.lent (i * 4 + 2) (by omega)).trans ?_
    rw [Wk.nds_get (Q ++ [Wk.mrk]) i (by simp; omega) 2 (by decide), List.getElem_append_left hiq]
    rfl
  have e2 : W.cell? ⟨g2, i * 4 + 2, none⟩ = some (.int .i64 (Q[i]'hiq).n) := by
    refine (World.ownsRow.cellAt h2 (i * 4 + 2) (by omega)).trans ?_
    rw [Wk.nds_get Q i hiq 2 (by decide)]
    rfl
  obtain ⟨z0, hz0⟩ := Lent.first h1.lent
  have e3 : ∃ z, W.cell? ⟨g2, 0, none⟩ = some (.int .u32 z) := by
    have h0 := World.ownsRow.cellAt h2 0 (by omega)
    rw [h0]
    cases Q with
    | nil => simp at hiq
    | cons q r => exact ⟨_, rfl⟩
  obtain ⟨z3, hz3⟩ := e3
  refine ⟨g2, (Q[i]'hiq).n, rfl, by omega, Wk.own_cap h2, e1, e2, World.ownsRow.frozenAt h1.lent _, World.ownsRow.frozenAt h2 _, fun y hy => ?_⟩
  have k1 := setCell_ko W g (i * 4 + 2) (.int .i64 y)
  have k2 := setCell_ko (W.setCell ⟨g, i * 4 + 2, none⟩ (.int .i64 y)) g2 (i * 4 + 2) (.int .i64 y)
  have l1 := Lent.setN h1.lent hiq y
  have hz3' : (W.setCell ⟨g, i * 4 + 2, none⟩ (.int .i64 y)).cell? ⟨g2, 0, none⟩ = some (.int .u32 z3) := (World.cell?_of_block (k1.block g2 hg2l (by omega))).trans hz3
  have o1 : (W.setCell ⟨g, i * 4 + 2, none⟩ (.int .i64 y)).ownsRow b2 47 4 (.slice (some ⟨g2, 0, none⟩) n c2) n (Wk.nds Q) := Wk.own_keep h2 (fun g' hg' => by cases hg'; exact k1.block g2 hg2l (by omega))
  have o2 := (World.ownsRow.stored o1 (i * 4 + 2) (.int .i64 y)).1
  rw [nds_setN Q i hiq y] at o2
  have hgl := h1.lent.lt
  refine ⟨_, ⟨?_, h1.old, Wk.Lent.keep l1 (k2.block g (by simpa using hgl) (by omega)), by rw [List.length_set]; exact h1.len, setN_tags hiq y h1.tg, setN_num hiq y hy h1.num, ?_, ?_⟩, o2, h3⟩
  · exact NV.ko (NV.ko h1.nv k1 (fun hn b off e => by have := h1.old hn b off e; omega)) k2 (fun hn b off e => by have := h1.old hn b off e; omega)
  · exact (h1.pe.ko k1 (h1.pe.apart hz0)).ko k2 ((h1.pe.ko k1 (h1.pe.apart hz0)).apart hz3')
  · have hwg : w.heap.size ≤ g := h1.lent.lt'
    exact (h1.be.setCell (p := ⟨g, i * 4 + 2, none⟩) hwg _).setCell (p := ⟨g2, i * 4 + 2, none⟩) (by show w.heap.size ≤ g2; omega) _
end Go.Proofs.YtilkogodhjnemaaGreatDoor

/-
  DERIVED. What the law of Encode wants: bytes held against bytes, refusals, rows that share nothing.
-/
namespace Go.Proofs.YtilkogodhjnemaaGreatDoor
open Go Go.Proofs Go.RowKit
open Wk (Nd NV Lent TnI KO)

theorem Ob.form {base : Nat} {w : World} {u : Value} {ys : List UInt8} (h : Ob base w u ys) : ∃ (a : Option Addr) (c : Nat), u = .slice a ys.length c ∧ (0 < ys.length → ∃ g, a = some ⟨g, 0, none⟩ ∧ ∀ k (hk : k < ys.length), w.cell? ⟨g, k, none⟩ = some (.int .u8 ((ys[k]'hk).toNat : Int))) := by
  rcases h.2 with ⟨rfl, he⟩ | ⟨g, c, cur, rfl, -⟩
  · exact ⟨none, 0, by rw [he], fun q => by omega⟩
  · refine ⟨_, c, rfl, fun _ => ⟨g, rfl, fun k hk => ?_⟩⟩
    refine (World.ownsRow.cellAt h k (by omega)).trans ?_
    show (bvs ys)[k]? = _
    unfold bvs
    rw [List.getElem?_map, List.getElem?_eq_getElem hk]
    rfl
set_option maxRecDepth 100000 in
set_option maxHeartbeats 1000000 in
theorem bytes_same (w : World) (b1 b2 : Nat) (u v : Value) (ys : List UInt8) (h1 : Ob b1 w u ys) (h2 : Ob b2 w v ys) (hl : ys.length ≤ 4000000) : Calls Tryz.prog 9 #[u, v] w fun e w' => e = .returned (.bool true) ∧ Hid (Below w.heap.size w w') := by
  obtain ⟨a1, c1, rfl, f1⟩ := h1.form
  obtain ⟨a2, c2, rfl, f2⟩ := h2.form
  obtain ⟨n, hn⟩ : ∃ n, ys.length = n := ⟨_, rfl⟩
  have HN : Hid (ys.length = n) := hn
  rw [hn] at hl ⊢
  have F1 : Hid _ := f1
  have F2 : Hid _ := f2
  clear h1 h2 hn f1 f2
  go_enter Tryz.func9, Tryz.ntmps9
  go_wp2
  go_loopw [5] (fun s5 wx => ∃ i : Nat, s5 = .int .i64 (i : Int) ∧ i ≤ n ∧ ∃ m, wx = w.drewN m) (fun s5 _ => n - (intOf s5).toNat)
  case atStart => exact ⟨0, rfl, by omega, 0, rfl⟩
  case round =>
    obtain ⟨i, rfl, hi22, m, rfl⟩ := hrel
    by_cases hin : i < n
    · obtain ⟨g1, rfl, k1⟩ := F1.out (by rw [HN.out]; omega)
      obtain ⟨g2, rfl, k2⟩ := F2.out (by rw [HN.out]; omega)
      have hil : i < ys.length := by rw [HN.out]; exact hin
      have d1 := k1 i hil
      have d2 := k2 i hil
      generalize ys[i]'hil = q at d1 d2
      have hI : (i : Int) < (n : Int) := by omega
      clear k1 k2
      go_wp2
      go_quiet (fail)
      go_wp2
      go_roundw
      case rel => exact ⟨i + 1, by go_num, by omega, _, rfl⟩
      case measure => simp [intOf]; omega
    · obtain rfl : i = n := by omega
      have hI : ¬ (i : Int) < (i : Int) := by omega
      go_wp2
      go_ret
      exact ⟨rfl, Wk.below_drw (Below.refl _ _) _⟩
theorem is_both {w : World} {ve vf : Value} {s : Int} {L : List Nd} (h1 : PErr w ve (errOf s L)) (h2 : RErr2 w vf (errOf s L)) : Calls Tryz.prog 8 #[ve, vf] w fun e w' => e = .returned (.bool true) ∧ Below w.heap.size w w' := by
  rcases h1 with ⟨a1, rfl⟩ | ⟨ls, c, a1, hc⟩ <;> rcases h2 with ⟨a2, rfl⟩ | ⟨ls', c', g, cg, a2, rfl, hl⟩
  · exact Rp.is_nil w
  · rw [a1] at a2; cases a2
  · rw [a1] at a2; cases a2
  · rw [a1] at a2
    cases a2
    obtain ⟨e1, e2, e3⟩ := err_code a1
    exact is_chain w ls c ve g cg ls.length hc e1 rfl e2 (by omega) hl
theorem some_zero : SomeC 0 :=
  some_step 0 (by decide) fun _ => some_step 1 (by decide) fun _ => some_step 2 (by decide) fun _ => some_step 3 (by decide) fun _ => some_step 4 (by decide) fun h => absurd h (by decide)
theorem lat {w w' w'' : World} (h : Below w.heap.size w w') (h2 : Below w'.heap.size w' w'') : Below w.heap.size w w'' := h.trans (h2.mono h.size)
/-- Rows of our own stay where another row is written over. -/
theorem own_ko {g : Nat} {w w' : World} {b : Nat} {u : Value} {ys : List UInt8} (h : Ob b w u ys) (hk : KO g w w') (hb : g < b) : Ob b w' u ys :=
  Wk.own_keep h (fun g' hg' => by have := h.lt g' hg'; exact hk.block g' this.2 (by omega))
theorem out_le (s : Int) (L : List Nd) : (outB s L).length = siz s L ∧ siz s L ≤ 1048576 := by
  unfold outB siz
  rcases he : errOf s L with _ | x
  · simp only [Option.isSome_none]
    unfold errOf at he
    split at he
    · cases he
    · split at he
      · cases he
      · rename_i hr
        split at he
        · cases he
        · rename_i hl
          have hr2 : (res L).2 = true := by simpa using hr
          have h2 := wr_len (decide (s = 2)) L.length L (Nat.le_refl _) (res_good hr2)
          refine ⟨?_, ?_⟩
          · exact h2
          · rw [if_neg (by decide)]; exact Nat.le_of_not_lt hl
  · simp
theorem PErr.form {w : World} {v : Value} {s : Int} {L : List Nd} (h : PErr w v (errOf s L)) : v = .nilIface ∨ ∃ q, v = .iface 72 (.pointer (some ⟨q, 0, none⟩)) := by
  rcases h with ⟨-, h⟩ | ⟨ls, c, h, hc⟩
  · exact .inl h
  · obtain ⟨e1, e2, -⟩ := err_code h
    cases ls with
    | nil => simp at e2
    | cons x r => obtain ⟨q, u, h, -⟩ := hc; exact .inr ⟨q, h⟩
theorem RErr2.form {w : World} {v : Value} {o : Option (List Lk × Int)} (h : RErr2 w v o) : ∃ (a : Option Addr) (m c : Nat) (k : Int), v = .agg #[.slice a m c, .int .i64 k] := by
  rcases h with ⟨-, h⟩ | ⟨ls, c, g, cg, -, h, -⟩
  · exact ⟨_, _, _, _, h⟩
  · exact ⟨_, _, _, _, h⟩
theorem bvs_u8 (ys : List UInt8) : bvs ys = Fr.u8s (ys.map UInt8.toNat) := by
  unfold bvs Fr.u8s
  rw [List.map_map]
  rfl
/-- Five rows, each in memory of its own. -/
theorem free5 (w : World) (B G cap : Nat) (us : Fin 5 → Value) (ys : Fin 5 → List UInt8) (h : ∀ i, Ob B w (us i) (ys i)) (hl : ∀ i, (ys i).length ≤ 4000000) (hc : ∀ i, w.cell? ⟨G, i.val, none⟩ = some (us i)) (hB : B ≤ w.heap.size)
    (hap : ∀ i j, i ≠ j → ∀ g, (us i).ownBlock = some g → (us j).ownBlock ≠ some g) (hfar : ∀ i, (us i).ownBlock ≠ some G) :
    Calls Tryz.prog 12 #[.slice (some ⟨G, 0, none⟩) 5 cap] w fun e w' => e = .returned (.bool true) ∧ Fr.KR 5 (fun i => if h : i < 5 then us ⟨i, h⟩ else .nilIface) w w' := by
  have hb : ∀ i (hi : i < 5), (if h : i < 5 then us ⟨i, h⟩ else .nilIface) = us ⟨i, hi⟩ := fun i hi => dif_pos hi
  refine Fr.free_any w 5 G B cap (fun i => if h : i < 5 then us ⟨i, h⟩ else .nilIface) (fun i => if h : i < 5 then (ys ⟨i, h⟩).length else 0) (fun i => if h : i < 5 then (ys ⟨i, h⟩).map UInt8.toNat else []) ⟨by decide, fun i hi => ?_, fun i hi => ?_, fun i j hi hj hij g => ?_, fun i hi => ?_⟩ ⟨fun i hi => ?_, fun i hi => ?_, Fr.KR.refl _ _ _⟩ (fun i hi => ?_) hB
  · simp only [dif_pos hi]
    obtain ⟨a, c, h1, h2⟩ := (h ⟨i, hi⟩).form
    exact ⟨a, c, h1, fun q => by obtain ⟨g, h3, -⟩ := h2 q; exact ⟨g, h3⟩⟩
  · simp only [dif_pos hi]
    exact hl _
  · simp only [dif_pos hi, dif_pos hj]
    exact hap _ _ (fun e => hij (by simpa using e)) g
  · simp only [dif_pos hi]
    exact hfar _
  · simp only [dif_pos hi]
    exact hc ⟨i, hi⟩
  · simp only [dif_pos hi]
    rw [List.length_map]
    have := h ⟨i, hi⟩
    unfold Ob at this
    rw [bvs_u8] at this
    exact this
  · simp only [dif_pos hi]
    rw [List.length_map]
end Go.Proofs.YtilkogodhjnemaaGreatDoor
