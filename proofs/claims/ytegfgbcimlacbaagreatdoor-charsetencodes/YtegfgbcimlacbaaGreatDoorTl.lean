
import Derived.Test.YtegfgbcimlacbaaGreatDoorTh
import Derived.Test.YtegfgbcimlacbaaGreatDoorUd
import Derived.Test.YtegfgbcimlacbaaGreatDoorTk
/-
  DERIVED. A rune put behind what is written, in the universal repertoire.
-/
namespace Go.Proofs.YtegfgbcimlacbaaGreatDoor
open Go Go.Proofs Go.RowKit

set_option maxRecDepth 100000 in
set_option maxHeartbeats 4000000 in
/-- In the universal repertoire. -/
theorem put_univ (w : World) (q : Nat) (v u : Value) (a : Row) (R : List Row) (x : Bool) (h : Row) (base : Nat) (out : List Int) (r : Int) (hr0 : -2147483648 ≤ r) (hr1 : r < 2147483648) (hset : SetIn w q v (a :: R) x) (hu : a.1 = 6)
    (hown : w.ownsRow base 5 1 u out.length (cellsZ out)) (hne : u = .slice none 0 0 ∨ 0 < out.length) (hlen : out.length ≤ 300000) (hbase : base ≤ w.heap.size) :
    Calls Tryz.prog 37 #[.pointer (some ⟨q, 0, none⟩), u, rowV h, .int .i32 r] w fun e w' => ∃ v', e = .returned (.tuple #[v', rowV h]) ∧ w'.ownsRow base 5 1 v' (out ++ Lib.encodeRuneZ r).length (cellsZ (out ++ Lib.encodeRuneZ r)) ∧ SetIn w' q v (a :: R) x ∧ KB (a :: R) base w w' := by
  obtain ⟨ua, uc, hue⟩ : ∃ ua uc, u = .slice ua out.length uc := by
    rcases hown.2 with ⟨rfl, h0⟩ | ⟨g, cap, cur, hv, _⟩
    · exact ⟨none, 0, by rw [h0]⟩
    · exact ⟨_, _, hv⟩
  have c37 := fun W hW => univ_any W q v a R x (hset.on hW)
  have hu6 : (a.1 == 6) = true := by simpa using hu
  rw [hu6] at c37
  obtain ⟨W1, hW1⟩ : ∃ W1, w.alloc (.cells #[.int .i64 (h.1 : Int), .string h.2.1, .string (sp (3 * h.1 + 2)), .func (.func (mfN h.1)) #[] #[], .func (.func 75) #[] (caps h.2.2)] 82) = W1 := ⟨_, rfl⟩
  obtain ⟨W2, hW2⟩ : ∃ W2, W1.alloc (.cells #[.int .i64 0, .string ⟨#[]⟩, .string ⟨#[]⟩, .nilFunc, .nilFunc] 82) = W2 := ⟨_, rfl⟩
  have hb1 : Below w.heap.size w W1 := hW1 ▸ (Below.refl _ _).alloc (Nat.le_refl _) _
  have hb2 : Below W1.heap.size W1 W2 := hW2 ▸ (Below.refl _ _).alloc (Nat.le_refl _) _
  have hb12 : Below w.heap.size w W2 := hb1.trans (hb2.mono hb1.size)
  have hs1 : W1.heap.size = w.heap.size + 1 := by rw [← hW1]; simp
  have hs2 : W2.heap.size = w.heap.size + 2 := by rw [← hW2]; simp; omega
  have hr1' : Row5 W1 w.heap.size 0 h := hW1 ▸ Row5.new w h
  have hr2 : Row5 W2 w.heap.size 0 h := hr1'.on hb2 (by omega)
  have hset2 := hset.on hb12
  have cU := c37 W2 hb12
  have hown2 := ownsRow_below hown hb12 (Nat.le_refl _)
  have hP : ∀ i, W2.frozen? ⟨w.heap.size + 1, i, none⟩ = false := fun i => by rw [← hW2, ← hs1]; simp
  have z0 : W2.cell? ⟨w.heap.size + 1, 0, none⟩ = some (.int .i64 0) := by rw [← hW2, ← hs1]; simp
  have z1 : W2.cell? ⟨w.heap.size + 1, 1, none⟩ = some (.string ⟨#[]⟩) := by rw [← hW2, ← hs1]; simp
  have z2 : W2.cell? ⟨w.heap.size + 1, 2, none⟩ = some (.string ⟨#[]⟩) := by rw [← hW2, ← hs1]; simp
  have z3 : W2.cell? ⟨w.heap.size + 1, 3, none⟩ = some .nilFunc := by rw [← hW2, ← hs1]; simp
  have z4 : W2.cell? ⟨w.heap.size + 1, 4, none⟩ = some .nilFunc := by rw [← hW2, ← hs1]; simp
  have HPW : Hid (PW w base q v a R x (w.heap.size + 1) w.heap.size h W2) := ⟨z0, z1, z2, z3, z4, hP, hr2, hset2, KB.of_below (hb12.mono hbase), by omega⟩
  subst hue
  have HSET : Hid _ := hset
  have HL0 : Hid (0 < (out ++ Lib.encodeRuneZ r).length) := by
    have := (Lib.encodeRuneZ_length r).1
    show _ < _
    rw [List.length_append]
    omega
  have HC55 : Hid (∀ X, Below W2.heap.size W2 X → Calls Tryz.prog 53 #[.slice ua out.length uc, .int .i32 r] X fun e w' => ∃ g c, e = .returned (.slice (some ⟨g, 0, none⟩) (out ++ Lib.encodeRuneZ r).length c) ∧ w'.ownsRow base 5 1 (.slice (some ⟨g, 0, none⟩) (out ++ Lib.encodeRuneZ r).length c) (out ++ Lib.encodeRuneZ r).length (cellsZ (out ++ Lib.encodeRuneZ r)) ∧ PW w base q v a R x (w.heap.size + 1) w.heap.size h w') := fun X hX => by
    have hoX := ownsRow_below hown2 hX (Nat.le_refl _)
    have hXs := hX.size
    refine (append_any base _ out.length (cellsZ out) r hr0 (by omega) X hoX (by omega) (by omega)).mono ?_
    rintro e w' ⟨v', rfl, hown5, o, hg5⟩
    have hp1 := HPW.out.below hX
    have hal : Below X.heap.size X (X.alloc o) := (Below.refl _ _).alloc (Nat.le_refl _) o
    have hp2 := hp1.below hal
    have hp3 := hp2.grown (World.ownsRow.alloc hoX _) hne hg5
    have e1 : (out ++ Lib.encodeRuneZ r).length = out.length + (Lib.runeCells r).length := by simp [Lib.runeCells]
    have e2 : cellsZ (out ++ Lib.encodeRuneZ r) = cellsZ out ++ Lib.runeCells r := by simp [cellsZ, Lib.runeCells]
    have ho5 : w'.ownsRow base 5 1 v' (out ++ Lib.encodeRuneZ r).length (cellsZ (out ++ Lib.encodeRuneZ r)) := by rw [e1, e2]; exact hown5
    obtain ⟨g, c, rfl⟩ : ∃ g c, v' = .slice (some ⟨g, 0, none⟩) (out ++ Lib.encodeRuneZ r).length c := by
      rcases ho5.2 with ⟨_, h0⟩ | ⟨g, cap, cur, hv, _⟩
      · have := HL0.out; omega
      · exact ⟨g, cap, hv⟩
    exact ⟨g, c, rfl, ho5, hp3⟩
  generalize out ++ Lib.encodeRuneZ r = out2 at *
  obtain ⟨n, hn⟩ : ∃ n, out.length = n := ⟨_, rfl⟩
  obtain ⟨n2, hn2⟩ : ∃ n2, out2.length = n2 := ⟨_, rfl⟩
  rw [hn] at HC55 ⊢
  rw [hn2] at HC55 ⊢
  have HN2 : Hid _ := hn2
  obtain ⟨y0, y1, y2, y3, y4⟩ := hr2
  unfold rowV
  unfold caps at hW1 y4 ⊢
  clear hset2 hown2 hset hb1 hb2 hb12 hr1' c37 hu hu6 hne hown hP z0 z1 z2 z3 z4 hn hn2
  go_enter Tryz.func37, Tryz.ntmps37
  go_wp2_with (first | (go_at_call 49; refine cU.mono ?_; rintro e W9 ⟨rfl, rfl⟩))
  go_region_law (go_simp; go_at_call 53; refine (HC55.out _ (by first | exact Below.refl _ _ | exact (Below.refl _ W2).drew)).mono ?_; rintro e W7 ⟨g7, c7, rfl, ho7, hp7⟩; have HP7 : Hid _ := hp7; have HO7 : Hid _ := ho7; obtain ⟨l0, l1, l2, l3, l4⟩ := HP7.out.r; unfold caps at l4; obtain ⟨m0, m1, m2, m3, m4, mf, -, -, -, -⟩ := hp7; clear ho7)
  all_goals
    have hrow := row_written h m0 m1 m2 m3 m4
    have hgrS := rowSet_grown W7 (w.heap.size + 1) h
    have HSU : Hid (SetIn (rowSet W7 (w.heap.size + 1) h) q v (a :: R) x) := by
      refine HP7.out.st.beside m0 ?_ ?_ (fun j hj hn => hgrS.block j hj (by simp; omega))
      · have := cell_lt HSET.out.c0
        simp only at this
        omega
      · intro g' hg'
        have := (HSET.out.own.lt g' hg').2
        omega
    have ho2 : W7.ownsRow base 5 1 (.slice (some ⟨g7, 0, none⟩) n2 c7) out2.length (cellsZ out2) := by rw [HN2.out]; exact HO7.out
    have HG7 := own_ne ho2 (.inr HL0.out) m0
    have HOU : Hid ((rowSet W7 (w.heap.size + 1) h).ownsRow base 5 1 (.slice (some ⟨g7, 0, none⟩) n2 c7) n2 (cellsZ out2)) := World.ownsRow.kept HO7.out hgrS (.inr (fun e => HG7 e.symm))
    have HKU : Hid (KB (a :: R) base w (rowSet W7 (w.heap.size + 1) h)) := HP7.out.kb.trans (KB.of_grown hgrS HP7.out.bs (fun r e => by cases e; omega))
    unfold rowSet caps at HSU HOU HKU
    unfold caps at hrow
    obtain ⟨u0, u1, u2, u3, u4⟩ := hrow
    clear hgrS m0 m1 m2 m3 m4 mf l0 l1 l2 l3 l4 HG7 ho2
    go_wp2
    exact bodyPost_ret (v := .tuple #[.slice (some ⟨g7, 0, none⟩) n2 c7, .agg #[.int .i64 (h.1 : Int), .string h.2.1, .string (sp (3 * h.1 + 2)), .func (.func (mfN h.1)) #[] #[], .func (.func 75) #[] #[.pointer (some ⟨h.2.2 + 1 + 1, 0, none⟩), .pointer (some ⟨h.2.2 + 1 + 1 + 1, 0, none⟩)]]]) (by simp only [results, Tryz.results37]; simp [go_sem, u0, u1, u2, u3, u4, caps]) rfl ⟨_, rfl, HOU.out, HSU.out, HKU.out⟩
end Go.Proofs.YtegfgbcimlacbaaGreatDoor

/-
  DERIVED. A rune put, in every set that New gives.
-/
namespace Go.Proofs.YtegfgbcimlacbaaGreatDoor
open Go Go.Proofs Go.RowKit

theorem put_all (q : Nat) (v : Value) (a : Row) (R : List Row) (x : Bool) (hC : Cond x a R) (hR6 : (a :: R).length ≤ 6) (hq : 5 < q) : PutOK q v a R x (Pz a R) := by
  intro w h u base out r hr0 hr1 hset hm hh hasc hT hown hne hlen hbase hfar
  obtain ⟨p1, p2, p3, p4⟩ := Pz_facts hC hm hasc hh
  refine ⟨?_, p1, p2, p3, p4⟩
  by_cases h6 : a.1 = 6
  · have hP : Pz a R h r = (Lib.encodeRuneZ r, h) := by unfold Pz; rw [if_pos h6]
    rw [hP]
    exact put_univ w q v u a R x h base out r (by omega) (by omega) hset h6 hown hne hlen hbase
  · obtain ⟨i, hi⟩ := List.mem_iff_getElem?.1 hm
    by_cases hb : byteOf h.1 r ≠ 0
    · have hP : Pz a R h r = ([(byteOf h.1 r : Int)], h) := by unfold Pz; rw [if_neg h6, if_pos hb]
      rw [hP]
      exact put_holds w q v u a R x h i base out r (by omega) (by omega) hset h6 hi (hC.n7 h hm) hb (byte_lt _ _) hT hq hown hne hlen hbase hfar
    · have hb0 : byteOf h.1 r = 0 := by omega
      obtain ⟨b, hbm, hfd, hbb⟩ := hasS_first h6 hasc hh
      have hP : Pz a R h r = (escZ b r, b) := by unfold Pz; rw [if_neg h6, if_neg hb, hfd]
      rw [hP]
      have hb6 : b.1 < 6 := by
        rcases Nat.lt_or_ge b.1 6 with h | h
        · exact h
        · have h7 := hC.n7 b hbm
          obtain ⟨d, _, h2, _, _⟩ := byteOf_at hbb
          have : b.1 = 6 := by omega
          rw [this] at h2
          exact absurd rfl h2
      exact put_first w q v u a R x h i base out r (by omega) (by omega) hset h6 hi (hC.n7 h hm) hb0 hR6 hC.n7 b hfd (esc_size ⟨b.1, hb6⟩) hT hq hown hne hlen hbase hfar
end Go.Proofs.YtegfgbcimlacbaaGreatDoor

/-
  DERIVED. There and back: the calls, in a world that stays.
-/
namespace Go.Proofs.YtegfgbcimlacbaaGreatDoor
open Go Go.Proofs Go.RowKit

theorem KB.to_below {R : List Row} {base n0 : Nat} {w w' : World} (h : KB R base w w') (hb : n0 ≤ base) (hr : ∀ r ∈ R, n0 ≤ r.2.2 + 1) : Below n0 w w' :=
  ⟨h.os, h.tape, h.output, h.size, fun j hj => h.block j (by omega) (fun r hm => by have := hr r hm; omega)⟩
structure Env (w : World) : Prop where
  sp : Spell w
  t : Tabs w
  k : Kinds w
theorem Env.on {w w' : World} (h : Env w) (hb : Below w.heap.size w w') : Env w' := ⟨h.sp.on hb, h.t.on hb, h.k.on hb⟩

/-- A set that New gave behind w, whatever was asked of it since. -/
structure Lw (w : World) (q : Nat) (u : Value) (a : Row) (R : List Row) (x : Bool) (W : World) : Prop where
  b : Below w.heap.size w W
  s : SetIn W q u (a :: R) x
  e : W.cell? ⟨q, 1, none⟩ = some (.bool x)
  q0 : w.heap.size ≤ q

section
variable {w W W' : World} {q : Nat} {u : Value} {a : Row} {R : List Row} {x : Bool}
theorem Lw.on (h : Lw w q u a R x W) (hb : Below W.heap.size W W') : Lw w q u a R x W' :=
  ⟨h.b.trans (hb.mono h.b.size), h.s.on hb, (hb.cell (p := ⟨q, 1, none⟩) (cell_lt h.e)).trans h.e, h.q0⟩
theorem Lw.far (h : Lw w q u a R x W) : ∀ r ∈ a :: R, w.heap.size ≤ r.2.2 + 1 ∧ q ≠ r.2.2 + 1 ∧ r.2.2 + 1 < W.heap.size := fun r hr => by
  have h1 := (h.s.st r hr).2
  have h2 := h.q0
  have h3 := cell_lt (h.s.st r hr).1.p3
  simp only at h3
  exact ⟨by omega, by omega, by omega⟩
theorem Lw.kb (h : Lw w q u a R x W) (hk : KB (a :: R) W.heap.size W W') (hs : SetIn W' q u (a :: R) x) : Lw w q u a R x W' :=
  ⟨h.b.trans (hk.to_below h.b.size (fun r hr => (h.far r hr).1)), hs, (World.cell?_of_block (hk.block q (cell_lt h.e) (fun r hr => (h.far r hr).2.1))).trans h.e, h.q0⟩
/-- Rows of our own stay, too. -/
theorem own_far (hk : KB (a :: R) W.heap.size W W') {B : Nat} {v : Value} {n : Nat} {xs : List Value} (ho : W.ownsRow B 5 1 v n xs) (hB : ∀ r ∈ a :: R, r.2.2 + 1 < B) : W'.ownsRow B 5 1 v n xs :=
  own_keep ho (fun g hg => hk.block g (ho.lt g hg).2 (fun r hr => by have := hB r hr; have := (ho.lt g hg).1; omega))

theorem arr_z (o : List Int) : arr (o.map Int.toNat) = bsZ o := by simp [arr, bsZ]
theorem own_z {B : Nat} {v : Value} {o : List Int} (h : W.ownsRow B 5 1 v o.length (cellsZ o)) (hz : ByteZ o) : V W v (o.map Int.toNat) := by
  have e1 : u8s (o.map Int.toNat) = cellsZ o := by
    unfold u8s cellsZ
    rw [List.map_map]
    refine List.map_congr_left fun z hzm => ?_
    have := hz z hzm
    show Value.int .u8 ((z.toNat : Nat) : Int) = _
    rw [Int.toNat_of_nonneg this.1]
  refine own_v (B := B) ?_ ?_
  · rw [e1, List.length_map]; exact h
  · intro y hy
    obtain ⟨z, hzm, rfl⟩ := List.mem_map.1 hy
    have := hz z hzm
    omega

/-- What Encode answers. -/
def EnAt (W' : World) (e : Ending) : Except (Nat × Int) (List Int) → Prop
  | .ok o => ∃ ao cap, e = .returned (.tuple #[.slice ao o.length cap, .nilIface]) ∧ V W' (.slice ao o.length cap) (o.map Int.toNat)
  | .error _ => ∃ g, e = .returned (.tuple #[.slice none 0 0, .iface 90 (.pointer (some ⟨g, 0, none⟩))])
theorem encL (h : Lw w q u a R x W) (he : Env w) (hR6 : (a :: R).length ≤ 6) (hC : Cond x a R) (k : Int) (s : ByteArray) :
    Calls Tryz.prog 5 #[.pointer (some ⟨q, 0, none⟩), .int .i64 k, .string s] W fun e w' => EnAt w' e (enS (Pz a R) a R k s) ∧ Lw w q u a R x w' ∧ KB (a :: R) W.heap.size W w' := by
  have h5 : 5 < w.heap.size := cell_lt (he.t.p2 0 (by decide))
  have hq5 : 5 < q := by have := h.q0; omega
  have hE := he.on h.b
  refine (encode_any W q u a R x k s (Pz a R) h.s hR6 hC.n7 hq5 hE.t hE.k (put_all q u a R x hC hR6 hq5)).mono ?_
  rintro e w' ⟨hk, hs, hF⟩
  refine ⟨?_, h.kb hk hs, hk⟩
  generalize enS (Pz a R) a R k s = F at hF ⊢
  cases F with
  | ok o =>
    obtain ⟨v', rfl, hown, hz, -⟩ := hF
    obtain ⟨ao, cap, rfl⟩ : ∃ ao cap, v' = .slice ao o.length cap := by
      rcases hown.2 with ⟨rfl, h0⟩ | ⟨g, cap, cur, hv, _⟩
      · exact ⟨none, 0, by rw [h0]⟩
      · exact ⟨_, _, hv⟩
    exact ⟨ao, cap, rfl, own_z hown hz⟩
  | error ic =>
    obtain ⟨i, c⟩ := ic
    obtain ⟨er, rfl, g, rfl, -⟩ := hF
    exact ⟨g, rfl⟩
theorem bytL {v1 v2 : Value} {l1 l2 : List Nat} (h1 : V W v1 l1) (h2 : V W v2 l2) (hl : l1.length ≤ 140737488351232) :
    Calls Tryz.prog 8 #[v1, v2] W fun e w' => e = .returned (.bool (decide (l1 = l2))) ∧ Below W.heap.size W w' := by
  refine (bytes_any h1 h2 hl).mono ?_
  rintro e w' ⟨rfl, m, rfl⟩
  exact ⟨rfl, rfl, rfl, rfl, Nat.le_refl _, fun _ _ => rfl⟩
end

/-- What New gives is as it must be. -/
theorem cond_of {T : List ByteArray} {N : List (Nat × ByteArray)} {x : Bool} (h : newS T = .inr (N, x)) {a : Row} {R : List Row} (hn : namesOf (a :: R) = N) : Cond x a R ∧ (a :: R).length ≤ 6 ∧ a.2.1 = wri x a.1 ∧ a.1 < 7 := by
  obtain ⟨hG, hN0, hN6⟩ := newS_good h
  obtain ⟨hnd, hsix⟩ := newS_apart h
  have hlen : (a :: R).length = N.length := by rw [← hn, names_len]
  have hmem : ∀ b ∈ a :: R, (b.1, b.2.1) ∈ N := fun b hb => by rw [← hn]; exact List.mem_map.2 ⟨b, hb, rfl⟩
  have h7 : ∀ b ∈ a :: R, b.1 < 7 := fun b hb => (hG _ (hmem b hb)).1
  refine ⟨⟨h7, ?_, ?_, ?_⟩, by omega, (hG _ (hmem a (by simp))).2, h7 a (by simp)⟩
  · have : (a :: R).map (·.1) = N.map (·.1) := by rw [← hn]; unfold namesOf; rw [List.map_map]; rfl
    rw [this]
    exact hnd
  · rintro rfl
    have h1 : N.length = 1 := by
      unfold newS at h
      split at h
      · simp at h
      · split at h
        · simp at h
          rw [← h]; rfl
        · rename_i h6 h0
          have hl := newL_len T T.length 0 [] false N false h
          simp at hl
          by_cases h1 : 1 < T.length
          · have hT : T ≠ [] := fun e => by rw [e] at h1; simp at h1
            have := (newL_many T.length h1 T 0 [] false N false (fun r hr => by simp at hr) (fun e => absurd e hT) h).1
            cases this
          · omega
    have : R.length = 0 := by rw [h1] at hlen; simpa using hlen
    exact List.eq_nil_of_length_eq_zero this
  · rintro rfl b hb
    have h1 := h7 b hb
    have h2 := newS_ext h _ (hmem b hb)
    simp only at h2
    omega
theorem wri_facts : ∀ (x : Bool) (k : Fin 7), 8 ≤ (wri x k.val).size ∧ ((wri x k.val).get! 3).toNat = (if x then 32 else 95) := by decide +kernel
end Go.Proofs.YtegfgbcimlacbaaGreatDoor
