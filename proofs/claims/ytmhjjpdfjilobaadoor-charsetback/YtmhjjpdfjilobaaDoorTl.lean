import Derived.Test.YtmhjjpdfjilobaaDoorTk
import Derived.Test.YtmhjjpdfjilobaaDoorTj
/-
  DERIVED. There and back: the calls, in a world that stays.
-/
namespace Go.Proofs.YtmhjjpdfjilobaaDoor
open Go Go.Proofs Go.RowKit

structure Env (w : World) : Prop where
  sp : Spell w
  t : Tabs w
  k : Kinds w
  u : ∀ w', Below w.heap.size w w' → Lib.Utf8Tabs 6 7 w'
theorem Env.on {w w' : World} (h : Env w) (hb : Below w.heap.size w w') : Env w' := ⟨h.sp.on hb, h.t.on hb, h.k.on hb, fun w'' hw => h.u w'' (hb.trans (hw.mono hb.size))⟩

/-- A set that New gave behind w, whatever was asked of it since. -/
structure Lw (w : World) (q : Nat) (u : Value) (a : Row) (R : List Row) (x : Bool) (W : World) : Prop where
  b : Below w.heap.size w W
  s : SetIn W q u (a :: R) x
  e : W.cell? ⟨q, 1, none⟩ = some (.bool x)
  q0 : w.heap.size ≤ q

section
variable {w W W' : World} {q : Nat} {u : Value} {a : Row} {R : List Row} {x : Bool}
theorem Lw.on (h : Lw w q u a R x W) (hb : Below W.heap.size W W') : Lw w q u a R x W' :=
  ⟨h.b.trans (hb.mono h.b.size), h.s.on hb, (hb.cell (p := ⟨q, 1, none⟩) (cell_lt h.e)).trans h.e, h.q0⟩
theorem Lw.far (h : Lw w q u a R x W) : ∀ r ∈ a :: R, w.heap.size ≤ r.2.2 + 1 ∧ q ≠ r.2.2 + 1 ∧ r.2.2 + 1 < W.heap.size := fun r hr => by
  have h1 := (h.s.st r hr).2
  have h2 := h.q0
  have h3 := cell_lt (h.s.st r hr).1.p3
  simp only at h3
  exact ⟨by omega, by omega, by omega⟩
theorem Lw.kb (h : Lw w q u a R x W) (hk : KB (a :: R) W.heap.size W W') (hs : SetIn W' q u (a :: R) x) : Lw w q u a R x W' :=
  ⟨h.b.trans (hk.to_below h.b.size (fun r hr => (h.far r hr).1)), hs, (World.cell?_of_block (hk.block q (cell_lt h.e) (fun r hr => (h.far r hr).2.1))).trans h.e, h.q0⟩
theorem Lw.t (h : Lw w q u a R x W) (he : Env w) : SetT W q u a R x := ⟨h.s, h.e, (he.on h.b).sp, (he.on h.b).t, (he.on h.b).k, (he.on h.b).u⟩
/-- Rows of our own stay, too. -/
theorem own_far (hk : KB (a :: R) W.heap.size W W') {B : Nat} {v : Value} {n : Nat} {xs : List Value} (ho : W.ownsRow B 5 1 v n xs) (hB : ∀ r ∈ a :: R, r.2.2 + 1 < B) : W'.ownsRow B 5 1 v n xs :=
  own_keep ho (fun g hg => hk.block g (ho.lt g hg).2 (fun r hr => by have := hB r hr; have := (ho.lt g hg).1; omega))

theorem decL (h : Lw w q u a R x W) (he : Env w) (hR6 : (a :: R).length ≤ 6) (hC : Cond x a R) (k : Int) {v : Value} {bs : List Nat} (hv : V W v bs) :
    Calls Tryd.prog 20 #[.pointer (some ⟨q, 0, none⟩), .int .i64 k, v] W fun e w' => ∃ er, e = .returned (.tuple #[.string (strF (dcS x a R k (arr bs))), er]) ∧ PErr w' er (errF (dcS x a R k (arr bs))) ∧ Below W.heap.size W w' :=
  decV (h.t he) hR6 hC.n7 k hv

theorem arr_z (o : List Int) : arr (o.map Int.toNat) = bsZ o := by simp [arr, bsZ]
theorem own_z {B : Nat} {v : Value} {o : List Int} (h : W.ownsRow B 5 1 v o.length (cellsZ o)) (hz : ByteZ o) : V W v (o.map Int.toNat) := by
  have e1 : u8s (o.map Int.toNat) = cellsZ o := by
    unfold u8s cellsZ
    rw [List.map_map]
    refine List.map_congr_left fun z hzm => ?_
    have := hz z hzm
    show Value.int .u8 ((z.toNat : Nat) : Int) = _
    rw [Int.toNat_of_nonneg this.1]
  refine own_v (B := B) ?_ ?_
  · rw [e1, List.length_map]; exact h
  · intro y hy
    obtain ⟨z, hzm, rfl⟩ := List.mem_map.1 hy
    have := hz z hzm
    omega

/-- What Encode answers. -/
def EnAt (W' : World) (e : Ending) : Except (Nat × Int) (List Int) → Prop
  | .ok o => ∃ ao cap, e = .returned (.tuple #[.slice ao o.length cap, .nilIface]) ∧ V W' (.slice ao o.length cap) (o.map Int.toNat)
  | .error _ => ∃ g, e = .returned (.tuple #[.slice none 0 0, .iface 91 (.pointer (some ⟨g, 0, none⟩))])
theorem encL (h : Lw w q u a R x W) (he : Env w) (hR6 : (a :: R).length ≤ 6) (hC : Cond x a R) (k : Int) (s : ByteArray) :
    Calls Tryd.prog 21 #[.pointer (some ⟨q, 0, none⟩), .int .i64 k, .string s] W fun e w' => EnAt w' e (enS (Pz a R) a R k s) ∧ Lw w q u a R x w' ∧ KB (a :: R) W.heap.size W w' := by
  have h5 : 5 < w.heap.size := cell_lt (he.t.p2 0 (by decide))
  have hq5 : 5 < q := by have := h.q0; omega
  have hE := he.on h.b
  refine (encode_any W q u a R x k s (Pz a R) h.s hR6 hC.n7 hq5 hE.t hE.k (put_all q u a R x hC hR6 hq5)).mono ?_
  rintro e w' ⟨hk, hs, hF⟩
  refine ⟨?_, h.kb hk hs, hk⟩
  generalize enS (Pz a R) a R k s = F at hF ⊢
  cases F with
  | ok o =>
    obtain ⟨v', rfl, hown, hz⟩ := hF
    obtain ⟨ao, cap, rfl⟩ : ∃ ao cap, v' = .slice ao o.length cap := by
      rcases hown.2 with ⟨rfl, h0⟩ | ⟨g, cap, cur, hv, _⟩
      · exact ⟨none, 0, by rw [h0]⟩
      · exact ⟨_, _, hv⟩
    exact ⟨ao, cap, rfl, own_z hown hz⟩
  | error ic =>
    obtain ⟨i, c⟩ := ic
    obtain ⟨er, rfl, g, rfl, -⟩ := hF
    exact ⟨g, rfl⟩
theorem termL (h : Lw w q u a R x W) (hR6 : (a :: R).length ≤ 6) : Calls Tryd.prog 9 #[.pointer (some ⟨q, 0, none⟩)] W fun e w' => ∃ g cap, e = .returned (.slice (some ⟨g, 0, none⟩) (R.length + 1) cap) ∧ w'.cell? ⟨g, 0, none⟩ = some (.string a.2.1) ∧ Below W.heap.size W w' := by
  refine (terms_in W q u a R x hR6 h.s).mono ?_
  rintro e w' ⟨v', rfl, hown, hb⟩
  obtain ⟨g, cap, rfl, -, -⟩ := hown.form (by simp)
  exact ⟨g, cap, rfl, by rw [hown.cellAt 0 (by simp)]; rfl, hb⟩
theorem bytL {v1 v2 : Value} {l1 l2 : List Nat} (h1 : V W v1 l1) (h2 : V W v2 l2) (hl : l1.length ≤ 140737488351232) :
    Calls Tryd.prog 22 #[v1, v2] W fun e w' => e = .returned (.bool (decide (l1 = l2))) ∧ Below W.heap.size W w' := by
  refine (bytes_any h1 h2 hl).mono ?_
  rintro e w' ⟨rfl, m, rfl⟩
  exact ⟨rfl, rfl, rfl, rfl, Nat.le_refl _, fun _ _ => rfl⟩
end

/-- What New gives is as it must be. -/
theorem cond_of {T : List ByteArray} {N : List (Nat × ByteArray)} {x : Bool} (h : newS T = .inr (N, x)) {a : Row} {R : List Row} (hn : namesOf (a :: R) = N) : Cond x a R ∧ (a :: R).length ≤ 6 ∧ a.2.1 = wri x a.1 ∧ a.1 < 7 := by
  obtain ⟨hG, hN0, hN6⟩ := newS_good h
  obtain ⟨hnd, hsix⟩ := newS_apart h
  have hlen : (a :: R).length = N.length := by rw [← hn, names_len]
  have hmem : ∀ b ∈ a :: R, (b.1, b.2.1) ∈ N := fun b hb => by rw [← hn]; exact List.mem_map.2 ⟨b, hb, rfl⟩
  have h7 : ∀ b ∈ a :: R, b.1 < 7 := fun b hb => (hG _ (hmem b hb)).1
  refine ⟨⟨h7, ?_, ?_, ?_⟩, by omega, (hG _ (hmem a (by simp))).2, h7 a (by simp)⟩
  · have : (a :: R).map (·.1) = N.map (·.1) := by rw [← hn]; unfold namesOf; rw [List.map_map]; rfl
    rw [this]
    exact hnd
  · rintro rfl
    have h1 : N.length = 1 := by
      unfold newS at h
      split at h
      · simp at h
      · split at h
        · simp at h
          rw [← h]; rfl
        · rename_i h6 h0
          have hl := newL_len T T.length 0 [] false N false h
          simp at hl
          by_cases h1 : 1 < T.length
          · have hT : T ≠ [] := fun e => by rw [e] at h1; simp at h1
            have := (newL_many T.length h1 T 0 [] false N false (fun r hr => by simp at hr) (fun e => absurd e hT) h).1
            cases this
          · omega
    have : R.length = 0 := by rw [h1] at hlen; simpa using hlen
    exact List.eq_nil_of_length_eq_zero this
  · rintro rfl b hb
    have h1 := h7 b hb
    have h2 := newS_ext h _ (hmem b hb)
    simp only at h2
    omega
theorem wri_facts : ∀ (x : Bool) (k : Fin 7), 8 ≤ (wri x k.val).size ∧ ((wri x k.val).get! 3).toNat = (if x then 32 else 95) := by decide +kernel
end Go.Proofs.YtmhjjpdfjilobaaDoor
