import Derived.Test.YtiieikdbhpflgabDoorXd
import Derived.Laws.AppendOwnNone
/-
  DERIVED. fresh: a list in new memory, cell by cell.
-/
namespace Go.Proofs.YtiieikdbhpflgabDoor
open Go Go.Proofs Go.RowKit

/-- A slice, cell by cell. -/
def Flat (w : World) (v : Value) (n st : Nat) (xs : List Value) : Prop :=
  xs.length = n * st ∧ NoCap v ∧ (∀ u ∈ xs, u.oneCell' = true) ∧ ∃ ao cap, v = .slice ao n cap ∧ (0 < n → ∃ b off, ao = some ⟨b, off, none⟩ ∧ ∀ j u, xs[j]? = some u → w.cell? ⟨b, off + j, none⟩ = some u)
theorem Flat.on {w w' : World} {v : Value} {n st : Nat} {xs : List Value} (h : Flat w v n st xs) (hb : Below w.heap.size w w') : Flat w' v n st xs := by
  obtain ⟨h1, h2, h3, ao, cap, rfl, hf⟩ := h
  refine ⟨h1, h2, h3, ao, cap, rfl, fun hn => ?_⟩
  obtain ⟨b, off, e, hc⟩ := hf hn
  exact ⟨b, off, e, fun j u hu => (hb.cell (cell_lt (hc j u hu))).trans (hc j u hu)⟩
theorem addr_add (b o j : Nat) : (⟨b, o, none⟩ : Addr).add j = ⟨b, o + j, none⟩ := by
  unfold Addr.add
  split
  · next h => subst h; rfl
  · rfl
theorem app_flat {t e : TypeId} {i : TypeInfo} {z : Value} {st bytes : Nat} (ht : Tryd.prog.underlying t = some (.slice e)) (hi : Tryd.prog.info? e = some i) (hz : i.zero = some z) (hsz : i.size = st) (hby : i.bytes = bytes) (hzs : z.cells.size = st) (hst : 0 < st) (hb0 : 0 < bytes)
    {w : World} {ops : Array Oper} {rest : List Oper} {o : Oper} {a : Act} {Q : Exit → Act → World → Prop} (hgd : o.guard = none) (x : Operand)
    (ho : o.op = .call { callee := .builtin .append, args := #[.const (.slice none 0 0), x], argTypes := #[t, t] }) (v : Value) (n : Nat) (xs : List Value) (hx : a.eval x = v) (hF : Flat w v n st xs) (hN : n * bytes ≤ 140737488355328)
    (h : ∀ a' cp' w', w'.ownsRow w.heap.size e st (.slice a' n cp') n xs → Below w.heap.size w w' → wpList Tryd.prog ops Q rest (a.put o.dst (.slice a' n cp')) w') : wpList Tryd.prog ops Q (o :: rest) a w := by
  obtain ⟨hl, hnc, h1, ao, cap, rfl, hf⟩ := hF
  cases ao with
  | none =>
    obtain ⟨rfl, rfl⟩ := hnc _ _ rfl
    obtain rfl : xs = [] := List.eq_nil_of_length_eq_zero (by omega)
    refine wpList_append_own_none hgd (.const (.slice none 0 0)) x t ho w.heap.size e i st ht hi (.slice none 0 0) 0 [] rfl (World.ownsRow_nil _ _ _ _) hx ?_
    exact h none 0 w (World.ownsRow_nil _ _ _ _) (Below.refl _ _)
  | some ad =>
    have hle : n ≤ n * bytes := Nat.le_mul_of_pos_right n hb0
    refine wpList_append_own w hgd (.const (.slice none 0 0)) x t ho w.heap.size e i z st bytes ht hi hz hsz hby hzs hst (.slice none 0 0) 0 [] rfl (World.ownsRow_nil _ _ _ _) ad n cap xs hx hl (fun j u hu => ?_) h1 (by simp only [maxLen]; omega) (by rw [Nat.zero_add]; exact hN) (Nat.le_refl _) (fun v' w' g1 g2 _ => ?_)
    · have hn : 0 < n := by
        have := (List.getElem?_eq_some_iff.1 hu).1
        rcases Nat.eq_zero_or_pos n with h0 | h0
        · rw [h0, Nat.zero_mul] at hl; omega
        · exact h0
      obtain ⟨b, off, e1, hc⟩ := hf hn
      obtain rfl : ad = ⟨b, off, none⟩ := by simpa using e1
      rw [addr_add]
      exact hc j u hu
    · rw [Nat.zero_add, List.nil_append] at g1
      obtain ⟨a', cp', rfl⟩ := owns_slice g1
      exact h a' cp' w' g1 ((Below.refl _ _).grown g2 (Nat.le_refl _) (fun k e => by simp [Value.ownBlock] at e))
def Stop8 (p : Prop) : Prop := p
theorem Stop8.mk {p : Prop} (h : Stop8 p) : p := h
theorem Stop8.out {p : Prop} (h : p) : Stop8 p := h
set_option maxRecDepth 100000 in
theorem fresh94 (w : World) (v : Value) (n : Nat) (xs : List Value) (hF : Flat w v n 4 xs) (hN : n * 48 ≤ 140737488355328) : Calls Tryd.prog 72 #[v] w fun e w' => ∃ a' cp', e = .returned (.slice a' n cp') ∧ w'.ownsRow w.heap.size 95 4 (.slice a' n cp') n xs ∧ Below w.heap.size w w' := by
  obtain ⟨i0, hi, hz0, hz1, hz2⟩ := info_parts infoCtx
  obtain ⟨a0, c0, hv⟩ : ∃ a0 c0, v = .slice a0 n c0 := by obtain ⟨-, -, -, a0, c0, h, -⟩ := hF; exact ⟨a0, c0, h⟩
  subst hv
  have HF : Hid (Flat w (.slice a0 n c0) n 4 xs) := hF
  have HI : Hid (Tryd.prog.info? 95 = some i0 ∧ i0.size = 4 ∧ i0.bytes = 48) := ⟨hi, hz1, hz2⟩
  have HZ : Hid _ := hz0
  clear hF hi hz1 hz2 hz0
  go_enter Tryd.func72, Tryd.ntmps72
  go_wp2_with (at_builtin; refine Stop8.mk ?_)
  refine Stop8.out (app_flat Tryd.underlying36 HI.out.1 HZ.out HI.out.2.1 HI.out.2.2 rfl (by decide) (by decide) rfl (.tmp 3) rfl _ n xs rfl HF.out hN (fun a' cp' w' ho hb => ?_))
  have HO : Hid (w'.ownsRow w.heap.size 95 4 (.slice a' n cp') n xs ∧ Below w.heap.size w w') := ⟨ho, hb⟩
  clear ho hb
  go_wp2
  go_ret
  exact ⟨_, _, rfl, HO.out.1, HO.out.2⟩
set_option maxRecDepth 100000 in
theorem fresh95 (w : World) (v : Value) (n : Nat) (xs : List Value) (hF : Flat w v n 1 xs) (hN : n * 16 ≤ 140737488355328) : Calls Tryd.prog 73 #[v] w fun e w' => ∃ a' cp', e = .returned (.slice a' n cp') ∧ w'.ownsRow w.heap.size 9 1 (.slice a' n cp') n xs ∧ Below w.heap.size w w' := by
  obtain ⟨i0, hi, hz0, hz1, hz2⟩ := info_parts infoStr
  obtain ⟨a0, c0, hv⟩ : ∃ a0 c0, v = .slice a0 n c0 := by obtain ⟨-, -, -, a0, c0, h, -⟩ := hF; exact ⟨a0, c0, h⟩
  subst hv
  have HF : Hid (Flat w (.slice a0 n c0) n 1 xs) := hF
  have HI : Hid (Tryd.prog.info? 9 = some i0 ∧ i0.size = 1 ∧ i0.bytes = 16) := ⟨hi, hz1, hz2⟩
  have HZ : Hid _ := hz0
  clear hF hi hz1 hz2 hz0
  go_enter Tryd.func73, Tryd.ntmps73
  go_wp2_with (at_builtin; refine Stop8.mk ?_)
  refine Stop8.out (app_flat Tryd.underlying93 HI.out.1 HZ.out HI.out.2.1 HI.out.2.2 rfl (by decide) (by decide) rfl (.tmp 3) rfl _ n xs rfl HF.out hN (fun a' cp' w' ho hb => ?_))
  have HO : Hid (w'.ownsRow w.heap.size 9 1 (.slice a' n cp') n xs ∧ Below w.heap.size w w') := ⟨ho, hb⟩
  clear ho hb
  go_wp2
  go_ret
  exact ⟨_, _, rfl, HO.out.1, HO.out.2⟩
set_option maxRecDepth 100000 in
theorem fresh96 (w : World) (v : Value) (n : Nat) (xs : List Value) (hF : Flat w v n 3 xs) (hN : n * 24 ≤ 140737488355328) : Calls Tryd.prog 74 #[v] w fun e w' => ∃ a' cp', e = .returned (.slice a' n cp') ∧ w'.ownsRow w.heap.size 97 3 (.slice a' n cp') n xs ∧ Below w.heap.size w w' := by
  obtain ⟨i0, hi, hz0, hz1, hz2⟩ := info_parts infoRole
  obtain ⟨a0, c0, hv⟩ : ∃ a0 c0, v = .slice a0 n c0 := by obtain ⟨-, -, -, a0, c0, h, -⟩ := hF; exact ⟨a0, c0, h⟩
  subst hv
  have HF : Hid (Flat w (.slice a0 n c0) n 3 xs) := hF
  have HI : Hid (Tryd.prog.info? 97 = some i0 ∧ i0.size = 3 ∧ i0.bytes = 24) := ⟨hi, hz1, hz2⟩
  have HZ : Hid _ := hz0
  clear hF hi hz1 hz2 hz0
  go_enter Tryd.func74, Tryd.ntmps74
  go_wp2_with (at_builtin; refine Stop8.mk ?_)
  refine Stop8.out (app_flat Tryd.underlying38 HI.out.1 HZ.out HI.out.2.1 HI.out.2.2 rfl (by decide) (by decide) rfl (.tmp 3) rfl _ n xs rfl HF.out hN (fun a' cp' w' ho hb => ?_))
  have HO : Hid (w'.ownsRow w.heap.size 97 3 (.slice a' n cp') n xs ∧ Below w.heap.size w w') := ⟨ho, hb⟩
  clear ho hb
  go_wp2
  go_ret
  exact ⟨_, _, rfl, HO.out.1, HO.out.2⟩
set_option maxRecDepth 100000 in
theorem fresh97 (w : World) (v : Value) (n : Nat) (xs : List Value) (hF : Flat w v n 2 xs) (hN : n * 32 ≤ 140737488355328) : Calls Tryd.prog 75 #[v] w fun e w' => ∃ a' cp', e = .returned (.slice a' n cp') ∧ w'.ownsRow w.heap.size 91 2 (.slice a' n cp') n xs ∧ Below w.heap.size w w' := by
  obtain ⟨i0, hi, hz0, hz1, hz2⟩ := info_parts infoOth
  obtain ⟨a0, c0, hv⟩ : ∃ a0 c0, v = .slice a0 n c0 := by obtain ⟨-, -, -, a0, c0, h, -⟩ := hF; exact ⟨a0, c0, h⟩
  subst hv
  have HF : Hid (Flat w (.slice a0 n c0) n 2 xs) := hF
  have HI : Hid (Tryd.prog.info? 91 = some i0 ∧ i0.size = 2 ∧ i0.bytes = 32) := ⟨hi, hz1, hz2⟩
  have HZ : Hid _ := hz0
  clear hF hi hz1 hz2 hz0
  go_enter Tryd.func75, Tryd.ntmps75
  go_wp2_with (at_builtin; refine Stop8.mk ?_)
  refine Stop8.out (app_flat Tryd.underlying39 HI.out.1 HZ.out HI.out.2.1 HI.out.2.2 rfl (by decide) (by decide) rfl (.tmp 3) rfl _ n xs rfl HF.out hN (fun a' cp' w' ho hb => ?_))
  have HO : Hid (w'.ownsRow w.heap.size 91 2 (.slice a' n cp') n xs ∧ Below w.heap.size w w') := ⟨ho, hb⟩
  clear ho hb
  go_wp2
  go_ret
  exact ⟨_, _, rfl, HO.out.1, HO.out.2⟩
set_option maxRecDepth 100000 in
theorem fresh98 (w : World) (v : Value) (n : Nat) (xs : List Value) (hF : Flat w v n 1 xs) (hN : n * 1 ≤ 140737488355328) : Calls Tryd.prog 76 #[v] w fun e w' => ∃ a' cp', e = .returned (.slice a' n cp') ∧ w'.ownsRow w.heap.size 5 1 (.slice a' n cp') n xs ∧ Below w.heap.size w w' := by
  obtain ⟨i0, hi, hz0, hz1, hz2⟩ := info_parts Tryd.info5
  obtain ⟨a0, c0, hv⟩ : ∃ a0 c0, v = .slice a0 n c0 := by obtain ⟨-, -, -, a0, c0, h, -⟩ := hF; exact ⟨a0, c0, h⟩
  subst hv
  have HF : Hid (Flat w (.slice a0 n c0) n 1 xs) := hF
  have HI : Hid (Tryd.prog.info? 5 = some i0 ∧ i0.size = 1 ∧ i0.bytes = 1) := ⟨hi, hz1, hz2⟩
  have HZ : Hid _ := hz0
  clear hF hi hz1 hz2 hz0
  go_enter Tryd.func76, Tryd.ntmps76
  go_wp2_with (at_builtin; refine Stop8.mk ?_)
  refine Stop8.out (app_flat Tryd.underlying75 HI.out.1 HZ.out HI.out.2.1 HI.out.2.2 rfl (by decide) (by decide) rfl (.tmp 3) rfl _ n xs rfl HF.out hN (fun a' cp' w' ho hb => ?_))
  have HO : Hid (w'.ownsRow w.heap.size 5 1 (.slice a' n cp') n xs ∧ Below w.heap.size w w') := ⟨ho, hb⟩
  clear ho hb
  go_wp2
  go_ret
  exact ⟨_, _, rfl, HO.out.1, HO.out.2⟩
set_option maxRecDepth 100000 in
theorem fresh99 (w : World) (v : Value) (n : Nat) (xs : List Value) (hF : Flat w v n 4 xs) (hN : n * 32 ≤ 140737488355328) : Calls Tryd.prog 77 #[v] w fun e w' => ∃ a' cp', e = .returned (.slice a' n cp') ∧ w'.ownsRow w.heap.size 78 4 (.slice a' n cp') n xs ∧ Below w.heap.size w w' := by
  obtain ⟨i0, hi, hz0, hz1, hz2⟩ := info_parts infoPdv
  obtain ⟨a0, c0, hv⟩ : ∃ a0 c0, v = .slice a0 n c0 := by obtain ⟨-, -, -, a0, c0, h, -⟩ := hF; exact ⟨a0, c0, h⟩
  subst hv
  have HF : Hid (Flat w (.slice a0 n c0) n 4 xs) := hF
  have HI : Hid (Tryd.prog.info? 78 = some i0 ∧ i0.size = 4 ∧ i0.bytes = 32) := ⟨hi, hz1, hz2⟩
  have HZ : Hid _ := hz0
  clear hF hi hz1 hz2 hz0
  go_enter Tryd.func77, Tryd.ntmps77
  go_wp2_with (at_builtin; refine Stop8.mk ?_)
  refine Stop8.out (app_flat Tryd.underlying44 HI.out.1 HZ.out HI.out.2.1 HI.out.2.2 rfl (by decide) (by decide) rfl (.tmp 3) rfl _ n xs rfl HF.out hN (fun a' cp' w' ho hb => ?_))
  have HO : Hid (w'.ownsRow w.heap.size 78 4 (.slice a' n cp') n xs ∧ Below w.heap.size w w') := ⟨ho, hb⟩
  clear ho hb
  go_wp2
  go_ret
  exact ⟨_, _, rfl, HO.out.1, HO.out.2⟩
theorem flat_get {st : Nat} : ∀ (L : List (List Value)) (_ : ∀ l ∈ L, l.length = st) (i j : Nat) (hi : i < L.length) (_ : j < st), L.flatten[i * st + j]? = (L[i])[j]?
  | [], _, i, j, hi, _ => by simp at hi
  | l :: r, hL, 0, j, _, hj => by
    have hl : l.length = st := hL l (by simp)
    rw [List.flatten_cons, Nat.zero_mul, Nat.zero_add, List.getElem?_append_left (by omega)]
    rfl
  | l :: r, hL, i + 1, j, hi, hj => by
    have hl : l.length = st := hL l (by simp)
    have hm : (i + 1) * st + j = l.length + (i * st + j) := by rw [hl, Nat.add_mul, Nat.one_mul]; omega
    rw [List.flatten_cons, hm, List.getElem?_append_right (by omega), Nat.add_sub_cancel_left]
    exact flat_get r (fun x hx => hL x (by simp [hx])) i j (by simpa using hi) hj
theorem flat_len {st : Nat} : ∀ (L : List (List Value)) (_ : ∀ l ∈ L, l.length = st), L.flatten.length = L.length * st
  | [], _ => by simp
  | l :: r, hL => by
    have hl : l.length = st := hL l (by simp)
    rw [List.flatten_cons, List.length_append, flat_len r (fun x hx => hL x (by simp [hx])), hl, List.length_cons, Nat.add_mul, Nat.one_mul]
    omega
/-- A list that is read, cell by cell. -/
theorem RE.flat {w : World} {v : Value} {ps : List El} {st : Nat} {Sh : El → Prop} (h : RE w v ps st Sh) (hlen : ∀ p, Sh p → ∀ vs, InnR w p.inn vs → (p.fl ++ vs).length = st) (hone : ∀ p, Sh p → ∀ vs, InnR w p.inn vs → ∀ u ∈ p.fl ++ vs, u.oneCell' = true) (hst : 0 < st) :
    ∃ xs, Flat w v ps.length st xs ∧ ∀ i (h : i < ps.length), ∃ vs, (∀ j u, (ps[i].fl ++ vs)[j]? = some u → xs[i * st + j]? = some u) ∧ InnR w ps[i].inn vs := by
  obtain ⟨hnc, ao, cap, rfl, hs, hf⟩ := h
  by_cases h0 : ps.length = 0
  · refine ⟨[], ⟨by rw [h0]; simp, hnc, fun u hu => by simp at hu, ao, cap, rfl, fun hn => by omega⟩, fun i hi => by omega⟩
  obtain ⟨b, off, rfl, hE⟩ := hf (by omega)
  obtain ⟨L, hL1, hL2⟩ := pick_list (n := ps.length) (P := fun k (l : List Value) => ∃ (hk : k < ps.length) (vs : List Value), l = ps[k].fl ++ vs ∧ (∀ j u, l[j]? = some u → w.cell? ⟨b, off + k * st + j, none⟩ = some u) ∧ InnR w ps[k].inn vs) (fun k hk => by
    obtain ⟨vs, h1, h2⟩ := hE k hk
    exact ⟨_, hk, vs, rfl, h1, h2⟩)
  have hLl : ∀ l ∈ L, l.length = st := fun l hl => by
    obtain ⟨k, hk, rfl⟩ := List.getElem_of_mem hl
    obtain ⟨hk', vs, h1, h2, h3⟩ := hL2 k hk
    rw [h1]
    exact hlen _ (hs _ (List.getElem_mem hk')) vs h3
  refine ⟨L.flatten, ⟨by rw [flat_len L hLl, hL1], hnc, fun u hu => ?_, some ⟨b, off, none⟩, cap, rfl, fun _ => ⟨b, off, rfl, fun J u hu => ?_⟩⟩, fun i hi => ?_⟩
  · obtain ⟨l, hl, hul⟩ := List.mem_flatten.1 hu
    obtain ⟨k, hk, rfl⟩ := List.getElem_of_mem hl
    obtain ⟨hk', vs, h1, h2, h3⟩ := hL2 k hk
    rw [h1] at hul
    exact hone _ (hs _ (List.getElem_mem hk')) vs h3 u hul
  · have hJ : J < L.length * st := by rw [← flat_len L hLl]; exact (List.getElem?_eq_some_iff.1 hu).1
    have hi : J / st < L.length := Nat.div_lt_of_lt_mul (by rw [Nat.mul_comm]; exact hJ)
    have hj : J % st < st := Nat.mod_lt _ hst
    have hd : J / st * st + J % st = J := by rw [Nat.mul_comm]; exact Nat.div_add_mod J st
    rw [← hd, flat_get L hLl _ _ hi hj] at hu
    obtain ⟨hk', vs, h1, h2, h3⟩ := hL2 (J / st) hi
    have := h2 _ _ hu
    rw [show off + J / st * st + J % st = off + J by omega] at this
    exact this
  · obtain ⟨hk', vs, h1, h2, h3⟩ := hL2 i (by omega)
    refine ⟨vs, fun j u hu => ?_, h3⟩
    rw [← h1] at hu
    have hj : j < st := by
      have := (List.getElem?_eq_some_iff.1 hu).1
      rw [hLl _ (List.getElem_mem (by omega))] at this
      exact this
    rw [flat_get L hLl i j (by omega) hj]
    exact hu
theorem TR.flat {w : World} {v : Value} {T : List ByteArray} (h : TR w v T) : Flat w v T.length 1 (txs T) := by
  obtain ⟨ao, cap, rfl, hf, hz, hnc⟩ := h
  refine ⟨by rw [txs_len, Nat.mul_one], hnc, fun u hu => (by obtain ⟨s, _, rfl⟩ := List.mem_map.1 hu; rfl), ao, cap, rfl, fun hn => ?_⟩
  obtain ⟨b, off, e, hc⟩ := hf hn
  refine ⟨b, off, e, fun j u hu => ?_⟩
  have hj : j < T.length := by rw [← txs_len]; exact (List.getElem?_eq_some_iff.1 hu).1
  rw [txs_get T j hj] at hu
  rw [← hu]
  exact hc j hj
theorem V.flat {w : World} {v : Value} {bs : List Nat} (h : V w v bs) (hnc : NoCap v) : Flat w v bs.length 1 (u8s bs) := by
  obtain ⟨ao, cap, rfl, hf, hz⟩ := h.form
  refine ⟨by rw [u8s_length, Nat.mul_one], hnc, fun u hu => (by obtain ⟨s, _, rfl⟩ := List.mem_map.1 hu; rfl), ao, cap, rfl, fun hn => ?_⟩
  obtain ⟨b, off, e, hc⟩ := hf hn
  refine ⟨b, off, e, fun j u hu => ?_⟩
  have hj : j < bs.length := by rw [← u8s_length]; exact (List.getElem?_eq_some_iff.1 hu).1
  rw [u8s_get bs j hj] at hu
  rw [← hu]
  exact hc.1 j hj
end Go.Proofs.YtiieikdbhpflgabDoor
