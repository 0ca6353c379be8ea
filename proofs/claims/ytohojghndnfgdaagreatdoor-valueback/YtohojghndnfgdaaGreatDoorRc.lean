import Derived.Test.YtohojghndnfgdaaGreatDoorRb
/-
  DERIVED. A name that was read is written and read again as the same.
-/
namespace Go.Proofs.YtohojghndnfgdaaGreatDoor
open Go Go.Proofs Go.RowKit

def pc (l : List UInt8) : List ByteArray := (sp 94 l).map BA
structure Good (l : List UInt8) : Prop where
  u : unb l
  n : (sp 94 l).length ≤ 5
  r : rn (BA l) 0 ≤ 64
theorem good_gR {l : List UInt8} (h : (gR (BA l)).1 = none) : Good l := by
  obtain ⟨h1, h2, h3⟩ := (gR_sp l).1.1 h
  exact ⟨h1, h2, h3⟩
theorem Good.gR {l : List UInt8} (h : Good l) : gR (BA l) = (none, pc l) := by
  have h1 := (gR_sp l).1.2 ⟨h.u, h.n, h.r⟩
  exact Prod.ext h1 ((gR_sp l).2 h1)
theorem trm_mem {c : UInt8} {l : List UInt8} {b : UInt8} (h : b ∈ trm c l) : b ∈ l := by
  obtain ⟨k, hk⟩ := trm_pre c l
  rw [hk]
  exact List.mem_append_left _ h
theorem trm_len (c : UInt8) (l : List UInt8) : (trm c l).length ≤ l.length := by
  obtain ⟨k, hk⟩ := trm_pre c l
  have := congrArg List.length hk
  rw [List.length_append] at this
  omega
theorem trm_nil (c : UInt8) : trm c [] = [] := List.length_eq_zero_iff.1 (Nat.le_zero.1 (trm_len c []))
theorem Good.trm {l : List UInt8} (h : Good l) : Good (trm 94 l) :=
  ⟨fun b hb => h.u b (trm_mem hb), Nat.le_trans (sp_trm_len 94 l) h.n, Nat.le_trans (rn_trm l) h.r⟩
theorem Good.nil : Good [] := ⟨(fun b hb => by cases hb), (by rw [sp]; decide), (by rw [rn_end _ 0 (by rw [BA_size]; decide)]; decide)⟩
theorem t5_map (xs : List (List UInt8)) (j : Nat) : t5 (xs.map BA) j = BA (xs.getD j []) := by
  unfold t5
  rw [List.getD_eq_getElem?_getD, List.getD_eq_getElem?_getD, List.getElem?_map]
  cases xs[j]? <;> rfl
theorem getD_or {xs : List (List UInt8)} (j : Nat) : xs.getD j [] = [] ∨ xs.getD j [] ∈ xs := by
  rw [List.getD_eq_getElem?_getD]
  cases h : xs[j]? with
  | none => exact .inl rfl
  | some v => exact .inr (List.mem_of_getElem? h)
theorem five (xs : List (List UInt8)) (h : xs.length ≤ 5) : [xs.getD 0 [], xs.getD 1 [], xs.getD 2 [], xs.getD 3 [], xs.getD 4 []] = xs ++ List.replicate (5 - xs.length) [] := by
  match xs, h with
  | [], _ => rfl
  | [_], _ => rfl
  | [_, _], _ => rfl
  | [_, _, _], _ => rfl
  | [_, _, _, _], _ => rfl
  | [_, _, _, _, _], _ => rfl
  | _ :: _ :: _ :: _ :: _ :: _ :: _, h => simp at h
theorem dec_w (G : ByteArray) (p : Nat) : (Utf8.decode G p).2 ≤ 4 := by
  unfold Utf8.decode
  dsimp only
  repeat' split
  all_goals first | decide | omega | simp
theorem rn_size (G : ByteArray) : ∀ (n p : Nat), n = G.size - p → G.size - p ≤ 4 * rn G p := by
  intro n
  induction n using Nat.strongRecOn with
  | _ n ih =>
    intro p hn
    by_cases h : p < G.size
    · have hw' : 1 ≤ (Utf8.decode G p).2 := oneW_pos G p h
      have h4 := dec_w G p
      rw [rn_step G p h]
      have := ih (G.size - (p + (Utf8.decode G p).2)) (by omega) (p + (Utf8.decode G p).2) rfl
      omega
    · omega
theorem Good.len {l : List UInt8} (h : Good l) : l.length ≤ 256 := by
  have h1 := rn_size (BA l) _ 0 rfl
  have h2 := h.r
  rw [BA_size] at h1
  omega
theorem sp_len (c : UInt8) : ∀ (l x : List UInt8), x ∈ sp c l → x.length ≤ l.length
  | [], x, h => by rw [sp] at h; rw [List.mem_singleton.1 h]; exact Nat.le_refl _
  | b :: l, x, h => by
    have hl := join_sp c (b :: l)
    have : ∀ (xs : List (List UInt8)) (y : List UInt8), y ∈ xs → y.length ≤ (Lib.join xs [c]).length := by
      intro xs
      induction xs with
      | nil => intro y hy; cases hy
      | cons z zs ih =>
        intro y hy
        cases zs with
        | nil =>
          rw [List.mem_singleton.1 hy]
          simp [Lib.join]
        | cons z2 zs =>
          rw [join_two, List.length_append, List.length_cons]
          rcases List.mem_cons.1 hy with rfl | hy
          · omega
          · have := ih y hy
            omega
    have := this _ x h
    rwa [hl] at this
theorem Good.part {l : List UInt8} (h : Good l) (j : Nat) : ((sp 94 l).getD j []).length ≤ 256 := by
  rcases getD_or (xs := sp 94 l) j with e | e
  · rw [e]; exact Nat.zero_le _
  · exact Nat.le_trans (sp_len 94 l _ e) h.len
theorem Good.ok {l : List UInt8} (h : Good l) (h61 : (61 : UInt8) ∉ l) (j : Nat) : okc (t5 (pc l) j) = true := by
  unfold pc okc
  rw [t5_map, BA_list, List.all_eq_true]
  intro b hb
  rcases getD_or (xs := sp 94 l) j with e | e
  · rw [e] at hb; cases hb
  · have h1 := sp_mem 94 l _ e
    have h2 := sp_sub 94 l _ e b hb
    have h3 : b.toNat ≠ 94 := fun hh => h1 (by have e9 : b = 94 := UInt8.toNat_inj.1 hh; rw [e9] at hb; exact hb)
    have h4 : b.toNat ≠ 61 := fun hh => h61 (by have e9 : b = 61 := UInt8.toNat_inj.1 hh; rw [e9] at h2; exact h2)
    unfold okb
    rw [h.u b h2, decide_eq_false h3, decide_eq_false h4]
    rfl
theorem Good.gB {l : List UInt8} (h : Good l) : gB (pc l) = BA (Go.Proofs.YtohojghndnfgdaaGreatDoor.trm 94 l) := by
  have e : l5 (pc l) = sp 94 l ++ List.replicate (5 - (sp 94 l).length) [] := by
    unfold l5 pc
    rw [t5_map, t5_map, t5_map, t5_map, t5_map, BA_list, BA_list, BA_list, BA_list, BA_list]
    exact five _ h.n
  show BA (Lib.join (dropE (l5 (pc l))) [94]) = _
  rw [e, dropE_pad]
  rfl
theorem Good.GT {l : List UInt8} (h : Good l) (h61 : (61 : UInt8) ∉ l) : GT (pc l) = (none, BA (Go.Proofs.YtohojghndnfgdaaGreatDoor.trm 94 l)) := by
  have hr := h.trm.r
  unfold Go.Proofs.YtohojghndnfgdaaGreatDoor.GT
  rw [gE_none (fun j _ => h.ok h61 j), h.gB]
  dsimp only
  rw [if_neg (by omega)]
theorem pn_gs : ∀ (gs : List (List UInt8)) (g fr : Nat) (acc : List (List ByteArray)), g ≤ 3 → ((pn g fr (gs.map BA) acc).1 = none ↔ g + gs.length ≤ 3 ∧ ∀ l ∈ gs, Good l) ∧ ((pn g fr (gs.map BA) acc).1 = none → (pn g fr (gs.map BA) acc).2 = acc ++ gs.map pc)
  | [], g, fr, acc, hg => by
    rw [List.map_nil, pn]
    exact ⟨⟨fun _ => ⟨hg, (fun l hl => by cases hl)⟩, fun _ => rfl⟩, fun _ => by simp⟩
  | l :: gs, g, fr, acc, hg => by
    rw [List.map_cons, pn]
    by_cases h3 : g = 3
    · rw [if_pos h3]
      refine ⟨⟨fun h => (by cases h), fun h => ?_⟩, fun h => (by cases h)⟩
      have := h.1
      rw [List.length_cons] at this
      omega
    · rw [if_neg h3]
      cases hG : (gR (BA l)).1 with
      | some x =>
        refine ⟨⟨fun h => (by cases h), fun h => ?_⟩, fun h => (by cases h)⟩
        have := (h.2 l (by simp)).gR
        rw [this] at hG
        cases hG
      | none =>
        have hl := good_gR hG
        obtain ⟨i1, i2⟩ := pn_gs gs (g + 1) (fr + (BA l).size + 1) (acc ++ [(gR (BA l)).2]) (by omega)
        refine ⟨?_, fun h => ?_⟩
        · rw [i1, List.length_cons]
          constructor
          · rintro ⟨h1, h2⟩
            exact ⟨by omega, fun m hm => by rcases List.mem_cons.1 hm with rfl | hm; exact hl; exact h2 m hm⟩
          · rintro ⟨h1, h2⟩
            exact ⟨by omega, fun m hm => h2 m (List.mem_cons_of_mem _ hm)⟩
        · rw [i2 h, hl.gR, List.map_cons, List.append_assoc]
          rfl
theorem prn_gs : ∀ (gs : List (List UInt8)) (g : Nat) (ts : List ByteArray), (∀ l ∈ gs, Good l ∧ (61 : UInt8) ∉ l) → prn g (gs.map pc) ts = (none, ts ++ gs.map (fun l => BA (trm 94 l)))
  | [], g, ts, _ => by rw [List.map_nil, prn]; simp
  | l :: gs, g, ts, h => by
    obtain ⟨h1, h2⟩ := h l (by simp)
    rw [List.map_cons, prn, h1.GT h2]
    dsimp only
    rw [prn_gs gs (g + 1) _ (fun m hm => h m (List.mem_cons_of_mem _ hm)), List.append_assoc]
    rfl
theorem t5_pc (hs : List (List UInt8)) (g j : Nat) : t5 ((hs.map pc).getD g []) j = BA ((sp 94 (hs.getD g [])).getD j []) := by
  rw [List.getD_eq_getElem?_getD (l := hs.map pc), List.getD_eq_getElem?_getD (l := hs), List.getElem?_map]
  cases hs[g]? with
  | none =>
    show t5 [] j = BA ((sp 94 []).getD j [])
    rw [sp]
    cases j <;> rfl
  | some l => exact t5_map _ _
theorem a15_congr {P Q : List (List ByteArray)} (h : ∀ g j, t5 (P.getD g []) j = t5 (Q.getD g []) j) : a15 P = a15 Q := by
  unfold a15 f15 t15
  simp only [h]
theorem trm_getD (gs : List (List UInt8)) (j : Nat) : (gs.map (trm 94)).getD j [] = trm 94 (gs.getD j []) := by
  rw [List.getD_eq_getElem?_getD, List.getD_eq_getElem?_getD, List.getElem?_map]
  cases gs[j]? with
  | none => exact (trm_nil 94).symm
  | some l => rfl
theorem lens_trm : ∀ gs : List (List UInt8), ((gs.map (trm 94)).map List.length).sum ≤ (gs.map List.length).sum
  | [] => Nat.le_refl _
  | l :: gs => by
    have h1 := trm_len 94 l
    have h2 := lens_trm gs
    simp only [List.map_cons, List.sum_cons]
    omega
theorem three_l (xs : List (List UInt8)) (h : xs.length ≤ 3) : [xs.getD 0 [], xs.getD 1 [], xs.getD 2 []] = xs ++ List.replicate (3 - xs.length) [] := by
  match xs, h with
  | [], _ => rfl
  | [_], _ => rfl
  | [_, _], _ => rfl
  | [_, _, _], _ => rfl
  | _ :: _ :: _ :: _ :: _, h => simp at h

/-- The name that was read, written: read again, it is the same, and no longer than it was. -/
theorem name_back (s : ByteArray) (X : List (List ByteArray)) (h : PNs s = (none, X)) : ∃ (P Y : List (List ByteArray)) (U : ByteArray), P.length = 3 ∧ a15 P = a15 X ∧ PRN P = (none, U) ∧ PNs U = (none, Y) ∧ a15 Y = a15 X ∧ U.size ≤ s.size ∧ ∀ g j, j < 5 → (t5 (P.getD g []) j).size ≤ 1048576 := by
  have hcx := cx_sp s 61 _ 0 rfl (Nat.zero_le _)
  rw [List.drop_zero] at hcx
  obtain ⟨gs, hgs⟩ : ∃ gs, sp 61 s.data.toList = gs := ⟨_, rfl⟩
  have hmem := fun l hl => sp_mem 61 s.data.toList l hl
  have hjn := join_sp 61 s.data.toList
  have hne := sp_ne 61 s.data.toList
  rw [hgs] at hcx hmem hjn hne
  obtain ⟨q1, q2⟩ := pn_gs gs 0 0 [] (by omega)
  unfold PNs at h
  rw [show (61 : Nat) = (61 : UInt8).toNat from rfl, hcx] at h
  rw [h] at q1 q2
  obtain ⟨hl3, hgood⟩ := q1.1 rfl
  obtain rfl : X = [] ++ gs.map pc := q2 rfl
  rw [List.nil_append]
  rw [Nat.zero_add] at hl3
  -- padded to three groups
  obtain ⟨ps, hps⟩ : ∃ ps, gs ++ List.replicate (3 - gs.length) [] = ps := ⟨_, rfl⟩
  have hpl : ps.length = 3 := by rw [← hps]; simp; omega
  have hpg : ∀ l ∈ ps, Good l ∧ (61 : UInt8) ∉ l := by
    rw [← hps]
    intro l hl
    rcases List.mem_append.1 hl with hl | hl
    · exact ⟨hgood l hl, hmem l hl⟩
    · obtain rfl := (List.mem_replicate.1 hl).2
      exact ⟨Good.nil, by simp⟩
  have h3l := three_l gs hl3
  rw [hps] at h3l
  have hpd : ∀ j, ps.getD j [] = gs.getD j [] := fun j => by
    rw [← h3l]
    match j with
    | 0 => rfl
    | 1 => rfl
    | 2 => rfl
    | j + 3 =>
      show [] = gs.getD (j + 3) []
      rw [List.getD_eq_getElem?_getD, List.getElem?_eq_none (by omega)]
      rfl
  -- what is written
  obtain ⟨ms, hms⟩ : ∃ ms, gs.map (trm 94) = ms := ⟨_, rfl⟩
  have hml : ms.length = gs.length := by rw [← hms]; simp
  have hmm : ∀ m ∈ ms, Good m ∧ (61 : UInt8) ∉ m := by
    rw [← hms]
    intro m hm
    obtain ⟨l, hl, rfl⟩ := List.mem_map.1 hm
    exact ⟨(hgood l hl).trm, fun e => hmem l hl (trm_mem e)⟩
  obtain ⟨ul, hul⟩ : ∃ ul, Lib.join (dropE ms) [61] = ul := ⟨_, rfl⟩
  have htop : topB (ps.map (fun l => BA (trm 94 l))) = BA ul := by
    show BA (Lib.join (dropE (l3 (ps.map (fun l => BA (trm 94 l))))) [61]) = BA ul
    have e : l3 (ps.map (fun l => BA (trm 94 l))) = ms ++ List.replicate (3 - ms.length) [] := by
      unfold l3
      rw [show ps.map (fun l => BA (trm 94 l)) = (ps.map (trm 94)).map BA by rw [List.map_map]; rfl, t5_map, t5_map, t5_map, BA_list, BA_list, BA_list, trm_getD, trm_getD, trm_getD, hpd, hpd, hpd, ← trm_getD, ← trm_getD, ← trm_getD, hms]
      exact three_l ms (by omega)
    rw [e, dropE_pad, hul]
  -- what is read of it
  obtain ⟨hs, hhs⟩ : ∃ hs, sp 61 ul = hs := ⟨_, rfl⟩
  have hh : hs.length ≤ 3 ∧ (∀ l ∈ hs, Good l) ∧ ∀ j, hs.getD j [] = ms.getD j [] := by
    rw [← hhs, ← hul]
    have hd := fun j => dropE_getD _ ms rfl j
    by_cases he : dropE ms = []
    · rw [he] at hd ⊢
      show (sp 61 []).length ≤ 3 ∧ (∀ l ∈ sp 61 [], Good l) ∧ ∀ j, (sp 61 []).getD j [] = ms.getD j []
      rw [sp]
      refine ⟨by decide, fun l hl => ?_, fun j => ?_⟩
      · obtain rfl : l = [] := by simpa using hl
        exact Good.nil
      · rw [← hd j]
        cases j <;> rfl
    · rw [sp_join 61 _ he (fun x hx => (hmm x (dropE_mem hx)).2)]
      have := (dropE_len ms).1
      exact ⟨by omega, fun l hl => (hmm l (dropE_mem hl)).1, hd⟩
  obtain ⟨r1, r2⟩ := pn_gs hs 0 0 [] (by omega)
  have hu : PNs (BA ul) = pn 0 0 (hs.map BA) [] := by
    have := cx_sp (BA ul) 61 _ 0 rfl (Nat.zero_le _)
    rw [List.drop_zero, BA_list, hhs] at this
    unfold PNs
    rw [show (61 : Nat) = (61 : UInt8).toNat from rfl, this]
  have r3 := r1.2 ⟨by omega, hh.2.1⟩
  refine ⟨ps.map pc, hs.map pc, BA ul, by rw [List.length_map]; exact hpl, a15_congr fun g j => ?_, ?_, ?_, a15_congr fun g j => ?_, ?_, fun g j _ => ?_⟩
  · rw [t5_pc, t5_pc, hpd]
  · unfold PRN
    rw [prn_gs ps 0 [] hpg, List.nil_append]
    dsimp only
    rw [htop]
  · rw [hu]
    exact Prod.ext r3 (by rw [r2 r3]; rfl)
  · rw [t5_pc, t5_pc, hh.2.2, ← hms, trm_getD, sp_trm]
  · rw [BA_size, ← hul]
    have hsz : s.size = (Lib.join gs [61]).length := by rw [hjn, Array.length_toList]; rfl
    rw [hsz]
    have d1 := dropE_len ms
    have d2 := lens_trm gs
    rw [hms] at d2
    have e1 : ∀ zs : List (List UInt8), Lib.lens zs = (zs.map List.length).sum := fun _ => rfl
    cases gs with
    | nil => exact absurd rfl hne
    | cons x r =>
      rw [Lib.join_length, e1]
      rw [List.length_cons] at hml
      cases hd : dropE ms with
      | nil => exact Nat.zero_le _
      | cons y t =>
        rw [hd, List.length_cons] at d1
        rw [Lib.join_length, e1, List.length_singleton]
        omega
  · rw [t5_pc, BA_size]
    have hgd : Good (ps.getD g []) := by
      rcases getD_or (xs := ps) g with e | e
      · rw [e]; exact Good.nil
      · exact (hpg _ e).1
    have := hgd.part j
    omega
end Go.Proofs.YtohojghndnfgdaaGreatDoor
