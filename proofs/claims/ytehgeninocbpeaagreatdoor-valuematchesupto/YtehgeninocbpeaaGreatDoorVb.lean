import Derived.Test.YtehgeninocbpeaaGreatDoorSf
import Derived.Lib.IndexLaws
import Derived.Test.YtehgeninocbpeaaGreatDoorQG
import Derived.Lib.SplitLaws
import Derived.Deep.LoopGhost
namespace Go.Proofs.YtehgeninocbpeaaGreatDoor.Tm
open Go Go.Proofs Go.RowKit
theorem dz_is (s : ByteArray) : ∀ f i, i + f ≤ s.size → dz s f i = -1 ∨ ∃ k : Nat, dz s f i = (k : Int) ∧ k < s.size
  | 0, i, _ => .inl rfl
  | f + 1, i, h => by
    rw [dz]
    split
    · exact .inr ⟨i, rfl, by omega⟩
    · exact dz_is s f (i + 1) (by omega)
theorem dsh_is (vr : Int) (s : ByteArray) : dsh vr s = -1 ∨ ∃ k : Nat, dsh vr s = (k : Int) ∧ k < s.size := by
  unfold dsh
  split
  · exact dz_is s _ 0 (by omega)
  · have h := Lib.indexByte_ge s.data.toList 45
    by_cases h1 : Lib.indexByte s.data.toList 45 = -1
    · exact .inl h1
    · refine .inr ⟨(Lib.indexByte s.data.toList 45).toNat, by omega, ?_⟩
      have h2 := (Lib.indexByte_some (l := s.data.toList) (c := 45) (o := (Lib.indexByte s.data.toList 45).toNat) (by omega)).1
      have := (List.getElem?_eq_some_iff.1 h2).1
      rw [Array.length_toList] at this
      exact this
def ask (vr : Int) (s : ByteArray) : (Int × Int) × Option (Int × Int) :=
  if dsh vr s < 0 then (ow vr s 0, oR vr s 0) else if s.size = 1 then ((0, 0), some (1, 100)) else bt vr s (dsh vr s).toNat
theorem isSp_rB {vr : Int} (h : isSp vr) : rB vr = 1 := by rcases h with rfl | rfl | rfl <;> rfl
theorem field0 (W : World) (b : Int) (c : Bool) : (Instr.field 45 (.agg #[.int .i64 b, .bool c]) 0).run Tryz.prog W = .ok (.int .i64 b) W := by kernel_rfl
theorem field1 (W : World) (b : Int) (c : Bool) : (Instr.field 45 (.agg #[.int .i64 b, .bool c]) 1).run Tryz.prog W = .ok (.bool c) W := by kernel_rfl
structure Zk (w W : World) (r : Nat) : Prop where
  z : W.rowIs r 66 2 (f2I 0 0)
  b : Below r w W
  t : Mt W
  o : Ot W
  r : Rt W
theorem Zk.on {w W W' : World} {r : Nat} (h : Zk w W r) (hb : Below W.heap.size W W') : Zk w W' r :=
  ⟨h.z.of_block (hb.block _ h.z.lt), h.b.trans (hb.mono (Nat.le_of_lt h.z.lt)), h.t.on hb, h.o.on hb, h.r.on hb⟩
set_option maxRecDepth 100000 in
set_option maxHeartbeats 4000000 in
theorem asked_any (w : World) (vr : Int) (hv : isSp vr) (s : ByteArray) (hs : s.size ≤ 140737488351232) (hT : Mt w) (hO : Ot w) (hR : Rt w) :
    Calls Tryz.prog 59 #[.int .i64 vr, .string s] w (PostR w (sp (ask vr s).1.1 (ask vr s).1.2) (ask vr s).2) := by
  have cD := fun W h => dashOf_any W vr s hs h
  have cR := fun W h => ruleOf_any W vr h
  rw [isSp_rB hv] at cR
  have cO := fun W h1 h2 => own_any W vr hv s hs h1 h2
  have cB := fun W d (hd : d < s.size) h1 h2 => between_any W vr hv s hs d hd h1 h2
  obtain ⟨A, hA⟩ : ∃ A, (ask vr s).1.1 = A := ⟨_, rfl⟩
  obtain ⟨B, hB⟩ : ∃ B, (ask vr s).1.2 = B := ⟨_, rfl⟩
  obtain ⟨o, ho⟩ : ∃ o, (ask vr s).2 = o := ⟨_, rfl⟩
  have HA : Hid (ask vr s = ((A, B), o)) := Prod.ext (Prod.ext hA hB) ho
  rw [hA, hB, ho]
  clear hA hB ho
  unfold ask at HA
  have hD := dsh_is vr s
  obtain ⟨r, hr⟩ : ∃ r, w.heap.size = r := ⟨_, rfl⟩
  obtain ⟨W0, hW0⟩ : ∃ W0, w.alloc (.cells #[.int .i64 0, .int .i64 0] 66) = W0 := ⟨_, rfl⟩
  have K0 : Hid (Zk w W0 r) := by
    have hb0 : Below r w W0 := by rw [← hW0, ← hr]; exact (Below.refl _ _).alloc (Nat.le_refl _) _
    refine ⟨?_, hb0, hT.on (hr ▸ hb0), hO.on (hr ▸ hb0), hR.on (hr ▸ hb0)⟩
    rw [← hW0, ← hr]
    exact World.rowIs_alloc w _ 66 _ (row_lit _)
  have HCO : Hid _ := cO
  have HCB : Hid _ := cB
  have HCR : Hid _ := cR
  have c := cD W0 K0.out.t
  generalize dsh vr s = D at *
  clear hT hO hR cO cB cR cD
  unfold sp at HCO HCB ⊢
  go_enter Tryz.func59, Tryz.ntmps59
  go_wp2_with (go_at_call 94; refine Stop.mk ?_)
  refine Stop.out (c.mono ?_)
  rintro e W1 ⟨rfl, hb⟩
  have K1 : Hid (Zk w W1 r) := K0.out.on hb
  have c := HCR.out W1 K1.out.r
  clear hb K0 HCR hW0
  go_wp2_with (go_at_call 18; refine Stop.mk ?_)
  refine Stop.out (c.mono ?_)
  rintro e W2 ⟨rfl, hb⟩
  have K2 : Hid (Zk w W2 r) := K1.out.on hb
  have hf := field0 W2 1 (rC vr)
  clear hb K1 c
  rcases hD with rfl | ⟨d, rfl, hd⟩
  · have HR : Hid ((ow vr s 0, oR vr s 0) = ((A, B), o)) := by have := HA.out; rw [if_pos (by decide)] at this; exact this
    have c := HCO.out W2 K2.out.t K2.out.o
    generalize (ow vr s 0) = P at *
    generalize oR vr s 0 = oP' at *
    clear HA HCO HCB
    go_wp2_with (go_at_call 61; refine Stop.mk ?_)
    refine Stop.out (c.mono ?_)
    rintro e W3 ⟨v, rfl, hv3, hb⟩
    have K3 : Hid (Zk w W3 r) := K2.out.on hb
    have HV : Hid (PErr W3 v oP') := hv3
    clear hb K2 c hv3
    have Z0 : W3.cell? ⟨r, 0, none⟩ = some (.int .i64 0) := K3.out.z.cell (i := 0) (by omega)
    have Z1 : W3.cell? ⟨r, 1, none⟩ = some (.int .i64 0) := K3.out.z.cell (i := 1) (by omega)
    have zf := fun i => K3.out.z.frozen i
    go_wp2
    refine bodyPost_ret (v := .tuple #[.agg #[.int .i64 A, .int .i64 B], v]) ?_ rfl ⟨_, rfl, ?_, ?_⟩
    · obtain ⟨h1, h2⟩ := Prod.mk.inj HR.out
      rw [h1]
      simp [results, Tryz.results59, go_sem, Z0, Z1]
    · rw [← (Prod.mk.inj HR.out).2]
      exact HV.out.two Z0 _ _
    · rw [hr]
      exact (K3.out.b.setCell (p := ⟨r, 0, none⟩) (Nat.le_refl _) _).setCell (p := ⟨r, 1, none⟩) (Nat.le_refl _) _
  · have hd0 : ¬ ((d : Int) < 0) := by omega
    have HA1 : Hid ((if s.size = 1 then (((0 : Int), (0 : Int)), some ((1 : Int), (100 : Int))) else bt vr s d) = ((A, B), o)) := by have := HA.out; rw [if_neg hd0, Int.toNat_natCast] at this; exact this
    clear HA
    by_cases h1 : s.size = 1
    · have h1b : ((s.size : Int) == 1) = true := by rw [h1]; rfl
      have HR : Hid ((((0 : Int), (0 : Int)), some ((1 : Int), (100 : Int))) = ((A, B), o)) := by have := HA1.out; rw [if_pos h1] at this; exact this
      have c46 := fun W => refusal_any 1 100 W
      have HH : Hid (s.size = 1) := h1
      clear HA1 HCO HCB h1
      go_wp2_with (go_at_call 46; refine Stop.mk ?_)
      refine Stop.out ((c46 _).mono ?_)
      rintro e W3 ⟨v, rfl, hv3, hb⟩
      have K3 : Hid (Zk w W3 r) := K2.out.on hb
      have HV : Hid (PErr W3 v (some (1, 100))) := hv3
      clear hb K2 c46 hv3
      have Z0 : W3.cell? ⟨r, 0, none⟩ = some (.int .i64 0) := K3.out.z.cell (i := 0) (by omega)
      have Z1 : W3.cell? ⟨r, 1, none⟩ = some (.int .i64 0) := K3.out.z.cell (i := 1) (by omega)
      have zf := fun i => K3.out.z.frozen i
      go_wp2
      refine bodyPost_ret (v := .tuple #[.agg #[.int .i64 A, .int .i64 B], v]) ?_ rfl ⟨_, rfl, ?_, ?_⟩
      · obtain ⟨h1, h2⟩ := Prod.mk.inj HR.out
        obtain ⟨rfl, rfl⟩ := Prod.mk.inj h1
        simp [results, Tryz.results59, go_sem, Z0, Z1]
      · rw [← (Prod.mk.inj HR.out).2]
        exact HV.out.two Z0 _ _
      · rw [hr]
        exact (K3.out.b.setCell (p := ⟨r, 0, none⟩) (Nat.le_refl _) _).setCell (p := ⟨r, 1, none⟩) (Nat.le_refl _) _
    · have h1b : ((s.size : Int) == 1) = false := by simp; omega
      have HR : Hid (bt vr s d = ((A, B), o)) := by have := HA1.out; rw [if_neg h1] at this; exact this
      have c := HCB.out W2 d hd K2.out.t K2.out.o
      have HH : Hid (¬ s.size = 1) := h1
      generalize bt vr s d = P at *
      clear HA1 HCO HCB h1
      go_wp2_with (go_at_call 95; refine Stop.mk ?_)
      refine Stop.out (c.mono ?_)
      rintro e W3 ⟨v, rfl, hv3, hb⟩
      have K3 : Hid (Zk w W3 r) := K2.out.on hb
      have HV : Hid (PErr W3 v P.2) := hv3
      clear hb K2 c hv3
      have Z0 : W3.cell? ⟨r, 0, none⟩ = some (.int .i64 0) := K3.out.z.cell (i := 0) (by omega)
      have Z1 : W3.cell? ⟨r, 1, none⟩ = some (.int .i64 0) := K3.out.z.cell (i := 1) (by omega)
      have zf := fun i => K3.out.z.frozen i
      go_wp2
      refine bodyPost_ret (v := .tuple #[.agg #[.int .i64 A, .int .i64 B], v]) ?_ rfl ⟨_, rfl, ?_, ?_⟩
      · rw [HR.out]
        simp [results, Tryz.results59, go_sem, Z0, Z1]
      · have := HV.out.two Z0 (.int .i64 P.1.1) (.int .i64 P.1.2)
        rw [HR.out] at this ⊢
        exact this
      · rw [hr]
        exact (K3.out.b.setCell (p := ⟨r, 0, none⟩) (Nat.le_refl _) _).setCell (p := ⟨r, 1, none⟩) (Nat.le_refl _) _
end Go.Proofs.YtehgeninocbpeaaGreatDoor.Tm

namespace Go.Proofs.YtehgeninocbpeaaGreatDoor.Sp
open Go Go.Proofs Go.RowKit Go.Lib
def spL : List UInt8 → List (List UInt8)
  | [] => [[]]
  | b :: l => if b = 92 then [] :: spL l else match spL l with
    | h :: t => (b :: h) :: t
    | [] => [[b]]
theorem spL_ne : ∀ l, spL l ≠ []
  | [] => by simp [spL]
  | b :: l => by
      unfold spL
      by_cases h : b = 92
      · rw [if_pos h]; simp
      · rw [if_neg h]; cases spL l <;> simp
theorem spL_none : ∀ l : List UInt8, (∀ k : Nat, l[k]? ≠ some 92) → spL l = [l]
  | [], _ => rfl
  | b :: l, h => by
      have h0 := h 0
      simp at h0
      have := spL_none l (fun k => by have := h (k + 1); simpa using this)
      unfold spL
      rw [if_neg h0, this]
theorem spL_at : ∀ (o : Nat) (l : List UInt8), l[o]? = some 92 → (∀ k : Nat, k < o → l[k]? ≠ some 92) → spL l = l.take o :: spL (l.drop (o + 1))
  | _, [], h, _ => by simp at h
  | 0, b :: l, h, _ => by
      simp at h
      subst h
      simp [spL]
  | o + 1, b :: l, h, hk => by
      have h0 := hk 0 (by omega)
      simp at h0
      have := spL_at o l (by simpa using h) (fun k hk2 => by have := hk (k + 1) (by omega); simpa using this)
      rw [spL, if_neg h0, this]
      simp
theorem splitK_spL : ∀ (k : Nat) (l : List UInt8), l.count 92 ≤ k → splitK [92] 0 k l = spL l := by
  intro k
  induction k with
  | zero =>
    intro l h
    rw [spL_none l]
    · rfl
    · intro j hj
      have : (92 : UInt8) ∈ l := List.mem_of_getElem? hj
      have := List.count_pos_iff.2 this
      omega
  | succ k ih =>
    intro l h
    unfold splitK
    rw [index_one]
    by_cases hm : indexByte l 92 = -1
    · rw [if_pos (by rw [hm]; rfl), spL_none l (indexByte_none hm)]
    · rw [if_neg (by simpa using hm)]
      have hge := indexByte_ge l 92
      obtain ⟨o, ho⟩ : ∃ o : Nat, indexByte l 92 = o := ⟨(indexByte l 92).toNat, by omega⟩
      obtain ⟨h1, h2⟩ := indexByte_some ho
      rw [ho, spL_at o l h1 h2]
      have hlt : o < l.length := by
        rcases Nat.lt_or_ge o l.length with q | q
        · exact q
        · rw [List.getElem?_eq_none q] at h1; cases h1
      have hc : (l.drop (o + 1)).count 92 ≤ k := by
        have e : l = l.take o ++ (92 :: l.drop (o + 1)) := by
          rw [List.getElem?_eq_getElem hlt] at h1
          have := Option.some.inj h1
          rw [← this, List.getElem_cons_drop, List.take_append_drop]
        rw [e, List.count_append, List.count_cons_self] at h
        omega
      simp only [Int.toNat_natCast, Nat.add_zero, List.length_singleton]
      rw [ih _ hc]
def bsL (l : List (List UInt8)) : List ByteArray := l.map fun x => ⟨x.toArray⟩
theorem bsL_back (l : List ByteArray) : bsL (l.map (·.data.toList)) = l := by
  unfold bsL
  rw [List.map_map]
  conv => rhs; rw [← List.map_id l]
  refine List.map_congr_left fun x _ => ?_
  cases x
  simp
def spB (s : ByteArray) : List ByteArray := bsL (spL s.data.toList)
theorem splitB_spB (s : ByteArray) : splitB ⟨#[92]⟩ 0 (countB s ⟨#[92]⟩) s = spB s := by
  rw [← bsL_back (splitB _ _ _ _), splitB_data]
  unfold spB
  rw [splitK_spL]
  show _ ≤ count s.data.toList [92]
  rw [count_one]
  exact Nat.le_refl _
theorem spL_len : ∀ l : List UInt8, (spL l).length ≤ l.length + 1
  | [] => Nat.le_refl _
  | b :: l => by
      have := spL_len l
      unfold spL
      by_cases h : b = 92
      · rw [if_pos h]; simp; omega
      · rw [if_neg h]
        cases hs : spL l with
        | nil => simp
        | cons a t => rw [hs] at this; simp at this ⊢; omega
theorem spB_len (s : ByteArray) : (spB s).length ≤ s.size + 1 := by
  unfold spB bsL
  rw [List.length_map]
  exact spL_len _
theorem spB_ne (s : ByteArray) : spB s ≠ [] := by
  unfold spB bsL
  intro h
  exact spL_ne _ (List.map_eq_nil_iff.1 h)
set_option maxHeartbeats 2000000 in
theorem str_split (s : ByteArray) (w : World) (hs : s.size ≤ 8000000) :
    Calls Tryz.prog 20 #[.string s, .string { data := #[92] }] w fun e w' => e = .returned (.slice (some ⟨w.heap.size, 0, none⟩) (spB s).length (spB s).length) ∧ w.alloc (.cells ((spB s).map Value.string).toArray 9) = w' := by
  have L := splLays146
  have hlen := Lib.splitB_all ⟨#[92]⟩ (by decide) 0 _ s rfl
  have hle : countB s ⟨#[92]⟩ ≤ s.size := Lib.countB_le ⟨#[92]⟩ (by decide) s.size s (Nat.le_refl _)
  have hI : ∀ (x : ByteArray) (c : Array Value), x.size ≤ s.size → Calls Tryz.prog (splRen.f 143) #[.string x, .string ⟨#[92]⟩] (w.alloc (.cells c (splRen.t 9))) fun e w' => e = .returned (.int .i64 (Lib.indexB x ⟨#[92]⟩)) ∧ w' = w.alloc (.cells c (splRen.t 9)) := fun x c _ =>
    (Any.strings_Index_one { L with } x 92 _).mono fun e w' ⟨he, hw⟩ => ⟨by rw [he]; show _ = Ending.returned (Value.int .i64 (Lib.index x.data.toList [92])); rw [Lib.index_one], hw⟩
  have hC : Calls Tryz.prog (splRen.f 138) #[.string s, .string ⟨#[92]⟩] w fun e w' => e = .returned (.int .i64 (Lib.countB s ⟨#[92]⟩)) ∧ w' = w :=
    (Any.strings_Count_one { L with } s 92 w).mono fun e w' ⟨he, hw⟩ => ⟨by rw [he]; show _ = Ending.returned (Value.int .i64 ((Lib.count s.data.toList [92] : Nat) : Int)); rw [Lib.count_one]; rfl, hw⟩
  have c := Any.strings_genSplit_core (P := Tryz.prog) (ρ := splRen) { L with } (by kernel_rfl) s ⟨#[92]⟩ 0 (-1) (Lib.countB s ⟨#[92]⟩ + 1) w (by omega) (by decide) (Nat.zero_le _) hI hC (by decide) (by decide) (by rw [if_pos (by decide)]; omega)
  rw [Nat.add_sub_cancel, hlen] at c
  have e2 : Lib.cellsOf (Lib.splitB ⟨#[92]⟩ 0 (Lib.countB s ⟨#[92]⟩) s) (Lib.countB s ⟨#[92]⟩ + 1) = ((Lib.splitB ⟨#[92]⟩ 0 (Lib.countB s ⟨#[92]⟩) s).map Value.string).toArray := by rw [← hlen]; exact Lib.cellsOf_full _
  rw [e2, splitB_spB] at c
  have hl2 : Lib.countB s ⟨#[92]⟩ + 1 = (spB s).length := by rw [← splitB_spB, hlen]
  rw [hl2] at c
  replace c : Calls Tryz.prog 48 #[.string s, .string { data := #[92] }, .int .i64 0, .int .i64 (-1)] w fun e w' => e = .returned (.slice (some ⟨w.heap.size, 0, none⟩) (spB s).length (spB s).length) ∧ w' = w.alloc (.cells ((spB s).map Value.string).toArray 9) := c
  generalize (spB s).length = n at *
  generalize ((spB s).map Value.string).toArray = C at *
  clear hI hC e2 hl2 hlen hle
  go_enter Tryz.func20, Tryz.ntmps20
  go_wp2_with (go_at_call 48; refine c.mono ?_; rintro e w' ⟨rfl, rfl⟩)
  go_ret
  exact ⟨rfl, rfl⟩
end Go.Proofs.YtehgeninocbpeaaGreatDoor.Sp

namespace Go.Proofs.YtehgeninocbpeaaGreatDoor.Tm
open Go Go.Proofs Go.RowKit
def spM (vr F L : Int) (u : ByteArray) : Bool := decide (oR vr u 0 = none) && (decide (F ≤ (ow vr u 0).1) && decide ((ow vr u 0).1 ≤ L))
structure Cap (W : World) (pv pa : Nat) (vr F L : Int) : Prop where
  c : W.cell? ⟨pv, 0, none⟩ = some (.int .i64 vr)
  r : W.rowIs pa 66 2 (f2I F L)
  t : Mt W
  o : Ot W
theorem Cap.on {W W' : World} {pv pa : Nat} {vr F L : Int} (h : Cap W pv pa vr F L) (hb : Below W.heap.size W W') : Cap W' pv pa vr F L :=
  ⟨(hb.cell (cell_lt h.c)).trans h.c, h.r.of_block (hb.block _ h.r.lt), h.t.on hb, h.o.on hb⟩
def ptr (p : Nat) : Value := .pointer (some ⟨p, 0, none⟩)
def BoolP (W : World) (b : Bool) (e : Ending) (w' : World) : Prop := e = .returned (.bool b) ∧ Below W.heap.size W w'
set_option maxRecDepth 100000 in
set_option maxHeartbeats 2000000 in
theorem clos60 (W : World) (pv pa : Nat) (vr F L : Int) (hv : isSp vr) (u : ByteArray) (hu : u.size ≤ 140737488351232) (h : Cap W pv pa vr F L) : Calls Tryz.prog 60 #[.string u, ptr pv, ptr pa] W (BoolP W (spM vr F L u)) := by
  have c := own_any W vr hv u hu h.t h.o
  unfold spM ptr
  have HC : Hid (Cap W pv pa vr F L) := h
  have h0 := h.c
  generalize (ow vr u 0).1 = A at *
  generalize (ow vr u 0).2 = B at *
  generalize oR vr u 0 = o at *
  unfold sp at c
  obtain ⟨Z, hZ⟩ : ∃ Z, (decide (o = none) && (decide (F ≤ A) && decide (A ≤ L))) = Z := ⟨_, rfl⟩
  have HZ : Hid ((decide (o = none) && (decide (F ≤ A) && decide (A ≤ L))) = Z) := hZ
  rw [hZ]
  clear hZ h hu
  go_enter Tryz.func60, Tryz.ntmps60
  go_wp2_with (go_at_call 61; refine Stop.mk ?_)
  refine Stop.out (c.mono ?_)
  rintro e W1 ⟨v, rfl, hvv, hb⟩
  have C1 : Hid (Cap W1 pv pa vr F L) := HC.out.on hb
  have B1 : Hid (Below W.heap.size W W1) := hb
  clear hb c HC h0
  obtain ⟨W2, hW2⟩ : ∃ W2, W1.alloc (.cells #[.int .i64 A, .int .i64 B] 66) = W2 := ⟨_, rfl⟩
  have hb2 : Below W1.heap.size W1 W2 := hW2 ▸ (Below.refl _ _).alloc (Nat.le_refl _) _
  have C2 : Hid (Cap W2 pv pa vr F L) := C1.out.on hb2
  have B2 : Hid (Below W.heap.size W W2) := B1.out.trans (hb2.mono B1.out.size)
  have R2 : W2.rowIs W1.heap.size 66 2 (f2I A B) := hW2 ▸ World.rowIs_alloc W1 _ 66 _ (row_lit _)
  have a0 : W2.cell? ⟨W1.heap.size, 0, none⟩ = some (.int .i64 A) := R2.cell (i := 0) (by omega)
  have f0 : W2.cell? ⟨pa, 0, none⟩ = some (.int .i64 F) := C2.out.r.cell (i := 0) (by omega)
  have f1 : W2.cell? ⟨pa, 1, none⟩ = some (.int .i64 L) := C2.out.r.cell (i := 1) (by omega)
  generalize hq : W1.heap.size = q at *
  clear hb2 R2 C1 B1 C2
  cases o with
  | some x =>
    obtain ⟨g, rfl, _⟩ := hvv
    have HR : Hid (false = Z) := HZ.out
    clear HZ
    go_wp2
    go_ret
    exact ⟨by rw [← HR.out]; rfl, B2.out⟩
  | none =>
    obtain rfl : v = .nilIface := hvv
    by_cases h1 : F ≤ A
    · by_cases h2 : A ≤ L
      · have HR : Hid (true = Z) := by show _ = _; rw [← HZ.out, decide_eq_true h1, decide_eq_true h2]; rfl
        clear HZ
        go_wp2
        go_ret
        exact ⟨by rw [← HR.out]; simp, B2.out⟩
      · have HR : Hid (false = Z) := by show _ = _; rw [← HZ.out, decide_eq_true h1, decide_eq_false h2]; rfl
        clear HZ
        go_wp2
        go_ret
        exact ⟨by rw [← HR.out]; simp [h2], B2.out⟩
    · have HR : Hid (false = Z) := by show _ = _; rw [← HZ.out, decide_eq_false h1]; rfl
      clear HZ
      go_wp2
      go_ret
      exact ⟨by rw [← HR.out]; simp, B2.out⟩
end Go.Proofs.YtehgeninocbpeaaGreatDoor.Tm

namespace Go.Proofs.YtehgeninocbpeaaGreatDoor.Tm
open Go Go.Proofs Go.RowKit
def SpP (W : World) (vr : Int) (F L : Int) (o : Option (Int × Int)) (e : Ending) (w' : World) : Prop :=
  Below W.heap.size W w' ∧ ((o = none ∧ ∃ pv pa, e = .returned (.tuple #[.func (.func 60) #[] #[ptr pv, ptr pa], .nilIface]) ∧ Cap w' pv pa vr F L) ∨ (o ≠ none ∧ ∃ v, e = .returned (.tuple #[.nilFunc, v]) ∧ PErr w' v o))
set_option maxRecDepth 100000 in
set_option maxHeartbeats 2000000 in
theorem spanMatcher_any (w : World) (vr : Int) (hv : isSp vr) (key : ByteArray) (hk : key.size ≤ 140737488351232) (hT : Mt w) (hO : Ot w) (hR : Rt w) : Calls Tryz.prog 36 #[.int .i64 vr, .string key] w (SpP w vr (ask vr key).1.1 (ask vr key).1.2 (ask vr key).2) := by
  obtain ⟨W0, hW0⟩ : ∃ W0, w.alloc (.cells #[.int .i64 vr] 26) = W0 := ⟨_, rfl⟩
  have hb0 : Below w.heap.size w W0 := hW0 ▸ (Below.refl _ _).alloc (Nat.le_refl _) _
  have c0 : W0.cell? ⟨w.heap.size, 0, none⟩ = some (.int .i64 vr) := by rw [← hW0]; simp
  have c := asked_any W0 vr hv key hk (hT.on hb0) (hO.on hb0) (hR.on hb0)
  have HT : Hid (Mt W0) := hT.on hb0
  have HO : Hid (Ot W0) := hO.on hb0
  have HB : Hid (Below w.heap.size w W0) := hb0
  generalize (ask vr key).1.1 = F at *
  generalize (ask vr key).1.2 = L at *
  generalize (ask vr key).2 = o at *
  unfold sp at c
  clear hT hO hR hb0 hv hk
  go_enter Tryz.func36, Tryz.ntmps36
  go_wp2_with (go_at_call 59; refine Stop.mk ?_)
  refine Stop.out (c.mono ?_)
  rintro e W1 ⟨v, rfl, hvv, hb⟩
  obtain ⟨W2, hW2⟩ : ∃ W2, W1.alloc (.cells #[.int .i64 F, .int .i64 L] 66) = W2 := ⟨_, rfl⟩
  have hb2 : Below W1.heap.size W1 W2 := hW2 ▸ (Below.refl _ _).alloc (Nat.le_refl _) _
  have hb02 : Below W0.heap.size W0 W2 := hb.trans (hb2.mono hb.size)
  have C2 : Hid (Cap W2 w.heap.size W1.heap.size vr F L) := ⟨(hb02.cell (cell_lt c0)).trans c0, hW2 ▸ World.rowIs_alloc W1 _ 66 _ (row_lit _), HT.out.on hb02, HO.out.on hb02⟩
  have B2 : Hid (Below w.heap.size w W2) := HB.out.trans (hb02.mono HB.out.size)
  have V2 : Hid (PErr W2 v o) := hvv.next hb2
  clear hb hb2 hb02 HT HO HB c c0 hW0
  cases o with
  | some x =>
    obtain ⟨g, rfl, _⟩ := hvv
    go_wp2
    refine bodyPost_ret (v := .tuple #[.nilFunc, .iface 88 (.pointer (some ⟨g, 0, none⟩))]) (by simp [results, Tryz.results36, go_sem]) rfl ⟨B2.out, .inr ⟨by simp, _, rfl, V2.out⟩⟩
  | none =>
    obtain rfl : v = .nilIface := hvv
    go_wp2
    refine bodyPost_ret (v := .tuple #[.func (.func 60) #[] #[ptr w.heap.size, ptr W1.heap.size], .nilIface]) (by simp [results, Tryz.results36, go_sem, ptr]) rfl ⟨B2.out, .inl ⟨rfl, _, _, rfl, C2.out⟩⟩
def fdx (m : ByteArray → Bool) : List ByteArray → Nat → Int
  | [], _ => -1
  | x :: xs, i => if m x = true then (i : Int) else fdx m xs (i + 1)
theorem fdx_any (m : ByteArray → Bool) : ∀ xs i, decide (0 ≤ fdx m xs i) = xs.any m
  | [], i => by rw [fdx]; rfl
  | x :: xs, i => by
    rw [fdx, List.any_cons]
    cases hx : m x with
    | true => rw [if_pos rfl]; simp
    | false => rw [if_neg (by simp), fdx_any m xs (i + 1)]; simp
theorem fdx_le (m : ByteArray → Bool) : ∀ xs i, -1 ≤ fdx m xs i ∧ fdx m xs i ≤ i + xs.length
  | [], i => by rw [fdx]; constructor <;> simp
  | x :: xs, i => by
    rw [fdx]
    have := fdx_le m xs (i + 1)
    split
    · simp; omega
    · simp at this ⊢; omega
set_option maxRecDepth 100000 in
set_option maxHeartbeats 2000000 in
theorem indexFunc60 (W : World) (g cap : Nat) (xs : List ByteArray) (hn : xs.length ≤ 1000000000000) (cells : ∀ i (h : i < xs.length), W.cell? ⟨g, i, none⟩ = some (.string xs[i])) (pv pa : Nat) (m : ByteArray → Bool)
    (hc : ∀ W', Below W.heap.size W W' → ∀ u ∈ xs, Calls Tryz.prog 60 #[.string u, ptr pv, ptr pa] W' (BoolP W' (m u))) :
    Calls Tryz.prog 47 #[.slice (some ⟨g, 0, none⟩) xs.length cap, .func (.func 60) #[] #[ptr pv, ptr pa]] W fun e w' => e = .returned (.int .i64 (fdx m xs 0)) ∧ Below W.heap.size W w' := by
  unfold ptr at hc ⊢
  obtain ⟨R, hR⟩ : ∃ R, fdx m xs 0 = R := ⟨_, rfl⟩
  have HR : Hid (fdx m (xs.drop 0) 0 = R) := hR
  rw [hR]
  obtain ⟨n, hl⟩ : ∃ n, xs.length = n := ⟨_, rfl⟩
  have HL : Hid (xs.length = n) := hl
  have HCe : Hid (∀ i (h : i < xs.length), W.cell? ⟨g, i, none⟩ = some (.string xs[i])) := cells
  have HC : Hid _ := hc
  rw [hl] at hn ⊢
  clear hR cells hc hl
  go_enter Tryz.func47, Tryz.ntmps47
  go_wp2
  go_loopg [8] n (fun k s8 wx => ∃ i : Nat, s8 = .int .i64 (i : Int) ∧ i ≤ n ∧ k + i = n ∧ Hid (fdx m (xs.drop i) i = R) ∧ Hid (Below W.heap.size W wx))
  case atStart => exact ⟨0, rfl, by omega, by omega, HR, Below.refl _ _⟩
  case round =>
    obtain ⟨i, rfl, hi, hg, HI, HB⟩ := hrel
    by_cases hlt : i < n
    · have hlx : i < xs.length := by have := HL.out; omega
      obtain ⟨u, hu⟩ : ∃ u, xs[i] = u := ⟨_, rfl⟩
      have cl : wr.cell? ⟨g, i, none⟩ = some (.string u) := by
        have h0 := HCe.out i hlx
        rw [hu] at h0
        exact (HB.out.cell (cell_lt h0)).trans h0
      have c := HC.out wr HB.out u (by rw [← hu]; exact List.getElem_mem hlx)
      have HI2 : Hid ((if m u = true then (i : Int) else fdx m (xs.drop (i + 1)) (i + 1)) = R) := by
        have := HI.out
        rw [List.drop_eq_getElem_cons hlx, fdx, hu] at this
        exact this
      clear HI hlx hu
      cases hm : m u with
      | true =>
        rw [hm] at c
        have e : Hid ((i : Int) = R) := by have := HI2.out; rw [if_pos hm] at this; exact this
        clear HI2 hm
        go_wp2_with (go_at_call 60; refine Stop.mk ?_)
        refine Stop.out (c.mono ?_)
        rintro e2 W2 ⟨rfl, hb2⟩
        have HB2 : Hid (Below W.heap.size W W2) := HB.out.trans (hb2.mono HB.out.size)
        clear hb2 c
        go_wp2
        go_ret
        exact ⟨by rw [← e.out]; rfl, HB2.out⟩
      | false =>
        rw [hm] at c
        have HI3 : Hid (fdx m (xs.drop (i + 1)) (i + 1) = R) := by have := HI2.out; rw [if_neg (by rw [hm]; simp)] at this; exact this
        clear HI2 hm
        go_wp2_with (go_at_call 60; refine Stop.mk ?_)
        refine Stop.out (c.mono ?_)
        rintro e2 W2 ⟨rfl, hb2⟩
        have HB2 : Hid (Below W.heap.size W W2) := HB.out.trans (hb2.mono HB.out.size)
        clear hb2 c
        go_wp2
        go_roundg (n - (i + 1))
        case measure => omega
        case rel => exact ⟨i + 1, by simp, by omega, by omega, HI3, HB2⟩
    · have e : Hid ((-1 : Int) = R) := by
        have := HI.out
        rw [List.drop_eq_nil_of_le (by have := HL.out; omega), fdx] at this
        exact this
      clear HI
      go_wp2
      go_ret
      exact ⟨by rw [← e.out]; rfl, HB.out⟩
set_option maxRecDepth 100000 in
theorem contains60 (W : World) (g cap : Nat) (xs : List ByteArray) (hn : xs.length ≤ 1000000000000) (cells : ∀ i (h : i < xs.length), W.cell? ⟨g, i, none⟩ = some (.string xs[i])) (pv pa : Nat) (m : ByteArray → Bool)
    (hc : ∀ W', Below W.heap.size W W' → ∀ u ∈ xs, Calls Tryz.prog 60 #[.string u, ptr pv, ptr pa] W' (BoolP W' (m u))) :
    Calls Tryz.prog 19 #[.slice (some ⟨g, 0, none⟩) xs.length cap, .func (.func 60) #[] #[ptr pv, ptr pa]] W (BoolP W (xs.any m)) := by
  have c := indexFunc60 W g cap xs hn cells pv pa m hc
  have e := fdx_any m xs 0
  have b := fdx_le m xs 0
  rw [← e]
  generalize fdx m xs 0 = R at *
  clear hc cells e
  generalize xs.length = n at *
  unfold ptr at c ⊢
  go_enter Tryz.func19, Tryz.ntmps19
  go_wp2_with (go_at_call 47; refine Stop.mk ?_)
  refine Stop.out (c.mono ?_)
  rintro e W1 ⟨rfl, hb⟩
  go_wp2
  go_ret
  exact ⟨rfl, hb⟩
theorem text_some {k : ByteArray} (h : k.size ≠ 0) : k.toList.isEmpty = false := by
  rw [ByteArray.toList_eq]
  cases hl : k.data.toList with
  | nil =>
    have : k.data.toList.length = 0 := by rw [hl]; rfl
    rw [Array.length_toList] at this
    exact absurd this h
  | cons a l => rfl
set_option maxRecDepth 100000 in
set_option maxHeartbeats 2000000 in
theorem matcher_sp (w : World) (vr : Int) (hv : isSp vr) (key : ByteArray) (hk : key.size ≤ 140737488351232) (hk0 : key.size ≠ 0) (hT : Mt w) (hO : Ot w) (hR : Rt w) : Calls Tryz.prog 17 #[.int .i64 vr, .string key] w (SpP w vr (ask vr key).1.1 (ask vr key).1.2 (ask vr key).2) := by
  obtain ⟨W0, hW0⟩ : ∃ W0, w.alloc (.cells #[.string key] 9) = W0 := ⟨_, rfl⟩
  have hb0 : Below w.heap.size w W0 := hW0 ▸ (Below.refl _ _).alloc (Nat.le_refl _) _
  have c0 : W0.cell? ⟨w.heap.size, 0, none⟩ = some (.string key) := by rw [← hW0]; simp
  have cR := ruleOf_any W0 vr (hR.on hb0)
  rw [isSp_rB hv] at cR
  have cS := fun W h1 h2 h3 => spanMatcher_any W vr hv key hk h1 h2 h3
  have HT : Hid (Mt W0) := hT.on hb0
  have HO : Hid (Ot W0) := hO.on hb0
  have HR : Hid (Rt W0) := hR.on hb0
  have HB : Hid (Below w.heap.size w W0) := hb0
  have hke := text_some hk0
  generalize (ask vr key).1.1 = F at *
  generalize (ask vr key).1.2 = L at *
  generalize (ask vr key).2 = o at *
  clear hT hO hR hb0 hk hk0
  go_enter Tryz.func17, Tryz.ntmps17
  go_wp2_with (go_at_call 18; refine Stop.mk ?_)
  refine Stop.out (cR.mono ?_)
  rintro e W1 ⟨rfl, hb⟩
  have hf := field0 W1 1 (rC vr)
  have c1 : W1.cell? ⟨w.heap.size, 0, none⟩ = some (.string key) := (hb.cell (cell_lt c0)).trans c0
  have cs := cS W1 (HT.out.on hb) (HO.out.on hb) (HR.out.on hb)
  have HB1 : Hid (Below w.heap.size w W1) := HB.out.trans (hb.mono HB.out.size)
  clear cR hb HT HO HR HB c0 hW0 cS
  go_wp2_with (go_at_call 36; refine Stop.mk ?_)
  refine Stop.out (cs.mono ?_)
  rintro e W2 ⟨hb2, h | h⟩
  · obtain ⟨ho, pv, pa, rfl, hC⟩ := h
    have HB2 : Hid (Below w.heap.size w W2) := HB1.out.trans (hb2.mono HB1.out.size)
    have HC : Hid (Cap W2 pv pa vr F L) := hC
    have HO : Hid (o = none) := ho
    unfold ptr
    clear hC hb2 cs ho
    go_wp2
    refine bodyPost_ret (v := .tuple #[.func (.func 60) #[] #[ptr pv, ptr pa], .nilIface]) (by simp [results, Tryz.results17, go_sem, ptr]) rfl ⟨HB2.out, .inl ⟨HO.out, _, _, rfl, HC.out⟩⟩
  · obtain ⟨ho, v, rfl, hV⟩ := h
    have HB2 : Hid (Below w.heap.size w W2) := HB1.out.trans (hb2.mono HB1.out.size)
    have HV : Hid (PErr W2 v o) := hV
    have HO : Hid (o ≠ none) := ho
    clear hV hb2 cs ho
    go_wp2
    refine bodyPost_ret (v := .tuple #[.nilFunc, v]) (by simp [results, Tryz.results17, go_sem]) rfl ⟨HB2.out, .inr ⟨HO.out, _, rfl, HV.out⟩⟩
theorem spB_size (v : ByteArray) : ∀ u ∈ Sp.spB v, u.size ≤ v.size := by
  have key : ∀ l : List UInt8, ∀ x ∈ Sp.spL l, x.length ≤ l.length := by
    intro l
    induction l with
    | nil => intro x hx; rw [Sp.spL] at hx; rw [List.mem_singleton.1 hx]; exact Nat.le_refl _
    | cons b l ih =>
      intro x hx
      rw [Sp.spL] at hx
      split at hx
      · rcases List.mem_cons.1 hx with rfl | hx
        · exact Nat.zero_le _
        · have := ih x hx
          rw [List.length_cons]; omega
      · cases hs : Sp.spL l with
        | nil => exact absurd hs (Sp.spL_ne l)
        | cons a t =>
          rw [hs] at hx ih
          rcases List.mem_cons.1 hx with rfl | hx
          · have := ih a (by simp)
            rw [List.length_cons, List.length_cons]; omega
          · have := ih x (List.mem_cons_of_mem _ hx)
            rw [List.length_cons]; omega
  intro u hu
  unfold Sp.spB Sp.bsL at hu
  obtain ⟨x, hx, rfl⟩ := List.mem_map.1 hu
  have := key _ x hx
  rw [Array.length_toList] at this
  show x.toArray.size ≤ _
  rw [List.size_toArray]
  exact this
end Go.Proofs.YtehgeninocbpeaaGreatDoor.Tm
