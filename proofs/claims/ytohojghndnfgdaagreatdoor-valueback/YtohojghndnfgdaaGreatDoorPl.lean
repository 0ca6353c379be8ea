import Derived.Test.YtohojghndnfgdaaGreatDoorPk
/-
  DERIVED. groupText.
-/
namespace Go.Proofs.YtohojghndnfgdaaGreatDoor
open Go Go.Proofs Go.RowKit

theorem drop5 (L : List ByteArray) : (a5 L) = #[.string (t5 L 0), .string (t5 L 1), .string (t5 L 2), .string (t5 L 3), .string (t5 L 4)] := rfl
theorem row5_of (w : World) (L : List ByteArray) : (w.alloc (.cells (a5 L) 39)).rowIs w.heap.size 39 5 (f5 L) :=
  World.rowIs_alloc w (a5 L) 39 (f5 L) (fun i hi => by
    have h3 : i = 0 ∨ i = 1 ∨ i = 2 ∨ i = 3 ∨ i = 4 := by have : (a5 L).size = 5 := rfl; omega
    rcases h3 with rfl | rfl | rfl | rfl | rfl <;> rfl)
theorem idx5 (L : List ByteArray) (c : Nat) (hc : c < 5) (w : World) : (Instr.index 39 (.agg #[.string (t5 L 0), .string (t5 L 1), .string (t5 L 2), .string (t5 L 3), .string (t5 L 4)]) (.int .i64 (c : Int))).run Tryz.prog w = .ok (.string (t5 L c)) w :=
  match c, hc with
  | 0, _ => by kernel_rfl
  | 1, _ => by kernel_rfl
  | 2, _ => by kernel_rfl
  | 3, _ => by kernel_rfl
  | 4, _ => by kernel_rfl
structure BX (w wx : World) (B : Nat) (L : List ByteArray) : Prop where
  row : wx.rowIs B 39 5 (f5 L)
  bel : Below B w wx
theorem BX.on {w wx wy : World} {B : Nat} {L : List ByteArray} (h : BX w wx B L) (hb : Below wx.heap.size wx wy) : BX w wy B L := ⟨h.row.of_block (hb.block _ h.row.lt), h.bel.trans (hb.mono (Nat.le_of_lt h.row.lt))⟩
theorem dropE_len (xs : List (List UInt8)) : (dropE xs).length ≤ xs.length ∧ ((dropE xs).map List.length).sum ≤ (xs.map List.length).sum := by
  unfold dropE
  obtain ⟨ys, hy⟩ : ∃ ys, xs.reverse = ys ++ xs.reverse.dropWhile (·.isEmpty) := ⟨_, (List.takeWhile_append_dropWhile).symm⟩
  have h1 : xs.length = ys.length + (xs.reverse.dropWhile (·.isEmpty)).length := by
    have := congrArg List.length hy
    rw [List.length_reverse, List.length_append] at this
    exact this
  have h2 : (xs.map List.length).sum = (ys.map List.length).sum + ((xs.reverse.dropWhile (·.isEmpty)).map List.length).sum := by
    rw [← List.sum_append_nat, ← List.map_append, ← hy, List.map_reverse, List.sum_reverse_nat]
  rw [List.length_reverse, List.map_reverse, List.sum_reverse_nat]
  omega
theorem gB_size (L : List ByteArray) (h : ∀ j, j < 5 → (t5 L j).size ≤ 1048576) : (gB L).size ≤ 5242885 := by
  show (Lib.join (dropE (l5 L)) [94]).toArray.size ≤ _
  rw [List.size_toArray]
  have h1 := join_len [94] (dropE (l5 L))
  obtain ⟨h2, h3⟩ := dropE_len (l5 L)
  have h4 : ((l5 L).map List.length).sum ≤ 5242880 := by
    have e0 := h 0 (by omega); have e1 := h 1 (by omega); have e2 := h 2 (by omega); have e3 := h 3 (by omega); have e4 := h 4 (by omega)
    have q : ∀ x : ByteArray, x.data.toList.length = x.size := fun x => by rw [Array.length_toList]; rfl
    simp only [l5, List.map_cons, List.map_nil, List.sum_cons, List.sum_nil, q]
    omega
  have h5 : (l5 L).length = 5 := rfl
  have h6 : ([94] : List UInt8).length = 1 := rfl
  rw [h6] at h1
  omega

set_option maxRecDepth 100000 in
set_option maxHeartbeats 4000000 in
theorem text17_any (w : World) (L : List ByteArray) (hL : ∀ j, j < 5 → (t5 L j).size ≤ 1048576) (k : Nat) (hk : k ≤ 10) : Calls Tryz.prog 22 #[.agg (a5 L), .int .i64 (k : Int)] w fun e w' => ∃ v, e = .returned (.tuple #[.string (GT L).2, v]) ∧ PErr w' v ((GT L).1.map fun x => ((k : Int) + (x.1 : Int), x.2)) ∧ Below w.heap.size w w' := by
  obtain ⟨B, hB⟩ : ∃ B, w.heap.size = B := ⟨_, rfl⟩
  obtain ⟨R1, R2, hR⟩ : ∃ a b, GT L = (a, b) := ⟨_, _, rfl⟩
  rw [hR]
  have HR : Hid (GT L = (R1, R2)) := hR
  clear hR
  dsimp only
  have HX0 : Hid (BX w (w.alloc (.cells (a5 L) 39)) B L) := by
    have := row5_of w L
    rw [hB] at this
    exact ⟨this, (Below.refl _ w).alloc (by omega) _⟩
  have HLL : Hid (∀ j, j < 5 → (t5 L j).size ≤ 1048576) := hL
  clear hL
  rw [drop5] at HX0 ⊢
  go_enter Tryz.func22, Tryz.ntmps22
  go_wp2
  go_loopg [11] 5 (fun g s11 wx => ∃ (c : Nat), s11 = .int .i64 (c : Int) ∧ g + c = 5 ∧ Hid (∀ j, j < c → okc (t5 L j) = true) ∧ Hid (BX w wx B L))
  case atStart => exact ⟨0, rfl, rfl, fun j h => absurd h (Nat.not_lt_zero _), HX0⟩
  case round =>
    clear HX0
    obtain ⟨c, rfl, hg, HJ, HX⟩ := hrel
    by_cases hc : c < 5
    · obtain ⟨x, hx⟩ : ∃ x, t5 L c = x := ⟨_, rfl⟩
      have c27 := isComp_any wr x
      cases hok : okc x with
      | true =>
        rw [hok] at c27
        have HJ2 : Hid (∀ j, j < c + 1 → okc (t5 L j) = true) := fun j hj => by
          by_cases hjc : j = c
          · subst hjc; rw [hx]; exact hok
          · exact HJ.out j (by omega)
        clear hok HJ HR
        have hix := idx5 L c hc
        rw [hx] at hix
        have hcI : (c : Int) < 5 := by omega
        all_goals
          go_wp2_with (go_at_call 44; refine Stop.mk ?_)
          refine Stop.out (c27.mono ?_)
          rintro e W1 ⟨rfl, hb1⟩
          have HX1 : Hid (BX w W1 B L) := HX.out.on hb1
          clear hb1 c27 HX
          go_wp2
          go_roundg (5 - (c + 1))
          case measure => omega
          case rel => exact ⟨c + 1, by first | rfl | simp, by omega, HJ2, HX1⟩
      | false =>
        rw [hok] at c27
        have hge := gE_at hc HJ.out (by rw [hx]; exact hok)
        have hGT : GT L = (some (c, 102), ⟨#[]⟩) := by unfold GT; rw [hge]
        obtain ⟨rfl, rfl⟩ := Prod.mk.inj (HR.out.symm.trans hGT)
        have c9 := fun W => refusal_any ((k : Int) + (c : Int)) 102 W
        clear hok HJ HR hge hGT
        have hix := idx5 L c hc
        rw [hx] at hix
        have hcI : (c : Int) < 5 := by omega
        all_goals
          go_wp2_with (go_at_call 44; refine Stop.mk ?_)
          refine Stop.out (c27.mono ?_)
          rintro e W1 ⟨rfl, hb1⟩
          have HX1 : Hid (BX w W1 B L) := HX.out.on hb1
          clear hb1 c27 HX
          go_wp2_with (go_at_call 15; refine Stop.mk ?_)
          refine Stop.out ((c9 _).mono ?_)
          rintro e W2 ⟨v, rfl, hv, hb2⟩
          have HX2 : Hid (BX w W2 B L) := HX1.out.on hb2
          have HV : Hid (PErr W2 v _) := hv
          clear hb2 c9 HX1 hv
          go_wp2
          refine bodyPost_ret (v := .tuple #[.string ⟨#[]⟩, v]) (by simp [results, Tryz.results22, go_sem]) rfl ⟨v, rfl, by simpa using HV.out, by rw [hB]; exact HX2.out.bel⟩
    · obtain rfl : c = 5 := by omega
      have hge := gE_none HJ.out
      have hno := l5_no HJ.out
      have htj := trim_join 94 5 (l5 L) rfl (fun x hx => (hno x hx).1)
      have hsz := gB_size L HLL.out
      have c19 := join19_any wr B 5 5 [t5 L 0, t5 L 1, t5 L 2, t5 L 3, t5 L 4] 94 rfl (fun j x hj => by
        have hj5 := (List.getElem?_eq_some_iff.1 hj).1
        have h5 : j = 0 ∨ j = 1 ∨ j = 2 ∨ j = 3 ∨ j = 4 := by simp at hj5; omega
        rcases h5 with rfl | rfl | rfl | rfl | rfl
        all_goals
          obtain rfl := Option.some.inj hj
          exact HX.out.row.cell (by omega)) HX.out.row.lt (by omega) (Nat.le_refl _) (by
        have h1 := join_len [94] (l5 L)
        have h4 : ((l5 L).map List.length).sum ≤ 5242880 := by
          have e0 := HLL.out 0 (by omega); have e1 := HLL.out 1 (by omega); have e2 := HLL.out 2 (by omega); have e3 := HLL.out 3 (by omega); have e4 := HLL.out 4 (by omega)
          have q : ∀ x : ByteArray, x.data.toList.length = x.size := fun x => by rw [Array.length_toList]; rfl
          simp only [l5, List.map_cons, List.map_nil, List.sum_cons, List.sum_nil, q]
          omega
        have h6 : (l5 L).length * ([94] : List UInt8).length = 5 := rfl
        show (Lib.join (l5 L) [94]).length ≤ _
        omega)
      change Calls Tryz.prog 24 #[.slice (some ⟨B, 0, none⟩) 5 5, .string ⟨#[94]⟩] wr (fun e w' => e = .returned (.string ⟨(Lib.join (l5 L) [94]).toArray⟩) ∧ Below wr.heap.size wr w') at c19
      obtain ⟨J, hJ⟩ : ∃ J : ByteArray, ⟨(Lib.join (l5 L) [94]).toArray⟩ = J := ⟨_, rfl⟩
      have hJs : J.size ≤ 5242885 := by
        rw [← hJ]
        show (Lib.join (l5 L) [94]).toArray.size ≤ _
        rw [List.size_toArray]
        have h1 := join_len [94] (l5 L)
        have h4 : ((l5 L).map List.length).sum ≤ 5242880 := by
          have e0 := HLL.out 0 (by omega); have e1 := HLL.out 1 (by omega); have e2 := HLL.out 2 (by omega); have e3 := HLL.out 3 (by omega); have e4 := HLL.out 4 (by omega)
          have q : ∀ x : ByteArray, x.data.toList.length = x.size := fun x => by rw [Array.length_toList]; rfl
          simp only [l5, List.map_cons, List.map_nil, List.sum_cons, List.sum_nil, q]
          omega
        have h6 : (l5 L).length * ([94] : List UInt8).length = 5 := rfl
        omega
      have c18 := fun W => trim18_any W J 94 (by decide) (by omega)
      have hT : (⟨(Lib.trimRightS J.data.toList [94]).toArray⟩ : ByteArray) = gB L := by
        rw [← hJ]
        show (⟨(Lib.trimRightS (Lib.join (l5 L) [94]) [94]).toArray⟩ : ByteArray) = _
        rw [htj]
        rfl
      rw [hT] at c18
      rw [hJ] at c19
      obtain ⟨G, hG⟩ : ∃ G, gB L = G := ⟨_, rfl⟩
      rw [hG] at c18 hsz
      have hGT : GT L = if 64 < rn G 0 then (some (0, 103), ⟨#[]⟩) else (none, G) := by unfold GT; rw [hge, hG]
      rw [hGT] at HR
      have HXB : Hid (BX w wr B L) := HX.out
      clear hge hno htj hJ hT hG hGT HJ HX HLL hc
      go_wp2_with (go_at_call 24; refine Stop.mk ?_)
      refine Stop.out (c19.mono ?_)
      rintro e W1 ⟨rfl, hb1⟩
      have HX1 : Hid (BX w W1 B L) := HXB.out.on hb1
      clear hb1 c19 HXB
      go_wp2_with (go_at_call 23; refine Stop.mk ?_)
      refine Stop.out ((c18 _).mono ?_)
      rintro e W2 ⟨rfl, hb2⟩
      have HX2 : Hid (BX w W2 B L) := HX1.out.on hb2
      clear hb2 c18 HX1
      obtain ⟨Q, hQ⟩ : ∃ Q, W2.heap.size = Q := ⟨_, rfl⟩
      have hQB : B < Q := by rw [← hQ]; exact HX2.out.row.lt
      go_wp2
      go_loopg [9] G.size (fun g s9 wx => ∃ (p n : Nat), s9 = .int .i64 (n : Int) ∧ g + p = G.size ∧ n ≤ p ∧ Hid (n + rn G p = rn G 0) ∧ Hid (wx.heap[Q]? = some (.stringIter G p)) ∧ Hid (Below B w wx))
      case atStart =>
        refine ⟨0, 0, rfl, by omega, by omega, by show _ = _; omega, ?_, ?_⟩
        · show _ = _; rw [← hQ]; exact World.iter_heap W2 G 0
        · exact HX2.out.bel.alloc (by omega) _
      case round =>
        clear HX2
        obtain ⟨p, n, rfl, hg, hnp, HN, HI, HBw⟩ := hrel
        by_cases hp : p < G.size
        · have hnx : ∀ ty, (Instr.next (.pointer (some ⟨Q, 0, none⟩)) true ty).run Tryz.prog wr = _ := fun ty => Lib.run_next_any_at wr Q G p ty HI.out hp
          have HI1 : Hid ((wr.iterAt Q G (p + (Utf8.decode G p).2)).heap[Q]? = some (.stringIter G (p + (Utf8.decode G p).2))) := Lib.iterAt_heap wr Q G p _ HI.out
          have HB1 : Hid (Below B w (wr.iterAt Q G (p + (Utf8.decode G p).2))) := Lib.below_iterAt HBw.out (k := Q) (by omega) G _
          have hw1 : 1 ≤ (Utf8.decode G p).2 := oneW_pos G p hp
          have hd1 := decode_le G p
          have HN2 : Hid (n + 1 + rn G (p + (Utf8.decode G p).2) = rn G 0) := by have := HN.out; have := rn_step G p hp; show _ = _; omega
          generalize (Utf8.decode G p).1 = d1 at *
          have hle : p + (Utf8.decode G p).2 ≤ G.size := by
            rcases shape G p hp with ⟨h1, _⟩ | ⟨h1, h2, _⟩ | ⟨h1, h2, _⟩ | ⟨h1, h2, _⟩ <;> omega
          generalize (Utf8.decode G p).2 = d2 at *
          generalize wr.iterAt Q G (p + d2) = W3 at *
          clear HN HI HBw
          go_wp2
          go_roundg (G.size - (p + d2))
          case measure => omega
          case rel => exact ⟨p + d2, n + 1, by first | rfl | simp, by omega, by omega, HN2, HI1, HB1⟩
        · have hnx : ∀ ty, (Instr.next (.pointer (some ⟨Q, 0, none⟩)) true ty).run Tryz.prog wr = _ := fun ty => Lib.run_next_end_at wr Q G p ty HI.out hp
          have hn : rn G 0 = n := by have := HN.out; rw [rn_end G p hp] at this; omega
          rw [hn] at HR
          clear HN hn
          by_cases h64 : 64 < n
          · have h64I : (64 : Int) < (n : Int) := by omega
            have hR := HR.out
            rw [if_pos h64] at hR
            obtain ⟨rfl, rfl⟩ := Prod.mk.inj hR
            have c9 := fun W => refusal_any (k : Int) 103 W
            clear hR HR
            go_wp2_with (go_at_call 15; refine Stop.mk ?_)
            refine Stop.out ((c9 _).mono ?_)
            rintro e W4 ⟨v, rfl, hv, hb2⟩
            have HB4 : Hid (Below B w W4) := HBw.out.trans (hb2.mono (by rw [← hB]; exact HBw.out.size))
            have HV : Hid (PErr W4 v (some ((k : Int), 103))) := hv
            clear hb2 c9 hv
            go_wp2
            refine bodyPost_ret (v := .tuple #[.string ⟨#[]⟩, v]) (by simp [results, Tryz.results22, go_sem]) rfl ⟨v, rfl, by simpa using HV.out, by rw [hB]; exact HB4.out⟩
          · have h64I : ¬ ((64 : Int) < (n : Int)) := by omega
            have hR := HR.out
            rw [if_neg h64] at hR
            obtain ⟨rfl, rfl⟩ := Prod.mk.inj hR
            clear hR HR
            go_wp2
            refine bodyPost_ret (v := .tuple #[.string G, .nilIface]) (by simp [results, Tryz.results22, go_sem]) rfl ⟨_, rfl, rfl, by first | exact HBw.out | (rw [hB]; exact HBw.out)⟩
end Go.Proofs.YtohojghndnfgdaaGreatDoor
