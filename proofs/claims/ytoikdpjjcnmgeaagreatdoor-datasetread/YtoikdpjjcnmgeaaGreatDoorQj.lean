import Derived.Test.YtoikdpjjcnmgeaaGreatDoorBk
import Derived.Test.YtoikdpjjcnmgeaaGreatDoorQc
import Derived.Test.YtoikdpjjcnmgeaaGreatDoorVq
import Derived.Laws.AppendOwnNone
import Derived.Deep.RegionHeld3
section
/-
  DERIVED. What is implied, said in one line; as far as the loop has come.
-/
namespace Go.Proofs.YtoikdpjjcnmgeaaGreatDoor
open Go Go.Proofs Go.RowKit
open Wk (Nd NV)

/-- A text under another VR. -/
def txt (v : Int) (s : ByteArray) : ByteArray := if Rp.tx (Rp.vn v) then Rp.trimB s else s
/-- A node as it reads without its VR. -/
def imp (x : Nd) : Nd := if x.v = 29 ∨ x.v = 18 ∨ (Tb.docF x.t.toNat (Tb.upTo 10)).isSome = true then x else ⟨x.t, dflt x.t.toNat, x.n, txt (dflt x.t.toNat) (Rp.padB (Rp.pd (Rp.vn x.v)) x.s)⟩
def out (L : List Nd) : List Nd := if (res L).2 = true then L.map imp else []
theorem imp_t (x : Nd) : (imp x).t = x.t := by unfold imp; split <;> rfl
theorem imp_n (x : Nd) : (imp x).n = x.n := by unfold imp; split <;> rfl

/-- As far as the loop has come. -/
def mix (L : List Nd) (i : Nat) : List Nd := (L.take i).map imp ++ L.drop i
theorem mix_zero (L : List Nd) : mix L 0 = L := by simp [mix]
theorem mix_all (L : List Nd) : mix L L.length = L.map imp := by simp [mix]
theorem mix_len (L : List Nd) (i : Nat) (h : i ≤ L.length) : (mix L i).length = L.length := by simp [mix]; omega
theorem mix_at (L : List Nd) (i : Nat) (h : i < L.length) : (mix L i)[i]'(by rw [mix_len L i (by omega)]; exact h) = L[i] := by
  simp only [mix]
  rw [List.getElem_append_right (by rw [List.length_map, List.length_take]; omega)]
  simp [Nat.min_eq_left (Nat.le_of_lt h)]
theorem mix_next (L : List Nd) (i : Nat) (h : i < L.length) : mix L (i + 1) = (mix L i).set i (imp L[i]) := by
  simp only [mix]
  have hl : ((L.take i).map imp).length = i := by rw [List.length_map, List.length_take]; omega
  rw [List.set_append_right _ _ (by omega), hl, Nat.sub_self, List.drop_eq_getElem_cons h, List.set_cons_zero, List.take_succ_eq_append_getElem h, List.map_append, List.append_assoc]
  rfl
theorem mix_same (L : List Nd) (i : Nat) (h : i < L.length) (e : imp L[i] = L[i]) : mix L (i + 1) = mix L i := by
  rw [mix_next L i h, e]
  have := mix_at L i h
  conv => lhs; rw [← this]
  exact List.set_getElem_self _
theorem nds_set2 : ∀ (L : List Nd) (i : Nat) (h : i < L.length) (z : Int) (s : ByteArray), ((Wk.nds L).set (i * 4 + 1) (.int .i64 z)).set (i * 4 + 3) (.string s) = Wk.nds (L.set i ⟨(L[i]'h).t, z, (L[i]'h).n, s⟩)
  | a :: L, 0, h, z, s => by simp [Wk.nds, Nd.cs]
  | a :: L, i + 1, h, z, s => by
    have ih := nds_set2 L i (by simpa using h) z s
    rw [List.set_cons_succ, show Wk.nds (a :: L) = a.cs ++ Wk.nds L from rfl, show ∀ M, Wk.nds (a :: M) = a.cs ++ Wk.nds M from fun _ => rfl]
    rw [List.set_append_right _ _ (by simp [Nd.cs]; omega), List.set_append_right _ _ (by simp [Nd.cs]; omega), show (i + 1) * 4 + 1 - a.cs.length = i * 4 + 1 by simp [Nd.cs]; omega, show (i + 1) * 4 + 3 - a.cs.length = i * 4 + 3 by simp [Nd.cs]; omega, ih]
    rfl
/-- A row of nodes, one node anew. -/
theorem own_set2 {w : World} {base g n cap : Nat} {L : List Nd} {i : Nat} (h : w.ownsRow base 54 4 (.slice (some ⟨g, 0, none⟩) n cap) n (Wk.nds L)) (hi : i < L.length) (z : Int) (s : ByteArray) : ((w.setCell ⟨g, i * 4 + 1, none⟩ (.int .i64 z)).setCell ⟨g, i * 4 + 3, none⟩ (.string s)).ownsRow base 54 4 (.slice (some ⟨g, 0, none⟩) n cap) n (Wk.nds (L.set i ⟨(L[i]'hi).t, z, (L[i]'hi).n, s⟩)) := by
  have h1 := (World.ownsRow.stored h (i * 4 + 1) (.int .i64 z)).1
  have h2 := (World.ownsRow.stored h1 (i * 4 + 3) (.string s)).1
  rw [nds_set2 L i hi z s] at h2
  exact h2
theorem pad_size (p : Int) (s : ByteArray) : (Rp.padB p s).size ≤ s.size + 1 := by
  unfold Rp.padB
  split
  · omega
  · split <;> simp [ByteArray.size_append] <;> exact Nat.le_refl _
theorem imp_im (x : Nd) : imp x = imN x := rfl
end Go.Proofs.YtoikdpjjcnmgeaaGreatDoor
end

section
/-
  DERIVED. Implied, the program's.
-/
namespace Go.Proofs.YtoikdpjjcnmgeaaGreatDoor
open Go Go.Proofs Go.RowKit
open Wk (Nd NV)

/-- What Implied tells. -/
def ImpP (w : World) (L : List Nd) (e : Ending) (w' : World) : Prop := ∃ (u ve : Value), e = .returned (.tuple #[u, ve]) ∧ w'.ownsRow w.heap.size 54 4 u (out L).length (Wk.nds (out L)) ∧ (out L = [] → u = .slice none 0 0) ∧ PD w' ve (res L) ∧ Below w.heap.size w w'
/-- Between two nodes. -/
def II (w : World) (L : List Nd) (g n cap i : Nat) (W : World) : Prop := W.ownsRow w.heap.size 54 4 (.slice (some ⟨g, 0, none⟩) n cap) n (Wk.nds (mix L i)) ∧ Below w.heap.size w W
theorem II.on {w : World} {L : List Nd} {g n cap i : Nat} {W W' : World} (h : II w L g n cap i W) (hb : Below W.heap.size W W') : II w L g n cap i W' := ⟨Wk.ownsRow_below h.1 hb (Nat.le_refl _), h.2.trans (hb.mono h.2.size)⟩

set_option maxRecDepth 100000 in
set_option maxHeartbeats 4000000 in
theorem implied_any (w : World) (b off n cap : Nat) (L : List Nd) (hV : NV w (some ⟨b, off, none⟩) n cap L) (hT : TagsOk L) (hE : EG w) :
    Calls Tryz.prog 22 #[.slice (some ⟨b, off, none⟩) n cap] w (ImpP w L) := by
  have c13 := dformed_any w (some ⟨b, off, none⟩) n cap L hV hT hE
  have HV : Hid (NV w (some ⟨b, off, none⟩) n cap L) := hV
  have HT : Hid (TagsOk L) := hT
  have HN : Hid (n = L.length) := hV.len
  clear hV hT hE
  go_enter Tryz.func22, Tryz.ntmps22
  go_wp2_with (go_at_call 45; refine StopF.out ?_)
  refine ⟨Calls.mono c13 ?_⟩
  rintro e W2 ⟨ve, rfl, hpd, hb2⟩
  clear c13
  rcases hpd.out with ⟨hr, rfl⟩ | ⟨hr, hc⟩
  · obtain ⟨h40, hsz⟩ := res_ok hr
    have HO : Hid (out L = L.map imp) := by show _ = _; unfold out; rw [if_pos hr]
    have HR : Hid ((res L).2 = true) := hr
    have HS : Hid (∀ x ∈ L, x.v = 29 ∨ x.v = 18 ∨ x.s.size ≤ 65534) := hsz
    have HV2 : Hid (NV W2 (some ⟨b, off, none⟩) n cap L) := HV.out.on hb2.out
    have HB2 : Hid (Below w.heap.size w W2) := hb2.out
    have hn40 : n ≤ 4096 := by rw [HN.out]; exact h40
    clear hpd hb2 hr hsz h40 HV
    go_wp2_with (at_builtin; refine StopF.out ?_)
    refine ⟨Wk.copy22 rfl (.const (.slice none 0 0)) (.tmp 13) rfl rfl ⟨b, off, none⟩ cap L (by rw [← HN.out]; rfl) ?_ (by rw [← HN.out]; omega) ?_⟩
    · intro j u hj
      have hj4 := (List.getElem?_eq_some_iff.1 hj).1
      rw [Wk.nds_len] at hj4
      obtain ⟨b', off', hl, he, e0, e1, e2, e3⟩ := NV.cells HV2.out (j := j / 4) (by rw [HN.out]; omega)
      cases he
      have hg := Wk.nds_get L (j / 4) hl (j % 4) (Nat.mod_lt _ (by decide))
      rw [show j / 4 * 4 + j % 4 = j by omega, hj] at hg
      have hj' : off + j / 4 * 4 + j % 4 = off + j := by omega
      rw [Addr.add_mid, hg]
      rcases (show j % 4 = 0 ∨ j % 4 = 1 ∨ j % 4 = 2 ∨ j % 4 = 3 by omega) with h | h | h | h <;> rw [h] at hj' ⊢
      · exact (congrArg (fun o => W2.cell? ⟨b, o, none⟩) hj'.symm).trans e0
      · exact (congrArg (fun o => W2.cell? ⟨b, o, none⟩) hj'.symm).trans e1
      · exact (congrArg (fun o => W2.cell? ⟨b, o, none⟩) hj'.symm).trans e2
      · exact (congrArg (fun o => W2.cell? ⟨b, o, none⟩) hj'.symm).trans e3
    intro u W3 hown hbel hnil hsome
    have HB3 : Hid (Below w.heap.size w W3) := HB2.out.trans (hbel.mono HB2.out.size)
    by_cases hL : L = []
    · obtain rfl := hnil hL
      clear hnil hsome hown hbel
      have HL : Hid (L = []) := hL
      clear hL
      go_wp2
      refine wp_loop_rounds 1 ?_
      rw [rounds_succ]
      go_wp2
      refine bodyPost_ret (v := .tuple #[.slice none 0 0, .nilIface]) (by simp [results, Tryz.results22, go_sem]) rfl ⟨_, _, rfl, ?_, fun _ => rfl, .inl ⟨HR.out, rfl⟩, HB3.out⟩
      rw [HO.out, HL.out]
      exact World.ownsRow_nil _ _ _ _
    · obtain ⟨g, cp, rfl⟩ := hsome hL
      rw [← HN.out] at hown ⊢
      have HI0 : Hid (II w L g n cp 0 W3) := ⟨by rw [mix_zero]; exact Wk.own_base hown HB2.out.size, HB3.out⟩
      have HLN : Hid (¬ L = []) := hL
      clear hnil hsome hown hbel hL HB2 HV2 HB3
      go_wp2
      go_loopw [17] (fun x17 wr => ∃ i : Nat, x17 = .int .i64 (i : Int) ∧ i ≤ n ∧ Hid (II w L g n cp i wr)) (fun x17 _ => n - (intOf x17).toNat)
      case atStart => exact ⟨0, rfl, by omega, HI0⟩
      case round =>
        obtain ⟨i, rfl, hin, HI⟩ := hrel
        clear HI0
        by_cases hlt : i < n
        · have hltI : decide ((i : Int) < (n : Int)) = true := by simp; omega
          have hlen : i < L.length := by rw [← HN.out]; exact hlt
          have hmi : i < (mix L i).length := by rw [mix_len L i (by omega)]; exact hlen
          have hmn : n = (mix L i).length := by rw [mix_len L i (by omega)]; exact HN.out
          obtain ⟨m0, m1, m2, m3⟩ := own_at HI.out.1 hmn hmi
          rw [mix_at L i hlen] at m0 m1 m2 m3
          have htg := HT.out _ (List.getElem_mem hlen)
          have hss := HS.out _ (List.getElem_mem hlen)
          have HX : Hid (∀ e : imp (L[i]'hlen) = L[i]'hlen, mix L (i + 1) = mix L i) := fun e => mix_same L i hlen e
          have HY : Hid (mix L (i + 1) = (mix L i).set i (imp (L[i]'hlen)) ∧ ∃ h : i < (mix L i).length, (mix L i)[i]'h = L[i]'hlen) := ⟨mix_next L i hlen, hmi, mix_at L i hlen⟩
          generalize L[i]'hlen = q at m0 m1 m2 m3 htg hss HX HY
          obtain ⟨t, v, z, s⟩ := q
          simp only at *
          obtain ⟨tn, rfl⟩ : ∃ tn : Nat, t = (tn : Int) := ⟨t.toNat, by omega⟩
          have htn : tn < 4294967296 := by omega
          obtain ⟨W1, hW1⟩ : ∃ W1, wr.alloc (.cells #[.int .u32 (tn : Int), .int .i64 v, .int .i64 z, .string s] 54) = W1 := ⟨_, rfl⟩
          have hb1 : Below wr.heap.size wr W1 := by rw [← hW1]; exact (Below.refl _ _).alloc (Nat.le_refl _) _
          have HN1 : Hid (NC W1 wr.heap.size (tn : Int) v z s) := by rw [← hW1]; exact ⟨by simp, by simp, by simp, by simp⟩
          have HI1 : Hid (II w L g n cp i W1) := HI.out.on hb1
          obtain ⟨y0, y1, y2, y3⟩ := HN1.out
          have hgl : g < wr.heap.size := Rp.cell_lt m0
          clear hmi hmn hb1 htg
          by_cases h29 : v = 29
          · have b29 : (v == 29) = true := by rw [h29]; rfl
            have HE : Hid (mix L (i + 1) = mix L i) := HX.out (by unfold imp; rw [if_pos (.inl h29)])
            clear h29 HX HY
            go_wp2
            go_roundw
            case rel => exact ⟨i + 1, by go_num, by omega, ⟨by rw [HE.out]; exact HI1.out.1, HI1.out.2⟩⟩
            case measure => simp [intOf]; omega
          · have b29 : (v == 29) = false := beq_eq_false_iff_ne.2 h29
            by_cases h18 : v = 18
            · have b18 : (v == 18) = true := by rw [h18]; rfl
              have HE : Hid (mix L (i + 1) = mix L i) := HX.out (by unfold imp; rw [if_pos (.inr (.inl h18))])
              clear h29 h18 HX HY
              go_wp2
              go_roundw
              case rel => exact ⟨i + 1, by go_num, by omega, ⟨by rw [HE.out]; exact HI1.out.1, HI1.out.2⟩⟩
              case measure => simp [intOf]; omega
            · have b18 : (v == 18) = false := beq_eq_false_iff_ne.2 h18
              have hs65 : s.size ≤ 65534 := by rcases hss with h | h | h; exact absurd h h29; exact absurd h h18; exact h
              have c14 := known_any W1 tn htn
              by_cases hk : (Tb.docF tn (Tb.upTo 10)).isSome = true
              · rw [hk] at c14
                have HE : Hid (mix L (i + 1) = mix L i) := HX.out (by unfold imp; rw [if_pos (.inr (.inr hk))])
                clear h29 h18 hss hk HX HY
                go_wp2_with (first | (go_at_call 46; refine c14.mono ?_; rintro e W4 ⟨rfl, hb4⟩) | fail)
                go_roundw
                case rel => exact ⟨i + 1, by go_num, by omega, ⟨by rw [HE.out]; exact (HI1.out.on hb4).1, (HI1.out.on hb4).2⟩⟩
                case measure => simp [intOf]; omega
              · rw [Bool.eq_false_iff.2 hk] at c14
                have HQ : Hid (imp ⟨(tn : Int), v, z, s⟩ = ⟨(tn : Int), dflt tn, z, txt (dflt tn) (Rp.padB (Rp.pd (Rp.vn v)) s)⟩) := by
                  show _ = _
                  unfold imp
                  rw [if_neg (by rintro (h | h | h); exact h29 h; exact h18 h; exact hk h)]
                  rfl
                clear h29 h18 hss hk HX
                go_wp2_with (first | (go_at_call 46; refine c14.mono ?_; rintro e W4 ⟨rfl, hb4⟩; obtain ⟨k0, k1, k2, k3⟩ := HN1.out.on hb4) | (go_at_call 47; refine StopF.out ?_))
                refine ⟨Calls.mono (default_any W4 tn htn) ?_⟩
                rintro e W5 ⟨rfl, hb5⟩
                have HI5 : Hid (II w L g n cp i W5) := (HI1.out.on hb4).on hb5
                have HN5 : Hid (NC W5 wr.heap.size (tn : Int) v z s) := (HN1.out.on hb4).on hb5
                obtain ⟨hmi, hme⟩ := HY.out.2
                have hmn : n = (mix L i).length := by rw [mix_len L i (by omega)]; exact HN.out
                obtain ⟨x0, x1, x2, x3⟩ := own_at HI5.out.1 hmn hmi
                rw [hme] at x0 x1 x2 x3
                have xf : ∀ j, W5.frozen? ⟨g, j, none⟩ = false := fun j => World.ownsRow.frozenAt HI5.out.1 j
                have HQ6 : Hid ((W5.setCell ⟨g, i * 4 + 1, none⟩ (.int .i64 (dflt tn))).ownsRow w.heap.size 54 4 (.slice (some ⟨g, 0, none⟩) n cp) n ((Wk.nds (mix L i)).set (i * 4 + 1) (.int .i64 (dflt tn))) ∧ ((Wk.nds (mix L i)).set (i * 4 + 1) (.int .i64 (dflt tn))).set (i * 4 + 3) (.string (txt (dflt tn) (Rp.padB (Rp.pd (Rp.vn v)) s))) = Wk.nds (mix L (i + 1))) := by
                  refine ⟨(World.ownsRow.stored HI5.out.1 (i * 4 + 1) (.int .i64 (dflt tn))).1, ?_⟩
                  rw [HY.out.1, HQ.out, nds_set2 (mix L i) i hmi, hme]
                clear k0 k1 k2 k3 y0 y1 y2 y3 m0 m1 m2 m3 hW1 hb4 hb5 c14 HY HQ hmn hme hmi HI HI1 HN1
                obtain ⟨n0, n1, n2, n3⟩ := HN5.out
                have hne : g ≠ wr.heap.size := by omega
                obtain ⟨X, hX⟩ : ∃ X, W5.setCell ⟨g, i * 4 + 1, none⟩ (.int .i64 (dflt tn)) = X := ⟨_, rfl⟩
                rw [hX] at HQ6
                have z1 : X.cell? ⟨g, i * 4 + 1, none⟩ = some (.int .i64 (dflt tn)) := by rw [← hX]; exact Rp.cell_set_eq x1
                have z3 : X.cell? ⟨g, i * 4 + 3, none⟩ = some (.string s) := by rw [← hX]; exact (Rp.cell_set_ne (by omega)).trans x3
                have zf : ∀ j, X.frozen? ⟨g, j, none⟩ = false := fun j => by rw [← hX]; simpa using xf j
                have r1 : X.cell? ⟨wr.heap.size, 1, none⟩ = some (.int .i64 v) := by rw [← hX]; exact (Rp.cell_set_off hne).trans n1
                have r3 : X.cell? ⟨wr.heap.size, 3, none⟩ = some (.string s) := by rw [← hX]; exact (Rp.cell_set_off hne).trans n3
                have HBX : Hid (Below w.heap.size w X) := by rw [← hX]; exact HI5.out.2.setCell (p := ⟨g, i * 4 + 1, none⟩) (HI5.out.1.lt g rfl).1 _
                have cT : ∀ W, Calls Tryz.prog 48 #[.int .i64 (dflt tn), .string (Rp.padB (Rp.pd (Rp.vn v)) s)] W fun e w' => e = .returned (.string (txt (dflt tn) (Rp.padB (Rp.pd (Rp.vn v)) s))) ∧ Below W.heap.size W w' := fun W => Rp.trim_any W (dflt tn) _ (by have := pad_size (Rp.pd (Rp.vn v)) s; omega)
                go_wp2
                clear hX
                go_region_held3 (fun w' => w'.cell? ⟨g, i * 4 + 1, none⟩ = some (.int .i64 (dflt tn)) ∧ w'.cell? ⟨wr.heap.size, 1, none⟩ = some (.int .i64 v) ∧ w'.cell? ⟨wr.heap.size, 3, none⟩ = some (.string s)) (first | (go_keep; done) | exact ⟨(Rp.cell_set_ne (by omega)).trans (by assumption), (Rp.cell_set_off (by assumption)).trans (by assumption), (Rp.cell_set_off (by assumption)).trans (by assumption)⟩) (first | (go_at_call 49; refine Calls.mono (Rp.pad_any _ v s (by omega)) ?_; rintro e W6 ⟨rfl, hb6⟩; have u1 : W6.cell? ⟨g, i * 4 + 1, none⟩ = some (.int .i64 (dflt tn)) := (hb6.cell (p := ⟨g, i * 4 + 1, none⟩) (Rp.cell_lt z1)).trans z1; have u2 : W6.cell? ⟨wr.heap.size, 1, none⟩ = some (.int .i64 v) := (hb6.cell (p := ⟨wr.heap.size, 1, none⟩) (Rp.cell_lt r1)).trans r1; have u3 : W6.cell? ⟨wr.heap.size, 3, none⟩ = some (.string s) := (hb6.cell (p := ⟨wr.heap.size, 3, none⟩) (Rp.cell_lt r3)).trans r3; have u4 : W6.cell? ⟨g, i * 4 + 3, none⟩ = some (.string s) := (hb6.cell (p := ⟨g, i * 4 + 3, none⟩) (Rp.cell_lt z3)).trans z3; have u5 : W6.frozen? ⟨g, i * 4 + 3, none⟩ = false := (hb6.frozen (p := ⟨g, i * 4 + 3, none⟩) (Rp.cell_lt z3)).trans (zf _)) | (go_at_call 48; refine Calls.mono (cT _) ?_; rintro e W7 ⟨rfl, hb7⟩; have t1 : W7.cell? ⟨g, i * 4 + 1, none⟩ = some (.int .i64 (dflt tn)) := (hb7.cell (p := ⟨g, i * 4 + 1, none⟩) (Rp.cell_lt u1)).trans u1; have t2 : W7.cell? ⟨wr.heap.size, 1, none⟩ = some (.int .i64 v) := (hb7.cell (p := ⟨wr.heap.size, 1, none⟩) (Rp.cell_lt u2)).trans u2; have t3 : W7.cell? ⟨wr.heap.size, 3, none⟩ = some (.string s) := (hb7.cell (p := ⟨wr.heap.size, 3, none⟩) (Rp.cell_lt u3)).trans u3; have t4 : W7.cell? ⟨g, i * 4 + 3, none⟩ = some (.string s) := (hb7.cell (p := ⟨g, i * 4 + 3, none⟩) (Rp.cell_lt u4)).trans u4; have t5 : W7.frozen? ⟨g, i * 4 + 3, none⟩ = false := (hb7.frozen (p := ⟨g, i * 4 + 3, none⟩) (Rp.cell_lt u4)).trans u5))
                have hb67 : Below X.heap.size X W7 := ((Below.refl X.heap.size X).drew).trans (hb6.trans (hb7.mono hb6.size))
                have HB7 : Hid (Below w.heap.size w W7) := HBX.out.trans (hb67.mono HBX.out.size)
                have HI8 : Hid (II w L g n cp (i + 1) (W7.setCell ⟨g, i * 4 + 3, none⟩ (.string (txt (dflt tn) (Rp.padB (Rp.pd (Rp.vn v)) s))))) := by
                  have h1 : W7.ownsRow w.heap.size 54 4 (.slice (some ⟨g, 0, none⟩) n cp) n ((Wk.nds (mix L i)).set (i * 4 + 1) (.int .i64 (dflt tn))) := Wk.ownsRow_below HQ6.out.1 hb67 (Nat.le_refl _)
                  have h2 := (World.ownsRow.stored h1 (i * 4 + 3) (.string (txt (dflt tn) (Rp.padB (Rp.pd (Rp.vn v)) s)))).1
                  rw [HQ6.out.2] at h2
                  exact ⟨h2, HB7.out.setCell (p := ⟨g, i * 4 + 3, none⟩) (h1.lt g rfl).1 _⟩
                clear u1 u2 u3 u4 u5 t1 t2 t3 t4 t5 hb6 hb7 hb67 z1 z3 zf r1 r3 HQ6
                go_wp2
                go_roundw
                case rel => exact ⟨i + 1, by go_num, by omega, HI8⟩
                case measure => simp [intOf]; omega
        · have hltI : decide ((i : Int) < (n : Int)) = false := by simp; omega
          obtain rfl : i = n := by omega
          go_wp2
          refine bodyPost_ret (v := .tuple #[.slice (some ⟨g, 0, none⟩) i cp, .nilIface]) (by simp [results, Tryz.results22, go_sem]) rfl ⟨_, _, rfl, ?_, ?_, .inl ⟨HR.out, rfl⟩, HI.out.2⟩
          · have := HI.out.1
            rw [HO.out, List.length_map, ← mix_all, ← HN.out]
            exact this
          · intro e
            rw [HO.out] at e
            exact absurd (List.map_eq_nil_iff.1 e) HLN.out
  · obtain ⟨q, p, rfl, h0⟩ := hc
    have HR : Hid ((res L).2 = false) := hr
    have HO : Hid (out L = []) := by show _ = _; unfold out; rw [if_neg (by rw [hr]; decide)]
    clear hr
    go_wp2
    refine bodyPost_ret (v := .tuple #[.slice none 0 0, .iface 70 (.pointer (some ⟨q, 0, none⟩))]) (by simp [results, Tryz.results22, go_sem]) rfl ⟨_, _, rfl, ?_, fun _ => rfl, hpd.out, hb2.out⟩
    rw [HO.out]
    exact World.ownsRow_nil _ _ _ _
end Go.Proofs.YtoikdpjjcnmgeaaGreatDoor
end
