import Derived.Test.YtghaeolehjgmnaaGreatDoorRg
import Derived.Test.YtghaeolehjgmnaaGreatDoorRi
import Derived.Deep.LoopGhost
/-
  DERIVED. Decode, by the document.
-/
namespace Go.Proofs.YtghaeolehjgmnaaGreatDoor
open Go Go.Proofs Go.RowKit

theorem uHead_low {T : ByteArray} (hz : 0 < T.size) (h : (T[0]'hz).toNat < 128) : uHead T = (0, 0) := by
  refine uni_no hz (.inr ?_)
  have e : (r1T T).1 = (T[0]'hz).toNat := by
    unfold r1T r1N
    rw [bsT_at hz, if_pos h]
  rw [e]
  unfold wid
  simp
  omega
theorem head_low (j : Nat) (hj : j < 3) (u : Bool) (h : Row) {T : ByteArray} (hz : 0 < T.size) (hb : (T[0]'hz).toNat < 32) :
    headS u (kdS (2 * j)) h (T[0]'hz).toNat T = if ctlS (j : Int) (T[0]'hz).toNat = true then ((T[0]'hz).toNat, 1) else (0, 0) := by
  unfold headS
  have e := plain_kc ⟨j, hj⟩ ⟨(T[0]'hz).toNat, by omega⟩
  simp only at e
  rw [e, decide_eq_false (by omega), decide_eq_true hb, Bool.false_or, Bool.true_and]
  cases hc : ctlS (j : Int) (T[0]'hz).toNat with
  | true => rw [if_pos rfl, if_pos rfl]
  | false =>
    rw [uHead_low hz (by omega), if_neg (show ¬ (160 ≤ (T[0]'hz).toNat ∧ mean h.1 ((T[0]'hz).toNat - 160) ≠ 0) by omega)]
    simp only [Bool.false_eq_true, if_false]
    split <;> rfl
theorem head_asc (j : Nat) (hj : j < 3) (u : Bool) (h : Row) (T : ByteArray) (b : Nat) (hb : 32 ≤ b) (hb2 : b ≤ 126) : headS u (kdS (2 * j)) h b T = (b, 1) := by
  unfold headS
  have e := plain_kc ⟨j, hj⟩ ⟨b, by omega⟩
  simp only at e
  rw [e, decide_eq_true ⟨hb, hb2⟩, Bool.true_or, if_pos rfl]
theorem head_far (j : Nat) (hj : j < 3) (u : Bool) (h : Row) (T : ByteArray) (b : Nat) (hb : 127 ≤ b) (hb2 : b < 256) :
    headS u (kdS (2 * j)) h b T = if u = true then uHead T else if 160 ≤ b ∧ mean h.1 (b - 160) ≠ 0 then (mean h.1 (b - 160), 1) else (0, 0) := by
  unfold headS
  have e := plain_kc ⟨j, hj⟩ ⟨b, by omega⟩
  simp only at e
  rw [e, decide_eq_false (by omega), decide_eq_false (by omega), Bool.false_or, Bool.false_and, if_neg (by decide)]

theorem rinfo5 : (Tryz.prog.info? 5).map (fun i => (i.zero, i.size, i.bytes)) = some (some (.int .u8 0), 1, 1) := by kernel_rfl

/-- Bytes, where they lie. -/
def BS (w : World) (ao : Option Addr) (s : ByteArray) : Prop := 0 < s.size → ∃ b off, ao = some ⟨b, off, none⟩ ∧ ∀ k (h : k < s.size), w.cell? ⟨b, off + k, none⟩ = some (.int .u8 ((s[k]'h).toNat : Int))
theorem BS.on {w w' : World} {ao : Option Addr} {s : ByteArray} (h : BS w ao s) (hb : Below w.heap.size w w') : BS w' ao s := fun hz => by
  obtain ⟨b, off, e, hc⟩ := h hz
  exact ⟨b, off, e, fun k hk => (hb.cell (p := ⟨b, off + k, none⟩) (cell_lt (hc k hk))).trans (hc k hk)⟩

def RPostT (w : World) (F : Except (Nat × Int) (List Int)) (e : Ending) (w' : World) : Prop :=
  Below w.heap.size w w' ∧ match F with
    | .ok out => e = .returned (.tuple #[.string (bsZ out), .agg #[.slice none 0 0, .int .i64 0]])
    | .error (i, c) => ∃ f, e = .returned (.tuple #[.string ⟨#[]⟩, f]) ∧ RErr w' f (some ((i : Int), c))

/-- The result's cell is still empty. -/
structure DecI (w : World) (B : Nat) (wx : World) : Prop where
  b : Below w.heap.size w wx
  c0 : wx.cell? ⟨B, 0, none⟩ = some (.slice none 0 0)
  c1 : wx.cell? ⟨B, 1, none⟩ = some (.int .i64 0)
  f : ∀ i, wx.frozen? ⟨B, i, none⟩ = false
theorem DecI.on {w wx wy : World} {B : Nat} (i : DecI w B wx) (hb : Below wx.heap.size wx wy) : DecI w B wy :=
  ⟨i.b.trans (hb.mono i.b.size), (hb.cell (p := ⟨B, 0, none⟩) (cell_lt i.c0)).trans i.c0, (hb.cell (p := ⟨B, 1, none⟩) (cell_lt i.c1)).trans i.c1, fun j => (hb.frozen (p := ⟨B, j, none⟩) (show B < _ from cell_lt i.c0)).trans (i.f j)⟩
theorem DecI.grown {w wx wy : World} {B : Nat} {row : Option Nat} (i : DecI w B wx) (hg : wx.grownBy wy row) (hr : ∀ r, row = some r → w.heap.size ≤ r ∧ r ≠ B) : DecI w B wy := by
  have hk : wy.heap[B]? = wx.heap[B]? := hg.block B (cell_lt i.c0) (fun e => (hr B e.symm).2 rfl)
  exact ⟨i.b.grown hg i.b.size (fun r e => (hr r e).1), (World.cell?_of_block (a := ⟨B, 0, none⟩) hk).trans i.c0, (World.cell?_of_block (a := ⟨B, 1, none⟩) hk).trans i.c1, fun j => (World.frozen?_of_block (a := ⟨B, j, none⟩) hk).trans (i.f j)⟩

/-- What is told of a refusal once it lies in the result's cell. -/
theorem refuse_post {w W0 W1 : World} {B g k : Nat} {i : Nat} {c : Int} (hi : DecI w B W0) (hB : w.heap.size ≤ B) (g0 : W1.cell? ⟨g, 0, none⟩ = some (.string { data := #[99, 104, 97, 114, 115, 101, 116] })) (g1 : W1.cell? ⟨g, 1, none⟩ = some (.int .i64 (i : Int))) (hg : W0.heap.size ≤ g) (hb : Below W0.heap.size W0 W1) :
    RPostT w (.error (i, c)) (.returned (.tuple #[.string ⟨#[]⟩, .agg #[.slice (some ⟨g, 0, none⟩) 1 k, .int .i64 c]])) ((W1.setCell ⟨B, 0, none⟩ (.slice (some ⟨g, 0, none⟩) 1 k)).setCell ⟨B, 1, none⟩ (.int .i64 c)) := by
  have hl : B < W0.heap.size := cell_lt hi.c0
  refine ⟨((hi.on hb).b.setCell (p := ⟨B, 0, none⟩) hB _).setCell (p := ⟨B, 1, none⟩) hB _, _, rfl, g, k, rfl, ?_, ?_⟩
  · exact (cell_set_off (by omega)).trans ((cell_set_off (by omega)).trans g0)
  · exact (cell_set_off (by omega)).trans ((cell_set_off (by omega)).trans g1)

theorem own_val {w : World} {B : Nat} {e : TypeId} {sz : Nat} {v : Value} {n : Nat} {xs : List Value} (h : w.ownsRow B e sz v n xs) : ∃ a cap, v = .slice a n cap := by
  rcases h.2 with ⟨rfl, h0⟩ | ⟨g, cap, cur, hv, _⟩
  · exact ⟨none, 0, by rw [h0]⟩
  · exact ⟨_, _, hv⟩
theorem ext_at {s : ByteArray} {a i : Nat} (h : a + i < s.size) : (s.extract a s.size)[i]'(by simp; omega) = s[a + i]'h := by simp [ByteArray.getElem_extract]
theorem ext_size (s : ByteArray) (a : Nat) : (s.extract a s.size).size = s.size - a := by simp

/-- Between two rounds. -/
def DecInv (w : World) (B : Nat) (x : Bool) (kc ke : ByteArray) (a : Row) (R : List Row) (s : ByteArray) (F : Except (Nat × Int) (List Int)) (g : Nat) (s8 s9 s10 : Value) (wx : World) : Prop :=
  ∃ (at' : Nat) (h : Row) (out : List Int), s10 = .int .i64 (at' : Int) ∧ s9 = .int .i64 (repN h.1 : Nat) ∧ g = s.size - at' ∧ at' ≤ s.size + 3 ∧ rdS x kc ke a R s g at' h out = F ∧ h ∈ a :: R ∧ out.length ≤ 4 * at' ∧ ByteZ out ∧ wx.ownsRow (B + 1) 5 1 s8 out.length (cellsZ out) ∧ DecI w B wx

theorem add_at (b o q : Nat) : (⟨b, o, none⟩ : Addr).add q = ⟨b, o + q, none⟩ := by
  unfold Addr.add
  simp
theorem own_app {w1 : World} {B : Nat} {v' : Value} {out L : List Int} (h : w1.ownsRow B 5 1 v' (out.length + L.length) (cellsZ out ++ cellsZ L)) : w1.ownsRow B 5 1 v' (out ++ L).length (cellsZ (out ++ L)) := by
  have e1 : (out ++ L).length = out.length + L.length := by simp
  have e2 : cellsZ (out ++ L) = cellsZ out ++ cellsZ L := by simp [cellsZ]
  rw [e1, e2]
  exact h

set_option maxRecDepth 100000 in
set_option maxHeartbeats 8000000 in
theorem rdecode_any (w : World) (H p : Nat) (v : Value) (a : Row) (R : List Row) (x : Bool) (k : Int) (ao : Option Addr) (cap : Nat) (s : ByteArray) (hset : RSetAt w H p v (namesOf (a :: R)) x) (hR6 : (a :: R).length ≤ 6) (hN7 : ∀ r ∈ a :: R, r.1 < 7) (hx6 : x = true → ∀ r ∈ a :: R, r.1 < 6)
    (hT : RTabs w) (hraw : BS w ao s) (hcap : s.size ≤ cap) :
    Calls Tryz.prog 7 #[.pointer (some ⟨p, 0, none⟩), .int .i64 k, .slice ao s.size cap] w (RPostT w (dcS x a R k s)) := by
  obtain ⟨W0, hW0⟩ : ∃ W0, w.alloc (.cells #[.slice none 0 0, .int .i64 0] 35) = W0 := ⟨_, rfl⟩
  have hi0 : DecI w w.heap.size W0 := hW0 ▸ ⟨(Below.refl _ _).alloc (Nat.le_refl _) _, by simp, by simp, fun i => by simp⟩
  have hs0 : W0.heap.size = w.heap.size + 1 := by rw [← hW0]; simp
  have H17 : Hid (∀ (i c : Int) W, Calls Tryz.prog 17 #[.int .i64 c, .int .i64 i] W fun e w' => ∃ g k, e = .returned (.agg #[.slice (some ⟨g, 0, none⟩) 1 k, .int .i64 c]) ∧ w'.cell? ⟨g, 0, none⟩ = some (.string { data := #[99, 104, 97, 114, 115, 101, 116] }) ∧ w'.cell? ⟨g, 1, none⟩ = some (.int .i64 i) ∧ W.heap.size ≤ g ∧ Below W.heap.size W w') := fun i c W => no_at i c W
  have HI0 : Hid _ := hi0
  unfold dcS
  by_cases hk : k < 0 ∨ 3 ≤ k
  · rw [if_pos hk]
    clear hset hR6 hN7 hx6 hT hraw hcap hi0
    have hk2 : k < 0 ∨ (¬ k < 0 ∧ 2 < k) := by omega
    rcases hk2 with hk2 | ⟨hk2, hk3⟩
    all_goals
      go_enter Tryz.func7, Tryz.ntmps7
      go_wp2_with (go_at_call 17; refine Stop.mk ?_)
      refine Stop.out ((H17.out 0 84 _).mono ?_)
      rintro e W1 ⟨g, kk, rfl, g0, g1, hg, hb⟩
      have HP := refuse_post (k := kk) (c := 84) (i := 0) HI0.out (Nat.le_refl _) g0 g1 hg hb
      obtain ⟨-, b0, b1, bf⟩ := HI0.out.on hb
      clear g0 g1 hb
      go_wp2
      obtain ⟨r0, r1⟩ := res_cells (v0 := .slice (some ⟨g, 0, none⟩) 1 kk) (v1 := .int .i64 84) b0 b1
      exact bodyPost_ret (v := .tuple #[.string ⟨#[]⟩, .agg #[.slice (some ⟨g, 0, none⟩) 1 kk, .int .i64 84]]) (by simp [results, Tryz.results7, go_sem, r0, r1]) rfl HP
  · rw [if_neg hk]
    have hkA : ¬ k < 0 := by omega
    have hkB : ¬ 2 < k := by omega
    by_cases hs : 65534 < s.size
    · rw [if_pos hs]
      have hsI : (65534 : Int) < (s.size : Int) := by omega
      clear hset hR6 hN7 hx6 hT hraw hcap hi0
      go_enter Tryz.func7, Tryz.ntmps7
      go_wp2_with (go_at_call 17; refine Stop.mk ?_)
      refine Stop.out ((H17.out 65534 85 _).mono ?_)
      rintro e W1 ⟨g, kk, rfl, g0, g1, hg, hb⟩
      have HP := refuse_post (k := kk) (c := 85) (i := 65534) HI0.out (Nat.le_refl _) g0 g1 hg hb
      obtain ⟨-, b0, b1, bf⟩ := HI0.out.on hb
      clear g0 g1 hb
      go_wp2
      obtain ⟨r0, r1⟩ := res_cells (v0 := .slice (some ⟨g, 0, none⟩) 1 kk) (v1 := .int .i64 85) b0 b1
      exact bodyPost_ret (v := .tuple #[.string ⟨#[]⟩, .agg #[.slice (some ⟨g, 0, none⟩) 1 kk, .int .i64 85]]) (by simp [results, Tryz.results7, go_sem, r0, r1]) rfl HP
    · rw [if_neg hs]
      obtain ⟨j, hj, rfl⟩ : ∃ j : Nat, j < 3 ∧ k = (j : Int) := ⟨k.toNat, by omega, by omega⟩
      rw [Int.toNat_natCast]
      obtain ⟨F, hF⟩ : ∃ F, rdS x (kdS (2 * j)) (kdS (2 * j + 1)) a R s s.size 0 a [] = F := ⟨_, rfl⟩
      rw [hF]
      have HF : Hid _ := hF
      have hsI : ¬ (65534 : Int) < (s.size : Int) := by omega
      obtain ⟨so, sc, rfl⟩ := hset.val
      have s0 := hset.c0
      obtain ⟨n, hn⟩ : ∃ n, (namesOf (a :: R)).length = n := ⟨_, rfl⟩
      rw [hn] at s0
      obtain ⟨gg, rfl, -, sa⟩ := hset.cell 0 (a.1, a.2.1) rfl
      simp only at sa
      have hn1 : (0 : Int) < (n : Int) := by rw [← hn, names_len]; simp
      have HSET : Hid _ := hset
      have HSC : Hid (∀ W, Below w.heap.size w W → W.cell? ⟨p, 0, none⟩ = some (.slice (some ⟨gg, 0, none⟩) n sc) ∧ W.cell? ⟨p, 1, none⟩ = some (.bool x) ∧ W.cell? ⟨gg, 0, none⟩ = some (.int .i64 (repN a.1 : Nat))) := fun W hb => ⟨(hb.cell (p := ⟨p, 0, none⟩) (cell_lt s0)).trans s0, (hb.cell (p := ⟨p, 1, none⟩) (cell_lt hset.c1)).trans hset.c1, (hb.cell (p := ⟨gg, 0, none⟩) (cell_lt sa)).trans sa⟩
      have HRAW : Hid _ := hraw
      have H6 : Hid ((namesOf (a :: R)).length ≤ 6) := by show _ ≤ _; rw [names_len]; exact hR6
      have H7 : Hid _ := hN7
      have HX6 : Hid _ := hx6
      have HT : Hid _ := hT
      obtain ⟨z0, -, z2⟩ := HSC.out W0 hi0.b
      obtain ⟨i0, hi, hz0, hz1, hz2⟩ := info_parts rinfo5
      clear hset hraw hF hR6 hN7 hx6 hT s0 sa hn hi0
      go_enter Tryz.func7, Tryz.ntmps7
      go_wp2
      clear z0 z2
      obtain ⟨B, hB⟩ : ∃ B, w.heap.size = B := ⟨_, rfl⟩
      rw [hB] at HI0 hs0 ⊢
      have HBB : Hid (w.heap.size = B) := hB
      clear hB
      go_loopg [8, 9, 10] s.size (fun g s8 s9 s10 wx => Hid (DecInv w B x (kdS (2 * j)) (kdS (2 * j + 1)) a R s F g s8 s9 s10 wx))
      case atStart => exact ⟨0, a, [], rfl, rfl, by omega, by omega, HF.out, List.mem_cons_self, by simp, fun z hz => by simp at hz, World.ownsRow_nil _ _ _ _, HI0.out⟩
      case round =>
        clear HI0 HF hs0
        obtain ⟨at', h, out, rfl, rfl, rfl, hat3, hrd, hmem, hlen, hbz, hown, hri⟩ := hrel.out
        have HMem : Hid (h ∈ a :: R) := hmem
        have HBz : Hid (ByteZ out) := hbz
        have HOwn : Hid _ := hown
        have HRi : Hid _ := hri
        obtain ⟨z0, z1, z2⟩ := HSC.out wr hri.b
        by_cases hat : at' < s.size
        · obtain ⟨f, hf⟩ : ∃ f, s.size - at' = f + 1 := ⟨s.size - at' - 1, by omega⟩
          rw [hf, rdS, dif_pos hat] at hrd
          have hI : (at' : Int) < (s.size : Int) := by omega
          have hI2 : (at' : Int) ≤ (s.size : Int) := by omega
          have hI0 : (0 : Int) ≤ (at' : Int) := by omega
          obtain ⟨b, off, rfl, hcw⟩ := HRAW.out (by omega)
          have hcr : ∀ i (h : i < s.size), wr.cell? ⟨b, off + i, none⟩ = some (.int .u8 ((s[i]'h).toNat : Int)) := fun i h => (hri.b.cell (p := ⟨b, off + i, none⟩) (cell_lt (hcw i h))).trans (hcw i h)
          have hcb := hcr at' hat
          obtain ⟨bt, hbt⟩ : ∃ bt, (s[at']'hat).toNat = bt := ⟨_, rfl⟩
          have hbt256 : bt < 256 := by rw [← hbt]; exact (s[at']'hat).toNat_lt
          obtain ⟨T, hTx⟩ : ∃ T, s.extract at' s.size = T := ⟨_, rfl⟩
          have hTs : T.size = s.size - at' := by rw [← hTx]; exact ext_size _ _
          have hz : 0 < T.size := by omega
          have hTi : ∀ i (h : i < T.size), wr.cell? ⟨b, off + at' + i, none⟩ = some (.int .u8 ((T[i]'h).toNat : Int)) := fun i h => by
            have h2 : at' + i < s.size := by omega
            have := hcr (at' + i) h2
            rw [← Nat.add_assoc] at this
            rw [this]
            subst hTx
            rw [ext_at h2]
          have hT0 : (T[0]'hz).toNat = bt := by
            have := hTi 0 hz
            rw [Nat.add_zero, hcb, hbt] at this
            simp at this
            omega
          rw [hbt, hTx] at hrd
          rw [hbt] at hcb
          have hcapI : (at' : Int) ≤ (cap : Int) := by omega
          have hcapS : (s.size : Int) ≤ (cap : Int) := by omega
          have HTi : Hid _ := hTi
          clear hcr hcw hTi
          by_cases hE : x = true ∧ bt = 27
          · obtain ⟨rfl, rfl⟩ := hE
            rw [if_pos (by simp)] at hrd
            have hrT : T.size = f + 1 := by omega
            by_cases h3 : T.size < 3
            · have ht := turn_short h3 (a :: R) (HX6.out rfl) h
              rw [ht, if_neg (by simp)] at hrd
              subst hrd
              have c18 := resc_short wr p (some ⟨b, off + at', none⟩) (f + 1) (cap - at') (by omega)
              go_wp2_with (go_at_call 18; refine Stop.mk ?_)
              refine Stop.out (c18.mono ?_)
              rintro e W9 ⟨rfl, rfl⟩
              go_wp2_with (go_at_call 17; refine Stop.mk ?_)
              refine Stop.out ((H17.out ((at' : Nat) : Int) 87 _).mono ?_)
              rintro e W1 ⟨g, kk, rfl, g0, g1, hg, hb⟩
              have HP := refuse_post (k := kk) (c := 87) (i := at') HRi.out (by have := HBB.out; omega) g0 g1 hg hb
              obtain ⟨-, b0, b1, bf⟩ := HRi.out.on hb
              clear g0 g1 hb
              go_wp2
              obtain ⟨r0, r1⟩ := res_cells (v0 := .slice (some ⟨g, 0, none⟩) 1 kk) (v1 := .int .i64 87) b0 b1
              exact bodyPost_ret (v := .tuple #[.string ⟨#[]⟩, .agg #[.slice (some ⟨g, 0, none⟩) 1 kk, .int .i64 87]]) (by simp [results, Tryz.results7, go_sem, r0, r1]) rfl HP
            · have h3' : 3 ≤ T.size := by omega
              have k0 := HTi.out 0 hz
              rw [hT0, Nat.add_zero] at k0
              have c18 := resc_any wr H p _ (namesOf (a :: R)) true (HSET.out.on HRi.out.b) H6.out (fun r hr => by obtain ⟨y, hy, rfl⟩ := List.mem_map.1 hr; exact H7.out y hy) b (off + at') (f + 1) (cap - at') _ _ (by omega) k0 (HTi.out 1 (by omega)) (HTi.out 2 (by omega))
              rcases turn_long h3' hT0 (a :: R) (HX6.out rfl) h with ⟨e1, e2⟩ | ⟨e1, e2⟩ | ⟨r, hrm, e1, e3, e4, e2⟩
              · rw [e2, if_neg (by simp)] at hrd
                subst hrd
                rw [e1] at c18
                clear e1 e2
                go_wp2_with (go_at_call 18; refine Stop.mk ?_)
                refine Stop.out (c18.mono ?_)
                rintro e W9 ⟨rfl, hb9⟩
                have HR9 : Hid (DecI w B W9) := HRi.out.on hb9
                clear hb9 c18
                go_wp2_with (go_at_call 17; refine Stop.mk ?_)
                refine Stop.out ((H17.out ((at' : Nat) : Int) 87 _).mono ?_)
                rintro e W1 ⟨g, kk, rfl, g0, g1, hg, hb⟩
                have HP := refuse_post (k := kk) (c := 87) (i := at') HR9.out (by have := HBB.out; omega) g0 g1 hg hb
                obtain ⟨-, b0, b1, bf⟩ := HR9.out.on hb
                clear g0 g1 hb
                go_wp2
                obtain ⟨r0, r1⟩ := res_cells (v0 := .slice (some ⟨g, 0, none⟩) 1 kk) (v1 := .int .i64 87) b0 b1
                exact bodyPost_ret (v := .tuple #[.string ⟨#[]⟩, .agg #[.slice (some ⟨g, 0, none⟩) 1 kk, .int .i64 87]]) (by simp [results, Tryz.results7, go_sem, r0, r1]) rfl HP
              · rw [e2, if_pos rfl] at hrd
                rw [e1] at c18
                have HRD2 : Hid _ := hrd
                clear e1 e2 hrd
                go_wp2_with (go_at_call 18; refine Stop.mk ?_)
                refine Stop.out (c18.mono ?_)
                rintro e W9 ⟨rfl, hb9⟩
                have HR9 : Hid (DecI w B W9) := HRi.out.on hb9
                have HO9 : Hid (W9.ownsRow (B + 1) 5 1 u8 out.length (cellsZ out)) := ownsRow_below HOwn.out hb9 (Nat.le_refl _)
                clear hb9 c18
                go_wp2
                go_roundg (s.size - (at' + 3))
                case measure => omega
                case rel => exact ⟨at' + 3, h, out, by simp, rfl, rfl, by omega, by rw [← HRD2.out]; exact rdS_fuel _ _ _ _ _ _ _ _ _ _ _ (by omega) (by omega), HMem.out, by omega, HBz.out, HO9.out, HR9.out⟩
              · rw [e2, if_pos rfl] at hrd
                rw [e1] at c18
                have HRD2 : Hid _ := hrd
                have HRM : Hid (r ∈ a :: R) := hrm
                have q1 : ((repN r.1 : Int) == 0) = false := by simp; omega
                have q2 : ((repN r.1 : Int) != 6) = true := by simp; omega
                have q3 : ((repN r.1 : Int) == 6) = false := by simp; omega
                clear e1 e2 hrd hrm e3 e4
                obtain ⟨rn, hrn⟩ : ∃ rn, repN r.1 = rn := ⟨_, rfl⟩
                rw [hrn] at c18 q1 q2 q3
                have HRN : Hid (repN r.1 = rn) := hrn
                clear hrn
                go_wp2_with (go_at_call 18; refine Stop.mk ?_)
                refine Stop.out (c18.mono ?_)
                rintro e W9 ⟨rfl, hb9⟩
                have HR9 : Hid (DecI w B W9) := HRi.out.on hb9
                have HO9 : Hid (W9.ownsRow (B + 1) 5 1 u8 out.length (cellsZ out)) := ownsRow_below HOwn.out hb9 (Nat.le_refl _)
                clear hb9 c18
                go_wp2
                go_roundg (s.size - (at' + 3))
                case measure => omega
                case rel => exact ⟨at' + 3, r, out, by simp, by rw [HRN.out], rfl, by omega, by rw [← HRD2.out]; exact rdS_fuel _ _ _ _ _ _ _ _ _ _ _ (by omega) (by omega), HRM.out, by omega, HBz.out, HO9.out, HR9.out⟩
          · rw [if_neg (by simpa using hE)] at hrd
            have hg : ((bt : Int) == 27) = false ∨ (((bt : Int) == 27) = true ∧ x = false) := by
              by_cases h27 : bt = 27
              · refine .inr ⟨by simp; omega, ?_⟩
                cases x with
                | false => rfl
                | true => exact absurd ⟨rfl, h27⟩ hE
              · exact .inl (by simp; omega)
            clear hE
            by_cases hlow : bt < 32
            · have hh : headS (a.1 == 6) (kdS (2 * j)) h bt T = if ctlS (j : Int) bt = true then (bt, 1) else (0, 0) := by
                have := head_low j hj (a.1 == 6) h hz (by omega)
                rw [hT0] at this
                exact this
              have c19 := ctl_any wr (j : Int) bt
              have hlI : (bt : Int) < 32 := by omega
              cases hct : ctlS (j : Int) bt with
              | false =>
                rw [if_neg (by rw [hct]; decide)] at hh
                rw [hh, if_pos rfl] at hrd
                subst hrd
                rw [hct] at c19
                clear hh hct
                rcases hg with h27 | ⟨h27, rfl⟩
                all_goals
                  go_wp2_with (go_at_call 19; refine Stop.mk ?_)
                  refine Stop.out (c19.mono ?_)
                  rintro e W9 ⟨rfl, rfl⟩
                  go_wp2_with (go_at_call 17; refine Stop.mk ?_)
                  refine Stop.out ((H17.out ((at' : Nat) : Int) 86 _).mono ?_)
                  rintro e W1 ⟨g, kk, rfl, g0, g1, hg, hb⟩
                  have HP := refuse_post (k := kk) (c := 86) (i := at') HRi.out (by have := HBB.out; omega) g0 g1 hg hb
                  obtain ⟨-, b0, b1, bf⟩ := HRi.out.on hb
                  clear g0 g1 hb
                  go_wp2
                  obtain ⟨r0, r1⟩ := res_cells (v0 := .slice (some ⟨g, 0, none⟩) 1 kk) (v1 := .int .i64 86) b0 b1
                  exact bodyPost_ret (v := .tuple #[.string ⟨#[]⟩, .agg #[.slice (some ⟨g, 0, none⟩) 1 kk, .int .i64 86]]) (by simp [results, Tryz.results7, go_sem, r0, r1]) rfl HP
              | true =>
                rw [if_pos hct] at hh
                rw [hh, if_neg (by simp)] at hrd
                simp only at hrd
                rw [enc_low (by omega) (by omega)] at hrd
                have he := ends_ke ⟨j, hj⟩ ⟨bt, by omega⟩
                simp only at he
                rw [he] at hrd
                have HRD2 : Hid _ := hrd
                rw [hct] at c19
                clear hh hct hrd he
                rcases hg with h27 | ⟨h27, rfl⟩
                all_goals
                  go_wp2_with (go_at_call 19; refine Stop.mk ?_)
                  refine Stop.out (c19.mono ?_)
                  rintro e W9 ⟨rfl, rfl⟩
                  go_wp2_with (at_builtin; refine Stop.mk ?_)
                  refine Stop.out (wpList_append_own _ rfl (.tmp 84) (.tmp 86) 23 rfl (B + 1) 5 i0 _ 1 1 Tryz.underlying23 hi hz0 hz1 hz2 rfl (by decide) u8 out.length (cellsZ out) rfl (World.ownsRow.alloc HOwn.out _) ⟨wr.heap.size, 0, none⟩ 1 1 [.int .u8 (bt : Int)] rfl rfl ?_ ?_ ?_ ?_ ?_ ?_)
                  · intro q u hq
                    match q, hq with
                    | 0, hq => simp at hq; subst hq; simp [Addr.add]
                  · intro u hu; simp at hu; subst hu; rfl
                  · unfold maxLen; omega
                  · omega
                  · have := cell_lt HRi.out.c0; simp; simp at this; omega
                  · intro v' w1 hown1 hg1 _
                    have HR5 : Hid (DecI w B w1) := (HRi.out.on ((Below.refl _ _).alloc (Nat.le_refl _) _)).grown hg1 (fun r e => by have := own_base HOwn.out r e; have := HBB.out; omega)
                    have HO5 : Hid (w1.ownsRow (B + 1) 5 1 v' (out ++ [(bt : Int)]).length (cellsZ (out ++ [(bt : Int)]))) := own_app (L := [(bt : Int)]) hown1
                    have HZ5 : Hid (ByteZ (out ++ [(bt : Int)])) := HBz.out.app (fun z hz => by simp at hz; omega)
                    have HL5 : Hid ((out ++ [(bt : Int)]).length ≤ 4 * (at' + 1)) := by show _ ≤ _; rw [List.length_append]; simp; omega
                    clear hown1 hg1
                    generalize out ++ [(bt : Int)] = out2 at *
                    obtain ⟨y0, y1, y2⟩ := HSC.out w1 HR5.out.b
                    have hc24 := rends_any w1 (j : Int) bt
                    have hgo : s.size - (at' + 1) ≤ f := by omega
                    generalize endS (j : Int) bt = eb at *
                    have HC24 : Hid (Calls Tryz.prog 24 #[.int .i64 (j : Int), .int .u8 (bt : Int)] w1 fun e w' => e = .returned (.bool eb) ∧ w1 = w') := hc24
                    clear hc24
                    cases eb with
                    | true =>
                      go_wp2_with (go_at_call 24; refine HC24.out.mono ?_; rintro e W6 ⟨rfl, rfl⟩)
                      go_roundg (s.size - (at' + 1))
                      case measure => omega
                      case rel => exact ⟨at' + 1, a, out2, by simp, rfl, rfl, by omega, by rw [← HRD2.out, if_pos trivial]; exact rdS_fuel _ _ _ _ _ _ _ _ _ _ _ (by omega) (by omega), List.mem_cons_self, HL5.out, HZ5.out, HO5.out, HR5.out⟩
                    | false =>
                      go_wp2_with (go_at_call 24; refine HC24.out.mono ?_; rintro e W6 ⟨rfl, rfl⟩)
                      go_roundg (s.size - (at' + 1))
                      case measure => omega
                      case rel => exact ⟨at' + 1, h, out2, by simp, rfl, rfl, by omega, by rw [← HRD2.out, if_neg (by decide)]; exact rdS_fuel _ _ _ _ _ _ _ _ _ _ _ (by omega) (by omega), HMem.out, HL5.out, HZ5.out, HO5.out, HR5.out⟩
            · have hlI : ¬ (bt : Int) < 32 := by omega
              by_cases hasc : bt ≤ 126
              · have hh := head_asc j hj (a.1 == 6) h T bt (by omega) hasc
                rw [hh, if_neg (by simp)] at hrd
                simp only at hrd
                rw [enc_low (by omega) (by omega)] at hrd
                have he := ends_ke ⟨j, hj⟩ ⟨bt, by omega⟩
                simp only at he
                rw [he] at hrd
                have HRD2 : Hid _ := hrd
                have haI : (bt : Int) ≤ 126 := by omega
                clear hh hrd he
                rcases hg with h27 | ⟨h27, rfl⟩
                all_goals
                  go_wp2_with (at_builtin; refine Stop.mk ?_)
                  refine Stop.out (wpList_append_own _ rfl (.tmp 91) (.tmp 93) 23 rfl (B + 1) 5 i0 _ 1 1 Tryz.underlying23 hi hz0 hz1 hz2 rfl (by decide) u8 out.length (cellsZ out) rfl (World.ownsRow.alloc HOwn.out _) ⟨wr.heap.size, 0, none⟩ 1 1 [.int .u8 (bt : Int)] rfl rfl ?_ ?_ ?_ ?_ ?_ ?_)
                  · intro q u hq
                    match q, hq with
                    | 0, hq => simp at hq; subst hq; simp [Addr.add]
                  · intro u hu; simp at hu; subst hu; rfl
                  · unfold maxLen; omega
                  · omega
                  · have := cell_lt HRi.out.c0; simp; simp at this; omega
                  · intro v' w1 hown1 hg1 _
                    have HR5 : Hid (DecI w B w1) := (HRi.out.on ((Below.refl _ _).alloc (Nat.le_refl _) _)).grown hg1 (fun r e => by have := own_base HOwn.out r e; have := HBB.out; omega)
                    have HO5 : Hid (w1.ownsRow (B + 1) 5 1 v' (out ++ [(bt : Int)]).length (cellsZ (out ++ [(bt : Int)]))) := own_app (L := [(bt : Int)]) hown1
                    have HZ5 : Hid (ByteZ (out ++ [(bt : Int)])) := HBz.out.app (fun z hz => by simp at hz; omega)
                    have HL5 : Hid ((out ++ [(bt : Int)]).length ≤ 4 * (at' + 1)) := by show _ ≤ _; rw [List.length_append]; simp; omega
                    clear hown1 hg1
                    generalize out ++ [(bt : Int)] = out2 at *
                    obtain ⟨y0, y1, y2⟩ := HSC.out w1 HR5.out.b
                    have hc24 := rends_any w1 (j : Int) bt
                    have hgo : s.size - (at' + 1) ≤ f := by omega
                    generalize endS (j : Int) bt = eb at *
                    have HC24 : Hid (Calls Tryz.prog 24 #[.int .i64 (j : Int), .int .u8 (bt : Int)] w1 fun e w' => e = .returned (.bool eb) ∧ w1 = w') := hc24
                    clear hc24
                    cases eb with
                    | true =>
                      go_wp2_with (go_at_call 24; refine HC24.out.mono ?_; rintro e W6 ⟨rfl, rfl⟩)
                      go_roundg (s.size - (at' + 1))
                      case measure => omega
                      case rel => exact ⟨at' + 1, a, out2, by simp, rfl, rfl, by omega, by rw [← HRD2.out, if_pos trivial]; exact rdS_fuel _ _ _ _ _ _ _ _ _ _ _ (by omega) (by omega), List.mem_cons_self, HL5.out, HZ5.out, HO5.out, HR5.out⟩
                    | false =>
                      go_wp2_with (go_at_call 24; refine HC24.out.mono ?_; rintro e W6 ⟨rfl, rfl⟩)
                      go_roundg (s.size - (at' + 1))
                      case measure => omega
                      case rel => exact ⟨at' + 1, h, out2, by simp, rfl, rfl, by omega, by rw [← HRD2.out, if_neg (by decide)]; exact rdS_fuel _ _ _ _ _ _ _ _ _ _ _ (by omega) (by omega), HMem.out, HL5.out, HZ5.out, HO5.out, HR5.out⟩
              · have haI : ¬ (bt : Int) ≤ 126 := by omega
                have hg27 : ((bt : Int) == 27) = false := by simp; omega
                have hh := head_far j hj (a.1 == 6) h T bt (by omega) hbt256
                clear hg
                by_cases h6 : a.1 = 6
                · rw [if_pos (by simpa using h6)] at hh
                  have q6 : ((repN a.1 : Int) == 192) = true := by rw [repN_six ⟨a.1, H7.out a List.mem_cons_self⟩]; simpa using h6
                  have c20 := rune1_any wr b (off + at') (f + 1) (cap - at') (bsT T) (bsT_lt T) (by omega) (fun i hi => by rw [bsT_at (show i < T.size by omega)]; exact HTi.out i (by omega))
                  have hr1 : r1N (f + 1) (bsT T 0) (bsT T 1) (bsT T 2) (bsT T 3) = r1T T := by unfold r1T; rw [show T.size = f + 1 by omega]
                  rw [hr1] at c20
                  have c21 := fun W => rwide_any W ((r1T T).1 : Nat)
                  generalize repN a.1 = ra at *
                  by_cases hbad : (r1T T).2 = 0 ∨ wid ((r1T T).1 : Nat) = false
                  · have hu := uni_no hz hbad
                    rw [hh, hu, if_pos rfl] at hrd
                    subst hrd
                    clear hh hu hr1
                    generalize wid ((r1T T).1 : Nat) = wb at *
                    generalize r1T T = P at *
                    obtain ⟨rr, nn⟩ := P
                    simp only at c20 c21 hbad
                    have hb2 : ((nn : Int) == 0) = true ∨ (((nn : Int) == 0) = false ∧ wb = false) := by
                      by_cases hn0 : nn = 0
                      · exact .inl (by simp; omega)
                      · exact .inr ⟨by simp; omega, hbad.resolve_left hn0⟩
                    clear hbad
                    rcases hb2 with hb2 | ⟨hb2, rfl⟩
                    all_goals
                      go_wp2_with (first | (go_at_call 20; refine c20.mono ?_; rintro e W9 ⟨rfl, hb9⟩; have HR9 : Hid (DecI w B W9) := HRi.out.on hb9; clear hb9 c20) | (go_at_call 21; refine (c21 _).mono ?_; rintro e W8 ⟨rfl, rfl⟩) | (go_at_call 17; refine Stop.mk ?_))
                      all_goals
                        refine Stop.out ((H17.out ((at' : Nat) : Int) 86 _).mono ?_)
                        rintro e W1 ⟨g, kk, rfl, g0, g1, hg, hb⟩
                        have HP := refuse_post (k := kk) (c := 86) (i := at') HR9.out (by have := HBB.out; omega) g0 g1 hg hb
                        obtain ⟨-, b0, b1, bf⟩ := HR9.out.on hb
                        clear g0 g1 hb
                        go_wp2
                        obtain ⟨r0, r1⟩ := res_cells (v0 := .slice (some ⟨g, 0, none⟩) 1 kk) (v1 := .int .i64 86) b0 b1
                        exact bodyPost_ret (v := .tuple #[.string ⟨#[]⟩, .agg #[.slice (some ⟨g, 0, none⟩) 1 kk, .int .i64 86]]) (by simp [results, Tryz.results7, go_sem, r0, r1]) rfl HP
                  · have hn0 : (r1T T).2 ≠ 0 := fun e => hbad (.inl e)
                    have hw : wid ((r1T T).1 : Nat) = true := by
                      cases hw : wid ((r1T T).1 : Nat) with
                      | true => rfl
                      | false => exact absurd (.inr hw) hbad
                    obtain ⟨hu, hn2, hn4, hnT, henc⟩ := uni_yes hz hn0 hw
                    rw [hh, hu, if_neg hn0] at hrd
                    have h160 : 160 ≤ (r1T T).1 := by
                      unfold wid at hw
                      simp at hw
                      omega
                    rw [hasR_far _ (show (128 : Int) ≤ (((r1T T).1 : Nat) : Int) by omega), if_neg (by decide), henc] at hrd
                    have HRD2 : Hid _ := hrd
                    have hLL : ([(bsT T 0 : Int), bsT T 1, bsT T 2, bsT T 3].take (r1T T).2).length = (r1T T).2 := by rw [List.length_take]; simp; omega
                    have hLZ : ByteZ ([(bsT T 0 : Int), bsT T 1, bsT T 2, bsT T 3].take (r1T T).2) := fun z hz => by
                      have hz := List.mem_of_mem_take hz
                      have := bsT_lt T 0
                      have := bsT_lt T 1
                      have := bsT_lt T 2
                      have := bsT_lt T 3
                      simp at hz
                      omega
                    have hLc : ∀ i u, (cellsZ ([(bsT T 0 : Int), bsT T 1, bsT T 2, bsT T 3].take (r1T T).2))[i]? = some u → wr.cell? ⟨b, off + at' + i, none⟩ = some u := fun i u hiu => by
                      have hi4 : i < (r1T T).2 := by
                        have := (List.getElem?_eq_some_iff.1 hiu).1
                        unfold cellsZ at this
                        rw [List.length_map, hLL] at this
                        exact this
                      rw [HTi.out i (by omega), ← hiu]
                      unfold cellsZ
                      rw [List.getElem?_map, List.getElem?_take_of_lt hi4, ← bsT_at (show i < T.size by omega)]
                      rcases (show i = 0 ∨ i = 1 ∨ i = 2 ∨ i = 3 by omega) with rfl | rfl | rfl | rfl <;> rfl
                    have HLc : Hid _ := hLc
                    have HLZ : Hid _ := hLZ
                    have HLL : Hid _ := hLL
                    clear hh hu hr1 hrd henc hLc hLZ hLL hbad
                    generalize [(bsT T 0 : Int), bsT T 1, bsT T 2, bsT T 3].take (r1T T).2 = L at *
                    rw [hw] at c21
                    generalize r1T T = P at *
                    obtain ⟨rr, nn⟩ := P
                    simp only at c20 c21 hn0 hn2 hn4 hnT h160
                    have hnI : ((nn : Int) == 0) = false := by simp; omega
                    have hw1 : (at' : Int) + (nn : Int) ≤ 70000 := by omega
                    have hw2 : (at' : Int) + (nn : Int) ≤ (cap : Int) := by omega
                    have hw3 : (at' : Int) ≤ (at' : Int) + (nn : Int) := by omega
                    clear hw
                    go_wp2_with (first | (go_at_call 20; refine c20.mono ?_; rintro e W9 ⟨rfl, hb9⟩; have HR9 : Hid (DecI w B W9) := HRi.out.on hb9; have HO9 : Hid (W9.ownsRow (B + 1) 5 1 u8 out.length (cellsZ out)) := ownsRow_below HOwn.out hb9 (Nat.le_refl _); have HB9 : Hid _ := hb9; clear hb9 c20) | (go_at_call 21; refine (c21 _).mono ?_; rintro e W8 ⟨rfl, rfl⟩) | (at_builtin; refine Stop.mk ?_))
                    refine Stop.out (wpList_append_own _ rfl (.tmp 119) (.tmp 125) 23 rfl (B + 1) 5 i0 _ 1 1 Tryz.underlying23 hi hz0 hz1 hz2 rfl (by decide) u8 out.length (cellsZ out) rfl HO9.out _ _ _ (cellsZ L) rfl ?_ ?_ ?_ ?_ ?_ ?_ ?_)
                    · unfold cellsZ; rw [List.length_map, HLL.out]; omega
                    · intro q u hq
                      have hv := HLc.out q u hq
                      rw [add_at]
                      exact (HB9.out.cell (p := ⟨b, off + at' + q, none⟩) (cell_lt hv)).trans hv
                    · intro u hu
                      unfold cellsZ at hu
                      obtain ⟨z, -, rfl⟩ := List.mem_map.1 hu
                      rfl
                    · unfold maxLen; omega
                    · omega
                    · have := cell_lt HR9.out.c0; simp at this; omega
                    · intro v' w1 hown1 hg1 _
                      have HR5 : Hid (DecI w B w1) := HR9.out.grown hg1 (fun r e => by have := own_base HO9.out r e; have := HBB.out; omega)
                      have HO5 : Hid (w1.ownsRow (B + 1) 5 1 v' (out ++ L).length (cellsZ (out ++ L))) := own_app (L := L) (by rw [show at' + nn - at' = nn by omega] at hown1; rw [HLL.out]; exact hown1)
                      have HZ5 : Hid (ByteZ (out ++ L)) := HBz.out.app HLZ.out
                      have HL5 : Hid ((out ++ L).length ≤ 4 * (at' + nn)) := by show _ ≤ _; rw [List.length_append, HLL.out]; omega
                      clear hown1 hg1
                      go_wp2
                      go_roundg (s.size - (at' + nn))
                      case measure => omega
                      case rel => exact ⟨at' + nn, h, out ++ L, by simp, rfl, rfl, by omega, by rw [← HRD2.out]; exact rdS_fuel _ _ _ _ _ _ _ _ _ _ _ (by omega) (by omega), HMem.out, HL5.out, HZ5.out, HO5.out, HR5.out⟩
                · rw [if_neg (by simpa using h6)] at hh
                  have q6 : ((repN a.1 : Int) == 192) = false := by rw [repN_six ⟨a.1, H7.out a List.mem_cons_self⟩]; simpa using h6
                  have h7 := H7.out h HMem.out
                  have c22 : Calls Tryz.prog 22 #[.int .i64 (repN h.1 : Nat), .int .u8 (bt : Int)] wr fun e w' => e = .returned (.int .i32 ((if 160 ≤ bt then mean h.1 (bt - 160) else 0 : Nat) : Int)) ∧ wr = w' := by
                    by_cases h160 : 160 ≤ bt
                    · rw [if_pos h160]
                      exact stands_any wr h.1 bt h7 h160 hbt256 (HT.out.on HRi.out.b)
                    · rw [if_neg h160]
                      exact stands_low wr _ bt (by omega)
                  obtain ⟨r, hr⟩ : ∃ r, (if 160 ≤ bt then mean h.1 (bt - 160) else 0) = r := ⟨_, rfl⟩
                  rw [hr] at c22
                  by_cases hr0 : r = 0
                  · have hn : ¬ (160 ≤ bt ∧ mean h.1 (bt - 160) ≠ 0) := by
                      rintro ⟨e1, e2⟩
                      rw [if_pos e1] at hr
                      omega
                    rw [if_neg hn] at hh
                    rw [hh, if_pos rfl] at hrd
                    subst hrd
                    subst hr0
                    clear hh hn hr
                    generalize repN a.1 = ra at *
                    go_wp2_with (first | (go_at_call 22; refine c22.mono ?_; rintro e W9 ⟨rfl, rfl⟩) | (go_at_call 17; refine Stop.mk ?_))
                    refine Stop.out ((H17.out ((at' : Nat) : Int) 86 _).mono ?_)
                    rintro e W1 ⟨g, kk, rfl, g0, g1, hg, hb⟩
                    have HP := refuse_post (k := kk) (c := 86) (i := at') HRi.out (by have := HBB.out; omega) g0 g1 hg hb
                    obtain ⟨-, b0, b1, bf⟩ := HRi.out.on hb
                    clear g0 g1 hb
                    go_wp2
                    obtain ⟨r0, r1⟩ := res_cells (v0 := .slice (some ⟨g, 0, none⟩) 1 kk) (v1 := .int .i64 86) b0 b1
                    exact bodyPost_ret (v := .tuple #[.string ⟨#[]⟩, .agg #[.slice (some ⟨g, 0, none⟩) 1 kk, .int .i64 86]]) (by simp [results, Tryz.results7, go_sem, r0, r1]) rfl HP
                  · have h160 : 160 ≤ bt := by
                      by_cases h160 : 160 ≤ bt
                      · exact h160
                      · rw [if_neg h160] at hr; omega
                    rw [if_pos h160] at hr
                    rw [hr, if_pos ⟨h160, hr0⟩] at hh
                    have hmb := mean_bnd ⟨h.1, h7⟩ ⟨bt - 160, by omega⟩ (by simp only; omega)
                    simp only at hmb
                    rw [hr] at hmb
                    rw [hh, if_neg (by simp)] at hrd
                    simp only at hrd
                    rw [hasR_far _ (show (128 : Int) ≤ ((r : Nat) : Int) by omega), ← ends_far ⟨j, hj⟩ ⟨bt, hbt256⟩ (by simp only; omega), ← docZ_wide (by omega) (by omega) (by omega)] at hrd
                    simp only at hrd
                    have HRD2 : Hid _ := hrd
                    have c23 := rutf8_any wr (r : Int) (by omega) (by omega)
                    have hZ : ByteZ (docZ (r : Int)) := by rw [docZ_wide (by omega) (by omega) (by omega)]; exact enc_byte _
                    have hL3 : (docZ (r : Int)).length ≤ 4 := by have := docZ_len (r : Int); omega
                    have hrI : ((r : Int) == 0) = false := by simp; omega
                    have HZ : Hid _ := hZ
                    clear hh hr hrd hZ
                    generalize docZ (r : Int) = L at *
                    go_wp2_with (first | (go_at_call 22; refine c22.mono ?_; rintro e W9 ⟨rfl, rfl⟩) | (go_at_call 23; refine c23.mono ?_; rintro e W9 ⟨rfl, rfl⟩) | (at_builtin; refine Stop.mk ?_))
                    refine Stop.out (wpList_append_own _ rfl (.tmp 48) (.tmp 50) 23 rfl (B + 1) 5 i0 _ 1 1 Tryz.underlying23 hi hz0 hz1 hz2 rfl (by decide) u8 out.length (cellsZ out) rfl (World.ownsRow.alloc HOwn.out _) ⟨wr.heap.size, 0, none⟩ L.length L.length (cellsZ L) rfl ?_ ?_ ?_ ?_ ?_ ?_ ?_)
                    · unfold cellsZ; rw [List.length_map]; simp
                    · intro q u hq
                      rw [add_at]
                      simp [hq]
                    · intro u hu
                      unfold cellsZ at hu
                      obtain ⟨z, -, rfl⟩ := List.mem_map.1 hu
                      rfl
                    · unfold maxLen; omega
                    · omega
                    · have := cell_lt HRi.out.c0; simp; simp at this; omega
                    · intro v' w1 hown1 hg1 _
                      have HR5 : Hid (DecI w B w1) := (HRi.out.on ((Below.refl _ _).alloc (Nat.le_refl _) _)).grown hg1 (fun r e => by have := own_base HOwn.out r e; have := HBB.out; omega)
                      have HO5 : Hid (w1.ownsRow (B + 1) 5 1 v' (out ++ L).length (cellsZ (out ++ L))) := own_app (L := L) hown1
                      have HZ5 : Hid (ByteZ (out ++ L)) := HBz.out.app HZ.out
                      have HL5 : Hid ((out ++ L).length ≤ 4 * (at' + 1)) := by show _ ≤ _; rw [List.length_append]; omega
                      clear hown1 hg1
                      generalize out ++ L = out2 at *
                      obtain ⟨y0, y1, y2⟩ := HSC.out w1 HR5.out.b
                      have hc24 := rends_any w1 (j : Int) bt
                      have hgo : s.size - (at' + 1) ≤ f := by omega
                      generalize endS (j : Int) bt = eb at *
                      have HC24 : Hid (Calls Tryz.prog 24 #[.int .i64 (j : Int), .int .u8 (bt : Int)] w1 fun e w' => e = .returned (.bool eb) ∧ w1 = w') := hc24
                      clear hc24
                      cases eb with
                      | true =>
                        go_wp2_with (go_at_call 24; refine HC24.out.mono ?_; rintro e W6 ⟨rfl, rfl⟩)
                        go_roundg (s.size - (at' + 1))
                        case measure => omega
                        case rel => exact ⟨at' + 1, a, out2, by simp, rfl, rfl, by omega, by rw [← HRD2.out, if_pos trivial]; exact rdS_fuel _ _ _ _ _ _ _ _ _ _ _ (by omega) (by omega), List.mem_cons_self, HL5.out, HZ5.out, HO5.out, HR5.out⟩
                      | false =>
                        go_wp2_with (go_at_call 24; refine HC24.out.mono ?_; rintro e W6 ⟨rfl, rfl⟩)
                        go_roundg (s.size - (at' + 1))
                        case measure => omega
                        case rel => exact ⟨at' + 1, h, out2, by simp, rfl, rfl, by omega, by rw [← HRD2.out, if_neg (by decide)]; exact rdS_fuel _ _ _ _ _ _ _ _ _ _ _ (by omega) (by omega), HMem.out, HL5.out, HZ5.out, HO5.out, HR5.out⟩
        · rw [rdS_past x _ _ a R s _ at' h out (by omega)] at hrd
          subst hrd
          have hI : ¬ (at' : Int) < (s.size : Int) := by omega
          have HCV : Hid (∀ W, Below wr.heap.size wr W → (convert 23 9 u8).run Tryz.prog W = .ok (.string (bsZ out)) W) := fun W hb => conv_z HBz.out (ownsRow_below HOwn.out hb (Nat.le_refl _))
          obtain ⟨ua, uc, rfl⟩ := own_val hown
          clear hown hbz hmem HSET H6 H7 HX6 HT z0 z1 z2 hrel
          show Code.wp _ _ _ _ _
          by_cases hL : 65534 < out.length
          · have e : dcEnd (.ok out) = .error (65534, 85) := by simp only [dcEnd]; rw [if_pos hL]
            have HE : Hid _ := e
            have hLI : (65534 : Int) < (out.length : Int) := by omega
            clear HCV e
            go_wp2_with (go_at_call 17; refine Stop.mk ?_)
            refine Stop.out ((H17.out ((65534 : Nat) : Int) 85 _).mono ?_)
            rintro e W1 ⟨g, kk, rfl, g0, g1, hg, hb⟩
            have HP := refuse_post (k := kk) (c := 85) (i := 65534) HRi.out (by have := HBB.out; omega) g0 g1 hg hb
            obtain ⟨-, b0, b1, bf⟩ := HRi.out.on hb
            clear g0 g1 hb
            go_wp2
            obtain ⟨r0, r1⟩ := res_cells (v0 := .slice (some ⟨g, 0, none⟩) 1 kk) (v1 := .int .i64 85) b0 b1
            exact bodyPost_ret (v := .tuple #[.string ⟨#[]⟩, .agg #[.slice (some ⟨g, 0, none⟩) 1 kk, .int .i64 85]]) (by simp [results, Tryz.results7, go_sem, r0, r1]) rfl (by rw [HE.out]; exact HP)
          · have e : dcEnd (.ok out) = .ok out := by simp only [dcEnd]; rw [if_neg hL]
            have HE : Hid _ := e
            have hLI : ¬ (65534 : Int) < (out.length : Int) := by omega
            clear e
            obtain ⟨-, b0, b1, bf⟩ := HRi.out
            have hcv0 := HCV.out wr (Below.refl _ _)
            have hcv1 := HCV.out wr.drew ((Below.refl _ _).drew)
            have c25 := fun W => none_any W
            go_wp2_with fail
            go_region_with (first | (go_at_call 25; refine (c25 _).mono ?_; rintro e W9 ⟨rfl, hb9⟩; obtain ⟨x9, x0, x1, xf⟩ := (HRi.out.on ((Below.refl _ _).drew)).on hb9; have X9 : Hid _ := x9; have hcv9 := HCV.out W9 (((Below.refl _ _).drew).trans (hb9.mono (by simp))); clear x9 hb9) | fail)
            all_goals
              obtain ⟨r0, r1⟩ := res_cells (v0 := .slice none 0 0) (v1 := .int .i64 0) x0 x1
              have HBx : Hid (Below w.heap.size w ((W9.setCell ⟨B, 0, none⟩ (.slice none 0 0)).setCell ⟨B, 1, none⟩ (.int .i64 0))) := (X9.out.setCell (p := ⟨B, 0, none⟩) (by have := HBB.out; simp; omega) _).setCell (p := ⟨B, 1, none⟩) (by have := HBB.out; simp; omega) _
              go_wp2
              exact bodyPost_ret (v := .tuple #[.string (bsZ out), .agg #[.slice none 0 0, .int .i64 0]]) (by simp [results, Tryz.results7, go_sem, r0, r1]) rfl (by rw [HE.out]; exact ⟨HBx.out, rfl⟩)
end Go.Proofs.YtghaeolehjgmnaaGreatDoor
