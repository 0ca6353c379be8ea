import Derived.Test.YtmhjjpdfjilobaaDoorPj
import Derived.Deep.LoopGhost
import Derived.Deep.CutRange
/-
  DERIVED. The loop that reads bytes as a text.
-/
namespace Go.Proofs.YtmhjjpdfjilobaaDoor
open Go Go.Proofs Go.RowKit

def Stop (p : Prop) : Prop := p
theorem Stop.mk {p : Prop} (h : Stop p) : p := h
theorem Stop.out {p : Prop} (h : p) : Stop p := h

theorem own_base {w : World} {B : Nat} {e : TypeId} {v : Value} {n : Nat} {xs : List Value} {sz : Nat} (h : w.ownsRow B e sz v n xs) : ∀ r, v.ownBlock = some r → B ≤ r := by
  intro r hr
  rcases h.2 with ⟨rfl, _⟩ | ⟨g, cap, cur, rfl, hb, _⟩
  · simp [Value.ownBlock] at hr
  · have : g = r := by simpa [Value.ownBlock] using hr
    omega

theorem escL_mem (s : ByteArray) : ∀ (R : List Row) (r : Row), escL s R = some r → r ∈ R
  | [], r, h => by simp [escL] at h
  | a :: R, r, h => by
    rw [escL] at h
    split at h
    · obtain rfl : a = r := by simpa using h
      exact List.mem_cons_self
    · exact List.mem_cons_of_mem _ (escL_mem s R r h)
theorem turn_mem (s : ByteArray) (R : List Row) (h : Row) (hm : h ∈ R) : (turnS s R h).1 ∈ R := by
  unfold turnS
  split
  · exact hm
  · split
    · exact escL_mem s R _ ‹_›
    · exact hm

/-- Between two rounds. -/
def ReadInv (w : World) (Bk Bh Bo : Nat) (x : Bool) (kc ke : ByteArray) (a : Row) (R : List Row) (s : ByteArray) (F : Except (Nat × Int) (List Int)) (g : Nat) (s8 s10 : Value) (wx : World) : Prop :=
  ∃ (at' : Nat) (h : Row) (out : List Int), s10 = .int .i64 (at' : Int) ∧ g = s.size - at' ∧ at' ≤ s.size + 3 ∧ rdS x kc ke a R s g at' h out = F ∧ h ∈ a :: R ∧ out.length ≤ 4 * at' ∧ ByteZ out ∧ wx.ownsRow Bo 5 1 s8 out.length (cellsZ out) ∧ RdI w Bk Bh kc ke h wx

set_option maxRecDepth 100000 in
set_option maxHeartbeats 4000000 in
theorem read43_any (w : World) (q : Nat) (v : Value) (a : Row) (R : List Row) (x : Bool) (kc ke s : ByteArray) (hset : SetIn w q v (a :: R) x) (hx : w.cell? ⟨q, 1, none⟩ = some (.bool x)) (hR6 : (a :: R).length ≤ 6) (hN : ∀ r ∈ a :: R, r.1 < 7)
    (hkc : Short kc) (hke : Short ke) (hS : Spell w) (hT : Tabs w) (hU : ∀ w', Below w.heap.size w w' → Lib.Utf8Tabs 6 7 w') (hs : s.size ≤ 65534) :
    Calls Tryd.prog 43 #[.pointer (some ⟨q, 0, none⟩), .agg #[.string kc, .string ke], .string s] w (PostT w (rdS x kc ke a R s s.size 0 a [])) := by
  obtain ⟨ao, cap, rfl⟩ := hset.val
  obtain ⟨g, rfl, -, r0, r1, r2, r3, r4⟩ := hset.row 0 a rfl
  simp only [Nat.zero_mul, Nat.zero_add] at r0 r1 r2 r3 r4
  obtain ⟨n, hn⟩ : ∃ n, (a :: R).length = n := ⟨_, rfl⟩
  have hn1 : 0 < n := by rw [← hn]; simp
  obtain ⟨F, hF⟩ : ∃ F, rdS x kc ke a R s s.size 0 a [] = F := ⟨_, rfl⟩
  rw [hF]
  have HF : Hid _ := hF
  have HSET : Hid _ := hset
  have c0 := hset.c0
  rw [hn] at c0
  have H6 : Hid _ := hR6
  clear hF hset hR6
  unfold invF at r4
  obtain ⟨W1, hW1⟩ : ∃ W1, w.alloc (.cells #[.string kc, .string ke] 85) = W1 := ⟨_, rfl⟩
  have hb1 : Below w.heap.size w W1 := hW1 ▸ (Below.refl _ _).alloc (Nat.le_refl _) _
  have hs1 : W1.heap.size = w.heap.size + 1 := by rw [← hW1]; simp
  have c0' := (hb1.cell (p := ⟨q, 0, none⟩) (cell_lt c0)).trans c0
  have y0 := (hb1.cell (p := ⟨g, 0, none⟩) (cell_lt r0)).trans r0
  have y1 := (hb1.cell (p := ⟨g, 1, none⟩) (cell_lt r1)).trans r1
  have y2 := (hb1.cell (p := ⟨g, 2, none⟩) (cell_lt r2)).trans r2
  have y3 := (hb1.cell (p := ⟨g, 3, none⟩) (cell_lt r3)).trans r3
  have y4 := (hb1.cell (p := ⟨g, 4, none⟩) (cell_lt r4)).trans r4
  have HW1 : Hid _ := hW1
  have HB1 : Hid _ := hb1
  have H53 : Hid (∀ W h t, Below w.heap.size w W → Calls Tryd.prog 53 #[.pointer (some ⟨q, 0, none⟩), rowV h, .string t] W fun e w' => e = .returned (.tuple #[rowV (turnS t (a :: R) h).1, .bool (turnS t (a :: R) h).2]) ∧ Below W.heap.size W w') :=
    fun W h t hb => turned_any W q _ (a :: R) x h t (HSET.out.on hb) H6.out (hS.on hb)
  have H54 : Hid (∀ W h t (hz : 0 < t.size), Below w.heap.size w W → h ∈ a :: R → Calls Tryd.prog 54 #[.pointer (some ⟨q, 0, none⟩), .agg #[.string kc, .string ke], rowV h, .string t] W fun e w' => e = .returned (.tuple #[.int .i32 ((headS (a.1 == 6) kc h (t[0]'hz).toNat t).1 : Nat), .int .i64 ((headS (a.1 == 6) kc h (t[0]'hz).toNat t).2 : Nat)]) ∧ Below W.heap.size W w') :=
    fun W h t hz hb hm => head_any W q _ a R x h kc ke t (HSET.out.on hb) hkc (hN h hm) (hT.on hb) (fun w' hw' => hU w' (hb.trans (hw'.mono hb.size))) hz
  have H56 : Hid (∀ W (r : Int), Calls Tryd.prog 56 #[.agg #[.string kc, .string ke], .int .i32 r] W fun e w' => e = .returned (.bool (hasR ke r)) ∧ Below W.heap.size W w') := fun W r => ends_any W kc ke hke r
  have H27 : Hid (∀ W (i c : Int), Calls Tryd.prog 27 #[.int .i64 i, .iface 68 (.int .i64 c)] W fun e w' => ∃ v, e = .returned v ∧ PErr w' v (some (i, c)) ∧ Below W.heap.size W w') := fun W i c => refusal_any i c W
  have HSP : Hid (∀ W, Below w.heap.size w W → W.cell? ⟨1, 2, none⟩ = some (.string (sp 2))) := fun W hb => (hS.on hb).cell 2 (by decide)
  have H0 : Hid (∀ W, Below w.heap.size w W → (W.cell? ⟨q, 0, none⟩ = some (.slice (some ⟨g, 0, none⟩) n cap) ∧ W.cell? ⟨q, 1, none⟩ = some (.bool x)) ∧ Row5 W g 0 a) := fun W hb =>
    ⟨⟨(hb.cell (p := ⟨q, 0, none⟩) (cell_lt c0)).trans c0, (hb.cell (p := ⟨q, 1, none⟩) (cell_lt hx)).trans hx⟩, Row5.on ⟨r0, r1, r2, r3, r4⟩ hb (cell_lt r0)⟩
  have H1w : Hid (1 < w.heap.size) := hS.lt
  clear r0 r1 r2 r3 r4 c0 hx hkc hke hS hT hU hN
  go_enter Tryd.func43, Tryd.ntmps43
  go_wp2
  obtain ⟨Bk, hBk⟩ : ∃ Bk, w.heap.size = Bk := ⟨_, rfl⟩
  obtain ⟨W2, hW2⟩ : ∃ W2, W1.alloc (.cells #[.int .i64 (a.1 : Int), .string a.2.1, .string (sp (3 * a.1 + 2)), .func (.func (mfN a.1)) #[] #[], .func (.func 81) #[] (caps a.2.2)] 62) = W2 := ⟨_, rfl⟩
  obtain ⟨Bh, hBh⟩ : ∃ Bh, W1.heap.size = Bh := ⟨_, rfl⟩
  have hR2 : RdI w Bk Bh kc ke a W2 := by
    have hb2 : Below W1.heap.size W1 W2 := hW2 ▸ (Below.refl _ _).alloc (Nat.le_refl _) _
    have k0 : W1.cell? ⟨w.heap.size, 0, none⟩ = some (.string kc) := by rw [← hW1]; simp
    have k1 : W1.cell? ⟨w.heap.size, 1, none⟩ = some (.string ke) := by rw [← hW1]; simp
    rw [← hBk, ← hBh]
    exact ⟨hb1.trans (hb2.mono hb1.size), (hb2.cell (p := ⟨w.heap.size, 0, none⟩) (cell_lt k0)).trans k0, (hb2.cell (p := ⟨w.heap.size, 1, none⟩) (cell_lt k1)).trans k1, hW2 ▸ Row5.new W1 a, fun i => by rw [← hW2]; simp⟩
  have hs2 : W2.heap.size = Bk + 2 := by rw [← hW2]; simp; omega
  have hBB : Bh = Bk + 1 := by omega
  rw [hW2]
  rw [hBk]
  clear hW2 hBh
  subst hBB
  have HR2 : Hid _ := hR2
  have HBB : Hid (w.heap.size = Bk) := hBk
  clear hR2 hs1 hb1 c0' y0 y1 y2 y3 y4 HW1 HB1 hW1
  go_loopg [8, 10] s.size (fun g s8 s10 wx => Hid (ReadInv w Bk (Bk + 1) (Bk + 2) x kc ke a R s F g s8 s10 wx))
  case atStart => exact ⟨0, a, [], rfl, by omega, by omega, HF.out, List.mem_cons_self, by simp, fun z hz => by simp at hz, World.ownsRow_nil _ _ _ _, HR2.out⟩
  case round =>
    clear HR2 HF hs2
    obtain ⟨at', h, out, rfl, rfl, hat3, hrd, hmem, hlen, hbz, hown, hri⟩ := hrel.out
    have HMem : Hid (h ∈ a :: R) := hmem
    have HBz : Hid (ByteZ out) := hbz
    have HOwn : Hid _ := hown
    have HRi : Hid _ := hri
    obtain ⟨⟨d0, d1⟩, dr⟩ := H0.out wr hri.b
    by_cases hat : at' < s.size
    · obtain ⟨f, hf⟩ : ∃ f, s.size - at' = f + 1 := ⟨s.size - at' - 1, by omega⟩
      rw [hf, rdS, dif_pos hat] at hrd
      have hI : (at' : Int) < (s.size : Int) := by omega
      have hI2 : (at' : Int) ≤ (s.size : Int) := by omega
      obtain ⟨bt, hbt⟩ : ∃ bt, (s[at']'hat) = bt := ⟨_, rfl⟩
      obtain ⟨T, hTx⟩ : ∃ T, s.extract at' s.size = T := ⟨_, rfl⟩
      have hz : 0 < T.size := by rw [← hTx]; simp; omega
      have hT0 : (T[0]'hz) = bt := by subst hTx; rw [← hbt]; simp [ByteArray.getElem_extract]
      rw [hbt, hTx] at hrd
      have c53 := H53.out wr h T hri.b
      have c54 : ∀ d os, Calls Tryd.prog 54 #[.pointer (some ⟨q, 0, none⟩), .agg #[.string kc, .string ke], rowV h, .string T] (Go.Sort.grow (redrawn wr d) os) fun e w'' => e = .returned (.tuple #[.int .i32 ((headS (a.1 == 6) kc h bt.toNat T).1 : Nat), .int .i64 ((headS (a.1 == 6) kc h bt.toNat T).2 : Nat)]) ∧ ∃ p : Regrown, w'' = Go.Sort.grow (redrawn wr p.d) p.os := fun d os => by
        have := H54.out (Go.Sort.grow (redrawn wr d) os) h T hz (hri.b.trans ((below_regrown wr d os).mono hri.b.size)) hmem
        rw [hT0] at this
        exact Calls.regrown_of this
      have kk0 := fun d os => cell_regrown hri.k0 d os
      have kk1 := fun d os => cell_regrown hri.k1 d os
      have hh0 := fun d os => cell_regrown hri.r.c0 d os
      have hh1 := fun d os => cell_regrown hri.r.c1 d os
      have hh2 := fun d os => cell_regrown hri.r.c2 d os
      have hh3 := fun d os => cell_regrown hri.r.c3 d os
      have hh4 := fun d os => cell_regrown hri.r.c4 d os
      unfold rowV at c53 c54
      by_cases hE : x = true ∧ bt.toNat = 27
      · obtain ⟨rfl, hb27⟩ := hE
        rw [if_pos (by simp [hb27])] at hrd
        have hb27I : ((bt.toNat : Int) == 27) = true := by simp; omega
        obtain ⟨TS, hTS⟩ : ∃ TS, turnS T (a :: R) h = TS := ⟨_, rfl⟩
        have HMT : Hid (TS.1 ∈ a :: R) := hTS ▸ turn_mem T (a :: R) h hmem
        rw [hTS] at hrd
        have HTC : Hid (∀ W, Below w.heap.size w W → Calls Tryd.prog 53 #[.pointer (some ⟨q, 0, none⟩), rowV h, .string T] W fun e w' => e = .returned (.tuple #[rowV TS.1, .bool TS.2]) ∧ Below W.heap.size W w') := fun W hb => by have := H53.out W h T hb; rw [hTS] at this; exact this
        obtain ⟨hr', ok⟩ := TS
        simp only at hrd
        have HRD : Hid _ := hrd
        clear hrd hown hbz hmem H53 H54 H56 c54 kk0 kk1 hh0 hh1 hh2 hh3 hh4
        obtain ⟨z0, z1, z2, z3, z4⟩ := hri.r
        have zf := hri.f
        have hbD : Below w.heap.size w wr.drew := hri.b.drew
        have c53b : ∀ W, Below wr.heap.size wr W → Calls Tryd.prog 53 #[.pointer (some ⟨q, 0, none⟩), .agg #[.int .i64 (h.1 : Int), .string h.2.1, .string (sp (3 * h.1 + 2)), .func (.func (mfN h.1)) #[] #[], .func (.func 81) #[] (caps h.2.2)], .string T] W fun e w' => e = .returned (.tuple #[.agg #[.int .i64 (hr'.1 : Int), .string hr'.2.1, .string (sp (3 * hr'.1 + 2)), .func (.func (mfN hr'.1)) #[] #[], .func (.func 81) #[] (caps hr'.2.2)], .bool ok]) ∧ Below W.heap.size W w' := fun W hb => by
          have := HTC.out W (HRi.out.b.trans (hb.mono HRi.out.b.size))
          unfold rowV at this
          exact this
        have hltB : Bk + 1 < wr.heap.size := cell_lt hri.r.c0
        have hneB : Bk + 1 ≠ wr.heap.size := by omega
        have hneB2 : wr.heap.size ≠ Bk + 1 := by omega
        have zz0 : ∀ ob, (wr.alloc ob).cell? ⟨Bk + 1, 0, none⟩ = some (.int .i64 (h.1 : Int)) := fun ob => (((Below.refl _ wr).alloc (Nat.le_refl _) ob).cell (p := ⟨Bk + 1, 0, none⟩) hltB).trans z0
        have zz1 : ∀ ob, (wr.alloc ob).cell? ⟨Bk + 1, 1, none⟩ = some (.string h.2.1) := fun ob => (((Below.refl _ wr).alloc (Nat.le_refl _) ob).cell (p := ⟨Bk + 1, 1, none⟩) hltB).trans z1
        have zz2 : ∀ ob, (wr.alloc ob).cell? ⟨Bk + 1, 2, none⟩ = some (.string (sp (3 * h.1 + 2))) := fun ob => (((Below.refl _ wr).alloc (Nat.le_refl _) ob).cell (p := ⟨Bk + 1, 2, none⟩) hltB).trans z2
        have zz3 : ∀ ob, (wr.alloc ob).cell? ⟨Bk + 1, 3, none⟩ = some (.func (.func (mfN h.1)) #[] #[]) := fun ob => (((Below.refl _ wr).alloc (Nat.le_refl _) ob).cell (p := ⟨Bk + 1, 3, none⟩) hltB).trans z3
        have zz4 : ∀ ob, (wr.alloc ob).cell? ⟨Bk + 1, 4, none⟩ = some (.func (.func 81) #[] (caps h.2.2)) := fun ob => (((Below.refl _ wr).alloc (Nat.le_refl _) ob).cell (p := ⟨Bk + 1, 4, none⟩) hltB).trans z4
        have HC53 : Hid _ := c53b
        clear hri c53b c53 hbD
        go_wp2
        go_cut [11, 12] from 21 to 85 (fun s11 s12 wx => s12 = .bool ok ∧ ∃ Bn, s11 = .pointer (some ⟨Bn, 0, none⟩) ∧ Hid (Below wr.heap.size wr wx) ∧ Hid (Row5 wx Bn 0 hr'))
        case first =>
          go_region_with (first
            | (go_at_call 53; refine (HC53.out _ ((Below.refl _ wr).drew)).mono ?_; rintro e W9 ⟨rfl, hb9⟩; have HA9 : Hid (Below wr.heap.size wr W9) := ((Below.refl _ wr).drew).trans hb9)
            | (go_at_call 53; refine (HC53.out _ (((Below.refl _ wr).alloc (Nat.le_refl _) _).drew)).mono ?_; rintro e W9 ⟨rfl, hb9⟩; have HA9 : Hid (Below wr.heap.size wr W9) := (((Below.refl _ wr).alloc (Nat.le_refl _) _).drew).trans (hb9.mono (by simp)); have n0 : W9.cell? ⟨wr.heap.size, 0, none⟩ = some (.int .i64 0) := (hb9.cell (p := ⟨wr.heap.size, 0, none⟩) (by simp)).trans (by simp); have n1 : W9.cell? ⟨wr.heap.size, 1, none⟩ = some (.string ⟨#[]⟩) := (hb9.cell (p := ⟨wr.heap.size, 1, none⟩) (by simp)).trans (by simp); have n2 : W9.cell? ⟨wr.heap.size, 2, none⟩ = some (.string ⟨#[]⟩) := (hb9.cell (p := ⟨wr.heap.size, 2, none⟩) (by simp)).trans (by simp); have n3 : W9.cell? ⟨wr.heap.size, 3, none⟩ = some .nilFunc := (hb9.cell (p := ⟨wr.heap.size, 3, none⟩) (by simp)).trans (by simp); have n4 : W9.cell? ⟨wr.heap.size, 4, none⟩ = some .nilFunc := (hb9.cell (p := ⟨wr.heap.size, 4, none⟩) (by simp)).trans (by simp); have nf : ∀ i, W9.frozen? ⟨wr.heap.size, i, none⟩ = false := fun i => (hb9.frozen (p := ⟨wr.heap.size, i, none⟩) (by simp)).trans (by simp))
            | fail)
          all_goals
            first
              | (obtain ⟨V, hV⟩ : ∃ V, W9.alloc (.cells #[.int .i64 (hr'.1 : Int), .string hr'.2.1, .string (sp (3 * hr'.1 + 2)), .func (.func (mfN hr'.1)) #[] #[], .func (.func 81) #[] (caps hr'.2.2)] 62) = V := ⟨_, rfl⟩
                 rw [hV]
                 have HBV : Hid (Below wr.heap.size wr V) := hV ▸ HA9.out.alloc HA9.out.size _
                 have HNV : Hid (Row5 V W9.heap.size 0 hr') := hV ▸ Row5.new W9 hr'
                 obtain ⟨Bn, hBn⟩ : ∃ Bn, W9.heap.size = Bn := ⟨_, rfl⟩
                 rw [hBn] at HNV ⊢)
              | (obtain ⟨V, hV⟩ : ∃ V, ((((W9.setCell ⟨wr.heap.size, 0, none⟩ (.int .i64 (hr'.1 : Int))).setCell ⟨wr.heap.size, 1, none⟩ (.string hr'.2.1)).setCell ⟨wr.heap.size, 2, none⟩ (.string (sp (3 * hr'.1 + 2)))).setCell ⟨wr.heap.size, 3, none⟩ (.func (.func (mfN hr'.1)) #[] #[])).setCell ⟨wr.heap.size, 4, none⟩ (.func (.func 81) #[] (caps hr'.2.2)) = V := ⟨_, rfl⟩
                 rw [hV]
                 have HBV : Hid (Below wr.heap.size wr V) := hV ▸ ((((HA9.out.setCell (p := ⟨wr.heap.size, 0, none⟩) (Nat.le_refl _) _).setCell (p := ⟨wr.heap.size, 1, none⟩) (Nat.le_refl _) _).setCell (p := ⟨wr.heap.size, 2, none⟩) (Nat.le_refl _) _).setCell (p := ⟨wr.heap.size, 3, none⟩) (Nat.le_refl _) _).setCell (p := ⟨wr.heap.size, 4, none⟩) (Nat.le_refl _) _
                 have HNV : Hid (Row5 V wr.heap.size 0 hr') := hV ▸ row_written hr' n0 n1 n2 n3 n4
                 obtain ⟨Bn, hBn⟩ : ∃ Bn, wr.heap.size = Bn := ⟨_, rfl⟩
                 rw [hBn] at HNV ⊢)
          all_goals
            go_wp2_with fail
            go_meet
            case rel => exact ⟨rfl, Bn, rfl, HBV, HNV⟩
        case rest =>
          obtain ⟨rfl, Bn, rfl, HBV, HNV⟩ := hcut
          have HRV : Hid (RdI w Bk (Bk + 1) kc ke h wc) := HRi.out.on HBV.out
          have HOV : Hid (wc.ownsRow (Bk + 2) 5 1 u8 out.length (cellsZ out)) := ownsRow_below HOwn.out HBV.out (Nat.le_refl _)
          obtain ⟨m0, m1, m2, m3, m4⟩ := HNV.out
          obtain ⟨k0, k1, k2, k3, k4⟩ := HRV.out.r
          have kf := HRV.out.f
          have hspV := HSP.out wc HRV.out.b
          obtain ⟨E2, hE2⟩ : ∃ E2, sp 2 = E2 := ⟨_, rfl⟩
          have hE3 : E2.size = 3 := by rw [← hE2]; decide
          rw [hE2] at hspV
          have h1B : 1 < Bk := by have := H1w.out; have := HBB.out; omega
          have h1n : (1 : Nat) ≠ Bk + 1 := by omega
          have h1m : Bk + 1 ≠ 1 := by omega
          have hBn1 : Bn ≠ Bk + 1 ∨ Bn = Bk + 1 := by omega
          clear hBn1 h1B
          clear hE2 HC53 HTC HBV HNV z0 z1 z2 z3 z4 zf zz0 zz1 zz2 zz3 zz4
          cases ok with
          | false =>
            have hrd := HRD.out
            rw [if_neg (by decide)] at hrd
            subst hrd
            go_wp2_with (go_at_call 27; refine (H27.out _ _ _).mono ?_; rintro e W8 ⟨v, rfl, hv, hb8⟩)
            have HV : Hid _ := hv
            have HB8 : Hid _ := hb8
            clear hv hb8
            exact bodyPost_ret (v := .tuple #[.string ⟨#[]⟩, v]) (by simp [results, Tryd.results43, go_sem]) rfl ⟨HRV.out.b.trans (HB8.out.mono HRV.out.b.size), v, rfl, HV.out⟩
          | true =>
            have hrd := HRD.out
            rw [if_pos rfl] at hrd
            have HRD2 : Hid _ := hrd
            clear hrd HRD
            go_wp2
            have HR7 := HRV.out.turn (by omega) (by have := HBB.out; omega) hr'
            have HO7 : (rowSet wc (Bk + 1) hr').ownsRow (Bk + 2) 5 1 u8 out.length (cellsZ out) := World.ownsRow.kept HOV.out (rowSet_grown wc (Bk + 1) hr') (.inr (fun e => by have := own_base HOV.out _ e; omega))
            unfold rowSet at HR7 HO7
            go_roundg (s.size - (at' + 3))
            case measure => omega
            case rel => exact ⟨at' + 3, hr', out, by simp, rfl, by omega, by rw [← HRD2.out]; exact rdS_fuel _ _ _ _ _ _ _ _ _ _ _ (by omega) (by omega), HMT.out, by omega, HBz.out, HO7, HR7⟩
      · rw [if_neg (by simpa using hE)] at hrd
        obtain ⟨HD, hHD⟩ : ∃ HD, headS (a.1 == 6) kc h bt.toNat T = HD := ⟨_, rfl⟩
        rw [hHD] at hrd c54
        obtain ⟨rr, nn⟩ := HD
        simp only at hrd c54
        have HRD : Hid _ := hrd
        clear hrd c53 hri hown hbz hmem H53 H54
        have hg : x = false ∨ (x = true ∧ ((bt.toNat : Int) == 27) = false) := by
          cases x with
          | false => exact .inl rfl
          | true => refine .inr ⟨rfl, ?_⟩; simp at hE ⊢; omega
        have hbnd := headS_bnd (a.1 == 6) kc h bt.toNat T (by have := bt.toNat_lt; omega)
        rw [hHD] at hbnd
        simp only at hbnd
        rcases hg with rfl | ⟨rfl, hb27⟩
        all_goals
          go_wp2
          refine wp_region_quiet_below (by kernel_rfl) (by kernel_rfl) ?_
          repeat (quiet_step (exact c54 _ _))
          refine wpQuiet_nil ?_
          intro _ hw'
          obtain ⟨⟨dq, osq⟩, hw''⟩ := hw'
          subst hw''
          have hbq := below_regrown wr dq osq
          have HRq : Hid (RdI w Bk (Bk + 1) kc ke h (Go.Sort.grow (redrawn wr dq) osq)) := HRi.out.on hbq
          have HOq : Hid _ := ownsRow_below HOwn.out hbq (Nat.le_refl _)
          obtain ⟨Wq, hWq⟩ : ∃ Wq, Go.Sort.grow (redrawn wr dq) osq = Wq := ⟨_, rfl⟩
          rw [hWq] at HRq HOq ⊢
          clear hWq hbq kk0 kk1 hh0 hh1 hh2 hh3 hh4 c54
          by_cases hnn : nn = 0
          · have hrd := HRD.out
            rw [if_pos hnn] at hrd
            subst hrd
            have hnI : ((nn : Int) == 0) = true := by simp; omega
            go_wp2_with (go_at_call 27; refine (H27.out _ _ _).mono ?_; rintro e W8 ⟨v, rfl, hv, hb8⟩)
            have HV : Hid _ := hv
            have HB8 : Hid _ := hb8
            clear hv hb8
            exact bodyPost_ret (v := .tuple #[.string ⟨#[]⟩, v]) (by simp [results, Tryd.results43, go_sem]) rfl ⟨HRq.out.b.trans (HB8.out.mono HRq.out.b.size), v, rfl, HV.out⟩
          · have hrd := HRD.out
            rw [if_neg hnn] at hrd
            have HRD2 : Hid _ := hrd
            clear hrd HRD
            have hnI : ((nn : Int) == 0) = false := by simp; omega
            have hbse : Bk + 2 ≤ Wq.heap.size := by
              have := cell_lt HRq.out.r.c0
              simp only at this
              omega
            have c55 := append_any (Bk + 2) u8 out.length (cellsZ out) (rr : Int) (by omega) (by omega) Wq HOq.out (by omega) hbse
            go_wp2_with (go_at_call 55; refine Stop.mk ?_)
            refine Stop.out (c55.mono ?_)
            rintro e W5 ⟨v', rfl, hown5, o, hg5⟩
            have hob : ∀ r, u8.ownBlock = some r → Bk + 2 ≤ r := own_base HOq.out
            have HR5 : Hid (RdI w Bk (Bk + 1) kc ke h W5) := (HRq.out.on ((Below.refl _ _).alloc (Nat.le_refl _) o)).grown hg5 (fun r e => by have := hob r e; have := HBB.out; omega)
            have HO5 : Hid (W5.ownsRow (Bk + 2) 5 1 v' (out ++ Lib.encodeRuneZ (rr : Int)).length (cellsZ (out ++ Lib.encodeRuneZ (rr : Int)))) := by
              have e1 : (out ++ Lib.encodeRuneZ (rr : Int)).length = out.length + (Lib.runeCells (rr : Int)).length := by simp [Lib.runeCells]
              have e2 : cellsZ (out ++ Lib.encodeRuneZ (rr : Int)) = cellsZ out ++ Lib.runeCells (rr : Int) := by simp [cellsZ, Lib.runeCells]
              show W5.ownsRow _ _ _ _ _ _
              rw [e1, e2]
              exact hown5
            have HZ5 : Hid (ByteZ (out ++ Lib.encodeRuneZ (rr : Int))) := HBz.out.app (enc_byte _)
            have HL5 : Hid ((out ++ Lib.encodeRuneZ (rr : Int)).length ≤ 4 * (at' + nn)) := by
              show _ ≤ _
              rw [List.length_append]
              have := enc_len (rr : Int)
              omega
            clear c55 hown5 hg5 hob HRq HOq HBz
            generalize out ++ Lib.encodeRuneZ (rr : Int) = out2 at *
            have l0 := HR5.out.k0
            have l1 := HR5.out.k1
            have hw1 : (at' : Int) + (nn : Int) ≤ 70000 := by omega
            have hc56 := H56.out W5 (rr : Int)
            generalize hasR ke (rr : Int) = eb at *
            have HC56 : Hid (Calls Tryd.prog 56 #[.agg #[.string kc, .string ke], .int .i32 (rr : Int)] W5 fun e w' => e = .returned (.bool eb) ∧ Below W5.heap.size W5 w') := hc56
            clear hc56
            have hgo : s.size - (at' + nn) ≤ f := by omega
            cases eb with
            | true =>
              go_wp2_with (go_at_call 56; refine HC56.out.mono ?_; rintro e W6 ⟨rfl, hb6⟩; have HR6 : Hid _ := HR5.out.on hb6; have HO6 : Hid (W6.ownsRow (Bk + 2) 5 1 v' out2.length (cellsZ out2)) := ownsRow_below HO5.out hb6 (Nat.le_refl _); obtain ⟨⟨p0, p1⟩, pr⟩ := H0.out W6 HR6.out.b; obtain ⟨pr0, pr1, pr2, pr3, pr4⟩ := pr; obtain ⟨z0, z1, z2, z3, z4⟩ := HR6.out.r; have zf := HR6.out.f; clear hb6)
              have HR7 := HR6.out.turn (by omega) (by have := HBB.out; omega) a
              have HO7 : (rowSet W6 (Bk + 1) a).ownsRow (Bk + 2) 5 1 v' out2.length (cellsZ out2) := World.ownsRow.kept HO6.out (rowSet_grown W6 (Bk + 1) a) (.inr (fun e => by have := own_base HO6.out _ e; omega))
              unfold rowSet at HR7 HO7
              go_roundg (s.size - (at' + nn))
              case measure => omega
              case rel => exact ⟨at' + nn, a, out2, by simp, rfl, by omega, by rw [← HRD2.out, if_pos trivial]; exact rdS_fuel _ _ _ _ _ _ _ _ _ _ _ (by omega) (by omega), List.mem_cons_self, HL5.out, HZ5.out, HO7, HR7⟩
            | false =>
              go_wp2_with (go_at_call 56; refine HC56.out.mono ?_; rintro e W6 ⟨rfl, hb6⟩; have HR6 : Hid _ := HR5.out.on hb6; have HO6 : Hid (W6.ownsRow (Bk + 2) 5 1 v' out2.length (cellsZ out2)) := ownsRow_below HO5.out hb6 (Nat.le_refl _); clear hb6)
              go_roundg (s.size - (at' + nn))
              case measure => omega
              case rel => exact ⟨at' + nn, h, out2, by simp, rfl, by omega, by rw [← HRD2.out, if_neg (by decide)]; exact rdS_fuel _ _ _ _ _ _ _ _ _ _ _ (by omega) (by omega), HMem.out, HL5.out, HZ5.out, HO6.out, HR6.out⟩
    · rw [rdS_past x kc ke a R s _ at' h out (by omega)] at hrd
      subst hrd
      have hI : ¬ (at' : Int) < (s.size : Int) := by omega
      have hcv := conv_z hbz hown
      clear hri hown hbz hmem H0 H53 H54 H56 H27 HSP HSET H6
      go_wp2
      exact bodyPost_ret (v := .tuple #[.string (bsZ out), .nilIface]) (by simp [results, Tryd.results43, go_sem]) rfl ⟨HRi.out.b, rfl⟩
end Go.Proofs.YtmhjjpdfjilobaaDoor
