import Derived.Test.YtoikdpjjcnmgeaaGreatDoorZo
/-
  DERIVED. What stands behind a head: the document's: a value.
-/
namespace Go.Proofs.YtoikdpjjcnmgeaaGreatDoor
open Go Go.Proofs Go.RowKit
open Wk (Nd nds)
open Go.Sort

set_option maxRecDepth 100000 in
set_option maxHeartbeats 8000000 in
theorem el_G (d : Nat) (w : World) (base rb : Nat) (a : Option Addr) (n cap : Nat) (ys : List UInt8) (L : List Nd) (nv : Value) (k fin : Nat) (ex same : Bool) (v : Int) (sz len : Nat) (hx : Bool) (hA : Ask base rb a n cap ys w L nv) (hfn : fin ≤ n) (hsz : 8 ≤ sz) (hkf : k + sz ≤ fin) (hlen : len < 4294967296) (hu : len ≠ und) (ho : ¬ len % 2 = 1) (hv : v ≠ 18) (hL : ¬ 65534 < len) (hs : ¬ fin - k - sz < len) (hg : ¬ tagS ys k % 65536 = 0) (hm : L.length ≠ 4096) (hcap : k + sz < cap) :
    Calls Tryz.prog 67 #[.pointer (some ⟨rb, 0, none⟩), .int .i64 (k : Int), .int .i64 (fin : Int), .int .u32 (tagS ys k : Int), dhV v (k + sz) len same, .bool ex, .int .i64 (d : Int)] w (ElP (srcS ys) base rb a n cap ys w L (2 * d) fin ex k ⟨v, sz, len, hx⟩) := by
  have HB : Hid (ElGo (srcS ys) L.length (2 * d) fin ex k ⟨v, sz, len, hx⟩ (k + sz + len) [⟨(tagS ys k : Int), v, 0, trS v (cutB ys (k + sz) len)⟩]) := ElGo.plain (by unfold badLen; simp [hu, ho]) (fun h => hL h.2) (fun h => hs h.2) hg hm hv
  have HA : Hid (Ask base rb a n cap ys w L nv) := hA
  have hnb : n ≤ 1048576 := hA.bv.s
  have c1w := hA.dr.c1
  have ht := tagS_lt ys k
  obtain ⟨fr, hfr⟩ : ∃ fr, k + sz = fr := ⟨_, rfl⟩
  rw [hfr] at hkf hcap HB ⊢
  obtain ⟨T, hT⟩ : ∃ T, tagS ys k = T := ⟨_, rfl⟩
  rw [hT] at ht hg HB ⊢
  have HT : Hid _ := hT
  have HFR : Hid _ := hfr
  have hfb : fr ≤ 1048576 ∧ fin ≤ 1048576 ∧ k ≤ 1048576 := by omega
  unfold dhV
  obtain ⟨W0, hW0⟩ : ∃ W0, w.alloc (.cells #[.int .i64 v, .int .i64 (fr : Int), .int .u64 (len : Int), .bool same] 124) = W0 := ⟨_, rfl⟩
  have hb0 : Below w.heap.size w W0 := by rw [← hW0]; exact (Below.refl _ _).alloc (Nat.le_refl _) _
  have HH0 : Hid (DH W0 w.heap.size v fr len same) := by rw [← hW0]; exact DH.new w v fr len same
  have HA0 : Hid (Ask base rb a n cap ys W0 L nv) := HA.out.on hb0
  obtain ⟨y0, y1, y2, y3, yf⟩ := HH0.out
  have hm2 : (len : Int).tmod 2 = (len : Int) % 2 := by rw [Int.tmod_eq_emod_of_nonneg (by omega)]
  have wq : IntKind.u64.wrap ((fin : Int) - (fr : Int)) = (fin : Int) - (fr : Int) := by rw [IntKind.wrap_u64]; omega
  clear hA hT c1w
  have bu : ((len : Int) == 4294967295) = false := beq_eq_false_iff_ne.2 (by unfold und at hu; omega)
  have bo : ((len : Int) % 2 == 1) = false := beq_eq_false_iff_ne.2 (by omega)
  have bv : (v != 18) = true := bne_iff_ne.2 hv
  have bl : decide ((65534 : Int) < (len : Int)) = false := decide_eq_false (by omega)
  have bs : decide ((fin : Int) - (fr : Int) < (len : Int)) = false := decide_eq_false (by omega)
  have band : bits .and .u32 (T : Int) 65535 = ((T % 65536 : Nat) : Int) := bits_low16 ht
  obtain ⟨q, hq⟩ : ∃ q, T % 65536 = q := ⟨_, rfl⟩
  rw [hq] at band hg
  have bg : ((q : Int) == 0) = false := beq_eq_false_iff_ne.2 (by omega)
  have l4 := HA.out.l4
  have bm : decide ((4096 : Int) ≤ (L.length : Int)) = false := decide_eq_false (by omega)
  have wl : IntKind.i64.wrap (len : Int) = (len : Int) := by rw [IntKind.wrap_i64]; omega
  have HFIT : Hid (fr + len ≤ fin) := by show _ ≤ _; omega
  have hfit : fr + len ≤ n := by omega
  have hcn := HA.out.bv.c
  obtain ⟨b, off, rfl, hbb, hcell⟩ := HA0.out.bv.at (by omega)
  have hyn := HA.out.bv.l
  obtain ⟨na, ncap, rfl, hna⟩ := own_form HA.out.dr.nd
  have HM : Hid (L.length ≠ 4096 ∧ L.length ≤ 4096) := ⟨hm, l4⟩
  have c0 := HA0.out.dr.c0
  have c1 := HA0.out.dr.c1
  obtain ⟨i0, hi, hz0, hz1, hz2⟩ := info_parts Wk.info34
  obtain ⟨m, hml⟩ : ∃ m, L.length = m := ⟨_, rfl⟩
  have HL : Hid (L.length = m) := hml
  rw [hml] at c1 bm HM
  obtain ⟨tx, htx⟩ : ∃ tx, cutB ys fr len = tx := ⟨_, rfl⟩
  have hts := cutB_size ys fr len
  have cvt : ∀ W, Below base W0 W → (convert 22 9 (.slice (some ⟨b, off + fr, none⟩) len (cap - fr))).run Tryz.prog W = .ok (.string tx) W := fun W hW => by
    rw [← htx]
    exact str_cutc _ hyn (by omega) (fun j hj => (hW.cell (p := ⟨b, off + j, none⟩) (Nat.lt_of_lt_of_le hbb (Nat.le_refl _))).trans (hcell j hj))
  rw [htx] at hts HB
  have cTr : ∀ W, Calls Tryz.prog 107 #[.int .i64 v, .string tx] W fun e w' => e = .returned (.string (trS v tx)) ∧ Below W.heap.size W w' := fun W => Rp.rtrim_any W v tx (by omega)
  obtain ⟨tt, htr⟩ : ∃ tt, trS v tx = tt := ⟨_, rfl⟩
  rw [htr] at cTr HB
  have HCT : Hid (∀ W, Calls Tryz.prog 107 #[.int .i64 v, .string tx] W fun e w' => e = .returned (.string tt) ∧ Below W.heap.size W w') := cTr
  have h63 : m + 1 ≤ maxLen := by have := HM.out.2; unfold maxLen; omega
  have hby : (m + 1) * 40 ≤ 140737488355328 := by have := HM.out.2; omega
  have HADD : Hid (∀ (Y W4 : World) (g4 c4 : Nat), Below W0.heap.size W0 Y → Y.grownBy W4 (Value.slice na m ncap).ownBlock → W4.ownsRow base 54 4 (.slice (some ⟨g4, 0, none⟩) (m + 1) c4) (m + 1) (nds L ++ [.int .u32 (T : Int), .int .i64 v, .int .i64 0, .string tt]) →
      W4.cell? ⟨rb, 1, none⟩ = some (.slice na m ncap) ∧ W4.frozen? ⟨rb, 1, none⟩ = false ∧ Ask base rb (some ⟨b, off, none⟩) n cap ys (W4.setCell ⟨rb, 1, none⟩ (.slice (some ⟨g4, 0, none⟩) (m + 1) c4)) (L ++ [⟨(T : Int), v, 0, tt⟩]) (.slice (some ⟨g4, 0, none⟩) (m + 1) c4) ∧ Below base w (W4.setCell ⟨rb, 1, none⟩ (.slice (some ⟨g4, 0, none⟩) (m + 1) c4)) ∧ Kq w (W4.setCell ⟨rb, 1, none⟩ (.slice (some ⟨g4, 0, none⟩) (m + 1) c4)) ∧ Below base W0 W4 ∧ Kq W0 W4) := by
    intro Y W4 g4 c4 hY hg4 ho
    have hAX := HA0.out.on hY
    rw [HL.out] at hAX
    have hn' : W4.ownsRow base 54 4 (.slice (some ⟨g4, 0, none⟩) (m + 1) c4) (L ++ [(⟨(T : Int), v, 0, tt⟩ : Nd)]).length (nds (L ++ [(⟨(T : Int), v, 0, tt⟩ : Nd)])) := by
      rw [List.length_append, HL.out, Wk.nds_append]
      exact ho
    obtain ⟨p1, p2, p3, p4, p5⟩ := hAX.dr.added hg4 hn'
    have hb0X : Below w.heap.size w Y := hb0.trans (hY.mono hb0.size)
    exact ⟨p1, p2, ⟨hAX.bv.on p4, p3, by rw [List.length_append, HL.out]; have := HM.out; simp; omega⟩, (hb0X.mono HA.out.dr.lt).trans p4, (Kq.below hb0X).trans p5, (hY.mono HA0.out.dr.lt).trans (below_grown hAX.dr.nd hg4 hAX.dr.lt), (Kq.below hY).trans (Kq.grown hAX.dr.nd hg4)⟩
  have HO : Hid (∀ Y o, Below W0.heap.size W0 Y → (Y.alloc o).ownsRow base 54 4 (.slice na m ncap) m (nds L) ∧ base ≤ (Y.alloc o).heap.size) := fun Y o hY => by
    have := (HA0.out.on hY).dr
    exact ⟨by have h2 := this.nd; rw [HL.out] at h2; exact World.ownsRow.alloc h2 o, Nat.le_trans this.lt (by simp)⟩
  have HCV : Hid (∀ W, Below base W0 W → (convert 22 9 (.slice (some ⟨b, off + fr, none⟩) len (cap - fr))).run Tryz.prog W = .ok (.string tx) W) := cvt
  have HTY : Hid (∃ cs, W0.heap[w.heap.size]? = some (.cells cs 124)) := by rw [← hW0]; exact ⟨_, Array.getElem?_push_size⟩
  have hb0b : base ≤ W0.heap.size := HA0.out.dr.lt
  have j1 : (fr : Int) ≤ (fr : Int) + (len : Int) := by omega
  have j2 : (fr : Int) + (len : Int) ≤ (cap : Int) := by omega
  have j3 : (0 : Int) ≤ (fr : Int) := by omega
  have j4 : (0 : Int) ≤ (fr : Int) + (len : Int) := by omega
  clear hna hm hml hfr hu ho hv hL hs hg hq hts cvt cTr htx htr
  go_enter Tryz.func67, Tryz.ntmps67
  go_wp2_with fail
  have hS : (fun w' : World => w'.cell? ⟨rb, 1, none⟩ = some (.slice na m ncap) ∧ w'.cell? ⟨w.heap.size, 0, none⟩ = some (.int .i64 v) ∧ w'.cell? ⟨w.heap.size, 1, none⟩ = some (.int .i64 (fr : Int)) ∧ w'.cell? ⟨rb, 0, none⟩ = some (.slice (some ⟨b, off, none⟩) n cap) ∧ (convert 22 9 (.slice (some ⟨b, off + fr, none⟩) len (cap - fr))).run Tryz.prog w' = .ok (.string tx) w') W0.drew := ⟨by simpa using c1, by simpa using y0, by simpa using y1, by simpa using c0, HCV.out _ ((Below.refl _ _).drew)⟩
  refine wp_region_E (S := fun w' : World => w'.cell? ⟨rb, 1, none⟩ = some (.slice na m ncap) ∧ w'.cell? ⟨w.heap.size, 0, none⟩ = some (.int .i64 v) ∧ w'.cell? ⟨w.heap.size, 1, none⟩ = some (.int .i64 (fr : Int)) ∧ w'.cell? ⟨rb, 0, none⟩ = some (.slice (some ⟨b, off, none⟩) n cap) ∧ (convert 22 9 (.slice (some ⟨b, off + fr, none⟩) len (cap - fr))).run Tryz.prog w' = .ok (.string tx) w') 25 (by kernel_rfl) ?_
  refine wpAnyE_take (i := 0) (v := .pointer (some ⟨rb, 0, none⟩)) rfl (by kernel_rfl) (by kernel_rfl) (by kernel_rfl) (by kernel_rfl) (fun _ _ _ h => h) (Or.inl ⟨by rfl, ?_⟩) hS ?_
  · intro wy hSy
    obtain ⟨s0, s1, s2, s3, s4⟩ := hSy
    go_simp
  simp only [Act.put]
  refine wpAnyE_take (i := 1) (v := .pointer (some ⟨rb, 0, none⟩)) rfl (by kernel_rfl) (by kernel_rfl) (by kernel_rfl) (by kernel_rfl) (fun _ _ _ h => h) (Or.inl ⟨by rfl, ?_⟩) hS ?_
  · intro wy hSy
    obtain ⟨s0, s1, s2, s3, s4⟩ := hSy
    go_simp
  simp only [Act.put]
  refine wpAnyE_take (i := 2) (v := .pointer (some ⟨rb, 0, none⟩)) rfl (by kernel_rfl) (by kernel_rfl) (by kernel_rfl) (by kernel_rfl) (fun _ _ _ h => h) (Or.inl ⟨by rfl, ?_⟩) hS ?_
  · intro wy hSy
    obtain ⟨s0, s1, s2, s3, s4⟩ := hSy
    go_simp
  simp only [Act.put]
  refine wpAnyE_take (i := 3) (v := .pointer (some ⟨rb, 1, none⟩)) rfl (by kernel_rfl) (by kernel_rfl) (by kernel_rfl) (by kernel_rfl) (fun _ _ _ h => h) (Or.inl ⟨by rfl, ?_⟩) hS ?_
  · intro wy hSy
    obtain ⟨s0, s1, s2, s3, s4⟩ := hSy
    go_simp
  simp only [Act.put]
  refine wpAnyE_take (i := 4) (v := .slice na m ncap) rfl (by kernel_rfl) (by kernel_rfl) (by kernel_rfl) (by kernel_rfl) (fun _ _ _ h => h) (Or.inl ⟨by rfl, ?_⟩) hS ?_
  · intro wy hSy
    obtain ⟨s0, s1, s2, s3, s4⟩ := hSy
    go_simp
  simp only [Act.put]
  refine wpAnyE_take (i := 5) (v := .int .u32 (T : Int)) rfl (by kernel_rfl) (by kernel_rfl) (by kernel_rfl) (by kernel_rfl) (fun _ _ _ h => h) (Or.inl ⟨by rfl, ?_⟩) hS ?_
  · intro wy hSy
    obtain ⟨s0, s1, s2, s3, s4⟩ := hSy
    go_simp
  simp only [Act.put]
  refine wpAnyE_take (i := 6) (v := .pointer (some ⟨w.heap.size, 0, none⟩)) rfl (by kernel_rfl) (by kernel_rfl) (by kernel_rfl) (by kernel_rfl) (fun _ _ _ h => h) (Or.inl ⟨by rfl, ?_⟩) hS ?_
  · intro wy hSy
    obtain ⟨s0, s1, s2, s3, s4⟩ := hSy
    go_simp
  simp only [Act.put]
  refine wpAnyE_take (i := 7) (v := .int .i64 v) rfl (by kernel_rfl) (by kernel_rfl) (by kernel_rfl) (by kernel_rfl) (fun _ _ _ h => h) (Or.inl ⟨by rfl, ?_⟩) hS ?_
  · intro wy hSy
    obtain ⟨s0, s1, s2, s3, s4⟩ := hSy
    go_simp
  simp only [Act.put]
  refine wpAnyE_take (i := 8) (v := .pointer (some ⟨w.heap.size, 0, none⟩)) rfl (by kernel_rfl) (by kernel_rfl) (by kernel_rfl) (by kernel_rfl) (fun _ _ _ h => h) (Or.inl ⟨by rfl, ?_⟩) hS ?_
  · intro wy hSy
    obtain ⟨s0, s1, s2, s3, s4⟩ := hSy
    go_simp
  simp only [Act.put]
  refine wpAnyE_take (i := 9) (v := .int .i64 v) rfl (by kernel_rfl) (by kernel_rfl) (by kernel_rfl) (by kernel_rfl) (fun _ _ _ h => h) (Or.inl ⟨by rfl, ?_⟩) hS ?_
  · intro wy hSy
    obtain ⟨s0, s1, s2, s3, s4⟩ := hSy
    go_simp
  simp only [Act.put]
  refine wpAnyE_take (i := 10) (v := .pointer (some ⟨rb, 0, none⟩)) rfl (by kernel_rfl) (by kernel_rfl) (by kernel_rfl) (by kernel_rfl) (fun _ _ _ h => h) (Or.inl ⟨by rfl, ?_⟩) hS ?_
  · intro wy hSy
    obtain ⟨s0, s1, s2, s3, s4⟩ := hSy
    go_simp
  simp only [Act.put]
  refine wpAnyE_take (i := 11) (v := .pointer (some ⟨rb, 0, none⟩)) rfl (by kernel_rfl) (by kernel_rfl) (by kernel_rfl) (by kernel_rfl) (fun _ _ _ h => h) (Or.inl ⟨by rfl, ?_⟩) hS ?_
  · intro wy hSy
    obtain ⟨s0, s1, s2, s3, s4⟩ := hSy
    go_simp
  simp only [Act.put]
  refine wpAnyE_take (i := 12) (v := .pointer (some ⟨rb, 0, none⟩)) rfl (by kernel_rfl) (by kernel_rfl) (by kernel_rfl) (by kernel_rfl) (fun _ _ _ h => h) (Or.inl ⟨by rfl, ?_⟩) hS ?_
  · intro wy hSy
    obtain ⟨s0, s1, s2, s3, s4⟩ := hSy
    go_simp
  simp only [Act.put]
  refine wpAnyE_take (i := 13) (v := .slice (some ⟨b, off, none⟩) n cap) rfl (by kernel_rfl) (by kernel_rfl) (by kernel_rfl) (by kernel_rfl) (fun _ _ _ h => h) (Or.inl ⟨by rfl, ?_⟩) hS ?_
  · intro wy hSy
    obtain ⟨s0, s1, s2, s3, s4⟩ := hSy
    go_simp
  simp only [Act.put]
  refine wpAnyE_take (i := 14) (v := .pointer (some ⟨w.heap.size, 1, none⟩)) rfl (by kernel_rfl) (by kernel_rfl) (by kernel_rfl) (by kernel_rfl) (fun _ _ _ h => h) (Or.inl ⟨by rfl, ?_⟩) hS ?_
  · intro wy hSy
    obtain ⟨s0, s1, s2, s3, s4⟩ := hSy
    go_simp
  simp only [Act.put]
  refine wpAnyE_take (i := 15) (v := .int .i64 (fr : Int)) rfl (by kernel_rfl) (by kernel_rfl) (by kernel_rfl) (by kernel_rfl) (fun _ _ _ h => h) (Or.inl ⟨by rfl, ?_⟩) hS ?_
  · intro wy hSy
    obtain ⟨s0, s1, s2, s3, s4⟩ := hSy
    go_simp
  simp only [Act.put]
  refine wpAnyE_take (i := 16) (v := .int .i64 ((fr : Int) + (len : Int))) rfl (by kernel_rfl) (by kernel_rfl) (by kernel_rfl) (by kernel_rfl) (fun _ _ _ h => h) (Or.inl ⟨by rfl, ?_⟩) hS ?_
  · intro wy hSy
    obtain ⟨s0, s1, s2, s3, s4⟩ := hSy
    go_simp
  simp only [Act.put]
  refine wpAnyE_take (i := 17) (v := .slice (some ⟨b, off + fr, none⟩) len (cap - fr)) rfl (by kernel_rfl) (by kernel_rfl) (by kernel_rfl) (by kernel_rfl) (fun _ _ _ h => h) (Or.inl ⟨by rfl, ?_⟩) hS ?_
  · intro wy hSy
    obtain ⟨s0, s1, s2, s3, s4⟩ := hSy
    go_simp
    exact ⟨fun e => by omega, by omega⟩
  simp only [Act.put]
  refine wpAnyE_take (i := 18) (v := .string tx) rfl (by kernel_rfl) (by kernel_rfl) (by kernel_rfl) (by kernel_rfl) (fun _ _ _ h => h) (Or.inl ⟨by rfl, ?_⟩) hS ?_
  · intro wy hSy
    obtain ⟨s0, s1, s2, s3, s4⟩ := hSy
    go_simp
  simp only [Act.put]
  refine wpAnyE_one (i := 19) (by kernel_rfl) rfl (fun K hK => ?_)
  go_simp
  go_at_call 107
  refine Calls.mono (HCT.out _) ?_
  rintro e W6 ⟨rfl, hb6⟩
  have hX6 : Below W0.heap.size W0 W6 := ((Below.refl _ W0).drew).trans hb6
  have hS6 : (fun w' : World => w'.cell? ⟨rb, 1, none⟩ = some (.slice na m ncap) ∧ w'.cell? ⟨w.heap.size, 0, none⟩ = some (.int .i64 v) ∧ w'.cell? ⟨w.heap.size, 1, none⟩ = some (.int .i64 (fr : Int)) ∧ w'.cell? ⟨rb, 0, none⟩ = some (.slice (some ⟨b, off, none⟩) n cap) ∧ (convert 22 9 (.slice (some ⟨b, off + fr, none⟩) len (cap - fr))).run Tryz.prog w' = .ok (.string tx) w') W6 := ⟨(hX6.cell (Rp.cell_lt c1)).trans c1, (hX6.cell (Rp.cell_lt y0)).trans y0, (hX6.cell (Rp.cell_lt y1)).trans y1, (hX6.cell (Rp.cell_lt c0)).trans c0, HCV.out _ (hX6.mono hb0b)⟩
  refine hK.out _ _ (fun _ => hS6) ?_
  clear hK K
  try simp only [Act.put]
  refine wpAnyE_take (i := 20) (v := .agg #[.int .u32 (T : Int), .int .i64 v, .int .i64 0, .string tt]) rfl (by kernel_rfl) (by kernel_rfl) (by kernel_rfl) (by kernel_rfl) (fun _ _ _ h => h) (Or.inl ⟨by rfl, ?_⟩) hS6 ?_
  · intro wy hSy
    obtain ⟨s0, s1, s2, s3, s4⟩ := hSy
    go_simp
  simp only [Act.put]
  refine wpAnyE_one (i := 21) (by kernel_rfl) rfl (fun K hK => ?_)
  go_simp
  have hX7 : Below W0.heap.size W0 (W6.alloc (.cells #[.int .u32 (T : Int), .int .i64 v, .int .i64 0, .string tt] 54)) := hX6.alloc hX6.size _
  have hS7 : (fun w' : World => w'.cell? ⟨rb, 1, none⟩ = some (.slice na m ncap) ∧ w'.cell? ⟨w.heap.size, 0, none⟩ = some (.int .i64 v) ∧ w'.cell? ⟨w.heap.size, 1, none⟩ = some (.int .i64 (fr : Int)) ∧ w'.cell? ⟨rb, 0, none⟩ = some (.slice (some ⟨b, off, none⟩) n cap) ∧ (convert 22 9 (.slice (some ⟨b, off + fr, none⟩) len (cap - fr))).run Tryz.prog w' = .ok (.string tx) w') (W6.alloc (.cells #[.int .u32 (T : Int), .int .i64 v, .int .i64 0, .string tt] 54)) := ⟨(hX7.cell (Rp.cell_lt c1)).trans c1, (hX7.cell (Rp.cell_lt y0)).trans y0, (hX7.cell (Rp.cell_lt y1)).trans y1, (hX7.cell (Rp.cell_lt c0)).trans c0, HCV.out _ (hX7.mono hb0b)⟩
  refine hK.out _ _ (fun _ => hS7) ?_
  clear hK K
  try simp only [Act.put]
  refine wpAnyE_one (i := 22) (by kernel_rfl) rfl (fun K hK => ?_)
  rw [if_pos (by rfl)]
  refine wp_append_lies _ (.tmp 106) (.tmp 123) 25 rfl base 54 i0 _ 4 40 Tryz.underlying25 hi hz0 hz1 hz2 rfl (by decide) (.slice na m ncap) m (nds L) (by rfl) (HO.out W6 _ hX6).1 ⟨W6.heap.size, 0, none⟩ 1 1 [.int .u32 (T : Int), .int .i64 v, .int .i64 0, .string tt] (by rfl) rfl (World.news_of_block (heap_alloc_new W6 _)) (by intro u hu; simp at hu; rcases hu with rfl | rfl | rfl | rfl <;> rfl) (by decide) h63 hby (HO.out W6 _ hX6).2 _ rfl ?_
  intro g4 c4 W4 hown4 hgrow4 hat4 hlt4
  obtain ⟨q2, f2, hA5, hB5, hK5, hB4, hK4⟩ := HADD.out _ W4 g4 c4 hX7 hgrow4 hown4
  have hS8 : (fun w' : World => w'.cell? ⟨rb, 1, none⟩ = some (.slice na m ncap) ∧ w'.cell? ⟨w.heap.size, 0, none⟩ = some (.int .i64 v) ∧ w'.cell? ⟨w.heap.size, 1, none⟩ = some (.int .i64 (fr : Int)) ∧ w'.cell? ⟨rb, 0, none⟩ = some (.slice (some ⟨b, off, none⟩) n cap) ∧ (convert 22 9 (.slice (some ⟨b, off + fr, none⟩) len (cap - fr))).run Tryz.prog w' = .ok (.string tx) w') W4 := by
    obtain ⟨cs, ht4⟩ := HTY.out
    have hbk := hK4 _ cs 124 ht4 (by decide) (by decide)
    exact ⟨q2, (cell_block hbk).trans y0, (cell_block hbk).trans y1, (Rp.cell_set_ne (by decide)).symm.trans hA5.dr.c0, HCV.out _ hB4⟩
  refine hK.out _ _ (fun _ => hS8) ?_
  clear hK K hown4 hgrow4 hat4 hlt4
  try simp only [Act.put]
  refine wpAnyE_one (i := 23) (by kernel_rfl) rfl (fun K hK => ?_)
  go_simp
  refine hK.out _ _ (fun _ => hS8) ?_
  clear hK K
  try simp only [Act.put]
  refine wpAnyE_one (i := 24) (by kernel_rfl) rfl (fun K hK => ?_)
  go_simp
  refine hK.out _ _ (fun _ => hS8) ?_
  clear hK K
  try simp only [Act.put]
  refine wpAnyE_one (i := 25) (by kernel_rfl) rfl (fun K hK => ?_)
  go_simp
  refine hK.out _ _ (fun h => absurd rfl h) ?_
  clear hK K
  try simp only [Act.put]
  refine wpAnyE_done (by kernel_rfl) ?_
  have HA5 : Hid (Ask base rb (some ⟨b, off, none⟩) n cap ys (W4.setCell ⟨rb, 1, none⟩ (.slice (some ⟨g4, 0, none⟩) (m + 1) c4)) (L ++ [⟨(T : Int), v, 0, tt⟩]) (.slice (some ⟨g4, 0, none⟩) (m + 1) c4)) := hA5
  have HB5 : Hid (Below base w (W4.setCell ⟨rb, 1, none⟩ (.slice (some ⟨g4, 0, none⟩) (m + 1) c4))) := hB5
  have HK5 : Hid (Kq w (W4.setCell ⟨rb, 1, none⟩ (.slice (some ⟨g4, 0, none⟩) (m + 1) c4))) := hK5
  clear hA5 hB5 hK5 hS hS6 hS7 hS8
  go_wp2
  go_ret
  exact ⟨fr + len, by rw [show ((fr + len : Nat) : Int) = (fr : Int) + (len : Int) by omega]; rfl, HB5.out, HK5.out, .inr ⟨_, _, HA5.out, by have := HFR.out; omega, HFIT.out, HB.out⟩⟩
set_option maxRecDepth 100000 in
set_option maxHeartbeats 8000000 in
theorem el_G0 (d : Nat) (w : World) (base rb : Nat) (a : Option Addr) (n cap : Nat) (ys : List UInt8) (L : List Nd) (nv : Value) (k fin : Nat) (ex same : Bool) (v : Int) (sz len : Nat) (hx : Bool) (hA : Ask base rb a n cap ys w L nv) (hfn : fin ≤ n) (hsz : 8 ≤ sz) (hkf : k + sz ≤ fin) (hlen : len < 4294967296) (hu : len ≠ und) (ho : ¬ len % 2 = 1) (hv : v ≠ 18) (hL : ¬ 65534 < len) (hs : ¬ fin - k - sz < len) (hg : ¬ tagS ys k % 65536 = 0) (hm : L.length ≠ 4096) (hcap : k + sz = cap) :
    Calls Tryz.prog 67 #[.pointer (some ⟨rb, 0, none⟩), .int .i64 (k : Int), .int .i64 (fin : Int), .int .u32 (tagS ys k : Int), dhV v (k + sz) len same, .bool ex, .int .i64 (d : Int)] w (ElP (srcS ys) base rb a n cap ys w L (2 * d) fin ex k ⟨v, sz, len, hx⟩) := by
  have HB : Hid (ElGo (srcS ys) L.length (2 * d) fin ex k ⟨v, sz, len, hx⟩ (k + sz + len) [⟨(tagS ys k : Int), v, 0, trS v (cutB ys (k + sz) len)⟩]) := ElGo.plain (by unfold badLen; simp [hu, ho]) (fun h => hL h.2) (fun h => hs h.2) hg hm hv
  have HA : Hid (Ask base rb a n cap ys w L nv) := hA
  have hnb : n ≤ 1048576 := hA.bv.s
  have c1w := hA.dr.c1
  have ht := tagS_lt ys k
  obtain ⟨fr, hfr⟩ : ∃ fr, k + sz = fr := ⟨_, rfl⟩
  rw [hfr] at hkf hcap HB ⊢
  obtain ⟨T, hT⟩ : ∃ T, tagS ys k = T := ⟨_, rfl⟩
  rw [hT] at ht hg HB ⊢
  have HT : Hid _ := hT
  have HFR : Hid _ := hfr
  have hfb : fr ≤ 1048576 ∧ fin ≤ 1048576 ∧ k ≤ 1048576 := by omega
  unfold dhV
  obtain ⟨W0, hW0⟩ : ∃ W0, w.alloc (.cells #[.int .i64 v, .int .i64 (fr : Int), .int .u64 (len : Int), .bool same] 124) = W0 := ⟨_, rfl⟩
  have hb0 : Below w.heap.size w W0 := by rw [← hW0]; exact (Below.refl _ _).alloc (Nat.le_refl _) _
  have HH0 : Hid (DH W0 w.heap.size v fr len same) := by rw [← hW0]; exact DH.new w v fr len same
  have HA0 : Hid (Ask base rb a n cap ys W0 L nv) := HA.out.on hb0
  obtain ⟨y0, y1, y2, y3, yf⟩ := HH0.out
  have hm2 : (len : Int).tmod 2 = (len : Int) % 2 := by rw [Int.tmod_eq_emod_of_nonneg (by omega)]
  have wq : IntKind.u64.wrap ((fin : Int) - (fr : Int)) = (fin : Int) - (fr : Int) := by rw [IntKind.wrap_u64]; omega
  clear hA hT c1w
  have bu : ((len : Int) == 4294967295) = false := beq_eq_false_iff_ne.2 (by unfold und at hu; omega)
  have bo : ((len : Int) % 2 == 1) = false := beq_eq_false_iff_ne.2 (by omega)
  have bv : (v != 18) = true := bne_iff_ne.2 hv
  have bl : decide ((65534 : Int) < (len : Int)) = false := decide_eq_false (by omega)
  have bs : decide ((fin : Int) - (fr : Int) < (len : Int)) = false := decide_eq_false (by omega)
  have band : bits .and .u32 (T : Int) 65535 = ((T % 65536 : Nat) : Int) := bits_low16 ht
  obtain ⟨q, hq⟩ : ∃ q, T % 65536 = q := ⟨_, rfl⟩
  rw [hq] at band hg
  have bg : ((q : Int) == 0) = false := beq_eq_false_iff_ne.2 (by omega)
  have l4 := HA.out.l4
  have bm : decide ((4096 : Int) ≤ (L.length : Int)) = false := decide_eq_false (by omega)
  have wl : IntKind.i64.wrap (len : Int) = (len : Int) := by rw [IntKind.wrap_i64]; omega
  have HFIT : Hid (fr + len ≤ fin) := by show _ ≤ _; omega
  have hfit : fr + len ≤ n := by omega
  have hcn := HA.out.bv.c
  obtain ⟨b, off, rfl, hbb, hcell⟩ := HA0.out.bv.at (by omega)
  have hyn := HA.out.bv.l
  have HC0 : Hid (fr = cap ∧ len = 0) := ⟨hcap, by omega⟩
  obtain ⟨na, ncap, rfl, hna⟩ := own_form HA.out.dr.nd
  have HM : Hid (L.length ≠ 4096 ∧ L.length ≤ 4096) := ⟨hm, l4⟩
  have c0 := HA0.out.dr.c0
  have c1 := HA0.out.dr.c1
  obtain ⟨i0, hi, hz0, hz1, hz2⟩ := info_parts Wk.info34
  obtain ⟨m, hml⟩ : ∃ m, L.length = m := ⟨_, rfl⟩
  have HL : Hid (L.length = m) := hml
  rw [hml] at c1 bm HM
  obtain ⟨tx, htx⟩ : ∃ tx, cutB ys fr len = tx := ⟨_, rfl⟩
  have hts := cutB_size ys fr len
  have cvt : ∀ W, Below base W0 W → (convert 22 9 (.slice (some ⟨b, off, none⟩) 0 0)).run Tryz.prog W = .ok (.string tx) W := fun W hW => by
    rw [← htx]
    rw [show len = 0 by omega]
    exact str_nil
  rw [htx] at hts HB
  have cTr : ∀ W, Calls Tryz.prog 107 #[.int .i64 v, .string tx] W fun e w' => e = .returned (.string (trS v tx)) ∧ Below W.heap.size W w' := fun W => Rp.rtrim_any W v tx (by omega)
  obtain ⟨tt, htr⟩ : ∃ tt, trS v tx = tt := ⟨_, rfl⟩
  rw [htr] at cTr HB
  have HCT : Hid (∀ W, Calls Tryz.prog 107 #[.int .i64 v, .string tx] W fun e w' => e = .returned (.string tt) ∧ Below W.heap.size W w') := cTr
  have h63 : m + 1 ≤ maxLen := by have := HM.out.2; unfold maxLen; omega
  have hby : (m + 1) * 40 ≤ 140737488355328 := by have := HM.out.2; omega
  have HADD : Hid (∀ (Y W4 : World) (g4 c4 : Nat), Below W0.heap.size W0 Y → Y.grownBy W4 (Value.slice na m ncap).ownBlock → W4.ownsRow base 54 4 (.slice (some ⟨g4, 0, none⟩) (m + 1) c4) (m + 1) (nds L ++ [.int .u32 (T : Int), .int .i64 v, .int .i64 0, .string tt]) →
      W4.cell? ⟨rb, 1, none⟩ = some (.slice na m ncap) ∧ W4.frozen? ⟨rb, 1, none⟩ = false ∧ Ask base rb (some ⟨b, off, none⟩) n cap ys (W4.setCell ⟨rb, 1, none⟩ (.slice (some ⟨g4, 0, none⟩) (m + 1) c4)) (L ++ [⟨(T : Int), v, 0, tt⟩]) (.slice (some ⟨g4, 0, none⟩) (m + 1) c4) ∧ Below base w (W4.setCell ⟨rb, 1, none⟩ (.slice (some ⟨g4, 0, none⟩) (m + 1) c4)) ∧ Kq w (W4.setCell ⟨rb, 1, none⟩ (.slice (some ⟨g4, 0, none⟩) (m + 1) c4)) ∧ Below base W0 W4 ∧ Kq W0 W4) := by
    intro Y W4 g4 c4 hY hg4 ho
    have hAX := HA0.out.on hY
    rw [HL.out] at hAX
    have hn' : W4.ownsRow base 54 4 (.slice (some ⟨g4, 0, none⟩) (m + 1) c4) (L ++ [(⟨(T : Int), v, 0, tt⟩ : Nd)]).length (nds (L ++ [(⟨(T : Int), v, 0, tt⟩ : Nd)])) := by
      rw [List.length_append, HL.out, Wk.nds_append]
      exact ho
    obtain ⟨p1, p2, p3, p4, p5⟩ := hAX.dr.added hg4 hn'
    have hb0X : Below w.heap.size w Y := hb0.trans (hY.mono hb0.size)
    exact ⟨p1, p2, ⟨hAX.bv.on p4, p3, by rw [List.length_append, HL.out]; have := HM.out; simp; omega⟩, (hb0X.mono HA.out.dr.lt).trans p4, (Kq.below hb0X).trans p5, (hY.mono HA0.out.dr.lt).trans (below_grown hAX.dr.nd hg4 hAX.dr.lt), (Kq.below hY).trans (Kq.grown hAX.dr.nd hg4)⟩
  have HO : Hid (∀ Y o, Below W0.heap.size W0 Y → (Y.alloc o).ownsRow base 54 4 (.slice na m ncap) m (nds L) ∧ base ≤ (Y.alloc o).heap.size) := fun Y o hY => by
    have := (HA0.out.on hY).dr
    exact ⟨by have h2 := this.nd; rw [HL.out] at h2; exact World.ownsRow.alloc h2 o, Nat.le_trans this.lt (by simp)⟩
  have HCV : Hid (∀ W, Below base W0 W → (convert 22 9 (.slice (some ⟨b, off, none⟩) 0 0)).run Tryz.prog W = .ok (.string tx) W) := cvt
  have HTY : Hid (∃ cs, W0.heap[w.heap.size]? = some (.cells cs 124)) := by rw [← hW0]; exact ⟨_, Array.getElem?_push_size⟩
  have hb0b : base ≤ W0.heap.size := HA0.out.dr.lt
  have j1 : (fr : Int) ≤ (fr : Int) + (len : Int) := by omega
  have j2 : (fr : Int) + (len : Int) ≤ (cap : Int) := by omega
  have j3 : (0 : Int) ≤ (fr : Int) := by omega
  have j4 : (0 : Int) ≤ (fr : Int) + (len : Int) := by omega
  clear hna hm hml hfr hu ho hv hL hs hg hq hts cvt cTr htx htr hcap
  go_enter Tryz.func67, Tryz.ntmps67
  go_wp2_with fail
  have hS : (fun w' : World => w'.cell? ⟨rb, 1, none⟩ = some (.slice na m ncap) ∧ w'.cell? ⟨w.heap.size, 0, none⟩ = some (.int .i64 v) ∧ w'.cell? ⟨w.heap.size, 1, none⟩ = some (.int .i64 (fr : Int)) ∧ w'.cell? ⟨rb, 0, none⟩ = some (.slice (some ⟨b, off, none⟩) n cap) ∧ (convert 22 9 (.slice (some ⟨b, off, none⟩) 0 0)).run Tryz.prog w' = .ok (.string tx) w') W0.drew := ⟨by simpa using c1, by simpa using y0, by simpa using y1, by simpa using c0, HCV.out _ ((Below.refl _ _).drew)⟩
  refine wp_region_E (S := fun w' : World => w'.cell? ⟨rb, 1, none⟩ = some (.slice na m ncap) ∧ w'.cell? ⟨w.heap.size, 0, none⟩ = some (.int .i64 v) ∧ w'.cell? ⟨w.heap.size, 1, none⟩ = some (.int .i64 (fr : Int)) ∧ w'.cell? ⟨rb, 0, none⟩ = some (.slice (some ⟨b, off, none⟩) n cap) ∧ (convert 22 9 (.slice (some ⟨b, off, none⟩) 0 0)).run Tryz.prog w' = .ok (.string tx) w') 25 (by kernel_rfl) ?_
  refine wpAnyE_take (i := 0) (v := .pointer (some ⟨rb, 0, none⟩)) rfl (by kernel_rfl) (by kernel_rfl) (by kernel_rfl) (by kernel_rfl) (fun _ _ _ h => h) (Or.inl ⟨by rfl, ?_⟩) hS ?_
  · intro wy hSy
    obtain ⟨s0, s1, s2, s3, s4⟩ := hSy
    go_simp
  simp only [Act.put]
  refine wpAnyE_take (i := 1) (v := .pointer (some ⟨rb, 0, none⟩)) rfl (by kernel_rfl) (by kernel_rfl) (by kernel_rfl) (by kernel_rfl) (fun _ _ _ h => h) (Or.inl ⟨by rfl, ?_⟩) hS ?_
  · intro wy hSy
    obtain ⟨s0, s1, s2, s3, s4⟩ := hSy
    go_simp
  simp only [Act.put]
  refine wpAnyE_take (i := 2) (v := .pointer (some ⟨rb, 0, none⟩)) rfl (by kernel_rfl) (by kernel_rfl) (by kernel_rfl) (by kernel_rfl) (fun _ _ _ h => h) (Or.inl ⟨by rfl, ?_⟩) hS ?_
  · intro wy hSy
    obtain ⟨s0, s1, s2, s3, s4⟩ := hSy
    go_simp
  simp only [Act.put]
  refine wpAnyE_take (i := 3) (v := .pointer (some ⟨rb, 1, none⟩)) rfl (by kernel_rfl) (by kernel_rfl) (by kernel_rfl) (by kernel_rfl) (fun _ _ _ h => h) (Or.inl ⟨by rfl, ?_⟩) hS ?_
  · intro wy hSy
    obtain ⟨s0, s1, s2, s3, s4⟩ := hSy
    go_simp
  simp only [Act.put]
  refine wpAnyE_take (i := 4) (v := .slice na m ncap) rfl (by kernel_rfl) (by kernel_rfl) (by kernel_rfl) (by kernel_rfl) (fun _ _ _ h => h) (Or.inl ⟨by rfl, ?_⟩) hS ?_
  · intro wy hSy
    obtain ⟨s0, s1, s2, s3, s4⟩ := hSy
    go_simp
  simp only [Act.put]
  refine wpAnyE_take (i := 5) (v := .int .u32 (T : Int)) rfl (by kernel_rfl) (by kernel_rfl) (by kernel_rfl) (by kernel_rfl) (fun _ _ _ h => h) (Or.inl ⟨by rfl, ?_⟩) hS ?_
  · intro wy hSy
    obtain ⟨s0, s1, s2, s3, s4⟩ := hSy
    go_simp
  simp only [Act.put]
  refine wpAnyE_take (i := 6) (v := .pointer (some ⟨w.heap.size, 0, none⟩)) rfl (by kernel_rfl) (by kernel_rfl) (by kernel_rfl) (by kernel_rfl) (fun _ _ _ h => h) (Or.inl ⟨by rfl, ?_⟩) hS ?_
  · intro wy hSy
    obtain ⟨s0, s1, s2, s3, s4⟩ := hSy
    go_simp
  simp only [Act.put]
  refine wpAnyE_take (i := 7) (v := .int .i64 v) rfl (by kernel_rfl) (by kernel_rfl) (by kernel_rfl) (by kernel_rfl) (fun _ _ _ h => h) (Or.inl ⟨by rfl, ?_⟩) hS ?_
  · intro wy hSy
    obtain ⟨s0, s1, s2, s3, s4⟩ := hSy
    go_simp
  simp only [Act.put]
  refine wpAnyE_take (i := 8) (v := .pointer (some ⟨w.heap.size, 0, none⟩)) rfl (by kernel_rfl) (by kernel_rfl) (by kernel_rfl) (by kernel_rfl) (fun _ _ _ h => h) (Or.inl ⟨by rfl, ?_⟩) hS ?_
  · intro wy hSy
    obtain ⟨s0, s1, s2, s3, s4⟩ := hSy
    go_simp
  simp only [Act.put]
  refine wpAnyE_take (i := 9) (v := .int .i64 v) rfl (by kernel_rfl) (by kernel_rfl) (by kernel_rfl) (by kernel_rfl) (fun _ _ _ h => h) (Or.inl ⟨by rfl, ?_⟩) hS ?_
  · intro wy hSy
    obtain ⟨s0, s1, s2, s3, s4⟩ := hSy
    go_simp
  simp only [Act.put]
  refine wpAnyE_take (i := 10) (v := .pointer (some ⟨rb, 0, none⟩)) rfl (by kernel_rfl) (by kernel_rfl) (by kernel_rfl) (by kernel_rfl) (fun _ _ _ h => h) (Or.inl ⟨by rfl, ?_⟩) hS ?_
  · intro wy hSy
    obtain ⟨s0, s1, s2, s3, s4⟩ := hSy
    go_simp
  simp only [Act.put]
  refine wpAnyE_take (i := 11) (v := .pointer (some ⟨rb, 0, none⟩)) rfl (by kernel_rfl) (by kernel_rfl) (by kernel_rfl) (by kernel_rfl) (fun _ _ _ h => h) (Or.inl ⟨by rfl, ?_⟩) hS ?_
  · intro wy hSy
    obtain ⟨s0, s1, s2, s3, s4⟩ := hSy
    go_simp
  simp only [Act.put]
  refine wpAnyE_take (i := 12) (v := .pointer (some ⟨rb, 0, none⟩)) rfl (by kernel_rfl) (by kernel_rfl) (by kernel_rfl) (by kernel_rfl) (fun _ _ _ h => h) (Or.inl ⟨by rfl, ?_⟩) hS ?_
  · intro wy hSy
    obtain ⟨s0, s1, s2, s3, s4⟩ := hSy
    go_simp
  simp only [Act.put]
  refine wpAnyE_take (i := 13) (v := .slice (some ⟨b, off, none⟩) n cap) rfl (by kernel_rfl) (by kernel_rfl) (by kernel_rfl) (by kernel_rfl) (fun _ _ _ h => h) (Or.inl ⟨by rfl, ?_⟩) hS ?_
  · intro wy hSy
    obtain ⟨s0, s1, s2, s3, s4⟩ := hSy
    go_simp
  simp only [Act.put]
  refine wpAnyE_take (i := 14) (v := .pointer (some ⟨w.heap.size, 1, none⟩)) rfl (by kernel_rfl) (by kernel_rfl) (by kernel_rfl) (by kernel_rfl) (fun _ _ _ h => h) (Or.inl ⟨by rfl, ?_⟩) hS ?_
  · intro wy hSy
    obtain ⟨s0, s1, s2, s3, s4⟩ := hSy
    go_simp
  simp only [Act.put]
  refine wpAnyE_take (i := 15) (v := .int .i64 (fr : Int)) rfl (by kernel_rfl) (by kernel_rfl) (by kernel_rfl) (by kernel_rfl) (fun _ _ _ h => h) (Or.inl ⟨by rfl, ?_⟩) hS ?_
  · intro wy hSy
    obtain ⟨s0, s1, s2, s3, s4⟩ := hSy
    go_simp
  simp only [Act.put]
  refine wpAnyE_take (i := 16) (v := .int .i64 ((fr : Int) + (len : Int))) rfl (by kernel_rfl) (by kernel_rfl) (by kernel_rfl) (by kernel_rfl) (fun _ _ _ h => h) (Or.inl ⟨by rfl, ?_⟩) hS ?_
  · intro wy hSy
    obtain ⟨s0, s1, s2, s3, s4⟩ := hSy
    go_simp
  simp only [Act.put]
  refine wpAnyE_take (i := 17) (v := .slice (some ⟨b, off, none⟩) 0 0) rfl (by kernel_rfl) (by kernel_rfl) (by kernel_rfl) (by kernel_rfl) (fun _ _ _ h => h) (Or.inl ⟨by rfl, ?_⟩) hS ?_
  · intro wy hSy
    obtain ⟨s0, s1, s2, s3, s4⟩ := hSy
    go_simp
    exact ⟨fun e => absurd HC0.out.1.symm e, by have := HC0.out; omega, by have := HC0.out; omega⟩
  simp only [Act.put]
  refine wpAnyE_take (i := 18) (v := .string tx) rfl (by kernel_rfl) (by kernel_rfl) (by kernel_rfl) (by kernel_rfl) (fun _ _ _ h => h) (Or.inl ⟨by rfl, ?_⟩) hS ?_
  · intro wy hSy
    obtain ⟨s0, s1, s2, s3, s4⟩ := hSy
    go_simp
  simp only [Act.put]
  refine wpAnyE_one (i := 19) (by kernel_rfl) rfl (fun K hK => ?_)
  go_simp
  go_at_call 107
  refine Calls.mono (HCT.out _) ?_
  rintro e W6 ⟨rfl, hb6⟩
  have hX6 : Below W0.heap.size W0 W6 := ((Below.refl _ W0).drew).trans hb6
  have hS6 : (fun w' : World => w'.cell? ⟨rb, 1, none⟩ = some (.slice na m ncap) ∧ w'.cell? ⟨w.heap.size, 0, none⟩ = some (.int .i64 v) ∧ w'.cell? ⟨w.heap.size, 1, none⟩ = some (.int .i64 (fr : Int)) ∧ w'.cell? ⟨rb, 0, none⟩ = some (.slice (some ⟨b, off, none⟩) n cap) ∧ (convert 22 9 (.slice (some ⟨b, off, none⟩) 0 0)).run Tryz.prog w' = .ok (.string tx) w') W6 := ⟨(hX6.cell (Rp.cell_lt c1)).trans c1, (hX6.cell (Rp.cell_lt y0)).trans y0, (hX6.cell (Rp.cell_lt y1)).trans y1, (hX6.cell (Rp.cell_lt c0)).trans c0, HCV.out _ (hX6.mono hb0b)⟩
  refine hK.out _ _ (fun _ => hS6) ?_
  clear hK K
  try simp only [Act.put]
  refine wpAnyE_take (i := 20) (v := .agg #[.int .u32 (T : Int), .int .i64 v, .int .i64 0, .string tt]) rfl (by kernel_rfl) (by kernel_rfl) (by kernel_rfl) (by kernel_rfl) (fun _ _ _ h => h) (Or.inl ⟨by rfl, ?_⟩) hS6 ?_
  · intro wy hSy
    obtain ⟨s0, s1, s2, s3, s4⟩ := hSy
    go_simp
  simp only [Act.put]
  refine wpAnyE_one (i := 21) (by kernel_rfl) rfl (fun K hK => ?_)
  go_simp
  have hX7 : Below W0.heap.size W0 (W6.alloc (.cells #[.int .u32 (T : Int), .int .i64 v, .int .i64 0, .string tt] 54)) := hX6.alloc hX6.size _
  have hS7 : (fun w' : World => w'.cell? ⟨rb, 1, none⟩ = some (.slice na m ncap) ∧ w'.cell? ⟨w.heap.size, 0, none⟩ = some (.int .i64 v) ∧ w'.cell? ⟨w.heap.size, 1, none⟩ = some (.int .i64 (fr : Int)) ∧ w'.cell? ⟨rb, 0, none⟩ = some (.slice (some ⟨b, off, none⟩) n cap) ∧ (convert 22 9 (.slice (some ⟨b, off, none⟩) 0 0)).run Tryz.prog w' = .ok (.string tx) w') (W6.alloc (.cells #[.int .u32 (T : Int), .int .i64 v, .int .i64 0, .string tt] 54)) := ⟨(hX7.cell (Rp.cell_lt c1)).trans c1, (hX7.cell (Rp.cell_lt y0)).trans y0, (hX7.cell (Rp.cell_lt y1)).trans y1, (hX7.cell (Rp.cell_lt c0)).trans c0, HCV.out _ (hX7.mono hb0b)⟩
  refine hK.out _ _ (fun _ => hS7) ?_
  clear hK K
  try simp only [Act.put]
  refine wpAnyE_one (i := 22) (by kernel_rfl) rfl (fun K hK => ?_)
  rw [if_pos (by rfl)]
  refine wp_append_lies _ (.tmp 106) (.tmp 123) 25 rfl base 54 i0 _ 4 40 Tryz.underlying25 hi hz0 hz1 hz2 rfl (by decide) (.slice na m ncap) m (nds L) (by rfl) (HO.out W6 _ hX6).1 ⟨W6.heap.size, 0, none⟩ 1 1 [.int .u32 (T : Int), .int .i64 v, .int .i64 0, .string tt] (by rfl) rfl (World.news_of_block (heap_alloc_new W6 _)) (by intro u hu; simp at hu; rcases hu with rfl | rfl | rfl | rfl <;> rfl) (by decide) h63 hby (HO.out W6 _ hX6).2 _ rfl ?_
  intro g4 c4 W4 hown4 hgrow4 hat4 hlt4
  obtain ⟨q2, f2, hA5, hB5, hK5, hB4, hK4⟩ := HADD.out _ W4 g4 c4 hX7 hgrow4 hown4
  have hS8 : (fun w' : World => w'.cell? ⟨rb, 1, none⟩ = some (.slice na m ncap) ∧ w'.cell? ⟨w.heap.size, 0, none⟩ = some (.int .i64 v) ∧ w'.cell? ⟨w.heap.size, 1, none⟩ = some (.int .i64 (fr : Int)) ∧ w'.cell? ⟨rb, 0, none⟩ = some (.slice (some ⟨b, off, none⟩) n cap) ∧ (convert 22 9 (.slice (some ⟨b, off, none⟩) 0 0)).run Tryz.prog w' = .ok (.string tx) w') W4 := by
    obtain ⟨cs, ht4⟩ := HTY.out
    have hbk := hK4 _ cs 124 ht4 (by decide) (by decide)
    exact ⟨q2, (cell_block hbk).trans y0, (cell_block hbk).trans y1, (Rp.cell_set_ne (by decide)).symm.trans hA5.dr.c0, HCV.out _ hB4⟩
  refine hK.out _ _ (fun _ => hS8) ?_
  clear hK K hown4 hgrow4 hat4 hlt4
  try simp only [Act.put]
  refine wpAnyE_one (i := 23) (by kernel_rfl) rfl (fun K hK => ?_)
  go_simp
  refine hK.out _ _ (fun _ => hS8) ?_
  clear hK K
  try simp only [Act.put]
  refine wpAnyE_one (i := 24) (by kernel_rfl) rfl (fun K hK => ?_)
  go_simp
  refine hK.out _ _ (fun _ => hS8) ?_
  clear hK K
  try simp only [Act.put]
  refine wpAnyE_one (i := 25) (by kernel_rfl) rfl (fun K hK => ?_)
  go_simp
  refine hK.out _ _ (fun h => absurd rfl h) ?_
  clear hK K
  try simp only [Act.put]
  refine wpAnyE_done (by kernel_rfl) ?_
  have HA5 : Hid (Ask base rb (some ⟨b, off, none⟩) n cap ys (W4.setCell ⟨rb, 1, none⟩ (.slice (some ⟨g4, 0, none⟩) (m + 1) c4)) (L ++ [⟨(T : Int), v, 0, tt⟩]) (.slice (some ⟨g4, 0, none⟩) (m + 1) c4)) := hA5
  have HB5 : Hid (Below base w (W4.setCell ⟨rb, 1, none⟩ (.slice (some ⟨g4, 0, none⟩) (m + 1) c4))) := hB5
  have HK5 : Hid (Kq w (W4.setCell ⟨rb, 1, none⟩ (.slice (some ⟨g4, 0, none⟩) (m + 1) c4))) := hK5
  clear hA5 hB5 hK5 hS hS6 hS7 hS8
  go_wp2
  go_ret
  exact ⟨fr + len, by rw [show ((fr + len : Nat) : Int) = (fr : Int) + (len : Int) by omega]; rfl, HB5.out, HK5.out, .inr ⟨_, _, HA5.out, by have := HFR.out; omega, HFIT.out, HB.out⟩⟩
end Go.Proofs.YtoikdpjjcnmgeaaGreatDoor
