import Derived.Test.YtoikdpjjcnmgeaaGreatDoorZc
/-
  DERIVED. What stands behind a head: the document's: a sequence.
-/
namespace Go.Proofs.YtoikdpjjcnmgeaaGreatDoor
open Go Go.Proofs Go.RowKit
open Wk (Nd nds)
open Go.Sort

structure StopB2 (p : Prop) : Prop where
  out : p
set_option maxRecDepth 100000 in
set_option maxHeartbeats 8000000 in
theorem el_I (d : Nat) (w : World) (base rb : Nat) (a : Option Addr) (n cap : Nat) (ys : List UInt8) (L : List Nd) (nv : Value) (k fin : Nat) (ex same : Bool) (v : Int) (sz len : Nat) (hx : Bool) (hA : Ask base rb a n cap ys w L nv) (hfn : fin ≤ n) (hsz : 8 ≤ sz) (hkf : k + sz ≤ fin) (hlen : len < 4294967296) (hit : ItC d) (hu : len = und) (hv : v = 18) (hg : ¬ tagS ys k % 65536 = 0) (hm : L.length ≠ 4096) (hex : (ex && same) = hx) :
    Calls Tryz.prog 67 #[.pointer (some ⟨rb, 0, none⟩), .int .i64 (k : Int), .int .i64 (fin : Int), .int .u32 (tagS ys k : Int), dhV v (k + sz) len same, .bool ex, .int .i64 (d : Int)] w (ElP (srcS ys) base rb a n cap ys w L (2 * d) fin ex k ⟨v, sz, len, hx⟩) := by
  have HS : Hid (∀ (M : List Nd) (nd : Option Nat) (rest : List Sp) (opn : Bool) (last : Nat), M.length = L.length → stepB (srcS ys) k M (rsp fin opn ex last nd) rest ⟨v, sz, len, hx⟩ = .go (k + sz) (bump M nd 1 ++ [sqN ((srcS ys).tag k) 0]) (isp fin true hx (some M.length) :: rsp fin opn ex ((srcS ys).tag k) nd :: rest)) := fun M nd rest opn last hl => by
    rw [stepB_seq (by unfold badLen; simp [hu, hv]) hv (fun h => h.1 hu) hg (by rw [hl]; exact hm)]
    show Res.go _ _ (⟨some M.length, if len = und then fin else k + sz + len, decide (len = und), true, hx, 0⟩ :: _ :: rest) = _
    rw [if_pos hu, decide_eq_true hu]
    rfl
  have HGT : Hid (¬ (srcS ys).tag k % 65536 = 0) := hg
  have HIT : Hid (ItC d) := hit
  have HA : Hid (Ask base rb a n cap ys w L nv) := hA
  have hnb : n ≤ 1048576 := hA.bv.s
  have c1w := hA.dr.c1
  have ht := tagS_lt ys k
  obtain ⟨fr, hfr⟩ : ∃ fr, k + sz = fr := ⟨_, rfl⟩
  rw [hfr] at hkf ⊢
  obtain ⟨T, hT⟩ : ∃ T, tagS ys k = T := ⟨_, rfl⟩
  rw [hT] at ht hg ⊢
  have HT : Hid _ := hT
  have HFR : Hid _ := hfr
  have hfb : fr ≤ 1048576 ∧ fin ≤ 1048576 ∧ k ≤ 1048576 := by omega
  unfold dhV
  obtain ⟨W0, hW0⟩ : ∃ W0, w.alloc (.cells #[.int .i64 v, .int .i64 (fr : Int), .int .u64 (len : Int), .bool same] 124) = W0 := ⟨_, rfl⟩
  have hb0 : Below w.heap.size w W0 := by rw [← hW0]; exact (Below.refl _ _).alloc (Nat.le_refl _) _
  have HH0 : Hid (DH W0 w.heap.size v fr len same) := by rw [← hW0]; exact DH.new w v fr len same
  have HA0 : Hid (Ask base rb a n cap ys W0 L nv) := HA.out.on hb0
  obtain ⟨y0, y1, y2, y3, yf⟩ := HH0.out
  have hm2 : (len : Int).tmod 2 = (len : Int) % 2 := by rw [Int.tmod_eq_emod_of_nonneg (by omega)]
  have wq : IntKind.u64.wrap ((fin : Int) - (fr : Int)) = (fin : Int) - (fr : Int) := by rw [IntKind.wrap_u64]; omega
  clear hA hT c1w
  have bu : ((len : Int) == 4294967295) = true := by rw [hu]; rfl
  have bv : (v != 18) = false := by rw [hv]; rfl
  have band : bits .and .u32 (T : Int) 65535 = ((T % 65536 : Nat) : Int) := bits_low16 ht
  obtain ⟨q, hq⟩ : ∃ q, T % 65536 = q := ⟨_, rfl⟩
  rw [hq] at band hg
  have bg : ((q : Int) == 0) = false := beq_eq_false_iff_ne.2 (by omega)
  have l4 := HA.out.l4
  have bm : decide ((4096 : Int) ≤ (L.length : Int)) = false := decide_eq_false (by omega)
  have wl : IntKind.i64.wrap (len : Int) = (len : Int) := by rw [IntKind.wrap_i64]; omega
  obtain ⟨na, ncap, rfl, hna⟩ := own_form HA.out.dr.nd

  have HM : Hid (L.length ≠ 4096 ∧ L.length ≤ 4096) := ⟨hm, l4⟩
  have c1 := HA0.out.dr.c1
  obtain ⟨i0, hi, hz0, hz1, hz2⟩ := info_parts Wk.info34
  obtain ⟨m, hml⟩ : ∃ m, L.length = m := ⟨_, rfl⟩
  have HL : Hid (L.length = m) := hml
  rw [hml] at c1 bm HM
  have HO : Hid (∀ o, (W0.alloc o).ownsRow base 54 4 (.slice na m ncap) m (nds L)) := fun o => by
    have := HA0.out.dr.nd
    rw [HL.out] at this
    exact World.ownsRow.alloc this o
  have HBS : Hid (∀ o, base ≤ (W0.alloc o).heap.size) := fun o => Nat.le_trans HA0.out.dr.lt (by simp)
  have h63 : m + 1 ≤ maxLen := by have := HM.out.2; unfold maxLen; omega
  have hby : (m + 1) * 40 ≤ 140737488355328 := by have := HM.out.2; omega
  have HADD : Hid (∀ (X W4 : World) (g4 c4 : Nat), Below W0.heap.size W0 X → X.grownBy W4 (Value.slice na m ncap).ownBlock → W4.ownsRow base 54 4 (.slice (some ⟨g4, 0, none⟩) (m + 1) c4) (m + 1) (nds L ++ [.int .u32 (T : Int), .int .i64 18, .int .i64 0, .string ⟨#[]⟩]) →
      W4.cell? ⟨rb, 1, none⟩ = some (.slice na m ncap) ∧ W4.frozen? ⟨rb, 1, none⟩ = false ∧ Ask base rb a n cap ys (W4.setCell ⟨rb, 1, none⟩ (.slice (some ⟨g4, 0, none⟩) (m + 1) c4)) (L ++ [sqN T 0]) (.slice (some ⟨g4, 0, none⟩) (m + 1) c4) ∧ Below base w (W4.setCell ⟨rb, 1, none⟩ (.slice (some ⟨g4, 0, none⟩) (m + 1) c4)) ∧ Kq w (W4.setCell ⟨rb, 1, none⟩ (.slice (some ⟨g4, 0, none⟩) (m + 1) c4)) ∧ DH (W4.setCell ⟨rb, 1, none⟩ (.slice (some ⟨g4, 0, none⟩) (m + 1) c4)) w.heap.size v fr len same) := by
    intro X W4 g4 c4 hX hg4 ho
    have hAX := HA0.out.on hX
    rw [HL.out] at hAX
    have hn' : W4.ownsRow base 54 4 (.slice (some ⟨g4, 0, none⟩) (m + 1) c4) (L ++ [sqN T 0]).length (nds (L ++ [sqN T 0])) := by
      rw [List.length_append, HL.out, Wk.nds_append]
      exact ho
    obtain ⟨p1, p2, p3, p4, p5⟩ := hAX.dr.added hg4 hn'
    have hb0X : Below w.heap.size w X := hb0.trans (hX.mono hb0.size)
    have hbx : Below base w X := hb0X.mono HA.out.dr.lt
    have hty : ∃ cs, X.heap[w.heap.size]? = some (.cells cs 124) := Below.ty hX (by rw [← hW0]; exact ⟨_, Array.getElem?_push_size⟩)
    obtain ⟨cs, hty⟩ := hty
    exact ⟨p1, p2, ⟨hAX.bv.on p4, p3, by rw [List.length_append, HL.out]; have := HM.out; simp; omega⟩, hbx.trans p4, (Kq.below hb0X).trans p5, (HH0.out.on hX).keep (p5 _ cs 124 hty (by decide) (by decide))⟩
  clear hna hm hml hfr hu hv
  go_enter Tryz.func67, Tryz.ntmps67
  go_wp2_with (at_builtin; refine StopB2.out ?_)
  refine ⟨wpList_append_lies _ rfl (.tmp 137) (.tmp 140) 25 rfl base 54 i0 _ 4 40 Tryz.underlying25 hi hz0 hz1 hz2 rfl (by decide) (.slice na m ncap) m (nds L) rfl (HO.out _) ⟨W0.heap.size, 0, none⟩ 1 1 [.int .u32 (T : Int), .int .i64 18, .int .i64 0, .string ⟨#[]⟩] rfl rfl (World.news_of_block (heap_alloc_new W0 _)) (by intro u hu; simp at hu; rcases hu with rfl | rfl | rfl | rfl <;> rfl) (by decide) h63 hby (HBS.out _) _ rfl ?_⟩
  intro g4 c4 W4 hown4 hgrow4 hat4 hlt4
  obtain ⟨q2, f2, hA5, hB5, hK5, hH5⟩ := HADD.out _ W4 g4 c4 ((Below.refl _ W0).alloc (Nat.le_refl _) _) hgrow4 hown4
  obtain ⟨W5, hW5⟩ : ∃ W5, W4.setCell ⟨rb, 1, none⟩ (.slice (some ⟨g4, 0, none⟩) (m + 1) c4) = W5 := ⟨_, rfl⟩
  rw [hW5] at hA5 hB5 hK5 hH5
  have HA5 : Hid (Ask base rb a n cap ys W5 (L ++ [sqN T 0]) (.slice (some ⟨g4, 0, none⟩) (m + 1) c4)) := hA5
  have HB5 : Hid (Below base w W5) := hB5
  have HK5 : Hid (Kq w W5) := hK5
  have HH5 : Hid (DH W5 w.heap.size v fr len same) := hH5
  obtain ⟨x0, x1, x2, x3, xf⟩ := hH5
  have HC : Hid (Calls Tryz.prog 108 #[.pointer (some ⟨rb, 0, none⟩), .int .i64 (fr : Int), .int .i64 (fin : Int), .bool true, .bool hx, .int .i64 (d : Int)] W5 (OutP (srcS ys) base rb a n cap ys W5 (L ++ [sqN T 0]) (2 * d + 1) (isp fin true hx) fr fin)) := by
    have := HIT.out W5 base rb a n cap ys (L ++ [sqN T 0]) _ fr fin true hx HA5.out (hkf) (hfn)
    exact this
  have bx : (ex && same) = hx := hex
  clear hown4 hgrow4 hat4 hlt4 hA5 hB5 hK5 y0 y1 y2 y3 yf c1
  cases ex with
  | false =>
    obtain rfl : hx = false := by rw [← bx]; rfl
    clear bx hex
    go_wp2_with (go_at_call 108; refine StopV.out ?_)
    refine ⟨Calls.mono HC.out ?_⟩
    rintro e W6 ⟨k', cnt, rfl, hb6, hk6, ho⟩
    have hLT : (L ++ [sqN T 0]).length = m + 1 := by rw [List.length_append, HL.out]; rfl
    rcases ho with ⟨x, c, hbad, hel⟩ | ⟨X2, nv2, hA6, hk1, hk2, hcnt, hel⟩
    · obtain ⟨L6, nv6, ⟨g6, hD6, hl6⟩, hc6, hlen6⟩ := hbad
      rw [hLT] at hlen6 hel
      have hmL : m < L6.length := by omega
      obtain ⟨gn, ncap6, rfl, hnc6, e1, e2, e3, hD7, hB7, hK7, hl7⟩ := hD6.setN m hmL (cnt : Int)
      have HBAD : Hid (BadIn base rb (.slice a n cap) (W6.setCell ⟨gn, m * 4 + 2, none⟩ (.int .i64 (cnt : Int))) L.length x c) := ⟨_, _, ⟨g6, hD7, hl7 g6 _ hl6⟩, hc6, by rw [List.length_set, HL.out]; omega⟩
      have HEL : Hid (ElBad (srcS ys) L.length (2 * d) fin false k ⟨v, sz, len, false⟩ x c) := ElBad.seq HS.out (by rw [HL.out]; show BadFor _ _ _ _ (k + sz) _ _; rw [HFR.out]; exact hel)
      obtain ⟨z6, hz6⟩ : ∃ z6, (L6[m]'hmL).n = z6 := ⟨_, rfl⟩
      rw [hz6] at e2
      obtain ⟨l6, hll⟩ : ∃ l6, L6.length = l6 := ⟨_, rfl⟩
      rw [hll] at e1 hmL hnc6
      have hmI : (m : Int) < (l6 : Int) := by omega
      clear hD6 hD7 hel hlen6
      go_wp2
      go_ret
      exact ⟨k', rfl, HB5.out.trans (hb6.out.trans hB7), HK5.out.trans (hk6.out.trans hK7), .inl ⟨x, c, HBAD.out, HEL.out⟩⟩
    · rw [hLT] at hel
      have hmL : m < (L ++ [sqN T 0] ++ X2).length := by rw [List.length_append, hLT]; omega
      obtain ⟨gn, ncap6, rfl, hnc6, e1, e2, e3, hD7, hB7, hK7, -⟩ := hA6.dr.setN m hmL (cnt : Int)
      have hset : (L ++ [sqN T 0] ++ X2).set m { (L ++ [sqN T 0] ++ X2)[m]'hmL with n := (cnt : Int) } = L ++ (sqN T cnt :: X2) := by
        have h1 : (L ++ [sqN T 0] ++ X2)[m]'hmL = sqN T 0 := by simp [← HL.out]
        rw [h1, List.append_assoc, List.set_append_right _ _ (by rw [HL.out]; exact Nat.le_refl _), HL.out, Nat.sub_self]
        rfl
      rw [hset] at hD7
      have HA7 : Hid (Ask base rb a n cap ys (W6.setCell ⟨gn, m * 4 + 2, none⟩ (.int .i64 (cnt : Int))) (L ++ (sqN T cnt :: X2)) (.slice (some ⟨gn, 0, none⟩) (L ++ [sqN T 0] ++ X2).length ncap6)) := ⟨hA6.bv.on hB7, hD7, by have := hA6.l4; simp at this ⊢; omega⟩
      have HEL : Hid (ElGo (srcS ys) L.length (2 * d) fin false k ⟨v, sz, len, false⟩ k' (sqN T cnt :: X2)) := by
        have := ElGo.seq (h := ⟨v, sz, len, false⟩) HGT.out HS.out (by rw [HL.out]; show OutFor _ _ _ _ (k + sz) _ _ _; rw [HFR.out]; exact hel)
        rw [show (srcS ys).tag k = T from HT.out] at this
        exact this
      obtain ⟨z6, hz6⟩ : ∃ z6, ((L ++ [sqN T 0] ++ X2)[m]'hmL).n = z6 := ⟨_, rfl⟩
      rw [hz6] at e2
      obtain ⟨l6, hll⟩ : ∃ l6, (L ++ [sqN T 0] ++ X2).length = l6 := ⟨_, rfl⟩
      rw [hll] at e1 hmL hnc6
      have hmI : (m : Int) < (l6 : Int) := by omega
      have hfr8 : k + 8 ≤ fr := by have := HFR.out; omega
      clear hD7 hel hset hA6
      go_wp2
      go_ret
      exact ⟨k', rfl, HB5.out.trans (hb6.out.trans hB7), HK5.out.trans (hk6.out.trans hK7), .inr ⟨sqN T cnt :: X2, _, HA7.out, by omega, hk2, HEL.out⟩⟩
  | true =>
    obtain rfl : hx = same := by rw [← bx]; rfl
    clear bx hex
    go_wp2_with (go_at_call 108; refine StopV.out ?_)
    refine ⟨Calls.mono HC.out ?_⟩
    rintro e W6 ⟨k', cnt, rfl, hb6, hk6, ho⟩
    have hLT : (L ++ [sqN T 0]).length = m + 1 := by rw [List.length_append, HL.out]; rfl
    rcases ho with ⟨x, c, hbad, hel⟩ | ⟨X2, nv2, hA6, hk1, hk2, hcnt, hel⟩
    · obtain ⟨L6, nv6, ⟨g6, hD6, hl6⟩, hc6, hlen6⟩ := hbad
      rw [hLT] at hlen6 hel
      have hmL : m < L6.length := by omega
      obtain ⟨gn, ncap6, rfl, hnc6, e1, e2, e3, hD7, hB7, hK7, hl7⟩ := hD6.setN m hmL (cnt : Int)
      have HBAD : Hid (BadIn base rb (.slice a n cap) (W6.setCell ⟨gn, m * 4 + 2, none⟩ (.int .i64 (cnt : Int))) L.length x c) := ⟨_, _, ⟨g6, hD7, hl7 g6 _ hl6⟩, hc6, by rw [List.length_set, HL.out]; omega⟩
      have HEL : Hid (ElBad (srcS ys) L.length (2 * d) fin true k ⟨v, sz, len, hx⟩ x c) := ElBad.seq HS.out (by rw [HL.out]; show BadFor _ _ _ _ (k + sz) _ _; rw [HFR.out]; exact hel)
      obtain ⟨z6, hz6⟩ : ∃ z6, (L6[m]'hmL).n = z6 := ⟨_, rfl⟩
      rw [hz6] at e2
      obtain ⟨l6, hll⟩ : ∃ l6, L6.length = l6 := ⟨_, rfl⟩
      rw [hll] at e1 hmL hnc6
      have hmI : (m : Int) < (l6 : Int) := by omega
      clear hD6 hD7 hel hlen6
      go_wp2
      go_ret
      exact ⟨k', rfl, HB5.out.trans (hb6.out.trans hB7), HK5.out.trans (hk6.out.trans hK7), .inl ⟨x, c, HBAD.out, HEL.out⟩⟩
    · rw [hLT] at hel
      have hmL : m < (L ++ [sqN T 0] ++ X2).length := by rw [List.length_append, hLT]; omega
      obtain ⟨gn, ncap6, rfl, hnc6, e1, e2, e3, hD7, hB7, hK7, -⟩ := hA6.dr.setN m hmL (cnt : Int)
      have hset : (L ++ [sqN T 0] ++ X2).set m { (L ++ [sqN T 0] ++ X2)[m]'hmL with n := (cnt : Int) } = L ++ (sqN T cnt :: X2) := by
        have h1 : (L ++ [sqN T 0] ++ X2)[m]'hmL = sqN T 0 := by simp [← HL.out]
        rw [h1, List.append_assoc, List.set_append_right _ _ (by rw [HL.out]; exact Nat.le_refl _), HL.out, Nat.sub_self]
        rfl
      rw [hset] at hD7
      have HA7 : Hid (Ask base rb a n cap ys (W6.setCell ⟨gn, m * 4 + 2, none⟩ (.int .i64 (cnt : Int))) (L ++ (sqN T cnt :: X2)) (.slice (some ⟨gn, 0, none⟩) (L ++ [sqN T 0] ++ X2).length ncap6)) := ⟨hA6.bv.on hB7, hD7, by have := hA6.l4; simp at this ⊢; omega⟩
      have HEL : Hid (ElGo (srcS ys) L.length (2 * d) fin true k ⟨v, sz, len, hx⟩ k' (sqN T cnt :: X2)) := by
        have := ElGo.seq (h := ⟨v, sz, len, hx⟩) HGT.out HS.out (by rw [HL.out]; show OutFor _ _ _ _ (k + sz) _ _ _; rw [HFR.out]; exact hel)
        rw [show (srcS ys).tag k = T from HT.out] at this
        exact this
      obtain ⟨z6, hz6⟩ : ∃ z6, ((L ++ [sqN T 0] ++ X2)[m]'hmL).n = z6 := ⟨_, rfl⟩
      rw [hz6] at e2
      obtain ⟨l6, hll⟩ : ∃ l6, (L ++ [sqN T 0] ++ X2).length = l6 := ⟨_, rfl⟩
      rw [hll] at e1 hmL hnc6
      have hmI : (m : Int) < (l6 : Int) := by omega
      have hfr8 : k + 8 ≤ fr := by have := HFR.out; omega
      clear hD7 hel hset hA6
      go_wp2
      go_ret
      exact ⟨k', rfl, HB5.out.trans (hb6.out.trans hB7), HK5.out.trans (hk6.out.trans hK7), .inr ⟨sqN T cnt :: X2, _, HA7.out, by omega, hk2, HEL.out⟩⟩
set_option maxRecDepth 100000 in
set_option maxHeartbeats 8000000 in
theorem el_H (d : Nat) (w : World) (base rb : Nat) (a : Option Addr) (n cap : Nat) (ys : List UInt8) (L : List Nd) (nv : Value) (k fin : Nat) (ex same : Bool) (v : Int) (sz len : Nat) (hx : Bool) (hA : Ask base rb a n cap ys w L nv) (hfn : fin ≤ n) (hsz : 8 ≤ sz) (hkf : k + sz ≤ fin) (hlen : len < 4294967296) (hit : ItC d) (hu : len ≠ und) (ho : ¬ len % 2 = 1) (hv : v = 18) (hs : ¬ fin - k - sz < len) (hg : ¬ tagS ys k % 65536 = 0) (hm : L.length ≠ 4096) (hex : (ex && same) = hx) :
    Calls Tryz.prog 67 #[.pointer (some ⟨rb, 0, none⟩), .int .i64 (k : Int), .int .i64 (fin : Int), .int .u32 (tagS ys k : Int), dhV v (k + sz) len same, .bool ex, .int .i64 (d : Int)] w (ElP (srcS ys) base rb a n cap ys w L (2 * d) fin ex k ⟨v, sz, len, hx⟩) := by
  have HS : Hid (∀ (M : List Nd) (nd : Option Nat) (rest : List Sp) (opn : Bool) (last : Nat), M.length = L.length → stepB (srcS ys) k M (rsp fin opn ex last nd) rest ⟨v, sz, len, hx⟩ = .go (k + sz) (bump M nd 1 ++ [sqN ((srcS ys).tag k) 0]) (isp (k + sz + len) false hx (some M.length) :: rsp fin opn ex ((srcS ys).tag k) nd :: rest)) := fun M nd rest opn last hl => by
    rw [stepB_seq (by unfold badLen; simp [hu, ho]) hv (fun h => hs h.2) hg (by rw [hl]; exact hm)]
    show Res.go _ _ (⟨some M.length, if len = und then fin else k + sz + len, decide (len = und), true, hx, 0⟩ :: _ :: rest) = _
    rw [if_neg hu, decide_eq_false hu]
    rfl
  have HGT : Hid (¬ (srcS ys).tag k % 65536 = 0) := hg
  have HIT : Hid (ItC d) := hit
  have HA : Hid (Ask base rb a n cap ys w L nv) := hA
  have hnb : n ≤ 1048576 := hA.bv.s
  have c1w := hA.dr.c1
  have ht := tagS_lt ys k
  obtain ⟨fr, hfr⟩ : ∃ fr, k + sz = fr := ⟨_, rfl⟩
  rw [hfr] at hkf ⊢
  obtain ⟨T, hT⟩ : ∃ T, tagS ys k = T := ⟨_, rfl⟩
  rw [hT] at ht hg ⊢
  have HT : Hid _ := hT
  have HFR : Hid _ := hfr
  have hfb : fr ≤ 1048576 ∧ fin ≤ 1048576 ∧ k ≤ 1048576 := by omega
  unfold dhV
  obtain ⟨W0, hW0⟩ : ∃ W0, w.alloc (.cells #[.int .i64 v, .int .i64 (fr : Int), .int .u64 (len : Int), .bool same] 124) = W0 := ⟨_, rfl⟩
  have hb0 : Below w.heap.size w W0 := by rw [← hW0]; exact (Below.refl _ _).alloc (Nat.le_refl _) _
  have HH0 : Hid (DH W0 w.heap.size v fr len same) := by rw [← hW0]; exact DH.new w v fr len same
  have HA0 : Hid (Ask base rb a n cap ys W0 L nv) := HA.out.on hb0
  obtain ⟨y0, y1, y2, y3, yf⟩ := HH0.out
  have hm2 : (len : Int).tmod 2 = (len : Int) % 2 := by rw [Int.tmod_eq_emod_of_nonneg (by omega)]
  have wq : IntKind.u64.wrap ((fin : Int) - (fr : Int)) = (fin : Int) - (fr : Int) := by rw [IntKind.wrap_u64]; omega
  clear hA hT c1w
  have bu : ((len : Int) == 4294967295) = false := beq_eq_false_iff_ne.2 (by unfold und at hu; omega)
  have bo : ((len : Int) % 2 == 1) = false := beq_eq_false_iff_ne.2 (by omega)
  have bv : (v != 18) = false := by rw [hv]; rfl
  have bs : decide ((fin : Int) - (fr : Int) < (len : Int)) = false := decide_eq_false (by omega)
  have band : bits .and .u32 (T : Int) 65535 = ((T % 65536 : Nat) : Int) := bits_low16 ht
  obtain ⟨q, hq⟩ : ∃ q, T % 65536 = q := ⟨_, rfl⟩
  rw [hq] at band hg
  have bg : ((q : Int) == 0) = false := beq_eq_false_iff_ne.2 (by omega)
  have l4 := HA.out.l4
  have bm : decide ((4096 : Int) ≤ (L.length : Int)) = false := decide_eq_false (by omega)
  have wl : IntKind.i64.wrap (len : Int) = (len : Int) := by rw [IntKind.wrap_i64]; omega
  have HFIT : Hid (fr + len ≤ fin) := by show _ ≤ _; omega
  have hfl : fr + len ≤ 1048576 := by omega
  obtain ⟨na, ncap, rfl, hna⟩ := own_form HA.out.dr.nd

  have HM : Hid (L.length ≠ 4096 ∧ L.length ≤ 4096) := ⟨hm, l4⟩
  have c1 := HA0.out.dr.c1
  obtain ⟨i0, hi, hz0, hz1, hz2⟩ := info_parts Wk.info34
  obtain ⟨m, hml⟩ : ∃ m, L.length = m := ⟨_, rfl⟩
  have HL : Hid (L.length = m) := hml
  rw [hml] at c1 bm HM
  have HO : Hid (∀ o, (W0.alloc o).ownsRow base 54 4 (.slice na m ncap) m (nds L)) := fun o => by
    have := HA0.out.dr.nd
    rw [HL.out] at this
    exact World.ownsRow.alloc this o
  have HBS : Hid (∀ o, base ≤ (W0.alloc o).heap.size) := fun o => Nat.le_trans HA0.out.dr.lt (by simp)
  have h63 : m + 1 ≤ maxLen := by have := HM.out.2; unfold maxLen; omega
  have hby : (m + 1) * 40 ≤ 140737488355328 := by have := HM.out.2; omega
  have HADD : Hid (∀ (X W4 : World) (g4 c4 : Nat), Below W0.heap.size W0 X → X.grownBy W4 (Value.slice na m ncap).ownBlock → W4.ownsRow base 54 4 (.slice (some ⟨g4, 0, none⟩) (m + 1) c4) (m + 1) (nds L ++ [.int .u32 (T : Int), .int .i64 18, .int .i64 0, .string ⟨#[]⟩]) →
      W4.cell? ⟨rb, 1, none⟩ = some (.slice na m ncap) ∧ W4.frozen? ⟨rb, 1, none⟩ = false ∧ Ask base rb a n cap ys (W4.setCell ⟨rb, 1, none⟩ (.slice (some ⟨g4, 0, none⟩) (m + 1) c4)) (L ++ [sqN T 0]) (.slice (some ⟨g4, 0, none⟩) (m + 1) c4) ∧ Below base w (W4.setCell ⟨rb, 1, none⟩ (.slice (some ⟨g4, 0, none⟩) (m + 1) c4)) ∧ Kq w (W4.setCell ⟨rb, 1, none⟩ (.slice (some ⟨g4, 0, none⟩) (m + 1) c4)) ∧ DH (W4.setCell ⟨rb, 1, none⟩ (.slice (some ⟨g4, 0, none⟩) (m + 1) c4)) w.heap.size v fr len same) := by
    intro X W4 g4 c4 hX hg4 ho
    have hAX := HA0.out.on hX
    rw [HL.out] at hAX
    have hn' : W4.ownsRow base 54 4 (.slice (some ⟨g4, 0, none⟩) (m + 1) c4) (L ++ [sqN T 0]).length (nds (L ++ [sqN T 0])) := by
      rw [List.length_append, HL.out, Wk.nds_append]
      exact ho
    obtain ⟨p1, p2, p3, p4, p5⟩ := hAX.dr.added hg4 hn'
    have hb0X : Below w.heap.size w X := hb0.trans (hX.mono hb0.size)
    have hbx : Below base w X := hb0X.mono HA.out.dr.lt
    have hty : ∃ cs, X.heap[w.heap.size]? = some (.cells cs 124) := Below.ty hX (by rw [← hW0]; exact ⟨_, Array.getElem?_push_size⟩)
    obtain ⟨cs, hty⟩ := hty
    exact ⟨p1, p2, ⟨hAX.bv.on p4, p3, by rw [List.length_append, HL.out]; have := HM.out; simp; omega⟩, hbx.trans p4, (Kq.below hb0X).trans p5, (HH0.out.on hX).keep (p5 _ cs 124 hty (by decide) (by decide))⟩
  clear hna hm hml hfr hu ho hv hs
  go_enter Tryz.func67, Tryz.ntmps67
  go_wp2_with (at_builtin; refine StopB2.out ?_)
  refine ⟨wpList_append_lies _ rfl (.tmp 137) (.tmp 140) 25 rfl base 54 i0 _ 4 40 Tryz.underlying25 hi hz0 hz1 hz2 rfl (by decide) (.slice na m ncap) m (nds L) rfl (HO.out _) ⟨W0.heap.size, 0, none⟩ 1 1 [.int .u32 (T : Int), .int .i64 18, .int .i64 0, .string ⟨#[]⟩] rfl rfl (World.news_of_block (heap_alloc_new W0 _)) (by intro u hu; simp at hu; rcases hu with rfl | rfl | rfl | rfl <;> rfl) (by decide) h63 hby (HBS.out _) _ rfl ?_⟩
  intro g4 c4 W4 hown4 hgrow4 hat4 hlt4
  obtain ⟨q2, f2, hA5, hB5, hK5, hH5⟩ := HADD.out _ W4 g4 c4 ((Below.refl _ W0).alloc (Nat.le_refl _) _) hgrow4 hown4
  obtain ⟨W5, hW5⟩ : ∃ W5, W4.setCell ⟨rb, 1, none⟩ (.slice (some ⟨g4, 0, none⟩) (m + 1) c4) = W5 := ⟨_, rfl⟩
  rw [hW5] at hA5 hB5 hK5 hH5
  have HA5 : Hid (Ask base rb a n cap ys W5 (L ++ [sqN T 0]) (.slice (some ⟨g4, 0, none⟩) (m + 1) c4)) := hA5
  have HB5 : Hid (Below base w W5) := hB5
  have HK5 : Hid (Kq w W5) := hK5
  have HH5 : Hid (DH W5 w.heap.size v fr len same) := hH5
  obtain ⟨x0, x1, x2, x3, xf⟩ := hH5
  have HC : Hid (Calls Tryz.prog 108 #[.pointer (some ⟨rb, 0, none⟩), .int .i64 (fr : Int), .int .i64 ((fr : Int) + (len : Int)), .bool false, .bool hx, .int .i64 (d : Int)] W5 (OutP (srcS ys) base rb a n cap ys W5 (L ++ [sqN T 0]) (2 * d + 1) (isp (fr + len) false hx) fr (fr + len))) := by
    have := HIT.out W5 base rb a n cap ys (L ++ [sqN T 0]) _ fr (fr + len) false hx HA5.out (by omega) (by have := HFIT.out; omega)
    rw [show ((fr + len : Nat) : Int) = (fr : Int) + (len : Int) by omega] at this
    exact this
  have bx : (ex && same) = hx := hex
  clear hown4 hgrow4 hat4 hlt4 hA5 hB5 hK5 y0 y1 y2 y3 yf c1
  cases ex with
  | false =>
    obtain rfl : hx = false := by rw [← bx]; rfl
    clear bx hex
    go_wp2_with (go_at_call 108; refine StopV.out ?_)
    refine ⟨Calls.mono HC.out ?_⟩
    rintro e W6 ⟨k', cnt, rfl, hb6, hk6, ho⟩
    have hLT : (L ++ [sqN T 0]).length = m + 1 := by rw [List.length_append, HL.out]; rfl
    rcases ho with ⟨x, c, hbad, hel⟩ | ⟨X2, nv2, hA6, hk1, hk2, hcnt, hel⟩
    · obtain ⟨L6, nv6, ⟨g6, hD6, hl6⟩, hc6, hlen6⟩ := hbad
      rw [hLT] at hlen6 hel
      have hmL : m < L6.length := by omega
      obtain ⟨gn, ncap6, rfl, hnc6, e1, e2, e3, hD7, hB7, hK7, hl7⟩ := hD6.setN m hmL (cnt : Int)
      have HBAD : Hid (BadIn base rb (.slice a n cap) (W6.setCell ⟨gn, m * 4 + 2, none⟩ (.int .i64 (cnt : Int))) L.length x c) := ⟨_, _, ⟨g6, hD7, hl7 g6 _ hl6⟩, hc6, by rw [List.length_set, HL.out]; omega⟩
      have HEL : Hid (ElBad (srcS ys) L.length (2 * d) fin false k ⟨v, sz, len, false⟩ x c) := ElBad.seq HS.out (by rw [HL.out]; show BadFor _ _ _ _ (k + sz) _ _; rw [HFR.out]; exact (by rw [← HFR.out] at hel; rw [← HFR.out]; exact hel))
      obtain ⟨z6, hz6⟩ : ∃ z6, (L6[m]'hmL).n = z6 := ⟨_, rfl⟩
      rw [hz6] at e2
      obtain ⟨l6, hll⟩ : ∃ l6, L6.length = l6 := ⟨_, rfl⟩
      rw [hll] at e1 hmL hnc6
      have hmI : (m : Int) < (l6 : Int) := by omega
      clear hD6 hD7 hel hlen6
      go_wp2
      go_ret
      exact ⟨k', rfl, HB5.out.trans (hb6.out.trans hB7), HK5.out.trans (hk6.out.trans hK7), .inl ⟨x, c, HBAD.out, HEL.out⟩⟩
    · rw [hLT] at hel
      have hmL : m < (L ++ [sqN T 0] ++ X2).length := by rw [List.length_append, hLT]; omega
      obtain ⟨gn, ncap6, rfl, hnc6, e1, e2, e3, hD7, hB7, hK7, -⟩ := hA6.dr.setN m hmL (cnt : Int)
      have hset : (L ++ [sqN T 0] ++ X2).set m { (L ++ [sqN T 0] ++ X2)[m]'hmL with n := (cnt : Int) } = L ++ (sqN T cnt :: X2) := by
        have h1 : (L ++ [sqN T 0] ++ X2)[m]'hmL = sqN T 0 := by simp [← HL.out]
        rw [h1, List.append_assoc, List.set_append_right _ _ (by rw [HL.out]; exact Nat.le_refl _), HL.out, Nat.sub_self]
        rfl
      rw [hset] at hD7
      have HA7 : Hid (Ask base rb a n cap ys (W6.setCell ⟨gn, m * 4 + 2, none⟩ (.int .i64 (cnt : Int))) (L ++ (sqN T cnt :: X2)) (.slice (some ⟨gn, 0, none⟩) (L ++ [sqN T 0] ++ X2).length ncap6)) := ⟨hA6.bv.on hB7, hD7, by have := hA6.l4; simp at this ⊢; omega⟩
      have HEL : Hid (ElGo (srcS ys) L.length (2 * d) fin false k ⟨v, sz, len, false⟩ k' (sqN T cnt :: X2)) := by
        have := ElGo.seq (h := ⟨v, sz, len, false⟩) HGT.out HS.out (by rw [HL.out]; show OutFor _ _ _ _ (k + sz) _ _ _; rw [HFR.out]; exact (by rw [← HFR.out] at hel; rw [← HFR.out]; exact hel))
        rw [show (srcS ys).tag k = T from HT.out] at this
        exact this
      obtain ⟨z6, hz6⟩ : ∃ z6, ((L ++ [sqN T 0] ++ X2)[m]'hmL).n = z6 := ⟨_, rfl⟩
      rw [hz6] at e2
      obtain ⟨l6, hll⟩ : ∃ l6, (L ++ [sqN T 0] ++ X2).length = l6 := ⟨_, rfl⟩
      rw [hll] at e1 hmL hnc6
      have hmI : (m : Int) < (l6 : Int) := by omega
      have hfr8 : k + 8 ≤ fr := by have := HFR.out; omega
      clear hD7 hel hset hA6
      go_wp2
      go_ret
      exact ⟨k', rfl, HB5.out.trans (hb6.out.trans hB7), HK5.out.trans (hk6.out.trans hK7), .inr ⟨sqN T cnt :: X2, _, HA7.out, by omega, Nat.le_trans hk2 HFIT.out, HEL.out⟩⟩
  | true =>
    obtain rfl : hx = same := by rw [← bx]; rfl
    clear bx hex
    go_wp2_with (go_at_call 108; refine StopV.out ?_)
    refine ⟨Calls.mono HC.out ?_⟩
    rintro e W6 ⟨k', cnt, rfl, hb6, hk6, ho⟩
    have hLT : (L ++ [sqN T 0]).length = m + 1 := by rw [List.length_append, HL.out]; rfl
    rcases ho with ⟨x, c, hbad, hel⟩ | ⟨X2, nv2, hA6, hk1, hk2, hcnt, hel⟩
    · obtain ⟨L6, nv6, ⟨g6, hD6, hl6⟩, hc6, hlen6⟩ := hbad
      rw [hLT] at hlen6 hel
      have hmL : m < L6.length := by omega
      obtain ⟨gn, ncap6, rfl, hnc6, e1, e2, e3, hD7, hB7, hK7, hl7⟩ := hD6.setN m hmL (cnt : Int)
      have HBAD : Hid (BadIn base rb (.slice a n cap) (W6.setCell ⟨gn, m * 4 + 2, none⟩ (.int .i64 (cnt : Int))) L.length x c) := ⟨_, _, ⟨g6, hD7, hl7 g6 _ hl6⟩, hc6, by rw [List.length_set, HL.out]; omega⟩
      have HEL : Hid (ElBad (srcS ys) L.length (2 * d) fin true k ⟨v, sz, len, hx⟩ x c) := ElBad.seq HS.out (by rw [HL.out]; show BadFor _ _ _ _ (k + sz) _ _; rw [HFR.out]; exact (by rw [← HFR.out] at hel; rw [← HFR.out]; exact hel))
      obtain ⟨z6, hz6⟩ : ∃ z6, (L6[m]'hmL).n = z6 := ⟨_, rfl⟩
      rw [hz6] at e2
      obtain ⟨l6, hll⟩ : ∃ l6, L6.length = l6 := ⟨_, rfl⟩
      rw [hll] at e1 hmL hnc6
      have hmI : (m : Int) < (l6 : Int) := by omega
      clear hD6 hD7 hel hlen6
      go_wp2
      go_ret
      exact ⟨k', rfl, HB5.out.trans (hb6.out.trans hB7), HK5.out.trans (hk6.out.trans hK7), .inl ⟨x, c, HBAD.out, HEL.out⟩⟩
    · rw [hLT] at hel
      have hmL : m < (L ++ [sqN T 0] ++ X2).length := by rw [List.length_append, hLT]; omega
      obtain ⟨gn, ncap6, rfl, hnc6, e1, e2, e3, hD7, hB7, hK7, -⟩ := hA6.dr.setN m hmL (cnt : Int)
      have hset : (L ++ [sqN T 0] ++ X2).set m { (L ++ [sqN T 0] ++ X2)[m]'hmL with n := (cnt : Int) } = L ++ (sqN T cnt :: X2) := by
        have h1 : (L ++ [sqN T 0] ++ X2)[m]'hmL = sqN T 0 := by simp [← HL.out]
        rw [h1, List.append_assoc, List.set_append_right _ _ (by rw [HL.out]; exact Nat.le_refl _), HL.out, Nat.sub_self]
        rfl
      rw [hset] at hD7
      have HA7 : Hid (Ask base rb a n cap ys (W6.setCell ⟨gn, m * 4 + 2, none⟩ (.int .i64 (cnt : Int))) (L ++ (sqN T cnt :: X2)) (.slice (some ⟨gn, 0, none⟩) (L ++ [sqN T 0] ++ X2).length ncap6)) := ⟨hA6.bv.on hB7, hD7, by have := hA6.l4; simp at this ⊢; omega⟩
      have HEL : Hid (ElGo (srcS ys) L.length (2 * d) fin true k ⟨v, sz, len, hx⟩ k' (sqN T cnt :: X2)) := by
        have := ElGo.seq (h := ⟨v, sz, len, hx⟩) HGT.out HS.out (by rw [HL.out]; show OutFor _ _ _ _ (k + sz) _ _ _; rw [HFR.out]; exact (by rw [← HFR.out] at hel; rw [← HFR.out]; exact hel))
        rw [show (srcS ys).tag k = T from HT.out] at this
        exact this
      obtain ⟨z6, hz6⟩ : ∃ z6, ((L ++ [sqN T 0] ++ X2)[m]'hmL).n = z6 := ⟨_, rfl⟩
      rw [hz6] at e2
      obtain ⟨l6, hll⟩ : ∃ l6, (L ++ [sqN T 0] ++ X2).length = l6 := ⟨_, rfl⟩
      rw [hll] at e1 hmL hnc6
      have hmI : (m : Int) < (l6 : Int) := by omega
      have hfr8 : k + 8 ≤ fr := by have := HFR.out; omega
      clear hD7 hel hset hA6
      go_wp2
      go_ret
      exact ⟨k', rfl, HB5.out.trans (hb6.out.trans hB7), HK5.out.trans (hk6.out.trans hK7), .inr ⟨sqN T cnt :: X2, _, HA7.out, by omega, Nat.le_trans hk2 HFIT.out, HEL.out⟩⟩
end Go.Proofs.YtoikdpjjcnmgeaaGreatDoor
