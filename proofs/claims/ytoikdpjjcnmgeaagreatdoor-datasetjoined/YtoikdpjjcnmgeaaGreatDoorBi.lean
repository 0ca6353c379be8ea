import Derived.Test.YtoikdpjjcnmgeaaGreatDoorBh
import Derived.Test.YtoikdpjjcnmgeaaGreatDoorBa
/-
  DERIVED. Nodes laid down: the program's.
-/
namespace Go.Proofs.YtoikdpjjcnmgeaaGreatDoor
open Go Go.Proofs Go.RowKit
open Wk (Nd NV goN nxt)

/-- A node in a block of its own. -/
def NB (W : World) (k : Nat) (t v z : Int) (s : ByteArray) : Prop := W.heap[k]? = some (.cells #[.int .u32 t, .int .i64 v, .int .i64 z, .string s] 54 (0, 0))
theorem NB.nc {W : World} {k : Nat} {t v z : Int} {s : ByteArray} (h : NB W k t v z s) : NC W k t v z s := by
  have hc := World.news_of_block h
  refine ⟨?_, ?_, ?_, ?_⟩
  · exact hc 0 _ rfl
  · exact hc 1 _ rfl
  · exact hc 2 _ rfl
  · exact hc 3 _ rfl
theorem NB.by {base : Nat} {W W' : World} {k : Nat} {t v z : Int} {s : ByteArray} (h : NB W k t v z s) (hb : By base W W') : NB W' k t v z s := (hb.cell h (by decide)).trans h
theorem NB.on {W W' : World} {k : Nat} {t v z : Int} {s : ByteArray} (h : NB W k t v z s) (hb : Below W.heap.size W W') : NB W' k t v z s := (hb.block k (Array.getElem?_eq_some_iff.1 h).1).trans h
theorem NV.lo {w w' : World} {base b off n cap : Nat} {L : List Nd} (h : NV w (some ⟨b, off, none⟩) n cap L) (hb : Below base w w') (hlt : b < base) : NV w' (some ⟨b, off, none⟩) n cap L :=
  ⟨h.len, h.room, h.small, fun hn => by
    obtain ⟨b', off', ha, hl⟩ := h.lies hn
    cases ha
    refine ⟨b, off, rfl, fun i hi => ?_⟩
    obtain ⟨h0, h1, h2, h3⟩ := hl i hi
    have e : ∀ j, w'.cell? ⟨b, j, none⟩ = w.cell? ⟨b, j, none⟩ := fun j => World.cell?_of_block (hb.block b hlt)
    exact ⟨(e _).trans h0, (e _).trans h1, (e _).trans h2, (e _).trans h3⟩, h.num⟩
/-- What is laid down, and behind what. -/
structure WrP (X : Enc) (base b off n cap : Nat) (L : List Nd) (v : Value) (ys : List UInt8) (W : World) : Prop where
  nv : NV W (some ⟨b, off, none⟩) n cap L
  lt : b < base
  tg : TagsOk L
  gd : Good L
  n40 : n ≤ 4096
  len : ys.length + X.szP L ≤ 3000000
  own : Ob base W v ys
  hb : base ≤ W.heap.size
theorem Good.sz {L : List Nd} (h : Good L) : ∀ x ∈ L, x.s.size ≤ 65534 := fun x hx => (h x hx).2.1
def WrI (m : Nat) : Prop := ∀ (W : World) (base b off n cap : Nat) (L : List Nd) (v : Value) (ys : List UInt8), L.length ≤ m → WrP encI base b off n cap L v ys W →
  Calls Tryz.prog 41 #[v, .slice (some ⟨b, off, none⟩) n cap, .iface 107 (.agg #[])] W fun e W' => ∃ u, e = .returned u ∧ Hid (Ob base W' u (ys ++ encI.wP L)) ∧ Hid (By base W W')
/-- One node and what is in it. -/
def oneBI (a : Nd) (L : List Nd) : List UInt8 := encI.hd a (if encI.und a = true then 4294967295 else (encI.pv a).length + encI.szP L) ++ encI.pv a ++ encI.wP L ++ (if encI.und a = true then encI.em else [])

set_option maxRecDepth 100000 in
set_option maxHeartbeats 4000000 in
theorem woI_of (m : Nat) (hw : WrI m) (W : World) (base b off n cap : Nat) (L : List Nd) (v : Value) (ys : List UInt8) (hL : L.length ≤ m) (hP : WrP encI base b off n cap L v ys W) (t : Nat) (ht : t < 4294967296) (vv z : Int) (s : ByteArray) (hvv : vv = 29 ∨ (1 ≤ vv ∧ vv ≤ 28)) (hs : s.size ≤ 65534) (hlen : ys.length + (encI.sz1 ⟨(t : Int), vv, z, s⟩ + encI.szP L) ≤ 3000000) :
    Calls Tryz.prog 69 #[v, ndV (t : Int) vv z s, .slice (some ⟨b, off, none⟩) n cap, .iface 107 (.agg #[])] W fun e W' => ∃ u, e = .returned u ∧ Hid (Ob base W' u (ys ++ oneBI ⟨(t : Int), vv, z, s⟩ L)) ∧ Hid (By base W W') := by
  have m2 := mI_un
  have m3 := mI_ph
  obtain ⟨W1, hW1⟩ : ∃ W1, W.alloc (.cells #[.int .u32 (t : Int), .int .i64 vv, .int .i64 z, .string s] 54) = W1 := ⟨_, rfl⟩
  have hb1 : Below W.heap.size W W1 := by rw [← hW1]; exact (Below.refl _ _).alloc (Nat.le_refl _) _
  have hnb : NB W1 W.heap.size (t : Int) vv z s := by rw [← hW1]; exact Wk.heap_new W _
  obtain ⟨k, hk⟩ : ∃ k, W.heap.size = k := ⟨_, rfl⟩
  rw [hk] at hnb
  have HP : Hid (WrP encI base b off n cap L v ys W) := hP
  have H1 : Hid (Below W.heap.size W W1 ∧ NB W1 k (t : Int) vv z s) := ⟨hb1, hnb⟩
  obtain ⟨y0, y1, y2, y3⟩ := hnb.nc
  obtain ⟨un, hun⟩ : ∃ un, encI.und ⟨(t : Int), vv, z, s⟩ = un := ⟨_, rfl⟩
  have cu := fun X => unI_ok X t ht vv z s un hun
  have hpv : encI.pv ⟨(t : Int), vv, z, s⟩ = (Rp.padB (Rp.pd (Rp.vn vv)) s).data.toList := rfl
  have hpl := pad_len (Rp.pd (Rp.vn vv)) s
  have cp := fun X => Rp.pad_any X vv s (by omega)
  generalize Rp.padB (Rp.pd (Rp.vn vv)) s = pb at cp hpv hpl
  have hpz : pb.data.toList.length = pb.size := Array.length_toList
  have hs1 : pb.size ≤ encI.sz1 ⟨(t : Int), vv, z, s⟩ := by unfold Enc.sz1; rw [hpv, hpz]; omega
  have hh12 : encI.hs ⟨(t : Int), vv, z, s⟩ + pb.size + (if un = true then 8 else 0) = encI.sz1 ⟨(t : Int), vv, z, s⟩ := by unfold Enc.sz1; rw [hpv, hpz, hun]
  have hdl := hd_len false (a := ⟨(t : Int), vv, z, s⟩) hvv
  have HDL : Hid (∀ q, (encI.hd ⟨(t : Int), vv, z, s⟩ q).length = encI.hs ⟨(t : Int), vv, z, s⟩) := hdl
  have HH : Hid _ := hh12
  have HPV : Hid _ := hpv
  have HPZ : Hid _ := hpz
  have HUN : Hid _ := hun
  have HLEN : Hid _ := hlen
  have cs := fun X (hX : Below W.heap.size W X) => szI_any X (some ⟨b, off, none⟩) n cap L (HP.out.nv.on hX) HP.out.tg HP.out.n40 HP.out.gd.sz
  obtain ⟨g, hg⟩ : ∃ g, encI.szP L = g := ⟨_, rfl⟩
  simp only [hg] at cs
  have hgl : g + pb.size ≤ 3000000 := by omega
  have HG : Hid _ := hg
  have hq : ((pb.size : Int) + (g : Int)) % 4294967296 = ((pb.size + g : Nat) : Int) := by omega
  have hpu : pb.size ≤ 65536 := by omega
  have HLL : Hid (L.length ≤ m) := hL
  clear hg hun hpv hpz hh12 hdl hlen hs1 hpl hnb hP hb1 hL
  have HLm : Hid (WrI m) := hw
  clear hw
  go_enter Tryz.func69, Tryz.ntmps69
  go_wp2_with (first | (go_at_call 49; refine Calls.mono (cp _) ?_; rintro e W2 ⟨rfl, hb2⟩) | (go_at_call 56; refine StopB.out ?_))
  have hB2 : Below W.heap.size W W2 := H1.out.1.trans (hb2.mono H1.out.1.size)
  refine ⟨Calls.mono (cs W2 hB2) ?_⟩
  rintro e W3 ⟨rfl, hb3⟩
  have H3 : Hid (Below W.heap.size W W3 ∧ NB W3 k (t : Int) vv z s) := ⟨hB2.trans (hb3.mono hB2.size), (H1.out.2.on hb2).on hb3⟩
  clear hb2 hb3 hB2 cs cp hW1 y0 y1 y2 y3 hk H1
  obtain ⟨y0, y1, y2, y3⟩ := H3.out.2.nc
  rcases un with _ | _
  · have HF : Hid (oneBI ⟨(t : Int), vv, z, s⟩ L = encI.hd ⟨(t : Int), vv, z, s⟩ (pb.size + g) ++ pb.data.toList ++ encI.wP L) := by
      show _ = _
      unfold oneBI
      rw [HUN.out, HPV.out, HPZ.out, HG.out, if_neg (by decide), if_neg (by decide), List.append_nil]
    have hpos : encI.hs ⟨(t : Int), vv, z, s⟩ + pb.size + g + ys.length ≤ 3000000 := by have h1 := HH.out; have h2 := HLEN.out; rw [HG.out] at h2; simp at h1; omega
    clear HH HLEN
    go_wp2_with (first | (go_at_call 262; refine Calls.mono (cu _) ?_; rintro e W4 ⟨rfl, hb4⟩; obtain ⟨x0, x1, x2, x3⟩ := (H3.out.2.on hb4).nc) | (go_at_call 263; refine StopB.out ?_))
    have H4 : Hid (Below W.heap.size W W4 ∧ NB W4 k (t : Int) vv z s) := ⟨H3.out.1.trans (hb4.mono H3.out.1.size), H3.out.2.on hb4⟩
    have hbW4 : base ≤ W4.heap.size := Nat.le_trans HP.out.hb H4.out.1.size
    refine ⟨Calls.mono (phI_ok W4 base v ys t (pb.size + g) ht (by omega) vv z s hvv (HP.out.own.on H4.out.1) hbW4 (by omega)) ?_⟩
    rintro e W5 ⟨u5, rfl, ho5, hb5⟩
    go_wp2_with (at_builtin; refine StopB.out ?_)
    refine ⟨app_text rfl (.tmp 30) (.tmp 31) rfl base _ _ rfl ho5.out pb rfl (by rw [List.length_append, HDL.out]; omega) (Nat.le_trans hbW4 hb5.out.size) ?_⟩
    intro u6 W6 ho6 hb6
    have hby6 : By base W W6 := (By.of H4.out.1 HP.out.hb).trans (hb5.out.trans hb6)
    go_wp2_with (go_at_call 41; refine StopB.out ?_)
    refine ⟨Calls.mono (HLm.out W6 base b off n cap L u6 _ HLL.out ⟨NV.lo HP.out.nv hby6.b HP.out.lt, HP.out.lt, HP.out.tg, HP.out.gd, HP.out.n40, by rw [List.length_append, List.length_append, HDL.out, HPZ.out, HG.out]; omega, ho6, Nat.le_trans HP.out.hb hby6.size⟩) ?_⟩
    rintro e W7 ⟨u7, rfl, ho7, hb7⟩
    have hby7 : By base W W7 := hby6.trans hb7.out
    have HN7 : Hid (NB W7 k (t : Int) vv z s) := ((H4.out.2.by hb5.out).by hb6).by hb7.out
    obtain ⟨p0, p1, p2, p3⟩ := HN7.out.nc
    clear x0 x1 x2 x3 y0 y1 y2 y3
    go_wp2_with (first | (go_at_call 262; refine Calls.mono (cu _) ?_; rintro e W8 ⟨rfl, hb8⟩) | fail)
    go_ret
    refine ⟨_, rfl, ?_, hby7.trans (By.of hb8 (Nat.le_trans HP.out.hb hby7.size))⟩
    rw [HF.out, ← List.append_assoc, ← List.append_assoc]
    exact ho7.out.on hb8
  · have HF : Hid (oneBI ⟨(t : Int), vv, z, s⟩ L = encI.hd ⟨(t : Int), vv, z, s⟩ 4294967295 ++ pb.data.toList ++ encI.wP L ++ plL 4294893789 0) := by
      show _ = _
      unfold oneBI
      rw [HUN.out, HPV.out, if_pos rfl, if_pos rfl]
      rfl
    have hpos : encI.hs ⟨(t : Int), vv, z, s⟩ + pb.size + 8 + g + ys.length ≤ 3000000 := by have h1 := HH.out; have h2 := HLEN.out; rw [HG.out] at h2; simp at h1; omega
    clear HH HLEN
    go_wp2_with (first | (go_at_call 262; refine Calls.mono (cu _) ?_; rintro e W4 ⟨rfl, hb4⟩; obtain ⟨x0, x1, x2, x3⟩ := (H3.out.2.on hb4).nc) | (go_at_call 263; refine StopB.out ?_))
    have H4 : Hid (Below W.heap.size W W4 ∧ NB W4 k (t : Int) vv z s) := ⟨H3.out.1.trans (hb4.mono H3.out.1.size), H3.out.2.on hb4⟩
    have hbW4 : base ≤ W4.heap.size := Nat.le_trans HP.out.hb H4.out.1.size
    refine ⟨Calls.mono (phI_ok W4 base v ys t 4294967295 ht (by omega) vv z s hvv (HP.out.own.on H4.out.1) hbW4 (by omega)) ?_⟩
    rintro e W5 ⟨u5, rfl, ho5, hb5⟩
    go_wp2_with (at_builtin; refine StopB.out ?_)
    refine ⟨app_text rfl (.tmp 30) (.tmp 31) rfl base _ _ rfl ho5.out pb rfl (by rw [List.length_append, HDL.out]; omega) (Nat.le_trans hbW4 hb5.out.size) ?_⟩
    intro u6 W6 ho6 hb6
    have hby6 : By base W W6 := (By.of H4.out.1 HP.out.hb).trans (hb5.out.trans hb6)
    go_wp2_with (go_at_call 41; refine StopB.out ?_)
    refine ⟨Calls.mono (HLm.out W6 base b off n cap L u6 _ HLL.out ⟨NV.lo HP.out.nv hby6.b HP.out.lt, HP.out.lt, HP.out.tg, HP.out.gd, HP.out.n40, by rw [List.length_append, List.length_append, HDL.out, HPZ.out, HG.out]; omega, ho6, Nat.le_trans HP.out.hb hby6.size⟩) ?_⟩
    rintro e W7 ⟨u7, rfl, ho7, hb7⟩
    have hby7 : By base W W7 := hby6.trans hb7.out
    have HN7 : Hid (NB W7 k (t : Int) vv z s) := ((H4.out.2.by hb5.out).by hb6).by hb7.out
    obtain ⟨p0, p1, p2, p3⟩ := HN7.out.nc
    have hwl : (encI.wP L).length = g := by rw [← HG.out]; exact wr_len false _ L (Nat.le_refl _) HP.out.gd
    clear x0 x1 x2 x3 y0 y1 y2 y3
    go_wp2_with (first | (go_at_call 262; refine Calls.mono (cu _) ?_; rintro e W8 ⟨rfl, hb8⟩) | (go_at_call 109; refine StopB.out ?_))
    refine ⟨Calls.mono (putPlain_any W8 base u7 _ 4294893789 0 (by decide) (by decide) (ho7.out.on hb8) (Nat.le_trans (Nat.le_trans HP.out.hb hby7.size) hb8.size) (by rw [List.length_append, List.length_append, List.length_append, HDL.out, HPZ.out, hwl]; omega)) ?_⟩
    rintro e W9 ⟨u9, rfl, ho9, hb9⟩
    go_wp2
    go_ret
    refine ⟨_, rfl, ?_, (hby7.trans (By.of hb8 (Nat.le_trans HP.out.hb hby7.size))).trans hb9.out⟩
    rw [HF.out, ← List.append_assoc, ← List.append_assoc, ← List.append_assoc]
    exact ho9.out
def WrE (m : Nat) : Prop := ∀ (W : World) (base b off n cap : Nat) (L : List Nd) (v : Value) (ys : List UInt8), L.length ≤ m → WrP encE base b off n cap L v ys W →
  Calls Tryz.prog 41 #[v, .slice (some ⟨b, off, none⟩) n cap, .iface 108 (.agg #[])] W fun e W' => ∃ u, e = .returned u ∧ Hid (Ob base W' u (ys ++ encE.wP L)) ∧ Hid (By base W W')
/-- One node and what is in it. -/
def oneBE (a : Nd) (L : List Nd) : List UInt8 := encE.hd a (if encE.und a = true then 4294967295 else (encE.pv a).length + encE.szP L) ++ encE.pv a ++ encE.wP L ++ (if encE.und a = true then encE.em else [])

set_option maxRecDepth 100000 in
set_option maxHeartbeats 4000000 in
theorem woE_of (m : Nat) (hw : WrE m) (W : World) (base b off n cap : Nat) (L : List Nd) (v : Value) (ys : List UInt8) (hL : L.length ≤ m) (hP : WrP encE base b off n cap L v ys W) (t : Nat) (ht : t < 4294967296) (vv z : Int) (s : ByteArray) (hvv : vv = 29 ∨ (1 ≤ vv ∧ vv ≤ 28)) (hs : s.size ≤ 65534) (hlen : ys.length + (encE.sz1 ⟨(t : Int), vv, z, s⟩ + encE.szP L) ≤ 3000000) :
    Calls Tryz.prog 69 #[v, ndV (t : Int) vv z s, .slice (some ⟨b, off, none⟩) n cap, .iface 108 (.agg #[])] W fun e W' => ∃ u, e = .returned u ∧ Hid (Ob base W' u (ys ++ oneBE ⟨(t : Int), vv, z, s⟩ L)) ∧ Hid (By base W W') := by
  have m2 := mE_un
  have m3 := mE_ph
  obtain ⟨W1, hW1⟩ : ∃ W1, W.alloc (.cells #[.int .u32 (t : Int), .int .i64 vv, .int .i64 z, .string s] 54) = W1 := ⟨_, rfl⟩
  have hb1 : Below W.heap.size W W1 := by rw [← hW1]; exact (Below.refl _ _).alloc (Nat.le_refl _) _
  have hnb : NB W1 W.heap.size (t : Int) vv z s := by rw [← hW1]; exact Wk.heap_new W _
  obtain ⟨k, hk⟩ : ∃ k, W.heap.size = k := ⟨_, rfl⟩
  rw [hk] at hnb
  have HP : Hid (WrP encE base b off n cap L v ys W) := hP
  have H1 : Hid (Below W.heap.size W W1 ∧ NB W1 k (t : Int) vv z s) := ⟨hb1, hnb⟩
  obtain ⟨y0, y1, y2, y3⟩ := hnb.nc
  obtain ⟨un, hun⟩ : ∃ un, encE.und ⟨(t : Int), vv, z, s⟩ = un := ⟨_, rfl⟩
  have cu := fun X => unE_ok X t ht vv z s un hun
  have hpv : encE.pv ⟨(t : Int), vv, z, s⟩ = (Rp.padB (Rp.pd (Rp.vn vv)) s).data.toList := rfl
  have hpl := pad_len (Rp.pd (Rp.vn vv)) s
  have cp := fun X => Rp.pad_any X vv s (by omega)
  generalize Rp.padB (Rp.pd (Rp.vn vv)) s = pb at cp hpv hpl
  have hpz : pb.data.toList.length = pb.size := Array.length_toList
  have hs1 : pb.size ≤ encE.sz1 ⟨(t : Int), vv, z, s⟩ := by unfold Enc.sz1; rw [hpv, hpz]; omega
  have hh12 : encE.hs ⟨(t : Int), vv, z, s⟩ + pb.size + (if un = true then 8 else 0) = encE.sz1 ⟨(t : Int), vv, z, s⟩ := by unfold Enc.sz1; rw [hpv, hpz, hun]
  have hdl := hd_len true (a := ⟨(t : Int), vv, z, s⟩) hvv
  have HDL : Hid (∀ q, (encE.hd ⟨(t : Int), vv, z, s⟩ q).length = encE.hs ⟨(t : Int), vv, z, s⟩) := hdl
  have HH : Hid _ := hh12
  have HPV : Hid _ := hpv
  have HPZ : Hid _ := hpz
  have HUN : Hid _ := hun
  have HLEN : Hid _ := hlen
  have cs := fun X (hX : Below W.heap.size W X) => szE_any X (some ⟨b, off, none⟩) n cap L (HP.out.nv.on hX) HP.out.tg HP.out.n40 HP.out.gd.sz
  obtain ⟨g, hg⟩ : ∃ g, encE.szP L = g := ⟨_, rfl⟩
  simp only [hg] at cs
  have hgl : g + pb.size ≤ 3000000 := by omega
  have HG : Hid _ := hg
  have hq : ((pb.size : Int) + (g : Int)) % 4294967296 = ((pb.size + g : Nat) : Int) := by omega
  have hpu : pb.size ≤ 65536 := by omega
  have HLL : Hid (L.length ≤ m) := hL
  clear hg hun hpv hpz hh12 hdl hlen hs1 hpl hnb hP hb1 hL
  have HLm : Hid (WrE m) := hw
  clear hw
  go_enter Tryz.func69, Tryz.ntmps69
  go_wp2_with (first | (go_at_call 49; refine Calls.mono (cp _) ?_; rintro e W2 ⟨rfl, hb2⟩) | (go_at_call 56; refine StopB.out ?_))
  have hB2 : Below W.heap.size W W2 := H1.out.1.trans (hb2.mono H1.out.1.size)
  refine ⟨Calls.mono (cs W2 hB2) ?_⟩
  rintro e W3 ⟨rfl, hb3⟩
  have H3 : Hid (Below W.heap.size W W3 ∧ NB W3 k (t : Int) vv z s) := ⟨hB2.trans (hb3.mono hB2.size), (H1.out.2.on hb2).on hb3⟩
  clear hb2 hb3 hB2 cs cp hW1 y0 y1 y2 y3 hk H1
  obtain ⟨y0, y1, y2, y3⟩ := H3.out.2.nc
  rcases un with _ | _
  · have HF : Hid (oneBE ⟨(t : Int), vv, z, s⟩ L = encE.hd ⟨(t : Int), vv, z, s⟩ (pb.size + g) ++ pb.data.toList ++ encE.wP L) := by
      show _ = _
      unfold oneBE
      rw [HUN.out, HPV.out, HPZ.out, HG.out, if_neg (by decide), if_neg (by decide), List.append_nil]
    have hpos : encE.hs ⟨(t : Int), vv, z, s⟩ + pb.size + g + ys.length ≤ 3000000 := by have h1 := HH.out; have h2 := HLEN.out; rw [HG.out] at h2; simp at h1; omega
    clear HH HLEN
    go_wp2_with (first | (go_at_call 266; refine Calls.mono (cu _) ?_; rintro e W4 ⟨rfl, hb4⟩; obtain ⟨x0, x1, x2, x3⟩ := (H3.out.2.on hb4).nc) | (go_at_call 267; refine StopB.out ?_))
    have H4 : Hid (Below W.heap.size W W4 ∧ NB W4 k (t : Int) vv z s) := ⟨H3.out.1.trans (hb4.mono H3.out.1.size), H3.out.2.on hb4⟩
    have hbW4 : base ≤ W4.heap.size := Nat.le_trans HP.out.hb H4.out.1.size
    refine ⟨Calls.mono (phE_ok W4 base v ys t (pb.size + g) ht (by omega) vv z s hvv (HP.out.own.on H4.out.1) hbW4 (by omega)) ?_⟩
    rintro e W5 ⟨u5, rfl, ho5, hb5⟩
    go_wp2_with (at_builtin; refine StopB.out ?_)
    refine ⟨app_text rfl (.tmp 30) (.tmp 31) rfl base _ _ rfl ho5.out pb rfl (by rw [List.length_append, HDL.out]; omega) (Nat.le_trans hbW4 hb5.out.size) ?_⟩
    intro u6 W6 ho6 hb6
    have hby6 : By base W W6 := (By.of H4.out.1 HP.out.hb).trans (hb5.out.trans hb6)
    go_wp2_with (go_at_call 41; refine StopB.out ?_)
    refine ⟨Calls.mono (HLm.out W6 base b off n cap L u6 _ HLL.out ⟨NV.lo HP.out.nv hby6.b HP.out.lt, HP.out.lt, HP.out.tg, HP.out.gd, HP.out.n40, by rw [List.length_append, List.length_append, HDL.out, HPZ.out, HG.out]; omega, ho6, Nat.le_trans HP.out.hb hby6.size⟩) ?_⟩
    rintro e W7 ⟨u7, rfl, ho7, hb7⟩
    have hby7 : By base W W7 := hby6.trans hb7.out
    have HN7 : Hid (NB W7 k (t : Int) vv z s) := ((H4.out.2.by hb5.out).by hb6).by hb7.out
    obtain ⟨p0, p1, p2, p3⟩ := HN7.out.nc
    clear x0 x1 x2 x3 y0 y1 y2 y3
    go_wp2_with (first | (go_at_call 266; refine Calls.mono (cu _) ?_; rintro e W8 ⟨rfl, hb8⟩) | fail)
    go_ret
    refine ⟨_, rfl, ?_, hby7.trans (By.of hb8 (Nat.le_trans HP.out.hb hby7.size))⟩
    rw [HF.out, ← List.append_assoc, ← List.append_assoc]
    exact ho7.out.on hb8
  · have HF : Hid (oneBE ⟨(t : Int), vv, z, s⟩ L = encE.hd ⟨(t : Int), vv, z, s⟩ 4294967295 ++ pb.data.toList ++ encE.wP L ++ plL 4294893789 0) := by
      show _ = _
      unfold oneBE
      rw [HUN.out, HPV.out, if_pos rfl, if_pos rfl]
      rfl
    have hpos : encE.hs ⟨(t : Int), vv, z, s⟩ + pb.size + 8 + g + ys.length ≤ 3000000 := by have h1 := HH.out; have h2 := HLEN.out; rw [HG.out] at h2; simp at h1; omega
    clear HH HLEN
    go_wp2_with (first | (go_at_call 266; refine Calls.mono (cu _) ?_; rintro e W4 ⟨rfl, hb4⟩; obtain ⟨x0, x1, x2, x3⟩ := (H3.out.2.on hb4).nc) | (go_at_call 267; refine StopB.out ?_))
    have H4 : Hid (Below W.heap.size W W4 ∧ NB W4 k (t : Int) vv z s) := ⟨H3.out.1.trans (hb4.mono H3.out.1.size), H3.out.2.on hb4⟩
    have hbW4 : base ≤ W4.heap.size := Nat.le_trans HP.out.hb H4.out.1.size
    refine ⟨Calls.mono (phE_ok W4 base v ys t 4294967295 ht (by omega) vv z s hvv (HP.out.own.on H4.out.1) hbW4 (by omega)) ?_⟩
    rintro e W5 ⟨u5, rfl, ho5, hb5⟩
    go_wp2_with (at_builtin; refine StopB.out ?_)
    refine ⟨app_text rfl (.tmp 30) (.tmp 31) rfl base _ _ rfl ho5.out pb rfl (by rw [List.length_append, HDL.out]; omega) (Nat.le_trans hbW4 hb5.out.size) ?_⟩
    intro u6 W6 ho6 hb6
    have hby6 : By base W W6 := (By.of H4.out.1 HP.out.hb).trans (hb5.out.trans hb6)
    go_wp2_with (go_at_call 41; refine StopB.out ?_)
    refine ⟨Calls.mono (HLm.out W6 base b off n cap L u6 _ HLL.out ⟨NV.lo HP.out.nv hby6.b HP.out.lt, HP.out.lt, HP.out.tg, HP.out.gd, HP.out.n40, by rw [List.length_append, List.length_append, HDL.out, HPZ.out, HG.out]; omega, ho6, Nat.le_trans HP.out.hb hby6.size⟩) ?_⟩
    rintro e W7 ⟨u7, rfl, ho7, hb7⟩
    have hby7 : By base W W7 := hby6.trans hb7.out
    have HN7 : Hid (NB W7 k (t : Int) vv z s) := ((H4.out.2.by hb5.out).by hb6).by hb7.out
    obtain ⟨p0, p1, p2, p3⟩ := HN7.out.nc
    have hwl : (encE.wP L).length = g := by rw [← HG.out]; exact wr_len true _ L (Nat.le_refl _) HP.out.gd
    clear x0 x1 x2 x3 y0 y1 y2 y3
    go_wp2_with (first | (go_at_call 266; refine Calls.mono (cu _) ?_; rintro e W8 ⟨rfl, hb8⟩) | (go_at_call 109; refine StopB.out ?_))
    refine ⟨Calls.mono (putPlain_any W8 base u7 _ 4294893789 0 (by decide) (by decide) (ho7.out.on hb8) (Nat.le_trans (Nat.le_trans HP.out.hb hby7.size) hb8.size) (by rw [List.length_append, List.length_append, List.length_append, HDL.out, HPZ.out, hwl]; omega)) ?_⟩
    rintro e W9 ⟨u9, rfl, ho9, hb9⟩
    go_wp2
    go_ret
    refine ⟨_, rfl, ?_, (hby7.trans (By.of hb8 (Nat.le_trans HP.out.hb hby7.size))).trans hb9.out⟩
    rw [HF.out, ← List.append_assoc, ← List.append_assoc, ← List.append_assoc]
    exact ho9.out
end Go.Proofs.YtoikdpjjcnmgeaaGreatDoor
