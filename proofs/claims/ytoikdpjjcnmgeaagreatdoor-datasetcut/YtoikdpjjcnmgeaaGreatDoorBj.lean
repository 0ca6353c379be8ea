import Derived.Test.YtoikdpjjcnmgeaaGreatDoorBh
import Derived.Test.YtoikdpjjcnmgeaaGreatDoorBa
section
/-
  DERIVED. Nodes laid down: the program's.
-/
namespace Go.Proofs.YtoikdpjjcnmgeaaGreatDoor
open Go Go.Proofs Go.RowKit
open Wk (Nd NV goN nxt)

/-- A node in a block of its own. -/
def NB (W : World) (k : Nat) (t v z : Int) (s : ByteArray) : Prop := W.heap[k]? = some (.cells #[.int .u32 t, .int .i64 v, .int .i64 z, .string s] 54 (0, 0))
theorem NB.nc {W : World} {k : Nat} {t v z : Int} {s : ByteArray} (h : NB W k t v z s) : NC W k t v z s := by
  have hc := World.news_of_block h
  refine ⟨?_, ?_, ?_, ?_⟩
  · exact hc 0 _ rfl
  · exact hc 1 _ rfl
  · exact hc 2 _ rfl
  · exact hc 3 _ rfl
theorem NB.by {base : Nat} {W W' : World} {k : Nat} {t v z : Int} {s : ByteArray} (h : NB W k t v z s) (hb : By base W W') : NB W' k t v z s := (hb.cell h (by decide)).trans h
theorem NB.on {W W' : World} {k : Nat} {t v z : Int} {s : ByteArray} (h : NB W k t v z s) (hb : Below W.heap.size W W') : NB W' k t v z s := (hb.block k (Array.getElem?_eq_some_iff.1 h).1).trans h
theorem NV.lo {w w' : World} {base b off n cap : Nat} {L : List Nd} (h : NV w (some ⟨b, off, none⟩) n cap L) (hb : Below base w w') (hlt : b < base) : NV w' (some ⟨b, off, none⟩) n cap L :=
  ⟨h.len, h.room, h.small, fun hn => by
    obtain ⟨b', off', ha, hl⟩ := h.lies hn
    cases ha
    refine ⟨b, off, rfl, fun i hi => ?_⟩
    obtain ⟨h0, h1, h2, h3⟩ := hl i hi
    have e : ∀ j, w'.cell? ⟨b, j, none⟩ = w.cell? ⟨b, j, none⟩ := fun j => World.cell?_of_block (hb.block b hlt)
    exact ⟨(e _).trans h0, (e _).trans h1, (e _).trans h2, (e _).trans h3⟩, h.num⟩
/-- What is laid down, and behind what. -/
structure WrP (X : Enc) (base b off n cap : Nat) (L : List Nd) (v : Value) (ys : List UInt8) (W : World) : Prop where
  nv : NV W (some ⟨b, off, none⟩) n cap L
  lt : b < base
  tg : TagsOk L
  gd : Good L
  n40 : n ≤ 4096
  len : ys.length + X.szP L ≤ 3000000
  own : Ob base W v ys
  hb : base ≤ W.heap.size
theorem Good.sz {L : List Nd} (h : Good L) : ∀ x ∈ L, x.s.size ≤ 65534 := fun x hx => (h x hx).2.1
def WrI (m : Nat) : Prop := ∀ (W : World) (base b off n cap : Nat) (L : List Nd) (v : Value) (ys : List UInt8), L.length ≤ m → WrP encI base b off n cap L v ys W →
  Calls Tryz.prog 41 #[v, .slice (some ⟨b, off, none⟩) n cap, .iface 107 (.agg #[])] W fun e W' => ∃ u, e = .returned u ∧ Hid (Ob base W' u (ys ++ encI.wP L)) ∧ Hid (By base W W')
/-- One node and what is in it. -/
def oneBI (a : Nd) (L : List Nd) : List UInt8 := encI.hd a (if encI.und a = true then 4294967295 else (encI.pv a).length + encI.szP L) ++ encI.pv a ++ encI.wP L ++ (if encI.und a = true then encI.em else [])

set_option maxRecDepth 100000 in
set_option maxHeartbeats 4000000 in
theorem woI_of (m : Nat) (hw : WrI m) (W : World) (base b off n cap : Nat) (L : List Nd) (v : Value) (ys : List UInt8) (hL : L.length ≤ m) (hP : WrP encI base b off n cap L v ys W) (t : Nat) (ht : t < 4294967296) (vv z : Int) (s : ByteArray) (hvv : vv = 29 ∨ (1 ≤ vv ∧ vv ≤ 28)) (hs : s.size ≤ 65534) (hlen : ys.length + (encI.sz1 ⟨(t : Int), vv, z, s⟩ + encI.szP L) ≤ 3000000) :
    Calls Tryz.prog 69 #[v, ndV (t : Int) vv z s, .slice (some ⟨b, off, none⟩) n cap, .iface 107 (.agg #[])] W fun e W' => ∃ u, e = .returned u ∧ Hid (Ob base W' u (ys ++ oneBI ⟨(t : Int), vv, z, s⟩ L)) ∧ Hid (By base W W') := by
  have m2 := mI_un
  have m3 := mI_ph
  obtain ⟨W1, hW1⟩ : ∃ W1, W.alloc (.cells #[.int .u32 (t : Int), .int .i64 vv, .int .i64 z, .string s] 54) = W1 := ⟨_, rfl⟩
  have hb1 : Below W.heap.size W W1 := by rw [← hW1]; exact (Below.refl _ _).alloc (Nat.le_refl _) _
  have hnb : NB W1 W.heap.size (t : Int) vv z s := by rw [← hW1]; exact Wk.heap_new W _
  obtain ⟨k, hk⟩ : ∃ k, W.heap.size = k := ⟨_, rfl⟩
  rw [hk] at hnb
  have HP : Hid (WrP encI base b off n cap L v ys W) := hP
  have H1 : Hid (Below W.heap.size W W1 ∧ NB W1 k (t : Int) vv z s) := ⟨hb1, hnb⟩
  obtain ⟨y0, y1, y2, y3⟩ := hnb.nc
  obtain ⟨un, hun⟩ : ∃ un, encI.und ⟨(t : Int), vv, z, s⟩ = un := ⟨_, rfl⟩
  have cu := fun X => unI_ok X t ht vv z s un hun
  have hpv : encI.pv ⟨(t : Int), vv, z, s⟩ = (Rp.padB (Rp.pd (Rp.vn vv)) s).data.toList := rfl
  have hpl := pad_len (Rp.pd (Rp.vn vv)) s
  have cp := fun X => Rp.pad_any X vv s (by omega)
  generalize Rp.padB (Rp.pd (Rp.vn vv)) s = pb at cp hpv hpl
  have hpz : pb.data.toList.length = pb.size := Array.length_toList
  have hs1 : pb.size ≤ encI.sz1 ⟨(t : Int), vv, z, s⟩ := by unfold Enc.sz1; rw [hpv, hpz]; omega
  have hh12 : encI.hs ⟨(t : Int), vv, z, s⟩ + pb.size + (if un = true then 8 else 0) = encI.sz1 ⟨(t : Int), vv, z, s⟩ := by unfold Enc.sz1; rw [hpv, hpz, hun]
  have hdl := hd_len false (a := ⟨(t : Int), vv, z, s⟩) hvv
  have HDL : Hid (∀ q, (encI.hd ⟨(t : Int), vv, z, s⟩ q).length = encI.hs ⟨(t : Int), vv, z, s⟩) := hdl
  have HH : Hid _ := hh12
  have HPV : Hid _ := hpv
  have HPZ : Hid _ := hpz
  have HUN : Hid _ := hun
  have HLEN : Hid _ := hlen
  have cs := fun X (hX : Below W.heap.size W X) => szI_any X (some ⟨b, off, none⟩) n cap L (HP.out.nv.on hX) HP.out.tg HP.out.n40 HP.out.gd.sz
  obtain ⟨g, hg⟩ : ∃ g, encI.szP L = g := ⟨_, rfl⟩
  simp only [hg] at cs
  have hgl : g + pb.size ≤ 3000000 := by omega
  have HG : Hid _ := hg
  have hq : ((pb.size : Int) + (g : Int)) % 4294967296 = ((pb.size + g : Nat) : Int) := by omega
  have hpu : pb.size ≤ 65536 := by omega
  have HLL : Hid (L.length ≤ m) := hL
  clear hg hun hpv hpz hh12 hdl hlen hs1 hpl hnb hP hb1 hL
  have HLm : Hid (WrI m) := hw
  clear hw
  go_enter Tryz.func69, Tryz.ntmps69
  go_wp2_with (first | (go_at_call 49; refine Calls.mono (cp _) ?_; rintro e W2 ⟨rfl, hb2⟩) | (go_at_call 56; refine StopB.out ?_))
  have hB2 : Below W.heap.size W W2 := H1.out.1.trans (hb2.mono H1.out.1.size)
  refine ⟨Calls.mono (cs W2 hB2) ?_⟩
  rintro e W3 ⟨rfl, hb3⟩
  have H3 : Hid (Below W.heap.size W W3 ∧ NB W3 k (t : Int) vv z s) := ⟨hB2.trans (hb3.mono hB2.size), (H1.out.2.on hb2).on hb3⟩
  clear hb2 hb3 hB2 cs cp hW1 y0 y1 y2 y3 hk H1
  obtain ⟨y0, y1, y2, y3⟩ := H3.out.2.nc
  rcases un with _ | _
  · have HF : Hid (oneBI ⟨(t : Int), vv, z, s⟩ L = encI.hd ⟨(t : Int), vv, z, s⟩ (pb.size + g) ++ pb.data.toList ++ encI.wP L) := by
      show _ = _
      unfold oneBI
      rw [HUN.out, HPV.out, HPZ.out, HG.out, if_neg (by decide), if_neg (by decide), List.append_nil]
    have hpos : encI.hs ⟨(t : Int), vv, z, s⟩ + pb.size + g + ys.length ≤ 3000000 := by have h1 := HH.out; have h2 := HLEN.out; rw [HG.out] at h2; simp at h1; omega
    clear HH HLEN
    go_wp2_with (first | (go_at_call 262; refine Calls.mono (cu _) ?_; rintro e W4 ⟨rfl, hb4⟩; obtain ⟨x0, x1, x2, x3⟩ := (H3.out.2.on hb4).nc) | (go_at_call 263; refine StopB.out ?_))
    have H4 : Hid (Below W.heap.size W W4 ∧ NB W4 k (t : Int) vv z s) := ⟨H3.out.1.trans (hb4.mono H3.out.1.size), H3.out.2.on hb4⟩
    have hbW4 : base ≤ W4.heap.size := Nat.le_trans HP.out.hb H4.out.1.size
    refine ⟨Calls.mono (phI_ok W4 base v ys t (pb.size + g) ht (by omega) vv z s hvv (HP.out.own.on H4.out.1) hbW4 (by omega)) ?_⟩
    rintro e W5 ⟨u5, rfl, ho5, hb5⟩
    go_wp2_with (at_builtin; refine StopB.out ?_)
    refine ⟨app_text rfl (.tmp 30) (.tmp 31) rfl base _ _ rfl ho5.out pb rfl (by rw [List.length_append, HDL.out]; omega) (Nat.le_trans hbW4 hb5.out.size) ?_⟩
    intro u6 W6 ho6 hb6
    have hby6 : By base W W6 := (By.of H4.out.1 HP.out.hb).trans (hb5.out.trans hb6)
    go_wp2_with (go_at_call 41; refine StopB.out ?_)
    refine ⟨Calls.mono (HLm.out W6 base b off n cap L u6 _ HLL.out ⟨NV.lo HP.out.nv hby6.b HP.out.lt, HP.out.lt, HP.out.tg, HP.out.gd, HP.out.n40, by rw [List.length_append, List.length_append, HDL.out, HPZ.out, HG.out]; omega, ho6, Nat.le_trans HP.out.hb hby6.size⟩) ?_⟩
    rintro e W7 ⟨u7, rfl, ho7, hb7⟩
    have hby7 : By base W W7 := hby6.trans hb7.out
    have HN7 : Hid (NB W7 k (t : Int) vv z s) := ((H4.out.2.by hb5.out).by hb6).by hb7.out
    obtain ⟨p0, p1, p2, p3⟩ := HN7.out.nc
    clear x0 x1 x2 x3 y0 y1 y2 y3
    go_wp2_with (first | (go_at_call 262; refine Calls.mono (cu _) ?_; rintro e W8 ⟨rfl, hb8⟩) | fail)
    go_ret
    refine ⟨_, rfl, ?_, hby7.trans (By.of hb8 (Nat.le_trans HP.out.hb hby7.size))⟩
    rw [HF.out, ← List.append_assoc, ← List.append_assoc]
    exact ho7.out.on hb8
  · have HF : Hid (oneBI ⟨(t : Int), vv, z, s⟩ L = encI.hd ⟨(t : Int), vv, z, s⟩ 4294967295 ++ pb.data.toList ++ encI.wP L ++ plL 4294893789 0) := by
      show _ = _
      unfold oneBI
      rw [HUN.out, HPV.out, if_pos rfl, if_pos rfl]
      rfl
    have hpos : encI.hs ⟨(t : Int), vv, z, s⟩ + pb.size + 8 + g + ys.length ≤ 3000000 := by have h1 := HH.out; have h2 := HLEN.out; rw [HG.out] at h2; simp at h1; omega
    clear HH HLEN
    go_wp2_with (first | (go_at_call 262; refine Calls.mono (cu _) ?_; rintro e W4 ⟨rfl, hb4⟩; obtain ⟨x0, x1, x2, x3⟩ := (H3.out.2.on hb4).nc) | (go_at_call 263; refine StopB.out ?_))
    have H4 : Hid (Below W.heap.size W W4 ∧ NB W4 k (t : Int) vv z s) := ⟨H3.out.1.trans (hb4.mono H3.out.1.size), H3.out.2.on hb4⟩
    have hbW4 : base ≤ W4.heap.size := Nat.le_trans HP.out.hb H4.out.1.size
    refine ⟨Calls.mono (phI_ok W4 base v ys t 4294967295 ht (by omega) vv z s hvv (HP.out.own.on H4.out.1) hbW4 (by omega)) ?_⟩
    rintro e W5 ⟨u5, rfl, ho5, hb5⟩
    go_wp2_with (at_builtin; refine StopB.out ?_)
    refine ⟨app_text rfl (.tmp 30) (.tmp 31) rfl base _ _ rfl ho5.out pb rfl (by rw [List.length_append, HDL.out]; omega) (Nat.le_trans hbW4 hb5.out.size) ?_⟩
    intro u6 W6 ho6 hb6
    have hby6 : By base W W6 := (By.of H4.out.1 HP.out.hb).trans (hb5.out.trans hb6)
    go_wp2_with (go_at_call 41; refine StopB.out ?_)
    refine ⟨Calls.mono (HLm.out W6 base b off n cap L u6 _ HLL.out ⟨NV.lo HP.out.nv hby6.b HP.out.lt, HP.out.lt, HP.out.tg, HP.out.gd, HP.out.n40, by rw [List.length_append, List.length_append, HDL.out, HPZ.out, HG.out]; omega, ho6, Nat.le_trans HP.out.hb hby6.size⟩) ?_⟩
    rintro e W7 ⟨u7, rfl, ho7, hb7⟩
    have hby7 : By base W W7 := hby6.trans hb7.out
    have HN7 : Hid (NB W7 k (t : Int) vv z s) := ((H4.out.2.by hb5.out).by hb6).by hb7.out
    obtain ⟨p0, p1, p2, p3⟩ := HN7.out.nc
    have hwl : (encI.wP L).length = g := by rw [← HG.out]; exact wr_len false _ L (Nat.le_refl _) HP.out.gd
    clear x0 x1 x2 x3 y0 y1 y2 y3
    go_wp2_with (first | (go_at_call 262; refine Calls.mono (cu _) ?_; rintro e W8 ⟨rfl, hb8⟩) | (go_at_call 109; refine StopB.out ?_))
    refine ⟨Calls.mono (putPlain_any W8 base u7 _ 4294893789 0 (by decide) (by decide) (ho7.out.on hb8) (Nat.le_trans (Nat.le_trans HP.out.hb hby7.size) hb8.size) (by rw [List.length_append, List.length_append, List.length_append, HDL.out, HPZ.out, hwl]; omega)) ?_⟩
    rintro e W9 ⟨u9, rfl, ho9, hb9⟩
    go_wp2
    go_ret
    refine ⟨_, rfl, ?_, (hby7.trans (By.of hb8 (Nat.le_trans HP.out.hb hby7.size))).trans hb9.out⟩
    rw [HF.out, ← List.append_assoc, ← List.append_assoc, ← List.append_assoc]
    exact ho9.out
def WrE (m : Nat) : Prop := ∀ (W : World) (base b off n cap : Nat) (L : List Nd) (v : Value) (ys : List UInt8), L.length ≤ m → WrP encE base b off n cap L v ys W →
  Calls Tryz.prog 41 #[v, .slice (some ⟨b, off, none⟩) n cap, .iface 108 (.agg #[])] W fun e W' => ∃ u, e = .returned u ∧ Hid (Ob base W' u (ys ++ encE.wP L)) ∧ Hid (By base W W')
/-- One node and what is in it. -/
def oneBE (a : Nd) (L : List Nd) : List UInt8 := encE.hd a (if encE.und a = true then 4294967295 else (encE.pv a).length + encE.szP L) ++ encE.pv a ++ encE.wP L ++ (if encE.und a = true then encE.em else [])

set_option maxRecDepth 100000 in
set_option maxHeartbeats 4000000 in
theorem woE_of (m : Nat) (hw : WrE m) (W : World) (base b off n cap : Nat) (L : List Nd) (v : Value) (ys : List UInt8) (hL : L.length ≤ m) (hP : WrP encE base b off n cap L v ys W) (t : Nat) (ht : t < 4294967296) (vv z : Int) (s : ByteArray) (hvv : vv = 29 ∨ (1 ≤ vv ∧ vv ≤ 28)) (hs : s.size ≤ 65534) (hlen : ys.length + (encE.sz1 ⟨(t : Int), vv, z, s⟩ + encE.szP L) ≤ 3000000) :
    Calls Tryz.prog 69 #[v, ndV (t : Int) vv z s, .slice (some ⟨b, off, none⟩) n cap, .iface 108 (.agg #[])] W fun e W' => ∃ u, e = .returned u ∧ Hid (Ob base W' u (ys ++ oneBE ⟨(t : Int), vv, z, s⟩ L)) ∧ Hid (By base W W') := by
  have m2 := mE_un
  have m3 := mE_ph
  obtain ⟨W1, hW1⟩ : ∃ W1, W.alloc (.cells #[.int .u32 (t : Int), .int .i64 vv, .int .i64 z, .string s] 54) = W1 := ⟨_, rfl⟩
  have hb1 : Below W.heap.size W W1 := by rw [← hW1]; exact (Below.refl _ _).alloc (Nat.le_refl _) _
  have hnb : NB W1 W.heap.size (t : Int) vv z s := by rw [← hW1]; exact Wk.heap_new W _
  obtain ⟨k, hk⟩ : ∃ k, W.heap.size = k := ⟨_, rfl⟩
  rw [hk] at hnb
  have HP : Hid (WrP encE base b off n cap L v ys W) := hP
  have H1 : Hid (Below W.heap.size W W1 ∧ NB W1 k (t : Int) vv z s) := ⟨hb1, hnb⟩
  obtain ⟨y0, y1, y2, y3⟩ := hnb.nc
  obtain ⟨un, hun⟩ : ∃ un, encE.und ⟨(t : Int), vv, z, s⟩ = un := ⟨_, rfl⟩
  have cu := fun X => unE_ok X t ht vv z s un hun
  have hpv : encE.pv ⟨(t : Int), vv, z, s⟩ = (Rp.padB (Rp.pd (Rp.vn vv)) s).data.toList := rfl
  have hpl := pad_len (Rp.pd (Rp.vn vv)) s
  have cp := fun X => Rp.pad_any X vv s (by omega)
  generalize Rp.padB (Rp.pd (Rp.vn vv)) s = pb at cp hpv hpl
  have hpz : pb.data.toList.length = pb.size := Array.length_toList
  have hs1 : pb.size ≤ encE.sz1 ⟨(t : Int), vv, z, s⟩ := by unfold Enc.sz1; rw [hpv, hpz]; omega
  have hh12 : encE.hs ⟨(t : Int), vv, z, s⟩ + pb.size + (if un = true then 8 else 0) = encE.sz1 ⟨(t : Int), vv, z, s⟩ := by unfold Enc.sz1; rw [hpv, hpz, hun]
  have hdl := hd_len true (a := ⟨(t : Int), vv, z, s⟩) hvv
  have HDL : Hid (∀ q, (encE.hd ⟨(t : Int), vv, z, s⟩ q).length = encE.hs ⟨(t : Int), vv, z, s⟩) := hdl
  have HH : Hid _ := hh12
  have HPV : Hid _ := hpv
  have HPZ : Hid _ := hpz
  have HUN : Hid _ := hun
  have HLEN : Hid _ := hlen
  have cs := fun X (hX : Below W.heap.size W X) => szE_any X (some ⟨b, off, none⟩) n cap L (HP.out.nv.on hX) HP.out.tg HP.out.n40 HP.out.gd.sz
  obtain ⟨g, hg⟩ : ∃ g, encE.szP L = g := ⟨_, rfl⟩
  simp only [hg] at cs
  have hgl : g + pb.size ≤ 3000000 := by omega
  have HG : Hid _ := hg
  have hq : ((pb.size : Int) + (g : Int)) % 4294967296 = ((pb.size + g : Nat) : Int) := by omega
  have hpu : pb.size ≤ 65536 := by omega
  have HLL : Hid (L.length ≤ m) := hL
  clear hg hun hpv hpz hh12 hdl hlen hs1 hpl hnb hP hb1 hL
  have HLm : Hid (WrE m) := hw
  clear hw
  go_enter Tryz.func69, Tryz.ntmps69
  go_wp2_with (first | (go_at_call 49; refine Calls.mono (cp _) ?_; rintro e W2 ⟨rfl, hb2⟩) | (go_at_call 56; refine StopB.out ?_))
  have hB2 : Below W.heap.size W W2 := H1.out.1.trans (hb2.mono H1.out.1.size)
  refine ⟨Calls.mono (cs W2 hB2) ?_⟩
  rintro e W3 ⟨rfl, hb3⟩
  have H3 : Hid (Below W.heap.size W W3 ∧ NB W3 k (t : Int) vv z s) := ⟨hB2.trans (hb3.mono hB2.size), (H1.out.2.on hb2).on hb3⟩
  clear hb2 hb3 hB2 cs cp hW1 y0 y1 y2 y3 hk H1
  obtain ⟨y0, y1, y2, y3⟩ := H3.out.2.nc
  rcases un with _ | _
  · have HF : Hid (oneBE ⟨(t : Int), vv, z, s⟩ L = encE.hd ⟨(t : Int), vv, z, s⟩ (pb.size + g) ++ pb.data.toList ++ encE.wP L) := by
      show _ = _
      unfold oneBE
      rw [HUN.out, HPV.out, HPZ.out, HG.out, if_neg (by decide), if_neg (by decide), List.append_nil]
    have hpos : encE.hs ⟨(t : Int), vv, z, s⟩ + pb.size + g + ys.length ≤ 3000000 := by have h1 := HH.out; have h2 := HLEN.out; rw [HG.out] at h2; simp at h1; omega
    clear HH HLEN
    go_wp2_with (first | (go_at_call 266; refine Calls.mono (cu _) ?_; rintro e W4 ⟨rfl, hb4⟩; obtain ⟨x0, x1, x2, x3⟩ := (H3.out.2.on hb4).nc) | (go_at_call 267; refine StopB.out ?_))
    have H4 : Hid (Below W.heap.size W W4 ∧ NB W4 k (t : Int) vv z s) := ⟨H3.out.1.trans (hb4.mono H3.out.1.size), H3.out.2.on hb4⟩
    have hbW4 : base ≤ W4.heap.size := Nat.le_trans HP.out.hb H4.out.1.size
    refine ⟨Calls.mono (phE_ok W4 base v ys t (pb.size + g) ht (by omega) vv z s hvv (HP.out.own.on H4.out.1) hbW4 (by omega)) ?_⟩
    rintro e W5 ⟨u5, rfl, ho5, hb5⟩
    go_wp2_with (at_builtin; refine StopB.out ?_)
    refine ⟨app_text rfl (.tmp 30) (.tmp 31) rfl base _ _ rfl ho5.out pb rfl (by rw [List.length_append, HDL.out]; omega) (Nat.le_trans hbW4 hb5.out.size) ?_⟩
    intro u6 W6 ho6 hb6
    have hby6 : By base W W6 := (By.of H4.out.1 HP.out.hb).trans (hb5.out.trans hb6)
    go_wp2_with (go_at_call 41; refine StopB.out ?_)
    refine ⟨Calls.mono (HLm.out W6 base b off n cap L u6 _ HLL.out ⟨NV.lo HP.out.nv hby6.b HP.out.lt, HP.out.lt, HP.out.tg, HP.out.gd, HP.out.n40, by rw [List.length_append, List.length_append, HDL.out, HPZ.out, HG.out]; omega, ho6, Nat.le_trans HP.out.hb hby6.size⟩) ?_⟩
    rintro e W7 ⟨u7, rfl, ho7, hb7⟩
    have hby7 : By base W W7 := hby6.trans hb7.out
    have HN7 : Hid (NB W7 k (t : Int) vv z s) := ((H4.out.2.by hb5.out).by hb6).by hb7.out
    obtain ⟨p0, p1, p2, p3⟩ := HN7.out.nc
    clear x0 x1 x2 x3 y0 y1 y2 y3
    go_wp2_with (first | (go_at_call 266; refine Calls.mono (cu _) ?_; rintro e W8 ⟨rfl, hb8⟩) | fail)
    go_ret
    refine ⟨_, rfl, ?_, hby7.trans (By.of hb8 (Nat.le_trans HP.out.hb hby7.size))⟩
    rw [HF.out, ← List.append_assoc, ← List.append_assoc]
    exact ho7.out.on hb8
  · have HF : Hid (oneBE ⟨(t : Int), vv, z, s⟩ L = encE.hd ⟨(t : Int), vv, z, s⟩ 4294967295 ++ pb.data.toList ++ encE.wP L ++ plL 4294893789 0) := by
      show _ = _
      unfold oneBE
      rw [HUN.out, HPV.out, if_pos rfl, if_pos rfl]
      rfl
    have hpos : encE.hs ⟨(t : Int), vv, z, s⟩ + pb.size + 8 + g + ys.length ≤ 3000000 := by have h1 := HH.out; have h2 := HLEN.out; rw [HG.out] at h2; simp at h1; omega
    clear HH HLEN
    go_wp2_with (first | (go_at_call 266; refine Calls.mono (cu _) ?_; rintro e W4 ⟨rfl, hb4⟩; obtain ⟨x0, x1, x2, x3⟩ := (H3.out.2.on hb4).nc) | (go_at_call 267; refine StopB.out ?_))
    have H4 : Hid (Below W.heap.size W W4 ∧ NB W4 k (t : Int) vv z s) := ⟨H3.out.1.trans (hb4.mono H3.out.1.size), H3.out.2.on hb4⟩
    have hbW4 : base ≤ W4.heap.size := Nat.le_trans HP.out.hb H4.out.1.size
    refine ⟨Calls.mono (phE_ok W4 base v ys t 4294967295 ht (by omega) vv z s hvv (HP.out.own.on H4.out.1) hbW4 (by omega)) ?_⟩
    rintro e W5 ⟨u5, rfl, ho5, hb5⟩
    go_wp2_with (at_builtin; refine StopB.out ?_)
    refine ⟨app_text rfl (.tmp 30) (.tmp 31) rfl base _ _ rfl ho5.out pb rfl (by rw [List.length_append, HDL.out]; omega) (Nat.le_trans hbW4 hb5.out.size) ?_⟩
    intro u6 W6 ho6 hb6
    have hby6 : By base W W6 := (By.of H4.out.1 HP.out.hb).trans (hb5.out.trans hb6)
    go_wp2_with (go_at_call 41; refine StopB.out ?_)
    refine ⟨Calls.mono (HLm.out W6 base b off n cap L u6 _ HLL.out ⟨NV.lo HP.out.nv hby6.b HP.out.lt, HP.out.lt, HP.out.tg, HP.out.gd, HP.out.n40, by rw [List.length_append, List.length_append, HDL.out, HPZ.out, HG.out]; omega, ho6, Nat.le_trans HP.out.hb hby6.size⟩) ?_⟩
    rintro e W7 ⟨u7, rfl, ho7, hb7⟩
    have hby7 : By base W W7 := hby6.trans hb7.out
    have HN7 : Hid (NB W7 k (t : Int) vv z s) := ((H4.out.2.by hb5.out).by hb6).by hb7.out
    obtain ⟨p0, p1, p2, p3⟩ := HN7.out.nc
    have hwl : (encE.wP L).length = g := by rw [← HG.out]; exact wr_len true _ L (Nat.le_refl _) HP.out.gd
    clear x0 x1 x2 x3 y0 y1 y2 y3
    go_wp2_with (first | (go_at_call 266; refine Calls.mono (cu _) ?_; rintro e W8 ⟨rfl, hb8⟩) | (go_at_call 109; refine StopB.out ?_))
    refine ⟨Calls.mono (putPlain_any W8 base u7 _ 4294893789 0 (by decide) (by decide) (ho7.out.on hb8) (Nat.le_trans (Nat.le_trans HP.out.hb hby7.size) hb8.size) (by rw [List.length_append, List.length_append, List.length_append, HDL.out, HPZ.out, hwl]; omega)) ?_⟩
    rintro e W9 ⟨u9, rfl, ho9, hb9⟩
    go_wp2
    go_ret
    refine ⟨_, rfl, ?_, (hby7.trans (By.of hb8 (Nat.le_trans HP.out.hb hby7.size))).trans hb9.out⟩
    rw [HF.out, ← List.append_assoc, ← List.append_assoc, ← List.append_assoc]
    exact ho9.out
end Go.Proofs.YtoikdpjjcnmgeaaGreatDoor
end

section
/-
  DERIVED. Nodes laid down, one behind the other: the program's.
-/
namespace Go.Proofs.YtoikdpjjcnmgeaaGreatDoor
open Go Go.Proofs Go.RowKit
open Wk (Nd NV goN nxt)

theorem TagsOk.sub {L : List Nd} (h : TagsOk L) (i e : Nat) : TagsOk (sub L i e) := fun x hx => h x (sub_mem hx)
theorem Good.sub {L : List Nd} (h : Good L) (i e : Nat) : Good (sub L i e) := fun x hx => h x (sub_mem hx)
set_option maxRecDepth 100000 in
set_option maxHeartbeats 4000000 in
theorem wrI_step (m : Nat) (hw : WrI m) : WrI (m + 1) := by
  intro W base b off n cap L v ys hL hP
  have HP : Hid (WrP encI base b off n cap L v ys W) := hP
  have HW : Hid (WrI m) := hw
  have HL : Hid (L.length ≤ m + 1) := hL
  have HN : Hid (n = L.length) := hP.nv.len
  have hroom := hP.nv.room
  have hn40 := hP.n40
  clear hP hw hL
  go_enter Tryz.func41, Tryz.ntmps41
  go_wp2
  go_loopw [0, 7] (fun x0 x7 wr => ∃ (i : Nat) (Z : List UInt8), x7 = .int .i64 (i : Int) ∧ i ≤ n ∧ Hid (Lev L i L.length ∧ Ob base wr x0 Z ∧ Z ++ encI.wP (sub L i L.length) = ys ++ encI.wP L ∧ Z.length + encI.szP (sub L i L.length) ≤ 3000000 ∧ By base W wr)) (fun _ x7 _ => n - (intOf x7).toNat)
  case atStart => exact ⟨0, ys, rfl, by omega, Lev.top L, HP.out.own, by rw [sub_all], by rw [sub_all]; exact HP.out.len, By.refl _ _⟩
  case round =>
    obtain ⟨i, Z, rfl, hin, HI⟩ := hrel
    by_cases hlt : i < n
    · have hltI : (i : Int) < (n : Int) := by omega
      have hlL : i < L.length := by rw [← HN.out]; exact hlt
      have hnv : NV wr (some ⟨b, off, none⟩) n cap L := NV.lo HP.out.nv HI.out.2.2.2.2.b HP.out.lt
      have cn := Wk.next_in wr (some ⟨b, off, none⟩) n cap i L hnv hlt (by omega)
      obtain ⟨h1, h2, h3, h4, -⟩ := HI.out.1.next hlL (Nat.le_refl _)
      have HWP := encI.wP_next HI.out.1 hlL (Nat.le_refl _)
      have HSP := encI.szP_next HI.out.1 hlL (Nat.le_refl _)
      obtain ⟨b', off', hl, he, e0, e1, e2, e3⟩ := NV.cells hnv hlt
      cases he
      have htg := HP.out.tg _ (List.getElem_mem hl)
      obtain ⟨hvv, hss, -⟩ := HP.out.gd _ (List.getElem_mem hl)
      obtain ⟨x, hx⟩ : ∃ x, nxt L i = x := ⟨_, rfl⟩
      rw [hx] at cn h1 h2 h3 h4 HWP HSP
      have hxn : x ≤ n := by rw [HN.out]; exact h1
      have hcut : ∀ zz, (i + 1 < x → zz = off + (i + 1) * 4) → NV wr (some ⟨b, zz, none⟩) (x - (i + 1)) (cap - (i + 1)) (sub L (i + 1) x) := fun zz hz => NV.part hnv (by omega) hxn zz hz
      have HCUT : Hid _ := hcut
      generalize hq : L[i]'hl = q at e0 e1 e2 e3 htg hvv hss HWP HSP
      obtain ⟨t, vv, z, s⟩ := q
      simp only at e0 e1 e2 e3 htg hvv hss
      obtain ⟨tn, rfl⟩ : ∃ tn : Nat, t = (tn : Int) := ⟨t.toNat, by omega⟩
      have htn : tn < 4294967296 := by omega
      have hsl : (sub L (i + 1) x).length ≤ m := by rw [sub_len h1]; have := HL.out; omega
      have hlen3 : Z.length + (encI.sz1 ⟨(tn : Int), vv, z, s⟩ + encI.szP (sub L (i + 1) x)) ≤ 3000000 := by have := HI.out.2.2.2.1; rw [HSP] at this; omega
      have HONE : Hid (∀ (X : World) (zz cc : Nat), Below wr.heap.size wr X → (i + 1 < x → zz = off + (i + 1) * 4) → cc = cap - (i + 1) → Calls Tryz.prog 69 #[u0, ndV (tn : Int) vv z s, .slice (some ⟨b, zz, none⟩) (x - (i + 1)) cc, .iface 107 (.agg #[])] X fun e W' => ∃ u, e = .returned u ∧ Hid (Ob base W' u (Z ++ oneBI ⟨(tn : Int), vv, z, s⟩ (sub L (i + 1) x))) ∧ Hid (By base X W')) := by
        intro X zz cc hX hz hcc
        subst hcc
        refine woI_of m HW.out X base b zz (x - (i + 1)) (cap - (i + 1)) (sub L (i + 1) x) u0 Z hsl ⟨(hcut zz hz).on hX, HP.out.lt, TagsOk.sub HP.out.tg _ _, Good.sub HP.out.gd _ _, by omega, by omega, HI.out.2.1.on hX, Nat.le_trans (Nat.le_trans HP.out.hb HI.out.2.2.2.2.size) hX.size⟩ tn htn vv z s hvv hss hlen3
      have HNX : Hid (∀ u W', Ob base W' u (Z ++ oneBI ⟨(tn : Int), vv, z, s⟩ (sub L (i + 1) x)) → By base wr W' → Lev L x L.length ∧ Ob base W' u (Z ++ oneBI ⟨(tn : Int), vv, z, s⟩ (sub L (i + 1) x)) ∧ (Z ++ oneBI ⟨(tn : Int), vv, z, s⟩ (sub L (i + 1) x)) ++ encI.wP (sub L x L.length) = ys ++ encI.wP L ∧ (Z ++ oneBI ⟨(tn : Int), vv, z, s⟩ (sub L (i + 1) x)).length + encI.szP (sub L x L.length) ≤ 3000000 ∧ By base W W') := by
        intro u W' ho hb
        have hone : (oneBI ⟨(tn : Int), vv, z, s⟩ (sub L (i + 1) x)).length = encI.sz1 ⟨(tn : Int), vv, z, s⟩ + encI.szP (sub L (i + 1) x) := by
          have hdl : ∀ q, (encI.hd ⟨(tn : Int), vv, z, s⟩ q).length = encI.hs ⟨(tn : Int), vv, z, s⟩ := hd_len false (a := ⟨(tn : Int), vv, z, s⟩) hvv
          unfold oneBI Enc.sz1
          simp only [List.length_append]
          rw [hdl, show (encI.wP (sub L (i + 1) x)).length = encI.szP (sub L (i + 1) x) from wr_len false _ _ (Nat.le_refl _) (Good.sub HP.out.gd _ _)]
          split
          · rw [show encI.em.length = 8 from plL_len _ _]; omega
          · simp only [List.length_nil]; omega
        refine ⟨h4, ho, ?_, ?_, HI.out.2.2.2.2.trans hb⟩
        · rw [← HI.out.2.2.1, HWP]
          unfold oneBI
          simp only [List.append_assoc]
        · have := HI.out.2.2.2.1
          rw [HSP] at this
          rw [List.length_append, hone]
          omega
      have hxi : ((x - (i + 1) : Nat) : Int) = (x : Int) - ((i : Int) + 1) := by omega
      have f0 : (0 : Int) ≤ (i : Int) + 1 := by omega
      have f4 : IntKind.i64.wrap ((i : Int) + 1) = (i : Int) + 1 := Go.IntWalk.i64_in _ (by omega)
      have f1 : (i : Int) + 1 ≤ (x : Int) := by omega
      have f2 : (x : Int) ≤ (cap : Int) := by omega
      have f3 : (x : Int) ≤ (n : Int) := by omega
      clear hcut hsl hlen3 HWP HSP h3 h4 hq hnv htg hvv hss hlL hl hx
      by_cases hce : cap = i + 1
      · obtain rfl : x = i + 1 := by omega
        subst hce
        have H0 : Hid (∀ X : World, Below wr.heap.size wr X → Calls Tryz.prog 69 #[u0, ndV (tn : Int) vv z s, .slice (some ⟨b, off, none⟩) 0 0, .iface 107 (.agg #[])] X fun e W' => ∃ u, e = .returned u ∧ Hid (Ob base W' u (Z ++ oneBI ⟨(tn : Int), vv, z, s⟩ (sub L (i + 1) (i + 1)))) ∧ Hid (By base X W')) := by
          intro X hX
          have := HONE.out X off 0 hX (fun h => by omega) (by omega)
          rw [show i + 1 - (i + 1) = 0 by omega] at this
          exact this
        clear HONE
        go_wp2_with (first | (go_at_call 68; refine Calls.mono cn ?_; rintro e W1 ⟨rfl, rfl⟩) | fail)
        go_region_held3 (fun w' => w'.cell? ⟨b, off + i * 4, none⟩ = some (.int .u32 (tn : Int)) ∧ w'.cell? ⟨b, off + i * 4 + 1, none⟩ = some (.int .i64 vv) ∧ w'.cell? ⟨b, off + i * 4 + 2, none⟩ = some (.int .i64 z) ∧ w'.cell? ⟨b, off + i * 4 + 3, none⟩ = some (.string s)) (first | (go_keep; done) | exact ⟨by assumption, by assumption, by assumption, by assumption⟩) (first | (go_at_call 69; refine Calls.mono (H0.out _ (Below.refl _ _).drew) ?_; rintro e W2 ⟨u2, rfl, ho2, hb2⟩; have g0 : W2.cell? ⟨b, off + i * 4, none⟩ = some (.int .u32 (tn : Int)) := (World.cell?_of_block (hb2.out.b.block b HP.out.lt)).trans e0; have g1 : W2.cell? ⟨b, off + i * 4 + 1, none⟩ = some (.int .i64 vv) := (World.cell?_of_block (hb2.out.b.block b HP.out.lt)).trans e1; have g2 : W2.cell? ⟨b, off + i * 4 + 2, none⟩ = some (.int .i64 z) := (World.cell?_of_block (hb2.out.b.block b HP.out.lt)).trans e2; have g3 : W2.cell? ⟨b, off + i * 4 + 3, none⟩ = some (.string s) := (World.cell?_of_block (hb2.out.b.block b HP.out.lt)).trans e3))
        have HR : Hid _ := HNX.out u2 W2 ho2.out ((By.of (Below.refl _ _).drew (Nat.le_trans HP.out.hb HI.out.2.2.2.2.size)).trans hb2.out)
        clear ho2 hb2 g0 g1 g2 g3 HNX H0
        go_wp2
        go_roundw
        case rel => exact ⟨i + 1, _, by go_num, hxn, HR.out⟩
        case measure => simp [intOf]; omega
      · have hce' : ¬ (cap : Int) = (i : Int) + 1 := by omega
        go_wp2_with (first | (go_at_call 68; refine Calls.mono cn ?_; rintro e W1 ⟨rfl, rfl⟩) | fail)
        go_region_held3 (fun w' => w'.cell? ⟨b, off + i * 4, none⟩ = some (.int .u32 (tn : Int)) ∧ w'.cell? ⟨b, off + i * 4 + 1, none⟩ = some (.int .i64 vv) ∧ w'.cell? ⟨b, off + i * 4 + 2, none⟩ = some (.int .i64 z) ∧ w'.cell? ⟨b, off + i * 4 + 3, none⟩ = some (.string s)) (first | (go_keep; done) | exact ⟨by assumption, by assumption, by assumption, by assumption⟩) (first | (go_at_call 69; refine Calls.mono (HONE.out _ _ _ (Below.refl _ _).drew (fun _ => rfl) rfl) ?_; rintro e W2 ⟨u2, rfl, ho2, hb2⟩; have g0 : W2.cell? ⟨b, off + i * 4, none⟩ = some (.int .u32 (tn : Int)) := (World.cell?_of_block (hb2.out.b.block b HP.out.lt)).trans e0; have g1 : W2.cell? ⟨b, off + i * 4 + 1, none⟩ = some (.int .i64 vv) := (World.cell?_of_block (hb2.out.b.block b HP.out.lt)).trans e1; have g2 : W2.cell? ⟨b, off + i * 4 + 2, none⟩ = some (.int .i64 z) := (World.cell?_of_block (hb2.out.b.block b HP.out.lt)).trans e2; have g3 : W2.cell? ⟨b, off + i * 4 + 3, none⟩ = some (.string s) := (World.cell?_of_block (hb2.out.b.block b HP.out.lt)).trans e3))
        have HR : Hid _ := HNX.out u2 W2 ho2.out ((By.of (Below.refl _ _).drew (Nat.le_trans HP.out.hb HI.out.2.2.2.2.size)).trans hb2.out)
        clear ho2 hb2 g0 g1 g2 g3 HNX HONE
        go_wp2
        go_roundw
        case rel => exact ⟨x, _, rfl, hxn, HR.out⟩
        case measure => simp [intOf]; omega
    · obtain rfl : i = n := by omega
      have hltI : ¬ (i : Int) < (i : Int) := by omega
      have HE : Hid (Z = ys ++ encI.wP L) := by
        have := HI.out.2.2.1
        rw [sub_nil (by rw [← HN.out]; exact Nat.le_refl _)] at this
        rw [← this]
        exact (List.append_nil Z).symm
      go_wp2
      go_ret
      exact ⟨_, rfl, by rw [← HE.out]; exact HI.out.2.1, HI.out.2.2.2.2⟩
set_option maxRecDepth 100000 in
theorem wrI_zero : WrI 0 := by
  intro W base b off n cap L v ys hL hP
  obtain rfl : L = [] := List.length_eq_zero_iff.1 (by omega)
  obtain rfl : n = 0 := hP.nv.len
  have HP : Hid (WrP encI base b off 0 cap [] v ys W) := hP
  clear hP hL
  go_enter Tryz.func41, Tryz.ntmps41
  go_wp2
  refine wp_loop_rounds 1 ?_
  rw [rounds_succ]
  go_wp2
  go_ret
  refine ⟨_, rfl, ?_, By.refl _ _⟩
  rw [show encI.wP [] = [] from rfl, List.append_nil]
  exact HP.out.own
theorem wrI_any : ∀ m, WrI m
  | 0 => wrI_zero
  | m + 1 => wrI_step m (wrI_any m)
set_option maxRecDepth 100000 in
set_option maxHeartbeats 4000000 in
theorem wrE_step (m : Nat) (hw : WrE m) : WrE (m + 1) := by
  intro W base b off n cap L v ys hL hP
  have HP : Hid (WrP encE base b off n cap L v ys W) := hP
  have HW : Hid (WrE m) := hw
  have HL : Hid (L.length ≤ m + 1) := hL
  have HN : Hid (n = L.length) := hP.nv.len
  have hroom := hP.nv.room
  have hn40 := hP.n40
  clear hP hw hL
  go_enter Tryz.func41, Tryz.ntmps41
  go_wp2
  go_loopw [0, 7] (fun x0 x7 wr => ∃ (i : Nat) (Z : List UInt8), x7 = .int .i64 (i : Int) ∧ i ≤ n ∧ Hid (Lev L i L.length ∧ Ob base wr x0 Z ∧ Z ++ encE.wP (sub L i L.length) = ys ++ encE.wP L ∧ Z.length + encE.szP (sub L i L.length) ≤ 3000000 ∧ By base W wr)) (fun _ x7 _ => n - (intOf x7).toNat)
  case atStart => exact ⟨0, ys, rfl, by omega, Lev.top L, HP.out.own, by rw [sub_all], by rw [sub_all]; exact HP.out.len, By.refl _ _⟩
  case round =>
    obtain ⟨i, Z, rfl, hin, HI⟩ := hrel
    by_cases hlt : i < n
    · have hltI : (i : Int) < (n : Int) := by omega
      have hlL : i < L.length := by rw [← HN.out]; exact hlt
      have hnv : NV wr (some ⟨b, off, none⟩) n cap L := NV.lo HP.out.nv HI.out.2.2.2.2.b HP.out.lt
      have cn := Wk.next_in wr (some ⟨b, off, none⟩) n cap i L hnv hlt (by omega)
      obtain ⟨h1, h2, h3, h4, -⟩ := HI.out.1.next hlL (Nat.le_refl _)
      have HWP := encE.wP_next HI.out.1 hlL (Nat.le_refl _)
      have HSP := encE.szP_next HI.out.1 hlL (Nat.le_refl _)
      obtain ⟨b', off', hl, he, e0, e1, e2, e3⟩ := NV.cells hnv hlt
      cases he
      have htg := HP.out.tg _ (List.getElem_mem hl)
      obtain ⟨hvv, hss, -⟩ := HP.out.gd _ (List.getElem_mem hl)
      obtain ⟨x, hx⟩ : ∃ x, nxt L i = x := ⟨_, rfl⟩
      rw [hx] at cn h1 h2 h3 h4 HWP HSP
      have hxn : x ≤ n := by rw [HN.out]; exact h1
      have hcut : ∀ zz, (i + 1 < x → zz = off + (i + 1) * 4) → NV wr (some ⟨b, zz, none⟩) (x - (i + 1)) (cap - (i + 1)) (sub L (i + 1) x) := fun zz hz => NV.part hnv (by omega) hxn zz hz
      have HCUT : Hid _ := hcut
      generalize hq : L[i]'hl = q at e0 e1 e2 e3 htg hvv hss HWP HSP
      obtain ⟨t, vv, z, s⟩ := q
      simp only at e0 e1 e2 e3 htg hvv hss
      obtain ⟨tn, rfl⟩ : ∃ tn : Nat, t = (tn : Int) := ⟨t.toNat, by omega⟩
      have htn : tn < 4294967296 := by omega
      have hsl : (sub L (i + 1) x).length ≤ m := by rw [sub_len h1]; have := HL.out; omega
      have hlen3 : Z.length + (encE.sz1 ⟨(tn : Int), vv, z, s⟩ + encE.szP (sub L (i + 1) x)) ≤ 3000000 := by have := HI.out.2.2.2.1; rw [HSP] at this; omega
      have HONE : Hid (∀ (X : World) (zz cc : Nat), Below wr.heap.size wr X → (i + 1 < x → zz = off + (i + 1) * 4) → cc = cap - (i + 1) → Calls Tryz.prog 69 #[u0, ndV (tn : Int) vv z s, .slice (some ⟨b, zz, none⟩) (x - (i + 1)) cc, .iface 108 (.agg #[])] X fun e W' => ∃ u, e = .returned u ∧ Hid (Ob base W' u (Z ++ oneBE ⟨(tn : Int), vv, z, s⟩ (sub L (i + 1) x))) ∧ Hid (By base X W')) := by
        intro X zz cc hX hz hcc
        subst hcc
        refine woE_of m HW.out X base b zz (x - (i + 1)) (cap - (i + 1)) (sub L (i + 1) x) u0 Z hsl ⟨(hcut zz hz).on hX, HP.out.lt, TagsOk.sub HP.out.tg _ _, Good.sub HP.out.gd _ _, by omega, by omega, HI.out.2.1.on hX, Nat.le_trans (Nat.le_trans HP.out.hb HI.out.2.2.2.2.size) hX.size⟩ tn htn vv z s hvv hss hlen3
      have HNX : Hid (∀ u W', Ob base W' u (Z ++ oneBE ⟨(tn : Int), vv, z, s⟩ (sub L (i + 1) x)) → By base wr W' → Lev L x L.length ∧ Ob base W' u (Z ++ oneBE ⟨(tn : Int), vv, z, s⟩ (sub L (i + 1) x)) ∧ (Z ++ oneBE ⟨(tn : Int), vv, z, s⟩ (sub L (i + 1) x)) ++ encE.wP (sub L x L.length) = ys ++ encE.wP L ∧ (Z ++ oneBE ⟨(tn : Int), vv, z, s⟩ (sub L (i + 1) x)).length + encE.szP (sub L x L.length) ≤ 3000000 ∧ By base W W') := by
        intro u W' ho hb
        have hone : (oneBE ⟨(tn : Int), vv, z, s⟩ (sub L (i + 1) x)).length = encE.sz1 ⟨(tn : Int), vv, z, s⟩ + encE.szP (sub L (i + 1) x) := by
          have hdl : ∀ q, (encE.hd ⟨(tn : Int), vv, z, s⟩ q).length = encE.hs ⟨(tn : Int), vv, z, s⟩ := hd_len true (a := ⟨(tn : Int), vv, z, s⟩) hvv
          unfold oneBE Enc.sz1
          simp only [List.length_append]
          rw [hdl, show (encE.wP (sub L (i + 1) x)).length = encE.szP (sub L (i + 1) x) from wr_len true _ _ (Nat.le_refl _) (Good.sub HP.out.gd _ _)]
          split
          · rw [show encE.em.length = 8 from plL_len _ _]; omega
          · simp only [List.length_nil]; omega
        refine ⟨h4, ho, ?_, ?_, HI.out.2.2.2.2.trans hb⟩
        · rw [← HI.out.2.2.1, HWP]
          unfold oneBE
          simp only [List.append_assoc]
        · have := HI.out.2.2.2.1
          rw [HSP] at this
          rw [List.length_append, hone]
          omega
      have hxi : ((x - (i + 1) : Nat) : Int) = (x : Int) - ((i : Int) + 1) := by omega
      have f0 : (0 : Int) ≤ (i : Int) + 1 := by omega
      have f4 : IntKind.i64.wrap ((i : Int) + 1) = (i : Int) + 1 := Go.IntWalk.i64_in _ (by omega)
      have f1 : (i : Int) + 1 ≤ (x : Int) := by omega
      have f2 : (x : Int) ≤ (cap : Int) := by omega
      have f3 : (x : Int) ≤ (n : Int) := by omega
      clear hcut hsl hlen3 HWP HSP h3 h4 hq hnv htg hvv hss hlL hl hx
      by_cases hce : cap = i + 1
      · obtain rfl : x = i + 1 := by omega
        subst hce
        have H0 : Hid (∀ X : World, Below wr.heap.size wr X → Calls Tryz.prog 69 #[u0, ndV (tn : Int) vv z s, .slice (some ⟨b, off, none⟩) 0 0, .iface 108 (.agg #[])] X fun e W' => ∃ u, e = .returned u ∧ Hid (Ob base W' u (Z ++ oneBE ⟨(tn : Int), vv, z, s⟩ (sub L (i + 1) (i + 1)))) ∧ Hid (By base X W')) := by
          intro X hX
          have := HONE.out X off 0 hX (fun h => by omega) (by omega)
          rw [show i + 1 - (i + 1) = 0 by omega] at this
          exact this
        clear HONE
        go_wp2_with (first | (go_at_call 68; refine Calls.mono cn ?_; rintro e W1 ⟨rfl, rfl⟩) | fail)
        go_region_held3 (fun w' => w'.cell? ⟨b, off + i * 4, none⟩ = some (.int .u32 (tn : Int)) ∧ w'.cell? ⟨b, off + i * 4 + 1, none⟩ = some (.int .i64 vv) ∧ w'.cell? ⟨b, off + i * 4 + 2, none⟩ = some (.int .i64 z) ∧ w'.cell? ⟨b, off + i * 4 + 3, none⟩ = some (.string s)) (first | (go_keep; done) | exact ⟨by assumption, by assumption, by assumption, by assumption⟩) (first | (go_at_call 69; refine Calls.mono (H0.out _ (Below.refl _ _).drew) ?_; rintro e W2 ⟨u2, rfl, ho2, hb2⟩; have g0 : W2.cell? ⟨b, off + i * 4, none⟩ = some (.int .u32 (tn : Int)) := (World.cell?_of_block (hb2.out.b.block b HP.out.lt)).trans e0; have g1 : W2.cell? ⟨b, off + i * 4 + 1, none⟩ = some (.int .i64 vv) := (World.cell?_of_block (hb2.out.b.block b HP.out.lt)).trans e1; have g2 : W2.cell? ⟨b, off + i * 4 + 2, none⟩ = some (.int .i64 z) := (World.cell?_of_block (hb2.out.b.block b HP.out.lt)).trans e2; have g3 : W2.cell? ⟨b, off + i * 4 + 3, none⟩ = some (.string s) := (World.cell?_of_block (hb2.out.b.block b HP.out.lt)).trans e3))
        have HR : Hid _ := HNX.out u2 W2 ho2.out ((By.of (Below.refl _ _).drew (Nat.le_trans HP.out.hb HI.out.2.2.2.2.size)).trans hb2.out)
        clear ho2 hb2 g0 g1 g2 g3 HNX H0
        go_wp2
        go_roundw
        case rel => exact ⟨i + 1, _, by go_num, hxn, HR.out⟩
        case measure => simp [intOf]; omega
      · have hce' : ¬ (cap : Int) = (i : Int) + 1 := by omega
        go_wp2_with (first | (go_at_call 68; refine Calls.mono cn ?_; rintro e W1 ⟨rfl, rfl⟩) | fail)
        go_region_held3 (fun w' => w'.cell? ⟨b, off + i * 4, none⟩ = some (.int .u32 (tn : Int)) ∧ w'.cell? ⟨b, off + i * 4 + 1, none⟩ = some (.int .i64 vv) ∧ w'.cell? ⟨b, off + i * 4 + 2, none⟩ = some (.int .i64 z) ∧ w'.cell? ⟨b, off + i * 4 + 3, none⟩ = some (.string s)) (first | (go_keep; done) | exact ⟨by assumption, by assumption, by assumption, by assumption⟩) (first | (go_at_call 69; refine Calls.mono (HONE.out _ _ _ (Below.refl _ _).drew (fun _ => rfl) rfl) ?_; rintro e W2 ⟨u2, rfl, ho2, hb2⟩; have g0 : W2.cell? ⟨b, off + i * 4, none⟩ = some (.int .u32 (tn : Int)) := (World.cell?_of_block (hb2.out.b.block b HP.out.lt)).trans e0; have g1 : W2.cell? ⟨b, off + i * 4 + 1, none⟩ = some (.int .i64 vv) := (World.cell?_of_block (hb2.out.b.block b HP.out.lt)).trans e1; have g2 : W2.cell? ⟨b, off + i * 4 + 2, none⟩ = some (.int .i64 z) := (World.cell?_of_block (hb2.out.b.block b HP.out.lt)).trans e2; have g3 : W2.cell? ⟨b, off + i * 4 + 3, none⟩ = some (.string s) := (World.cell?_of_block (hb2.out.b.block b HP.out.lt)).trans e3))
        have HR : Hid _ := HNX.out u2 W2 ho2.out ((By.of (Below.refl _ _).drew (Nat.le_trans HP.out.hb HI.out.2.2.2.2.size)).trans hb2.out)
        clear ho2 hb2 g0 g1 g2 g3 HNX HONE
        go_wp2
        go_roundw
        case rel => exact ⟨x, _, rfl, hxn, HR.out⟩
        case measure => simp [intOf]; omega
    · obtain rfl : i = n := by omega
      have hltI : ¬ (i : Int) < (i : Int) := by omega
      have HE : Hid (Z = ys ++ encE.wP L) := by
        have := HI.out.2.2.1
        rw [sub_nil (by rw [← HN.out]; exact Nat.le_refl _)] at this
        rw [← this]
        exact (List.append_nil Z).symm
      go_wp2
      go_ret
      exact ⟨_, rfl, by rw [← HE.out]; exact HI.out.2.1, HI.out.2.2.2.2⟩
set_option maxRecDepth 100000 in
theorem wrE_zero : WrE 0 := by
  intro W base b off n cap L v ys hL hP
  obtain rfl : L = [] := List.length_eq_zero_iff.1 (by omega)
  obtain rfl : n = 0 := hP.nv.len
  have HP : Hid (WrP encE base b off 0 cap [] v ys W) := hP
  clear hP hL
  go_enter Tryz.func41, Tryz.ntmps41
  go_wp2
  refine wp_loop_rounds 1 ?_
  rw [rounds_succ]
  go_wp2
  go_ret
  refine ⟨_, rfl, ?_, By.refl _ _⟩
  rw [show encE.wP [] = [] from rfl, List.append_nil]
  exact HP.out.own
theorem wrE_any : ∀ m, WrE m
  | 0 => wrE_zero
  | m + 1 => wrE_step m (wrE_any m)
end Go.Proofs.YtoikdpjjcnmgeaaGreatDoor
end
