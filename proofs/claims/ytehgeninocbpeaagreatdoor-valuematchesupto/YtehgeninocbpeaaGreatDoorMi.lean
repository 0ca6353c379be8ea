import Derived.Test.YtehgeninocbpeaaGreatDoorOh
import Derived.Test.YtehgeninocbpeaaGreatDoorQT
import Derived.Test.YtehgeninocbpeaaGreatDoorOi
import Derived.Test.YtehgeninocbpeaaGreatDoorOj
namespace Go.Proofs.YtehgeninocbpeaaGreatDoor.Tm
open Go Go.Proofs Go.RowKit
end Go.Proofs.YtehgeninocbpeaaGreatDoor.Tm

namespace Go.Proofs.YtehgeninocbpeaaGreatDoor.Tm
open Go Go.Proofs Go.RowKit
theorem in_range (vr : Int) : (vr < 0 ∨ 29 ≤ vr) ∨ ∃ n : Fin 29, vr = (n.val : Int) := by
  by_cases h : vr < 0 ∨ 29 ≤ vr
  · exact .inl h
  · exact .inr ⟨⟨vr.toNat, by omega⟩, by show vr = ((vr.toNat : Nat) : Int); omega⟩
theorem rB_out {vr : Int} (h : vr < 0 ∨ 29 ≤ vr) : rB vr = 0 := by
  unfold rB
  split
  · rfl
  · rw [List.getD_eq_getElem?_getD, List.getElem?_eq_none (by show 29 ≤ _; omega)]
    rfl
theorem rB_in (n : Fin 29) : rB (n.val : Int) = rbL.getD n.val 0 := by
  unfold rB
  rw [if_neg (by omega)]
  rfl
theorem rC_in (n : Fin 29) : rC (n.val : Int) = rcL.getD n.val false := by
  unfold rC
  rw [if_neg (by omega)]
  rfl
theorem kinds (vr : Int) : (rB vr = 0 ∧ (vr ≤ 0 ∨ 28 < vr ∨ vr = 18)) ∨ (1 ≤ vr ∧ vr ≤ 28 ∧ vr ≠ 18 ∧
    ((rB vr = 1 ∧ rC vr = true ∧ isSp vr) ∨ (rB vr = 2 ∧ rC vr = true ∧ vr = 15) ∨
     (rB vr = 3 ∧ rC vr = true ∧ (vr = 1 ∨ vr = 4 ∨ vr = 11 ∨ vr = 16 ∨ vr = 22)) ∨
     (rB vr = 3 ∧ rC vr = false ∧ (vr = 12 ∨ vr = 20 ∨ vr = 26 ∨ vr = 28)) ∨
     (rB vr = 4 ∧ rC vr = false ∧ vr = 23) ∨ (rB vr = 5 ∧ rC vr = true ∧ vr = 10) ∨ (rB vr = 6 ∧ rC vr = true ∧ vr = 6) ∨
     (rB vr = 7 ∧ rC vr = true ∧ (vr = 2 ∨ vr = 3 ∨ vr = 8 ∨ vr = 9 ∨ vr = 13 ∨ vr = 14 ∨ vr = 17 ∨ vr = 19 ∨ vr = 24 ∨ vr = 25 ∨ vr = 27)))) := by
  rcases in_range vr with h | ⟨n, rfl⟩
  · exact .inl ⟨rB_out h, by omega⟩
  · rw [rB_in, rC_in]
    unfold isSp
    revert n
    decide
noncomputable def kO (vr : Int) (key : ByteArray) : Option (Int × Int) :=
  if key.size = 0 then none else if rB vr = 0 then some (0, 105) else if rB vr = 1 then (ask vr key).2 else if rB vr = 5 then (Nu.WR key).2 else if rB vr = 6 then (nmR key).2 else none
def PostG (w : World) (o : Option (Int × Int)) (e : Ending) (w' : World) : Prop := ∃ v, e = .returned v ∧ RErr w' v o ∧ Below w.heap.size w w'
structure Fc (w W : World) (B : Nat) : Prop where
  r : W.rowIs B 35 2 fN
  b : Below B w W
theorem Fc.on {w W W' : World} {B : Nat} (h : Fc w W B) (hb : Below W.heap.size W W') : Fc w W' B := ⟨h.r.of_block (hb.block _ h.r.lt), h.b.trans (hb.mono (Nat.le_of_lt h.r.lt))⟩
theorem Fc.start (w : World) : Fc w (w.alloc (.cells #[.slice none 0 0, .int .i64 0] 35)) w.heap.size := by
  refine ⟨World.rowIs_alloc w #[.slice none 0 0, .int .i64 0] 35 _ (fun i hi => ?_), (Below.refl _ _).alloc (Nat.le_refl _) _⟩
  rcases (by simp at hi; omega : i = 0 ∨ i = 1) with rfl | rfl <;> rfl
theorem Fc.facts {w W : World} {B : Nat} (h : Fc w W B) : W.cell? ⟨B, 0, none⟩ = some (.slice none 0 0) ∧ W.cell? ⟨B, 1, none⟩ = some (.int .i64 0) ∧ (∀ i, W.frozen? ⟨B, i, none⟩ = false) :=
  ⟨h.r.cell (i := 0) (by omega), h.r.cell (i := 1) (by omega), fun i => h.r.frozen i⟩
theorem Fc.fin {w W : World} {B : Nat} (h : Fc w W B) {v : Value} {o : Option (Int × Int)} (hv : RErr W v o) (a b : Value) : RErr ((W.setCell ⟨B, 0, none⟩ a).setCell ⟨B, 1, none⟩ b) v o ∧ Below B w ((W.setCell ⟨B, 0, none⟩ a).setCell ⟨B, 1, none⟩ b) := by
  have n := hv.ne h.facts.1 (fun s h => by cases h)
  exact ⟨RErr.set (RErr.set hv n) n, (h.b.setCell (p := ⟨B, 0, none⟩) (Nat.le_refl _) _).setCell (p := ⟨B, 1, none⟩) (Nat.le_refl _) _⟩
set_option maxRecDepth 100000 in
set_option maxHeartbeats 2000000 in
theorem rkey_none (w : World) (vr : Int) : Calls Tryz.prog 16 #[.int .i64 vr, .string ⟨#[]⟩] w (PostG w none) := by
  have cN := fun W => none34_any W
  obtain ⟨B, hB⟩ : ∃ B, w.heap.size = B := ⟨_, rfl⟩
  obtain ⟨W0, hW0⟩ : ∃ W0, w.alloc (.cells #[.slice none 0 0, .int .i64 0] 35) = W0 := ⟨_, rfl⟩
  have F0 : Hid (Fc w W0 B) := by show Fc _ _ _; rw [← hW0, ← hB]; exact Fc.start w
  go_enter Tryz.func16, Tryz.ntmps16
  go_wp2_with (go_at_call 27; refine Stop.mk ?_)
  all_goals
    refine Stop.out ((cN _).mono ?_)
    rintro e W1 ⟨rfl, hb⟩
    have F1 : Hid (Fc w W1 B) := F0.out.on hb
    obtain ⟨z0, z1, zf⟩ := F1.out.facts
    have hE := F1.out.fin (v := .agg #[.slice none 0 0, .int .i64 0]) (o := none) rfl (.slice none 0 0) (.int .i64 0)
    have HE : Hid _ := hE
    clear hb hW0 cN F0 hE
    go_wp2
    refine bodyPost_ret (v := .agg #[.slice none 0 0, .int .i64 0]) (by simp [results, Tryz.results16, go_sem, z0, z1]) rfl ⟨_, rfl, HE.out.1, by rw [hB]; exact HE.out.2⟩
set_option maxRecDepth 100000 in
set_option maxHeartbeats 2000000 in
theorem rkey_kind (w : World) (vr : Int) (hv : vr ≤ 0 ∨ 28 < vr ∨ vr = 18) (key : ByteArray) (hk0 : key.size ≠ 0) : Calls Tryz.prog 16 #[.int .i64 vr, .string key] w (PostG w (some (0, 105))) := by
  have cN := fun W => no_any 0 105 W
  have hke := text_some hk0
  obtain ⟨B, hB⟩ : ∃ B, w.heap.size = B := ⟨_, rfl⟩
  obtain ⟨W0, hW0⟩ : ∃ W0, w.alloc (.cells #[.slice none 0 0, .int .i64 0] 35) = W0 := ⟨_, rfl⟩
  have F0 : Hid (Fc w W0 B) := by show Fc _ _ _; rw [← hW0, ← hB]; exact Fc.start w
  clear hk0
  have fin : ∀ {W1 : World} {v : Value}, RErr W1 v (some (0, 105)) → Fc w W1 B → ∃ g k, v = .agg #[.slice (some ⟨g, 0, none⟩) 1 k, .int .i64 105] := fun h _ => by obtain ⟨g, k, rfl, _⟩ := h; exact ⟨g, k, rfl⟩
  by_cases h1 : vr ≤ 0
  · clear hv
    go_enter Tryz.func16, Tryz.ntmps16
    go_wp2_with (go_at_call 31; refine Stop.mk ?_)
    refine Stop.out ((cN _).mono ?_)
    rintro e W1 ⟨v, rfl, hv1, hb⟩
    have F1 : Hid (Fc w W1 B) := F0.out.on hb
    obtain ⟨g, k, rfl⟩ := fin hv1 F1.out
    obtain ⟨z0, z1, zf⟩ := F1.out.facts
    have HE : Hid _ := F1.out.fin hv1 (.slice (some ⟨g, 0, none⟩) 1 k) (.int .i64 105)
    clear hb hW0 cN F0 fin hv1
    go_wp2
    refine bodyPost_ret (v := .agg #[.slice (some ⟨g, 0, none⟩) 1 k, .int .i64 105]) (by simp [results, Tryz.results16, go_sem, z0, z1]) rfl ⟨_, rfl, HE.out.1, by rw [hB]; exact HE.out.2⟩
  · by_cases h2 : vr > 28
    · clear hv
      go_enter Tryz.func16, Tryz.ntmps16
      go_wp2_with (go_at_call 31; refine Stop.mk ?_)
      refine Stop.out ((cN _).mono ?_)
      rintro e W1 ⟨v, rfl, hv1, hb⟩
      have F1 : Hid (Fc w W1 B) := F0.out.on hb
      obtain ⟨g, k, rfl⟩ := fin hv1 F1.out
      obtain ⟨z0, z1, zf⟩ := F1.out.facts
      have HE : Hid _ := F1.out.fin hv1 (.slice (some ⟨g, 0, none⟩) 1 k) (.int .i64 105)
      clear hb hW0 cN F0 fin hv1
      go_wp2
      refine bodyPost_ret (v := .agg #[.slice (some ⟨g, 0, none⟩) 1 k, .int .i64 105]) (by simp [results, Tryz.results16, go_sem, z0, z1]) rfl ⟨_, rfl, HE.out.1, by rw [hB]; exact HE.out.2⟩
    · obtain rfl : vr = 18 := by omega
      clear hv h1 h2
      go_enter Tryz.func16, Tryz.ntmps16
      go_wp2_with (go_at_call 31; refine Stop.mk ?_)
      refine Stop.out ((cN _).mono ?_)
      rintro e W1 ⟨v, rfl, hv1, hb⟩
      have F1 : Hid (Fc w W1 B) := F0.out.on hb
      obtain ⟨g, k, rfl⟩ := fin hv1 F1.out
      obtain ⟨z0, z1, zf⟩ := F1.out.facts
      have HE : Hid _ := F1.out.fin hv1 (.slice (some ⟨g, 0, none⟩) 1 k) (.int .i64 105)
      clear hb hW0 cN F0 fin hv1
      go_wp2
      refine bodyPost_ret (v := .agg #[.slice (some ⟨g, 0, none⟩) 1 k, .int .i64 105]) (by simp [results, Tryz.results16, go_sem, z0, z1]) rfl ⟨_, rfl, HE.out.1, by rw [hB]; exact HE.out.2⟩
end Go.Proofs.YtehgeninocbpeaaGreatDoor.Tm

namespace Go.Proofs.YtehgeninocbpeaaGreatDoor.Tm
open Go Go.Proofs Go.RowKit
structure Kc (w W : World) (B C : Nat) : Prop where
  F : Fc w W B
  c : W.rowIs C 35 2 fN
  lt : B < C
theorem Kc.on {w W W' : World} {B C : Nat} (h : Kc w W B C) (hb : Below W.heap.size W W') : Kc w W' B C := ⟨h.F.on hb, h.c.of_block (hb.block _ h.c.lt), h.lt⟩
theorem Kc.start {w W : World} {B : Nat} (h : Fc w W B) : Kc w (W.alloc (.cells #[.slice none 0 0, .int .i64 0] 35)) B W.heap.size :=
  ⟨h.on ((Below.refl _ _).alloc (Nat.le_refl _) _), (Fc.start W).r, h.r.lt⟩
theorem Kc.facts {w W : World} {B C : Nat} (h : Kc w W B C) : W.cell? ⟨C, 0, none⟩ = some (.slice none 0 0) ∧ W.cell? ⟨C, 1, none⟩ = some (.int .i64 0) ∧ (∀ i, W.frozen? ⟨C, i, none⟩ = false) :=
  ⟨h.c.cell (i := 0) (by omega), h.c.cell (i := 1) (by omega), fun i => h.c.frozen i⟩
theorem Kc.put {w W : World} {B C : Nat} (h : Kc w W B C) {a b : Value} {o : Option (Int × Int)} (hv : RErr W (.agg #[a, b]) o) :
    Fc w ((W.setCell ⟨C, 0, none⟩ a).setCell ⟨C, 1, none⟩ b) B ∧ RErr ((W.setCell ⟨C, 0, none⟩ a).setCell ⟨C, 1, none⟩ b) (.agg #[a, b]) o ∧ ((W.setCell ⟨C, 0, none⟩ a).setCell ⟨C, 1, none⟩ b).cell? ⟨C, 0, none⟩ = some a ∧ ((W.setCell ⟨C, 0, none⟩ a).setCell ⟨C, 1, none⟩ b).cell? ⟨C, 1, none⟩ = some b := by
  have n := hv.ne h.facts.1 (fun s h => by cases h)
  have hlt := h.lt
  have r := (h.c.set 0 a).set 1 b
  refine ⟨⟨(h.F.r.setOther (by show B ≠ C; omega) _).setOther (by show B ≠ C; omega) _, (h.F.b.setCell (p := ⟨C, 0, none⟩) (Nat.le_of_lt hlt) _).setCell (p := ⟨C, 1, none⟩) (Nat.le_of_lt hlt) _⟩, RErr.set (RErr.set hv n) n, ?_, ?_⟩
  · exact r.cell (i := 0) (by omega)
  · exact r.cell (i := 1) (by omega)
set_option maxRecDepth 100000 in
set_option maxHeartbeats 2000000 in
theorem rkey_5 (w : World) (key : ByteArray) (hk : key.size ≤ 2097152) (hk0 : key.size ≠ 0) : Calls Tryz.prog 16 #[.int .i64 5, .string key] w (PostG w (ask 5 key).2) := by
  have cN := fun W => none34_any W
  have cA := fun W => asked7_5 W key (by omega)
  have hke := text_some hk0
  unfold sp at cA
  generalize (ask 5 key).1.1 = X1 at *
  generalize (ask 5 key).1.2 = X2 at *
  generalize (ask 5 key).2 = o at *
  obtain ⟨B, hB⟩ : ∃ B, w.heap.size = B := ⟨_, rfl⟩
  obtain ⟨W0, hW0⟩ : ∃ W0, w.alloc (.cells #[.slice none 0 0, .int .i64 0] 35) = W0 := ⟨_, rfl⟩
  have F0 : Hid (Fc w W0 B) := by show Fc _ _ _; rw [← hW0, ← hB]; exact Fc.start w
  clear hk0
  go_enter Tryz.func16, Tryz.ntmps16
  go_wp2_with (go_at_call 27; refine Stop.mk ?_)
  refine Stop.out ((cN _).mono ?_)
  rintro e W1 ⟨rfl, hb⟩
  have F1 : Hid (Fc w W1 B) := F0.out.on hb
  clear hW0 F0 hb cN
  go_upto_region 8 with fail
  obtain ⟨C, hC⟩ : ∃ C, W1.heap.size = C := ⟨_, rfl⟩
  obtain ⟨W2, hW2⟩ : ∃ W2, W1.alloc (.cells #[.slice none 0 0, .int .i64 0] 35) = W2 := ⟨_, rfl⟩
  have K2 : Hid (Kc w W2 B C) := by show Kc _ _ _ _; rw [← hW2, ← hC]; exact Kc.start F1.out
  rw [hW2, hC]
  clear hW2 hC F1
  go_wp2_with (go_at_call 32; refine Stop.mk ?_)
  refine Stop.out ((cA W2).mono ?_)
  rintro e W3 ⟨v, rfl, hv, hb3⟩
  have K3 : Hid (Kc w W3 B C) := K2.out.on hb3
  obtain ⟨p, l, k, d, rfl⟩ := RErr.shape hv
  obtain ⟨y0, y1, yf⟩ := K3.out.facts
  have HP : Hid _ := K3.out.put hv
  clear K2 hb3 hv cA
  go_upto_region 17 with fail
  obtain ⟨W4, hW4⟩ : ∃ W4, (W3.setCell ⟨C, 0, none⟩ (.slice p l k)).setCell ⟨C, 1, none⟩ (.int .i64 d) = W4 := ⟨_, rfl⟩
  rw [hW4]
  obtain ⟨F4, hv4, q0, q1⟩ := HP.out
  rw [hW4] at F4 hv4 q0 q1
  have HE : Hid _ := F4.fin hv4 (.slice p l k) (.int .i64 d)
  obtain ⟨z0, z1, zf⟩ := F4.facts
  clear hW4 HP K3 y0 y1 yf hv4 F4
  go_wp2
  refine bodyPost_ret (v := .agg #[.slice p l k, .int .i64 d]) (by simp [results, Tryz.results16, go_sem, z0, z1]) rfl ⟨_, rfl, HE.out.1, by rw [hB]; exact HE.out.2⟩
set_option maxRecDepth 100000 in
set_option maxHeartbeats 2000000 in
theorem rkey_7 (w : World) (key : ByteArray) (hk : key.size ≤ 2097152) (hk0 : key.size ≠ 0) : Calls Tryz.prog 16 #[.int .i64 7, .string key] w (PostG w (ask 7 key).2) := by
  have cN := fun W => none34_any W
  have cA := fun W => asked7_7 W key (by omega)
  have hke := text_some hk0
  unfold sp at cA
  generalize (ask 7 key).1.1 = X1 at *
  generalize (ask 7 key).1.2 = X2 at *
  generalize (ask 7 key).2 = o at *
  obtain ⟨B, hB⟩ : ∃ B, w.heap.size = B := ⟨_, rfl⟩
  obtain ⟨W0, hW0⟩ : ∃ W0, w.alloc (.cells #[.slice none 0 0, .int .i64 0] 35) = W0 := ⟨_, rfl⟩
  have F0 : Hid (Fc w W0 B) := by show Fc _ _ _; rw [← hW0, ← hB]; exact Fc.start w
  clear hk0
  go_enter Tryz.func16, Tryz.ntmps16
  go_wp2_with (go_at_call 27; refine Stop.mk ?_)
  refine Stop.out ((cN _).mono ?_)
  rintro e W1 ⟨rfl, hb⟩
  have F1 : Hid (Fc w W1 B) := F0.out.on hb
  clear hW0 F0 hb cN
  go_upto_region 8 with fail
  obtain ⟨C, hC⟩ : ∃ C, W1.heap.size = C := ⟨_, rfl⟩
  obtain ⟨W2, hW2⟩ : ∃ W2, W1.alloc (.cells #[.slice none 0 0, .int .i64 0] 35) = W2 := ⟨_, rfl⟩
  have K2 : Hid (Kc w W2 B C) := by show Kc _ _ _ _; rw [← hW2, ← hC]; exact Kc.start F1.out
  rw [hW2, hC]
  clear hW2 hC F1
  go_wp2_with (go_at_call 32; refine Stop.mk ?_)
  refine Stop.out ((cA W2).mono ?_)
  rintro e W3 ⟨v, rfl, hv, hb3⟩
  have K3 : Hid (Kc w W3 B C) := K2.out.on hb3
  obtain ⟨p, l, k, d, rfl⟩ := RErr.shape hv
  obtain ⟨y0, y1, yf⟩ := K3.out.facts
  have HP : Hid _ := K3.out.put hv
  clear K2 hb3 hv cA
  go_upto_region 17 with fail
  obtain ⟨W4, hW4⟩ : ∃ W4, (W3.setCell ⟨C, 0, none⟩ (.slice p l k)).setCell ⟨C, 1, none⟩ (.int .i64 d) = W4 := ⟨_, rfl⟩
  rw [hW4]
  obtain ⟨F4, hv4, q0, q1⟩ := HP.out
  rw [hW4] at F4 hv4 q0 q1
  have HE : Hid _ := F4.fin hv4 (.slice p l k) (.int .i64 d)
  obtain ⟨z0, z1, zf⟩ := F4.facts
  clear hW4 HP K3 y0 y1 yf hv4 F4
  go_wp2
  refine bodyPost_ret (v := .agg #[.slice p l k, .int .i64 d]) (by simp [results, Tryz.results16, go_sem, z0, z1]) rfl ⟨_, rfl, HE.out.1, by rw [hB]; exact HE.out.2⟩
set_option maxRecDepth 100000 in
set_option maxHeartbeats 2000000 in
theorem rkey_21 (w : World) (key : ByteArray) (hk : key.size ≤ 2097152) (hk0 : key.size ≠ 0) : Calls Tryz.prog 16 #[.int .i64 21, .string key] w (PostG w (ask 21 key).2) := by
  have cN := fun W => none34_any W
  have cA := fun W => asked7_21 W key (by omega)
  have hke := text_some hk0
  unfold sp at cA
  generalize (ask 21 key).1.1 = X1 at *
  generalize (ask 21 key).1.2 = X2 at *
  generalize (ask 21 key).2 = o at *
  obtain ⟨B, hB⟩ : ∃ B, w.heap.size = B := ⟨_, rfl⟩
  obtain ⟨W0, hW0⟩ : ∃ W0, w.alloc (.cells #[.slice none 0 0, .int .i64 0] 35) = W0 := ⟨_, rfl⟩
  have F0 : Hid (Fc w W0 B) := by show Fc _ _ _; rw [← hW0, ← hB]; exact Fc.start w
  clear hk0
  go_enter Tryz.func16, Tryz.ntmps16
  go_wp2_with (go_at_call 27; refine Stop.mk ?_)
  refine Stop.out ((cN _).mono ?_)
  rintro e W1 ⟨rfl, hb⟩
  have F1 : Hid (Fc w W1 B) := F0.out.on hb
  clear hW0 F0 hb cN
  go_upto_region 8 with fail
  obtain ⟨C, hC⟩ : ∃ C, W1.heap.size = C := ⟨_, rfl⟩
  obtain ⟨W2, hW2⟩ : ∃ W2, W1.alloc (.cells #[.slice none 0 0, .int .i64 0] 35) = W2 := ⟨_, rfl⟩
  have K2 : Hid (Kc w W2 B C) := by show Kc _ _ _ _; rw [← hW2, ← hC]; exact Kc.start F1.out
  rw [hW2, hC]
  clear hW2 hC F1
  go_wp2_with (go_at_call 32; refine Stop.mk ?_)
  refine Stop.out ((cA W2).mono ?_)
  rintro e W3 ⟨v, rfl, hv, hb3⟩
  have K3 : Hid (Kc w W3 B C) := K2.out.on hb3
  obtain ⟨p, l, k, d, rfl⟩ := RErr.shape hv
  obtain ⟨y0, y1, yf⟩ := K3.out.facts
  have HP : Hid _ := K3.out.put hv
  clear K2 hb3 hv cA
  go_upto_region 17 with fail
  obtain ⟨W4, hW4⟩ : ∃ W4, (W3.setCell ⟨C, 0, none⟩ (.slice p l k)).setCell ⟨C, 1, none⟩ (.int .i64 d) = W4 := ⟨_, rfl⟩
  rw [hW4]
  obtain ⟨F4, hv4, q0, q1⟩ := HP.out
  rw [hW4] at F4 hv4 q0 q1
  have HE : Hid _ := F4.fin hv4 (.slice p l k) (.int .i64 d)
  obtain ⟨z0, z1, zf⟩ := F4.facts
  clear hW4 HP K3 y0 y1 yf hv4 F4
  go_wp2
  refine bodyPost_ret (v := .agg #[.slice p l k, .int .i64 d]) (by simp [results, Tryz.results16, go_sem, z0, z1]) rfl ⟨_, rfl, HE.out.1, by rw [hB]; exact HE.out.2⟩
set_option maxRecDepth 100000 in
set_option maxHeartbeats 2000000 in
theorem rkey_whole (w : World) (key : ByteArray) (hk0 : key.size ≠ 0) : Calls Tryz.prog 16 #[.int .i64 10, .string key] w (PostG w (Nu.WR key).2) := by
  have cN := fun W => none34_any W
  have cA := fun W => rparse33 W key
  have hke := text_some hk0
  generalize (Nu.WR key).1 = X1 at *
  generalize (Nu.WR key).2 = o at *
  obtain ⟨B, hB⟩ : ∃ B, w.heap.size = B := ⟨_, rfl⟩
  obtain ⟨W0, hW0⟩ : ∃ W0, w.alloc (.cells #[.slice none 0 0, .int .i64 0] 35) = W0 := ⟨_, rfl⟩
  have F0 : Hid (Fc w W0 B) := by show Fc _ _ _; rw [← hW0, ← hB]; exact Fc.start w
  clear hk0
  go_enter Tryz.func16, Tryz.ntmps16
  go_wp2_with (go_at_call 27; refine Stop.mk ?_)
  refine Stop.out ((cN _).mono ?_)
  rintro e W1 ⟨rfl, hb⟩
  have F1 : Hid (Fc w W1 B) := F0.out.on hb
  clear hW0 F0 hb cN
  go_upto_region 8 with fail
  obtain ⟨C, hC⟩ : ∃ C, W1.heap.size = C := ⟨_, rfl⟩
  obtain ⟨W2, hW2⟩ : ∃ W2, W1.alloc (.cells #[.slice none 0 0, .int .i64 0] 35) = W2 := ⟨_, rfl⟩
  have K2 : Hid (Kc w W2 B C) := by show Kc _ _ _ _; rw [← hW2, ← hC]; exact Kc.start F1.out
  rw [hW2, hC]
  clear hW2 hC F1
  go_wp2_with (go_at_call 33; refine Stop.mk ?_)
  refine Stop.out ((cA W2).mono ?_)
  rintro e W3 ⟨v, rfl, hv, hb3⟩
  have K3 : Hid (Kc w W3 B C) := K2.out.on hb3
  obtain ⟨p, l, k, d, rfl⟩ := RErr.shape hv
  obtain ⟨y0, y1, yf⟩ := K3.out.facts
  have HP : Hid _ := K3.out.put hv
  clear K2 hb3 hv cA
  go_upto_region 17 with fail
  obtain ⟨W4, hW4⟩ : ∃ W4, (W3.setCell ⟨C, 0, none⟩ (.slice p l k)).setCell ⟨C, 1, none⟩ (.int .i64 d) = W4 := ⟨_, rfl⟩
  rw [hW4]
  obtain ⟨F4, hv4, q0, q1⟩ := HP.out
  rw [hW4] at F4 hv4 q0 q1
  have HE : Hid _ := F4.fin hv4 (.slice p l k) (.int .i64 d)
  obtain ⟨z0, z1, zf⟩ := F4.facts
  clear hW4 HP K3 y0 y1 yf hv4 F4
  go_wp2
  refine bodyPost_ret (v := .agg #[.slice p l k, .int .i64 d]) (by simp [results, Tryz.results16, go_sem, z0, z1]) rfl ⟨_, rfl, HE.out.1, by rw [hB]; exact HE.out.2⟩
set_option maxRecDepth 100000 in
set_option maxHeartbeats 2000000 in
theorem rkey_dec (w : World) (key : ByteArray) (hk0 : key.size ≠ 0) : Calls Tryz.prog 16 #[.int .i64 6, .string key] w (PostG w (nmR key).2) := by
  have cN := fun W => none34_any W
  have cA := fun W => rparse34 W key
  have hke := text_some hk0
  generalize (nmR key).1 = X1 at *
  unfold Nu.nv at cA
  generalize (nmR key).2 = o at *
  obtain ⟨B, hB⟩ : ∃ B, w.heap.size = B := ⟨_, rfl⟩
  obtain ⟨W0, hW0⟩ : ∃ W0, w.alloc (.cells #[.slice none 0 0, .int .i64 0] 35) = W0 := ⟨_, rfl⟩
  have F0 : Hid (Fc w W0 B) := by show Fc _ _ _; rw [← hW0, ← hB]; exact Fc.start w
  clear hk0
  go_enter Tryz.func16, Tryz.ntmps16
  go_wp2_with (go_at_call 27; refine Stop.mk ?_)
  refine Stop.out ((cN _).mono ?_)
  rintro e W1 ⟨rfl, hb⟩
  have F1 : Hid (Fc w W1 B) := F0.out.on hb
  clear hW0 F0 hb cN
  go_upto_region 8 with fail
  obtain ⟨C, hC⟩ : ∃ C, W1.heap.size = C := ⟨_, rfl⟩
  obtain ⟨W2, hW2⟩ : ∃ W2, W1.alloc (.cells #[.slice none 0 0, .int .i64 0] 35) = W2 := ⟨_, rfl⟩
  have K2 : Hid (Kc w W2 B C) := by show Kc _ _ _ _; rw [← hW2, ← hC]; exact Kc.start F1.out
  rw [hW2, hC]
  clear hW2 hC F1
  go_wp2_with (go_at_call 34; refine Stop.mk ?_)
  refine Stop.out ((cA W2).mono ?_)
  rintro e W3 ⟨v, rfl, hv, hb3⟩
  have K3 : Hid (Kc w W3 B C) := K2.out.on hb3
  obtain ⟨p, l, k, d, rfl⟩ := RErr.shape hv
  obtain ⟨y0, y1, yf⟩ := K3.out.facts
  have HP : Hid _ := K3.out.put hv
  clear K2 hb3 hv cA
  go_upto_region 17 with fail
  obtain ⟨W4, hW4⟩ : ∃ W4, (W3.setCell ⟨C, 0, none⟩ (.slice p l k)).setCell ⟨C, 1, none⟩ (.int .i64 d) = W4 := ⟨_, rfl⟩
  rw [hW4]
  obtain ⟨F4, hv4, q0, q1⟩ := HP.out
  rw [hW4] at F4 hv4 q0 q1
  have HE : Hid _ := F4.fin hv4 (.slice p l k) (.int .i64 d)
  obtain ⟨z0, z1, zf⟩ := F4.facts
  clear hW4 HP K3 y0 y1 yf hv4 F4
  go_wp2
  refine bodyPost_ret (v := .agg #[.slice p l k, .int .i64 d]) (by simp [results, Tryz.results16, go_sem, z0, z1]) rfl ⟨_, rfl, HE.out.1, by rw [hB]; exact HE.out.2⟩
set_option maxRecDepth 100000 in
set_option maxHeartbeats 2000000 in
theorem rkey_else (w : World) (vr : Int) (h1 : 1 ≤ vr) (h28 : vr ≤ 28) (h18 : vr ≠ 18) (hs : ¬ isSp vr) (h10 : vr ≠ 10) (h6 : vr ≠ 6) (key : ByteArray) (hk0 : key.size ≠ 0) : Calls Tryz.prog 16 #[.int .i64 vr, .string key] w (PostG w none) := by
  have cN := fun W => none34_any W
  have hke := text_some hk0
  obtain ⟨B, hB⟩ : ∃ B, w.heap.size = B := ⟨_, rfl⟩
  obtain ⟨W0, hW0⟩ : ∃ W0, w.alloc (.cells #[.slice none 0 0, .int .i64 0] 35) = W0 := ⟨_, rfl⟩
  have F0 : Hid (Fc w W0 B) := by show Fc _ _ _; rw [← hW0, ← hB]; exact Fc.start w
  clear hk0
  have e1 : ¬ (vr ≤ 0) := by omega
  have e2 : ¬ (vr > 28) := by omega
  have e18 : (vr == 18) = false := by simpa using h18
  have e10 : (vr == 10) = false := by simpa using h10
  have e6 : (vr == 6) = false := by simpa using h6
  have e5 : (vr == 5) = false := by have : vr ≠ 5 := fun h => hs (.inl h); simpa using this
  have e7 : (vr == 7) = false := by have : vr ≠ 7 := fun h => hs (.inr (.inl h)); simpa using this
  have e21 : (vr == 21) = false := by have : vr ≠ 21 := fun h => hs (.inr (.inr h)); simpa using this
  clear h1 h28 h18 hs h10 h6
  go_enter Tryz.func16, Tryz.ntmps16
  go_wp2_with (go_at_call 27; refine Stop.mk ?_)
  refine Stop.out ((cN _).mono ?_)
  rintro e W1 ⟨rfl, hb⟩
  have F1 : Hid (Fc w W1 B) := F0.out.on hb
  clear hW0 F0 hb cN
  go_upto_region 8 with fail
  obtain ⟨C, hC⟩ : ∃ C, W1.heap.size = C := ⟨_, rfl⟩
  obtain ⟨W2, hW2⟩ : ∃ W2, W1.alloc (.cells #[.slice none 0 0, .int .i64 0] 35) = W2 := ⟨_, rfl⟩
  have K2 : Hid (Kc w W2 B C) := by show Kc _ _ _ _; rw [← hW2, ← hC]; exact Kc.start F1.out
  rw [hW2, hC]
  clear hW2 hC F1
  obtain ⟨y0, y1, yf⟩ := K2.out.facts
  obtain ⟨z0, z1, zf⟩ := K2.out.F.facts
  have HE : Hid _ := K2.out.F.fin (v := .agg #[.slice none 0 0, .int .i64 0]) (o := none) rfl (.slice none 0 0) (.int .i64 0)
  go_wp2
  refine bodyPost_ret (v := .agg #[.slice none 0 0, .int .i64 0]) (by simp [results, Tryz.results16, go_sem, z0, z1]) rfl ⟨_, rfl, HE.out.1, by rw [hB]; exact HE.out.2⟩
theorem rkey_any (w : World) (vr : Int) (key : ByteArray) (hk : key.size ≤ 2097152) : Calls Tryz.prog 16 #[.int .i64 vr, .string key] w (PostG w (kO vr key)) := by
  unfold kO
  by_cases hk0 : key.size = 0
  · obtain rfl : key = ⟨#[]⟩ := ByteArray.ext (Array.eq_empty_of_size_eq_zero hk0)
    rw [if_pos hk0]
    exact rkey_none w vr
  rw [if_neg hk0]
  rcases kinds vr with ⟨h, hv⟩ | ⟨h1, h28, h18, h⟩
  · rw [if_pos h]; exact rkey_kind w vr hv key hk0
  · rcases h with ⟨h, _, hs⟩ | ⟨h, _, rfl⟩ | ⟨h, _, hs⟩ | ⟨h, _, hs⟩ | ⟨h, _, rfl⟩ | ⟨h, _, rfl⟩ | ⟨h, _, rfl⟩ | ⟨h, _, hs⟩
    · rw [if_neg (by omega), if_pos h]
      rcases hs with rfl | rfl | rfl
      · exact rkey_5 w key hk hk0
      · exact rkey_7 w key hk hk0
      · exact rkey_21 w key hk hk0
    · rw [if_neg (by omega), if_neg (by omega), if_neg (by omega), if_neg (by omega)]
      exact rkey_else w 15 (by omega) (by omega) (by omega) (by unfold isSp; omega) (by omega) (by omega) key hk0
    · rw [if_neg (by omega), if_neg (by omega), if_neg (by omega), if_neg (by omega)]
      exact rkey_else w vr h1 h28 h18 (by unfold isSp; omega) (by omega) (by omega) key hk0
    · rw [if_neg (by omega), if_neg (by omega), if_neg (by omega), if_neg (by omega)]
      exact rkey_else w vr h1 h28 h18 (by unfold isSp; omega) (by omega) (by omega) key hk0
    · rw [if_neg (by omega), if_neg (by omega), if_neg (by omega), if_neg (by omega)]
      exact rkey_else w 23 (by omega) (by omega) (by omega) (by unfold isSp; omega) (by omega) (by omega) key hk0
    · rw [if_neg (by omega), if_neg (by omega), if_pos h]
      exact rkey_whole w key hk0
    · rw [if_neg (by omega), if_neg (by omega), if_neg (by omega), if_pos h]
      exact rkey_dec w key hk0
    · rw [if_neg (by omega), if_neg (by omega), if_neg (by omega), if_neg (by omega)]
      exact rkey_else w vr h1 h28 h18 (by unfold isSp; omega) (by omega) (by omega) key hk0
end Go.Proofs.YtehgeninocbpeaaGreatDoor.Tm
