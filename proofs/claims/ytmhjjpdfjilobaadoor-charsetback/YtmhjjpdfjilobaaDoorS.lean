import Derived.Test.YtmhjjpdfjilobaaDoorQ
/-
  DERIVED. A set's terms, by the program and by the document.
-/
namespace Go.Proofs.YtmhjjpdfjilobaaDoor
open Go Go.Proofs Go.RowKit

def termsOf (R : List Row) : List ByteArray := R.map fun r => r.2.1
theorem termsOf_get {R : List Row} {k : Nat} {r : Row} (h : R[k]? = some r) : (termsOf R)[k]? = some r.2.1 := by unfold termsOf; rw [List.getElem?_map, h]; rfl

set_option maxRecDepth 100000 in
set_option maxHeartbeats 1000000 in
theorem terms_any (w : World) (q : Nat) (v : Value) (r0 : Row) (R0 : List Row) (x : Bool) (hR : (r0 :: R0).length ≤ 6) (h : SetAt w q v (r0 :: R0) x) :
    Calls Tryd.prog 9 #[.pointer (some ⟨q, 0, none⟩)] w fun e w' => ∃ u, e = .returned u ∧ w'.ownsRow w.heap.size 9 1 u (r0 :: R0).length (strsC (termsOf (r0 :: R0))) ∧ Below w.heap.size w w' := by
  have c25 := isMade_yes w q v r0 R0 x h
  generalize hRR : (r0 :: R0) = R at h hR ⊢
  obtain ⟨a, cap, rfl⟩ := h.val
  have HS : Hid (SetAt w q (.slice a R.length cap) R x) := h
  have h0 := h.c0
  obtain ⟨n, hn⟩ : ∃ n, R.length = n := ⟨_, rfl⟩
  have HN : Hid (R.length = n) := hn
  rw [hn] at h0 hR ⊢
  obtain ⟨i0, hi, hz0, hz1, hz2⟩ := info_parts strInfo
  obtain ⟨B, hB⟩ : ∃ B, w.heap.size = B := ⟨_, rfl⟩
  rw [hB]
  have HB : Hid (B = w.heap.size) := hB.symm
  clear h hn hRR
  go_enter Tryd.func9, Tryd.ntmps9
  go_wp2_with (go_at_call 25; refine c25.mono ?_; rintro e W ⟨rfl, rfl⟩)
  go_loopw [3, 14] (fun u y wr => ∃ k : Nat, y = .int .i64 (k : Int) ∧ k ≤ n ∧ Hid (wr.ownsRow B 9 1 u k (strsC ((termsOf R).take k))) ∧ Hid (Below B w wr)) (fun _ y _ => n - (intOf y).toNat)
  case atStart => exact ⟨0, rfl, by omega, World.ownsRow_nil _ _ _ _, Below.refl _ _⟩
  case round =>
    obtain ⟨k, rfl, hk, HO, HBr⟩ := hrel
    by_cases hkn : k < n
    · have hkR : k < R.length := by rw [HN.out]; exact hkn
      obtain ⟨r, hr⟩ : ∃ r, R[k]? = some r := ⟨R[k], List.getElem?_eq_getElem hkR⟩
      have hSr := HS.out.on (HB.out ▸ HBr.out)
      obtain ⟨g, rfl, hng, r0, r1, r2, r3, r4⟩ := hSr.row k r hr
      have HT : Hid ((termsOf R)[k]? = some r.2.1) := termsOf_get hr
      clear hr hSr hng
      obtain ⟨rn, rs, rB⟩ := r
      simp only at r0 r1 r2 r3 r4
      unfold invF at r4
      generalize sp (3 * rn + 2) = E at r2
      generalize mfN rn = jj at r3
      generalize caps rB = P at r4
      obtain ⟨W2, hW2⟩ : ∃ W2, wr.alloc (.cells #[.int .i64 (rn : Int), .string rs, .string E, .func (.func jj) #[] #[], .func (.func 81) #[] P] 62) = W2 := ⟨_, rfl⟩
      have hbs : B ≤ wr.heap.size := by have := HBr.out.size; rw [HB.out]; exact this
      have HB2 : Hid (Below B w W2) := hW2 ▸ HBr.out.alloc hbs _
      have HO2 : Hid (W2.ownsRow B 9 1 u3 k (strsC ((termsOf R).take k))) := hW2 ▸ HO.out.alloc _
      have hb2 : B ≤ (W2.alloc (.cells #[.string rs] 9)).heap.size := by rw [← hW2]; simp; omega
      have hb2' : B ≤ W2.heap.size := by rw [← hW2]; simp; omega
      have e1 : W2.cell? ⟨wr.heap.size, 1, none⟩ = some (.string rs) := by rw [← hW2]; simp
      have hki : (k : Int) < (n : Int) := by omega
      have h63 : k + 1 ≤ maxLen := by unfold maxLen; omega
      have hby : (k + 1) * 16 ≤ 140737488355328 := by omega
      go_wp2_with (first | (at_builtin; refine wpList_append_lies _ rfl (.tmp 18) (.tmp 21) 22 rfl B 9 i0 _ 1 16 Tryd.underlying22 hi hz0 hz1 hz2 rfl (by decide) u3 k (strsC ((termsOf R).take k)) rfl (HO2.out.alloc _) ⟨W2.heap.size, 0, none⟩ 1 1 [.string rs] rfl rfl (World.news_of_block (heap_alloc_new W2 _)) (strs_one [rs]) (by decide) h63 hby hb2 _ rfl ?_) | fail)
      intro g4 cap4 W4 hown4 hgrow4 hat4 hlt4
      rw [strsC_take HT.out] at hown4
      have HO4 : Hid _ := hown4
      have HB4 : Hid (Below B w W4) := by
        refine (HB2.out.alloc hb2' _).trans ⟨hgrow4.os, hgrow4.tape, hgrow4.output, hgrow4.size, fun j hj => hgrow4.block j (by simp; omega) ?_⟩
        intro e
        have := (HO2.out.lt j e.symm).1
        omega
      clear hown4 hgrow4 hat4 hlt4
      go_wp2
      go_roundw
      case rel => exact ⟨k + 1, by simp, by omega, HO4.out, HB4.out⟩
      case measure => simp [intOf]; omega
    · obtain rfl : k = n := by omega
      have hO := HO.out
      rw [List.take_of_length_le (by unfold termsOf; rw [List.length_map, HN.out]; exact Nat.le_refl _)] at hO
      have HO2 : Hid _ := hO
      clear hO
      go_wp2
      go_ret
      exact ⟨_, rfl, HO2.out, HBr.out⟩

def digL (k : Nat) : List UInt8 := [[54], [49, 48, 48], [49, 48, 49], [49, 50, 54], [49, 52, 52], [49, 52, 56], [49, 57, 50]].getD k []
def dig (k : Nat) : ByteArray := ⟨(digL k).toArray⟩
set_option maxRecDepth 100000 in
theorem dig_any (w : World) (k : Nat) (hk : k < 7) : Calls Tryd.prog 26 #[.int .i64 (repN k : Nat)] w fun e w' => e = .returned (.string (dig k)) ∧ w = w' := by
  rcases (by omega : k = 0 ∨ k = 1 ∨ k = 2 ∨ k = 3 ∨ k = 4 ∨ k = 5 ∨ k = 6) with rfl | rfl | rfl | rfl | rfl | rfl | rfl
  all_goals simp only [repN, List.getD_cons_zero, List.getD_cons_succ]
  all_goals go_enter Tryd.func26, Tryd.ntmps26
  all_goals go_wp2
  all_goals go_ret
  all_goals exact ⟨rfl, rfl⟩

/-- A term, as the document writes it. -/
def wri (x : Bool) (k : Nat) : ByteArray := (if x then ⟨#[73, 83, 79, 32, 50, 48, 50, 50, 32, 73, 82, 32]⟩ else ⟨#[73, 83, 79, 95, 73, 82, 32]⟩) ++ dig k
theorem wri_all : ((List.range 7).all fun k => wri false k == sp (3 * k)) = true ∧ ((List.range 6).all fun k => wri true k == sp (3 * k + 1)) = true := by
  constructor <;> decide +kernel

def rterms (N : List (Nat × ByteArray)) (x : Bool) : List ByteArray := N.map fun r => wri x r.1
theorem rterms_get {N : List (Nat × ByteArray)} {x : Bool} {k : Nat} {r : Nat × ByteArray} (h : N[k]? = some r) : (rterms N x)[k]? = some (wri x r.1) := by unfold rterms; rw [List.getElem?_map, h]; rfl

set_option maxRecDepth 100000 in
set_option maxHeartbeats 1000000 in
theorem rterms_any (w : World) (H q : Nat) (v : Value) (N : List (Nat × ByteArray)) (x : Bool) (hR : N.length ≤ 6) (hN7 : ∀ r ∈ N, r.1 < 7) (h : RSetAt w H q v N x) :
    Calls Tryd.prog 11 #[.pointer (some ⟨q, 0, none⟩)] w fun e w' => ∃ u, e = .returned u ∧ w'.ownsRow w.heap.size 9 1 u N.length (strsC (rterms N x)) ∧ Below w.heap.size w w' := by
  obtain ⟨a, cap, rfl⟩ := h.val
  have HS : Hid (RSetAt w H q (.slice a N.length cap) N x) := h
  have HN7 : Hid (∀ r ∈ N, r.1 < 7) := hN7
  obtain ⟨n, hn⟩ : ∃ n, N.length = n := ⟨_, rfl⟩
  have HN : Hid (N.length = n) := hn
  rw [hn] at hR HS ⊢
  obtain ⟨i0, hi, hz0, hz1, hz2⟩ := info_parts strInfo
  obtain ⟨B, hB⟩ : ∃ B, w.heap.size = B := ⟨_, rfl⟩
  rw [hB]
  have HB : Hid (B = w.heap.size) := hB.symm
  clear h hn hN7
  go_enter Tryd.func11, Tryd.ntmps11
  go_wp2
  go_loopw [3, 4] (fun u y wr => ∃ k : Nat, y = .int .i64 (k : Int) ∧ k ≤ n ∧ Hid (wr.ownsRow B 9 1 u k (strsC ((rterms N x).take k))) ∧ Hid (Below B w wr)) (fun _ y _ => n - (intOf y).toNat)
  case atStart => exact ⟨0, rfl, by omega, World.ownsRow_nil _ _ _ _, Below.refl _ _⟩
  case round =>
    obtain ⟨k, rfl, hk, HO, HBr⟩ := hrel
    have hSr := HS.out.on (HB.out ▸ HBr.out)
    have d0 := hSr.c0
    have d1 := hSr.c1
    by_cases hkn : k < n
    · have hkR : k < N.length := by rw [HN.out]; exact hkn
      obtain ⟨r, hr⟩ : ∃ r, N[k]? = some r := ⟨N[k], List.getElem?_eq_getElem hkR⟩
      obtain ⟨g, rfl, hng, r0⟩ := hSr.cell k r hr
      have HT : Hid ((rterms N x)[k]? = some (wri x r.1)) := rterms_get hr
      have c26 := fun W => dig_any W r.1 (HN7.out r (List.mem_of_getElem? hr))
      have hdz : (dig r.1).size ≤ 3 := by
        have h7 := HN7.out r (List.mem_of_getElem? hr)
        rcases (by omega : r.1 = 0 ∨ r.1 = 1 ∨ r.1 = 2 ∨ r.1 = 3 ∨ r.1 = 4 ∨ r.1 = 5 ∨ r.1 = 6) with h | h | h | h | h | h | h <;> rw [h] <;> decide
      clear hr hSr hng
      have hbs : B ≤ wr.heap.size := by have := HBr.out.size; rw [HB.out]; exact this
      have hki : (k : Int) < (n : Int) := by omega
      have h63 : k + 1 ≤ maxLen := by unfold maxLen; omega
      have hby : (k + 1) * 16 ≤ 140737488355328 := by omega
      have HW : Hid (∀ z, z = wri x r.1 → strsC ((rterms N x).take k) ++ [.string z] = strsC ((rterms N x).take (k + 1))) := fun z hz => by rw [hz]; exact strsC_take HT.out
      generalize hD : dig r.1 = D at c26 hdz
      have HD : Hid (dig r.1 = D) := hD
      clear hD
      have z12 : (⟨#[73, 83, 79, 32, 50, 48, 50, 50, 32, 73, 82, 32]⟩ : ByteArray).size = 12 := rfl
      have z7 : (⟨#[73, 83, 79, 95, 73, 82, 32]⟩ : ByteArray).size = 7 := rfl
      cases x with
      | true =>
        have hb2 : B ≤ (wr.alloc (.cells #[.string (⟨#[73, 83, 79, 32, 50, 48, 50, 50, 32, 73, 82, 32]⟩ ++ D)] 9)).heap.size := by simp; omega
        go_wp2_with (first | (go_at_call 26; refine (c26 _).mono ?_; rintro e W ⟨rfl, rfl⟩) | (at_builtin; refine wpList_append_lies _ rfl (.tmp 18) (.tmp 28) 22 rfl B 9 i0 _ 1 16 Tryd.underlying22 hi hz0 hz1 hz2 rfl (by decide) u3 k (strsC ((rterms N true).take k)) rfl (HO.out.alloc _) ⟨wr.heap.size, 0, none⟩ 1 1 [.string (⟨#[73, 83, 79, 32, 50, 48, 50, 50, 32, 73, 82, 32]⟩ ++ D)] rfl rfl (World.news_of_block (heap_alloc_new wr _)) (strs_one [_]) (by decide) h63 hby hb2 _ rfl ?_))
        intro g4 cap4 W4 hown4 hgrow4 hat4 hlt4
        rw [HW.out _ (by unfold wri; rw [HD.out]; rfl)] at hown4
        have HO4 : Hid _ := hown4
        have HB4 : Hid (Below B w W4) := by
          refine (HBr.out.alloc hbs _).trans ⟨hgrow4.os, hgrow4.tape, hgrow4.output, hgrow4.size, fun j hj => hgrow4.block j (by simp; omega) ?_⟩
          intro e
          have := (HO.out.lt j e.symm).1
          omega
        clear hown4 hgrow4 hat4 hlt4
        go_wp2
        go_roundw
        case rel => exact ⟨k + 1, by simp, by omega, HO4.out, HB4.out⟩
        case measure => simp [intOf]; omega
      | false =>
        have hb2 : B ≤ (wr.alloc (.cells #[.string (⟨#[73, 83, 79, 95, 73, 82, 32]⟩ ++ D)] 9)).heap.size := by simp; omega
        go_wp2_with (first | (go_at_call 26; refine (c26 _).mono ?_; rintro e W ⟨rfl, rfl⟩) | (at_builtin; refine wpList_append_lies _ rfl (.tmp 30) (.tmp 40) 22 rfl B 9 i0 _ 1 16 Tryd.underlying22 hi hz0 hz1 hz2 rfl (by decide) u3 k (strsC ((rterms N false).take k)) rfl (HO.out.alloc _) ⟨wr.heap.size, 0, none⟩ 1 1 [.string (⟨#[73, 83, 79, 95, 73, 82, 32]⟩ ++ D)] rfl rfl (World.news_of_block (heap_alloc_new wr _)) (strs_one [_]) (by decide) h63 hby hb2 _ rfl ?_))
        intro g4 cap4 W4 hown4 hgrow4 hat4 hlt4
        rw [HW.out _ (by unfold wri; rw [HD.out]; rfl)] at hown4
        have HO4 : Hid _ := hown4
        have HB4 : Hid (Below B w W4) := by
          refine (HBr.out.alloc hbs _).trans ⟨hgrow4.os, hgrow4.tape, hgrow4.output, hgrow4.size, fun j hj => hgrow4.block j (by simp; omega) ?_⟩
          intro e
          have := (HO.out.lt j e.symm).1
          omega
        clear hown4 hgrow4 hat4 hlt4
        go_wp2
        go_roundw
        case rel => exact ⟨k + 1, by simp, by omega, HO4.out, HB4.out⟩
        case measure => simp [intOf]; omega
    · obtain rfl : k = n := by omega
      have hO := HO.out
      rw [List.take_of_length_le (by unfold rterms; rw [List.length_map, HN.out]; exact Nat.le_refl _)] at hO
      have HO2 : Hid _ := hO
      clear hO hSr
      go_wp2
      go_ret
      exact ⟨_, rfl, HO2.out, HBr.out⟩
end Go.Proofs.YtmhjjpdfjilobaaDoor
