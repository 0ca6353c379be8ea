import Derived.Test.YtghaeolehjgmnaaGreatDoorRf
import Derived.BigQuiet
import Derived.Deep.QuietTactic
/-
  DERIVED. Which repertoire an escape names, by the document: the loop.
-/
namespace Go.Proofs.YtghaeolehjgmnaaGreatDoor
open Go Go.Proofs Go.RowKit

theorem find_skip {α : Type} (p : α → Bool) : ∀ (N : List α) (k : Nat), (∀ a ∈ N.take k, p a = false) → N.find? p = (N.drop k).find? p
  | _, 0, _ => by rw [List.drop_zero]
  | [], k + 1, _ => by simp
  | a :: N, k + 1, h => by
    rw [List.find?_cons, h a (by simp), List.drop_succ_cons]
    exact find_skip p N k (fun b hb => h b (by simp [hb]))

def EscInv (w : World) (N : List (Nat × ByteArray)) (c1 c2 n : Nat) (y : Value) (wr : World) : Prop :=
  ∃ k : Nat, y = .int .i64 (k : Int) ∧ k ≤ n ∧ Below w.heap.size w wr ∧ ∀ a ∈ N.take k, hitE2 c1 c2 a = false

set_option maxRecDepth 100000 in
set_option maxHeartbeats 4000000 in
theorem resc_any (w : World) (H p : Nat) (v : Value) (N : List (Nat × ByteArray)) (x : Bool) (hset : RSetAt w H p v N x) (hN6 : N.length ≤ 6) (hN7 : ∀ r ∈ N, r.1 < 7)
    (b off m cap c1 c2 : Nat) (hm : 3 ≤ m) (h0 : w.cell? ⟨b, off, none⟩ = some (.int .u8 27)) (h1 : w.cell? ⟨b, off + 1, none⟩ = some (.int .u8 (c1 : Int))) (h2 : w.cell? ⟨b, off + 2, none⟩ = some (.int .u8 (c2 : Int))) :
    Calls Tryz.prog 18 #[.pointer (some ⟨p, 0, none⟩), .slice (some ⟨b, off, none⟩) m cap] w fun e w' => e = .returned (.int .i64 (rescS N c1 c2 : Nat)) ∧ Below w.heap.size w w' := by
  obtain ⟨F, hF⟩ : ∃ F, rescS N c1 c2 = F := ⟨_, rfl⟩
  rw [hF]
  unfold rescS at hF
  have hm3 : decide ((m : Int) < 3) = false := by simp; omega
  have hmI : (2 : Int) < (m : Int) := by omega
  have hmI1 : (1 : Int) < (m : Int) := by omega
  have hmI0 : (0 : Int) < (m : Int) := by omega
  by_cases hA : c1 = 40 ∧ c2 = 66
  · obtain ⟨rfl, rfl⟩ := hA
    rw [if_pos (by decide)] at hF
    subst hF
    clear hset hN6 hN7
    go_enter Tryz.func18, Tryz.ntmps18
    go_wp2
    go_ret
    exact ⟨rfl, Below.refl _ _⟩
  · rw [if_neg (by simpa using hA)] at hF
    have hA2 : ((c1 : Int) == 40) = false ∨ (((c1 : Int) == 40) = true ∧ ((c2 : Int) == 66) = false) := by
      by_cases h : c1 = 40
      · exact .inr ⟨by simp; omega, by simp; omega⟩
      · exact .inl (by simp; omega)
    obtain ⟨ao, cp, rfl⟩ := hset.val
    have s0 := hset.c0
    obtain ⟨n, hn⟩ : ∃ n, N.length = n := ⟨_, rfl⟩
    rw [hn] at s0
    have HS : Hid _ := hset
    have HN : Hid (N.length = n) := hn
    have H7 : Hid _ := hN7
    have HF : Hid _ := hF
    have HC : Hid (w.cell? ⟨b, off + 1, none⟩ = some (.int .u8 (c1 : Int)) ∧ w.cell? ⟨b, off + 2, none⟩ = some (.int .u8 (c2 : Int))) := ⟨h1, h2⟩
    have hnI : (n : Int) ≤ 6 := by omega
    clear hset hF hN7 hn
    rcases hA2 with hA2 | ⟨hA2, hA3⟩
    all_goals
      go_enter Tryz.func18, Tryz.ntmps18
      go_wp2
      go_loopw [5] (fun y wr => Hid (EscInv w N c1 c2 n y wr)) (fun y _ => n - (intOf y).toNat)
      case atStart => exact ⟨0, rfl, by omega, Below.refl _ _, by simp⟩
      case round =>
        clear h0 h1 h2
        obtain ⟨k, rfl, hk, hb, hno⟩ := hrel.out
        have z0 := (hb.cell (p := ⟨p, 0, none⟩) (cell_lt s0)).trans s0
        have z1 := (hb.cell (p := ⟨b, off + 1, none⟩) (cell_lt HC.out.1)).trans HC.out.1
        have z2 := (hb.cell (p := ⟨b, off + 2, none⟩) (cell_lt HC.out.2)).trans HC.out.2
        have HB : Hid _ := hb
        have HNo : Hid _ := hno
        by_cases hkn : k < n
        · obtain ⟨r, hr⟩ : ∃ r, N[k]? = some r := ⟨N[k]'(by have := HN.out; omega), List.getElem?_eq_getElem _⟩
          obtain ⟨g, rfl, -, zr⟩ := (HS.out.on hb).cell k r hr
          have hr7 := H7.out r (List.mem_of_getElem? hr)
          have cF := fun W => (final_any W r.1 hr7).mono (fun _ _ h => (⟨h.1, h.2.symm⟩ : _ ∧ _ = W))
          have hfst := repN_first ⟨r.1, hr7⟩
          simp only at hfst
          have hkI : (k : Int) < (n : Int) := by omega
          have hk0 : (0 : Int) ≤ (k : Int) := by omega
          have hhit : hitE2 c1 c2 r = (!(r.1 == 0) && (c1 == 45 && c2 == finN r.1)) := rfl
          have hdr : N.drop k = r :: N.drop (k + 1) := by
            obtain ⟨hl, he⟩ := List.getElem?_eq_some_iff.1 hr
            rw [List.drop_eq_getElem_cons hl, he]
          have htk : ∀ hh : hitE2 c1 c2 r = false, ∀ a ∈ N.take (k + 1), hitE2 c1 c2 a = false := fun hh a ha => by
            rw [List.take_add_one, hr] at ha
            rcases List.mem_append.1 ha with ha | ha
            · exact HNo.out a ha
            · simp at ha; rw [ha]; exact hh
          have hfd : ∀ hh : hitE2 c1 c2 r = true, F = repN r.1 := fun hh => by
            rw [← HF.out, find_skip _ N k HNo.out, hdr, List.find?_cons, hh]
          have HTK : Hid _ := htk
          have HFD : Hid _ := hfd
          have HHit : Hid _ := hhit
          clear htk hfd hhit hdr hb hno hr hr7
          have hcI : (k : Int) + 1 ≤ 6 := by omega
          have hD := fun nq => below_drewN HB.out nq
          have HD : Hid _ := hD
          clear hD
          generalize repN r.1 = rn at *
          generalize finN r.1 = fn at *
          by_cases hr0 : r.1 = 0
          · have hh : hitE2 c1 c2 r = false := by rw [HHit.out]; simp [hr0]
            have q1 : ((rn : Int) != 6) = false := by rw [hfst]; simp [hr0]
            have q2 : ((rn : Int) == 6) = true := by simpa using q1
            have HT := HTK.out hh
            clear hfst
            go_wp2_with fail
            go_quiet (fail)
            go_wp2_with fail
            exact ⟨⟨k + 1, by simp, by omega, HD.out _, HT⟩, by simp [intOf]; omega⟩
          · have q1 : ((rn : Int) != 6) = true := by rw [hfst]; simp [hr0]
            have q2 : ((rn : Int) == 6) = false := by simpa using q1
            clear hfst
            by_cases h45 : c1 = 45
            · subst h45
              by_cases hf : c2 = fn
              · subst hf
                have hh : hitE2 45 c2 r = true := by rw [HHit.out]; simp [hr0]
                have hFe := HFD.out hh
                subst hFe
                go_wp2_with fail
                go_quiet (first | (go_at_call 40; refine Calls.quiet_of_same (cF _)))
                go_wp2_with fail
                go_ret
                exact ⟨rfl, HD.out _⟩
              · have hh : hitE2 45 c2 r = false := by rw [HHit.out]; simp [hr0, hf]
                have q3 : ((c2 : Int) == (fn : Int)) = false := by simp; omega
                have HT := HTK.out hh
                go_wp2_with fail
                go_quiet (first | (go_at_call 40; refine Calls.quiet_of_same (cF _)))
                go_wp2_with fail
                exact ⟨⟨k + 1, by simp, by omega, HD.out _, HT⟩, by simp [intOf]; omega⟩
            · have hh : hitE2 c1 c2 r = false := by rw [HHit.out]; simp [h45]
              have q3 : ((c1 : Int) == 45) = false := by simp; omega
              have HT := HTK.out hh
              go_wp2_with fail
              go_quiet (fail)
              go_wp2_with fail
              exact ⟨⟨k + 1, by simp, by omega, HD.out _, HT⟩, by simp [intOf]; omega⟩
        · have hkn : k = n := by omega
          have hFe : F = 0 := by
            have hn0 : ∀ a ∈ N, hitE2 c1 c2 a = false := fun a ha => HNo.out a (by rw [List.take_of_length_le (by have := HN.out; omega)]; exact ha)
            rw [← HF.out, List.find?_eq_none.2 (fun a ha => by rw [hn0 a ha]; decide)]
          subst hFe
          subst hkn
          go_wp2_with fail
          go_ret
          exact ⟨rfl, HB.out⟩
end Go.Proofs.YtghaeolehjgmnaaGreatDoor
