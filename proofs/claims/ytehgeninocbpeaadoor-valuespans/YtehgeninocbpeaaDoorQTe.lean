import Derived.Test.YtehgeninocbpeaaDoorQG
import Derived.Shelf.Strconv.Itoa3
import Derived.Shelf.Strings.Repeat
import Derived.Test.YtehgeninocbpeaaDoorQTd
/-
  DERIVED. Numbers written with zeros ahead: strconv.Itoa and strings.Repeat, off the shelf.
-/
namespace Go.Proofs.YtehgeninocbpeaaDoor.Tm
open Go Go.Proofs Go.RowKit Go.Shelf

/-- What the shelf's names are here. -/
def repLays_ren : Go.Shelf.Ren := ⟨fun | 105 => 66 | 212 => 74 | 99 => 75 | 165 => 76 | 166 => 77 | 170 => 78 | 169 => 79 | 263 => 80 | 264 => 81 | 206 => 82 | 240 => 83 | 241 => 84 | 276 => 85 | 277 => 86 | n => n, fun | 9 => 9 | 3 => 3 | 4 => 4 | 20 => 20 | 0 => 0 | 46 => 114 | 109 => 115 | 5 => 5 | 72 => 121 | 76 => 122 | 51 => 126 | 146 => 127 | 53 => 129 | 148 => 130 | 70 => 118 | 37 => 119 | 75 => 25 | 127 => 132 | 164 => 133 | 80 => 125 | n => n, fun | n => n⟩
theorem repLays : Go.Proofs.Lays.n105 Tryd.prog repLays_ren := {
  mixed := by kernel_rfl,
  f99 := Tryd.func75.trans (congrArg some (by kernel_rfl)),
  f105 := Tryd.func66.trans (congrArg some (by kernel_rfl)),
  f165 := Tryd.func76.trans (congrArg some (by kernel_rfl)),
  f166 := Tryd.func77.trans (congrArg some (by kernel_rfl)),
  f169 := Tryd.func79.trans (congrArg some (by kernel_rfl)),
  f170 := Tryd.func78.trans (congrArg some (by kernel_rfl)),
  f206 := Tryd.func82.trans (congrArg some (by kernel_rfl)),
  f212 := Tryd.func74.trans (congrArg some (by kernel_rfl)),
  f240 := Tryd.func83.trans (congrArg some (by kernel_rfl)),
  f241 := Tryd.func84.trans (congrArg some (by kernel_rfl)),
  f263 := Tryd.func80.trans (congrArg some (by kernel_rfl)),
  f264 := Tryd.func81.trans (congrArg some (by kernel_rfl)),
  f276 := Tryd.func85.trans (congrArg some (by kernel_rfl)),
  f277 := Tryd.func86.trans (congrArg some (by kernel_rfl)),
  t0 := Tryd.underlying0,
  a0 := Tryd.isAgg0,
  z0 := Tryd.sizeOf0,
  v0 := Tryd.zeroValue0,
  t3 := Tryd.underlying3,
  a3 := Tryd.isAgg3,
  z3 := Tryd.sizeOf3,
  v3 := Tryd.zeroValue3,
  t4 := Tryd.underlying4,
  a4 := Tryd.isAgg4,
  z4 := Tryd.sizeOf4,
  v4 := Tryd.zeroValue4,
  t5 := Tryd.underlying5,
  a5 := Tryd.isAgg5,
  z5 := Tryd.sizeOf5,
  v5 := Tryd.zeroValue5,
  t9 := Tryd.underlying9,
  a9 := Tryd.isAgg9,
  z9 := Tryd.sizeOf9,
  v9 := Tryd.zeroValue9,
  t20 := Tryd.underlying20,
  a20 := Tryd.isAgg20,
  z20 := Tryd.sizeOf20,
  v20 := Tryd.zeroValue20,
  t37 := Tryd.underlying119,
  a37 := Tryd.isAgg119,
  z37 := Tryd.sizeOf119,
  v37 := Tryd.zeroValue119,
  t46 := Tryd.underlying114,
  a46 := Tryd.isAgg114,
  z46 := Tryd.sizeOf114,
  v46 := Tryd.zeroValue114,
  t51 := Tryd.underlying126,
  a51 := Tryd.isAgg126,
  z51 := Tryd.sizeOf126,
  v51 := Tryd.zeroValue126,
  t53 := Tryd.underlying129,
  a53 := Tryd.isAgg129,
  z53 := Tryd.sizeOf129,
  v53 := Tryd.zeroValue129,
  t70 := Tryd.underlying118,
  a70 := Tryd.isAgg118,
  z70 := Tryd.sizeOf118,
  v70 := Tryd.zeroValue118,
  t72 := Tryd.underlying121,
  a72 := Tryd.isAgg121,
  z72 := Tryd.sizeOf121,
  v72 := Tryd.zeroValue121,
  t75 := Tryd.underlying25,
  a75 := Tryd.isAgg25,
  z75 := Tryd.sizeOf25,
  v75 := Tryd.zeroValue25,
  t76 := Tryd.underlying122,
  a76 := Tryd.isAgg122,
  z76 := Tryd.sizeOf122,
  v76 := Tryd.zeroValue122,
  t109 := Tryd.underlying115,
  a109 := Tryd.isAgg115,
  z109 := Tryd.sizeOf115,
  v109 := Tryd.zeroValue115,
  t127 := Tryd.underlying132,
  a127 := Tryd.isAgg132,
  z127 := Tryd.sizeOf132,
  v127 := Tryd.zeroValue132,
  t146 := Tryd.underlying127,
  a146 := Tryd.isAgg127,
  z146 := Tryd.sizeOf127,
  v146 := Tryd.zeroValue127,
  t148 := Tryd.underlying130,
  a148 := Tryd.isAgg130,
  z148 := Tryd.sizeOf130,
  v148 := Tryd.zeroValue130,
  t164 := Tryd.underlying133,
  a164 := Tryd.isAgg133,
  z164 := Tryd.sizeOf133,
  v164 := Tryd.zeroValue133 }

theorem repExtra : Go.Proofs.Builder.Extra Tryd.prog repLays_ren := {
  sizeBuilder := by kernel_rfl,
  liesBuilder := by kernel_rfl,
  t5 := Tryd.underlying5,
  a5 := Tryd.isAgg5,
  z5 := Tryd.sizeOf5,
  v5 := Tryd.zeroValue5,
  infoByte := by kernel_rfl,
  cellsByte := by kernel_rfl,
  sizeByte := by kernel_rfl,
  neB5 := by decide }

/-- A number in so many digits. -/
def pd (n : Nat) : Nat → List UInt8
  | 0 => []
  | k + 1 => pd (n / 10) k ++ [UInt8.ofNat (48 + n % 10)]
theorem pd_len : ∀ (k n : Nat), (pd n k).length = k
  | 0, _ => rfl
  | k + 1, n => by rw [pd, List.length_append, pd_len k]; rfl
theorem pd_zero : ∀ k, pd 0 k = Lib.repeatL [48] k
  | 0 => rfl
  | k + 1 => by
    rw [pd, pd_zero k]
    have : ∀ j, Lib.repeatL ([48] : List UInt8) j ++ [48] = 48 :: Lib.repeatL [48] j := fun j => by
      induction j with
      | zero => rfl
      | succ j ih => rw [Lib.repeatL, List.append_assoc, ih]; rfl
    exact this k
theorem pad_eq : ∀ (k n : Nat), n < 10 ^ k → 1 ≤ k → (Lib.decDigits n).length ≤ k ∧ Lib.repeatL [48] (k - (Lib.decDigits n).length) ++ Lib.decDigits n = pd n k
  | 0, _, _, h => by omega
  | k + 1, n, h, _ => by
    rw [Lib.decDigits]
    by_cases h10 : n < 10
    · rw [dif_pos h10]
      refine ⟨by simp, ?_⟩
      rw [pd, show n / 10 = 0 by omega, pd_zero, show n % 10 = n by omega]
      rfl
    · rw [dif_neg h10]
      have hk : 1 ≤ k := by
        rcases Nat.eq_zero_or_pos k with h0 | h0
        · subst h0; simp at h; omega
        · exact h0
      have ih := pad_eq k (n / 10) (by rw [Nat.pow_succ] at h; omega) hk
      refine ⟨by rw [List.length_append, List.length_singleton]; omega, ?_⟩
      rw [List.length_append, List.length_singleton, show k + 1 - ((Lib.decDigits (n / 10)).length + 1) = k - (Lib.decDigits (n / 10)).length by omega, ← List.append_assoc, ih.2, pd]

def pdB (n k : Nat) : ByteArray := ⟨(pd n k).toArray⟩
theorem pdB_size (n k : Nat) : (pdB n k).size = k := by show (pd n k).toArray.size = k; rw [List.size_toArray, pd_len]

def txt (y m d : Nat) : ByteArray := pdB y 4 ++ pdB m 2 ++ pdB d 2
theorem txt_size (y m d : Nat) : (txt y m d).size = 8 := by unfold txt; rw [ByteArray.size_append, ByteArray.size_append, pdB_size, pdB_size, pdB_size]

end Go.Proofs.YtehgeninocbpeaaDoor.Tm

/-
  DERIVED. A fraction of the second.
-/
namespace Go.Proofs.YtehgeninocbpeaaDoor.Tm
open Go Go.Proofs Go.RowKit Go.Shelf

theorem rep6_any (w : World) (c : Nat) (hc : c ≤ 6) : Calls Tryd.prog 66 #[.string ⟨#[48]⟩, .int .i64 (c : Int)] w fun e w' => e = .returned (.string ⟨(Lib.repeatL [48] c).toArray⟩) ∧ Below w.heap.size w w' :=
  Any.strings_Repeat repLays repExtra ⟨#[48]⟩ c w (by omega) (by show 1 * c ≤ _; omega)

theorem valN_app : ∀ (l l' : List UInt8) (n : Nat), valN (l ++ l') n = valN l' (valN l n)
  | [], _, _ => rfl
  | b :: l, l', n => by rw [List.cons_append, valN, valN_app l l']; rfl
theorem valN_zeros : ∀ (k n : Nat), valN (Lib.repeatL [48] k) n = n * 10 ^ k
  | 0, n => by simp [Lib.repeatL, valN]
  | k + 1, n => by
    have e : Lib.repeatL ([48] : List UInt8) (k + 1) = 48 :: Lib.repeatL [48] k := rfl
    rw [e, valN, valN_zeros k, Nat.pow_succ]
    have : (48 : UInt8).toNat - 48 = 0 := rfl
    rw [this, Nat.add_zero, Nat.mul_comm 10 n, Nat.mul_assoc, Nat.mul_comm 10]

theorem digs_zeros : ∀ k, ∀ b ∈ Lib.repeatL ([48] : List UInt8) k, b = 48
  | 0, b, h => by simp [Lib.repeatL] at h
  | k + 1, b, h => by
    have e : Lib.repeatL ([48] : List UInt8) (k + 1) = 48 :: Lib.repeatL [48] k := rfl
    rw [e] at h
    rcases List.mem_cons.1 h with h | h
    · exact h
    · exact digs_zeros k b h

/-- A fraction, if there is one. -/
def frC (s : ByteArray) (S : Mst) : Nat := cnt s (S.a + 1) 6
def frS (s : ByteArray) (S : Mst) : Mst := { S with a := S.a + 1 + frC s S, b := decide (frC s S < 1), p := S.p + frC s S, mc := nv s (S.a + 1) (frC s S) * 10 ^ (6 - frC s S) }
def fracS (s : ByteArray) (S : Mst) : Mst := if S.p < 3 then S else if nx s S.a S.b = 46 then frS s S else S

set_option maxRecDepth 100000 in
set_option maxHeartbeats 2000000 in
theorem frac_ck {w : World} {q : Nat} {s : ByteArray} {S : Mst} (h : Ck w q s S) (hs : s.size ≤ 140737488351232) (hp : S.p ≤ 100) : Calls Tryd.prog 52 #[.pointer (some ⟨q, 0, none⟩)] w (PostC w q s (fracS s S)) := by
  obtain ⟨f, hf⟩ := h
  have r12 : w.cell? ⟨q, 12, none⟩ = some (.int .i64 (S.p : Int)) := hf.v12 ▸ hf.cur.row.cell (i := 12) (by omega)
  have HF : Hid (CkF w q f s S) := hf
  unfold fracS
  by_cases h3 : S.p < 3
  · rw [if_pos h3]
    have h3I : decide ((S.p : Int) < 3) = true := by simp; omega
    clear hf
    go_enter Tryd.func52, Tryd.ntmps52
    go_wp2
    exact bodyPost_ret (v := .tuple #[]) (by simp [results, go_sem]) rfl ⟨_, rfl, ⟨f, HF.out⟩, grown_refl _ _⟩
  · rw [if_neg h3]
    have h3I : decide ((S.p : Int) < 3) = false := by simp; omega
    by_cases hx : nx s S.a S.b = 46
    · rw [if_pos hx]
      obtain ⟨F, hF⟩ : ∃ F, frS s S = F := ⟨_, rfl⟩
      rw [hF]
      obtain ⟨hSb, hlt⟩ := nx_pos (s := s) (a := S.a) (b := S.b) (by omega)
      have hI := ((idx_dot _ (nx_lt s S.a S.b)).resolve_right (fun h => h.1 (by omega))).2
      have c73 := take_yes w q f s S.a S.b hf.cur hf.le hs _ hI
      rw [hx] at c73
      have hcs : S.a + 1 + frC s S ≤ s.size := cnt_size s 6 (S.a + 1) (by omega)
      have hc6 : frC s S ≤ 6 := cnt_le s 6 (S.a + 1)
      have hFe : { S with a := S.a + 1 + frC s S, b := decide (frC s S < 1), p := S.p + frC s S, mc := nv s (S.a + 1) (frC s S) * 10 ^ (6 - frC s S) } = F := hF
      have hD : Digs (s.extract (S.a + 1) (S.a + 1 + frC s S)) := digs_ext s (S.a + 1) (frC s S) 6 (Nat.le_refl _)
      have hz : (s.extract (S.a + 1) (S.a + 1 + frC s S)).size = frC s S := by rw [ByteArray.size_extract]; omega
      have hD2 : Digs (s.extract (S.a + 1) (S.a + 1 + frC s S) ++ ⟨(Lib.repeatL [48] (6 - frC s S)).toArray⟩) := by
        intro b hb
        rw [ByteArray.data_append, Array.toList_append, List.mem_append] at hb
        rcases hb with hb | hb
        · exact hD b hb
        · have := digs_zeros _ b hb
          subst this
          decide
      have hz0 : (⟨(Lib.repeatL [48] (6 - frC s S)).toArray⟩ : ByteArray).size = 6 - frC s S := by
        show (Lib.repeatL [48] (6 - frC s S)).toArray.size = _
        rw [List.size_toArray, Lib.repeatL_length]
        simp
      have hz2 : (s.extract (S.a + 1) (S.a + 1 + frC s S) ++ ⟨(Lib.repeatL [48] (6 - frC s S)).toArray⟩).size ≤ 8 := by rw [ByteArray.size_append, hz, hz0]; omega
      have hv2 : val (s.extract (S.a + 1) (S.a + 1 + frC s S) ++ ⟨(Lib.repeatL [48] (6 - frC s S)).toArray⟩).data.toList = nv s (S.a + 1) (frC s S) * 10 ^ (6 - frC s S) := by
        rw [ByteArray.data_append, Array.toList_append]
        unfold val
        rw [valN_app]
        exact valN_zeros _ _
      have c75 := fun W => worth_any W _ hD2 hz2
      rw [hv2] at c75
      have c70 := fun W => rep6_any W (6 - frC s S) (by omega)
      have hsub : (6 : Int) - (frC s S : Int) = ((6 - frC s S : Nat) : Int) := by omega
      have c74 := fun W f1 (h1 : Cur W q f1 s (S.a + 1) false) => digits_any W q f1 s (S.a + 1) false h1 (by omega) hs 1 6 (by omega) (by omega) (frC s S) rfl
      generalize nv s (S.a + 1) (frC s S) * 10 ^ (6 - frC s S) = MC at *
      generalize (⟨(Lib.repeatL [48] (6 - frC s S)).toArray⟩ : ByteArray) = ZS at *
      generalize s.extract (S.a + 1) (S.a + 1 + frC s S) = DS at *
      generalize 6 - frC s S = K6 at *
      generalize frC s S = c at *
      have HFe : Hid _ := hFe
      clear hf hI hD hD2 hv2 hFe hF h3
      go_enter Tryd.func52, Tryd.ntmps52
      go_wp2_with (go_at_call 63; refine Stop.mk ?_)
      refine Stop.out (c73.mono ?_)
      rintro e W1 ⟨f1, rfl, hc1, hk1, hg1⟩
      have K1 : Hid (CkF W1 q f1 s { S with a := S.a + 1, b := S.b }) := HF.out.next hc1 (by omega) hk1 hg1
      have G1 : Hid (w.grownBy W1 (some q)) := hg1
      rw [hSb] at hc1
      have c74' := c74 W1 f1 hc1
      rw [Bool.false_or] at c74'
      clear hc1 hk1 hg1 c73 HF c74
      go_wp2_with (go_at_call 64; refine Stop.mk ?_)
      refine Stop.out (c74'.mono ?_)
      rintro e W2 ⟨f2, rfl, hc2, hk2, hg2⟩
      have K2 := CkF.next (S := { S with a := S.a + 1, b := S.b }) K1.out hc2 hcs hk2 hg2
      have G2 : Hid (w.grownBy W2 (some q)) := G1.out.trans hg2
      have K3 := K2.set12 (S.p + c)
      have G3 : w.grownBy _ (some q) := grown_set G2.out 12 (.int .i64 ((S.p + c : Nat) : Int))
      have d12 : W2.cell? ⟨q, 12, none⟩ = some (.int .i64 (S.p : Int)) := by have := K2.cur.row.cell (i := 12) (by omega); rw [K2.v12] at this; exact this
      have df := fun i => K2.cur.row.frozen i
      obtain ⟨W3, hW3⟩ : ∃ W3, W2.setCell ⟨q, 12, none⟩ (.int .i64 ((S.p + c : Nat) : Int)) = W3 := ⟨_, rfl⟩
      rw [hW3] at K3 G3
      have hW3' : W2.setCell ⟨q, 12, none⟩ (.int .i64 ((S.p : Int) + (c : Int))) = W3 := by rw [← hW3]; congr 2
      have K3' : Hid _ := K3
      have G3' : Hid _ := G3
      clear hc2 hk2 hg2 c74' K1 G1 K2 G2 K3 G3 hW3
      go_wp2_with (go_at_call 66; refine Stop.mk ?_)
      refine Stop.out ((c70 _).mono ?_)
      rintro e W4 ⟨rfl, hb4⟩
      have K4 := K3'.out.on hb4
      have G4 : Hid (w.grownBy W4 (some q)) := grown_below G3'.out hb4
      have K4' : Hid _ := K4
      clear c70 hb4 K3' G3' K4
      go_wp2_with (go_at_call 65; refine Stop.mk ?_)
      refine Stop.out ((c75 _).mono ?_)
      rintro e W5 ⟨rfl, hb5⟩
      have K5 := K4'.out.on hb5
      have G5 : Hid (w.grownBy W5 (some q)) := grown_below G4.out hb5
      have d11 := K5.cur.row.cell (i := 11) (by omega)
      have df5 := fun i => K5.cur.row.frozen i
      have K6' := K5.set11 MC
      have HR : Hid (Ck _ q s F) := ⟨_, by rw [← HFe.out]; exact K6'⟩
      have G6 : Hid (w.grownBy _ (some q)) := grown_set G5.out 11 (.int .i64 (MC : Int))
      clear c75 hb5 K4' G4 K5 G5 K6'
      go_wp2
      exact bodyPost_end (results_none rfl _ _ _) rfl ⟨_, rfl, HR.out, G6.out⟩
    · rw [if_neg hx]
      have hI := ((idx_dot _ (nx_lt s S.a S.b)).resolve_left (fun h => hx h.1)).2
      have c73 := take_no w q f s S.a S.b hf.cur hf.le _ hI
      clear hf hI hx
      go_enter Tryd.func52, Tryd.ntmps52
      go_wp2_with (go_at_call 63; refine Stop.mk ?_)
      refine Stop.out (c73.mono ?_)
      rintro e W1 ⟨f1, rfl, hc1, hk1, hg1⟩
      have HR : Hid (PostC w q s S (.returned (.tuple #[])) W1) := ⟨_, rfl, ⟨f1, HF.out.next hc1 HF.out.le hk1 hg1⟩, hg1⟩
      clear hc1 hk1 hg1 c73
      go_wp2
      exact bodyPost_ret (v := .tuple #[]) (by simp [results, go_sem]) rfl HR.out
end Go.Proofs.YtehgeninocbpeaaDoor.Tm
