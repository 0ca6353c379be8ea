import Derived.Test.YtdggplhkeekdjaaGreatDoorLg
import Derived.Test.YtdggplhkeekdjaaGreatDoorLh
import Derived.Lib.OthersKept
/-
  DERIVED. The program's whole numbers and moments.
-/
namespace Go.Proofs.YtdggplhkeekdjaaGreatDoor.Ck
open Go Go.Proofs Go.RowKit

/-- What lies beside the program: tables of UTF-8, and strconv's two errors. -/
structure Gb (w : World) : Prop where
  u8 : Lib.Utf8Tabs 0 1 w
  e3 : ∃ ev, w.cell? ⟨3, 0, none⟩ = some ev ∧ (ev = .nilIface ∨ ∃ te pe, ev = .iface te pe)
  e4 : ∃ ev, w.cell? ⟨4, 0, none⟩ = some ev ∧ (ev = .nilIface ∨ ∃ te pe, ev = .iface te pe)
theorem clt {w : World} {b o : Nat} {v : Value} (h : w.cell? ⟨b, o, none⟩ = some v) : b < w.heap.size := Lib.lt_of_cell h
theorem Gb.on {w w' : World} (h : Gb w) (hb : Below w.heap.size w w') : Gb w' := by
  refine ⟨⟨fun c hc => (hb.cell (p := ⟨0, c, none⟩) (clt (h.u8.1 c hc))).trans (h.u8.1 c hc), fun i hi => ⟨(hb.cell (p := ⟨1, 2 * i, none⟩) (clt (h.u8.2 i hi).1)).trans (h.u8.2 i hi).1, (hb.cell (p := ⟨1, 2 * i + 1, none⟩) (clt (h.u8.2 i hi).2)).trans (h.u8.2 i hi).2⟩⟩, ?_, ?_⟩
  · obtain ⟨ev, h1, h2⟩ := h.e3
    exact ⟨ev, (hb.cell (clt h1)).trans h1, h2⟩
  · obtain ⟨ev, h1, h2⟩ := h.e4
    exact ⟨ev, (hb.cell (clt h1)).trans h1, h2⟩
def okN {α : Type} : Lib.NumEnd α → Bool
  | .ok _ => true
  | _ => false
def inP (s : ByteArray) : Bool := okN (Lib.parseIntB 32 (trS s).data.toList)
theorem bytesW_below (w : World) (ty : TypeId) (t : ByteArray) : Below w.heap.size w (Lib.bytesWorld w ty t) := Lib.bytesWorld_below _ _ _
set_option maxRecDepth 100000 in
set_option maxHeartbeats 2000000 in
theorem isInteger_any (w : World) (s : ByteArray) (hs : s.size ≤ 140737488351232) (hG : Gb w) : Calls Tryz.prog 127 #[.string s] w fun e w' => e = .returned (.bool (inP s)) ∧ Below w.heap.size w w' := by
  have c0 := spaces_any w s
  have h0 := trS_size s
  unfold inP
  generalize trS s = T at *
  cases hp : Lib.parseIntB 32 T.data.toList with
  | ok v =>
    have c : Calls Tryz.prog 147 #[.string T, .int .i64 10, .int .i64 32] w fun e w' => e = .returned (.tuple #[.int .i64 v, .nilIface]) ∧ Below w.heap.size w w' :=
      (Any.strconv_ParseInt_10_at32_ok piLays174 T (by omega) v hp w).mono fun e w' ⟨he, hw⟩ => ⟨he, by
        rcases hw with rfl | ⟨t, rfl⟩
        · exact Below.refl _ _
        · exact Lib.bytesWorld_below _ _ _⟩
    show Calls _ _ _ _ fun e w' => e = .returned (.bool true) ∧ _
    clear hp hG
    go_enter Tryz.func127, Tryz.ntmps127
    go_wp2_with (go_at_call 141; refine Stop.mk ?_)
    refine Stop.out (c0.mono ?_)
    rintro e W1 ⟨rfl, rfl⟩
    go_wp2_with (go_at_call 147; refine Stop.mk ?_)
    refine Stop.out (c.mono ?_)
    rintro e W2 ⟨rfl, hb⟩
    go_wp2
    go_ret
    exact ⟨rfl, hb⟩
  | «syntax» =>
    obtain ⟨ev, h1, h2⟩ := hG.e3
    have c : Calls Tryz.prog 147 #[.string T, .int .i64 10, .int .i64 32] w fun e w' => ∃ N, e = .returned (.tuple #[.int .i64 0, .iface (piRen.t 168) (.pointer (some ⟨N, 0, none⟩))]) ∧ Below w.heap.size w w' :=
      (Any.strconv_ParseInt_10_at32_syntax piLays174 T (by omega) hp ev w h1 h2).mono fun e w' ⟨N, he, _, _, hb⟩ => ⟨N, he, hb⟩
    show Calls _ _ _ _ fun e w' => e = .returned (.bool false) ∧ _
    clear hp hG h1 h2
    go_enter Tryz.func127, Tryz.ntmps127
    go_wp2_with (go_at_call 141; refine Stop.mk ?_)
    refine Stop.out (c0.mono ?_)
    rintro e W1 ⟨rfl, rfl⟩
    go_wp2_with (go_at_call 147; refine Stop.mk ?_)
    refine Stop.out (c.mono ?_)
    rintro e W2 ⟨N, rfl, hb⟩
    go_wp2
    go_ret
    exact ⟨rfl, hb⟩
  | range =>
    obtain ⟨ev, h1, h2⟩ := hG.e4
    have c : Calls Tryz.prog 147 #[.string T, .int .i64 10, .int .i64 32] w fun e w' => ∃ N x, e = .returned (.tuple #[.int .i64 x, .iface (piRen.t 168) (.pointer (some ⟨N, 0, none⟩))]) ∧ Below w.heap.size w w' :=
      (Any.strconv_ParseInt_10_at32_range piLays174 T (by omega) hp ev w h1 h2).mono fun e w' ⟨N, he, _, _, hb⟩ => ⟨N, _, he, hb⟩
    show Calls _ _ _ _ fun e w' => e = .returned (.bool false) ∧ _
    clear hp hG h1 h2
    go_enter Tryz.func127, Tryz.ntmps127
    go_wp2_with (go_at_call 141; refine Stop.mk ?_)
    refine Stop.out (c0.mono ?_)
    rintro e W1 ⟨rfl, rfl⟩
    go_wp2_with (go_at_call 147; refine Stop.mk ?_)
    refine Stop.out (c.mono ?_)
    rintro e W2 ⟨N, x, rfl, hb⟩
    go_wp2
    go_ret
    exact ⟨rfl, hb⟩

/-- Where a sign stands, -1 if none does. -/
def sgX (s : ByteArray) : Int := Lib.indexAny s.data.toList [43, 45]
def moP (s : ByteArray) : Bool := if 0 ≤ sgX s then pcB (s.extract 0 (sgX s).toNat) 4 14 && znB (s.extract ((sgX s).toNat + 1) s.size) else pcB s 4 14
theorem idxAny_le (ch : List UInt8) : ∀ l : List UInt8, -1 ≤ Lib.indexAny l ch ∧ Lib.indexAny l ch < l.length
  | [] => by simp [Lib.indexAny]
  | b :: l => by
    have := idxAny_le ch l
    unfold Lib.indexAny
    split
    · simp
    · split
      · simp; omega
      · simp; omega
set_option maxRecDepth 100000 in
set_option maxHeartbeats 4000000 in
theorem isMoment_any (w : World) (s : ByteArray) (hs : s.size ≤ 4000000) (ha : ∀ b ∈ s.data.toList, b.toNat < 128) : Calls Tryz.prog 125 #[.string s] w fun e w' => e = .returned (.bool (moP s)) ∧ Below w.heap.size w w' := by
  have c : Calls Tryz.prog 144 #[.string s, .string ⟨#[43, 45]⟩] w fun e w' => e = .returned (.int .i64 (sgX s)) ∧ Below w.heap.size w w' :=
    Any.strings_IndexAny_laid iaLays153 (by kernel_rfl) s ⟨#[43, 45]⟩ w (by omega) (by decide) (fun j b h => ha b (List.mem_of_getElem? h)) (fun j b h => by
      have : b ∈ [(43 : UInt8), 45] := List.mem_of_getElem? h
      clear h
      revert b
      decide)
  have hl := idxAny_le [43, 45] s.data.toList
  have hz : s.data.toList.length = s.size := by rw [Array.length_toList]; rfl
  rw [hz] at hl
  unfold moP
  change _ ≤ sgX s ∧ sgX s < _ at hl
  generalize sgX s = k at *
  clear ha hz
  by_cases h0 : 0 ≤ k
  · obtain ⟨i, rfl⟩ : ∃ i : Nat, k = (i : Int) := ⟨k.toNat, by omega⟩
    have i1 : (i : Int) ≤ (s.size : Int) := by omega
    have i2 : (i : Int) + 1 ≤ (s.size : Int) := by omega
    rw [if_pos h0, Int.toNat_natCast]
    have hx : (s.extract 0 i).size ≤ s.size := by rw [ByteArray.size_extract]; omega
    have hy : (s.extract (i + 1) s.size).size ≤ s.size := by rw [ByteArray.size_extract]; omega
    have cc := fun W => isClock_any W (s.extract 0 i) (by omega) 4 14
    have cz := fun W => isZone_any W (s.extract (i + 1) s.size) (by omega)
    generalize znB (s.extract (i + 1) s.size) = Z at *
    clear hx hy
    cases hp : pcB (s.extract 0 i) 4 14 with
    | true =>
      rw [hp] at cc
      rw [Bool.true_and]
      clear hp
      go_enter Tryz.func125, Tryz.ntmps125
      go_wp2_with (go_at_call 144; refine Stop.mk ?_)
      refine Stop.out (c.mono ?_)
      rintro e W1 ⟨rfl, hb⟩
      go_wp2_with (go_at_call 145; refine Stop.mk ?_)
      refine Stop.out ((cc _).mono ?_)
      rintro e W2 ⟨rfl, rfl⟩
      go_wp2_with (go_at_call 146; refine Stop.mk ?_)
      refine Stop.out ((cz _).mono ?_)
      rintro e W2 ⟨rfl, rfl⟩
      go_wp2
      go_ret
      exact ⟨rfl, hb⟩
    | false =>
      rw [hp] at cc
      rw [Bool.false_and]
      clear hp
      go_enter Tryz.func125, Tryz.ntmps125
      go_wp2_with (go_at_call 144; refine Stop.mk ?_)
      refine Stop.out (c.mono ?_)
      rintro e W1 ⟨rfl, hb⟩
      go_wp2_with (go_at_call 145; refine Stop.mk ?_)
      refine Stop.out ((cc _).mono ?_)
      rintro e W2 ⟨rfl, rfl⟩
      go_wp2
      go_ret
      exact ⟨rfl, hb⟩
  · have i0 : ¬ (k ≥ 0) := by omega
    rw [if_neg h0]
    have cc := fun W => isClock_any W s (by omega) 4 14
    generalize pcB s 4 14 = Z at *
    go_enter Tryz.func125, Tryz.ntmps125
    go_wp2_with (go_at_call 144; refine Stop.mk ?_)
    refine Stop.out (c.mono ?_)
    rintro e W1 ⟨rfl, hb⟩
    go_wp2_with (go_at_call 145; refine Stop.mk ?_)
    refine Stop.out ((cc _).mono ?_)
    rintro e W2 ⟨rfl, rfl⟩
    go_wp2
    go_ret
    exact ⟨rfl, hb⟩
end Go.Proofs.YtdggplhkeekdjaaGreatDoor.Ck

/-
  DERIVED. How long a text is: the program's count.
-/
namespace Go.Proofs.YtdggplhkeekdjaaGreatDoor.Ck
open Go Go.Proofs Go.RowKit

theorem rcount_any (s : ByteArray) (w : World) (hs : s.size < 9223372036854775807) : Calls Tryz.prog 111 #[.string s] w fun e w' => e = .returned (.int .i64 (Lib.runeCount s)) ∧ Below w.heap.size w w' :=
  (Any.utf8_RuneCountInString rcLays195 s w hs).mono fun _ _ ⟨he, _, hw⟩ => ⟨he, hw ▸ (Below.refl _ _).alloc (Nat.le_refl _) _⟩
/-- The longest of these. -/
def mxG : List ByteArray → Nat → Nat
  | [], m => m
  | x :: xs, m => mxG xs (if m < Lib.runeCount x then Lib.runeCount x else m)
theorem rc_le (s : ByteArray) : Lib.runeCount s ≤ s.size := Lib.runeCountFrom_le s s.size 0
set_option maxRecDepth 100000 in
set_option maxHeartbeats 4000000 in
theorem longest_any (w : World) (s : ByteArray) (hs : s.size ≤ 8000000) : Calls Tryz.prog 110 #[.string s] w fun e w' => e = .returned (.int .i64 (mxG (spCB 61 s) 0)) ∧ Below w.heap.size w w' := by
  have c := strC_split 61 s w hs
  have hlen := spCB_len 61 s
  have hel := strC_len 61 s
  generalize spCB 61 s = xs at *
  obtain ⟨W0, hW0⟩ : ∃ W0, w.alloc (.cells (xs.map Value.string).toArray 9) = W0 := ⟨_, rfl⟩
  have hb0 : Below w.heap.size w W0 := hW0 ▸ (Below.refl _ _).alloc (Nat.le_refl _) _
  have HCe : Hid (∀ i (h : i < xs.length), W0.cell? ⟨w.heap.size, i, none⟩ = some (.string xs[i])) := fun i h => hW0 ▸ cell_row w xs i h
  rw [hW0] at c
  have HB : Hid (Below w.heap.size w W0) := hb0
  obtain ⟨R, hR⟩ : ∃ R, mxG xs 0 = R := ⟨_, rfl⟩
  have HR : Hid (mxG (xs.drop 0) 0 = R) := hR
  rw [hR]
  obtain ⟨n, hl⟩ : ∃ n, xs.length = n := ⟨_, rfl⟩
  have HL : Hid (xs.length = n) := hl
  have HE : Hid (∀ p ∈ xs, p.size ≤ s.size) := hel
  rw [hl] at hlen c
  clear hR hl hb0 hW0 hel
  go_enter Tryz.func110, Tryz.ntmps110
  go_wp2_with (go_at_call 135; refine Stop.mk ?_)
  refine Stop.out (c.mono ?_)
  rintro e W1 ⟨rfl, rfl⟩
  go_wp2
  go_loopg [3, 9] n (fun k s3 s9 wx => ∃ i m : Nat, s3 = .int .i64 (m : Int) ∧ s9 = .int .i64 (i : Int) ∧ i ≤ n ∧ m ≤ s.size ∧ k + i = n ∧ Hid (mxG (xs.drop i) m = R) ∧ Hid (Below W0.heap.size W0 wx))
  case atStart => exact ⟨0, 0, rfl, rfl, by omega, by omega, by omega, HR, Below.refl _ _⟩
  case round =>
    clear HR c
    obtain ⟨i, m, rfl, rfl, hi, hm, hg, HI, HW⟩ := hrel
    by_cases hlt : i < n
    · have iI : (i : Int) < (n : Int) := by omega
      have hlx : i < xs.length := by have := HL.out; omega
      obtain ⟨u, hu⟩ : ∃ u, xs[i] = u := ⟨_, rfl⟩
      have cl : wr.cell? ⟨w.heap.size, i, none⟩ = some (.string u) := by have h0 := HCe.out i hlx; rw [hu] at h0; exact (HW.out.cell (clt h0)).trans h0
      have hsz : u.size ≤ s.size := HE.out u (by rw [← hu]; exact List.getElem_mem hlx)
      have ca := rcount_any u wr (by omega)
      have hrc := rc_le u
      have HI2 : Hid (mxG (xs.drop (i + 1)) (if m < Lib.runeCount u then Lib.runeCount u else m) = R) := by
        have := HI.out
        rw [List.drop_eq_getElem_cons hlx, mxG, hu] at this
        exact this
      clear HI hlx hu
      generalize Lib.runeCount u = q at *
      go_wp2_with (go_at_call 111; refine Stop.mk ?_)
      refine Stop.out (ca.mono ?_)
      rintro e2 W2 ⟨rfl, hb2⟩
      have HW2 : Hid (Below W0.heap.size W0 W2) := HW.out.trans (hb2.mono HW.out.size)
      clear hb2 ca
      by_cases hq : m < q
      · rw [if_pos hq] at HI2
        have iQ : (m : Int) < (q : Int) := by omega
        have iR : ¬ ((q : Int) < (m : Int)) := by omega
        go_wp2
        go_roundg (n - (i + 1))
        case measure => omega
        case rel => exact ⟨i + 1, q, by rw [show max (m : Int) (q : Int) = (q : Int) by omega], by simp, by omega, by omega, by omega, HI2, HW2⟩
      · rw [if_neg hq] at HI2
        have iQ : ¬ ((m : Int) < (q : Int)) := by omega
        go_wp2
        go_roundg (n - (i + 1))
        case measure => omega
        case rel => exact ⟨i + 1, m, by rw [show max (m : Int) (q : Int) = (m : Int) by omega], by simp, by omega, by omega, by omega, HI2, HW2⟩
    · have iI : ¬ ((i : Int) < (n : Int)) := by omega
      obtain rfl : m = R := by
        have := HI.out
        rw [List.drop_eq_nil_of_le (by have := HL.out; omega)] at this
        exact this
      clear HI
      go_wp2
      go_ret
      exact ⟨rfl, HB.out.trans (HW.out.mono HB.out.size)⟩
end Go.Proofs.YtdggplhkeekdjaaGreatDoor.Ck

/-
  DERIVED. Which characters the program refuses.
-/
namespace Go.Proofs.YtdggplhkeekdjaaGreatDoor.Ck
open Go Go.Proofs Go.RowKit

theorem get_ext (s : ByteArray) (pos k : Nat) (h : pos + k < s.size) : (s.extract pos s.size).get! k = s.get! (pos + k) := by
  have h1 : k < (s.extract pos s.size).size := by rw [ByteArray.size_extract]; omega
  rw [← get_get! _ k h1, ← get_get! s (pos + k) h, ByteArray.getElem_extract]
theorem decN_same (n b0 b1 b2 b3 c1 c2 c3 : Nat) (h1 : 1 < n → b1 = c1) (h2 : 2 < n → b2 = c2) (h3 : 3 < n → b3 = c3) : Lib.decodeN n b0 b1 b2 b3 = Lib.decodeN n b0 c1 c2 c3 := by
  rcases Nat.lt_or_ge 3 n with h | h
  · rw [h1 (by omega), h2 (by omega), h3 h]
  · rcases Nat.lt_or_ge 2 n with g | g
    · have e3 : ¬ (3 < n) := by omega
      rw [h1 (by omega), h2 g]
      unfold Lib.decodeN
      simp [e3]
    · have e3 : ¬ (3 < n) := by omega
      have e2 : ¬ (2 < n) := by omega
      rcases Nat.lt_or_ge 1 n with f | f
      · rw [h1 f]
        unfold Lib.decodeN
        simp [e3, e2]
      · have e1 : ¬ (1 < n) := by omega
        unfold Lib.decodeN
        simp [e3, e2, e1]
theorem dec_tail (s : ByteArray) (pos : Nat) (h : pos < s.size) : Lib.decodeGo (s.extract pos s.size) = Utf8.decode s pos := by
  have hz : (s.extract pos s.size).size = s.size - pos := by rw [ByteArray.size_extract]; omega
  unfold Lib.decodeGo
  rw [if_neg (by omega), Lib.decode_at, Lib.decode_at, hz, Nat.sub_zero]
  rw [get_ext s pos 0 (by omega), Nat.add_zero]
  exact decN_same _ _ _ _ _ _ _ _ (fun g => by rw [Nat.zero_add, get_ext s pos 1 (by omega)]) (fun g => by rw [Nat.zero_add, get_ext s pos 2 (by omega)]) (fun g => by rw [Nat.zero_add, get_ext s pos 3 (by omega)])
theorem dec_width (s : ByteArray) (pos : Nat) (h : pos < s.size) : 1 ≤ (Utf8.decode s pos).2 ∧ pos + (Utf8.decode s pos).2 ≤ s.size := by
  rw [Lib.decode_at]
  unfold Lib.decodeN
  repeat' split
  all_goals simp only
  all_goals omega
set_option maxRecDepth 100000 in
theorem stray_any (w : World) (s : ByteArray) (pos : Nat) (h : pos < s.size) (hG : Gb w) : Calls Tryz.prog 104 #[.string (s.extract pos s.size)] w fun e w' => e = .returned (.bool (decide ((Utf8.decode s pos).2 = 1))) ∧ Below w.heap.size w w' := by
  have c : Calls Tryz.prog 98 #[.string (s.extract pos s.size)] w fun e w' => e = .returned (.tuple #[.int .i32 ((Lib.decodeGo (s.extract pos s.size)).1 : Nat), .int .i64 ((Lib.decodeGo (s.extract pos s.size)).2 : Nat)]) ∧ Below w.heap.size w w' :=
    Any.utf8_DecodeRuneInString decLays197 (s.extract pos s.size) w hG.u8
  rw [dec_tail s pos h] at c
  generalize (Utf8.decode s pos).1 = a at *
  generalize (Utf8.decode s pos).2 = b at *
  generalize s.extract pos s.size = T at *
  clear h hG
  go_enter Tryz.func104, Tryz.ntmps104
  go_wp2_with (go_at_call 98; refine Stop.mk ?_)
  refine Stop.out (c.mono ?_)
  rintro e W1 ⟨rfl, hb⟩
  go_wp2
  go_ret
  refine ⟨?_, hb⟩
  by_cases h1 : b = 1
  · subst h1; rfl
  · have : ((b : Int) == 1) = false := beq_eq_false_iff_ne.2 (by omega)
    simp [h1]
    omega
end Go.Proofs.YtdggplhkeekdjaaGreatDoor.Ck
