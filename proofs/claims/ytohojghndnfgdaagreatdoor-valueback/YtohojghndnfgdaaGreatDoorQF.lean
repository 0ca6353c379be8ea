import Derived.Test.YtohojghndnfgdaaGreatDoorQC
import Derived.Shelf.Strconv.Itoa3
import Derived.Shelf.Strings.Repeat
/-
  DERIVED. Numbers written with zeros ahead: strconv.Itoa and strings.Repeat, off the shelf.
-/
namespace Go.Proofs.YtohojghndnfgdaaGreatDoor.Tm
open Go Go.Proofs Go.RowKit Go.Shelf

/-- What the shelf's names are here. -/
def itoaLays_ren : Go.Shelf.Ren := ⟨fun | 171 => 62 | 243 => 80 | 246 => 55 | 283 => 71 | 284 => 72 | 285 => 73 | 286 => 74 | 129 => 91 | 317 => 90 | 318 => 92 | 319 => 93 | 320 => 94 | 337 => 102 | 338 => 103 | n => n, fun | 3 => 3 | 9 => 9 | 2 => 2 | 4 => 4 | 171 => 118 | 0 => 0 | 53 => 119 | 37 => 93 | 5 => 5 | 173 => 122 | 212 => 135 | 51 => 136 | 20 => 20 | 213 => 137 | 46 => 125 | 232 => 149 | 233 => 150 | n => n, fun | 17 => 3 | 18 => 6 | 19 => 7 | n => n⟩
theorem itoaLays : Go.Proofs.LaysM.n171 Tryz.prog itoaLays_ren := {
  mixed := by kernel_rfl,
  f129 := Tryz.func91.trans (congrArg some (by kernel_rfl)),
  f171 := Tryz.func62.trans (congrArg some (by kernel_rfl)),
  f243 := Tryz.func80.trans (congrArg some (by kernel_rfl)),
  f246 := Tryz.func55.trans (congrArg some (by kernel_rfl)),
  f283 := Tryz.func71.trans (congrArg some (by kernel_rfl)),
  f284 := Tryz.func72.trans (congrArg some (by kernel_rfl)),
  f285 := Tryz.func73.trans (congrArg some (by kernel_rfl)),
  f286 := Tryz.func74.trans (congrArg some (by kernel_rfl)),
  f317 := Tryz.func90.trans (congrArg some (by kernel_rfl)),
  f318 := Tryz.func92.trans (congrArg some (by kernel_rfl)),
  f319 := Tryz.func93.trans (congrArg some (by kernel_rfl)),
  f320 := Tryz.func94.trans (congrArg some (by kernel_rfl)),
  f337 := Tryz.func102.trans (congrArg some (by kernel_rfl)),
  f338 := Tryz.func103.trans (congrArg some (by kernel_rfl)),
  t0 := Tryz.underlying0,
  a0 := Tryz.isAgg0,
  z0 := Tryz.sizeOf0,
  v0 := Tryz.zeroValue0,
  t2 := Tryz.underlying2,
  a2 := Tryz.isAgg2,
  z2 := Tryz.sizeOf2,
  v2 := Tryz.zeroValue2,
  t3 := Tryz.underlying3,
  a3 := Tryz.isAgg3,
  z3 := Tryz.sizeOf3,
  v3 := Tryz.zeroValue3,
  t4 := Tryz.underlying4,
  a4 := Tryz.isAgg4,
  z4 := Tryz.sizeOf4,
  v4 := Tryz.zeroValue4,
  t5 := Tryz.underlying5,
  a5 := Tryz.isAgg5,
  z5 := Tryz.sizeOf5,
  v5 := Tryz.zeroValue5,
  t9 := Tryz.underlying9,
  a9 := Tryz.isAgg9,
  z9 := Tryz.sizeOf9,
  v9 := Tryz.zeroValue9,
  t20 := Tryz.underlying20,
  a20 := Tryz.isAgg20,
  z20 := Tryz.sizeOf20,
  v20 := Tryz.zeroValue20,
  t37 := Tryz.underlying93,
  a37 := Tryz.isAgg93,
  z37 := Tryz.sizeOf93,
  v37 := Tryz.zeroValue93,
  t46 := Tryz.underlying125,
  a46 := Tryz.isAgg125,
  z46 := Tryz.sizeOf125,
  v46 := Tryz.zeroValue125,
  t51 := Tryz.underlying136,
  a51 := Tryz.isAgg136,
  z51 := Tryz.sizeOf136,
  v51 := Tryz.zeroValue136,
  t53 := Tryz.underlying119,
  a53 := Tryz.isAgg119,
  z53 := Tryz.sizeOf119,
  v53 := Tryz.zeroValue119,
  t171 := Tryz.underlying118,
  a171 := Tryz.isAgg118,
  z171 := Tryz.sizeOf118,
  v171 := Tryz.zeroValue118,
  t173 := Tryz.underlying122,
  a173 := Tryz.isAgg122,
  z173 := Tryz.sizeOf122,
  v173 := Tryz.zeroValue122,
  t212 := Tryz.underlying135,
  a212 := Tryz.isAgg135,
  z212 := Tryz.sizeOf135,
  v212 := Tryz.zeroValue135,
  t213 := Tryz.underlying137,
  a213 := Tryz.isAgg137,
  z213 := Tryz.sizeOf137,
  t232 := Tryz.underlying149,
  a232 := Tryz.isAgg149,
  z232 := Tryz.sizeOf149,
  v232 := Tryz.zeroValue149,
  t233 := Tryz.underlying150,
  a233 := Tryz.isAgg150,
  z233 := Tryz.sizeOf150,
  v233 := Tryz.zeroValue150,
  g17 := by kernel_rfl,
  g18 := by kernel_rfl,
  g19 := by kernel_rfl,
  i0 := by kernel_rfl,
  i2 := by kernel_rfl,
  i3 := by kernel_rfl,
  i4 := by kernel_rfl,
  i5 := by kernel_rfl,
  i9 := by kernel_rfl,
  i20 := by kernel_rfl,
  i37 := by kernel_rfl,
  i46 := by kernel_rfl,
  i51 := by kernel_rfl,
  i53 := by kernel_rfl,
  i171 := by kernel_rfl,
  i173 := by kernel_rfl,
  i212 := by kernel_rfl,
  i232 := by kernel_rfl,
  i233 := by kernel_rfl,
  m17 := by kernel_rfl,
  m18 := by kernel_rfl,
  m19 := by kernel_rfl }

/-- What the shelf's names are here. -/
def repLays_ren : Go.Shelf.Ren := ⟨fun | 105 => 59 | 212 => 77 | 99 => 78 | 165 => 49 | 166 => 50 | 170 => 79 | 169 => 51 | 263 => 95 | 264 => 96 | 206 => 97 | 240 => 67 | 241 => 68 | 276 => 88 | 277 => 89 | n => n, fun | 9 => 9 | 3 => 3 | 4 => 4 | 20 => 20 | 0 => 0 | 46 => 125 | 109 => 126 | 5 => 5 | 72 => 95 | 76 => 97 | 51 => 136 | 146 => 139 | 53 => 119 | 148 => 141 | 70 => 92 | 37 => 93 | 75 => 25 | 127 => 115 | 164 => 131 | 80 => 99 | n => n, fun | n => n⟩
theorem repLays : Go.Proofs.Lays.n105 Tryz.prog repLays_ren := {
  mixed := by kernel_rfl,
  f99 := Tryz.func78.trans (congrArg some (by kernel_rfl)),
  f105 := Tryz.func59.trans (congrArg some (by kernel_rfl)),
  f165 := Tryz.func49.trans (congrArg some (by kernel_rfl)),
  f166 := Tryz.func50.trans (congrArg some (by kernel_rfl)),
  f169 := Tryz.func51.trans (congrArg some (by kernel_rfl)),
  f170 := Tryz.func79.trans (congrArg some (by kernel_rfl)),
  f206 := Tryz.func97.trans (congrArg some (by kernel_rfl)),
  f212 := Tryz.func77.trans (congrArg some (by kernel_rfl)),
  f240 := Tryz.func67.trans (congrArg some (by kernel_rfl)),
  f241 := Tryz.func68.trans (congrArg some (by kernel_rfl)),
  f263 := Tryz.func95.trans (congrArg some (by kernel_rfl)),
  f264 := Tryz.func96.trans (congrArg some (by kernel_rfl)),
  f276 := Tryz.func88.trans (congrArg some (by kernel_rfl)),
  f277 := Tryz.func89.trans (congrArg some (by kernel_rfl)),
  t0 := Tryz.underlying0,
  a0 := Tryz.isAgg0,
  z0 := Tryz.sizeOf0,
  v0 := Tryz.zeroValue0,
  t3 := Tryz.underlying3,
  a3 := Tryz.isAgg3,
  z3 := Tryz.sizeOf3,
  v3 := Tryz.zeroValue3,
  t4 := Tryz.underlying4,
  a4 := Tryz.isAgg4,
  z4 := Tryz.sizeOf4,
  v4 := Tryz.zeroValue4,
  t5 := Tryz.underlying5,
  a5 := Tryz.isAgg5,
  z5 := Tryz.sizeOf5,
  v5 := Tryz.zeroValue5,
  t9 := Tryz.underlying9,
  a9 := Tryz.isAgg9,
  z9 := Tryz.sizeOf9,
  v9 := Tryz.zeroValue9,
  t20 := Tryz.underlying20,
  a20 := Tryz.isAgg20,
  z20 := Tryz.sizeOf20,
  v20 := Tryz.zeroValue20,
  t37 := Tryz.underlying93,
  a37 := Tryz.isAgg93,
  z37 := Tryz.sizeOf93,
  v37 := Tryz.zeroValue93,
  t46 := Tryz.underlying125,
  a46 := Tryz.isAgg125,
  z46 := Tryz.sizeOf125,
  v46 := Tryz.zeroValue125,
  t51 := Tryz.underlying136,
  a51 := Tryz.isAgg136,
  z51 := Tryz.sizeOf136,
  v51 := Tryz.zeroValue136,
  t53 := Tryz.underlying119,
  a53 := Tryz.isAgg119,
  z53 := Tryz.sizeOf119,
  v53 := Tryz.zeroValue119,
  t70 := Tryz.underlying92,
  a70 := Tryz.isAgg92,
  z70 := Tryz.sizeOf92,
  v70 := Tryz.zeroValue92,
  t72 := Tryz.underlying95,
  a72 := Tryz.isAgg95,
  z72 := Tryz.sizeOf95,
  v72 := Tryz.zeroValue95,
  t75 := Tryz.underlying25,
  a75 := Tryz.isAgg25,
  z75 := Tryz.sizeOf25,
  v75 := Tryz.zeroValue25,
  t76 := Tryz.underlying97,
  a76 := Tryz.isAgg97,
  z76 := Tryz.sizeOf97,
  v76 := Tryz.zeroValue97,
  t109 := Tryz.underlying126,
  a109 := Tryz.isAgg126,
  z109 := Tryz.sizeOf126,
  v109 := Tryz.zeroValue126,
  t127 := Tryz.underlying115,
  a127 := Tryz.isAgg115,
  z127 := Tryz.sizeOf115,
  v127 := Tryz.zeroValue115,
  t146 := Tryz.underlying139,
  a146 := Tryz.isAgg139,
  z146 := Tryz.sizeOf139,
  v146 := Tryz.zeroValue139,
  t148 := Tryz.underlying141,
  a148 := Tryz.isAgg141,
  z148 := Tryz.sizeOf141,
  v148 := Tryz.zeroValue141,
  t164 := Tryz.underlying131,
  a164 := Tryz.isAgg131,
  z164 := Tryz.sizeOf131,
  v164 := Tryz.zeroValue131 }

theorem repExtra : Go.Proofs.Builder.Extra Tryz.prog repLays_ren := {
  sizeBuilder := by kernel_rfl,
  liesBuilder := by kernel_rfl,
  t5 := Tryz.underlying5,
  a5 := Tryz.isAgg5,
  z5 := Tryz.sizeOf5,
  v5 := Tryz.zeroValue5,
  infoByte := by kernel_rfl,
  cellsByte := by kernel_rfl,
  sizeByte := by kernel_rfl,
  neB5 := by decide }

theorem itoa_any (w : World) (n : Nat) (hn : n ≤ 9999) (htab : Lib.TabIs Tryz.prog w "internal/strconv.uint64pow10" .u64 Lib.pow10Tab) :
    Calls Tryz.prog 62 #[.int .i64 (n : Int)] w fun e w' => e = .returned (.string ⟨(Lib.decDigits n).toArray⟩) ∧ Below w.heap.size w w' := by
  refine (Any.strconv_Itoa itoaLays (n : Int) (by omega) (by omega) w htab).mono ?_
  rintro e w' ⟨rfl, k, os, rfl⟩
  refine ⟨by rw [Lib.itoa_nonneg], ?_⟩
  exact ⟨rfl, rfl, rfl, by show _ ≤ (_ ++ _ : Array Obj).size; simp, fun j hj => by show (w.heap ++ os : Array Obj)[j]? = _; rw [Array.getElem?_append_left hj]⟩
theorem rep_any (w : World) (c : Nat) (hc : c ≤ 4) : Calls Tryz.prog 59 #[.string ⟨#[48]⟩, .int .i64 (c : Int)] w fun e w' => e = .returned (.string ⟨(Lib.repeatL [48] c).toArray⟩) ∧ Below w.heap.size w w' :=
  Any.strings_Repeat repLays repExtra ⟨#[48]⟩ c w (by omega) (by show 1 * c ≤ _; omega)

def Pow (w : World) : Prop := Lib.TabIs Tryz.prog w "internal/strconv.uint64pow10" .u64 Lib.pow10Tab
theorem Pow.on {w w' : World} (h : Pow w) (hb : Below w.heap.size w w') : Pow w' := by
  unfold Pow Lib.TabIs World.var? at *
  cases hg : Tryz.prog.globalNamed "internal/strconv.uint64pow10" with
  | none => simp [hg] at h
  | some g =>
    simp only [hg, Option.bind_some] at h ⊢
    rcases Nat.lt_or_ge g w.heap.size with hl | hl
    · rw [hb.block g hl]; exact h
    · rw [Array.getElem?_eq_none hl] at h; cases h

/-- A number in so many digits. -/
def pd (n : Nat) : Nat → List UInt8
  | 0 => []
  | k + 1 => pd (n / 10) k ++ [UInt8.ofNat (48 + n % 10)]
theorem pd_len : ∀ (k n : Nat), (pd n k).length = k
  | 0, _ => rfl
  | k + 1, n => by rw [pd, List.length_append, pd_len k]; rfl
theorem pd_zero : ∀ k, pd 0 k = Lib.repeatL [48] k
  | 0 => rfl
  | k + 1 => by
    rw [pd, pd_zero k]
    have : ∀ j, Lib.repeatL ([48] : List UInt8) j ++ [48] = 48 :: Lib.repeatL [48] j := fun j => by
      induction j with
      | zero => rfl
      | succ j ih => rw [Lib.repeatL, List.append_assoc, ih]; rfl
    exact this k
theorem pad_eq : ∀ (k n : Nat), n < 10 ^ k → 1 ≤ k → (Lib.decDigits n).length ≤ k ∧ Lib.repeatL [48] (k - (Lib.decDigits n).length) ++ Lib.decDigits n = pd n k
  | 0, _, _, h => by omega
  | k + 1, n, h, _ => by
    rw [Lib.decDigits]
    by_cases h10 : n < 10
    · rw [dif_pos h10]
      refine ⟨by simp, ?_⟩
      rw [pd, show n / 10 = 0 by omega, pd_zero, show n % 10 = n by omega]
      rfl
    · rw [dif_neg h10]
      have hk : 1 ≤ k := by
        rcases Nat.eq_zero_or_pos k with h0 | h0
        · subst h0; simp at h; omega
        · exact h0
      have ih := pad_eq k (n / 10) (by rw [Nat.pow_succ] at h; omega) hk
      refine ⟨by rw [List.length_append, List.length_singleton]; omega, ?_⟩
      rw [List.length_append, List.length_singleton, show k + 1 - ((Lib.decDigits (n / 10)).length + 1) = k - (Lib.decDigits (n / 10)).length by omega, ← List.append_assoc, ih.2, pd]

def pdB (n k : Nat) : ByteArray := ⟨(pd n k).toArray⟩
theorem pdB_size (n k : Nat) : (pdB n k).size = k := by show (pd n k).toArray.size = k; rw [List.size_toArray, pd_len]

set_option maxRecDepth 100000 in
theorem padded_any (w : World) (n k : Nat) (hn : n < 10 ^ k) (hk : 1 ≤ k) (hk4 : k ≤ 4) (h9 : n ≤ 9999) (hp : Pow w) :
    Calls Tryz.prog 39 #[.int .i64 (n : Int), .int .i64 (k : Int)] w fun e w' => e = .returned (.string (pdB n k)) ∧ Below w.heap.size w w' := by
  have c69 := itoa_any w n h9 hp
  obtain ⟨hl, he⟩ := pad_eq k n hn hk
  have c70 := fun W => rep_any W (k - (Lib.decDigits n).length) (by omega)
  have HE : Hid ((⟨(Lib.repeatL [48] (k - (Lib.decDigits n).length)).toArray⟩ : ByteArray) ++ ⟨(Lib.decDigits n).toArray⟩ = pdB n k) := by
    show _ = _
    apply ByteArray.ext
    apply Array.ext'
    rw [ByteArray.data_append, Array.toList_append]
    exact he
  have hz : (⟨(Lib.decDigits n).toArray⟩ : ByteArray).size = (Lib.decDigits n).length := by show (Lib.decDigits n).toArray.size = _; rw [List.size_toArray]
  have hz2 : (⟨(Lib.repeatL [48] (k - (Lib.decDigits n).length)).toArray⟩ : ByteArray).size = k - (Lib.decDigits n).length := by
    show (Lib.repeatL [48] (k - (Lib.decDigits n).length)).toArray.size = _
    rw [List.size_toArray, Lib.repeatL_length]
    simp
  generalize pdB n k = E at *
  generalize (⟨(Lib.decDigits n).toArray⟩ : ByteArray) = D at *
  generalize (Lib.decDigits n).length = l at *
  generalize (⟨(Lib.repeatL [48] (k - l)).toArray⟩ : ByteArray) = R at *
  have hs : (k : Int) - (l : Int) = ((k - l : Nat) : Int) := by omega
  generalize k - l = r at *
  clear he hn hp
  go_enter Tryz.func39, Tryz.ntmps39
  go_wp2_with (first | (go_at_call 62; refine c69.mono ?_; rintro e W1 ⟨rfl, hb1⟩) | (go_at_call 59; refine Stop.mk ?_))
  refine Stop.out ((c70 _).mono ?_)
  rintro e W2 ⟨rfl, hb2⟩
  clear c70
  go_wp2
  go_ret
  exact ⟨by rw [← HE.out]; rfl, hb1.trans (hb2.mono hb1.size)⟩

/-- A day in memory, and the table. -/
structure Bn (w W : World) (q y m d : Nat) : Prop where
  pow : Pow W
  q0 : W.cell? ⟨q, 0, none⟩ = some (.int .i64 (y : Int))
  q1 : W.cell? ⟨q, 1, none⟩ = some (.int .i64 (m : Int))
  q2 : W.cell? ⟨q, 2, none⟩ = some (.int .i64 (d : Int))
  bel : Below w.heap.size w W
theorem Bn.next {w W W' : World} {q y m d : Nat} (h : Bn w W q y m d) (hb : Below W.heap.size W W') : Bn w W' q y m d :=
  ⟨h.pow.on hb, (hb.cell (cell_lt h.q0)).trans h.q0, (hb.cell (cell_lt h.q1)).trans h.q1, (hb.cell (cell_lt h.q2)).trans h.q2, h.bel.trans (hb.mono h.bel.size)⟩

def txt (y m d : Nat) : ByteArray := pdB y 4 ++ pdB m 2 ++ pdB d 2
theorem txt_size (y m d : Nat) : (txt y m d).size = 8 := by unfold txt; rw [ByteArray.size_append, ByteArray.size_append, pdB_size, pdB_size, pdB_size]

def Fit (nI kI : Int) : Prop := ∃ n k : Nat, nI = n ∧ kI = k ∧ n < 10 ^ k ∧ 1 ≤ k ∧ k ≤ 4 ∧ n ≤ 9999

set_option maxRecDepth 100000 in
set_option maxHeartbeats 2000000 in
theorem text_any (w : World) (y m d : Nat) (hy : y ≤ 9999) (hm : m ≤ 99) (hd : d ≤ 99) (hp : Pow w) :
    Calls Tryz.prog 18 #[dv y m d, .int .i64 3] w fun e w' => e = .returned (.string (txt y m d)) ∧ Below w.heap.size w w' := by
  obtain ⟨W, hW⟩ : ∃ W, w.alloc (.cells #[.int .i64 (y : Int), .int .i64 (m : Int), .int .i64 (d : Int)] 23) = W := ⟨_, rfl⟩
  have hb : Below w.heap.size w W := hW ▸ (Below.refl _ _).alloc (Nat.le_refl _) _
  have b0 : Bn w W w.heap.size y m d := ⟨hp.on hb, by rw [← hW]; simp, by rw [← hW]; simp, by rw [← hW]; simp, hb⟩
  have b1 : Bn w W.drew w.heap.size y m d := ⟨b0.pow, b0.q0, b0.q1, b0.q2, b0.bel.drew⟩
  have q0 := b0.q0
  have q1 := b0.q1
  have q2 := b0.q2
  have hY : Fit (y : Int) 4 := ⟨y, 4, rfl, rfl, by omega, by omega, by omega, hy⟩
  have hM : Fit (m : Int) 2 := ⟨m, 2, rfl, rfl, by omega, by omega, by omega, by omega⟩
  have hD : Fit (d : Int) 2 := ⟨d, 2, rfl, rfl, by omega, by omega, by omega, by omega⟩
  have c53 : ∀ W' nI kI, Fit nI kI → Bn w W' w.heap.size y m d → Calls Tryz.prog 39 #[.int .i64 nI, .int .i64 kI] W' fun e w' => e = .returned (.string (pdB nI.toNat kI.toNat)) ∧ Bn w w' w.heap.size y m d := by
    rintro W' _ _ ⟨n, k, rfl, rfl, h1, h2, h3, h4⟩ hB
    exact (padded_any W' n k h1 h2 h3 h4 hB.pow).mono fun e w' h => ⟨h.1, hB.next h.2⟩
  have hz4 : (pdB y 4).size = 4 := pdB_size _ _
  have hz2 : (pdB m 2).size = 2 := pdB_size _ _
  have hz2' : (pdB d 2).size = 2 := pdB_size _ _
  have hE : pdB y 4 ++ pdB m 2 ++ pdB d 2 = txt y m d := rfl
  have hZ : (txt y m d).size = 8 := txt_size y m d
  have hX : (txt y m d).extract 0 8 = txt y m d := by
    apply ByteArray.ext
    rw [ByteArray.data_extract]
    have : (txt y m d).data.size = 8 := hZ
    rw [← this]
    simp
  generalize txt y m d = E at *
  clear hp hy hm hd
  unfold dv
  go_enter Tryz.func18, Tryz.ntmps18
  go_wp2
  go_region_with (first | (go_at_call 39; refine (c53 _ _ _ ?_ ?_).mono ?_; (focus first | exact hY | exact hM | exact hD); (focus assumption); rintro e W5 ⟨rfl, b5⟩; have u0 := b5.q0; have u1 := b5.q1; have u2 := b5.q2) | fail)
  all_goals
    have b9 := b5.bel
    clear c53 b0 b1
    go_wp2
    go_ret
    exact ⟨rfl, b9⟩
end Go.Proofs.YtohojghndnfgdaaGreatDoor.Tm
