import Derived.Test.YtggdlagopgpnhaaDoorC
import Derived.Shelf.Strconv.Itoa3
import Derived.Shelf.Strings.Repeat
/-
  DERIVED. Numbers written with zeros ahead: strconv.Itoa and strings.Repeat, off the shelf.
-/
namespace Go.Proofs.YtggdlagopgpnhaaDoor
open Go Go.Proofs Go.RowKit Go.Shelf

/-- What the shelf's names are here. -/
def itoaLays_ren : Go.Shelf.Ren := ⟨fun | 171 => 69 | 243 => 79 | 246 => 89 | 283 => 96 | 284 => 97 | 285 => 98 | 286 => 99 | 129 => 104 | 317 => 103 | 318 => 105 | 319 => 106 | 320 => 107 | 337 => 108 | 338 => 109 | n => n, fun | 3 => 3 | 9 => 9 | 2 => 2 | 4 => 4 | 171 => 140 | 0 => 0 | 53 => 136 | 37 => 106 | 5 => 5 | 173 => 143 | 212 => 149 | 51 => 133 | 20 => 20 | 213 => 150 | 46 => 118 | 232 => 153 | 233 => 154 | n => n, fun | 17 => 2 | 18 => 4 | 19 => 5 | n => n⟩
theorem itoaLays : Go.Proofs.LaysM.n171 Tryd.prog itoaLays_ren := {
  mixed := by kernel_rfl,
  f129 := Tryd.func104.trans (congrArg some (by kernel_rfl)),
  f171 := Tryd.func69.trans (congrArg some (by kernel_rfl)),
  f243 := Tryd.func79.trans (congrArg some (by kernel_rfl)),
  f246 := Tryd.func89.trans (congrArg some (by kernel_rfl)),
  f283 := Tryd.func96.trans (congrArg some (by kernel_rfl)),
  f284 := Tryd.func97.trans (congrArg some (by kernel_rfl)),
  f285 := Tryd.func98.trans (congrArg some (by kernel_rfl)),
  f286 := Tryd.func99.trans (congrArg some (by kernel_rfl)),
  f317 := Tryd.func103.trans (congrArg some (by kernel_rfl)),
  f318 := Tryd.func105.trans (congrArg some (by kernel_rfl)),
  f319 := Tryd.func106.trans (congrArg some (by kernel_rfl)),
  f320 := Tryd.func107.trans (congrArg some (by kernel_rfl)),
  f337 := Tryd.func108.trans (congrArg some (by kernel_rfl)),
  f338 := Tryd.func109.trans (congrArg some (by kernel_rfl)),
  t0 := Tryd.underlying0,
  a0 := Tryd.isAgg0,
  z0 := Tryd.sizeOf0,
  v0 := Tryd.zeroValue0,
  t2 := Tryd.underlying2,
  a2 := Tryd.isAgg2,
  z2 := Tryd.sizeOf2,
  v2 := Tryd.zeroValue2,
  t3 := Tryd.underlying3,
  a3 := Tryd.isAgg3,
  z3 := Tryd.sizeOf3,
  v3 := Tryd.zeroValue3,
  t4 := Tryd.underlying4,
  a4 := Tryd.isAgg4,
  z4 := Tryd.sizeOf4,
  v4 := Tryd.zeroValue4,
  t5 := Tryd.underlying5,
  a5 := Tryd.isAgg5,
  z5 := Tryd.sizeOf5,
  v5 := Tryd.zeroValue5,
  t9 := Tryd.underlying9,
  a9 := Tryd.isAgg9,
  z9 := Tryd.sizeOf9,
  v9 := Tryd.zeroValue9,
  t20 := Tryd.underlying20,
  a20 := Tryd.isAgg20,
  z20 := Tryd.sizeOf20,
  v20 := Tryd.zeroValue20,
  t37 := Tryd.underlying106,
  a37 := Tryd.isAgg106,
  z37 := Tryd.sizeOf106,
  v37 := Tryd.zeroValue106,
  t46 := Tryd.underlying118,
  a46 := Tryd.isAgg118,
  z46 := Tryd.sizeOf118,
  v46 := Tryd.zeroValue118,
  t51 := Tryd.underlying133,
  a51 := Tryd.isAgg133,
  z51 := Tryd.sizeOf133,
  v51 := Tryd.zeroValue133,
  t53 := Tryd.underlying136,
  a53 := Tryd.isAgg136,
  z53 := Tryd.sizeOf136,
  v53 := Tryd.zeroValue136,
  t171 := Tryd.underlying140,
  a171 := Tryd.isAgg140,
  z171 := Tryd.sizeOf140,
  v171 := Tryd.zeroValue140,
  t173 := Tryd.underlying143,
  a173 := Tryd.isAgg143,
  z173 := Tryd.sizeOf143,
  v173 := Tryd.zeroValue143,
  t212 := Tryd.underlying149,
  a212 := Tryd.isAgg149,
  z212 := Tryd.sizeOf149,
  v212 := Tryd.zeroValue149,
  t213 := Tryd.underlying150,
  a213 := Tryd.isAgg150,
  z213 := Tryd.sizeOf150,
  t232 := Tryd.underlying153,
  a232 := Tryd.isAgg153,
  z232 := Tryd.sizeOf153,
  v232 := Tryd.zeroValue153,
  t233 := Tryd.underlying154,
  a233 := Tryd.isAgg154,
  z233 := Tryd.sizeOf154,
  v233 := Tryd.zeroValue154,
  g17 := by kernel_rfl,
  g18 := by kernel_rfl,
  g19 := by kernel_rfl,
  i0 := by kernel_rfl,
  i2 := by kernel_rfl,
  i3 := by kernel_rfl,
  i4 := by kernel_rfl,
  i5 := by kernel_rfl,
  i9 := by kernel_rfl,
  i20 := by kernel_rfl,
  i37 := by kernel_rfl,
  i46 := by kernel_rfl,
  i51 := by kernel_rfl,
  i53 := by kernel_rfl,
  i171 := by kernel_rfl,
  i173 := by kernel_rfl,
  i212 := by kernel_rfl,
  i232 := by kernel_rfl,
  i233 := by kernel_rfl,
  m17 := by kernel_rfl,
  m18 := by kernel_rfl,
  m19 := by kernel_rfl }

/-- What the shelf's names are here. -/
def repLays_ren : Go.Shelf.Ren := ⟨fun | 105 => 70 | 212 => 80 | 99 => 81 | 165 => 82 | 166 => 83 | 170 => 84 | 169 => 85 | 263 => 90 | 264 => 91 | 206 => 92 | 240 => 93 | 241 => 94 | 276 => 100 | 277 => 101 | n => n, fun | 9 => 9 | 3 => 3 | 4 => 4 | 20 => 20 | 0 => 0 | 46 => 118 | 109 => 119 | 5 => 5 | 72 => 124 | 76 => 125 | 51 => 133 | 146 => 134 | 53 => 136 | 148 => 137 | 70 => 122 | 37 => 106 | 75 => 25 | 127 => 139 | 164 => 145 | 80 => 128 | n => n, fun | n => n⟩
theorem repLays : Go.Proofs.Lays.n105 Tryd.prog repLays_ren := {
  mixed := by kernel_rfl,
  f99 := Tryd.func81.trans (congrArg some (by kernel_rfl)),
  f105 := Tryd.func70.trans (congrArg some (by kernel_rfl)),
  f165 := Tryd.func82.trans (congrArg some (by kernel_rfl)),
  f166 := Tryd.func83.trans (congrArg some (by kernel_rfl)),
  f169 := Tryd.func85.trans (congrArg some (by kernel_rfl)),
  f170 := Tryd.func84.trans (congrArg some (by kernel_rfl)),
  f206 := Tryd.func92.trans (congrArg some (by kernel_rfl)),
  f212 := Tryd.func80.trans (congrArg some (by kernel_rfl)),
  f240 := Tryd.func93.trans (congrArg some (by kernel_rfl)),
  f241 := Tryd.func94.trans (congrArg some (by kernel_rfl)),
  f263 := Tryd.func90.trans (congrArg some (by kernel_rfl)),
  f264 := Tryd.func91.trans (congrArg some (by kernel_rfl)),
  f276 := Tryd.func100.trans (congrArg some (by kernel_rfl)),
  f277 := Tryd.func101.trans (congrArg some (by kernel_rfl)),
  t0 := Tryd.underlying0,
  a0 := Tryd.isAgg0,
  z0 := Tryd.sizeOf0,
  v0 := Tryd.zeroValue0,
  t3 := Tryd.underlying3,
  a3 := Tryd.isAgg3,
  z3 := Tryd.sizeOf3,
  v3 := Tryd.zeroValue3,
  t4 := Tryd.underlying4,
  a4 := Tryd.isAgg4,
  z4 := Tryd.sizeOf4,
  v4 := Tryd.zeroValue4,
  t5 := Tryd.underlying5,
  a5 := Tryd.isAgg5,
  z5 := Tryd.sizeOf5,
  v5 := Tryd.zeroValue5,
  t9 := Tryd.underlying9,
  a9 := Tryd.isAgg9,
  z9 := Tryd.sizeOf9,
  v9 := Tryd.zeroValue9,
  t20 := Tryd.underlying20,
  a20 := Tryd.isAgg20,
  z20 := Tryd.sizeOf20,
  v20 := Tryd.zeroValue20,
  t37 := Tryd.underlying106,
  a37 := Tryd.isAgg106,
  z37 := Tryd.sizeOf106,
  v37 := Tryd.zeroValue106,
  t46 := Tryd.underlying118,
  a46 := Tryd.isAgg118,
  z46 := Tryd.sizeOf118,
  v46 := Tryd.zeroValue118,
  t51 := Tryd.underlying133,
  a51 := Tryd.isAgg133,
  z51 := Tryd.sizeOf133,
  v51 := Tryd.zeroValue133,
  t53 := Tryd.underlying136,
  a53 := Tryd.isAgg136,
  z53 := Tryd.sizeOf136,
  v53 := Tryd.zeroValue136,
  t70 := Tryd.underlying122,
  a70 := Tryd.isAgg122,
  z70 := Tryd.sizeOf122,
  v70 := Tryd.zeroValue122,
  t72 := Tryd.underlying124,
  a72 := Tryd.isAgg124,
  z72 := Tryd.sizeOf124,
  v72 := Tryd.zeroValue124,
  t75 := Tryd.underlying25,
  a75 := Tryd.isAgg25,
  z75 := Tryd.sizeOf25,
  v75 := Tryd.zeroValue25,
  t76 := Tryd.underlying125,
  a76 := Tryd.isAgg125,
  z76 := Tryd.sizeOf125,
  v76 := Tryd.zeroValue125,
  t109 := Tryd.underlying119,
  a109 := Tryd.isAgg119,
  z109 := Tryd.sizeOf119,
  v109 := Tryd.zeroValue119,
  t127 := Tryd.underlying139,
  a127 := Tryd.isAgg139,
  z127 := Tryd.sizeOf139,
  v127 := Tryd.zeroValue139,
  t146 := Tryd.underlying134,
  a146 := Tryd.isAgg134,
  z146 := Tryd.sizeOf134,
  v146 := Tryd.zeroValue134,
  t148 := Tryd.underlying137,
  a148 := Tryd.isAgg137,
  z148 := Tryd.sizeOf137,
  v148 := Tryd.zeroValue137,
  t164 := Tryd.underlying145,
  a164 := Tryd.isAgg145,
  z164 := Tryd.sizeOf145,
  v164 := Tryd.zeroValue145 }

theorem repExtra : Go.Proofs.Builder.Extra Tryd.prog repLays_ren := {
  sizeBuilder := by kernel_rfl,
  liesBuilder := by kernel_rfl,
  t5 := Tryd.underlying5,
  a5 := Tryd.isAgg5,
  z5 := Tryd.sizeOf5,
  v5 := Tryd.zeroValue5,
  infoByte := by kernel_rfl,
  cellsByte := by kernel_rfl,
  sizeByte := by kernel_rfl,
  neB5 := by decide }

theorem itoa_any (w : World) (n : Nat) (hn : n ≤ 9999) (htab : Lib.TabIs Tryd.prog w "internal/strconv.uint64pow10" .u64 Lib.pow10Tab) :
    Calls Tryd.prog 69 #[.int .i64 (n : Int)] w fun e w' => e = .returned (.string ⟨(Lib.decDigits n).toArray⟩) ∧ Below w.heap.size w w' := by
  refine (Any.strconv_Itoa itoaLays (n : Int) (by omega) (by omega) w htab).mono ?_
  rintro e w' ⟨rfl, k, os, rfl⟩
  refine ⟨by rw [Lib.itoa_nonneg], ?_⟩
  exact ⟨rfl, rfl, rfl, by show _ ≤ (_ ++ _ : Array Obj).size; simp, fun j hj => by show (w.heap ++ os : Array Obj)[j]? = _; rw [Array.getElem?_append_left hj]⟩
theorem rep_any (w : World) (c : Nat) (hc : c ≤ 4) : Calls Tryd.prog 70 #[.string ⟨#[48]⟩, .int .i64 (c : Int)] w fun e w' => e = .returned (.string ⟨(Lib.repeatL [48] c).toArray⟩) ∧ Below w.heap.size w w' :=
  Any.strings_Repeat repLays repExtra ⟨#[48]⟩ c w (by omega) (by show 1 * c ≤ _; omega)

def Pow (w : World) : Prop := Lib.TabIs Tryd.prog w "internal/strconv.uint64pow10" .u64 Lib.pow10Tab
theorem Pow.on {w w' : World} (h : Pow w) (hb : Below w.heap.size w w') : Pow w' := by
  unfold Pow Lib.TabIs World.var? at *
  cases hg : Tryd.prog.globalNamed "internal/strconv.uint64pow10" with
  | none => simp [hg] at h
  | some g =>
    simp only [hg, Option.bind_some] at h ⊢
    rcases Nat.lt_or_ge g w.heap.size with hl | hl
    · rw [hb.block g hl]; exact h
    · rw [Array.getElem?_eq_none hl] at h; cases h

/-- A number in so many digits. -/
def pd (n : Nat) : Nat → List UInt8
  | 0 => []
  | k + 1 => pd (n / 10) k ++ [UInt8.ofNat (48 + n % 10)]
theorem pd_len : ∀ (k n : Nat), (pd n k).length = k
  | 0, _ => rfl
  | k + 1, n => by rw [pd, List.length_append, pd_len k]; rfl
theorem pd_zero : ∀ k, pd 0 k = Lib.repeatL [48] k
  | 0 => rfl
  | k + 1 => by
    rw [pd, pd_zero k]
    have : ∀ j, Lib.repeatL ([48] : List UInt8) j ++ [48] = 48 :: Lib.repeatL [48] j := fun j => by
      induction j with
      | zero => rfl
      | succ j ih => rw [Lib.repeatL, List.append_assoc, ih]; rfl
    exact this k
theorem pad_eq : ∀ (k n : Nat), n < 10 ^ k → 1 ≤ k → (Lib.decDigits n).length ≤ k ∧ Lib.repeatL [48] (k - (Lib.decDigits n).length) ++ Lib.decDigits n = pd n k
  | 0, _, _, h => by omega
  | k + 1, n, h, _ => by
    rw [Lib.decDigits]
    by_cases h10 : n < 10
    · rw [dif_pos h10]
      refine ⟨by simp, ?_⟩
      rw [pd, show n / 10 = 0 by omega, pd_zero, show n % 10 = n by omega]
      rfl
    · rw [dif_neg h10]
      have hk : 1 ≤ k := by
        rcases Nat.eq_zero_or_pos k with h0 | h0
        · subst h0; simp at h; omega
        · exact h0
      have ih := pad_eq k (n / 10) (by rw [Nat.pow_succ] at h; omega) hk
      refine ⟨by rw [List.length_append, List.length_singleton]; omega, ?_⟩
      rw [List.length_append, List.length_singleton, show k + 1 - ((Lib.decDigits (n / 10)).length + 1) = k - (Lib.decDigits (n / 10)).length by omega, ← List.append_assoc, ih.2, pd]

def pdB (n k : Nat) : ByteArray := ⟨(pd n k).toArray⟩
theorem pdB_size (n k : Nat) : (pdB n k).size = k := by show (pd n k).toArray.size = k; rw [List.size_toArray, pd_len]

set_option maxRecDepth 100000 in
theorem padded_any (w : World) (n k : Nat) (hn : n < 10 ^ k) (hk : 1 ≤ k) (hk4 : k ≤ 4) (h9 : n ≤ 9999) (hp : Pow w) :
    Calls Tryd.prog 53 #[.int .i64 (n : Int), .int .i64 (k : Int)] w fun e w' => e = .returned (.string (pdB n k)) ∧ Below w.heap.size w w' := by
  have c69 := itoa_any w n h9 hp
  obtain ⟨hl, he⟩ := pad_eq k n hn hk
  have c70 := fun W => rep_any W (k - (Lib.decDigits n).length) (by omega)
  have HE : Hid ((⟨(Lib.repeatL [48] (k - (Lib.decDigits n).length)).toArray⟩ : ByteArray) ++ ⟨(Lib.decDigits n).toArray⟩ = pdB n k) := by
    show _ = _
    apply ByteArray.ext
    apply Array.ext'
    rw [ByteArray.data_append, Array.toList_append]
    exact he
  have hz : (⟨(Lib.decDigits n).toArray⟩ : ByteArray).size = (Lib.decDigits n).length := by show (Lib.decDigits n).toArray.size = _; rw [List.size_toArray]
  have hz2 : (⟨(Lib.repeatL [48] (k - (Lib.decDigits n).length)).toArray⟩ : ByteArray).size = k - (Lib.decDigits n).length := by
    show (Lib.repeatL [48] (k - (Lib.decDigits n).length)).toArray.size = _
    rw [List.size_toArray, Lib.repeatL_length]
    simp
  generalize pdB n k = E at *
  generalize (⟨(Lib.decDigits n).toArray⟩ : ByteArray) = D at *
  generalize (Lib.decDigits n).length = l at *
  generalize (⟨(Lib.repeatL [48] (k - l)).toArray⟩ : ByteArray) = R at *
  have hs : (k : Int) - (l : Int) = ((k - l : Nat) : Int) := by omega
  generalize k - l = r at *
  clear he hn hp
  go_enter Tryd.func53, Tryd.ntmps53
  go_wp2_with (first | (go_at_call 69; refine c69.mono ?_; rintro e W1 ⟨rfl, hb1⟩) | (go_at_call 70; refine Stop.mk ?_))
  refine Stop.out ((c70 _).mono ?_)
  rintro e W2 ⟨rfl, hb2⟩
  clear c70
  go_wp2
  go_ret
  exact ⟨by rw [← HE.out]; rfl, hb1.trans (hb2.mono hb1.size)⟩

/-- A day in memory, and the table. -/
structure Bn (w W : World) (q y m d : Nat) : Prop where
  pow : Pow W
  q0 : W.cell? ⟨q, 0, none⟩ = some (.int .i64 (y : Int))
  q1 : W.cell? ⟨q, 1, none⟩ = some (.int .i64 (m : Int))
  q2 : W.cell? ⟨q, 2, none⟩ = some (.int .i64 (d : Int))
  bel : Below w.heap.size w W
theorem Bn.next {w W W' : World} {q y m d : Nat} (h : Bn w W q y m d) (hb : Below W.heap.size W W') : Bn w W' q y m d :=
  ⟨h.pow.on hb, (hb.cell (cell_lt h.q0)).trans h.q0, (hb.cell (cell_lt h.q1)).trans h.q1, (hb.cell (cell_lt h.q2)).trans h.q2, h.bel.trans (hb.mono h.bel.size)⟩

def txt (y m d : Nat) : ByteArray := pdB y 4 ++ pdB m 2 ++ pdB d 2
theorem txt_size (y m d : Nat) : (txt y m d).size = 8 := by unfold txt; rw [ByteArray.size_append, ByteArray.size_append, pdB_size, pdB_size, pdB_size]

def Fit (nI kI : Int) : Prop := ∃ n k : Nat, nI = n ∧ kI = k ∧ n < 10 ^ k ∧ 1 ≤ k ∧ k ≤ 4 ∧ n ≤ 9999

set_option maxRecDepth 100000 in
set_option maxHeartbeats 2000000 in
theorem text_any (w : World) (y m d : Nat) (hy : y ≤ 9999) (hm : m ≤ 99) (hd : d ≤ 99) (hp : Pow w) :
    Calls Tryd.prog 29 #[dv y m d, .int .i64 3] w fun e w' => e = .returned (.string (txt y m d)) ∧ Below w.heap.size w w' := by
  obtain ⟨W, hW⟩ : ∃ W, w.alloc (.cells #[.int .i64 (y : Int), .int .i64 (m : Int), .int .i64 (d : Int)] 23) = W := ⟨_, rfl⟩
  have hb : Below w.heap.size w W := hW ▸ (Below.refl _ _).alloc (Nat.le_refl _) _
  have b0 : Bn w W w.heap.size y m d := ⟨hp.on hb, by rw [← hW]; simp, by rw [← hW]; simp, by rw [← hW]; simp, hb⟩
  have b1 : Bn w W.drew w.heap.size y m d := ⟨b0.pow, b0.q0, b0.q1, b0.q2, b0.bel.drew⟩
  have q0 := b0.q0
  have q1 := b0.q1
  have q2 := b0.q2
  have hY : Fit (y : Int) 4 := ⟨y, 4, rfl, rfl, by omega, by omega, by omega, hy⟩
  have hM : Fit (m : Int) 2 := ⟨m, 2, rfl, rfl, by omega, by omega, by omega, by omega⟩
  have hD : Fit (d : Int) 2 := ⟨d, 2, rfl, rfl, by omega, by omega, by omega, by omega⟩
  have c53 : ∀ W' nI kI, Fit nI kI → Bn w W' w.heap.size y m d → Calls Tryd.prog 53 #[.int .i64 nI, .int .i64 kI] W' fun e w' => e = .returned (.string (pdB nI.toNat kI.toNat)) ∧ Bn w w' w.heap.size y m d := by
    rintro W' _ _ ⟨n, k, rfl, rfl, h1, h2, h3, h4⟩ hB
    exact (padded_any W' n k h1 h2 h3 h4 hB.pow).mono fun e w' h => ⟨h.1, hB.next h.2⟩
  have hz4 : (pdB y 4).size = 4 := pdB_size _ _
  have hz2 : (pdB m 2).size = 2 := pdB_size _ _
  have hz2' : (pdB d 2).size = 2 := pdB_size _ _
  have hE : pdB y 4 ++ pdB m 2 ++ pdB d 2 = txt y m d := rfl
  have hZ : (txt y m d).size = 8 := txt_size y m d
  have hX : (txt y m d).extract 0 8 = txt y m d := by
    apply ByteArray.ext
    rw [ByteArray.data_extract]
    have : (txt y m d).data.size = 8 := hZ
    rw [← this]
    simp
  generalize txt y m d = E at *
  clear hp hy hm hd
  unfold dv
  go_enter Tryd.func29, Tryd.ntmps29
  go_wp2
  go_region_with (first | (go_at_call 53; refine (c53 _ _ _ ?_ ?_).mono ?_; (focus first | exact hY | exact hM | exact hD); (focus assumption); rintro e W5 ⟨rfl, b5⟩; have u0 := b5.q0; have u1 := b5.q1; have u2 := b5.q2) | fail)
  all_goals
    have b9 := b5.bel
    clear c53 b0 b1
    go_wp2
    go_ret
    exact ⟨rfl, b9⟩

set_option maxRecDepth 100000 in
set_option maxHeartbeats 1000000 in
/-- A day's text. -/
theorem print_any (w : World) (y m d : Nat) (hday : Day y m d) (hT : Mt w) (hp : Pow w) : Calls Tryd.prog 9 #[dv y m d] w fun e w' => e = .returned (.tuple #[.string (txt y m d), .nilIface]) ∧ Below w.heap.size w w' := by
  obtain ⟨W, hW⟩ : ∃ W, w.alloc (.cells #[.int .i64 (y : Int), .int .i64 (m : Int), .int .i64 (d : Int)] 23) = W := ⟨_, rfl⟩
  have hb : Below w.heap.size w W := hW ▸ (Below.refl _ _).alloc (Nat.le_refl _) _
  have hs1 : w.heap.size < W.heap.size := by rw [← hW]; simp
  have q0 : W.cell? ⟨w.heap.size, 0, none⟩ = some (.int .i64 (y : Int)) := by rw [← hW]; simp
  have q1 : W.cell? ⟨w.heap.size, 1, none⟩ = some (.int .i64 (m : Int)) := by rw [← hW]; simp
  have q2 : W.cell? ⟨w.heap.size, 2, none⟩ = some (.int .i64 (d : Int)) := by rw [← hW]; simp
  have c27 := unfit_any W y m d (hT.on hb)
  have hu : uf y m d = -1 := by
    obtain ⟨h1, h2, h3, h4, h5, h6⟩ := hday
    unfold uf
    rw [if_neg (by omega), if_neg (by omega), if_neg (by rw [Int.toNat_natCast, Int.toNat_natCast]; omega)]
  rw [hu] at c27
  have hm31 := md_le y m
  obtain ⟨h1, h2, h3, h4, h5, h6⟩ := hday
  have c29 := fun W' hp' => text_any W' y m d (by omega) (by omega) (by omega) hp'
  have HPw : Hid (Pow W) := hp.on hb
  have HBw : Hid (Below w.heap.size w W) := hb
  generalize txt y m d = E at *
  clear hT hp hu hb h1 h2 h3 h4 h5 h6 hm31
  unfold dv at *
  go_enter Tryd.func9, Tryd.ntmps9
  go_wp2_with (go_at_call 27; refine Stop.mk ?_)
  refine Stop.out (c27.mono ?_)
  rintro e W2 ⟨rfl, hb2⟩
  have u0 := (hb2.cell (p := ⟨w.heap.size, 0, none⟩) hs1).trans q0
  have u1 := (hb2.cell (p := ⟨w.heap.size, 1, none⟩) hs1).trans q1
  have u2 := (hb2.cell (p := ⟨w.heap.size, 2, none⟩) hs1).trans q2
  have c := c29 W2 (HPw.out.on hb2)
  have HB2 : Hid (Below w.heap.size w W2) := HBw.out.trans (hb2.mono HBw.out.size)
  clear c27 c29 q0 q1 q2 hb2
  go_wp2_with (go_at_call 29; refine Stop.mk ?_)
  refine Stop.out (c.mono ?_)
  rintro e W3 ⟨rfl, hb3⟩
  have HB3 : Hid (Below w.heap.size w W3) := HB2.out.trans (hb3.mono HB2.out.size)
  clear hb3 c
  go_wp2
  exact bodyPost_ret (v := .tuple #[.string E, .nilIface]) (by simp [results, Tryd.results9, go_sem]) rfl ⟨rfl, HB3.out⟩
end Go.Proofs.YtggdlagopgpnhaaDoor
