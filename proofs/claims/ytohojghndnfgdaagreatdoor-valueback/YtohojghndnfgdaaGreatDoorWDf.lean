import Derived.Test.YtohojghndnfgdaaGreatDoorWG
import Derived.Shelf.Strconv.Itoa4
import Derived.Shelf.Strconv.AppendUint10
import Derived.Test.YtohojghndnfgdaaGreatDoorWDd
section
/-
  DERIVED. strconv.FormatInt and strconv.FormatUint at base 10.
-/
namespace Go.Proofs.YtohojghndnfgdaaGreatDoor.Wh
open Go Go.Proofs Go.RowKit Go.Shelf Go.Sort Go.Lib

/-- What the shelf's names are here. -/
def fmtLays_ren : Go.Shelf.Ren := ⟨fun | 129 => 91 | 173 => 28 | 246 => 55 | 283 => 71 | 284 => 72 | 285 => 73 | 286 => 74 | 317 => 90 | 318 => 92 | 319 => 93 | 320 => 94 | 337 => 102 | 338 => 103 | n => n, fun | 0 => 0 | 2 => 2 | 3 => 3 | 4 => 4 | 5 => 5 | 9 => 9 | 20 => 20 | 37 => 93 | 46 => 125 | 51 => 136 | 53 => 119 | 171 => 118 | 173 => 122 | 212 => 135 | 213 => 137 | 232 => 149 | 233 => 150 | n => n, fun | 17 => 3 | 18 => 6 | 19 => 7 | n => n⟩
theorem fmtLays : Go.Proofs.LaysM.n173 Tryz.prog fmtLays_ren := {
  mixed := by kernel_rfl,
  f129 := Tryz.func91.trans (congrArg some (by kernel_rfl)),
  f173 := Tryz.func28.trans (congrArg some (by kernel_rfl)),
  f246 := Tryz.func55.trans (congrArg some (by kernel_rfl)),
  f283 := Tryz.func71.trans (congrArg some (by kernel_rfl)),
  f284 := Tryz.func72.trans (congrArg some (by kernel_rfl)),
  f285 := Tryz.func73.trans (congrArg some (by kernel_rfl)),
  f286 := Tryz.func74.trans (congrArg some (by kernel_rfl)),
  f317 := Tryz.func90.trans (congrArg some (by kernel_rfl)),
  f318 := Tryz.func92.trans (congrArg some (by kernel_rfl)),
  f319 := Tryz.func93.trans (congrArg some (by kernel_rfl)),
  f320 := Tryz.func94.trans (congrArg some (by kernel_rfl)),
  f337 := Tryz.func102.trans (congrArg some (by kernel_rfl)),
  f338 := Tryz.func103.trans (congrArg some (by kernel_rfl)),
  t0 := Tryz.underlying0,
  a0 := Tryz.isAgg0,
  z0 := Tryz.sizeOf0,
  v0 := Tryz.zeroValue0,
  t2 := Tryz.underlying2,
  a2 := Tryz.isAgg2,
  z2 := Tryz.sizeOf2,
  v2 := Tryz.zeroValue2,
  t3 := Tryz.underlying3,
  a3 := Tryz.isAgg3,
  z3 := Tryz.sizeOf3,
  v3 := Tryz.zeroValue3,
  t4 := Tryz.underlying4,
  a4 := Tryz.isAgg4,
  z4 := Tryz.sizeOf4,
  v4 := Tryz.zeroValue4,
  t5 := Tryz.underlying5,
  a5 := Tryz.isAgg5,
  z5 := Tryz.sizeOf5,
  v5 := Tryz.zeroValue5,
  t9 := Tryz.underlying9,
  a9 := Tryz.isAgg9,
  z9 := Tryz.sizeOf9,
  v9 := Tryz.zeroValue9,
  t20 := Tryz.underlying20,
  a20 := Tryz.isAgg20,
  z20 := Tryz.sizeOf20,
  v20 := Tryz.zeroValue20,
  t37 := Tryz.underlying93,
  a37 := Tryz.isAgg93,
  z37 := Tryz.sizeOf93,
  v37 := Tryz.zeroValue93,
  t46 := Tryz.underlying125,
  a46 := Tryz.isAgg125,
  z46 := Tryz.sizeOf125,
  v46 := Tryz.zeroValue125,
  t51 := Tryz.underlying136,
  a51 := Tryz.isAgg136,
  z51 := Tryz.sizeOf136,
  v51 := Tryz.zeroValue136,
  t53 := Tryz.underlying119,
  a53 := Tryz.isAgg119,
  z53 := Tryz.sizeOf119,
  v53 := Tryz.zeroValue119,
  t171 := Tryz.underlying118,
  a171 := Tryz.isAgg118,
  z171 := Tryz.sizeOf118,
  v171 := Tryz.zeroValue118,
  t173 := Tryz.underlying122,
  a173 := Tryz.isAgg122,
  z173 := Tryz.sizeOf122,
  v173 := Tryz.zeroValue122,
  t212 := Tryz.underlying135,
  a212 := Tryz.isAgg135,
  z212 := Tryz.sizeOf135,
  v212 := Tryz.zeroValue135,
  t213 := Tryz.underlying137,
  a213 := Tryz.isAgg137,
  z213 := Tryz.sizeOf137,
  t232 := Tryz.underlying149,
  a232 := Tryz.isAgg149,
  z232 := Tryz.sizeOf149,
  v232 := Tryz.zeroValue149,
  t233 := Tryz.underlying150,
  a233 := Tryz.isAgg150,
  z233 := Tryz.sizeOf150,
  v233 := Tryz.zeroValue150,
  g17 := by kernel_rfl,
  g18 := by kernel_rfl,
  g19 := by kernel_rfl,
  i0 := by kernel_rfl,
  i2 := by kernel_rfl,
  i3 := by kernel_rfl,
  i4 := by kernel_rfl,
  i5 := by kernel_rfl,
  i9 := by kernel_rfl,
  i20 := by kernel_rfl,
  i37 := by kernel_rfl,
  i46 := by kernel_rfl,
  i51 := by kernel_rfl,
  i53 := by kernel_rfl,
  i171 := by kernel_rfl,
  i173 := by kernel_rfl,
  i212 := by kernel_rfl,
  i232 := by kernel_rfl,
  i233 := by kernel_rfl,
  m17 := by kernel_rfl,
  m18 := by kernel_rfl,
  m19 := by kernel_rfl }

theorem below_grow {w : World} (k : Nat) (os : Array Obj) : Below w.heap.size w (grow (w.drewN k) os) :=
  ⟨rfl, rfl, rfl, by show _ ≤ (_ ++ _ : Array Obj).size; simp, fun j hj => by show (w.heap ++ os : Array Obj)[j]? = _; rw [Array.getElem?_append_left hj]⟩

def Pow (w : World) : Prop := Lib.TabIs Tryz.prog w "internal/strconv.uint64pow10" .u64 Lib.pow10Tab

theorem fmtInt_any (w : World) (n : Int) (h0 : -9223372036854775808 ≤ n) (h1 : n ≤ 9223372036854775807) (htab : Pow w) :
    Calls Tryz.prog 28 #[.int .i64 n, .int .i64 10] w fun e w' => e = .returned (.string ⟨(Lib.itoa n).toArray⟩) ∧ Below w.heap.size w w' := by
  refine (Any.strconv_FormatInt_10 fmtLays n h0 h1 w htab).mono ?_
  rintro e w' ⟨rfl, k, os, rfl⟩
  exact ⟨rfl, below_grow k os⟩

end Go.Proofs.YtohojghndnfgdaaGreatDoor.Wh
end

section
/-
  DERIVED. PrintWhole of both.
-/
namespace Go.Proofs.YtohojghndnfgdaaGreatDoor.Wh
open Go Go.Proofs Go.RowKit

/-- What PrintWhole tells. -/
def PW (n : Int) : ByteArray × Option (Int × Int) := if wrong n then (⟨#[]⟩, some (0, 101)) else (⟨(Lib.itoa n).toArray⟩, none)
theorem PW_far {n : Int} (h : wrong n) : PW n = (⟨#[]⟩, some (0, 101)) := by unfold PW; rw [if_pos h]
theorem PW_ok {n : Int} (h : ¬ wrong n) : PW n = (⟨(Lib.itoa n).toArray⟩, none) := by unfold PW; rw [if_neg h]

set_option maxRecDepth 100000 in
set_option maxHeartbeats 1000000 in
theorem pprintw_any (w : World) (n : Int) (h0 : -9223372036854775808 ≤ n) (h1 : n ≤ 9223372036854775807) (hp : Pow w) : Calls Tryz.prog 12 #[.int .i64 n] w (PostP w (.string (PW n).1) (PW n).2) := by
  obtain ⟨R1, R2, hR⟩ : ∃ a o, PW n = (a, o) := ⟨_, _, rfl⟩
  rw [hR]
  dsimp only
  have c30 := isWhole_any w n
  by_cases hw : wrong n
  · obtain ⟨rfl, rfl⟩ := Prod.mk.inj (hR.symm.trans (PW_far hw))
    rw [decide_eq_false (not_not_intro hw)] at c30
    have c17 := refusal_any 0 101 w
    clear hR hw
    go_enter Tryz.func12, Tryz.ntmps12
    go_wp2_with (go_at_call 27; refine Stop.mk ?_)
    refine Stop.out (c30.mono ?_)
    rintro e W3 ⟨rfl, rfl⟩
    go_wp2_with (go_at_call 15; refine Stop.mk ?_)
    refine Stop.out (c17.mono ?_)
    rintro e W4 ⟨v, rfl, hv, hb⟩
    have HV : Hid (PErr W4 v (some (0, 101))) := hv
    have HB4 : Hid (Below w.heap.size w W4) := hb
    clear hv hb c17 c30
    go_wp2
    refine bodyPost_ret (v := .tuple #[.string ⟨#[]⟩, v]) (by simp [results, Tryz.results12, go_sem]) rfl ⟨v, rfl, HV.out, HB4.out⟩
  · obtain ⟨hq, rfl⟩ := Prod.mk.inj (hR.symm.trans (PW_ok hw))
    rw [decide_eq_true hw] at c30
    have c35 := fmtInt_any w n h0 h1 hp
    rw [← hq] at c35
    clear hR hw hq
    go_enter Tryz.func12, Tryz.ntmps12
    go_wp2_with (go_at_call 27; refine Stop.mk ?_)
    refine Stop.out (c30.mono ?_)
    rintro e W3 ⟨rfl, rfl⟩
    go_wp2_with (go_at_call 28; refine Stop.mk ?_)
    refine Stop.out (c35.mono ?_)
    rintro e W4 ⟨rfl, hb⟩
    have HB4 : Hid (Below w.heap.size w W4) := hb
    clear hb c35 c30
    go_wp2
    refine bodyPost_ret (v := .tuple #[.string R1, .nilIface]) (by simp [results, Tryz.results12, go_sem]) rfl ⟨_, rfl, rfl, HB4.out⟩

end Go.Proofs.YtohojghndnfgdaaGreatDoor.Wh
end
