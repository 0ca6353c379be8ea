
import Derived.Test.YtnheeenkdjmhoaaDoorG
import Derived.Deep.RegionLaw
import Derived.Deep.RegionLawGrows
/-
  DERIVED. Take, label by label.
-/
namespace Go.Proofs.YtnheeenkdjmhoaaDoor
open Go Go.Proofs Go.RowKit Go.Deep

/-- What is still to be read, at a label. -/
def JR (bs : List Nat) (R : FSt × Fs) (l k : Nat) (tx : List Nat) (lg : Bool) (fs : Fs) : Prop :=
  match l with
  | 0 => tk (bs.drop k) (2, tx, lg) fs = R
  | 1 => tk (bs.drop k) (3, tx, lg) fs = R
  | 2 => tk (bs.drop k) (1, [], false) fs = R
  | 3 => tk (bs.drop k) (2, [], false) fs = R
  | 4 => 0 < k ∧ tk (bs.drop k) (lk (bs.getD (k - 1) 0) tx lg) fs = R
  | _ => False
def rk : Nat → Nat
  | 0 => 2
  | 1 => 2
  | 2 => 1
  | 3 => 3
  | _ => 4
/-- What holds at a label. -/
def JJ (w0 : World) (q : Nat) (u0 bv : Value) (bs : List Nat) (R : FSt × Fs) (l m : Nat) (a : Act) (W : World) : Prop :=
  ∃ (k : Nat) (told u : Value) (t : Nat → Value) (st : Int) (tx : List Nat) (lg : Bool) (fs : Fs),
    a = fr q bv told (k : Int) t ∧ TI w0 q u0 W u told st tx lg fs ∧ k ≤ bs.length ∧ fs.length ≤ k ∧ JR bs R l k tx lg fs ∧ m = 5 * (bs.length - k) + rk l
/-- What Take tells. -/
def QQ (w0 : World) (q : Nat) (u0 : Value) (bs : List Nat) (R : FSt × Fs) : Ending → World → Prop := fun e W =>
  ∃ (told u : Value) (s : Nat) (tx : List Nat) (lg : Bool) (fs : Fs), e = .returned told ∧ TI w0 q u0 W u told (s : Int) tx lg fs ∧ fs.length ≤ bs.length ∧ R = ((s, tx, lg), fs)

theorem TI.far {w0 : World} {q : Nat} {u0 : Value} {W : World} {u told : Value} {st : Int} {tx : List Nat} {lg : Bool} {fs : Fs} (h : TI w0 q u0 W u told st tx lg fs) {g : Nat} (hg : told.ownBlock = some g) : ¬ FS q u g ∧ g < W.heap.size := by
  refine ⟨?_, (h.tl.lt g hg).2⟩
  rcases h.tl.2 with ⟨rfl, _⟩ | ⟨g', cap, cur, rfl, _, hh, _⟩
  · cases hg
  · have e1 : g' = g := Option.some.inj hg
    subst e1
    rintro (rfl | hu)
    · obtain ⟨c, hc, _⟩ := h.fr.row
      rw [hh] at hc
      cases hc
    · rcases h.fr.own.2 with ⟨rfl, _⟩ | ⟨g2, cap2, cur2, rfl, _, hh2, _⟩
      · cases hu
      · have e2 : g2 = g' := Option.some.inj hu
        subst e2
        rw [hh] at hh2
        cases hh2

theorem TI.step {w0 : World} {q : Nat} {u0 : Value} {W W' : World} {u u' told : Value} {st st' : Int} {tx tx' : List Nat} {lg lg' : Bool} {fs : Fs} (h : TI w0 q u0 W u told st tx lg fs) (hf : FR W' q u' st' tx' lg') (hc : Ch (FS q u) W W') (hu : u'.ownBlock = u.ownBlock ∨ ∀ g, u'.ownBlock = some g → W.heap.size ≤ g) :
    TI w0 q u0 W' u' told st' tx' lg' fs := by
  refine ⟨hf, h.ch.trans hc ?_, ?_, owns_of h.tl fun g hg => hc.block g (h.far hg).2 (h.far hg).1⟩
  · rintro j hj (rfl | hj')
    · exact .inl rfl
    · rcases h.ub with e | e
      · exact .inr (by rw [← e]; exact hj')
      · have := e j hj'; omega
  · rcases hu with e | e
    · rw [e]; exact h.ub
    · exact .inr fun g hg => Nat.le_trans h.ch.size (e g hg)

theorem TI.drop {w0 : World} {q : Nat} {u0 : Value} {W W' : World} {u told : Value} {st k : Int} {tx : List Nat} {lg : Bool} {fs : Fs} (h : TI w0 q u0 W u told st tx lg fs) (hf : FR W' q (.slice none 0 0) k [] false) (hc : Ch (fun j => j = q) W W') :
    TI w0 q u0 W' (.slice none 0 0) told k [] false fs := h.step hf (hc.mono fun _ _ e => .inl e) (.inr fun g hg => by cases hg)

theorem TI.st {w0 : World} {q : Nat} {u0 : Value} {W : World} {u told : Value} {st : Int} {tx : List Nat} {lg : Bool} {fs : Fs} (h : TI w0 q u0 W u told st tx lg fs) (k : Int) :
    TI w0 q u0 (W.setCell ⟨q, 0, none⟩ (.int .i64 k)) u told k tx lg fs := h.step (h.fr.set0 k) ((Ch.refl _ _).setCell _ _ (fun _ => .inl rfl)) (.inl rfl)

theorem info37 : (Tryd.prog.info? 33).map (fun i => (i.zero, i.size, i.bytes)) = some (some (.agg #[.string ⟨#[]⟩, .bool false]), 2, 24) := by kernel_rfl

theorem fr_ex {q : Nat} {bv told : Value} {next : Int} {x7 x8 x9 x10 x11 x12 x13 x14 x15 x16 x17 x18 x19 x20 x21 x22 x23 x24 x25 x26 x27 x28 x29 x30 x31 x32 x33 x34 x35 x36 x37 x38 x39 x40 x41 x42 x43 x44 x45 x46 x47 x48 x49 x50 x51 x52 x53 x54 x55 x56 x57 x58 x59 x60 x61 x62 x63 x64 x65 x66 x67 x68 x69 x70 x71 x72 x73 x74 x75 x76 x77 x78 x79 x80 x81 x82 x83 x84 x85 x86 x87 x88 x89 x90 x91 x92 x93 x94 x95 x96 x97 : Value} : ∃ t, ({ tmps := #[.pointer (some ⟨q, 0, none⟩), bv, undef, undef, .slice none 0 0, told, .int .i64 next, x7, x8, x9, x10, x11, x12, x13, x14, x15, x16, x17, x18, x19, x20, x21, x22, x23, x24, x25, x26, x27, x28, x29, x30, x31, x32, x33, x34, x35, x36, x37, x38, x39, x40, x41, x42, x43, x44, x45, x46, x47, x48, x49, x50, x51, x52, x53, x54, x55, x56, x57, x58, x59, x60, x61, x62, x63, x64, x65, x66, x67, x68, x69, x70, x71, x72, x73, x74, x75, x76, x77, x78, x79, x80, x81, x82, x83, x84, x85, x86, x87, x88, x89, x90, x91, x92, x93, x94, x95, x96, x97], defers := [] } : Act) = fr q bv told next t :=
  ⟨fun i => (#[x7, x8, x9, x10, x11, x12, x13, x14, x15, x16, x17, x18, x19, x20, x21, x22, x23, x24, x25, x26, x27, x28, x29, x30, x31, x32, x33, x34, x35, x36, x37, x38, x39, x40, x41, x42, x43, x44, x45, x46, x47, x48, x49, x50, x51, x52, x53, x54, x55, x56, x57, x58, x59, x60, x61, x62, x63, x64, x65, x66, x67, x68, x69, x70, x71, x72, x73, x74, x75, x76, x77, x78, x79, x80, x81, x82, x83, x84, x85, x86, x87, x88, x89, x90, x91, x92, x93, x94, x95, x96, x97] : Array Value).getD (i - 7) undef, rfl⟩

theorem JJ.mk {w0 : World} {q : Nat} {u0 bv : Value} {bs : List Nat} {R : FSt × Fs} {l m : Nat} {a : Act} {W : World} {k : Nat} {told u : Value} {next : Int} {st : Int} {tx : List Nat} {lg : Bool} {fs : Fs}
    (ha : ∃ t, a = fr q bv told next t) (hnext : next = (k : Int)) (hI : TI w0 q u0 W u told st tx lg fs) (hk : k ≤ bs.length) (hf : fs.length ≤ k) (hR : JR bs R l k tx lg fs) (hm : 5 * (bs.length - k) + rk l < m) :
    ∃ m', m' < m ∧ JJ w0 q u0 bv bs R l m' a W := by
  obtain ⟨t, rfl⟩ := ha
  subst hnext
  exact ⟨_, hm, k, told, u, t, st, tx, lg, fs, rfl, hI, hk, hf, hR, rfl⟩

theorem sp1y : ∀ tx lg, sp 11 (1, tx, lg) = (2, [], false) := fun _ _ => rfl
theorem sp1n {x : Nat} (h : x ≠ 11) (tx : List Nat) (lg : Bool) : sp x (1, tx, lg) = (1, [], false) := by simp [sp, h]
theorem sp2 (x : Nat) (tx : List Nat) (lg : Bool) : sp x (2, tx, lg) = lk x tx lg := by simp [sp]
theorem sp3y (tx : List Nat) (lg : Bool) : sp 13 (3, tx, lg) = (1, [], false) := by simp [sp]
theorem sp3n {x : Nat} (h : x ≠ 13) (tx : List Nat) (lg : Bool) : sp x (3, tx, lg) = lk x (kpT tx 28) (kpL tx lg) := by simp [sp, h]
theorem ot1 (x : Nat) (tx : List Nat) (lg : Bool) : ot x (1, tx, lg) = [] := by simp [ot]
theorem ot2 (x : Nat) (tx : List Nat) (lg : Bool) : ot x (2, tx, lg) = [] := by simp [ot]
theorem ot3y (tx : List Nat) (lg : Bool) : ot 13 (3, tx, lg) = [(tx, lg)] := by simp [ot]
theorem ot3n {x : Nat} (h : x ≠ 13) (tx : List Nat) (lg : Bool) : ot x (3, tx, lg) = [] := by simp [ot, h]

theorem TI.told {w0 : World} {q : Nat} {u0 : Value} {W W' : World} {u told told' : Value} {st : Int} {tx : List Nat} {lg : Bool} {fs : Fs} (h : TI w0 q u0 W u told st tx lg fs) (o : Obj) (n : Nat) (hg : ((W.drewN n).alloc o).grownBy W' told.ownBlock) (ht : W'.ownsRow w0.heap.size 33 2 told' (fs.length + 1) (fsC fs ++ [.string (arr tx), .bool lg])) :
    TI w0 q u0 W' u told' st tx lg (fs ++ [(tx, lg)]) := by
  have hb : ∀ j, j < W.heap.size → told.ownBlock ≠ some j → W'.heap[j]? = W.heap[j]? := fun j hj hne => (hg.block j (by simp; omega) (fun e => hne e.symm)).trans (blk_alloc_lt _ _ _ (by simpa using hj))
  refine ⟨h.fr.of fun j hj hs => hb j hj (fun e => (h.far e).1 hs), ⟨?_, ?_, ?_, ?_, ?_⟩, h.ub, ?_⟩
  · exact hg.os.trans h.ch.os
  · exact hg.tape.trans h.ch.tape
  · exact hg.output.trans h.ch.output
  · have := hg.size; have := h.ch.size; simp at *; omega
  · intro j hj hs
    refine (hb j (Nat.lt_of_lt_of_le hj h.ch.size) fun e => ?_).trans (h.ch.block j hj hs)
    have := (h.tl.lt j e).1
    omega
  · rw [fsC_app, List.length_append]
    exact ht

set_option maxRecDepth 100000 in
set_option maxHeartbeats 4000000 in
theorem lab1 (r0 c : Code) (hc : Tryd.f8.body = some (.seq r0 (.scope c))) (w0 : World) (q : Nat) (u0 bv : Value) (bs : List Nat) (R : FSt × Fs) (hV : V w0 bv bs) (hA : Apart w0 q u0 bv) (hn : bs.length ≤ 16777216) (m : Nat) (a : Act) (W : World) (h : JJ w0 q u0 bv bs R 1 m a W) :
    ∃ rest, findLabel c 1 = some (Code.seq .skip rest) ∧ rest.wp Tryd.prog (jumps (fun l' a' w' => ∃ m', m' < m ∧ JJ w0 q u0 bv bs R l' m' a' w') (bodyPost Tryd.prog Tryd.f8 (QQ w0 q u0 bs R))) a W := by
  unfold Tryd.f8 at hc
  dsimp only at hc
  injection hc with hc
  injection hc with hc0 hc
  clear hc0
  injection hc with hc
  subst hc
  refine ⟨_, rfl, ?_⟩
  obtain ⟨k, told, u, t, st, tx, lg, fs, rfl, hI, hk, hf, hR, rfl⟩ := h
  have hR : tk (bs.drop k) (3, tx, lg) fs = R := hR
  have HT : Hid (TI w0 q u0 (W.setCell ⟨q, 0, none⟩ (.int .i64 3)) u told 3 tx lg fs) := hI.st 3
  have HV : Hid (V (W.setCell ⟨q, 0, none⟩ (.int .i64 3)) bv bs) := hV.ch HT.out.ch hA
  obtain ⟨ao, cap, rfl, hform, hbytes⟩ := HV.out.form
  obtain ⟨c0, c1, c2, cf⟩ := rowIs_cells hI.fr.row
  have HR : Hid (tk (bs.drop k) (3, tx, lg) fs = R) := hR
  have HB : Hid (∀ x ∈ bs, x < 256) := hbytes
  clear hI hR hV hbytes
  unfold fr
  by_cases hkn : k < bs.length
  · obtain ⟨b, off, rfl, hat⟩ := hform (by omega)
    obtain ⟨x, hx⟩ : ∃ x, bs.getD k 0 = x := ⟨_, rfl⟩
    have hcell := hat.1 k hkn
    rw [hx] at hcell
    have hx8 : x < 256 := by rw [← hx, List.getD_eq_getElem?_getD, List.getElem?_eq_getElem hkn]; exact HB.out _ (List.getElem_mem hkn)
    clear hform hat
    have e0 : ((k : Int) == (bs.length : Int)) = false := by simp; omega
    by_cases h13 : x = 13
    · subst h13
      obtain ⟨i0, hi, hz0, hz1, hz2⟩ := info_parts info37
      go_upto_region 27 with fail
      generalize hW3 : W.setCell ⟨q, 0, none⟩ (.int .i64 3) = W3 at *
      have hconv0 : (convert 22 9 u).run Tryd.prog W3 = .ok (.string (arr tx)) W3 := HT.out.fr.conv
      have hconv1 : (convert 22 9 u).run Tryd.prog W3.drew = .ok (.string (arr tx)) W3.drew := (HT.out.fr.of (w' := W3.drew) (fun _ _ _ => rfl)).conv
      obtain ⟨d0, d1, d2, df⟩ := rowIs_cells HT.out.fr.row
      clear c0 c1 c2 cf
      go_region_law (go_loud (refine step_append_lies _ rfl (.tmp 83) (.tmp 94) 30 rfl w0.heap.size 33 i0 _ 2 24 Tryd.underlying30 hi hz0 hz1 hz2 rfl (by decide) told fs.length (fsC fs) (by simp [Act.eval]) (World.ownsRow.alloc HT.out.tl _) ⟨W3.heap.size, 0, none⟩ 1 1 [.string (arr tx), .bool lg] (by simp [Act.eval]) rfl (World.news_of_block (blk_alloc_new _ _)) (by simp [Value.oneCell']) (by decide) (by unfold maxLen; omega) (by omega) (by have := HT.out.ch.size; simp; omega) _ rfl ?_; intro g cp W4 hown4 hgrow4 hat4 hlt4))
      all_goals
        have HT4 : Hid (TI w0 q u0 W4 u (.slice (some ⟨g, 0, none⟩) (fs.length + 1) cp) 3 tx lg (fs ++ [(tx, lg)])) := HT.out.told _ 1 hgrow4 hown4
        clear hown4 hgrow4 hat4 hlt4 hconv0 hconv1 d0 d1 d2 df hcell
        go_wp2
        go_step3
        refine JJ.mk (k := k + 1) fr_ex (by omega) HT4.out (by omega) (by simp; omega) ?_ (by simp only [rk]; omega)
        show tk (bs.drop (k + 1)) (1, [], false) (fs ++ [(tx, lg)]) = R
        rw [← HR.out, tk_at hkn, hx, sp3y, ot3y]
    · have e1 : ((x : Int) == 13) = false := by simp; omega
      have kk := keep_any HT.out.fr 28 (by decide)
      go_wp2_with (go_at_call 22; refine Stop.mk ?_)
      refine Stop.out (kk.mono ?_)
      rintro e W2 ⟨rfl, ⟨u', hf2, hu2⟩, hc2⟩
      have HT2 : Hid (TI w0 q u0 W2 u' told 3 (kpT tx 28) (kpL tx lg) fs) := HT.out.step hf2 hc2 hu2
      clear hf2 hu2 hc2 kk hcell c0 c1 c2 cf
      go_wp2
      go_step3
      refine JJ.mk (k := k + 1) fr_ex (by omega) HT2.out (by omega) (by omega) ⟨by omega, ?_⟩ (by simp only [rk]; omega)
      rw [← HR.out, tk_at hkn, Nat.add_sub_cancel, hx, sp3n h13, ot3n h13, List.append_nil]
  · have hk' : k = bs.length := by omega
    subst hk'
    go_wp2
    rw [jumps_ret]
    go_ret
    exact ⟨told, u, 3, tx, lg, fs, rfl, HT.out, hf, by rw [← HR.out, tk_end (Nat.le_refl _)]⟩
end Go.Proofs.YtnheeenkdjmhoaaDoor
