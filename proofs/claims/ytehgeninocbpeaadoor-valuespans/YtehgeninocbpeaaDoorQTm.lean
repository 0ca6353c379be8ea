import Derived.Test.YtehgeninocbpeaaDoorQTj
import Derived.Test.YtehgeninocbpeaaDoorQTl
/-
  DERIVED. Both clocks, beside one another.
-/
namespace Go.Proofs.YtehgeninocbpeaaDoor.Tm
open Go Go.Proofs Go.RowKit

def bd (x : Bool) (pl : Int) : Option (Int × Int) := if x = true then some (pl, 101) else none
theorem nextD_or (o : Option (Int × Int)) (x : Bool) (pl : Nat) : nextD o x pl = o.or (bd x pl) := by
  unfold nextD bd
  cases x with
  | true => cases o <;> simp
  | false => cases o <;> simp
def clO (i h m s : Nat) : Option (Int × Int) := if 23 < h then some ((i : Int), 101) else if 59 < m then some ((i : Int) + 2, 101) else if 60 < s then some ((i : Int) + 4, 101) else none

def ck6 (s : ByteArray) (S : Mst) : Mst := fracS s (moreS s [minuteS s, secondS s] (hourS s S))

theorem low0 (n : Nat) (hi : Int) : (decide ((n : Int) < 0) || decide (hi < (n : Int))) = decide (hi < (n : Int)) := by
  have : decide ((n : Int) < 0) = false := by simp
  rw [this, Bool.false_or]
theorem hourS_eq {s : ByteArray} {S : Mst} {c : Nat} (hb : S.b = false) (hc : cnt s S.a 2 = c) : hourS s S = { S with a := S.a + c, b := decide (c < 2), o := S.o.or (bd (decide (23 < (nv s S.a c : Int))) (S.a : Int)), h := nv s S.a c, p := 1 } := by
  have h1 : pcC s S 2 = c := by unfold pcC; rw [hb, if_neg (by decide), hc]
  unfold hourS pcO pcN
  rw [h1, hb, Bool.false_or, low0, nextD_or]
theorem minuteS_eq {s : ByteArray} {S : Mst} {c : Nat} (hb : S.b = false) (hc : cnt s S.a 2 = c) : minuteS s S = { S with a := S.a + c, b := decide (c < 2), o := S.o.or (bd (decide (59 < (nv s S.a c : Int))) (S.a : Int)), mi := nv s S.a c, p := 2 } := by
  have h1 : pcC s S 2 = c := by unfold pcC; rw [hb, if_neg (by decide), hc]
  unfold minuteS pcO pcN
  rw [h1, hb, Bool.false_or, low0, nextD_or]
theorem secondS_eq {s : ByteArray} {S : Mst} {c : Nat} (hb : S.b = false) (hc : cnt s S.a 2 = c) : secondS s S = { S with a := S.a + c, b := decide (c < 2), o := S.o.or (bd (decide (60 < (nv s S.a c : Int))) (S.a : Int)), sc := nv s S.a c, p := 3 } := by
  have h1 : pcC s S 2 = c := by unfold pcC; rw [hb, if_neg (by decide), hc]
  unfold secondS pcO pcN
  rw [h1, hb, Bool.false_or, low0, nextD_or]

theorem isD_cnt (s : ByteArray) (a : Nat) : isD s a = decide (0 < cnt s a 2) := by
  rw [cnt]
  cases isD s a with
  | true => simp; omega
  | false => simp
theorem more_stop {s : ByteArray} {S : Mst} (l : List (Mst → Mst)) (h : S.b = true ∨ cnt s S.a 2 = 0) : moreS s l S = S := by
  cases l with
  | nil => rfl
  | cons t l =>
    rw [moreS, isD_cnt]
    rcases h with h | h
    · rw [h]; simp
    · rw [h]; simp
theorem more_go {s : ByteArray} {S : Mst} (t : Mst → Mst) (l : List (Mst → Mst)) (h : S.b = false) (hc : 0 < cnt s S.a 2) : moreS s (t :: l) S = moreS s l (t S) := by
  rw [moreS, isD_cnt, h, decide_eq_true hc]
  rfl
theorem frac_stop {s : ByteArray} {S : Mst} (h : S.p < 3 ∨ nx s S.a S.b ≠ 46) : fracS s S = S := by
  unfold fracS
  by_cases h3 : S.p < 3
  · rw [if_pos h3]
  · rw [if_neg h3, if_neg (h.resolve_left h3)]
theorem nx_brk (s : ByteArray) (a : Nat) : nx s a true = 0 := by unfold nx; rw [if_pos (.inl rfl)]
theorem nx_in {s : ByteArray} {a : Nat} (h : a < s.size) : nx s a false = (s.get! a).toNat := by unfold nx; rw [if_neg (by simp; exact h)]

/-- What the program's clock has at each number of digits. -/
theorem cnt6 (s : ByteArray) (i : Nat) : cnt s i 6 = if cnt s i 2 < 2 then cnt s i 2 else if cnt s (i + 2) 2 < 2 then 2 + cnt s (i + 2) 2 else 4 + cnt s (i + 4) 2 := by
  rw [show (6 : Nat) = 2 + 4 by rfl, cnt_split s 4 2 i]
  split
  · rfl
  · rw [show (4 : Nat) = 2 + 2 by rfl, cnt_split s 2 2 (i + 2), show i + 2 + 2 = i + 4 by omega]
    split
    · rfl
    · omega

theorem oc1 (o : Option (Int × Int)) (i h : Nat) : o.or (bd (decide (23 < (h : Int))) (i : Int)) = o.or (clO i h 0 0) := by
  unfold bd clO
  by_cases h1 : 23 < h
  · have : decide (23 < (h : Int)) = true := by simp; omega
    rw [this, if_pos rfl, if_pos h1]
  · have : decide (23 < (h : Int)) = false := by simp; omega
    rw [this, if_neg (by decide), if_neg h1]
    rfl
theorem oc2 (o : Option (Int × Int)) (i h m : Nat) : (o.or (clO i h 0 0)).or (bd (decide (59 < (m : Int))) ((i + 2 : Nat) : Int)) = o.or (clO i h m 0) := by
  unfold bd clO
  by_cases h1 : 23 < h
  · simp [h1]
  · by_cases h2 : 59 < m
    · have : decide (59 < (m : Int)) = true := by simp; omega
      simp [h1, h2, this]
    · have : decide (59 < (m : Int)) = false := by simp; omega
      simp [h1, h2, this]
theorem oc3 (o : Option (Int × Int)) (i h m sc : Nat) : (o.or (clO i h m 0)).or (bd (decide (60 < (sc : Int))) ((i + 4 : Nat) : Int)) = o.or (clO i h m sc) := by
  unfold bd clO
  by_cases h1 : 23 < h
  · simp [h1]
  · by_cases h2 : 59 < m
    · simp [h1, h2]
    · by_cases h3 : 60 < sc
      · have : decide (60 < (sc : Int)) = true := by simp; omega
        simp [h1, h2, h3, this]
      · have : decide (60 < (sc : Int)) = false := by simp; omega
        simp [h1, h2, h3, this]

theorem clock_both (w : World) (s : ByteArray) (i e : Nat) (hs : s.size ≤ 140737488351232) (hi : i ≤ e) (he : e ≤ s.size) (hE : isD s e = false) (hE2 : nx s e false ≠ 46) (S : Mst) (ha : S.a = i) (hb : S.b = false) (hmi : S.mi = 0) (hsc : S.sc = 0) (hmc : S.mc = 0) :
    (∃ p : Nat, Calls Tryd.prog 36 #[.string s, .int .i64 (i : Int), .int .i64 (e : Int)] w (PostK w (t5 0 0 0 0 0) 100 (p : Int)) ∧ (ck6 s S).a = p ∧ ((ck6 s S).b = true ∨ p < e)) ∨
    (∃ h m sc mc p : Nat, Calls Tryd.prog 36 #[.string s, .int .i64 (i : Int), .int .i64 (e : Int)] w (PostK w (t5 h m sc mc p) (clC h m sc) (clA i h m sc)) ∧
      ck6 s S = { S with a := e, b := false, h := h, mi := m, sc := sc, mc := mc, p := p, o := S.o.or (clO i h m sc) }) := by
  subst ha
  have hn := cnt6 s S.a
  have k1 := cnt_le s 2 S.a
  have k2 := cnt_le s 2 (S.a + 2)
  have k3 := cnt_le s 2 (S.a + 4)
  have hX := (cnt_ext he hE 6 S.a hi).2
  unfold ck6
  by_cases h1 : cnt s S.a 2 < 2
  · rw [if_pos h1] at hn
    left
    refine ⟨S.a + cnt s S.a 6, clock_form1 w s S.a e hs hi he hE (by omega), ?_⟩
    rw [hourS_eq hb rfl, more_stop _ (.inl (by simpa using h1)), frac_stop (.inl (by show 1 < 3; omega)), hn]
    exact ⟨rfl, .inl (by simpa using h1)⟩
  · rw [if_neg h1] at hn
    have e1 : cnt s S.a 2 = 2 := by omega
    have hH := hourS_eq (S := S) hb e1
    rw [hH]
    have hd2 : decide (2 < 2) = false := by decide
    rw [hd2, oc1]
    by_cases h2 : cnt s (S.a + 2) 2 = 0
    · rw [if_pos (by omega), h2] at hn
      rw [more_stop _ (.inr (by exact h2)), frac_stop (.inl (by show 1 < 3; omega))]
      by_cases hlt : S.a + 2 < e
      · left
        refine ⟨S.a + 2, ?_, rfl, .inr hlt⟩
        have := clock_form1 w s S.a e hs hi he hE (by omega)
        rw [hn] at this
        exact this
      · right
        have hee : S.a + 2 = e := by omega
        refine ⟨nv s S.a 2, 0, 0, 0, 1, clock_ok2 w s S.a e hs hi he hE hn hee, ?_⟩
        rw [hee]
        cases S
        simp only at hmi hsc hmc
        subst hmi hsc hmc
        rfl
    · by_cases h2' : cnt s (S.a + 2) 2 < 2
      · have e2 : cnt s (S.a + 2) 2 = 1 := by omega
        rw [if_pos h2', e2] at hn
        rw [more_go _ _ rfl (by show 0 < cnt s (S.a + 2) 2; omega), minuteS_eq rfl (by exact e2), more_stop _ (.inl (by show decide (1 < 2) = true; decide)), frac_stop (.inl (by show 2 < 3; omega))]
        left
        refine ⟨S.a + 3, ?_, rfl, .inl (by show decide (1 < 2) = true; decide)⟩
        have := clock_form1 w s S.a e hs hi he hE (by omega)
        rw [hn] at this
        exact this
      · have e2 : cnt s (S.a + 2) 2 = 2 := by omega
        rw [if_neg h2'] at hn
        rw [more_go _ _ rfl (by show 0 < cnt s (S.a + 2) 2; omega), minuteS_eq rfl (by exact e2)]
        simp only
        rw [hd2, show S.a + 2 + 2 = S.a + 4 by omega, oc2]
        by_cases h3 : cnt s (S.a + 4) 2 = 0
        · rw [h3] at hn
          rw [more_stop _ (.inr (by exact h3)), frac_stop (.inl (by show 2 < 3; omega))]
          by_cases hlt : S.a + 4 < e
          · left
            refine ⟨S.a + 4, ?_, rfl, .inr hlt⟩
            have := clock_form1 w s S.a e hs hi he hE (by omega)
            rw [hn] at this
            exact this
          · right
            have hee : S.a + 4 = e := by omega
            refine ⟨nv s S.a 2, nv s (S.a + 2) 2, 0, 0, 2, clock_ok4 w s S.a e hs hi he hE hn hee, ?_⟩
            rw [hee]
            cases S
            simp only at hmi hsc hmc
            subst hmi hsc hmc
            rfl
        · by_cases h3' : cnt s (S.a + 4) 2 < 2
          · have e3 : cnt s (S.a + 4) 2 = 1 := by omega
            rw [e3] at hn
            rw [more_go _ _ rfl (by show 0 < cnt s (S.a + 4) 2; omega), secondS_eq rfl (by exact e3), more_stop _ (.inl (by show decide (1 < 2) = true; decide)), frac_stop (.inr (by show nx s _ (decide (1 < 2)) ≠ 46; rw [show decide (1 < 2) = true by decide, nx_brk]; decide))]
            left
            refine ⟨S.a + 5, ?_, rfl, .inl (by show decide (1 < 2) = true; decide)⟩
            have := clock_form1 w s S.a e hs hi he hE (by omega)
            rw [hn] at this
            exact this
          · have e3 : cnt s (S.a + 4) 2 = 2 := by omega
            rw [e3] at hn
            rw [more_go _ _ rfl (by show 0 < cnt s (S.a + 4) 2; omega), secondS_eq rfl (by exact e3)]
            simp only
            rw [hd2, show S.a + 4 + 2 = S.a + 6 by omega, oc3, show ∀ X, moreS s [] X = X from fun _ => rfl]
            by_cases hlt : S.a + 6 < e
            · have hsz : S.a + 6 < s.size := by omega
              by_cases hdot : (s.get! (S.a + 6)).toNat = 46
              · have hf : ∀ X : Mst, X.p = 3 → X.a = S.a + 6 → X.b = false → fracS s X = frS s X := fun X h1 h2 h3 => by
                  unfold fracS
                  rw [if_neg (by omega), h2, h3, nx_in hsz, if_pos hdot]
                rw [hf _ rfl rfl rfl]
                unfold frS frC
                simp only
                rw [show S.a + 6 + 1 = S.a + 7 by omega]
                obtain ⟨n, hfr⟩ : ∃ n, cnt s (S.a + 7) 6 = n := ⟨_, rfl⟩
                rw [hfr]
                have hX7 := (cnt_ext he hE 6 (S.a + 7) (by omega)).2
                rw [hfr] at hX7
                by_cases hbad : n = 0 ∨ S.a + 7 + n < e
                · left
                  refine ⟨S.a + 7 + n, clock_form4 w s S.a e hs hi he hE hn hlt hdot n hfr hbad, rfl, ?_⟩
                  rcases hbad with h | h
                  · left; show decide (n < 1) = true; simp; omega
                  · exact .inr h
                · right
                  have hn0 : 0 < n := by omega
                  have hee : S.a + 7 + n = e := by omega
                  refine ⟨nv s S.a 2, nv s (S.a + 2) 2, nv s (S.a + 4) 2, nv s (S.a + 7) n * 10 ^ (6 - n), 3 + n, clock_ok8 w s S.a e hs hi he hE hn hdot n hfr hn0 hee, ?_⟩
                  rw [hee, show decide (n < 1) = false by simp; omega]
              · left
                refine ⟨S.a + 6, clock_form3 w s S.a e hs hi he hE hn hlt hdot, ?_⟩
                rw [frac_stop (.inr (by show nx s (S.a + 6) false ≠ 46; rw [nx_in hsz]; exact hdot))]
                exact ⟨rfl, .inr hlt⟩
            · right
              have hee : S.a + 6 = e := by omega
              refine ⟨nv s S.a 2, nv s (S.a + 2) 2, nv s (S.a + 4) 2, 0, 3, clock_ok6 w s S.a e hs hi he hE hn hee, ?_⟩
              rw [hee, frac_stop (.inr hE2)]
              cases S
              simp only at hmi hsc hmc
              subst hmi hsc hmc
              rfl
end Go.Proofs.YtehgeninocbpeaaDoor.Tm
