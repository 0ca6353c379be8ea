import Derived.Test.YtehgeninocbpeaaGreatDoorQTs
import Derived.Test.YtehgeninocbpeaaGreatDoorQTp
import Derived.Test.YtehgeninocbpeaaGreatDoorQTrz
import Derived.Test.YtehgeninocbpeaaGreatDoorQTqa
import Derived.Test.YtehgeninocbpeaaGreatDoorQTqb
import Derived.Test.YtehgeninocbpeaaGreatDoorQTqc
namespace Go.Proofs.YtehgeninocbpeaaGreatDoor.Tm
open Go Go.Proofs Go.RowKit
theorem uf_or {y m d : Nat} {o2 : Option (Int × Int)} (h : uf (y : Int) (m : Int) (d : Int) ≠ -1) : (ufO y m d).or o2 = some (pl (uf (y : Int) (m : Int) (d : Int)), 101) := by unfold ufO; rw [if_neg h]; rfl
theorem uf_no {y m d : Nat} {o2 : Option (Int × Int)} (h : uf (y : Int) (m : Int) (d : Int) = -1) : (ufO y m d).or o2 = o2 := by unfold ufO; rw [if_pos h]; rfl
theorem mo_none {s : ByteArray} {S : Mst} (h : rdO s S = none) : rdM s S = S := by unfold rdM; rw [if_pos h]
theorem mo_some {s : ByteArray} {S : Mst} {x : Int × Int} (h : rdO s S = some x) : rdM s S = zeroS := by unfold rdM; rw [h, if_neg (by simp)]
theorem bd_f (x : Int) : bd (!true) x = none := rfl
theorem bd_t (x : Int) : bd (!false) x = some (x, 101) := rfl
theorem ufn {y m d : Nat} (h : uf (y : Int) (m : Int) (d : Int) = -1) : ufO y m d = none := by unfold ufO; rw [if_pos h]
theorem ufs {y m d : Nat} (h : uf (y : Int) (m : Int) (d : Int) ≠ -1) : ufO y m d = some (pl (uf (y : Int) (m : Int) (d : Int)), 101) := by unfold ufO; rw [if_neg h]
theorem stage4 (w : World) (s : ByteArray) (hs : s.size ≤ 140737488351232) (hn : cnt s 0 8 = 4) (hg : Sgn s 4) (S : Mst) (hS : S = { st0 with a := 4, o := ufO (nv s 0 4) (1) (1), y := nv s 0 4, m := 1, d := 1, dp := 1 }) :
    Calls Tryz.prog 86 #[.string s] w (PostF w (mo11 (rdM s (zoneS s S))) (rdO s (zoneS s S))) := by
  have hle := hg.le
  have ha : S.a = 4 := by rw [hS]
  have hb : S.b = false := by rw [hS]; rfl
  have ho : S.o = ufO (nv s 0 4) (1) (1) := by rw [hS]
  by_cases hl : 4 < s.size
  · obtain ⟨x, hx⟩ : ∃ x, (s.get! 4).toNat = x := ⟨_, rfl⟩
    have hx2 : x = 43 ∨ x = 45 := by rw [← hx]; exact hg.yes hl
    obtain ⟨k, hk⟩ : ∃ k, cnt s (4 + 1) 4 = k := ⟨_, rfl⟩
    have hk4 : k ≤ 4 := by rw [← hk]; exact cnt_le s 4 _
    have hks := cnt_size s 4 (4 + 1) (by omega)
    by_cases hbad : k < 4 ∨ 4 + 5 < s.size
    · have hr := rd_zbad hl hx hx2 ha hb hk hbad
      rw [hr, mo_some hr]
      exact pmZ4 w s hs hn hg x hx hx2 k hk hl hbad
    · obtain rfl : k = 4 := by omega
      have hsz : s.size = 4 + 5 := by omega
      obtain ⟨hz, hr⟩ := rd_zone hl hx hx2 ha hb hk hsz
      rw [ho] at hr
      by_cases hu : uf ((nv s 0 4 : Nat) : Int) ((1 : Nat) : Int) ((1 : Nat) : Int) = -1
      · rw [uf_no hu] at hr
        cases hK : dzK x (nv s (4 + 1) 2) (nv s (4 + 3) 2) with
        | false =>
          rw [hK, bd_t] at hr
          rw [mo_some hr]
          exact pm4z w s hs hn hg x hx hx2 hk hsz _ _ (.inr <| .inl ⟨hu, hK, hr, rfl⟩)
        | true =>
          rw [hK, bd_f] at hr
          have hm : mo11 (rdM s (zoneS s S)) = mo11 { a := 0, b := false, o := none, y := nv s 0 4, m := 1, d := 1, dp := 1, h := 0, mi := 0, sc := 0, mc := 0, p := 0, zd := true, z := dzV x (nv s (4 + 1) 2) (nv s (4 + 3) 2) } := by rw [mo_none hr, hz, hS]; rfl
          rw [hm]
          exact pm4z w s hs hn hg x hx hx2 hk hsz _ _ (.inr <| .inr ⟨hu, hK, hr, rfl⟩)
      · rw [uf_or hu] at hr
        rw [mo_some hr]
        exact pm4z w s hs hn hg x hx hx2 hk hsz _ _ (.inl ⟨hu, hr, rfl⟩)
  · have hsz : s.size = 4 := by omega
    obtain ⟨hz, hr⟩ := rd_none (s := s) (S := S) (by rw [ha, hsz]) hb
    rw [hz]
    rw [ho] at hr
    by_cases hu : uf ((nv s 0 4 : Nat) : Int) ((1 : Nat) : Int) ((1 : Nat) : Int) = -1
    · rw [ufn hu] at hr
      have hm : mo11 (rdM s S) = mo11 { a := 0, b := false, o := none, y := nv s 0 4, m := 1, d := 1, dp := 1, h := 0, mi := 0, sc := 0, mc := 0, p := 0, zd := false, z := 0 } := by rw [mo_none hr, hS]; rfl
      rw [hm]
      exact pm4u w s hs hn hsz (by rw [hsz]; exact hg) _ _ (.inr <| ⟨hu, hr, rfl⟩)
    · rw [ufs hu] at hr
      rw [mo_some hr]
      exact pm4u w s hs hn hsz (by rw [hsz]; exact hg) _ _ (.inl ⟨hu, hr, rfl⟩)
theorem stage6 (w : World) (s : ByteArray) (hs : s.size ≤ 140737488351232) (hn : cnt s 0 8 = 6) (hg : Sgn s 6) (S : Mst) (hS : S = { st0 with a := 6, o := ufO (nv s 0 4) (nv s 4 2) (1), y := nv s 0 4, m := nv s 4 2, d := 1, dp := 2 }) :
    Calls Tryz.prog 86 #[.string s] w (PostF w (mo11 (rdM s (zoneS s S))) (rdO s (zoneS s S))) := by
  have hle := hg.le
  have ha : S.a = 6 := by rw [hS]
  have hb : S.b = false := by rw [hS]; rfl
  have ho : S.o = ufO (nv s 0 4) (nv s 4 2) (1) := by rw [hS]
  by_cases hl : 6 < s.size
  · obtain ⟨x, hx⟩ : ∃ x, (s.get! 6).toNat = x := ⟨_, rfl⟩
    have hx2 : x = 43 ∨ x = 45 := by rw [← hx]; exact hg.yes hl
    obtain ⟨k, hk⟩ : ∃ k, cnt s (6 + 1) 4 = k := ⟨_, rfl⟩
    have hk4 : k ≤ 4 := by rw [← hk]; exact cnt_le s 4 _
    have hks := cnt_size s 4 (6 + 1) (by omega)
    by_cases hbad : k < 4 ∨ 6 + 5 < s.size
    · have hr := rd_zbad hl hx hx2 ha hb hk hbad
      rw [hr, mo_some hr]
      exact pmZ6 w s hs hn hg x hx hx2 k hk hl hbad
    · obtain rfl : k = 4 := by omega
      have hsz : s.size = 6 + 5 := by omega
      obtain ⟨hz, hr⟩ := rd_zone hl hx hx2 ha hb hk hsz
      rw [ho] at hr
      by_cases hu : uf ((nv s 0 4 : Nat) : Int) ((nv s 4 2 : Nat) : Int) ((1 : Nat) : Int) = -1
      · rw [uf_no hu] at hr
        cases hK : dzK x (nv s (6 + 1) 2) (nv s (6 + 3) 2) with
        | false =>
          rw [hK, bd_t] at hr
          rw [mo_some hr]
          exact pm6z w s hs hn hg x hx hx2 hk hsz _ _ (.inr <| .inl ⟨hu, hK, hr, rfl⟩)
        | true =>
          rw [hK, bd_f] at hr
          have hm : mo11 (rdM s (zoneS s S)) = mo11 { a := 0, b := false, o := none, y := nv s 0 4, m := nv s 4 2, d := 1, dp := 2, h := 0, mi := 0, sc := 0, mc := 0, p := 0, zd := true, z := dzV x (nv s (6 + 1) 2) (nv s (6 + 3) 2) } := by rw [mo_none hr, hz, hS]; rfl
          rw [hm]
          exact pm6z w s hs hn hg x hx hx2 hk hsz _ _ (.inr <| .inr ⟨hu, hK, hr, rfl⟩)
      · rw [uf_or hu] at hr
        rw [mo_some hr]
        exact pm6z w s hs hn hg x hx hx2 hk hsz _ _ (.inl ⟨hu, hr, rfl⟩)
  · have hsz : s.size = 6 := by omega
    obtain ⟨hz, hr⟩ := rd_none (s := s) (S := S) (by rw [ha, hsz]) hb
    rw [hz]
    rw [ho] at hr
    by_cases hu : uf ((nv s 0 4 : Nat) : Int) ((nv s 4 2 : Nat) : Int) ((1 : Nat) : Int) = -1
    · rw [ufn hu] at hr
      have hm : mo11 (rdM s S) = mo11 { a := 0, b := false, o := none, y := nv s 0 4, m := nv s 4 2, d := 1, dp := 2, h := 0, mi := 0, sc := 0, mc := 0, p := 0, zd := false, z := 0 } := by rw [mo_none hr, hS]; rfl
      rw [hm]
      exact pm6u w s hs hn hsz (by rw [hsz]; exact hg) _ _ (.inr <| ⟨hu, hr, rfl⟩)
    · rw [ufs hu] at hr
      rw [mo_some hr]
      exact pm6u w s hs hn hsz (by rw [hsz]; exact hg) _ _ (.inl ⟨hu, hr, rfl⟩)
theorem stage8 (w : World) (s : ByteArray) (hs : s.size ≤ 140737488351232) (hn : cnt s 0 8 = 8) (hg : Sgn s 8) (S : Mst) (hS : S = { st0 with a := 8, o := ufO (nv s 0 4) (nv s 4 2) (nv s 6 2), y := nv s 0 4, m := nv s 4 2, d := nv s 6 2, dp := 3 }) :
    Calls Tryz.prog 86 #[.string s] w (PostF w (mo11 (rdM s (zoneS s S))) (rdO s (zoneS s S))) := by
  have hle := hg.le
  have ha : S.a = 8 := by rw [hS]
  have hb : S.b = false := by rw [hS]; rfl
  have ho : S.o = ufO (nv s 0 4) (nv s 4 2) (nv s 6 2) := by rw [hS]
  by_cases hl : 8 < s.size
  · obtain ⟨x, hx⟩ : ∃ x, (s.get! 8).toNat = x := ⟨_, rfl⟩
    have hx2 : x = 43 ∨ x = 45 := by rw [← hx]; exact hg.yes hl
    obtain ⟨k, hk⟩ : ∃ k, cnt s (8 + 1) 4 = k := ⟨_, rfl⟩
    have hk4 : k ≤ 4 := by rw [← hk]; exact cnt_le s 4 _
    have hks := cnt_size s 4 (8 + 1) (by omega)
    by_cases hbad : k < 4 ∨ 8 + 5 < s.size
    · have hr := rd_zbad hl hx hx2 ha hb hk hbad
      rw [hr, mo_some hr]
      exact pmZ8 w s hs hn hg x hx hx2 k hk hl hbad
    · obtain rfl : k = 4 := by omega
      have hsz : s.size = 8 + 5 := by omega
      obtain ⟨hz, hr⟩ := rd_zone hl hx hx2 ha hb hk hsz
      rw [ho] at hr
      by_cases hu : uf ((nv s 0 4 : Nat) : Int) ((nv s 4 2 : Nat) : Int) ((nv s 6 2 : Nat) : Int) = -1
      · rw [uf_no hu] at hr
        cases hK : dzK x (nv s (8 + 1) 2) (nv s (8 + 3) 2) with
        | false =>
          rw [hK, bd_t] at hr
          rw [mo_some hr]
          exact pm8z w s hs hn hg x hx hx2 hk hsz _ _ (.inr <| .inl ⟨hu, hK, hr, rfl⟩)
        | true =>
          rw [hK, bd_f] at hr
          have hm : mo11 (rdM s (zoneS s S)) = mo11 { a := 0, b := false, o := none, y := nv s 0 4, m := nv s 4 2, d := nv s 6 2, dp := 3, h := 0, mi := 0, sc := 0, mc := 0, p := 0, zd := true, z := dzV x (nv s (8 + 1) 2) (nv s (8 + 3) 2) } := by rw [mo_none hr, hz, hS]; rfl
          rw [hm]
          exact pm8z w s hs hn hg x hx hx2 hk hsz _ _ (.inr <| .inr ⟨hu, hK, hr, rfl⟩)
      · rw [uf_or hu] at hr
        rw [mo_some hr]
        exact pm8z w s hs hn hg x hx hx2 hk hsz _ _ (.inl ⟨hu, hr, rfl⟩)
  · have hsz : s.size = 8 := by omega
    obtain ⟨hz, hr⟩ := rd_none (s := s) (S := S) (by rw [ha, hsz]) hb
    rw [hz]
    rw [ho] at hr
    by_cases hu : uf ((nv s 0 4 : Nat) : Int) ((nv s 4 2 : Nat) : Int) ((nv s 6 2 : Nat) : Int) = -1
    · rw [ufn hu] at hr
      have hm : mo11 (rdM s S) = mo11 { a := 0, b := false, o := none, y := nv s 0 4, m := nv s 4 2, d := nv s 6 2, dp := 3, h := 0, mi := 0, sc := 0, mc := 0, p := 0, zd := false, z := 0 } := by rw [mo_none hr, hS]; rfl
      rw [hm]
      exact pm8u w s hs hn hsz (by rw [hsz]; exact hg) _ _ (.inr <| ⟨hu, hr, rfl⟩)
    · rw [ufs hu] at hr
      rw [mo_some hr]
      exact pm8u w s hs hn hsz (by rw [hsz]; exact hg) _ _ (.inl ⟨hu, hr, rfl⟩)
theorem stage8t (w : World) (s : ByteArray) (hs : s.size ≤ 140737488351232) (hn : cnt s 0 8 = 8) (e : Nat) (h8 : 8 < e) (h m sc mc p : Nat) (hg : Sgn s e) (S : Mst) (hS : S = { st0 with a := e, o := (ufO (nv s 0 4) (nv s 4 2) (nv s 6 2)).or (clO 8 h m sc), y := nv s 0 4, m := nv s 4 2, d := nv s 6 2, dp := 3, h := h, mi := m, sc := sc, mc := mc, p := p }) (c42 : ∀ W, Calls Tryz.prog 110 #[.string s, .int .i64 8, .int .i64 (e : Int)] W (PostK W (t5 h m sc mc p) (clC h m sc) (clA 8 h m sc))) :
    Calls Tryz.prog 86 #[.string s] w (PostF w (mo11 (rdM s (zoneS s S))) (rdO s (zoneS s S))) := by
  have hle := hg.le
  have ha : S.a = e := by rw [hS]
  have hb : S.b = false := by rw [hS]; rfl
  have ho : S.o = (ufO (nv s 0 4) (nv s 4 2) (nv s 6 2)).or (clO 8 h m sc) := by rw [hS]
  have hC : clC h m sc = 0 ∨ clC h m sc = 101 := by
    by_cases h0 : clC h m sc = 0
    · exact .inl h0
    · exact .inr (clO_some (i := 8) h0).1
  by_cases hl : e < s.size
  · obtain ⟨x, hx⟩ : ∃ x, (s.get! e).toNat = x := ⟨_, rfl⟩
    have hx2 : x = 43 ∨ x = 45 := by rw [← hx]; exact hg.yes hl
    obtain ⟨k, hk⟩ : ∃ k, cnt s (e + 1) 4 = k := ⟨_, rfl⟩
    have hk4 : k ≤ 4 := by rw [← hk]; exact cnt_le s 4 _
    have hks := cnt_size s 4 (e + 1) (by omega)
    by_cases hbad : k < 4 ∨ e + 5 < s.size
    · have hr := rd_zbad hl hx hx2 ha hb hk hbad
      rw [hr, mo_some hr]
      exact pmZ8t w s hs hn e h8 hg x hx hx2 k hk hl hbad h m sc mc p _ _ hC c42
    · obtain rfl : k = 4 := by omega
      have hsz : s.size = e + 5 := by omega
      obtain ⟨hz, hr⟩ := rd_zone hl hx hx2 ha hb hk hsz
      rw [ho] at hr
      by_cases hu : uf ((nv s 0 4 : Nat) : Int) ((nv s 4 2 : Nat) : Int) ((nv s 6 2 : Nat) : Int) = -1
      · rw [uf_no hu] at hr
        by_cases h0 : clC h m sc = 0
        · have h1 := clO_none (i := 8) h0
          rw [h1, Option.none_or] at hr
          cases hK : dzK x (nv s (e + 1) 2) (nv s (e + 3) 2) with
          | false =>
            rw [hK, bd_t] at hr
            rw [mo_some hr]
            exact pm8tz w s hs hn e h8 hg x hx hx2 hk hsz h m sc mc p _ _ hC c42 _ _ (.inr <| .inr <| .inl ⟨hu, h0, hK, hr, rfl⟩)
          | true =>
            rw [hK, bd_f] at hr
            have hm : mo11 (rdM s (zoneS s S)) = mo11 { a := 0, b := false, o := none, y := nv s 0 4, m := nv s 4 2, d := nv s 6 2, dp := 3, h := h, mi := m, sc := sc, mc := mc, p := p, zd := true, z := dzV x (nv s (e + 1) 2) (nv s (e + 3) 2) } := by rw [mo_none hr, hz, hS]; rfl
            rw [hm]
            exact pm8tz w s hs hn e h8 hg x hx hx2 hk hsz h m sc mc p _ _ hC c42 _ _ (.inr <| .inr <| .inr ⟨hu, h0, hK, hr, rfl⟩)
        · obtain ⟨h1, h2⟩ := clO_some (i := 8) h0
          rw [h2, ← h1, Option.some_or] at hr
          rw [mo_some hr]
          exact pm8tz w s hs hn e h8 hg x hx hx2 hk hsz h m sc mc p _ _ hC c42 _ _ (.inr <| .inl ⟨hu, h0, hr, rfl⟩)
      · rw [uf_or hu, Option.some_or] at hr
        rw [mo_some hr]
        exact pm8tz w s hs hn e h8 hg x hx hx2 hk hsz h m sc mc p _ _ hC c42 _ _ (.inl ⟨hu, hr, rfl⟩)
  · have hsz : s.size = e := by omega
    obtain ⟨hz, hr⟩ := rd_none (s := s) (S := S) (by rw [ha, hsz]) hb
    rw [hz]
    rw [ho] at hr
    by_cases hu : uf ((nv s 0 4 : Nat) : Int) ((nv s 4 2 : Nat) : Int) ((nv s 6 2 : Nat) : Int) = -1
    · rw [uf_no hu] at hr
      by_cases h0 : clC h m sc = 0
      · have h1 := clO_none (i := 8) h0
        rw [h1] at hr
        have hm : mo11 (rdM s S) = mo11 { a := 0, b := false, o := none, y := nv s 0 4, m := nv s 4 2, d := nv s 6 2, dp := 3, h := h, mi := m, sc := sc, mc := mc, p := p, zd := false, z := 0 } := by rw [mo_none hr, hS]; rfl
        rw [hm]
        exact pm8tu w s hs hn (by omega) (by rw [hsz]; exact hg) h m sc mc p _ _ hC (by rw [hsz]; exact c42) _ _ (.inr <| .inr <| ⟨hu, h0, hr, rfl⟩)
      · obtain ⟨h1, h2⟩ := clO_some (i := 8) h0
        rw [h2, ← h1] at hr
        rw [mo_some hr]
        exact pm8tu w s hs hn (by omega) (by rw [hsz]; exact hg) h m sc mc p _ _ hC (by rw [hsz]; exact c42) _ _ (.inr <| .inl ⟨hu, h0, hr, rfl⟩)
    · rw [uf_or hu] at hr
      rw [mo_some hr]
      exact pm8tu w s hs hn (by omega) (by rw [hsz]; exact hg) h m sc mc p _ _ hC (by rw [hsz]; exact c42) _ _ (.inl ⟨hu, hr, rfl⟩)
theorem parse21_any (w : World) (s : ByteArray) (hs : s.size ≤ 140737488351232) : Calls Tryz.prog 86 #[.string s] w (PostF w (mo11 (rdM s (momS s))) (rdO s (momS s))) := by
  obtain ⟨e, hg⟩ := sgn_is s
  have hle := hg.le
  have h8 := cnt8 s
  have k1 := cnt_le s 4 0
  have k2 := cnt_le s 2 4
  have k3 := cnt_le s 2 6
  have hX := (cnt_ext hle hg.dig 8 0 (by omega)).2
  unfold momS
  have hform : ∀ (S : Mst) (p n : Nat), cnt s 0 8 = n → ((n ≠ 4 ∧ n ≠ 6 ∧ n ≠ 8) ∨ (n < 8 ∧ n < e)) → S.a = n → (S.b = true ∨ n < e) → Calls Tryz.prog 86 #[.string s] w (PostF w (mo11 (rdM s (zoneS s S))) (rdO s (zoneS s S))) := fun S p n hn hbad ha hb => by
    have hr := rd_form hg ha hb
    rw [hr, mo_some hr]
    exact pmF1 w s hs e hg n hn hbad
  by_cases h1 : cnt s 0 4 < 4
  · rw [if_pos h1] at h8
    rw [yearS_eq rfl, more_stop _ (.inl (by simpa using h1)), frac_stop (.inl (by show 0 < 3; omega))]
    exact hform _ 0 _ h8 (.inl (by omega)) rfl (.inl (by simpa using h1))
  · rw [if_neg h1] at h8
    have e1 : cnt s 0 4 = 4 := by omega
    rw [yearS_eq e1, show decide (4 < 4) = false by decide]
    by_cases h2 : cnt s 4 2 = 0
    · rw [if_pos (by omega), h2] at h8
      rw [more_stop _ (.inr (by exact h2)), frac_stop (.inl (by show 0 < 3; omega)), o4]
      by_cases hlt : 4 < e
      · exact hform _ 0 4 h8 (.inr ⟨by omega, hlt⟩) rfl (.inr hlt)
      · obtain rfl : e = 4 := by omega
        exact stage4 w s hs h8 hg _ rfl
    · by_cases h2' : cnt s 4 2 < 2
      · have e2 : cnt s 4 2 = 1 := by omega
        rw [if_pos h2', e2] at h8
        rw [more_go _ _ rfl (by show 0 < cnt s 4 2; omega), monthS_eq rfl (by exact e2), more_stop _ (.inl (by show decide (1 < 2) = true; decide)), frac_stop (.inl (by show 0 < 3; omega))]
        exact hform _ 0 5 h8 (.inl (by omega)) rfl (.inl (by show decide (1 < 2) = true; decide))
      · have e2 : cnt s 4 2 = 2 := by omega
        rw [if_neg h2'] at h8
        rw [more_go _ _ rfl (by show 0 < cnt s 4 2; omega), monthS_eq rfl (by exact e2)]
        simp only
        rw [show decide (2 < 2) = false by decide, show 4 + 2 = 6 by omega]
        by_cases h3 : cnt s 6 2 = 0
        · rw [h3] at h8
          rw [more_stop _ (.inr (by exact h3)), frac_stop (.inl (by show 0 < 3; omega)), o6]
          by_cases hlt : 6 < e
          · exact hform _ 0 6 h8 (.inr ⟨by omega, hlt⟩) rfl (.inr hlt)
          · obtain rfl : e = 6 := by omega
            exact stage6 w s hs h8 hg _ rfl
        · by_cases h3' : cnt s 6 2 < 2
          · have e3 : cnt s 6 2 = 1 := by omega
            rw [e3] at h8
            rw [more_go _ _ rfl (by show 0 < cnt s 6 2; omega), dayS_eq rfl (by exact e3), more_stop _ (.inl (by show decide (1 < 2) = true; decide)), frac_stop (.inl (by show 0 < 3; omega))]
            exact hform _ 0 7 h8 (.inl (by omega)) rfl (.inl (by show decide (1 < 2) = true; decide))
          · have e3 : cnt s 6 2 = 2 := by omega
            rw [e3] at h8
            rw [more_go _ _ rfl (by show 0 < cnt s 6 2; omega), dayS_eq rfl (by exact e3)]
            simp only
            rw [show decide (2 < 2) = false by decide, show 6 + 2 = 8 by omega, o8]
            obtain ⟨S, hS⟩ : ∃ S, S = { st0 with a := 8, o := ufO (nv s 0 4) (nv s 4 2) (nv s 6 2), y := nv s 0 4, m := nv s 4 2, d := nv s 6 2, dp := 3 } := ⟨_, rfl⟩
            have hfr : fracS s (moreS s [hourS s, minuteS s, secondS s] S) = if 0 < cnt s 8 2 then ck6 s S else S := by
              have := more_all s (S := S) (by rw [hS]; rfl) (by rw [hS]; rfl)
              rw [show S.a = 8 by rw [hS]] at this
              exact this
            have hgoal : Calls Tryz.prog 86 #[.string s] w (PostF w (mo11 (rdM s (zoneS s (fracS s (moreS s [hourS s, minuteS s, secondS s] S))))) (rdO s (zoneS s (fracS s (moreS s [hourS s, minuteS s, secondS s] S))))) := by
              rw [hfr]
              by_cases he8 : e = 8
              · subst he8
                have hd := hg.dig
                rw [isD_cnt] at hd
                rw [if_neg (by simpa using hd)]
                exact stage8 w s hs h8 hg S hS
              · have hlt : 8 < e := by omega
                have ha : S.a = 8 := by rw [hS]
                have hb : S.b = false := by rw [hS]; rfl
                by_cases hc : 0 < cnt s 8 2
                · rw [if_pos hc]
                  have hcb := fun W => clock_both W s 8 e hs (by omega) hle hg.dig hg.dot S ha hb (by rw [hS]; rfl) (by rw [hS]; rfl) (by rw [hS]; rfl)
                  rcases hcb w with ⟨p, hp, hpa, hpb⟩ | ⟨h, m, sc, mc, p, hp, hpS⟩
                  · have hr := rd_form hg hpa hpb
                    rw [hr, mo_some hr]
                    refine pmC w s hs h8 e hlt hg _ fun W => ?_
                    rcases hcb W with ⟨p', hp', hpa', _⟩ | ⟨h, m, sc, mc, p', hp', hpS⟩
                    · rw [show p = p' by omega]
                      exact hp'
                    · rw [hpS] at hpa hpb
                      simp only at hpa hpb
                      rcases hpb with h | h
                      · cases h
                      · omega
                  · refine stage8t w s hs h8 e hlt h m sc mc p hg (ck6 s S) ?_ fun W => ?_
                    · rw [hpS, hS]
                      rfl
                    · rcases hcb W with ⟨p', hp', hpa', hpb'⟩ | ⟨h', m', sc', mc', p', hp', hpS'⟩
                      · rw [hpS] at hpa' hpb'
                        simp only at hpa' hpb'
                        rcases hpb' with h | h
                        · cases h
                        · omega
                      · rw [hpS] at hpS'
                        simp only [Mst.mk.injEq] at hpS'
                        obtain ⟨_, _, _, _, _, _, _, rfl, rfl, rfl, rfl, rfl, _, _⟩ := hpS'
                        exact hp'
                · rw [if_neg hc]
                  have hr := rd_form (S := S) (p := 8) hg ha (.inr hlt)
                  rw [hr, mo_some hr]
                  refine pmC w s hs h8 e hlt hg _ fun W => ?_
                  have h6 : cnt s 8 6 = 0 := by rw [cnt6, if_pos (by omega)]; omega
                  have := clock_form1 W s 8 e hs (by omega) hle hg.dig (by omega)
                  rw [h6] at this
                  exact this
            rw [hS] at hgoal
            exact hgoal
end Go.Proofs.YtehgeninocbpeaaGreatDoor.Tm
