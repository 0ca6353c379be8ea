import Derived.Test.YtngmleddlfkecaaDoorGj
namespace Go.Proofs.YtngmleddlfkecaaDoor
open Go Go.Proofs Go.RowKit

/-- What the place that was asked for comes to. -/
theorem first_place (first : Int) (sz : Nat) (h : 0 < sz) : ∃ f : Nat, f < 8 * sz ∧ (first = (f : Int) ∨ ((first < 0 ∨ 8 * (sz : Int) ≤ first) ∧ f = 0)) := by
  by_cases h1 : first < 0
  · exact ⟨0, by omega, .inr ⟨.inl h1, rfl⟩⟩
  · by_cases h2 : 8 * (sz : Int) ≤ first
    · exact ⟨0, by omega, .inr ⟨.inr h2, rfl⟩⟩
    · exact ⟨first.toNat, by omega, .inl (by omega)⟩

theorem flips_any {w : World} {v0 v1 : Value} {base body : List Nat} (hV0 : V w v0 base) (hV1 : V w v1 body) (hT : Tab w) (first : Int) (mask : Nat) (hm : mask < 4294967296) (head : Bool) :
    Calls Tryd.prog 3 #[v0, v1, .int .i64 first, .int .u32 (mask : Int), .bool head] w fun e w' => e = .returned (.bool true) ∧ Below w.heap.size w w' := by
  obtain ⟨a0, c0, rfl, _, hx0⟩ := hV0.form
  obtain ⟨a1, c1, rfl, _, hx1⟩ := hV1.form
  by_cases hb : base.length ≤ 2000
  · by_cases hB : body.length ≤ 2000
    · have hml := made_length base body
      have hlen : (headL 7 [base] ++ frameL 0 body).length = 58 + base.length + body.length := by rw [List.length_append, hml.1, hml.2]; omega
      have hO := made_out hb hB hx0 hx1
      rw [hlen] at hO
      have c7 := fun W v B (h1 : Own W B v base) h2 h3 => head7 (W := W) (v := v) (B := B) h1 h2 h3 hb
      have c9 := fun W v B (h1 : Own W B v body) h2 => frame0 (W := W) (v := v) (B := B) h1 h2 hB
      cases head with
      | true =>
        obtain ⟨d, R, hL, hd, hdx⟩ := head_piece base body
        obtain ⟨f, hf, hfi⟩ := first_place first 24 (by omega)
        exact flips_core (A := []) (P := d ++ dig 4 (crc d)) (R := R) (f := f) (fr := 0) (sz := 24) hV0 hV1 hT rfl rfl hb hB hml.1 hml.2 c7 c9 hO hL rfl (by simp [hd, dig_length] : (d ++ dig 4 (crc d)).length = 24) (.inl ⟨rfl, rfl, rfl⟩) hf hfi hm
          (show true = false → _ from fun h => by cases h) (fun _ L E Q h1 h2 => head_end hd hdx hf h1 h2)
      | false =>
        obtain ⟨f, hf, hfi⟩ := first_place first (body.length + 4) (by omega)
        refine flips_core (A := headL 7 [base] ++ (leadL 0 body ++ dig 4 (crc (leadL 0 body)))) (P := body ++ dig 4 (crc body)) (R := []) (f := f) (fr := 54 + base.length) (sz := body.length + 4) hV0 hV1 hT rfl rfl hb hB hml.1 hml.2 c7 c9 hO (record_piece base body) ?_ (by simp [dig_length] : (body ++ dig 4 (crc body)).length = body.length + 4) (.inr ⟨rfl, rfl, rfl⟩) hf hfi hm
          (fun _ L E Q h1 h2 => ?_) (show false = true → _ from fun h => by cases h)
        · show _ = _
          simp only [List.length_append, hml.1, leadL_length, dig_length]
          omega
        · have hLl := h1.long (n := 58 + base.length + body.length) (by rw [← record_piece, hlen])
          have := record_end hb hB hx0 hx1 hf h1 h2
          rw [hLl] at this
          exact this
    · exact flips_long2 w a0 a1 _ c0 _ c1 _ _ _ hb (by omega)
  · exact flips_long1 w a0 _ c0 _ _ _ _ (by omega)
end Go.Proofs.YtngmleddlfkecaaDoor
