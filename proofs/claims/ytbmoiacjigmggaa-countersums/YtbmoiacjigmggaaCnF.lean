/- The statements' own: fails, applied; awake; CounterKnown. -/
import Derived.Test.YtbmoiacjigmggaaCnE
namespace Go.Proofs.Ytbmoiacjigmggaa
open Go.RowKit Go.Maps
set_option linter.unusedVariables false

set_option maxHeartbeats 1000000 in
theorem fails_yes (t n : Int) (kd a b x : Int) (w : World) (H : ∀ W, Calls Try.prog 10 #[stV t n none 0 0, .int .i64 kd, .int .i64 a, .int .i64 b] W (Says (ansV 0 0 0 0 x) W)) :
    Calls Try.prog 19 #[stV t n none 0 0, .int .i64 kd, .int .i64 a, .int .i64 b, .int .i64 x] w (Yes w) := by
  have HE := Lib.hid (eql_ret · 0 0 0 0)
  have hsr := sameRet_self 0 0
  have hx : (x == x) = true := by simp
  have hB0 := alloc1 w (.cells #[.int .i64 t, .int .i64 n, .slice none 0 0] 24)
  unfold stV at *
  go_enter Try.func19, Try.ntmps19
  go_wp2_with fail
  refine (H _).mono ?_
  rintro e w1 ⟨rfl, hB1⟩
  unfold ansV stV retV
  have hB2 : Below w1.heap.size w1 ((w1.alloc (.cells #[.int .i64 0, .int .i64 0, .slice none 0 0] 24)).alloc (.cells #[.int .i64 0, .int .i64 0] 28)) := (alloc1 w1 _).alloc (by simp) _
  have HR2 := Lib.hid (Holds.new (w1.alloc (.cells #[.int .i64 0, .int .i64 0, .slice none 0 0] 24)) 28 #[.int .i64 0, .int .i64 0])
  rw [World.size_alloc] at HR2
  have H2 := samest_any 0 0 0 0 none none 0 0 [] [] ((w1.alloc (.cells #[.int .i64 0, .int .i64 0, .slice none 0 0] 24)).alloc (.cells #[.int .i64 0, .int .i64 0] 28)) (ints_nil _ _) (ints_nil _ _) (by simp)
  rw [same_iff.2 ⟨rfl, rfl, rfl⟩] at H2
  unfold stV at H2
  have hs1 := hB1.size
  go_wp2_with fail
  refine H2.mono ?_
  rintro e w3 ⟨rfl, hB3⟩
  have hl2 : ((w1.alloc (.cells #[.int .i64 0, .int .i64 0, .slice none 0 0] 24)).alloc (.cells #[.int .i64 0, .int .i64 0] 28)).heap.size = w1.heap.size + 1 + 1 := by simp
  have hs0 : w.heap.size ≤ w1.heap.size := by have := hB0.size; omega
  have HR3 := HR2.out.below hB3 (by omega)
  have hBw := nxt (nxt (nxt hB0 hB1 hB0.size) hB2 hs0) hB3 (by omega)
  generalize (w1.alloc (.cells #[.int .i64 0, .int .i64 0, .slice none 0 0] 24)).alloc (.cells #[.int .i64 0, .int .i64 0] 28) = W2 at *
  have a0 := HR3.c (j := 0) rfl
  have a1 := HR3.c (j := 1) rfl
  have he := HE.out w3
  rw [hsr] at he
  clear hl2 hsr
  go_wp2
  go_ret
  exact ⟨rfl, hBw⟩

set_option maxHeartbeats 1000000 in
theorem applied_any (n a : Int) (w : World) : Calls Try.prog 20 #[.int .i64 n, .int .i64 a] w (Says (.tuple #[.int .i64 (wrap64 (n + a)), .bool true]) w) := by
  have HE := Lib.hid (eql_ret · 0 0 0 0)
  have hsr := sameRet_self 0 0
  have H := fun W => apply_add n none 0 a W
  have HD : ∀ W, Calls Try.prog 25 #[] W (Says (.agg #[.int .i64 0, .int .i64 0]) W) := done_any
  unfold stV at H
  generalize wrap64 (n + a) = m at *
  go_enter Try.func20, Try.ntmps20
  go_wp2_with fail
  refine (H _).mono ?_
  rintro e w1 ⟨rfl, hB1⟩
  unfold ansV stV retV
  have hB2 : Below w1.heap.size w1 ((w1.alloc (.cells #[.int .i64 1, .int .i64 m, .slice none 0 0] 24)).alloc (.cells #[.int .i64 0, .int .i64 0] 28)) := (alloc1 w1 _).alloc (by simp) _
  have HS2 := Lib.hid ((Holds.new w1 24 #[.int .i64 1, .int .i64 m, .slice none 0 0]).alloc (.cells #[.int .i64 0, .int .i64 0] 28))
  have HR2 := Lib.hid (Holds.new (w1.alloc (.cells #[.int .i64 1, .int .i64 m, .slice none 0 0] 24)) 28 #[.int .i64 0, .int .i64 0])
  rw [World.size_alloc] at HR2
  have hs1 := hB1.size
  have hl2 : ((w1.alloc (.cells #[.int .i64 1, .int .i64 m, .slice none 0 0] 24)).alloc (.cells #[.int .i64 0, .int .i64 0] 28)).heap.size = w1.heap.size + 1 + 1 := by simp
  have he : ∀ w', (binOp .eql 28 (.agg #[.int .i64 0, .int .i64 0]) (.agg #[.int .i64 0, .int .i64 0])).run Try.prog w' = .ok (.bool true) w' := fun w' => (HE.out w').trans (by rw [hsr])
  have hBw := nxt hB1 hB2 (by omega)
  go_wp2_with fail
  generalize (w1.alloc (.cells #[.int .i64 1, .int .i64 m, .slice none 0 0] 24)).alloc (.cells #[.int .i64 0, .int .i64 0] 28) = W2 at *
  have HCC : ∀ w', Below W2.heap.size W2 w' → (w'.cell? ⟨w1.heap.size, 0, none⟩ = some (.int .i64 1) ∧ w'.cell? ⟨w1.heap.size, 1, none⟩ = some (.int .i64 m) ∧ w'.cell? ⟨w1.heap.size, 2, none⟩ = some (.slice none 0 0) ∧ w'.cell? ⟨w1.heap.size + 1, 0, none⟩ = some (.int .i64 0) ∧ w'.cell? ⟨w1.heap.size + 1, 1, none⟩ = some (.int .i64 0)) ∧ Below W2.heap.size W2 w' := fun w' h => ⟨⟨(HS2.out.below h (by omega)).c (j := 0) rfl, (HS2.out.below h (by omega)).c (j := 1) rfl, (HS2.out.below h (by omega)).c (j := 2) rfl, (HR2.out.below h (by omega)).c (j := 0) rfl, (HR2.out.below h (by omega)).c (j := 1) rfl⟩, h⟩
  have hSz : w.heap.size ≤ W2.heap.size := by omega
  clear hl2 hsr
  have c0 := HCC _ (Below.refl _ W2).drew
  go_region_held3 (fun w' => (w'.cell? ⟨w1.heap.size, 0, none⟩ = some (.int .i64 1) ∧ w'.cell? ⟨w1.heap.size, 1, none⟩ = some (.int .i64 m) ∧ w'.cell? ⟨w1.heap.size, 2, none⟩ = some (.slice none 0 0) ∧ w'.cell? ⟨w1.heap.size + 1, 0, none⟩ = some (.int .i64 0) ∧ w'.cell? ⟨w1.heap.size + 1, 1, none⟩ = some (.int .i64 0)) ∧ Below W2.heap.size W2 w') (first | exact c0 | exact c6 | go_keep) (first | (go_at_call 25; refine (HD _).mono ?_; rintro e w6 ⟨rfl, hB6⟩; have c6 := HCC _ ((Below.refl _ W2).drew.trans hB6)))
  go_wp2
  go_ret2
  exact ⟨rfl, nxt hBw ((Below.refl _ W2).drew.trans hB6) hSz⟩

theorem apply_add' (n a m : Int) (h : wrap64 (n + a) = m) (W : World) : Calls Try.prog 10 #[stV 1 n none 0 0, .int .i64 1, .int .i64 a, .int .i64 0] W (Says (ansV 1 m 0 0 0) W) := h ▸ apply_add n none 0 a W
theorem total_23 (W : World) : Calls Try.prog 14 #[.int .i64 1, .slice (some ⟨W.heap.size, 0, none⟩) 2 2] (W.alloc (.cells #[.int .i64 2, .int .i64 3] 3)) (Says (.int .i64 6) (W.alloc (.cells #[.int .i64 2, .int .i64 3] 3))) := by
  have := total_any 1 (some ⟨W.heap.size, 0, none⟩) 2 [2, 3] _ (ints_lit W [2, 3] 3 _ rfl) (by simp [maxLen])
  rw [show totN 1 [2, 3] = 6 by simp only [totN, List.foldl]; unfold wrap64; omega] at this
  exact this

theorem onto {a b c : World} (h : Below a.heap.size a b) (k : Below b.heap.size b c) : Below a.heap.size a c := nxt h k h.size
set_option maxHeartbeats 1000000 in
theorem awake_yes (w : World) : Calls Try.prog 8 #[] w (Yes w) := by
  have HD : ∀ W, Calls Try.prog 25 #[] W (Says (.agg #[.int .i64 0, .int .i64 0]) W) := done_any
  have HT : ∀ W, Calls Try.prog 23 #[.int .i64 5] W (Says (.agg #[.int .i64 2, .int .i64 5]) W) := told_any 5
  have H1 : ∀ W, Calls Try.prog 22 #[.int .i64 5, .int .i64 1, .int .i64 (-7), .int .i64 (-2), .agg #[.int .i64 0, .int .i64 0]] W (Yes W) := fun W => does_yes 5 1 (-7) (-2) 0 0 W (apply_add' 5 (-7) (-2) (by unfold wrap64; omega))
  have H2 : ∀ W, Calls Try.prog 22 #[.int .i64 9223372036854775807, .int .i64 1, .int .i64 1, .int .i64 (-9223372036854775808), .agg #[.int .i64 0, .int .i64 0]] W (Yes W) := fun W => does_yes 9223372036854775807 1 1 (-9223372036854775808) 0 0 W (apply_add' 9223372036854775807 1 (-9223372036854775808) (by unfold wrap64; omega))
  have H3 : ∀ W, Calls Try.prog 22 #[.int .i64 5, .int .i64 2, .int .i64 0, .int .i64 5, .agg #[.int .i64 2, .int .i64 5]] W (Yes W) := fun W => does_yes 5 2 0 5 2 5 W (fun W => apply_read 5 none 0 W)
  have H4 := total_23
  go_enter Try.func8, Try.ntmps8
  go_wp2_with fail
  refine (HD _).mono ?_
  rintro e w1 ⟨rfl, hB1⟩
  have hC1 := hB1
  go_wp2_with fail
  refine (H1 _).mono ?_
  rintro e w2 ⟨rfl, hB2⟩
  have hC2 := onto hC1 hB2
  go_wp2_with fail
  refine (HD _).mono ?_
  rintro e w3 ⟨rfl, hB3⟩
  have hC3 := onto hC2 hB3
  go_wp2_with fail
  refine (H2 _).mono ?_
  rintro e w4 ⟨rfl, hB4⟩
  have hC4 := onto hC3 hB4
  go_wp2_with fail
  refine (HT _).mono ?_
  rintro e w5 ⟨rfl, hB5⟩
  have hC5 := onto hC4 hB5
  go_wp2_with fail
  refine (H3 _).mono ?_
  rintro e w6 ⟨rfl, hB6⟩
  have hC6 := onto hC5 hB6
  go_wp2_with fail
  refine (H4 _).mono ?_
  rintro e w7 ⟨rfl, hB7⟩
  have hC7 := onto (onto hC6 (alloc1 w6 (.cells #[.int .i64 2, .int .i64 3] 3))) hB7
  go_wp2
  go_ret
  exact ⟨rfl, hC7⟩
end Go.Proofs.Ytbmoiacjigmggaa
