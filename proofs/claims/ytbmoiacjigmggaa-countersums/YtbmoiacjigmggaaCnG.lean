/- CounterKnown. -/
import Derived.Test.YtbmoiacjigmggaaCnF
namespace Go.Proofs.Ytbmoiacjigmggaa
open Go.RowKit Go.Maps
set_option linter.unusedVariables false

theorem back_lit (b : Int) (l : List Int) (k : Nat) (x : Int) (hk : k = l.length) (cs : Array Value) (h : cs = (l.map (Value.int .i64)).toArray) (hl : l.length ≤ maxLen) (hx : backN b l = x) (W : World) : Calls Try.prog 16 #[.int .i64 b, .slice (some ⟨W.heap.size, 0, none⟩) k k] (W.alloc (.cells cs 3)) (Says (.int .i64 x) (W.alloc (.cells cs 3))) := by
  subst hk hx
  exact back_any b (some ⟨W.heap.size, 0, none⟩) l.length l _ (ints_lit W l 3 _ h) hl
theorem total_nil (n : Int) (W : World) : Calls Try.prog 14 #[.int .i64 n, .slice none 0 0] W (Says (.int .i64 n) W) := total_any n none 0 [] W (ints_nil _ _) (by simp)

set_option maxHeartbeats 2000000 in
theorem known_all (w : World) : Calls Try.prog 5 #[] w (Yes w) := by
  have F1 : ∀ W, Calls Try.prog 19 #[.agg #[.int .i64 1, .int .i64 5, .slice none 0 0], .int .i64 2, .int .i64 1, .int .i64 0, .int .i64 2] W (Yes W) := fun W => fails_yes 1 5 2 1 0 2 W (fun W => apply_read_no 5 none 0 1 0 W (by omega))
  have F2 : ∀ W, Calls Try.prog 19 #[.agg #[.int .i64 1, .int .i64 5, .slice none 0 0], .int .i64 1, .int .i64 1, .int .i64 1, .int .i64 2] W (Yes W) := fun W => fails_yes 1 5 1 1 1 2 W (fun W => apply_add_no 5 none 0 1 1 W (by omega))
  have F3 : ∀ W, Calls Try.prog 19 #[.agg #[.int .i64 1, .int .i64 5, .slice none 0 0], .int .i64 3, .int .i64 1, .int .i64 0, .int .i64 6] W (Yes W) := fun W => fails_yes 1 5 3 1 0 6 W (fun W => apply_word 5 none 0 3 1 0 W (by omega) (by omega))
  have F4 : ∀ W, Calls Try.prog 19 #[.agg #[.int .i64 2, .int .i64 0, .slice none 0 0], .int .i64 2, .int .i64 0, .int .i64 0, .int .i64 12] W (Yes W) := fun W => fails_yes 2 0 2 0 0 12 W (fun W => apply_state 2 0 none 0 [] 2 0 0 W (by omega))
  have B1 := back_lit 6 [2, 3] 2 1 rfl #[.int .i64 2, .int .i64 3] rfl (by simp [maxLen]) (by simp only [backN, totN, List.foldl]; unfold wrap64; omega)
  have B2 := back_lit (-9223372036854775808) [1] 1 9223372036854775807 rfl #[.int .i64 1] rfl (by simp [maxLen]) (by simp only [backN, totN, List.foldl]; unfold wrap64; omega)
  have HF := Lib.hid (Holds.new w 24 #[.int .i64 1, .int .i64 5, .slice none 0 0])
  go_enter Try.func5, Try.ntmps5
  go_wp2_with fail
  have hC0 := alloc1 w (.cells #[.int .i64 1, .int .i64 5, .slice none 0 0] 24)
  have HF0 := HF.out
  refine (F1 _).mono ?_
  rintro e w1 ⟨rfl, hB1⟩
  have HF1 := HF0.below hB1 (HF0.lt)
  have p10 := HF1.c (j := 0) rfl
  have p11 := HF1.c (j := 1) rfl
  have p12 := HF1.c (j := 2) rfl
  have hC1 := onto hC0 hB1
  clear HF0
  go_wp2_with fail
  refine (F2 _).mono ?_
  rintro e w2 ⟨rfl, hB2⟩
  have HF2 := HF1.below hB2 (HF1.lt)
  have p20 := HF2.c (j := 0) rfl
  have p21 := HF2.c (j := 1) rfl
  have p22 := HF2.c (j := 2) rfl
  have hC2 := onto hC1 hB2
  clear HF1 p10 p11 p12
  go_wp2_with fail
  refine (F3 _).mono ?_
  rintro e w3 ⟨rfl, hB3⟩
  have HF3 := HF2.below hB3 (HF2.lt)
  have p30 := HF3.c (j := 0) rfl
  have p31 := HF3.c (j := 1) rfl
  have p32 := HF3.c (j := 2) rfl
  have hC3 := onto hC2 hB3
  clear HF2 p20 p21 p22
  go_wp2_with fail
  refine (F4 _).mono ?_
  rintro e w4 ⟨rfl, hB4⟩
  have hC4 := onto hC3 hB4
  go_wp2_with fail
  refine (awake_yes _).mono ?_
  rintro e w5 ⟨rfl, hB5⟩
  have hC5 := onto hC4 hB5
  go_wp2_with fail
  refine (total_nil _ _).mono ?_
  rintro e w6 ⟨rfl, hB6⟩
  have hC6 := onto hC5 hB6
  go_wp2_with fail
  refine (B1 _).mono ?_
  rintro e w7 ⟨rfl, hB7⟩
  have hC7 := onto (onto hC6 (alloc1 w6 _)) hB7
  go_wp2_with fail
  refine (B2 _).mono ?_
  rintro e w8 ⟨rfl, hB8⟩
  have hC8 := onto (onto hC7 (alloc1 w7 _)) hB8
  go_wp2
  go_ret
  exact ⟨rfl, hC8⟩
end Go.Proofs.Ytbmoiacjigmggaa
