/- CounterAdds. -/
import Derived.Test.YtbmoiacjigmggaaCnG
namespace Go.Proofs.Ytbmoiacjigmggaa
open Go.RowKit Go.Maps
set_option linter.unusedVariables false

theorem adds_turn (n a b : Int) : wrap64 (wrap64 (n + b) + a) = wrap64 (wrap64 (n + a) + b) := by unfold wrap64; omega
theorem adds_one (n a b : Int) : wrap64 (n + wrap64 (a + b)) = wrap64 (wrap64 (n + a) + b) := by unfold wrap64; omega
theorem adds_off (n a : Int) (hn : Small n) : wrap64 (wrap64 (n + a) + backN 0 [a]) = n := by
  simp only [backN, totN, List.foldl]
  obtain ⟨h1, h2⟩ := hn
  unfold wrap64; omega
theorem back_one (a x : Int) (hx : backN 0 [a] = x) (W : World) : Calls Try.prog 16 #[.int .i64 0, .slice (some ⟨W.heap.size, 0, none⟩) 1 1] (W.alloc (.cells #[.int .i64 a] 3)) (Says (.int .i64 x) (W.alloc (.cells #[.int .i64 a] 3))) := back_lit 0 [a] 1 x rfl _ rfl (by simp [maxLen]) hx W

set_option maxHeartbeats 2000000 in
theorem adds_law (n a b : Int) (w : World) (hn : Small n) : Calls Try.prog 6 #[.int .i64 n, .int .i64 a, .int .i64 b] w (Yes w) := by
  obtain ⟨x, hx⟩ : ∃ x, wrap64 (n + a) = x := ⟨_, rfl⟩
  obtain ⟨y, hy⟩ : ∃ y, wrap64 (x + b) = y := ⟨_, rfl⟩
  obtain ⟨z, hz⟩ : ∃ z, wrap64 (n + b) = z := ⟨_, rfl⟩
  obtain ⟨m, hm⟩ : ∃ m, wrap64 (a + b) = m := ⟨_, rfl⟩
  obtain ⟨k, hk⟩ : ∃ k, backN 0 [a] = k := ⟨_, rfl⟩
  have A1 := fun W => applied_any n a W
  have A2 := fun W => applied_any x b W
  have A3 := fun W => applied_any n b W
  have A4 := fun W => applied_any z a W
  have A5 := fun W => applied_any n m W
  have A6 := fun W => applied_any x k W
  have AW := fun W => wrap_any a b W
  have e4 := adds_turn n a b
  have e5 := adds_one n a b
  have e6 := adds_off n a hn
  rw [hx] at A1 e4 e5 e6
  rw [hy] at A2 e4 e5
  rw [hz] at A3 e4
  rw [hm] at AW e5
  rw [hk] at e6
  rw [e4] at A4
  rw [e5] at A5
  rw [e6] at A6
  have HB := back_one a k hk
  have HD : ∀ W, Calls Try.prog 22 #[.int .i64 y, .int .i64 2, .int .i64 0, .int .i64 y, .agg #[.int .i64 2, .int .i64 y]] W (Yes W) := fun W => does_yes y 2 0 y 2 y W (fun W => apply_read y none 0 W)
  have HT : ∀ W, Calls Try.prog 23 #[.int .i64 y] W (Says (.agg #[.int .i64 2, .int .i64 y]) W) := told_any y
  have hyy : (y == y) = true := by simp
  have hnn : (n == n) = true := by simp
  clear hx hy hz hm hk e4 e5 e6 hn
  go_enter Try.func6, Try.ntmps6
  go_wp2_with fail
  refine (known_all _).mono ?_
  rintro e w1 ⟨rfl, hB1⟩
  go_wp2_with fail
  refine (A1 _).mono ?_
  rintro e w2 ⟨rfl, hB2⟩
  have hC2 := onto hB1 hB2
  go_wp2_with fail
  refine (A2 _).mono ?_
  rintro e w3 ⟨rfl, hB3⟩
  have hC3 := onto hC2 hB3
  go_wp2_with fail
  refine (A3 _).mono ?_
  rintro e w4 ⟨rfl, hB4⟩
  have hC4 := onto hC3 hB4
  go_wp2_with fail
  refine (A4 _).mono ?_
  rintro e w5 ⟨rfl, hB5⟩
  have hC5 := onto hC4 hB5
  go_wp2_with fail
  refine (AW _).mono ?_
  rintro e w6 ⟨rfl, rfl⟩
  go_wp2_with fail
  refine (A5 _).mono ?_
  rintro e w7 ⟨rfl, hB7⟩
  have hC7 := onto hC5 hB7
  go_wp2_with fail
  refine (HB _).mono ?_
  rintro e w8 ⟨rfl, hB8⟩
  have hC8 := onto (onto hC7 (alloc1 w7 _)) hB8
  go_wp2_with fail
  refine (A6 _).mono ?_
  rintro e w9 ⟨rfl, hB9⟩
  have hC9 := onto hC8 hB9
  go_wp2_with fail
  refine (HT _).mono ?_
  rintro e w10 ⟨rfl, hB10⟩
  have hC10 := onto hC9 hB10
  go_wp2_with fail
  refine (HD _).mono ?_
  rintro e w11 ⟨rfl, hB11⟩
  go_wp2
  go_ret
  exact ⟨rfl, onto hC10 hB11⟩
end Go.Proofs.Ytbmoiacjigmggaa
