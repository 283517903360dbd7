/- Contracts of the layer number: sums, and small helpers. -/
import Derived.Test.YtjdhfbopnafcgaaRows
import Derived.Test.YtjdhfbopnafcgaaPlain
import Derived.WalkKit
import Derived.WalkSpells
import Derived.WalkLawsBesides
import Derived.Lib.Hide
import Derived.IntWalk
import Derived.Laws.Externs
import Derived.Deep.QuietTactic
import Derived.BigQuiet
import Derived.Deep.RegionWith
namespace Go.Proofs.Ytjdhfbopnafcgaa
open Go.RowKit
set_option linter.unusedVariables false

set_option maxHeartbeats 400000 in
theorem wrap_any (a b : Int) (w : World) :
    Calls Try.prog 19 #[.int .i64 a, .int .i64 b] w fun e w' => e = .returned (.int .i64 (wrap64 (a + b))) ∧ w = w' := by
  go_enter Try.func19, Try.ntmps19
  go_wp2
  go_ret
  exact ⟨rfl, rfl⟩

set_option maxHeartbeats 400000 in
theorem upper_any (a : Int) (w : World) (h1 : -9223372036854775808 ≤ a) (h2 : a ≤ 9223372036854775807) :
    Calls Try.prog 38 #[.int .i64 a] w fun e w' => e = .returned (.int .u64 (up a)) ∧ w = w' := by
  go_enter Try.func38, Try.ntmps38
  go_wp2
  go_ret
  exact ⟨ret_int (up_eq a h1 h2), rfl⟩

set_option maxHeartbeats 400000 in
theorem size_any (a : Int) (w : World) (h1 : -9223372036854775808 ≤ a) (h2 : a ≤ 9223372036854775807) :
    Calls Try.prog 31 #[.int .i64 a] w fun e w' => e = .returned (.int .u64 (sz a)) ∧ w = w' := by
  by_cases h : a < 0
  · have hq := Lib.hid (sz_neg a h1 h)
    go_enter Try.func31, Try.ntmps31
    go_wp2
    go_ret
    exact ⟨ret_int hq.out, rfl⟩
  · have hz : sz a = a := by unfold sz; rw [if_neg h]
    have hq := Lib.hid hz
    clear hz
    go_enter Try.func31, Try.ntmps31
    go_wp2
    go_ret
    exact ⟨ret_int hq.out.symm, rfl⟩

set_option maxHeartbeats 400000 in
theorem sum_ok (a b : Int) (w : World) (h1 : -9223372036854775808 ≤ a) (h2 : a ≤ 9223372036854775807) (h3 : -9223372036854775808 ≤ b) (h4 : b ≤ 9223372036854775807)
    (h5 : -9223372036854775808 ≤ a + b) (h6 : a + b ≤ 9223372036854775807) :
    Calls Try.prog 15 #[.int .i64 a, .int .i64 b] w fun e w' => e = .returned (.tuple #[.int .i64 (a + b), .int .i64 0]) ∧ w = w' := by
  by_cases hb : b < 0
  · have hx : decide (a + b < a) = true := by simp; omega
    have hy : decide (b < 0) = true := by simpa using hb
    go_enter Try.func15, Try.ntmps15
    go_wp2_with ((go_at_call 19; refine (wrap_any _ _ _).mono ?_; rw [IntWalk.wrap64_in _ ⟨h5, h6⟩]; rintro e w' ⟨rfl, rfl⟩))
    go_ret2
    exact ⟨rfl, rfl⟩
  · have hx : decide (a + b < a) = false := by simp; omega
    have hy : decide (b < 0) = false := by simpa using hb
    go_enter Try.func15, Try.ntmps15
    go_wp2_with ((go_at_call 19; refine (wrap_any _ _ _).mono ?_; rw [IntWalk.wrap64_in _ ⟨h5, h6⟩]; rintro e w' ⟨rfl, rfl⟩))
    go_ret2
    exact ⟨rfl, rfl⟩

set_option maxHeartbeats 400000 in
theorem sum_no (a b : Int) (w : World) (h1 : -9223372036854775808 ≤ a) (h2 : a ≤ 9223372036854775807) (h3 : -9223372036854775808 ≤ b) (h4 : b ≤ 9223372036854775807)
    (h5 : a + b < -9223372036854775808 ∨ 9223372036854775807 < a + b) :
    Calls Try.prog 15 #[.int .i64 a, .int .i64 b] w fun e w' => e = .returned (.tuple #[.int .i64 0, .int .i64 3]) ∧ w = w' := by
  have hw : (wrap64 (a + b) < a) ↔ ¬ (b < 0) := by unfold wrap64; omega
  by_cases hb : b < 0
  · have hx : decide (wrap64 (a + b) < a) = false := by simpa [hb] using hw
    have hy : decide (b < 0) = true := by simpa using hb
    clear hw
    go_enter Try.func15, Try.ntmps15
    go_wp2_with ((go_at_call 19; refine (wrap_any _ _ _).mono ?_; rintro e w' ⟨rfl, rfl⟩))
    go_ret2
    exact ⟨rfl, rfl⟩
  · have hx : decide (wrap64 (a + b) < a) = true := by simpa [hb] using hw
    have hy : decide (b < 0) = false := by simpa using hb
    clear hw
    go_enter Try.func15, Try.ntmps15
    go_wp2_with ((go_at_call 19; refine (wrap_any _ _ _).mono ?_; rintro e w' ⟨rfl, rfl⟩))
    go_ret2
    exact ⟨rfl, rfl⟩

theorem sum_any (a b : Int) (w : World) (h1 : -9223372036854775808 ≤ a) (h2 : a ≤ 9223372036854775807) (h3 : -9223372036854775808 ≤ b) (h4 : b ≤ 9223372036854775807) :
    Calls Try.prog 15 #[.int .i64 a, .int .i64 b] w fun e w' => e = .returned (.tuple #[.int .i64 (sumN a b), .int .i64 (sumE a b)]) ∧ w = w' := by
  unfold sumN sumE
  by_cases h : -9223372036854775808 ≤ a + b ∧ a + b ≤ 9223372036854775807
  · rw [if_pos h, if_pos h]; exact sum_ok a b w h1 h2 h3 h4 h.1 h.2
  · rw [if_neg h, if_neg h]; exact sum_no a b w h1 h2 h3 h4 (by omega)

/-- math/bits.Add64 without a carry. -/
theorem add64_0 (x y : Int) (hx : 0 ≤ x) (hy : 0 ≤ y) (w : World) : (callFunc 37 #[.int .u64 x, .int .u64 y, .int .u64 0]).run Try.prog w =
    .ok (.value (.tuple #[.int .u64 ((x + y) % 18446744073709551616), .int .u64 ((x + y) / 18446744073709551616)])) w := by
  rw [run_callFunc_extern Try.func37 (by kernel_rfl) (by kernel_rfl) (by kernel_rfl) (e := add64Entry) (by kernel_rfl), run_add64 x y 0 hx hy (by omega) (by omega)]
  simp [Result.andThen]

set_option maxHeartbeats 400000 in
theorem add_any (b : Nat) (x y n : Int) (w : World) (h1 : -9223372036854775808 ≤ n) (h2 : n ≤ 9223372036854775807) (hx0 : 0 ≤ x) (hx1 : x ≤ 18446744073709551615) (hy0 : 0 ≤ y) (hy1 : y ≤ 18446744073709551615)
    (hc0 : w.cell? ⟨b, 0, none⟩ = some (.int .u64 x)) (hc1 : w.cell? ⟨b, 1, none⟩ = some (.int .u64 y)) (hf0 : w.frozen? ⟨b, 0, none⟩ = false) (hf1 : w.frozen? ⟨b, 1, none⟩ = false) :
    Calls Try.prog 34 #[.pointer (some ⟨b, 0, none⟩), .int .i64 n] w fun e w' => e = .returned (.tuple #[]) ∧ w' = ((w.setCell ⟨b, 0, none⟩ (.int .u64 ((x + IntKind.u64.wrap n) % 18446744073709551616))).setCell ⟨b, 1, none⟩ (.int .u64 (IntKind.u64.wrap (IntKind.u64.wrap (y + up n) + (x + IntKind.u64.wrap n) / 18446744073709551616)))).drew := by
  have hn0 : 0 ≤ IntKind.u64.wrap n := by rw [u64_mod]; omega
  have hn1 : IntKind.u64.wrap n ≤ 18446744073709551615 := by rw [u64_mod]; omega
  have hu := up_bd n
  go_enter Try.func34, Try.ntmps34
  go_wp2_with (simp only [add64_0 x (IntKind.u64.wrap n) hx0 hn0])
  go_region_with (go_at_call 38; refine (upper_any _ _ h1 h2).mono ?_; rintro e w' ⟨rfl, rfl⟩)
  all_goals (go_end0; exact ⟨rfl, rfl⟩)

theorem add_sum (b B : Nat) (S n : Int) (w : World) (hB : B ≤ b) (h1 : -9223372036854775808 ≤ n) (h2 : n ≤ 9223372036854775807)
    (hc0 : w.cell? ⟨b, 0, none⟩ = some (.int .u64 (lowS S))) (hc1 : w.cell? ⟨b, 1, none⟩ = some (.int .u64 (hiS S))) (hf0 : w.frozen? ⟨b, 0, none⟩ = false) (hf1 : w.frozen? ⟨b, 1, none⟩ = false) :
    Calls Try.prog 34 #[.pointer (some ⟨b, 0, none⟩), .int .i64 n] w fun e w' => e = .returned (.tuple #[]) ∧
      w'.cell? ⟨b, 0, none⟩ = some (.int .u64 (lowS (S + n))) ∧ w'.cell? ⟨b, 1, none⟩ = some (.int .u64 (hiS (S + n))) ∧ w'.frozen? ⟨b, 0, none⟩ = false ∧ w'.frozen? ⟨b, 1, none⟩ = false ∧ Below B w w' := by
  refine (add_any b (lowS S) (hiS S) n w h1 h2 (low_bd S).1 (low_bd S).2 (hi_bd S).1 (hi_bd S).2 hc0 hc1 hf0 hf1).mono ?_
  rintro e w' ⟨rfl, rfl⟩
  rw [low_step, hi_step S n h1 h2]
  have hne : (⟨b, 1, none⟩ : Addr) ≠ ⟨b, 0, none⟩ := by simp
  refine ⟨rfl, ?_, ?_, ?_, ?_, ((((Below.refl B w).setCell (p := ⟨b, 0, none⟩) hB _).setCell (p := ⟨b, 1, none⟩) hB _).drew)⟩
  · show World.cell? ((w.setCell _ _).setCell _ _) _ = _
    rw [World.cell?_setCell_other _ _ _ _ hne]
    exact World.cell?_setCell_same' _ _ _ (by rw [hc0]; rfl)
  · show World.cell? ((w.setCell _ _).setCell _ _) _ = _
    exact World.cell?_setCell_same' _ _ _ (by rw [World.cell?_setCell_other _ _ _ _ hne.symm, hc1]; rfl)
  · show World.frozen? ((w.setCell _ _).setCell _ _) _ = _
    rw [World.frozen?_setCell, World.frozen?_setCell]; exact hf0
  · show World.frozen? ((w.setCell _ _).setCell _ _) _ = _
    rw [World.frozen?_setCell, World.frozen?_setCell]; exact hf1

set_option maxHeartbeats 400000 in
theorem number_ok (b : Nat) (S : Int) (w : World) (h1 : -9223372036854775808 ≤ S) (h2 : S ≤ 9223372036854775807)
    (hc0 : w.cell? ⟨b, 0, none⟩ = some (.int .u64 (lowS S))) (hc1 : w.cell? ⟨b, 1, none⟩ = some (.int .u64 (hiS S))) :
    Calls Try.prog 35 #[.pointer (some ⟨b, 0, none⟩)] w fun e w' => e = .returned (.tuple #[.int .i64 S, .int .i64 0]) ∧ ∃ k, w' = w.drewN k := by
  obtain ⟨e1, e2⟩ := low_back S h1 h2
  have e3 : wrap64 (lowS S) = S := by rw [← IntWalk.i64_left]; exact e1
  rw [e2] at hc1
  have E2 := Lib.hid e2
  clear e2 e1
  have hneq : (up S != up S) = false := by simp
  go_enter Try.func35, Try.ntmps35
  go_wp2
  go_quiet ((go_at_call 38; exact Calls.quiet_of_same ((upper_any _ _ h1 h2).mono fun _ _ ⟨he, hw⟩ => ⟨he, hw.symm⟩)))
  go_wp2
  go_ret2
  exact ⟨by simp [e3], _, rfl⟩

set_option maxHeartbeats 400000 in
theorem number_no (b : Nat) (S : Int) (w : World) (h0 : -170141183460469231731687303715884105728 ≤ S) (h3 : S ≤ 170141183460469231731687303715884105727) (h : S < -9223372036854775808 ∨ 9223372036854775807 < S)
    (hc0 : w.cell? ⟨b, 0, none⟩ = some (.int .u64 (lowS S))) (hc1 : w.cell? ⟨b, 1, none⟩ = some (.int .u64 (hiS S))) :
    Calls Try.prog 35 #[.pointer (some ⟨b, 0, none⟩)] w fun e w' => e = .returned (.tuple #[.int .i64 0, .int .i64 3]) ∧ ∃ k, w' = w.drewN k := by
  have e2 := low_out S h0 h3 h
  have bd := wrap_bd (lowS S)
  rw [IntWalk.i64_left] at e2 bd
  have hneq : (hiS S != up (wrap64 (lowS S))) = true := by simpa using e2
  have hneq' : (hiS S == up (wrap64 (lowS S))) = false := by simpa using e2
  clear e2 h h0 h3
  go_enter Try.func35, Try.ntmps35
  go_wp2
  go_quiet ((go_at_call 38; exact Calls.quiet_of_same ((upper_any _ _ bd.1 bd.2).mono fun _ _ ⟨he, hw⟩ => ⟨he, hw.symm⟩)))
  go_wp2
  go_ret2
  exact ⟨rfl, _, rfl⟩
end Go.Proofs.Ytjdhfbopnafcgaa
