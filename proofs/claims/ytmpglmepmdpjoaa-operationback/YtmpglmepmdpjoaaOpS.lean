/- The document's Type, Word, Kind, returned. -/
import Derived.Test.YtmpglmepmdpjoaaOpR
namespace Go.Proofs.Ytmpglmepmdpjoaa
open Go.RowKit Go.Maps
set_option linter.unusedVariables false

set_option maxRecDepth 100000 in
theorem rtype_any (kd : Int) (w : World) : Calls Try.prog 11 #[.int .i64 kd] w (Says (.tuple #[.int .i64 (typeO (kindI kd)), .int .i64 (errOf (kindI kd))]) w) := by
  have H := fun W => rof_any kd W
  generalize kindI kd = o at H
  cases o with
  | none =>
    go_enter Try.func11, Try.ntmps11
    go_wp2_with fail
    refine (H _).mono ?_
    rintro e w1 ⟨rfl, hB1⟩
    simp only [rkV, Option.isSome]
    go_wp2
    go_ret2
    exact ⟨rfl, hB1.alloc hB1.size _⟩
  | some i =>
    go_enter Try.func11, Try.ntmps11
    go_wp2_with fail
    refine (H _).mono ?_
    rintro e w1 ⟨rfl, hB1⟩
    simp only [rkV, rkL, Option.isSome]
    go_wp2
    go_ret2
    exact ⟨rfl, hB1.alloc hB1.size _⟩

set_option maxRecDepth 100000 in
theorem rword_any (kd : Int) (w : World) : Calls Try.prog 13 #[.int .i64 kd] w (Says (.tuple #[.string (wordO (kindI kd)), .int .i64 (errOf (kindI kd))]) w) := by
  have H := fun W => rof_any kd W
  generalize kindI kd = o at H
  cases o with
  | none =>
    go_enter Try.func13, Try.ntmps13
    go_wp2_with fail
    refine (H _).mono ?_
    rintro e w1 ⟨rfl, hB1⟩
    simp only [rkV, Option.isSome]
    go_wp2
    go_ret2
    exact ⟨rfl, hB1.alloc hB1.size _⟩
  | some i =>
    go_enter Try.func13, Try.ntmps13
    go_wp2_with fail
    refine (H _).mono ?_
    rintro e w1 ⟨rfl, hB1⟩
    simp only [rkV, rkL, Option.isSome]
    go_wp2
    go_ret2
    exact ⟨rfl, hB1.alloc hB1.size _⟩

set_option maxRecDepth 100000 in
set_option maxHeartbeats 1000000 in
theorem rkind_any (s : ByteArray) (w : World) : Calls Try.prog 15 #[.string s] w (Says (.tuple #[.int .i64 (kindO (wordI s)), .int .i64 (errOf (wordI s))]) w) := by
  have HC := Lib.hid (fun k hk => rk_cells k hk w)
  have HW : Hid (wordI s = (List.range 15).find? fun i => wordB i == s) := Lib.hid rfl
  generalize wordI s = o at HW
  go_enter Try.func15, Try.ntmps15
  go_wp2_with fail
  refine (rkinds_any _).mono ?_
  rintro e w1 ⟨rfl, rfl⟩
  go_wp2
  go_loop [5] (fun i => ∃ k : Nat, k ≤ 15 ∧ i = .int .i64 k ∧ ∀ j, j < k → (wordB j == s) = false) (fun i => 15 - (intOf i).toNat)
  case atStart => exact ⟨0, Nat.zero_le _, rfl, fun j h => absurd h (Nat.not_lt_zero _)⟩
  case round =>
    obtain ⟨k, hk, rfl, hall⟩ := hrel
    have HALL := Lib.hid hall
    clear hall
    by_cases hlt : k < 15
    · have hlt' : (k : Int) < 15 := by omega
      have hk0 : (0 : Int) ≤ (k : Int) := by omega
      have c3 := HC.out k hlt 3 (by omega)
      simp only [rkL, List.getElem?_cons_zero, List.getElem?_cons_succ] at c3
      cases hb : (wordB k == s) with
      | true =>
        have HH := Lib.hid hb
        rw [beq_toListBytes] at hb
        generalize wordB k = wk at c3 hb
        go_wp2
        go_ret2
        rw [HW.out, find_first hlt HALL.out HH.out]
        exact ⟨rfl, (Below.refl _ _).alloc (Nat.le_refl _) _⟩
      | false =>
        have HH := Lib.hid hb
        rw [beq_toListBytes] at hb
        generalize wordB k = wk at c3 hb
        go_wp2
        exact ⟨⟨k + 1, by omega, by go_num, fun j hj => by
          rcases Nat.lt_succ_iff_lt_or_eq.1 hj with h | rfl
          · exact HALL.out j h
          · exact HH.out⟩, by simp [intOf]; omega⟩
    · have hlt' : decide ((k : Int) < 15) = false := decide_eq_false (by omega)
      have hkk : k = 15 := by omega
      go_wp2
      go_ret2
      rw [HW.out, find_none (fun j hj => HALL.out j (by omega))]
      exact ⟨rfl, (Below.refl _ _).alloc (Nat.le_refl _) _⟩

/-- What the document lets be returned. -/
def rokR : Nat → Int → Int → Bool
  | 0, k, n => k == 0 && n == 0
  | 1, k, n => k == 2 && (n == 0 || n == 1)
  | 2, k, _ => k == 2
  | 3, k, n => k == 2 && (decide (0 ≤ n) && decide (n ≤ 4611686018427387904))
  | _, k, n => k == 2 || (k == 1 && n == 0)
theorem rR_le (i : Nat) : rR i ≤ 4 := by unfold rR; split <;> omega
theorem rok_ok (i : Nat) (h : i < 15) (k n : Int) : rokR (rR i) k n = okR (mR i) k n := by
  match i, h with
  | 0, _ => rfl
  | 1, _ => rfl
  | 2, _ => rfl
  | 3, _ => rfl
  | 4, _ => rfl
  | 5, _ => rfl
  | 6, _ => rfl
  | 7, _ => rfl
  | 8, _ => rfl
  | 9, _ => rfl
  | 10, _ => rfl
  | 11, _ => rfl
  | 12, _ => rfl
  | 13, _ => rfl
  | 14, _ => rfl
  | i + 15, h => omega

set_option maxHeartbeats 1000000 in
theorem rret0 (y1 y2 : Int) (y4 : ByteArray) (k n : Int) (w : World) : Calls Try.prog 39 #[.agg #[.int .i64 y1, .int .i64 y2, .int .i64 0, .string y4], .agg #[.int .i64 k, .int .i64 n]] w (BoolPost (rokR 0 k n) w) := by
  cases h0 : (k == 0) <;> cases h1 : (n == 0)
  all_goals go_enter Try.func39, Try.ntmps39
  all_goals go_wp2
  all_goals go_ret
  all_goals exact ⟨by first | rfl | simp_all [rokR], ((Below.refl _ _).alloc (Nat.le_refl _) _).alloc (by simp) _⟩

set_option maxHeartbeats 1000000 in
theorem rret1 (y1 y2 : Int) (y4 : ByteArray) (k n : Int) (w : World) : Calls Try.prog 39 #[.agg #[.int .i64 y1, .int .i64 y2, .int .i64 1, .string y4], .agg #[.int .i64 k, .int .i64 n]] w (BoolPost (rokR 1 k n) w) := by
  cases h0 : (k == 2) <;> cases h1 : (n == 0) <;> cases h2 : (n == 1)
  all_goals go_enter Try.func39, Try.ntmps39
  all_goals go_wp2
  all_goals go_ret
  all_goals exact ⟨by first | rfl | simp_all [rokR], ((Below.refl _ _).alloc (Nat.le_refl _) _).alloc (by simp) _⟩

set_option maxHeartbeats 1000000 in
theorem rret2 (y1 y2 : Int) (y4 : ByteArray) (k n : Int) (w : World) : Calls Try.prog 39 #[.agg #[.int .i64 y1, .int .i64 y2, .int .i64 2, .string y4], .agg #[.int .i64 k, .int .i64 n]] w (BoolPost (rokR 2 k n) w) := by
  cases h0 : (k == 2)
  all_goals go_enter Try.func39, Try.ntmps39
  all_goals go_wp2
  all_goals go_ret
  all_goals exact ⟨by first | rfl | simp_all [rokR], ((Below.refl _ _).alloc (Nat.le_refl _) _).alloc (by simp) _⟩

set_option maxHeartbeats 1000000 in
theorem rret3 (y1 y2 : Int) (y4 : ByteArray) (k n : Int) (w : World) : Calls Try.prog 39 #[.agg #[.int .i64 y1, .int .i64 y2, .int .i64 3, .string y4], .agg #[.int .i64 k, .int .i64 n]] w (BoolPost (rokR 3 k n) w) := by
  cases h0 : (k == 2) <;> cases h1 : decide (0 ≤ n) <;> cases h2 : decide (n ≤ 4611686018427387904)
  all_goals go_enter Try.func39, Try.ntmps39
  all_goals go_wp2
  all_goals go_ret
  all_goals exact ⟨by first | rfl | simp_all [rokR], ((Below.refl _ _).alloc (Nat.le_refl _) _).alloc (by simp) _⟩

set_option maxHeartbeats 1000000 in
theorem rret4 (y1 y2 : Int) (y4 : ByteArray) (k n : Int) (w : World) : Calls Try.prog 39 #[.agg #[.int .i64 y1, .int .i64 y2, .int .i64 4, .string y4], .agg #[.int .i64 k, .int .i64 n]] w (BoolPost (rokR 4 k n) w) := by
  cases h0 : (k == 2) <;> cases h1 : (k == 1) <;> cases h2 : (n == 0)
  all_goals go_enter Try.func39, Try.ntmps39
  all_goals go_wp2
  all_goals go_ret
  all_goals exact ⟨by first | rfl | simp_all [rokR], ((Below.refl _ _).alloc (Nat.le_refl _) _).alloc (by simp) _⟩

theorem rret_any (rr : Nat) (hr : rr ≤ 4) (y1 y2 : Int) (y4 : ByteArray) (k n : Int) (w : World) : Calls Try.prog 39 #[.agg #[.int .i64 y1, .int .i64 y2, .int .i64 rr, .string y4], .agg #[.int .i64 k, .int .i64 n]] w (BoolPost (rokR rr k n) w) := by
  match rr, hr with
  | 0, _ => exact rret0 y1 y2 y4 k n w
  | 1, _ => exact rret1 y1 y2 y4 k n w
  | 2, _ => exact rret2 y1 y2 y4 k n w
  | 3, _ => exact rret3 y1 y2 y4 k n w
  | 4, _ => exact rret4 y1 y2 y4 k n w
end Go.Proofs.Ytmpglmepmdpjoaa
