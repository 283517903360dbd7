/- The document's functions of the layer grammar: word, empty, Check. -/
import Derived.Test.YtpdbkjnaicjfdaaGreatDoorGrJ
import Derived.Test.YtpdbkjnaicjfdaaGreatDoorGor
import Derived.Test.YtpdbkjnaicjfdaaGreatDoorGsr
namespace Go.Proofs.YtpdbkjnaicjfdaaGreatDoor
open Go.RowKit Go.Maps
set_option linter.unusedVariables false
set_option maxRecDepth 100000

def rkwB (k : Int) : ByteArray := if k < 1 ∨ 5 < k then emB else kwB k.toNat
set_option maxHeartbeats 1000000 in
theorem kword_any (k : Int) (w : World) : Calls Tryz.prog 89 #[.int .i64 k] w (Says (.string (rkwB k)) w) := by
  unfold rkwB
  by_cases h : k < 1 ∨ 5 < k
  · rw [if_pos h]
    by_cases h1 : k < 1
    · have k1 : decide (k < 1) = true := decide_eq_true h1
      go_enter Tryz.func89, Tryz.ntmps89
      go_wp2
      go_ret
      exact ⟨rfl, Below.refl _ _⟩
    · have k1 : decide (k < 1) = false := decide_eq_false h1
      have k5 : decide (5 < k) = true := decide_eq_true (by omega)
      go_enter Tryz.func89, Tryz.ntmps89
      go_wp2
      go_ret
      exact ⟨rfl, Below.refl _ _⟩
  · rw [if_neg h]
    have hk : k = 1 ∨ k = 2 ∨ k = 3 ∨ k = 4 ∨ k = 5 := by omega
    clear h
    rcases hk with rfl | rfl | rfl | rfl | rfl
    all_goals
      go_enter Tryz.func89, Tryz.ntmps89
      go_wp2
      go_ret
      exact ⟨rfl, (Below.refl _ w).alloc (Nat.le_refl _) _⟩

theorem stzB_is (t n : Int) (l : List Int) : stzB (t, n, l) = ((t == 0) && ((n == 0) && ((l.length : Int) == 0))) := by
  unfold stzB sameB
  dsimp only
  have : (l == []) = ((l.length : Int) == 0) := by
    cases l with
    | nil => rfl
    | cons x r => simp; omega
  rw [this, Bool.and_assoc]
set_option maxHeartbeats 1000000 in
theorem empty_any (t n : Int) (A : Option Addr) (c : Nat) (l : List Int) (w : World) : Calls Tryz.prog 90 #[.agg #[.int .i64 t, .int .i64 n, .slice A l.length c]] w (Says (.bool (stzB (t, n, l))) w) := by
  rw [stzB_is]
  obtain ⟨k, hk⟩ : ∃ k, l.length = k := ⟨_, rfl⟩
  rw [hk]
  clear hk
  have hB0 := alloc1 w (.cells #[.int .i64 t, .int .i64 n, .slice A k c] 53)
  cases h1 : (t == 0) <;> cases h2 : (n == 0) <;> cases h3 : ((k : Int) == 0)
  all_goals
    go_enter Tryz.func90, Tryz.ntmps90
    go_wp2
    go_ret
    exact ⟨rfl, hB0⟩

set_option maxHeartbeats 1000000 in
theorem neq_op (w : World) (a1 a2 a3 a4 a5 : Int) : (binOp .neq 50 (.agg #[.int .i64 a1, .int .i64 a2, .int .i64 a3, .int .i64 a4, .int .i64 a5]) (.agg #[.int .i64 0, .int .i64 0, .int .i64 0, .int .i64 0, .int .i64 0])).run Tryz.prog w = .ok (.bool (!sameOpT (a1, a2, a3, a4, a5) op0)) w := by
  unfold sameOpT op0
  cases h1 : (a1 == 0) <;> cases h2 : (a2 == 0) <;> cases h3 : (a3 == 0) <;> cases h4 : (a4 == 0) <;> cases h5 : (a5 == 0)
  all_goals go_simp
theorem nm_check_two (s : ByteArray) : nm_checkE s = 0 ∨ nm_checkE s = 7 := by
  unfold nm_checkE; split
  · exact .inl rfl
  · exact .inr rfl
end Go.Proofs.YtpdbkjnaicjfdaaGreatDoor
