/- The statements' own small functions. -/
import Derived.Test.YtmpglmepmdpjoaaOpJ
namespace Go.Proofs.Ytmpglmepmdpjoaa
open Go.RowKit Go.Maps
set_option linter.unusedVariables false

theorem strs_new (w : World) (ss : List ByteArray) (t : TypeId) (cs : Array Value) (h : cs = (ss.map Value.string).toArray) : Strs (w.alloc (.cells cs t)).heap.size (w.alloc (.cells cs t)) (some ⟨w.heap.size, 0, none⟩) ss := by
  subst h
  intro hl
  refine ⟨w.heap.size, 0, rfl, by simp, fun j hj => ?_⟩
  rw [Nat.zero_add, World.cell?_alloc_new]
  simp [List.getElem?_eq_getElem hj]
theorem strs_nil (B : Nat) (w : World) (A : Option Addr) : Strs B w A [] := fun h => absurd h (by simp)

def sameOp (a1 a2 a3 a4 a5 b1 b2 b3 b4 b5 : Int) : Bool := a1 == b1 && a2 == b2 && a3 == b3 && a4 == b4 && a5 == b5
set_option maxHeartbeats 1000000 in
theorem eql_op (w : World) (a1 a2 a3 a4 a5 b1 b2 b3 b4 b5 : Int) : (binOp .eql 25 (.agg #[.int .i64 a1, .int .i64 a2, .int .i64 a3, .int .i64 a4, .int .i64 a5]) (.agg #[.int .i64 b1, .int .i64 b2, .int .i64 b3, .int .i64 b4, .int .i64 b5])).run Try.prog w = .ok (.bool (sameOp a1 a2 a3 a4 a5 b1 b2 b3 b4 b5)) w := by
  unfold sameOp
  cases h1 : (a1 == b1) <;> cases h2 : (a2 == b2) <;> cases h3 : (a3 == b3) <;> cases h4 : (a4 == b4) <;> cases h5 : (a5 == b5)
  all_goals go_simp

theorem of_any (kd a b n : Int) (w : World) : Calls Try.prog 24 #[.int .i64 kd, .int .i64 a, .int .i64 b, .int .i64 n] w (Says (opV kd a b 2 n) w) := by
  go_enter Try.func24, Try.ntmps24
  go_wp2
  refine bodyPost_ret (v := .agg #[.int .i64 kd, .int .i64 a, .int .i64 b, .int .i64 2, .int .i64 n]) (by simp [results, Try.f24, go_sem]) rfl ?_
  exact ⟨rfl, (Below.refl _ _).alloc (Nat.le_refl _) _⟩
end Go.Proofs.Ytmpglmepmdpjoaa
