/- Contracts of the layer grammar: what Parse defers. -/
import Derived.Test.YtpdbkjnaicjfdaaGreatDoorGrE
import Derived.Recover
namespace Go.Proofs.YtpdbkjnaicjfdaaGreatDoor
open Go.RowKit Go.Maps
set_option linter.unusedVariables false
set_option maxRecDepth 100000

theorem assert_nil (w : World) : (Instr.typeAssert .nilIface 20 112 true).run Tryz.prog w = .ok (.tuple #[.agg #[.int .i64 0, .int .i64 0], .bool false]) w := by kernel_rfl
theorem assert_wrong (x y : Int) (w : World) : (Instr.typeAssert (.iface 112 (.agg #[.int .i64 x, .int .i64 y])) 20 112 true).run Tryz.prog w = .ok (.tuple #[.agg #[.int .i64 x, .int .i64 y], .bool true]) w := by kernel_rfl
theorem tmps9 (p q : Value) : (#[p, q] ++ Array.replicate 9 undef : Array Value) = #[p, q, undef, undef, undef, undef, undef, undef, undef, undef, undef] := rfl

set_option maxHeartbeats 1000000 in
theorem catch_idle (p q : Addr) (w : World) :
    CallsD Tryz.prog 58 #[.pointer (some p), .pointer (some q)] .returning w fun e u' w' => e = .returned (.tuple #[]) ∧ u' = .returning ∧ Below w.heap.size w w' := by
  have h1 := assert_nil
  refine callsD_of_wpS Tryz.func58 rfl fun c₀ cs hu => ?_
  apply wpS_seq
  apply wpS_region
  rw [Tryz.ntmps58, show 11 - (#[Value.pointer (some p), .pointer (some q)]).size = 9 from rfl, tmps9]
  simp [wpOpsS, go_sem, recoverD, hu, Exit.thenS, h1]
  apply wpS_seq
  apply wpS_region
  simp [wpOpsS, go_sem, Exit.thenS]
  refine wpS_cond (t := false) (by simp [Act.eval]) ?_
  simp only [Bool.false_eq_true, if_false]
  refine wpS_of_wp (wp_skip ?_)
  have hB := alloc1 w (.cells #[.int .i64 0, .int .i64 0] 112)
  refine ⟨rfl, .returning, ?_, .tuple #[], by simp [results, Tryz.f58, go_sem], rfl, rfl, hB⟩
  cases c₀
  simp only at hu
  subst hu
  rfl

set_option maxHeartbeats 1000000 in
theorem catch_panic (P : Nat) (w : World) (x y : Int) (hp : Holds w P 22 #[.slice none 0 0]) (hq : Holds w (P + 1) 29 #[.int .i64 0, .int .i64 0]) :
    CallsD Tryz.prog 58 #[.pointer (some ⟨P, 0, none⟩), .pointer (some ⟨P + 1, 0, none⟩)] (.panicking [{ v := .iface 112 (.agg #[.int .i64 x, .int .i64 y]), recovered := false }]) w fun e u' w' =>
      e = .returned (.tuple #[]) ∧ u' = .panicking [{ v := .iface 112 (.agg #[.int .i64 x, .int .i64 y]), recovered := true }] ∧ Holds w' P 22 #[.slice none 0 0] ∧ Holds w' (P + 1) 29 #[.int .i64 x, .int .i64 y] ∧ Below P w w' := by
  have h1 := assert_wrong x y
  refine callsD_of_wpS Tryz.func58 rfl fun c₀ cs hu => ?_
  apply wpS_seq
  apply wpS_region
  rw [Tryz.ntmps58, show 11 - (#[Value.pointer (some ⟨P, 0, none⟩), .pointer (some ⟨P + 1, 0, none⟩)]).size = 9 from rfl, tmps9]
  simp [wpOpsS, go_sem, recoverD, hu, Exit.thenS, h1]
  apply wpS_seq
  apply wpS_region
  simp [wpOpsS, go_sem, Exit.thenS]
  refine wpS_cond (t := true) (by simp [Act.eval]) ?_
  simp only [if_true]
  refine wpS_of_wp ?_
  have hB := alloc1 w (.cells #[.int .i64 x, .int .i64 y] 112)
  have HW := Holds.new w 112 #[.int .i64 x, .int .i64 y]
  have HP := hp.alloc (.cells #[.int .i64 x, .int .i64 y] 112)
  have HQ := hq.alloc (.cells #[.int .i64 x, .int .i64 y] 112)
  have hlt := hq.lt
  generalize w.alloc (.cells #[.int .i64 x, .int .i64 y] 112) = W at *
  have c0 := HW.c (j := 0) rfl
  have c1 := HW.c (j := 1) rfl
  have p0 := HP.c (j := 0) rfl
  have q0 := HQ.c (j := 0) rfl
  have q1 := HQ.c (j := 1) rfl
  have y0 := HP.frozen
  have y1 := HQ.frozen
  go_region
  refine ⟨rfl, .panicking [{ v := .iface 112 (.agg #[.int .i64 x, .int .i64 y]), recovered := true }], ?_, .tuple #[], by simp [results, Tryz.f58, go_sem], rfl, rfl, ?_, ?_, ?_⟩
  · cases c₀
    rfl
  · exact ((HP.set 0 (.slice none 0 0)).off (B' := P + 1) (o := 0) (.int .i64 x) (by omega)).off (B' := P + 1) (o := 1) (.int .i64 y) (by omega)
  · exact (((HQ.off (B' := P) (o := 0) (.slice none 0 0) (by omega)).set 0 (.int .i64 x)).set 1 (.int .i64 y))
  · exact ((((hB.mono (show P ≤ w.heap.size by omega)).setCell (p := ⟨P, 0, none⟩) (Nat.le_refl _) _).setCell (p := ⟨P + 1, 0, none⟩) (by simp) _).setCell (p := ⟨P + 1, 1, none⟩) (by simp) _).drew
end Go.Proofs.YtpdbkjnaicjfdaaGreatDoor
