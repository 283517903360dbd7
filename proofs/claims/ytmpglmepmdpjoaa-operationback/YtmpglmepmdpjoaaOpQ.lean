/- An operation as an argument. -/
import Derived.Test.YtmpglmepmdpjoaaOpM
import Derived.Lib.SmallJoins
import Derived.ProofKit
import Derived.OpenShut
import Derived.ChangeOld
namespace Go.Proofs.Ytmpglmepmdpjoaa
open Go.RowKit Go.Maps Go.ChangeShapes Go.WideShapes
set_option linter.unusedVariables false

theorem array5 {α : Type} {cs : Array α} (h : cs.size = 5) : ∃ c0 c1 c2 c3 c4, cs = #[c0, c1, c2, c3, c4] := by
  obtain ⟨l⟩ := cs
  match l, h with
  | [c0, c1, c2, c3, c4], _ => exact ⟨c0, c1, c2, c3, c4, rfl⟩

theorem wf_i64 {n : Int} (h : (Lit.int .i64 n).wf = true) : I64 n := ⟨(bounds_i64 h).1, (bounds_i64 h).2⟩
theorem cells_op : Try.prog.cellsOf 25 = 5 := by kernel_rfl
theorem cells_ret : Try.prog.cellsOf 23 = 2 := by kernel_rfl
theorem cells_int : Try.prog.cellsOf 3 = 1 := by kernel_rfl
set_option maxRecDepth 100000 in
theorem open_op {H : Type} {enc : TypeId × Value → H} {W : World} {base : Nat} {spare : Nat → Bool} {held : Bool} {r : Reach} {b0 : Nat} {v : Value} {d : DataW H} {p : List MemPlace} (hv : Value.okWide Try.prog W r b0 25 v) (h : DataW.Trod enc Try.prog W base spare held 25 v d p) :
    ∃ kd a b k n : Int, v = opV kd a b k n ∧ I64 kd ∧ I64 a ∧ I64 b ∧ I64 k ∧ I64 n := by
  obtain ⟨cs, rfl, hsz⟩ := okWide_struct Try.underlying25 hv
  obtain ⟨c0, c1, c2, c3, c4, rfl⟩ := array5 (hsz.trans cells_op)
  obtain ⟨fuel, hf⟩ := h
  obtain ⟨y0, y1, y2, y3, n, hx, _, h0, h1, h2, h3⟩ := Go.Joins.trod_struct4 Try.underlying25 hf
  simp only [cells_int, cells_ret, Value.cells, List.drop_zero, List.drop_succ_cons, List.take_succ_cons, List.take_zero] at h0 h1 h2 h3
  obtain ⟨kd, e0, _, w0⟩ := DataW.trod_int Try.underlying3 h0
  obtain ⟨a, e1, _, w1⟩ := DataW.trod_int Try.underlying3 h1
  obtain ⟨b, e2, _, w2⟩ := DataW.trod_int Try.underlying3 h2
  obtain ⟨y4, y5, m, _, _, h4, h5⟩ := trod_struct2 Try.underlying23 h3
  simp only [cells_int, List.drop_zero, List.drop_succ_cons, List.take_succ_cons, List.take_zero] at h4 h5
  obtain ⟨k, e4, _, w4⟩ := DataW.trod_int Try.underlying3 h4
  obtain ⟨n', e5, _, w5⟩ := DataW.trod_int Try.underlying3 h5
  refine ⟨kd, a, b, k, n', ?_, wf_i64 w0, wf_i64 w1, wf_i64 w2, wf_i64 w4, wf_i64 w5⟩
  simp at e0 e1 e2 e4 e5
  rw [e0, e1, e2, e4, e5]
  rfl
end Go.Proofs.Ytmpglmepmdpjoaa
