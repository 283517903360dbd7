/- awake and NumberKnown. -/
import Derived.Test.YtpnclppjmgeddaaOpBase
import Derived.Test.YtpnclppjmgeddaaWalkE
import Derived.Test.YtpnclppjmgeddaaWalkQ
namespace Go.Proofs.Ytpnclppjmgeddaa
open Go.RowKit
set_option linter.unusedVariables false

theorem put_low : putL (-9223372036854775808) = [45, 57, 50, 50, 51, 51, 55, 50, 48, 51, 54, 56, 53, 52, 55, 55, 53, 56, 48, 56] := by decide +kernel
theorem put_zero : putL 0 = [48] := by decide +kernel
theorem put_7 : putL (-7) = [45, 55] := by decide +kernel
theorem get_m7 : getN [45, 55] = -7 ∧ getE [45, 55] = 0 ∧ getP [45, 55] = 0 := by decide +kernel
theorem get_12x : getN [49, 50, 120] = 0 ∧ getE [49, 50, 120] = 5 ∧ getP [49, 50, 120] = 2 := by decide +kernel
theorem get_low : getN [45, 57, 50, 50, 51, 51, 55, 50, 48, 51, 54, 56, 53, 52, 55, 55, 53, 56, 48, 56] = -9223372036854775808 ∧ getE [45, 57, 50, 50, 51, 51, 55, 50, 48, 51, 54, 56, 53, 52, 55, 55, 53, 56, 48, 56] = 0 ∧ getP [45, 57, 50, 50, 51, 51, 55, 50, 48, 51, 54, 56, 53, 52, 55, 55, 53, 56, 48, 56] = 0 := by decide +kernel
theorem get_over : getN [57, 50, 50, 51, 51, 55, 50, 48, 51, 54, 56, 53, 52, 55, 55, 53, 56, 48, 56] = 0 ∧ getE [57, 50, 50, 51, 51, 55, 50, 48, 51, 54, 56, 53, 52, 55, 55, 53, 56, 48, 56] = 3 ∧ getP [57, 50, 50, 51, 51, 55, 50, 48, 51, 54, 56, 53, 52, 55, 55, 53, 56, 48, 56] = 0 := by decide +kernel
theorem get_none : getN [] = 0 ∧ getE [] = 5 ∧ getP [] = 0 := by decide +kernel
theorem get_sign : getN [45] = 0 ∧ getE [45] = 5 ∧ getP [45] = 1 := by decide +kernel
theorem get_m0 : getN [45, 48] = 0 ∧ getE [45, 48] = 5 ∧ getP [45, 48] = 1 := by decide +kernel
theorem get_007 : getN [48, 48, 55] = 0 ∧ getE [48, 48, 55] = 5 ∧ getP [48, 48, 55] = 1 := by decide +kernel
theorem get_x : getN [120] = 0 ∧ getE [120] = 5 ∧ getP [120] = 0 := by decide +kernel
theorem get_p1 : getN [43, 49] = 0 ∧ getE [43, 49] = 5 ∧ getP [43, 49] = 0 := by decide +kernel

theorem bytes_fit (l : List UInt8) (h : l.length ≤ 100) : (⟨l.toArray⟩ : ByteArray).size ≤ maxLen := by
  have : (⟨l.toArray⟩ : ByteArray).size = l.length := by rw [← bytes_len]
  rw [this]; unfold maxLen; omega

theorem ints_new (w : World) (l : List Int) (t : TypeId) (cs : Array Value) (h : cs = (l.map (Value.int .i64)).toArray) : Ints (w.alloc (.cells cs t)) (some ⟨w.heap.size, 0, none⟩) l := by
  subst h
  intro hl
  refine ⟨w.heap.size, 0, rfl, by simp, fun j hj => ?_⟩
  rw [Nat.zero_add, World.cell?_alloc_new]
  simp [List.getElem?_eq_getElem hj]

theorem all_3 : allN [9223372036854775807, 1, -1] = 9223372036854775807 ∧ allE [9223372036854775807, 1, -1] = 0 := by decide +kernel
theorem small_3 : ∀ x ∈ ([9223372036854775807, 1, -1] : List Int), Small x := by
  intro x hx; simp at hx; unfold Small; omega
theorem all_0 : allN [] = 0 ∧ allE [] = 0 := by decide +kernel
theorem all_2 : allN [9223372036854775807, 1] = 0 ∧ allE [9223372036854775807, 1] = 3 := by decide +kernel
theorem small_2 : ∀ x ∈ ([9223372036854775807, 1] : List Int), Small x := by
  intro x hx; simp at hx; unfold Small; omega
theorem wrap_over : wrap64 (9223372036854775807 + 1) = -9223372036854775808 := by unfold wrap64; omega

end Go.Proofs.Ytpnclppjmgeddaa
