/- Put. -/
import Derived.Test.YtpnclppjmgeddaaOpBase
import Derived.Test.YtpnclppjmgeddaaWalkP
import Derived.Laws.BytesArg
import Derived.Deep.AppendLies
namespace Go.Proofs.Ytpnclppjmgeddaa
open Go.RowKit Go.Shelf
set_option linter.unusedVariables false

attribute [local go_sem] Oper.semAt_some

def PutPost (n : Int) (w : World) (e : Ending) (w' : World) : Prop := e = .returned (.string ⟨(putL n).toArray⟩) ∧ Below w.heap.size w w'

theorem sz_nat (n : Int) : sz n = ((n.natAbs : Nat) : Int) := by unfold sz; split <;> omega

theorem rev45 (l : List Int) : (l ++ [45]).reverse = 45 :: l.reverse := by simp
theorem putL_neg (n : Int) (h : n < 0) : (⟨(putL n).toArray⟩ : ByteArray) = strOfNums ((dr 20 n.natAbs ++ [45]).reverse) := by
  unfold putL putI strOfNums; rw [if_pos h]
theorem putL_pos (n : Int) (h : ¬ n < 0) : (⟨(putL n).toArray⟩ : ByteArray) = strOfNums ((dr 20 n.natAbs).reverse) := by
  unfold putL putI strOfNums; rw [if_neg h, List.append_nil]

end Go.Proofs.Ytpnclppjmgeddaa
