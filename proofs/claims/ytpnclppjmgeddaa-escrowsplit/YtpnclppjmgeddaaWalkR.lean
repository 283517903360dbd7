/- slices.Reverse at bytes, over a row of the call's own. -/
import Derived.Test.YtpnclppjmgeddaaOpBase
import Derived.Test.YtpnclppjmgeddaaWalkA
import Derived.Laws.OwnMore
import Derived.RegionTactic
import Derived.BigRegion
import Derived.OwnWalk
namespace Go.Proofs.Ytpnclppjmgeddaa
open Go.RowKit
set_option linter.unusedVariables false

/-- Of a list of length n: the first k and the last k exchanged. -/
def Turned (n k : Nat) (zs ys : List Int) : Prop :=
  ys.length = n ∧ ∀ j, j < n → ys[j]? = if j < k ∨ n - 1 - k < j then zs[n - 1 - j]? else zs[j]?

theorem turned_start (zs : List Int) : Turned zs.length 0 zs zs := ⟨rfl, fun j hj => by rw [if_neg (by omega)]⟩
theorem turned_step {n k : Nat} {zs ys : List Int} {a b : Int} (h : Turned n k zs ys) (hz : zs.length = n) (hk : k < n - 1 - k) (ha : ys[k]? = some a) (hb : ys[n - 1 - k]? = some b) :
    Turned n (k + 1) zs ((ys.set k b).set (n - 1 - k) a) := by
  refine ⟨by simp [h.1], fun j hj => ?_⟩
  have hl := h.1
  have e1 := h.2 k (by omega)
  have e2 := h.2 (n - 1 - k) (by omega)
  rw [if_neg (by omega), ha] at e1
  rw [if_neg (by omega), hb] at e2
  rw [List.getElem?_set, List.getElem?_set]
  by_cases h1 : n - 1 - k = j
  · rw [if_pos h1, if_pos (by simp [hl]; omega), if_pos (by omega), show n - 1 - j = k by omega, ← e1]
  · rw [if_neg h1]
    by_cases h2 : k = j
    · rw [if_pos h2, if_pos (by omega), if_pos (by omega), show n - 1 - j = n - 1 - k by omega, ← e2]
    · rw [if_neg h2, h.2 j hj]
      by_cases h3 : j < k ∨ n - 1 - k < j
      · rw [if_pos h3, if_pos (by omega)]
      · rw [if_neg h3, if_neg (by omega)]
theorem turned_end {n k : Nat} {zs ys : List Int} (h : Turned n k zs ys) (hz : zs.length = n) (hk : n ≤ 2 * k + 1) : ys = zs.reverse := by
  apply List.ext_getElem?
  intro j
  by_cases hj : j < n
  · rw [h.2 j hj, List.getElem?_reverse (by omega), hz]
    by_cases h3 : j < k ∨ n - 1 - k < j
    · rw [if_pos h3]
    · rw [if_neg h3, show n - 1 - j = j by omega]
  · rw [List.getElem?_eq_none (by rw [h.1]; omega), List.getElem?_eq_none (by simp; omega)]

theorem bytes_cell {w : World} {base g cap n : Nat} {ys : List Int} (h : w.ownsRow base 5 1 (.slice (some ⟨g, 0, none⟩) n cap) n (bytesOf ys)) {j : Nat} {a : Int} (hj : j < n) (ha : ys[j]? = some a) :
    w.cell? ⟨g, j, none⟩ = some (.int .u8 a) ∧ w.frozen? ⟨g, j, none⟩ = false := by
  refine ⟨?_, h.frozenAt j⟩
  rw [h.cellAt j (by omega), bytesOf, List.getElem?_map, ha]; rfl

def RevPost (base g cap n : Nat) (zs : List Int) (w : World) (e : Ending) (w' : World) : Prop :=
  e = .returned (.tuple #[]) ∧ w'.ownsRow base 5 1 (.slice (some ⟨g, 0, none⟩) n cap) n (bytesOf zs.reverse) ∧ w.grownBy w' (some g)

theorem grown_step {w a : World} {g : Nat} (h : w.grownBy a (some g)) (i j : Nat) (u v : Value) : w.grownBy (((a.setCell ⟨g, i, none⟩ u).setCell ⟨g, j, none⟩ v).drew) (some g) :=
  ⟨h.os, h.tape, h.output, by simpa [World.setCell] using h.size, fun k hk hne => by
    show ((a.setCell ⟨g, i, none⟩ u).setCell ⟨g, j, none⟩ v).heap[k]? = _
    have hkg : k ≠ g := fun e => hne (by rw [e])
    rw [Below.heap_setCell _ _ _ _ hkg, Below.heap_setCell _ _ _ _ hkg]; exact h.block k hk hne⟩

end Go.Proofs.Ytpnclppjmgeddaa
