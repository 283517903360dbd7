/- Plain: the words of the kinds of events. -/
import Derived.Test.YtpdbkjnaicjfdaaGreatDoorGb
namespace Go.Proofs.YtpdbkjnaicjfdaaGreatDoor
open Go.RowKit
set_option linter.unusedVariables false

def emB : ByteArray := ⟨#[]⟩
def blB : ByteArray := ⟨#[32]⟩
/-- The kinds' words. -/
def kwB : Nat → ByteArray
  | 1 => ⟨#[111, 98, 106, 101, 99, 116]⟩
  | 2 => ⟨#[98, 101, 103, 105, 110]⟩
  | 3 => ⟨#[111, 112]⟩
  | 4 => ⟨#[99, 111, 109, 109, 105, 116]⟩
  | 5 => ⟨#[97, 98, 111, 114, 116]⟩
  | _ => ⟨#[]⟩
def kwI (s : ByteArray) : Nat := if s == kwB 1 then 1 else if s == kwB 2 then 2 else if s == kwB 3 then 3 else if s == kwB 4 then 4 else if s == kwB 5 then 5 else 0

theorem kw_zero : (kwI emB) = 0 := by decide +kernel
theorem kwI_of {s : ByteArray} {k : Nat} (h : kwI s = k) (hk : 0 < k) : k ≤ 5 ∧ s = kwB k := by
  unfold kwI at h
  repeat' split at h
  all_goals first
    | (subst h; rename_i e; exact ⟨by omega, by simpa using e⟩)
    | omega
theorem kwI_no {s : ByteArray} (h : kwI s = 0) : ∀ k, 1 ≤ k → k ≤ 5 → (s == kwB k) = false := by
  intro k h1 h5
  cases e : s == kwB k with
  | false => rfl
  | true =>
    have e' : s = kwB k := by simpa using e
    subst e'
    exfalso
    have : k = 1 ∨ k = 2 ∨ k = 3 ∨ k = 4 ∨ k = 5 := by omega
    rcases this with rfl | rfl | rfl | rfl | rfl <;> revert h <;> decide +kernel
theorem kwI_kw (k : Nat) (h1 : 1 ≤ k) (h5 : k ≤ 5) : kwI (kwB k) = k := by
  have : k = 1 ∨ k = 2 ∨ k = 3 ∨ k = 4 ∨ k = 5 := by omega
  rcases this with rfl | rfl | rfl | rfl | rfl <;> decide +kernel

end Go.Proofs.YtpdbkjnaicjfdaaGreatDoor
