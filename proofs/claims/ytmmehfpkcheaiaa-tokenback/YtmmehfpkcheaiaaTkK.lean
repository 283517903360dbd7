/- TokenKnown. -/
import Derived.Test.YtmmehfpkcheaiaaTkH
namespace Go.Proofs.Ytmmehfpkcheaiaa
open Go.RowKit
set_option linter.unusedVariables false

theorem ex_a : textF (nums ⟨#[32, 97]⟩) = some (5, 0) := by decide +kernel
theorem ex_a2 : textF (nums ⟨#[97, 32]⟩) = some (5, 2) := by decide +kernel
theorem ex_tab : textF (nums ⟨#[97, 9, 98]⟩) = some (5, 1) := by decide +kernel
theorem ex_nil : textF [] = none ∧ textL [] = [] := by decide +kernel
theorem ex_j0 : strOfNums (jS []) = ⟨#[]⟩ ∧ jE [] = 5 := by
  have h : jS [] = [] ∧ jE [] = 5 := by decide +kernel
  exact ⟨by rw [h.1]; rfl, h.2⟩
theorem ex_j1 : strOfNums (jS [⟨#[97, 32, 98]⟩]) = ⟨#[]⟩ ∧ jE [⟨#[97, 32, 98]⟩] = 5 := by
  have h : jS [⟨#[97, 32, 98]⟩] = [] ∧ jE [⟨#[97, 32, 98]⟩] = 5 := by decide +kernel
  exact ⟨by rw [h.1]; rfl, h.2⟩
theorem ex_j2 : strOfNums (jS [⟨#[97]⟩, ⟨#[]⟩]) = ⟨#[]⟩ ∧ jE [⟨#[97]⟩, ⟨#[]⟩] = 5 := by
  have h : jS [⟨#[97]⟩, ⟨#[]⟩] = [] ∧ jE [⟨#[97]⟩, ⟨#[]⟩] = 5 := by decide +kernel
  exact ⟨by rw [h.1]; rfl, h.2⟩
theorem ex_j3 : strOfNums (jS [⟨#[35]⟩]) = ⟨#[]⟩ ∧ jE [⟨#[35]⟩] = 5 := by
  have h : jS [⟨#[35]⟩] = [] ∧ jE [⟨#[35]⟩] = 5 := by decide +kernel
  exact ⟨by rw [h.1]; rfl, h.2⟩

set_option maxHeartbeats 1000000 in
theorem known_yes (w : World) : Calls Try.prog 5 #[] w (Yes w) := by
  have HL := Lib.hid (lines_any none 0 [] w (fun h => absurd h (by simp)) (fun _ h => by cases h) (Nat.le_refl _) (Nat.zero_le _))
  unfold LinesPost at HL
  rw [ex_nil.2, show textE [] = 0 by rw [textE, ex_nil.1], show textP [] = 0 by rw [textP, ex_nil.1]] at HL
  go_enter Try.func5, Try.ntmps5
  go_wp2_with fail
  refine HL.out.mono ?_
  rintro e w1 ⟨v, rfl, hO, hB1⟩
  obtain ⟨A, c, rfl, _⟩ := hO.read
  clear hO
  have hs1 := hB1.size
  go_wp2_with fail
  refine (awake_yes _).mono ?_
  rintro e w2 ⟨rfl, hB2⟩
  have c0 : w2.cell? ⟨w1.heap.size, 0, none⟩ = some (.int .i64 0) := (hB2.cell (p := ⟨w1.heap.size, 0, none⟩) (by simp)).trans (by simp [World.cell?_alloc_new])
  have c1 : w2.cell? ⟨w1.heap.size, 1, none⟩ = some (.int .i64 0) := (hB2.cell (p := ⟨w1.heap.size, 1, none⟩) (by simp)).trans (by simp [World.cell?_alloc_new])
  replace hB2 := Below.next (hB1.alloc hs1 _) hB2 (Nat.le_refl _)
  clear hB1
  go_wp2_with fail
  refine (fails_yes ⟨#[32, 97]⟩ 0 _ (by decide) (by decide) ex_a).mono ?_
  rintro e w3 ⟨rfl, hB3⟩
  replace hB3 := Below.next hB2 hB3 (Nat.le_refl _)
  clear hB2
  go_wp2_with fail
  refine (fails_yes ⟨#[97, 32]⟩ 2 _ (by decide) (by decide) ex_a2).mono ?_
  rintro e w4 ⟨rfl, hB4⟩
  replace hB4 := Below.next hB3 hB4 (Nat.le_refl _)
  clear hB3
  go_wp2_with fail
  refine (fails_yes ⟨#[97, 9, 98]⟩ 1 _ (by decide) (by decide) ex_tab).mono ?_
  rintro e w5 ⟨rfl, hB5⟩
  replace hB5 := Below.next hB4 hB5 (Nat.le_refl _)
  clear hB4
  go_wp2_with fail
  refine (joins_yes none 0 [] ⟨#[]⟩ 5 _ (fun h => absurd h (by simp)) (by decide) (by decide) ex_j0.1 ex_j0.2).mono ?_
  rintro e w6 ⟨rfl, hB6⟩
  replace hB6 := Below.next hB5 hB6 (Nat.le_refl _)
  clear hB5
  have hs6 := hB6.size
  go_wp2_with fail
  refine (joins_yes _ 1 [⟨#[97, 32, 98]⟩] ⟨#[]⟩ 5 _ (strs_new _ _ _ _ rfl) (by decide) (by decide) ex_j1.1 ex_j1.2).mono ?_
  rintro e w7 ⟨rfl, hB7⟩
  replace hB7 := Below.next (hB6.alloc hs6 _) hB7 (Nat.le_refl _)
  clear hB6
  have hs7 := hB7.size
  go_wp2_with fail
  refine (joins_yes _ 2 [⟨#[97]⟩, ⟨#[]⟩] ⟨#[]⟩ 5 _ (strs_new _ _ _ _ rfl) (by decide) (by decide) ex_j2.1 ex_j2.2).mono ?_
  rintro e w8 ⟨rfl, hB8⟩
  replace hB8 := Below.next (hB7.alloc hs7 _) hB8 (Nat.le_refl _)
  clear hB7
  have hs8 := hB8.size
  go_wp2_with fail
  refine (joins_yes _ 1 [⟨#[35]⟩] ⟨#[]⟩ 5 _ (strs_new _ _ _ _ rfl) (by decide) (by decide) ex_j3.1 ex_j3.2).mono ?_
  rintro e w9 ⟨rfl, hB9⟩
  replace hB9 := Below.next (hB8.alloc hs8 _) hB9 (Nat.le_refl _)
  go_wp2
  go_ret
  exact ⟨rfl, hB9⟩
end Go.Proofs.Ytmmehfpkcheaiaa
