/- awake and NumberKnown. -/
import Derived.Test.YtjdhfbopnafcgaaWalkE
import Derived.Test.YtjdhfbopnafcgaaWalkQ
namespace Go.Proofs.Ytjdhfbopnafcgaa
open Go.RowKit
set_option linter.unusedVariables false

theorem put_low : putL (-9223372036854775808) = [45, 57, 50, 50, 51, 51, 55, 50, 48, 51, 54, 56, 53, 52, 55, 55, 53, 56, 48, 56] := by decide +kernel
theorem put_zero : putL 0 = [48] := by decide +kernel
theorem put_7 : putL (-7) = [45, 55] := by decide +kernel
theorem get_m7 : getN [45, 55] = -7 ∧ getE [45, 55] = 0 ∧ getP [45, 55] = 0 := by decide +kernel
theorem get_12x : getN [49, 50, 120] = 0 ∧ getE [49, 50, 120] = 5 ∧ getP [49, 50, 120] = 2 := by decide +kernel
theorem get_low : getN [45, 57, 50, 50, 51, 51, 55, 50, 48, 51, 54, 56, 53, 52, 55, 55, 53, 56, 48, 56] = -9223372036854775808 ∧ getE [45, 57, 50, 50, 51, 51, 55, 50, 48, 51, 54, 56, 53, 52, 55, 55, 53, 56, 48, 56] = 0 ∧ getP [45, 57, 50, 50, 51, 51, 55, 50, 48, 51, 54, 56, 53, 52, 55, 55, 53, 56, 48, 56] = 0 := by decide +kernel
theorem get_over : getN [57, 50, 50, 51, 51, 55, 50, 48, 51, 54, 56, 53, 52, 55, 55, 53, 56, 48, 56] = 0 ∧ getE [57, 50, 50, 51, 51, 55, 50, 48, 51, 54, 56, 53, 52, 55, 55, 53, 56, 48, 56] = 3 ∧ getP [57, 50, 50, 51, 51, 55, 50, 48, 51, 54, 56, 53, 52, 55, 55, 53, 56, 48, 56] = 0 := by decide +kernel
theorem get_none : getN [] = 0 ∧ getE [] = 5 ∧ getP [] = 0 := by decide +kernel
theorem get_sign : getN [45] = 0 ∧ getE [45] = 5 ∧ getP [45] = 1 := by decide +kernel
theorem get_m0 : getN [45, 48] = 0 ∧ getE [45, 48] = 5 ∧ getP [45, 48] = 1 := by decide +kernel
theorem get_007 : getN [48, 48, 55] = 0 ∧ getE [48, 48, 55] = 5 ∧ getP [48, 48, 55] = 1 := by decide +kernel
theorem get_x : getN [120] = 0 ∧ getE [120] = 5 ∧ getP [120] = 0 := by decide +kernel
theorem get_p1 : getN [43, 49] = 0 ∧ getE [43, 49] = 5 ∧ getP [43, 49] = 0 := by decide +kernel

theorem bytes_fit (l : List UInt8) (h : l.length ≤ 100) : (⟨l.toArray⟩ : ByteArray).size ≤ maxLen := by
  have : (⟨l.toArray⟩ : ByteArray).size = l.length := by rw [← bytes_len]
  rw [this]; unfold maxLen; omega

theorem Below.next {a b c : World} {B : Nat} (h : Below B a b) (k : Below b.heap.size b c) (hB : B ≤ a.heap.size) : Below B a c := h.trans (k.mono (Nat.le_trans hB h.size))

theorem ints_new (w : World) (l : List Int) (t : TypeId) (cs : Array Value) (h : cs = (l.map (Value.int .i64)).toArray) : Ints (w.alloc (.cells cs t)) (some ⟨w.heap.size, 0, none⟩) l := by
  subst h
  intro hl
  refine ⟨w.heap.size, 0, rfl, by simp, fun j hj => ?_⟩
  rw [Nat.zero_add, World.cell?_alloc_new]
  simp [List.getElem?_eq_getElem hj]

theorem all_3 : allN [9223372036854775807, 1, -1] = 9223372036854775807 ∧ allE [9223372036854775807, 1, -1] = 0 := by decide +kernel
theorem small_3 : ∀ x ∈ ([9223372036854775807, 1, -1] : List Int), Small x := by
  intro x hx; simp at hx; unfold Small; omega
theorem all_0 : allN [] = 0 ∧ allE [] = 0 := by decide +kernel
theorem all_2 : allN [9223372036854775807, 1] = 0 ∧ allE [9223372036854775807, 1] = 3 := by decide +kernel
theorem small_2 : ∀ x ∈ ([9223372036854775807, 1] : List Int), Small x := by
  intro x hx; simp at hx; unfold Small; omega
theorem wrap_over : wrap64 (9223372036854775807 + 1) = -9223372036854775808 := by unfold wrap64; omega

set_option maxHeartbeats 1000000 in
theorem awake_yes (w : World) : Calls Try.prog 9 #[] w (Yes w) := by
  go_enter Try.func9, Try.ntmps9
  go_wp2_with fail
  refine (put_any _ _ (by omega) (by omega)).mono ?_
  rintro e w1 ⟨rfl, hB1⟩
  rw [put_low]
  go_wp2_with fail
  refine (gets_yes ⟨#[45, 55]⟩ _ _ (bytes_fit [45, 55] (by decide)) get_m7.1 get_m7.2.1 get_m7.2.2).mono ?_
  rintro e w2 ⟨rfl, hB2⟩
  replace hB2 := Below.next hB1 hB2 (Nat.le_refl _)
  clear hB1
  go_wp2_with fail
  refine (fails_yes ⟨#[49, 50, 120]⟩ _ _ _ (bytes_fit [49, 50, 120] (by decide)) get_12x.1 get_12x.2.1 get_12x.2.2).mono ?_
  rintro e w3 ⟨rfl, hB3⟩
  replace hB3 := Below.next hB2 hB3 (Nat.le_refl _)
  clear hB2
  go_wp2_with fail
  refine (wrap_any _ _ _).mono ?_
  rw [wrap_over]
  rintro e w4 ⟨rfl, rfl⟩
  go_wp2_with fail
  refine (all_yes _ _ _ _ [9223372036854775807, 1, -1] _ (ints_new _ _ _ _ rfl) small_3 (by decide) all_3.1 all_3.2).mono ?_
  rintro e w5 ⟨rfl, hB5⟩
  replace hB5 := Below.next (hB3.alloc hB3.size _) hB5 (Nat.le_refl _)
  clear hB3
  go_wp2
  go_ret
  exact ⟨rfl, hB5⟩

set_option maxHeartbeats 1000000 in
theorem known_yes (w : World) : Calls Try.prog 5 #[] w (Yes w) := by
  go_enter Try.func5, Try.ntmps5
  go_wp2_with fail
  refine (put_any _ _ (by omega) (by omega)).mono ?_
  rintro e w1 ⟨rfl, hB1⟩
  rw [put_zero]
  go_wp2_with fail
  refine (put_any _ _ (by omega) (by omega)).mono ?_
  rintro e w2 ⟨rfl, hB2⟩
  replace hB2 := Below.next hB1 hB2 (Nat.le_refl _)
  clear hB1
  rw [put_7]
  go_wp2_with fail
  refine (gets_yes ⟨#[45, 57, 50, 50, 51, 51, 55, 50, 48, 51, 54, 56, 53, 52, 55, 55, 53, 56, 48, 56]⟩ _ _ (bytes_fit _ (by decide)) get_low.1 get_low.2.1 get_low.2.2).mono ?_
  rintro e w3 ⟨rfl, hB3⟩
  replace hB3 := Below.next hB2 hB3 (Nat.le_refl _)
  clear hB2
  go_wp2_with fail
  refine (fails_yes ⟨#[57, 50, 50, 51, 51, 55, 50, 48, 51, 54, 56, 53, 52, 55, 55, 53, 56, 48, 56]⟩ _ _ _ (bytes_fit _ (by decide)) get_over.1 get_over.2.1 get_over.2.2).mono ?_
  rintro e w4 ⟨rfl, hB4⟩
  replace hB4 := Below.next hB3 hB4 (Nat.le_refl _)
  clear hB3
  go_wp2_with fail
  refine (fails_yes ⟨#[]⟩ _ _ _ (bytes_fit [] (by decide)) get_none.1 get_none.2.1 get_none.2.2).mono ?_
  rintro e w5 ⟨rfl, hB5⟩
  replace hB5 := Below.next hB4 hB5 (Nat.le_refl _)
  clear hB4
  go_wp2_with fail
  refine (fails_yes ⟨#[45]⟩ _ _ _ (bytes_fit [45] (by decide)) get_sign.1 get_sign.2.1 get_sign.2.2).mono ?_
  rintro e w6 ⟨rfl, hB6⟩
  replace hB6 := Below.next hB5 hB6 (Nat.le_refl _)
  clear hB5
  go_wp2_with fail
  refine (fails_yes ⟨#[45, 48]⟩ _ _ _ (bytes_fit [45, 48] (by decide)) get_m0.1 get_m0.2.1 get_m0.2.2).mono ?_
  rintro e w7 ⟨rfl, hB7⟩
  replace hB7 := Below.next hB6 hB7 (Nat.le_refl _)
  clear hB6
  go_wp2_with fail
  refine (fails_yes ⟨#[48, 48, 55]⟩ _ _ _ (bytes_fit [48, 48, 55] (by decide)) get_007.1 get_007.2.1 get_007.2.2).mono ?_
  rintro e w8 ⟨rfl, hB8⟩
  replace hB8 := Below.next hB7 hB8 (Nat.le_refl _)
  clear hB7
  go_wp2_with fail
  refine (fails_yes ⟨#[120]⟩ _ _ _ (bytes_fit [120] (by decide)) get_x.1 get_x.2.1 get_x.2.2).mono ?_
  rintro e w9 ⟨rfl, hB9⟩
  replace hB9 := Below.next hB8 hB9 (Nat.le_refl _)
  clear hB8
  go_wp2_with fail
  refine (fails_yes ⟨#[43, 49]⟩ _ _ _ (bytes_fit [43, 49] (by decide)) get_p1.1 get_p1.2.1 get_p1.2.2).mono ?_
  rintro e w10 ⟨rfl, hB10⟩
  replace hB10 := Below.next hB9 hB10 (Nat.le_refl _)
  clear hB9
  go_wp2_with fail
  refine (sum_no _ _ _ (by omega) (by omega) (by omega) (by omega) (by omega)).mono ?_
  rintro e w11 ⟨rfl, rfl⟩
  go_wp2_with fail
  refine (sum_ok _ _ _ (by omega) (by omega) (by omega) (by omega) (by omega) (by omega)).mono ?_
  rintro e w12 ⟨rfl, rfl⟩
  go_wp2_with fail
  refine (awake_yes _).mono ?_
  rintro e w13 ⟨rfl, hB13⟩
  replace hB13 := Below.next hB10 hB13 (Nat.le_refl _)
  clear hB10
  go_wp2_with fail
  refine (all_yes _ _ _ _ [] _ (fun h => absurd h (by simp)) (fun _ h => by cases h) (by decide) all_0.1 all_0.2).mono ?_
  rintro e w14 ⟨rfl, hB14⟩
  replace hB14 := Below.next hB13 hB14 (Nat.le_refl _)
  clear hB13
  go_wp2_with fail
  refine (all_yes _ _ _ _ [9223372036854775807, 1] _ (ints_new _ _ _ _ rfl) small_2 (by decide) all_2.1 all_2.2).mono ?_
  rintro e w15 ⟨rfl, hB15⟩
  replace hB15 := Below.next (hB14.alloc hB14.size _) hB15 (Nat.le_refl _)
  clear hB14
  go_wp2
  go_ret
  exact ⟨rfl, hB15⟩
end Go.Proofs.Ytjdhfbopnafcgaa
