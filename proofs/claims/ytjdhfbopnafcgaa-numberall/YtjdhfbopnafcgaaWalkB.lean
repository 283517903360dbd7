/- Contracts of the layer number: All, over a list of numbers. -/
import Derived.Test.YtjdhfbopnafcgaaWalkA
namespace Go.Proofs.Ytjdhfbopnafcgaa
open Go.RowKit
set_option linter.unusedVariables false

/-- A slice's address A, of whatever capacity, reads as the numbers l (nil let in). -/
def Ints (w : World) (A : Option Addr) (l : List Int) : Prop :=
  0 < l.length → ∃ b off, A = some ⟨b, off, none⟩ ∧ b < w.heap.size ∧ ∀ j, j < l.length → w.cell? ⟨b, off + j, none⟩ = some (.int .i64 (l[j]?.getD 0))

theorem Ints.below {w w' : World} {A : Option Addr} {l : List Int} (h : Ints w A l) (hb : Below w.heap.size w w') : Ints w' A l := fun hl => by
  obtain ⟨b, off, e, hlt, hc⟩ := h hl
  exact ⟨b, off, e, Nat.lt_of_lt_of_le hlt hb.size, fun j hj => (hb.cell (p := ⟨b, off + j, none⟩) hlt).trans (hc j hj)⟩

theorem below_drewN {B : Nat} {a w : World} (h : Below B a w) (n : Nat) : Below B a (w.drewN n) := ⟨h.os, h.tape, h.output, h.size, h.block⟩

def Small (x : Int) : Prop := -9223372036854775808 ≤ x ∧ x ≤ 9223372036854775807

theorem take_snoc {α : Type} (l : List α) (k : Nat) (h : k < l.length) : l.take (k + 1) = l.take k ++ [l[k]] := List.take_succ_eq_append_getElem h

theorem tot_take (l : List Int) (k : Nat) (h : k < l.length) : tot (l.take (k + 1)) = tot (l.take k) + l[k]?.getD 0 := by
  rw [take_snoc l k h, tot_snoc, List.getElem?_eq_getElem h]; rfl

theorem small_at {l : List Int} (h : ∀ x ∈ l, Small x) (k : Nat) (hk : k < l.length) : Small (l[k]?.getD 0) := by
  rw [List.getElem?_eq_getElem hk]; exact h _ (List.getElem_mem hk)

theorem all_sum_bd (l : List Int) (h : ∀ x ∈ l, Small x) (hl : l.length ≤ 4611686018427387904) : -170141183460469231731687303715884105728 ≤ tot l ∧ tot l ≤ 170141183460469231731687303715884105727 := by
  have := tot_bd l h
  have hl' : (l.length : Int) ≤ 4611686018427387904 := by omega
  omega

def AllPost (l : List Int) (w : World) (e : Ending) (w' : World) : Prop := e = .returned (.tuple #[.int .i64 (allN l), .int .i64 (allE l)]) ∧ Below w.heap.size w w'

set_option maxHeartbeats 1000000 in
theorem all_any (A : Option Addr) (c : Nat) (l : List Int) (w : World) (hA : Ints w A l) (hs : ∀ x ∈ l, Small x) (hlen : l.length ≤ 4611686018427387904) :
    Calls Try.prog 17 #[.slice A l.length c] w (AllPost l w) := by
  have bd := all_sum_bd l hs hlen
  go_enter Try.func17, Try.ntmps17
  go_wp2
  go_loopw [6, 11, 12, 13, 14, 15, 16, 17, 18] (fun s6 i s12 s13 s14 s15 s16 s17 s18 wr => ∃ k : Nat, k ≤ l.length ∧ i = .int .i64 k ∧ wr.cell? ⟨w.heap.size, 0, none⟩ = some (.int .u64 (lowS (tot (l.take k)))) ∧ wr.cell? ⟨w.heap.size, 1, none⟩ = some (.int .u64 (hiS (tot (l.take k)))) ∧
    wr.frozen? ⟨w.heap.size, 0, none⟩ = false ∧ wr.frozen? ⟨w.heap.size, 1, none⟩ = false ∧ Below w.heap.size w wr) (fun s6 i s12 s13 s14 s15 s16 s17 s18 wr => l.length - (intOf i).toNat)
  case atStart => exact ⟨0, Nat.zero_le _, rfl, by simp [lowS, tot, go_sem], by simp [hiS, tot, go_sem], by simp [go_sem], by simp [go_sem], (Below.refl _ _).alloc (Nat.le_refl _) _⟩
  case round =>
    obtain ⟨k, hk, rfl, c0, c1, f0, f1, hB⟩ := hrel
    by_cases hlt : k < l.length
    · obtain ⟨b, off, rfl, hb, hc⟩ := hA (by omega)
      have hck := (hB.cell (p := ⟨b, off + k, none⟩) hb).trans (hc k hlt)
      clear hc
      obtain ⟨hs1, hs2⟩ := small_at hs k hlt
      have ht := tot_take l k hlt
      obtain ⟨x, hx⟩ : ∃ x, l[k]?.getD 0 = x := ⟨_, rfl⟩
      rw [hx] at hck hs1 hs2 ht
      have HT := Lib.hid ht
      clear hx ht
      go_wp2_with (go_at_call 34; refine (add_sum w.heap.size w.heap.size (tot (l.take k)) x wr (Nat.le_refl _) hs1 hs2 c0 c1 f0 f1).mono ?_; rintro e w1 ⟨rfl, c0', c1', f0', f1', hB'⟩)
      go_roundw
      case rel => exact ⟨k + 1, by omega, by go_num, by rw [HT.out]; exact c0', by rw [HT.out]; exact c1', f0', f1', hB.trans hB'⟩
      case measure => simp [intOf]; omega
    · have hkl : l.take k = l := List.take_of_length_le (by omega)
      rw [hkl] at c0 c1
      have HK := Lib.hid hkl
      clear hkl
      by_cases hin : -9223372036854775808 ≤ tot l ∧ tot l ≤ 9223372036854775807
      · obtain ⟨i1, i2⟩ := hin
        go_wp2_with (go_at_call 35; refine (number_ok w.heap.size (tot l) wr i1 i2 c0 c1).mono ?_; rintro e w1 ⟨rfl, n1, rfl⟩)
        go_ret2
        exact ⟨by simp [allN, allE, i1, i2], below_drewN hB n1⟩
      · go_wp2_with (go_at_call 35; refine (number_no w.heap.size (tot l) wr bd.1 bd.2 (by omega) c0 c1).mono ?_; rintro e w1 ⟨rfl, n1, rfl⟩)
        go_ret2
        exact ⟨by simp only [allN, allE, if_neg hin]; rfl, below_drewN hB n1⟩
end Go.Proofs.Ytjdhfbopnafcgaa
