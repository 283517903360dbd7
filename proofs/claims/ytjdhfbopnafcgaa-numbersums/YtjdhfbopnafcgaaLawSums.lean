/- NumberSums, walked. -/
import Derived.Test.YtjdhfbopnafcgaaWalkF
namespace Go.Proofs.Ytjdhfbopnafcgaa
open Go.RowKit
set_option linter.unusedVariables false

theorem cell_lt {w : World} {a : Addr} {v : Value} (h : w.cell? a = some v) : a.block < w.heap.size := by
  rcases Nat.lt_or_ge a.block w.heap.size with hlt | hge
  · exact hlt
  · rw [World.cell?, Array.getElem?_eq_none hge] at h; cases h

/-- What a row tells of a slice of numbers. -/
theorem row_ints {w : World} {A : Option Addr} {len cap : Nat} {zs : List Int}
    (h : (A = none ∧ len = 0 ∧ cap = 0 ∧ zs = []) ∨ ∃ x, A = some x ∧ len ≤ cap ∧ cap ≤ maxLen ∧ zs.length = cap ∧ (∀ i, i < zs.length → w.cell? (x.add i) = some (.int .i64 (zs.getD i 0))) ∧ ∀ n ∈ zs, (Lit.int .i64 n).wf = true) :
    ∃ l : List Int, l.length = len ∧ Ints w A l ∧ (∀ x ∈ l, Small x) ∧ len ≤ maxLen := by
  rcases h with ⟨rfl, rfl, _, rfl⟩ | ⟨x, rfl, hl, hm, hz, hc, hw⟩
  · exact ⟨[], rfl, fun h => absurd h (by simp), (fun _ h => by cases h), Nat.zero_le _⟩
  · refine ⟨zs.take len, by rw [List.length_take]; omega, ?_, fun y hy => bounds_i64 (hw y (List.mem_of_mem_take hy)), by omega⟩
    intro hp
    rw [List.length_take] at hp
    obtain ⟨b, off, rfl, hc'⟩ := ints_at hc (by omega)
    refine ⟨b, off, rfl, cell_lt (hc' 0 (by omega)), fun j hj => ?_⟩
    rw [List.length_take] at hj
    rw [hc' j (by omega), List.getElem?_take, if_pos (by omega)]
    rfl

set_option maxHeartbeats 1000000 in
theorem sums_yes (a b : Int) (A : Option Addr) (c : Nat) (l : List Int) (w : World) (ha : Small a) (hb : Small b) (hA : Ints w A l) (hs : ∀ x ∈ l, Small x) (hm : l.length ≤ maxLen) :
    Calls Try.prog 4 #[.int .i64 a, .int .i64 b, .slice A l.length c] w (Yes w) := by
  unfold maxLen at hm
  obtain ⟨a1, a2⟩ := ha
  obtain ⟨b1, b2⟩ := hb
  by_cases h100 : 100 < l.length
  · go_enter Try.func4, Try.ntmps4
    go_wp2_with fail
    refine (awake_yes _).mono ?_
    rintro e w1 ⟨rfl, hB1⟩
    go_wp2
    go_ret
    exact ⟨rfl, hB1⟩
  · have HS := Lib.hid (fun W => sum_any a b W a1 a2 b1 b2)
    have HR := Lib.hid (fun W => rsum_any a b W a1 a2 b1 b2)
    have HA := Lib.hid hA
    have HL := Lib.hid hs
    clear hA hs
    generalize sumN a b = sn at *
    generalize sumE a b = se at *
    have k1 : (sn == sn) = true := by simp
    have k2 : (se == se) = true := by simp
    have k3 : (allN l == allN l) = true := by simp
    have k4 : (allE l == allE l) = true := by simp
    have k5 : (wrap64 (a + b) == wrap64 (a + b)) = true := by simp
    go_enter Try.func4, Try.ntmps4
    go_wp2_with fail
    refine (copy_any A c l _ HA.out (by omega)).mono ?_
    rintro e w1 ⟨g, cap, rfl, hown, hB1⟩
    have HO := Lib.hid hown
    clear hown
    go_wp2_with fail
    refine (HS.out _).mono ?_
    rintro e w2 ⟨rfl, rfl⟩
    go_wp2_with fail
    refine (HR.out _).mono ?_
    rintro e w2 ⟨rfl, rfl⟩
    go_wp2_with fail
    refine (all_any _ _ l _ (ints_own rfl HO.out) HL.out (by omega)).mono ?_
    rintro e w2 ⟨rfl, hB2⟩
    have HI := Lib.hid ((ints_own rfl HO.out).below hB2)
    replace hB2 := Below.next hB1 hB2 (Nat.le_refl _)
    go_wp2_with fail
    refine (rall_any _ _ l _ (HA.out.below hB2) HL.out (by omega)).mono ?_
    rintro e w3 ⟨rfl, rfl⟩
    go_wp2_with fail
    refine (wrap_any _ _ _).mono ?_
    rintro e w3 ⟨rfl, rfl⟩
    go_wp2_with fail
    refine (rwrap_any _ _ _).mono ?_
    rintro e w3 ⟨rfl, rfl⟩
    go_wp2_with fail
    refine (same_any _ _ _ _ l _ HI.out (HA.out.below hB2) (by omega)).mono ?_
    rintro e w3 ⟨rfl, n3, rfl⟩
    go_wp2_with fail
    refine (awake_yes _).mono ?_
    rintro e w4 ⟨rfl, hB4⟩
    replace hB4 := Below.next (below_drewN hB2 n3) hB4 (Nat.le_refl _)
    go_wp2
    go_ret
    exact ⟨rfl, hB4⟩
end Go.Proofs.Ytjdhfbopnafcgaa
