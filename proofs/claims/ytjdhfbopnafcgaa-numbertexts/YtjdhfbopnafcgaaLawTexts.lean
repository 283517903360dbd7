/- NumberTexts, walked. -/
import Derived.Test.YtjdhfbopnafcgaaWalkI
namespace Go.Proofs.Ytjdhfbopnafcgaa
open Go.RowKit
set_option linter.unusedVariables false

set_option maxHeartbeats 1000000 in
theorem texts_yes (n : Int) (s : ByteArray) (w : World) (hs : s.size ≤ maxLen) (h1 : -9223372036854775808 ≤ n) (h2 : n ≤ 9223372036854775807) :
    Calls Try.prog 3 #[.int .i64 n, .string s] w (Yes w) := by
  have hs' := hs
  unfold maxLen at hs
  by_cases h60 : 60 < s.size
  · go_enter Try.func3, Try.ntmps3
    go_wp2_with fail
    refine (awake_yes _).mono ?_
    rintro e w1 ⟨rfl, hB1⟩
    go_wp2
    go_ret
    exact ⟨rfl, hB1⟩
  · have HG := Lib.hid (fun W => get_any s W hs')
    have HR := Lib.hid (fun W => rget_any s W hs')
    have HP := Lib.hid (fun W => put_any n W h1 h2)
    have HQ := Lib.hid (fun W => rput_any n W h1 h2)
    unfold GetPost at HG HR
    unfold PutPost at HP HQ
    generalize getN s.data.toList = x at *
    generalize getE s.data.toList = er at *
    generalize getP s.data.toList = at0 at *
    generalize (⟨(putL n).toArray⟩ : ByteArray) = t at *
    have k1 : (x == x) = true := by simp
    have k2 : (er == er) = true := by simp
    have k3 : (at0 == at0) = true := by simp
    go_enter Try.func3, Try.ntmps3
    go_wp2_with fail
    refine (HG.out _).mono ?_
    rintro e w1 ⟨rfl, hB1⟩
    go_wp2_with fail
    refine (HR.out _).mono ?_
    rintro e w2 ⟨rfl, hB2⟩
    have c0 : w2.cell? ⟨w1.heap.size, 0, none⟩ = some (.int .i64 er) := (hB2.cell (p := ⟨w1.heap.size, 0, none⟩) (by simp)).trans (by simp [World.cell?_alloc_new])
    have c1 : w2.cell? ⟨w1.heap.size, 1, none⟩ = some (.int .i64 at0) := (hB2.cell (p := ⟨w1.heap.size, 1, none⟩) (by simp)).trans (by simp [World.cell?_alloc_new])
    have z1 : w1.heap.size < w2.heap.size := by have := hB2.size; simp at this; omega
    replace hB2 := Below.next (hB1.alloc hB1.size _) hB2 (Nat.le_refl _)
    go_wp2_with fail
    refine (HP.out _).mono ?_
    rintro e w3 ⟨rfl, hB3⟩
    have c0' : w3.cell? ⟨w1.heap.size, 0, none⟩ = some (.int .i64 er) := (hB3.cell (p := ⟨w1.heap.size, 0, none⟩) (by simp; omega)).trans (by rw [World.cell?_alloc_lt _ _ _ z1]; exact c0)
    have c1' : w3.cell? ⟨w1.heap.size, 1, none⟩ = some (.int .i64 at0) := (hB3.cell (p := ⟨w1.heap.size, 1, none⟩) (by simp; omega)).trans (by rw [World.cell?_alloc_lt _ _ _ z1]; exact c1)
    have d0 : w3.cell? ⟨w2.heap.size, 0, none⟩ = some (.int .i64 er) := (hB3.cell (p := ⟨w2.heap.size, 0, none⟩) (by simp)).trans (by simp [World.cell?_alloc_new])
    have d1 : w3.cell? ⟨w2.heap.size, 1, none⟩ = some (.int .i64 at0) := (hB3.cell (p := ⟨w2.heap.size, 1, none⟩) (by simp)).trans (by simp [World.cell?_alloc_new])
    have z3 : w2.heap.size < w3.heap.size := by have := hB3.size; simp at this; omega
    replace hB3 := Below.next (hB2.alloc hB2.size _) hB3 (Nat.le_refl _)
    go_wp2_with fail
    refine (HQ.out _).mono ?_
    rintro e w4 ⟨rfl, hB4⟩
    have c0 := (hB4.cell (p := ⟨w1.heap.size, 0, none⟩) (by simp; omega)).trans c0'
    have c1 := (hB4.cell (p := ⟨w1.heap.size, 1, none⟩) (by simp; omega)).trans c1'
    have d0' := (hB4.cell (p := ⟨w2.heap.size, 0, none⟩) z3).trans d0
    have d1' := (hB4.cell (p := ⟨w2.heap.size, 1, none⟩) z3).trans d1
    replace hB4 := Below.next hB3 hB4 (Nat.le_refl _)
    go_wp2_with fail
    refine (awake_yes _).mono ?_
    rintro e w5 ⟨rfl, hB5⟩
    replace hB5 := Below.next hB4 hB5 (Nat.le_refl _)
    go_wp2
    go_ret
    exact ⟨rfl, hB5⟩
end Go.Proofs.Ytjdhfbopnafcgaa
