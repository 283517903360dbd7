/- NumberBack, walked. -/
import Derived.Test.YtjdhfbopnafcgaaWalkK
import Derived.Test.YtjdhfbopnafcgaaPlainB
namespace Go.Proofs.Ytjdhfbopnafcgaa
open Go.RowKit
set_option linter.unusedVariables false

theorem bytes_back (s : ByteArray) : (⟨s.data.toList.toArray⟩ : ByteArray) = s := by
  obtain ⟨d⟩ := s; simp

theorem put_same (s : ByteArray) (w : World) (h : getE s.data.toList = 0) :
    Calls Try.prog 12 #[.int .i64 (getN s.data.toList)] w fun e w' => e = .returned (.string s) ∧ Below w.heap.size w w' := by
  obtain ⟨h1, h2, h3⟩ := put_get s.data.toList h
  refine (put_any _ w h2 h3).mono ?_
  rintro e w' ⟨rfl, hB⟩
  rw [h1, bytes_back]
  exact ⟨rfl, hB⟩

theorem put_fit (n : Int) (h1 : -9223372036854775808 ≤ n) (h2 : n ≤ 9223372036854775807) : (putL n).length ≤ 100 := by
  have hm : n.natAbs < 10 ^ 19 := by rw [pow19]; omega
  have hlen := dsf_len 20 19 n.natAbs hm (by omega)
  rw [putL_is, List.length_append]
  split <;> simp <;> omega

set_option maxHeartbeats 1000000 in
theorem back_yes (n : Int) (s : ByteArray) (w : World) (hs : s.size ≤ maxLen) (h1 : -9223372036854775808 ≤ n) (h2 : n ≤ 9223372036854775807) :
    Calls Try.prog 6 #[.int .i64 n, .string s] w (Yes w) := by
  have hs' := hs
  unfold maxLen at hs
  by_cases h40 : 40 < s.size
  · go_enter Try.func6, Try.ntmps6
    go_wp2_with fail
    refine (known_yes _).mono ?_
    rintro e w1 ⟨rfl, hB1⟩
    go_wp2
    go_ret
    exact ⟨rfl, hB1⟩
  · have HG := Lib.hid (fun W => get_any s W hs')
    have HP := Lib.hid (fun W => put_any n W h1 h2)
    have hgp := get_put n h1 h2
    have HT := Lib.hid (fun W => gets_yes ⟨(putL n).toArray⟩ n W (bytes_fit _ (put_fit n h1 h2)) hgp.1 hgp.2.1 hgp.2.2)
    clear hgp
    by_cases hE : getE s.data.toList = 0
    · have HS := Lib.hid (fun W => put_same s W hE)
      unfold GetPost at HG
      rw [hE] at HG
      generalize getN s.data.toList = x at *
      clear hE
      go_enter Try.func6, Try.ntmps6
      go_wp2_with fail
      refine (known_yes _).mono ?_
      rintro e w1 ⟨rfl, hB1⟩
      go_wp2_with fail
      refine (HG.out _).mono ?_
      rintro e w2 ⟨rfl, hB2⟩
      replace hB2 := Below.next hB1 hB2 (Nat.le_refl _)
      clear hB1
      go_wp2_with fail
      refine (HS.out _).mono ?_
      rintro e w3 ⟨rfl, hB3⟩
      have c0 : w3.cell? ⟨w2.heap.size, 0, none⟩ = some (.int .i64 0) := (hB3.cell (p := ⟨w2.heap.size, 0, none⟩) (by simp)).trans (by simp [World.cell?_alloc_new])
      replace hB3 := Below.next (hB2.alloc hB2.size _) hB3 (Nat.le_refl _)
      go_wp2_with fail
      refine (HP.out _).mono ?_
      rintro e w4 ⟨rfl, hB4⟩
      replace hB4 := Below.next hB3 hB4 (Nat.le_refl _)
      go_wp2_with fail
      refine (HT.out _).mono ?_
      rintro e w5 ⟨rfl, hB5⟩
      replace hB5 := Below.next hB4 hB5 (Nat.le_refl _)
      go_wp2
      go_ret
      exact ⟨rfl, hB5⟩
    · obtain ⟨x0, hp1, hp2⟩ := get_not s.data.toList hE
      have hlen := bytes_len s
      have hP : 0 ≤ getP s.data.toList ∧ getP s.data.toList ≤ s.size := by
        by_cases h20 : s.data.toList.length ≤ 20
        · have := hp1 h20; omega
        · have := hp2 (by omega); omega
      obtain ⟨hP0, hP1⟩ := hP
      unfold GetPost at HG
      rw [x0] at HG
      clear hp1 hp2 x0 hlen
      generalize getP s.data.toList = p at *
      have kE : (getE s.data.toList == 0) = false := by simpa using hE
      have kE2 : (getE s.data.toList != 0) = true := by simpa using hE
      clear hE
      generalize getE s.data.toList = ee at *
      have k0 : decide (p < 0) = false := by simp; omega
      have k1 : decide ((s.size : Int) < p) = false := by simp; omega
      go_enter Try.func6, Try.ntmps6
      go_wp2_with fail
      refine (known_yes _).mono ?_
      rintro e w1 ⟨rfl, hB1⟩
      go_wp2_with fail
      refine (HG.out _).mono ?_
      rintro e w2 ⟨rfl, hB2⟩
      replace hB2 := Below.next hB1 hB2 (Nat.le_refl _)
      clear hB1
      go_wp2_with fail
      refine (HP.out _).mono ?_
      rintro e w4 ⟨rfl, hB4⟩
      replace hB4 := Below.next (hB2.alloc hB2.size _) hB4 (Nat.le_refl _)
      go_wp2_with fail
      refine (HT.out _).mono ?_
      rintro e w5 ⟨rfl, hB5⟩
      replace hB5 := Below.next hB4 hB5 (Nat.le_refl _)
      go_wp2
      go_ret
      exact ⟨rfl, hB5⟩
end Go.Proofs.Ytjdhfbopnafcgaa
