/- TokenLines, walked. -/
import Derived.Test.YtmmehfpkcheaiaaTkW
namespace Go.Proofs.Ytmmehfpkcheaiaa
open Go.RowKit
set_option linter.unusedVariables false

theorem text_small (bs : List Int) (hm : bs.length ≤ 67108864) : (textL bs).length ≤ 67108865 ∧ ∀ x ∈ textL bs, x.2.length ≤ 67108865 := by
  unfold textL
  split
  · refine ⟨?_, ?_⟩
    · have h1 := List.length_filterMap_le lineL (cuts 10 0 bs)
      have h2 := cuts_len 10 bs 0
      omega
    · intro x hx
      obtain ⟨y, hy, he⟩ := List.mem_filterMap.1 hx
      unfold lineL at he
      split at he
      · cases he
      · cases he
        have h1 := cuts_len 32 y.2 y.1
        have h2 := cuts_le hy
        simp only
        omega
  · exact ⟨by simp, fun x hx => by cases hx⟩

set_option maxHeartbeats 4000000 in
theorem lines_law (A : Option Addr) (c : Nat) (bs : List Int) (w : World) (hA : Bytes w A bs) (ho : Octets bs) (hc : bs.length ≤ c) (hm : bs.length ≤ maxLen) (hnil : A = none → c = 0) :
    Calls Try.prog 3 #[.slice A bs.length c] w (Yes w) := by
  unfold maxLen at hm
  by_cases hlong : (2000 < bs.length ∧ bs.length < 65000) ∨ 70000 < bs.length
  · have hcond : (decide ((2000 : Int) < (bs.length : Int)) = true ∧ decide ((bs.length : Int) < 65000) = true) ∨ (decide ((2000 : Int) < (bs.length : Int)) = true ∧ decide ((bs.length : Int) < 65000) = false ∧ decide ((70000 : Int) < (bs.length : Int)) = true) := by
      rcases hlong with ⟨h1, h2⟩ | h1
      · exact .inl ⟨decide_eq_true (by omega), decide_eq_true (by omega)⟩
      · exact .inr ⟨decide_eq_true (by omega), decide_eq_false (by omega), decide_eq_true (by omega)⟩
    clear hA ho hc hnil hlong
    rcases hcond with ⟨h1, h2⟩ | ⟨h1, h2, h3⟩
    all_goals
      go_enter Try.func3, Try.ntmps3
      go_wp2_with fail
      refine (awake_yes _).mono ?_
      rintro e w1 ⟨rfl, hB1⟩
      go_wp2
      go_ret
      exact ⟨rfl, hB1⟩
  · have hml : bs.length ≤ 70000 := by omega
    have hcond : (decide ((2000 : Int) < (bs.length : Int)) = false ∧ decide ((70000 : Int) < (bs.length : Int)) = false) ∨ (decide ((2000 : Int) < (bs.length : Int)) = true ∧ decide ((bs.length : Int) < 65000) = false ∧ decide ((70000 : Int) < (bs.length : Int)) = false) := by
      rcases Nat.lt_or_ge 2000 bs.length with h | h
      · exact .inr ⟨decide_eq_true (by omega), decide_eq_false (by omega), decide_eq_false (by omega)⟩
      · exact .inl ⟨decide_eq_false (by omega), decide_eq_false (by omega)⟩
    have HA := Lib.hid hA
    have HO := Lib.hid ho
    have HN := Lib.hid hnil
    have HTS := Lib.hid (text_small bs (by omega))
    have k1 : (textE bs == textE bs) = true := by simp
    have k2 : (textP bs == textP bs) = true := by simp
    clear hA ho hnil hlong hm
    rcases hcond with ⟨h1, h2⟩ | ⟨h1, h2, h3⟩
    all_goals
      go_enter Try.func3, Try.ntmps3
      go_wp2_with fail
      refine (lent_any A c bs w HA.out (by omega) HN.out).mono ?_
      rintro e w1 ⟨g, cap, rfl, hcap, hlent, hB1⟩
      have HLent := Lib.hid hlent
      have hbl := bytes_row hlent 0 bs.length (by omega)
      rw [List.drop_zero, List.take_left' rfl] at hbl
      have HBL := Lib.hid hbl
      clear hlent hbl
      have hs1 := hB1.size
      go_wp2_with fail
      refine (lines_any (some ⟨g, 0, none⟩) cap bs w1 HBL.out HO.out (by omega) (by unfold maxLen; omega)).mono ?_
      rintro e w2 ⟨v, rfl, hown, hB2⟩
      have HLent2 := Lib.hid (row_below HLent.out hB2)
      have hOwn := Lib.hid hown
      obtain ⟨A4, c4, rfl, hrd⟩ := hown.read
      have HRd := Lib.hid hrd
      have hs2 := hB2.size
      replace hB2 := Below.next hB1 hB2 (Nat.le_refl _)
      clear hown hrd
      go_wp2_with fail
      refine (rlines_any A c bs _ (HA.out.below (B := 0) (hB2.alloc (by omega) _)) HO.out hc (by omega)).mono ?_
      rintro e w3 ⟨v, rfl, hown3, hB3⟩
      obtain ⟨A6, c6, rfl, hrd3⟩ := hown3.read
      have HRd3 := Lib.hid hrd3
      have hs3 : w2.heap.size + 1 ≤ w3.heap.size := by have := hB3.size; simpa using this
      have hB23 : Below w2.heap.size w2 w3 := ((Below.refl _ w2).alloc (Nat.le_refl _) _).trans (hB3.mono (by simp))
      have f0 : w3.cell? ⟨w2.heap.size, 0, none⟩ = some (.int .i64 (textE bs)) := (hB3.cell (p := ⟨w2.heap.size, 0, none⟩) (by simp)).trans (by simp [World.cell?_alloc_new])
      have f1 : w3.cell? ⟨w2.heap.size, 1, none⟩ = some (.int .i64 (textP bs)) := (hB3.cell (p := ⟨w2.heap.size, 1, none⟩) (by simp)).trans (by simp [World.cell?_alloc_new])
      replace hB3 := hB2.trans (hB23.mono (by omega))
      clear hown3 hrd3
      have hB33 : Below w3.heap.size w3 (w3.alloc (.cells #[.int .i64 (textE bs), .int .i64 (textP bs)] 28)) := (Below.refl _ _).alloc (Nat.le_refl _) _
      go_wp2_with fail
      refine (same_yes A4 A6 c4 c6 (textL bs) _ w3.heap.size (((HRd.out.below hB23).mono (by omega)).below (by exact hB33)) (HRd3.out.below (by exact hB33)) (by have := HTS.out.1; omega) (fun x hx => by have := HTS.out.2 x hx; omega)).mono ?_
      rintro e w4 ⟨rfl, n4, hw4⟩
      have g0 : w4.cell? ⟨w2.heap.size, 0, none⟩ = some (.int .i64 (textE bs)) := by rw [hw4, World.cell?_drewN, World.cell?_alloc_lt _ _ _ (by show w2.heap.size < _; omega)]; exact f0
      have g1 : w4.cell? ⟨w2.heap.size, 1, none⟩ = some (.int .i64 (textP bs)) := by rw [hw4, World.cell?_drewN, World.cell?_alloc_lt _ _ _ (by show w2.heap.size < _; omega)]; exact f1
      have g2 : w4.cell? ⟨w3.heap.size, 0, none⟩ = some (.int .i64 (textE bs)) := by rw [hw4, World.cell?_drewN, World.cell?_alloc_new]; rfl
      have g3 : w4.cell? ⟨w3.heap.size, 1, none⟩ = some (.int .i64 (textP bs)) := by rw [hw4, World.cell?_drewN, World.cell?_alloc_new]; rfl
      obtain ⟨zs, hzs, rL, rs⟩ := hOwn.out
      have hzl : zs.length = (textL bs).length := by rw [← hzs, List.length_map]
      have hzz : ∀ z ∈ zs, z.1.2.length ≤ 67108865 := fun z hz => HTS.out.2 z.1 (by rw [← hzs]; exact List.mem_map_of_mem hz)
      rw [← hzl] at rL
      have hB24 : Below w2.heap.size w2 w4 := by rw [hw4]; exact below_drewN (hB23.alloc (by omega) _) n4
      have hI : OverI w g cap bs A4 c4 zs w4 :=
        ⟨row_below HLent2.out hB24, row_mono (row_below rL hB24) (by omega), fun z hz => ⟨_, row_mono (row_below (rs z hz) hB24) (by omega)⟩, hB2.trans (hB24.mono (by omega))⟩
      have HI := Lib.hid hI
      have HZL := Lib.hid hzl
      have HZZ := Lib.hid hzz
      have hTl := HTS.out.1
      clear hI rL rs hzs hzl hzz hw4 f0 f1 hB33
      go_wp2_with fail
      go_loopw [9] (fun s9 wr => ∃ k : Nat, k ≤ (textL bs).length ∧ s9 = .int .i64 k ∧ OverI w g cap bs A4 c4 zs wr) (fun s9 wr => (textL bs).length - (intOf s9).toNat)
      case atStart => exact ⟨0, Nat.zero_le _, rfl, HI.out⟩
      case round =>
        obtain ⟨k, hk, rfl, hI⟩ := hrel
        by_cases hlt : k < (textL bs).length
        · have hkz : k < zs.length := by rw [HZL.out]; exact hlt
          obtain ⟨gl, Aw, cw, eA, ev⟩ := hI.at hkz
          subst eA
          have hnw := HZZ.out _ (List.getElem_mem hkz)
          obtain ⟨n, hn⟩ : ∃ n, zs[k].1.2.length = n := ⟨_, rfl⟩
          rw [hn] at ev hnw
          have HEv := Lib.hid ev
          have HN2 := Lib.hid hn
          clear ev hn
          have hkl : k < (textL bs).length := hlt
          go_wp2
          go_loopw [10] (fun s10 wr => ∃ j : Nat, j ≤ n ∧ s10 = .int .i64 j ∧ OverI w g cap bs (some ⟨gl, 0, none⟩) c4 zs wr) (fun s10 wr => n - (intOf s10).toNat)
          case atStart => exact ⟨0, Nat.zero_le _, rfl, hI⟩
          case round =>
            obtain ⟨j, hj, rfl, hI2⟩ := hrel
            have hcl := hI2.line hkz
            rw [HEv.out] at hcl
            by_cases hltj : j < n
            · obtain ⟨gw, xs, u0, u1, rfl, hrw, d0, d1⟩ := hI2.word hkz HEv.out HN2.out hltj
              have e0 := hrw.frozenAt (j * 2)
              have e1 := hrw.frozenAt (j * 2 + 1)
              have HRw := Lib.hid hrw
              clear hrw
              go_wp2
              go_roundw
              case rel =>
                exact ⟨j + 1, by omega, by go_num, (hI2.store HRw.out _ _).store ((HRw.out.stored _ _).1) _ _⟩
              case measure => simp [intOf]; omega
            · have hdj : decide (j < n) = false := decide_eq_false hltj
              go_wp2
              go_roundw
              case rel => exact ⟨k + 1, by omega, by go_num, hI2⟩
              case measure => simp [intOf]; omega
        · have hd : decide (k < (textL bs).length) = false := decide_eq_false hlt
          go_wp2_with fail
          refine (kept_yes A c g cap _ bs _ (HA.out.below (B := 0) hI.below) (by omega) hcap hI.lent).mono ?_
          rintro e w6 ⟨rfl, hB6⟩
          replace hB6 := Below.next hI.below hB6 (Nat.le_refl _)
          go_wp2_with fail
          refine (awake_yes _).mono ?_
          rintro e w7 ⟨rfl, hB7⟩
          replace hB7 := Below.next hB6 hB7 (Nat.le_refl _)
          go_wp2
          go_ret
          exact ⟨rfl, hB7⟩
end Go.Proofs.Ytmmehfpkcheaiaa
