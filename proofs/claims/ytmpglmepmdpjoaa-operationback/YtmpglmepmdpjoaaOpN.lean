/- OperationKinds. -/
import Derived.Test.YtmpglmepmdpjoaaOpM
namespace Go.Proofs.Ytmpglmepmdpjoaa
open Go.RowKit Go.Maps
set_option linter.unusedVariables false

theorem kindI_in (i : Nat) (h : i < 15) : kindI ((i : Int) + 1) = some i := by
  have : ∀ i ∈ List.range 15, kindI ((i : Int) + 1) = some i := by decide +kernel
  exact this i (List.mem_range.2 h)
theorem kindI_at (j : Nat) (h1 : 1 ≤ j) (h : j ≤ 15) : kindI (j : Int) = some (j - 1) := by
  have := kindI_in (j - 1) (by omega)
  rwa [show ((j - 1 : Nat) : Int) + 1 = (j : Int) by omega] at this
theorem kindI_out (kd : Int) (h : kd < 1 ∨ 15 < kd) : kindI kd = none := by
  rw [kindI, List.find?_eq_none]
  intro x hx
  have := List.mem_range.1 hx
  simp
  omega
theorem wordI_in (i : Nat) (h : i < 15) : wordI (wordB i) = some i := by
  have : ∀ i ∈ List.range 15, wordI (wordB i) = some i := by decide +kernel
  exact this i (List.mem_range.2 h)
theorem wordB_inj {i j : Nat} (hi : i < 15) (hj : j < 15) (h : wordB i = wordB j) : i = j := by
  have h1 := wordI_in i hi
  rw [h, wordI_in j hj] at h1
  exact (Option.some.inj h1).symm
theorem objN_in (i : Nat) (h : i < 15) : 1 ≤ objN i ∧ objN i ≤ 5 := by
  have : ∀ i ∈ List.range 15, 1 ≤ objN i ∧ objN i ≤ 5 := by decide +kernel
  exact this i (List.mem_range.2 h)

set_option maxRecDepth 100000 in
set_option maxHeartbeats 2000000 in
theorem kinds_law (kd : Int) (w : World) : Calls Try.prog 8 #[.int .i64 kd] w (Yes w) := by
  by_cases h : kd < 1 ∨ 15 < kd
  · have hk := kindI_out kd h
    have HT := fun W => type_any kd W
    have HW := fun W => word_any kd W
    rw [hk] at HT HW
    simp only [typeO, wordO, errOf] at HT HW
    have d1 : ((decide (kd < 1)) || decide (15 < kd)) = true := by simpa using h
    clear hk
    cases e1 : decide (kd < 1) with
    | true =>
      go_enter Try.func8, Try.ntmps8
      go_wp2_with fail
      refine (known_yes _).mono ?_
      rintro e w1 ⟨rfl, hB1⟩
      go_wp2_with fail
      refine (HT _).mono ?_
      rintro e w2 ⟨rfl, hB2⟩
      go_wp2_with fail
      refine (HW _).mono ?_
      rintro e w3 ⟨rfl, hB3⟩
      go_wp2
      go_ret
      exact ⟨rfl, nxt (nxt hB1 hB2 hB1.size) hB3 (Nat.le_trans hB1.size hB2.size)⟩
    | false =>
      rw [e1] at d1
      have d2 : decide (15 < kd) = true := by simpa using d1
      go_enter Try.func8, Try.ntmps8
      go_wp2_with fail
      refine (known_yes _).mono ?_
      rintro e w1 ⟨rfl, hB1⟩
      go_wp2_with fail
      refine (HT _).mono ?_
      rintro e w2 ⟨rfl, hB2⟩
      go_wp2_with fail
      refine (HW _).mono ?_
      rintro e w3 ⟨rfl, hB3⟩
      go_wp2
      go_ret
      exact ⟨rfl, nxt (nxt hB1 hB2 hB1.size) hB3 (Nat.le_trans hB1.size hB2.size)⟩
  · obtain ⟨i, hi, rfl⟩ : ∃ i : Nat, i < 15 ∧ kd = (i : Int) + 1 := ⟨(kd - 1).toNat, by omega, by omega⟩
    have HT := fun W => type_any ((i : Int) + 1) W
    have HW := fun W => word_any ((i : Int) + 1) W
    have HK := fun W => kind_any (wordB i) W
    rw [kindI_in i hi] at HT HW
    rw [wordI_in i hi] at HK
    simp only [typeO, wordO, errOf, kindO] at HT HW HK
    have ho := objN_in i hi
    have HI := Lib.hid (fun (j : Nat) (hj : j < 15) (e : wordB i = wordB j) => wordB_inj hi hj e)
    have HWj := Lib.hid (fun (j : Nat) (W : World) => word_any (j : Int) W)
    have e1 : decide ((i : Int) + 1 < 1) = false := decide_eq_false (by omega)
    have e2 : decide ((15 : Int) < (i : Int) + 1) = false := decide_eq_false (by omega)
    have g1 : decide ((1 : Int) ≤ (objN i : Int)) = true := decide_eq_true (by omega)
    have g2 : decide ((objN i : Int) ≤ 5) = true := decide_eq_true (by omega)
    obtain ⟨kd, hkd⟩ : ∃ kd, (i : Int) + 1 = kd := ⟨_, rfl⟩
    obtain ⟨wd, hwd⟩ : ∃ wd, wordB i = wd := ⟨_, rfl⟩
    rw [hwd] at HW HK HI
    rw [hkd] at HT HW HK e1 e2 ⊢
    have HKD := Lib.hid hkd
    have HWD := Lib.hid hwd
    generalize (objN i : Int) = ob at *
    clear hkd hwd ho h
    go_enter Try.func8, Try.ntmps8
    go_wp2_with fail
    refine (known_yes _).mono ?_
    rintro e w1 ⟨rfl, hB1⟩
    go_wp2_with fail
    refine (HT _).mono ?_
    rintro e w2 ⟨rfl, hB2⟩
    go_wp2_with fail
    refine (HW _).mono ?_
    rintro e w3 ⟨rfl, hB3⟩
    go_wp2_with fail
    refine (HK _).mono ?_
    rintro e w4 ⟨rfl, hB4⟩
    have hB : Below w.heap.size w w4 := nxt (nxt (nxt hB1 hB2 hB1.size) hB3 (Nat.le_trans hB1.size hB2.size)) hB4 (Nat.le_trans hB1.size (Nat.le_trans hB2.size hB3.size))
    clear hB1 hB2 hB3 hB4 HT HW HK
    go_wp2
    go_loopw [10] (fun i10 wr => ∃ j : Nat, 1 ≤ j ∧ j ≤ 16 ∧ i10 = .int .i64 j ∧ Below w.heap.size w wr) (fun i10 wr => 17 - (intOf i10).toNat)
    case atStart => exact ⟨1, Nat.le_refl _, by omega, rfl, hB⟩
    case round =>
      obtain ⟨j, hj0, hj, rfl, hBr⟩ := hrel
      by_cases hlt : j ≤ 15
      · have HWx := HWj.out j
        rw [kindI_at j hj0 hlt] at HWx
        simp only [wordO, errOf] at HWx
        have j1 : decide ((j : Int) ≤ 15) = true := decide_eq_true (by omega)
        have HD := Lib.hid (HI.out (j - 1) (by omega))
        by_cases hij : j - 1 = i
        · have n1 : kd = (j : Int) := by rw [← HKD.out, ← hij]; omega
          subst n1
          generalize wordB (j - 1) = wj at HWx HD
          go_wp2_with fail
          refine (HWx _).mono ?_
          rintro e w5 ⟨rfl, hB5⟩
          go_wp2
          all_goals exact ⟨⟨j + 1, by omega, by omega, by go_num, nxt hBr hB5 hBr.size⟩, by simp [intOf]; omega⟩
        · have n1 : ((j : Int) == kd) = false := by rw [← HKD.out]; simp; omega
          have n2 : (wordB (j - 1) == wd) = false := by
            rw [beq_eq_false_iff_ne]
            intro e
            exact hij ((HD.out e.symm).symm)
          rw [beq_toListBytes] at n2
          generalize wordB (j - 1) = wj at HWx HD n2
          go_wp2_with fail
          refine (HWx _).mono ?_
          rintro e w5 ⟨rfl, hB5⟩
          go_wp2
          all_goals exact ⟨⟨j + 1, by omega, by omega, by go_num, nxt hBr hB5 hBr.size⟩, by simp [intOf]; omega⟩
      · have j1 : decide ((j : Int) ≤ 15) = false := decide_eq_false (by omega)
        go_wp2
        go_ret
        exact ⟨rfl, hBr⟩
end Go.Proofs.Ytmpglmepmdpjoaa
