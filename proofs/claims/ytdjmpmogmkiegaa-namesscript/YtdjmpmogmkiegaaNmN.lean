/- The document's table: Check, Of, Name, Add. -/
import Derived.Test.YtdjmpmogmkiegaaNmM
namespace Go.Proofs.Ytdjmpmogmkiegaa
open Go.RowKit Go.Maps
set_option linter.unusedVariables false

theorem nums_at {s : ByteArray} {k : Nat} (hk : k < s.size) : (nums s)[k]?.getD 0 = (s[k].toNat : Int) := by
  rw [nums_get]
  have h : s.data.toList.getD k 0 = s[k] := by
    have hl : k < s.data.toList.length := by rw [Array.length_toList]; exact hk
    rw [List.getD, List.getElem?_eq_getElem hl]
    rfl
  rw [h]

theorem beg_fol {c : Int} (h : begB c = true) : folB c = true := by rw [folB, h]; rfl

/-- A name, as the document says it. -/
theorem name_doc {s : ByteArray} (h1 : 1 ≤ s.size) (h2 : s.size ≤ 32) : nameB s = (begB ((nums s)[0]?.getD 0) && (nums s).all folB) := by
  unfold nameB nameL
  rw [nums_len, decide_eq_true h1, decide_eq_true h2]
  have hl := nums_len s
  cases hn : nums s with
  | nil => rw [hn] at hl; simp at hl; omega
  | cons c r =>
    simp only [List.take_succ_cons, List.take_zero, List.drop_succ_cons, List.drop_zero, List.all_cons, List.all_nil, Bool.and_true, Bool.true_and, List.getElem?_cons_zero, Option.getD_some]
    cases hb : begB c with
    | false => rfl
    | true => rw [beg_fol hb]; rfl

theorem fol_no1 {c : Int} (h : folB c = false) : begB c = false ∧ (decide (48 ≤ c) && decide (c ≤ 57)) = false ∧ (c == 95) = false := by
  unfold folB at h
  simp only [Bool.or_eq_false_iff] at h
  exact ⟨h.1.1, h.1.2, h.2⟩

theorem fol_cases (x : Int) :
    (folB x = true ∧ decide (97 ≤ x) = true ∧ decide (x ≤ 122) = true) ∨
    (folB x = false ∧ decide (97 ≤ x) = true ∧ decide (x ≤ 122) = false ∧ decide (48 ≤ x) = true ∧ decide (x ≤ 57) = false ∧ (x == 95) = false) ∨
    (folB x = true ∧ decide (97 ≤ x) = false ∧ decide (48 ≤ x) = true ∧ decide (x ≤ 57) = true) ∨
    (folB x = true ∧ decide (97 ≤ x) = false ∧ decide (48 ≤ x) = true ∧ decide (x ≤ 57) = false ∧ (x == 95) = true) ∨
    (folB x = false ∧ decide (97 ≤ x) = false ∧ decide (48 ≤ x) = true ∧ decide (x ≤ 57) = false ∧ (x == 95) = false) ∨
    (folB x = false ∧ decide (97 ≤ x) = false ∧ decide (48 ≤ x) = false ∧ (x == 95) = false) := by
  unfold folB begB
  by_cases a1 : 97 ≤ x
  · by_cases a2 : x ≤ 122
    · left; simp [a1, a2]
    · right; left
      have b3 : decide (48 ≤ x) = true := decide_eq_true (by omega)
      have b4 : decide (x ≤ 57) = false := decide_eq_false (by omega)
      have b5 : (x == 95) = false := beq_eq_false_iff_ne.2 (by omega)
      rw [b3, b4, b5, decide_eq_true a1, decide_eq_false a2]
      simp
  · rw [decide_eq_false a1]
    by_cases a3 : 48 ≤ x
    · rw [decide_eq_true a3]
      by_cases a4 : x ≤ 57
      · rw [decide_eq_true a4]; simp
      · rw [decide_eq_false a4]
        by_cases a5 : x = 95
        · rw [beq_iff_eq.2 a5]; simp
        · rw [beq_eq_false_iff_ne.2 a5]; simp
    · rw [decide_eq_false a3, beq_eq_false_iff_ne.2 (show x ≠ 95 by omega)]; simp

set_option maxHeartbeats 2000000 in
theorem rcheck_any (s : ByteArray) (w : World) (hs : s.size ≤ 1000) : Calls Try.prog 15 #[.string s] w fun e w' => e = .returned (.int .i64 (checkE s)) ∧ w = w' := by
  by_cases h1 : s.size < 1
  · have hn : nameB s = false := by rw [nameB, nameL, nums_len, decide_eq_false (by omega)]; rfl
    have k1 : decide ((s.size : Int) < 1) = true := decide_eq_true (by omega)
    go_enter Try.func15, Try.ntmps15
    go_wp2
    go_ret
    exact ⟨by rw [checkE_no hn]; rfl, rfl⟩
  · have k1 : decide ((s.size : Int) < 1) = false := decide_eq_false (by omega)
    by_cases h2 : 32 < s.size
    · have hn : nameB s = false := by rw [nameB, nameL, nums_len, decide_eq_false (show ¬ s.size ≤ 32 by omega), Bool.and_false]; rfl
      have k2 : decide ((32 : Int) < (s.size : Int)) = true := decide_eq_true (by omega)
      go_enter Try.func15, Try.ntmps15
      go_wp2
      go_ret
      exact ⟨by rw [checkE_no hn]; rfl, rfl⟩
    · have k2 : decide ((32 : Int) < (s.size : Int)) = false := decide_eq_false (by omega)
      have hdoc := name_doc (s := s) (by omega) (by omega)
      have hp : 0 < s.size := by omega
      have hn0 := nums_at hp
      obtain ⟨c0, hc0⟩ : ∃ c0 : Int, (s[0].toNat : Int) = c0 := ⟨_, rfl⟩
      rw [hc0] at hn0
      rw [hn0] at hdoc
      have HN0 := Lib.hid hn0
      have HDoc := Lib.hid hdoc
      clear hdoc hn0
      by_cases h3 : c0 < 97
      · have hn : nameB s = false := by rw [HDoc.out, begB, decide_eq_false (show ¬ 97 ≤ c0 by omega)]; rfl
        have k3 : decide ((s[0].toNat : Int) < 97) = true := by rw [hc0]; exact decide_eq_true h3
        have HN := Lib.hid hn
        clear hn hc0
        go_enter Try.func15, Try.ntmps15
        go_wp2
        go_ret
        exact ⟨by rw [checkE_no HN.out]; rfl, rfl⟩
      · by_cases h4 : 122 < c0
        · have hn : nameB s = false := by rw [HDoc.out, begB, decide_eq_false (show ¬ c0 ≤ 122 by omega), Bool.and_false]; rfl
          have k3 : decide ((s[0].toNat : Int) < 97) = false := decide_eq_false (by omega)
          have k4 : decide ((122 : Int) < (s[0].toNat : Int)) = true := decide_eq_true (by omega)
          have HN := Lib.hid hn
          clear hn hc0
          go_enter Try.func15, Try.ntmps15
          go_wp2
          go_ret
          exact ⟨by rw [checkE_no HN.out]; rfl, rfl⟩
        · have hb : begB c0 = true := by rw [begB, decide_eq_true (by omega), decide_eq_true (by omega)]; rfl
          have hall : nameB s = (nums s).all folB := by rw [HDoc.out, hb]; rfl
          have k3 : decide ((s[0].toNat : Int) < 97) = false := decide_eq_false (by omega)
          have k4 : decide ((122 : Int) < (s[0].toNat : Int)) = false := decide_eq_false (by omega)
          have HAll := Lib.hid hall
          clear hall hb hc0 HDoc HN0
          go_enter Try.func15, Try.ntmps15
          go_wp2
          go_loop [3, 4] (fun i u => ∃ k : Nat, k ≤ s.size ∧ i = .int .i64 k ∧ ((nums s).take k).all folB = true) (fun i u => s.size - (intOf i).toNat)
          case atStart => exact ⟨0, Nat.zero_le _, rfl, by simp⟩
          case round =>
            obtain ⟨k, hk, rfl, htk⟩ := hrel
            have HTK := Lib.hid htk
            clear htk
            by_cases hlt : k < s.size
            · have hnk := nums_at hlt
              have q0 : (0 : Int) ≤ (k : Int) := by omega
              have q1 : (k : Int) < (s.size : Int) := by omega
              have q2 : decide (k < s.size) = true := decide_eq_true hlt
              have HNK := Lib.hid hnk
              clear hnk
              rcases fol_cases (s[k].toNat : Int) with ⟨f0, f1, f2⟩ | ⟨f0, f1, f2, f3, f4, f5⟩ | ⟨f0, f1, f3, f4⟩ | ⟨f0, f1, f3, f4, f5⟩ | ⟨f0, f1, f3, f4, f5⟩ | ⟨f0, f1, f3, f5⟩
              · have HF := Lib.hid f0
                clear f0
                go_wp2
                exact ⟨⟨k + 1, by omega, by go_num, all_take (by rw [nums_len]; exact hlt) HTK.out (by rw [HNK.out]; exact HF.out)⟩, by simp [intOf]; omega⟩
              · have HF := Lib.hid f0
                clear f0
                go_wp2
                go_ret
                have hbad : nameB s = false := by rw [HAll.out]; exact all_bad (k := k) (by rw [nums_len]; exact hlt) (by rw [HNK.out]; exact HF.out)
                exact ⟨by rw [checkE_no hbad]; rfl, rfl⟩
              · have HF := Lib.hid f0
                clear f0
                go_wp2
                exact ⟨⟨k + 1, by omega, by go_num, all_take (by rw [nums_len]; exact hlt) HTK.out (by rw [HNK.out]; exact HF.out)⟩, by simp [intOf]; omega⟩
              · have HF := Lib.hid f0
                clear f0
                go_wp2
                exact ⟨⟨k + 1, by omega, by go_num, all_take (by rw [nums_len]; exact hlt) HTK.out (by rw [HNK.out]; exact HF.out)⟩, by simp [intOf]; omega⟩
              · have HF := Lib.hid f0
                clear f0
                go_wp2
                go_ret
                have hbad : nameB s = false := by rw [HAll.out]; exact all_bad (k := k) (by rw [nums_len]; exact hlt) (by rw [HNK.out]; exact HF.out)
                exact ⟨by rw [checkE_no hbad]; rfl, rfl⟩
              · have HF := Lib.hid f0
                clear f0
                go_wp2
                go_ret
                have hbad : nameB s = false := by rw [HAll.out]; exact all_bad (k := k) (by rw [nums_len]; exact hlt) (by rw [HNK.out]; exact HF.out)
                exact ⟨by rw [checkE_no hbad]; rfl, rfl⟩
            · have q2 : decide (k < s.size) = false := decide_eq_false hlt
              have hkk : (nums s).take k = nums s := List.take_of_length_le (by rw [nums_len]; omega)
              have HKK := Lib.hid hkk
              clear hkk
              go_wp2
              go_ret
              have hy : nameB s = true := by rw [HAll.out, ← HKK.out]; exact HTK.out
              exact ⟨by rw [checkE_yes hy]; rfl, rfl⟩
end Go.Proofs.Ytdjmpmogmkiegaa
