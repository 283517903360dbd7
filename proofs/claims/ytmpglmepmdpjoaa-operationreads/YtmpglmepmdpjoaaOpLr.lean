/- OperationReads. -/
import Derived.Test.YtmpglmepmdpjoaaOpZ
namespace Go.Proofs.Ytmpglmepmdpjoaa
open Go.RowKit Go.Maps
set_option linter.unusedVariables false

theorem add_plain (b off j : Nat) : (⟨b, off, none⟩ : Addr).add j = ⟨b, off + j, none⟩ := by unfold Addr.add; split <;> simp_all
theorem same_self (a1 a2 a3 a4 a5 : Int) : sameOp a1 a2 a3 a4 a5 a1 a2 a3 a4 a5 = true := by simp [sameOp]

set_option maxRecDepth 100000 in
set_option maxHeartbeats 4000000 in
theorem reads_law (A : Option Addr) (c : Nat) (ss : List ByteArray) (w : World) (hA : Strs w.heap.size w A ss) (hnil : A = none → c = 0) (hm : ss.length ≤ 140737488351232) (hz : ∀ s ∈ ss, s.size ≤ 140737488351232) :
    Calls Try.prog 4 #[.slice A ss.length c] w (Yes w) := by
  have HZ := Lib.hid hz
  have HNil := Lib.hid hnil
  have HA := Lib.hid hA
  clear hz hA hnil
  go_enter Try.func4, Try.ntmps4
  go_wp2
  go_loop [3] (fun i => ∃ k : Nat, k ≤ ss.length ∧ k ≤ 11 ∧ i = .int .i64 k) (fun i => 11 - (intOf i).toNat)
  case atStart => exact ⟨0, Nat.zero_le _, by omega, rfl⟩
  case round =>
    obtain ⟨k, hk, hk11, rfl⟩ := hrel
    by_cases hlt : k < ss.length ∧ k < 11
    · obtain ⟨hlt, h11⟩ := hlt
      obtain ⟨b, off, rfl, hb, hc⟩ := HA.out (by omega)
      have hck := hc k hlt
      have hsz : (ss[k]?.getD ⟨#[]⟩).size ≤ 140737488351232 := by
        rw [List.getElem?_eq_getElem hlt]; exact HZ.out _ (List.getElem_mem hlt)
      obtain ⟨s, hs⟩ : ∃ s, ss[k]?.getD ⟨#[]⟩ = s := ⟨_, rfl⟩
      rw [hs] at hck hsz
      have q1 : decide (k < ss.length) = true := decide_eq_true hlt
      have q2 : decide ((k : Int) < 11) = true := decide_eq_true (by omega)
      have q3 : (0 : Int) ≤ (k : Int) := by omega
      have q4 : (k : Int) < (ss.length : Int) := by omega
      clear hs hc
      by_cases h60 : 60 < s.size
      · have d : decide ((60 : Int) < (s.size : Int)) = true := decide_eq_true (by omega)
        go_wp2_with fail
        refine (awake_yes _).mono ?_
        rintro e w1 ⟨rfl, hB1⟩
        go_wp2
        go_ret
        exact ⟨rfl, hB1⟩
      · have d : decide ((60 : Int) < (s.size : Int)) = false := decide_eq_false (by omega)
        go_wp2
        exact ⟨⟨k + 1, by omega, by omega, by go_num⟩, by simp [intOf]; omega⟩
    · by_cases h10 : 10 < ss.length
      · have h11 : ¬ k < 11 := by omega
        have hd1 : decide ((k : Int) < 11) = false := decide_eq_false (by omega)
        have hd2 : decide ((10 : Int) < (ss.length : Int)) = true := decide_eq_true (by omega)
        have hlt1 : decide (k < ss.length) = true ∨ decide (k < ss.length) = false := by cases decide (k < ss.length) <;> simp
        rcases hlt1 with hl1 | hl1
        all_goals
          go_wp2_with fail
          refine (awake_yes _).mono ?_
          rintro e w1 ⟨rfl, hB1⟩
          go_wp2
          go_ret
          exact ⟨rfl, hB1⟩
      · have hkl : ¬ k < ss.length := by omega
        have hl1 : decide (k < ss.length) = false := decide_eq_false hkl
        have hd2 : decide ((10 : Int) < (ss.length : Int)) = false := decide_eq_false (by omega)
        obtain ⟨i0, hi, hz0, hz1, hz2⟩ := info_parts info_str
        have hrow := World.ownsRow_lit (base := w.heap.size) (e := 9) (size := 1) w #[] 0 (Nat.le_refl _) (Nat.zero_le _) rfl
        have hzm : ∀ s ∈ ss, s.size ≤ maxLen := fun s hs => by have := HZ.out s hs; unfold maxLen; omega
        have HJ := Lib.hid (fun (A c W) (h : Strs (World.heap W).size W A ss) => read_any A c ss W h (by omega) hzm)
        have HR := Lib.hid (fun (A c W) (h : Strs (World.heap W).size W A ss) => rread_any A c ss W h (by omega) hzm)
        unfold resV opV at HJ HR
        generalize readP ss = rp at HJ HR
        obtain ⟨⟨r1, r2, r3, r4, r5⟩, rn, re⟩ := rp
        simp only at HJ HR
        have HE := fun W => eql_op W r1 r2 r3 r4 r5 r1 r2 r3 r4 r5
        rw [same_self] at HE
        clear hzm
        cases A with
        | none =>
          have e : ss = [] := List.eq_nil_of_length_eq_zero (by
            rcases Nat.eq_zero_or_pos ss.length with h | h
            · exact h
            · obtain ⟨b, off, e, _⟩ := HA.out h; cases e)
          subst e
          obtain rfl : c = 0 := HNil.out rfl
          have hB1 : Below w.heap.size w (w.alloc (.cells #[] 9)) := (Below.refl _ _).alloc (Nat.le_refl _) _
          go_wp2_with fail
          refine (HJ.out _ _ _ (strs_nil _ _ _)).mono ?_
          rintro e w2 ⟨rfl, hB2⟩
          replace hB2 := Below.next hB1 hB2 (Nat.le_refl _)
          have H5 := Holds.new w2 25 #[.int .i64 r1, .int .i64 r2, .int .i64 r3, .int .i64 r4, .int .i64 r5]
          go_wp2_with fail
          refine (HR.out _ _ _ (strs_nil _ _ _)).mono ?_
          rintro e w3 ⟨rfl, hB3⟩
          have H5' := (H5.below hB3 (by simp)).alloc (.cells #[.int .i64 r1, .int .i64 r2, .int .i64 r3, .int .i64 r4, .int .i64 r5] 25)
          have o0 := H5'.c (j := 0) rfl
          have o1 := H5'.c (j := 1) rfl
          have o2 := H5'.c (j := 2) rfl
          have o3 := H5'.c (j := 3) rfl
          have o4 := H5'.c (j := 4) rfl
          replace hB3 := Below.next (hB2.alloc hB2.size _) hB3 (Nat.le_refl _)
          clear H5 H5'
          go_wp2_with fail
          refine (texts_same _ _ _ _ [] _ 0 (strs_nil _ _ _) (strs_nil _ _ _) (by simp)).mono ?_
          rintro e w4 ⟨rfl, n4, rfl⟩
          go_wp2_with fail
          refine (awake_yes _).mono ?_
          rintro e w5 ⟨rfl, hB5⟩
          replace hB5 := Below.next (below_drewN (hB3.alloc hB3.size _) n4) hB5 (Nat.le_refl _)
          go_wp2
          go_ret
          exact ⟨rfl, hB5⟩
        | some ad =>
          have hsrc : ∀ j u, (texts ss)[j]? = some u → (w.alloc (.cells #[] 9)).cell? (ad.add j) = some u := by
            intro j u hu
            have hj : j < ss.length := by
              rcases Nat.lt_or_ge j ss.length with h | h
              · exact h
              · rw [List.getElem?_eq_none (by simp [texts]; omega)] at hu; cases hu
            obtain ⟨b, off, e, hb, hc⟩ := HA.out (by omega)
            injection e with e
            subst e
            rw [add_plain, World.cell?_alloc_lt _ _ _ hb, hc j hj]
            simp [texts, List.getElem?_eq_getElem hj] at hu ⊢
            exact hu
          have HS := Lib.hid hsrc
          have HRow := Lib.hid hrow
          clear hsrc hrow
          go_wp2_with (at_builtin; refine wpList_append_own_at _ rfl _ _ 36 rfl w.heap.size 9 i0 (.string ⟨#[]⟩) 1 16 Try.underlying36 hi hz0 hz1 hz2 rfl (by decide) _ _ _ rfl HRow.out ad ss.length c (texts ss) rfl (by simp [texts]) HS.out (by intro u hu; simp [texts] at hu; obtain ⟨x, _, rfl⟩ := hu; rfl) (by simp only [maxLen]; omega) (by omega) (by simp) ?_; intro v1 w1 hown1 hg1 hnil1 hat1; rw [Nat.zero_add, List.nil_append] at hown1; obtain ⟨A1, c1, rfl⟩ := row_one hown1)
          have HS1 := Lib.hid (strs_of_row hown1)
          have hB1 : Below w.heap.size w w1 := ((Below.refl _ w).alloc (Nat.le_refl _) _).grown hg1 (by simp) (fun k hk => by cases hk; exact Nat.le_refl _)
          have hs1 := hB1.size
          clear hown1 hnil1 hat1 hg1
          refine (HJ.out _ _ _ HS1.out).mono ?_
          rintro e w2 ⟨rfl, hB2⟩
          have HS2 := Lib.hid (HS1.out.below hB2)
          have hs2 := hB2.size
          replace hB2 := Below.next hB1 hB2 (Nat.le_refl _)
          have H5 := Holds.new w2 25 #[.int .i64 r1, .int .i64 r2, .int .i64 r3, .int .i64 r4, .int .i64 r5]
          have hBa := hB2.alloc hB2.size (.cells #[.int .i64 r1, .int .i64 r2, .int .i64 r3, .int .i64 r4, .int .i64 r5] 25)
          go_wp2_with fail
          refine (HR.out _ _ _ ((HA.out.below hBa).mono hBa.size)).mono ?_
          rintro e w3 ⟨rfl, hB3⟩
          have H5' := (H5.below hB3 (by simp)).alloc (.cells #[.int .i64 r1, .int .i64 r2, .int .i64 r3, .int .i64 r4, .int .i64 r5] 25)
          have o0 := H5'.c (j := 0) rfl
          have o1 := H5'.c (j := 1) rfl
          have o2 := H5'.c (j := 2) rfl
          have o3 := H5'.c (j := 3) rfl
          have o4 := H5'.c (j := 4) rfl
          have hB3s := hB3.size
          rw [World.size_alloc] at hB3s
          have HS3 := Lib.hid ((HS2.out.below ((Below.refl _ w2).alloc hs2 (.cells #[.int .i64 r1, .int .i64 r2, .int .i64 r3, .int .i64 r4, .int .i64 r5] 25))).below (hB3.mono (by simp; omega)))
          replace hB3 := Below.next hBa hB3 (Nat.le_refl _)
          have HS4 := Lib.hid (HS3.out.below ((Below.refl w1.heap.size w3).alloc (by omega) (.cells #[.int .i64 r1, .int .i64 r2, .int .i64 r3, .int .i64 r4, .int .i64 r5] 25)))
          have HA4 := Lib.hid ((HA.out.below (hB3.alloc hB3.size (.cells #[.int .i64 r1, .int .i64 r2, .int .i64 r3, .int .i64 r4, .int .i64 r5] 25))).mono hs1)
          clear H5 H5'
          go_wp2_with fail
          refine (texts_same _ _ _ _ ss _ w1.heap.size HS4.out HA4.out (by omega)).mono ?_
          rintro e w4 ⟨rfl, n4, rfl⟩
          go_wp2_with fail
          refine (awake_yes _).mono ?_
          rintro e w5 ⟨rfl, hB5⟩
          replace hB5 := Below.next (below_drewN (hB3.alloc hB3.size _) n4) hB5 (Nat.le_refl _)
          go_wp2
          go_ret
          exact ⟨rfl, hB5⟩
end Go.Proofs.Ytmpglmepmdpjoaa
