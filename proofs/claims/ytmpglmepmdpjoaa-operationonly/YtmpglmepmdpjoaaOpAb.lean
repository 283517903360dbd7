/- OperationOnly. -/
import Derived.Test.YtmpglmepmdpjoaaOpAa
namespace Go.Proofs.Ytmpglmepmdpjoaa
open Go.RowKit Go.Maps
set_option linter.unusedVariables false

theorem same_zero : sameOp 0 0 0 0 0 0 0 0 0 0 = true := by decide

set_option maxRecDepth 100000 in
set_option maxHeartbeats 4000000 in
theorem only_law (A : Option Addr) (c : Nat) (ss : List ByteArray) (w : World) (hA : Strs w.heap.size w A ss) (hnil : A = none → c = 0) (hm : ss.length ≤ 140737488351232) (hz : ∀ s ∈ ss, s.size ≤ 140737488351232) :
    Calls Try.prog 7 #[.slice A ss.length c] w (Yes w) := by
  have HZ := Lib.hid hz
  have HA := Lib.hid hA
  clear hz hA hnil
  go_enter Try.func7, Try.ntmps7
  go_wp2_with fail
  refine (known_yes _).mono ?_
  rintro e w0 ⟨rfl, hB0⟩
  go_wp2
  go_loop [4] (fun i => ∃ k : Nat, k ≤ ss.length ∧ k ≤ 11 ∧ i = .int .i64 k) (fun i => 11 - (intOf i).toNat)
  case atStart => exact ⟨0, Nat.zero_le _, by omega, rfl⟩
  case round =>
    obtain ⟨k, hk, hk11, rfl⟩ := hrel
    by_cases hlt : k < ss.length ∧ k < 11
    · obtain ⟨hlt, h11⟩ := hlt
      obtain ⟨b, off, rfl, hb, hc⟩ := HA.out.below hB0 (by omega)
      have hck := hc k hlt
      have hsz : (ss[k]?.getD ⟨#[]⟩).size ≤ 140737488351232 := by
        rw [List.getElem?_eq_getElem hlt]; exact HZ.out _ (List.getElem_mem hlt)
      obtain ⟨s, hs⟩ : ∃ s, ss[k]?.getD ⟨#[]⟩ = s := ⟨_, rfl⟩
      rw [hs] at hck hsz
      have q1 : decide (k < ss.length) = true := decide_eq_true hlt
      have q2 : decide ((k : Int) < 11) = true := decide_eq_true (by omega)
      have q3 : (0 : Int) ≤ (k : Int) := by omega
      have q4 : (k : Int) < (ss.length : Int) := by omega
      clear hs hc
      by_cases h60 : 60 < s.size
      · have d : decide ((60 : Int) < (s.size : Int)) = true := decide_eq_true (by omega)
        go_wp2
        go_ret
        exact ⟨rfl, hB0⟩
      · have d : decide ((60 : Int) < (s.size : Int)) = false := decide_eq_false (by omega)
        go_wp2
        exact ⟨⟨k + 1, by omega, by omega, by go_num⟩, by simp [intOf]; omega⟩
    · by_cases h10 : 10 < ss.length
      · have h11 : ¬ k < 11 := by omega
        have hd1 : decide ((k : Int) < 11) = false := decide_eq_false (by omega)
        have hd2 : decide ((10 : Int) < (ss.length : Int)) = true := decide_eq_true (by omega)
        have hlt1 : decide (k < ss.length) = true ∨ decide (k < ss.length) = false := by cases decide (k < ss.length) <;> simp
        rcases hlt1 with hl1 | hl1
        all_goals
          go_wp2
          go_ret
          exact ⟨rfl, hB0⟩
      · have hkl : ¬ k < ss.length := by omega
        have hl1 : decide (k < ss.length) = false := decide_eq_false hkl
        have hd2 : decide ((10 : Int) < (ss.length : Int)) = false := decide_eq_false (by omega)
        have hzm : ∀ s ∈ ss, s.size ≤ maxLen := fun s hs => by have := HZ.out s hs; unfold maxLen; omega
        have hAw := (HA.out.below hB0).mono hB0.size
        have HJ := Lib.hid (read_any A c ss w0 hAw (by omega) hzm)
        have HF := Lib.hid (read_fail ss)
        have HO := Lib.hid (read_only ss)
        unfold resV opV at HJ
        obtain ⟨rp, hrp⟩ : ∃ rp, readP ss = rp := ⟨_, rfl⟩
        rw [hrp] at HJ HF HO
        clear hrp hzm
        obtain ⟨⟨r1, r2, r3, r4, r5⟩, rn, re⟩ := rp
        simp only at HJ
        by_cases he : re = 0
        · obtain ⟨i, a, b, kk, n, hi, ha, hb, hn, hc0, hws, hrd⟩ := HO.out he
          have hszs := opW_szs i hi a b kk n
          have hJ := join_any A c ss w0 hAw (by omega) (by rw [hws]; omega)
          have hjs := opW_js i hi a b kk n
          have htt := text_told hi hc0
          unfold JoinPost at hJ
          rw [← hws] at hjs htt
          rw [hjs.1, hjs.2] at hJ
          obtain ⟨tx, htx⟩ : ∃ tx, strOfNums (jl ss) = tx := ⟨_, rfl⟩
          rw [htx] at hJ htt
          simp only [Prod.mk.injEq] at hrd
          obtain ⟨⟨rfl, rfl, rfl, rfl, rfl⟩, rfl, rfl⟩ := hrd
          have HT := fun W => tells_yes ((i : Int) + 1) r2 r3 r4 r5 tx W ha hb hn htt.2.2
          have HC := fun W => check_is ((i : Int) + 1) r2 r3 r4 r5 0 W htt.1
          have HJoin := Lib.hid (fun (W : World) (hB : Below w0.heap.size w0 W) => by
            have h := join_any A c ss W ((hAw.below hB).mono hB.size) (by omega) (by rw [hws]; omega)
            unfold JoinPost at h
            rw [hjs.1, hjs.2, htx] at h
            exact h)
          clear hJ hjs htt htx hws hszs HF HO
          obtain ⟨kd, hkd⟩ : ∃ kd, (i : Int) + 1 = kd := ⟨_, rfl⟩
          rw [hkd] at HJ HT HC
          clear hkd hc0
          go_wp2_with fail
          refine HJ.out.mono ?_
          rintro e w1 ⟨rfl, hB1⟩
          have hBa := hB1.alloc hB1.size (.cells #[.int .i64 kd, .int .i64 r2, .int .i64 r3, .int .i64 r4, .int .i64 r5] 25)
          have H1 := Holds.new w1 25 #[.int .i64 kd, .int .i64 r2, .int .i64 r3, .int .i64 r4, .int .i64 r5]
          go_wp2_with fail
          refine (HJoin.out _ hBa).mono ?_
          rintro e w2 ⟨rfl, hB2⟩
          have H2 := H1.below hB2 (by simp)
          have o0 := H2.c (j := 0) rfl
          have o1 := H2.c (j := 1) rfl
          have o2 := H2.c (j := 2) rfl
          have o3 := H2.c (j := 3) rfl
          have o4 := H2.c (j := 4) rfl
          have hB02 : Below w.heap.size w w2 := nxt (nxt hB0 hBa hB0.size) hB2 (Nat.le_trans hB0.size hBa.size)
          go_wp2_with fail
          refine (HC _).mono ?_
          rintro e w3 ⟨rfl, hB3⟩
          have H3 := H2.below hB3 H2.lt
          clear o0 o1 o2 o3 o4
          have o0 := H3.c (j := 0) rfl
          have o1 := H3.c (j := 1) rfl
          have o2 := H3.c (j := 2) rfl
          have o3 := H3.c (j := 3) rfl
          have o4 := H3.c (j := 4) rfl
          have hB03 := nxt hB02 hB3 hB02.size
          go_wp2_with fail
          refine (HT _).mono ?_
          rintro e w4 ⟨rfl, hB4⟩
          go_wp2
          go_ret
          exact ⟨rfl, nxt hB03 hB4 hB03.size⟩
        · obtain ⟨h1, h2, h3⟩ := HF.out he
          simp only [Prod.mk.injEq] at h1
          obtain ⟨rfl, rfl, rfl, rfl, rfl⟩ := h1
          have h2' : (0 : Int) ≤ rn := h2
          have h3' : rn ≤ (ss.length : Int) := h3
          have HE := fun W => eql_op W 0 0 0 0 0 0 0 0 0 0
          rw [same_zero] at HE
          have n1 : (re != 0) = true := by rw [bne_iff_ne]; exact he
          have n2 : decide ((0 : Int) ≤ rn) = true := decide_eq_true h2'
          have n3 : decide (rn ≤ (ss.length : Int)) = true := decide_eq_true h3'
          clear h2 h3 HO HF
          go_wp2_with fail
          refine HJ.out.mono ?_
          rintro e w1 ⟨rfl, hB1⟩
          go_wp2
          go_ret
          exact ⟨rfl, nxt hB0 (hB1.alloc hB1.size _) hB0.size⟩
end Go.Proofs.Ytmpglmepmdpjoaa
