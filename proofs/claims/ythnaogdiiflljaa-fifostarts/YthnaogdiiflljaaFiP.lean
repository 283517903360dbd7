/- FifoStarts. (Written by wip/tools/gen_fip.py.) -/
import Derived.Test.YthnaogdiiflljaaFiI
import Derived.Test.YthnaogdiiflljaaMaP
namespace Go.Proofs.Ythnaogdiiflljaa
open Go.RowKit Go.Maps
set_option linter.unusedVariables false
set_option linter.unusedSimpArgs false

theorem starts_iff {l m : List Int} : startsB l m = true ↔ m.length ≤ l.length ∧ l.take m.length = m := by
  unfold startsB; simp
theorem starts_false {l m : List Int} {P : Prop} (h : startsB l m = true → False) : startsB l m = false := by
  cases e : startsB l m with
  | false => rfl
  | true => exact (h e).elim
theorem starts_take (l : List Int) (k : Nat) (hk : k ≤ l.length) : startsB l (l.take k) = true := by
  rw [starts_iff, List.length_take, Nat.min_eq_left hk]; exact ⟨hk, rfl⟩
theorem starts_whole (l : List Int) (k : Nat) (hk : k = l.length) : startsB (l.take k) l = true := by
  subst hk; rw [List.take_length, starts_iff, List.take_length]; exact ⟨Nat.le_refl _, rfl⟩
theorem starts_part (l : List Int) (k : Nat) (hk : k < l.length) : startsB (l.take k) l = false := by
  refine starts_false (P := True) (fun e => ?_)
  have := (starts_iff.1 e).1
  rw [List.length_take] at this; omega
theorem starts_other {l o : List Int} {k : Nat} (h : startsB l o = true) (hk : k ≤ o.length) : startsB o (l.take k) = true := by
  obtain ⟨h1, h2⟩ := starts_iff.1 h
  rw [starts_iff, List.length_take, Nat.min_eq_left (by omega)]
  refine ⟨hk, ?_⟩
  rw [← h2, List.take_take, Nat.min_eq_left hk]
theorem starts_other_no {l o : List Int} {k : Nat} (hk : o.length < k) (hl : k ≤ l.length) : startsB o (l.take k) = false := by
  refine starts_false (P := True) (fun e => ?_)
  have := (starts_iff.1 e).1
  rw [List.length_take] at this; omega
theorem starts_longer {l o : List Int} {k : Nat} (h : startsB l o = true) (hk : o.length < k) (hl : k ≤ l.length) : startsB (l.take k) o = true := by
  obtain ⟨h1, h2⟩ := starts_iff.1 h
  rw [starts_iff, List.length_take, List.take_take, Nat.min_eq_left (by omega), Nat.min_eq_left (by omega)]
  exact ⟨by omega, h2⟩
theorem starts_differ {l o : List Int} (h : startsB l o = false) (hl : o.length ≤ l.length) : (l.take o.length == o) = false := by
  unfold startsB at h
  rw [decide_eq_true hl, Bool.true_and] at h
  exact h
theorem starts_alike {l o : List Int} (h : startsB l o = true) : (l.take o.length == o) = true := by
  rw [(starts_iff.1 h).2]; simp
theorem starts_at {A B : Option Addr} {c d : Nat} {l m : List Int} {a b : Nat} {r : Bool} {w : World} (hl : l.length = a) (hm : m.length = b) (hr : startsB l m = r) (hA : Ints w A l) (hB : Ints w B m) (hc : a ≤ c) (h1 : a ≤ 1000) (h2 : b ≤ 1000) :
    Calls Try.prog 17 #[.slice A a c, .slice B b d] w (Says (.bool r) w) := by
  subst hl hm hr
  exact starts_any A B c d l m w hA hB hc h1 h2
theorem same_at {A B : Option Addr} {c d : Nat} {l m : List Int} {a b : Nat} {r : Bool} {w : World} (hl : l.length = a) (hm : m.length = b) (hr : (l == m) = r) (hA : Ints w A l) (hB : Ints w B m) (h1 : a ≤ 1000) :
    Calls Try.prog 16 #[.slice A a c, .slice B b d] w (Says (.bool r) w) := by
  subst hl hm hr
  exact sameints_any A B c d l m w hA hB h1

set_option maxRecDepth 100000 in
set_option maxHeartbeats 4000000 in
theorem fstarts_law (A : Option Addr) (c : Nat) (l : List Int) (x : Int) (B : Option Addr) (d : Nat) (o : List Int) (w : World) (hA : Ints w A l) (hx1 : -9223372036854775808 ≤ x) (hx2 : x ≤ 9223372036854775807) (hB : Ints w B o) (hfl : l.length ≤ c) (hcm : c ≤ maxLen) (hfo : o.length ≤ d) (hdm : d ≤ maxLen) :
    Calls Try.prog 7 #[.slice A l.length c, .int .i64 x, .slice B o.length d] w (Yes w) := by
  unfold maxLen at hcm hdm
  by_cases hl : 60 < l.length
  · go_enter Try.func7, Try.ntmps7
    go_wp2_with fail
    refine (known_all _).mono ?_
    rintro e w1 ⟨rfl, hB1⟩
    go_wp2
    go_ret
    exact ⟨rfl, hB1⟩
  by_cases hl2 : 60 < o.length
  · go_enter Try.func7, Try.ntmps7
    go_wp2_with fail
    refine (known_all _).mono ?_
    rintro e w1 ⟨rfl, hB1⟩
    go_wp2
    go_ret
    exact ⟨rfl, hB1⟩
  · have HA := Lib.hid hA
    have HB := Lib.hid hB
    obtain ⟨p1, p2⟩ := pick_bd x ((l.length + 1 : Nat) : Int) (by omega)
    have HPK := fun W => pick_any x (l.length + 1) W hx1 hx2 (by omega) (by omega)
    obtain ⟨k, hk⟩ : ∃ k : Nat, pick x ((l.length + 1 : Nat) : Int) = (k : Int) := ⟨(pick x ((l.length + 1 : Nat) : Int)).toNat, by omega⟩
    rw [hk] at HPK p2
    rw [show ((l.length + 1 : Nat) : Int) = (l.length : Int) + 1 by omega] at HPK
    have hkl : k ≤ l.length := by omega
    have hkc : (k : Int) ≤ (c : Int) := by omega
    have hk0 : (0 : Int) ≤ (k : Int) := by omega
    have HTL : Hid ((l.take k).length = k) := Lib.hid (by rw [List.length_take, Nat.min_eq_left hkl])
    have HT1 := Lib.hid (starts_take l k hkl)
    clear hA hB p1 p2 hk
    obtain ⟨n, hn⟩ : ∃ n, n = l.length := ⟨_, rfl⟩
    obtain ⟨m, hm⟩ : ∃ m, m = o.length := ⟨_, rfl⟩
    have HN := Lib.hid hn
    have HM := Lib.hid hm
    rw [← hn] at hl hfl HPK hkl ⊢
    rw [← hm] at hl2 hfo ⊢
    clear hn hm
    have b1 : n ≤ 60 := by omega
    have b2 : m ≤ 60 := by omega
    by_cases hkn : k = n
    · have HT2 := Lib.hid (starts_whole l k (by rw [hkn, HN.out]))
      have e3 : ((k : Int) == (n : Int)) = true := by rw [hkn]; simp
      have HKN := Lib.hid hkn
      clear hkn
      cases hs : startsB l o with
      | true =>
        have HT3 := Lib.hid hs
        have hol : m ≤ n := by rw [HM.out, HN.out]; exact (starts_iff.1 hs).1
        have HOL : Hid ((l.take o.length).length = m) := Lib.hid (by rw [List.length_take, ← HM.out, ← HN.out]; omega)
        have HT4 := Lib.hid (starts_alike hs)
        have e4 : decide ((m : Int) > (n : Int)) = false := decide_eq_false (by omega)
        have e5 : decide ((n : Int) < (m : Int)) = false := decide_eq_false (by omega)
        have e6 : (m : Int) ≤ (c : Int) := by omega
        by_cases hko : k ≤ m
        · have HT5 := Lib.hid (starts_other hs (show k ≤ o.length by rw [← HM.out]; exact hko))
          have e7 : decide ((k : Int) ≤ (m : Int)) = true := decide_eq_true (by omega)
          clear hs
          go_enter Try.func7, Try.ntmps7
          go_wp2_with fail
          refine (known_all _).mono ?_
          rintro e w1 ⟨rfl, hB1⟩
          go_wp2_with fail
          refine (HPK _).mono ?_
          rintro e w2 ⟨rfl, hw2⟩
          subst hw2
          go_wp2_with fail
          refine (starts_at HN.out.symm HTL.out HT1.out (HA.out.below hB1) ((ints_take HA.out k).below hB1) hfl (by omega) (by omega)).mono ?_
          rintro e w3 ⟨rfl, hB3'⟩
          have hB3 := onto hB1 hB3'
          go_wp2_with fail
          refine (starts_at HTL.out HN.out.symm HT2.out ((ints_take HA.out k).below hB3) (HA.out.below hB3) (by omega) (by omega) (by omega)).mono ?_
          rintro e w4 ⟨rfl, hB4'⟩
          have hB4 := onto hB3 hB4'
          go_wp2_with fail
          refine (starts_at HN.out.symm HM.out.symm HT3.out (HA.out.below hB4) (HB.out.below hB4) hfl (by omega) (by omega)).mono ?_
          rintro e w5 ⟨rfl, hB5'⟩
          have hB5 := onto hB4 hB5'
          go_wp2_with fail
          refine (same_at HOL.out HM.out.symm HT4.out ((ints_take HA.out o.length).below hB5) (HB.out.below hB5) (by omega)).mono ?_
          rintro e w6 ⟨rfl, hB6'⟩
          have hB6 := onto hB5 hB6'
          go_wp2_with fail
          refine (starts_at HM.out.symm HTL.out HT5.out (HB.out.below hB6) ((ints_take HA.out k).below hB6) hfo (by omega) (by omega)).mono ?_
          rintro e w7 ⟨rfl, hB7'⟩
          have hB7 := onto hB6 hB7'
          go_wp2
          go_ret
          exact ⟨rfl, hB7⟩
        · have HT5 := Lib.hid (starts_other_no (l := l) (show o.length < k by rw [← HM.out]; omega) (by rw [← HN.out]; omega))
          have HT6 := Lib.hid (starts_longer hs (show o.length < k by rw [← HM.out]; omega) (by rw [← HN.out]; omega))
          have e7 : decide ((k : Int) ≤ (m : Int)) = false := decide_eq_false (by omega)
          clear hs
          go_enter Try.func7, Try.ntmps7
          go_wp2_with fail
          refine (known_all _).mono ?_
          rintro e w1 ⟨rfl, hB1⟩
          go_wp2_with fail
          refine (HPK _).mono ?_
          rintro e w2 ⟨rfl, hw2⟩
          subst hw2
          go_wp2_with fail
          refine (starts_at HN.out.symm HTL.out HT1.out (HA.out.below hB1) ((ints_take HA.out k).below hB1) hfl (by omega) (by omega)).mono ?_
          rintro e w3 ⟨rfl, hB3'⟩
          have hB3 := onto hB1 hB3'
          go_wp2_with fail
          refine (starts_at HTL.out HN.out.symm HT2.out ((ints_take HA.out k).below hB3) (HA.out.below hB3) (by omega) (by omega) (by omega)).mono ?_
          rintro e w4 ⟨rfl, hB4'⟩
          have hB4 := onto hB3 hB4'
          go_wp2_with fail
          refine (starts_at HN.out.symm HM.out.symm HT3.out (HA.out.below hB4) (HB.out.below hB4) hfl (by omega) (by omega)).mono ?_
          rintro e w5 ⟨rfl, hB5'⟩
          have hB5 := onto hB4 hB5'
          go_wp2_with fail
          refine (same_at HOL.out HM.out.symm HT4.out ((ints_take HA.out o.length).below hB5) (HB.out.below hB5) (by omega)).mono ?_
          rintro e w6 ⟨rfl, hB6'⟩
          have hB6 := onto hB5 hB6'
          go_wp2_with fail
          refine (starts_at HM.out.symm HTL.out HT5.out (HB.out.below hB6) ((ints_take HA.out k).below hB6) hfo (by omega) (by omega)).mono ?_
          rintro e w7 ⟨rfl, hB7'⟩
          have hB7 := onto hB6 hB7'
          go_wp2_with fail
          refine (starts_at HTL.out HM.out.symm HT6.out ((ints_take HA.out k).below hB7) (HB.out.below hB7) (by omega) (by omega) (by omega)).mono ?_
          rintro e w8 ⟨rfl, hB8'⟩
          have hB8 := onto hB7 hB8'
          go_wp2
          go_ret
          exact ⟨rfl, hB8⟩
      | false =>
        have HT3 := Lib.hid hs
        by_cases hol : m ≤ n
        · have HOL : Hid ((l.take o.length).length = m) := Lib.hid (by rw [List.length_take, ← HM.out, ← HN.out]; omega)
          have HT4 := Lib.hid (starts_differ hs (by rw [← HM.out, ← HN.out]; exact hol))
          have e4 : decide ((m : Int) > (n : Int)) = false := decide_eq_false (by omega)
          have e5 : decide ((n : Int) < (m : Int)) = false := decide_eq_false (by omega)
          have e6 : (m : Int) ≤ (c : Int) := by omega
          clear hs
          go_enter Try.func7, Try.ntmps7
          go_wp2_with fail
          refine (known_all _).mono ?_
          rintro e w1 ⟨rfl, hB1⟩
          go_wp2_with fail
          refine (HPK _).mono ?_
          rintro e w2 ⟨rfl, hw2⟩
          subst hw2
          go_wp2_with fail
          refine (starts_at HN.out.symm HTL.out HT1.out (HA.out.below hB1) ((ints_take HA.out k).below hB1) hfl (by omega) (by omega)).mono ?_
          rintro e w3 ⟨rfl, hB3'⟩
          have hB3 := onto hB1 hB3'
          go_wp2_with fail
          refine (starts_at HTL.out HN.out.symm HT2.out ((ints_take HA.out k).below hB3) (HA.out.below hB3) (by omega) (by omega) (by omega)).mono ?_
          rintro e w4 ⟨rfl, hB4'⟩
          have hB4 := onto hB3 hB4'
          go_wp2_with fail
          refine (starts_at HN.out.symm HM.out.symm HT3.out (HA.out.below hB4) (HB.out.below hB4) hfl (by omega) (by omega)).mono ?_
          rintro e w5 ⟨rfl, hB5'⟩
          have hB5 := onto hB4 hB5'
          go_wp2_with fail
          refine (same_at HOL.out HM.out.symm HT4.out ((ints_take HA.out o.length).below hB5) (HB.out.below hB5) (by omega)).mono ?_
          rintro e w6 ⟨rfl, hB6'⟩
          have hB6 := onto hB5 hB6'
          go_wp2
          go_ret
          exact ⟨rfl, hB6⟩
        · have e4 : decide ((m : Int) > (n : Int)) = true := decide_eq_true (by omega)
          have e5 : decide ((n : Int) < (m : Int)) = true := decide_eq_true (by omega)
          clear hs
          go_enter Try.func7, Try.ntmps7
          go_wp2_with fail
          refine (known_all _).mono ?_
          rintro e w1 ⟨rfl, hB1⟩
          go_wp2_with fail
          refine (HPK _).mono ?_
          rintro e w2 ⟨rfl, hw2⟩
          subst hw2
          go_wp2_with fail
          refine (starts_at HN.out.symm HTL.out HT1.out (HA.out.below hB1) ((ints_take HA.out k).below hB1) hfl (by omega) (by omega)).mono ?_
          rintro e w3 ⟨rfl, hB3'⟩
          have hB3 := onto hB1 hB3'
          go_wp2_with fail
          refine (starts_at HTL.out HN.out.symm HT2.out ((ints_take HA.out k).below hB3) (HA.out.below hB3) (by omega) (by omega) (by omega)).mono ?_
          rintro e w4 ⟨rfl, hB4'⟩
          have hB4 := onto hB3 hB4'
          go_wp2_with fail
          refine (starts_at HN.out.symm HM.out.symm HT3.out (HA.out.below hB4) (HB.out.below hB4) hfl (by omega) (by omega)).mono ?_
          rintro e w5 ⟨rfl, hB5'⟩
          have hB5 := onto hB4 hB5'
          go_wp2
          go_ret
          exact ⟨rfl, hB5⟩
    · have HT2 := Lib.hid (starts_part l k (by rw [← HN.out]; omega))
      have e3 : ((k : Int) == (n : Int)) = false := by simp; omega
      cases hs : startsB l o with
      | true =>
        have HT3 := Lib.hid hs
        have hol : m ≤ n := by rw [HM.out, HN.out]; exact (starts_iff.1 hs).1
        have HOL : Hid ((l.take o.length).length = m) := Lib.hid (by rw [List.length_take, ← HM.out, ← HN.out]; omega)
        have HT4 := Lib.hid (starts_alike hs)
        have e4 : decide ((m : Int) > (n : Int)) = false := decide_eq_false (by omega)
        have e5 : decide ((n : Int) < (m : Int)) = false := decide_eq_false (by omega)
        have e6 : (m : Int) ≤ (c : Int) := by omega
        by_cases hko : k ≤ m
        · have HT5 := Lib.hid (starts_other hs (show k ≤ o.length by rw [← HM.out]; exact hko))
          have e7 : decide ((k : Int) ≤ (m : Int)) = true := decide_eq_true (by omega)
          clear hs
          go_enter Try.func7, Try.ntmps7
          go_wp2_with fail
          refine (known_all _).mono ?_
          rintro e w1 ⟨rfl, hB1⟩
          go_wp2_with fail
          refine (HPK _).mono ?_
          rintro e w2 ⟨rfl, hw2⟩
          subst hw2
          go_wp2_with fail
          refine (starts_at HN.out.symm HTL.out HT1.out (HA.out.below hB1) ((ints_take HA.out k).below hB1) hfl (by omega) (by omega)).mono ?_
          rintro e w3 ⟨rfl, hB3'⟩
          have hB3 := onto hB1 hB3'
          go_wp2_with fail
          refine (starts_at HTL.out HN.out.symm HT2.out ((ints_take HA.out k).below hB3) (HA.out.below hB3) (by omega) (by omega) (by omega)).mono ?_
          rintro e w4 ⟨rfl, hB4'⟩
          have hB4 := onto hB3 hB4'
          go_wp2_with fail
          refine (starts_at HN.out.symm HM.out.symm HT3.out (HA.out.below hB4) (HB.out.below hB4) hfl (by omega) (by omega)).mono ?_
          rintro e w5 ⟨rfl, hB5'⟩
          have hB5 := onto hB4 hB5'
          go_wp2_with fail
          refine (same_at HOL.out HM.out.symm HT4.out ((ints_take HA.out o.length).below hB5) (HB.out.below hB5) (by omega)).mono ?_
          rintro e w6 ⟨rfl, hB6'⟩
          have hB6 := onto hB5 hB6'
          go_wp2_with fail
          refine (starts_at HM.out.symm HTL.out HT5.out (HB.out.below hB6) ((ints_take HA.out k).below hB6) hfo (by omega) (by omega)).mono ?_
          rintro e w7 ⟨rfl, hB7'⟩
          have hB7 := onto hB6 hB7'
          go_wp2
          go_ret
          exact ⟨rfl, hB7⟩
        · have HT5 := Lib.hid (starts_other_no (l := l) (show o.length < k by rw [← HM.out]; omega) (by rw [← HN.out]; omega))
          have HT6 := Lib.hid (starts_longer hs (show o.length < k by rw [← HM.out]; omega) (by rw [← HN.out]; omega))
          have e7 : decide ((k : Int) ≤ (m : Int)) = false := decide_eq_false (by omega)
          clear hs
          go_enter Try.func7, Try.ntmps7
          go_wp2_with fail
          refine (known_all _).mono ?_
          rintro e w1 ⟨rfl, hB1⟩
          go_wp2_with fail
          refine (HPK _).mono ?_
          rintro e w2 ⟨rfl, hw2⟩
          subst hw2
          go_wp2_with fail
          refine (starts_at HN.out.symm HTL.out HT1.out (HA.out.below hB1) ((ints_take HA.out k).below hB1) hfl (by omega) (by omega)).mono ?_
          rintro e w3 ⟨rfl, hB3'⟩
          have hB3 := onto hB1 hB3'
          go_wp2_with fail
          refine (starts_at HTL.out HN.out.symm HT2.out ((ints_take HA.out k).below hB3) (HA.out.below hB3) (by omega) (by omega) (by omega)).mono ?_
          rintro e w4 ⟨rfl, hB4'⟩
          have hB4 := onto hB3 hB4'
          go_wp2_with fail
          refine (starts_at HN.out.symm HM.out.symm HT3.out (HA.out.below hB4) (HB.out.below hB4) hfl (by omega) (by omega)).mono ?_
          rintro e w5 ⟨rfl, hB5'⟩
          have hB5 := onto hB4 hB5'
          go_wp2_with fail
          refine (same_at HOL.out HM.out.symm HT4.out ((ints_take HA.out o.length).below hB5) (HB.out.below hB5) (by omega)).mono ?_
          rintro e w6 ⟨rfl, hB6'⟩
          have hB6 := onto hB5 hB6'
          go_wp2_with fail
          refine (starts_at HM.out.symm HTL.out HT5.out (HB.out.below hB6) ((ints_take HA.out k).below hB6) hfo (by omega) (by omega)).mono ?_
          rintro e w7 ⟨rfl, hB7'⟩
          have hB7 := onto hB6 hB7'
          go_wp2_with fail
          refine (starts_at HTL.out HM.out.symm HT6.out ((ints_take HA.out k).below hB7) (HB.out.below hB7) (by omega) (by omega) (by omega)).mono ?_
          rintro e w8 ⟨rfl, hB8'⟩
          have hB8 := onto hB7 hB8'
          go_wp2
          go_ret
          exact ⟨rfl, hB8⟩
      | false =>
        have HT3 := Lib.hid hs
        by_cases hol : m ≤ n
        · have HOL : Hid ((l.take o.length).length = m) := Lib.hid (by rw [List.length_take, ← HM.out, ← HN.out]; omega)
          have HT4 := Lib.hid (starts_differ hs (by rw [← HM.out, ← HN.out]; exact hol))
          have e4 : decide ((m : Int) > (n : Int)) = false := decide_eq_false (by omega)
          have e5 : decide ((n : Int) < (m : Int)) = false := decide_eq_false (by omega)
          have e6 : (m : Int) ≤ (c : Int) := by omega
          clear hs
          go_enter Try.func7, Try.ntmps7
          go_wp2_with fail
          refine (known_all _).mono ?_
          rintro e w1 ⟨rfl, hB1⟩
          go_wp2_with fail
          refine (HPK _).mono ?_
          rintro e w2 ⟨rfl, hw2⟩
          subst hw2
          go_wp2_with fail
          refine (starts_at HN.out.symm HTL.out HT1.out (HA.out.below hB1) ((ints_take HA.out k).below hB1) hfl (by omega) (by omega)).mono ?_
          rintro e w3 ⟨rfl, hB3'⟩
          have hB3 := onto hB1 hB3'
          go_wp2_with fail
          refine (starts_at HTL.out HN.out.symm HT2.out ((ints_take HA.out k).below hB3) (HA.out.below hB3) (by omega) (by omega) (by omega)).mono ?_
          rintro e w4 ⟨rfl, hB4'⟩
          have hB4 := onto hB3 hB4'
          go_wp2_with fail
          refine (starts_at HN.out.symm HM.out.symm HT3.out (HA.out.below hB4) (HB.out.below hB4) hfl (by omega) (by omega)).mono ?_
          rintro e w5 ⟨rfl, hB5'⟩
          have hB5 := onto hB4 hB5'
          go_wp2_with fail
          refine (same_at HOL.out HM.out.symm HT4.out ((ints_take HA.out o.length).below hB5) (HB.out.below hB5) (by omega)).mono ?_
          rintro e w6 ⟨rfl, hB6'⟩
          have hB6 := onto hB5 hB6'
          go_wp2
          go_ret
          exact ⟨rfl, hB6⟩
        · have e4 : decide ((m : Int) > (n : Int)) = true := decide_eq_true (by omega)
          have e5 : decide ((n : Int) < (m : Int)) = true := decide_eq_true (by omega)
          clear hs
          go_enter Try.func7, Try.ntmps7
          go_wp2_with fail
          refine (known_all _).mono ?_
          rintro e w1 ⟨rfl, hB1⟩
          go_wp2_with fail
          refine (HPK _).mono ?_
          rintro e w2 ⟨rfl, hw2⟩
          subst hw2
          go_wp2_with fail
          refine (starts_at HN.out.symm HTL.out HT1.out (HA.out.below hB1) ((ints_take HA.out k).below hB1) hfl (by omega) (by omega)).mono ?_
          rintro e w3 ⟨rfl, hB3'⟩
          have hB3 := onto hB1 hB3'
          go_wp2_with fail
          refine (starts_at HTL.out HN.out.symm HT2.out ((ints_take HA.out k).below hB3) (HA.out.below hB3) (by omega) (by omega) (by omega)).mono ?_
          rintro e w4 ⟨rfl, hB4'⟩
          have hB4 := onto hB3 hB4'
          go_wp2_with fail
          refine (starts_at HN.out.symm HM.out.symm HT3.out (HA.out.below hB4) (HB.out.below hB4) hfl (by omega) (by omega)).mono ?_
          rintro e w5 ⟨rfl, hB5'⟩
          have hB5 := onto hB4 hB5'
          go_wp2
          go_ret
          exact ⟨rfl, hB5⟩
end Go.Proofs.Ythnaogdiiflljaa
