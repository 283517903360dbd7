/- awake; SetKnown. (Written by wip/tools/gen_seh.py.) -/
import Derived.Test.YtmhnnilfehankaaSeG
namespace Go.Proofs.Ytmhnnilfehankaa
open Go.RowKit Go.Maps
set_option linter.unusedVariables false

theorem finds_lit (l : List Int) (k : Nat) (x n : Int) (b : Bool) (hk : l.length = k) (h1 : l.length ≤ 1000) (hr : riseB 1 l = true) (hn : (low l x : Int) = n) (hb : isIn l x = b) (A : Option Addr) (c : Nat) (W : World) (hA : Ints W A l) :
    Calls Try.prog 24 #[.slice A k c, .int .i64 x, .int .i64 n, .bool b] W (Yes W) := by
  subst hk
  exact finds_yes A c l x n b W hA h1 ((rise_iff l).1 hr) hn hb
theorem applies_lit (l m : List Int) (k1 k2 : Nat) (kd a n : Int) (h1 : l.length = k1) (h2 : m.length = k2) (h3 : m.length ≤ 1000)
    (H : ∀ A c W, Ints W A l → l.length ≤ c → Calls Try.prog 10 #[stV 2 0 A l.length c, .int .i64 kd, .int .i64 a, .int .i64 0] W (SetPost 2 m 2 n 0 W)) (A B : Option Addr) (W : World) (hA : Ints W A l) (hB : Ints W B m) :
    Calls Try.prog 25 #[stV 2 0 A k1 k1, .int .i64 kd, .int .i64 a, stV 2 0 B k2 k2, .int .i64 n] W (Yes W) := by
  subst h1 h2
  exact applies_yes A B _ _ l m kd a n W hB h3 (fun W' h => H A _ W' (hA.below h) (Nat.le_refl _))
theorem refuses_lit (l : List Int) (k : Nat) (kd a er : Int) (h1 : l.length = k)
    (H : ∀ A c W, Ints W A l → Calls Try.prog 10 #[stV 2 0 A l.length c, .int .i64 kd, .int .i64 a, .int .i64 0] W (SetPost 0 [] 0 0 er W)) (A : Option Addr) (W : World) (hA : Ints W A l) :
    Calls Try.prog 27 #[stV 2 0 A k k, .int .i64 kd, .int .i64 a, .int .i64 er] W (Yes W) := by
  subst h1
  exact refuses_yes 2 0 A _ _ kd a er W (fun W' h => H A _ W' (hA.below h))
theorem with_lit (l m : List Int) (k : Nat) (x : Int) (h1 : l.length = k) (h2 : l.length ≤ 900) (hr : riseB 1 l = true) (hm : withL l x = m) (A : Option Addr) (W : World) (hA : Ints W A l) :
    Calls Try.prog 18 #[.slice A k k, .int .i64 x] W (CopyPost m W) := by
  subst h1 hm
  exact xwith_any A _ l x W hA h2 (Nat.le_refl _) ((rise_iff l).1 hr)
theorem without_lit (l m : List Int) (k : Nat) (x : Int) (h1 : l.length = k) (h2 : l.length ≤ 900) (hr : riseB 1 l = true) (hm : outL l x = m) (A : Option Addr) (W : World) (hA : Ints W A l) :
    Calls Try.prog 19 #[.slice A k k, .int .i64 x] W (CopyPost m W) := by
  subst h1 hm
  exact xwithout_any A _ l x W hA h2 (Nat.le_refl _) ((rise_iff l).1 hr)
theorem same_lit (l : List Int) (k : Nat) (h1 : l.length = k) (h2 : l.length ≤ 1000) (A B : Option Addr) (c d : Nat) (W : World) (hA : Ints W A l) (hB : Ints W B l) :
    Calls Try.prog 20 #[.slice A k c, .slice B k d] W (Yes W) := by
  subst h1
  have := sameints_any A B c d l l W hA hB h2
  rwa [show (l == l) = true by simp] at this
theorem copy_lit {l : List Int} {k : Nat} (h1 : l.length = k) {w w' : World} {e : Ending} (h : CopyPost l w e w') : ∃ g cap, e = .returned (.slice (some ⟨g, 0, none⟩) k cap) ∧ Ints w' (some ⟨g, 0, none⟩) l ∧ Below w.heap.size w w' := by
  subst h1
  obtain ⟨g, cap, h1, h2, h3⟩ := h
  exact ⟨g, cap, h1, ints_own rfl h2, h3⟩

set_option maxHeartbeats 2000000 in
theorem awake_yes (w : World) : Calls Try.prog 8 #[] w (Yes w) := by
  have P1 := finds_lit [1, 4, 9] 3 5 2 false rfl (by simp) (by decide) (by decide) (by decide)
  have P2 := applies_lit [1, 4] [1, 2, 4] 2 3 3 2 1 rfl rfl (by simp) (fun A c W h hc => by have := sapply_insert A c [1, 4] 2 W h (by simp) hc ((rise_iff _).1 (by decide)); rwa [show withL [1, 4] 2 = [1, 2, 4] by decide, show one (!isIn [1, 4] 2) = 1 by decide] at this)
  have P3 := applies_lit [1, 4] [4] 2 1 4 1 1 rfl rfl (by simp) (fun A c W h hc => by have := sapply_remove A c [1, 4] 1 W h (by simp) hc ((rise_iff _).1 (by decide)); rwa [show outL [1, 4] 1 = [4] by decide, show one (isIn [1, 4] 1) = 1 by decide] at this)
  have P4 := refuses_lit [4, 1] 2 6 0 12 rfl (fun A c W h => sapply_form 0 A c [4, 1] 6 0 0 W h (by simp) (fun e => absurd ((rise_iff _).2 e.2) (by decide)))
  go_enter Try.func8, Try.ntmps8
  go_wp2_with fail
  refine (P1 _ _ _ (ints_lit w [1, 4, 9] 3 _ rfl)).mono ?_
  rintro e w1 ⟨rfl, hB1⟩
  have hC1 := onto (alloc1 w (.cells #[.int .i64 1, .int .i64 4, .int .i64 9] 3)) hB1
  go_wp2_with fail
  refine (of_any _ _ _ _).mono ?_
  rintro e w2 ⟨rfl, hB2⟩
  have hC2 := onto (onto hC1 (alloc1 w1 (.cells #[.int .i64 1, .int .i64 4] 3))) hB2
  have I1 := Lib.hid ((ints_lit w1 [1, 4] 3 _ rfl).below hB2)
  go_wp2_with fail
  refine (of_any _ _ _ _).mono ?_
  rintro e w3 ⟨rfl, hB3⟩
  have hC3 := onto (onto hC2 (alloc1 w2 (.cells #[.int .i64 1, .int .i64 2, .int .i64 4] 3))) hB3
  replace I1 := Lib.hid (I1.out.below (onto (alloc1 w2 (.cells #[.int .i64 1, .int .i64 2, .int .i64 4] 3)) hB3))
  have I2 := Lib.hid ((ints_lit w2 [1, 2, 4] 3 _ rfl).below hB3)
  go_wp2_with fail
  refine (P2 (some ⟨w1.heap.size, 0, none⟩) (some ⟨w2.heap.size, 0, none⟩) _ I1.out I2.out).mono ?_
  rintro e w4 ⟨rfl, hB4⟩
  have hC4 := onto hC3 hB4
  replace I1 := Lib.hid (I1.out.below hB4)
  replace I2 := Lib.hid (I2.out.below hB4)
  clear I1 I2
  go_wp2_with fail
  refine (of_any _ _ _ _).mono ?_
  rintro e w5 ⟨rfl, hB5⟩
  have hC5 := onto (onto hC4 (alloc1 w4 (.cells #[.int .i64 1, .int .i64 4] 3))) hB5
  have I3 := Lib.hid ((ints_lit w4 [1, 4] 3 _ rfl).below hB5)
  go_wp2_with fail
  refine (of_any _ _ _ _).mono ?_
  rintro e w6 ⟨rfl, hB6⟩
  have hC6 := onto (onto hC5 (alloc1 w5 (.cells #[.int .i64 4] 3))) hB6
  replace I3 := Lib.hid (I3.out.below (onto (alloc1 w5 (.cells #[.int .i64 4] 3)) hB6))
  have I4 := Lib.hid ((ints_lit w5 [4] 3 _ rfl).below hB6)
  go_wp2_with fail
  refine (P3 (some ⟨w4.heap.size, 0, none⟩) (some ⟨w5.heap.size, 0, none⟩) _ I3.out I4.out).mono ?_
  rintro e w7 ⟨rfl, hB7⟩
  have hC7 := onto hC6 hB7
  replace I3 := Lib.hid (I3.out.below hB7)
  replace I4 := Lib.hid (I4.out.below hB7)
  clear I3 I4
  go_wp2_with fail
  refine (of_any _ _ _ _).mono ?_
  rintro e w8 ⟨rfl, hB8⟩
  have hC8 := onto (onto hC7 (alloc1 w7 (.cells #[.int .i64 4, .int .i64 1] 3))) hB8
  have I5 := Lib.hid ((ints_lit w7 [4, 1] 3 _ rfl).below hB8)
  go_wp2_with fail
  refine (P4 (some ⟨w7.heap.size, 0, none⟩) _ I5.out).mono ?_
  rintro e w9 ⟨rfl, hB9⟩
  have hC9 := onto hC8 hB9
  replace I5 := Lib.hid (I5.out.below hB9)
  clear I5
  go_wp2
  go_ret
  exact ⟨rfl, hC9⟩

set_option maxHeartbeats 2000000 in
theorem known_all (w : World) : Calls Try.prog 5 #[] w (Yes w) := by
  have P1 := finds_lit [1, 4, 9] 3 4 1 true rfl (by simp) (by decide) (by decide) (by decide)
  have P2 := finds_lit [] 0 5 0 false rfl (by simp) (by decide) (by decide) (by decide)
  have P3 := with_lit [1, 4] [1, 2, 4] 2 2 rfl (by simp) (by decide) (by decide)
  have P4 := without_lit [1, 4] [1] 2 4 rfl (by simp) (by decide) (by decide)
  have P5 := with_lit [1] [1] 1 1 rfl (by simp) (by decide) (by decide)
  have P6 := applies_lit [1, 4] [1, 4] 2 2 3 4 0 rfl rfl (by simp) (fun A c W h hc => by have := sapply_insert A c [1, 4] 4 W h (by simp) hc ((rise_iff _).1 (by decide)); rwa [show withL [1, 4] 4 = [1, 4] by decide, show one (!isIn [1, 4] 4) = 0 by decide] at this)
  have P7 := applies_lit [1, 4] [1, 4] 2 2 5 9 0 rfl rfl (by simp) (fun A c W h hc => by have := sapply_has A c [1, 4] 9 W h (by simp) ((rise_iff _).1 (by decide)); rwa [show one (isIn [1, 4] 9) = 0 by decide] at this)
  have P8 := applies_lit [1, 4] [1, 4] 2 2 6 0 2 rfl rfl (by simp) (fun A c W h hc => sapply_size A c [1, 4] W h (by simp) ((rise_iff _).1 (by decide)))
  have P9 := refuses_lit [1, 4] 2 10 1 6 rfl (fun A c W h => sapply_word2 A c [1, 4] 10 1 0 W h (by simp) ((rise_iff _).1 (by decide)) (by omega))
  have P10 := refuses_lit [1] 1 6 1 2 rfl (fun A c W h => sapply_arg2 A c [1] 1 W h (by simp) ((rise_iff _).1 (by decide)) (by omega))
  have P11 := fun W => refuses_yes 4 0 none 0 0 6 0 12 W (fun W' _ => sapply_state 4 0 none 0 [] 6 0 0 W' (by omega))
  go_enter Try.func5, Try.ntmps5
  go_wp2_with fail
  refine (P1 _ _ _ (ints_lit w [1, 4, 9] 3 _ rfl)).mono ?_
  rintro e w1 ⟨rfl, hB1⟩
  have hC1 := onto (alloc1 w (.cells #[.int .i64 1, .int .i64 4, .int .i64 9] 3)) hB1
  go_wp2_with fail
  refine (P2 _ _ _ (ints_nil _ _)).mono ?_
  rintro e w2 ⟨rfl, hB2⟩
  have hC2 := onto hC1 hB2
  go_wp2_with fail
  refine (P3 _ _ (ints_lit w2 [1, 4] 3 _ rfl)).mono ?_
  intro e w3 hcp
  obtain ⟨g3, c3, rfl, hi3, hB3⟩ := copy_lit (k := 3) rfl hcp
  clear hcp
  have hC3 := onto (onto hC2 (alloc1 w2 (.cells #[.int .i64 1, .int .i64 4] 3))) hB3
  have I3x := Lib.hid (hi3.below (alloc1 w3 (.cells #[.int .i64 1, .int .i64 2, .int .i64 4] 3)))
  clear hi3
  go_wp2_with fail
  refine (same_lit [1, 2, 4] 3 rfl (by simp) _ _ _ _ _ I3x.out (ints_lit w3 [1, 2, 4] 3 _ rfl)).mono ?_
  rintro e w4 ⟨rfl, hB4⟩
  have hC4 := onto (onto hC3 (alloc1 w3 (.cells #[.int .i64 1, .int .i64 2, .int .i64 4] 3))) hB4
  go_wp2_with fail
  refine (P4 _ _ (ints_lit w4 [1, 4] 3 _ rfl)).mono ?_
  intro e w5 hcp
  obtain ⟨g5, c5, rfl, hi5, hB5⟩ := copy_lit (k := 1) rfl hcp
  clear hcp
  have hC5 := onto (onto hC4 (alloc1 w4 (.cells #[.int .i64 1, .int .i64 4] 3))) hB5
  have I5x := Lib.hid (hi5.below (alloc1 w5 (.cells #[.int .i64 1] 3)))
  clear hi5
  go_wp2_with fail
  refine (same_lit [1] 1 rfl (by simp) _ _ _ _ _ I5x.out (ints_lit w5 [1] 3 _ rfl)).mono ?_
  rintro e w6 ⟨rfl, hB6⟩
  have hC6 := onto (onto hC5 (alloc1 w5 (.cells #[.int .i64 1] 3))) hB6
  go_wp2_with fail
  refine (P5 _ _ (ints_lit w6 [1] 3 _ rfl)).mono ?_
  intro e w7 hcp
  obtain ⟨g7, c7, rfl, hi7, hB7⟩ := copy_lit (k := 1) rfl hcp
  clear hcp
  have hC7 := onto (onto hC6 (alloc1 w6 (.cells #[.int .i64 1] 3))) hB7
  have I7x := Lib.hid (hi7.below (alloc1 w7 (.cells #[.int .i64 1] 3)))
  clear hi7
  go_wp2_with fail
  refine (same_lit [1] 1 rfl (by simp) _ _ _ _ _ I7x.out (ints_lit w7 [1] 3 _ rfl)).mono ?_
  rintro e w8 ⟨rfl, hB8⟩
  have hC8 := onto (onto hC7 (alloc1 w7 (.cells #[.int .i64 1] 3))) hB8
  go_wp2_with fail
  refine (of_any _ _ _ _).mono ?_
  rintro e w9 ⟨rfl, hB9⟩
  have hC9 := onto (onto hC8 (alloc1 w8 (.cells #[.int .i64 1, .int .i64 4] 3))) hB9
  have I1 := Lib.hid ((ints_lit w8 [1, 4] 3 _ rfl).below hB9)
  go_wp2_with fail
  refine (of_any _ _ _ _).mono ?_
  rintro e w10 ⟨rfl, hB10⟩
  have hC10 := onto (onto hC9 (alloc1 w9 (.cells #[.int .i64 1, .int .i64 4] 3))) hB10
  replace I1 := Lib.hid (I1.out.below (onto (alloc1 w9 (.cells #[.int .i64 1, .int .i64 4] 3)) hB10))
  have I2 := Lib.hid ((ints_lit w9 [1, 4] 3 _ rfl).below hB10)
  go_wp2_with fail
  refine (P6 (some ⟨w8.heap.size, 0, none⟩) (some ⟨w9.heap.size, 0, none⟩) _ I1.out I2.out).mono ?_
  rintro e w11 ⟨rfl, hB11⟩
  have hC11 := onto hC10 hB11
  replace I1 := Lib.hid (I1.out.below hB11)
  replace I2 := Lib.hid (I2.out.below hB11)
  clear I1 I2
  go_wp2_with fail
  refine (of_any _ _ _ _).mono ?_
  rintro e w12 ⟨rfl, hB12⟩
  have hC12 := onto (onto hC11 (alloc1 w11 (.cells #[.int .i64 1, .int .i64 4] 3))) hB12
  have I3 := Lib.hid ((ints_lit w11 [1, 4] 3 _ rfl).below hB12)
  go_wp2_with fail
  refine (of_any _ _ _ _).mono ?_
  rintro e w13 ⟨rfl, hB13⟩
  have hC13 := onto (onto hC12 (alloc1 w12 (.cells #[.int .i64 1, .int .i64 4] 3))) hB13
  replace I3 := Lib.hid (I3.out.below (onto (alloc1 w12 (.cells #[.int .i64 1, .int .i64 4] 3)) hB13))
  have I4 := Lib.hid ((ints_lit w12 [1, 4] 3 _ rfl).below hB13)
  go_wp2_with fail
  refine (P7 (some ⟨w11.heap.size, 0, none⟩) (some ⟨w12.heap.size, 0, none⟩) _ I3.out I4.out).mono ?_
  rintro e w14 ⟨rfl, hB14⟩
  have hC14 := onto hC13 hB14
  replace I3 := Lib.hid (I3.out.below hB14)
  replace I4 := Lib.hid (I4.out.below hB14)
  clear I3 I4
  go_wp2_with fail
  refine (of_any _ _ _ _).mono ?_
  rintro e w15 ⟨rfl, hB15⟩
  have hC15 := onto (onto hC14 (alloc1 w14 (.cells #[.int .i64 1, .int .i64 4] 3))) hB15
  have I5 := Lib.hid ((ints_lit w14 [1, 4] 3 _ rfl).below hB15)
  go_wp2_with fail
  refine (of_any _ _ _ _).mono ?_
  rintro e w16 ⟨rfl, hB16⟩
  have hC16 := onto (onto hC15 (alloc1 w15 (.cells #[.int .i64 1, .int .i64 4] 3))) hB16
  replace I5 := Lib.hid (I5.out.below (onto (alloc1 w15 (.cells #[.int .i64 1, .int .i64 4] 3)) hB16))
  have I6 := Lib.hid ((ints_lit w15 [1, 4] 3 _ rfl).below hB16)
  go_wp2_with fail
  refine (P8 (some ⟨w14.heap.size, 0, none⟩) (some ⟨w15.heap.size, 0, none⟩) _ I5.out I6.out).mono ?_
  rintro e w17 ⟨rfl, hB17⟩
  have hC17 := onto hC16 hB17
  replace I5 := Lib.hid (I5.out.below hB17)
  replace I6 := Lib.hid (I6.out.below hB17)
  clear I5 I6
  go_wp2_with fail
  refine (awake_yes _).mono ?_
  rintro e w18 ⟨rfl, hB18⟩
  have hC18 := onto hC17 hB18
  go_wp2_with fail
  refine (of_any _ _ _ _).mono ?_
  rintro e w19 ⟨rfl, hB19⟩
  have hC19 := onto (onto hC18 (alloc1 w18 (.cells #[.int .i64 1, .int .i64 4] 3))) hB19
  have I7 := Lib.hid ((ints_lit w18 [1, 4] 3 _ rfl).below hB19)
  go_wp2_with fail
  refine (P9 (some ⟨w18.heap.size, 0, none⟩) _ I7.out).mono ?_
  rintro e w20 ⟨rfl, hB20⟩
  have hC20 := onto hC19 hB20
  replace I7 := Lib.hid (I7.out.below hB20)
  clear I7
  go_wp2_with fail
  refine (of_any _ _ _ _).mono ?_
  rintro e w21 ⟨rfl, hB21⟩
  have hC21 := onto (onto hC20 (alloc1 w20 (.cells #[.int .i64 1] 3))) hB21
  have I8 := Lib.hid ((ints_lit w20 [1] 3 _ rfl).below hB21)
  go_wp2_with fail
  refine (P10 (some ⟨w20.heap.size, 0, none⟩) _ I8.out).mono ?_
  rintro e w22 ⟨rfl, hB22⟩
  have hC22 := onto hC21 hB22
  replace I8 := Lib.hid (I8.out.below hB22)
  clear I8
  unfold stV at P11
  go_wp2_with fail
  refine (P11 _).mono ?_
  rintro e w23 ⟨rfl, hB23⟩
  have hC23 := onto hC22 hB23
  go_wp2
  go_ret
  exact ⟨rfl, hC23⟩
end Go.Proofs.Ytmhnnilfehankaa
