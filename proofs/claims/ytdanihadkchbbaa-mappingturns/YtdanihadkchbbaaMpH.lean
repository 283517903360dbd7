/- awake; MappingKnown. (Written by wip/tools/gen_mph.py.) -/
import Derived.Test.YtdanihadkchbbaaMpG
namespace Go.Proofs.Ytdanihadkchbbaa
open Go.RowKit Go.Maps
set_option linter.unusedVariables false
set_option linter.unusedSimpArgs false

theorem find_lit (l : List Int) (k : Nat) (x v : Int) (b : Bool) (hk : l.length = k) (h1 : l.length ≤ 1000) (hv : kval l x = v) (hb : khas l x = b) (A : Option Addr) (W : World) (hA : Ints W A l) :
    Calls Try.prog 11 #[.slice A k k, .int .i64 x] W (Says (.tuple #[.int .i64 v, .bool b]) W) := by
  subst hk hv hb
  exact mfind_any A _ l x W hA h1 (Nat.le_refl _)
theorem does_lit (l m : List Int) (k1 k2 : Nat) (kd a b k n : Int) (h1 : l.length = k1) (h2 : m.length = k2) (h3 : m.length ≤ 1000)
    (H : ∀ A c W, Ints W A l → l.length ≤ c → Calls Try.prog 20 #[stV 3 0 A l.length c, .int .i64 kd, .int .i64 a, .int .i64 b] W (SetPost 3 m k n 0 W)) (A B : Option Addr) (W : World) (hA : Ints W A l) (hB : Ints W B m) :
    Calls Try.prog 24 #[stV 3 0 A k1 k1, .int .i64 kd, .int .i64 a, .int .i64 b, retV k n, .slice B k2 k2] W (Yes W) := by
  subst h1 h2
  exact does_yes A B _ _ l m kd a b k n W hB h3 (fun W' h => H A _ W' (hA.below h) (Nat.le_refl _))
theorem fails_lit (l : List Int) (k : Nat) (kd a b er : Int) (h1 : l.length = k)
    (H : ∀ A c W, Ints W A l → Calls Try.prog 20 #[stV 3 0 A l.length c, .int .i64 kd, .int .i64 a, .int .i64 b] W (SetPost 0 [] 0 0 er W)) (A : Option Addr) (W : World) (hA : Ints W A l) :
    Calls Try.prog 28 #[stV 3 0 A k k, .int .i64 kd, .int .i64 a, .int .i64 b, .int .i64 er] W (Yes W) := by
  subst h1
  exact fails_yes 3 0 A _ _ kd a b er W (fun W' h => H A _ W' (hA.below h))
theorem set_lit (l m : List Int) (k : Nat) (x v : Int) (h1 : l.length = k) (h2 : l.length ≤ 900) (hm : setM l x v = m) (A : Option Addr) (W : World) (hA : Ints W A l) :
    Calls Try.prog 13 #[.slice A k k, .int .i64 x, .int .i64 v] W (RowPost m W) := by
  subst h1 hm
  exact mset_any A _ l x v W hA (by omega) (Nat.le_refl _)
theorem drop_lit (l m : List Int) (k : Nat) (x : Int) (h1 : l.length = k) (h2 : l.length ≤ 900) (hm : dropM l x = m) (A : Option Addr) (W : World) (hA : Ints W A l) :
    Calls Try.prog 14 #[.slice A k k, .int .i64 x] W (RowPost m W) := by
  subst h1 hm
  exact mdrop_any A _ l x W hA (by omega) (Nat.le_refl _)
theorem same_lit (l : List Int) (k : Nat) (h1 : l.length = k) (h2 : l.length ≤ 1000) (A B : Option Addr) (c d : Nat) (W : World) (hA : Ints W A l) (hB : Ints W B l) :
    Calls Try.prog 15 #[.slice A k c, .slice B k d] W (Yes W) := by
  subst h1
  have := sameints_any A B c d l l W hA hB h2
  rwa [show (l == l) = true by simp] at this
theorem row_out {l : List Int} {k : Nat} (h1 : l.length = k) {w w' : World} {e : Ending} (h : RowPost l w e w') : ∃ A cap, e = .returned (.slice A k cap) ∧ Ints w' A l ∧ Below w.heap.size w w' := by
  subst h1
  obtain ⟨A, cap, h1, h2, h3⟩ := h
  exact ⟨A, cap, h1, own_ints rfl h2, h3⟩

set_option maxRecDepth 100000 in
set_option maxHeartbeats 2000000 in
theorem awake_yes (w : World) : Calls Try.prog 9 #[] w (Yes w) := by
  have P1 := find_lit [1, 10, 2, 20] 4 2 20 true rfl (by simp) (by decide) (by decide)
  have P2 := set_lit [2, 20] [1, 5, 2, 20] 2 1 5 rfl (by simp) (by decide)
  have P3 := does_lit [1, 10] [1, 11] 2 2 7 1 11 2 10 rfl rfl (by simp) (fun A c W h hc => by have := mapply_put A c [1, 10] 1 11 W h (by simp) hc ((krise_iff _).1 (by decide)); rwa [show setM [1, 10] 1 11 = [1, 11] by decide, show hadK [1, 10] 1 = 2 by decide, show kval [1, 10] 1 = 10 by decide] at this)
  have P4 := does_lit [1, 10] [] 2 0 9 1 0 2 10 rfl rfl (by simp) (fun A c W h hc => by have := mapply_del A c [1, 10] 1 W h (by simp) hc ((krise_iff _).1 (by decide)); rwa [show dropM [1, 10] 1 = [] by decide, show hadK [1, 10] 1 = 2 by decide, show kval [1, 10] 1 = 10 by decide] at this)
  go_enter Try.func9, Try.ntmps9
  go_wp2_with fail
  refine (P1 _ _ (ints_lit w [1, 10, 2, 20] 3 _ rfl)).mono ?_
  rintro e w1 ⟨rfl, hB1⟩
  have hC1 := onto (alloc1 w (.cells #[.int .i64 1, .int .i64 10, .int .i64 2, .int .i64 20] 3)) hB1
  go_wp2_with fail
  refine (P2 _ _ (ints_lit w1 [2, 20] 3 _ rfl)).mono ?_
  intro e w2 hcp
  obtain ⟨g2, c2, rfl, hi2, hB2⟩ := row_out (k := 4) rfl hcp
  clear hcp
  have hC2 := onto (onto hC1 (alloc1 w1 (.cells #[.int .i64 2, .int .i64 20] 3))) hB2
  have I2x := Lib.hid (hi2.below (alloc1 w2 (.cells #[.int .i64 1, .int .i64 5, .int .i64 2, .int .i64 20] 3)))
  clear hi2
  go_wp2_with fail
  refine (same_lit [1, 5, 2, 20] 4 rfl (by simp) _ _ _ _ _ I2x.out (ints_lit w2 [1, 5, 2, 20] 3 _ rfl)).mono ?_
  rintro e w3 ⟨rfl, hB3⟩
  have hC3 := onto (onto hC2 (alloc1 w2 (.cells #[.int .i64 1, .int .i64 5, .int .i64 2, .int .i64 20] 3))) hB3
  go_wp2_with fail
  refine (of_any _ _ _ _).mono ?_
  rintro e w4 ⟨rfl, hB4⟩
  have hC4 := onto (onto hC3 (alloc1 w3 (.cells #[.int .i64 1, .int .i64 10] 3))) hB4
  have I1 := Lib.hid ((ints_lit w3 [1, 10] 3 _ rfl).below hB4)
  go_wp2_with fail
  refine (told_any _ _).mono ?_
  rintro e w5 ⟨rfl, hB5⟩
  have hC5 := onto hC4 hB5
  replace I1 := Lib.hid (I1.out.below hB5)
  go_wp2_with fail
  refine (P3 (some ⟨w3.heap.size, 0, none⟩) (some ⟨w5.heap.size, 0, none⟩) _ (I1.out.below (alloc1 w5 (.cells #[.int .i64 1, .int .i64 11] 3))) (ints_lit w5 [1, 11] 3 _ rfl)).mono ?_
  rintro e w6 ⟨rfl, hB6⟩
  have hC6 := onto (onto hC5 (alloc1 w5 (.cells #[.int .i64 1, .int .i64 11] 3))) hB6
  replace I1 := Lib.hid (I1.out.below (onto (alloc1 w5 (.cells #[.int .i64 1, .int .i64 11] 3)) hB6))
  clear I1
  go_wp2_with fail
  refine (of_any _ _ _ _).mono ?_
  rintro e w7 ⟨rfl, hB7⟩
  have hC7 := onto (onto hC6 (alloc1 w6 (.cells #[.int .i64 1, .int .i64 10] 3))) hB7
  have I2 := Lib.hid ((ints_lit w6 [1, 10] 3 _ rfl).below hB7)
  go_wp2_with fail
  refine (told_any _ _).mono ?_
  rintro e w8 ⟨rfl, hB8⟩
  have hC8 := onto hC7 hB8
  replace I2 := Lib.hid (I2.out.below hB8)
  go_wp2_with fail
  refine (P4 (some ⟨w6.heap.size, 0, none⟩) none _ I2.out (ints_nil _ _)).mono ?_
  rintro e w9 ⟨rfl, hB9⟩
  have hC9 := onto hC8 hB9
  replace I2 := Lib.hid (I2.out.below hB9)
  clear I2
  go_wp2
  go_ret
  exact ⟨rfl, hC9⟩

set_option maxRecDepth 100000 in
set_option maxHeartbeats 2000000 in
theorem known_all (w : World) : Calls Try.prog 5 #[] w (Yes w) := by
  have P1 := find_lit [1, 10] 2 3 0 false rfl (by simp) (by decide) (by decide)
  have P2 := set_lit [1, 10] [1, 5] 2 1 5 rfl (by simp) (by decide)
  have P3 := drop_lit [1, 10, 2, 20] [2, 20] 4 1 rfl (by simp) (by decide)
  have P4 := drop_lit [1, 10] [1, 10] 2 9 rfl (by simp) (by decide)
  have P5 := does_lit [1, 10] [0, 7, 1, 10] 2 4 7 0 7 1 0 rfl rfl (by simp) (fun A c W h hc => by have := mapply_put A c [1, 10] 0 7 W h (by simp) hc ((krise_iff _).1 (by decide)); rwa [show setM [1, 10] 0 7 = [0, 7, 1, 10] by decide, show hadK [1, 10] 0 = 1 by decide, show kval [1, 10] 0 = 0 by decide] at this)
  have P6 := does_lit [1, 10] [1, 10] 2 2 8 1 0 2 10 rfl rfl (by simp) (fun A c W h hc => by have := mapply_get A c [1, 10] 1 W h (by simp) hc ((krise_iff _).1 (by decide)); rwa [show hadK [1, 10] 1 = 2 by decide, show kval [1, 10] 1 = 10 by decide] at this)
  have P7 := does_lit [1, 10] [1, 10] 2 2 8 2 0 1 0 rfl rfl (by simp) (fun A c W h hc => by have := mapply_get A c [1, 10] 2 W h (by simp) hc ((krise_iff _).1 (by decide)); rwa [show hadK [1, 10] 2 = 1 by decide, show kval [1, 10] 2 = 0 by decide] at this)
  have P8 := does_lit [] [] 0 0 9 1 0 1 0 rfl rfl (by simp) (fun A c W h hc => by have := mapply_del A c [] 1 W h (by simp) hc ((krise_iff _).1 (by decide)); rwa [show dropM [] 1 = [] by decide, show hadK [] 1 = 1 by decide, show kval [] 1 = 0 by decide] at this)
  have P9 := fails_lit [1, 10] 2 8 1 1 2 rfl (fun A c W h => mapply_arg A c [1, 10] 8 1 1 W h (by simp) ((krise_iff _).1 (by decide)) (by omega) (by omega) (by omega))
  have P10 := fails_lit [1, 10] 2 5 1 0 6 rfl (fun A c W h => mapply_word A c [1, 10] 5 1 0 W h (by simp) ((krise_iff _).1 (by decide)) (by omega))
  have P11 := fails_lit [2, 20, 1, 10] 4 8 1 0 12 rfl (fun A c W h => mapply_form 0 A c [2, 20, 1, 10] 8 1 0 W h (by simp) (fun e => absurd ((krise_iff _).2 e.2) (by decide)))
  go_enter Try.func5, Try.ntmps5
  go_wp2_with fail
  refine (P1 _ _ (ints_lit w [1, 10] 3 _ rfl)).mono ?_
  rintro e w1 ⟨rfl, hB1⟩
  have hC1 := onto (alloc1 w (.cells #[.int .i64 1, .int .i64 10] 3)) hB1
  go_wp2_with fail
  refine (P2 _ _ (ints_lit w1 [1, 10] 3 _ rfl)).mono ?_
  intro e w2 hcp
  obtain ⟨g2, c2, rfl, hi2, hB2⟩ := row_out (k := 2) rfl hcp
  clear hcp
  have hC2 := onto (onto hC1 (alloc1 w1 (.cells #[.int .i64 1, .int .i64 10] 3))) hB2
  have I2x := Lib.hid (hi2.below (alloc1 w2 (.cells #[.int .i64 1, .int .i64 5] 3)))
  clear hi2
  go_wp2_with fail
  refine (same_lit [1, 5] 2 rfl (by simp) _ _ _ _ _ I2x.out (ints_lit w2 [1, 5] 3 _ rfl)).mono ?_
  rintro e w3 ⟨rfl, hB3⟩
  have hC3 := onto (onto hC2 (alloc1 w2 (.cells #[.int .i64 1, .int .i64 5] 3))) hB3
  go_wp2_with fail
  refine (P3 _ _ (ints_lit w3 [1, 10, 2, 20] 3 _ rfl)).mono ?_
  intro e w4 hcp
  obtain ⟨g4, c4, rfl, hi4, hB4⟩ := row_out (k := 2) rfl hcp
  clear hcp
  have hC4 := onto (onto hC3 (alloc1 w3 (.cells #[.int .i64 1, .int .i64 10, .int .i64 2, .int .i64 20] 3))) hB4
  have I4x := Lib.hid (hi4.below (alloc1 w4 (.cells #[.int .i64 2, .int .i64 20] 3)))
  clear hi4
  go_wp2_with fail
  refine (same_lit [2, 20] 2 rfl (by simp) _ _ _ _ _ I4x.out (ints_lit w4 [2, 20] 3 _ rfl)).mono ?_
  rintro e w5 ⟨rfl, hB5⟩
  have hC5 := onto (onto hC4 (alloc1 w4 (.cells #[.int .i64 2, .int .i64 20] 3))) hB5
  go_wp2_with fail
  refine (P4 _ _ (ints_lit w5 [1, 10] 3 _ rfl)).mono ?_
  intro e w6 hcp
  obtain ⟨g6, c6, rfl, hi6, hB6⟩ := row_out (k := 2) rfl hcp
  clear hcp
  have hC6 := onto (onto hC5 (alloc1 w5 (.cells #[.int .i64 1, .int .i64 10] 3))) hB6
  have I6x := Lib.hid (hi6.below (alloc1 w6 (.cells #[.int .i64 1, .int .i64 10] 3)))
  clear hi6
  go_wp2_with fail
  refine (same_lit [1, 10] 2 rfl (by simp) _ _ _ _ _ I6x.out (ints_lit w6 [1, 10] 3 _ rfl)).mono ?_
  rintro e w7 ⟨rfl, hB7⟩
  have hC7 := onto (onto hC6 (alloc1 w6 (.cells #[.int .i64 1, .int .i64 10] 3))) hB7
  go_wp2_with fail
  refine (of_any _ _ _ _).mono ?_
  rintro e w8 ⟨rfl, hB8⟩
  have hC8 := onto (onto hC7 (alloc1 w7 (.cells #[.int .i64 1, .int .i64 10] 3))) hB8
  have I1 := Lib.hid ((ints_lit w7 [1, 10] 3 _ rfl).below hB8)
  go_wp2_with fail
  refine (none_any _).mono ?_
  rintro e w9 ⟨rfl, hB9⟩
  have hC9 := onto hC8 hB9
  replace I1 := Lib.hid (I1.out.below hB9)
  go_wp2_with fail
  refine (P5 (some ⟨w7.heap.size, 0, none⟩) (some ⟨w9.heap.size, 0, none⟩) _ (I1.out.below (alloc1 w9 (.cells #[.int .i64 0, .int .i64 7, .int .i64 1, .int .i64 10] 3))) (ints_lit w9 [0, 7, 1, 10] 3 _ rfl)).mono ?_
  rintro e w10 ⟨rfl, hB10⟩
  have hC10 := onto (onto hC9 (alloc1 w9 (.cells #[.int .i64 0, .int .i64 7, .int .i64 1, .int .i64 10] 3))) hB10
  replace I1 := Lib.hid (I1.out.below (onto (alloc1 w9 (.cells #[.int .i64 0, .int .i64 7, .int .i64 1, .int .i64 10] 3)) hB10))
  clear I1
  go_wp2_with fail
  refine (of_any _ _ _ _).mono ?_
  rintro e w11 ⟨rfl, hB11⟩
  have hC11 := onto (onto hC10 (alloc1 w10 (.cells #[.int .i64 1, .int .i64 10] 3))) hB11
  have I2 := Lib.hid ((ints_lit w10 [1, 10] 3 _ rfl).below hB11)
  go_wp2_with fail
  refine (told_any _ _).mono ?_
  rintro e w12 ⟨rfl, hB12⟩
  have hC12 := onto hC11 hB12
  replace I2 := Lib.hid (I2.out.below hB12)
  go_wp2_with fail
  refine (P6 (some ⟨w10.heap.size, 0, none⟩) (some ⟨w12.heap.size, 0, none⟩) _ (I2.out.below (alloc1 w12 (.cells #[.int .i64 1, .int .i64 10] 3))) (ints_lit w12 [1, 10] 3 _ rfl)).mono ?_
  rintro e w13 ⟨rfl, hB13⟩
  have hC13 := onto (onto hC12 (alloc1 w12 (.cells #[.int .i64 1, .int .i64 10] 3))) hB13
  replace I2 := Lib.hid (I2.out.below (onto (alloc1 w12 (.cells #[.int .i64 1, .int .i64 10] 3)) hB13))
  clear I2
  go_wp2_with fail
  refine (of_any _ _ _ _).mono ?_
  rintro e w14 ⟨rfl, hB14⟩
  have hC14 := onto (onto hC13 (alloc1 w13 (.cells #[.int .i64 1, .int .i64 10] 3))) hB14
  have I3 := Lib.hid ((ints_lit w13 [1, 10] 3 _ rfl).below hB14)
  go_wp2_with fail
  refine (none_any _).mono ?_
  rintro e w15 ⟨rfl, hB15⟩
  have hC15 := onto hC14 hB15
  replace I3 := Lib.hid (I3.out.below hB15)
  go_wp2_with fail
  refine (P7 (some ⟨w13.heap.size, 0, none⟩) (some ⟨w15.heap.size, 0, none⟩) _ (I3.out.below (alloc1 w15 (.cells #[.int .i64 1, .int .i64 10] 3))) (ints_lit w15 [1, 10] 3 _ rfl)).mono ?_
  rintro e w16 ⟨rfl, hB16⟩
  have hC16 := onto (onto hC15 (alloc1 w15 (.cells #[.int .i64 1, .int .i64 10] 3))) hB16
  replace I3 := Lib.hid (I3.out.below (onto (alloc1 w15 (.cells #[.int .i64 1, .int .i64 10] 3)) hB16))
  clear I3
  go_wp2_with fail
  refine (of_any _ _ _ _).mono ?_
  rintro e w17 ⟨rfl, hB17⟩
  have hC17 := onto hC16 hB17
  have I4 := Lib.hid (ints_nil w17 none)
  go_wp2_with fail
  refine (none_any _).mono ?_
  rintro e w18 ⟨rfl, hB18⟩
  have hC18 := onto hC17 hB18
  replace I4 := Lib.hid (I4.out.below hB18)
  go_wp2_with fail
  refine (P8 none none _ I4.out (ints_nil _ _)).mono ?_
  rintro e w19 ⟨rfl, hB19⟩
  have hC19 := onto hC18 hB19
  replace I4 := Lib.hid (I4.out.below hB19)
  clear I4
  go_wp2_with fail
  refine (awake_yes _).mono ?_
  rintro e w20 ⟨rfl, hB20⟩
  have hC20 := onto hC19 hB20
  go_wp2_with fail
  refine (of_any _ _ _ _).mono ?_
  rintro e w21 ⟨rfl, hB21⟩
  have hC21 := onto (onto hC20 (alloc1 w20 (.cells #[.int .i64 1, .int .i64 10] 3))) hB21
  have I5 := Lib.hid ((ints_lit w20 [1, 10] 3 _ rfl).below hB21)
  go_wp2_with fail
  refine (P9 (some ⟨w20.heap.size, 0, none⟩) _ I5.out).mono ?_
  rintro e w22 ⟨rfl, hB22⟩
  have hC22 := onto hC21 hB22
  replace I5 := Lib.hid (I5.out.below hB22)
  clear I5
  go_wp2_with fail
  refine (of_any _ _ _ _).mono ?_
  rintro e w23 ⟨rfl, hB23⟩
  have hC23 := onto (onto hC22 (alloc1 w22 (.cells #[.int .i64 1, .int .i64 10] 3))) hB23
  have I6 := Lib.hid ((ints_lit w22 [1, 10] 3 _ rfl).below hB23)
  go_wp2_with fail
  refine (P10 (some ⟨w22.heap.size, 0, none⟩) _ I6.out).mono ?_
  rintro e w24 ⟨rfl, hB24⟩
  have hC24 := onto hC23 hB24
  replace I6 := Lib.hid (I6.out.below hB24)
  clear I6
  go_wp2_with fail
  refine (of_any _ _ _ _).mono ?_
  rintro e w25 ⟨rfl, hB25⟩
  have hC25 := onto (onto hC24 (alloc1 w24 (.cells #[.int .i64 2, .int .i64 20, .int .i64 1, .int .i64 10] 3))) hB25
  have I7 := Lib.hid ((ints_lit w24 [2, 20, 1, 10] 3 _ rfl).below hB25)
  go_wp2_with fail
  refine (P11 (some ⟨w24.heap.size, 0, none⟩) _ I7.out).mono ?_
  rintro e w26 ⟨rfl, hB26⟩
  have hC26 := onto hC25 hB26
  replace I7 := Lib.hid (I7.out.below hB26)
  clear I7
  go_wp2
  go_ret
  exact ⟨rfl, hC26⟩
end Go.Proofs.Ytdanihadkchbbaa
