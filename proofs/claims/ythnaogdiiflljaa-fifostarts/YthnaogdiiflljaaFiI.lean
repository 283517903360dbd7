/- awake; FifoKnown. (Written by wip/tools/gen_fii.py.) -/
import Derived.Test.YthnaogdiiflljaaFiH
namespace Go.Proofs.Ythnaogdiiflljaa
open Go.RowKit Go.Maps
set_option linter.unusedVariables false
set_option linter.unusedSimpArgs false

theorem ints_lit2 (w : World) (o : Obj) (l : List Int) (t : TypeId) (cs : Array Value) (h : cs = (l.map (Value.int .i64)).toArray) : Ints ((w.alloc o).alloc (.cells cs t)) (some ⟨w.heap.size + 1, 0, none⟩) l := by
  have := ints_lit (w.alloc o) l t cs h
  rwa [World.size_alloc] at this
theorem applies_lit (l m : List Int) (k1 k2 : Nat) (kd a k n : Int) (h1 : l.length = k1) (h2 : m.length = k2) (h3 : m.length ≤ 1000)
    (H : ∀ A c W, Ints W A l → Calls Try.prog 10 #[stV 4 0 A l.length c, .int .i64 kd, .int .i64 a, .int .i64 0] W (SetPost 4 m k n 0 W)) (A B : Option Addr) (W : World) (hA : Ints W A l) (hB : Ints W B m) :
    Calls Try.prog 21 #[stV 4 0 A k1 k1, .int .i64 kd, .int .i64 a, stV 4 0 B k2 k2, retV k n] W (Yes W) := by
  subst h1 h2
  exact applies_yes A B _ _ l m kd a k n W hB h3 (fun W' h => H A _ W' (hA.below h))
theorem refuses_lit (l : List Int) (k : Nat) (kd a er : Int) (h1 : l.length = k)
    (H : ∀ A c W, Ints W A l → Calls Try.prog 10 #[stV 4 0 A l.length c, .int .i64 kd, .int .i64 a, .int .i64 0] W (SetPost 0 [] 0 0 er W)) (A : Option Addr) (W : World) (hA : Ints W A l) :
    Calls Try.prog 23 #[stV 4 0 A k k, .int .i64 kd, .int .i64 a, .int .i64 er] W (Yes W) := by
  subst h1
  exact refuses_yes 4 0 A _ _ kd a er W (fun W' h => H A _ W' (hA.below h))
theorem starts_lit (l m : List Int) (k1 k2 : Nat) (b : Bool) (h1 : l.length = k1) (h2 : m.length = k2) (h3 : l.length ≤ 1000) (h4 : m.length ≤ 1000) (hb : startsB l m = b) (A B : Option Addr) (W : World) (hA : Ints W A l) (hB : Ints W B m) :
    Calls Try.prog 17 #[.slice A k1 k1, .slice B k2 k2] W (Says (.bool b) W) := by
  subst h1 h2 hb
  exact starts_any A B _ _ l m W hA hB (Nat.le_refl _) h3 h4
theorem same_lit (l : List Int) (k : Nat) (h1 : l.length = k) (h2 : l.length ≤ 1000) (A B : Option Addr) (c d : Nat) (W : World) (hA : Ints W A l) (hB : Ints W B l) :
    Calls Try.prog 16 #[.slice A k c, .slice B k d] W (Yes W) := by
  subst h1
  have := sameints_any A B c d l l W hA hB h2
  rwa [show (l == l) = true by simp] at this
theorem drain_lit (l : List Int) (k : Nat) (h1 : l.length = k) (h2 : l.length ≤ 1000) (A : Option Addr) (W : World) (hA : Ints W A l) :
    Calls Try.prog 14 #[stV 4 0 A k k] W fun e w' => ∃ B d, e = .returned (.tuple #[.slice B k d, .int .i64 0]) ∧ Ints w' B l ∧ Below W.heap.size W w' := by
  subst h1
  refine (drainq_yes A _ l W hA h2).mono ?_
  rintro e w' ⟨B, d, rfl, ho, hB⟩
  exact ⟨B, d, rfl, own_ints rfl ho, hB⟩

set_option maxRecDepth 100000 in
set_option maxHeartbeats 2000000 in
theorem awake_yes (w : World) : Calls Try.prog 8 #[] w (Yes w) := by
  have P1 := applies_lit [3, 1] [3, 1, 3] 2 3 10 3 0 0 rfl rfl (by simp) (fun A c W h => by have := fapply_enq A c [3, 1] 3 W h (by simp); rwa [show fifoL [3, 1] 10 3 = [3, 1, 3] by decide, show fifoK [3, 1] 10 = 0 by decide, show fifoN [3, 1] 10 = 0 by decide] at this)
  have P2 := applies_lit [3, 1] [1] 2 1 11 0 2 3 rfl rfl (by simp) (fun A c W h => by have := fapply_deq A c [3, 1] W h (by simp); rwa [show fifoL [3, 1] 11 0 = [1] by decide, show fifoK [3, 1] 11 = 2 by decide, show fifoN [3, 1] 11 = 3 by decide] at this)
  have P3 := applies_lit [] [] 0 0 11 0 1 0 rfl rfl (by simp) (fun A c W h => by have := fapply_deq A c [] W h (by simp); rwa [show fifoL [] 11 0 = [] by decide, show fifoK [] 11 = 1 by decide, show fifoN [] 11 = 0 by decide] at this)
  have P4 := starts_lit [1, 2, 3] [1, 2] 3 2 true rfl rfl (by simp) (by simp) (by decide)
  go_enter Try.func8, Try.ntmps8
  go_wp2_with fail
  refine (of_any _ _ _ _).mono ?_
  rintro e w1 ⟨rfl, hB1⟩
  have hC1 := (onto (alloc1 w (.cells #[.int .i64 3, .int .i64 1] 3)) hB1)
  have I1 := Lib.hid ((ints_lit w [3, 1] 3 _ rfl).below hB1)
  go_wp2_with fail
  refine (of_any _ _ _ _).mono ?_
  rintro e w2 ⟨rfl, hB2⟩
  have hC2 := onto hC1 (onto (alloc1 w1 (.cells #[.int .i64 3, .int .i64 1, .int .i64 3] 3)) hB2)
  replace I1 := Lib.hid (I1.out.below (onto (alloc1 w1 (.cells #[.int .i64 3, .int .i64 1, .int .i64 3] 3)) hB2))
  have I2 := Lib.hid ((ints_lit w1 [3, 1, 3] 3 _ rfl).below hB2)
  go_wp2_with fail
  refine (P1 (some ⟨w.heap.size, 0, none⟩) (some ⟨w1.heap.size, 0, none⟩) _ I1.out I2.out).mono ?_
  rintro e w3 ⟨rfl, hB3⟩
  have hC3 := onto hC2 hB3
  replace I1 := Lib.hid (I1.out.below hB3)
  replace I2 := Lib.hid (I2.out.below hB3)
  clear I1 I2
  go_wp2_with fail
  refine (of_any _ _ _ _).mono ?_
  rintro e w4 ⟨rfl, hB4⟩
  have hC4 := onto hC3 (onto (alloc1 w3 (.cells #[.int .i64 3, .int .i64 1] 3)) hB4)
  have I3 := Lib.hid ((ints_lit w3 [3, 1] 3 _ rfl).below hB4)
  go_wp2_with fail
  refine (of_any _ _ _ _).mono ?_
  rintro e w5 ⟨rfl, hB5⟩
  have hC5 := onto hC4 (onto (alloc1 w4 (.cells #[.int .i64 1] 3)) hB5)
  replace I3 := Lib.hid (I3.out.below (onto (alloc1 w4 (.cells #[.int .i64 1] 3)) hB5))
  have I4 := Lib.hid ((ints_lit w4 [1] 3 _ rfl).below hB5)
  go_wp2_with fail
  refine (number_any _ _).mono ?_
  rintro e w6 ⟨rfl, hB6⟩
  have hC6 := onto hC5 hB6
  replace I3 := Lib.hid (I3.out.below hB6)
  replace I4 := Lib.hid (I4.out.below hB6)
  go_wp2_with fail
  refine (P2 (some ⟨w3.heap.size, 0, none⟩) (some ⟨w4.heap.size, 0, none⟩) _ I3.out I4.out).mono ?_
  rintro e w7 ⟨rfl, hB7⟩
  have hC7 := onto hC6 hB7
  replace I3 := Lib.hid (I3.out.below hB7)
  replace I4 := Lib.hid (I4.out.below hB7)
  clear I3 I4
  go_wp2_with fail
  refine (of_any _ _ _ _).mono ?_
  rintro e w8 ⟨rfl, hB8⟩
  have hC8 := onto hC7 hB8
  have I5 := Lib.hid (ints_nil w8 none)
  go_wp2_with fail
  refine (of_any _ _ _ _).mono ?_
  rintro e w9 ⟨rfl, hB9⟩
  have hC9 := onto hC8 hB9
  replace I5 := Lib.hid (I5.out.below hB9)
  have I6 := Lib.hid (ints_nil w9 none)
  go_wp2_with fail
  refine (P3 none none _ I5.out I6.out).mono ?_
  rintro e w10 ⟨rfl, hB10⟩
  have hC10 := onto hC9 hB10
  replace I5 := Lib.hid (I5.out.below hB10)
  replace I6 := Lib.hid (I6.out.below hB10)
  clear I5 I6
  go_wp2_with fail
  refine (P4 _ _ _ ((ints_lit w10 [1, 2, 3] 3 _ rfl).below (alloc1 _ _)) (ints_lit2 w10 _ [1, 2] 3 _ rfl)).mono ?_
  rintro e w11 ⟨rfl, hB11⟩
  have hC11 := onto hC10 (onto (onto (alloc1 w10 (.cells #[.int .i64 1, .int .i64 2, .int .i64 3] 3)) (alloc1 (w10.alloc (.cells #[.int .i64 1, .int .i64 2, .int .i64 3] 3)) (.cells #[.int .i64 1, .int .i64 2] 3))) hB11)
  go_wp2
  go_ret
  exact ⟨rfl, hC11⟩

set_option maxRecDepth 100000 in
set_option maxHeartbeats 2000000 in
theorem known_all (w : World) : Calls Try.prog 5 #[] w (Yes w) := by
  have P0 := drain_lit [3, 1, 3] 3 rfl (by simp)
  have P1 := applies_lit [3, 1] [3, 1] 2 2 12 0 2 2 rfl rfl (by simp) (fun A c W h => by have := fapply_len A c [3, 1] W h (by simp); rwa [show fifoL [3, 1] 12 0 = [3, 1] by decide, show fifoK [3, 1] 12 = 2 by decide, show fifoN [3, 1] 12 = 2 by decide] at this)
  have P2 := refuses_lit [3] 1 11 1 2 rfl (fun A c W h => fapply_arg2 A c [3] 11 1 0 W h (by simp) (by omega) (by omega) (by omega) rfl)
  have P3 := refuses_lit [3] 1 7 1 6 rfl (fun A c W h => fapply_word A c [3] 7 1 0 W h (by simp) (by omega))
  have P5 := fun (W : World) A (h : Ints W A [3]) => refuses_yes 2 0 A 1 1 11 0 12 W (fun W' hB => fapply_no 2 0 A 1 [3] 11 0 0 W' (h.below hB) (by simp) rfl)
  have P6 := starts_lit [1, 2] [1, 2, 3] 2 3 false rfl rfl (by simp) (by simp) (by decide)
  have P7 := starts_lit [1] [] 1 0 true rfl rfl (by simp) (by simp) (by decide)
  have P8 := starts_lit [1, 2] [2] 2 1 false rfl rfl (by simp) (by simp) (by decide)
  go_enter Try.func5, Try.ntmps5
  go_wp2_with fail
  refine (of_any _ _ _ _).mono ?_
  rintro e w1 ⟨rfl, hB1⟩
  have hC1 := (onto (alloc1 w (.cells #[.int .i64 3, .int .i64 1, .int .i64 3] 3)) hB1)
  have I1 := Lib.hid ((ints_lit w [3, 1, 3] 3 _ rfl).below hB1)
  go_wp2_with fail
  refine (P0 (some ⟨w.heap.size, 0, none⟩) _ I1.out).mono ?_
  rintro e w2 ⟨BD, dD, rfl, ID, hB2⟩
  have hC2 := onto hC1 hB2
  replace I1 := Lib.hid (I1.out.below hB2)
  clear I1
  replace ID := Lib.hid ID
  go_wp2_with fail
  refine (of_any _ _ _ _).mono ?_
  rintro e w3 ⟨rfl, hB3⟩
  have hC3 := onto hC2 (onto (alloc1 w2 (.cells #[.int .i64 3, .int .i64 1] 3)) hB3)
  replace ID := Lib.hid (ID.out.below (onto (alloc1 w2 (.cells #[.int .i64 3, .int .i64 1] 3)) hB3))
  have I2 := Lib.hid ((ints_lit w2 [3, 1] 3 _ rfl).below hB3)
  go_wp2_with fail
  refine (of_any _ _ _ _).mono ?_
  rintro e w4 ⟨rfl, hB4⟩
  have hC4 := onto hC3 (onto (alloc1 w3 (.cells #[.int .i64 3, .int .i64 1] 3)) hB4)
  replace ID := Lib.hid (ID.out.below (onto (alloc1 w3 (.cells #[.int .i64 3, .int .i64 1] 3)) hB4))
  replace I2 := Lib.hid (I2.out.below (onto (alloc1 w3 (.cells #[.int .i64 3, .int .i64 1] 3)) hB4))
  have I3 := Lib.hid ((ints_lit w3 [3, 1] 3 _ rfl).below hB4)
  go_wp2_with fail
  refine (number_any _ _).mono ?_
  rintro e w5 ⟨rfl, hB5⟩
  have hC5 := onto hC4 hB5
  replace ID := Lib.hid (ID.out.below hB5)
  replace I2 := Lib.hid (I2.out.below hB5)
  replace I3 := Lib.hid (I3.out.below hB5)
  go_wp2_with fail
  refine (P1 (some ⟨w2.heap.size, 0, none⟩) (some ⟨w3.heap.size, 0, none⟩) _ I2.out I3.out).mono ?_
  rintro e w6 ⟨rfl, hB6⟩
  have hC6 := onto hC5 hB6
  replace ID := Lib.hid (ID.out.below hB6)
  replace I2 := Lib.hid (I2.out.below hB6)
  replace I3 := Lib.hid (I3.out.below hB6)
  clear I2 I3
  go_wp2_with fail
  refine (of_any _ _ _ _).mono ?_
  rintro e w7 ⟨rfl, hB7⟩
  have hC7 := onto hC6 (onto (alloc1 w6 (.cells #[.int .i64 3] 3)) hB7)
  replace ID := Lib.hid (ID.out.below (onto (alloc1 w6 (.cells #[.int .i64 3] 3)) hB7))
  have I4 := Lib.hid ((ints_lit w6 [3] 3 _ rfl).below hB7)
  go_wp2_with fail
  refine (P2 (some ⟨w6.heap.size, 0, none⟩) _ I4.out).mono ?_
  rintro e w8 ⟨rfl, hB8⟩
  have hC8 := onto hC7 hB8
  replace ID := Lib.hid (ID.out.below hB8)
  replace I4 := Lib.hid (I4.out.below hB8)
  clear I4
  go_wp2_with fail
  refine (of_any _ _ _ _).mono ?_
  rintro e w9 ⟨rfl, hB9⟩
  have hC9 := onto hC8 (onto (alloc1 w8 (.cells #[.int .i64 3] 3)) hB9)
  replace ID := Lib.hid (ID.out.below (onto (alloc1 w8 (.cells #[.int .i64 3] 3)) hB9))
  have I5 := Lib.hid ((ints_lit w8 [3] 3 _ rfl).below hB9)
  go_wp2_with fail
  refine (P3 (some ⟨w8.heap.size, 0, none⟩) _ I5.out).mono ?_
  rintro e w10 ⟨rfl, hB10⟩
  have hC10 := onto hC9 hB10
  replace ID := Lib.hid (ID.out.below hB10)
  replace I5 := Lib.hid (I5.out.below hB10)
  clear I5
  unfold stV at P5
  go_wp2_with fail
  refine (P5 _ _ (ints_lit w10 [3] 3 _ rfl)).mono ?_
  rintro e w11 ⟨rfl, hB11⟩
  have hC11 := onto hC10 (onto (alloc1 w10 (.cells #[.int .i64 3] 3)) hB11)
  replace ID := Lib.hid (ID.out.below (onto (alloc1 w10 (.cells #[.int .i64 3] 3)) hB11))
  go_wp2_with fail
  refine (awake_yes _).mono ?_
  rintro e w12 ⟨rfl, hB12⟩
  have hC12 := onto hC11 hB12
  replace ID := Lib.hid (ID.out.below hB12)
  go_wp2_with fail
  refine (P6 _ _ _ ((ints_lit w12 [1, 2] 3 _ rfl).below (alloc1 _ _)) (ints_lit2 w12 _ [1, 2, 3] 3 _ rfl)).mono ?_
  rintro e w13 ⟨rfl, hB13⟩
  have hC13 := onto hC12 (onto (onto (alloc1 w12 (.cells #[.int .i64 1, .int .i64 2] 3)) (alloc1 (w12.alloc (.cells #[.int .i64 1, .int .i64 2] 3)) (.cells #[.int .i64 1, .int .i64 2, .int .i64 3] 3))) hB13)
  replace ID := Lib.hid (ID.out.below (onto (onto (alloc1 w12 (.cells #[.int .i64 1, .int .i64 2] 3)) (alloc1 (w12.alloc (.cells #[.int .i64 1, .int .i64 2] 3)) (.cells #[.int .i64 1, .int .i64 2, .int .i64 3] 3))) hB13))
  go_wp2_with fail
  refine (P7 _ _ _ (ints_lit w13 [1] 3 _ rfl) (ints_nil _ _)).mono ?_
  rintro e w14 ⟨rfl, hB14⟩
  have hC14 := onto hC13 (onto (alloc1 w13 (.cells #[.int .i64 1] 3)) hB14)
  replace ID := Lib.hid (ID.out.below (onto (alloc1 w13 (.cells #[.int .i64 1] 3)) hB14))
  go_wp2_with fail
  refine (P8 _ _ _ ((ints_lit w14 [1, 2] 3 _ rfl).below (alloc1 _ _)) (ints_lit2 w14 _ [2] 3 _ rfl)).mono ?_
  rintro e w15 ⟨rfl, hB15⟩
  have hC15 := onto hC14 (onto (onto (alloc1 w14 (.cells #[.int .i64 1, .int .i64 2] 3)) (alloc1 (w14.alloc (.cells #[.int .i64 1, .int .i64 2] 3)) (.cells #[.int .i64 2] 3))) hB15)
  replace ID := Lib.hid (ID.out.below (onto (onto (alloc1 w14 (.cells #[.int .i64 1, .int .i64 2] 3)) (alloc1 (w14.alloc (.cells #[.int .i64 1, .int .i64 2] 3)) (.cells #[.int .i64 2] 3))) hB15))
  go_wp2_with fail
  refine (same_lit [3, 1, 3] 3 rfl (by simp) _ _ _ _ _ (ID.out.below (alloc1 w15 _)) (ints_lit w15 [3, 1, 3] 3 _ rfl)).mono ?_
  rintro e w16 ⟨rfl, hB16⟩
  have hC16 := onto hC15 (onto (alloc1 w15 (.cells #[.int .i64 3, .int .i64 1, .int .i64 3] 3)) hB16)
  go_wp2
  go_ret
  exact ⟨rfl, hC16⟩
end Go.Proofs.Ythnaogdiiflljaa
