/- The document's Check. -/
import Derived.Test.YtmpglmepmdpjoaaOpS
namespace Go.Proofs.Ytmpglmepmdpjoaa
open Go.RowKit Go.Maps
set_option linter.unusedVariables false

theorem okN_any (a : Int) : okN 0 a = true := rfl
theorem okN_zero (a : Int) : (okN 1 a = false) ↔ a ≠ 0 := by show (a == 0) = false ↔ _; simp
theorem okN_amount (a : Int) : (okN 2 a = false) ↔ (a < 0 ∨ 4611686018427387904 < a) := by
  show (decide (0 ≤ a) && decide (a ≤ 4611686018427387904)) = false ↔ _
  rw [Bool.and_eq_false_iff, decide_eq_false_iff_not, decide_eq_false_iff_not]; omega
theorem chk_iff (i : Nat) (h : i < 15) (a b : Int) : ((argN i < 1 ∧ a ≠ 0) ∨ (argN i < 2 ∧ b ≠ 0) ∨ (objN i = 5 ∧ (a < 0 ∨ 4611686018427387904 < a))) ↔ (okN (mA i) a = false ∨ okN (mB i) b = false) := by
  match i, h with
  | 0, _ =>
    show ((1 < 1 ∧ a ≠ 0) ∨ (1 < 2 ∧ b ≠ 0) ∨ (1 = 5 ∧ (a < 0 ∨ 4611686018427387904 < a))) ↔ (okN 0 a = false ∨ okN 1 b = false)
    rw [okN_any, okN_zero]
    simp
  | 1, _ =>
    show ((0 < 1 ∧ a ≠ 0) ∨ (0 < 2 ∧ b ≠ 0) ∨ (1 = 5 ∧ (a < 0 ∨ 4611686018427387904 < a))) ↔ (okN 1 a = false ∨ okN 1 b = false)
    rw [okN_zero, okN_zero]
    omega
  | 2, _ =>
    show ((1 < 1 ∧ a ≠ 0) ∨ (1 < 2 ∧ b ≠ 0) ∨ (2 = 5 ∧ (a < 0 ∨ 4611686018427387904 < a))) ↔ (okN 0 a = false ∨ okN 1 b = false)
    rw [okN_any, okN_zero]
    simp
  | 3, _ =>
    show ((1 < 1 ∧ a ≠ 0) ∨ (1 < 2 ∧ b ≠ 0) ∨ (2 = 5 ∧ (a < 0 ∨ 4611686018427387904 < a))) ↔ (okN 0 a = false ∨ okN 1 b = false)
    rw [okN_any, okN_zero]
    simp
  | 4, _ =>
    show ((1 < 1 ∧ a ≠ 0) ∨ (1 < 2 ∧ b ≠ 0) ∨ (2 = 5 ∧ (a < 0 ∨ 4611686018427387904 < a))) ↔ (okN 0 a = false ∨ okN 1 b = false)
    rw [okN_any, okN_zero]
    simp
  | 5, _ =>
    show ((0 < 1 ∧ a ≠ 0) ∨ (0 < 2 ∧ b ≠ 0) ∨ (2 = 5 ∧ (a < 0 ∨ 4611686018427387904 < a))) ↔ (okN 1 a = false ∨ okN 1 b = false)
    rw [okN_zero, okN_zero]
    omega
  | 6, _ =>
    show ((2 < 1 ∧ a ≠ 0) ∨ (2 < 2 ∧ b ≠ 0) ∨ (3 = 5 ∧ (a < 0 ∨ 4611686018427387904 < a))) ↔ (okN 0 a = false ∨ okN 0 b = false)
    rw [okN_any, okN_any]
    simp
  | 7, _ =>
    show ((1 < 1 ∧ a ≠ 0) ∨ (1 < 2 ∧ b ≠ 0) ∨ (3 = 5 ∧ (a < 0 ∨ 4611686018427387904 < a))) ↔ (okN 0 a = false ∨ okN 1 b = false)
    rw [okN_any, okN_zero]
    simp
  | 8, _ =>
    show ((1 < 1 ∧ a ≠ 0) ∨ (1 < 2 ∧ b ≠ 0) ∨ (3 = 5 ∧ (a < 0 ∨ 4611686018427387904 < a))) ↔ (okN 0 a = false ∨ okN 1 b = false)
    rw [okN_any, okN_zero]
    simp
  | 9, _ =>
    show ((1 < 1 ∧ a ≠ 0) ∨ (1 < 2 ∧ b ≠ 0) ∨ (4 = 5 ∧ (a < 0 ∨ 4611686018427387904 < a))) ↔ (okN 0 a = false ∨ okN 1 b = false)
    rw [okN_any, okN_zero]
    simp
  | 10, _ =>
    show ((0 < 1 ∧ a ≠ 0) ∨ (0 < 2 ∧ b ≠ 0) ∨ (4 = 5 ∧ (a < 0 ∨ 4611686018427387904 < a))) ↔ (okN 1 a = false ∨ okN 1 b = false)
    rw [okN_zero, okN_zero]
    omega
  | 11, _ =>
    show ((0 < 1 ∧ a ≠ 0) ∨ (0 < 2 ∧ b ≠ 0) ∨ (4 = 5 ∧ (a < 0 ∨ 4611686018427387904 < a))) ↔ (okN 1 a = false ∨ okN 1 b = false)
    rw [okN_zero, okN_zero]
    omega
  | 12, _ =>
    show ((1 < 1 ∧ a ≠ 0) ∨ (1 < 2 ∧ b ≠ 0) ∨ (5 = 5 ∧ (a < 0 ∨ 4611686018427387904 < a))) ↔ (okN 2 a = false ∨ okN 1 b = false)
    rw [okN_amount, okN_zero]
    omega
  | 13, _ =>
    show ((1 < 1 ∧ a ≠ 0) ∨ (1 < 2 ∧ b ≠ 0) ∨ (5 = 5 ∧ (a < 0 ∨ 4611686018427387904 < a))) ↔ (okN 2 a = false ∨ okN 1 b = false)
    rw [okN_amount, okN_zero]
    omega
  | 14, _ =>
    show ((0 < 1 ∧ a ≠ 0) ∨ (0 < 2 ∧ b ≠ 0) ∨ (5 = 5 ∧ (a < 0 ∨ 4611686018427387904 < a))) ↔ (okN 1 a = false ∨ okN 1 b = false)
    rw [okN_zero, okN_zero]
    omega
  | i + 15, h => omega

def RCk (w : World) (r : Int) (e : Ending) (w' : World) : Prop := e = .returned (.int .i64 r) ∧ Below w.heap.size w w'

set_option maxRecDepth 100000 in
set_option maxHeartbeats 4000000 in
theorem rcheck_0n (kd a b k n : Int) (ob rr : Int) (wd : ByteArray) (okr : Bool) (w : World) (h5 : (ob == 5) = false)
    (HO : ∀ W, Calls Try.prog 31 #[.int .i64 kd] W fun e w' => e = .returned (.tuple #[.agg #[.int .i64 ob, .int .i64 0, .int .i64 rr, .string wd], .bool true]) ∧ Below W.heap.size W w')
    (HR : ∀ W, Calls Try.prog 39 #[.agg #[.int .i64 ob, .int .i64 0, .int .i64 rr, .string wd], .agg #[.int .i64 k, .int .i64 n]] W (BoolPost okr W)) :
    Calls Try.prog 19 #[opV kd a b k n] w (RCk w (if a ≠ 0 ∨ b ≠ 0 then 2 else if okr = false then 9 else 0)) := by
  have HP := Lib.hid (show (if a ≠ 0 ∨ b ≠ 0 then (2 : Int) else if okr = false then 9 else 0) = _ from rfl)
  have HH := Holds.new w 25 #[.int .i64 kd, .int .i64 a, .int .i64 b, .int .i64 k, .int .i64 n]
  have HHid := Lib.hid HH
  clear HH
  unfold opV
  generalize hres : (if a ≠ 0 ∨ b ≠ 0 then (2 : Int) else if okr = false then 9 else 0) = res
  have HRES := Lib.hid hres
  clear hres HP
  cases hz : (a != 0) <;> cases hy : (b != 0)
  all_goals
    go_enter Try.func19, Try.ntmps19
    go_wp2_with fail
    refine (HO _).mono ?_
    rintro e w1 ⟨rfl, hB1⟩
    have hs1 := hB1.size
    simp only [World.size_alloc] at hs1
    have HO1 := (HHid.out.below hB1 (by simp)).alloc (.cells #[.int .i64 ob, .int .i64 0, .int .i64 rr, .string wd] 57)
    have o1 := HO1.c (j := 1) rfl
    have o2 := HO1.c (j := 2) rfl
    have o3 := HO1.c (j := 3) rfl
    have o4 := HO1.c (j := 4) rfl
    have hBn : Below w.heap.size w (w1.alloc (.cells #[.int .i64 ob, .int .i64 0, .int .i64 rr, .string wd] 57)) := Below.alloc (nxt ((Below.refl _ _).alloc (Nat.le_refl _) _) hB1 (by simp)) (by omega) _
    clear HO1
    first
    | (go_wp2_with fail
       refine (HR _).mono ?_
       rintro e w2 ⟨rfl, hB2⟩
       have hBf := nxt hBn hB2 (by simp; omega)
       cases okr
       · go_wp2
         go_ret
         exact ⟨by rw [← HRES.out]; simp_all, hBf⟩
       · go_wp2
         go_ret
         exact ⟨by rw [← HRES.out]; simp_all, hBf⟩)
    | (go_wp2
       go_ret
       refine ⟨?_, hBn⟩
       rw [← HRES.out, if_pos (by simp_all)]
       rfl)

set_option maxRecDepth 100000 in
set_option maxHeartbeats 4000000 in
theorem rcheck_0y (kd a b k n : Int) (ob rr : Int) (wd : ByteArray) (okr : Bool) (w : World) (h5 : (ob == 5) = true)
    (HO : ∀ W, Calls Try.prog 31 #[.int .i64 kd] W fun e w' => e = .returned (.tuple #[.agg #[.int .i64 ob, .int .i64 0, .int .i64 rr, .string wd], .bool true]) ∧ Below W.heap.size W w')
    (HR : ∀ W, Calls Try.prog 39 #[.agg #[.int .i64 ob, .int .i64 0, .int .i64 rr, .string wd], .agg #[.int .i64 k, .int .i64 n]] W (BoolPost okr W)) :
    Calls Try.prog 19 #[opV kd a b k n] w (RCk w (if a ≠ 0 ∨ b ≠ 0 ∨ (a < 0 ∨ 4611686018427387904 < a) then 2 else if okr = false then 9 else 0)) := by
  have HP := Lib.hid (show (if a ≠ 0 ∨ b ≠ 0 ∨ (a < 0 ∨ 4611686018427387904 < a) then (2 : Int) else if okr = false then 9 else 0) = _ from rfl)
  have HH := Holds.new w 25 #[.int .i64 kd, .int .i64 a, .int .i64 b, .int .i64 k, .int .i64 n]
  have HHid := Lib.hid HH
  clear HH
  unfold opV
  generalize hres : (if a ≠ 0 ∨ b ≠ 0 ∨ (a < 0 ∨ 4611686018427387904 < a) then (2 : Int) else if okr = false then 9 else 0) = res
  have HRES := Lib.hid hres
  clear hres HP
  cases hn : decide (a < 0) <;> cases hg : decide (4611686018427387904 < a) <;> cases hz : (a != 0) <;> cases hy : (b != 0)
  all_goals
    go_enter Try.func19, Try.ntmps19
    go_wp2_with fail
    refine (HO _).mono ?_
    rintro e w1 ⟨rfl, hB1⟩
    have hs1 := hB1.size
    simp only [World.size_alloc] at hs1
    have HO1 := (HHid.out.below hB1 (by simp)).alloc (.cells #[.int .i64 ob, .int .i64 0, .int .i64 rr, .string wd] 57)
    have o1 := HO1.c (j := 1) rfl
    have o2 := HO1.c (j := 2) rfl
    have o3 := HO1.c (j := 3) rfl
    have o4 := HO1.c (j := 4) rfl
    have hBn : Below w.heap.size w (w1.alloc (.cells #[.int .i64 ob, .int .i64 0, .int .i64 rr, .string wd] 57)) := Below.alloc (nxt ((Below.refl _ _).alloc (Nat.le_refl _) _) hB1 (by simp)) (by omega) _
    clear HO1
    first
    | (go_wp2_with fail
       refine (HR _).mono ?_
       rintro e w2 ⟨rfl, hB2⟩
       have hBf := nxt hBn hB2 (by simp; omega)
       cases okr
       · go_wp2
         go_ret
         exact ⟨by rw [← HRES.out]; simp_all, hBf⟩
       · go_wp2
         go_ret
         exact ⟨by rw [← HRES.out]; simp_all, hBf⟩)
    | (go_wp2
       go_ret
       refine ⟨?_, hBn⟩
       rw [← HRES.out, if_pos (by simp_all)]
       rfl)

set_option maxRecDepth 100000 in
set_option maxHeartbeats 4000000 in
theorem rcheck_1n (kd a b k n : Int) (ob rr : Int) (wd : ByteArray) (okr : Bool) (w : World) (h5 : (ob == 5) = false)
    (HO : ∀ W, Calls Try.prog 31 #[.int .i64 kd] W fun e w' => e = .returned (.tuple #[.agg #[.int .i64 ob, .int .i64 1, .int .i64 rr, .string wd], .bool true]) ∧ Below W.heap.size W w')
    (HR : ∀ W, Calls Try.prog 39 #[.agg #[.int .i64 ob, .int .i64 1, .int .i64 rr, .string wd], .agg #[.int .i64 k, .int .i64 n]] W (BoolPost okr W)) :
    Calls Try.prog 19 #[opV kd a b k n] w (RCk w (if b ≠ 0 then 2 else if okr = false then 9 else 0)) := by
  have HP := Lib.hid (show (if b ≠ 0 then (2 : Int) else if okr = false then 9 else 0) = _ from rfl)
  have HH := Holds.new w 25 #[.int .i64 kd, .int .i64 a, .int .i64 b, .int .i64 k, .int .i64 n]
  have HHid := Lib.hid HH
  clear HH
  unfold opV
  generalize hres : (if b ≠ 0 then (2 : Int) else if okr = false then 9 else 0) = res
  have HRES := Lib.hid hres
  clear hres HP
  cases hy : (b != 0)
  all_goals
    go_enter Try.func19, Try.ntmps19
    go_wp2_with fail
    refine (HO _).mono ?_
    rintro e w1 ⟨rfl, hB1⟩
    have hs1 := hB1.size
    simp only [World.size_alloc] at hs1
    have HO1 := (HHid.out.below hB1 (by simp)).alloc (.cells #[.int .i64 ob, .int .i64 1, .int .i64 rr, .string wd] 57)
    have o1 := HO1.c (j := 1) rfl
    have o2 := HO1.c (j := 2) rfl
    have o3 := HO1.c (j := 3) rfl
    have o4 := HO1.c (j := 4) rfl
    have hBn : Below w.heap.size w (w1.alloc (.cells #[.int .i64 ob, .int .i64 1, .int .i64 rr, .string wd] 57)) := Below.alloc (nxt ((Below.refl _ _).alloc (Nat.le_refl _) _) hB1 (by simp)) (by omega) _
    clear HO1
    first
    | (go_wp2_with fail
       refine (HR _).mono ?_
       rintro e w2 ⟨rfl, hB2⟩
       have hBf := nxt hBn hB2 (by simp; omega)
       cases okr
       · go_wp2
         go_ret
         exact ⟨by rw [← HRES.out]; simp_all, hBf⟩
       · go_wp2
         go_ret
         exact ⟨by rw [← HRES.out]; simp_all, hBf⟩)
    | (go_wp2
       go_ret
       refine ⟨?_, hBn⟩
       rw [← HRES.out, if_pos (by simp_all)]
       rfl)

set_option maxRecDepth 100000 in
set_option maxHeartbeats 4000000 in
theorem rcheck_1y (kd a b k n : Int) (ob rr : Int) (wd : ByteArray) (okr : Bool) (w : World) (h5 : (ob == 5) = true)
    (HO : ∀ W, Calls Try.prog 31 #[.int .i64 kd] W fun e w' => e = .returned (.tuple #[.agg #[.int .i64 ob, .int .i64 1, .int .i64 rr, .string wd], .bool true]) ∧ Below W.heap.size W w')
    (HR : ∀ W, Calls Try.prog 39 #[.agg #[.int .i64 ob, .int .i64 1, .int .i64 rr, .string wd], .agg #[.int .i64 k, .int .i64 n]] W (BoolPost okr W)) :
    Calls Try.prog 19 #[opV kd a b k n] w (RCk w (if b ≠ 0 ∨ (a < 0 ∨ 4611686018427387904 < a) then 2 else if okr = false then 9 else 0)) := by
  have HP := Lib.hid (show (if b ≠ 0 ∨ (a < 0 ∨ 4611686018427387904 < a) then (2 : Int) else if okr = false then 9 else 0) = _ from rfl)
  have HH := Holds.new w 25 #[.int .i64 kd, .int .i64 a, .int .i64 b, .int .i64 k, .int .i64 n]
  have HHid := Lib.hid HH
  clear HH
  unfold opV
  generalize hres : (if b ≠ 0 ∨ (a < 0 ∨ 4611686018427387904 < a) then (2 : Int) else if okr = false then 9 else 0) = res
  have HRES := Lib.hid hres
  clear hres HP
  cases hn : decide (a < 0) <;> cases hg : decide (4611686018427387904 < a) <;> cases hy : (b != 0)
  all_goals
    go_enter Try.func19, Try.ntmps19
    go_wp2_with fail
    refine (HO _).mono ?_
    rintro e w1 ⟨rfl, hB1⟩
    have hs1 := hB1.size
    simp only [World.size_alloc] at hs1
    have HO1 := (HHid.out.below hB1 (by simp)).alloc (.cells #[.int .i64 ob, .int .i64 1, .int .i64 rr, .string wd] 57)
    have o1 := HO1.c (j := 1) rfl
    have o2 := HO1.c (j := 2) rfl
    have o3 := HO1.c (j := 3) rfl
    have o4 := HO1.c (j := 4) rfl
    have hBn : Below w.heap.size w (w1.alloc (.cells #[.int .i64 ob, .int .i64 1, .int .i64 rr, .string wd] 57)) := Below.alloc (nxt ((Below.refl _ _).alloc (Nat.le_refl _) _) hB1 (by simp)) (by omega) _
    clear HO1
    first
    | (go_wp2_with fail
       refine (HR _).mono ?_
       rintro e w2 ⟨rfl, hB2⟩
       have hBf := nxt hBn hB2 (by simp; omega)
       cases okr
       · go_wp2
         go_ret
         exact ⟨by rw [← HRES.out]; simp_all, hBf⟩
       · go_wp2
         go_ret
         exact ⟨by rw [← HRES.out]; simp_all, hBf⟩)
    | (go_wp2
       go_ret
       refine ⟨?_, hBn⟩
       rw [← HRES.out, if_pos (by simp_all)]
       rfl)

set_option maxRecDepth 100000 in
set_option maxHeartbeats 4000000 in
theorem rcheck_2n (kd a b k n : Int) (ob rr : Int) (wd : ByteArray) (okr : Bool) (w : World) (h5 : (ob == 5) = false)
    (HO : ∀ W, Calls Try.prog 31 #[.int .i64 kd] W fun e w' => e = .returned (.tuple #[.agg #[.int .i64 ob, .int .i64 2, .int .i64 rr, .string wd], .bool true]) ∧ Below W.heap.size W w')
    (HR : ∀ W, Calls Try.prog 39 #[.agg #[.int .i64 ob, .int .i64 2, .int .i64 rr, .string wd], .agg #[.int .i64 k, .int .i64 n]] W (BoolPost okr W)) :
    Calls Try.prog 19 #[opV kd a b k n] w (RCk w (if False then 2 else if okr = false then 9 else 0)) := by
  have HP := Lib.hid (show (if False then (2 : Int) else if okr = false then 9 else 0) = _ from rfl)
  have HH := Holds.new w 25 #[.int .i64 kd, .int .i64 a, .int .i64 b, .int .i64 k, .int .i64 n]
  have HHid := Lib.hid HH
  clear HH
  unfold opV
  generalize hres : (if False then (2 : Int) else if okr = false then 9 else 0) = res
  have HRES := Lib.hid hres
  clear hres HP
  skip
  all_goals
    go_enter Try.func19, Try.ntmps19
    go_wp2_with fail
    refine (HO _).mono ?_
    rintro e w1 ⟨rfl, hB1⟩
    have hs1 := hB1.size
    simp only [World.size_alloc] at hs1
    have HO1 := (HHid.out.below hB1 (by simp)).alloc (.cells #[.int .i64 ob, .int .i64 2, .int .i64 rr, .string wd] 57)
    have o1 := HO1.c (j := 1) rfl
    have o2 := HO1.c (j := 2) rfl
    have o3 := HO1.c (j := 3) rfl
    have o4 := HO1.c (j := 4) rfl
    have hBn : Below w.heap.size w (w1.alloc (.cells #[.int .i64 ob, .int .i64 2, .int .i64 rr, .string wd] 57)) := Below.alloc (nxt ((Below.refl _ _).alloc (Nat.le_refl _) _) hB1 (by simp)) (by omega) _
    clear HO1
    first
    | (go_wp2_with fail
       refine (HR _).mono ?_
       rintro e w2 ⟨rfl, hB2⟩
       have hBf := nxt hBn hB2 (by simp; omega)
       cases okr
       · go_wp2
         go_ret
         exact ⟨by rw [← HRES.out]; simp_all, hBf⟩
       · go_wp2
         go_ret
         exact ⟨by rw [← HRES.out]; simp_all, hBf⟩)
    | (go_wp2
       go_ret
       refine ⟨?_, hBn⟩
       rw [← HRES.out, if_pos (by simp_all)]
       rfl)

set_option maxRecDepth 100000 in
set_option maxHeartbeats 4000000 in
theorem rcheck_2y (kd a b k n : Int) (ob rr : Int) (wd : ByteArray) (okr : Bool) (w : World) (h5 : (ob == 5) = true)
    (HO : ∀ W, Calls Try.prog 31 #[.int .i64 kd] W fun e w' => e = .returned (.tuple #[.agg #[.int .i64 ob, .int .i64 2, .int .i64 rr, .string wd], .bool true]) ∧ Below W.heap.size W w')
    (HR : ∀ W, Calls Try.prog 39 #[.agg #[.int .i64 ob, .int .i64 2, .int .i64 rr, .string wd], .agg #[.int .i64 k, .int .i64 n]] W (BoolPost okr W)) :
    Calls Try.prog 19 #[opV kd a b k n] w (RCk w (if (a < 0 ∨ 4611686018427387904 < a) then 2 else if okr = false then 9 else 0)) := by
  have HP := Lib.hid (show (if (a < 0 ∨ 4611686018427387904 < a) then (2 : Int) else if okr = false then 9 else 0) = _ from rfl)
  have HH := Holds.new w 25 #[.int .i64 kd, .int .i64 a, .int .i64 b, .int .i64 k, .int .i64 n]
  have HHid := Lib.hid HH
  clear HH
  unfold opV
  generalize hres : (if (a < 0 ∨ 4611686018427387904 < a) then (2 : Int) else if okr = false then 9 else 0) = res
  have HRES := Lib.hid hres
  clear hres HP
  cases hn : decide (a < 0) <;> cases hg : decide (4611686018427387904 < a)
  all_goals
    go_enter Try.func19, Try.ntmps19
    go_wp2_with fail
    refine (HO _).mono ?_
    rintro e w1 ⟨rfl, hB1⟩
    have hs1 := hB1.size
    simp only [World.size_alloc] at hs1
    have HO1 := (HHid.out.below hB1 (by simp)).alloc (.cells #[.int .i64 ob, .int .i64 2, .int .i64 rr, .string wd] 57)
    have o1 := HO1.c (j := 1) rfl
    have o2 := HO1.c (j := 2) rfl
    have o3 := HO1.c (j := 3) rfl
    have o4 := HO1.c (j := 4) rfl
    have hBn : Below w.heap.size w (w1.alloc (.cells #[.int .i64 ob, .int .i64 2, .int .i64 rr, .string wd] 57)) := Below.alloc (nxt ((Below.refl _ _).alloc (Nat.le_refl _) _) hB1 (by simp)) (by omega) _
    clear HO1
    first
    | (go_wp2_with fail
       refine (HR _).mono ?_
       rintro e w2 ⟨rfl, hB2⟩
       have hBf := nxt hBn hB2 (by simp; omega)
       cases okr
       · go_wp2
         go_ret
         exact ⟨by rw [← HRES.out]; simp_all, hBf⟩
       · go_wp2
         go_ret
         exact ⟨by rw [← HRES.out]; simp_all, hBf⟩)
    | (go_wp2
       go_ret
       refine ⟨?_, hBn⟩
       rw [← HRES.out, if_pos (by simp_all)]
       rfl)
end Go.Proofs.Ytmpglmepmdpjoaa
