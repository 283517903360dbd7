/- The statements' own small functions: of, does, fails, ranges. -/
import Derived.Test.YtpnclppjmgeddaaEsD
import Derived.Test.YtpnclppjmgeddaaEsB
namespace Go.Proofs.Ytpnclppjmgeddaa
open Go.RowKit Go.Maps
set_option linter.unusedVariables false
set_option linter.unusedSimpArgs false

theorem of_any (n : Int) (w : World) : Calls Try.prog 20 #[.int .i64 n] w (Says (stV 5 n none 0 0) w) := by
  go_enter Try.func20, Try.ntmps20
  go_wp2
  refine bodyPost_ret (v := stV 5 n none 0 0) (by simp [results, Try.f20, go_sem, stV]) rfl ?_
  exact ⟨rfl, alloc1 w _⟩

set_option maxHeartbeats 1000000 in
theorem does_yes (n kd a t r : Int) (w : World) (H : ∀ W, Calls Try.prog 11 #[stV 5 n none 0 0, .int .i64 kd, .int .i64 a, .int .i64 0] W (Says (ansV 5 t 2 r 0) W)) :
    Calls Try.prog 18 #[.int .i64 n, .int .i64 kd, .int .i64 a, .int .i64 t, .int .i64 r] w (Yes w) := by
  have he : ∀ w', (binOp .eql 28 (.agg #[.int .i64 2, .int .i64 r]) (.agg #[.int .i64 2, .int .i64 r])).run Try.prog w' = .ok (.bool true) w' := fun w' => (eql_ret w' 2 r 2 r).trans (by rw [sameRet_self])
  have HO := fun W => of_any n W
  have HT := fun W => of_any t W
  unfold stV at *
  go_enter Try.func18, Try.ntmps18
  go_wp2_with fail
  refine (HO _).mono ?_
  rintro e w1 ⟨rfl, hB1⟩
  go_wp2_with fail
  refine (H _).mono ?_
  rintro e w2 ⟨rfl, hB2⟩
  unfold ansV stV retV
  have hC2 := onto hB1 hB2
  have hB3 : Below w2.heap.size w2 ((w2.alloc (.cells #[.int .i64 5, .int .i64 t, .slice none 0 0] 24)).alloc (.cells #[.int .i64 2, .int .i64 r] 28)) := (alloc1 w2 _).alloc (by simp) _
  have HS3 := (Holds.new w2 24 #[.int .i64 5, .int .i64 t, .slice none 0 0]).alloc (.cells #[.int .i64 2, .int .i64 r] 28)
  have HR3 := Lib.hid (new_second w2 (.cells #[.int .i64 5, .int .i64 t, .slice none 0 0] 24) 28 #[.int .i64 2, .int .i64 r])
  have hC3 := onto hC2 hB3
  have HR3' := HR3.out
  go_wp2_with fail
  refine wp_region_noPanic ?_
  generalize (w2.alloc (.cells #[.int .i64 5, .int .i64 t, .slice none 0 0] 24)).alloc (.cells #[.int .i64 2, .int .i64 r] 28) = W3 at *
  refine wp_region_picked [(0, true), (1, true), (2, true), (3, true), (4, true), (5, false), (6, false), (7, true), (8, true), (9, true), (10, true), (11, true), (12, true), (13, true), (14, true)] (fun W' => Holds W' w2.heap.size 24 #[.int .i64 5, .int .i64 t, .slice none 0 0] ∧ Holds W' (w2.heap.size + 1) 28 #[.int .i64 2, .int .i64 r]) (by kernel_rfl) (by kernel_rfl) (fun _ _ _ _ _ h => h) ⟨HS3, HR3'⟩ ?_
  iterate 5
    refine Picked.take ?_ (by rfl) (by rfl) ?_ ?_
    rotate_left
    · rintro w' ⟨hw1, hw2⟩
      have c0 := hw1.c (j := 0) rfl
      have c1 := hw1.c (j := 1) rfl
      have c2 := hw1.c (j := 2) rfl
      have d0 := hw2.c (j := 0) rfl
      have d1 := hw2.c (j := 1) rfl
      go_simp
      try with_reducible rfl
    simp only [Act.put, List.getElem_toArray, List.getElem_cons_zero, List.getElem_cons_succ, List.setIfInBounds_toArray, List.set_cons_zero, List.set_cons_succ]
  refine Picked.call 20 #[.int .i64 t] (by rfl) (by rfl) (by go_simp) ?_
  refine (HT _).mono ?_
  rintro e w4 ⟨rfl, hB4⟩
  have hB4' : Below W3.heap.size W3 w4 := (Below.refl _ W3).drew.trans hB4
  have hC4 := onto hC3 hB4'
  have HS4 := HS3.below hB4' HS3.lt
  have HR4 := HR3'.below hB4' HR3'.lt
  refine ⟨_, rfl, ⟨HS4, HR4⟩, ?_⟩
  simp only [Act.put, List.getElem_toArray, List.getElem_cons_zero, List.getElem_cons_succ, List.setIfInBounds_toArray, List.set_cons_zero, List.set_cons_succ]
  have H5 := samest_any 5 t 5 t none none 0 0 [] [] w4 (ints_nil _ _) (ints_nil _ _) (by simp)
  rw [same_iff.2 ⟨rfl, rfl, rfl⟩] at H5
  refine Picked.call 13 #[.agg #[.int .i64 5, .int .i64 t, .slice none 0 0], .agg #[.int .i64 5, .int .i64 t, .slice none 0 0]] (by rfl) (by rfl) (by go_simp) ?_
  refine H5.mono ?_
  rintro e w5 ⟨rfl, hB5⟩
  have hC5 := onto hC4 hB5
  refine ⟨_, rfl, ⟨HS4.below hB5 HS4.lt, HR4.below hB5 HR4.lt⟩, ?_⟩
  simp only [Act.put, List.getElem_toArray, List.getElem_cons_zero, List.getElem_cons_succ, List.setIfInBounds_toArray, List.set_cons_zero, List.set_cons_succ]
  iterate 8
    refine Picked.take ?_ (by rfl) (by rfl) ?_ ?_
    rotate_left
    · rintro w' ⟨hw1, hw2⟩
      have c0 := hw1.c (j := 0) rfl
      have c1 := hw1.c (j := 1) rfl
      have c2 := hw1.c (j := 2) rfl
      have d0 := hw2.c (j := 0) rfl
      have d1 := hw2.c (j := 1) rfl
      go_simp
      try with_reducible rfl
    simp only [Act.put, List.getElem_toArray, List.getElem_cons_zero, List.getElem_cons_succ, List.setIfInBounds_toArray, List.set_cons_zero, List.set_cons_succ]
  refine NoPanic.normal ?_
  go_wp2
  go_ret
  exact ⟨rfl, hC5⟩

set_option maxHeartbeats 1000000 in
theorem fails_yes (t n : Int) (kd a x : Int) (w : World) (H : ∀ W, Calls Try.prog 11 #[stV t n none 0 0, .int .i64 kd, .int .i64 a, .int .i64 0] W (Says (ansV 0 0 0 0 x) W)) :
    Calls Try.prog 19 #[stV t n none 0 0, .int .i64 kd, .int .i64 a, .int .i64 x] w (Yes w) := by
  have he : ∀ w', (binOp .eql 28 (.agg #[.int .i64 0, .int .i64 0]) (.agg #[.int .i64 0, .int .i64 0])).run Try.prog w' = .ok (.bool true) w' := fun w' => (eql_ret w' 0 0 0 0).trans (by rw [sameRet_self])
  have hx : (x == x) = true := by simp
  have hB0 := alloc1 w (.cells #[.int .i64 t, .int .i64 n, .slice none 0 0] 24)
  unfold stV at *
  go_enter Try.func19, Try.ntmps19
  go_wp2_with fail
  refine (H _).mono ?_
  rintro e w1 ⟨rfl, hB1⟩
  unfold ansV stV retV
  have hC1 := onto hB0 hB1
  have hB2 : Below w1.heap.size w1 ((w1.alloc (.cells #[.int .i64 0, .int .i64 0, .slice none 0 0] 24)).alloc (.cells #[.int .i64 0, .int .i64 0] 28)) := (alloc1 w1 _).alloc (by simp) _
  have hC2 := onto hC1 hB2
  have HR2 := Lib.hid (new_second w1 (.cells #[.int .i64 0, .int .i64 0, .slice none 0 0] 24) 28 #[.int .i64 0, .int .i64 0])
  have H2 := samest_any 0 0 0 0 none none 0 0 [] [] ((w1.alloc (.cells #[.int .i64 0, .int .i64 0, .slice none 0 0] 24)).alloc (.cells #[.int .i64 0, .int .i64 0] 28)) (ints_nil _ _) (ints_nil _ _) (by simp)
  rw [same_iff.2 ⟨rfl, rfl, rfl⟩] at H2
  unfold stV at H2
  go_wp2_with fail
  refine H2.mono ?_
  rintro e w3 ⟨rfl, hB3⟩
  have hC3 := onto hC2 hB3
  have HR3 := HR2.out.below hB3 HR2.out.lt
  have a0 := HR3.c (j := 0) rfl
  have a1 := HR3.c (j := 1) rfl
  clear HR2 hB2 hB3
  go_wp2
  go_ret
  exact ⟨rfl, hC3⟩
theorem ranges_yes (kd a ret f t : Int) (b : Bool) (w : World) (ha : Small a) (hr : Small ret) (h : rangeP kd a ret = (f, t, b)) :
    Calls Try.prog 21 #[.int .i64 kd, .int .i64 a, .int .i64 ret, .int .i64 f, .int .i64 t, .bool b] w (Yes w) := by
  have H := fun W => range_any kd a ret W ha hr
  rw [h] at H
  clear h ha hr
  unfold rangeV at H
  have h1 : (f == f) = true := by simp
  have h2 : (t == t) = true := by simp
  have h3 : (b == b) = true := by simp
  go_enter Try.func21, Try.ntmps21
  go_wp2_with fail
  refine (H _).mono ?_
  rintro e w1 ⟨rfl, hB1⟩
  go_wp2
  go_ret
  exact ⟨by simp, hB1⟩
end Go.Proofs.Ytpnclppjmgeddaa
