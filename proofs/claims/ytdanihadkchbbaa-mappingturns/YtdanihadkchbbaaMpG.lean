/- The statements' own small functions: of, none, told, does, fails. -/
import Derived.Test.YtdanihadkchbbaaMpF
namespace Go.Proofs.Ytdanihadkchbbaa
open Go.RowKit Go.Maps
set_option linter.unusedVariables false
set_option linter.unusedSimpArgs false

theorem of_any (A : Option Addr) (k c : Nat) (w : World) : Calls Try.prog 25 #[.slice A k c] w (Says (stV 3 0 A k c) w) := by
  go_enter Try.func25, Try.ntmps25
  go_wp2
  refine bodyPost_ret (v := stV 3 0 A k c) (by simp [results, Try.f25, go_sem, stV]) rfl ?_
  exact ⟨rfl, alloc1 w _⟩
theorem none_any (w : World) : Calls Try.prog 26 #[] w (Says (retV 1 0) w) := by
  go_enter Try.func26, Try.ntmps26
  go_wp2
  refine bodyPost_ret (v := retV 1 0) (by simp [results, Try.f26, go_sem, retV]) rfl ?_
  exact ⟨rfl, alloc1 w _⟩
theorem told_any (n : Int) (w : World) : Calls Try.prog 27 #[.int .i64 n] w (Says (retV 2 n) w) := by
  go_enter Try.func27, Try.ntmps27
  go_wp2
  refine bodyPost_ret (v := retV 2 n) (by simp [results, Try.f27, go_sem, retV]) rfl ?_
  exact ⟨rfl, alloc1 w _⟩

set_option maxHeartbeats 2000000 in
theorem does_yes (A B : Option Addr) (c d : Nat) (l m : List Int) (kd a b k n : Int) (w : World) (hB : Ints w B m) (hm : m.length ≤ 1000)
    (H : ∀ W, Below w.heap.size w W → Calls Try.prog 20 #[stV 3 0 A l.length c, .int .i64 kd, .int .i64 a, .int .i64 b] W (SetPost 3 m k n 0 W)) :
    Calls Try.prog 24 #[stV 3 0 A l.length c, .int .i64 kd, .int .i64 a, .int .i64 b, retV k n, .slice B m.length d] w (Yes w) := by
  have he : ∀ w', (binOp .eql 38 (.agg #[.int .i64 k, .int .i64 n]) (.agg #[.int .i64 k, .int .i64 n])).run Try.prog w' = .ok (.bool true) w' := fun w' => (eql_ret w' k n k n).trans (by rw [sameRet_self])
  have HB := Lib.hid hB
  have hB0 : Below w.heap.size w ((w.alloc (.cells #[.int .i64 3, .int .i64 0, .slice A l.length c] 26)).alloc (.cells #[.int .i64 k, .int .i64 n] 38)) := (alloc1 w _).alloc (by simp) _
  have HQ0 := Lib.hid (new_second w (.cells #[.int .i64 3, .int .i64 0, .slice A l.length c] 26) 38 #[.int .i64 k, .int .i64 n])
  have HOF := fun W => of_any B m.length d W
  unfold stV retV SetPost at *
  clear hB
  go_enter Try.func24, Try.ntmps24
  go_wp2_with fail
  refine (H _ hB0).mono ?_
  generalize (w.alloc (.cells #[.int .i64 3, .int .i64 0, .slice A l.length c] 26)).alloc (.cells #[.int .i64 k, .int .i64 n] 38) = W0 at *
  rintro e w1 ⟨A1, c1, rfl, ho1, hB1⟩
  have HQ1 := HQ0.out.below hB1 HQ0.out.lt
  have hC1 := onto hB0 hB1
  unfold retV stV
  have hB2 : Below w1.heap.size w1 ((w1.alloc (.cells #[.int .i64 3, .int .i64 0, .slice A1 m.length c1] 26)).alloc (.cells #[.int .i64 k, .int .i64 n] 38)) := (alloc1 w1 _).alloc (by simp) _
  have HR2 := new_second w1 (.cells #[.int .i64 3, .int .i64 0, .slice A1 m.length c1] 26) 38 #[.int .i64 k, .int .i64 n]
  have HX2 := (Holds.new w1 26 #[.int .i64 3, .int .i64 0, .slice A1 m.length c1]).alloc (.cells #[.int .i64 k, .int .i64 n] 38)
  have HQ2 := HQ1.below hB2 HQ1.lt
  have hC2 := onto hC1 hB2
  have HI1 := Lib.hid ((own_ints rfl ho1).below hB2)
  have HI2 := Lib.hid (HB.out.below hC2)
  clear ho1 H HQ1
  go_wp2_with fail
  refine wp_region_noPanic ?_
  generalize (w1.alloc (.cells #[.int .i64 3, .int .i64 0, .slice A1 m.length c1] 26)).alloc (.cells #[.int .i64 k, .int .i64 n] 38) = W2 at *
  refine wp_region_picked [(0, true), (1, true), (2, true), (3, true), (4, true), (5, true), (6, true), (7, true), (8, true), (9, true), (10, false), (11, false), (12, true), (13, true)] (fun W' => Holds W' w1.heap.size 26 #[.int .i64 3, .int .i64 0, .slice A1 m.length c1] ∧ Holds W' (w1.heap.size + 1) 38 #[.int .i64 k, .int .i64 n] ∧ Holds W' (w.heap.size + 1) 38 #[.int .i64 k, .int .i64 n]) (by kernel_rfl) (by kernel_rfl) (fun _ _ _ _ _ h => h) ⟨HX2, HR2, HQ2⟩ ?_
  iterate 10
    refine Picked.take ?_ (by rfl) (by rfl) ?_ ?_
    rotate_left
    · rintro w' ⟨h1, h2, h3⟩
      have a0 := h1.c (j := 0) rfl
      have a1 := h1.c (j := 1) rfl
      have a2 := h1.c (j := 2) rfl
      have b0 := h2.c (j := 0) rfl
      have b1 := h2.c (j := 1) rfl
      have d0 := h3.c (j := 0) rfl
      have d1 := h3.c (j := 1) rfl
      go_simp
      try with_reducible rfl
    simp only [Act.put, List.getElem_toArray, List.getElem_cons_zero, List.getElem_cons_succ, List.setIfInBounds_toArray, List.set_cons_zero, List.set_cons_succ]
  refine Picked.call 25 #[.slice B m.length d] (by rfl) (by rfl) (by go_simp) ?_
  refine (HOF W2.drew).mono ?_
  rintro e w3 ⟨rfl, hB3⟩
  have hB3' : Below W2.heap.size W2 w3 := (Below.refl W2.heap.size W2).drew.trans hB3
  have hX3 := HX2.below hB3' HX2.lt
  have hR3 := HR2.below hB3' HR2.lt
  have hQ3 := HQ2.below hB3' HQ2.lt
  refine ⟨_, rfl, ⟨hX3, hR3, hQ3⟩, ?_⟩
  simp only [Act.put, List.getElem_toArray, List.getElem_cons_zero, List.getElem_cons_succ, List.setIfInBounds_toArray, List.set_cons_zero, List.set_cons_succ]
  have H2 := samest_any 3 0 3 0 A1 B c1 d m m w3 (HI1.out.below hB3') (HI2.out.below hB3') hm
  rw [same_iff.2 ⟨rfl, rfl, rfl⟩] at H2
  unfold stV at H2
  refine Picked.call 22 #[.agg #[.int .i64 3, .int .i64 0, .slice A1 m.length c1], .agg #[.int .i64 3, .int .i64 0, .slice B m.length d]] (by rfl) (by rfl) (by go_simp) ?_
  refine H2.mono ?_
  rintro e w4 ⟨rfl, hB4⟩
  refine ⟨_, rfl, ⟨hX3.below hB4 hX3.lt, hR3.below hB4 hR3.lt, hQ3.below hB4 hQ3.lt⟩, ?_⟩
  simp only [Act.put, List.getElem_toArray, List.getElem_cons_zero, List.getElem_cons_succ, List.setIfInBounds_toArray, List.set_cons_zero, List.set_cons_succ]
  have hC4 := onto (onto hC2 hB3') hB4
  iterate 2
    refine Picked.take (.bool true) (by rfl) (by rfl) (fun w' _ => by go_simp) ?_
    simp only [Act.put, List.getElem_toArray, List.getElem_cons_zero, List.getElem_cons_succ, List.setIfInBounds_toArray, List.set_cons_zero, List.set_cons_succ]
  refine NoPanic.normal ?_
  go_wp2
  go_ret
  exact ⟨rfl, hC4⟩

set_option maxHeartbeats 1000000 in
theorem fails_yes (t n : Int) (A : Option Addr) (k c : Nat) (kd a b er : Int) (w : World)
    (H : ∀ W, Below w.heap.size w W → Calls Try.prog 20 #[stV t n A k c, .int .i64 kd, .int .i64 a, .int .i64 b] W (SetPost 0 [] 0 0 er W)) :
    Calls Try.prog 28 #[stV t n A k c, .int .i64 kd, .int .i64 a, .int .i64 b, .int .i64 er] w (Yes w) := by
  have HE := Lib.hid (eql_ret · 0 0 0 0)
  have hsr := sameRet_self 0 0
  have hx : (er == er) = true := by simp
  have hB0 := alloc1 w (.cells #[.int .i64 t, .int .i64 n, .slice A k c] 26)
  unfold stV SetPost at *
  go_enter Try.func28, Try.ntmps28
  go_wp2_with fail
  refine (H _ hB0).mono ?_
  rintro e w1 ⟨A1, c1, rfl, ho1, hB1⟩
  have hC1 := onto hB0 hB1
  unfold retV stV
  simp only [List.length_nil]
  have hB2 : Below w1.heap.size w1 ((w1.alloc (.cells #[.int .i64 0, .int .i64 0, .slice A1 0 c1] 26)).alloc (.cells #[.int .i64 0, .int .i64 0] 38)) := (alloc1 w1 _).alloc (by simp) _
  have hC2 := onto hC1 hB2
  have HR2 := Lib.hid (new_second w1 (.cells #[.int .i64 0, .int .i64 0, .slice A1 0 c1] 26) 38 #[.int .i64 0, .int .i64 0])
  have H2 := samest_any 0 0 0 0 A1 none c1 0 [] [] ((w1.alloc (.cells #[.int .i64 0, .int .i64 0, .slice A1 0 c1] 26)).alloc (.cells #[.int .i64 0, .int .i64 0] 38)) (ints_nil _ _) (ints_nil _ _) (by simp)
  rw [same_iff.2 ⟨rfl, rfl, rfl⟩] at H2
  unfold stV at H2
  have he : ∀ w', (binOp .eql 38 (.agg #[.int .i64 0, .int .i64 0]) (.agg #[.int .i64 0, .int .i64 0])).run Try.prog w' = .ok (.bool true) w' := fun w' => (HE.out w').trans (by rw [hsr])
  clear hsr ho1 H
  go_wp2_with fail
  refine H2.mono ?_
  rintro e w3 ⟨rfl, hB3⟩
  have HR3 := HR2.out.below hB3 HR2.out.lt
  have a0 := HR3.c (j := 0) rfl
  have a1 := HR3.c (j := 1) rfl
  go_wp2
  go_ret
  exact ⟨rfl, onto hC2 hB3⟩
end Go.Proofs.Ytdanihadkchbbaa
