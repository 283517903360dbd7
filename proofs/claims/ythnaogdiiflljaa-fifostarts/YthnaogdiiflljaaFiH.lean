/- The statements' own small functions: of, number, applies, refuses. -/
import Derived.Test.YthnaogdiiflljaaFiG
namespace Go.Proofs.Ythnaogdiiflljaa
open Go.RowKit Go.Maps
set_option linter.unusedVariables false
set_option linter.unusedSimpArgs false

theorem of_any (A : Option Addr) (k c : Nat) (w : World) : Calls Try.prog 20 #[.slice A k c] w (Says (stV 4 0 A k c) w) := by
  go_enter Try.func20, Try.ntmps20
  go_wp2
  refine bodyPost_ret (v := stV 4 0 A k c) (by simp [results, Try.f20, go_sem, stV]) rfl ?_
  exact ⟨rfl, alloc1 w _⟩
theorem number_any (n : Int) (w : World) : Calls Try.prog 22 #[.int .i64 n] w (Says (retV 2 n) w) := by
  go_enter Try.func22, Try.ntmps22
  go_wp2
  refine bodyPost_ret (v := retV 2 n) (by simp [results, Try.f22, go_sem, retV]) rfl ?_
  exact ⟨rfl, alloc1 w _⟩

abbrev boxedA (w : World) (A : Option Addr) (k c : Nat) (B : Option Addr) (m d : Nat) (r n : Int) : World := ((w.alloc (.cells #[.int .i64 4, .int .i64 0, .slice A k c] 24)).alloc (.cells #[.int .i64 4, .int .i64 0, .slice B m d] 24)).alloc (.cells #[.int .i64 r, .int .i64 n] 28)
theorem boxedA_below (w : World) (A : Option Addr) (k c : Nat) (B : Option Addr) (m d : Nat) (r n : Int) : Below w.heap.size w (boxedA w A k c B m d r n) := ((alloc1 w _).alloc (by simp) _).alloc (by simp; omega) _
theorem boxedA_want (w : World) (A : Option Addr) (k c : Nat) (B : Option Addr) (m d : Nat) (r n : Int) : Holds (boxedA w A k c B m d r n) (w.heap.size + 1) 24 #[.int .i64 4, .int .i64 0, .slice B m d] := (new_second w _ _ _).alloc _
theorem boxedA_ret (w : World) (A : Option Addr) (k c : Nat) (B : Option Addr) (m d : Nat) (r n : Int) : Holds (boxedA w A k c B m d r n) (w.heap.size + 1 + 1) 28 #[.int .i64 r, .int .i64 n] := by
  have := Holds.new ((w.alloc (.cells #[.int .i64 4, .int .i64 0, .slice A k c] 24)).alloc (.cells #[.int .i64 4, .int .i64 0, .slice B m d] 24)) 28 #[.int .i64 r, .int .i64 n]
  rwa [World.size_alloc, World.size_alloc] at this

set_option maxHeartbeats 2000000 in
theorem applies_yes (A B : Option Addr) (c d : Nat) (l m : List Int) (kd a k n : Int) (w : World) (hB : Ints w B m) (hm : m.length ≤ 1000)
    (H : ∀ W, Below w.heap.size w W → Calls Try.prog 10 #[stV 4 0 A l.length c, .int .i64 kd, .int .i64 a, .int .i64 0] W (SetPost 4 m k n 0 W)) :
    Calls Try.prog 21 #[stV 4 0 A l.length c, .int .i64 kd, .int .i64 a, stV 4 0 B m.length d, retV k n] w (Yes w) := by
  have he : ∀ w', (binOp .eql 28 (.agg #[.int .i64 k, .int .i64 n]) (.agg #[.int .i64 k, .int .i64 n])).run Try.prog w' = .ok (.bool true) w' := fun w' => (eql_ret w' k n k n).trans (by rw [sameRet_self])
  have HB := Lib.hid hB
  have hB0 := boxedA_below w A l.length c B m.length d k n
  have HW0 := Lib.hid (boxedA_want w A l.length c B m.length d k n)
  have HQ0 := Lib.hid (boxedA_ret w A l.length c B m.length d k n)
  unfold stV retV SetPost at *
  clear hB
  go_enter Try.func21, Try.ntmps21
  go_wp2_with fail
  refine (H _ hB0).mono ?_
  generalize boxedA w A l.length c B m.length d k n = W0 at *
  rintro e w1 ⟨A1, c1, rfl, ho1, hB1⟩
  have HW1 := HW0.out.below hB1 HW0.out.lt
  have HQ1 := HQ0.out.below hB1 HQ0.out.lt
  have hC1 := onto hB0 hB1
  unfold retV stV
  have hB2 : Below w1.heap.size w1 ((w1.alloc (.cells #[.int .i64 4, .int .i64 0, .slice A1 m.length c1] 24)).alloc (.cells #[.int .i64 k, .int .i64 n] 28)) := (alloc1 w1 _).alloc (by simp) _
  have HR2 := Lib.hid (new_second w1 (.cells #[.int .i64 4, .int .i64 0, .slice A1 m.length c1] 24) 28 #[.int .i64 k, .int .i64 n])
  have HW2 := HW1.below hB2 HW1.lt
  have HQ2 := Lib.hid (HQ1.below hB2 HQ1.lt)
  have hC2 := onto hC1 hB2
  have H2 := samest_any 4 0 4 0 A1 B c1 d m m _ ((own_ints rfl ho1).below hB2) (HB.out.below hC2) hm
  rw [same_iff.2 ⟨rfl, rfl, rfl⟩] at H2
  unfold stV at H2
  have q0 := HW2.c (j := 0) rfl
  have q1 := HW2.c (j := 1) rfl
  have q2 := HW2.c (j := 2) rfl
  clear ho1 H HW1 HQ1 HW2
  go_wp2_with fail
  refine H2.mono ?_
  rintro e w3 ⟨rfl, hB3⟩
  have hC3 := onto hC2 hB3
  have HR3 := HR2.out.below hB3 HR2.out.lt
  have HQ3 := HQ2.out.below hB3 HQ2.out.lt
  generalize (w1.alloc (.cells #[.int .i64 4, .int .i64 0, .slice A1 m.length c1] 24)).alloc (.cells #[.int .i64 k, .int .i64 n] 28) = W2 at *
  have a0 := HR3.c (j := 0) rfl
  have a1 := HR3.c (j := 1) rfl
  have b0 := HQ3.c (j := 0) rfl
  have b1 := HQ3.c (j := 1) rfl
  go_wp2
  go_ret
  exact ⟨rfl, hC3⟩

set_option maxHeartbeats 1000000 in
theorem refuses_yes (t n : Int) (A : Option Addr) (k c : Nat) (kd a er : Int) (w : World)
    (H : ∀ W, Below w.heap.size w W → Calls Try.prog 10 #[stV t n A k c, .int .i64 kd, .int .i64 a, .int .i64 0] W (SetPost 0 [] 0 0 er W)) :
    Calls Try.prog 23 #[stV t n A k c, .int .i64 kd, .int .i64 a, .int .i64 er] w (Yes w) := by
  have HE := Lib.hid (eql_ret · 0 0 0 0)
  have hsr := sameRet_self 0 0
  have hx : (er == er) = true := by simp
  have hB0 := alloc1 w (.cells #[.int .i64 t, .int .i64 n, .slice A k c] 24)
  unfold stV SetPost at *
  go_enter Try.func23, Try.ntmps23
  go_wp2_with fail
  refine (H _ hB0).mono ?_
  rintro e w1 ⟨A1, c1, rfl, ho1, hB1⟩
  have hC1 := onto hB0 hB1
  unfold retV stV
  simp only [List.length_nil]
  have hB2 : Below w1.heap.size w1 ((w1.alloc (.cells #[.int .i64 0, .int .i64 0, .slice A1 0 c1] 24)).alloc (.cells #[.int .i64 0, .int .i64 0] 28)) := (alloc1 w1 _).alloc (by simp) _
  have hC2 := onto hC1 hB2
  have H2 := samest_any 0 0 0 0 A1 none c1 0 [] [] ((w1.alloc (.cells #[.int .i64 0, .int .i64 0, .slice A1 0 c1] 24)).alloc (.cells #[.int .i64 0, .int .i64 0] 28)) (ints_nil _ _) (ints_nil _ _) (by simp)
  rw [same_iff.2 ⟨rfl, rfl, rfl⟩] at H2
  unfold stV at H2
  have he : ∀ w', (binOp .eql 28 (.agg #[.int .i64 0, .int .i64 0]) (.agg #[.int .i64 0, .int .i64 0])).run Try.prog w' = .ok (.bool true) w' := fun w' => (HE.out w').trans (by rw [hsr])
  clear hsr ho1 H
  go_wp2_with fail
  refine H2.mono ?_
  rintro e w3 ⟨rfl, hB3⟩
  go_wp2
  go_ret
  exact ⟨rfl, onto hC2 hB3⟩
end Go.Proofs.Ythnaogdiiflljaa
