/- The statements' own small functions: of, finds, applies, refuses. -/
import Derived.Test.YtmhnnilfehankaaSeF
namespace Go.Proofs.Ytmhnnilfehankaa
open Go.RowKit Go.Maps
set_option linter.unusedVariables false

theorem onto {a b c : World} (h : Below a.heap.size a b) (k : Below b.heap.size b c) : Below a.heap.size a c := nxt h k h.size
theorem of_any (A : Option Addr) (k c : Nat) (w : World) : Calls Try.prog 26 #[.slice A k c] w (Says (stV 2 0 A k c) w) := by
  go_enter Try.func26, Try.ntmps26
  go_wp2
  refine bodyPost_ret (v := stV 2 0 A k c) (by simp [results, Try.f26, go_sem, stV]) rfl ?_
  exact ⟨rfl, alloc1 w _⟩
theorem finds_yes (A : Option Addr) (c : Nat) (l : List Int) (x : Int) (n : Int) (b : Bool) (w : World) (hA : Ints w A l) (hlen : l.length ≤ 1000) (hr : Rise l) (hn : (low l x : Int) = n) (hb : isIn l x = b) :
    Calls Try.prog 24 #[.slice A l.length c, .int .i64 x, .int .i64 n, .bool b] w (Yes w) := by
  have H := xfind_any A c l x w hA hlen hr
  unfold foundV at H
  rw [hn, hb] at H
  have e1 : (n == n) = true := by simp
  have e2 : (b == b) = true := by simp
  clear hA hn hb
  go_enter Try.func24, Try.ntmps24
  go_wp2_with fail
  refine H.mono ?_
  rintro e w1 ⟨rfl, hB1⟩
  go_wp2
  go_ret
  exact ⟨rfl, hB1⟩

set_option maxHeartbeats 1000000 in
theorem applies_yes (A B : Option Addr) (c d : Nat) (l m : List Int) (kd a n : Int) (w : World) (hB : Ints w B m) (hm : m.length ≤ 1000)
    (H : ∀ W, Below w.heap.size w W → Calls Try.prog 10 #[stV 2 0 A l.length c, .int .i64 kd, .int .i64 a, .int .i64 0] W (SetPost 2 m 2 n 0 W)) :
    Calls Try.prog 25 #[stV 2 0 A l.length c, .int .i64 kd, .int .i64 a, stV 2 0 B m.length d, .int .i64 n] w (Yes w) := by
  have HE := Lib.hid (eql_ret · 2 n 2 n)
  have hsr := sameRet_self 2 n
  have HB := Lib.hid hB
  have hB0 : Below w.heap.size w ((w.alloc (.cells #[.int .i64 2, .int .i64 0, .slice A l.length c] 24)).alloc (.cells #[.int .i64 2, .int .i64 0, .slice B m.length d] 24)) := (alloc1 w _).alloc (by simp) _
  have HW0 := Lib.hid (Holds.new (w.alloc (.cells #[.int .i64 2, .int .i64 0, .slice A l.length c] 24)) 24 #[.int .i64 2, .int .i64 0, .slice B m.length d])
  rw [World.size_alloc] at HW0
  unfold stV SetPost at *
  clear hB
  go_enter Try.func25, Try.ntmps25
  go_wp2_with fail
  refine (H _ hB0).mono ?_
  generalize (w.alloc (.cells #[.int .i64 2, .int .i64 0, .slice A l.length c] 24)).alloc (.cells #[.int .i64 2, .int .i64 0, .slice B m.length d] 24) = W0 at *
  rintro e w1 ⟨A1, c1, rfl, ho1, hB1⟩
  have HW1 := Lib.hid (HW0.out.below hB1 HW0.out.lt)
  have hC1 := onto hB0 hB1
  unfold retV stV
  have hB2 : Below w1.heap.size w1 ((w1.alloc (.cells #[.int .i64 2, .int .i64 0, .slice A1 m.length c1] 24)).alloc (.cells #[.int .i64 2, .int .i64 n] 28)) := (alloc1 w1 _).alloc (by simp) _
  have HR2 := Lib.hid (Holds.new (w1.alloc (.cells #[.int .i64 2, .int .i64 0, .slice A1 m.length c1] 24)) 28 #[.int .i64 2, .int .i64 n])
  rw [World.size_alloc] at HR2
  have HX2 := Lib.hid ((Holds.new w1 24 #[.int .i64 2, .int .i64 0, .slice A1 m.length c1]).alloc (.cells #[.int .i64 2, .int .i64 n] 28))
  have HW2 := Lib.hid (HW1.out.below hB2 HW1.out.lt)
  have hC2 := onto hC1 hB2
  have H2 := samest_any 2 0 2 0 A1 B c1 d m m _ ((own_ints rfl ho1).below hB2) (HB.out.below hC2) hm
  rw [same_iff.2 ⟨rfl, rfl, rfl⟩] at H2
  unfold stV at H2
  have hlt1 := HW1.out.lt
  clear ho1 H
  have q0 := HW2.out.c (j := 0) rfl
  have q1 := HW2.out.c (j := 1) rfl
  have q2 := HW2.out.c (j := 2) rfl
  go_wp2_with fail
  refine H2.mono ?_
  rintro e w3 ⟨rfl, hB3⟩
  have hC3 := onto hC2 hB3
  have HR3 := HR2.out.below hB3 HR2.out.lt
  generalize (w1.alloc (.cells #[.int .i64 2, .int .i64 0, .slice A1 m.length c1] 24)).alloc (.cells #[.int .i64 2, .int .i64 n] 28) = W2 at *
  have a0 := HR3.c (j := 0) rfl
  have a1 := HR3.c (j := 1) rfl
  have he := HE.out w3
  rw [hsr] at he
  clear hsr
  go_wp2
  go_ret
  exact ⟨rfl, hC3⟩

set_option maxHeartbeats 1000000 in
theorem refuses_yes (t n : Int) (A : Option Addr) (k c : Nat) (kd a er : Int) (w : World)
    (H : ∀ W, Below w.heap.size w W → Calls Try.prog 10 #[stV t n A k c, .int .i64 kd, .int .i64 a, .int .i64 0] W (SetPost 0 [] 0 0 er W)) :
    Calls Try.prog 27 #[stV t n A k c, .int .i64 kd, .int .i64 a, .int .i64 er] w (Yes w) := by
  have HE := Lib.hid (eql_ret · 0 0 0 0)
  have hsr := sameRet_self 0 0
  have hx : (er == er) = true := by simp
  have hB0 := alloc1 w (.cells #[.int .i64 t, .int .i64 n, .slice A k c] 24)
  unfold stV SetPost at *
  go_enter Try.func27, Try.ntmps27
  go_wp2_with fail
  refine (H _ hB0).mono ?_
  rintro e w1 ⟨A1, c1, rfl, ho1, hB1⟩
  have hC1 := onto hB0 hB1
  unfold retV stV
  simp only [List.length_nil]
  have hB2 : Below w1.heap.size w1 ((w1.alloc (.cells #[.int .i64 0, .int .i64 0, .slice A1 0 c1] 24)).alloc (.cells #[.int .i64 0, .int .i64 0] 28)) := (alloc1 w1 _).alloc (by simp) _
  have hC2 := onto hC1 hB2
  have H2 := samest_any 0 0 0 0 A1 none c1 0 [] [] ((w1.alloc (.cells #[.int .i64 0, .int .i64 0, .slice A1 0 c1] 24)).alloc (.cells #[.int .i64 0, .int .i64 0] 28)) (ints_nil _ _) (ints_nil _ _) (by simp)
  rw [same_iff.2 ⟨rfl, rfl, rfl⟩] at H2
  unfold stV at H2
  have he : ∀ w', (binOp .eql 28 (.agg #[.int .i64 0, .int .i64 0]) (.agg #[.int .i64 0, .int .i64 0])).run Try.prog w' = .ok (.bool true) w' := fun w' => (HE.out w').trans (by rw [hsr])
  clear hsr ho1 H
  go_wp2_with fail
  refine H2.mono ?_
  rintro e w3 ⟨rfl, hB3⟩
  go_wp2
  go_ret
  exact ⟨rfl, onto hC2 hB3⟩
end Go.Proofs.Ytmhnnilfehankaa
