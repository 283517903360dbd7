/- Apply, the program's and the document's, side by side; EscrowApplies. -/
import Derived.Test.YtpnclppjmgeddaaEsG
import Derived.Test.YtpnclppjmgeddaaEsS
namespace Go.Proofs.Ytpnclppjmgeddaa
open Go.RowKit Go.Maps
set_option linter.unusedVariables false

theorem eapply_both (t n : Int) (l : List Int) (kd a b : Int) (hl : l.length ≤ 1000) (hs : Small a) : ∃ t' n' k r e : Int,
    (∀ A c W, Ints W A l → Calls Try.prog 11 #[stV t n A l.length c, .int .i64 kd, .int .i64 a, .int .i64 b] W (Says (ansV t' n' k r e) W)) ∧
    (∀ A c W, Ints W A l → Calls Try.prog 12 #[stV t n A l.length c, .int .i64 kd, .int .i64 a, .int .i64 b] W (Says (ansV t' n' k r e) W)) :=
  ⟨_, _, _, _, _, fun A c W hA => eapply_any t n A c l kd a b W hA hl hs, fun A c W hA => rapply_any t n A c l kd a b W hA hl⟩

set_option maxHeartbeats 2000000 in
theorem applies_law (t n : Int) (A : Option Addr) (c : Nat) (l : List Int) (kd a b : Int) (w : World) (hA : Ints w A l) (hm : l.length ≤ maxLen) (hs : Small a) :
    Calls Try.prog 3 #[stV t n A l.length c, .int .i64 kd, .int .i64 a, .int .i64 b] w (Yes w) := by
  have hB0 := alloc1 w (.cells #[.int .i64 t, .int .i64 n, .slice A l.length c] 24)
  unfold maxLen at hm
  by_cases hl : 100 < l.length
  · unfold stV
    go_enter Try.func3, Try.ntmps3
    go_wp2_with fail
    refine (awake_yes _).mono ?_
    rintro e w1 ⟨rfl, hB1⟩
    go_wp2
    go_ret
    exact ⟨rfl, onto hB0 hB1⟩
  · obtain ⟨t', n', k, r, x, HP, HR⟩ := eapply_both t n l kd a b (by omega) hs
    have HS := Lib.hid (Holds.new w 24 #[.int .i64 t, .int .i64 n, .slice A l.length c])
    have HC := copyst_any t n A c l _ (hA.below hB0) (by omega)
    have HA := Lib.hid (hA.below hB0)
    unfold CopyStPost at HC
    unfold stV at *
    clear hA
    go_enter Try.func3, Try.ntmps3
    go_wp2_with fail
    refine HC.mono ?_
    rintro e w1 ⟨A1, c1, rfl, hr1, hB1⟩
    have hI1 := Lib.hid (own_ints rfl hr1)
    have hc1 := Lib.hid (HA.out.below hB1)
    have HS1 := Lib.hid (HS.out.below hB1 HS.out.lt)
    have hC1 := onto hB0 hB1
    clear hr1 HC
    go_wp2_with fail
    have hB1a := alloc1 w1 (.cells #[.int .i64 t, .int .i64 n, .slice A1 l.length c1] 24)
    have HI := Lib.hid (Holds.new w1 24 #[.int .i64 t, .int .i64 n, .slice A1 l.length c1])
    have HP1 := HP A1 c1 _ (hI1.out.below hB1a)
    replace HS1 := Lib.hid (HS1.out.below hB1a HS1.out.lt)
    replace hI1 := Lib.hid (hI1.out.below hB1a)
    replace hc1 := Lib.hid (hc1.out.below hB1a)
    replace hC1 := onto hC1 hB1a
    refine HP1.mono ?_
    rintro e w2 ⟨rfl, hB2⟩
    generalize w1.alloc (.cells #[.int .i64 t, .int .i64 n, .slice A1 l.length c1] 24) = W1 at *
    unfold ansV stV retV
    have hB2a : Below w2.heap.size w2 ((w2.alloc (.cells #[.int .i64 t', .int .i64 n', .slice none 0 0] 24)).alloc (.cells #[.int .i64 k, .int .i64 r] 28)) := (alloc1 w2 _).alloc (by simp) _
    have HX2 := Lib.hid ((Holds.new w2 24 #[.int .i64 t', .int .i64 n', .slice none 0 0]).alloc (.cells #[.int .i64 k, .int .i64 r] 28))
    have HR2 := Lib.hid (Holds.new (w2.alloc (.cells #[.int .i64 t', .int .i64 n', .slice none 0 0] 24)) 28 #[.int .i64 k, .int .i64 r])
    rw [World.size_alloc] at HR2
    have HS2 := Lib.hid ((HS1.out.below hB2 HS1.out.lt).below hB2a (HS1.out.below hB2 HS1.out.lt).lt)
    have HI2 := Lib.hid ((HI.out.below hB2 HI.out.lt).below hB2a (HI.out.below hB2 HI.out.lt).lt)
    have hI2 := Lib.hid ((hI1.out.below hB2).below hB2a)
    have hc2 := Lib.hid ((hc1.out.below hB2).below hB2a)
    have hC2 := onto (onto hC1 hB2) hB2a
    have s20 := HS2.out.c (j := 0) rfl
    have s21 := HS2.out.c (j := 1) rfl
    have s22 := HS2.out.c (j := 2) rfl
    have HR := HR A c _ hc2.out
    clear hB2 HP1 HS1 hI1 hc1 HI hB1 hB1a
    go_wp2_with fail
    refine HR.mono ?_
    rintro e w3 ⟨rfl, hB3⟩
    generalize (w2.alloc (.cells #[.int .i64 t', .int .i64 n', .slice none 0 0] 24)).alloc (.cells #[.int .i64 k, .int .i64 r] 28) = W2 at *
    unfold ansV stV retV
    have hB3a : Below w3.heap.size w3 ((w3.alloc (.cells #[.int .i64 t', .int .i64 n', .slice none 0 0] 24)).alloc (.cells #[.int .i64 k, .int .i64 r] 28)) := (alloc1 w3 _).alloc (by simp) _
    have HY3 := Lib.hid ((Holds.new w3 24 #[.int .i64 t', .int .i64 n', .slice none 0 0]).alloc (.cells #[.int .i64 k, .int .i64 r] 28))
    have HQ3 := Lib.hid (Holds.new (w3.alloc (.cells #[.int .i64 t', .int .i64 n', .slice none 0 0] 24)) 28 #[.int .i64 k, .int .i64 r])
    rw [World.size_alloc] at HQ3
    have HX3 := Lib.hid ((HX2.out.below hB3 HX2.out.lt).below hB3a (HX2.out.below hB3 HX2.out.lt).lt)
    have HR3 := Lib.hid ((HR2.out.below hB3 HR2.out.lt).below hB3a (HR2.out.below hB3 HR2.out.lt).lt)
    have HS3 := Lib.hid ((HS2.out.below hB3 HS2.out.lt).below hB3a (HS2.out.below hB3 HS2.out.lt).lt)
    have HI3 := Lib.hid ((HI2.out.below hB3 HI2.out.lt).below hB3a (HI2.out.below hB3 HI2.out.lt).lt)
    have hI3 := Lib.hid ((hI2.out.below hB3).below hB3a)
    have hc3 := Lib.hid ((hc2.out.below hB3).below hB3a)
    have hC3 := onto (onto hC2 hB3) hB3a
    have x30 := HX3.out.c (j := 0) rfl
    have x31 := HX3.out.c (j := 1) rfl
    have x32 := HX3.out.c (j := 2) rfl
    have H4 := samest_any t' n' t' n' none none 0 0 [] [] ((w3.alloc (.cells #[.int .i64 t', .int .i64 n', .slice none 0 0] 24)).alloc (.cells #[.int .i64 k, .int .i64 r] 28)) (ints_nil _ _) (ints_nil _ _) (by simp)
    rw [same_iff.2 ⟨rfl, rfl, rfl⟩] at H4
    unfold stV at H4
    clear hB3 hB3a hB2a HS2 HI2 hI2 hc2 HX2 HR2 s20 s21 s22 HR
    go_wp2_with fail
    refine H4.mono ?_
    rintro e w4 ⟨rfl, hB4⟩
    generalize (w3.alloc (.cells #[.int .i64 t', .int .i64 n', .slice none 0 0] 24)).alloc (.cells #[.int .i64 k, .int .i64 r] 28) = W3 at *
    have HR4 := Lib.hid (HR3.out.below hB4 HR3.out.lt)
    have HQ4 := Lib.hid (HQ3.out.below hB4 HQ3.out.lt)
    have HS4 := Lib.hid (HS3.out.below hB4 HS3.out.lt)
    have HI4 := Lib.hid (HI3.out.below hB4 HI3.out.lt)
    have hI4 := Lib.hid (hI3.out.below hB4)
    have hc4 := Lib.hid (hc3.out.below hB4)
    have hC4 := onto hC3 hB4
    have r40 := HR4.out.c (j := 0) rfl
    have r41 := HR4.out.c (j := 1) rfl
    have q40 := HQ4.out.c (j := 0) rfl
    have q41 := HQ4.out.c (j := 1) rfl
    have s40 := HS4.out.c (j := 0) rfl
    have s41 := HS4.out.c (j := 1) rfl
    have s42 := HS4.out.c (j := 2) rfl
    have i40 := HI4.out.c (j := 0) rfl
    have i41 := HI4.out.c (j := 1) rfl
    have i42 := HI4.out.c (j := 2) rfl
    have he := eql_ret w4 k r k r
    rw [sameRet_self] at he
    have hxx : (x == x) = true := by simp
    have H5 := samest_any t n t n A1 A c1 c l l w4 hI4.out hc4.out (by omega)
    rw [same_iff.2 ⟨rfl, rfl, rfl⟩] at H5
    unfold stV at H5
    clear hB4 HS3 HI3 hI3 hc3 HX3 HR3 HQ3 HY3 x30 x31 x32 H4
    go_wp2_with fail
    refine H5.mono ?_
    rintro e w5 ⟨rfl, hB5⟩
    have hC5 := onto hC4 hB5
    go_wp2_with fail
    refine (awake_yes _).mono ?_
    rintro e w6 ⟨rfl, hB6⟩
    go_wp2
    go_ret
    exact ⟨rfl, onto hC5 hB6⟩
end Go.Proofs.Ytpnclppjmgeddaa
