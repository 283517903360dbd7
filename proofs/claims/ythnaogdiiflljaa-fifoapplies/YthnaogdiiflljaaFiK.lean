/- FifoApplies. -/
import Derived.Test.YthnaogdiiflljaaFiJ
namespace Go.Proofs.Ythnaogdiiflljaa
open Go.RowKit Go.Maps
set_option linter.unusedVariables false
set_option linter.unusedSimpArgs false

theorem fifo_len (l : List Int) (k x : Int) : (fifoL l k x).length ≤ l.length + 1 := by
  unfold fifoL
  split
  · simp
  · split <;> simp; omega
theorem isq_yes {t n : Int} (h : isQ t n = true) : t = 4 ∧ n = 0 := by
  unfold isQ at h; simpa using h
theorem isq_no {t n : Int} (h : isQ t n = false) (ht : t = 4) : n ≠ 0 := by
  subst ht; unfold isQ at h; simpa using h
theorem fapply_both (t n : Int) (l : List Int) (kd a b : Int) (hl : l.length ≤ 800) : ∃ (t' : Int) (m : List Int) (k r e : Int), m.length ≤ 1000 ∧
    (∀ A c W, Ints W A l → Calls Try.prog 10 #[stV t n A l.length c, .int .i64 kd, .int .i64 a, .int .i64 b] W (SetPost t' m k r e W)) ∧
    (∀ A c W, Ints W A l → Calls Try.prog 11 #[stV t n A l.length c, .int .i64 kd, .int .i64 a, .int .i64 b] W (ReadPost t' m k r e W)) := by
  have h10 : l.length ≤ 1000 := by omega
  cases hq : isQ t n with
  | false =>
    refine ⟨0, [], 0, 0, 12, by simp, fun A c W hA => fapply_no t n A c l kd a b W hA h10 hq, fun A c W hA => ?_⟩
    by_cases ht : t = 4
    · have hn := isq_no hq ht
      subst ht
      exact rfapply_form n A c l kd a b W hA h10 hn
    · exact rfapply_state t n A c l kd a b W ht
  | true =>
    obtain ⟨rfl, rfl⟩ := isq_yes hq
    by_cases k1 : kd < 10
    · exact ⟨0, [], 0, 0, 6, by simp, fun A c W hA => fapply_word A c l kd a b W hA h10 k1, fun A c W hA => rfapply_word A c l kd a b W hA h10 k1⟩
    · by_cases k2 : 12 < kd
      · exact ⟨0, [], 0, 0, 6, by simp, fun A c W hA => fapply_word2 A c l kd a b W hA h10 k2, fun A c W hA => rfapply_word2 A c l kd a b W hA h10 k2⟩
      · by_cases hb : b = 0
        · by_cases k3 : kd = 10
          · subst k3 hb
            exact ⟨4, fifoL l 10 a, fifoK l 10, fifoN l 10, 0, by have := fifo_len l 10 a; omega, fun A c W hA => fapply_enq A c l a W hA h10, fun A c W hA => rfapply_enq A c l a W hA hl⟩
          · by_cases ha : a = 0
            · subst ha hb
              obtain rfl | rfl : kd = 11 ∨ kd = 12 := by omega
              · refine ⟨4, fifoL l 11 0, fifoK l 11, fifoN l 11, 0, by have := fifo_len l 11 0; omega, fun A c W hA => fapply_deq A c l W hA h10, fun A c W hA => ?_⟩
                cases l with
                | nil => exact rfapply_none A c W hA
                | cons y r => exact rfapply_deq A c (y :: r) y W hA hl rfl
              · exact ⟨4, fifoL l 12 0, fifoK l 12, fifoN l 12, 0, by have := fifo_len l 12 0; omega, fun A c W hA => fapply_len A c l W hA h10, fun A c W hA => rfapply_len A c l W hA hl⟩
            · exact ⟨0, [], 0, 0, 2, by simp, fun A c W hA => fapply_arg2 A c l kd a b W hA h10 (by omega) (by omega) ha hb, fun A c W hA => rfapply_arg2 A c l kd a b W hA h10 (by omega) (by omega) ha hb⟩
        · exact ⟨0, [], 0, 0, 2, by simp, fun A c W hA => fapply_arg A c l kd a b W hA h10 (by omega) (by omega) hb, fun A c W hA => rfapply_arg A c l kd a b W hA h10 (by omega) (by omega) hb⟩

set_option maxHeartbeats 2000000 in
theorem fapplies_law (t n : Int) (A : Option Addr) (c : Nat) (l : List Int) (kd a b : Int) (w : World) (hA : Ints w A l) (hm : l.length ≤ maxLen) :
    Calls Try.prog 3 #[stV t n A l.length c, .int .i64 kd, .int .i64 a, .int .i64 b] w (Yes w) := by
  have hB0 := alloc1 w (.cells #[.int .i64 t, .int .i64 n, .slice A l.length c] 24)
  unfold maxLen at hm
  by_cases hl : 60 < l.length
  · unfold stV
    go_enter Try.func3, Try.ntmps3
    go_wp2_with fail
    refine (awake_yes _).mono ?_
    rintro e w1 ⟨rfl, hB1⟩
    go_wp2
    go_ret
    exact ⟨rfl, onto hB0 hB1⟩
  · obtain ⟨t', m, k, r, x, hm', HP, HR⟩ := fapply_both t n l kd a b (by omega)
    have HS := Lib.hid (Holds.new w 24 #[.int .i64 t, .int .i64 n, .slice A l.length c])
    have HC := copyst_any t n A c l _ (hA.below hB0) (by omega)
    have HA := Lib.hid (hA.below hB0)
    unfold CopyStPost at HC
    unfold SetPost ReadPost at *
    unfold stV at *
    clear hA
    go_enter Try.func3, Try.ntmps3
    go_wp2_with fail
    refine HC.mono ?_
    rintro e w1 ⟨A1, c1, rfl, hr1, hB1⟩
    have hfit := row_fit hr1
    have hI1 := Lib.hid (own_ints rfl hr1)
    have hc1 := Lib.hid (HA.out.below hB1)
    have HS1 := Lib.hid (HS.out.below hB1 HS.out.lt)
    have hC1 := onto hB0 hB1
    clear hr1 HC
    go_wp2_with fail
    have hB1a := alloc1 w1 (.cells #[.int .i64 t, .int .i64 n, .slice A1 l.length c1] 24)
    have HI := Lib.hid (Holds.new w1 24 #[.int .i64 t, .int .i64 n, .slice A1 l.length c1])
    have HP1 := HP A1 c1 _ (hI1.out.below hB1a)
    replace HS1 := Lib.hid (HS1.out.below hB1a HS1.out.lt)
    replace hI1 := Lib.hid (hI1.out.below hB1a)
    replace hc1 := Lib.hid (hc1.out.below hB1a)
    replace hC1 := onto hC1 hB1a
    refine HP1.mono ?_
    rintro e w2 ⟨X, cX, rfl, hX, hB2⟩
    generalize w1.alloc (.cells #[.int .i64 t, .int .i64 n, .slice A1 l.length c1] 24) = W1 at *
    unfold retV
    have hB2a : Below w2.heap.size w2 ((w2.alloc (.cells #[.int .i64 t', .int .i64 0, .slice X m.length cX] 24)).alloc (.cells #[.int .i64 k, .int .i64 r] 28)) := (alloc1 w2 _).alloc (by simp) _
    have HX2 := Lib.hid ((Holds.new w2 24 #[.int .i64 t', .int .i64 0, .slice X m.length cX]).alloc (.cells #[.int .i64 k, .int .i64 r] 28))
    have HR2 := Lib.hid (Holds.new (w2.alloc (.cells #[.int .i64 t', .int .i64 0, .slice X m.length cX] 24)) 28 #[.int .i64 k, .int .i64 r])
    rw [World.size_alloc] at HR2
    have hX2 := Lib.hid (row_below hX hB2a)
    have hD2 := onto hB2 hB2a
    have HS2 := HS1.out.below hD2 HS1.out.lt
    have s20 := HS2.c (j := 0) rfl
    have s21 := HS2.c (j := 1) rfl
    have s22 := HS2.c (j := 2) rfl
    have HR := HR A c _ (hc1.out.below hD2)
    clear hB2 HP1 hB1 hB1a HS2 hX
    go_wp2_with fail
    refine HR.mono ?_
    rintro e w3 ⟨Y, cY, rfl, hY, hB3⟩
    generalize (w2.alloc (.cells #[.int .i64 t', .int .i64 0, .slice X m.length cX] 24)).alloc (.cells #[.int .i64 k, .int .i64 r] 28) = W2 at *
    unfold retV
    have hB3a : Below w3.heap.size w3 ((w3.alloc (.cells #[.int .i64 t', .int .i64 0, .slice Y m.length cY] 24)).alloc (.cells #[.int .i64 k, .int .i64 r] 28)) := (alloc1 w3 _).alloc (by simp) _
    have HQ3 := Lib.hid (Holds.new (w3.alloc (.cells #[.int .i64 t', .int .i64 0, .slice Y m.length cY] 24)) 28 #[.int .i64 k, .int .i64 r])
    rw [World.size_alloc] at HQ3
    have hE3 := onto hB3 hB3a
    have HX3 := Lib.hid (HX2.out.below hE3 HX2.out.lt)
    have HR3 := Lib.hid (HR2.out.below hE3 HR2.out.lt)
    have hX3 := Lib.hid (row_below hX2.out hE3)
    have hD3 := onto hD2 hE3
    have x30 := HX3.out.c (j := 0) rfl
    have x31 := HX3.out.c (j := 1) rfl
    have x32 := HX3.out.c (j := 2) rfl
    have H4 := samest_any t' 0 t' 0 X Y cX cY m m ((w3.alloc (.cells #[.int .i64 t', .int .i64 0, .slice Y m.length cY] 24)).alloc (.cells #[.int .i64 k, .int .i64 r] 28)) (own_ints rfl hX3.out) (hY.below hB3a) hm'
    rw [same_iff.2 ⟨rfl, rfl, rfl⟩] at H4
    unfold stV at H4
    clear hB3 hB3a hB2a HX2 HR2 s20 s21 s22 HR hY hX2
    go_wp2_with fail
    refine H4.mono ?_
    rintro e w4 ⟨rfl, hB4⟩
    generalize (w3.alloc (.cells #[.int .i64 t', .int .i64 0, .slice Y m.length cY] 24)).alloc (.cells #[.int .i64 k, .int .i64 r] 28) = W3 at *
    have HR4 := Lib.hid (HR3.out.below hB4 HR3.out.lt)
    have HQ4 := Lib.hid (HQ3.out.below hB4 HQ3.out.lt)
    have HX4 := Lib.hid (HX3.out.below hB4 HX3.out.lt)
    have hX4 := Lib.hid (row_below hX3.out hB4)
    have hD4 := onto hD3 hB4
    have r40 := HR4.out.c (j := 0) rfl
    have r41 := HR4.out.c (j := 1) rfl
    have q40 := HQ4.out.c (j := 0) rfl
    have q41 := HQ4.out.c (j := 1) rfl
    have x40 := HX4.out.c (j := 0) rfl
    have x41 := HX4.out.c (j := 1) rfl
    have x42 := HX4.out.c (j := 2) rfl
    have he := eql_ret w4 k r k r
    rw [sameRet_self] at he
    have hxx : (x == x) = true := by simp
    have HOV := overstate_any t' 0 X cX m.length W1.heap.size _ w4 hX4.out (by omega) hD4.size
    clear HX3 HR3 HQ3 x30 x31 x32 H4 hX3
    go_wp2_with fail
    refine HOV.mono ?_
    rintro e w5 ⟨rfl, hB5⟩
    have hD5 := hD4.trans hB5
    have HS5 := HS1.out.below hD5 HS1.out.lt
    have HI5 := HI.out.below hD5 HI.out.lt
    have s50 := HS5.c (j := 0) rfl
    have s51 := HS5.c (j := 1) rfl
    have s52 := HS5.c (j := 2) rfl
    have i50 := HI5.c (j := 0) rfl
    have i51 := HI5.c (j := 1) rfl
    have i52 := HI5.c (j := 2) rfl
    have H5 := samest_any t n t n A1 A c1 c l l w5 (hI1.out.below hD5) (hc1.out.below hD5) (by omega)
    rw [same_iff.2 ⟨rfl, rfl, rfl⟩] at H5
    unfold stV at H5
    have hC5 := nxt hC1 hD5 hC1.size
    clear HOV he r40 r41 q40 q41 x40 x41 x42
    go_wp2_with fail
    refine H5.mono ?_
    rintro e w6 ⟨rfl, hB6⟩
    have hC6 := onto hC5 hB6
    go_wp2_with fail
    refine (awake_yes _).mono ?_
    rintro e w7 ⟨rfl, hB7⟩
    go_wp2
    go_ret
    exact ⟨rfl, onto hC6 hB7⟩
end Go.Proofs.Ythnaogdiiflljaa
