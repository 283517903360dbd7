/- The document's Range and Room; both sides' answers are the same. -/
import Derived.Test.YtpnclppjmgeddaaEsJ
namespace Go.Proofs.Ytpnclppjmgeddaa
open Go.RowKit Go.Maps
set_option linter.unusedVariables false

theorem rng_none {kd a ret : Int} (h : ¬ (kdB kd = true ∧ mayB kd a = true ∧ first kd a ret ≠ behind kd a ret)) : rangeP kd a ret = (0, 0, false) := if_neg h
theorem rng_some {kd a ret x y : Int} (h1 : kdB kd = true) (h2 : mayB kd a = true) (hf : first kd a ret = x) (hb : behind kd a ret = y + 1) (hn : x ≠ y + 1) : rangeP kd a ret = (x, y, true) := by
  unfold rangeP
  rw [if_pos ⟨h1, h2, by rw [hf, hb]; exact hn⟩, hf, hb]
  simp
def RangeIs (p : Int × Int × Bool) (w : World) (e : Ending) (w' : World) : Prop := e = .returned (rangeV p) ∧ w = w'

theorem rrange_no (kd a ret : Int) (w : World) (h : (kdB kd && mayB kd a) = false) : Calls Try.prog 15 #[.int .i64 kd, .int .i64 a, .int .i64 ret] w (RangeIs (0, 0, false) w) := by
  have HT := fun W => rmay_any kd a W
  rw [h] at HT
  clear h
  unfold RangeIs rangeV
  go_enter Try.func15, Try.ntmps15
  go_wp2_with fail
  refine (HT _).mono ?_
  rintro e w1 ⟨rfl, rfl⟩
  go_wp2
  go_ret3
  exact ⟨rfl, rfl⟩
theorem rrange_tell (ret : Int) (w : World) (hm : moneyB ret = true) : Calls Try.prog 15 #[.int .i64 15, .int .i64 0, .int .i64 ret] w (RangeIs (ret, ret, true) w) := by
  have HT := fun W => rmay_any 15 0 W
  rw [show (kdB 15 && mayB 15 0) = true by simp [kdB, mayB]] at HT
  have HM := fun W => rmoney_any ret W
  rw [hm] at HM
  clear hm
  unfold RangeIs rangeV
  go_enter Try.func15, Try.ntmps15
  go_wp2_with fail
  refine (HT _).mono ?_
  rintro e w1 ⟨rfl, rfl⟩
  go_wp2_with fail
  refine (HM _).mono ?_
  rintro e w1 ⟨rfl, rfl⟩
  go_wp2
  go_ret3
  exact ⟨rfl, rfl⟩
theorem rrange_tellno (ret : Int) (w : World) (hm : moneyB ret = false) : Calls Try.prog 15 #[.int .i64 15, .int .i64 0, .int .i64 ret] w (RangeIs (0, 0, false) w) := by
  have HT := fun W => rmay_any 15 0 W
  rw [show (kdB 15 && mayB 15 0) = true by simp [kdB, mayB]] at HT
  have HM := fun W => rmoney_any ret W
  rw [hm] at HM
  clear hm
  unfold RangeIs rangeV
  go_enter Try.func15, Try.ntmps15
  go_wp2_with fail
  refine (HT _).mono ?_
  rintro e w1 ⟨rfl, rfl⟩
  go_wp2_with fail
  refine (HM _).mono ?_
  rintro e w1 ⟨rfl, rfl⟩
  go_wp2
  go_ret3
  exact ⟨rfl, rfl⟩
theorem rrange_other (kd a ret : Int) (w : World) (hk : kd = 13 ∨ kd = 14) (hm : (kdB kd && mayB kd a) = true) (h0 : ret ≠ 0) (h1 : ret ≠ 1) : Calls Try.prog 15 #[.int .i64 kd, .int .i64 a, .int .i64 ret] w (RangeIs (0, 0, false) w) := by
  have HT := fun W => rmay_any kd a W
  rw [hm] at HT
  have k15 : (kd == 15) = false := beq_eq_false_iff_ne.2 (by omega)
  have k0 : (ret != 0) = true := by rw [bne_iff_ne]; exact h0
  have k1 : (ret != 1) = true := by rw [bne_iff_ne]; exact h1
  clear hk hm h0 h1
  unfold RangeIs rangeV
  go_enter Try.func15, Try.ntmps15
  go_wp2_with fail
  refine (HT _).mono ?_
  rintro e w1 ⟨rfl, rfl⟩
  go_wp2
  go_ret3
  exact ⟨rfl, rfl⟩
theorem rrange_put1 (a : Int) (w : World) (hm : (kdB 13 && mayB 13 a) = true) (h0 : 0 ≤ a) (h1 : a ≤ 4611686018427387904) : Calls Try.prog 15 #[.int .i64 13, .int .i64 a, .int .i64 1] w (RangeIs (0, 4611686018427387904 - a, true) w) := by
  have HT := fun W => rmay_any 13 a W
  rw [hm] at HT
  have u : Hid (wrap64 (4611686018427387904 - a) = 4611686018427387904 - a) := iwrap (by omega) (by omega)
  clear hm h0 h1
  unfold RangeIs rangeV
  go_enter Try.func15, Try.ntmps15
  go_wp2_with fail
  refine (HT _).mono ?_
  rintro e w1 ⟨rfl, rfl⟩
  go_wp2
  rw [u.out]
  go_ret3
  exact ⟨rfl, rfl⟩
theorem rrange_take1 (a : Int) (w : World) (hm : (kdB 14 && mayB 14 a) = true) : Calls Try.prog 15 #[.int .i64 14, .int .i64 a, .int .i64 1] w (RangeIs (a, 4611686018427387904, true) w) := by
  have HT := fun W => rmay_any 14 a W
  rw [hm] at HT
  clear hm
  unfold RangeIs rangeV
  go_enter Try.func15, Try.ntmps15
  go_wp2_with fail
  refine (HT _).mono ?_
  rintro e w1 ⟨rfl, rfl⟩
  go_wp2
  go_ret3
  exact ⟨rfl, rfl⟩
theorem rrange_zero (kd : Int) (w : World) (hk : kd = 13 ∨ kd = 14) : Calls Try.prog 15 #[.int .i64 kd, .int .i64 0, .int .i64 0] w (RangeIs (0, 0, false) w) := by
  have HT := fun W => rmay_any kd 0 W
  rw [show (kdB kd && mayB kd 0) = true by rcases hk with rfl | rfl <;> simp [kdB, mayB, moneyB]] at HT
  unfold RangeIs rangeV
  rcases hk with rfl | rfl
  all_goals
    go_enter Try.func15, Try.ntmps15
    go_wp2_with fail
    refine (HT _).mono ?_
    rintro e w1 ⟨rfl, rfl⟩
    go_wp2
    go_ret3
    exact ⟨rfl, rfl⟩
theorem rrange_put0 (a : Int) (w : World) (hm : (kdB 13 && mayB 13 a) = true) (h0 : 0 < a) (h1 : a ≤ 4611686018427387904) : Calls Try.prog 15 #[.int .i64 13, .int .i64 a, .int .i64 0] w (RangeIs (4611686018427387905 - a, 4611686018427387904, true) w) := by
  have HT := fun W => rmay_any 13 a W
  rw [hm] at HT
  have ka : (a == 0) = false := beq_eq_false_iff_ne.2 (by omega)
  have u : Hid (wrap64 (wrap64 (4611686018427387904 - a) + 1) = 4611686018427387905 - a) := by show _ = _; rw [iwrap (a := 4611686018427387904 - a) (by omega) (by omega), iwrap (by omega) (by omega)]; omega
  clear hm h0 h1
  unfold RangeIs rangeV
  go_enter Try.func15, Try.ntmps15
  go_wp2_with fail
  refine (HT _).mono ?_
  rintro e w1 ⟨rfl, rfl⟩
  go_wp2
  rw [u.out]
  go_ret3
  exact ⟨rfl, rfl⟩
theorem rrange_take0 (a : Int) (w : World) (hm : (kdB 14 && mayB 14 a) = true) (h0 : 0 < a) (h1 : a ≤ 4611686018427387904) : Calls Try.prog 15 #[.int .i64 14, .int .i64 a, .int .i64 0] w (RangeIs (0, a - 1, true) w) := by
  have HT := fun W => rmay_any 14 a W
  rw [hm] at HT
  have ka : (a == 0) = false := beq_eq_false_iff_ne.2 (by omega)
  have u : Hid (wrap64 (a - 1) = a - 1) := iwrap (by omega) (by omega)
  clear hm h0 h1
  unfold RangeIs rangeV
  go_enter Try.func15, Try.ntmps15
  go_wp2_with fail
  refine (HT _).mono ?_
  rintro e w1 ⟨rfl, rfl⟩
  go_wp2
  rw [u.out]
  go_ret3
  exact ⟨rfl, rfl⟩
theorem rrange_any (kd a ret : Int) (w : World) : Calls Try.prog 15 #[.int .i64 kd, .int .i64 a, .int .i64 ret] w (RangeIs (rangeP kd a ret) w) := by
  cases hm : (kdB kd && mayB kd a) with
  | false =>
    rw [rng_none (fun h => by rw [h.1, h.2.1] at hm; cases hm)]
    exact rrange_no kd a ret w hm
  | true =>
    have h1 : kdB kd = true := by cases h : kdB kd with | true => rfl | false => rw [h] at hm; cases hm
    have h2 : mayB kd a = true := by rw [h1] at hm; exact hm
    obtain ⟨ha0, ha1⟩ := may_bd h2
    rcases kd_three h1 with rfl | rfl | rfl
    · by_cases hr1 : ret = 1
      · subst hr1
        rw [rng_some (x := 0) (y := 4611686018427387904 - a) h1 h2 (by simp [first]) (by simp [behind]; omega) (by omega)]
        exact rrange_put1 a w hm ha0 ha1
      · by_cases hr0 : ret = 0
        · subst hr0
          by_cases ha : a = 0
          · subst ha
            rw [rng_none (fun h => h.2.2 (by simp [first, behind]))]
            exact rrange_zero 13 w (.inl rfl)
          · rw [rng_some (x := 4611686018427387905 - a) (y := 4611686018427387904) h1 h2 (by simp [first]) (by simp [behind]) (by omega)]
            exact rrange_put0 a w hm (by omega) ha1
        · rw [rng_none (fun h => h.2.2 (by simp [first, behind, hr0, hr1]))]
          exact rrange_other 13 a ret w (.inl rfl) hm hr0 hr1
    · by_cases hr1 : ret = 1
      · subst hr1
        rw [rng_some (x := a) (y := 4611686018427387904) h1 h2 (by simp [first]) (by simp [behind]) (by omega)]
        exact rrange_take1 a w hm
      · by_cases hr0 : ret = 0
        · subst hr0
          by_cases ha : a = 0
          · subst ha
            rw [rng_none (fun h => h.2.2 (by simp [first, behind]))]
            exact rrange_zero 14 w (.inr rfl)
          · rw [rng_some (x := 0) (y := a - 1) h1 h2 (by simp [first]) (by simp [behind]) (by omega)]
            exact rrange_take0 a w hm (by omega) ha1
        · rw [rng_none (fun h => h.2.2 (by simp [first, behind, hr0, hr1]))]
          exact rrange_other 14 a ret w (.inr rfl) hm hr0 hr1
    · obtain rfl : a = 0 := by simpa [mayB] using h2
      cases hr : moneyB ret with
      | true =>
        rw [rng_some (x := ret) (y := ret) h1 h2 (by simp [first, hr]) (by simp [behind, hr]) (by omega)]
        exact rrange_tell ret w hr
      | false =>
        rw [rng_none (fun h => h.2.2 (by simp [first, behind, hr]))]
        exact rrange_tellno ret w hr
theorem rroom_any (n : Int) (w : World) : Calls Try.prog 17 #[.int .i64 n] w fun e w' => e = .returned (.int .i64 (roomN n)) ∧ w = w' := by
  have HM := fun W => rmoney_any n W
  cases hm : moneyB n with
  | true =>
    rw [hm] at HM
    have h := (money_iff n).1 hm
    have hx : Hid (wrap64 (4611686018427387904 - n) = roomN n) := by show _ = _; rw [room_yes hm]; exact iwrap (by omega) (by omega)
    clear h hm
    go_enter Try.func17, Try.ntmps17
    go_wp2_with fail
    refine (HM _).mono ?_
    rintro e w1 ⟨rfl, rfl⟩
    go_wp2
    go_ret
    exact ⟨ret_int hx.out, rfl⟩
  | false =>
    rw [hm] at HM
    have hx : Hid (0 = roomN n) := (room_no hm).symm
    clear hm
    go_enter Try.func17, Try.ntmps17
    go_wp2_with fail
    refine (HM _).mono ?_
    rintro e w1 ⟨rfl, rfl⟩
    go_wp2
    go_ret
    exact ⟨ret_int hx.out, rfl⟩
end Go.Proofs.Ytpnclppjmgeddaa
