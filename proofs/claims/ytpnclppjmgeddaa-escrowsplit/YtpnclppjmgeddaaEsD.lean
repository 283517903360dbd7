/- The layer escrow: Range, Room. -/
import Derived.Test.YtpnclppjmgeddaaEsC
namespace Go.Proofs.Ytpnclppjmgeddaa
open Go.RowKit Go.Maps
set_option linter.unusedVariables false

theorem i64in {a : Int} (h0 : -9223372036854775808 ≤ a) (h1 : a ≤ 9223372036854775807) : IntKind.i64.wrap a = a := by rw [IntKind.wrap_i64]; omega
/-- The range of an operation's return: from, to, is there one? -/
def rangeP (kd a ret : Int) : Int × Int × Bool := if kdB kd = true ∧ mayB kd a = true ∧ first kd a ret ≠ behind kd a ret then (first kd a ret, behind kd a ret - 1, true) else (0, 0, false)
def rangeV (p : Int × Int × Bool) : Value := .tuple #[.int .i64 p.1, .int .i64 p.2.1, .bool p.2.2]
theorem ret_tri {a b c d : Int} {x y : Bool} (h : a = c) (k : b = d) (j : x = y) : Ending.returned (.tuple #[.int .i64 a, .int .i64 b, .bool x]) = .returned (.tuple #[.int .i64 c, .int .i64 d, .bool y]) := by rw [h, k, j]

theorem span_bd {kd a ret : Int} (ha : 0 ≤ a) (hb : a ≤ 4611686018427387904) : 0 ≤ first kd a ret ∧ first kd a ret ≤ 4611686018427387905 ∧ 0 ≤ behind kd a ret ∧ behind kd a ret ≤ 4611686018427387905 ∧ first kd a ret ≤ behind kd a ret := by
  unfold first behind
  split
  · split
    · omega
    · split <;> omega
  · split
    · split
      · split <;> omega
      · split <;> omega
    · split
      · next h => have := (money_iff ret).1 h; omega
      · omega
theorem may_bd {kd a : Int} (h : mayB kd a = true) : 0 ≤ a ∧ a ≤ 4611686018427387904 := by
  unfold mayB at h
  split at h
  · simp at h; omega
  · exact (money_iff a).1 h

set_option maxHeartbeats 1000000 in
theorem range_no (kd a ret : Int) (w : World) (hs : Small a) (h : ¬ (kdB kd = true ∧ mayB kd a = true)) : Calls Try.prog 14 #[.int .i64 kd, .int .i64 a, .int .i64 ret] w (Says (rangeV (0, 0, false)) w) := by
  have HN := fun W => eknown_any kd W
  have HT := fun W => takes_any kd a W hs
  clear hs
  unfold rangeV
  cases hk : kdB kd with
  | false =>
    rw [hk] at HN
    clear h hk HT
    go_enter Try.func14, Try.ntmps14
    go_wp2_with fail
    refine (HN _).mono ?_
    rintro e w2 ⟨rfl, rfl⟩
    go_wp2
    refine bodyPost_ret (v := rangeV (0, 0, false)) (by simp [results, Try.f14, go_sem, rangeV]) rfl ?_
    exact ⟨rfl, Below.refl _ _⟩
  | true =>
    have hm : mayB kd a = false := by cases hm : mayB kd a with | true => exact absurd ⟨hk, hm⟩ h | false => rfl
    rw [hk] at HN
    rw [hm] at HT
    clear h hk hm
    go_enter Try.func14, Try.ntmps14
    go_wp2_with fail
    refine (HN _).mono ?_
    rintro e w2 ⟨rfl, rfl⟩
    go_wp2_with fail
    refine (HT _).mono ?_
    rintro e w2 ⟨rfl, rfl⟩
    go_wp2
    refine bodyPost_ret (v := rangeV (0, 0, false)) (by simp [results, Try.f14, go_sem, rangeV]) rfl ?_
    exact ⟨rfl, Below.refl _ _⟩
set_option maxHeartbeats 1000000 in
theorem range_with (kd a ret : Int) (g : Nat) (f b : Int) (w : World) (hs : Small a) (h1 : kdB kd = true) (h2 : mayB kd a = true) (hf0 : 0 ≤ f) (hfb : f ≤ b) (hb : b ≤ 4611686018427387905)
    (hix : ∀ W : World, (Instr.index 57 spansV (.int .i64 kd)).run Try.prog W = .ok (.func (.func g) #[] #[]) W)
    (eg : ∀ args w, (callFunc g args).run Try.prog w = .ok (.enter g args) w)
    (HG : ∀ W, Calls Try.prog g #[.int .u64 (IntKind.u64.wrap a), .int .i64 ret] W (Says (spanV f b) W)) :
    Calls Try.prog 14 #[.int .i64 kd, .int .i64 a, .int .i64 ret] w (Says (rangeV (if f = b then (0, 0, false) else (f, b - 1, true))) w) := by
  have HN := fun W => eknown_any kd W
  have HT := fun W => takes_any kd a W hs
  rw [h1] at HN
  rw [h2] at HT
  clear hs h1 h2
  obtain ⟨va, hva⟩ : ∃ va, spansV = va := ⟨_, rfl⟩
  rw [hva] at hix
  have HK : ∀ W : World, Calls Try.prog 33 #[] W (Says va W) := fun W => hva ▸ spans_any W
  clear hva
  unfold spanV at HG
  by_cases h : f = b
  · have hd : (f == b) = true := by simp [h]
    rw [if_pos h]
    clear h hf0 hfb hb
    unfold rangeV
    go_enter Try.func14, Try.ntmps14
    go_wp2_with fail
    refine (HN _).mono ?_
    rintro e w2 ⟨rfl, rfl⟩
    go_wp2_with fail
    refine (HT _).mono ?_
    rintro e w2 ⟨rfl, rfl⟩
    go_wp2_with fail
    refine (HK _).mono ?_
    rintro e w2 ⟨rfl, hB2⟩
    go_wp2_with fail
    refine (HG _).mono ?_
    rintro e w3 ⟨rfl, hB3⟩
    have HX := Holds.new w3 60 #[.int .u64 f, .int .u64 b]
    have c0 := HX.c (j := 0) rfl
    have c1 := HX.c (j := 1) rfl
    go_wp2
    refine bodyPost_ret (v := rangeV (0, 0, false)) (by simp [results, Try.f14, go_sem, rangeV]) rfl ?_
    exact ⟨rfl, onto (onto hB2 hB3) (alloc1 w3 _)⟩
  · have hd : (f == b) = false := by simp [h]
    rw [if_neg h]
    have u1 : Hid (IntKind.i64.wrap f = f) := i64in (by omega) (by omega)
    have u2 : Hid (IntKind.i64.wrap (IntKind.u64.wrap (b - 1)) = b - 1) := by show _ = _; rw [uwrap (by omega) (by omega), i64in (by omega) (by omega)]
    clear h hf0 hfb hb
    unfold rangeV
    go_enter Try.func14, Try.ntmps14
    go_wp2_with fail
    refine (HN _).mono ?_
    rintro e w2 ⟨rfl, rfl⟩
    go_wp2_with fail
    refine (HT _).mono ?_
    rintro e w2 ⟨rfl, rfl⟩
    go_wp2_with fail
    refine (HK _).mono ?_
    rintro e w2 ⟨rfl, hB2⟩
    go_wp2_with fail
    refine (HG _).mono ?_
    rintro e w3 ⟨rfl, hB3⟩
    have HX := Holds.new w3 60 #[.int .u64 f, .int .u64 b]
    have c0 := HX.c (j := 0) rfl
    have c1 := HX.c (j := 1) rfl
    go_wp2
    refine wp_region_noPanic ?_
    have HY := HX
    refine wp_region_picked [(0, true), (1, true), (2, true), (3, true), (4, true), (5, true), (6, true), (7, true), (8, true), (9, true)] (fun W' => Holds W' w3.heap.size 60 #[.int .u64 f, .int .u64 b]) (by kernel_rfl) (by kernel_rfl) (fun _ _ _ _ _ h => h) HY ?_
    iterate 10
      refine Picked.take ?_ (by rfl) (by rfl) ?_ ?_
      rotate_left
      · intro w' hw'
        have c0 := hw'.c (j := 0) rfl
        have c1 := hw'.c (j := 1) rfl
        go_simp
        try with_reducible rfl
      simp only [Act.put, List.getElem_toArray, List.getElem_cons_zero, List.getElem_cons_succ, List.setIfInBounds_toArray, List.set_cons_zero, List.set_cons_succ]
    refine NoPanic.normal ?_
    go_wp2
    rw [u1.out, u2.out]
    refine bodyPost_ret (v := rangeV (f, b - 1, true)) (by simp [results, Try.f14, go_sem, rangeV]) rfl ?_
    exact ⟨rfl, (onto (onto hB2 hB3) (alloc1 w3 _)).drew⟩
theorem range_eq {kd a ret : Int} (h1 : kdB kd = true) (h2 : mayB kd a = true) : (if first kd a ret = behind kd a ret then (0, 0, false) else (first kd a ret, behind kd a ret - 1, true)) = rangeP kd a ret := by
  unfold rangeP
  by_cases h : first kd a ret = behind kd a ret
  · rw [if_pos h, if_neg (fun e => e.2.2 h)]
  · rw [if_neg h, if_pos ⟨h1, h2, h⟩]
set_option maxHeartbeats 1000000 in
theorem range_any (kd a ret : Int) (w : World) (hs : Small a) (hr : Small ret) : Calls Try.prog 14 #[.int .i64 kd, .int .i64 a, .int .i64 ret] w (Says (rangeV (rangeP kd a ret)) w) := by
  by_cases h : kdB kd = true ∧ mayB kd a = true
  · obtain ⟨h1, h2⟩ := h
    obtain ⟨ha0, ha1⟩ := may_bd h2
    have ua : IntKind.u64.wrap a = a := uwrap (by omega) (by omega)
    obtain ⟨b1, b2, b3, b4, b5⟩ := span_bd (kd := kd) (ret := ret) ha0 ha1
    rw [← range_eq h1 h2]
    rcases (show kd = 13 ∨ kd = 14 ∨ kd = 15 by unfold kdB at h1; simp at h1; omega) with rfl | rfl | rfl
    · exact range_with 13 a ret 43 _ _ w hs h1 h2 b1 b5 b4 (fun W => by kernel_rfl) (Go.Proofs.enters_of Try.func43 (by kernel_rfl) rfl) (fun W => by rw [ua]; exact deposited_any a ret W ha0 ha1)
    · exact range_with 14 a ret 44 _ _ w hs h1 h2 b1 b5 b4 (fun W => by kernel_rfl) (Go.Proofs.enters_of Try.func44 (by kernel_rfl) rfl) (fun W => by rw [ua]; exact withdrawn_any a ret W)
    · exact range_with 15 a ret 45 _ _ w hs h1 h2 b1 b5 b4 (fun W => by kernel_rfl) (Go.Proofs.enters_of Try.func45 (by kernel_rfl) rfl) (fun W => by rw [ua]; exact toldspan_any a ret W hr)
  · have e : rangeP kd a ret = (0, 0, false) := by unfold rangeP; rw [if_neg (fun e => h ⟨e.1, e.2.1⟩)]
    rw [e]
    exact range_no kd a ret w hs h

def roomN (n : Int) : Int := if moneyB n = true then 4611686018427387904 - n else 0
theorem room_no {n : Int} (h : moneyB n = false) : roomN n = 0 := by unfold roomN; rw [h]; rfl
theorem room_yes {n : Int} (h : moneyB n = true) : roomN n = 4611686018427387904 - n := if_pos h
theorem Room_any (n : Int) (w : World) (hs : Small n) : Calls Try.prog 16 #[.int .i64 n] w fun e w' => e = .returned (.int .i64 (roomN n)) ∧ w = w' := by
  have hC := fun W => capped_any (IntKind.u64.wrap n) W
  rw [money_up hs] at hC
  cases hm : moneyB n with
  | true =>
    rw [hm] at hC
    have h := (money_iff n).1 hm
    have un : IntKind.u64.wrap n = n := uwrap (by omega) (by omega)
    have hR : ∀ W, Calls Try.prog 36 #[.int .u64 (IntKind.u64.wrap n)] W fun e w' => e = .returned (.int .u64 (4611686018427387904 - n)) ∧ W = w' := fun W => by rw [un]; exact room_any n W h.1 h.2
    have hx : Hid (wrap64 (4611686018427387904 - n) = roomN n) := by show _ = _; rw [room_yes hm]; exact iwrap (by omega) (by omega)
    clear h hm hs un
    go_enter Try.func16, Try.ntmps16
    go_wp2_with fail
    refine (hC _).mono ?_
    rintro e w1 ⟨rfl, rfl⟩
    go_wp2_with fail
    refine (hR _).mono ?_
    rintro e w1 ⟨rfl, rfl⟩
    go_wp2
    go_ret
    exact ⟨ret_int hx.out, rfl⟩
  | false =>
    rw [hm] at hC
    have hx : Hid (0 = roomN n) := (room_no hm).symm
    clear hm hs
    go_enter Try.func16, Try.ntmps16
    go_wp2_with fail
    refine (hC _).mono ?_
    rintro e w1 ⟨rfl, rfl⟩
    go_wp2
    go_ret
    exact ⟨ret_int hx.out, rfl⟩
end Go.Proofs.Ytpnclppjmgeddaa
