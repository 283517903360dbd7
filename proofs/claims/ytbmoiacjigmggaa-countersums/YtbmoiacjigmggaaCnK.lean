/- CounterSums. -/
import Derived.Test.YtbmoiacjigmggaaCnG
import Derived.Test.YtbmoiacjigmggaaMaP
namespace Go.Proofs.Ytbmoiacjigmggaa
open Go.RowKit Go.Maps
set_option linter.unusedVariables false

theorem tot_two (n : Int) (l : List Int) (k : Nat) : totN (totN n (l.take k)) (l.drop k) = totN n l := by
  unfold totN
  rw [← List.foldl_append, List.take_append_drop]
theorem tot_less (l : List Int) : ∀ n m : Int, wrap64 (totN n l - totN m l) = wrap64 (n - m) := by
  induction l with
  | nil => intro n m; rfl
  | cons a r ih =>
    intro n m
    have := ih (wrap64 (n + a)) (wrap64 (m + a))
    simp only [totN, List.foldl_cons] at this ⊢
    rw [this]
    unfold wrap64; omega
theorem tot_back (n : Int) (l : List Int) (hn : Small n) : backN (totN n l) l = n := by
  unfold backN
  rw [tot_less]
  obtain ⟨h1, h2⟩ := hn
  unfold wrap64; omega

set_option maxHeartbeats 2000000 in
theorem sums_law (n : Int) (A : Option Addr) (c : Nat) (l : List Int) (cut : Int) (w : World) (hn : Small n) (hcut : Small cut) (hA : Ints w A l) (hk : l.length ≤ c) (hm : c ≤ maxLen) :
    Calls Try.prog 7 #[.int .i64 n, .slice A l.length c, .int .i64 cut] w (Yes w) := by
  unfold maxLen at hm
  by_cases hl : 60 < l.length
  · go_enter Try.func7, Try.ntmps7
    go_wp2_with fail
    refine (known_all _).mono ?_
    rintro e w1 ⟨rfl, hB1⟩
    go_wp2
    go_ret
    exact ⟨rfl, hB1⟩
  · have HA := Lib.hid hA
    have HN := Lib.hid hn
    have HCUT := Lib.hid hcut
    clear hA hn hcut
    go_enter Try.func7, Try.ntmps7
    go_wp2_with fail
    refine (known_all _).mono ?_
    rintro e w1 ⟨rfl, hB1⟩
    go_wp2_with fail
    go_loopw [8, 9, 10, 11] (fun s8 i s10 s11 wr => ∃ (k : Nat) (m : Int), k ≤ l.length ∧ i = .int .i64 k ∧ s8 = .int .i64 m ∧ m = totN n (l.take k) ∧ Below w.heap.size w wr) (fun s8 i s10 s11 wr => l.length - (intOf i).toNat)
    case atStart => exact ⟨0, n, Nat.zero_le _, rfl, rfl, rfl, hB1⟩
    case round =>
      obtain ⟨k, m, hkl, rfl, rfl, hmk, hB⟩ := hrel
      have HM := Lib.hid hmk
      have hI := HA.out.below hB
      clear hmk
      by_cases hlt : k < l.length
      · obtain ⟨b, off, rfl, hb, hc⟩ := hI (by omega)
        have hck := hc k hlt
        have hk0 : (0 : Int) ≤ (k : Int) := by omega
        have hk1 : (k : Int) < (l.length : Int) := by omega
        obtain ⟨x, hx⟩ : ∃ x, l[k]?.getD 0 = x := ⟨_, rfl⟩
        rw [hx] at hck
        have HX := Lib.hid hx
        have HP := fun W => applied_any m x W
        obtain ⟨y, hy⟩ : ∃ y, wrap64 (m + x) = y := ⟨_, rfl⟩
        rw [hy] at HP
        have HY := Lib.hid hy
        clear hc hx hy hI
        go_wp2_with fail
        refine (HP _).mono ?_
        rintro e w2 ⟨rfl, hB2⟩
        go_wp2
        go_roundw
        case rel => exact ⟨k + 1, y, by omega, by go_num, rfl, by rw [tot_step n l k hlt, ← HM.out, HX.out, HY.out], onto hB hB2⟩
        case measure => simp [intOf]; omega
      · have hkl2 : m = totN n l := by rw [HM.out, List.take_of_length_le (by omega)]
        obtain ⟨pn, hpn, hpl⟩ : ∃ pn : Nat, pick cut ((l.length + 1 : Nat) : Int) = (pn : Int) ∧ pn ≤ l.length := by
          obtain ⟨p1, p2⟩ := pick_bd cut ((l.length + 1 : Nat) : Int) (by omega)
          obtain ⟨pn, h⟩ := Int.eq_ofNat_of_zero_le p1
          exact ⟨pn, h, by omega⟩
        have HPK := fun W => pick_any cut (l.length + 1) W HCUT.out.1 HCUT.out.2 (by omega) (by omega)
        rw [hpn] at HPK
        have hcl : c ≤ maxLen := by unfold maxLen; omega
        have hll : l.length ≤ maxLen := by unfold maxLen; omega
        have T1 := fun W (h : Ints W A l) => total_any n A c l W h hll
        have T2 := fun W (h : Ints W A l) => back_any m A c l W h hll
        obtain ⟨z, hz⟩ : ∃ z, totN n (l.take pn) = z := ⟨_, rfl⟩
        have T3 := fun W (h : Ints W A l) => total_any n A c (l.take pn) W (ints_take h pn) (by rw [List.length_take]; omega)
        have T4 := fun W (h : Ints W A l) => total_any z (subA A c pn) (c - pn) (l.drop pn) W (ints_drop h c pn hk) (by rw [List.length_drop]; omega)
        have hlt : (l.take pn).length = pn := by rw [List.length_take]; omega
        rw [hlt, hz] at T3
        rw [List.length_drop, ← hz, tot_two, ← hkl2, hz] at T4
        rw [← hkl2] at T1
        rw [hkl2, tot_back n l HN.out, ← hkl2] at T2
        unfold subA at T4
        have g1 : (0 : Int) ≤ (pn : Int) := by omega
        have g2 : (pn : Int) ≤ (l.length : Int) := by omega
        have g3 : (pn : Int) ≤ (c : Int) := by omega
        have g4 : (l.length : Int) ≤ (c : Int) := by omega
        have hmm : (m == m) = true := by simp
        have hnn : (n == n) = true := by simp
        clear hpn hz hkl2 hlt hcl hll
        go_wp2_with fail
        refine (HPK _).mono ?_
        rintro e w2 ⟨rfl, rfl⟩
        have hI2 := Lib.hid hI
        clear hI
        have d2 : Below w2.heap.size w2 w2.drew := (Below.refl _ w2).drew
        have R1 := T1 w2.drew (hI2.out.below d2)
        have R2 := fun W (h : Below w2.heap.size w2 W) => T2 W (hI2.out.below h)
        have R3 := fun W (h : Below w2.heap.size w2 W) => T3 W (hI2.out.below h)
        have R4 := fun W (h : Below w2.heap.size w2 W) => T4 W (hI2.out.below h)
        clear T1 T2 T3 T4 HPK
        by_cases hcp : c = pn
        · subst hcp
          simp only [if_true, Nat.sub_self] at R4
          have R5 := R4
          rw [show l.length - c = 0 by omega] at R5
          go_wp2_with fail
          go_region_held3 (fun w' => Below w2.heap.size w2 w') (first | exact d2 | exact c6 | exact c5 | exact c4 | exact c3 | go_keep) (first
            | (go_at_call 16; refine (R2 _ c3).mono ?_; rintro e w4 ⟨rfl, hB4⟩; have c4 : Below w2.heap.size w2 w4 := nxt c3 hB4 c3.size)
            | (go_at_call 14; (with_reducible refine Calls.mono (R4 _ c5) ?_); rintro e w6 ⟨rfl, hB6⟩; have c6 : Below w2.heap.size w2 w6 := nxt c5 hB6 c5.size)
            | (go_at_call 14; (with_reducible refine Calls.mono (R5 _ c5) ?_); rintro e w6 ⟨rfl, hB6⟩; have c6 : Below w2.heap.size w2 w6 := nxt c5 hB6 c5.size)
            | (go_at_call 14; (with_reducible refine Calls.mono (R3 _ c4) ?_); rintro e w5 ⟨rfl, hB5⟩; have c5 : Below w2.heap.size w2 w5 := nxt c4 hB5 c4.size)
            | (go_at_call 14; (with_reducible refine Calls.mono R1 ?_); rintro e w3 ⟨rfl, hB3⟩; have c3 : Below w2.heap.size w2 w3 := nxt d2 hB3 d2.size))
          go_wp2
          go_ret
          exact ⟨rfl, onto hB c6⟩
        · simp only [if_neg hcp] at R4
          go_wp2_with fail
          go_region_held3 (fun w' => Below w2.heap.size w2 w') (first | exact d2 | exact c6 | exact c5 | exact c4 | exact c3 | go_keep) (first
            | (go_at_call 16; refine (R2 _ c3).mono ?_; rintro e w4 ⟨rfl, hB4⟩; have c4 : Below w2.heap.size w2 w4 := nxt c3 hB4 c3.size)
            | (go_at_call 14; (with_reducible refine Calls.mono (R4 _ c5) ?_); rintro e w6 ⟨rfl, hB6⟩; have c6 : Below w2.heap.size w2 w6 := nxt c5 hB6 c5.size)
            | (go_at_call 14; (with_reducible refine Calls.mono (R3 _ c4) ?_); rintro e w5 ⟨rfl, hB5⟩; have c5 : Below w2.heap.size w2 w5 := nxt c4 hB5 c4.size)
            | (go_at_call 14; (with_reducible refine Calls.mono R1 ?_); rintro e w3 ⟨rfl, hB3⟩; have c3 : Below w2.heap.size w2 w3 := nxt d2 hB3 d2.size))
          go_wp2
          go_ret
          exact ⟨rfl, onto hB c6⟩
end Go.Proofs.Ytbmoiacjigmggaa
