/- awake, OperationKnown. (Written by wip/tools/gen_opm.py.) -/
import Derived.Test.YtmpglmepmdpjoaaOpL
namespace Go.Proofs.Ytmpglmepmdpjoaa
open Go.RowKit Go.Maps
set_option linter.unusedVariables false

theorem small_lit {ws : List ByteArray} (h : ws.all (fun s => decide (s.size ≤ 100)) = true) : ∀ s ∈ ws, s.size ≤ maxLen := fun s hs => by
  have := List.all_eq_true.1 h s hs
  unfold maxLen
  simp at this
  omega
theorem tells_yes (kd a b k n : Int) (s : ByteArray) (w : World) (ha : I64 a) (hb : I64 b) (hn : I64 n) (h : tellsB kd a b k n s = true) : Calls Try.prog 23 #[.agg #[.int .i64 kd, .int .i64 a, .int .i64 b, .int .i64 k, .int .i64 n], .string s] w (Yes w) := by
  have := tells_any kd a b k n s w ha hb hn
  rw [h] at this
  exact this
theorem check_is (kd a b k n e : Int) (w : World) (h : checkP kd a b k n = e) : Calls Try.prog 18 #[.agg #[.int .i64 kd, .int .i64 a, .int .i64 b, .int .i64 k, .int .i64 n]] w (Says (.int .i64 e) w) := by
  have := check_any kd a b k n w
  rw [h] at this
  exact this
theorem reads_yes (A : Option Addr) (c : Nat) (ws : List ByteArray) (kd a b k n : Int) (w : World) (hA : Strs w.heap.size w A ws) (hm : ws.length ≤ 100) (h : (ws.all (fun s => decide (s.size ≤ 100)) && readsB kd a b k n (readP ws)) = true) :
    Calls Try.prog 27 #[.agg #[.int .i64 kd, .int .i64 a, .int .i64 b, .int .i64 k, .int .i64 n], .slice A ws.length c] w (Yes w) := by
  rw [Bool.and_eq_true] at h
  have := reads_any A c ws kd a b k n w hA hm (small_lit h.1)
  rw [h.2] at this
  exact this
theorem fails_yes (A : Option Addr) (c : Nat) (ws : List ByteArray) (pos err : Int) (w : World) (hA : Strs w.heap.size w A ws) (hm : ws.length ≤ 100) (h : (ws.all (fun s => decide (s.size ≤ 100)) && failsB pos err (readP ws)) = true) :
    Calls Try.prog 25 #[.int .i64 pos, .int .i64 err, .slice A ws.length c] w (Yes w) := by
  rw [Bool.and_eq_true] at h
  have := fails_any A c ws pos err w hA hm (small_lit h.1)
  rw [h.2] at this
  exact this

theorem ex0 : tellsB (3) (5) (0) (2) (1) ⟨#[105, 110, 115, 101, 114, 116, 32, 53, 32, 45, 62, 32, 49]⟩ = true := by decide +kernel
theorem ex1 : checkP (3) (5) (0) (2) (2) = 9 := by decide +kernel
theorem ex2 : (([⟨#[105, 110, 115, 101, 114, 116]⟩, ⟨#[53]⟩, ⟨#[45, 62]⟩, ⟨#[49]⟩] : List ByteArray).all (fun s => decide (s.size ≤ 100)) && readsB (3) (5) (0) (2) (1) (readP ([⟨#[105, 110, 115, 101, 114, 116]⟩, ⟨#[53]⟩, ⟨#[45, 62]⟩, ⟨#[49]⟩] : List ByteArray))) = true := by decide +kernel
theorem ex3 : (([⟨#[105, 110, 115, 101, 114, 116]⟩, ⟨#[120]⟩, ⟨#[45, 62]⟩, ⟨#[49]⟩] : List ByteArray).all (fun s => decide (s.size ≤ 100)) && failsB 1 5 (readP ([⟨#[105, 110, 115, 101, 114, 116]⟩, ⟨#[120]⟩, ⟨#[45, 62]⟩, ⟨#[49]⟩] : List ByteArray))) = true := by decide +kernel
theorem ex4 : tellsB (7) (1) (10) (1) (0) ⟨#[112, 117, 116, 32, 49, 32, 49, 48, 32, 45, 62, 32, 110, 111, 110, 101]⟩ = true := by decide +kernel
theorem ex5 : tellsB (2) (0) (0) (2) (-3) ⟨#[114, 101, 97, 100, 32, 45, 62, 32, 45, 51]⟩ = true := by decide +kernel
theorem ex6 : tellsB (1) (5) (0) (0) (0) ⟨#[97, 100, 100, 32, 53, 32, 45, 62, 32, 111, 107]⟩ = true := by decide +kernel
theorem ex7 : checkP (1) (5) (0) (2) (1) = 9 := by decide +kernel
theorem ex8 : checkP (6) (1) (0) (2) (3) = 2 := by decide +kernel
theorem ex9 : checkP (13) (-1) (0) (2) (1) = 2 := by decide +kernel
theorem ex10 : checkP (16) (0) (0) (2) (0) = 6 := by decide +kernel
theorem ex11 : (([] : List ByteArray).all (fun s => decide (s.size ≤ 100)) && failsB 0 5 (readP ([] : List ByteArray))) = true := by decide +kernel
theorem ex12 : (([⟨#[105, 110, 115]⟩, ⟨#[53]⟩] : List ByteArray).all (fun s => decide (s.size ≤ 100)) && failsB 0 6 (readP ([⟨#[105, 110, 115]⟩, ⟨#[53]⟩] : List ByteArray))) = true := by decide +kernel
theorem ex13 : (([⟨#[105, 110, 115, 101, 114, 116]⟩, ⟨#[53]⟩, ⟨#[45]⟩, ⟨#[49]⟩] : List ByteArray).all (fun s => decide (s.size ≤ 100)) && failsB 2 5 (readP ([⟨#[105, 110, 115, 101, 114, 116]⟩, ⟨#[53]⟩, ⟨#[45]⟩, ⟨#[49]⟩] : List ByteArray))) = true := by decide +kernel
theorem ex14 : (([⟨#[105, 110, 115, 101, 114, 116]⟩, ⟨#[53]⟩] : List ByteArray).all (fun s => decide (s.size ≤ 100)) && failsB 2 5 (readP ([⟨#[105, 110, 115, 101, 114, 116]⟩, ⟨#[53]⟩] : List ByteArray))) = true := by decide +kernel
theorem ex15 : (([⟨#[105, 110, 115, 101, 114, 116]⟩, ⟨#[53]⟩, ⟨#[45, 62]⟩, ⟨#[49]⟩, ⟨#[50]⟩] : List ByteArray).all (fun s => decide (s.size ≤ 100)) && failsB 4 5 (readP ([⟨#[105, 110, 115, 101, 114, 116]⟩, ⟨#[53]⟩, ⟨#[45, 62]⟩, ⟨#[49]⟩, ⟨#[50]⟩] : List ByteArray))) = true := by decide +kernel
theorem ex16 : (([⟨#[105, 110, 115, 101, 114, 116]⟩, ⟨#[53]⟩, ⟨#[45, 62]⟩, ⟨#[110, 111]⟩] : List ByteArray).all (fun s => decide (s.size ≤ 100)) && failsB 3 9 (readP ([⟨#[105, 110, 115, 101, 114, 116]⟩, ⟨#[53]⟩, ⟨#[45, 62]⟩, ⟨#[110, 111]⟩] : List ByteArray))) = true := by decide +kernel
theorem ex17 : (([⟨#[105, 110, 115, 101, 114, 116]⟩, ⟨#[53]⟩, ⟨#[45, 62]⟩, ⟨#[50]⟩] : List ByteArray).all (fun s => decide (s.size ≤ 100)) && failsB 3 9 (readP ([⟨#[105, 110, 115, 101, 114, 116]⟩, ⟨#[53]⟩, ⟨#[45, 62]⟩, ⟨#[50]⟩] : List ByteArray))) = true := by decide +kernel
theorem ex18 : (([⟨#[100, 101, 112, 111, 115, 105, 116]⟩, ⟨#[45, 49]⟩, ⟨#[45, 62]⟩, ⟨#[49]⟩] : List ByteArray).all (fun s => decide (s.size ≤ 100)) && failsB 1 2 (readP ([⟨#[100, 101, 112, 111, 115, 105, 116]⟩, ⟨#[45, 49]⟩, ⟨#[45, 62]⟩, ⟨#[49]⟩] : List ByteArray))) = true := by decide +kernel

set_option maxRecDepth 100000 in
set_option maxHeartbeats 2000000 in
theorem awake_yes (w : World) : Calls Try.prog 9 #[] w (Yes w) := by
  go_enter Try.func9, Try.ntmps9
  go_wp2_with fail
  refine (of_any 3 (5) 0 (1) _).mono ?_
  rintro e w1 ⟨rfl, hB1⟩
  replace hB1 := Below.next (Below.refl _ w) hB1 (Nat.le_refl _)
  unfold opV
  go_wp2_with fail
  refine (tells_yes (3) (5) (0) (2) (1) ⟨#[105, 110, 115, 101, 114, 116, 32, 53, 32, 45, 62, 32, 49]⟩ _ (by unfold I64; omega) (by unfold I64; omega) (by unfold I64; omega) ex0).mono ?_
  rintro e w2 ⟨rfl, hB2⟩
  replace hB2 := Below.next hB1 hB2 (Nat.le_refl _)
  clear hB1
  go_wp2_with fail
  refine (of_any 3 (5) 0 (2) _).mono ?_
  rintro e w3 ⟨rfl, hB3⟩
  replace hB3 := Below.next hB2 hB3 (Nat.le_refl _)
  clear hB2
  unfold opV
  go_wp2_with fail
  refine (check_is (3) (5) (0) (2) (2) 9 _ ex1).mono ?_
  rintro e w4 ⟨rfl, hB4⟩
  replace hB4 := Below.next hB3 hB4 (Nat.le_refl _)
  clear hB3
  go_wp2_with fail
  refine (of_any 3 (5) 0 (1) _).mono ?_
  rintro e w5 ⟨rfl, hB5⟩
  replace hB5 := Below.next hB4 hB5 (Nat.le_refl _)
  clear hB4
  unfold opV
  go_wp2_with fail
  refine (reads_yes _ 4 [⟨#[105, 110, 115, 101, 114, 116]⟩, ⟨#[53]⟩, ⟨#[45, 62]⟩, ⟨#[49]⟩] (3) (5) (0) (2) (1) _ (strs_new _ _ _ _ rfl) (by decide) ex2).mono ?_
  rintro e w6 ⟨rfl, hB6⟩
  replace hB6 := Below.next (hB5.alloc hB5.size _) hB6 (Nat.le_refl _)
  clear hB5
  go_wp2_with fail
  refine (fails_yes _ 4 [⟨#[105, 110, 115, 101, 114, 116]⟩, ⟨#[120]⟩, ⟨#[45, 62]⟩, ⟨#[49]⟩] 1 5 _ (strs_new _ _ _ _ rfl) (by decide) ex3).mono ?_
  rintro e w7 ⟨rfl, hB7⟩
  replace hB7 := Below.next (hB6.alloc hB6.size _) hB7 (Nat.le_refl _)
  clear hB6
  go_wp2
  go_ret
  exact ⟨rfl, hB7⟩

set_option maxRecDepth 100000 in
set_option maxHeartbeats 2000000 in
theorem known_yes (w : World) : Calls Try.prog 5 #[] w (Yes w) := by
  go_enter Try.func5, Try.ntmps5
  go_wp2_with fail
  refine (tells_yes (7) (1) (10) (1) (0) ⟨#[112, 117, 116, 32, 49, 32, 49, 48, 32, 45, 62, 32, 110, 111, 110, 101]⟩ _ (by unfold I64; omega) (by unfold I64; omega) (by unfold I64; omega) ex4).mono ?_
  rintro e w1 ⟨rfl, hB1⟩
  replace hB1 := Below.next (Below.refl _ w) hB1 (Nat.le_refl _)
  go_wp2_with fail
  refine (of_any 2 (0) 0 (-3) _).mono ?_
  rintro e w2 ⟨rfl, hB2⟩
  replace hB2 := Below.next hB1 hB2 (Nat.le_refl _)
  clear hB1
  unfold opV
  go_wp2_with fail
  refine (tells_yes (2) (0) (0) (2) (-3) ⟨#[114, 101, 97, 100, 32, 45, 62, 32, 45, 51]⟩ _ (by unfold I64; omega) (by unfold I64; omega) (by unfold I64; omega) ex5).mono ?_
  rintro e w3 ⟨rfl, hB3⟩
  replace hB3 := Below.next hB2 hB3 (Nat.le_refl _)
  clear hB2
  go_wp2_with fail
  refine (tells_yes (1) (5) (0) (0) (0) ⟨#[97, 100, 100, 32, 53, 32, 45, 62, 32, 111, 107]⟩ _ (by unfold I64; omega) (by unfold I64; omega) (by unfold I64; omega) ex6).mono ?_
  rintro e w4 ⟨rfl, hB4⟩
  replace hB4 := Below.next hB3 hB4 (Nat.le_refl _)
  clear hB3
  go_wp2_with fail
  refine (of_any 1 (5) 0 (1) _).mono ?_
  rintro e w5 ⟨rfl, hB5⟩
  replace hB5 := Below.next hB4 hB5 (Nat.le_refl _)
  clear hB4
  unfold opV
  go_wp2_with fail
  refine (check_is (1) (5) (0) (2) (1) 9 _ ex7).mono ?_
  rintro e w6 ⟨rfl, hB6⟩
  replace hB6 := Below.next hB5 hB6 (Nat.le_refl _)
  clear hB5
  go_wp2_with fail
  refine (of_any 6 (1) 0 (3) _).mono ?_
  rintro e w7 ⟨rfl, hB7⟩
  replace hB7 := Below.next hB6 hB7 (Nat.le_refl _)
  clear hB6
  unfold opV
  go_wp2_with fail
  refine (check_is (6) (1) (0) (2) (3) 2 _ ex8).mono ?_
  rintro e w8 ⟨rfl, hB8⟩
  replace hB8 := Below.next hB7 hB8 (Nat.le_refl _)
  clear hB7
  go_wp2_with fail
  refine (of_any 13 (-1) 0 (1) _).mono ?_
  rintro e w9 ⟨rfl, hB9⟩
  replace hB9 := Below.next hB8 hB9 (Nat.le_refl _)
  clear hB8
  unfold opV
  go_wp2_with fail
  refine (check_is (13) (-1) (0) (2) (1) 2 _ ex9).mono ?_
  rintro e w10 ⟨rfl, hB10⟩
  replace hB10 := Below.next hB9 hB10 (Nat.le_refl _)
  clear hB9
  go_wp2_with fail
  refine (of_any 16 (0) 0 (0) _).mono ?_
  rintro e w11 ⟨rfl, hB11⟩
  replace hB11 := Below.next hB10 hB11 (Nat.le_refl _)
  clear hB10
  unfold opV
  go_wp2_with fail
  refine (check_is (16) (0) (0) (2) (0) 6 _ ex10).mono ?_
  rintro e w12 ⟨rfl, hB12⟩
  replace hB12 := Below.next hB11 hB12 (Nat.le_refl _)
  clear hB11
  go_wp2_with fail
  refine (fails_yes none 0 [] 0 5 _ (strs_nil _ _ _) (by decide) ex11).mono ?_
  rintro e w13 ⟨rfl, hB13⟩
  replace hB13 := Below.next hB12 hB13 (Nat.le_refl _)
  clear hB12
  go_wp2_with fail
  refine (fails_yes _ 2 [⟨#[105, 110, 115]⟩, ⟨#[53]⟩] 0 6 _ (strs_new _ _ _ _ rfl) (by decide) ex12).mono ?_
  rintro e w14 ⟨rfl, hB14⟩
  replace hB14 := Below.next (hB13.alloc hB13.size _) hB14 (Nat.le_refl _)
  clear hB13
  go_wp2_with fail
  refine (fails_yes _ 4 [⟨#[105, 110, 115, 101, 114, 116]⟩, ⟨#[53]⟩, ⟨#[45]⟩, ⟨#[49]⟩] 2 5 _ (strs_new _ _ _ _ rfl) (by decide) ex13).mono ?_
  rintro e w15 ⟨rfl, hB15⟩
  replace hB15 := Below.next (hB14.alloc hB14.size _) hB15 (Nat.le_refl _)
  clear hB14
  go_wp2_with fail
  refine (fails_yes _ 2 [⟨#[105, 110, 115, 101, 114, 116]⟩, ⟨#[53]⟩] 2 5 _ (strs_new _ _ _ _ rfl) (by decide) ex14).mono ?_
  rintro e w16 ⟨rfl, hB16⟩
  replace hB16 := Below.next (hB15.alloc hB15.size _) hB16 (Nat.le_refl _)
  clear hB15
  go_wp2_with fail
  refine (fails_yes _ 5 [⟨#[105, 110, 115, 101, 114, 116]⟩, ⟨#[53]⟩, ⟨#[45, 62]⟩, ⟨#[49]⟩, ⟨#[50]⟩] 4 5 _ (strs_new _ _ _ _ rfl) (by decide) ex15).mono ?_
  rintro e w17 ⟨rfl, hB17⟩
  replace hB17 := Below.next (hB16.alloc hB16.size _) hB17 (Nat.le_refl _)
  clear hB16
  go_wp2_with fail
  refine (awake_yes _).mono ?_
  rintro e w18 ⟨rfl, hB18⟩
  replace hB18 := Below.next hB17 hB18 (Nat.le_refl _)
  clear hB17
  go_wp2_with fail
  refine (fails_yes _ 4 [⟨#[105, 110, 115, 101, 114, 116]⟩, ⟨#[53]⟩, ⟨#[45, 62]⟩, ⟨#[110, 111]⟩] 3 9 _ (strs_new _ _ _ _ rfl) (by decide) ex16).mono ?_
  rintro e w19 ⟨rfl, hB19⟩
  replace hB19 := Below.next (hB18.alloc hB18.size _) hB19 (Nat.le_refl _)
  clear hB18
  go_wp2_with fail
  refine (fails_yes _ 4 [⟨#[105, 110, 115, 101, 114, 116]⟩, ⟨#[53]⟩, ⟨#[45, 62]⟩, ⟨#[50]⟩] 3 9 _ (strs_new _ _ _ _ rfl) (by decide) ex17).mono ?_
  rintro e w20 ⟨rfl, hB20⟩
  replace hB20 := Below.next (hB19.alloc hB19.size _) hB20 (Nat.le_refl _)
  clear hB19
  go_wp2_with fail
  refine (fails_yes _ 4 [⟨#[100, 101, 112, 111, 115, 105, 116]⟩, ⟨#[45, 49]⟩, ⟨#[45, 62]⟩, ⟨#[49]⟩] 1 2 _ (strs_new _ _ _ _ rfl) (by decide) ex18).mono ?_
  rintro e w21 ⟨rfl, hB21⟩
  replace hB21 := Below.next (hB20.alloc hB20.size _) hB21 (Nat.le_refl _)
  clear hB20
  go_wp2
  go_ret
  exact ⟨rfl, hB21⟩
end Go.Proofs.Ytmpglmepmdpjoaa
