/- OperationTells. -/
import Derived.Test.YtmpglmepmdpjoaaOpU
import Derived.Deep.RegionHeld3
namespace Go.Proofs.Ytmpglmepmdpjoaa
open Go.RowKit Go.Maps
set_option linter.unusedVariables false

set_option maxRecDepth 100000 in
set_option maxHeartbeats 8000000 in
theorem tells_law (kd a b k n kind : Int) (s : ByteArray) (w : World) (ha : I64 a) (hb : I64 b) (hn : I64 n) (hs : s.size ≤ maxLen) :
    Calls Try.prog 3 #[opV kd a b k n, .int .i64 kind, .string s] w (Yes w) := by
  by_cases hl : 40 < s.size
  · have d1 : decide ((40 : Int) < (s.size : Int)) = true := decide_eq_true (by omega)
    unfold opV
    go_enter Try.func3, Try.ntmps3
    go_wp2_with fail
    refine (awake_yes _).mono ?_
    rintro e w1 ⟨rfl, hB1⟩
    go_wp2
    go_ret
    exact ⟨rfl, nxt ((Below.refl _ _).alloc (Nat.le_refl _) _) hB1 (by simp)⟩
  · have d1 : decide ((40 : Int) < (s.size : Int)) = false := decide_eq_false (by omega)
    have HT := fun W => type_any kind W
    have HRT := fun W => rtype_any kind W
    have HW := fun W => word_any kind W
    have HRW := fun W => rword_any kind W
    have HK := fun W => kind_any s W
    have HRK := fun W => rkind_any s W
    have HX := fun W => text_any kd a b k n W ha hb hn
    have HRX := fun W => rtext_any kd a b k n W ha hb hn
    have HC := fun W => check_any kd a b k n W
    have HRC := fun W => rcheck_any kd a b k n W
    have HH := Holds.new w 25 #[.int .i64 kd, .int .i64 a, .int .i64 b, .int .i64 k, .int .i64 n]
    unfold opV at *
    generalize typeO (kindI kind) = x1 at *
    generalize wordO (kindI kind) = x2 at *
    generalize errOf (kindI kind) = x3 at *
    generalize kindO (wordI s) = x4 at *
    generalize errOf (wordI s) = x5 at *
    generalize textS kd a b k n = x6 at *
    generalize checkP kd a b k n = x7 at *
    have hB0 : Below w.heap.size w (w.alloc (.cells #[.int .i64 kd, .int .i64 a, .int .i64 b, .int .i64 k, .int .i64 n] 25)) := (Below.refl _ _).alloc (Nat.le_refl _) _
    have HHid := Lib.hid HH
    clear HH
    go_enter Try.func3, Try.ntmps3
    go_wp2_with fail
    refine (HT _).mono ?_
    rintro e w1 ⟨rfl, hB1⟩
    have H1 := Lib.hid (HHid.out.below hB1 (by simp))
    replace hB1 := nxt hB0 hB1 (by simp)
    go_wp2_with fail
    refine (HRT _).mono ?_
    rintro e w2 ⟨rfl, hB2⟩
    have H2 := Lib.hid (H1.out.below hB2 H1.out.lt)
    replace hB2 := nxt hB1 hB2 hB1.size
    go_wp2_with fail
    refine (HW _).mono ?_
    rintro e w3 ⟨rfl, hB3⟩
    have H3 := Lib.hid (H2.out.below hB3 H2.out.lt)
    replace hB3 := nxt hB2 hB3 hB2.size
    go_wp2_with fail
    refine (HRW _).mono ?_
    rintro e w4 ⟨rfl, hB4⟩
    have H4 := Lib.hid (H3.out.below hB4 H3.out.lt)
    replace hB4 := nxt hB3 hB4 hB3.size
    go_wp2_with fail
    refine (HK _).mono ?_
    rintro e w5 ⟨rfl, hB5⟩
    have H5 := Lib.hid (H4.out.below hB5 H4.out.lt)
    replace hB5 := nxt hB4 hB5 hB4.size
    go_wp2_with fail
    refine (HRK _).mono ?_
    rintro e w6 ⟨rfl, hB6⟩
    have H6 := H5.out.below hB6 H5.out.lt
    replace hB6 := nxt hB5 hB6 hB5.size
    clear hB1 hB2 hB3 hB4 hB5 H1 H2 H3 H4 H5 HHid hB0 HT HRT HW HRW HK HRK
    have o0 := H6.c (j := 0) rfl
    have o1 := H6.c (j := 1) rfl
    have o2 := H6.c (j := 2) rfl
    have o3 := H6.c (j := 3) rfl
    have o4 := H6.c (j := 4) rfl
    go_wp2_with fail
    refine (HX _).mono ?_
    rintro e w7 ⟨rfl, hB7⟩
    have H7 := H6.below hB7 H6.lt
    replace hB7 := nxt hB6 hB7 hB6.size
    clear o0 o1 o2 o3 o4 H6 hB6
    have o0 := H7.c (j := 0) rfl
    have o1 := H7.c (j := 1) rfl
    have o2 := H7.c (j := 2) rfl
    have o3 := H7.c (j := 3) rfl
    have o4 := H7.c (j := 4) rfl
    go_wp2_with fail
    refine (HRX _).mono ?_
    rintro e w8 ⟨rfl, hB8⟩
    have H8 := H7.below hB8 H7.lt
    replace hB8 := nxt hB7 hB8 hB7.size
    clear o0 o1 o2 o3 o4 H7 hB7 HX HRX
    have o0 : w8.cell? ⟨w.heap.size, 0, none⟩ = some (.int .i64 kd) := H8.c (j := 0) rfl
    have o1 : w8.cell? ⟨w.heap.size, 1, none⟩ = some (.int .i64 a) := H8.c (j := 1) rfl
    have o2 : w8.cell? ⟨w.heap.size, 2, none⟩ = some (.int .i64 b) := H8.c (j := 2) rfl
    have o3 : w8.cell? ⟨w.heap.size, 3, none⟩ = some (.int .i64 k) := H8.c (j := 3) rfl
    have o4 : w8.cell? ⟨w.heap.size, 4, none⟩ = some (.int .i64 n) := H8.c (j := 4) rfl
    have hKS : ∀ w', Below w8.heap.size w8 w' → (w'.cell? ⟨w.heap.size, 0, none⟩ = some (.int .i64 kd) ∧ w'.cell? ⟨w.heap.size, 1, none⟩ = some (.int .i64 a) ∧ w'.cell? ⟨w.heap.size, 2, none⟩ = some (.int .i64 b) ∧ w'.cell? ⟨w.heap.size, 3, none⟩ = some (.int .i64 k) ∧ w'.cell? ⟨w.heap.size, 4, none⟩ = some (.int .i64 n) ∧ Below w8.heap.size w8 w') := fun w' h => by
      have H := H8.below h H8.lt
      exact ⟨H.c (j := 0) rfl, H.c (j := 1) rfl, H.c (j := 2) rfl, H.c (j := 3) rfl, H.c (j := 4) rfl, h⟩
    have HKS := Lib.hid hKS
    have hb8 : Below w8.heap.size w8 w8.drew := (Below.refl _ w8).drew
    clear hKS H8
    go_wp2
    go_region_held3 (fun w' => w'.cell? ⟨w.heap.size, 0, none⟩ = some (.int .i64 kd) ∧ w'.cell? ⟨w.heap.size, 1, none⟩ = some (.int .i64 a) ∧ w'.cell? ⟨w.heap.size, 2, none⟩ = some (.int .i64 b) ∧ w'.cell? ⟨w.heap.size, 3, none⟩ = some (.int .i64 k) ∧ w'.cell? ⟨w.heap.size, 4, none⟩ = some (.int .i64 n) ∧ Below w8.heap.size w8 w') (first | exact HKS.out _ hb11 | exact HKS.out _ hb10 | exact HKS.out _ hb9 | exact HKS.out _ hb8 | go_keep) (first | (go_at_call 18; refine (HC _).mono ?_; rintro e w9 ⟨rfl, hB9⟩; have hb9 := nxt hb8 hB9 hb8.size) | (go_at_call 19; refine (HRC _).mono ?_; rintro e w10 ⟨rfl, hB10⟩; have hb10 := nxt hb9 hB10 hb9.size) | (go_at_call 9; refine (awake_yes _).mono ?_; rintro e w11 ⟨rfl, hB11⟩; have hb11 := nxt hb10 hB11 hb10.size))
    go_wp2
    go_ret
    exact ⟨rfl, nxt hB8 hb11 hB8.size⟩
end Go.Proofs.Ytmpglmepmdpjoaa
