/- Texts of earlier stages over this seat, joined: OpN OpR OpS OpT OpU OpW OpX OpY OpZ. -/
import Derived.Test.YtpdbkjnaicjfdaaGreatDoorGo
set_option maxRecDepth 100000
namespace Go.Proofs.YtpdbkjnaicjfdaaGreatDoor
open Go.RowKit Go.Maps
set_option linter.unusedVariables false

theorem kindI_in (i : Nat) (h : i < 15) : kindI ((i : Int) + 1) = some i := by
  have : ∀ i ∈ List.range 15, kindI ((i : Int) + 1) = some i := by decide +kernel
  exact this i (List.mem_range.2 h)
theorem kindI_at (j : Nat) (h1 : 1 ≤ j) (h : j ≤ 15) : kindI (j : Int) = some (j - 1) := by
  have := kindI_in (j - 1) (by omega)
  rwa [show ((j - 1 : Nat) : Int) + 1 = (j : Int) by omega] at this
theorem kindI_out (kd : Int) (h : kd < 1 ∨ 15 < kd) : kindI kd = none := by
  rw [kindI, List.find?_eq_none]
  intro x hx
  have := List.mem_range.1 hx
  simp
  omega
theorem wordI_in (i : Nat) (h : i < 15) : wordI (op_wordB i) = some i := by
  have : ∀ i ∈ List.range 15, wordI (op_wordB i) = some i := by decide +kernel
  exact this i (List.mem_range.2 h)
theorem wordB_inj {i j : Nat} (hi : i < 15) (hj : j < 15) (h : op_wordB i = op_wordB j) : i = j := by
  have h1 := wordI_in i hi
  rw [h, wordI_in j hj] at h1
  exact (Option.some.inj h1).symm
theorem objN_in (i : Nat) (h : i < 15) : 1 ≤ objN i ∧ objN i ≤ 5 := by
  have : ∀ i ∈ List.range 15, 1 ≤ objN i ∧ objN i ≤ 5 := by decide +kernel
  exact this i (List.mem_range.2 h)

end Go.Proofs.YtpdbkjnaicjfdaaGreatDoor

namespace Go.Proofs.YtpdbkjnaicjfdaaGreatDoor
open Go.RowKit Go.Maps
set_option linter.unusedVariables false

/-- The document's number for what may be returned. -/
def rR : Nat → Nat
  | 0 => 0
  | 1 => 2
  | 2 => 1
  | 3 => 1
  | 4 => 1
  | 5 => 3
  | 6 => 4
  | 7 => 4
  | 8 => 4
  | 9 => 0
  | 10 => 4
  | 11 => 3
  | 12 => 1
  | 13 => 1
  | 14 => 3
  | _ => 0
def rkL (i : Nat) : List Value := [.int .i64 (objN i), .int .i64 (argN i), .int .i64 (rR i), .string (op_wordB i)]
def rkindsL : List Value := (List.range 15).flatMap rkL
def rkindsO : Obj := .cells rkindsL.toArray 155
def RKindsPost (w : World) (e : Ending) (w' : World) : Prop := e = .returned (.slice (some ⟨w.heap.size, 0, none⟩) 15 15) ∧ w' = w.alloc rkindsO
set_option maxRecDepth 100000 in
set_option maxHeartbeats 1000000 in
theorem rkinds_any (w : World) : Calls Tryz.prog 109 #[] w (RKindsPost w) := by
  go_enter Tryz.func109, Tryz.ntmps109
  go_wp2
  go_ret
  exact ⟨rfl, rfl⟩
theorem rk_cells (k : Nat) (hk : k < 15) (w : World) (j : Nat) (hj : j < 4) : (w.alloc rkindsO).cell? ⟨w.heap.size, k * 4 + j, none⟩ = (rkL k)[j]? := by
  rw [rkindsO, World.cell?_alloc_new]
  have hk' : k ∈ List.range 15 := List.mem_range.2 hk
  have hj' : j ∈ List.range 4 := List.mem_range.2 hj
  have hs : rkindsL.toArray[k * 4 + j]? = (rkindsL.map id)[k * 4 + j]? := by rw [List.map_id, List.getElem?_toArray]
  rw [hs, List.map_id]
  have : ∀ k ∈ List.range 15, ∀ j ∈ List.range 4, rkindsL[k * 4 + j]? = (rkL k)[j]? := by
    simp only [show List.range 15 = [0,1,2,3,4,5,6,7,8,9,10,11,12,13,14] from rfl, show List.range 4 = [0,1,2,3] from rfl, List.forall_mem_cons]
    repeat' apply And.intro
    all_goals first | rfl | (intro x hx; cases hx)
  exact this k hk' j hj'

def rkV : Option Nat → Value
  | none => .agg #[.int .i64 0, .int .i64 0, .int .i64 0, .string ⟨#[]⟩]
  | some i => .agg (rkL i).toArray
def ROfPost (o : Option Nat) (w : World) (e : Ending) (w' : World) : Prop := e = .returned (.tuple #[rkV o, .bool o.isSome]) ∧ Below w.heap.size w w'

set_option maxRecDepth 100000 in
set_option maxHeartbeats 1000000 in
theorem rof_any (kd : Int) (w : World) : Calls Tryz.prog 94 #[.int .i64 kd] w (ROfPost (kindI kd) w) := by
  by_cases h : kd < 1 ∨ 15 < kd
  · rw [kindI_out kd h]
    have d1 : ((decide (kd < 1)) || decide (15 < kd)) = true := by simpa using h
    cases e1 : decide (kd < 1) with
    | true =>
      go_enter Tryz.func94, Tryz.ntmps94
      go_wp2
      refine bodyPost_ret (v := .tuple #[.agg #[.int .i64 0, .int .i64 0, .int .i64 0, .string ⟨#[]⟩], .bool false]) (by simp [results, Tryz.f94, go_sem]) rfl ?_
      exact ⟨rfl, (Below.refl _ _).alloc (Nat.le_refl _) _⟩
    | false =>
      rw [e1] at d1
      have d2 : decide (15 < kd) = true := by simpa using d1
      go_enter Tryz.func94, Tryz.ntmps94
      go_wp2
      refine bodyPost_ret (v := .tuple #[.agg #[.int .i64 0, .int .i64 0, .int .i64 0, .string ⟨#[]⟩], .bool false]) (by simp [results, Tryz.f94, go_sem]) rfl ?_
      exact ⟨rfl, (Below.refl _ _).alloc (Nat.le_refl _) _⟩
  · obtain ⟨i, hi, rfl⟩ : ∃ i : Nat, i < 15 ∧ kd = (i : Int) + 1 := ⟨(kd - 1).toNat, by omega, by omega⟩
    rw [kindI_in i hi]
    have hc := rk_cells i hi (w.alloc (.cells #[.int .i64 0, .int .i64 0, .int .i64 0, .string ⟨#[]⟩] 155))
    rw [World.size_alloc] at hc
    have c0 := hc 0 (by omega)
    have c1 := hc 1 (by omega)
    have c2 := hc 2 (by omega)
    have c3 := hc 3 (by omega)
    simp only [rkL, List.getElem?_cons_zero, List.getElem?_cons_succ, Nat.add_zero] at c0 c1 c2 c3
    have HZ := (Holds.new w 155 #[.int .i64 0, .int .i64 0, .int .i64 0, .string ⟨#[]⟩]).alloc rkindsO
    have z0 := HZ.c (j := 0) rfl
    have z1 := HZ.c (j := 1) rfl
    have z2 := HZ.c (j := 2) rfl
    have z3 := HZ.c (j := 3) rfl
    have f0 := HZ.frozen 0
    have f1 := HZ.frozen 1
    have f2 := HZ.frozen 2
    have f3 := HZ.frozen 3
    have e1 : decide ((i : Int) + 1 < 1) = false := decide_eq_false (by omega)
    have e2 : decide ((15 : Int) < (i : Int) + 1) = false := decide_eq_false (by omega)
    have e3 : IntKind.i64.wrap ((i : Int) + 1 - 1) = (i : Int) := by
      rw [show (i : Int) + 1 - 1 = (i : Int) by omega]
      have e : (i : Int) % 2 ^ 64 = i := Int.emod_eq_of_lt (by omega) (by omega)
      simp only [IntKind.wrap, IntKind.bits, IntKind.signed, e]
      rw [if_neg]
      simp
      omega
    have e4 : (0 : Int) ≤ (i : Int) := by omega
    have e5 : (i : Int) < 15 := by omega
    have HX : Hid (rkV (some i) = .agg #[.int .i64 (objN i), .int .i64 (argN i), .int .i64 (rR i), .string (op_wordB i)]) := Lib.hid rfl
    generalize (objN i : Int) = y1 at *
    generalize (argN i : Int) = y2 at *
    generalize (rR i : Int) = y3 at *
    generalize op_wordB i = y4 at *
    clear hc
    go_enter Tryz.func94, Tryz.ntmps94
    go_wp2_with fail
    refine (rkinds_any _).mono ?_
    rintro e w1 ⟨rfl, rfl⟩
    go_wp2
    refine bodyPost_ret (v := .tuple #[.agg #[.int .i64 y1, .int .i64 y2, .int .i64 y3, .string y4], .bool true]) (by simp [results, Tryz.f94, go_sem]) rfl ?_
    refine ⟨by rw [HX.out]; rfl, ?_⟩
    exact ((Below.refl _ _).alloc (Nat.le_refl _) _).alloc (by simp) _
end Go.Proofs.YtpdbkjnaicjfdaaGreatDoor

namespace Go.Proofs.YtpdbkjnaicjfdaaGreatDoor
open Go.RowKit Go.Maps
set_option linter.unusedVariables false

set_option maxRecDepth 100000 in
theorem rtype_any (kd : Int) (w : World) : Calls Tryz.prog 67 #[.int .i64 kd] w (Says (.tuple #[.int .i64 (typeO (kindI kd)), .int .i64 (errOf (kindI kd))]) w) := by
  have H := fun W => rof_any kd W
  generalize kindI kd = o at H
  cases o with
  | none =>
    go_enter Tryz.func67, Tryz.ntmps67
    go_wp2_with fail
    refine (H _).mono ?_
    rintro e w1 ⟨rfl, hB1⟩
    simp only [rkV, Option.isSome]
    go_wp2
    go_ret2
    exact ⟨rfl, hB1.alloc hB1.size _⟩
  | some i =>
    go_enter Tryz.func67, Tryz.ntmps67
    go_wp2_with fail
    refine (H _).mono ?_
    rintro e w1 ⟨rfl, hB1⟩
    simp only [rkV, rkL, Option.isSome]
    go_wp2
    go_ret2
    exact ⟨rfl, hB1.alloc hB1.size _⟩

/-- What the document lets be returned. -/
def rokR : Nat → Int → Int → Bool
  | 0, k, n => k == 0 && n == 0
  | 1, k, n => k == 2 && (n == 0 || n == 1)
  | 2, k, _ => k == 2
  | 3, k, n => k == 2 && (decide (0 ≤ n) && decide (n ≤ 4611686018427387904))
  | _, k, n => k == 2 || (k == 1 && n == 0)
theorem rR_le (i : Nat) : rR i ≤ 4 := by unfold rR; split <;> omega
theorem rok_ok (i : Nat) (h : i < 15) (k n : Int) : rokR (rR i) k n = okR (mR i) k n := by
  match i, h with
  | 0, _ => rfl
  | 1, _ => rfl
  | 2, _ => rfl
  | 3, _ => rfl
  | 4, _ => rfl
  | 5, _ => rfl
  | 6, _ => rfl
  | 7, _ => rfl
  | 8, _ => rfl
  | 9, _ => rfl
  | 10, _ => rfl
  | 11, _ => rfl
  | 12, _ => rfl
  | 13, _ => rfl
  | 14, _ => rfl
  | i + 15, h => omega

set_option maxHeartbeats 1000000 in
theorem rret0 (y1 y2 : Int) (y4 : ByteArray) (k n : Int) (w : World) : Calls Tryz.prog 108 #[.agg #[.int .i64 y1, .int .i64 y2, .int .i64 0, .string y4], .agg #[.int .i64 k, .int .i64 n]] w (BoolPost (rokR 0 k n) w) := by
  cases h0 : (k == 0) <;> cases h1 : (n == 0)
  all_goals go_enter Tryz.func108, Tryz.ntmps108
  all_goals go_wp2
  all_goals go_ret
  all_goals exact ⟨by first | rfl | simp_all [rokR], ((Below.refl _ _).alloc (Nat.le_refl _) _).alloc (by simp) _⟩

set_option maxHeartbeats 1000000 in
theorem rret1 (y1 y2 : Int) (y4 : ByteArray) (k n : Int) (w : World) : Calls Tryz.prog 108 #[.agg #[.int .i64 y1, .int .i64 y2, .int .i64 1, .string y4], .agg #[.int .i64 k, .int .i64 n]] w (BoolPost (rokR 1 k n) w) := by
  cases h0 : (k == 2) <;> cases h1 : (n == 0) <;> cases h2 : (n == 1)
  all_goals go_enter Tryz.func108, Tryz.ntmps108
  all_goals go_wp2
  all_goals go_ret
  all_goals exact ⟨by first | rfl | simp_all [rokR], ((Below.refl _ _).alloc (Nat.le_refl _) _).alloc (by simp) _⟩

set_option maxHeartbeats 1000000 in
theorem rret2 (y1 y2 : Int) (y4 : ByteArray) (k n : Int) (w : World) : Calls Tryz.prog 108 #[.agg #[.int .i64 y1, .int .i64 y2, .int .i64 2, .string y4], .agg #[.int .i64 k, .int .i64 n]] w (BoolPost (rokR 2 k n) w) := by
  cases h0 : (k == 2)
  all_goals go_enter Tryz.func108, Tryz.ntmps108
  all_goals go_wp2
  all_goals go_ret
  all_goals exact ⟨by first | rfl | simp_all [rokR], ((Below.refl _ _).alloc (Nat.le_refl _) _).alloc (by simp) _⟩

set_option maxHeartbeats 1000000 in
theorem rret3 (y1 y2 : Int) (y4 : ByteArray) (k n : Int) (w : World) : Calls Tryz.prog 108 #[.agg #[.int .i64 y1, .int .i64 y2, .int .i64 3, .string y4], .agg #[.int .i64 k, .int .i64 n]] w (BoolPost (rokR 3 k n) w) := by
  cases h0 : (k == 2) <;> cases h1 : decide (0 ≤ n) <;> cases h2 : decide (n ≤ 4611686018427387904)
  all_goals go_enter Tryz.func108, Tryz.ntmps108
  all_goals go_wp2
  all_goals go_ret
  all_goals exact ⟨by first | rfl | simp_all [rokR], ((Below.refl _ _).alloc (Nat.le_refl _) _).alloc (by simp) _⟩

set_option maxHeartbeats 1000000 in
theorem rret4 (y1 y2 : Int) (y4 : ByteArray) (k n : Int) (w : World) : Calls Tryz.prog 108 #[.agg #[.int .i64 y1, .int .i64 y2, .int .i64 4, .string y4], .agg #[.int .i64 k, .int .i64 n]] w (BoolPost (rokR 4 k n) w) := by
  cases h0 : (k == 2) <;> cases h1 : (k == 1) <;> cases h2 : (n == 0)
  all_goals go_enter Tryz.func108, Tryz.ntmps108
  all_goals go_wp2
  all_goals go_ret
  all_goals exact ⟨by first | rfl | simp_all [rokR], ((Below.refl _ _).alloc (Nat.le_refl _) _).alloc (by simp) _⟩

theorem rret_any (rr : Nat) (hr : rr ≤ 4) (y1 y2 : Int) (y4 : ByteArray) (k n : Int) (w : World) : Calls Tryz.prog 108 #[.agg #[.int .i64 y1, .int .i64 y2, .int .i64 rr, .string y4], .agg #[.int .i64 k, .int .i64 n]] w (BoolPost (rokR rr k n) w) := by
  match rr, hr with
  | 0, _ => exact rret0 y1 y2 y4 k n w
  | 1, _ => exact rret1 y1 y2 y4 k n w
  | 2, _ => exact rret2 y1 y2 y4 k n w
  | 3, _ => exact rret3 y1 y2 y4 k n w
  | 4, _ => exact rret4 y1 y2 y4 k n w
end Go.Proofs.YtpdbkjnaicjfdaaGreatDoor

namespace Go.Proofs.YtpdbkjnaicjfdaaGreatDoor
open Go.RowKit Go.Maps
set_option linter.unusedVariables false

theorem okN_any (a : Int) : okN 0 a = true := rfl
theorem okN_zero (a : Int) : (okN 1 a = false) ↔ a ≠ 0 := by show (a == 0) = false ↔ _; simp
theorem okN_amount (a : Int) : (okN 2 a = false) ↔ (a < 0 ∨ 4611686018427387904 < a) := by
  show (decide (0 ≤ a) && decide (a ≤ 4611686018427387904)) = false ↔ _
  rw [Bool.and_eq_false_iff, decide_eq_false_iff_not, decide_eq_false_iff_not]; omega
theorem chk_iff (i : Nat) (h : i < 15) (a b : Int) : ((argN i < 1 ∧ a ≠ 0) ∨ (argN i < 2 ∧ b ≠ 0) ∨ (objN i = 5 ∧ (a < 0 ∨ 4611686018427387904 < a))) ↔ (okN (mA i) a = false ∨ okN (mB i) b = false) := by
  match i, h with
  | 0, _ =>
    show ((1 < 1 ∧ a ≠ 0) ∨ (1 < 2 ∧ b ≠ 0) ∨ (1 = 5 ∧ (a < 0 ∨ 4611686018427387904 < a))) ↔ (okN 0 a = false ∨ okN 1 b = false)
    rw [okN_any, okN_zero]
    simp
  | 1, _ =>
    show ((0 < 1 ∧ a ≠ 0) ∨ (0 < 2 ∧ b ≠ 0) ∨ (1 = 5 ∧ (a < 0 ∨ 4611686018427387904 < a))) ↔ (okN 1 a = false ∨ okN 1 b = false)
    rw [okN_zero, okN_zero]
    omega
  | 2, _ =>
    show ((1 < 1 ∧ a ≠ 0) ∨ (1 < 2 ∧ b ≠ 0) ∨ (2 = 5 ∧ (a < 0 ∨ 4611686018427387904 < a))) ↔ (okN 0 a = false ∨ okN 1 b = false)
    rw [okN_any, okN_zero]
    simp
  | 3, _ =>
    show ((1 < 1 ∧ a ≠ 0) ∨ (1 < 2 ∧ b ≠ 0) ∨ (2 = 5 ∧ (a < 0 ∨ 4611686018427387904 < a))) ↔ (okN 0 a = false ∨ okN 1 b = false)
    rw [okN_any, okN_zero]
    simp
  | 4, _ =>
    show ((1 < 1 ∧ a ≠ 0) ∨ (1 < 2 ∧ b ≠ 0) ∨ (2 = 5 ∧ (a < 0 ∨ 4611686018427387904 < a))) ↔ (okN 0 a = false ∨ okN 1 b = false)
    rw [okN_any, okN_zero]
    simp
  | 5, _ =>
    show ((0 < 1 ∧ a ≠ 0) ∨ (0 < 2 ∧ b ≠ 0) ∨ (2 = 5 ∧ (a < 0 ∨ 4611686018427387904 < a))) ↔ (okN 1 a = false ∨ okN 1 b = false)
    rw [okN_zero, okN_zero]
    omega
  | 6, _ =>
    show ((2 < 1 ∧ a ≠ 0) ∨ (2 < 2 ∧ b ≠ 0) ∨ (3 = 5 ∧ (a < 0 ∨ 4611686018427387904 < a))) ↔ (okN 0 a = false ∨ okN 0 b = false)
    rw [okN_any, okN_any]
    simp
  | 7, _ =>
    show ((1 < 1 ∧ a ≠ 0) ∨ (1 < 2 ∧ b ≠ 0) ∨ (3 = 5 ∧ (a < 0 ∨ 4611686018427387904 < a))) ↔ (okN 0 a = false ∨ okN 1 b = false)
    rw [okN_any, okN_zero]
    simp
  | 8, _ =>
    show ((1 < 1 ∧ a ≠ 0) ∨ (1 < 2 ∧ b ≠ 0) ∨ (3 = 5 ∧ (a < 0 ∨ 4611686018427387904 < a))) ↔ (okN 0 a = false ∨ okN 1 b = false)
    rw [okN_any, okN_zero]
    simp
  | 9, _ =>
    show ((1 < 1 ∧ a ≠ 0) ∨ (1 < 2 ∧ b ≠ 0) ∨ (4 = 5 ∧ (a < 0 ∨ 4611686018427387904 < a))) ↔ (okN 0 a = false ∨ okN 1 b = false)
    rw [okN_any, okN_zero]
    simp
  | 10, _ =>
    show ((0 < 1 ∧ a ≠ 0) ∨ (0 < 2 ∧ b ≠ 0) ∨ (4 = 5 ∧ (a < 0 ∨ 4611686018427387904 < a))) ↔ (okN 1 a = false ∨ okN 1 b = false)
    rw [okN_zero, okN_zero]
    omega
  | 11, _ =>
    show ((0 < 1 ∧ a ≠ 0) ∨ (0 < 2 ∧ b ≠ 0) ∨ (4 = 5 ∧ (a < 0 ∨ 4611686018427387904 < a))) ↔ (okN 1 a = false ∨ okN 1 b = false)
    rw [okN_zero, okN_zero]
    omega
  | 12, _ =>
    show ((1 < 1 ∧ a ≠ 0) ∨ (1 < 2 ∧ b ≠ 0) ∨ (5 = 5 ∧ (a < 0 ∨ 4611686018427387904 < a))) ↔ (okN 2 a = false ∨ okN 1 b = false)
    rw [okN_amount, okN_zero]
    omega
  | 13, _ =>
    show ((1 < 1 ∧ a ≠ 0) ∨ (1 < 2 ∧ b ≠ 0) ∨ (5 = 5 ∧ (a < 0 ∨ 4611686018427387904 < a))) ↔ (okN 2 a = false ∨ okN 1 b = false)
    rw [okN_amount, okN_zero]
    omega
  | 14, _ =>
    show ((0 < 1 ∧ a ≠ 0) ∨ (0 < 2 ∧ b ≠ 0) ∨ (5 = 5 ∧ (a < 0 ∨ 4611686018427387904 < a))) ↔ (okN 1 a = false ∨ okN 1 b = false)
    rw [okN_zero, okN_zero]
    omega
  | i + 15, h => omega

def RCk (w : World) (r : Int) (e : Ending) (w' : World) : Prop := e = .returned (.int .i64 r) ∧ Below w.heap.size w w'

set_option maxRecDepth 100000 in
set_option maxHeartbeats 4000000 in
theorem rcheck_0n (kd a b k n : Int) (ob rr : Int) (wd : ByteArray) (okr : Bool) (w : World) (h5 : (ob == 5) = false)
    (HO : ∀ W, Calls Tryz.prog 94 #[.int .i64 kd] W fun e w' => e = .returned (.tuple #[.agg #[.int .i64 ob, .int .i64 0, .int .i64 rr, .string wd], .bool true]) ∧ Below W.heap.size W w')
    (HR : ∀ W, Calls Tryz.prog 108 #[.agg #[.int .i64 ob, .int .i64 0, .int .i64 rr, .string wd], .agg #[.int .i64 k, .int .i64 n]] W (BoolPost okr W)) :
    Calls Tryz.prog 93 #[opV kd a b k n] w (RCk w (if a ≠ 0 ∨ b ≠ 0 then 2 else if okr = false then 9 else 0)) := by
  have HP := Lib.hid (show (if a ≠ 0 ∨ b ≠ 0 then (2 : Int) else if okr = false then 9 else 0) = _ from rfl)
  have HH := Holds.new w 50 #[.int .i64 kd, .int .i64 a, .int .i64 b, .int .i64 k, .int .i64 n]
  have HHid := Lib.hid HH
  clear HH
  unfold opV
  generalize hres : (if a ≠ 0 ∨ b ≠ 0 then (2 : Int) else if okr = false then 9 else 0) = res
  have HRES := Lib.hid hres
  clear hres HP
  cases hz : (a != 0) <;> cases hy : (b != 0)
  all_goals
    go_enter Tryz.func93, Tryz.ntmps93
    go_wp2_with fail
    refine (HO _).mono ?_
    rintro e w1 ⟨rfl, hB1⟩
    have hs1 := hB1.size
    simp only [World.size_alloc] at hs1
    have HO1 := (HHid.out.below hB1 (by simp)).alloc (.cells #[.int .i64 ob, .int .i64 0, .int .i64 rr, .string wd] 155)
    have o1 := HO1.c (j := 1) rfl
    have o2 := HO1.c (j := 2) rfl
    have o3 := HO1.c (j := 3) rfl
    have o4 := HO1.c (j := 4) rfl
    have hBn : Below w.heap.size w (w1.alloc (.cells #[.int .i64 ob, .int .i64 0, .int .i64 rr, .string wd] 155)) := Below.alloc (nxt ((Below.refl _ _).alloc (Nat.le_refl _) _) hB1 (by simp)) (by omega) _
    clear HO1
    first
    | (go_wp2_with fail
       refine (HR _).mono ?_
       rintro e w2 ⟨rfl, hB2⟩
       have hBf := nxt hBn hB2 (by simp; omega)
       cases okr
       · go_wp2
         go_ret
         exact ⟨by rw [← HRES.out]; simp_all, hBf⟩
       · go_wp2
         go_ret
         exact ⟨by rw [← HRES.out]; simp_all, hBf⟩)
    | (go_wp2
       go_ret
       refine ⟨?_, hBn⟩
       rw [← HRES.out, if_pos (by simp_all)]
       rfl)

set_option maxRecDepth 100000 in
set_option maxHeartbeats 4000000 in
theorem rcheck_0y (kd a b k n : Int) (ob rr : Int) (wd : ByteArray) (okr : Bool) (w : World) (h5 : (ob == 5) = true)
    (HO : ∀ W, Calls Tryz.prog 94 #[.int .i64 kd] W fun e w' => e = .returned (.tuple #[.agg #[.int .i64 ob, .int .i64 0, .int .i64 rr, .string wd], .bool true]) ∧ Below W.heap.size W w')
    (HR : ∀ W, Calls Tryz.prog 108 #[.agg #[.int .i64 ob, .int .i64 0, .int .i64 rr, .string wd], .agg #[.int .i64 k, .int .i64 n]] W (BoolPost okr W)) :
    Calls Tryz.prog 93 #[opV kd a b k n] w (RCk w (if a ≠ 0 ∨ b ≠ 0 ∨ (a < 0 ∨ 4611686018427387904 < a) then 2 else if okr = false then 9 else 0)) := by
  have HP := Lib.hid (show (if a ≠ 0 ∨ b ≠ 0 ∨ (a < 0 ∨ 4611686018427387904 < a) then (2 : Int) else if okr = false then 9 else 0) = _ from rfl)
  have HH := Holds.new w 50 #[.int .i64 kd, .int .i64 a, .int .i64 b, .int .i64 k, .int .i64 n]
  have HHid := Lib.hid HH
  clear HH
  unfold opV
  generalize hres : (if a ≠ 0 ∨ b ≠ 0 ∨ (a < 0 ∨ 4611686018427387904 < a) then (2 : Int) else if okr = false then 9 else 0) = res
  have HRES := Lib.hid hres
  clear hres HP
  cases hn : decide (a < 0) <;> cases hg : decide (4611686018427387904 < a) <;> cases hz : (a != 0) <;> cases hy : (b != 0)
  all_goals
    go_enter Tryz.func93, Tryz.ntmps93
    go_wp2_with fail
    refine (HO _).mono ?_
    rintro e w1 ⟨rfl, hB1⟩
    have hs1 := hB1.size
    simp only [World.size_alloc] at hs1
    have HO1 := (HHid.out.below hB1 (by simp)).alloc (.cells #[.int .i64 ob, .int .i64 0, .int .i64 rr, .string wd] 155)
    have o1 := HO1.c (j := 1) rfl
    have o2 := HO1.c (j := 2) rfl
    have o3 := HO1.c (j := 3) rfl
    have o4 := HO1.c (j := 4) rfl
    have hBn : Below w.heap.size w (w1.alloc (.cells #[.int .i64 ob, .int .i64 0, .int .i64 rr, .string wd] 155)) := Below.alloc (nxt ((Below.refl _ _).alloc (Nat.le_refl _) _) hB1 (by simp)) (by omega) _
    clear HO1
    first
    | (go_wp2_with fail
       refine (HR _).mono ?_
       rintro e w2 ⟨rfl, hB2⟩
       have hBf := nxt hBn hB2 (by simp; omega)
       cases okr
       · go_wp2
         go_ret
         exact ⟨by rw [← HRES.out]; simp_all, hBf⟩
       · go_wp2
         go_ret
         exact ⟨by rw [← HRES.out]; simp_all, hBf⟩)
    | (go_wp2
       go_ret
       refine ⟨?_, hBn⟩
       rw [← HRES.out, if_pos (by simp_all)]
       rfl)

set_option maxRecDepth 100000 in
set_option maxHeartbeats 4000000 in
theorem rcheck_1n (kd a b k n : Int) (ob rr : Int) (wd : ByteArray) (okr : Bool) (w : World) (h5 : (ob == 5) = false)
    (HO : ∀ W, Calls Tryz.prog 94 #[.int .i64 kd] W fun e w' => e = .returned (.tuple #[.agg #[.int .i64 ob, .int .i64 1, .int .i64 rr, .string wd], .bool true]) ∧ Below W.heap.size W w')
    (HR : ∀ W, Calls Tryz.prog 108 #[.agg #[.int .i64 ob, .int .i64 1, .int .i64 rr, .string wd], .agg #[.int .i64 k, .int .i64 n]] W (BoolPost okr W)) :
    Calls Tryz.prog 93 #[opV kd a b k n] w (RCk w (if b ≠ 0 then 2 else if okr = false then 9 else 0)) := by
  have HP := Lib.hid (show (if b ≠ 0 then (2 : Int) else if okr = false then 9 else 0) = _ from rfl)
  have HH := Holds.new w 50 #[.int .i64 kd, .int .i64 a, .int .i64 b, .int .i64 k, .int .i64 n]
  have HHid := Lib.hid HH
  clear HH
  unfold opV
  generalize hres : (if b ≠ 0 then (2 : Int) else if okr = false then 9 else 0) = res
  have HRES := Lib.hid hres
  clear hres HP
  cases hy : (b != 0)
  all_goals
    go_enter Tryz.func93, Tryz.ntmps93
    go_wp2_with fail
    refine (HO _).mono ?_
    rintro e w1 ⟨rfl, hB1⟩
    have hs1 := hB1.size
    simp only [World.size_alloc] at hs1
    have HO1 := (HHid.out.below hB1 (by simp)).alloc (.cells #[.int .i64 ob, .int .i64 1, .int .i64 rr, .string wd] 155)
    have o1 := HO1.c (j := 1) rfl
    have o2 := HO1.c (j := 2) rfl
    have o3 := HO1.c (j := 3) rfl
    have o4 := HO1.c (j := 4) rfl
    have hBn : Below w.heap.size w (w1.alloc (.cells #[.int .i64 ob, .int .i64 1, .int .i64 rr, .string wd] 155)) := Below.alloc (nxt ((Below.refl _ _).alloc (Nat.le_refl _) _) hB1 (by simp)) (by omega) _
    clear HO1
    first
    | (go_wp2_with fail
       refine (HR _).mono ?_
       rintro e w2 ⟨rfl, hB2⟩
       have hBf := nxt hBn hB2 (by simp; omega)
       cases okr
       · go_wp2
         go_ret
         exact ⟨by rw [← HRES.out]; simp_all, hBf⟩
       · go_wp2
         go_ret
         exact ⟨by rw [← HRES.out]; simp_all, hBf⟩)
    | (go_wp2
       go_ret
       refine ⟨?_, hBn⟩
       rw [← HRES.out, if_pos (by simp_all)]
       rfl)

set_option maxRecDepth 100000 in
set_option maxHeartbeats 4000000 in
theorem rcheck_1y (kd a b k n : Int) (ob rr : Int) (wd : ByteArray) (okr : Bool) (w : World) (h5 : (ob == 5) = true)
    (HO : ∀ W, Calls Tryz.prog 94 #[.int .i64 kd] W fun e w' => e = .returned (.tuple #[.agg #[.int .i64 ob, .int .i64 1, .int .i64 rr, .string wd], .bool true]) ∧ Below W.heap.size W w')
    (HR : ∀ W, Calls Tryz.prog 108 #[.agg #[.int .i64 ob, .int .i64 1, .int .i64 rr, .string wd], .agg #[.int .i64 k, .int .i64 n]] W (BoolPost okr W)) :
    Calls Tryz.prog 93 #[opV kd a b k n] w (RCk w (if b ≠ 0 ∨ (a < 0 ∨ 4611686018427387904 < a) then 2 else if okr = false then 9 else 0)) := by
  have HP := Lib.hid (show (if b ≠ 0 ∨ (a < 0 ∨ 4611686018427387904 < a) then (2 : Int) else if okr = false then 9 else 0) = _ from rfl)
  have HH := Holds.new w 50 #[.int .i64 kd, .int .i64 a, .int .i64 b, .int .i64 k, .int .i64 n]
  have HHid := Lib.hid HH
  clear HH
  unfold opV
  generalize hres : (if b ≠ 0 ∨ (a < 0 ∨ 4611686018427387904 < a) then (2 : Int) else if okr = false then 9 else 0) = res
  have HRES := Lib.hid hres
  clear hres HP
  cases hn : decide (a < 0) <;> cases hg : decide (4611686018427387904 < a) <;> cases hy : (b != 0)
  all_goals
    go_enter Tryz.func93, Tryz.ntmps93
    go_wp2_with fail
    refine (HO _).mono ?_
    rintro e w1 ⟨rfl, hB1⟩
    have hs1 := hB1.size
    simp only [World.size_alloc] at hs1
    have HO1 := (HHid.out.below hB1 (by simp)).alloc (.cells #[.int .i64 ob, .int .i64 1, .int .i64 rr, .string wd] 155)
    have o1 := HO1.c (j := 1) rfl
    have o2 := HO1.c (j := 2) rfl
    have o3 := HO1.c (j := 3) rfl
    have o4 := HO1.c (j := 4) rfl
    have hBn : Below w.heap.size w (w1.alloc (.cells #[.int .i64 ob, .int .i64 1, .int .i64 rr, .string wd] 155)) := Below.alloc (nxt ((Below.refl _ _).alloc (Nat.le_refl _) _) hB1 (by simp)) (by omega) _
    clear HO1
    first
    | (go_wp2_with fail
       refine (HR _).mono ?_
       rintro e w2 ⟨rfl, hB2⟩
       have hBf := nxt hBn hB2 (by simp; omega)
       cases okr
       · go_wp2
         go_ret
         exact ⟨by rw [← HRES.out]; simp_all, hBf⟩
       · go_wp2
         go_ret
         exact ⟨by rw [← HRES.out]; simp_all, hBf⟩)
    | (go_wp2
       go_ret
       refine ⟨?_, hBn⟩
       rw [← HRES.out, if_pos (by simp_all)]
       rfl)

set_option maxRecDepth 100000 in
set_option maxHeartbeats 4000000 in
theorem rcheck_2n (kd a b k n : Int) (ob rr : Int) (wd : ByteArray) (okr : Bool) (w : World) (h5 : (ob == 5) = false)
    (HO : ∀ W, Calls Tryz.prog 94 #[.int .i64 kd] W fun e w' => e = .returned (.tuple #[.agg #[.int .i64 ob, .int .i64 2, .int .i64 rr, .string wd], .bool true]) ∧ Below W.heap.size W w')
    (HR : ∀ W, Calls Tryz.prog 108 #[.agg #[.int .i64 ob, .int .i64 2, .int .i64 rr, .string wd], .agg #[.int .i64 k, .int .i64 n]] W (BoolPost okr W)) :
    Calls Tryz.prog 93 #[opV kd a b k n] w (RCk w (if False then 2 else if okr = false then 9 else 0)) := by
  have HP := Lib.hid (show (if False then (2 : Int) else if okr = false then 9 else 0) = _ from rfl)
  have HH := Holds.new w 50 #[.int .i64 kd, .int .i64 a, .int .i64 b, .int .i64 k, .int .i64 n]
  have HHid := Lib.hid HH
  clear HH
  unfold opV
  generalize hres : (if False then (2 : Int) else if okr = false then 9 else 0) = res
  have HRES := Lib.hid hres
  clear hres HP
  skip
  all_goals
    go_enter Tryz.func93, Tryz.ntmps93
    go_wp2_with fail
    refine (HO _).mono ?_
    rintro e w1 ⟨rfl, hB1⟩
    have hs1 := hB1.size
    simp only [World.size_alloc] at hs1
    have HO1 := (HHid.out.below hB1 (by simp)).alloc (.cells #[.int .i64 ob, .int .i64 2, .int .i64 rr, .string wd] 155)
    have o1 := HO1.c (j := 1) rfl
    have o2 := HO1.c (j := 2) rfl
    have o3 := HO1.c (j := 3) rfl
    have o4 := HO1.c (j := 4) rfl
    have hBn : Below w.heap.size w (w1.alloc (.cells #[.int .i64 ob, .int .i64 2, .int .i64 rr, .string wd] 155)) := Below.alloc (nxt ((Below.refl _ _).alloc (Nat.le_refl _) _) hB1 (by simp)) (by omega) _
    clear HO1
    first
    | (go_wp2_with fail
       refine (HR _).mono ?_
       rintro e w2 ⟨rfl, hB2⟩
       have hBf := nxt hBn hB2 (by simp; omega)
       cases okr
       · go_wp2
         go_ret
         exact ⟨by rw [← HRES.out]; simp_all, hBf⟩
       · go_wp2
         go_ret
         exact ⟨by rw [← HRES.out]; simp_all, hBf⟩)
    | (go_wp2
       go_ret
       refine ⟨?_, hBn⟩
       rw [← HRES.out, if_pos (by simp_all)]
       rfl)

set_option maxRecDepth 100000 in
set_option maxHeartbeats 4000000 in
theorem rcheck_2y (kd a b k n : Int) (ob rr : Int) (wd : ByteArray) (okr : Bool) (w : World) (h5 : (ob == 5) = true)
    (HO : ∀ W, Calls Tryz.prog 94 #[.int .i64 kd] W fun e w' => e = .returned (.tuple #[.agg #[.int .i64 ob, .int .i64 2, .int .i64 rr, .string wd], .bool true]) ∧ Below W.heap.size W w')
    (HR : ∀ W, Calls Tryz.prog 108 #[.agg #[.int .i64 ob, .int .i64 2, .int .i64 rr, .string wd], .agg #[.int .i64 k, .int .i64 n]] W (BoolPost okr W)) :
    Calls Tryz.prog 93 #[opV kd a b k n] w (RCk w (if (a < 0 ∨ 4611686018427387904 < a) then 2 else if okr = false then 9 else 0)) := by
  have HP := Lib.hid (show (if (a < 0 ∨ 4611686018427387904 < a) then (2 : Int) else if okr = false then 9 else 0) = _ from rfl)
  have HH := Holds.new w 50 #[.int .i64 kd, .int .i64 a, .int .i64 b, .int .i64 k, .int .i64 n]
  have HHid := Lib.hid HH
  clear HH
  unfold opV
  generalize hres : (if (a < 0 ∨ 4611686018427387904 < a) then (2 : Int) else if okr = false then 9 else 0) = res
  have HRES := Lib.hid hres
  clear hres HP
  cases hn : decide (a < 0) <;> cases hg : decide (4611686018427387904 < a)
  all_goals
    go_enter Tryz.func93, Tryz.ntmps93
    go_wp2_with fail
    refine (HO _).mono ?_
    rintro e w1 ⟨rfl, hB1⟩
    have hs1 := hB1.size
    simp only [World.size_alloc] at hs1
    have HO1 := (HHid.out.below hB1 (by simp)).alloc (.cells #[.int .i64 ob, .int .i64 2, .int .i64 rr, .string wd] 155)
    have o1 := HO1.c (j := 1) rfl
    have o2 := HO1.c (j := 2) rfl
    have o3 := HO1.c (j := 3) rfl
    have o4 := HO1.c (j := 4) rfl
    have hBn : Below w.heap.size w (w1.alloc (.cells #[.int .i64 ob, .int .i64 2, .int .i64 rr, .string wd] 155)) := Below.alloc (nxt ((Below.refl _ _).alloc (Nat.le_refl _) _) hB1 (by simp)) (by omega) _
    clear HO1
    first
    | (go_wp2_with fail
       refine (HR _).mono ?_
       rintro e w2 ⟨rfl, hB2⟩
       have hBf := nxt hBn hB2 (by simp; omega)
       cases okr
       · go_wp2
         go_ret
         exact ⟨by rw [← HRES.out]; simp_all, hBf⟩
       · go_wp2
         go_ret
         exact ⟨by rw [← HRES.out]; simp_all, hBf⟩)
    | (go_wp2
       go_ret
       refine ⟨?_, hBn⟩
       rw [← HRES.out, if_pos (by simp_all)]
       rfl)
end Go.Proofs.YtpdbkjnaicjfdaaGreatDoor

namespace Go.Proofs.YtpdbkjnaicjfdaaGreatDoor
open Go.RowKit Go.Maps
set_option linter.unusedVariables false

theorem check_eq (i : Nat) (hi : i < 15) (a b k n : Int) : checkI i a b k n = if ((argN i < 1 ∧ a ≠ 0) ∨ (argN i < 2 ∧ b ≠ 0) ∨ (objN i = 5 ∧ (a < 0 ∨ 4611686018427387904 < a))) then 2 else if rokR (rR i) k n = false then 9 else 0 := by
  rw [rok_ok i hi]
  unfold checkI
  have h := chk_iff i hi a b
  by_cases hp : okN (mA i) a = false ∨ okN (mB i) b = false
  · rw [if_pos hp, if_pos (h.2 hp)]
  · rw [if_neg hp, if_neg (fun q => hp (h.1 q))]

set_option maxRecDepth 100000 in
theorem op_rcheck_any (kd a b k n : Int) (w : World) : Calls Tryz.prog 93 #[opV kd a b k n] w (Says (.int .i64 (checkP kd a b k n)) w) := by
  cases ho : kindI kd with
  | none =>
    have H := fun W => rof_any kd W
    rw [ho] at H
    have hP : Hid (checkP kd a b k n = 6) := Lib.hid (by unfold checkP; rw [ho])
    generalize checkP kd a b k n = r at hP
    unfold opV
    clear ho
    go_enter Tryz.func93, Tryz.ntmps93
    go_wp2_with fail
    refine (H _).mono ?_
    rintro e w1 ⟨rfl, hB1⟩
    simp only [rkV, Option.isSome]
    have hs := hB1.size
    simp only [World.size_alloc] at hs
    go_wp2
    go_ret
    exact ⟨by rw [hP.out]; rfl, Below.alloc (nxt ((Below.refl _ _).alloc (Nat.le_refl _) _) hB1 (by simp)) (by omega) _⟩
  | some i =>
    have hi := (kindI_lt ho).1
    have hP : checkP kd a b k n = checkI i a b k n := by unfold checkP; rw [ho]
    rw [hP, check_eq i hi]
    have HO : ∀ W, Calls Tryz.prog 94 #[.int .i64 kd] W fun e w' => e = .returned (.tuple #[.agg #[.int .i64 (objN i), .int .i64 (argN i), .int .i64 (rR i), .string (op_wordB i)], .bool true]) ∧ Below W.heap.size W w' := fun W => by
      have := rof_any kd W
      rw [ho] at this
      exact this
    have HR := fun W => rret_any (rR i) (rR_le i) (objN i) (argN i) (op_wordB i) k n W
    have hm := argN_le i
    obtain hm | hm | hm : argN i = 0 ∨ argN i = 1 ∨ argN i = 2 := by omega
    all_goals
      rw [hm] at HO HR ⊢
      by_cases h5 : objN i = 5
    · have := rcheck_0y kd a b k n (objN i) (rR i) (op_wordB i) (rokR (rR i) k n) w (by rw [h5]; rfl) HO HR
      change Calls Tryz.prog _ _ w (RCk w _)
      simpa [h5] using this
    · have := rcheck_0n kd a b k n (objN i) (rR i) (op_wordB i) (rokR (rR i) k n) w (by rw [beq_eq_false_iff_ne]; omega) HO HR
      change Calls Tryz.prog _ _ w (RCk w _)
      simpa [h5] using this
    · have := rcheck_1y kd a b k n (objN i) (rR i) (op_wordB i) (rokR (rR i) k n) w (by rw [h5]; rfl) HO HR
      change Calls Tryz.prog _ _ w (RCk w _)
      simpa [h5] using this
    · have := rcheck_1n kd a b k n (objN i) (rR i) (op_wordB i) (rokR (rR i) k n) w (by rw [beq_eq_false_iff_ne]; omega) HO HR
      change Calls Tryz.prog _ _ w (RCk w _)
      simpa [h5] using this
    · have := rcheck_2y kd a b k n (objN i) (rR i) (op_wordB i) (rokR (rR i) k n) w (by rw [h5]; rfl) HO HR
      change Calls Tryz.prog _ _ w (RCk w _)
      simpa [h5] using this
    · have := rcheck_2n kd a b k n (objN i) (rR i) (op_wordB i) (rokR (rR i) k n) w (by rw [beq_eq_false_iff_ne]; omega) HO HR
      change Calls Tryz.prog _ _ w (RCk w _)
      simpa [h5] using this

theorem strs_app (a b : List Int) : strOfNums a ++ strOfNums b = strOfNums (a ++ b) := by
  apply ByteArray.ext
  rw [ByteArray.data_append]
  simp [strOfNums]
theorem putB_nums (n : Int) : putB n = strOfNums (nums (putB n)) := (strOf_nums _).symm

/-- The words ahead of the arrow, joined. -/
def headS (i j : Nat) (a b : Int) : ByteArray := strOfNums (jl (op_wordB i :: argW j a b))
theorem headS_zero (i : Nat) (a b : Int) : headS i 0 a b = op_wordB i := by
  rw [headS, show argW 0 a b = [] from rfl, jl_one, strOf_nums]
theorem headS_step (i j m : Nat) (a b : Int) (hj : j < m) (hm : m ≤ 2) : headS i j a b ++ ⟨#[32]⟩ ++ putB ([a, b][j]?.getD 0) = headS i (j + 1) a b := by
  rw [headS, headS, argW_step m a b j hj hm, ← List.cons_append, jl_snoc _ _ (by simp), show (⟨#[32]⟩ : ByteArray) = strOfNums [32] from rfl, strs_app, putB_nums, strs_app]
  congr 1
  simp [strOf_nums]
theorem headS_size (i j : Nat) (a b : Int) (hi : i < 15) (hj : j ≤ 2) : (headS i j a b).size ≤ 100 := by
  rw [headS, strOfNums_size]
  have h1 := jl_len (op_wordB i :: argW j a b) (by simp)
  have h2 := szs_bound (op_wordB i :: argW j a b) 21 (fun s hs => by
    rcases List.mem_cons.1 hs with rfl | h
    · have := (wordB_fine i hi).2.2; omega
    · obtain ⟨x, rfl⟩ := argW_mem h
      exact putB_size x)
  have h3 : (op_wordB i :: argW j a b).length = j + 1 := by rw [List.length_cons, argW_l a b j hj]
  rw [h3] at h1 h2
  have : (j + 1) * 21 ≤ 3 * 21 := Nat.mul_le_mul_right _ (by omega)
  omega
theorem headS_end (i : Nat) (a b k n : Int) : headS i (argN i) a b ++ ⟨#[32, 45, 62, 32]⟩ ++ retB k n = strOfNums (jl (opW i a b k n)) := by
  have e1 : opW i a b k n = ((op_wordB i :: argW (argN i) a b) ++ [arrB]) ++ [retB k n] := by rw [opW]; simp
  rw [headS, e1, jl_snoc _ _ (by simp), jl_snoc _ _ (by simp), show (⟨#[32, 45, 62, 32]⟩ : ByteArray) = strOfNums [32, 45, 62, 32] from rfl, strs_app]
  have e2 : retB k n = strOfNums (nums (retB k n)) := (strOf_nums _).symm
  rw [e2, strs_app]
  congr 1
  rw [show nums arrB = [45, 62] from rfl]
  simp [strOf_nums]

end Go.Proofs.YtpdbkjnaicjfdaaGreatDoor

namespace Go.Proofs.YtpdbkjnaicjfdaaGreatDoor
open Go.RowKit Go.Maps
set_option linter.unusedVariables false

set_option maxHeartbeats 1000000 in
theorem texts_same (A A' : Option Addr) (c c' : Nat) (ss : List ByteArray) (w : World) (B : Nat) (h1 : Strs B w A ss) (h2 : Strs B w A' ss) (hm : ss.length ≤ 1000000) :
    Calls Tryz.prog 19 #[.slice A ss.length c, .slice A' ss.length c'] w fun e w' => e = .returned (.bool true) ∧ ∃ n, w' = w.drewN n := by
  have H1 := Lib.hid h1
  have H2 := Lib.hid h2
  have k0 : ((ss.length : Int) != (ss.length : Int)) = false := by simp
  clear h1 h2
  go_enter Tryz.func19, Tryz.ntmps19
  go_wp2
  go_loopw [5] (fun i wr => ∃ k n : Nat, k ≤ ss.length ∧ i = .int .i64 k ∧ wr = w.drewN n) (fun i wr => ss.length - (intOf i).toNat)
  case atStart => exact ⟨0, 0, Nat.zero_le _, rfl, rfl⟩
  case round =>
    obtain ⟨k, n, hk, rfl, rfl⟩ := hrel
    by_cases hlt : k < ss.length
    · obtain ⟨b, off, rfl, hb, hc⟩ := H1.out (by omega)
      obtain ⟨b', off', rfl, hb', hc'⟩ := H2.out (by omega)
      have c1 := hc k hlt
      have c2 := hc' k hlt
      generalize ss[k]?.getD ⟨#[]⟩ = s at *
      have m3 : (s.toList == s.toList) = true := by simp
      have hk0 : (0 : Int) ≤ (k : Int) := by omega
      have hk1 : (k : Int) < (ss.length : Int) := by omega
      clear hc hc'
      go_wp2_with fail
      go_quiet (fail)
      go_wp2
      go_roundw
      case rel => exact ⟨k + 1, _, by omega, by go_num, rfl⟩
      case measure => simp [intOf]; omega
    · have hd : decide (k < ss.length) = false := decide_eq_false hlt
      go_wp2
      go_ret
      exact ⟨rfl, n, rfl⟩

def getB (s : ByteArray) : Bool := getE s.data.toList == 0
/-- What the document says of a return's word. -/
def rtK (s : ByteArray) : Int := if s == okB then 0 else if s == noneB then 1 else 2
def rtN (s : ByteArray) : Int := if s == okB then 0 else if s == noneB then 0 else getN s.data.toList
def rtB (s : ByteArray) : Bool := if s == okB then true else if s == noneB then true else getB s
end Go.Proofs.YtpdbkjnaicjfdaaGreatDoor

namespace Go.Proofs.YtpdbkjnaicjfdaaGreatDoor
open Go.RowKit Go.Maps
set_option linter.unusedVariables false

def stepsI (i : Nat) : List Nat := [0] ++ ([1, 2].take (argN i) ++ [3, 4])
def stI (i : Nat) (a b k n : Int) : op_St := ⟨some i, (i : Int) + 1, a, b, k, n, stepsI i⟩
theorem steps_len (i : Nat) : (stepsI i).length = argN i + 3 := by
  have := argN_le i
  unfold stepsI
  generalize argN i = m at *
  obtain rfl | rfl | rfl : m = 0 ∨ m = 1 ∨ m = 2 := by omega
  all_goals rfl
theorem steps_arg (i j : Nat) (h1 : 1 ≤ j) (h : j ≤ argN i) : (stepsI i)[j]?.getD 0 = j := by
  have := argN_le i
  unfold stepsI
  generalize argN i = m at *
  obtain rfl | rfl | rfl : m = 0 ∨ m = 1 ∨ m = 2 := by omega
  · omega
  · obtain rfl : j = 1 := by omega
    rfl
  · obtain rfl | rfl : j = 1 ∨ j = 2 := by omega
    all_goals rfl
theorem steps_arrow (i : Nat) : (stepsI i)[argN i + 1]?.getD 0 = 3 := by
  have := argN_le i
  unfold stepsI
  generalize argN i = m at *
  obtain rfl | rfl | rfl : m = 0 ∨ m = 1 ∨ m = 2 := by omega
  all_goals rfl
theorem steps_last (i : Nat) : (stepsI i)[argN i + 2]?.getD 0 = 4 := by
  have := argN_le i
  unfold stepsI
  generalize argN i = m at *
  obtain rfl | rfl | rfl : m = 0 ∨ m = 1 ∨ m = 2 := by omega
  all_goals rfl

theorem take_none : takeP 0 [] st1 = (0, 5, st1) := rfl
theorem take_noword (s : ByteArray) (r : List ByteArray) (h : wordI s = none) : (takeP 0 (s :: r) st1).1 = 0 ∧ (takeP 0 (s :: r) st1).2.1 = 6 := by
  have e : stepE 0 s = 6 := by show errOf (wordI s) = 6; rw [h]; rfl
  have e2 : takeP 0 (s :: r) st1 = (0, stepE 0 s, stepS 0 s st1) := by
    unfold takeP
    rw [if_neg (by decide), if_neg (by rw [show (st1.steps[0]?.getD 0) = 0 from rfl, e]; decide)]
    rfl
  rw [e2, e]
  exact ⟨rfl, rfl⟩
theorem take_word (s : ByteArray) (r : List ByteArray) (i : Nat) (h : wordI s = some i) : takeP 0 (s :: r) st1 = takeP 1 r (stI i 0 0 0 0) := by
  have e : stepE 0 s = 0 := by show errOf (wordI s) = 0; rw [h]; rfl
  have e3 : stepS 0 s st1 = stI i 0 0 0 0 := by show kindSt s st1 = _; unfold kindSt; rw [h]; rfl
  conv => lhs; unfold takeP
  rw [if_neg (by decide), show (st1.steps[0]?.getD 0) = 0 from rfl, if_pos e, e3]

theorem fill_zero {s : ByteArray} {e : Int} (h : getB s = true) : fillE s e = 0 := by
  unfold getB at h
  unfold fillE
  rw [if_pos (by simpa using h)]
theorem fill_not {s : ByteArray} {e : Int} (h : getB s = false) : fillE s e = e := by
  unfold getB at h
  unfold fillE
  rw [if_neg (by simpa using h)]
theorem getB_iff {s : ByteArray} (h : getB s = true) : getE s.data.toList = 0 := by unfold getB at h; simpa using h

theorem take_step (i j : Nat) (a b k n : Int) (s : ByteArray) (r : List ByteArray) (hj : j < argN i + 3) (c : Nat) (hc : (stepsI i)[j]?.getD 0 = c) :
    takeP j (s :: r) (stI i a b k n) = if stepE c s = 0 then takeP (j + 1) r (stepS c s (stI i a b k n)) else (j, stepE c s, stepS c s (stI i a b k n)) := by
  conv => lhs; unfold takeP
  have e : (stI i a b k n).steps = stepsI i := rfl
  rw [e, steps_len, if_neg (by omega), hc]
theorem take_A (i : Nat) (a b k n : Int) (s : ByteArray) (r : List ByteArray) (h : 1 ≤ argN i) (hb : getB s = true) : takeP 1 (s :: r) (stI i a b k n) = takeP 2 r (stI i (getN s.data.toList) b k n) := by
  rw [take_step i 1 a b k n s r (by omega) 1 (steps_arg i 1 (by omega) h), if_pos (show stepE 1 s = 0 from fill_zero hb)]
  congr 1
  show stA s (stI i a b k n) = _
  unfold stA
  rw [if_pos (getB_iff hb)]
  rfl
theorem take_B (i : Nat) (a b k n : Int) (s : ByteArray) (r : List ByteArray) (h : 2 ≤ argN i) (hb : getB s = true) : takeP 2 (s :: r) (stI i a b k n) = takeP 3 r (stI i a (getN s.data.toList) k n) := by
  rw [take_step i 2 a b k n s r (by omega) 2 (steps_arg i 2 (by omega) h), if_pos (show stepE 2 s = 0 from fill_zero hb)]
  congr 1
  show stB s (stI i a b k n) = _
  unfold stB
  rw [if_pos (getB_iff hb)]
  rfl
theorem take_arg_bad (i j : Nat) (a b k n : Int) (s : ByteArray) (r : List ByteArray) (h1 : 1 ≤ j) (h : j ≤ argN i) (hb : getB s = false) : (takeP j (s :: r) (stI i a b k n)).1 = j ∧ (takeP j (s :: r) (stI i a b k n)).2.1 = 5 := by
  have h2 := argN_le i
  rw [take_step i j a b k n s r (by omega) j (steps_arg i j h1 h)]
  have e : stepE j s = 5 := by
    obtain rfl | rfl : j = 1 ∨ j = 2 := by omega
    · exact fill_not hb
    · exact fill_not hb
  rw [e, if_neg (by decide)]
  exact ⟨rfl, rfl⟩
theorem take_arr (i : Nat) (a b k n : Int) (s : ByteArray) (r : List ByteArray) (hb : (s == arrB) = true) : takeP (argN i + 1) (s :: r) (stI i a b k n) = takeP (argN i + 2) r (stI i a b k n) := by
  rw [take_step i _ a b k n s r (by omega) 3 (steps_arrow i), if_pos (show stepE 3 s = 0 by show arrE s = 0; unfold arrE; rw [if_pos hb])]
  rfl
theorem take_arr_bad (i : Nat) (a b k n : Int) (s : ByteArray) (r : List ByteArray) (hb : (s == arrB) = false) : (takeP (argN i + 1) (s :: r) (stI i a b k n)).1 = argN i + 1 ∧ (takeP (argN i + 1) (s :: r) (stI i a b k n)).2.1 = 5 := by
  have e : stepE 3 s = 5 := by show arrE s = 5; unfold arrE; rw [hb]; rfl
  rw [take_step i _ a b k n s r (by omega) 3 (steps_arrow i), e, if_neg (by decide)]
  exact ⟨rfl, rfl⟩
theorem res_zero {s : ByteArray} (h : rtB s = true) : resE s = 0 := by
  unfold rtB at h
  unfold resE
  split
  · rfl
  · rename_i h1
    rw [if_neg h1] at h
    split
    · rfl
    · rename_i h2
      rw [if_neg h2] at h
      exact fill_zero h
theorem res_not {s : ByteArray} (h : rtB s = false) : resE s = 9 := by
  unfold rtB at h
  unfold resE
  split
  · rename_i h1
    rw [if_pos h1] at h; cases h
  · rename_i h1
    rw [if_neg h1] at h
    split
    · rename_i h2
      rw [if_pos h2] at h; cases h
    · rename_i h2
      rw [if_neg h2] at h
      exact fill_not h
theorem take_ret (i : Nat) (a b : Int) (s : ByteArray) (r : List ByteArray) (hb : rtB s = true) : takeP (argN i + 2) (s :: r) (stI i a b 0 0) = takeP (argN i + 3) r (stI i a b (rtK s) (rtN s)) := by
  rw [take_step i _ a b 0 0 s r (by omega) 4 (steps_last i), if_pos (show stepE 4 s = 0 from res_zero hb)]
  congr 1
  show stR s (stI i a b 0 0) = _
  unfold stR rtK rtN
  unfold rtB at hb
  split
  · rfl
  · rename_i h1
    rw [if_neg h1] at hb
    split
    · rfl
    · rename_i h2
      rw [if_neg h2] at hb
      unfold stN
      rw [if_pos (getB_iff hb)]
      rfl
theorem take_ret_bad (i : Nat) (a b k n : Int) (s : ByteArray) (r : List ByteArray) (hb : rtB s = false) : (takeP (argN i + 2) (s :: r) (stI i a b k n)).1 = argN i + 2 ∧ (takeP (argN i + 2) (s :: r) (stI i a b k n)).2.1 = 9 := by
  have e : stepE 4 s = 9 := res_not hb
  rw [take_step i _ a b k n s r (by omega) 4 (steps_last i), e, if_neg (by decide)]
  exact ⟨rfl, rfl⟩
theorem take_short (i j : Nat) (a b k n : Int) (h : j ≠ argN i + 3) : takeP j [] (stI i a b k n) = (j, 5, stI i a b k n) := by
  unfold takeP
  rw [show (stI i a b k n).steps = stepsI i from rfl, steps_len, if_neg h]
theorem take_full (i : Nat) (a b k n : Int) : takeP (argN i + 3) [] (stI i a b k n) = (argN i + 3, 0, stI i a b k n) := by
  unfold takeP
  rw [show (stI i a b k n).steps = stepsI i from rfl, steps_len, if_pos rfl]
theorem take_over (i : Nat) (a b k n : Int) (s : ByteArray) (r : List ByteArray) : takeP (argN i + 3) (s :: r) (stI i a b k n) = (argN i + 3, 5, stI i a b k n) := by
  unfold takeP
  rw [show (stI i a b k n).steps = stepsI i from rfl, steps_len, if_pos rfl]

theorem readR_bad {x : Nat × Int × op_St} {len : Nat} {p e : Int} (h1 : (x.1 : Int) = p) (h2 : x.2.1 = e) (he : e ≠ 0) : readR x len = ((0, 0, 0, 0, 0), p, e) := by
  unfold readR
  rw [if_neg (by rw [h2]; exact he), h1, h2]
theorem readR_done (i : Nat) (a b k n : Int) (len : Nat) (j : Nat) : readR (j, 0, stI i a b k n) len = if checkI i a b k n = 0 then (((i : Int) + 1, a, b, k, n), 0, 0) else if checkI i a b k n = 2 then ((0, 0, 0, 0, 0), 1, 2) else ((0, 0, 0, 0, 0), (len : Int) - 1, checkI i a b k n) := by
  unfold readR stI
  simp
end Go.Proofs.YtpdbkjnaicjfdaaGreatDoor

namespace Go.Proofs.YtpdbkjnaicjfdaaGreatDoor
open Go.RowKit Go.Maps
set_option linter.unusedVariables false

end Go.Proofs.YtpdbkjnaicjfdaaGreatDoor

namespace Go.Proofs.YtpdbkjnaicjfdaaGreatDoor
open Go.RowKit Go.Maps
set_option linter.unusedVariables false

theorem res_below {w W : World} (h : Below w.heap.size w W) (u0 u1 u2 u3 u4 : Value) : Below w.heap.size w (((((W.setCell ⟨w.heap.size, 0, none⟩ u0).setCell ⟨w.heap.size, 1, none⟩ u1).setCell ⟨w.heap.size, 2, none⟩ u2).setCell ⟨w.heap.size, 3, none⟩ u3).setCell ⟨w.heap.size, 4, none⟩ u4) := by
  refine Below.setCell (Below.setCell (Below.setCell (Below.setCell (Below.setCell h ?_ _) ?_ _) ?_ _) ?_ _) ?_ _
  all_goals exact Nat.le_refl _

end Go.Proofs.YtpdbkjnaicjfdaaGreatDoor
