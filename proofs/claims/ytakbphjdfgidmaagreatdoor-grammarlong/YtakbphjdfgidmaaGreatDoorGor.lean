/- Texts of earlier stages over this seat, joined: OpN OpR OpS OpT OpU OpW OpX OpY OpZ. -/
import Derived.Test.YtakbphjdfgidmaaGreatDoorGo
set_option maxRecDepth 100000
namespace Go.Proofs.YtakbphjdfgidmaaGreatDoor
open Go.RowKit Go.Maps
set_option linter.unusedVariables false

theorem kindI_in (i : Nat) (h : i < 15) : kindI ((i : Int) + 1) = some i := by
  have : ∀ i ∈ List.range 15, kindI ((i : Int) + 1) = some i := by decide +kernel
  exact this i (List.mem_range.2 h)
theorem kindI_at (j : Nat) (h1 : 1 ≤ j) (h : j ≤ 15) : kindI (j : Int) = some (j - 1) := by
  have := kindI_in (j - 1) (by omega)
  rwa [show ((j - 1 : Nat) : Int) + 1 = (j : Int) by omega] at this
theorem kindI_out (kd : Int) (h : kd < 1 ∨ 15 < kd) : kindI kd = none := by
  rw [kindI, List.find?_eq_none]
  intro x hx
  have := List.mem_range.1 hx
  simp
  omega
theorem wordI_in (i : Nat) (h : i < 15) : wordI (op_wordB i) = some i := by
  have : ∀ i ∈ List.range 15, wordI (op_wordB i) = some i := by decide +kernel
  exact this i (List.mem_range.2 h)
theorem wordB_inj {i j : Nat} (hi : i < 15) (hj : j < 15) (h : op_wordB i = op_wordB j) : i = j := by
  have h1 := wordI_in i hi
  rw [h, wordI_in j hj] at h1
  exact (Option.some.inj h1).symm
theorem objN_in (i : Nat) (h : i < 15) : 1 ≤ objN i ∧ objN i ≤ 5 := by
  have : ∀ i ∈ List.range 15, 1 ≤ objN i ∧ objN i ≤ 5 := by decide +kernel
  exact this i (List.mem_range.2 h)

end Go.Proofs.YtakbphjdfgidmaaGreatDoor

namespace Go.Proofs.YtakbphjdfgidmaaGreatDoor
open Go.RowKit Go.Maps
set_option linter.unusedVariables false

/-- The document's number for what may be returned. -/
def rR : Nat → Nat
  | 0 => 0
  | 1 => 2
  | 2 => 1
  | 3 => 1
  | 4 => 1
  | 5 => 3
  | 6 => 4
  | 7 => 4
  | 8 => 4
  | 9 => 0
  | 10 => 4
  | 11 => 3
  | 12 => 1
  | 13 => 1
  | 14 => 3
  | _ => 0
def rkL (i : Nat) : List Value := [.int .i64 (objN i), .int .i64 (argN i), .int .i64 (rR i), .string (op_wordB i)]
def rkindsL : List Value := (List.range 15).flatMap rkL
def rkindsO : Obj := .cells rkindsL.toArray 98
def RKindsPost (w : World) (e : Ending) (w' : World) : Prop := e = .returned (.slice (some ⟨w.heap.size, 0, none⟩) 15 15) ∧ w' = w.alloc rkindsO
set_option maxRecDepth 100000 in
set_option maxHeartbeats 1000000 in
theorem rkinds_any (w : World) : Calls Tryz.prog 98 #[] w (RKindsPost w) := by
  go_enter Tryz.func98, Tryz.ntmps98
  go_wp2
  go_ret
  exact ⟨rfl, rfl⟩
theorem rk_cells (k : Nat) (hk : k < 15) (w : World) (j : Nat) (hj : j < 4) : (w.alloc rkindsO).cell? ⟨w.heap.size, k * 4 + j, none⟩ = (rkL k)[j]? := by
  rw [rkindsO, World.cell?_alloc_new]
  have hk' : k ∈ List.range 15 := List.mem_range.2 hk
  have hj' : j ∈ List.range 4 := List.mem_range.2 hj
  have hs : rkindsL.toArray[k * 4 + j]? = (rkindsL.map id)[k * 4 + j]? := by rw [List.map_id, List.getElem?_toArray]
  rw [hs, List.map_id]
  have : ∀ k ∈ List.range 15, ∀ j ∈ List.range 4, rkindsL[k * 4 + j]? = (rkL k)[j]? := by
    simp only [show List.range 15 = [0,1,2,3,4,5,6,7,8,9,10,11,12,13,14] from rfl, show List.range 4 = [0,1,2,3] from rfl, List.forall_mem_cons]
    repeat' apply And.intro
    all_goals first | rfl | (intro x hx; cases hx)
  exact this k hk' j hj'

def rkV : Option Nat → Value
  | none => .agg #[.int .i64 0, .int .i64 0, .int .i64 0, .string ⟨#[]⟩]
  | some i => .agg (rkL i).toArray
def ROfPost (o : Option Nat) (w : World) (e : Ending) (w' : World) : Prop := e = .returned (.tuple #[rkV o, .bool o.isSome]) ∧ Below w.heap.size w w'

set_option maxRecDepth 100000 in
set_option maxHeartbeats 1000000 in
theorem rof_any (kd : Int) (w : World) : Calls Tryz.prog 63 #[.int .i64 kd] w (ROfPost (kindI kd) w) := by
  by_cases h : kd < 1 ∨ 15 < kd
  · rw [kindI_out kd h]
    have d1 : ((decide (kd < 1)) || decide (15 < kd)) = true := by simpa using h
    cases e1 : decide (kd < 1) with
    | true =>
      go_enter Tryz.func63, Tryz.ntmps63
      go_wp2
      refine bodyPost_ret (v := .tuple #[.agg #[.int .i64 0, .int .i64 0, .int .i64 0, .string ⟨#[]⟩], .bool false]) (by simp [results, Tryz.f63, go_sem]) rfl ?_
      exact ⟨rfl, (Below.refl _ _).alloc (Nat.le_refl _) _⟩
    | false =>
      rw [e1] at d1
      have d2 : decide (15 < kd) = true := by simpa using d1
      go_enter Tryz.func63, Tryz.ntmps63
      go_wp2
      refine bodyPost_ret (v := .tuple #[.agg #[.int .i64 0, .int .i64 0, .int .i64 0, .string ⟨#[]⟩], .bool false]) (by simp [results, Tryz.f63, go_sem]) rfl ?_
      exact ⟨rfl, (Below.refl _ _).alloc (Nat.le_refl _) _⟩
  · obtain ⟨i, hi, rfl⟩ : ∃ i : Nat, i < 15 ∧ kd = (i : Int) + 1 := ⟨(kd - 1).toNat, by omega, by omega⟩
    rw [kindI_in i hi]
    have hc := rk_cells i hi (w.alloc (.cells #[.int .i64 0, .int .i64 0, .int .i64 0, .string ⟨#[]⟩] 98))
    rw [World.size_alloc] at hc
    have c0 := hc 0 (by omega)
    have c1 := hc 1 (by omega)
    have c2 := hc 2 (by omega)
    have c3 := hc 3 (by omega)
    simp only [rkL, List.getElem?_cons_zero, List.getElem?_cons_succ, Nat.add_zero] at c0 c1 c2 c3
    have HZ := (Holds.new w 98 #[.int .i64 0, .int .i64 0, .int .i64 0, .string ⟨#[]⟩]).alloc rkindsO
    have z0 := HZ.c (j := 0) rfl
    have z1 := HZ.c (j := 1) rfl
    have z2 := HZ.c (j := 2) rfl
    have z3 := HZ.c (j := 3) rfl
    have f0 := HZ.frozen 0
    have f1 := HZ.frozen 1
    have f2 := HZ.frozen 2
    have f3 := HZ.frozen 3
    have e1 : decide ((i : Int) + 1 < 1) = false := decide_eq_false (by omega)
    have e2 : decide ((15 : Int) < (i : Int) + 1) = false := decide_eq_false (by omega)
    have e3 : IntKind.i64.wrap ((i : Int) + 1 - 1) = (i : Int) := by
      rw [show (i : Int) + 1 - 1 = (i : Int) by omega]
      have e : (i : Int) % 2 ^ 64 = i := Int.emod_eq_of_lt (by omega) (by omega)
      simp only [IntKind.wrap, IntKind.bits, IntKind.signed, e]
      rw [if_neg]
      simp
      omega
    have e4 : (0 : Int) ≤ (i : Int) := by omega
    have e5 : (i : Int) < 15 := by omega
    have HX : Hid (rkV (some i) = .agg #[.int .i64 (objN i), .int .i64 (argN i), .int .i64 (rR i), .string (op_wordB i)]) := Lib.hid rfl
    generalize (objN i : Int) = y1 at *
    generalize (argN i : Int) = y2 at *
    generalize (rR i : Int) = y3 at *
    generalize op_wordB i = y4 at *
    clear hc
    go_enter Tryz.func63, Tryz.ntmps63
    go_wp2_with fail
    refine (rkinds_any _).mono ?_
    rintro e w1 ⟨rfl, rfl⟩
    go_wp2
    refine bodyPost_ret (v := .tuple #[.agg #[.int .i64 y1, .int .i64 y2, .int .i64 y3, .string y4], .bool true]) (by simp [results, Tryz.f63, go_sem]) rfl ?_
    refine ⟨by rw [HX.out]; rfl, ?_⟩
    exact ((Below.refl _ _).alloc (Nat.le_refl _) _).alloc (by simp) _
end Go.Proofs.YtakbphjdfgidmaaGreatDoor

namespace Go.Proofs.YtakbphjdfgidmaaGreatDoor
open Go.RowKit Go.Maps
set_option linter.unusedVariables false

set_option maxRecDepth 100000 in
set_option maxHeartbeats 1000000 in
theorem rkind_any (s : ByteArray) (w : World) : Calls Tryz.prog 128 #[.string s] w (Says (.tuple #[.int .i64 (kindO (wordI s)), .int .i64 (errOf (wordI s))]) w) := by
  have HC := Lib.hid (fun k hk => rk_cells k hk w)
  have HW : Hid (wordI s = (List.range 15).find? fun i => op_wordB i == s) := Lib.hid rfl
  generalize wordI s = o at HW
  go_enter Tryz.func128, Tryz.ntmps128
  go_wp2_with fail
  refine (rkinds_any _).mono ?_
  rintro e w1 ⟨rfl, rfl⟩
  go_wp2
  go_loop [5] (fun i => ∃ k : Nat, k ≤ 15 ∧ i = .int .i64 k ∧ ∀ j, j < k → (op_wordB j == s) = false) (fun i => 15 - (intOf i).toNat)
  case atStart => exact ⟨0, Nat.zero_le _, rfl, fun j h => absurd h (Nat.not_lt_zero _)⟩
  case round =>
    obtain ⟨k, hk, rfl, hall⟩ := hrel
    have HALL := Lib.hid hall
    clear hall
    by_cases hlt : k < 15
    · have hlt' : (k : Int) < 15 := by omega
      have hk0 : (0 : Int) ≤ (k : Int) := by omega
      have c3 := HC.out k hlt 3 (by omega)
      simp only [rkL, List.getElem?_cons_zero, List.getElem?_cons_succ] at c3
      cases hb : (op_wordB k == s) with
      | true =>
        have HH := Lib.hid hb
        rw [beq_toListBytes] at hb
        generalize op_wordB k = wk at c3 hb
        go_wp2
        go_ret2
        rw [HW.out, find_first hlt HALL.out HH.out]
        exact ⟨rfl, (Below.refl _ _).alloc (Nat.le_refl _) _⟩
      | false =>
        have HH := Lib.hid hb
        rw [beq_toListBytes] at hb
        generalize op_wordB k = wk at c3 hb
        go_wp2
        exact ⟨⟨k + 1, by omega, by go_num, fun j hj => by
          rcases Nat.lt_succ_iff_lt_or_eq.1 hj with h | rfl
          · exact HALL.out j h
          · exact HH.out⟩, by simp [intOf]; omega⟩
    · have hlt' : decide ((k : Int) < 15) = false := decide_eq_false (by omega)
      have hkk : k = 15 := by omega
      go_wp2
      go_ret2
      rw [HW.out, find_none (fun j hj => HALL.out j (by omega))]
      exact ⟨rfl, (Below.refl _ _).alloc (Nat.le_refl _) _⟩

/-- What the document lets be returned. -/
def rokR : Nat → Int → Int → Bool
  | 0, k, n => k == 0 && n == 0
  | 1, k, n => k == 2 && (n == 0 || n == 1)
  | 2, k, _ => k == 2
  | 3, k, n => k == 2 && (decide (0 ≤ n) && decide (n ≤ 4611686018427387904))
  | _, k, n => k == 2 || (k == 1 && n == 0)
theorem rR_le (i : Nat) : rR i ≤ 4 := by unfold rR; split <;> omega
theorem rok_ok (i : Nat) (h : i < 15) (k n : Int) : rokR (rR i) k n = okR (mR i) k n := by
  match i, h with
  | 0, _ => rfl
  | 1, _ => rfl
  | 2, _ => rfl
  | 3, _ => rfl
  | 4, _ => rfl
  | 5, _ => rfl
  | 6, _ => rfl
  | 7, _ => rfl
  | 8, _ => rfl
  | 9, _ => rfl
  | 10, _ => rfl
  | 11, _ => rfl
  | 12, _ => rfl
  | 13, _ => rfl
  | 14, _ => rfl
  | i + 15, h => omega

set_option maxHeartbeats 1000000 in
theorem rret0 (y1 y2 : Int) (y4 : ByteArray) (k n : Int) (w : World) : Calls Tryz.prog 71 #[.agg #[.int .i64 y1, .int .i64 y2, .int .i64 0, .string y4], .agg #[.int .i64 k, .int .i64 n]] w (BoolPost (rokR 0 k n) w) := by
  cases h0 : (k == 0) <;> cases h1 : (n == 0)
  all_goals go_enter Tryz.func71, Tryz.ntmps71
  all_goals go_wp2
  all_goals go_ret
  all_goals exact ⟨by first | rfl | simp_all [rokR], ((Below.refl _ _).alloc (Nat.le_refl _) _).alloc (by simp) _⟩

set_option maxHeartbeats 1000000 in
theorem rret1 (y1 y2 : Int) (y4 : ByteArray) (k n : Int) (w : World) : Calls Tryz.prog 71 #[.agg #[.int .i64 y1, .int .i64 y2, .int .i64 1, .string y4], .agg #[.int .i64 k, .int .i64 n]] w (BoolPost (rokR 1 k n) w) := by
  cases h0 : (k == 2) <;> cases h1 : (n == 0) <;> cases h2 : (n == 1)
  all_goals go_enter Tryz.func71, Tryz.ntmps71
  all_goals go_wp2
  all_goals go_ret
  all_goals exact ⟨by first | rfl | simp_all [rokR], ((Below.refl _ _).alloc (Nat.le_refl _) _).alloc (by simp) _⟩

set_option maxHeartbeats 1000000 in
theorem rret2 (y1 y2 : Int) (y4 : ByteArray) (k n : Int) (w : World) : Calls Tryz.prog 71 #[.agg #[.int .i64 y1, .int .i64 y2, .int .i64 2, .string y4], .agg #[.int .i64 k, .int .i64 n]] w (BoolPost (rokR 2 k n) w) := by
  cases h0 : (k == 2)
  all_goals go_enter Tryz.func71, Tryz.ntmps71
  all_goals go_wp2
  all_goals go_ret
  all_goals exact ⟨by first | rfl | simp_all [rokR], ((Below.refl _ _).alloc (Nat.le_refl _) _).alloc (by simp) _⟩

set_option maxHeartbeats 1000000 in
theorem rret3 (y1 y2 : Int) (y4 : ByteArray) (k n : Int) (w : World) : Calls Tryz.prog 71 #[.agg #[.int .i64 y1, .int .i64 y2, .int .i64 3, .string y4], .agg #[.int .i64 k, .int .i64 n]] w (BoolPost (rokR 3 k n) w) := by
  cases h0 : (k == 2) <;> cases h1 : decide (0 ≤ n) <;> cases h2 : decide (n ≤ 4611686018427387904)
  all_goals go_enter Tryz.func71, Tryz.ntmps71
  all_goals go_wp2
  all_goals go_ret
  all_goals exact ⟨by first | rfl | simp_all [rokR], ((Below.refl _ _).alloc (Nat.le_refl _) _).alloc (by simp) _⟩

set_option maxHeartbeats 1000000 in
theorem rret4 (y1 y2 : Int) (y4 : ByteArray) (k n : Int) (w : World) : Calls Tryz.prog 71 #[.agg #[.int .i64 y1, .int .i64 y2, .int .i64 4, .string y4], .agg #[.int .i64 k, .int .i64 n]] w (BoolPost (rokR 4 k n) w) := by
  cases h0 : (k == 2) <;> cases h1 : (k == 1) <;> cases h2 : (n == 0)
  all_goals go_enter Tryz.func71, Tryz.ntmps71
  all_goals go_wp2
  all_goals go_ret
  all_goals exact ⟨by first | rfl | simp_all [rokR], ((Below.refl _ _).alloc (Nat.le_refl _) _).alloc (by simp) _⟩

theorem rret_any (rr : Nat) (hr : rr ≤ 4) (y1 y2 : Int) (y4 : ByteArray) (k n : Int) (w : World) : Calls Tryz.prog 71 #[.agg #[.int .i64 y1, .int .i64 y2, .int .i64 rr, .string y4], .agg #[.int .i64 k, .int .i64 n]] w (BoolPost (rokR rr k n) w) := by
  match rr, hr with
  | 0, _ => exact rret0 y1 y2 y4 k n w
  | 1, _ => exact rret1 y1 y2 y4 k n w
  | 2, _ => exact rret2 y1 y2 y4 k n w
  | 3, _ => exact rret3 y1 y2 y4 k n w
  | 4, _ => exact rret4 y1 y2 y4 k n w
end Go.Proofs.YtakbphjdfgidmaaGreatDoor

namespace Go.Proofs.YtakbphjdfgidmaaGreatDoor
open Go.RowKit Go.Maps
set_option linter.unusedVariables false

theorem okN_any (a : Int) : okN 0 a = true := rfl
theorem okN_zero (a : Int) : (okN 1 a = false) ↔ a ≠ 0 := by show (a == 0) = false ↔ _; simp
theorem okN_amount (a : Int) : (okN 2 a = false) ↔ (a < 0 ∨ 4611686018427387904 < a) := by
  show (decide (0 ≤ a) && decide (a ≤ 4611686018427387904)) = false ↔ _
  rw [Bool.and_eq_false_iff, decide_eq_false_iff_not, decide_eq_false_iff_not]; omega
theorem chk_iff (i : Nat) (h : i < 15) (a b : Int) : ((argN i < 1 ∧ a ≠ 0) ∨ (argN i < 2 ∧ b ≠ 0) ∨ (objN i = 5 ∧ (a < 0 ∨ 4611686018427387904 < a))) ↔ (okN (mA i) a = false ∨ okN (mB i) b = false) := by
  match i, h with
  | 0, _ =>
    show ((1 < 1 ∧ a ≠ 0) ∨ (1 < 2 ∧ b ≠ 0) ∨ (1 = 5 ∧ (a < 0 ∨ 4611686018427387904 < a))) ↔ (okN 0 a = false ∨ okN 1 b = false)
    rw [okN_any, okN_zero]
    simp
  | 1, _ =>
    show ((0 < 1 ∧ a ≠ 0) ∨ (0 < 2 ∧ b ≠ 0) ∨ (1 = 5 ∧ (a < 0 ∨ 4611686018427387904 < a))) ↔ (okN 1 a = false ∨ okN 1 b = false)
    rw [okN_zero, okN_zero]
    omega
  | 2, _ =>
    show ((1 < 1 ∧ a ≠ 0) ∨ (1 < 2 ∧ b ≠ 0) ∨ (2 = 5 ∧ (a < 0 ∨ 4611686018427387904 < a))) ↔ (okN 0 a = false ∨ okN 1 b = false)
    rw [okN_any, okN_zero]
    simp
  | 3, _ =>
    show ((1 < 1 ∧ a ≠ 0) ∨ (1 < 2 ∧ b ≠ 0) ∨ (2 = 5 ∧ (a < 0 ∨ 4611686018427387904 < a))) ↔ (okN 0 a = false ∨ okN 1 b = false)
    rw [okN_any, okN_zero]
    simp
  | 4, _ =>
    show ((1 < 1 ∧ a ≠ 0) ∨ (1 < 2 ∧ b ≠ 0) ∨ (2 = 5 ∧ (a < 0 ∨ 4611686018427387904 < a))) ↔ (okN 0 a = false ∨ okN 1 b = false)
    rw [okN_any, okN_zero]
    simp
  | 5, _ =>
    show ((0 < 1 ∧ a ≠ 0) ∨ (0 < 2 ∧ b ≠ 0) ∨ (2 = 5 ∧ (a < 0 ∨ 4611686018427387904 < a))) ↔ (okN 1 a = false ∨ okN 1 b = false)
    rw [okN_zero, okN_zero]
    omega
  | 6, _ =>
    show ((2 < 1 ∧ a ≠ 0) ∨ (2 < 2 ∧ b ≠ 0) ∨ (3 = 5 ∧ (a < 0 ∨ 4611686018427387904 < a))) ↔ (okN 0 a = false ∨ okN 0 b = false)
    rw [okN_any, okN_any]
    simp
  | 7, _ =>
    show ((1 < 1 ∧ a ≠ 0) ∨ (1 < 2 ∧ b ≠ 0) ∨ (3 = 5 ∧ (a < 0 ∨ 4611686018427387904 < a))) ↔ (okN 0 a = false ∨ okN 1 b = false)
    rw [okN_any, okN_zero]
    simp
  | 8, _ =>
    show ((1 < 1 ∧ a ≠ 0) ∨ (1 < 2 ∧ b ≠ 0) ∨ (3 = 5 ∧ (a < 0 ∨ 4611686018427387904 < a))) ↔ (okN 0 a = false ∨ okN 1 b = false)
    rw [okN_any, okN_zero]
    simp
  | 9, _ =>
    show ((1 < 1 ∧ a ≠ 0) ∨ (1 < 2 ∧ b ≠ 0) ∨ (4 = 5 ∧ (a < 0 ∨ 4611686018427387904 < a))) ↔ (okN 0 a = false ∨ okN 1 b = false)
    rw [okN_any, okN_zero]
    simp
  | 10, _ =>
    show ((0 < 1 ∧ a ≠ 0) ∨ (0 < 2 ∧ b ≠ 0) ∨ (4 = 5 ∧ (a < 0 ∨ 4611686018427387904 < a))) ↔ (okN 1 a = false ∨ okN 1 b = false)
    rw [okN_zero, okN_zero]
    omega
  | 11, _ =>
    show ((0 < 1 ∧ a ≠ 0) ∨ (0 < 2 ∧ b ≠ 0) ∨ (4 = 5 ∧ (a < 0 ∨ 4611686018427387904 < a))) ↔ (okN 1 a = false ∨ okN 1 b = false)
    rw [okN_zero, okN_zero]
    omega
  | 12, _ =>
    show ((1 < 1 ∧ a ≠ 0) ∨ (1 < 2 ∧ b ≠ 0) ∨ (5 = 5 ∧ (a < 0 ∨ 4611686018427387904 < a))) ↔ (okN 2 a = false ∨ okN 1 b = false)
    rw [okN_amount, okN_zero]
    omega
  | 13, _ =>
    show ((1 < 1 ∧ a ≠ 0) ∨ (1 < 2 ∧ b ≠ 0) ∨ (5 = 5 ∧ (a < 0 ∨ 4611686018427387904 < a))) ↔ (okN 2 a = false ∨ okN 1 b = false)
    rw [okN_amount, okN_zero]
    omega
  | 14, _ =>
    show ((0 < 1 ∧ a ≠ 0) ∨ (0 < 2 ∧ b ≠ 0) ∨ (5 = 5 ∧ (a < 0 ∨ 4611686018427387904 < a))) ↔ (okN 1 a = false ∨ okN 1 b = false)
    rw [okN_zero, okN_zero]
    omega
  | i + 15, h => omega

def RCk (w : World) (r : Int) (e : Ending) (w' : World) : Prop := e = .returned (.int .i64 r) ∧ Below w.heap.size w w'

set_option maxRecDepth 100000 in
set_option maxHeartbeats 4000000 in
theorem rcheck_0n (kd a b k n : Int) (ob rr : Int) (wd : ByteArray) (okr : Bool) (w : World) (h5 : (ob == 5) = false)
    (HO : ∀ W, Calls Tryz.prog 63 #[.int .i64 kd] W fun e w' => e = .returned (.tuple #[.agg #[.int .i64 ob, .int .i64 0, .int .i64 rr, .string wd], .bool true]) ∧ Below W.heap.size W w')
    (HR : ∀ W, Calls Tryz.prog 71 #[.agg #[.int .i64 ob, .int .i64 0, .int .i64 rr, .string wd], .agg #[.int .i64 k, .int .i64 n]] W (BoolPost okr W)) :
    Calls Tryz.prog 42 #[opV kd a b k n] w (RCk w (if a ≠ 0 ∨ b ≠ 0 then 2 else if okr = false then 9 else 0)) := by
  have HP := Lib.hid (show (if a ≠ 0 ∨ b ≠ 0 then (2 : Int) else if okr = false then 9 else 0) = _ from rfl)
  have HH := Holds.new w 33 #[.int .i64 kd, .int .i64 a, .int .i64 b, .int .i64 k, .int .i64 n]
  have HHid := Lib.hid HH
  clear HH
  unfold opV
  generalize hres : (if a ≠ 0 ∨ b ≠ 0 then (2 : Int) else if okr = false then 9 else 0) = res
  have HRES := Lib.hid hres
  clear hres HP
  cases hz : (a != 0) <;> cases hy : (b != 0)
  all_goals
    go_enter Tryz.func42, Tryz.ntmps42
    go_wp2_with fail
    refine (HO _).mono ?_
    rintro e w1 ⟨rfl, hB1⟩
    have hs1 := hB1.size
    simp only [World.size_alloc] at hs1
    have HO1 := (HHid.out.below hB1 (by simp)).alloc (.cells #[.int .i64 ob, .int .i64 0, .int .i64 rr, .string wd] 98)
    have o1 := HO1.c (j := 1) rfl
    have o2 := HO1.c (j := 2) rfl
    have o3 := HO1.c (j := 3) rfl
    have o4 := HO1.c (j := 4) rfl
    have hBn : Below w.heap.size w (w1.alloc (.cells #[.int .i64 ob, .int .i64 0, .int .i64 rr, .string wd] 98)) := Below.alloc (nxt ((Below.refl _ _).alloc (Nat.le_refl _) _) hB1 (by simp)) (by omega) _
    clear HO1
    first
    | (go_wp2_with fail
       refine (HR _).mono ?_
       rintro e w2 ⟨rfl, hB2⟩
       have hBf := nxt hBn hB2 (by simp; omega)
       cases okr
       · go_wp2
         go_ret
         exact ⟨by rw [← HRES.out]; simp_all, hBf⟩
       · go_wp2
         go_ret
         exact ⟨by rw [← HRES.out]; simp_all, hBf⟩)
    | (go_wp2
       go_ret
       refine ⟨?_, hBn⟩
       rw [← HRES.out, if_pos (by simp_all)]
       rfl)

set_option maxRecDepth 100000 in
set_option maxHeartbeats 4000000 in
theorem rcheck_0y (kd a b k n : Int) (ob rr : Int) (wd : ByteArray) (okr : Bool) (w : World) (h5 : (ob == 5) = true)
    (HO : ∀ W, Calls Tryz.prog 63 #[.int .i64 kd] W fun e w' => e = .returned (.tuple #[.agg #[.int .i64 ob, .int .i64 0, .int .i64 rr, .string wd], .bool true]) ∧ Below W.heap.size W w')
    (HR : ∀ W, Calls Tryz.prog 71 #[.agg #[.int .i64 ob, .int .i64 0, .int .i64 rr, .string wd], .agg #[.int .i64 k, .int .i64 n]] W (BoolPost okr W)) :
    Calls Tryz.prog 42 #[opV kd a b k n] w (RCk w (if a ≠ 0 ∨ b ≠ 0 ∨ (a < 0 ∨ 4611686018427387904 < a) then 2 else if okr = false then 9 else 0)) := by
  have HP := Lib.hid (show (if a ≠ 0 ∨ b ≠ 0 ∨ (a < 0 ∨ 4611686018427387904 < a) then (2 : Int) else if okr = false then 9 else 0) = _ from rfl)
  have HH := Holds.new w 33 #[.int .i64 kd, .int .i64 a, .int .i64 b, .int .i64 k, .int .i64 n]
  have HHid := Lib.hid HH
  clear HH
  unfold opV
  generalize hres : (if a ≠ 0 ∨ b ≠ 0 ∨ (a < 0 ∨ 4611686018427387904 < a) then (2 : Int) else if okr = false then 9 else 0) = res
  have HRES := Lib.hid hres
  clear hres HP
  cases hn : decide (a < 0) <;> cases hg : decide (4611686018427387904 < a) <;> cases hz : (a != 0) <;> cases hy : (b != 0)
  all_goals
    go_enter Tryz.func42, Tryz.ntmps42
    go_wp2_with fail
    refine (HO _).mono ?_
    rintro e w1 ⟨rfl, hB1⟩
    have hs1 := hB1.size
    simp only [World.size_alloc] at hs1
    have HO1 := (HHid.out.below hB1 (by simp)).alloc (.cells #[.int .i64 ob, .int .i64 0, .int .i64 rr, .string wd] 98)
    have o1 := HO1.c (j := 1) rfl
    have o2 := HO1.c (j := 2) rfl
    have o3 := HO1.c (j := 3) rfl
    have o4 := HO1.c (j := 4) rfl
    have hBn : Below w.heap.size w (w1.alloc (.cells #[.int .i64 ob, .int .i64 0, .int .i64 rr, .string wd] 98)) := Below.alloc (nxt ((Below.refl _ _).alloc (Nat.le_refl _) _) hB1 (by simp)) (by omega) _
    clear HO1
    first
    | (go_wp2_with fail
       refine (HR _).mono ?_
       rintro e w2 ⟨rfl, hB2⟩
       have hBf := nxt hBn hB2 (by simp; omega)
       cases okr
       · go_wp2
         go_ret
         exact ⟨by rw [← HRES.out]; simp_all, hBf⟩
       · go_wp2
         go_ret
         exact ⟨by rw [← HRES.out]; simp_all, hBf⟩)
    | (go_wp2
       go_ret
       refine ⟨?_, hBn⟩
       rw [← HRES.out, if_pos (by simp_all)]
       rfl)

set_option maxRecDepth 100000 in
set_option maxHeartbeats 4000000 in
theorem rcheck_1n (kd a b k n : Int) (ob rr : Int) (wd : ByteArray) (okr : Bool) (w : World) (h5 : (ob == 5) = false)
    (HO : ∀ W, Calls Tryz.prog 63 #[.int .i64 kd] W fun e w' => e = .returned (.tuple #[.agg #[.int .i64 ob, .int .i64 1, .int .i64 rr, .string wd], .bool true]) ∧ Below W.heap.size W w')
    (HR : ∀ W, Calls Tryz.prog 71 #[.agg #[.int .i64 ob, .int .i64 1, .int .i64 rr, .string wd], .agg #[.int .i64 k, .int .i64 n]] W (BoolPost okr W)) :
    Calls Tryz.prog 42 #[opV kd a b k n] w (RCk w (if b ≠ 0 then 2 else if okr = false then 9 else 0)) := by
  have HP := Lib.hid (show (if b ≠ 0 then (2 : Int) else if okr = false then 9 else 0) = _ from rfl)
  have HH := Holds.new w 33 #[.int .i64 kd, .int .i64 a, .int .i64 b, .int .i64 k, .int .i64 n]
  have HHid := Lib.hid HH
  clear HH
  unfold opV
  generalize hres : (if b ≠ 0 then (2 : Int) else if okr = false then 9 else 0) = res
  have HRES := Lib.hid hres
  clear hres HP
  cases hy : (b != 0)
  all_goals
    go_enter Tryz.func42, Tryz.ntmps42
    go_wp2_with fail
    refine (HO _).mono ?_
    rintro e w1 ⟨rfl, hB1⟩
    have hs1 := hB1.size
    simp only [World.size_alloc] at hs1
    have HO1 := (HHid.out.below hB1 (by simp)).alloc (.cells #[.int .i64 ob, .int .i64 1, .int .i64 rr, .string wd] 98)
    have o1 := HO1.c (j := 1) rfl
    have o2 := HO1.c (j := 2) rfl
    have o3 := HO1.c (j := 3) rfl
    have o4 := HO1.c (j := 4) rfl
    have hBn : Below w.heap.size w (w1.alloc (.cells #[.int .i64 ob, .int .i64 1, .int .i64 rr, .string wd] 98)) := Below.alloc (nxt ((Below.refl _ _).alloc (Nat.le_refl _) _) hB1 (by simp)) (by omega) _
    clear HO1
    first
    | (go_wp2_with fail
       refine (HR _).mono ?_
       rintro e w2 ⟨rfl, hB2⟩
       have hBf := nxt hBn hB2 (by simp; omega)
       cases okr
       · go_wp2
         go_ret
         exact ⟨by rw [← HRES.out]; simp_all, hBf⟩
       · go_wp2
         go_ret
         exact ⟨by rw [← HRES.out]; simp_all, hBf⟩)
    | (go_wp2
       go_ret
       refine ⟨?_, hBn⟩
       rw [← HRES.out, if_pos (by simp_all)]
       rfl)

set_option maxRecDepth 100000 in
set_option maxHeartbeats 4000000 in
theorem rcheck_1y (kd a b k n : Int) (ob rr : Int) (wd : ByteArray) (okr : Bool) (w : World) (h5 : (ob == 5) = true)
    (HO : ∀ W, Calls Tryz.prog 63 #[.int .i64 kd] W fun e w' => e = .returned (.tuple #[.agg #[.int .i64 ob, .int .i64 1, .int .i64 rr, .string wd], .bool true]) ∧ Below W.heap.size W w')
    (HR : ∀ W, Calls Tryz.prog 71 #[.agg #[.int .i64 ob, .int .i64 1, .int .i64 rr, .string wd], .agg #[.int .i64 k, .int .i64 n]] W (BoolPost okr W)) :
    Calls Tryz.prog 42 #[opV kd a b k n] w (RCk w (if b ≠ 0 ∨ (a < 0 ∨ 4611686018427387904 < a) then 2 else if okr = false then 9 else 0)) := by
  have HP := Lib.hid (show (if b ≠ 0 ∨ (a < 0 ∨ 4611686018427387904 < a) then (2 : Int) else if okr = false then 9 else 0) = _ from rfl)
  have HH := Holds.new w 33 #[.int .i64 kd, .int .i64 a, .int .i64 b, .int .i64 k, .int .i64 n]
  have HHid := Lib.hid HH
  clear HH
  unfold opV
  generalize hres : (if b ≠ 0 ∨ (a < 0 ∨ 4611686018427387904 < a) then (2 : Int) else if okr = false then 9 else 0) = res
  have HRES := Lib.hid hres
  clear hres HP
  cases hn : decide (a < 0) <;> cases hg : decide (4611686018427387904 < a) <;> cases hy : (b != 0)
  all_goals
    go_enter Tryz.func42, Tryz.ntmps42
    go_wp2_with fail
    refine (HO _).mono ?_
    rintro e w1 ⟨rfl, hB1⟩
    have hs1 := hB1.size
    simp only [World.size_alloc] at hs1
    have HO1 := (HHid.out.below hB1 (by simp)).alloc (.cells #[.int .i64 ob, .int .i64 1, .int .i64 rr, .string wd] 98)
    have o1 := HO1.c (j := 1) rfl
    have o2 := HO1.c (j := 2) rfl
    have o3 := HO1.c (j := 3) rfl
    have o4 := HO1.c (j := 4) rfl
    have hBn : Below w.heap.size w (w1.alloc (.cells #[.int .i64 ob, .int .i64 1, .int .i64 rr, .string wd] 98)) := Below.alloc (nxt ((Below.refl _ _).alloc (Nat.le_refl _) _) hB1 (by simp)) (by omega) _
    clear HO1
    first
    | (go_wp2_with fail
       refine (HR _).mono ?_
       rintro e w2 ⟨rfl, hB2⟩
       have hBf := nxt hBn hB2 (by simp; omega)
       cases okr
       · go_wp2
         go_ret
         exact ⟨by rw [← HRES.out]; simp_all, hBf⟩
       · go_wp2
         go_ret
         exact ⟨by rw [← HRES.out]; simp_all, hBf⟩)
    | (go_wp2
       go_ret
       refine ⟨?_, hBn⟩
       rw [← HRES.out, if_pos (by simp_all)]
       rfl)

set_option maxRecDepth 100000 in
set_option maxHeartbeats 4000000 in
theorem rcheck_2n (kd a b k n : Int) (ob rr : Int) (wd : ByteArray) (okr : Bool) (w : World) (h5 : (ob == 5) = false)
    (HO : ∀ W, Calls Tryz.prog 63 #[.int .i64 kd] W fun e w' => e = .returned (.tuple #[.agg #[.int .i64 ob, .int .i64 2, .int .i64 rr, .string wd], .bool true]) ∧ Below W.heap.size W w')
    (HR : ∀ W, Calls Tryz.prog 71 #[.agg #[.int .i64 ob, .int .i64 2, .int .i64 rr, .string wd], .agg #[.int .i64 k, .int .i64 n]] W (BoolPost okr W)) :
    Calls Tryz.prog 42 #[opV kd a b k n] w (RCk w (if False then 2 else if okr = false then 9 else 0)) := by
  have HP := Lib.hid (show (if False then (2 : Int) else if okr = false then 9 else 0) = _ from rfl)
  have HH := Holds.new w 33 #[.int .i64 kd, .int .i64 a, .int .i64 b, .int .i64 k, .int .i64 n]
  have HHid := Lib.hid HH
  clear HH
  unfold opV
  generalize hres : (if False then (2 : Int) else if okr = false then 9 else 0) = res
  have HRES := Lib.hid hres
  clear hres HP
  skip
  all_goals
    go_enter Tryz.func42, Tryz.ntmps42
    go_wp2_with fail
    refine (HO _).mono ?_
    rintro e w1 ⟨rfl, hB1⟩
    have hs1 := hB1.size
    simp only [World.size_alloc] at hs1
    have HO1 := (HHid.out.below hB1 (by simp)).alloc (.cells #[.int .i64 ob, .int .i64 2, .int .i64 rr, .string wd] 98)
    have o1 := HO1.c (j := 1) rfl
    have o2 := HO1.c (j := 2) rfl
    have o3 := HO1.c (j := 3) rfl
    have o4 := HO1.c (j := 4) rfl
    have hBn : Below w.heap.size w (w1.alloc (.cells #[.int .i64 ob, .int .i64 2, .int .i64 rr, .string wd] 98)) := Below.alloc (nxt ((Below.refl _ _).alloc (Nat.le_refl _) _) hB1 (by simp)) (by omega) _
    clear HO1
    first
    | (go_wp2_with fail
       refine (HR _).mono ?_
       rintro e w2 ⟨rfl, hB2⟩
       have hBf := nxt hBn hB2 (by simp; omega)
       cases okr
       · go_wp2
         go_ret
         exact ⟨by rw [← HRES.out]; simp_all, hBf⟩
       · go_wp2
         go_ret
         exact ⟨by rw [← HRES.out]; simp_all, hBf⟩)
    | (go_wp2
       go_ret
       refine ⟨?_, hBn⟩
       rw [← HRES.out, if_pos (by simp_all)]
       rfl)

set_option maxRecDepth 100000 in
set_option maxHeartbeats 4000000 in
theorem rcheck_2y (kd a b k n : Int) (ob rr : Int) (wd : ByteArray) (okr : Bool) (w : World) (h5 : (ob == 5) = true)
    (HO : ∀ W, Calls Tryz.prog 63 #[.int .i64 kd] W fun e w' => e = .returned (.tuple #[.agg #[.int .i64 ob, .int .i64 2, .int .i64 rr, .string wd], .bool true]) ∧ Below W.heap.size W w')
    (HR : ∀ W, Calls Tryz.prog 71 #[.agg #[.int .i64 ob, .int .i64 2, .int .i64 rr, .string wd], .agg #[.int .i64 k, .int .i64 n]] W (BoolPost okr W)) :
    Calls Tryz.prog 42 #[opV kd a b k n] w (RCk w (if (a < 0 ∨ 4611686018427387904 < a) then 2 else if okr = false then 9 else 0)) := by
  have HP := Lib.hid (show (if (a < 0 ∨ 4611686018427387904 < a) then (2 : Int) else if okr = false then 9 else 0) = _ from rfl)
  have HH := Holds.new w 33 #[.int .i64 kd, .int .i64 a, .int .i64 b, .int .i64 k, .int .i64 n]
  have HHid := Lib.hid HH
  clear HH
  unfold opV
  generalize hres : (if (a < 0 ∨ 4611686018427387904 < a) then (2 : Int) else if okr = false then 9 else 0) = res
  have HRES := Lib.hid hres
  clear hres HP
  cases hn : decide (a < 0) <;> cases hg : decide (4611686018427387904 < a)
  all_goals
    go_enter Tryz.func42, Tryz.ntmps42
    go_wp2_with fail
    refine (HO _).mono ?_
    rintro e w1 ⟨rfl, hB1⟩
    have hs1 := hB1.size
    simp only [World.size_alloc] at hs1
    have HO1 := (HHid.out.below hB1 (by simp)).alloc (.cells #[.int .i64 ob, .int .i64 2, .int .i64 rr, .string wd] 98)
    have o1 := HO1.c (j := 1) rfl
    have o2 := HO1.c (j := 2) rfl
    have o3 := HO1.c (j := 3) rfl
    have o4 := HO1.c (j := 4) rfl
    have hBn : Below w.heap.size w (w1.alloc (.cells #[.int .i64 ob, .int .i64 2, .int .i64 rr, .string wd] 98)) := Below.alloc (nxt ((Below.refl _ _).alloc (Nat.le_refl _) _) hB1 (by simp)) (by omega) _
    clear HO1
    first
    | (go_wp2_with fail
       refine (HR _).mono ?_
       rintro e w2 ⟨rfl, hB2⟩
       have hBf := nxt hBn hB2 (by simp; omega)
       cases okr
       · go_wp2
         go_ret
         exact ⟨by rw [← HRES.out]; simp_all, hBf⟩
       · go_wp2
         go_ret
         exact ⟨by rw [← HRES.out]; simp_all, hBf⟩)
    | (go_wp2
       go_ret
       refine ⟨?_, hBn⟩
       rw [← HRES.out, if_pos (by simp_all)]
       rfl)
end Go.Proofs.YtakbphjdfgidmaaGreatDoor

namespace Go.Proofs.YtakbphjdfgidmaaGreatDoor
open Go.RowKit Go.Maps
set_option linter.unusedVariables false

theorem check_eq (i : Nat) (hi : i < 15) (a b k n : Int) : checkI i a b k n = if ((argN i < 1 ∧ a ≠ 0) ∨ (argN i < 2 ∧ b ≠ 0) ∨ (objN i = 5 ∧ (a < 0 ∨ 4611686018427387904 < a))) then 2 else if rokR (rR i) k n = false then 9 else 0 := by
  rw [rok_ok i hi]
  unfold checkI
  have h := chk_iff i hi a b
  by_cases hp : okN (mA i) a = false ∨ okN (mB i) b = false
  · rw [if_pos hp, if_pos (h.2 hp)]
  · rw [if_neg hp, if_neg (fun q => hp (h.1 q))]

set_option maxRecDepth 100000 in
theorem op_rcheck_any (kd a b k n : Int) (w : World) : Calls Tryz.prog 42 #[opV kd a b k n] w (Says (.int .i64 (checkP kd a b k n)) w) := by
  cases ho : kindI kd with
  | none =>
    have H := fun W => rof_any kd W
    rw [ho] at H
    have hP : Hid (checkP kd a b k n = 6) := Lib.hid (by unfold checkP; rw [ho])
    generalize checkP kd a b k n = r at hP
    unfold opV
    clear ho
    go_enter Tryz.func42, Tryz.ntmps42
    go_wp2_with fail
    refine (H _).mono ?_
    rintro e w1 ⟨rfl, hB1⟩
    simp only [rkV, Option.isSome]
    have hs := hB1.size
    simp only [World.size_alloc] at hs
    go_wp2
    go_ret
    exact ⟨by rw [hP.out]; rfl, Below.alloc (nxt ((Below.refl _ _).alloc (Nat.le_refl _) _) hB1 (by simp)) (by omega) _⟩
  | some i =>
    have hi := (kindI_lt ho).1
    have hP : checkP kd a b k n = checkI i a b k n := by unfold checkP; rw [ho]
    rw [hP, check_eq i hi]
    have HO : ∀ W, Calls Tryz.prog 63 #[.int .i64 kd] W fun e w' => e = .returned (.tuple #[.agg #[.int .i64 (objN i), .int .i64 (argN i), .int .i64 (rR i), .string (op_wordB i)], .bool true]) ∧ Below W.heap.size W w' := fun W => by
      have := rof_any kd W
      rw [ho] at this
      exact this
    have HR := fun W => rret_any (rR i) (rR_le i) (objN i) (argN i) (op_wordB i) k n W
    have hm := argN_le i
    obtain hm | hm | hm : argN i = 0 ∨ argN i = 1 ∨ argN i = 2 := by omega
    all_goals
      rw [hm] at HO HR ⊢
      by_cases h5 : objN i = 5
    · have := rcheck_0y kd a b k n (objN i) (rR i) (op_wordB i) (rokR (rR i) k n) w (by rw [h5]; rfl) HO HR
      change Calls Tryz.prog _ _ w (RCk w _)
      simpa [h5] using this
    · have := rcheck_0n kd a b k n (objN i) (rR i) (op_wordB i) (rokR (rR i) k n) w (by rw [beq_eq_false_iff_ne]; omega) HO HR
      change Calls Tryz.prog _ _ w (RCk w _)
      simpa [h5] using this
    · have := rcheck_1y kd a b k n (objN i) (rR i) (op_wordB i) (rokR (rR i) k n) w (by rw [h5]; rfl) HO HR
      change Calls Tryz.prog _ _ w (RCk w _)
      simpa [h5] using this
    · have := rcheck_1n kd a b k n (objN i) (rR i) (op_wordB i) (rokR (rR i) k n) w (by rw [beq_eq_false_iff_ne]; omega) HO HR
      change Calls Tryz.prog _ _ w (RCk w _)
      simpa [h5] using this
    · have := rcheck_2y kd a b k n (objN i) (rR i) (op_wordB i) (rokR (rR i) k n) w (by rw [h5]; rfl) HO HR
      change Calls Tryz.prog _ _ w (RCk w _)
      simpa [h5] using this
    · have := rcheck_2n kd a b k n (objN i) (rR i) (op_wordB i) (rokR (rR i) k n) w (by rw [beq_eq_false_iff_ne]; omega) HO HR
      change Calls Tryz.prog _ _ w (RCk w _)
      simpa [h5] using this

theorem strs_app (a b : List Int) : strOfNums a ++ strOfNums b = strOfNums (a ++ b) := by
  apply ByteArray.ext
  rw [ByteArray.data_append]
  simp [strOfNums]
theorem putB_nums (n : Int) : putB n = strOfNums (nums (putB n)) := (strOf_nums _).symm

/-- The words ahead of the arrow, joined. -/
def headS (i j : Nat) (a b : Int) : ByteArray := strOfNums (jl (op_wordB i :: argW j a b))
theorem headS_zero (i : Nat) (a b : Int) : headS i 0 a b = op_wordB i := by
  rw [headS, show argW 0 a b = [] from rfl, jl_one, strOf_nums]
theorem headS_step (i j m : Nat) (a b : Int) (hj : j < m) (hm : m ≤ 2) : headS i j a b ++ ⟨#[32]⟩ ++ putB ([a, b][j]?.getD 0) = headS i (j + 1) a b := by
  rw [headS, headS, argW_step m a b j hj hm, ← List.cons_append, jl_snoc _ _ (by simp), show (⟨#[32]⟩ : ByteArray) = strOfNums [32] from rfl, strs_app, putB_nums, strs_app]
  congr 1
  simp [strOf_nums]
theorem headS_size (i j : Nat) (a b : Int) (hi : i < 15) (hj : j ≤ 2) : (headS i j a b).size ≤ 100 := by
  rw [headS, strOfNums_size]
  have h1 := jl_len (op_wordB i :: argW j a b) (by simp)
  have h2 := szs_bound (op_wordB i :: argW j a b) 21 (fun s hs => by
    rcases List.mem_cons.1 hs with rfl | h
    · have := (wordB_fine i hi).2.2; omega
    · obtain ⟨x, rfl⟩ := argW_mem h
      exact putB_size x)
  have h3 : (op_wordB i :: argW j a b).length = j + 1 := by rw [List.length_cons, argW_l a b j hj]
  rw [h3] at h1 h2
  have : (j + 1) * 21 ≤ 3 * 21 := Nat.mul_le_mul_right _ (by omega)
  omega
theorem headS_end (i : Nat) (a b k n : Int) : headS i (argN i) a b ++ ⟨#[32, 45, 62, 32]⟩ ++ retB k n = strOfNums (jl (opW i a b k n)) := by
  have e1 : opW i a b k n = ((op_wordB i :: argW (argN i) a b) ++ [arrB]) ++ [retB k n] := by rw [opW]; simp
  rw [headS, e1, jl_snoc _ _ (by simp), jl_snoc _ _ (by simp), show (⟨#[32, 45, 62, 32]⟩ : ByteArray) = strOfNums [32, 45, 62, 32] from rfl, strs_app]
  have e2 : retB k n = strOfNums (nums (retB k n)) := (strOf_nums _).symm
  rw [e2, strs_app]
  congr 1
  rw [show nums arrB = [45, 62] from rfl]
  simp [strOf_nums]

set_option maxRecDepth 100000 in
set_option maxHeartbeats 2000000 in
theorem op_rtext_any (kd a b k n : Int) (w : World) (ha : I64 a) (hb : I64 b) (hn : I64 n) : Calls Tryz.prog 34 #[opV kd a b k n] w (Says (.tuple #[.string (textS kd a b k n), .int .i64 (checkP kd a b k n)]) w) := by
  have HC := fun W => op_rcheck_any kd a b k n W
  have HH := Lib.hid (Holds.new w 33 #[.int .i64 kd, .int .i64 a, .int .i64 b, .int .i64 k, .int .i64 n])
  by_cases hz : checkP kd a b k n = 0
  · obtain ⟨i, ho⟩ : ∃ i, kindI kd = some i := by
      unfold checkP at hz
      cases h : kindI kd with
      | none => rw [h] at hz; exact absurd (show (6 : Int) = 0 from hz) (by decide)
      | some i => exact ⟨i, rfl⟩
    have hi := (kindI_lt ho).1
    have hc0 : checkI i a b k n = 0 := by unfold checkP at hz; rw [ho] at hz; exact hz
    have HT : Hid (textS kd a b k n = headS i (argN i) a b ++ ⟨#[32, 45, 62, 32]⟩ ++ retB k n) := Lib.hid (by unfold textS; rw [ho, headS_end]; simp [hc0])
    have HF : ∀ W, Calls Tryz.prog 63 #[.int .i64 kd] W fun e w' => e = .returned (.tuple #[.agg #[.int .i64 (objN i), .int .i64 (argN i), .int .i64 (rR i), .string (op_wordB i)], .bool true]) ∧ Below W.heap.size W w' := fun W => by
      have := rof_any kd W
      rw [ho] at this
      exact this
    rw [hz] at HC ⊢
    have HST := Lib.hid (fun j (hj : j < argN i) => headS_step i j (argN i) a b hj (argN_le i))
    have HSZ := Lib.hid (fun j (hj : j ≤ 2) => headS_size i j a b hi hj)
    have H0 := Lib.hid (headS_zero i a b)
    have HPa := Lib.hid (fun W => rput_any a W ha.1 ha.2)
    have HPb := Lib.hid (fun W => rput_any b W hb.1 hb.2)
    have HPn := Lib.hid (fun W => rput_any n W hn.1 hn.2)
    have hm := argN_le i
    generalize textS kd a b k n = tx at HT
    generalize (objN i : Int) = y1 at *
    generalize (rR i : Int) = y3 at *
    unfold opV at HC ⊢
    clear hz hc0 ho
    generalize headS i = hd at *
    generalize op_wordB i = wd at *
    generalize argN i = m at *
    go_enter Tryz.func34, Tryz.ntmps34
    go_wp2_with fail
    refine (HC _).mono ?_
    rintro e w1 ⟨rfl, hB1⟩
    have hs1 := hB1.size
    simp only [World.size_alloc] at hs1
    have HH1 := HH.out.below hB1 (by simp)
    have o0 := HH1.c (j := 0) rfl
    go_wp2_with fail
    refine (HF _).mono ?_
    rintro e w2 ⟨rfl, hB2⟩
    have hs2 := hB2.size
    have HH2 := (HH1.below hB2 (by omega)).alloc (.cells #[.int .i64 y1, .int .i64 m, .int .i64 y3, .string wd] 98)
    have o1 := HH2.c (j := 1) rfl
    have o2 := HH2.c (j := 2) rfl
    have hB02 : Below w.heap.size w w2 := nxt (nxt ((Below.refl _ _).alloc (Nat.le_refl _) _) hB1 (by simp)) hB2 (by omega)
    have HK3 := (Holds.new w2 98 #[.int .i64 y1, .int .i64 m, .int .i64 y3, .string wd]).alloc (.cells #[.int .i64 a, .int .i64 b] 3)
    have HI3 := Holds.new (w2.alloc (.cells #[.int .i64 y1, .int .i64 m, .int .i64 y3, .string wd] 98)) 3 #[.int .i64 a, .int .i64 b]
    rw [World.size_alloc] at HI3
    have HH3 := HH2.alloc (.cells #[.int .i64 a, .int .i64 b] 3)
    have hB3 : Below w.heap.size w ((w2.alloc (.cells #[.int .i64 y1, .int .i64 m, .int .i64 y3, .string wd] 98)).alloc (.cells #[.int .i64 a, .int .i64 b] 3)) := (hB02.alloc hB02.size _).alloc (by simp; have := hB02.size; omega) _
    go_wp2_with fail
    obtain ⟨W3, hW3⟩ : ∃ W3, W3 = (w2.alloc (.cells #[.int .i64 y1, .int .i64 m, .int .i64 y3, .string wd] 98)).alloc (.cells #[.int .i64 a, .int .i64 b] 3) := ⟨_, rfl⟩
    rw [← hW3] at HK3 HI3 HH3 hB3 ⊢
    have hs3 : W3.heap.size = w2.heap.size + 1 + 1 := by rw [hW3]; simp
    clear hW3 o0 o1 o2 HH1 HH2 HH
    go_loopw [7, 9] (fun s7 i9 wr => ∃ j : Nat, j ≤ m ∧ i9 = .int .i64 j ∧ s7 = .string (hd j a b) ∧ Below W3.heap.size W3 wr) (fun s7 i9 wr => m - (intOf i9).toNat)
    case atStart => exact ⟨0, Nat.zero_le _, rfl, by rw [H0.out], Below.refl _ _⟩
    case round =>
      obtain ⟨j, hj, rfl, rfl, hB⟩ := hrel
      have HKr := HK3.below hB (by omega)
      have HIr := HI3.below hB (by omega)
      have HHr := HH3.below hB HH3.lt
      have kc := HKr.c (j := 1) rfl
      have hsz := HSZ.out j (by omega)
      by_cases hlt : j < m
      · have j1 : (j : Int) < (m : Int) := by omega
        have j0 : (0 : Int) ≤ (j : Int) := by omega
        have j2 : (j : Int) < 2 := by omega
        have jd : decide (j < m) = true := decide_eq_true hlt
        have hst := Lib.hid (HST.out j hlt)
        have hin : ∃ x, wr.cell? ⟨w2.heap.size + 1, j, none⟩ = some (.int .i64 x) ∧ ([a, b][j]?.getD 0) = x ∧ (∀ W, Calls Tryz.prog 62 #[.int .i64 x] W (PutPost x W)) := by
          have : j = 0 ∨ j = 1 := by omega
          rcases this with rfl | rfl
          · exact ⟨a, HIr.c rfl, rfl, HPa.out⟩
          · exact ⟨b, HIr.c rfl, rfl, HPb.out⟩
        obtain ⟨x, hcx, hx, hput⟩ := hin
        rw [hx] at hst
        have hpz := putB_size x
        have hput' : ∀ W, Calls Tryz.prog 62 #[.int .i64 x] W fun e w' => e = .returned (.string (putB x)) ∧ Below W.heap.size W w' := hput
        clear hx hput
        generalize putB x = px at *
        obtain ⟨sj, hsj⟩ : ∃ sj, hd j a b = sj := ⟨_, rfl⟩
        rw [hsj] at hsz hst ⊢
        clear hsj
        go_wp2_with fail
        refine (hput' _).mono ?_
        rintro e w3 ⟨rfl, hB3'⟩
        go_wp2
        exact ⟨⟨j + 1, by omega, by go_num, by rw [← hst.out], nxt hB hB3' hB.size⟩, by simp [intOf]; omega⟩
      · have jm : j = m := by omega
        subst jm
        have jd : decide (j < j) = false := decide_eq_false (by omega)
        have o3 := HHr.c (j := 3) rfl
        have o4 := HHr.c (j := 4) rfl
        have hBw : Below w.heap.size w wr := nxt hB3 hB (by have := hB3.size; omega)
        have HRt : Hid (retB k n = if k == 0 then okB else if k == 1 then noneB else putB n) := Lib.hid rfl
        generalize retB k n = rt at HRt HT
        obtain ⟨sj, hsj⟩ : ∃ sj, hd j a b = sj := ⟨_, rfl⟩
        rw [hsj] at hsz HT ⊢
        clear hsj
        cases h0 : (k == 0) with
        | true =>
          have HR2 : Hid (rt = ⟨#[111, 107]⟩) := Lib.hid (by rw [HRt.out, h0]; rfl)
          go_wp2
          go_ret2
          exact ⟨by rw [HT.out, HR2.out]; rfl, hBw⟩
        | false =>
          cases h1 : (k == 1) with
          | true =>
            have HR2 : Hid (rt = ⟨#[110, 111, 110, 101]⟩) := Lib.hid (by rw [HRt.out, h0, h1]; rfl)
            go_wp2
            go_ret2
            exact ⟨by rw [HT.out, HR2.out]; rfl, hBw⟩
          | false =>
            have HR2 : Hid (rt = putB n) := Lib.hid (by rw [HRt.out, h0, h1]; rfl)
            have hpz := putB_size n
            have hput' : ∀ W, Calls Tryz.prog 62 #[.int .i64 n] W fun e w' => e = .returned (.string (putB n)) ∧ Below W.heap.size W w' := HPn.out
            generalize putB n = px at *
            go_wp2_with fail
            refine (hput' _).mono ?_
            rintro e w3 ⟨rfl, hB3'⟩
            go_wp2
            go_ret2
            exact ⟨by rw [HT.out, HR2.out]; rfl, nxt hBw hB3' hBw.size⟩
  · have hb : (checkP kd a b k n == 0) = false := by simpa using hz
    have HT : Hid (textS kd a b k n = ⟨#[]⟩) := Lib.hid (by
      unfold textS
      unfold checkP at hz
      cases h : kindI kd with
      | none => rfl
      | some i =>
        rw [h] at hz
        simp only
        rw [if_neg hz])
    generalize textS kd a b k n = tx at HT
    generalize checkP kd a b k n = ck at *
    unfold opV at HC ⊢
    go_enter Tryz.func34, Tryz.ntmps34
    go_wp2_with fail
    refine (HC _).mono ?_
    rintro e w1 ⟨rfl, hB1⟩
    go_wp2
    go_ret2
    exact ⟨by rw [HT.out]; rfl, nxt ((Below.refl _ _).alloc (Nat.le_refl _) _) hB1 (by simp)⟩
end Go.Proofs.YtakbphjdfgidmaaGreatDoor

namespace Go.Proofs.YtakbphjdfgidmaaGreatDoor
open Go.RowKit Go.Maps
set_option linter.unusedVariables false

def getB (s : ByteArray) : Bool := getE s.data.toList == 0
theorem rnumber_any (s : ByteArray) (w : World) (hs : s.size ≤ maxLen) : Calls Tryz.prog 129 #[.string s] w (Says (.tuple #[.int .i64 (getN s.data.toList), .bool (getB s)]) w) := by
  have HG := Lib.hid (fun W => rget_any s W hs)
  have HB : Hid (getB s = (getE s.data.toList == 0)) := Lib.hid rfl
  unfold GetPost at HG
  generalize getB s = gb at HB
  generalize getE s.data.toList = ge at HG HB
  generalize getN s.data.toList = gn at HG
  generalize getP s.data.toList = gp at HG
  go_enter Tryz.func129, Tryz.ntmps129
  go_wp2_with fail
  refine (HG.out _).mono ?_
  rintro e w1 ⟨rfl, hB1⟩
  have c0 := (Holds.new w1 44 #[.int .i64 ge, .int .i64 gp]).c (j := 0) rfl
  go_wp2_with fail
  go_quiet (fail)
  go_wp2
  go_ret2
  exact ⟨by rw [HB.out]; rfl, below_drewN (hB1.alloc hB1.size _) _⟩

/-- What the document says of a return's word. -/
def rtK (s : ByteArray) : Int := if s == okB then 0 else if s == noneB then 1 else 2
def rtN (s : ByteArray) : Int := if s == okB then 0 else if s == noneB then 0 else getN s.data.toList
def rtB (s : ByteArray) : Bool := if s == okB then true else if s == noneB then true else getB s
theorem rreturns_any (s : ByteArray) (w : World) (hs : s.size ≤ maxLen) : Calls Tryz.prog 130 #[.string s] w (Says (.tuple #[.agg #[.int .i64 (rtK s), .int .i64 (rtN s)], .bool (rtB s)]) w) := by
  cases hb : (s == okB) with
  | true =>
    obtain rfl : s = okB := by simpa using hb
    go_enter Tryz.func130, Tryz.ntmps130
    unfold okB
    go_wp2
    refine bodyPost_ret (v := .tuple #[.agg #[.int .i64 0, .int .i64 0], .bool true]) (by simp [results, Tryz.f130, go_sem]) rfl ?_
    exact ⟨rfl, (Below.refl _ _).alloc (Nat.le_refl _) _⟩
  | false =>
    cases hc : (s == noneB) with
    | true =>
      obtain rfl : s = noneB := by simpa using hc
      go_enter Tryz.func130, Tryz.ntmps130
      unfold noneB
      go_wp2
      refine bodyPost_ret (v := .tuple #[.agg #[.int .i64 1, .int .i64 0], .bool true]) (by simp [results, Tryz.f130, go_sem]) rfl ?_
      exact ⟨rfl, (Below.refl _ _).alloc (Nat.le_refl _) _⟩
    | false =>
      have h1 : rtK s = 2 := by unfold rtK; rw [hb, hc]; rfl
      have h2 : rtN s = getN s.data.toList := by unfold rtN; rw [hb, hc]; rfl
      have h3 : rtB s = getB s := by unfold rtB; rw [hb, hc]; rfl
      rw [h1, h2, h3]
      have HN := fun W => rnumber_any s W hs
      rw [beq_toListBytes, okB_list] at hb
      rw [beq_toListBytes, noneB_list] at hc
      generalize getN s.data.toList = gn at HN ⊢
      generalize getB s = gb at HN ⊢
      clear h1 h2 h3
      have HZ := Holds.new w 31 #[.int .i64 0, .int .i64 0]
      go_enter Tryz.func130, Tryz.ntmps130
      go_wp2_with fail
      refine (HN _).mono ?_
      rintro e w1 ⟨rfl, hB1⟩
      have H1 := HZ.below hB1 (by simp)
      have z0 := H1.c (j := 0) rfl
      have z1 := H1.c (j := 1) rfl
      have f0 := H1.frozen 0
      have f1 := H1.frozen 1
      go_wp2
      refine bodyPost_ret (v := .tuple #[.agg #[.int .i64 2, .int .i64 gn], .bool gb]) (by simp [results, Tryz.f130, go_sem, z0, z1]) rfl ?_
      refine ⟨rfl, ?_⟩
      refine Below.setCell (Below.setCell (nxt ((Below.refl _ _).alloc (Nat.le_refl _) _) hB1 (by simp)) ?_ _) ?_ _
      all_goals exact Nat.le_refl _
end Go.Proofs.YtakbphjdfgidmaaGreatDoor

namespace Go.Proofs.YtakbphjdfgidmaaGreatDoor
open Go.RowKit Go.Maps
set_option linter.unusedVariables false

def stepsI (i : Nat) : List Nat := [0] ++ ([1, 2].take (argN i) ++ [3, 4])
def stI (i : Nat) (a b k n : Int) : op_St := ⟨some i, (i : Int) + 1, a, b, k, n, stepsI i⟩
theorem steps_len (i : Nat) : (stepsI i).length = argN i + 3 := by
  have := argN_le i
  unfold stepsI
  generalize argN i = m at *
  obtain rfl | rfl | rfl : m = 0 ∨ m = 1 ∨ m = 2 := by omega
  all_goals rfl
theorem steps_arg (i j : Nat) (h1 : 1 ≤ j) (h : j ≤ argN i) : (stepsI i)[j]?.getD 0 = j := by
  have := argN_le i
  unfold stepsI
  generalize argN i = m at *
  obtain rfl | rfl | rfl : m = 0 ∨ m = 1 ∨ m = 2 := by omega
  · omega
  · obtain rfl : j = 1 := by omega
    rfl
  · obtain rfl | rfl : j = 1 ∨ j = 2 := by omega
    all_goals rfl
theorem steps_arrow (i : Nat) : (stepsI i)[argN i + 1]?.getD 0 = 3 := by
  have := argN_le i
  unfold stepsI
  generalize argN i = m at *
  obtain rfl | rfl | rfl : m = 0 ∨ m = 1 ∨ m = 2 := by omega
  all_goals rfl
theorem steps_last (i : Nat) : (stepsI i)[argN i + 2]?.getD 0 = 4 := by
  have := argN_le i
  unfold stepsI
  generalize argN i = m at *
  obtain rfl | rfl | rfl : m = 0 ∨ m = 1 ∨ m = 2 := by omega
  all_goals rfl

theorem take_none : takeP 0 [] st1 = (0, 5, st1) := rfl
theorem take_noword (s : ByteArray) (r : List ByteArray) (h : wordI s = none) : (takeP 0 (s :: r) st1).1 = 0 ∧ (takeP 0 (s :: r) st1).2.1 = 6 := by
  have e : stepE 0 s = 6 := by show errOf (wordI s) = 6; rw [h]; rfl
  have e2 : takeP 0 (s :: r) st1 = (0, stepE 0 s, stepS 0 s st1) := by
    unfold takeP
    rw [if_neg (by decide), if_neg (by rw [show (st1.steps[0]?.getD 0) = 0 from rfl, e]; decide)]
    rfl
  rw [e2, e]
  exact ⟨rfl, rfl⟩
theorem take_word (s : ByteArray) (r : List ByteArray) (i : Nat) (h : wordI s = some i) : takeP 0 (s :: r) st1 = takeP 1 r (stI i 0 0 0 0) := by
  have e : stepE 0 s = 0 := by show errOf (wordI s) = 0; rw [h]; rfl
  have e3 : stepS 0 s st1 = stI i 0 0 0 0 := by show kindSt s st1 = _; unfold kindSt; rw [h]; rfl
  conv => lhs; unfold takeP
  rw [if_neg (by decide), show (st1.steps[0]?.getD 0) = 0 from rfl, if_pos e, e3]

theorem fill_zero {s : ByteArray} {e : Int} (h : getB s = true) : fillE s e = 0 := by
  unfold getB at h
  unfold fillE
  rw [if_pos (by simpa using h)]
theorem fill_not {s : ByteArray} {e : Int} (h : getB s = false) : fillE s e = e := by
  unfold getB at h
  unfold fillE
  rw [if_neg (by simpa using h)]
theorem getB_iff {s : ByteArray} (h : getB s = true) : getE s.data.toList = 0 := by unfold getB at h; simpa using h

theorem take_step (i j : Nat) (a b k n : Int) (s : ByteArray) (r : List ByteArray) (hj : j < argN i + 3) (c : Nat) (hc : (stepsI i)[j]?.getD 0 = c) :
    takeP j (s :: r) (stI i a b k n) = if stepE c s = 0 then takeP (j + 1) r (stepS c s (stI i a b k n)) else (j, stepE c s, stepS c s (stI i a b k n)) := by
  conv => lhs; unfold takeP
  have e : (stI i a b k n).steps = stepsI i := rfl
  rw [e, steps_len, if_neg (by omega), hc]
theorem take_A (i : Nat) (a b k n : Int) (s : ByteArray) (r : List ByteArray) (h : 1 ≤ argN i) (hb : getB s = true) : takeP 1 (s :: r) (stI i a b k n) = takeP 2 r (stI i (getN s.data.toList) b k n) := by
  rw [take_step i 1 a b k n s r (by omega) 1 (steps_arg i 1 (by omega) h), if_pos (show stepE 1 s = 0 from fill_zero hb)]
  congr 1
  show stA s (stI i a b k n) = _
  unfold stA
  rw [if_pos (getB_iff hb)]
  rfl
theorem take_B (i : Nat) (a b k n : Int) (s : ByteArray) (r : List ByteArray) (h : 2 ≤ argN i) (hb : getB s = true) : takeP 2 (s :: r) (stI i a b k n) = takeP 3 r (stI i a (getN s.data.toList) k n) := by
  rw [take_step i 2 a b k n s r (by omega) 2 (steps_arg i 2 (by omega) h), if_pos (show stepE 2 s = 0 from fill_zero hb)]
  congr 1
  show stB s (stI i a b k n) = _
  unfold stB
  rw [if_pos (getB_iff hb)]
  rfl
theorem take_arg_bad (i j : Nat) (a b k n : Int) (s : ByteArray) (r : List ByteArray) (h1 : 1 ≤ j) (h : j ≤ argN i) (hb : getB s = false) : (takeP j (s :: r) (stI i a b k n)).1 = j ∧ (takeP j (s :: r) (stI i a b k n)).2.1 = 5 := by
  have h2 := argN_le i
  rw [take_step i j a b k n s r (by omega) j (steps_arg i j h1 h)]
  have e : stepE j s = 5 := by
    obtain rfl | rfl : j = 1 ∨ j = 2 := by omega
    · exact fill_not hb
    · exact fill_not hb
  rw [e, if_neg (by decide)]
  exact ⟨rfl, rfl⟩
theorem take_arr (i : Nat) (a b k n : Int) (s : ByteArray) (r : List ByteArray) (hb : (s == arrB) = true) : takeP (argN i + 1) (s :: r) (stI i a b k n) = takeP (argN i + 2) r (stI i a b k n) := by
  rw [take_step i _ a b k n s r (by omega) 3 (steps_arrow i), if_pos (show stepE 3 s = 0 by show arrE s = 0; unfold arrE; rw [if_pos hb])]
  rfl
theorem take_arr_bad (i : Nat) (a b k n : Int) (s : ByteArray) (r : List ByteArray) (hb : (s == arrB) = false) : (takeP (argN i + 1) (s :: r) (stI i a b k n)).1 = argN i + 1 ∧ (takeP (argN i + 1) (s :: r) (stI i a b k n)).2.1 = 5 := by
  have e : stepE 3 s = 5 := by show arrE s = 5; unfold arrE; rw [hb]; rfl
  rw [take_step i _ a b k n s r (by omega) 3 (steps_arrow i), e, if_neg (by decide)]
  exact ⟨rfl, rfl⟩
theorem res_zero {s : ByteArray} (h : rtB s = true) : resE s = 0 := by
  unfold rtB at h
  unfold resE
  split
  · rfl
  · rename_i h1
    rw [if_neg h1] at h
    split
    · rfl
    · rename_i h2
      rw [if_neg h2] at h
      exact fill_zero h
theorem res_not {s : ByteArray} (h : rtB s = false) : resE s = 9 := by
  unfold rtB at h
  unfold resE
  split
  · rename_i h1
    rw [if_pos h1] at h; cases h
  · rename_i h1
    rw [if_neg h1] at h
    split
    · rename_i h2
      rw [if_pos h2] at h; cases h
    · rename_i h2
      rw [if_neg h2] at h
      exact fill_not h
theorem take_ret (i : Nat) (a b : Int) (s : ByteArray) (r : List ByteArray) (hb : rtB s = true) : takeP (argN i + 2) (s :: r) (stI i a b 0 0) = takeP (argN i + 3) r (stI i a b (rtK s) (rtN s)) := by
  rw [take_step i _ a b 0 0 s r (by omega) 4 (steps_last i), if_pos (show stepE 4 s = 0 from res_zero hb)]
  congr 1
  show stR s (stI i a b 0 0) = _
  unfold stR rtK rtN
  unfold rtB at hb
  split
  · rfl
  · rename_i h1
    rw [if_neg h1] at hb
    split
    · rfl
    · rename_i h2
      rw [if_neg h2] at hb
      unfold stN
      rw [if_pos (getB_iff hb)]
      rfl
theorem take_ret_bad (i : Nat) (a b k n : Int) (s : ByteArray) (r : List ByteArray) (hb : rtB s = false) : (takeP (argN i + 2) (s :: r) (stI i a b k n)).1 = argN i + 2 ∧ (takeP (argN i + 2) (s :: r) (stI i a b k n)).2.1 = 9 := by
  have e : stepE 4 s = 9 := res_not hb
  rw [take_step i _ a b k n s r (by omega) 4 (steps_last i), e, if_neg (by decide)]
  exact ⟨rfl, rfl⟩
theorem take_short (i j : Nat) (a b k n : Int) (h : j ≠ argN i + 3) : takeP j [] (stI i a b k n) = (j, 5, stI i a b k n) := by
  unfold takeP
  rw [show (stI i a b k n).steps = stepsI i from rfl, steps_len, if_neg h]
theorem take_full (i : Nat) (a b k n : Int) : takeP (argN i + 3) [] (stI i a b k n) = (argN i + 3, 0, stI i a b k n) := by
  unfold takeP
  rw [show (stI i a b k n).steps = stepsI i from rfl, steps_len, if_pos rfl]
theorem take_over (i : Nat) (a b k n : Int) (s : ByteArray) (r : List ByteArray) : takeP (argN i + 3) (s :: r) (stI i a b k n) = (argN i + 3, 5, stI i a b k n) := by
  unfold takeP
  rw [show (stI i a b k n).steps = stepsI i from rfl, steps_len, if_pos rfl]

theorem readR_bad {x : Nat × Int × op_St} {len : Nat} {p e : Int} (h1 : (x.1 : Int) = p) (h2 : x.2.1 = e) (he : e ≠ 0) : readR x len = ((0, 0, 0, 0, 0), p, e) := by
  unfold readR
  rw [if_neg (by rw [h2]; exact he), h1, h2]
theorem readR_done (i : Nat) (a b k n : Int) (len : Nat) (j : Nat) : readR (j, 0, stI i a b k n) len = if checkI i a b k n = 0 then (((i : Int) + 1, a, b, k, n), 0, 0) else if checkI i a b k n = 2 then ((0, 0, 0, 0, 0), 1, 2) else ((0, 0, 0, 0, 0), (len : Int) - 1, checkI i a b k n) := by
  unfold readR stI
  simp
end Go.Proofs.YtakbphjdfgidmaaGreatDoor

namespace Go.Proofs.YtakbphjdfgidmaaGreatDoor
open Go.RowKit Go.Maps
set_option linter.unusedVariables false

/-- What the loop has: the result's cells, the kind's, the operation's, the arguments'. -/
structure RS (w W : World) (B : Nat) (i : Nat) (a b k n : Int) : Prop where
  z : Holds W w.heap.size 33 #[.int .i64 0, .int .i64 0, .int .i64 0, .int .i64 0, .int .i64 0]
  kn : Holds W B 98 #[.int .i64 (objN i), .int .i64 (argN i), .int .i64 (rR i), .string (op_wordB i)]
  op : Holds W (B + 1) 33 #[.int .i64 ((i : Int) + 1), .int .i64 0, .int .i64 0, .int .i64 k, .int .i64 n]
  ar : Holds W (B + 2) 154 #[.int .i64 a, .int .i64 b]
  bel : Below w.heap.size w W
  hB : w.heap.size < B
theorem RS.below {w W W' : World} {B i : Nat} {a b k n : Int} (h : RS w W B i a b k n) (hb : Below W.heap.size W W') : RS w W' B i a b k n :=
  ⟨h.z.below hb h.z.lt, h.kn.below hb h.kn.lt, h.op.below hb h.op.lt, h.ar.below hb h.ar.lt, nxt h.bel hb h.bel.size, h.hB⟩
theorem RS.setA {w W : World} {B i : Nat} {a b k n : Int} (h : RS w W B i a b k n) (x : Int) : RS w (W.setCell ⟨B + 2, 0, none⟩ (.int .i64 x)) B i x b k n := by
  have hB := h.hB
  exact ⟨h.z.of (Below.heap_setCell _ _ _ _ (by show w.heap.size ≠ B + 2; omega)), h.kn.of (Below.heap_setCell _ _ _ _ (by show B ≠ B + 2; omega)), h.op.of (Below.heap_setCell _ _ _ _ (by show B + 1 ≠ B + 2; omega)), h.ar.set 0 _, h.bel.setCell (by show w.heap.size ≤ B + 2; omega) _, h.hB⟩
theorem RS.setB {w W : World} {B i : Nat} {a b k n : Int} (h : RS w W B i a b k n) (x : Int) : RS w (W.setCell ⟨B + 2, 1, none⟩ (.int .i64 x)) B i a x k n := by
  have hB := h.hB
  exact ⟨h.z.of (Below.heap_setCell _ _ _ _ (by show w.heap.size ≠ B + 2; omega)), h.kn.of (Below.heap_setCell _ _ _ _ (by show B ≠ B + 2; omega)), h.op.of (Below.heap_setCell _ _ _ _ (by show B + 1 ≠ B + 2; omega)), h.ar.set 1 _, h.bel.setCell (by show w.heap.size ≤ B + 2; omega) _, h.hB⟩
theorem RS.setR {w W : World} {B i : Nat} {a b k n : Int} (h : RS w W B i a b k n) (x y : Int) : RS w ((W.setCell ⟨B + 1, 3, none⟩ (.int .i64 x)).setCell ⟨B + 1, 4, none⟩ (.int .i64 y)) B i a b x y := by
  have hB := h.hB
  have e : ∀ C, C ≠ B + 1 → ((W.setCell ⟨B + 1, 3, none⟩ (.int .i64 x)).setCell ⟨B + 1, 4, none⟩ (.int .i64 y)).heap[C]? = W.heap[C]? := fun C hC => (Below.heap_setCell _ _ _ _ hC).trans (Below.heap_setCell _ _ _ _ hC)
  have h4 : Holds (W.setCell ⟨B + 1, 3, none⟩ (.int .i64 x)) (B + 1) 33 #[.int .i64 ((i : Int) + 1), .int .i64 0, .int .i64 0, .int .i64 x, .int .i64 n] := h.op.set 3 _
  exact ⟨h.z.of (e _ (by omega)), h.kn.of (e _ (by omega)), h4.set 4 _, h.ar.of (e _ (by omega)), (h.bel.setCell (by show w.heap.size ≤ B + 1; omega) _).setCell (by show w.heap.size ≤ B + 1; omega) _, h.hB⟩
theorem RS.new (w w2 : World) (i : Nat) (hb : Below (w.heap.size + 1) (w.alloc (.cells #[.int .i64 0, .int .i64 0, .int .i64 0, .int .i64 0, .int .i64 0] 33)) w2) :
    RS w (((w2.alloc (.cells #[.int .i64 (objN i), .int .i64 (argN i), .int .i64 (rR i), .string (op_wordB i)] 98)).alloc (.cells #[.int .i64 ((i : Int) + 1), .int .i64 0, .int .i64 0, .int .i64 0, .int .i64 0] 33)).alloc (.cells #[.int .i64 0, .int .i64 0] 154)) w2.heap.size i 0 0 0 0 := by
  have hs := hb.size
  rw [World.size_alloc] at hs
  have hz := (Holds.new w 33 #[.int .i64 0, .int .i64 0, .int .i64 0, .int .i64 0, .int .i64 0]).below hb (by omega)
  have h1 := Holds.new (w2.alloc (.cells #[.int .i64 (objN i), .int .i64 (argN i), .int .i64 (rR i), .string (op_wordB i)] 98)) 33 #[.int .i64 ((i : Int) + 1), .int .i64 0, .int .i64 0, .int .i64 0, .int .i64 0]
  have h2 := Holds.new ((w2.alloc (.cells #[.int .i64 (objN i), .int .i64 (argN i), .int .i64 (rR i), .string (op_wordB i)] 98)).alloc (.cells #[.int .i64 ((i : Int) + 1), .int .i64 0, .int .i64 0, .int .i64 0, .int .i64 0] 33)) 154 #[.int .i64 0, .int .i64 0]
  simp only [World.size_alloc] at h1 h2
  refine ⟨((hz.alloc _).alloc _).alloc _, ((Holds.new w2 _ _).alloc _).alloc _, h1.alloc _, h2, ?_, by omega⟩
  have hb0 : Below w.heap.size w w2 := nxt ((Below.refl _ _).alloc (Nat.le_refl _) _) hb (by omega)
  exact ((hb0.alloc hb0.size _).alloc (by simp; omega) _).alloc (by simp; omega) _
end Go.Proofs.YtakbphjdfgidmaaGreatDoor

namespace Go.Proofs.YtakbphjdfgidmaaGreatDoor
open Go.RowKit Go.Maps
set_option linter.unusedVariables false

theorem res_below {w W : World} (h : Below w.heap.size w W) (u0 u1 u2 u3 u4 : Value) : Below w.heap.size w (((((W.setCell ⟨w.heap.size, 0, none⟩ u0).setCell ⟨w.heap.size, 1, none⟩ u1).setCell ⟨w.heap.size, 2, none⟩ u2).setCell ⟨w.heap.size, 3, none⟩ u3).setCell ⟨w.heap.size, 4, none⟩ u4) := by
  refine Below.setCell (Below.setCell (Below.setCell (Below.setCell (Below.setCell h ?_ _) ?_ _) ?_ _) ?_ _) ?_ _
  all_goals exact Nat.le_refl _

set_option maxRecDepth 100000 in
set_option maxHeartbeats 8000000 in
theorem op_rread_any (A : Option Addr) (c : Nat) (ws : List ByteArray) (w : World) (hA : Strs w.heap.size w A ws) (hm : ws.length ≤ 8000) (hz : ∀ s ∈ ws, s.size ≤ maxLen) :
    Calls Tryz.prog 109 #[.slice A ws.length c] w (Says (resV (readP ws)) w) := by
  have HRP : Hid (readP ws = readR (takeP 0 ws st1) ws.length) := Lib.hid rfl
  generalize readP ws = rp at HRP ⊢
  have HA := Lib.hid hA
  have HZ := Lib.hid hz
  clear hA hz
  by_cases h0 : ws.length = 0
  · have hw0 : ws = [] := List.length_eq_zero_iff.1 h0
    have HR2 : Hid (rp = ((0, 0, 0, 0, 0), 0, 5)) := Lib.hid (by rw [HRP.out, hw0]; rfl)
    clear HRP HA HZ hm
    subst hw0
    go_enter Tryz.func109, Tryz.ntmps109
    go_wp2
    refine bodyPost_ret (v := .tuple #[.agg #[.int .i64 0, .int .i64 0, .int .i64 0, .int .i64 0, .int .i64 0], .int .i64 0, .int .i64 5]) (by simp [results, Tryz.f109, go_sem]) rfl ?_
    rw [HR2.out]
    exact ⟨rfl, (Below.refl _ _).alloc (Nat.le_refl _) _⟩
  · have n0 : ((ws.length : Int) == 0) = false := beq_eq_false_iff_ne.2 (by omega)
    have hlt0 : 0 < ws.length := by omega
    have hBz : Below w.heap.size w (w.alloc (.cells #[.int .i64 0, .int .i64 0, .int .i64 0, .int .i64 0, .int .i64 0] 33)) := (Below.refl _ _).alloc (Nat.le_refl _) _
    obtain ⟨b, off, rfl, hb, hc⟩ := HA.out.below hBz hlt0
    have c0 := hc 0 hlt0
    rw [Nat.add_zero] at c0
    obtain ⟨s0, hs0⟩ : ∃ s0, ws[0]?.getD ⟨#[]⟩ = s0 := ⟨_, rfl⟩
    rw [hs0] at c0
    have HWS : Hid (ws = s0 :: ws.drop 1) := Lib.hid (by
      cases ws with
      | nil => simp at h0
      | cons x r => simp at hs0; rw [hs0]; rfl)
    have HK := fun W => rkind_any s0 W
    have HZZ := Lib.hid (Holds.new w 33 #[.int .i64 0, .int .i64 0, .int .i64 0, .int .i64 0, .int .i64 0])
    have l1 : (0 : Int) < (ws.length : Int) := by omega
    clear hc hs0
    cases ho : wordI s0 with
    | none =>
      rw [ho] at HK
      simp only [kindO, errOf] at HK
      have HR2 : Hid (rp = ((0, 0, 0, 0, 0), 0, 6)) := Lib.hid (by
        rw [HRP.out]
        have ht := take_noword s0 (ws.drop 1) ho
        rw [← HWS.out] at ht
        exact readR_bad (by rw [ht.1]; rfl) ht.2 (by decide))
      clear HRP ho HWS
      go_enter Tryz.func109, Tryz.ntmps109
      go_wp2_with fail
      refine (HK _).mono ?_
      rintro e w1 ⟨rfl, hB1⟩
      have hZ1 := HZZ.out.below hB1 (by simp)
      have z0 := hZ1.c (j := 0) rfl
      have z1 := hZ1.c (j := 1) rfl
      have z2 := hZ1.c (j := 2) rfl
      have z3 := hZ1.c (j := 3) rfl
      have z4 := hZ1.c (j := 4) rfl
      have f0 := hZ1.frozen 0
      have f1 := hZ1.frozen 1
      have f2 := hZ1.frozen 2
      have f3 := hZ1.frozen 3
      have f4 := hZ1.frozen 4
      go_wp2
      refine bodyPost_ret (v := .tuple #[.agg #[.int .i64 0, .int .i64 0, .int .i64 0, .int .i64 0, .int .i64 0], .int .i64 0, .int .i64 6]) (by simp [results, Tryz.f109, go_sem, z0, z1, z2, z3, z4]) rfl ?_
      rw [HR2.out]
      refine ⟨rfl, ?_⟩
      refine Below.setCell (Below.setCell (Below.setCell (Below.setCell (Below.setCell (nxt hBz hB1 (by simp)) ?_ _) ?_ _) ?_ _) ?_ _) ?_ _
      all_goals exact Nat.le_refl _
    | some i =>
      rw [ho] at HK
      simp only [kindO, errOf] at HK
      have hi := (wordI_lt ho).1
      have HTK : Hid (takeP 0 ws st1 = takeP 1 (ws.drop 1) (stI i 0 0 0 0)) := Lib.hid (by
        have := take_word s0 (ws.drop 1) i ho
        rwa [← HWS.out] at this)
      have HF : ∀ W, Calls Tryz.prog 63 #[.int .i64 ((i : Int) + 1)] W fun e w' => e = .returned (.tuple #[.agg #[.int .i64 (objN i), .int .i64 (argN i), .int .i64 (rR i), .string (op_wordB i)], .bool true]) ∧ Below W.heap.size W w' := fun W => by
        have := rof_any ((i : Int) + 1) W
        rw [kindI_in i hi] at this
        exact this
      clear ho HWS
      go_enter Tryz.func109, Tryz.ntmps109
      go_wp2_with fail
      refine (HK _).mono ?_
      rintro e w1 ⟨rfl, hB1⟩
      go_wp2_with fail
      refine (HF _).mono ?_
      rintro e w2 ⟨rfl, hB2⟩
      have hb2 : Below (w.heap.size + 1) (w.alloc (.cells #[.int .i64 0, .int .i64 0, .int .i64 0, .int .i64 0, .int .i64 0] 33)) w2 := by
        have h1 := hB1
        rw [World.size_alloc] at h1
        exact nxt h1 hB2 (by have := hB1.size; rw [World.size_alloc] at this; exact this)
      have hRS := RS.new w w2 i hb2
      have hml := argN_le i
      have hkc := hRS.kn.c (j := 1) rfl
      have HRS := Lib.hid hRS
      clear hB1 hB2 HK HF hRS
      go_wp2_with fail
      obtain ⟨W3, hW3⟩ : ∃ W3, W3 = (((w2.alloc (.cells #[.int .i64 (objN i), .int .i64 (argN i), .int .i64 (rR i), .string (op_wordB i)] 98)).alloc (.cells #[.int .i64 ((i : Int) + 1), .int .i64 0, .int .i64 0, .int .i64 0, .int .i64 0] 33)).alloc (.cells #[.int .i64 0, .int .i64 0] 154)) := ⟨_, rfl⟩
      rw [← hW3] at HRS ⊢
      obtain ⟨B, hB⟩ : ∃ B, w2.heap.size = B := ⟨_, rfl⟩
      rw [hB] at HRS ⊢
      clear hW3 hB hb2 hkc hBz HZZ c0
      obtain ⟨m, hmm⟩ : ∃ m, argN i = m := ⟨_, rfl⟩
      have HM := Lib.hid hmm
      rw [hmm] at hml ⊢
      clear hmm
      go_loopw [12] (fun i12 wr => ∃ (j : Nat) (a b k n : Int), 1 ≤ j ∧ j ≤ ws.length ∧ j ≤ m + 3 ∧ i12 = .int .i64 j ∧ RS w wr B i a b k n ∧ takeP 0 ws st1 = takeP j (ws.drop j) (stI i a b k n) ∧ (j ≤ m + 2 → k = 0 ∧ n = 0)) (fun i12 wr => ws.length + 1 - (intOf i12).toNat)
      case atStart => exact ⟨1, 0, 0, 0, 0, Nat.le_refl _, by omega, by omega, rfl, HRS.out, HTK.out, fun _ => ⟨rfl, rfl⟩⟩
      case round =>
        obtain ⟨j, a, b2, k, n, hj1, hjl, hjm, rfl, hR, heq, hkn⟩ := hrel
        have HE := Lib.hid heq
        have HKN := Lib.hid hkn
        have HRr := Lib.hid hR
        have kc : wr.cell? ⟨B, 1, none⟩ = some (.int .i64 m) := by
          have := hR.kn.c (j := 1) rfl
          rw [HM.out] at this
          exact this
        clear heq hkn
        by_cases hgo : j < ws.length ∧ j ≤ m + 2
        · obtain ⟨hlt, hle⟩ := hgo
          obtain ⟨b', off', he', hb', hc'⟩ := HA.out.below hR.bel (by omega)
          injection he' with he'
          injection he' with he1 he2
          subst he1 he2
          have cj := hc' j hlt
          have hsz : (ws[j]?.getD ⟨#[]⟩).size ≤ maxLen := by
            rw [List.getElem?_eq_getElem hlt]; exact HZ.out _ (List.getElem_mem hlt)
          have hdr : ws.drop j = (ws[j]?.getD ⟨#[]⟩) :: ws.drop (j + 1) := by
            rw [List.getElem?_eq_getElem hlt]
            exact List.drop_eq_getElem_cons hlt
          obtain ⟨s, hs⟩ : ∃ s, ws[j]?.getD ⟨#[]⟩ = s := ⟨_, rfl⟩
          rw [hs] at cj hsz hdr
          rw [hdr] at HE
          have q1 : decide (j < ws.length) = true := decide_eq_true hlt
          have q2 : decide ((j : Int) ≤ (m : Int) + 2) = true := decide_eq_true (by omega)
          have q5 : (0 : Int) ≤ (j : Int) := by omega
          have q6 : (j : Int) < (ws.length : Int) := by omega
          clear hc' hs hdr hR
          by_cases ha : j ≤ m
          · have HN := fun W => rnumber_any s W hsz
            have HGB : Hid (getB s = getB s) := Lib.hid rfl
            have q3 : decide (j ≤ m) = true := decide_eq_true ha
            have q4 : ((j : Int) == (m : Int) + 2) = false := beq_eq_false_iff_ne.2 (by omega)
            obtain ⟨x, hx⟩ : ∃ x, getN s.data.toList = x := ⟨_, rfl⟩
            rw [hx] at HN
            have HX := Lib.hid hx
            clear hx
            cases hg : getB s with
            | false =>
              rw [hg] at HN
              have hbad := take_arg_bad i j a b2 k n s (ws.drop (j + 1)) hj1 (by rw [HM.out]; exact ha) hg
              rw [← HE.out] at hbad
              have HR2 : Hid (rp = ((0, 0, 0, 0, 0), (j : Int), 5)) := Lib.hid (by rw [HRP.out]; exact readR_bad (by rw [hbad.1]) hbad.2 (by decide))
              clear hbad HE HRP
              obtain rfl | rfl : j = 1 ∨ j = 2 := by omega
              · go_wp2_with fail
                refine (HN _).mono ?_
                rintro e w4 ⟨rfl, hB4⟩
                have hR4 := HRr.out.below hB4
                have a0 : w4.cell? ⟨B + 1 + 1, 0, none⟩ = some (.int .i64 a) := hR4.ar.c (j := 0) rfl
                have g0 : w4.frozen? ⟨B + 1 + 1, 0, none⟩ = false := hR4.ar.frozen 0
                have hR5 := hR4.setA x
                have z0 : w4.cell? ⟨w.heap.size, 0, none⟩ = some (.int .i64 0) := hR4.z.c (j := 0) rfl
                have z1 : w4.cell? ⟨w.heap.size, 1, none⟩ = some (.int .i64 0) := hR4.z.c (j := 1) rfl
                have z2 : w4.cell? ⟨w.heap.size, 2, none⟩ = some (.int .i64 0) := hR4.z.c (j := 2) rfl
                have z3 : w4.cell? ⟨w.heap.size, 3, none⟩ = some (.int .i64 0) := hR4.z.c (j := 3) rfl
                have z4 : w4.cell? ⟨w.heap.size, 4, none⟩ = some (.int .i64 0) := hR4.z.c (j := 4) rfl
                have f0 := hR4.z.frozen 0
                have f1 := hR4.z.frozen 1
                have f2 := hR4.z.frozen 2
                have f3 := hR4.z.frozen 3
                have f4 := hR4.z.frozen 4
                have HBe := Lib.hid (res_below hR5.bel)
                have hwB := hR4.hB
                have hne0 : w.heap.size ≠ B + 1 := by omega
                have hne1 : w.heap.size ≠ B + 1 + 1 := by omega
                clear hR4 hR5
                go_wp2
                refine bodyPost_ret (v := .tuple #[.agg #[.int .i64 0, .int .i64 0, .int .i64 0, .int .i64 0, .int .i64 0], .int .i64 1, .int .i64 5]) (by simp [results, Tryz.f109, go_sem, z0, z1, z2, z3, z4]) rfl ?_
                rw [HR2.out]
                exact ⟨rfl, HBe.out _ _ _ _ _⟩
              · go_wp2_with fail
                refine (HN _).mono ?_
                rintro e w4 ⟨rfl, hB4⟩
                have hR4 := HRr.out.below hB4
                have a1 : w4.cell? ⟨B + 1 + 1, 1, none⟩ = some (.int .i64 b2) := hR4.ar.c (j := 1) rfl
                have g1 : w4.frozen? ⟨B + 1 + 1, 1, none⟩ = false := hR4.ar.frozen 1
                have hR5 := hR4.setB x
                have z0 : w4.cell? ⟨w.heap.size, 0, none⟩ = some (.int .i64 0) := hR4.z.c (j := 0) rfl
                have z1 : w4.cell? ⟨w.heap.size, 1, none⟩ = some (.int .i64 0) := hR4.z.c (j := 1) rfl
                have z2 : w4.cell? ⟨w.heap.size, 2, none⟩ = some (.int .i64 0) := hR4.z.c (j := 2) rfl
                have z3 : w4.cell? ⟨w.heap.size, 3, none⟩ = some (.int .i64 0) := hR4.z.c (j := 3) rfl
                have z4 : w4.cell? ⟨w.heap.size, 4, none⟩ = some (.int .i64 0) := hR4.z.c (j := 4) rfl
                have f0 := hR4.z.frozen 0
                have f1 := hR4.z.frozen 1
                have f2 := hR4.z.frozen 2
                have f3 := hR4.z.frozen 3
                have f4 := hR4.z.frozen 4
                have HBe := Lib.hid (res_below hR5.bel)
                have hwB := hR4.hB
                have hne0 : w.heap.size ≠ B + 1 := by omega
                have hne1 : w.heap.size ≠ B + 1 + 1 := by omega
                clear hR4 hR5
                go_wp2
                refine bodyPost_ret (v := .tuple #[.agg #[.int .i64 0, .int .i64 0, .int .i64 0, .int .i64 0, .int .i64 0], .int .i64 2, .int .i64 5]) (by simp [results, Tryz.f109, go_sem, z0, z1, z2, z3, z4]) rfl ?_
                rw [HR2.out]
                exact ⟨rfl, HBe.out _ _ _ _ _⟩
            | true =>
              rw [hg] at HN
              obtain rfl | rfl : j = 1 ∨ j = 2 := by omega
              · have hok := take_A i a b2 k n s (ws.drop 2) (by rw [HM.out]; exact ha) hg
                rw [HX.out] at hok
                have HOK := Lib.hid (HE.out.trans hok)
                clear hok
                go_wp2_with fail
                refine (HN _).mono ?_
                rintro e w4 ⟨rfl, hB4⟩
                have hR4 := HRr.out.below hB4
                have a0 : w4.cell? ⟨B + 1 + 1, 0, none⟩ = some (.int .i64 a) := hR4.ar.c (j := 0) rfl
                have g0 : w4.frozen? ⟨B + 1 + 1, 0, none⟩ = false := hR4.ar.frozen 0
                have HR5 := Lib.hid (hR4.setA x)
                clear hR4
                go_wp2
                exact ⟨⟨2, x, b2, k, n, by omega, by omega, by omega, by go_num, HR5.out, HOK.out, fun _ => HKN.out (by omega)⟩, by simp [intOf]; omega⟩
              · have hok := take_B i a b2 k n s (ws.drop 3) (by rw [HM.out]; exact ha) hg
                rw [HX.out] at hok
                have HOK := Lib.hid (HE.out.trans hok)
                clear hok
                go_wp2_with fail
                refine (HN _).mono ?_
                rintro e w4 ⟨rfl, hB4⟩
                have hR4 := HRr.out.below hB4
                have a1 : w4.cell? ⟨B + 1 + 1, 1, none⟩ = some (.int .i64 b2) := hR4.ar.c (j := 1) rfl
                have g1 : w4.frozen? ⟨B + 1 + 1, 1, none⟩ = false := hR4.ar.frozen 1
                have HR5 := Lib.hid (hR4.setB x)
                clear hR4
                go_wp2
                exact ⟨⟨3, a, x, k, n, by omega, by omega, by omega, by go_num, HR5.out, HOK.out, fun _ => HKN.out (by omega)⟩, by simp [intOf]; omega⟩
          · have q3 : decide (j ≤ m) = false := decide_eq_false ha
            by_cases hr : j = m + 1
            · have q4 : ((j : Int) == (m : Int) + 2) = false := beq_eq_false_iff_ne.2 (by omega)
              have HJ := Lib.hid hr
              clear hr ha
              cases hg : (s == arrB) with
              | false =>
                have hbad := take_arr_bad i a b2 k n s (ws.drop (j + 1)) hg
                rw [HM.out, ← HJ.out, ← HE.out] at hbad
                have HR2 : Hid (rp = ((0, 0, 0, 0, 0), (j : Int), 5)) := Lib.hid (by rw [HRP.out]; exact readR_bad (by rw [hbad.1]) hbad.2 (by decide))
                rw [beq_toListBytes, arrB_list] at hg
                clear hbad HE HRP
                have hR5 := HRr.out
                have z0 : wr.cell? ⟨w.heap.size, 0, none⟩ = some (.int .i64 0) := hR5.z.c (j := 0) rfl
                have z1 : wr.cell? ⟨w.heap.size, 1, none⟩ = some (.int .i64 0) := hR5.z.c (j := 1) rfl
                have z2 : wr.cell? ⟨w.heap.size, 2, none⟩ = some (.int .i64 0) := hR5.z.c (j := 2) rfl
                have z3 : wr.cell? ⟨w.heap.size, 3, none⟩ = some (.int .i64 0) := hR5.z.c (j := 3) rfl
                have z4 : wr.cell? ⟨w.heap.size, 4, none⟩ = some (.int .i64 0) := hR5.z.c (j := 4) rfl
                have f0 := hR5.z.frozen 0
                have f1 := hR5.z.frozen 1
                have f2 := hR5.z.frozen 2
                have f3 := hR5.z.frozen 3
                have f4 := hR5.z.frozen 4
                have HBe := Lib.hid (res_below hR5.bel)
                clear hR5
                go_wp2
                refine bodyPost_ret (v := .tuple #[.agg #[.int .i64 0, .int .i64 0, .int .i64 0, .int .i64 0, .int .i64 0], .int .i64 j, .int .i64 5]) (by simp [results, Tryz.f109, go_sem, z0, z1, z2, z3, z4]) rfl ?_
                rw [HR2.out]
                exact ⟨rfl, HBe.out _ _ _ _ _⟩
              | true =>
                have hok := take_arr i a b2 k n s (ws.drop (j + 1)) hg
                rw [HM.out, ← HJ.out] at hok
                have HOK := Lib.hid (HE.out.trans hok)
                rw [beq_toListBytes, arrB_list] at hg
                clear hok
                go_wp2
                exact ⟨⟨j + 1, a, b2, k, n, by omega, by omega, by omega, by go_num, HRr.out, by rw [HOK.out, HJ.out], fun _ => HKN.out (by omega)⟩, by simp [intOf]; omega⟩
            · have hj2 : j = m + 2 := by omega
              have q4 : ((j : Int) == (m : Int) + 2) = true := by rw [hj2]; simp
              have HJ := Lib.hid hj2
              clear hj2 ha hr
              obtain ⟨rfl, rfl⟩ := HKN.out (by omega)
              have HT := fun W => rreturns_any s W hsz
              obtain ⟨x, hx⟩ : ∃ x, rtK s = x := ⟨_, rfl⟩
              obtain ⟨y, hy⟩ : ∃ y, rtN s = y := ⟨_, rfl⟩
              rw [hx, hy] at HT
              have HX := Lib.hid hx
              have HY := Lib.hid hy
              clear hx hy
              cases hg : rtB s with
              | false =>
                rw [hg] at HT
                have hbad := take_ret_bad i a b2 0 0 s (ws.drop (j + 1)) hg
                rw [HM.out, ← HJ.out, ← HE.out] at hbad
                have HR2 : Hid (rp = ((0, 0, 0, 0, 0), (j : Int), 9)) := Lib.hid (by rw [HRP.out]; exact readR_bad (by rw [hbad.1]) hbad.2 (by decide))
                clear hbad HE HRP
                go_wp2_with fail
                refine (HT _).mono ?_
                rintro e w4 ⟨rfl, hB4⟩
                have hR4 := HRr.out.below hB4
                have a3 : w4.cell? ⟨B + 1, 3, none⟩ = some (.int .i64 0) := hR4.op.c (j := 3) rfl
                have a4 : w4.cell? ⟨B + 1, 4, none⟩ = some (.int .i64 0) := hR4.op.c (j := 4) rfl
                have g3 : w4.frozen? ⟨B + 1, 3, none⟩ = false := hR4.op.frozen 3
                have g4 : w4.frozen? ⟨B + 1, 4, none⟩ = false := hR4.op.frozen 4
                have hR5 := hR4.setR x y
                have z0 : w4.cell? ⟨w.heap.size, 0, none⟩ = some (.int .i64 0) := hR4.z.c (j := 0) rfl
                have z1 : w4.cell? ⟨w.heap.size, 1, none⟩ = some (.int .i64 0) := hR4.z.c (j := 1) rfl
                have z2 : w4.cell? ⟨w.heap.size, 2, none⟩ = some (.int .i64 0) := hR4.z.c (j := 2) rfl
                have z3 : w4.cell? ⟨w.heap.size, 3, none⟩ = some (.int .i64 0) := hR4.z.c (j := 3) rfl
                have z4 : w4.cell? ⟨w.heap.size, 4, none⟩ = some (.int .i64 0) := hR4.z.c (j := 4) rfl
                have f0 := hR4.z.frozen 0
                have f1 := hR4.z.frozen 1
                have f2 := hR4.z.frozen 2
                have f3 := hR4.z.frozen 3
                have f4 := hR4.z.frozen 4
                have HBe := Lib.hid (res_below hR5.bel)
                have hwB := hR4.hB
                have hne0 : w.heap.size ≠ B + 1 := by omega
                have hne1 : w.heap.size ≠ B + 1 + 1 := by omega
                clear hR4 hR5
                go_wp2
                refine bodyPost_ret (v := .tuple #[.agg #[.int .i64 0, .int .i64 0, .int .i64 0, .int .i64 0, .int .i64 0], .int .i64 j, .int .i64 9]) (by simp [results, Tryz.f109, go_sem, z0, z1, z2, z3, z4]) rfl ?_
                rw [HR2.out]
                exact ⟨rfl, HBe.out _ _ _ _ _⟩
              | true =>
                rw [hg] at HT
                have hok := take_ret i a b2 s (ws.drop (j + 1)) hg
                rw [HM.out, ← HJ.out, HX.out, HY.out] at hok
                have HOK := Lib.hid (HE.out.trans hok)
                clear hok
                go_wp2_with fail
                refine (HT _).mono ?_
                rintro e w4 ⟨rfl, hB4⟩
                have hR4 := HRr.out.below hB4
                have a3 : w4.cell? ⟨B + 1, 3, none⟩ = some (.int .i64 0) := hR4.op.c (j := 3) rfl
                have a4 : w4.cell? ⟨B + 1, 4, none⟩ = some (.int .i64 0) := hR4.op.c (j := 4) rfl
                have g3 : w4.frozen? ⟨B + 1, 3, none⟩ = false := hR4.op.frozen 3
                have g4 : w4.frozen? ⟨B + 1, 4, none⟩ = false := hR4.op.frozen 4
                have HR5 := Lib.hid (hR4.setR x y)
                clear hR4
                go_wp2
                exact ⟨⟨j + 1, a, b2, x, y, by omega, by omega, by omega, by go_num, HR5.out, by rw [HOK.out, HJ.out], fun h => by have := HJ.out; omega⟩, by simp [intOf]; omega⟩
        · by_cases hl : ws.length = m + 3
          · have hj3 : j = m + 3 := by omega
            have ho := HE.out
            rw [show ws.drop j = [] from List.drop_eq_nil_of_le (by omega), hj3, ← HM.out, take_full] at ho
            have hrd := HRP.out
            rw [ho, readR_done] at hrd
            have HRD := Lib.hid hrd
            have HCL := Lib.hid (check_le i a b2 k n)
            have hck : checkP ((i : Int) + 1) a b2 k n = checkI i a b2 k n := by unfold checkP; rw [kindI_in i hi]
            have HC := fun W => op_rcheck_any ((i : Int) + 1) a b2 k n W
            rw [hck] at HC
            unfold opV at HC
            generalize checkI i a b2 k n = ck at HC HRD HCL
            have n1 : ((ws.length : Int) != (m : Int) + 2 + 1) = false := by rw [bne_eq_false_iff_eq]; omega
            have q1 : decide (j < ws.length) = false := decide_eq_false (by omega)
            have hlen : (ws.length : Int) - 1 = (m : Int) + 2 := by omega
            rw [hlen] at HRD
            have a0 : wr.cell? ⟨B + 1 + 1, 0, none⟩ = some (.int .i64 a) := hR.ar.c (j := 0) rfl
            have a1 : wr.cell? ⟨B + 1 + 1, 1, none⟩ = some (.int .i64 b2) := hR.ar.c (j := 1) rfl
            have p0 : wr.cell? ⟨B + 1, 0, none⟩ = some (.int .i64 ((i : Int) + 1)) := hR.op.c (j := 0) rfl
            have p1 : wr.cell? ⟨B + 1, 1, none⟩ = some (.int .i64 0) := hR.op.c (j := 1) rfl
            have p2 : wr.cell? ⟨B + 1, 2, none⟩ = some (.int .i64 0) := hR.op.c (j := 2) rfl
            have p3 : wr.cell? ⟨B + 1, 3, none⟩ = some (.int .i64 k) := hR.op.c (j := 3) rfl
            have p4 : wr.cell? ⟨B + 1, 4, none⟩ = some (.int .i64 n) := hR.op.c (j := 4) rfl
            have g1 := hR.op.frozen 1
            have g2 := hR.op.frozen 2
            have hO1 : Holds (wr.setCell ⟨B + 1, 1, none⟩ (.int .i64 a)) (B + 1) 33 #[.int .i64 ((i : Int) + 1), .int .i64 a, .int .i64 0, .int .i64 k, .int .i64 n] := hR.op.set 1 _
            have hO2 : Holds ((wr.setCell ⟨B + 1, 1, none⟩ (.int .i64 a)).setCell ⟨B + 1, 2, none⟩ (.int .i64 b2)) (B + 1) 33 #[.int .i64 ((i : Int) + 1), .int .i64 a, .int .i64 b2, .int .i64 k, .int .i64 n] := hO1.set 2 _
            have hwB := hR.hB
            have hBe2 : Below w.heap.size w ((wr.setCell ⟨B + 1, 1, none⟩ (.int .i64 a)).setCell ⟨B + 1, 2, none⟩ (.int .i64 b2)) := (hR.bel.setCell (by show w.heap.size ≤ B + 1; omega) _).setCell (by show w.heap.size ≤ B + 1; omega) _
            have hZe2 : Holds ((wr.setCell ⟨B + 1, 1, none⟩ (.int .i64 a)).setCell ⟨B + 1, 2, none⟩ (.int .i64 b2)) w.heap.size 33 #[.int .i64 0, .int .i64 0, .int .i64 0, .int .i64 0, .int .i64 0] := hR.z.of ((Below.heap_setCell _ _ _ _ (by show w.heap.size ≠ B + 1; omega)).trans (Below.heap_setCell _ _ _ _ (by show w.heap.size ≠ B + 1; omega)))
            have HO2 := Lib.hid hO2
            have HBe2 := Lib.hid hBe2
            have HZe2 := Lib.hid hZe2
            clear hR hO1 hO2 hBe2 hZe2 hj3 ho hrd hck HRP HE hlen
            go_wp2_with fail
            refine (HC _).mono ?_
            rintro e w5 ⟨rfl, hB5⟩
            have hZ5 := HZe2.out.below hB5 HZe2.out.lt
            have hO5 := HO2.out.below hB5 HO2.out.lt
            have hB5' : Below w.heap.size w w5 := nxt HBe2.out hB5 HBe2.out.size
            have HBe := Lib.hid (res_below hB5')
            clear a0 a1 p0 p1 p2 p3 p4 g1 g2
            have p0 : w5.cell? ⟨B + 1, 0, none⟩ = some (.int .i64 ((i : Int) + 1)) := hO5.c (j := 0) rfl
            have p1 : w5.cell? ⟨B + 1, 1, none⟩ = some (.int .i64 a) := hO5.c (j := 1) rfl
            have p2 : w5.cell? ⟨B + 1, 2, none⟩ = some (.int .i64 b2) := hO5.c (j := 2) rfl
            have p3 : w5.cell? ⟨B + 1, 3, none⟩ = some (.int .i64 k) := hO5.c (j := 3) rfl
            have p4 : w5.cell? ⟨B + 1, 4, none⟩ = some (.int .i64 n) := hO5.c (j := 4) rfl
            have z0 : w5.cell? ⟨w.heap.size, 0, none⟩ = some (.int .i64 0) := hZ5.c (j := 0) rfl
            have z1 : w5.cell? ⟨w.heap.size, 1, none⟩ = some (.int .i64 0) := hZ5.c (j := 1) rfl
            have z2 : w5.cell? ⟨w.heap.size, 2, none⟩ = some (.int .i64 0) := hZ5.c (j := 2) rfl
            have z3 : w5.cell? ⟨w.heap.size, 3, none⟩ = some (.int .i64 0) := hZ5.c (j := 3) rfl
            have z4 : w5.cell? ⟨w.heap.size, 4, none⟩ = some (.int .i64 0) := hZ5.c (j := 4) rfl
            have f0 := hZ5.frozen 0
            have f1 := hZ5.frozen 1
            have f2 := hZ5.frozen 2
            have f3 := hZ5.frozen 3
            have f4 := hZ5.frozen 4
            have hcl' := HCL.out
            rcases hcl' with hck | hck | hck
            · subst hck
              have HR2 := Lib.hid (show rp = (((i : Int) + 1, a, b2, k, n), 0, 0) by rw [HRD.out, if_pos rfl])
              clear HRD
              go_wp2
              refine bodyPost_ret (v := .tuple #[.agg #[.int .i64 ((i : Int) + 1), .int .i64 a, .int .i64 b2, .int .i64 k, .int .i64 n], .int .i64 0, .int .i64 0]) (by simp [results, Tryz.f109, go_sem, z0, z1, z2, z3, z4]) rfl ?_
              rw [HR2.out]
              exact ⟨rfl, HBe.out _ _ _ _ _⟩
            · subst hck
              have HR2 := Lib.hid (show rp = ((0, 0, 0, 0, 0), 1, 2) by rw [HRD.out, if_neg (by decide), if_pos rfl])
              clear HRD
              go_wp2
              refine bodyPost_ret (v := .tuple #[.agg #[.int .i64 0, .int .i64 0, .int .i64 0, .int .i64 0, .int .i64 0], .int .i64 1, .int .i64 2]) (by simp [results, Tryz.f109, go_sem, z0, z1, z2, z3, z4]) rfl ?_
              rw [HR2.out]
              exact ⟨rfl, HBe.out _ _ _ _ _⟩
            · subst hck
              have HR2 := Lib.hid (show rp = ((0, 0, 0, 0, 0), (m : Int) + 2, 9) by rw [HRD.out, if_neg (by decide), if_neg (by decide)])
              clear HRD
              go_wp2
              refine bodyPost_ret (v := .tuple #[.agg #[.int .i64 0, .int .i64 0, .int .i64 0, .int .i64 0, .int .i64 0], .int .i64 ((m : Int) + 2), .int .i64 9]) (by simp [results, Tryz.f109, go_sem, z0, z1, z2, z3, z4]) rfl ?_
              rw [HR2.out]
              exact ⟨rfl, HBe.out _ _ _ _ _⟩
          · have n1 : ((ws.length : Int) != (m : Int) + 2 + 1) = true := by rw [bne_iff_ne]; omega
            have n2 : ((ws.length : Int) != (m : Int) + 3) = true := by rw [bne_iff_ne]; omega
            have z0 : wr.cell? ⟨w.heap.size, 0, none⟩ = some (.int .i64 0) := hR.z.c (j := 0) rfl
            have z1 : wr.cell? ⟨w.heap.size, 1, none⟩ = some (.int .i64 0) := hR.z.c (j := 1) rfl
            have z2 : wr.cell? ⟨w.heap.size, 2, none⟩ = some (.int .i64 0) := hR.z.c (j := 2) rfl
            have z3 : wr.cell? ⟨w.heap.size, 3, none⟩ = some (.int .i64 0) := hR.z.c (j := 3) rfl
            have z4 : wr.cell? ⟨w.heap.size, 4, none⟩ = some (.int .i64 0) := hR.z.c (j := 4) rfl
            have f0 := hR.z.frozen 0
            have f1 := hR.z.frozen 1
            have f2 := hR.z.frozen 2
            have f3 := hR.z.frozen 3
            have f4 := hR.z.frozen 4
            have HBe := Lib.hid (res_below hR.bel)
            by_cases hlt : j < ws.length
            · have hj3 : j = m + 3 := by omega
              have hdr : ws.drop j = (ws[j]?.getD ⟨#[]⟩) :: ws.drop (j + 1) := by
                rw [List.getElem?_eq_getElem hlt]
                exact List.drop_eq_getElem_cons hlt
              have ho := HE.out
              rw [hdr, hj3, ← HM.out, take_over] at ho
              have HR2 : Hid (rp = ((0, 0, 0, 0, 0), (m : Int) + 3, 5)) := Lib.hid (by rw [HRP.out, ho]; exact readR_bad (by rw [HM.out]; rfl) rfl (by decide))
              have q1 : decide (j < ws.length) = true := decide_eq_true hlt
              have q2 : decide ((j : Int) ≤ (m : Int) + 2) = false := decide_eq_false (by omega)
              have hmin : min (ws.length : Int) ((m : Int) + 2 + 1) = (m : Int) + 3 := by omega
              have hmin2 : min (ws.length : Int) ((m : Int) + 3) = (m : Int) + 3 := by omega
              clear hdr ho hj3 HE HRP hR
              go_wp2
              refine bodyPost_ret (v := .tuple #[.agg #[.int .i64 0, .int .i64 0, .int .i64 0, .int .i64 0, .int .i64 0], .int .i64 ((m : Int) + 2 + 1), .int .i64 5]) (by simp [results, Tryz.f109, go_sem, z0, z1, z2, z3, z4]) rfl ?_
              rw [HR2.out]
              exact ⟨by rw [show (m : Int) + 2 + 1 = (m : Int) + 3 by omega]; rfl, HBe.out _ _ _ _ _⟩
            · have hj3 : j = ws.length := by omega
              have ho := HE.out
              rw [hj3, List.drop_length, take_short i ws.length a b2 k n (by rw [HM.out]; omega)] at ho
              have HR2 : Hid (rp = ((0, 0, 0, 0, 0), (ws.length : Int), 5)) := Lib.hid (by rw [HRP.out, ho]; exact readR_bad rfl rfl (by decide))
              have q1 : decide (j < ws.length) = false := decide_eq_false hlt
              have hmin : min (ws.length : Int) ((m : Int) + 2 + 1) = (ws.length : Int) := by omega
              have hmin2 : min (ws.length : Int) ((m : Int) + 3) = (ws.length : Int) := by omega
              clear ho hj3 HE HRP hR
              go_wp2
              refine bodyPost_ret (v := .tuple #[.agg #[.int .i64 0, .int .i64 0, .int .i64 0, .int .i64 0, .int .i64 0], .int .i64 ws.length, .int .i64 5]) (by simp [results, Tryz.f109, go_sem, z0, z1, z2, z3, z4]) rfl ?_
              rw [HR2.out]
              exact ⟨rfl, HBe.out _ _ _ _ _⟩
end Go.Proofs.YtakbphjdfgidmaaGreatDoor
