/- The document's kinds, of, Type, Word, Kind. -/
import Derived.Test.YtmpglmepmdpjoaaOpN
namespace Go.Proofs.Ytmpglmepmdpjoaa
open Go.RowKit Go.Maps
set_option linter.unusedVariables false

/-- The document's number for what may be returned. -/
def rR : Nat → Nat
  | 0 => 0
  | 1 => 2
  | 2 => 1
  | 3 => 1
  | 4 => 1
  | 5 => 3
  | 6 => 4
  | 7 => 4
  | 8 => 4
  | 9 => 0
  | 10 => 4
  | 11 => 3
  | 12 => 1
  | 13 => 1
  | 14 => 3
  | _ => 0
def rkL (i : Nat) : List Value := [.int .i64 (objN i), .int .i64 (argN i), .int .i64 (rR i), .string (wordB i)]
def rkindsL : List Value := (List.range 15).flatMap rkL
def rkindsO : Obj := .cells rkindsL.toArray 57
def RKindsPost (w : World) (e : Ending) (w' : World) : Prop := e = .returned (.slice (some ⟨w.heap.size, 0, none⟩) 15 15) ∧ w' = w.alloc rkindsO
set_option maxRecDepth 100000 in
set_option maxHeartbeats 1000000 in
theorem rkinds_any (w : World) : Calls Try.prog 34 #[] w (RKindsPost w) := by
  go_enter Try.func34, Try.ntmps34
  go_wp2
  go_ret
  exact ⟨rfl, rfl⟩
theorem rk_cells (k : Nat) (hk : k < 15) (w : World) (j : Nat) (hj : j < 4) : (w.alloc rkindsO).cell? ⟨w.heap.size, k * 4 + j, none⟩ = (rkL k)[j]? := by
  rw [rkindsO, World.cell?_alloc_new]
  have hk' : k ∈ List.range 15 := List.mem_range.2 hk
  have hj' : j ∈ List.range 4 := List.mem_range.2 hj
  have hs : rkindsL.toArray[k * 4 + j]? = (rkindsL.map id)[k * 4 + j]? := by rw [List.map_id, List.getElem?_toArray]
  rw [hs, List.map_id]
  have : ∀ k ∈ List.range 15, ∀ j ∈ List.range 4, rkindsL[k * 4 + j]? = (rkL k)[j]? := by
    simp only [show List.range 15 = [0,1,2,3,4,5,6,7,8,9,10,11,12,13,14] from rfl, show List.range 4 = [0,1,2,3] from rfl, List.forall_mem_cons]
    repeat' apply And.intro
    all_goals first | rfl | (intro x hx; cases hx)
  exact this k hk' j hj'

def rkV : Option Nat → Value
  | none => .agg #[.int .i64 0, .int .i64 0, .int .i64 0, .string ⟨#[]⟩]
  | some i => .agg (rkL i).toArray
def ROfPost (o : Option Nat) (w : World) (e : Ending) (w' : World) : Prop := e = .returned (.tuple #[rkV o, .bool o.isSome]) ∧ Below w.heap.size w w'

set_option maxRecDepth 100000 in
set_option maxHeartbeats 1000000 in
theorem rof_any (kd : Int) (w : World) : Calls Try.prog 31 #[.int .i64 kd] w (ROfPost (kindI kd) w) := by
  by_cases h : kd < 1 ∨ 15 < kd
  · rw [kindI_out kd h]
    have d1 : ((decide (kd < 1)) || decide (15 < kd)) = true := by simpa using h
    cases e1 : decide (kd < 1) with
    | true =>
      go_enter Try.func31, Try.ntmps31
      go_wp2
      refine bodyPost_ret (v := .tuple #[.agg #[.int .i64 0, .int .i64 0, .int .i64 0, .string ⟨#[]⟩], .bool false]) (by simp [results, Try.f31, go_sem]) rfl ?_
      exact ⟨rfl, (Below.refl _ _).alloc (Nat.le_refl _) _⟩
    | false =>
      rw [e1] at d1
      have d2 : decide (15 < kd) = true := by simpa using d1
      go_enter Try.func31, Try.ntmps31
      go_wp2
      refine bodyPost_ret (v := .tuple #[.agg #[.int .i64 0, .int .i64 0, .int .i64 0, .string ⟨#[]⟩], .bool false]) (by simp [results, Try.f31, go_sem]) rfl ?_
      exact ⟨rfl, (Below.refl _ _).alloc (Nat.le_refl _) _⟩
  · obtain ⟨i, hi, rfl⟩ : ∃ i : Nat, i < 15 ∧ kd = (i : Int) + 1 := ⟨(kd - 1).toNat, by omega, by omega⟩
    rw [kindI_in i hi]
    have hc := rk_cells i hi (w.alloc (.cells #[.int .i64 0, .int .i64 0, .int .i64 0, .string ⟨#[]⟩] 57))
    rw [World.size_alloc] at hc
    have c0 := hc 0 (by omega)
    have c1 := hc 1 (by omega)
    have c2 := hc 2 (by omega)
    have c3 := hc 3 (by omega)
    simp only [rkL, List.getElem?_cons_zero, List.getElem?_cons_succ, Nat.add_zero] at c0 c1 c2 c3
    have HZ := (Holds.new w 57 #[.int .i64 0, .int .i64 0, .int .i64 0, .string ⟨#[]⟩]).alloc rkindsO
    have z0 := HZ.c (j := 0) rfl
    have z1 := HZ.c (j := 1) rfl
    have z2 := HZ.c (j := 2) rfl
    have z3 := HZ.c (j := 3) rfl
    have f0 := HZ.frozen 0
    have f1 := HZ.frozen 1
    have f2 := HZ.frozen 2
    have f3 := HZ.frozen 3
    have e1 : decide ((i : Int) + 1 < 1) = false := decide_eq_false (by omega)
    have e2 : decide ((15 : Int) < (i : Int) + 1) = false := decide_eq_false (by omega)
    have e3 : IntKind.i64.wrap ((i : Int) + 1 - 1) = (i : Int) := by
      rw [show (i : Int) + 1 - 1 = (i : Int) by omega]
      have e : (i : Int) % 2 ^ 64 = i := Int.emod_eq_of_lt (by omega) (by omega)
      simp only [IntKind.wrap, IntKind.bits, IntKind.signed, e]
      rw [if_neg]
      simp
      omega
    have e4 : (0 : Int) ≤ (i : Int) := by omega
    have e5 : (i : Int) < 15 := by omega
    have HX : Hid (rkV (some i) = .agg #[.int .i64 (objN i), .int .i64 (argN i), .int .i64 (rR i), .string (wordB i)]) := Lib.hid rfl
    generalize (objN i : Int) = y1 at *
    generalize (argN i : Int) = y2 at *
    generalize (rR i : Int) = y3 at *
    generalize wordB i = y4 at *
    clear hc
    go_enter Try.func31, Try.ntmps31
    go_wp2_with fail
    refine (rkinds_any _).mono ?_
    rintro e w1 ⟨rfl, rfl⟩
    go_wp2
    refine bodyPost_ret (v := .tuple #[.agg #[.int .i64 y1, .int .i64 y2, .int .i64 y3, .string y4], .bool true]) (by simp [results, Try.f31, go_sem]) rfl ?_
    refine ⟨by rw [HX.out]; rfl, ?_⟩
    exact ((Below.refl _ _).alloc (Nat.le_refl _) _).alloc (by simp) _
end Go.Proofs.Ytmpglmepmdpjoaa
