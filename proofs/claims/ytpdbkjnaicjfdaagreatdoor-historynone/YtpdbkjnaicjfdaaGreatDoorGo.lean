/- Texts of earlier stages over this seat, joined: OpPlain OpA OpB OpC OpD OpE OpF OpG OpH OpI OpJ. -/
import Derived.Test.YtpdbkjnaicjfdaaGreatDoorGb
import Derived.RowKit
import Derived.IntWalk
import Derived.Below
import Derived.WalkKit
import Derived.WalkSpells
import Derived.WalkLawsBesides
import Derived.Lib.Hide
import Derived.Laws.Externs
import Derived.Laws.StructEq
import Derived.Deep.QuietTactic
import Derived.BigQuiet
import Derived.Deep.RegionWith
import Derived.Laws.EntriesVeiled
import Derived.RangeFuncBox
import Derived.Shelf.Abstract
import Derived.Deep.RegionHeld3
import Derived.RegionTactic
import Derived.BigRegion
set_option maxRecDepth 100000
namespace Go.Proofs.YtpdbkjnaicjfdaaGreatDoor
open Go.RowKit
set_option linter.unusedVariables false

/-- The word of the kind i + 1. -/
def op_wordB : Nat → ByteArray
  | 0 => ⟨#[97, 100, 100]⟩
  | 1 => ⟨#[114, 101, 97, 100]⟩
  | 2 => ⟨#[105, 110, 115, 101, 114, 116]⟩
  | 3 => ⟨#[114, 101, 109, 111, 118, 101]⟩
  | 4 => ⟨#[104, 97, 115]⟩
  | 5 => ⟨#[115, 105, 122, 101]⟩
  | 6 => ⟨#[112, 117, 116]⟩
  | 7 => ⟨#[103, 101, 116]⟩
  | 8 => ⟨#[100, 101, 108]⟩
  | 9 => ⟨#[101, 110, 113]⟩
  | 10 => ⟨#[100, 101, 113]⟩
  | 11 => ⟨#[108, 101, 110]⟩
  | 12 => ⟨#[100, 101, 112, 111, 115, 105, 116]⟩
  | 13 => ⟨#[119, 105, 116, 104, 100, 114, 97, 119]⟩
  | 14 => ⟨#[98, 97, 108, 97, 110, 99, 101]⟩
  | _ => ⟨#[]⟩
/-- The type of the kind i + 1. -/
def objN : Nat → Nat
  | 0 => 1
  | 1 => 1
  | 2 => 2
  | 3 => 2
  | 4 => 2
  | 5 => 2
  | 6 => 3
  | 7 => 3
  | 8 => 3
  | 9 => 4
  | 10 => 4
  | 11 => 4
  | 12 => 5
  | 13 => 5
  | 14 => 5
  | _ => 0
/-- How many arguments the kind i + 1 has. -/
def argN : Nat → Nat
  | 0 => 1
  | 1 => 0
  | 2 => 1
  | 3 => 1
  | 4 => 1
  | 5 => 0
  | 6 => 2
  | 7 => 1
  | 8 => 1
  | 9 => 1
  | 10 => 0
  | 11 => 0
  | 12 => 1
  | 13 => 1
  | 14 => 0
  | _ => 0
/-- What A may be: 0 any, 1 zero, 2 an amount. -/
def mA : Nat → Nat
  | 0 => 0
  | 1 => 1
  | 2 => 0
  | 3 => 0
  | 4 => 0
  | 5 => 1
  | 6 => 0
  | 7 => 0
  | 8 => 0
  | 9 => 0
  | 10 => 1
  | 11 => 1
  | 12 => 2
  | 13 => 2
  | 14 => 1
  | _ => 0
/-- What B may be. -/
def mB : Nat → Nat
  | 0 => 1
  | 1 => 1
  | 2 => 1
  | 3 => 1
  | 4 => 1
  | 5 => 1
  | 6 => 0
  | 7 => 1
  | 8 => 1
  | 9 => 1
  | 10 => 1
  | 11 => 1
  | 12 => 1
  | 13 => 1
  | 14 => 1
  | _ => 0
/-- What may be returned: 0 ok, 1 a number, 2 a bit, 3 an amount, 4 none or a number. -/
def mR : Nat → Nat
  | 0 => 0
  | 1 => 1
  | 2 => 2
  | 3 => 2
  | 4 => 2
  | 5 => 3
  | 6 => 4
  | 7 => 4
  | 8 => 4
  | 9 => 0
  | 10 => 4
  | 11 => 3
  | 12 => 2
  | 13 => 2
  | 14 => 3
  | _ => 0

def okN : Nat → Int → Bool
  | 0, _ => true
  | 1, n => n == 0
  | _, n => decide (0 ≤ n) && decide (n ≤ 4611686018427387904)
def okR : Nat → Int → Int → Bool
  | 0, k, n => k == 0 && n == 0
  | 1, k, _ => k == 2
  | 2, k, n => k == 2 && (n == 0 || n == 1)
  | 3, k, n => k == 2 && (decide (0 ≤ n) && decide (n ≤ 4611686018427387904))
  | _, k, n => k == 2 || (k == 1 && n == 0)

/-- What Check tells of an operation of the kind i + 1. -/
def checkI (i : Nat) (a b k n : Int) : Int := if okN (mA i) a = false ∨ okN (mB i) b = false then 2 else if okR (mR i) k n = false then 9 else 0

/-- Which kind has the number. -/
def kindI (k : Int) : Option Nat := (List.range 15).find? fun i => ((i : Int) + 1) == k
/-- Which kind has the word. -/
def wordI (s : ByteArray) : Option Nat := (List.range 15).find? fun i => op_wordB i == s
def checkP (kd a b k n : Int) : Int := match kindI kd with
  | none => 6
  | some i => checkI i a b k n
end Go.Proofs.YtpdbkjnaicjfdaaGreatDoor

namespace Go.Proofs.YtpdbkjnaicjfdaaGreatDoor
open Go.RowKit
set_option linter.unusedVariables false

def fN : Nat → Nat
  | 0 => 146
  | 1 => 147
  | _ => 153
def fR : Nat → Nat
  | 0 => 148
  | 1 => 149
  | 2 => 150
  | 3 => 151
  | _ => 152
def fv (k : Nat) : Value := .func (.func k) #[] #[]
def ruleL (i : Nat) : List Value := [.int .i64 ((i : Int) + 1), .int .i64 (objN i), .string (op_wordB i), .int .i64 (argN i), fv (fN (mA i)), fv (fN (mB i)), fv (fR (mR i))]
def ruleV (i : Nat) : Value := .agg (ruleL i).toArray
def rule0 : Value := .agg #[.int .i64 0, .int .i64 0, .string ⟨#[]⟩, .int .i64 0, .nilFunc, .nilFunc, .nilFunc]

def BoolPost (b : Bool) (w : World) (e : Ending) (w' : World) : Prop := e = .returned (.bool b) ∧ Below w.heap.size w w'

theorem num0 (n : Int) (w : World) : Calls Tryz.prog 146 #[.int .i64 n] w (BoolPost true w) := by
  go_enter Tryz.func146, Tryz.ntmps146
  go_wp2
  go_ret
  exact ⟨rfl, Below.refl _ _⟩
theorem num1 (n : Int) (w : World) : Calls Tryz.prog 147 #[.int .i64 n] w (BoolPost (n == 0) w) := by
  go_enter Tryz.func147, Tryz.ntmps147
  go_wp2
  go_ret
  exact ⟨rfl, Below.refl _ _⟩
theorem num2 (n : Int) (w : World) : Calls Tryz.prog 153 #[.int .i64 n] w (BoolPost (decide (0 ≤ n) && decide (n ≤ 4611686018427387904)) w) := by
  go_enter Tryz.func153, Tryz.ntmps153
  cases h0 : decide (0 ≤ n) <;> cases h1 : decide (n ≤ 4611686018427387904)
  all_goals go_wp2
  all_goals go_ret
  all_goals exact ⟨rfl, Below.refl _ _⟩
theorem num_any (m : Nat) (n : Int) (w : World) : Calls Tryz.prog (fN m) #[.int .i64 n] w (BoolPost (okN m n) w) := by
  match m with
  | 0 => exact num0 n w
  | 1 => exact num1 n w
  | m + 2 => exact num2 n w

theorem ret1 (k n : Int) (w : World) : Calls Tryz.prog 149 #[.agg #[.int .i64 k, .int .i64 n]] w (BoolPost (k == 2) w) := by
  go_enter Tryz.func149, Tryz.ntmps149
  go_wp2
  go_ret
  exact ⟨rfl, (Below.refl _ _).alloc (Nat.le_refl _) _⟩
theorem ret0 (k n : Int) (w : World) : Calls Tryz.prog 148 #[.agg #[.int .i64 k, .int .i64 n]] w (BoolPost (k == 0 && n == 0) w) := by
  go_enter Tryz.func148, Tryz.ntmps148
  cases h0 : (k == 0) <;> cases h1 : (n == 0)
  all_goals go_wp2
  all_goals go_ret
  all_goals exact ⟨rfl, (Below.refl _ _).alloc (Nat.le_refl _) _⟩

def cells7 (i : Nat) : List Value := ruleL i
def rulesL : List Value := (List.range 15).flatMap ruleL
def rulesO : Obj := .cells rulesL.toArray 177
def RulesPost (w : World) (e : Ending) (w' : World) : Prop := e = .returned (.slice (some ⟨w.heap.size, 0, none⟩) 15 15) ∧ w' = w.alloc rulesO
set_option maxRecDepth 100000 in
set_option maxHeartbeats 1000000 in
theorem rules_any (w : World) : Calls Tryz.prog 131 #[] w (RulesPost w) := by
  go_enter Tryz.func131, Tryz.ntmps131
  go_wp2
  go_ret
  exact ⟨rfl, rfl⟩
end Go.Proofs.YtpdbkjnaicjfdaaGreatDoor

namespace Go.Proofs.YtpdbkjnaicjfdaaGreatDoor
open Go.RowKit
set_option linter.unusedVariables false

def zero7 : Obj := .cells #[.int .i64 0, .int .i64 0, .string ⟨#[]⟩, .int .i64 0, .nilFunc, .nilFunc, .nilFunc] 177
def ruleOf : Option Nat → Value
  | none => rule0
  | some i => ruleV i
def errOf : Option Nat → Int
  | none => 6
  | some _ => 0
def FindPost (o : Option Nat) (w : World) (e : Ending) (w' : World) : Prop := e = .returned (.tuple #[ruleOf o, .int .i64 (errOf o)]) ∧ Below w.heap.size w w'

theorem rule_cells (k : Nat) (hk : k < 15) (w : World) (j : Nat) (hj : j < 7) : (w.alloc rulesO).cell? ⟨w.heap.size, k * 7 + j, none⟩ = (ruleL k)[j]? := by
  rw [rulesO, World.cell?_alloc_new]
  have hk' : k ∈ List.range 15 := List.mem_range.2 hk
  have hj' : j ∈ List.range 7 := List.mem_range.2 hj
  have hs : rulesL.toArray[k * 7 + j]? = (rulesL.map id)[k * 7 + j]? := by rw [List.map_id, List.getElem?_toArray]
  rw [hs, List.map_id]
  have : ∀ k ∈ List.range 15, ∀ j ∈ List.range 7, rulesL[k * 7 + j]? = (ruleL k)[j]? := by
    simp only [show List.range 15 = [0,1,2,3,4,5,6,7,8,9,10,11,12,13,14] from rfl, show List.range 7 = [0,1,2,3,4,5,6] from rfl, List.forall_mem_cons]
    repeat' apply And.intro
    all_goals first | rfl | (intro x hx; cases hx)
  exact this k hk' j hj'

theorem find_none {hits : Nat → Bool} (h : ∀ j, j < 15 → hits j = false) : (List.range 15).find? hits = none := by
  rw [List.find?_eq_none]
  intro x hx
  rw [h x (List.mem_range.1 hx)]
  simp
theorem find_first {hits : Nat → Bool} {k : Nat} (hk : k < 15) (h : ∀ j, j < k → hits j = false) (hh : hits k = true) : (List.range 15).find? hits = some k := by
  rw [List.find?_range_eq_some]
  exact ⟨hh, List.mem_range.2 hk, fun j hj => by rw [h j hj]; rfl⟩

set_option maxRecDepth 100000 in
set_option maxHeartbeats 1000000 in
theorem find_int (key : Value) (g : Nat) (hits : Nat → Bool) (w : World) (eg : ∀ args w, (callFunc g args).run Tryz.prog w = .ok (.enter g args) w) (hg : ∀ i W, Calls Tryz.prog g #[ruleV i, key] W (BoolPost (hits i) W)) :
    Calls Tryz.prog 114 #[fv g, key] w (FindPost ((List.range 15).find? hits) w) := by
  have HG := Lib.hid hg
  clear hg
  have HC := Lib.hid (fun k hk => rule_cells k hk (w.alloc zero7))
  have HZ := Lib.hid (Holds.new w 177 #[.int .i64 0, .int .i64 0, .string ⟨#[]⟩, .int .i64 0, .nilFunc, .nilFunc, .nilFunc])
  have hfv : fv g = .func (.func g) #[] #[] := rfl
  rw [hfv]
  clear hfv
  go_enter Tryz.func114, Tryz.ntmps114
  go_wp2_with fail
  refine (rules_any _).mono ?_
  rintro e w1 ⟨rfl, rfl⟩
  go_wp2
  obtain ⟨W1, hW1⟩ : ∃ W1, W1 = (w.alloc zero7).alloc rulesO := ⟨_, rfl⟩
  have hs1 : W1.heap.size = w.heap.size + 2 := by rw [hW1]; simp
  have hBw : Below w.heap.size w W1 := by rw [hW1]; exact ((Below.refl _ _).alloc (Nat.le_refl _) _).alloc (by simp) _
  have HZ1 := Lib.hid (show Holds W1 w.heap.size _ _ by rw [hW1]; exact HZ.out.alloc _)
  clear HZ
  go_loopw [7, 10] (fun u i wr => ∃ k : Nat, k ≤ 15 ∧ i = .int .i64 k ∧ (∀ j, j < k → hits j = false) ∧ Below W1.heap.size W1 wr) (fun u i wr => 15 - (intOf i).toNat)
  case atStart => exact ⟨0, Nat.zero_le _, rfl, fun j h => absurd h (Nat.not_lt_zero _), by rw [hW1]; exact Below.refl _ _⟩
  case round =>
    obtain ⟨k, hk, rfl, hall, hB⟩ := hrel
    have HALL := Lib.hid hall
    have HK := Lib.hid hk
    clear hall hk
    have hwr := hB.size
    have HZr := HZ1.out.below hB (by omega)
    by_cases hlt : k < 15
    · have hlt' : (k : Int) < 15 := by omega
      have hk0 : (0 : Int) ≤ (k : Int) := by omega
      obtain ⟨x0, x1, x2, x3, x4, x5, x6, hx⟩ : ∃ x0 x1 x2 x3 x4 x5 x6, ruleL k = [.int .i64 x0, .int .i64 x1, .string x2, .int .i64 x3, .func (.func x4) #[] #[], .func (.func x5) #[] #[], .func (.func x6) #[] #[]] := ⟨_, _, _, _, _, _, _, rfl⟩
      have hrc : ∀ j, j < 7 → wr.cell? ⟨w.heap.size + 1, k * 7 + j, none⟩ = [.int .i64 x0, .int .i64 x1, .string x2, .int .i64 x3, .func (.func x4) #[] #[], .func (.func x5) #[] #[], .func (.func x6) #[] #[]][j]? := fun j hj => by
        have h := HC.out k hlt j hj
        rw [World.size_alloc, hx, ← hW1] at h
        rw [← h]
        exact World.cell?_of_block (hB.block _ (by simp; omega))
      have r0 := hrc 0 (by omega)
      have r1 := hrc 1 (by omega)
      have r2 := hrc 2 (by omega)
      have r3 := hrc 3 (by omega)
      have r4 := hrc 4 (by omega)
      have r5 := hrc 5 (by omega)
      have r6 := hrc 6 (by omega)
      simp only [List.getElem?_cons_zero, List.getElem?_cons_succ, Nat.add_zero] at r0 r1 r2 r3 r4 r5 r6
      clear hrc
      have hgk := HG.out k
      rw [show ruleV k = .agg #[.int .i64 x0, .int .i64 x1, .string x2, .int .i64 x3, .func (.func x4) #[] #[], .func (.func x5) #[] #[], .func (.func x6) #[] #[]] from by rw [ruleV, hx]] at hgk
      have HX := Lib.hid hx
      clear hx
      have HR := Holds.new wr 177 #[.int .i64 x0, .int .i64 x1, .string x2, .int .i64 x3, .func (.func x4) #[] #[], .func (.func x5) #[] #[], .func (.func x6) #[] #[]]
      go_wp2_with fail
      refine (hgk _).mono ?_
      rintro e w2 ⟨rfl, hB2⟩
      have HR2 := HR.below hB2 (by simp)
      have HZ2 := (HZr.alloc _).below hB2 (by simp; omega)
      have hB02 : Below W1.heap.size W1 w2 := (hB.alloc (by omega) _).trans (hB2.mono (by simp; omega))
      have c0 := HR2.c (j := 0) rfl
      have c1 := HR2.c (j := 1) rfl
      have c2 := HR2.c (j := 2) rfl
      have c3 := HR2.c (j := 3) rfl
      have c4 := HR2.c (j := 4) rfl
      have c5 := HR2.c (j := 5) rfl
      have c6 := HR2.c (j := 6) rfl
      have z0 := HZ2.c (j := 0) rfl
      have z1 := HZ2.c (j := 1) rfl
      have z2 := HZ2.c (j := 2) rfl
      have z3 := HZ2.c (j := 3) rfl
      have z4 := HZ2.c (j := 4) rfl
      have z5 := HZ2.c (j := 5) rfl
      have z6 := HZ2.c (j := 6) rfl
      have f0 := HZ2.frozen 0
      have f1 := HZ2.frozen 1
      have f2 := HZ2.frozen 2
      have f3 := HZ2.frozen 3
      have f4 := HZ2.frozen 4
      have f5 := HZ2.frozen 5
      have f6 := HZ2.frozen 6
      cases hh : hits k with
      | true =>
        have HH := Lib.hid hh
        clear hh
        go_wp2
        refine bodyPost_ret (v := .tuple #[.agg #[.int .i64 x0, .int .i64 x1, .string x2, .int .i64 x3, .func (.func x4) #[] #[], .func (.func x5) #[] #[], .func (.func x6) #[] #[]], .int .i64 0]) (by simp [results, Tryz.f114, go_sem, z0, z1, z2, z3, z4, z5, z6]) rfl ?_
        rw [find_first hlt HALL.out HH.out]
        refine ⟨by rw [ruleOf, ruleV, HX.out]; rfl, ?_⟩
        have hb := hBw.trans (hB02.mono (by omega))
        refine Below.setCell (Below.setCell (Below.setCell (Below.setCell (Below.setCell (Below.setCell (Below.setCell hb ?_ _) ?_ _) ?_ _) ?_ _) ?_ _) ?_ _) ?_ _
        all_goals exact Nat.le_refl _
      | false =>
        have HH := Lib.hid hh
        clear hh
        go_wp2
        go_roundw
        case rel => exact ⟨k + 1, by omega, by go_num, fun j hj => by
          rcases Nat.lt_succ_iff_lt_or_eq.1 hj with h | rfl
          · exact HALL.out j h
          · exact HH.out, hB02⟩
        case measure => simp [intOf]; omega
    · have hlt' : decide ((k : Int) < 15) = false := decide_eq_false (by omega)
      have HK2 : k = 15 := by have := HK.out; omega
      have z0 := HZr.c (j := 0) rfl
      have z1 := HZr.c (j := 1) rfl
      have z2 := HZr.c (j := 2) rfl
      have z3 := HZr.c (j := 3) rfl
      have z4 := HZr.c (j := 4) rfl
      have z5 := HZr.c (j := 5) rfl
      have z6 := HZr.c (j := 6) rfl
      have f0 := HZr.frozen 0
      have f1 := HZr.frozen 1
      have f2 := HZr.frozen 2
      have f3 := HZr.frozen 3
      have f4 := HZr.frozen 4
      have f5 := HZr.frozen 5
      have f6 := HZr.frozen 6
      go_wp2
      refine bodyPost_ret (v := .tuple #[rule0, .int .i64 6]) (by simp [results, rule0, Tryz.f114, go_sem, z0, z1, z2, z3, z4, z5, z6]) rfl ?_
      rw [find_none (fun j hj => HALL.out j (by omega))]
      refine ⟨rfl, ?_⟩
      have hb := hBw.trans (hB.mono (by omega))
      refine Below.setCell (Below.setCell (Below.setCell (Below.setCell (Below.setCell (Below.setCell (Below.setCell hb ?_ _) ?_ _) ?_ _) ?_ _) ?_ _) ?_ _) ?_ _
      all_goals exact Nat.le_refl _

set_option maxRecDepth 100000 in
set_option maxHeartbeats 1000000 in
theorem find_str (key : Value) (g : Nat) (hits : Nat → Bool) (w : World) (eg : ∀ args w, (callFunc g args).run Tryz.prog w = .ok (.enter g args) w) (hg : ∀ i W, Calls Tryz.prog g #[ruleV i, key] W (BoolPost (hits i) W)) :
    Calls Tryz.prog 162 #[fv g, key] w (FindPost ((List.range 15).find? hits) w) := by
  have HG := Lib.hid hg
  clear hg
  have HC := Lib.hid (fun k hk => rule_cells k hk (w.alloc zero7))
  have HZ := Lib.hid (Holds.new w 177 #[.int .i64 0, .int .i64 0, .string ⟨#[]⟩, .int .i64 0, .nilFunc, .nilFunc, .nilFunc])
  have hfv : fv g = .func (.func g) #[] #[] := rfl
  rw [hfv]
  clear hfv
  go_enter Tryz.func162, Tryz.ntmps162
  go_wp2_with fail
  refine (rules_any _).mono ?_
  rintro e w1 ⟨rfl, rfl⟩
  go_wp2
  obtain ⟨W1, hW1⟩ : ∃ W1, W1 = (w.alloc zero7).alloc rulesO := ⟨_, rfl⟩
  have hs1 : W1.heap.size = w.heap.size + 2 := by rw [hW1]; simp
  have hBw : Below w.heap.size w W1 := by rw [hW1]; exact ((Below.refl _ _).alloc (Nat.le_refl _) _).alloc (by simp) _
  have HZ1 := Lib.hid (show Holds W1 w.heap.size _ _ by rw [hW1]; exact HZ.out.alloc _)
  clear HZ
  go_loopw [7, 10] (fun u i wr => ∃ k : Nat, k ≤ 15 ∧ i = .int .i64 k ∧ (∀ j, j < k → hits j = false) ∧ Below W1.heap.size W1 wr) (fun u i wr => 15 - (intOf i).toNat)
  case atStart => exact ⟨0, Nat.zero_le _, rfl, fun j h => absurd h (Nat.not_lt_zero _), by rw [hW1]; exact Below.refl _ _⟩
  case round =>
    obtain ⟨k, hk, rfl, hall, hB⟩ := hrel
    have HALL := Lib.hid hall
    have HK := Lib.hid hk
    clear hall hk
    have hwr := hB.size
    have HZr := HZ1.out.below hB (by omega)
    by_cases hlt : k < 15
    · have hlt' : (k : Int) < 15 := by omega
      have hk0 : (0 : Int) ≤ (k : Int) := by omega
      obtain ⟨x0, x1, x2, x3, x4, x5, x6, hx⟩ : ∃ x0 x1 x2 x3 x4 x5 x6, ruleL k = [.int .i64 x0, .int .i64 x1, .string x2, .int .i64 x3, .func (.func x4) #[] #[], .func (.func x5) #[] #[], .func (.func x6) #[] #[]] := ⟨_, _, _, _, _, _, _, rfl⟩
      have hrc : ∀ j, j < 7 → wr.cell? ⟨w.heap.size + 1, k * 7 + j, none⟩ = [.int .i64 x0, .int .i64 x1, .string x2, .int .i64 x3, .func (.func x4) #[] #[], .func (.func x5) #[] #[], .func (.func x6) #[] #[]][j]? := fun j hj => by
        have h := HC.out k hlt j hj
        rw [World.size_alloc, hx, ← hW1] at h
        rw [← h]
        exact World.cell?_of_block (hB.block _ (by simp; omega))
      have r0 := hrc 0 (by omega)
      have r1 := hrc 1 (by omega)
      have r2 := hrc 2 (by omega)
      have r3 := hrc 3 (by omega)
      have r4 := hrc 4 (by omega)
      have r5 := hrc 5 (by omega)
      have r6 := hrc 6 (by omega)
      simp only [List.getElem?_cons_zero, List.getElem?_cons_succ, Nat.add_zero] at r0 r1 r2 r3 r4 r5 r6
      clear hrc
      have hgk := HG.out k
      rw [show ruleV k = .agg #[.int .i64 x0, .int .i64 x1, .string x2, .int .i64 x3, .func (.func x4) #[] #[], .func (.func x5) #[] #[], .func (.func x6) #[] #[]] from by rw [ruleV, hx]] at hgk
      have HX := Lib.hid hx
      clear hx
      have HR := Holds.new wr 177 #[.int .i64 x0, .int .i64 x1, .string x2, .int .i64 x3, .func (.func x4) #[] #[], .func (.func x5) #[] #[], .func (.func x6) #[] #[]]
      go_wp2_with fail
      refine (hgk _).mono ?_
      rintro e w2 ⟨rfl, hB2⟩
      have HR2 := HR.below hB2 (by simp)
      have HZ2 := (HZr.alloc _).below hB2 (by simp; omega)
      have hB02 : Below W1.heap.size W1 w2 := (hB.alloc (by omega) _).trans (hB2.mono (by simp; omega))
      have c0 := HR2.c (j := 0) rfl
      have c1 := HR2.c (j := 1) rfl
      have c2 := HR2.c (j := 2) rfl
      have c3 := HR2.c (j := 3) rfl
      have c4 := HR2.c (j := 4) rfl
      have c5 := HR2.c (j := 5) rfl
      have c6 := HR2.c (j := 6) rfl
      have z0 := HZ2.c (j := 0) rfl
      have z1 := HZ2.c (j := 1) rfl
      have z2 := HZ2.c (j := 2) rfl
      have z3 := HZ2.c (j := 3) rfl
      have z4 := HZ2.c (j := 4) rfl
      have z5 := HZ2.c (j := 5) rfl
      have z6 := HZ2.c (j := 6) rfl
      have f0 := HZ2.frozen 0
      have f1 := HZ2.frozen 1
      have f2 := HZ2.frozen 2
      have f3 := HZ2.frozen 3
      have f4 := HZ2.frozen 4
      have f5 := HZ2.frozen 5
      have f6 := HZ2.frozen 6
      cases hh : hits k with
      | true =>
        have HH := Lib.hid hh
        clear hh
        go_wp2
        refine bodyPost_ret (v := .tuple #[.agg #[.int .i64 x0, .int .i64 x1, .string x2, .int .i64 x3, .func (.func x4) #[] #[], .func (.func x5) #[] #[], .func (.func x6) #[] #[]], .int .i64 0]) (by simp [results, Tryz.f162, go_sem, z0, z1, z2, z3, z4, z5, z6]) rfl ?_
        rw [find_first hlt HALL.out HH.out]
        refine ⟨by rw [ruleOf, ruleV, HX.out]; rfl, ?_⟩
        have hb := hBw.trans (hB02.mono (by omega))
        refine Below.setCell (Below.setCell (Below.setCell (Below.setCell (Below.setCell (Below.setCell (Below.setCell hb ?_ _) ?_ _) ?_ _) ?_ _) ?_ _) ?_ _) ?_ _
        all_goals exact Nat.le_refl _
      | false =>
        have HH := Lib.hid hh
        clear hh
        go_wp2
        go_roundw
        case rel => exact ⟨k + 1, by omega, by go_num, fun j hj => by
          rcases Nat.lt_succ_iff_lt_or_eq.1 hj with h | rfl
          · exact HALL.out j h
          · exact HH.out, hB02⟩
        case measure => simp [intOf]; omega
    · have hlt' : decide ((k : Int) < 15) = false := decide_eq_false (by omega)
      have HK2 : k = 15 := by have := HK.out; omega
      have z0 := HZr.c (j := 0) rfl
      have z1 := HZr.c (j := 1) rfl
      have z2 := HZr.c (j := 2) rfl
      have z3 := HZr.c (j := 3) rfl
      have z4 := HZr.c (j := 4) rfl
      have z5 := HZr.c (j := 5) rfl
      have z6 := HZr.c (j := 6) rfl
      have f0 := HZr.frozen 0
      have f1 := HZr.frozen 1
      have f2 := HZr.frozen 2
      have f3 := HZr.frozen 3
      have f4 := HZr.frozen 4
      have f5 := HZr.frozen 5
      have f6 := HZr.frozen 6
      go_wp2
      refine bodyPost_ret (v := .tuple #[rule0, .int .i64 6]) (by simp [results, rule0, Tryz.f162, go_sem, z0, z1, z2, z3, z4, z5, z6]) rfl ?_
      rw [find_none (fun j hj => HALL.out j (by omega))]
      refine ⟨rfl, ?_⟩
      have hb := hBw.trans (hB.mono (by omega))
      refine Below.setCell (Below.setCell (Below.setCell (Below.setCell (Below.setCell (Below.setCell (Below.setCell hb ?_ _) ?_ _) ?_ _) ?_ _) ?_ _) ?_ _) ?_ _
      all_goals exact Nat.le_refl _
end Go.Proofs.YtpdbkjnaicjfdaaGreatDoor

namespace Go.Proofs.YtpdbkjnaicjfdaaGreatDoor
open Go.RowKit
set_option linter.unusedVariables false

def retV (k n : Int) : Value := .agg #[.int .i64 k, .int .i64 n]
def opV (kd a b k n : Int) : Value := .agg #[.int .i64 kd, .int .i64 a, .int .i64 b, .int .i64 k, .int .i64 n]

theorem ret2 (k n : Int) (w : World) : Calls Tryz.prog 150 #[retV k n] w (BoolPost (k == 2 && (n == 0 || n == 1)) w) := by
  have H := fun W => ret1 k n W
  unfold retV
  generalize (k == 2) = bk at H
  cases bk <;> cases h0 : (n == 0) <;> cases h1 : (n == 1)
  all_goals go_enter Tryz.func150, Tryz.ntmps150
  all_goals go_wp2_with fail
  all_goals refine (H _).mono ?_
  all_goals rintro e w1 ⟨rfl, hB1⟩
  all_goals have c0 := ((Holds.new w 48 #[.int .i64 k, .int .i64 n]).below hB1 (by simp)).c (j := 1) rfl
  all_goals go_wp2
  all_goals go_ret
  all_goals exact ⟨rfl, nxt ((Below.refl _ _).alloc (Nat.le_refl _) _) hB1 (by simp)⟩
theorem ret3 (k n : Int) (w : World) : Calls Tryz.prog 151 #[retV k n] w (BoolPost (k == 2 && (decide (0 ≤ n) && decide (n ≤ 4611686018427387904))) w) := by
  have H := fun W => ret1 k n W
  have H2 := fun W => num2 n W
  unfold retV
  generalize (k == 2) = bk at H
  generalize (decide (0 ≤ n) && decide (n ≤ 4611686018427387904)) = bn at H2
  cases bk
  · go_enter Tryz.func151, Tryz.ntmps151
    go_wp2_with fail
    refine (H _).mono ?_
    rintro e w1 ⟨rfl, hB1⟩
    have c0 := ((Holds.new w 48 #[.int .i64 k, .int .i64 n]).below hB1 (by simp)).c (j := 1) rfl
    go_wp2
    go_ret
    exact ⟨rfl, nxt ((Below.refl _ _).alloc (Nat.le_refl _) _) hB1 (by simp)⟩
  · go_enter Tryz.func151, Tryz.ntmps151
    go_wp2_with fail
    refine (H _).mono ?_
    rintro e w1 ⟨rfl, hB1⟩
    have c0 := ((Holds.new w 48 #[.int .i64 k, .int .i64 n]).below hB1 (by simp)).c (j := 1) rfl
    have hs := hB1.size
    go_wp2_with fail
    refine (H2 _).mono ?_
    rintro e w2 ⟨rfl, hB2⟩
    go_wp2
    go_ret
    exact ⟨rfl, nxt (nxt ((Below.refl _ _).alloc (Nat.le_refl _) _) hB1 (by simp)) hB2 (by simp at hs; omega)⟩
theorem ret4 (k n : Int) (w : World) : Calls Tryz.prog 152 #[retV k n] w (BoolPost (k == 2 || (k == 1 && n == 0)) w) := by
  have H := fun W => ret1 k n W
  unfold retV
  generalize (k == 2) = bk at H
  cases bk <;> cases h0 : (k == 1) <;> cases h1 : (n == 0)
  all_goals go_enter Tryz.func152, Tryz.ntmps152
  all_goals go_wp2_with fail
  all_goals refine (H _).mono ?_
  all_goals rintro e w1 ⟨rfl, hB1⟩
  all_goals have c0 := ((Holds.new w 48 #[.int .i64 k, .int .i64 n]).below hB1 (by simp)).c (j := 0) rfl
  all_goals have c1 := ((Holds.new w 48 #[.int .i64 k, .int .i64 n]).below hB1 (by simp)).c (j := 1) rfl
  all_goals go_wp2
  all_goals go_ret
  all_goals exact ⟨rfl, nxt ((Below.refl _ _).alloc (Nat.le_refl _) _) hB1 (by simp)⟩
theorem ret_any (m : Nat) (k n : Int) (w : World) : Calls Tryz.prog (fR m) #[retV k n] w (BoolPost (okR m k n) w) := by
  match m with
  | 0 => exact ret0 k n w
  | 1 => exact ret1 k n w
  | 2 => exact ret2 k n w
  | 3 => exact ret3 k n w
  | m + 4 => exact ret4 k n w
theorem enter_N (m : Nat) : ∀ args w, (callFunc (fN m) args).run Tryz.prog w = .ok (.enter (fN m) args) w := by
  match m with
  | 0 => exact Go.Proofs.enters_of Tryz.func146 (by kernel_rfl) rfl
  | 1 => exact Go.Proofs.enters_of Tryz.func147 (by kernel_rfl) rfl
  | m + 2 => exact Go.Proofs.enters_of Tryz.func153 (by kernel_rfl) rfl
theorem enter_R (m : Nat) : ∀ args w, (callFunc (fR m) args).run Tryz.prog w = .ok (.enter (fR m) args) w := by
  match m with
  | 0 => exact Go.Proofs.enters_of Tryz.func148 (by kernel_rfl) rfl
  | 1 => exact Go.Proofs.enters_of Tryz.func149 (by kernel_rfl) rfl
  | 2 => exact Go.Proofs.enters_of Tryz.func150 (by kernel_rfl) rfl
  | 3 => exact Go.Proofs.enters_of Tryz.func151 (by kernel_rfl) rfl
  | m + 4 => exact Go.Proofs.enters_of Tryz.func152 (by kernel_rfl) rfl

theorem hasKind_any (x0 x1 : Int) (x2 : ByteArray) (x3 : Int) (x4 x5 x6 : Nat) (key : Int) (w : World) :
    Calls Tryz.prog 115 #[.agg #[.int .i64 x0, .int .i64 x1, .string x2, .int .i64 x3, .func (.func x4) #[] #[], .func (.func x5) #[] #[], .func (.func x6) #[] #[]], .int .i64 key] w (BoolPost (x0 == key) w) := by
  go_enter Tryz.func115, Tryz.ntmps115
  go_wp2
  go_ret
  exact ⟨rfl, (Below.refl _ _).alloc (Nat.le_refl _) _⟩
theorem hasWord_any (x0 x1 : Int) (x2 : ByteArray) (x3 : Int) (x4 x5 x6 : Nat) (key : ByteArray) (w : World) :
    Calls Tryz.prog 163 #[.agg #[.int .i64 x0, .int .i64 x1, .string x2, .int .i64 x3, .func (.func x4) #[] #[], .func (.func x5) #[] #[], .func (.func x6) #[] #[]], .string key] w (BoolPost (x2 == key) w) := by
  go_enter Tryz.func163, Tryz.ntmps163
  go_wp2
  go_ret
  exact ⟨by rw [beq_toListBytes]; rfl, (Below.refl _ _).alloc (Nat.le_refl _) _⟩

theorem find_kind (key : Int) (w : World) : Calls Tryz.prog 114 #[fv 115, .int .i64 key] w (FindPost (kindI key) w) :=
  find_int (.int .i64 key) 115 (fun i => ((i : Int) + 1) == key) w (Go.Proofs.enters_of Tryz.func115 (by kernel_rfl) rfl) fun i W => hasKind_any _ _ _ _ _ _ _ key W
theorem find_word (key : ByteArray) (w : World) : Calls Tryz.prog 162 #[fv 163, .string key] w (FindPost (wordI key) w) :=
  find_str (.string key) 163 (fun i => op_wordB i == key) w (Go.Proofs.enters_of Tryz.func163 (by kernel_rfl) rfl) fun i W => hasWord_any _ _ _ _ _ _ _ key W

def checkM (ma mb mr : Nat) (a b k n : Int) : Int := if okN ma a = false ∨ okN mb b = false then 2 else if okR mr k n = false then 9 else 0

set_option maxRecDepth 100000 in
set_option maxHeartbeats 1000000 in
theorem check_M (x0 x1 : Int) (x2 : ByteArray) (x3 : Int) (ma mb mr : Nat) (kd a b k n : Int) (w : World) :
    Calls Tryz.prog 119 #[.agg #[.int .i64 x0, .int .i64 x1, .string x2, .int .i64 x3, fv (fN ma), fv (fN mb), fv (fR mr)], opV kd a b k n] w (Says (.int .i64 (checkM ma mb mr a b k n)) w) := by
  have e1 := enter_N ma
  have e2 := enter_N mb
  have e3 := enter_R mr
  have H1 := fun W => num_any ma a W
  have H2 := fun W => num_any mb b W
  have H3 := fun W => ret_any mr k n W
  have hP : Hid (checkM ma mb mr a b k n = if okN ma a = false ∨ okN mb b = false then 2 else if okR mr k n = false then 9 else 0) := Lib.hid rfl
  unfold opV fv
  unfold retV at H3
  generalize okN ma a = ba at H1 hP
  generalize okN mb b = bb at H2 hP
  generalize okR mr k n = br at H3 hP
  generalize checkM ma mb mr a b k n = r at hP
  generalize fN ma = g1 at *
  generalize fN mb = g2 at *
  generalize fR mr = g3 at *
  have HO := (Holds.new (w.alloc (.cells #[.int .i64 x0, .int .i64 x1, .string x2, .int .i64 x3, .func (.func g1) #[] #[], .func (.func g2) #[] #[], .func (.func g3) #[] #[]] 177)) 50 #[.int .i64 kd, .int .i64 a, .int .i64 b, .int .i64 k, .int .i64 n])
  have HR := (Holds.new w 177 #[.int .i64 x0, .int .i64 x1, .string x2, .int .i64 x3, .func (.func g1) #[] #[], .func (.func g2) #[] #[], .func (.func g3) #[] #[]]).alloc (.cells #[.int .i64 kd, .int .i64 a, .int .i64 b, .int .i64 k, .int .i64 n] 50)
  rw [World.size_alloc] at HO
  have hB0 : Below w.heap.size w ((w.alloc (.cells #[.int .i64 x0, .int .i64 x1, .string x2, .int .i64 x3, .func (.func g1) #[] #[], .func (.func g2) #[] #[], .func (.func g3) #[] #[]] 177)).alloc (.cells #[.int .i64 kd, .int .i64 a, .int .i64 b, .int .i64 k, .int .i64 n] 50)) := ((Below.refl _ _).alloc (Nat.le_refl _) _).alloc (by simp) _
  go_enter Tryz.func119, Tryz.ntmps119
  go_wp2_with fail
  refine (H1 _).mono ?_
  rintro e w1 ⟨rfl, hB1⟩
  have HO1 := HO.below hB1 (by simp)
  have HR1 := HR.below hB1 (by simp; omega)
  have hs1 := hB1.size
  simp only [World.size_alloc] at hs1
  have hB01 := nxt hB0 hB1 (by simp; omega)
  have r5 := HR1.c (j := 5) rfl
  have o2 := HO1.c (j := 2) rfl
  have r6 := HR1.c (j := 6) rfl
  have o3 := HO1.c (j := 3) rfl
  have o4 := HO1.c (j := 4) rfl
  cases ba with
  | false =>
    go_wp2
    go_ret
    exact ⟨by rw [hP.out]; simp, hB01⟩
  | true =>
    clear r6 o3 o4
    go_wp2_with fail
    refine (H2 _).mono ?_
    rintro e w2 ⟨rfl, hB2⟩
    have HO2 := HO1.below hB2 (by omega)
    have HR2 := HR1.below hB2 (by omega)
    have hs2 := hB2.size
    have hB02 := nxt hB01 hB2 (by omega)
    have r6 := HR2.c (j := 6) rfl
    have o3 := HO2.c (j := 3) rfl
    have o4 := HO2.c (j := 4) rfl
    cases bb with
    | false =>
      go_wp2
      go_ret
      exact ⟨by rw [hP.out]; simp, hB02⟩
    | true =>
      go_wp2_with fail
      refine (H3 _).mono ?_
      rintro e w3 ⟨rfl, hB3⟩
      have hB03 := nxt hB02 hB3 (by omega)
      cases br with
      | false =>
        go_wp2
        go_ret
        exact ⟨by rw [hP.out]; simp, hB03⟩
      | true =>
        go_wp2
        go_ret
        exact ⟨by rw [hP.out]; simp, hB03⟩
theorem check_I (i : Nat) (kd a b k n : Int) (w : World) : Calls Tryz.prog 119 #[ruleV i, opV kd a b k n] w (Says (.int .i64 (checkI i a b k n)) w) :=
  check_M _ _ _ _ (mA i) (mB i) (mR i) kd a b k n w

theorem ruleV_eq (i : Nat) : ∃ x4 x5 x6, ruleV i = .agg #[.int .i64 ((i : Int) + 1), .int .i64 (objN i), .string (op_wordB i), .int .i64 (argN i), .func (.func x4) #[] #[], .func (.func x5) #[] #[], .func (.func x6) #[] #[]] := ⟨_, _, _, rfl⟩

def typeO : Option Nat → Int
  | none => 0
  | some i => objN i
def wordO : Option Nat → ByteArray
  | none => ⟨#[]⟩
  | some i => op_wordB i
def kindO : Option Nat → Int
  | none => 0
  | some i => (i : Int) + 1

set_option maxRecDepth 100000 in
theorem type_any (kd : Int) (w : World) : Calls Tryz.prog 98 #[.int .i64 kd] w (Says (.tuple #[.int .i64 (typeO (kindI kd)), .int .i64 (errOf (kindI kd))]) w) := by
  have H := fun W => find_kind kd W
  unfold fv at H
  generalize kindI kd = o at H
  cases o with
  | none =>
    go_enter Tryz.func98, Tryz.ntmps98
    go_wp2_with fail
    refine (H _).mono ?_
    rintro e w1 ⟨rfl, hB1⟩
    simp only [ruleOf, rule0, errOf]
    go_wp2
    go_ret2
    exact ⟨rfl, hB1.alloc hB1.size _⟩
  | some i =>
    obtain ⟨x4, x5, x6, hx⟩ := ruleV_eq i
    go_enter Tryz.func98, Tryz.ntmps98
    go_wp2_with fail
    refine (H _).mono ?_
    rintro e w1 ⟨rfl, hB1⟩
    simp only [ruleOf, hx, errOf]
    clear hx
    go_wp2
    go_ret2
    exact ⟨rfl, hB1.alloc hB1.size _⟩
set_option maxRecDepth 100000 in
theorem op_check_any (kd a b k n : Int) (w : World) : Calls Tryz.prog 130 #[opV kd a b k n] w (Says (.int .i64 (checkP kd a b k n)) w) := by
  have H := fun W => find_kind kd W
  have hP : Hid (checkP kd a b k n = match kindI kd with | none => 6 | some i => checkI i a b k n) := Lib.hid rfl
  unfold fv at H
  generalize checkP kd a b k n = r at hP
  generalize kindI kd = o at H hP
  cases o with
  | none =>
    unfold opV
    go_enter Tryz.func130, Tryz.ntmps130
    go_wp2_with fail
    refine (H _).mono ?_
    rintro e w1 ⟨rfl, hB1⟩
    simp only [ruleOf, rule0, errOf]
    have hs := hB1.size
    simp only [World.size_alloc] at hs
    go_wp2
    go_ret
    exact ⟨by rw [hP.out]; rfl, Below.alloc (nxt ((Below.refl _ _).alloc (Nat.le_refl _) _) hB1 (by simp)) (by omega) _⟩
  | some i =>
    have HC := fun W => check_I i kd a b k n W
    have hP' : Hid (r = checkI i a b k n) := Lib.hid hP.out
    clear hP
    obtain ⟨x4, x5, x6, hx⟩ := ruleV_eq i
    have HO := Holds.new w 50 #[.int .i64 kd, .int .i64 a, .int .i64 b, .int .i64 k, .int .i64 n]
    unfold opV at HC ⊢
    go_enter Tryz.func130, Tryz.ntmps130
    go_wp2_with fail
    refine (H _).mono ?_
    rintro e w1 ⟨rfl, hB1⟩
    simp only [ruleOf, hx, errOf]
    rw [hx] at HC
    clear hx
    have hs := hB1.size
    simp only [World.size_alloc] at hs
    have HO1 := (HO.below hB1 (by simp)).alloc (.cells #[.int .i64 ((i : Int) + 1), .int .i64 (objN i), .string (op_wordB i), .int .i64 (argN i), .func (.func x4) #[] #[], .func (.func x5) #[] #[], .func (.func x6) #[] #[]] 177)
    have o0 := HO1.c (j := 0) rfl
    have o1 := HO1.c (j := 1) rfl
    have o2 := HO1.c (j := 2) rfl
    have o3 := HO1.c (j := 3) rfl
    have o4 := HO1.c (j := 4) rfl
    go_wp2_with fail
    refine (HC _).mono ?_
    rintro e w2 ⟨rfl, hB2⟩
    go_wp2
    go_ret
    exact ⟨by rw [hP'.out]; rfl, nxt (Below.alloc (nxt ((Below.refl _ _).alloc (Nat.le_refl _) _) hB1 (by simp)) (by omega) _) hB2 (by simp; omega)⟩
end Go.Proofs.YtpdbkjnaicjfdaaGreatDoor

namespace Go.Proofs.YtpdbkjnaicjfdaaGreatDoor
open Go.RowKit
set_option linter.unusedVariables false

def I64 (x : Int) : Prop := -9223372036854775808 ≤ x ∧ x ≤ 9223372036854775807

def putB (n : Int) : ByteArray := ⟨(putL n).toArray⟩
def arrB : ByteArray := ⟨#[45, 62]⟩
def okB : ByteArray := ⟨#[111, 107]⟩
def noneB : ByteArray := ⟨#[110, 111, 110, 101]⟩
def retB (k n : Int) : ByteArray := if k == 0 then okB else if k == 1 then noneB else putB n
def argW (m : Nat) (a b : Int) : List ByteArray := ([a, b].take m).map putB
def opW (i : Nat) (a b k n : Int) : List ByteArray := op_wordB i :: (argW (argN i) a b ++ [arrB, retB k n])
def textS (kd a b k n : Int) : ByteArray := match kindI kd with
  | none => ⟨#[]⟩
  | some i => if checkI i a b k n = 0 then strOfNums (jl (opW i a b k n)) else ⟨#[]⟩

theorem putI_bytes (n : Int) : ∀ x ∈ putI n, 45 ≤ x ∧ x ≤ 57 := by
  intro x hx
  rw [putI, List.mem_reverse, List.mem_append] at hx
  rcases hx with h | h
  · have := dr_bd _ _ x h; omega
  · split at h
    · simp at h; omega
    · cases h
theorem putI_len (n : Int) : 1 ≤ (putI n).length ∧ (putI n).length ≤ 21 := by
  rw [putI, List.length_reverse, List.length_append]
  have h1 : 1 ≤ (dr 20 n.natAbs).length := dr_pos 19 n.natAbs
  have h2 := dr_len 20 n.natAbs
  split <;> simp <;> omega
theorem nums_putB (n : Int) : nums (putB n) = putI n := by
  rw [nums, putB, putL]
  simp only [List.map_map]
  conv => rhs; rw [← List.map_id (putI n)]
  apply List.map_congr_left
  intro x hx
  have := putI_bytes n x hx
  simp [UInt8.toNat_ofNat']
  omega
theorem putB_size (n : Int) : (putB n).size ≤ 21 := by
  rw [← nums_len, nums_putB]; exact (putI_len n).2
theorem putB_fine (n : Int) : fw (nums (putB n)) = none := by
  rw [nums_putB]
  refine fw_none (fun e => ?_) fun x hx => ?_
  · have := (putI_len n).1; rw [e] at this; simp at this
  · have := putI_bytes n x hx
    simp [bad]; omega
theorem retB_fine (k n : Int) : fw (nums (retB k n)) = none := by
  unfold retB
  split
  · decide
  · split
    · decide
    · exact putB_fine n
theorem retB_size (k n : Int) : (retB k n).size ≤ 21 := by
  unfold retB
  split
  · decide
  · split
    · decide
    · exact putB_size n
theorem wordB_fine (i : Nat) (h : i < 15) : fw (nums (op_wordB i)) = none ∧ over (nums (op_wordB i)) = false ∧ (op_wordB i).size ≤ 8 := by
  have hm : i ∈ List.range 15 := List.mem_range.2 h
  revert i
  have : ∀ i ∈ List.range 15, fw (nums (op_wordB i)) = none ∧ over (nums (op_wordB i)) = false ∧ (op_wordB i).size ≤ 8 := by decide
  intro i _ h
  exact this i h
theorem argW_mem {m : Nat} {a b : Int} {s : ByteArray} (h : s ∈ argW m a b) : ∃ x, s = putB x := by
  obtain ⟨x, _, rfl⟩ := List.mem_map.1 h
  exact ⟨x, rfl⟩
theorem argW_len (m : Nat) (a b : Int) : (argW m a b).length ≤ 2 := by
  rw [argW, List.length_map, List.length_take]; simp; omega
theorem opW_mem {i : Nat} {a b k n : Int} (hi : i < 15) {s : ByteArray} (h : s ∈ opW i a b k n) : fw (nums s) = none ∧ s.size ≤ 21 := by
  rw [opW, List.mem_cons, List.mem_append] at h
  rcases h with rfl | h | h
  · have := wordB_fine i hi; exact ⟨this.1, by omega⟩
  · obtain ⟨x, rfl⟩ := argW_mem h
    exact ⟨putB_fine x, putB_size x⟩
  · rcases List.mem_cons.1 h with rfl | h
    · exact ⟨by decide, by decide⟩
    · obtain rfl : s = retB k n := by simpa using h
      exact ⟨retB_fine k n, retB_size k n⟩
theorem opW_len (i : Nat) (a b k n : Int) : (opW i a b k n).length ≤ 5 := by
  have := argW_len (argN i) a b
  rw [opW, List.length_cons, List.length_append]; simp; omega
theorem szs_bound : ∀ (ss : List ByteArray) (c : Nat), (∀ s ∈ ss, s.size ≤ c) → szs ss ≤ ss.length * c
  | [], _, _ => by simp [szs]
  | s :: r, c, h => by
    have h1 := szs_bound r c fun x hx => h x (List.mem_cons_of_mem _ hx)
    have h2 := h s List.mem_cons_self
    have h3 : szs (s :: r) = s.size + szs r := by simp [szs]
    rw [h3, List.length_cons, Nat.succ_mul]; omega
theorem opW_szs (i : Nat) (hi : i < 15) (a b k n : Int) : szs (opW i a b k n) ≤ 105 := by
  have h1 := szs_bound (opW i a b k n) 21 fun s hs => (opW_mem hi hs).2
  have h2 := opW_len i a b k n
  have : (opW i a b k n).length * 21 ≤ 5 * 21 := Nat.mul_le_mul_right _ h2
  omega
theorem opW_join (i : Nat) (hi : i < 15) (a b k n : Int) : joinOk (opW i a b k n) = true ∧ (jl (opW i a b k n)).length ≤ 200 := by
  constructor
  · unfold joinOk
    rw [Bool.and_eq_true]
    constructor
    · rw [fineW, List.all_eq_true]
      intro s hs
      rw [(opW_mem hi hs).1]; rfl
    · rw [opW]
      simp only
      rw [(wordB_fine i hi).2.1]; rfl
  · have h1 := jl_len (opW i a b k n) (by rw [opW]; simp)
    have h2 := opW_szs i hi a b k n
    have h3 := opW_len i a b k n
    omega
theorem opW_js (i : Nat) (hi : i < 15) (a b k n : Int) : jS (opW i a b k n) = jl (opW i a b k n) ∧ jE (opW i a b k n) = 0 := by
  obtain ⟨h1, h2⟩ := opW_join i hi a b k n
  constructor
  · rw [jS, if_pos ⟨h1, by omega⟩]
  · rw [jE, if_pos h1, if_neg (by omega)]
theorem kindI_lt {kd : Int} {i : Nat} (h : kindI kd = some i) : i < 15 ∧ (i : Int) + 1 = kd := by
  rw [kindI, List.find?_range_eq_some] at h
  exact ⟨List.mem_range.1 h.2.1, by simpa using h.1⟩
theorem wordI_lt {s : ByteArray} {i : Nat} (h : wordI s = some i) : i < 15 ∧ op_wordB i = s := by
  rw [wordI, List.find?_range_eq_some] at h
  exact ⟨List.mem_range.1 h.2.1, by simpa using h.1⟩
end Go.Proofs.YtpdbkjnaicjfdaaGreatDoor

namespace Go.Proofs.YtpdbkjnaicjfdaaGreatDoor
open Go.RowKit Go.Maps
set_option linter.unusedVariables false

def texts (ss : List ByteArray) : List Value := ss.map Value.string
theorem texts_snoc (ss : List ByteArray) (s : ByteArray) : texts (ss ++ [s]) = texts ss ++ [.string s] := by simp [texts]
theorem info_str : (Tryz.prog.info? 9).map (fun i => (i.zero, i.size, i.bytes)) = some (some (.string ⟨#[]⟩), 1, 16) := by kernel_rfl

theorem returned_any (k n : Int) (w : World) (hn : I64 n) : Calls Tryz.prog 121 #[retV k n] w (Says (.string (retB k n)) w) := by
  have HP := Lib.hid (fun W => put_any n W hn.1 hn.2)
  have HR : Hid (retB k n = if k == 0 then okB else if k == 1 then noneB else putB n) := Lib.hid rfl
  generalize retB k n = r at HR
  unfold retV
  cases h0 : (k == 0) with
  | true =>
    obtain rfl : k = 0 := by simpa using h0
    go_enter Tryz.func121, Tryz.ntmps121
    go_wp2
    go_ret
    exact ⟨by rw [HR.out]; rfl, (Below.refl _ _).alloc (Nat.le_refl _) _⟩
  | false =>
    cases h1 : (k == 1) with
    | true =>
      obtain rfl : k = 1 := by simpa using h1
      go_enter Tryz.func121, Tryz.ntmps121
      go_wp2
      go_ret
      exact ⟨by rw [HR.out]; rfl, (Below.refl _ _).alloc (Nat.le_refl _) _⟩
    | false =>
      go_enter Tryz.func121, Tryz.ntmps121
      go_wp2_with fail
      refine (HP.out _).mono ?_
      rintro e w1 ⟨rfl, hB1⟩
      go_wp2
      go_ret
      exact ⟨by rw [HR.out, h0, h1]; rfl, nxt ((Below.refl _ _).alloc (Nat.le_refl _) _) hB1 (by simp)⟩
end Go.Proofs.YtpdbkjnaicjfdaaGreatDoor

namespace Go.Proofs.YtpdbkjnaicjfdaaGreatDoor
open Go.RowKit Go.Maps
set_option linter.unusedVariables false

theorem argN_le (i : Nat) : argN i ≤ 2 := by unfold argN; split <;> omega
theorem argW_step (m : Nat) (a b : Int) (k : Nat) (hk : k < m) (hm : m ≤ 2) : argW (k + 1) a b = argW k a b ++ [putB ([a, b][k]?.getD 0)] := by
  match k with
  | 0 => rfl
  | 1 => rfl
  | k + 2 => omega
theorem argW_l (a b : Int) (k : Nat) (hk : k ≤ 2) : (argW k a b).length = k := by
  rw [argW, List.length_map, List.length_take]; simp; omega

theorem strs_of_row {W : World} {base : Nat} {A : Option Addr} {c : Nat} {ss : List ByteArray} (h : W.ownsRow base 9 1 (.slice A ss.length c) ss.length (texts ss)) : Strs W.heap.size W A ss := by
  intro hl
  rcases h.2 with ⟨e, hn⟩ | ⟨g, cap, cur, e, hb, hg, _⟩
  · omega
  · injection e with e1 e2 e3
    subst e1 e3
    refine ⟨g, 0, rfl, (Array.getElem?_eq_some_iff.1 hg).1, fun j hj => ?_⟩
    rw [Nat.zero_add, h.cellAt j (by omega), texts, List.getElem?_map, List.getElem?_eq_getElem hj]
    rfl

set_option maxRecDepth 100000 in
set_option maxHeartbeats 2000000 in
theorem op_text_any (kd a b k n : Int) (w : World) (ha : I64 a) (hb : I64 b) (hn : I64 n) : Calls Tryz.prog 100 #[opV kd a b k n] w (Says (.tuple #[.string (textS kd a b k n), .int .i64 (checkP kd a b k n)]) w) := by
  have H := fun W => find_kind kd W
  have hP : Hid (checkP kd a b k n = match kindI kd with | none => 6 | some i => checkI i a b k n) := Lib.hid rfl
  have hT : Hid (textS kd a b k n = match kindI kd with | none => ⟨#[]⟩ | some i => if checkI i a b k n = 0 then strOfNums (jl (opW i a b k n)) else ⟨#[]⟩) := Lib.hid rfl
  have hI : Hid (∀ i, kindI kd = some i → i < 15) := Lib.hid fun i h => (kindI_lt h).1
  unfold fv at H
  generalize checkP kd a b k n = r at hP
  generalize textS kd a b k n = s at hT
  generalize kindI kd = o at H hP hT hI
  cases o with
  | none =>
    unfold opV
    go_enter Tryz.func100, Tryz.ntmps100
    go_wp2_with fail
    refine (H _).mono ?_
    rintro e w1 ⟨rfl, hB1⟩
    simp only [ruleOf, rule0, errOf]
    have hs := hB1.size
    simp only [World.size_alloc] at hs
    go_wp2
    go_ret2
    exact ⟨by rw [hP.out, hT.out]; rfl, Below.alloc (nxt ((Below.refl _ _).alloc (Nat.le_refl _) _) hB1 (by simp)) (by omega) _⟩
  | some i =>
    have HI := Lib.hid (hI.out i rfl)
    have HC := fun W => check_I i kd a b k n W
    have hP' : Hid (r = checkI i a b k n) := Lib.hid hP.out
    have hT' : Hid (s = if checkI i a b k n = 0 then strOfNums (jl (opW i a b k n)) else ⟨#[]⟩) := Lib.hid hT.out
    clear hP hT hI
    obtain ⟨x4, x5, x6, hx⟩ := ruleV_eq i
    have HO := Holds.new w 50 #[.int .i64 kd, .int .i64 a, .int .i64 b, .int .i64 k, .int .i64 n]
    unfold opV at HC ⊢
    generalize checkI i a b k n = c at HC hP' hT'
    go_enter Tryz.func100, Tryz.ntmps100
    go_wp2_with fail
    refine (H _).mono ?_
    rintro e w1 ⟨rfl, hB1⟩
    simp only [ruleOf, hx, errOf]
    rw [hx] at HC
    clear hx
    have hs := hB1.size
    simp only [World.size_alloc] at hs
    have HO1 := (HO.below hB1 (by simp)).alloc (.cells #[.int .i64 ((i : Int) + 1), .int .i64 (objN i), .string (op_wordB i), .int .i64 (argN i), .func (.func x4) #[] #[], .func (.func x5) #[] #[], .func (.func x6) #[] #[]] 177)
    have HR1 := Holds.new w1 177 #[.int .i64 ((i : Int) + 1), .int .i64 (objN i), .string (op_wordB i), .int .i64 (argN i), .func (.func x4) #[] #[], .func (.func x5) #[] #[], .func (.func x6) #[] #[]]
    have hB1' : Below w.heap.size w (w1.alloc (.cells #[.int .i64 ((i : Int) + 1), .int .i64 (objN i), .string (op_wordB i), .int .i64 (argN i), .func (.func x4) #[] #[], .func (.func x5) #[] #[], .func (.func x6) #[] #[]] 177)) := Below.alloc (nxt ((Below.refl _ _).alloc (Nat.le_refl _) _) hB1 (by simp)) (by omega) _
    have o0 := HO1.c (j := 0) rfl
    have o1 := HO1.c (j := 1) rfl
    have o2 := HO1.c (j := 2) rfl
    have o3 := HO1.c (j := 3) rfl
    have o4 := HO1.c (j := 4) rfl
    go_wp2_with fail
    refine (HC _).mono ?_
    rintro e w2 ⟨rfl, hB2⟩
    have hs2 := hB2.size
    simp only [World.size_alloc] at hs2
    have hB02 := nxt hB1' hB2 (by simp; omega)
    by_cases hc : c = 0
    · have HRS := Lib.hid (hP'.out.trans hc)
      have HTS := Lib.hid (show s = strOfNums (jl (opW i a b k n)) by rw [hT'.out, if_pos hc])
      clear hT' hP'
      have HO2 := HO1.below hB2 (by simp; omega)
      have HR2 := HR1.below hB2 (by simp)
      have q2 := HR2.c (j := 2) rfl
      have HO3 := HO2.alloc (.cells #[.string (op_wordB i)] 9)
      have p1 := HO3.c (j := 1) rfl
      have p2 := HO3.c (j := 2) rfl
      have HR4 := (HR2.alloc (.cells #[.string (op_wordB i)] 9)).alloc (.cells #[.int .i64 a, .int .i64 b] 3)
      have HO4 := HO3.alloc (.cells #[.int .i64 a, .int .i64 b] 3)
      have q3 := HR4.c (j := 3) rfl
      clear o0 o1 o2 o3 o4
      have hm := argN_le i
      have HJ := Lib.hid (opW_js i HI.out a b k n)
      have HW : Hid (opW i a b k n = op_wordB i :: (argW (argN i) a b ++ [arrB, retB k n])) := Lib.hid rfl
      have HZ := Lib.hid (opW_szs i HI.out a b k n)
      generalize opW i a b k n = ws at HTS HJ HW HZ
      generalize op_wordB i = wd at *
      generalize argN i = m at *
      clear HR1 HO1 HC
      subst hc
      have m0 : (0 : Int) ≤ (m : Int) := by omega
      have m2 : (m : Int) ≤ 2 := by omega
      go_wp2_with fail
      have HPa := Lib.hid (fun W => put_any a W ha.1 ha.2)
      have HPb := Lib.hid (fun W => put_any b W hb.1 hb.2)
      have HRet := Lib.hid (fun W => returned_any k n W hn)
      unfold retV at HRet
      obtain ⟨i0, hi, hz0, hz1, hz2⟩ := info_parts info_str
      have HI3 : Holds ((w2.alloc (.cells #[.string wd] 9)).alloc (.cells #[.int .i64 a, .int .i64 b] 3)) (w2.heap.size + 1) 3 #[.int .i64 a, .int .i64 b] := by
        have := Holds.new (w2.alloc (.cells #[.string wd] 9)) 3 #[.int .i64 a, .int .i64 b]
        rwa [World.size_alloc] at this
      clear p1 p2 q2 q3 HR4 HO4 HO3
      go_loopw [7, 9, 37] (fun s7 u9 i37 wr => ∃ (j : Nat) (q : Value), j ≤ m ∧ i37 = .int .i64 j ∧ s7 = q ∧ wr.ownsRow w2.heap.size 9 1 q (j + 1) (texts (wd :: argW j a b)) ∧ Holds wr (w2.heap.size + 1) 3 #[.int .i64 a, .int .i64 b] ∧ Below w2.heap.size w2 wr) (fun s7 u9 i37 wr => m - (intOf i37).toNat)
      case atStart =>
        refine ⟨0, .slice (some ⟨w2.heap.size, 0, none⟩) 1 1, Nat.zero_le _, rfl, rfl, ?_, HI3, ((Below.refl _ _).alloc (Nat.le_refl _) _).alloc (by simp) _⟩
        exact (World.ownsRow_lit w2 #[.string wd] 1 (Nat.le_refl _) (by unfold maxLen; omega) rfl).alloc _
      case round =>
        obtain ⟨j, q, hj, rfl, rfl, hrow, hInt, hB⟩ := hrel
        have hwr := hB.size
        have HROW := Lib.hid hrow
        obtain ⟨A', c', hq⟩ := row_one hrow
        subst hq
        clear hrow
        by_cases hlt : j < m
        · have j1 : (j : Int) < (m : Int) := by omega
          have j0 : (0 : Int) ≤ (j : Int) := by omega
          have jd : decide (j < m) = true := decide_eq_true hlt
          have hst := Lib.hid (argW_step m a b j hlt hm)
          have hin : ∃ x, wr.cell? ⟨w2.heap.size + 1, j, none⟩ = some (.int .i64 x) ∧ ([a, b][j]?.getD 0) = x ∧ (∀ W, Calls Tryz.prog 120 #[.int .i64 x] W (PutPost x W)) := by
            have : j = 0 ∨ j = 1 := by omega
            rcases this with rfl | rfl
            · exact ⟨a, hInt.c rfl, rfl, HPa.out⟩
            · exact ⟨b, hInt.c rfl, rfl, HPb.out⟩
          obtain ⟨x, hcx, hx, hput⟩ := hin
          rw [hx] at hst
          clear hx
          go_wp2_with fail
          refine (hput _).mono ?_
          rintro e w3 ⟨rfl, hB3⟩
          have hw3 := hB3.size
          have hrow3 := Lib.hid (row_below HROW.out hB3)
          have hInt3 := hInt.below hB3 hInt.lt
          clear hcx
          go_wp2_with (at_builtin; refine wpList_append_own_at _ rfl _ _ 32 rfl w2.heap.size 9 i0 (.string ⟨#[]⟩) 1 16 Tryz.underlying32 hi hz0 hz1 hz2 rfl (by decide) _ _ _ rfl (hrow3.out.alloc _) ⟨w3.heap.size, 0, none⟩ 1 1 [.string ⟨(putL x).toArray⟩] rfl rfl (cell_one_new _ _ _) (by intro u hu; simp at hu; subst hu; rfl) (by unfold maxLen; omega) (by omega) (by simp; omega) ?_; intro v5 w5 hown5 hg5 hnil5 hat5)
          refine ⟨⟨j + 1, v5, by omega, by go_num, rfl, ?_, ?_, ?_⟩, by simp [intOf]; omega⟩
          · rw [hst.out, ← List.cons_append, texts_snoc]
            exact hown5
          · exact (hInt3.alloc _).kept hg5 (hInt3.not_row hrow3.out (by decide))
          · exact ((nxt hB hB3 hwr).alloc (by omega) _).grown hg5 (by simp; omega) (fun k e => ((hrow3.out.lt k e).1))
        · have jm : j = m := by omega
          subst jm
          have jd : decide (j < j) = false := decide_eq_false (by omega)
          have HO5 := HO2.below hB (by omega)
          have o3 := HO5.c (j := 3) rfl
          have o4 := HO5.c (j := 4) rfl
          go_wp2_with fail
          refine (HRet.out _).mono ?_
          rintro e w3 ⟨rfl, hB3⟩
          have hw3 := hB3.size
          have hrow3 := Lib.hid (row_below HROW.out hB3)
          clear o3 o4
          go_wp2_with (at_builtin; refine wpList_append_own_at _ rfl _ _ 32 rfl w2.heap.size 9 i0 (.string ⟨#[]⟩) 1 16 Tryz.underlying32 hi hz0 hz1 hz2 rfl (by decide) _ _ _ rfl (hrow3.out.alloc _) ⟨w3.heap.size, 0, none⟩ 2 2 [.string arrB, .string (retB k n)] rfl rfl (cell_two_new _ _ _ _) (by intro u hu; simp at hu; rcases hu with rfl | rfl <;> rfl) (by unfold maxLen; omega) (by omega) (by simp; omega) ?_; intro v5 w5 hown5 hg5 hnil5 hat5)
          have hB5 : Below w2.heap.size w2 w5 := ((nxt hB hB3 hwr).alloc (by omega) _).grown hg5 (by simp; omega) (fun k e => ((hrow3.out.lt k e).1))
          have hlen : ws.length = j + 1 + 2 := by
            rw [HW.out, List.length_cons, List.length_append, argW_l a b j (by omega)]; rfl
          have hrowW : w5.ownsRow w2.heap.size 9 1 v5 ws.length (texts ws) := by
            rw [hlen, HW.out, ← List.cons_append]
            have e : texts ((wd :: argW j a b) ++ [arrB, retB k n]) = texts (wd :: argW j a b) ++ [.string arrB, .string (retB k n)] := by simp [texts]
            rw [e]
            exact hown5
          obtain ⟨A5, c5, hv5⟩ := row_one hrowW
          subst hv5
          have HJN := join_any A5 c5 ws w5 (strs_of_row hrowW) (by omega) (by have := HZ.out; omega)
          rw [hlen] at HJN
          refine Calls.mono (by rw [← hlen] at *; exact HJN) ?_
          rintro e w6 ⟨rfl, hB6⟩
          rw [HJ.out.1, HJ.out.2]
          go_wp2
          go_ret2
          exact ⟨by rw [HRS.out, HTS.out]; rfl, nxt (nxt hB02 hB5 (by omega)) hB6 (by have := hB5.size; omega)⟩
    · go_wp2
      go_ret2
      exact ⟨by rw [hP'.out, hT'.out, if_neg hc]; rfl, hB02⟩
end Go.Proofs.YtpdbkjnaicjfdaaGreatDoor

namespace Go.Proofs.YtpdbkjnaicjfdaaGreatDoor
open Go.RowKit Go.Maps
set_option linter.unusedVariables false

def fillE (s : ByteArray) (wrong : Int) : Int := if getE s.data.toList = 0 then 0 else wrong
def fillC (s : ByteArray) (off : Nat) (cs : Array Value) : Array Value := if getE s.data.toList = 0 then cs.setIfInBounds off (.int .i64 (getN s.data.toList)) else cs
def FillPost (s : ByteArray) (wrong : Int) (B off : Nat) (t : TypeId) (cs : Array Value) (W : World) (e : Ending) (W' : World) : Prop :=
  e = .returned (.int .i64 (fillE s wrong)) ∧ Holds W' B t (fillC s off cs) ∧ Only B W W'

theorem fill_any (s : ByteArray) (wrong : Int) (B off : Nat) (t : TypeId) (cs : Array Value) (u : Value) (W : World) (hH : Holds W B t cs) (ho : cs[off]? = some u) (hs : s.size ≤ maxLen) :
    Calls Tryz.prog 173 #[.pointer (some ⟨B, off, none⟩), .string s, .int .i64 wrong] W (FillPost s wrong B off t cs W) := by
  have HG := Lib.hid (fun W => get_any s W hs)
  have HE : Hid (fillE s wrong = if getE s.data.toList = 0 then 0 else wrong) := Lib.hid rfl
  have HC : Hid (fillC s off cs = if getE s.data.toList = 0 then cs.setIfInBounds off (.int .i64 (getN s.data.toList)) else cs) := Lib.hid rfl
  unfold FillPost
  unfold GetPost at HG
  generalize fillE s wrong = r at HE ⊢
  generalize fillC s off cs = cs' at HC ⊢
  generalize getE s.data.toList = ge at HG HE HC
  generalize getN s.data.toList = gn at HG HC
  generalize getP s.data.toList = gp at HG
  by_cases h0 : ge = 0
  · subst h0
    go_enter Tryz.func173, Tryz.ntmps173
    go_wp2_with fail
    refine (HG.out _).mono ?_
    rintro e w1 ⟨rfl, hB1⟩
    have H1 := (hH.below hB1 hH.lt).alloc (.cells #[.int .i64 0, .int .i64 gp] 29)
    have c1 := H1.c ho
    have f1 := H1.frozen off
    go_wp2
    go_ret
    exact ⟨by rw [HE.out, if_pos trivial]; rfl, by rw [HC.out, if_pos trivial]; exact H1.set off _, (Only.of (hB1.alloc hB1.size _) (Nat.le_refl _)).set off _⟩
  · have hb : (ge == 0) = false := by simpa using h0
    go_enter Tryz.func173, Tryz.ntmps173
    go_wp2_with fail
    refine (HG.out _).mono ?_
    rintro e w1 ⟨rfl, hB1⟩
    go_wp2
    go_ret
    exact ⟨by rw [HE.out, if_neg h0]; rfl, by rw [HC.out, if_neg h0]; exact (hH.below hB1 hH.lt).alloc _, Only.of (hB1.alloc hB1.size _) (Nat.le_refl _)⟩

/-- The cells of a reader. -/
def rdL (o : Option Nat) (kd a b k n : Int) (v : Value) : Array Value := ((match o with
  | none => [.int .i64 0, .int .i64 0, .string ⟨#[]⟩, .int .i64 0, .nilFunc, .nilFunc, .nilFunc]
  | some i => ruleL i) ++ [.int .i64 kd, .int .i64 a, .int .i64 b, .int .i64 k, .int .i64 n, v]).toArray

def fS : Nat → Nat
  | 0 => 143
  | 1 => 164
  | 2 => 165
  | 3 => 166
  | _ => 167
def stepV (B : Nat) (c : Nat) : Value := .func (.func (fS c)) #[.pointer (some ⟨B, 0, none⟩)] #[]

/-- What a reader has. -/
structure op_St where
  asked : Option Nat
  kd : Int
  a : Int
  b : Int
  k : Int
  n : Int
  steps : List Nat

/-- Block B is a reader: its steps lie in v. -/
structure Rd (W : World) (lo B : Nat) (v : Value) (st : op_St) : Prop where
  cells : Holds W B 215 (rdL st.asked st.kd st.a st.b st.k st.n v)
  hB : lo ≤ B
  row : W.ownsRow lo 151 1 v st.steps.length (st.steps.map (stepV B))

theorem Rd.apart {W : World} {lo B : Nat} {v : Value} {st : op_St} (h : Rd W lo B v st) : some B ≠ v.ownBlock := h.cells.not_row h.row (by decide)
theorem Rd.lt {W : World} {lo B : Nat} {v : Value} {st : op_St} (h : Rd W lo B v st) : B < W.heap.size := h.cells.lt
/-- The cells are turned, the steps are not. -/
theorem Rd.turn {W W' : World} {lo B : Nat} {v : Value} {st : op_St} (h : Rd W lo B v st) (hO : Only B W W') (st' : op_St) (hs : st'.steps = st.steps) (hc : Holds W' B 215 (rdL st'.asked st'.kd st'.a st'.b st'.k st'.n v)) : Rd W' lo B v st' :=
  ⟨hc, h.hB, by rw [hs]; exact h.row.kept hO.grown (.inr h.apart.symm)⟩
theorem Rd.below {W W' : World} {lo B n : Nat} {v : Value} {st : op_St} (h : Rd W lo B v st) (hb : Below n W W') (hn : W.heap.size ≤ n) : Rd W' lo B v st :=
  ⟨h.cells.below hb (by have := h.lt; omega), h.hB, row_below h.row (hb.mono hn)⟩

def StepPost (lo B : Nat) (st' : op_St) (r : Int) (W : World) (e : Ending) (W' : World) : Prop := e = .returned (.int .i64 r) ∧ ∃ v', Rd W' lo B v' st' ∧ Below lo W W'

def stA (s : ByteArray) (st : op_St) : op_St := if getE s.data.toList = 0 then { st with a := getN s.data.toList } else st
def stB (s : ByteArray) (st : op_St) : op_St := if getE s.data.toList = 0 then { st with b := getN s.data.toList } else st
def stN (s : ByteArray) (st : op_St) : op_St := if getE s.data.toList = 0 then { st with n := getN s.data.toList } else st
def stR (s : ByteArray) (st : op_St) : op_St := if s == okB then { st with k := 0 } else if s == noneB then { st with k := 1 } else stN s { st with k := 2 }
def resE (s : ByteArray) : Int := if s == okB then 0 else if s == noneB then 0 else fillE s 9
def arrE (s : ByteArray) : Int := if s == arrB then 0 else 5

theorem fillC_A (s : ByteArray) (st : op_St) (v : Value) : fillC s 8 (rdL st.asked st.kd st.a st.b st.k st.n v) = rdL (stA s st).asked (stA s st).kd (stA s st).a (stA s st).b (stA s st).k (stA s st).n v := by
  unfold fillC stA
  split
  · cases h : st.asked <;> rfl
  · rfl
theorem fillC_B (s : ByteArray) (st : op_St) (v : Value) : fillC s 9 (rdL st.asked st.kd st.a st.b st.k st.n v) = rdL (stB s st).asked (stB s st).kd (stB s st).a (stB s st).b (stB s st).k (stB s st).n v := by
  unfold fillC stB
  split
  · cases h : st.asked <;> rfl
  · rfl
theorem fillC_N (s : ByteArray) (st : op_St) (v : Value) : fillC s 11 (rdL st.asked st.kd st.a st.b st.k st.n v) = rdL (stN s st).asked (stN s st).kd (stN s st).a (stN s st).b (stN s st).k (stN s st).n v := by
  unfold fillC stN
  split
  · cases h : st.asked <;> rfl
  · rfl
theorem rd_at (o : Option Nat) (kd a b k n : Int) (v : Value) : (rdL o kd a b k n v)[7]? = some (.int .i64 kd) ∧ (rdL o kd a b k n v)[8]? = some (.int .i64 a) ∧ (rdL o kd a b k n v)[9]? = some (.int .i64 b) ∧ (rdL o kd a b k n v)[10]? = some (.int .i64 k) ∧ (rdL o kd a b k n v)[11]? = some (.int .i64 n) ∧ (rdL o kd a b k n v)[12]? = some v := by
  cases o <;> exact ⟨rfl, rfl, rfl, rfl, rfl, rfl⟩
theorem rd_k (o : Option Nat) (kd a b k n : Int) (v : Value) (x : Int) : (rdL o kd a b k n v).setIfInBounds 10 (.int .i64 x) = rdL o kd a b x n v := by cases o <;> rfl

theorem arrB_list : arrB.toList = [45, 62] := by rw [Go.ByteArray.toList_eq]; rfl
theorem okB_list : okB.toList = [111, 107] := by rw [Go.ByteArray.toList_eq]; rfl
theorem noneB_list : noneB.toList = [110, 111, 110, 101] := by rw [Go.ByteArray.toList_eq]; rfl

theorem argA_any (s : ByteArray) (lo B : Nat) (v : Value) (st : op_St) (W : World) (h : Rd W lo B v st) (hlo : lo ≤ W.heap.size) (hs : s.size ≤ maxLen) :
    Calls Tryz.prog 164 #[.pointer (some ⟨B, 0, none⟩), .string s] W (StepPost lo B (stA s st) (fillE s 5) W) := by
  have HF := Lib.hid (fill_any s 5 B 8 215 _ _ W h.cells (rd_at _ _ _ _ _ _ _).2.1 hs)
  have HR := Lib.hid h
  clear h
  go_enter Tryz.func164, Tryz.ntmps164
  go_wp2_with fail
  refine HF.out.mono ?_
  rintro e w1 ⟨rfl, hH, hO⟩
  go_wp2
  go_ret
  refine ⟨rfl, v, HR.out.turn hO (stA s st) (by unfold stA; split <;> rfl) (by rw [← fillC_A]; exact hH), hO.below HR.out.hB hlo⟩
theorem argB_any (s : ByteArray) (lo B : Nat) (v : Value) (st : op_St) (W : World) (h : Rd W lo B v st) (hlo : lo ≤ W.heap.size) (hs : s.size ≤ maxLen) :
    Calls Tryz.prog 165 #[.pointer (some ⟨B, 0, none⟩), .string s] W (StepPost lo B (stB s st) (fillE s 5) W) := by
  have HF := Lib.hid (fill_any s 5 B 9 215 _ _ W h.cells (rd_at _ _ _ _ _ _ _).2.2.1 hs)
  have HR := Lib.hid h
  clear h
  go_enter Tryz.func165, Tryz.ntmps165
  go_wp2_with fail
  refine HF.out.mono ?_
  rintro e w1 ⟨rfl, hH, hO⟩
  go_wp2
  go_ret
  refine ⟨rfl, v, HR.out.turn hO (stB s st) (by unfold stB; split <;> rfl) (by rw [← fillC_B]; exact hH), hO.below HR.out.hB hlo⟩
theorem arrow_any (s : ByteArray) (lo B : Nat) (v : Value) (st : op_St) (W : World) (h : Rd W lo B v st) (hlo : lo ≤ W.heap.size) :
    Calls Tryz.prog 166 #[.pointer (some ⟨B, 0, none⟩), .string s] W (StepPost lo B st (arrE s) W) := by
  have HR := Lib.hid h
  clear h
  cases hb : (s == arrB) with
  | true =>
    obtain rfl : s = arrB := by simpa using hb
    go_enter Tryz.func166, Tryz.ntmps166
    unfold arrB
    go_wp2
    go_ret
    exact ⟨rfl, v, HR.out, Below.refl _ _⟩
  | false =>
    have hE : Hid (arrE s = 5) := Lib.hid (by unfold arrE; rw [hb]; rfl)
    rw [beq_toListBytes, arrB_list] at hb
    go_enter Tryz.func166, Tryz.ntmps166
    go_wp2
    go_ret
    exact ⟨by rw [hE.out]; rfl, v, HR.out, Below.refl _ _⟩

set_option maxHeartbeats 1000000 in
theorem result_any (s : ByteArray) (lo B : Nat) (v : Value) (st : op_St) (W : World) (h : Rd W lo B v st) (hlo : lo ≤ W.heap.size) (hs : s.size ≤ maxLen) :
    Calls Tryz.prog 167 #[.pointer (some ⟨B, 0, none⟩), .string s] W (StepPost lo B (stR s st) (resE s) W) := by
  have c10 := h.cells.c (rd_at _ _ _ _ _ _ _).2.2.2.1
  have f10 := h.cells.frozen 10
  have hS : ∀ x : Int, Rd (W.setCell ⟨B, 10, none⟩ (.int .i64 x)) lo B v { st with k := x } := fun x => h.turn ((Only.of (Below.refl W.heap.size W) (Nat.le_refl _)).set 10 _) { st with k := x } rfl (by
    have := h.cells.set 10 (.int .i64 x)
    rwa [rd_k] at this)
  have HS := Lib.hid hS
  have HR := Lib.hid h
  have HB : Hid (∀ x : Int, Below lo W (W.setCell ⟨B, 10, none⟩ (.int .i64 x))) := Lib.hid fun x => (Below.refl _ _).setCell h.hB _
  clear h hS
  cases hb : (s == okB) with
  | true =>
    obtain rfl : s = okB := by simpa using hb
    go_enter Tryz.func167, Tryz.ntmps167
    unfold okB
    go_wp2
    go_ret
    exact ⟨rfl, v, HS.out 0, HB.out 0⟩
  | false =>
    cases hc : (s == noneB) with
    | true =>
      obtain rfl : s = noneB := by simpa using hc
      go_enter Tryz.func167, Tryz.ntmps167
      unfold noneB
      go_wp2
      go_ret
      exact ⟨rfl, v, HS.out 1, HB.out 1⟩
    | false =>
      have hE : Hid (resE s = fillE s 9) := Lib.hid (by unfold resE; rw [hb, hc]; rfl)
      have hT : Hid (stR s st = stN s { st with k := 2 }) := Lib.hid (by unfold stR; rw [hb, hc]; rfl)
      rw [beq_toListBytes, okB_list] at hb
      rw [beq_toListBytes, noneB_list] at hc
      have HF := Lib.hid (fill_any s 9 B 11 215 _ _ _ (HS.out 2).cells (rd_at _ _ _ _ _ _ _).2.2.2.2.1 hs)
      go_enter Tryz.func167, Tryz.ntmps167
      go_wp2_with fail
      refine HF.out.mono ?_
      rintro e w1 ⟨rfl, hH, hO⟩
      go_wp2
      go_ret
      refine ⟨by rw [hE.out]; rfl, v, ?_, (HB.out 2).trans (hO.below HR.out.hB (by simpa [World.setCell] using hlo))⟩
      rw [hT.out]
      exact (HS.out 2).turn hO (stN s { st with k := 2 }) (by unfold stN; split <;> rfl) (by rw [← fillC_N]; exact hH)
end Go.Proofs.YtpdbkjnaicjfdaaGreatDoor

namespace Go.Proofs.YtpdbkjnaicjfdaaGreatDoor
open Go.RowKit Go.Maps
set_option linter.unusedVariables false

def kindSt (s : ByteArray) (st : op_St) : op_St := match wordI s with
  | none => st
  | some i => { st with asked := some i, kd := (i : Int) + 1, steps := st.steps ++ ([1, 2].take (argN i) ++ [3, 4]) }

theorem size_set (w : World) (a : Addr) (v : Value) : (w.setCell a v).heap.size = w.heap.size := by simp [World.setCell]
theorem info_step : (Tryz.prog.info? 151).map (fun i => (i.zero, i.size, i.bytes)) = some (some .nilFunc, 1, 8) := by kernel_rfl
theorem rd_v (o : Option Nat) (kd a b k n : Int) (v u : Value) : (rdL o kd a b k n v).setIfInBounds 12 u = rdL o kd a b k n u := by cases o <;> rfl

/-- Steps were appended, and the slice was stored. -/
theorem Rd.pushed {W w5 : World} {lo B : Nat} {v v5 : Value} {st : op_St} {tmp : Obj} (h : Rd W lo B v st) (cs : List Nat) (hg : (W.alloc tmp).grownBy w5 v.ownBlock) (hr : w5.ownsRow lo 151 1 v5 (st.steps.length + cs.length) (st.steps.map (stepV B) ++ cs.map (stepV B))) (hlo : lo ≤ W.heap.size) :
    Rd (w5.setCell ⟨B, 12, none⟩ v5) lo B v5 { st with steps := st.steps ++ cs } ∧ Below lo W (w5.setCell ⟨B, 12, none⟩ v5) ∧ w5.cell? ⟨B, 12, none⟩ = some v ∧ w5.frozen? ⟨B, 12, none⟩ = false := by
  have hc5 : Holds w5 B 215 (rdL st.asked st.kd st.a st.b st.k st.n v) := (h.cells.alloc tmp).kept hg h.apart
  have hb5 : Below lo W w5 := ((Below.refl _ _).alloc hlo _).grown hg (by simp; omega) (fun k e => (h.row.lt k e).1)
  refine ⟨⟨?_, h.hB, ?_⟩, hb5.setCell h.hB _, hc5.c (rd_at _ _ _ _ _ _ _).2.2.2.2.2, hc5.frozen 12⟩
  · have := hc5.set 12 v5
    rwa [rd_v] at this
  · have hO : Only B w5 (w5.setCell ⟨B, 12, none⟩ v5) := (Only.of (Below.refl w5.heap.size w5) (Nat.le_refl _)).set 12 v5
    have e1 : ({ st with steps := st.steps ++ cs } : op_St).steps.length = st.steps.length + cs.length := by simp
    have e2 : ({ st with steps := st.steps ++ cs } : op_St).steps.map (stepV B) = st.steps.map (stepV B) ++ cs.map (stepV B) := by simp
    rw [e1, e2]
    exact hr.kept hO.grown (.inr (hc5.not_row hr (by decide)).symm)
theorem Rd.c12 {W : World} {lo B : Nat} {v : Value} {st : op_St} (h : Rd W lo B v st) : W.cell? ⟨B, 12, none⟩ = some v := h.cells.c (rd_at _ _ _ _ _ _ _).2.2.2.2.2

theorem set8 {W : World} {B : Nat} {t : TypeId} {i : Nat} {y0 y1 y2 y3 y4 y5 y6 y7 a b k n v : Value} (h : Holds W B t #[y0, y1, y2, y3, y4, y5, y6, y7, a, b, k, n, v]) (x0 x1 x2 x3 x4 x5 x6 x7 : Value) :
    Holds ((((((((W.setCell ⟨B, 0, none⟩ x0).setCell ⟨B, 1, none⟩ x1).setCell ⟨B, 2, none⟩ x2).setCell ⟨B, 3, none⟩ x3).setCell ⟨B, 4, none⟩ x4).setCell ⟨B, 5, none⟩ x5).setCell ⟨B, 6, none⟩ x6).setCell ⟨B, 7, none⟩ x7) B t #[x0, x1, x2, x3, x4, x5, x6, x7, a, b, k, n, v] := by
  have h0 : Holds (W.setCell ⟨B, 0, none⟩ x0) B t #[x0, y1, y2, y3, y4, y5, y6, y7, a, b, k, n, v] := h.set 0 x0
  have h1 : Holds ((W.setCell ⟨B, 0, none⟩ x0).setCell ⟨B, 1, none⟩ x1) B t #[x0, x1, y2, y3, y4, y5, y6, y7, a, b, k, n, v] := h0.set 1 x1
  have h2 : Holds (((W.setCell ⟨B, 0, none⟩ x0).setCell ⟨B, 1, none⟩ x1).setCell ⟨B, 2, none⟩ x2) B t #[x0, x1, x2, y3, y4, y5, y6, y7, a, b, k, n, v] := h1.set 2 x2
  have h3 : Holds ((((W.setCell ⟨B, 0, none⟩ x0).setCell ⟨B, 1, none⟩ x1).setCell ⟨B, 2, none⟩ x2).setCell ⟨B, 3, none⟩ x3) B t #[x0, x1, x2, x3, y4, y5, y6, y7, a, b, k, n, v] := h2.set 3 x3
  have h4 : Holds (((((W.setCell ⟨B, 0, none⟩ x0).setCell ⟨B, 1, none⟩ x1).setCell ⟨B, 2, none⟩ x2).setCell ⟨B, 3, none⟩ x3).setCell ⟨B, 4, none⟩ x4) B t #[x0, x1, x2, x3, x4, y5, y6, y7, a, b, k, n, v] := h3.set 4 x4
  have h5 : Holds ((((((W.setCell ⟨B, 0, none⟩ x0).setCell ⟨B, 1, none⟩ x1).setCell ⟨B, 2, none⟩ x2).setCell ⟨B, 3, none⟩ x3).setCell ⟨B, 4, none⟩ x4).setCell ⟨B, 5, none⟩ x5) B t #[x0, x1, x2, x3, x4, x5, y6, y7, a, b, k, n, v] := h4.set 5 x5
  have h6 : Holds (((((((W.setCell ⟨B, 0, none⟩ x0).setCell ⟨B, 1, none⟩ x1).setCell ⟨B, 2, none⟩ x2).setCell ⟨B, 3, none⟩ x3).setCell ⟨B, 4, none⟩ x4).setCell ⟨B, 5, none⟩ x5).setCell ⟨B, 6, none⟩ x6) B t #[x0, x1, x2, x3, x4, x5, x6, y7, a, b, k, n, v] := h5.set 6 x6
  have h7 : Holds ((((((((W.setCell ⟨B, 0, none⟩ x0).setCell ⟨B, 1, none⟩ x1).setCell ⟨B, 2, none⟩ x2).setCell ⟨B, 3, none⟩ x3).setCell ⟨B, 4, none⟩ x4).setCell ⟨B, 5, none⟩ x5).setCell ⟨B, 6, none⟩ x6).setCell ⟨B, 7, none⟩ x7) B t #[x0, x1, x2, x3, x4, x5, x6, x7, a, b, k, n, v] := h6.set 7 x7
  exact h7
theorem only8 (W : World) (B : Nat) (x0 x1 x2 x3 x4 x5 x6 x7 : Value) : Only B W ((((((((W.setCell ⟨B, 0, none⟩ x0).setCell ⟨B, 1, none⟩ x1).setCell ⟨B, 2, none⟩ x2).setCell ⟨B, 3, none⟩ x3).setCell ⟨B, 4, none⟩ x4).setCell ⟨B, 5, none⟩ x5).setCell ⟨B, 6, none⟩ x6).setCell ⟨B, 7, none⟩ x7) :=
  ((((((((Only.of (Below.refl W.heap.size W) (Nat.le_refl _)).set 0 x0).set 1 x1).set 2 x2).set 3 x3).set 4 x4).set 5 x5).set 6 x6).set 7 x7
theorem Only.drew {B : Nat} {w w' : World} (h : Only B w w') : Only B w w'.drew := ⟨h.os, h.tape, h.output, h.size, h.block⟩
theorem Holds.drew {W : World} {B : Nat} {t : TypeId} {cs : Array Value} (h : Holds W B t cs) : Holds W.drew B t cs := h

set_option maxRecDepth 100000 in
set_option maxHeartbeats 2000000 in
theorem kind_step (s : ByteArray) (lo B : Nat) (v : Value) (st : op_St) (W : World) (h : Rd W lo B v st) (hlo : lo ≤ W.heap.size) (hl : st.steps.length ≤ 100000) :
    Calls Tryz.prog 143 #[.pointer (some ⟨B, 0, none⟩), .string s] W (StepPost lo B (kindSt s st) (errOf (wordI s)) W) := by
  have H := fun W => find_word s W
  have HK : Hid (kindSt s st = match wordI s with | none => st | some i => { st with asked := some i, kd := (i : Int) + 1, steps := st.steps ++ ([1, 2].take (argN i) ++ [3, 4]) }) := Lib.hid rfl
  have HR := Lib.hid h
  clear h
  unfold fv at H
  generalize kindSt s st = st' at HK
  generalize wordI s = o at H HK
  cases o with
  | none =>
    go_enter Tryz.func143, Tryz.ntmps143
    go_wp2_with fail
    refine (H _).mono ?_
    rintro e w1 ⟨rfl, hB1⟩
    simp only [ruleOf, rule0, errOf]
    go_wp2
    go_ret
    refine ⟨rfl, v, ?_, (hB1.alloc hB1.size _).mono hlo⟩
    rw [HK.out]
    exact HR.out.below (hB1.alloc hB1.size _) (Nat.le_refl _)
  | some i =>
    have HK' : Hid (st' = { st with asked := some i, kd := (i : Int) + 1, steps := st.steps ++ ([1, 2].take (argN i) ++ [3, 4]) }) := Lib.hid HK.out
    clear HK
    obtain ⟨x4, x5, x6, hx⟩ := ruleV_eq i
    go_enter Tryz.func143, Tryz.ntmps143
    go_wp2_with fail
    refine (H _).mono ?_
    rintro e w1 ⟨rfl, hB1⟩
    simp only [ruleOf, hx, errOf]
    have HX := Lib.hid hx
    clear hx
    go_wp2_with fail
    have hRn := Holds.new w1 177 #[.int .i64 ((i : Int) + 1), .int .i64 (objN i), .string (op_wordB i), .int .i64 (argN i), .func (.func x4) #[] #[], .func (.func x5) #[] #[], .func (.func x6) #[] #[]]
    have hRd2 := HR.out.below (hB1.alloc hB1.size (.cells #[.int .i64 ((i : Int) + 1), .int .i64 (objN i), .string (op_wordB i), .int .i64 (argN i), .func (.func x4) #[] #[], .func (.func x5) #[] #[], .func (.func x6) #[] #[]] 177)) (Nat.le_refl _)
    have hBW : B < w1.heap.size := by have := HR.out.lt; have := hB1.size; omega
    have hB2 := hB1.alloc hB1.size (.cells #[.int .i64 ((i : Int) + 1), .int .i64 (objN i), .string (op_wordB i), .int .i64 (argN i), .func (.func x4) #[] #[], .func (.func x5) #[] #[], .func (.func x6) #[] #[]] 177)
    obtain ⟨W2, hW2⟩ : ∃ W2, W2 = w1.alloc (.cells #[.int .i64 ((i : Int) + 1), .int .i64 (objN i), .string (op_wordB i), .int .i64 (argN i), .func (.func x4) #[] #[], .func (.func x5) #[] #[], .func (.func x6) #[] #[]] 177) := ⟨_, rfl⟩
    rw [← hW2] at hRn hRd2 hB2 ⊢
    clear hW2
    obtain ⟨R, hR⟩ : ∃ R, w1.heap.size = R := ⟨_, rfl⟩
    rw [hR] at hRn hBW ⊢
    clear hR hB1 H
    have hne : B ≠ R := by omega
    have hne' : R ≠ B := by omega
    have r0 := hRn.c (j := 0) rfl
    have r1 := hRn.c (j := 1) rfl
    have r2 := hRn.c (j := 2) rfl
    have r3 := hRn.c (j := 3) rfl
    have r4 := hRn.c (j := 4) rfl
    have r5 := hRn.c (j := 5) rfl
    have r6 := hRn.c (j := 6) rfl
    obtain ⟨y0, y1, y2, y3, y4, y5, y6, hy⟩ : ∃ y0 y1 y2 y3 y4 y5 y6, rdL st.asked st.kd st.a st.b st.k st.n v = #[y0, y1, y2, y3, y4, y5, y6, .int .i64 st.kd, .int .i64 st.a, .int .i64 st.b, .int .i64 st.k, .int .i64 st.n, v] := by
      cases st.asked <;> exact ⟨_, _, _, _, _, _, _, rfl⟩
    have hc2 := hRd2.cells
    rw [hy] at hc2
    have b0 := hc2.c (j := 0) rfl
    have b1 := hc2.c (j := 1) rfl
    have b2 := hc2.c (j := 2) rfl
    have b3 := hc2.c (j := 3) rfl
    have b4 := hc2.c (j := 4) rfl
    have b5 := hc2.c (j := 5) rfl
    have b6 := hc2.c (j := 6) rfl
    have b7 := hc2.c (j := 7) rfl
    have f0 := hc2.frozen 0
    have f1 := hc2.frozen 1
    have f2 := hc2.frozen 2
    have f3 := hc2.frozen 3
    have f4 := hc2.frozen 4
    have f5 := hc2.frozen 5
    have f6 := hc2.frozen 6
    have f7 := hc2.frozen 7
    have HY := Lib.hid hy
    have HRd2 := Lib.hid hRd2
    have HC2 := Lib.hid hc2
    have HRn := Lib.hid hRn
    clear hy hRd2 hc2 hRn
    go_region_held3 (fun w' => w'.cell? ⟨R, 0, none⟩ = some (.int .i64 ((i : Int) + 1)) ∧ w'.cell? ⟨R, 1, none⟩ = some (.int .i64 (objN i)) ∧ w'.cell? ⟨R, 2, none⟩ = some (.string (op_wordB i)) ∧ w'.cell? ⟨R, 3, none⟩ = some (.int .i64 (argN i)) ∧ w'.cell? ⟨R, 4, none⟩ = some (.func (.func x4) #[] #[]) ∧ w'.cell? ⟨R, 5, none⟩ = some (.func (.func x5) #[] #[]) ∧ w'.cell? ⟨R, 6, none⟩ = some (.func (.func x6) #[] #[])) (first | go_keep) (fail)
    have hO3 := (only8 W2 B (.int .i64 ((i : Int) + 1)) (.int .i64 (objN i)) (.string (op_wordB i)) (.int .i64 (argN i)) (.func (.func x4) #[] #[]) (.func (.func x5) #[] #[]) (.func (.func x6) #[] #[]) (.int .i64 ((i : Int) + 1))).drew
    have hc3 := (set8 (i := i) HC2.out (.int .i64 ((i : Int) + 1)) (.int .i64 (objN i)) (.string (op_wordB i)) (.int .i64 (argN i)) (.func (.func x4) #[] #[]) (.func (.func x5) #[] #[]) (.func (.func x6) #[] #[]) (.int .i64 ((i : Int) + 1))).drew
    obtain ⟨W3, hW3⟩ : ∃ W3, W3 = ((((((((W2.setCell ⟨B, 0, none⟩ (.int .i64 ((i : Int) + 1))).setCell ⟨B, 1, none⟩ (.int .i64 (objN i))).setCell ⟨B, 2, none⟩ (.string (op_wordB i))).setCell ⟨B, 3, none⟩ (.int .i64 (argN i))).setCell ⟨B, 4, none⟩ (.func (.func x4) #[] #[])).setCell ⟨B, 5, none⟩ (.func (.func x5) #[] #[])).setCell ⟨B, 6, none⟩ (.func (.func x6) #[] #[])).setCell ⟨B, 7, none⟩ (.int .i64 ((i : Int) + 1))).drew := ⟨_, rfl⟩
    rw [← hW3] at hO3 hc3 ⊢
    clear hW3 b0 b1 b2 b3 b4 b5 b6 b7 f0 f1 f2 f3 f4 f5 f6 f7 r0 r1 r2 r3 r4 r5 r6
    have hR3 := HRn.out.of (hO3.block R HRn.out.lt hne')
    have hL : ruleL i = [.int .i64 ((i : Int) + 1), .int .i64 (objN i), .string (op_wordB i), .int .i64 (argN i), .func (.func x4) #[] #[], .func (.func x5) #[] #[], .func (.func x6) #[] #[]] := by
      have h := HX.out
      rw [ruleV] at h
      injection h with h
      exact congrArg Array.toList h
    obtain ⟨st3, hst3⟩ : ∃ st3 : op_St, st3 = { st with asked := some i, kd := (i : Int) + 1 } := ⟨_, rfl⟩
    have hRd3 : Rd W3 lo B v st3 := HRd2.out.turn hO3 st3 (by rw [hst3]) (by
      rw [hst3]
      simp only [rdL, hL]
      exact hc3)
    have hB3 : Below lo W W3 := (hB2.mono hlo).trans (hO3.below HR.out.hB (Nat.le_trans hlo hB2.size))
    have hlo3 : lo ≤ W3.heap.size := Nat.le_trans hlo hB3.size
    have hl3 : st3.steps.length ≤ 100000 := by rw [hst3]; exact hl
    have HST : Hid (st' = { st3 with steps := st3.steps ++ ([1, 2].take (argN i) ++ [3, 4]) }) := Lib.hid (by rw [HK'.out, hst3])
    have HRd3 := Lib.hid hRd3
    have c12 := hRd3.c12
    have f12 := hRd3.cells.frozen 12
    have hm := argN_le i
    clear hst3 hRd3 hc3 HC2 HRd2 hB2 hO3 HK' HX hL
    obtain ⟨i0, hi, hz0, hz1, hz2⟩ := info_parts info_step
    generalize argN i = m at *
    obtain rfl | rfl | rfl : m = 0 ∨ m = 1 ∨ m = 2 := by omega
    · have r3 := hR3.c (j := 3) rfl
      go_wp2_with (at_builtin; refine wpList_append_own_at _ rfl _ _ 213 rfl lo 151 i0 .nilFunc 1 8 Tryz.underlying213 hi hz0 hz1 hz2 rfl (by decide) _ _ _ rfl (HRd3.out.row.alloc _) ⟨W3.heap.size, 0, none⟩ 2 2 [stepV B 3, stepV B 4] rfl rfl (cell_two_new _ _ _ _) (by intro u hu; simp at hu; rcases hu with rfl | rfl <;> rfl) (by unfold maxLen; omega) (by omega) (by simp; omega) ?_; intro v5 w5 hown5 hg5 hnil5 hat5; obtain ⟨hp5, hb5, c125, f125⟩ := HRd3.out.pushed [3, 4] hg5 hown5 hlo3; obtain ⟨A5, c5, rfl⟩ := row_one hown5)
      go_ret
      have est : st' = { st3 with steps := st3.steps ++ [3, 4] } := by rw [HST.out]; simp
      rw [est]
      exact ⟨rfl, _, hp5, hB3.trans hb5⟩
    · have r3 := hR3.c (j := 3) rfl
      go_wp2_with (first | (at_builtin; refine wpList_append_own_at _ rfl _ _ 213 rfl lo 151 i0 .nilFunc 1 8 Tryz.underlying213 hi hz0 hz1 hz2 rfl (by decide) _ _ _ rfl (HRd3.out.row.alloc _) ⟨W3.heap.size, 0, none⟩ 1 1 [stepV B 1] rfl rfl (cell_one_new _ _ _) (by intro u hu; simp at hu; subst hu; rfl) (by unfold maxLen; omega) (by omega) (by simp; omega) ?_; intro v5 w5 hown5 hg5 hnil5 hat5; have hR5 := (hR3.alloc _).kept hg5 (hR3.not_row HRd3.out.row (by decide)); obtain ⟨hp5, hb5, c125, f125⟩ := HRd3.out.pushed [1] hg5 hown5 hlo3; obtain ⟨st5, hst5⟩ : ∃ st5 : op_St, st5 = { st3 with steps := st3.steps ++ [1] } := ⟨_, rfl⟩; rw [← hst5] at hp5; have hl5 : st5.steps.length ≤ 100005 := (by rw [hst5]; simp; omega); have HS5 := Lib.hid hst5; clear hst5; have hR5' := hR5.of (Below.heap_setCell w5 ⟨B, 12, none⟩ v5 R hne'); have r35 := hR5'.c (j := 3) rfl; have e125 := hp5.c12; have g125 := hp5.cells.frozen 12; have hlo5 := Nat.le_trans hlo3 hb5.size; have HRd5 := Lib.hid hp5; have hs5 : lo ≤ w5.heap.size := (by rw [size_set] at hlo5; exact hlo5); obtain ⟨A5, c5, rfl⟩ := row_one hown5) | (at_builtin; refine wpList_append_own_at _ rfl _ _ 213 rfl lo 151 i0 .nilFunc 1 8 Tryz.underlying213 hi hz0 hz1 hz2 rfl (by decide) _ _ _ rfl (HRd5.out.row.alloc _) ⟨w5.heap.size, 0, none⟩ 2 2 [stepV B 3, stepV B 4] rfl rfl (fun j u hj => by have h := cell_two_new (w5.setCell ⟨B, 12, none⟩ (.slice A5 (st3.steps.length + 1) c5)) 151 (stepV B 3) (stepV B 4) j u hj; rw [size_set] at h; exact h) (by intro u hu; simp at hu; rcases hu with rfl | rfl <;> rfl) (by unfold maxLen; omega) (by omega) (by simp; omega) ?_; intro v6 w6 hown6 hg6 hnil6 hat6; obtain ⟨hp6, hb6, c126, f126⟩ := HRd5.out.pushed [3, 4] hg6 hown6 hlo5; obtain ⟨A6, c6, rfl⟩ := row_one hown6))
      go_ret
      have est : st' = { st5 with steps := st5.steps ++ [3, 4] } := by rw [HST.out, HS5.out]; simp
      rw [est]
      exact ⟨rfl, _, hp6, (hB3.trans hb5).trans hb6⟩
    · have r3 := hR3.c (j := 3) rfl
      go_wp2_with (first | (at_builtin; refine wpList_append_own_at _ rfl _ _ 213 rfl lo 151 i0 .nilFunc 1 8 Tryz.underlying213 hi hz0 hz1 hz2 rfl (by decide) _ _ _ rfl (HRd3.out.row.alloc _) ⟨W3.heap.size, 0, none⟩ 1 1 [stepV B 1] rfl rfl (cell_one_new _ _ _) (by intro u hu; simp at hu; subst hu; rfl) (by unfold maxLen; omega) (by omega) (by simp; omega) ?_; intro v5 w5 hown5 hg5 hnil5 hat5; have hR5 := (hR3.alloc _).kept hg5 (hR3.not_row HRd3.out.row (by decide)); obtain ⟨hp5, hb5, c125, f125⟩ := HRd3.out.pushed [1] hg5 hown5 hlo3; obtain ⟨st5, hst5⟩ : ∃ st5 : op_St, st5 = { st3 with steps := st3.steps ++ [1] } := ⟨_, rfl⟩; rw [← hst5] at hp5; have hl5 : st5.steps.length ≤ 100005 := (by rw [hst5]; simp; omega); have HS5 := Lib.hid hst5; clear hst5; have hR5' := hR5.of (Below.heap_setCell w5 ⟨B, 12, none⟩ v5 R hne'); have r35 := hR5'.c (j := 3) rfl; have e125 := hp5.c12; have g125 := hp5.cells.frozen 12; have hlo5 := Nat.le_trans hlo3 hb5.size; have HRd5 := Lib.hid hp5; have hs5 : lo ≤ w5.heap.size := (by rw [size_set] at hlo5; exact hlo5); obtain ⟨A5, c5, rfl⟩ := row_one hown5) | (at_builtin; refine wpList_append_own_at _ rfl _ _ 213 rfl lo 151 i0 .nilFunc 1 8 Tryz.underlying213 hi hz0 hz1 hz2 rfl (by decide) _ _ _ rfl (HRd5.out.row.alloc _) ⟨w5.heap.size, 0, none⟩ 1 1 [stepV B 2] rfl rfl (fun j u hj => by have h := cell_one_new (w5.setCell ⟨B, 12, none⟩ (.slice A5 (st3.steps.length + 1) c5)) (stepV B 2) 151 j u hj; rw [size_set] at h; exact h) (by intro u hu; simp at hu; subst hu; rfl) (by unfold maxLen; omega) (by omega) (by simp; omega) ?_; intro v6 w6 hown6 hg6 hnil6 hat6; have hR6 := (hR5'.alloc _).kept hg6 (hR5'.not_row HRd5.out.row (by decide)); obtain ⟨hp6, hb6, c126, f126⟩ := HRd5.out.pushed [2] hg6 hown6 hlo5; obtain ⟨st6, hst6⟩ : ∃ st6 : op_St, st6 = { st5 with steps := st5.steps ++ [2] } := ⟨_, rfl⟩; rw [← hst6] at hp6; have hl6 : st6.steps.length ≤ 100006 := (by rw [hst6]; simp; omega); have HS6 := Lib.hid hst6; clear hst6; have hR6' := hR6.of (Below.heap_setCell w6 ⟨B, 12, none⟩ v6 R hne'); have r36 := hR6'.c (j := 3) rfl; have e126 := hp6.c12; have g126 := hp6.cells.frozen 12; have hlo6 := Nat.le_trans hlo5 hb6.size; have HRd6 := Lib.hid hp6; have hs6 : lo ≤ w6.heap.size := (by rw [size_set] at hlo6; exact hlo6); obtain ⟨A6, c6, rfl⟩ := row_one hown6) | (at_builtin; refine wpList_append_own_at _ rfl _ _ 213 rfl lo 151 i0 .nilFunc 1 8 Tryz.underlying213 hi hz0 hz1 hz2 rfl (by decide) _ _ _ rfl (HRd6.out.row.alloc _) ⟨w6.heap.size, 0, none⟩ 2 2 [stepV B 3, stepV B 4] rfl rfl (fun j u hj => by have h := cell_two_new (w6.setCell ⟨B, 12, none⟩ (.slice A6 (st5.steps.length + 1) c6)) 151 (stepV B 3) (stepV B 4) j u hj; rw [size_set] at h; exact h) (by intro u hu; simp at hu; rcases hu with rfl | rfl <;> rfl) (by unfold maxLen; omega) (by omega) (by simp; omega) ?_; intro v7 w7 hown7 hg7 hnil7 hat7; obtain ⟨hp7, hb7, c127, f127⟩ := HRd6.out.pushed [3, 4] hg7 hown7 hlo6; obtain ⟨A7, c7, rfl⟩ := row_one hown7))
      go_ret
      have est : st' = { st6 with steps := st6.steps ++ [3, 4] } := by rw [HST.out, HS6.out, HS5.out]; simp
      rw [est]
      exact ⟨rfl, _, hp7, ((hB3.trans hb5).trans hb6).trans hb7⟩
end Go.Proofs.YtpdbkjnaicjfdaaGreatDoor

namespace Go.Proofs.YtpdbkjnaicjfdaaGreatDoor
open Go.RowKit Go.Maps
set_option linter.unusedVariables false

def stepE : Nat → ByteArray → Int
  | 0, s => errOf (wordI s)
  | 1, s => fillE s 5
  | 2, s => fillE s 5
  | 3, s => arrE s
  | _, s => resE s
def stepS : Nat → ByteArray → op_St → op_St
  | 0, s, st => kindSt s st
  | 1, s, st => stA s st
  | 2, s, st => stB s st
  | 3, _, st => st
  | _, s, st => stR s st

theorem step_any (c : Nat) (s : ByteArray) (lo B : Nat) (v : Value) (st : op_St) (W : World) (h : Rd W lo B v st) (hlo : lo ≤ W.heap.size) (hl : st.steps.length ≤ 100000) (hs : s.size ≤ maxLen) :
    Calls Tryz.prog (fS c) #[.pointer (some ⟨B, 0, none⟩), .string s] W (StepPost lo B (stepS c s st) (stepE c s) W) := by
  match c with
  | 0 => exact kind_step s lo B v st W h hlo hl
  | 1 => exact argA_any s lo B v st W h hlo hs
  | 2 => exact argB_any s lo B v st W h hlo hs
  | 3 => exact arrow_any s lo B v st W h hlo
  | c + 4 => exact result_any s lo B v st W h hlo hs
theorem enter_S (c : Nat) : ∀ args w, (callFunc (fS c) args).run Tryz.prog w = .ok (.enter (fS c) args) w := by
  match c with
  | 0 => exact Go.Proofs.enters_of Tryz.func143 (by kernel_rfl) rfl
  | 1 => exact Go.Proofs.enters_of Tryz.func164 (by kernel_rfl) rfl
  | 2 => exact Go.Proofs.enters_of Tryz.func165 (by kernel_rfl) rfl
  | 3 => exact Go.Proofs.enters_of Tryz.func166 (by kernel_rfl) rfl
  | c + 4 => exact Go.Proofs.enters_of Tryz.func167 (by kernel_rfl) rfl
theorem step_len (c : Nat) (s : ByteArray) (st : op_St) : st.steps.length ≤ (stepS c s st).steps.length ∧ (stepS c s st).steps.length ≤ st.steps.length + 4 := by
  match c with
  | 0 =>
    show st.steps.length ≤ (kindSt s st).steps.length ∧ (kindSt s st).steps.length ≤ st.steps.length + 4
    unfold kindSt
    split
    · exact ⟨Nat.le_refl _, by omega⟩
    · simp
      omega
  | 1 =>
    show st.steps.length ≤ (stA s st).steps.length ∧ (stA s st).steps.length ≤ st.steps.length + 4
    unfold stA; split <;> exact ⟨Nat.le_refl _, Nat.le_add_right _ _⟩
  | 2 =>
    show st.steps.length ≤ (stB s st).steps.length ∧ (stB s st).steps.length ≤ st.steps.length + 4
    unfold stB; split <;> exact ⟨Nat.le_refl _, Nat.le_add_right _ _⟩
  | 3 => exact ⟨Nat.le_refl _, Nat.le_add_right _ _⟩
  | c + 4 =>
    show st.steps.length ≤ (stR s st).steps.length ∧ (stR s st).steps.length ≤ st.steps.length + 4
    unfold stR stN
    split
    · exact ⟨Nat.le_refl _, Nat.le_add_right _ _⟩
    · split
      · exact ⟨Nat.le_refl _, Nat.le_add_right _ _⟩
      · split <;> exact ⟨Nat.le_refl _, Nat.le_add_right _ _⟩

/-- Words and steps side by side, from number i on. -/
def takeP : Nat → List ByteArray → op_St → Nat × Int × op_St
  | i, [], st => if i = st.steps.length then (i, 0, st) else (i, 5, st)
  | i, s :: r, st => if i = st.steps.length then (i, 5, st) else
      if stepE (st.steps[i]?.getD 0) s = 0 then takeP (i + 1) r (stepS (st.steps[i]?.getD 0) s st) else (i, stepE (st.steps[i]?.getD 0) s, stepS (st.steps[i]?.getD 0) s st)

def TakePost (lo B : Nat) (x : Nat × Int × op_St) (W : World) (e : Ending) (W' : World) : Prop := e = .returned (.tuple #[.int .i64 x.1, .int .i64 x.2.1]) ∧ ∃ v', Rd W' lo B v' x.2.2 ∧ Below lo W W'

set_option maxRecDepth 100000 in
set_option maxHeartbeats 2000000 in
theorem take_any (A : Option Addr) (c : Nat) (ws : List ByteArray) (lo B : Nat) (v : Value) (st : op_St) (W : World) (h : Rd W lo B v st) (hlo : lo ≤ W.heap.size) (hA : Strs lo W A ws) (h1 : st.steps.length ≤ 1) (hm : ws.length ≤ 8000) (hz : ∀ s ∈ ws, s.size ≤ maxLen) :
    Calls Tryz.prog 144 #[.pointer (some ⟨B, 0, none⟩), .slice A ws.length c] W (TakePost lo B (takeP 0 ws st) W) := by
  have HA := Lib.hid hA
  have HZ := Lib.hid hz
  have HR0 := Lib.hid h
  clear h hA hz
  go_enter Tryz.func144, Tryz.ntmps144
  go_wp2
  refine wp_scope_straight ?_
  go_wp2
  refine wp_label ?_
  go_wp2
  go_loopw [6, 7] (fun s6 s7 wr => ∃ (k : Nat) (vr : Value) (sr : op_St), k ≤ ws.length ∧ k ≤ sr.steps.length ∧ s6 = .int .i64 k ∧ s7 = .int .i64 0 ∧ Rd wr lo B vr sr ∧ Below lo W wr ∧ sr.steps.length ≤ 1 + 4 * k ∧ takeP 0 ws st = takeP k (ws.drop k) sr) (fun s6 s7 wr => ws.length + 1 - (intOf s6).toNat)
  case atStart => exact ⟨0, v, st, Nat.zero_le _, Nat.zero_le _, rfl, rfl, HR0.out, Below.refl _ _, by omega, by rw [List.drop_zero]⟩
  case round =>
    obtain ⟨k, vr, sr, hk1, hk2, rfl, rfl, hR, hB, hls, heq⟩ := hrel
    have c12 := hR.c12
    obtain ⟨Av, cv, hv⟩ := row_one hR.row
    subst hv
    have HR := Lib.hid hR
    have HE := Lib.hid heq
    clear hR heq
    have hwr : lo ≤ wr.heap.size := Nat.le_trans hlo hB.size
    obtain ⟨n, hn⟩ : ∃ n, sr.steps.length = n := ⟨_, rfl⟩
    rw [hn] at hk2 hls c12 HR
    by_cases e1 : k = ws.length
    · by_cases e2 : k = n
      · have HT : takeP k (ws.drop k) sr = (k, 0, sr) := by rw [e1, List.drop_length, ← e1, takeP, if_pos (by omega)]
        have hfin : TakePost lo B (takeP 0 ws st) W (.returned (.tuple #[.int .i64 k, .int .i64 0])) wr := ⟨by rw [HE.out, HT], _, by rw [HE.out, HT]; exact HR.out, hB⟩
        have HFIN := Lib.hid hfin
        clear HT hfin HE HR
        subst e2
        subst e1
        go_wp2
        rw [Exit.noGoto_ret]
        go_ret2
        exact HFIN.out
      · have HT : takeP k (ws.drop k) sr = (k, 5, sr) := by rw [e1, List.drop_length, ← e1, takeP, if_neg (by omega)]
        have hfin : TakePost lo B (takeP 0 ws st) W (.returned (.tuple #[.int .i64 k, .int .i64 5])) wr := ⟨by rw [HE.out, HT], _, by rw [HE.out, HT]; exact HR.out, hB⟩
        have HFIN := Lib.hid hfin
        have q2 : ((k : Int) == (n : Int)) = false := beq_eq_false_iff_ne.2 (by omega)
        clear HT hfin HE HR
        subst e1
        go_wp2
        rw [Exit.noGoto_ret]
        go_ret2
        exact HFIN.out
    · have q1 : ((k : Int) == (ws.length : Int)) = false := beq_eq_false_iff_ne.2 (by omega)
      have hlt : k < ws.length := by omega
      have hdrop : ws.drop k = (ws[k]?.getD ⟨#[]⟩) :: ws.drop (k + 1) := by
        rw [List.getElem?_eq_getElem hlt]
        exact List.drop_eq_getElem_cons hlt
      by_cases e2 : k = n
      · have HT : takeP k (ws.drop k) sr = (k, 5, sr) := by rw [hdrop, takeP, if_pos (by omega)]
        have hfin : TakePost lo B (takeP 0 ws st) W (.returned (.tuple #[.int .i64 k, .int .i64 5])) wr := ⟨by rw [HE.out, HT], _, by rw [HE.out, HT]; exact HR.out, hB⟩
        have HFIN := Lib.hid hfin
        clear HT hfin HE HR hdrop
        subst e2
        go_wp2
        rw [Exit.noGoto_ret]
        go_ret2
        exact HFIN.out
      · have q2 : ((k : Int) == (n : Int)) = false := beq_eq_false_iff_ne.2 (by omega)
        have hkn : k < sr.steps.length := by omega
        obtain ⟨b, off, rfl, hb, hc⟩ := HA.out.below hB (by omega)
        have hck := hc k hlt
        have hsz : (ws[k]?.getD ⟨#[]⟩).size ≤ maxLen := by
          rw [List.getElem?_eq_getElem hlt]; exact HZ.out _ (List.getElem_mem hlt)
        obtain ⟨g, rfl⟩ : ∃ g, Av = some ⟨g, 0, none⟩ := by
          rcases HR.out.row.2 with ⟨e, hn0⟩ | ⟨g, cap, cur, e, _⟩
          · omega
          · injection e with e1 _ _; exact ⟨g, e1⟩
        have hst : wr.cell? ⟨g, k, none⟩ = some (stepV B (sr.steps[k]?.getD 0)) := by
          have hrow := HR.out.row
          rw [hn] at hrow
          rw [hrow.cellAt k (by omega), List.getElem?_map, List.getElem?_eq_getElem hkn]
          rfl
        have HT : takeP k (ws.drop k) sr = if stepE (sr.steps[k]?.getD 0) (ws[k]?.getD ⟨#[]⟩) = 0 then takeP (k + 1) (ws.drop (k + 1)) (stepS (sr.steps[k]?.getD 0) (ws[k]?.getD ⟨#[]⟩) sr) else (k, stepE (sr.steps[k]?.getD 0) (ws[k]?.getD ⟨#[]⟩), stepS (sr.steps[k]?.getD 0) (ws[k]?.getD ⟨#[]⟩) sr) := by rw [hdrop, takeP, if_neg (by omega)]
        obtain ⟨s, hs⟩ : ∃ s, ws[k]?.getD ⟨#[]⟩ = s := ⟨_, rfl⟩
        obtain ⟨cc, hcc⟩ : ∃ cc, sr.steps[k]?.getD 0 = cc := ⟨_, rfl⟩
        rw [hs, hcc] at HT
        rw [hs] at hck hsz
        rw [hcc] at hst
        have hsl := step_len cc s sr
        have HSL := Lib.hid hsl
        have HT' := Lib.hid HT
        have HS := Lib.hid (fun (X : World) (hX : Below wr.heap.size wr X) => step_any cc s lo B _ sr X (HR.out.below hX (Nat.le_refl _)) (Nat.le_trans hwr hX.size) (by omega) hsz)
        have eg := enter_S cc
        have hd : ∀ args w, (callFunc (fS cc) args).run Tryz.prog w = .ok (.enter (fS cc) args) w := eg
        unfold stepV at hst
        clear hc HT hs hcc hdrop eg hsl
        generalize fS cc = fg at *
        have j0 : (0 : Int) ≤ (k : Int) := by omega
        have j1 : (k : Int) < (n : Int) := by omega
        have j2 : (k : Int) < (ws.length : Int) := by omega
        go_wp2_with fail
        refine wp_region_noPanic ?_
        refine wp_region_till 10 (fun w' => w'.cell? ⟨B, 12, none⟩ = some (.slice (some ⟨g, 0, none⟩) n cv) ∧ w'.cell? ⟨g, k, none⟩ = some (.func (.func fg) #[.pointer (some ⟨B, 0, none⟩)] #[]) ∧ w'.cell? ⟨b, off + k, none⟩ = some (.string s)) (by kernel_rfl) (by kernel_rfl) (fun _ _ _ _ _ h => h) ⟨c12, hst, hck⟩ ?_
        iterate 10
          refine readsN.cons ?_ (by rfl) ?_ ?_
          rotate_left
          · intro w' hw'
            try dsimp only at hw'
            go_simp
            try with_reducible rfl
          simp only [Act.put, List.setIfInBounds_toArray, List.set_cons_zero, List.set_cons_succ]
        refine readsN.done (.string s) wr.drew (by rfl) (by go_simp) ⟨c12, hst, hck⟩ ?_
        simp only [Act.put, List.setIfInBounds_toArray, List.set_cons_zero, List.set_cons_succ]
        go_wp2_with fail
        refine (HS.out wr.drew (Below.refl _ wr).drew).mono ?_
        rintro e w1 ⟨rfl, v1, hR1, hB1⟩
        have hB01 : Below lo W w1 := hB.trans (Below.trans (Below.refl _ wr).drew hB1)
        have HR1 := Lib.hid hR1
        clear hR1 hst hck c12
        generalize stepE cc s = er at *
        by_cases he : er = 0
        · have HT2 := Lib.hid (show takeP k (ws.drop k) sr = takeP (k + 1) (ws.drop (k + 1)) (stepS cc s sr) by rw [HT'.out, if_pos he])
          clear HT'
          subst he
          go_wp2
          refine NoPanic.normal ?_
          go_wp2
          go_roundw
          case rel => exact ⟨k + 1, v1, _, by omega, by have := HSL.out; omega, by go_num, rfl, HR1.out, hB01, by have := HSL.out; omega, HE.out.trans HT2.out⟩
          case measure => simp [intOf]; omega
        · have hfin : TakePost lo B (takeP 0 ws st) W (.returned (.tuple #[.int .i64 k, .int .i64 er])) w1 := ⟨by rw [HE.out, HT'.out, if_neg he], v1, by rw [HE.out, HT'.out, if_neg he]; exact HR1.out, hB01⟩
          have HFIN := Lib.hid hfin
          have hb : (er == 0) = false := by simpa using he
          clear hfin HT' HE
          go_wp2
          refine NoPanic.normal ?_
          go_wp2
          rw [Exit.noGoto_ret]
          go_ret2
          exact HFIN.out
end Go.Proofs.YtpdbkjnaicjfdaaGreatDoor

namespace Go.Proofs.YtpdbkjnaicjfdaaGreatDoor
open Go.RowKit Go.Maps
set_option linter.unusedVariables false

def op_st0 : op_St := ⟨none, 0, 0, 0, 0, 0, []⟩
def st1 : op_St := ⟨none, 0, 0, 0, 0, 0, [0]⟩
abbrev Res := (Int × Int × Int × Int × Int) × Int × Int
/-- What Read tells of what take told. -/
def readR (x : Nat × Int × op_St) (len : Nat) : Res :=
  if x.2.1 = 0 then match x.2.2.asked with
    | none => ((0, 0, 0, 0, 0), 0, 0)
    | some i =>
      if checkI i x.2.2.a x.2.2.b x.2.2.k x.2.2.n = 0 then ((x.2.2.kd, x.2.2.a, x.2.2.b, x.2.2.k, x.2.2.n), 0, 0)
      else if checkI i x.2.2.a x.2.2.b x.2.2.k x.2.2.n = 2 then ((0, 0, 0, 0, 0), 1, 2)
      else ((0, 0, 0, 0, 0), (len : Int) - 1, checkI i x.2.2.a x.2.2.b x.2.2.k x.2.2.n)
  else ((0, 0, 0, 0, 0), x.1, x.2.1)
def readP (ws : List ByteArray) : Res := readR (takeP 0 ws st1) ws.length
def resV (r : Res) : Value := .tuple #[opV r.1.1 r.1.2.1 r.1.2.2.1 r.1.2.2.2.1 r.1.2.2.2.2, .int .i64 r.2.1, .int .i64 r.2.2]

theorem step_asked (c : Nat) (s : ByteArray) (st : op_St) (h : st.asked.isSome = true) : (stepS c s st).asked.isSome = true := by
  match c with
  | 0 =>
    show (kindSt s st).asked.isSome = true
    unfold kindSt
    split
    · exact h
    · rfl
  | 1 =>
    show (stA s st).asked.isSome = true
    unfold stA; split <;> exact h
  | 2 =>
    show (stB s st).asked.isSome = true
    unfold stB; split <;> exact h
  | 3 => exact h
  | c + 4 =>
    show (stR s st).asked.isSome = true
    unfold stR stN
    split
    · exact h
    · split
      · exact h
      · split <;> exact h
theorem take_asked : ∀ (ws : List ByteArray) (i : Nat) (st : op_St), st.asked.isSome = true → (takeP i ws st).2.2.asked.isSome = true
  | [], i, st, h => by unfold takeP; split <;> exact h
  | s :: r, i, st, h => by
    unfold takeP
    split
    · exact h
    · split
      · exact take_asked r _ _ (step_asked _ _ _ h)
      · exact step_asked _ _ _ h
theorem take_first (ws : List ByteArray) (h : (takeP 0 ws st1).2.1 = 0) : ∃ i, (takeP 0 ws st1).2.2.asked = some i := by
  refine Option.isSome_iff_exists.1 ?_
  match ws with
  | [] => exact absurd h (by decide)
  | s :: r =>
    unfold takeP at h ⊢
    rw [if_neg (by decide)] at h ⊢
    have e : (st1.steps[0]?.getD 0) = 0 := rfl
    rw [e] at h ⊢
    by_cases hE : stepE 0 s = 0
    · rw [if_pos hE]
      refine take_asked r _ _ ?_
      show (kindSt s st1).asked.isSome = true
      unfold kindSt
      cases hw : wordI s with
      | none =>
        have : errOf (wordI s) = 0 := hE
        rw [hw] at this
        exact absurd this (by decide)
      | some i => rfl
    · rw [if_neg hE] at h
      exact absurd h hE

theorem check_le (i : Nat) (a b k n : Int) : checkI i a b k n = 0 ∨ checkI i a b k n = 2 ∨ checkI i a b k n = 9 := by
  unfold checkI
  split
  · exact .inr (.inl rfl)
  · split
    · exact .inr (.inr rfl)
    · exact .inl rfl

def zero5 : Array Value := #[.int .i64 0, .int .i64 0, .int .i64 0, .int .i64 0, .int .i64 0]
def zero13 : Array Value := #[.int .i64 0, .int .i64 0, .string ⟨#[]⟩, .int .i64 0, .nilFunc, .nilFunc, .nilFunc, .int .i64 0, .int .i64 0, .int .i64 0, .int .i64 0, .int .i64 0, .slice none 0 0]

set_option maxRecDepth 100000 in
set_option maxHeartbeats 2000000 in
theorem op_read_any (A : Option Addr) (c : Nat) (ws : List ByteArray) (w : World) (hA : Strs w.heap.size w A ws) (hm : ws.length ≤ 8000) (hz : ∀ s ∈ ws, s.size ≤ maxLen) :
    Calls Tryz.prog 125 #[.slice A ws.length c] w (Says (resV (readP ws)) w) := by
  have HRP : Hid (readP ws = readR (takeP 0 ws st1) ws.length) := Lib.hid rfl
  generalize readP ws = rp at HRP ⊢
  have hR0 : Rd ((w.alloc (.cells zero5 50)).alloc (.cells zero13 215)) (w.heap.size + 1) (w.heap.size + 1) (.slice none 0 0) op_st0 := by
    refine ⟨?_, Nat.le_refl _, World.ownsRow_nil _ _ _ _⟩
    have := Holds.new (w.alloc (.cells zero5 50)) 215 zero13
    rwa [World.size_alloc] at this
  have hZ0 : Holds ((w.alloc (.cells zero5 50)).alloc (.cells zero13 215)) w.heap.size 50 zero5 := (Holds.new w _ _).alloc _
  have hB0 : Below w.heap.size w ((w.alloc (.cells zero5 50)).alloc (.cells zero13 215)) := ((Below.refl _ _).alloc (Nat.le_refl _) _).alloc (by simp) _
  have HA := Lib.hid hA
  have HZ := Lib.hid hz
  clear hA hz
  have c12 := hR0.c12
  have f12 := hR0.cells.frozen 12
  have HR0 := Lib.hid hR0
  have HZ0 := Lib.hid hZ0
  clear hR0 hZ0
  unfold zero5 zero13 at c12 f12 HR0 HZ0 hB0
  obtain ⟨i0, hi, hz0, hz1, hz2⟩ := info_parts info_step
  go_enter Tryz.func125, Tryz.ntmps125
  go_wp2_with (at_builtin; (refine wpList_append_own_at _ rfl _ _ 213 rfl (w.heap.size + 1) 151 i0 .nilFunc 1 8 Tryz.underlying213 hi hz0 hz1 hz2 rfl (by decide) _ _ _ rfl (HR0.out.row.alloc _) ⟨w.heap.size + 2, 0, none⟩ 1 1 [stepV (w.heap.size + 1) 0] rfl rfl (fun j u hj => by have h := cell_one_new ((w.alloc (.cells #[.int .i64 0, .int .i64 0, .int .i64 0, .int .i64 0, .int .i64 0] 50)).alloc (.cells #[.int .i64 0, .int .i64 0, .string ⟨#[]⟩, .int .i64 0, .nilFunc, .nilFunc, .nilFunc, .int .i64 0, .int .i64 0, .int .i64 0, .int .i64 0, .int .i64 0, .slice none 0 0] 215)) (stepV (w.heap.size + 1) 0) 151 j u hj; simp only [World.size_alloc] at h; exact h) (by intro u hu; simp at hu; subst hu; rfl) (by unfold maxLen; show 0 + 1 ≤ 9223372036854775807; omega) (by show (0 + 1) * 8 ≤ 140737488355328; omega) (by simp only [World.size_alloc]; omega) ?_; intro v5 w5 hown5 hg5 hnil5 hat5; obtain ⟨hp5, hb5, c125, f125⟩ := HR0.out.pushed [0] hg5 hown5 (by simp only [World.size_alloc]; omega); obtain ⟨A5, c5, rfl⟩ := row_one hown5))
  have hst1 : ({ op_st0 with steps := op_st0.steps ++ [0] } : op_St) = st1 := rfl
  rw [hst1] at hp5
  clear hst1
  have hZ5 : Holds (w5.setCell ⟨w.heap.size + 1, 12, none⟩ (.slice A5 (op_st0.steps.length + 1) c5)) w.heap.size 50 _ := HZ0.out.below hb5 (by omega)
  have hB5 : Below w.heap.size w (w5.setCell ⟨w.heap.size + 1, 12, none⟩ (.slice A5 (op_st0.steps.length + 1) c5)) := hB0.trans (hb5.mono (by omega))
  have hs5 : w.heap.size + 1 ≤ (w5.setCell ⟨w.heap.size + 1, 12, none⟩ (.slice A5 (op_st0.steps.length + 1) c5)).heap.size := by have := hp5.lt; omega
  obtain ⟨W1, hW1⟩ : ∃ W1, W1 = w5.setCell ⟨w.heap.size + 1, 12, none⟩ (.slice A5 (op_st0.steps.length + 1) c5) := ⟨_, rfl⟩
  rw [← hW1] at hp5 hZ5 hB5 hs5 ⊢
  have hA1 : Strs (w.heap.size + 1) W1 A ws := (HA.out.below hB5).mono (by omega)
  have HTK := Lib.hid (take_any A c ws (w.heap.size + 1) (w.heap.size + 1) _ st1 W1 hp5 hs5 hA1 (by decide) hm HZ.out)
  have HF := Lib.hid (take_first ws)
  clear hW1 hp5 hown5 hg5 hnil5 hat5 hb5 c125 f125 hi hz0 hz1 hz2 HA HZ c12 f12 HR0 HZ0 hB0 hA1
  generalize takeP 0 ws st1 = x at HTK HF HRP
  obtain ⟨at0, e0, sx⟩ := x
  refine HTK.out.mono ?_
  rintro e w2 ⟨rfl, v2, hR2, hB2⟩
  have hZ2 := hZ5.below hB2 (by omega)
  have hBw : Below w.heap.size w w2 := nxt hB5 hB2 (by omega)
  have hs2 : w.heap.size + 1 ≤ w2.heap.size := Nat.le_trans hs5 hB2.size
  have HR2 := Lib.hid hR2
  have z0 := hZ2.c (j := 0) rfl
  have z1 := hZ2.c (j := 1) rfl
  have z2 := hZ2.c (j := 2) rfl
  have z3 := hZ2.c (j := 3) rfl
  have z4 := hZ2.c (j := 4) rfl
  have f0 := hZ2.frozen 0
  have f1 := hZ2.frozen 1
  have f2 := hZ2.frozen 2
  have f3 := hZ2.frozen 3
  have f4 := hZ2.frozen 4
  clear hR2
  by_cases he : e0 = 0
  · obtain ⟨i, hi⟩ := HF.out he
    have hi' : sx.asked = some i := hi
    have HRP' : Hid (rp = if checkI i sx.a sx.b sx.k sx.n = 0 then ((sx.kd, sx.a, sx.b, sx.k, sx.n), 0, 0) else if checkI i sx.a sx.b sx.k sx.n = 2 then ((0, 0, 0, 0, 0), 1, 2) else ((0, 0, 0, 0, 0), (ws.length : Int) - 1, checkI i sx.a sx.b sx.k sx.n)) := Lib.hid (by rw [HRP.out, readR, if_pos he]; simp only [hi'])
    have HCL := Lib.hid (check_le i sx.a sx.b sx.k sx.n)
    have HCK := fun W => check_I i sx.kd sx.a sx.b sx.k sx.n W
    obtain ⟨x4, x5, x6, hx⟩ := ruleV_eq i
    have hL : ruleL i = [.int .i64 ((i : Int) + 1), .int .i64 (objN i), .string (op_wordB i), .int .i64 (argN i), .func (.func x4) #[] #[], .func (.func x5) #[] #[], .func (.func x6) #[] #[]] := by
      have h := hx
      rw [ruleV] at h
      injection h with h
      exact congrArg Array.toList h
    have hcl : Holds w2 (w.heap.size + 1) 215 #[.int .i64 ((i : Int) + 1), .int .i64 (objN i), .string (op_wordB i), .int .i64 (argN i), .func (.func x4) #[] #[], .func (.func x5) #[] #[], .func (.func x6) #[] #[], .int .i64 sx.kd, .int .i64 sx.a, .int .i64 sx.b, .int .i64 sx.k, .int .i64 sx.n, v2] := by
      have h := HR2.out.cells
      simp only [hi', rdL, hL] at h
      exact h
    rw [hx] at HCK
    unfold opV at HCK
    clear hx hL HRP HF hi hi' HR2
    have r0 := hcl.c (j := 0) rfl
    have r1 := hcl.c (j := 1) rfl
    have r2 := hcl.c (j := 2) rfl
    have r3 := hcl.c (j := 3) rfl
    have r4 := hcl.c (j := 4) rfl
    have r5 := hcl.c (j := 5) rfl
    have r6 := hcl.c (j := 6) rfl
    have r7 := hcl.c (j := 7) rfl
    have r8 := hcl.c (j := 8) rfl
    have r9 := hcl.c (j := 9) rfl
    have r10 := hcl.c (j := 10) rfl
    have r11 := hcl.c (j := 11) rfl
    subst he
    generalize checkI i sx.a sx.b sx.k sx.n = ck at HCK HRP' HCL
    generalize (objN i : Int) = y1 at *
    generalize op_wordB i = y2 at *
    generalize (argN i : Int) = y3 at *
    generalize (i : Int) + 1 = y0 at *
    generalize sx.kd = kd at *
    generalize sx.a = a at *
    generalize sx.b = b at *
    generalize sx.k = k at *
    generalize sx.n = n at *
    go_wp2_with fail
    refine wp_region_noPanic ?_
    refine wp_region_till 7 (fun w' => w'.cell? ⟨w.heap.size + 1, 0, none⟩ = some (.int .i64 y0) ∧ w'.cell? ⟨w.heap.size + 1, 1, none⟩ = some (.int .i64 y1) ∧ w'.cell? ⟨w.heap.size + 1, 2, none⟩ = some (.string y2) ∧ w'.cell? ⟨w.heap.size + 1, 3, none⟩ = some (.int .i64 y3) ∧ w'.cell? ⟨w.heap.size + 1, 4, none⟩ = some (.func (.func x4) #[] #[]) ∧ w'.cell? ⟨w.heap.size + 1, 5, none⟩ = some (.func (.func x5) #[] #[]) ∧ w'.cell? ⟨w.heap.size + 1, 6, none⟩ = some (.func (.func x6) #[] #[]) ∧ w'.cell? ⟨w.heap.size + 1, 7, none⟩ = some (.int .i64 kd) ∧ w'.cell? ⟨w.heap.size + 1, 8, none⟩ = some (.int .i64 a) ∧ w'.cell? ⟨w.heap.size + 1, 9, none⟩ = some (.int .i64 b) ∧ w'.cell? ⟨w.heap.size + 1, 10, none⟩ = some (.int .i64 k) ∧ w'.cell? ⟨w.heap.size + 1, 11, none⟩ = some (.int .i64 n)) (by kernel_rfl) (by kernel_rfl) (fun _ _ _ _ _ h => h) ⟨r0, r1, r2, r3, r4, r5, r6, r7, r8, r9, r10, r11⟩ ?_
    iterate 7
      refine readsN.cons ?_ (by rfl) ?_ ?_
      rotate_left
      · intro w' hw'
        try dsimp only at hw'
        go_simp
        try with_reducible rfl
      simp only [Act.put, List.setIfInBounds_toArray, List.set_cons_zero, List.set_cons_succ]
    refine readsN.done (.agg #[.int .i64 kd, .int .i64 a, .int .i64 b, .int .i64 k, .int .i64 n]) w2.drew (by rfl) (by go_simp) ⟨r0, r1, r2, r3, r4, r5, r6, r7, r8, r9, r10, r11⟩ ?_
    simp only [Act.put, List.setIfInBounds_toArray, List.set_cons_zero, List.set_cons_succ]
    go_wp2_with fail
    refine (HCK w2.drew).mono ?_
    rintro e w3 ⟨rfl, hB3⟩
    have hB3' : Below w2.heap.size w2 w3 := Below.trans (Below.refl _ w2).drew hB3
    have hZ3 := hZ2.below hB3' (by omega)
    have hc3 := hcl.below hB3' (by have := hcl.lt; omega)
    have hBf : Below w.heap.size w w3 := nxt hBw hB3' (by omega)
    clear r0 r1 r2 r3 r4 r5 r6 r7 r8 r9 r10 r11 z0 z1 z2 z3 z4 f0 f1 f2 f3 f4
    have r7 : w3.cell? ⟨w.heap.size + 1, 7, none⟩ = some (.int .i64 kd) := hc3.c (j := 7) rfl
    have r8 : w3.cell? ⟨w.heap.size + 1, 8, none⟩ = some (.int .i64 a) := hc3.c (j := 8) rfl
    have r9 : w3.cell? ⟨w.heap.size + 1, 9, none⟩ = some (.int .i64 b) := hc3.c (j := 9) rfl
    have r10 : w3.cell? ⟨w.heap.size + 1, 10, none⟩ = some (.int .i64 k) := hc3.c (j := 10) rfl
    have r11 : w3.cell? ⟨w.heap.size + 1, 11, none⟩ = some (.int .i64 n) := hc3.c (j := 11) rfl
    have z0 : w3.cell? ⟨w.heap.size, 0, none⟩ = some (.int .i64 0) := hZ3.c (j := 0) rfl
    have z1 : w3.cell? ⟨w.heap.size, 1, none⟩ = some (.int .i64 0) := hZ3.c (j := 1) rfl
    have z2 : w3.cell? ⟨w.heap.size, 2, none⟩ = some (.int .i64 0) := hZ3.c (j := 2) rfl
    have z3 : w3.cell? ⟨w.heap.size, 3, none⟩ = some (.int .i64 0) := hZ3.c (j := 3) rfl
    have z4 : w3.cell? ⟨w.heap.size, 4, none⟩ = some (.int .i64 0) := hZ3.c (j := 4) rfl
    have f0 := hZ3.frozen 0
    have f1 := hZ3.frozen 1
    have f2 := hZ3.frozen 2
    have f3 := hZ3.frozen 3
    have f4 := hZ3.frozen 4
    have hBe : ∀ u0 u1 u2 u3 u4 : Value, Below w.heap.size w (((((w3.setCell ⟨w.heap.size, 0, none⟩ u0).setCell ⟨w.heap.size, 1, none⟩ u1).setCell ⟨w.heap.size, 2, none⟩ u2).setCell ⟨w.heap.size, 3, none⟩ u3).setCell ⟨w.heap.size, 4, none⟩ u4) := fun u0 u1 u2 u3 u4 => by
      refine Below.setCell (Below.setCell (Below.setCell (Below.setCell (Below.setCell hBf ?_ _) ?_ _) ?_ _) ?_ _) ?_ _
      all_goals exact Nat.le_refl _
    have HBe := Lib.hid hBe
    clear hBe
    have hcl' := HCL.out
    rcases hcl' with hck | hck | hck
    · subst hck
      have HRP2 := Lib.hid (show rp = ((kd, a, b, k, n), 0, 0) by rw [HRP'.out, if_pos rfl])
      clear HRP'
      go_wp2
      refine NoPanic.normal ?_
      go_wp2
      refine bodyPost_ret (v := .tuple #[.agg #[.int .i64 kd, .int .i64 a, .int .i64 b, .int .i64 k, .int .i64 n], .int .i64 0, .int .i64 0]) (by simp [results, Tryz.f125, go_sem, z0, z1, z2, z3, z4]) rfl ?_
      rw [HRP2.out]
      exact ⟨rfl, HBe.out _ _ _ _ _⟩
    · subst hck
      have HRP2 := Lib.hid (show rp = ((0, 0, 0, 0, 0), 1, 2) by rw [HRP'.out, if_neg (by decide), if_pos rfl])
      clear HRP'
      go_wp2
      refine NoPanic.normal ?_
      go_wp2
      refine bodyPost_ret (v := .tuple #[.agg #[.int .i64 0, .int .i64 0, .int .i64 0, .int .i64 0, .int .i64 0], .int .i64 1, .int .i64 2]) (by simp [results, Tryz.f125, go_sem, z0, z1, z2, z3, z4]) rfl ?_
      rw [HRP2.out]
      exact ⟨rfl, HBe.out _ _ _ _ _⟩
    · subst hck
      have HRP2 := Lib.hid (show rp = ((0, 0, 0, 0, 0), (ws.length : Int) - 1, 9) by rw [HRP'.out, if_neg (by decide), if_neg (by decide)])
      clear HRP'
      have l1 : (-1 : Int) ≤ (ws.length : Int) - 1 := by omega
      have l2 : (ws.length : Int) - 1 ≤ 8000 := by omega
      go_wp2
      refine NoPanic.normal ?_
      go_wp2
      refine bodyPost_ret (v := .tuple #[.agg #[.int .i64 0, .int .i64 0, .int .i64 0, .int .i64 0, .int .i64 0], .int .i64 ((ws.length : Int) - 1), .int .i64 9]) (by simp [results, Tryz.f125, go_sem, z0, z1, z2, z3, z4]) rfl ?_
      rw [HRP2.out]
      exact ⟨rfl, HBe.out _ _ _ _ _⟩
  · have hb : (e0 == 0) = false := by simpa using he
    have HRP' : Hid (rp = ((0, 0, 0, 0, 0), (at0 : Int), e0)) := Lib.hid (by rw [HRP.out, readR, if_neg he])
    clear HRP
    go_wp2
    refine bodyPost_ret (v := .tuple #[.agg #[.int .i64 0, .int .i64 0, .int .i64 0, .int .i64 0, .int .i64 0], .int .i64 at0, .int .i64 e0]) (by simp [results, Tryz.f125, go_sem, z0, z1, z2, z3, z4]) rfl ?_
    rw [HRP'.out]
    refine ⟨rfl, ?_⟩
    refine Below.setCell (Below.setCell (Below.setCell (Below.setCell (Below.setCell hBw ?_ _) ?_ _) ?_ _) ?_ _) ?_ _
    all_goals exact Nat.le_refl _
end Go.Proofs.YtpdbkjnaicjfdaaGreatDoor
