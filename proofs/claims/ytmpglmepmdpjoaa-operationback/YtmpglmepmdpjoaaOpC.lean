/- What may be returned; check; Type, Word, Kind, Check. -/
import Derived.Test.YtmpglmepmdpjoaaOpB
import Derived.Shelf.Abstract
namespace Go.Proofs.Ytmpglmepmdpjoaa
open Go.RowKit
set_option linter.unusedVariables false

theorem nxt {a b c : World} {B n : Nat} (h : Below B a b) (k : Below n b c) (hn : B ≤ n) : Below B a c := h.trans (k.mono hn)
def Says (v : Value) (w : World) (e : Ending) (w' : World) : Prop := e = .returned v ∧ Below w.heap.size w w'

def retV (k n : Int) : Value := .agg #[.int .i64 k, .int .i64 n]
def opV (kd a b k n : Int) : Value := .agg #[.int .i64 kd, .int .i64 a, .int .i64 b, .int .i64 k, .int .i64 n]

theorem ret2 (k n : Int) (w : World) : Calls Try.prog 64 #[retV k n] w (BoolPost (k == 2 && (n == 0 || n == 1)) w) := by
  have H := fun W => ret1 k n W
  unfold retV
  generalize (k == 2) = bk at H
  cases bk <;> cases h0 : (n == 0) <;> cases h1 : (n == 1)
  all_goals go_enter Try.func64, Try.ntmps64
  all_goals go_wp2_with fail
  all_goals refine (H _).mono ?_
  all_goals rintro e w1 ⟨rfl, hB1⟩
  all_goals have c0 := ((Holds.new w 23 #[.int .i64 k, .int .i64 n]).below hB1 (by simp)).c (j := 1) rfl
  all_goals go_wp2
  all_goals go_ret
  all_goals exact ⟨rfl, nxt ((Below.refl _ _).alloc (Nat.le_refl _) _) hB1 (by simp)⟩
theorem ret3 (k n : Int) (w : World) : Calls Try.prog 65 #[retV k n] w (BoolPost (k == 2 && (decide (0 ≤ n) && decide (n ≤ 4611686018427387904))) w) := by
  have H := fun W => ret1 k n W
  have H2 := fun W => num2 n W
  unfold retV
  generalize (k == 2) = bk at H
  generalize (decide (0 ≤ n) && decide (n ≤ 4611686018427387904)) = bn at H2
  cases bk
  · go_enter Try.func65, Try.ntmps65
    go_wp2_with fail
    refine (H _).mono ?_
    rintro e w1 ⟨rfl, hB1⟩
    have c0 := ((Holds.new w 23 #[.int .i64 k, .int .i64 n]).below hB1 (by simp)).c (j := 1) rfl
    go_wp2
    go_ret
    exact ⟨rfl, nxt ((Below.refl _ _).alloc (Nat.le_refl _) _) hB1 (by simp)⟩
  · go_enter Try.func65, Try.ntmps65
    go_wp2_with fail
    refine (H _).mono ?_
    rintro e w1 ⟨rfl, hB1⟩
    have c0 := ((Holds.new w 23 #[.int .i64 k, .int .i64 n]).below hB1 (by simp)).c (j := 1) rfl
    have hs := hB1.size
    go_wp2_with fail
    refine (H2 _).mono ?_
    rintro e w2 ⟨rfl, hB2⟩
    go_wp2
    go_ret
    exact ⟨rfl, nxt (nxt ((Below.refl _ _).alloc (Nat.le_refl _) _) hB1 (by simp)) hB2 (by simp at hs; omega)⟩
theorem ret4 (k n : Int) (w : World) : Calls Try.prog 66 #[retV k n] w (BoolPost (k == 2 || (k == 1 && n == 0)) w) := by
  have H := fun W => ret1 k n W
  unfold retV
  generalize (k == 2) = bk at H
  cases bk <;> cases h0 : (k == 1) <;> cases h1 : (n == 0)
  all_goals go_enter Try.func66, Try.ntmps66
  all_goals go_wp2_with fail
  all_goals refine (H _).mono ?_
  all_goals rintro e w1 ⟨rfl, hB1⟩
  all_goals have c0 := ((Holds.new w 23 #[.int .i64 k, .int .i64 n]).below hB1 (by simp)).c (j := 0) rfl
  all_goals have c1 := ((Holds.new w 23 #[.int .i64 k, .int .i64 n]).below hB1 (by simp)).c (j := 1) rfl
  all_goals go_wp2
  all_goals go_ret
  all_goals exact ⟨rfl, nxt ((Below.refl _ _).alloc (Nat.le_refl _) _) hB1 (by simp)⟩
theorem ret_any (m : Nat) (k n : Int) (w : World) : Calls Try.prog (fR m) #[retV k n] w (BoolPost (okR m k n) w) := by
  match m with
  | 0 => exact ret0 k n w
  | 1 => exact ret1 k n w
  | 2 => exact ret2 k n w
  | 3 => exact ret3 k n w
  | m + 4 => exact ret4 k n w
theorem enter_N (m : Nat) : ∀ args w, (callFunc (fN m) args).run Try.prog w = .ok (.enter (fN m) args) w := by
  match m with
  | 0 => exact Go.Proofs.enters_of Try.func60 (by kernel_rfl) rfl
  | 1 => exact Go.Proofs.enters_of Try.func61 (by kernel_rfl) rfl
  | m + 2 => exact Go.Proofs.enters_of Try.func67 (by kernel_rfl) rfl
theorem enter_R (m : Nat) : ∀ args w, (callFunc (fR m) args).run Try.prog w = .ok (.enter (fR m) args) w := by
  match m with
  | 0 => exact Go.Proofs.enters_of Try.func62 (by kernel_rfl) rfl
  | 1 => exact Go.Proofs.enters_of Try.func63 (by kernel_rfl) rfl
  | 2 => exact Go.Proofs.enters_of Try.func64 (by kernel_rfl) rfl
  | 3 => exact Go.Proofs.enters_of Try.func65 (by kernel_rfl) rfl
  | m + 4 => exact Go.Proofs.enters_of Try.func66 (by kernel_rfl) rfl

theorem hasKind_any (x0 x1 : Int) (x2 : ByteArray) (x3 : Int) (x4 x5 x6 : Nat) (key : Int) (w : World) :
    Calls Try.prog 30 #[.agg #[.int .i64 x0, .int .i64 x1, .string x2, .int .i64 x3, .func (.func x4) #[] #[], .func (.func x5) #[] #[], .func (.func x6) #[] #[]], .int .i64 key] w (BoolPost (x0 == key) w) := by
  go_enter Try.func30, Try.ntmps30
  go_wp2
  go_ret
  exact ⟨rfl, (Below.refl _ _).alloc (Nat.le_refl _) _⟩
theorem hasWord_any (x0 x1 : Int) (x2 : ByteArray) (x3 : Int) (x4 x5 x6 : Nat) (key : ByteArray) (w : World) :
    Calls Try.prog 33 #[.agg #[.int .i64 x0, .int .i64 x1, .string x2, .int .i64 x3, .func (.func x4) #[] #[], .func (.func x5) #[] #[], .func (.func x6) #[] #[]], .string key] w (BoolPost (x2 == key) w) := by
  go_enter Try.func33, Try.ntmps33
  go_wp2
  go_ret
  exact ⟨by rw [beq_toListBytes]; rfl, (Below.refl _ _).alloc (Nat.le_refl _) _⟩

theorem find_kind (key : Int) (w : World) : Calls Try.prog 29 #[fv 30, .int .i64 key] w (FindPost (kindI key) w) :=
  find_int (.int .i64 key) 30 (fun i => ((i : Int) + 1) == key) w (Go.Proofs.enters_of Try.func30 (by kernel_rfl) rfl) fun i W => hasKind_any _ _ _ _ _ _ _ key W
theorem find_word (key : ByteArray) (w : World) : Calls Try.prog 32 #[fv 33, .string key] w (FindPost (wordI key) w) :=
  find_str (.string key) 33 (fun i => wordB i == key) w (Go.Proofs.enters_of Try.func33 (by kernel_rfl) rfl) fun i W => hasWord_any _ _ _ _ _ _ _ key W

def checkM (ma mb mr : Nat) (a b k n : Int) : Int := if okN ma a = false ∨ okN mb b = false then 2 else if okR mr k n = false then 9 else 0

set_option maxRecDepth 100000 in
set_option maxHeartbeats 1000000 in
theorem check_M (x0 x1 : Int) (x2 : ByteArray) (x3 : Int) (ma mb mr : Nat) (kd a b k n : Int) (w : World) :
    Calls Try.prog 35 #[.agg #[.int .i64 x0, .int .i64 x1, .string x2, .int .i64 x3, fv (fN ma), fv (fN mb), fv (fR mr)], opV kd a b k n] w (Says (.int .i64 (checkM ma mb mr a b k n)) w) := by
  have e1 := enter_N ma
  have e2 := enter_N mb
  have e3 := enter_R mr
  have H1 := fun W => num_any ma a W
  have H2 := fun W => num_any mb b W
  have H3 := fun W => ret_any mr k n W
  have hP : Hid (checkM ma mb mr a b k n = if okN ma a = false ∨ okN mb b = false then 2 else if okR mr k n = false then 9 else 0) := Lib.hid rfl
  unfold opV fv
  unfold retV at H3
  generalize okN ma a = ba at H1 hP
  generalize okN mb b = bb at H2 hP
  generalize okR mr k n = br at H3 hP
  generalize checkM ma mb mr a b k n = r at hP
  generalize fN ma = g1 at *
  generalize fN mb = g2 at *
  generalize fR mr = g3 at *
  have HO := (Holds.new (w.alloc (.cells #[.int .i64 x0, .int .i64 x1, .string x2, .int .i64 x3, .func (.func g1) #[] #[], .func (.func g2) #[] #[], .func (.func g3) #[] #[]] 52)) 25 #[.int .i64 kd, .int .i64 a, .int .i64 b, .int .i64 k, .int .i64 n])
  have HR := (Holds.new w 52 #[.int .i64 x0, .int .i64 x1, .string x2, .int .i64 x3, .func (.func g1) #[] #[], .func (.func g2) #[] #[], .func (.func g3) #[] #[]]).alloc (.cells #[.int .i64 kd, .int .i64 a, .int .i64 b, .int .i64 k, .int .i64 n] 25)
  rw [World.size_alloc] at HO
  have hB0 : Below w.heap.size w ((w.alloc (.cells #[.int .i64 x0, .int .i64 x1, .string x2, .int .i64 x3, .func (.func g1) #[] #[], .func (.func g2) #[] #[], .func (.func g3) #[] #[]] 52)).alloc (.cells #[.int .i64 kd, .int .i64 a, .int .i64 b, .int .i64 k, .int .i64 n] 25)) := ((Below.refl _ _).alloc (Nat.le_refl _) _).alloc (by simp) _
  go_enter Try.func35, Try.ntmps35
  go_wp2_with fail
  refine (H1 _).mono ?_
  rintro e w1 ⟨rfl, hB1⟩
  have HO1 := HO.below hB1 (by simp)
  have HR1 := HR.below hB1 (by simp; omega)
  have hs1 := hB1.size
  simp only [World.size_alloc] at hs1
  have hB01 := nxt hB0 hB1 (by simp; omega)
  have r5 := HR1.c (j := 5) rfl
  have o2 := HO1.c (j := 2) rfl
  have r6 := HR1.c (j := 6) rfl
  have o3 := HO1.c (j := 3) rfl
  have o4 := HO1.c (j := 4) rfl
  cases ba with
  | false =>
    go_wp2
    go_ret
    exact ⟨by rw [hP.out]; simp, hB01⟩
  | true =>
    clear r6 o3 o4
    go_wp2_with fail
    refine (H2 _).mono ?_
    rintro e w2 ⟨rfl, hB2⟩
    have HO2 := HO1.below hB2 (by omega)
    have HR2 := HR1.below hB2 (by omega)
    have hs2 := hB2.size
    have hB02 := nxt hB01 hB2 (by omega)
    have r6 := HR2.c (j := 6) rfl
    have o3 := HO2.c (j := 3) rfl
    have o4 := HO2.c (j := 4) rfl
    cases bb with
    | false =>
      go_wp2
      go_ret
      exact ⟨by rw [hP.out]; simp, hB02⟩
    | true =>
      go_wp2_with fail
      refine (H3 _).mono ?_
      rintro e w3 ⟨rfl, hB3⟩
      have hB03 := nxt hB02 hB3 (by omega)
      cases br with
      | false =>
        go_wp2
        go_ret
        exact ⟨by rw [hP.out]; simp, hB03⟩
      | true =>
        go_wp2
        go_ret
        exact ⟨by rw [hP.out]; simp, hB03⟩
theorem check_I (i : Nat) (kd a b k n : Int) (w : World) : Calls Try.prog 35 #[ruleV i, opV kd a b k n] w (Says (.int .i64 (checkI i a b k n)) w) :=
  check_M _ _ _ _ (mA i) (mB i) (mR i) kd a b k n w

theorem ruleV_eq (i : Nat) : ∃ x4 x5 x6, ruleV i = .agg #[.int .i64 ((i : Int) + 1), .int .i64 (objN i), .string (wordB i), .int .i64 (argN i), .func (.func x4) #[] #[], .func (.func x5) #[] #[], .func (.func x6) #[] #[]] := ⟨_, _, _, rfl⟩

def typeO : Option Nat → Int
  | none => 0
  | some i => objN i
def wordO : Option Nat → ByteArray
  | none => ⟨#[]⟩
  | some i => wordB i
def kindO : Option Nat → Int
  | none => 0
  | some i => (i : Int) + 1

set_option maxRecDepth 100000 in
theorem type_any (kd : Int) (w : World) : Calls Try.prog 10 #[.int .i64 kd] w (Says (.tuple #[.int .i64 (typeO (kindI kd)), .int .i64 (errOf (kindI kd))]) w) := by
  have H := fun W => find_kind kd W
  unfold fv at H
  generalize kindI kd = o at H
  cases o with
  | none =>
    go_enter Try.func10, Try.ntmps10
    go_wp2_with fail
    refine (H _).mono ?_
    rintro e w1 ⟨rfl, hB1⟩
    simp only [ruleOf, rule0, errOf]
    go_wp2
    go_ret2
    exact ⟨rfl, hB1.alloc hB1.size _⟩
  | some i =>
    obtain ⟨x4, x5, x6, hx⟩ := ruleV_eq i
    go_enter Try.func10, Try.ntmps10
    go_wp2_with fail
    refine (H _).mono ?_
    rintro e w1 ⟨rfl, hB1⟩
    simp only [ruleOf, hx, errOf]
    clear hx
    go_wp2
    go_ret2
    exact ⟨rfl, hB1.alloc hB1.size _⟩
set_option maxRecDepth 100000 in
theorem word_any (kd : Int) (w : World) : Calls Try.prog 12 #[.int .i64 kd] w (Says (.tuple #[.string (wordO (kindI kd)), .int .i64 (errOf (kindI kd))]) w) := by
  have H := fun W => find_kind kd W
  unfold fv at H
  generalize kindI kd = o at H
  cases o with
  | none =>
    go_enter Try.func12, Try.ntmps12
    go_wp2_with fail
    refine (H _).mono ?_
    rintro e w1 ⟨rfl, hB1⟩
    simp only [ruleOf, rule0, errOf]
    go_wp2
    go_ret2
    exact ⟨rfl, hB1.alloc hB1.size _⟩
  | some i =>
    obtain ⟨x4, x5, x6, hx⟩ := ruleV_eq i
    go_enter Try.func12, Try.ntmps12
    go_wp2_with fail
    refine (H _).mono ?_
    rintro e w1 ⟨rfl, hB1⟩
    simp only [ruleOf, hx, errOf]
    clear hx
    go_wp2
    go_ret2
    exact ⟨rfl, hB1.alloc hB1.size _⟩
set_option maxRecDepth 100000 in
theorem kind_any (s : ByteArray) (w : World) : Calls Try.prog 14 #[.string s] w (Says (.tuple #[.int .i64 (kindO (wordI s)), .int .i64 (errOf (wordI s))]) w) := by
  have H := fun W => find_word s W
  unfold fv at H
  generalize wordI s = o at H
  cases o with
  | none =>
    go_enter Try.func14, Try.ntmps14
    go_wp2_with fail
    refine (H _).mono ?_
    rintro e w1 ⟨rfl, hB1⟩
    simp only [ruleOf, rule0, errOf]
    go_wp2
    go_ret2
    exact ⟨rfl, hB1.alloc hB1.size _⟩
  | some i =>
    obtain ⟨x4, x5, x6, hx⟩ := ruleV_eq i
    go_enter Try.func14, Try.ntmps14
    go_wp2_with fail
    refine (H _).mono ?_
    rintro e w1 ⟨rfl, hB1⟩
    simp only [ruleOf, hx, errOf]
    clear hx
    go_wp2
    go_ret2
    exact ⟨rfl, hB1.alloc hB1.size _⟩
set_option maxRecDepth 100000 in
theorem check_any (kd a b k n : Int) (w : World) : Calls Try.prog 18 #[opV kd a b k n] w (Says (.int .i64 (checkP kd a b k n)) w) := by
  have H := fun W => find_kind kd W
  have hP : Hid (checkP kd a b k n = match kindI kd with | none => 6 | some i => checkI i a b k n) := Lib.hid rfl
  unfold fv at H
  generalize checkP kd a b k n = r at hP
  generalize kindI kd = o at H hP
  cases o with
  | none =>
    unfold opV
    go_enter Try.func18, Try.ntmps18
    go_wp2_with fail
    refine (H _).mono ?_
    rintro e w1 ⟨rfl, hB1⟩
    simp only [ruleOf, rule0, errOf]
    have hs := hB1.size
    simp only [World.size_alloc] at hs
    go_wp2
    go_ret
    exact ⟨by rw [hP.out]; rfl, Below.alloc (nxt ((Below.refl _ _).alloc (Nat.le_refl _) _) hB1 (by simp)) (by omega) _⟩
  | some i =>
    have HC := fun W => check_I i kd a b k n W
    have hP' : Hid (r = checkI i a b k n) := Lib.hid hP.out
    clear hP
    obtain ⟨x4, x5, x6, hx⟩ := ruleV_eq i
    have HO := Holds.new w 25 #[.int .i64 kd, .int .i64 a, .int .i64 b, .int .i64 k, .int .i64 n]
    unfold opV at HC ⊢
    go_enter Try.func18, Try.ntmps18
    go_wp2_with fail
    refine (H _).mono ?_
    rintro e w1 ⟨rfl, hB1⟩
    simp only [ruleOf, hx, errOf]
    rw [hx] at HC
    clear hx
    have hs := hB1.size
    simp only [World.size_alloc] at hs
    have HO1 := (HO.below hB1 (by simp)).alloc (.cells #[.int .i64 ((i : Int) + 1), .int .i64 (objN i), .string (wordB i), .int .i64 (argN i), .func (.func x4) #[] #[], .func (.func x5) #[] #[], .func (.func x6) #[] #[]] 52)
    have o0 := HO1.c (j := 0) rfl
    have o1 := HO1.c (j := 1) rfl
    have o2 := HO1.c (j := 2) rfl
    have o3 := HO1.c (j := 3) rfl
    have o4 := HO1.c (j := 4) rfl
    go_wp2_with fail
    refine (HC _).mono ?_
    rintro e w2 ⟨rfl, hB2⟩
    go_wp2
    go_ret
    exact ⟨by rw [hP'.out]; rfl, nxt (Below.alloc (nxt ((Below.refl _ _).alloc (Nat.le_refl _) _) hB1 (by simp)) (by omega) _) hB2 (by simp; omega)⟩
end Go.Proofs.Ytmpglmepmdpjoaa
