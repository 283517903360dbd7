/- Contracts of the layer state: known, single, rises (and the document's), what each type asks, Check. -/
import Derived.Test.YtpnclppjmgeddaaOpBase
import Derived.Test.YtpnclppjmgeddaaStBase
namespace Go.Proofs.Ytpnclppjmgeddaa
open Go.RowKit Go.Maps
set_option linter.unusedVariables false

def Says (v : Value) (w : World) (e : Ending) (w' : World) : Prop := e = .returned v ∧ Below w.heap.size w w'
theorem ret_bool {a b : Bool} (h : a = b) : Ending.returned (.bool a) = .returned (.bool b) := by rw [h]
theorem below_drew0 (w : World) (n : Nat) : Below w.heap.size w (w.drewN n) := below_drewN (Below.refl _ _) n

def knownB (t : Int) : Bool := decide (1 ≤ t) && decide (t ≤ 5)
theorem known_any (t : Int) (w : World) : Calls Try.prog 37 #[.int .i64 t] w fun e w' => e = .returned (.bool (knownB t)) ∧ w' = w := by
  by_cases h1 : 1 ≤ t
  · by_cases h2 : t ≤ 5
    · have e : knownB t = true := by simp [knownB, h1, h2]
      rw [e]
      go_enter Try.func37, Try.ntmps37
      go_wp2
      go_ret
      exact ⟨rfl, rfl⟩
    · have e : knownB t = false := by simp [knownB, h2]
      rw [e]
      go_enter Try.func37, Try.ntmps37
      go_wp2
      go_ret
      exact ⟨rfl, rfl⟩
  · have e : knownB t = false := by simp [knownB, h1]
    rw [e]
    go_enter Try.func37, Try.ntmps37
    go_wp2
    go_ret
    exact ⟨rfl, rfl⟩

set_option maxHeartbeats 1000000 in
theorem rises_any (A : Option Addr) (c s : Nat) (l : List Int) (w : World) (hA : Ints w A l) (hs : 1 ≤ s) (hs2 : s ≤ 2) (hlen : l.length ≤ 1000) :
    Calls Try.prog 51 #[.slice A l.length c, .int .i64 s] w (Says (.bool (riseB s l)) w) := by
  go_enter Try.func51, Try.ntmps51
  go_wp2
  go_loopw [5] (fun i wr => ∃ (k m n : Nat), m = (k + 1) * s ∧ i = .int .i64 m ∧ m ≤ l.length + 2 ∧ riseTo s l k = true ∧ wr = w.drewN n) (fun i wr => l.length + 2 - (intOf i).toNat)
  case atStart => exact ⟨0, s, 0, by omega, rfl, by omega, rfl, rfl⟩
  case round =>
    obtain ⟨k, m, n, hm, rfl, hml, hr, rfl⟩ := hrel
    have HR := Lib.hid hr
    have HM := Lib.hid hm
    have hsm : s ≤ m := by rw [hm]; exact Nat.le_mul_of_pos_left _ (by omega)
    obtain ⟨m0, hm0⟩ : ∃ m0, m0 = k * s := ⟨_, rfl⟩
    have hmm : m = m0 + s := by rw [hm, hm0, Nat.succ_mul]
    have HM0 := Lib.hid hm0
    clear hr hm hm0
    by_cases hlt : m < l.length
    · obtain ⟨b, off, rfl, hb, hc⟩ := hA (by omega)
      have hck := hc m hlt
      have hck' := hc m0 (by omega)
      clear hc
      obtain ⟨x, hx⟩ : ∃ x, l[m]?.getD 0 = x := ⟨_, rfl⟩
      obtain ⟨y, hy⟩ : ∃ y, l[m0]?.getD 0 = y := ⟨_, rfl⟩
      rw [hx] at hck
      rw [hy] at hck'
      have HX := Lib.hid hx
      have HY := Lib.hid hy
      have hq : (m : Int) - (s : Int) = (m0 : Int) := by omega
      have HMM := Lib.hid hmm
      have hk0 : (0 : Int) ≤ (m : Int) := by omega
      have hk1 : (m : Int) < (l.length : Int) := by omega
      have hk2 : (m0 : Int) < (l.length : Int) := by omega
      have hk3 : (0 : Int) ≤ (m0 : Int) := by omega
      clear hx hy hmm
      by_cases hxy : x ≤ y
      · go_wp2_with fail
        go_quiet (fail)
        go_wp2
        go_ret
        refine ⟨ret_bool (rise_no (k := k) hs (by rw [← HM.out]; exact hlt) (by rw [← HM.out, ← HM0.out, HX.out, HY.out]; exact hxy)).symm, below_drewN (below_drew0 w n) _⟩
      · go_wp2_with fail
        go_quiet (fail)
        go_wp2
        go_roundw
        case rel => exact ⟨k + 1, m + s, _, by rw [HM.out, Nat.succ_mul (k + 1)], by go_num, by have := HMM.out; omega, rise_step HR.out (by rw [← HM.out, ← HM0.out, HX.out, HY.out]; omega), rfl⟩
        case measure => simp [intOf]; omega
    · go_wp2
      go_ret
      exact ⟨ret_bool (rise_end HR.out (by rw [← HM.out]; omega)).symm, below_drew0 w n⟩
set_option maxHeartbeats 1000000 in
theorem rrises_any (A : Option Addr) (c s : Nat) (l : List Int) (w : World) (hA : Ints w A l) (hs : 1 ≤ s) (hs2 : s ≤ 2) (hlen : l.length ≤ 1000) :
    Calls Try.prog 42 #[.slice A l.length c, .int .i64 s] w (Says (.bool (riseB s l)) w) := by
  go_enter Try.func42, Try.ntmps42
  go_wp2
  go_loopw [5] (fun i wr => ∃ (k m n : Nat), m = (k + 1) * s ∧ i = .int .i64 m ∧ m ≤ l.length + 2 ∧ riseTo s l k = true ∧ wr = w.drewN n) (fun i wr => l.length + 2 - (intOf i).toNat)
  case atStart => exact ⟨0, s, 0, by omega, rfl, by omega, rfl, rfl⟩
  case round =>
    obtain ⟨k, m, n, hm, rfl, hml, hr, rfl⟩ := hrel
    have HR := Lib.hid hr
    have HM := Lib.hid hm
    have hsm : s ≤ m := by rw [hm]; exact Nat.le_mul_of_pos_left _ (by omega)
    obtain ⟨m0, hm0⟩ : ∃ m0, m0 = k * s := ⟨_, rfl⟩
    have hmm : m = m0 + s := by rw [hm, hm0, Nat.succ_mul]
    have HM0 := Lib.hid hm0
    clear hr hm hm0
    by_cases hlt : m < l.length
    · obtain ⟨b, off, rfl, hb, hc⟩ := hA (by omega)
      have hck := hc m hlt
      have hck' := hc m0 (by omega)
      clear hc
      obtain ⟨x, hx⟩ : ∃ x, l[m]?.getD 0 = x := ⟨_, rfl⟩
      obtain ⟨y, hy⟩ : ∃ y, l[m0]?.getD 0 = y := ⟨_, rfl⟩
      rw [hx] at hck
      rw [hy] at hck'
      have HX := Lib.hid hx
      have HY := Lib.hid hy
      have hq : (m : Int) - (s : Int) = (m0 : Int) := by omega
      have HMM := Lib.hid hmm
      have hk0 : (0 : Int) ≤ (m : Int) := by omega
      have hk1 : (m : Int) < (l.length : Int) := by omega
      have hk2 : (m0 : Int) < (l.length : Int) := by omega
      have hk3 : (0 : Int) ≤ (m0 : Int) := by omega
      clear hx hy hmm
      by_cases hxy : x ≤ y
      · go_wp2_with fail
        go_quiet (fail)
        go_wp2
        go_ret
        refine ⟨ret_bool (rise_no (k := k) hs (by rw [← HM.out]; exact hlt) (by rw [← HM.out, ← HM0.out, HX.out, HY.out]; exact hxy)).symm, below_drewN (below_drew0 w n) _⟩
      · go_wp2_with fail
        go_quiet (fail)
        go_wp2
        go_roundw
        case rel => exact ⟨k + 1, m + s, _, by rw [HM.out, Nat.succ_mul (k + 1)], by go_num, by have := HMM.out; omega, rise_step HR.out (by rw [← HM.out, ← HM0.out, HX.out, HY.out]; omega), rfl⟩
        case measure => simp [intOf]; omega
    · go_wp2
      go_ret
      exact ⟨ret_bool (rise_end HR.out (by rw [← HM.out]; omega)).symm, below_drew0 w n⟩

def stV (t n : Int) (A : Option Addr) (k c : Nat) : Value := .agg #[.int .i64 t, .int .i64 n, .slice A k c]
theorem nxt {a b c : World} {B n : Nat} (h : Below B a b) (k : Below n b c) (hn : B ≤ n) : Below B a c := h.trans (k.mono hn)
theorem alloc1 (w : World) (o : Obj) : Below w.heap.size w (w.alloc o) := (Below.refl _ _).alloc (Nat.le_refl _) _

theorem fit1 (t n : Int) (A : Option Addr) (c : Nat) (l : List Int) (w : World) : Calls Try.prog 46 #[stV t n A l.length c] w (Says (.bool (decide (l.length = 0))) w) := by
  unfold stV
  by_cases h : l.length = 0
  · have e : ((l.length : Int) == 0) = true := by simp [h]
    rw [decide_eq_true h]
    go_enter Try.func46, Try.ntmps46
    go_wp2
    go_ret
    exact ⟨rfl, alloc1 w _⟩
  · have e : ((l.length : Int) == 0) = false := by rw [beq_eq_false_iff_ne]; omega
    rw [decide_eq_false h]
    go_enter Try.func46, Try.ntmps46
    go_wp2
    go_ret
    exact ⟨rfl, alloc1 w _⟩
theorem fit4 (t n : Int) (A : Option Addr) (c : Nat) (l : List Int) (w : World) : Calls Try.prog 49 #[stV t n A l.length c] w (Says (.bool (n == 0)) w) := by
  unfold stV
  go_enter Try.func49, Try.ntmps49
  go_wp2
  go_ret
  exact ⟨rfl, alloc1 w _⟩
theorem fit2 (t n : Int) (A : Option Addr) (c : Nat) (l : List Int) (w : World) (hA : Ints w A l) (hlen : l.length ≤ 1000) : Calls Try.prog 47 #[stV t n A l.length c] w (Says (.bool ((n == 0) && riseB 1 l)) w) := by
  have H := rises_any A c 1 l (w.alloc (.cells #[.int .i64 t, .int .i64 n, .slice A l.length c] 65)) (hA.below (alloc1 w _)) (by omega) (by omega) hlen
  unfold stV
  generalize riseB 1 l = r at *
  cases h : (n == 0)
  · go_enter Try.func47, Try.ntmps47
    go_wp2
    go_ret
    exact ⟨rfl, alloc1 w _⟩
  · go_enter Try.func47, Try.ntmps47
    go_wp2_with fail
    refine H.mono ?_
    rintro e w1 ⟨rfl, hB⟩
    go_wp2
    go_ret
    exact ⟨rfl, nxt (alloc1 w _) hB (by simp)⟩
theorem fit3 (t n : Int) (A : Option Addr) (c : Nat) (l : List Int) (w : World) (hA : Ints w A l) (hlen : l.length ≤ 1000) : Calls Try.prog 48 #[stV t n A l.length c] w (Says (.bool ((n == 0) && decide (l.length % 2 = 0) && riseB 2 l)) w) := by
  have H := rises_any A c 2 l (w.alloc (.cells #[.int .i64 t, .int .i64 n, .slice A l.length c] 65)) (hA.below (alloc1 w _)) (by omega) (by omega) hlen
  unfold stV
  generalize riseB 2 l = r at *
  cases h : (n == 0)
  · go_enter Try.func48, Try.ntmps48
    go_wp2
    go_ret
    exact ⟨rfl, alloc1 w _⟩
  · have hm : Int.tmod (l.length : Int) 2 = ((l.length % 2 : Nat) : Int) := rfl
    by_cases h2 : l.length % 2 = 0
    · have e2 : ((Int.tmod (l.length : Int) 2) == 0) = true := by rw [hm, h2]; rfl
      rw [decide_eq_true h2]
      go_enter Try.func48, Try.ntmps48
      go_wp2_with fail
      refine H.mono ?_
      rintro e w1 ⟨rfl, hB⟩
      go_wp2
      go_ret
      exact ⟨rfl, nxt (alloc1 w _) hB (by simp)⟩
    · have e2 : ((Int.tmod (l.length : Int) 2) == 0) = false := by rw [hm, beq_eq_false_iff_ne]; omega
      rw [decide_eq_false h2]
      go_enter Try.func48, Try.ntmps48
      go_wp2
      go_ret
      exact ⟨rfl, alloc1 w _⟩
theorem fit5 (t n : Int) (A : Option Addr) (c : Nat) (l : List Int) (w : World) : Calls Try.prog 50 #[stV t n A l.length c] w (Says (.bool (decide (l.length = 0) && decide (0 ≤ n) && decide (n ≤ 4611686018427387904))) w) := by
  unfold stV
  by_cases h : l.length = 0
  · have e : ((l.length : Int) == 0) = true := by simp [h]
    rw [decide_eq_true h]
    cases h1 : decide (0 ≤ n) <;> cases h2 : decide (n ≤ 4611686018427387904)
    all_goals go_enter Try.func50, Try.ntmps50
    all_goals go_wp2
    all_goals go_ret
    all_goals exact ⟨rfl, alloc1 w _⟩
  · have e : ((l.length : Int) == 0) = false := by rw [beq_eq_false_iff_ne]; omega
    rw [decide_eq_false h]
    go_enter Try.func50, Try.ntmps50
    go_wp2
    go_ret
    exact ⟨rfl, alloc1 w _⟩
def fnV (k : Nat) : Value := .func (.func k) #[] #[]
def askedV : Value := .agg #[.nilFunc, .func (.func 46) #[] #[], .func (.func 47) #[] #[], .func (.func 48) #[] #[], .func (.func 49) #[] #[], .func (.func 50) #[] #[]]
theorem asked_any (w : World) : Calls Try.prog 38 #[] w (Says askedV w) := by
  go_enter Try.func38, Try.ntmps38
  go_wp2
  refine bodyPost_ret (v := askedV) (by simp [results, Try.f38, go_sem, askedV]) rfl ?_
  exact ⟨rfl, alloc1 w _⟩
end Go.Proofs.Ytpnclppjmgeddaa
