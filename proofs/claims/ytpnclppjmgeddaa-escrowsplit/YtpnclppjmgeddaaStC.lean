/- Contracts: lists of numbers side by side (slices.Equal, SameInts); Same, SameState; Word, Empty; the document's. -/
import Derived.Test.YtpnclppjmgeddaaOpBase
import Derived.Test.YtpnclppjmgeddaaStB
namespace Go.Proofs.Ytpnclppjmgeddaa
open Go.RowKit Go.Maps
set_option linter.unusedVariables false

/-- The first k numbers are the same. -/
def AlikeTo (l m : List Int) (k : Nat) : Prop := ∀ j, j < k → l[j]?.getD 0 = m[j]?.getD 0
theorem AlikeTo.step {l m : List Int} {k : Nat} (h : AlikeTo l m k) (e : l[k]?.getD 0 = m[k]?.getD 0) : AlikeTo l m (k + 1) := fun j hj => by
  rcases Nat.lt_or_ge j k with h1 | h1
  · exact h j h1
  · rw [show j = k by omega]; exact e
theorem AlikeTo.eq {l m : List Int} {k : Nat} (h : AlikeTo l m k) (h1 : l.length = m.length) (h2 : l.length ≤ k) : l = m := by
  apply List.ext_getElem h1
  intro i h3 h4
  have := h i (by omega)
  rwa [List.getElem?_eq_getElem h3, List.getElem?_eq_getElem h4] at this
theorem unlike {l m : List Int} {k : Nat} {x y : Int} (hx : l[k]?.getD 0 = x) (hy : m[k]?.getD 0 = y) (h : x ≠ y) : (l == m) = false := by
  rw [beq_eq_false_iff_ne]; intro e; subst e; exact h (hx.symm.trans hy)
theorem unlike_len {l m : List Int} (h : l.length ≠ m.length) : (l == m) = false := by
  rw [beq_eq_false_iff_ne]; intro e; subst e; exact h rfl

set_option maxHeartbeats 1000000 in
theorem sameints_any (A B : Option Addr) (c d : Nat) (l m : List Int) (w : World) (hA : Ints w A l) (hB : Ints w B m) (hlen : l.length ≤ 1000) :
    Calls Try.prog 32 #[.slice A l.length c, .slice B m.length d] w (Says (.bool (l == m)) w) := by
  by_cases hl : l.length = m.length
  · have k0 : ((l.length : Int) != (m.length : Int)) = false := by rw [hl]; simp
    have HL := Lib.hid hl
    have hA' := Lib.hid hA
    have hB' := Lib.hid hB
    clear hl hA hB
    go_enter Try.func32, Try.ntmps32
    go_wp2
    go_loopw [5] (fun i wr => ∃ (k n : Nat), k ≤ l.length ∧ i = .int .i64 k ∧ AlikeTo l m k ∧ wr = w.drewN n) (fun i wr => l.length - (intOf i).toNat)
    case atStart => exact ⟨0, 0, Nat.zero_le _, rfl, fun j h => absurd h (Nat.not_lt_zero _), rfl⟩
    case round =>
      obtain ⟨k, n, hk, rfl, hal, rfl⟩ := hrel
      have HAL := Lib.hid hal
      clear hal
      by_cases hlt : k < l.length
      · obtain ⟨b, off, rfl, hb, hc⟩ := hA'.out (by omega)
        obtain ⟨b', off', rfl, hb', hc'⟩ := hB'.out (by have := HL.out; omega)
        have hck := hc k hlt
        have hck' := hc' k (by have := HL.out; omega)
        have hk0 : (0 : Int) ≤ (k : Int) := by omega
        have hk1 : (k : Int) < (l.length : Int) := by omega
        have hk2 : (k : Int) < (m.length : Int) := by have := HL.out; omega
        obtain ⟨x, hx⟩ : ∃ x, l[k]?.getD 0 = x := ⟨_, rfl⟩
        obtain ⟨y, hy⟩ : ∃ y, m[k]?.getD 0 = y := ⟨_, rfl⟩
        rw [hx] at hck
        rw [hy] at hck'
        have HX := Lib.hid hx
        have HY := Lib.hid hy
        clear hc hc' hx hy
        by_cases hxy : x = y
        · have HXY := Lib.hid hxy
          have kx : (x != y) = false := by rw [hxy]; simp
          clear hxy
          go_wp2_with fail
          go_quiet (fail)
          go_wp2
          go_roundw
          case rel => exact ⟨k + 1, _, by omega, by go_num, HAL.out.step (by rw [HX.out, HY.out, HXY.out]), rfl⟩
          case measure => simp [intOf]; omega
        · have HXY := Lib.hid hxy
          have kx : (x != y) = true := by rw [bne_iff_ne]; exact hxy
          clear hxy
          go_wp2_with fail
          go_quiet (fail)
          go_wp2
          go_ret
          exact ⟨ret_bool (unlike HX.out HY.out HXY.out).symm, below_drewN (below_drew0 w n) _⟩
      · go_wp2
        go_ret
        exact ⟨ret_bool (by rw [HAL.out.eq HL.out (by omega)]; exact (beq_self_eq_true m).symm), below_drew0 w n⟩
  · have k0 : ((l.length : Int) != (m.length : Int)) = true := by rw [bne_iff_ne]; omega
    have hf := unlike_len hl
    rw [hf]
    clear hl
    go_enter Try.func32, Try.ntmps32
    go_wp2
    go_ret
    exact ⟨rfl, Below.refl _ _⟩

def sameB (t n : Int) (l : List Int) (t' n' : Int) (l' : List Int) : Bool := (t == t') && (n == n') && (l == l')
theorem same_iff {t n t' n' : Int} {l l' : List Int} : sameB t n l t' n' l' = true ↔ t = t' ∧ n = n' ∧ l = l' := by
  unfold sameB; rw [Bool.and_eq_true, Bool.and_eq_true, beq_iff_eq, beq_iff_eq, beq_iff_eq]; exact and_assoc

set_option maxHeartbeats 1000000 in
theorem samest_any (t n t' n' : Int) (A B : Option Addr) (c d : Nat) (l m : List Int) (w : World) (hA : Ints w A l) (hB : Ints w B m) (hlen : l.length ≤ 1000) :
    Calls Try.prog 13 #[stV t n A l.length c, stV t' n' B m.length d] w (Says (.bool (sameB t n l t' n' m)) w) := by
  have hB0 : Below w.heap.size w ((w.alloc (.cells #[.int .i64 t, .int .i64 n, .slice A l.length c] 24)).alloc (.cells #[.int .i64 t', .int .i64 n', .slice B m.length d] 24)) := (alloc1 w _).alloc (by simp) _
  have H := sameints_any A B c d l m _ (hA.below hB0) (hB.below hB0) hlen
  unfold stV sameB
  cases h1 : (t == t')
  · go_enter Try.func13, Try.ntmps13
    go_wp2
    go_ret
    exact ⟨rfl, hB0⟩
  · cases h2 : (n == n')
    · go_enter Try.func13, Try.ntmps13
      go_wp2
      go_ret
      exact ⟨rfl, hB0⟩
    · generalize (l == m) = r at *
      go_enter Try.func13, Try.ntmps13
      go_wp2_with fail
      refine H.mono ?_
      rintro e w1 ⟨rfl, hB1⟩
      go_wp2
      go_ret
      exact ⟨rfl, nxt hB0 hB1 (by simp; omega)⟩

def emptyV (t : Int) : Value := .tuple #[stV (if t < 1 ∨ 5 < t then 0 else t) 0 none 0 0, .int .i64 (if t < 1 ∨ 5 < t then 8 else 0)]
end Go.Proofs.Ytpnclppjmgeddaa
