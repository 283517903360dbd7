/- plain, mapped; MappingHolds. -/
import Derived.Test.YtdanihadkchbbaaMpH
namespace Go.Proofs.Ytdanihadkchbbaa
open Go.RowKit Go.Maps
set_option linter.unusedVariables false
set_option linter.unusedSimpArgs false

theorem mapped_any (A : Option Addr) (c : Nat) (l : List Int) (w : World) (hA : Ints w A l) (hlen : l.length ≤ 1000) :
    Calls Try.prog 30 #[.slice A l.length c] w (Says (.bool (checkE 3 0 l == 0)) w) := by
  have HOF := of_any A l.length c w
  have HC := fun W (h : Below w.heap.size w W) => check_any 3 0 A c l W (hA.below h) hlen
  unfold stV at *
  generalize checkE 3 0 l = e at *
  clear hA
  go_enter Try.func30, Try.ntmps30
  go_wp2_with fail
  refine HOF.mono ?_
  rintro e w1 ⟨rfl, hB1⟩
  go_wp2_with fail
  refine (HC w1 hB1).mono ?_
  rintro e w2 ⟨rfl, hB2⟩
  go_wp2
  go_ret
  exact ⟨rfl, onto hB1 hB2⟩
theorem mapped_yes (A : Option Addr) (c : Nat) (l : List Int) (w : World) (hA : Ints w A l) (hlen : l.length ≤ 1000) (hr : krise l) :
    Calls Try.prog 30 #[.slice A l.length c] w (Yes w) := by
  have := mapped_any A c l w hA hlen
  rw [check_map hr] at this
  exact this
theorem mapped_no (A : Option Addr) (c : Nat) (l : List Int) (w : World) (hA : Ints w A l) (hlen : l.length ≤ 1000) (hr : ¬ krise l) :
    Calls Try.prog 30 #[.slice A l.length c] w (Says (.bool false) w) := by
  have := mapped_any A c l w hA hlen
  rw [check_no_map (n := 0) (fun e => hr e.2)] at this
  exact this
theorem plain_yes (A : Option Addr) (c : Nat) (l : List Int) (w : World) (hA : Ints w A l) (hlen : l.length ≤ 100) (hr : krise l) :
    Calls Try.prog 29 #[.slice A l.length c] w (Yes w) := by
  have H := mapped_yes A c l w hA (by omega) hr
  have q1 : decide ((l.length : Int) ≤ 100) = true := decide_eq_true (by omega)
  clear hA
  go_enter Try.func29, Try.ntmps29
  go_wp2_with fail
  refine H.mono ?_
  rintro e w1 ⟨rfl, hB1⟩
  go_wp2
  go_ret
  exact ⟨rfl, hB1⟩
theorem plain_no (A : Option Addr) (c : Nat) (l : List Int) (w : World) (hA : Ints w A l) (hm : l.length ≤ maxLen) (hr : ¬ (l.length ≤ 100 ∧ krise l)) :
    Calls Try.prog 29 #[.slice A l.length c] w (Says (.bool false) w) := by
  unfold maxLen at hm
  by_cases hl : l.length ≤ 100
  · have H := mapped_no A c l w hA (by omega) (fun h => hr ⟨hl, h⟩)
    have q1 : decide ((l.length : Int) ≤ 100) = true := decide_eq_true (by omega)
    clear hA
    go_enter Try.func29, Try.ntmps29
    go_wp2_with fail
    refine H.mono ?_
    rintro e w1 ⟨rfl, hB1⟩
    go_wp2
    go_ret
    exact ⟨rfl, hB1⟩
  · have q1 : decide ((l.length : Int) ≤ 100) = false := decide_eq_false (by omega)
    clear hA
    go_enter Try.func29, Try.ntmps29
    go_wp2
    go_ret
    exact ⟨rfl, Below.refl _ _⟩

set_option maxHeartbeats 2000000 in
theorem mholds_law (A : Option Addr) (c : Nat) (l : List Int) (x y v : Int) (w : World) (hA : Ints w A l) (hk : l.length ≤ c) (hm : c ≤ maxLen) :
    Calls Try.prog 6 #[.slice A l.length c, .int .i64 x, .int .i64 y, .int .i64 v] w (Yes w) := by
  by_cases hp : l.length ≤ 100 ∧ krise l
  · obtain ⟨hl, hr⟩ := hp
    have HPL := fun W (h : Below w.heap.size w W) => plain_yes A c l W (hA.below h) hl hr
    have HS := fun W (h : Below w.heap.size w W) => mset_any A c l x v W (hA.below h) (by omega) hk
    have HD := fun W (h : Below w.heap.size w W) => mdrop_any A c l x W (hA.below h) (by omega) hk
    have hsl := set_len_le l x v
    have hdl := drop_len_le l x
    have HM1 := fun W B d (h : Ints W B (setM l x v)) => mapped_yes B d _ W h (by omega) (krise_set hr x v)
    have HM2 := fun W B d (h : Ints W B (dropM l x)) => mapped_yes B d _ W h (by omega) (krise_drop hr x)
    have HF1 := fun W B d (h : Ints W B (setM l x v)) (h' : (setM l x v).length ≤ d) => mfind_any B d _ x W h (by omega) h'
    have HF2 := fun W B d (h : Ints W B (dropM l x)) (h' : (dropM l x).length ≤ d) => mfind_any B d _ x W h (by omega) h'
    have HF3 := fun W (h : Below w.heap.size w W) => mfind_any A c l y W (hA.below h) (by omega) hk
    have HF4 := fun W B d (h : Ints W B (setM l x v)) (h' : (setM l x v).length ≤ d) => mfind_any B d _ y W h (by omega) h'
    have HF5 := fun W B d (h : Ints W B (dropM l x)) (h' : (dropM l x).length ≤ d) => mfind_any B d _ y W h (by omega) h'
    unfold findV kval khas at *
    rw [get_set hr, if_pos rfl] at HF1
    rw [get_drop hr, if_pos rfl] at HF2
    rw [get_set hr] at HF4
    rw [get_drop hr] at HF5
    simp only [Option.getD_some, Option.isSome_some, Option.getD_none, Option.isSome_none] at HF1 HF2
    generalize kget l y = ky at *
    generalize setM l x v = mw at *
    generalize dropM l x = mo at *
    unfold RowPost at HS HD
    have v1 : (v != v) = false := by simp
    clear hA hr
    by_cases hxy : y = x
    · have e1 : (y == x) = true := by simp [hxy]
      have e2 : (x == x) = true := by simp
      clear HF3 HF4 HF5
      go_enter Try.func6, Try.ntmps6
      go_wp2_with fail
      refine (known_all w).mono ?_
      rintro e w1 ⟨rfl, hB1⟩
      go_wp2_with fail
      refine (HPL w1 hB1).mono ?_
      rintro e w2 ⟨rfl, hB2⟩
      have hC2 := onto hB1 hB2
      go_wp2_with fail
      refine (HS w2 hC2).mono ?_
      rintro e w3 ⟨X, cX, rfl, hX, hB3⟩
      have hfX := row_fit hX
      have IX3 := Lib.hid (own_ints rfl hX)
      have hC3 := onto hC2 hB3
      clear hX
      go_wp2_with fail
      refine (HD w3 hC3).mono ?_
      rintro e w4 ⟨Y, cY, rfl, hY, hB4⟩
      have hfY := row_fit hY
      have IY4 := Lib.hid (own_ints rfl hY)
      have IX4 := Lib.hid (IX3.out.below hB4)
      have hC4 := onto hC3 hB4
      clear hY
      go_wp2_with fail
      refine (HM1 w4 X cX IX4.out).mono ?_
      rintro e w5 ⟨rfl, hB5⟩
      have IX5 := Lib.hid (IX4.out.below hB5)
      have IY5 := Lib.hid (IY4.out.below hB5)
      have hC5 := onto hC4 hB5
      go_wp2_with fail
      refine (HM2 w5 Y cY IY5.out).mono ?_
      rintro e w6 ⟨rfl, hB6⟩
      have IX6 := Lib.hid (IX5.out.below hB6)
      have IY6 := Lib.hid (IY5.out.below hB6)
      have hC6 := onto hC5 hB6
      go_wp2_with fail
      refine (HF1 w6 X cX IX6.out hfX).mono ?_
      rintro e w7 ⟨rfl, hB7⟩
      have IY7 := Lib.hid (IY6.out.below hB7)
      have hC7 := onto hC6 hB7
      go_wp2_with fail
      refine (HF2 w7 Y cY IY7.out hfY).mono ?_
      rintro e w8 ⟨rfl, hB8⟩
      have hC8 := onto hC7 hB8
      go_wp2
      go_ret
      exact ⟨rfl, hC8⟩
    · have e1 : (y == x) = false := by simp [hxy]
      rw [if_neg hxy] at HF4 HF5
      generalize ky.getD 0 = gv at *
      generalize ky.isSome = gb at *
      have e2 : (gv == gv) = true := by simp
      have e3 : (gb == gb) = true := by simp
      clear hxy
      go_enter Try.func6, Try.ntmps6
      go_wp2_with fail
      refine (known_all w).mono ?_
      rintro e w1 ⟨rfl, hB1⟩
      go_wp2_with fail
      refine (HPL w1 hB1).mono ?_
      rintro e w2 ⟨rfl, hB2⟩
      have hC2 := onto hB1 hB2
      go_wp2_with fail
      refine (HS w2 hC2).mono ?_
      rintro e w3 ⟨X, cX, rfl, hX, hB3⟩
      have hfX := row_fit hX
      have IX3 := Lib.hid (own_ints rfl hX)
      have hC3 := onto hC2 hB3
      clear hX
      go_wp2_with fail
      refine (HD w3 hC3).mono ?_
      rintro e w4 ⟨Y, cY, rfl, hY, hB4⟩
      have hfY := row_fit hY
      have IY4 := Lib.hid (own_ints rfl hY)
      have IX4 := Lib.hid (IX3.out.below hB4)
      have hC4 := onto hC3 hB4
      clear hY
      go_wp2_with fail
      refine (HM1 w4 X cX IX4.out).mono ?_
      rintro e w5 ⟨rfl, hB5⟩
      have IX5 := Lib.hid (IX4.out.below hB5)
      have IY5 := Lib.hid (IY4.out.below hB5)
      have hC5 := onto hC4 hB5
      go_wp2_with fail
      refine (HM2 w5 Y cY IY5.out).mono ?_
      rintro e w6 ⟨rfl, hB6⟩
      have IX6 := Lib.hid (IX5.out.below hB6)
      have IY6 := Lib.hid (IY5.out.below hB6)
      have hC6 := onto hC5 hB6
      go_wp2_with fail
      refine (HF1 w6 X cX IX6.out hfX).mono ?_
      rintro e w7 ⟨rfl, hB7⟩
      have IX7 := Lib.hid (IX6.out.below hB7)
      have IY7 := Lib.hid (IY6.out.below hB7)
      have hC7 := onto hC6 hB7
      go_wp2_with fail
      refine (HF2 w7 Y cY IY7.out hfY).mono ?_
      rintro e w8 ⟨rfl, hB8⟩
      have IX8 := Lib.hid (IX7.out.below hB8)
      have IY8 := Lib.hid (IY7.out.below hB8)
      have hC8 := onto hC7 hB8
      go_wp2_with fail
      refine (HF3 w8 hC8).mono ?_
      rintro e w9 ⟨rfl, hB9⟩
      have IX9 := Lib.hid (IX8.out.below hB9)
      have IY9 := Lib.hid (IY8.out.below hB9)
      have hC9 := onto hC8 hB9
      go_wp2_with fail
      refine (HF4 w9 X cX IX9.out hfX).mono ?_
      rintro e w10 ⟨rfl, hB10⟩
      have IY10 := Lib.hid (IY9.out.below hB10)
      have hC10 := onto hC9 hB10
      go_wp2_with fail
      refine (HF5 w10 Y cY IY10.out hfY).mono ?_
      rintro e w11 ⟨rfl, hB11⟩
      have hC11 := onto hC10 hB11
      go_wp2
      go_ret
      exact ⟨rfl, hC11⟩
  · have HPL := fun W (h : Below w.heap.size w W) => plain_no A c l W (hA.below h) (by omega) hp
    clear hA hp
    go_enter Try.func6, Try.ntmps6
    go_wp2_with fail
    refine (known_all w).mono ?_
    rintro e w1 ⟨rfl, hB1⟩
    go_wp2_with fail
    refine (HPL w1 hB1).mono ?_
    rintro e w2 ⟨rfl, hB2⟩
    go_wp2
    go_ret
    exact ⟨rfl, onto hB1 hB2⟩
end Go.Proofs.Ytdanihadkchbbaa
