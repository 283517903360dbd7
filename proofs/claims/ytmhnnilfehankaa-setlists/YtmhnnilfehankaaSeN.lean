/- SetLists. -/
import Derived.Test.YtmhnnilfehankaaSeJ
import Derived.Test.YtmhnnilfehankaaMaO
namespace Go.Proofs.Ytmhnnilfehankaa
open Go.RowKit Go.Maps
set_option linter.unusedVariables false

theorem row_lit {W : World} {b : Nat} {A : Option Addr} {c n : Nat} {xs : List Value} (h : W.ownsRow b 3 1 (.slice A n c) n xs) : n ≤ c := row_fit h

set_option maxHeartbeats 2000000 in
theorem lists_law (A : Option Addr) (c : Nat) (l : List Int) (x : Int) (w : World) (hA : Ints w A l) (hm : l.length ≤ maxLen) :
    Calls Try.prog 4 #[.slice A l.length c, .int .i64 x] w (Yes w) := by
  unfold maxLen at hm
  by_cases hl : 60 < l.length
  · go_enter Try.func4, Try.ntmps4
    go_wp2_with fail
    refine (awake_yes _).mono ?_
    rintro e w1 ⟨rfl, hB1⟩
    go_wp2
    go_ret
    exact ⟨rfl, hB1⟩
  · have HRI := risen_any A c l w hA (by omega)
    have hrl := ris_len l
    have hrr := ris_rise l
    have HE1 := fun W B d (h : Ints W B (risL l)) => rwith_any B d (risL l) x W h (by omega)
    have HE2 := fun W B d (h : Ints W B (risL l)) => rwithout_any B d (risL l) x W h (by omega)
    rw [rwith_eq hrr] at HE1
    rw [outF_eq hrr] at HE2
    have HE3 := fun W B d (h : Ints W B (risL l)) => rfind_any B d (risL l) x W h (by omega)
    have HE4 := fun W B d (h : Ints W B (risL l)) => xfind_any B d (risL l) x W h (by omega) hrr
    have HE5 := fun W B d (h : Ints W B (risL l)) (h' : (risL l).length ≤ d) => xwith_any B d (risL l) x W h (by omega) h' hrr
    have HE6 := fun W B d (h : Ints W B (risL l)) (h' : (risL l).length ≤ d) => xwithout_any B d (risL l) x W h (by omega) h' hrr
    have HE7 := fun W B d (h : Ints W B (risL l)) => copy_any B d (risL l) W h (by omega)
    have HE8 := fun W B d B' d' (h : Ints W B (risL l)) (h' : Ints W B' (risL l)) => sameints_any B B' d d' (risL l) (risL l) W h h' (by omega)
    rw [show (risL l == risL l) = true by simp] at HE8
    have hwl := with_le (risL l) x
    have hol := out_le hrr x
    have HE9 := fun W B d B' d' (h : Ints W B (withL (risL l) x)) (h' : Ints W B' (withL (risL l) x)) => sameints_any B B' d d' (withL (risL l) x) (withL (risL l) x) W h h' (by omega)
    have HE10 := fun W B d B' d' (h : Ints W B (outL (risL l) x)) (h' : Ints W B' (outL (risL l) x)) => sameints_any B B' d d' (outL (risL l) x) (outL (risL l) x) W h h' (by omega)
    rw [show (withL (risL l) x == withL (risL l) x) = true by simp] at HE9
    rw [show (outL (risL l) x == outL (risL l) x) = true by simp] at HE10
    unfold foundV at HE3 HE4
    generalize withL (risL l) x = mw at *
    generalize outL (risL l) x = mo at *
    generalize low (risL l) x = lo at *
    generalize isIn (risL l) x = be at *
    generalize risL l = s at *
    have e1 : ((lo : Int) == (lo : Int)) = true := by simp
    have e2 : (be == be) = true := by simp
    unfold RowPost at HRI HE1 HE2
    unfold CopyPost at HE5 HE6 HE7
    clear hA hrr
    go_enter Try.func4, Try.ntmps4
    go_wp2_with fail
    refine HRI.mono ?_
    rintro e w1 ⟨S, cS, rfl, hS, hB1⟩
    have IS1 := Lib.hid (own_ints rfl hS)
    clear hS
    go_wp2_with fail
    refine (HE7 w1 S cS IS1.out).mono ?_
    rintro e w2 ⟨g2, c2, rfl, h2, hB2⟩
    have hf2 := row_fit h2
    have IN2 := Lib.hid (own_ints rfl h2)
    have IS2 := Lib.hid (IS1.out.below hB2)
    have hC2 := onto hB1 hB2
    clear h2
    go_wp2_with fail
    refine (HE4 w2 _ c2 IN2.out).mono ?_
    rintro e w3 ⟨rfl, hB3⟩
    have hD3 := hB3
    go_wp2_with fail
    refine (HE3 w3 S cS (IS2.out.below hD3)).mono ?_
    rintro e w4 ⟨rfl, hB4⟩
    have hD4 := onto hD3 hB4
    go_wp2_with fail
    refine (HE5 w4 _ c2 (IN2.out.below hD4) hf2).mono ?_
    rintro e w5 ⟨ga, ca, rfl, ha, hB5⟩
    have RA5 := Lib.hid ha
    have hD5 := onto hD4 hB5
    clear ha
    go_wp2_with fail
    refine (HE6 w5 _ c2 (IN2.out.below hD5) hf2).mono ?_
    rintro e w6 ⟨gb, cb, rfl, hb, hB6⟩
    have RB6 := Lib.hid hb
    have RA6 := Lib.hid (row_below RA5.out hB6)
    have hD6 := onto hD5 hB6
    clear hb
    go_wp2_with fail
    refine (HE1 w6 S cS (IS2.out.below hD6)).mono ?_
    rintro e w7 ⟨Y7, c7, rfl, h7, hB7⟩
    have IY7 := Lib.hid (own_ints rfl h7)
    have RA7 := Lib.hid (row_below RA6.out hB7)
    have RB7 := Lib.hid (row_below RB6.out hB7)
    have hD7 := onto hD6 hB7
    clear h7
    go_wp2_with fail
    refine (HE9 w7 _ ca _ c7 (own_ints rfl RA7.out) IY7.out).mono ?_
    rintro e w8 ⟨rfl, hB8⟩
    have RA8 := Lib.hid (row_below RA7.out hB8)
    have RB8 := Lib.hid (row_below RB7.out hB8)
    have hD8 := onto hD7 hB8
    go_wp2_with fail
    refine (HE2 w8 S cS (IS2.out.below hD8)).mono ?_
    rintro e w9 ⟨Y9, c9, rfl, h9, hB9⟩
    have IY9 := Lib.hid (own_ints rfl h9)
    have RA9 := Lib.hid (row_below RA8.out hB9)
    have RB9 := Lib.hid (row_below RB8.out hB9)
    have hD9 := onto hD8 hB9
    clear h9
    go_wp2_with fail
    refine (HE10 w9 _ cb _ c9 (own_ints rfl RB9.out) IY9.out).mono ?_
    rintro e w10 ⟨rfl, hB10⟩
    have RA10 := Lib.hid (row_below RA9.out hB10)
    have RB10 := Lib.hid (row_below RB9.out hB10)
    have hD10 := onto hD9 hB10
    have hs4 := hD4.size
    have hs5 := hD5.size
    go_wp2_with fail
    refine (overrow_any ga ca mw.length _ _ w10 RA10.out (by omega)).mono ?_
    rintro e w11 ⟨rfl, hg11⟩
    have hga := RA5.out.lt ga rfl
    have hgb := RB10.out.lt gb rfl
    have RB11 := Lib.hid (RB10.out.kept hg11 (.inr (by intro e; simp [Value.ownBlock] at e; omega)))
    have hB11 : Below w2.heap.size w10 w11 := (Below.refl _ w10).grown hg11 hD10.size (fun k e => by cases e; omega)
    have hD11 := hD10.trans hB11
    clear hg11
    go_wp2_with fail
    refine (overrow_any gb cb mo.length _ _ w11 RB11.out (by omega)).mono ?_
    rintro e w12 ⟨rfl, hg12⟩
    have hB12 : Below w2.heap.size w11 w12 := (Below.refl _ w11).grown hg12 hD11.size (fun k e => by cases e; omega)
    have hD12 := hD11.trans hB12
    have hC12 := nxt hC2 hD12 hC2.size
    clear hg12
    go_wp2_with fail
    refine (HE8 w12 _ c2 S cS (IN2.out.below hD12) (IS2.out.below hD12)).mono ?_
    rintro e w13 ⟨rfl, hB13⟩
    go_wp2_with fail
    refine (awake_yes _).mono ?_
    rintro e w14 ⟨rfl, hB14⟩
    go_wp2
    go_ret
    exact ⟨rfl, onto (onto hC12 hB13) hB14⟩
end Go.Proofs.Ytmhnnilfehankaa
