/- MappingLists. -/
import Derived.Test.YtdanihadkchbbaaMpI
namespace Go.Proofs.Ytdanihadkchbbaa
open Go.RowKit Go.Maps
set_option linter.unusedVariables false
set_option linter.unusedSimpArgs false

theorem overints_own (A : Option Addr) (c n lo : Nat) (xs : List Value) (w : World) (h : w.ownsRow lo 3 1 (.slice A n c) n xs) (hn : n ≤ 1001) :
    Calls Try.prog 18 #[.slice A n c] w fun e w' => e = .returned (.tuple #[]) ∧ w.grownBy w' (Value.ownBlock (.slice A n c)) := by
  rcases h.2 with ⟨e1, e2⟩ | ⟨g, cap', cur, e1, hg, _⟩
  · injection e1 with e3 e4 e5
    subst e3 e4 e5
    have := overints_any none 0 0 w.heap.size [] w (World.ownsRow_nil _ _ _ _) (by omega) (Nat.le_refl _)
    refine this.mono ?_
    rintro e w' ⟨rfl, hB⟩
    exact ⟨rfl, ⟨hB.os, hB.tape, hB.output, hB.size, fun k hk _ => hB.block k hk⟩⟩
  · injection e1 with e3 e4 e5
    subst e3 e5
    exact overrow_any g c n lo xs w h hn

theorem rf_eq {l : List Int} (h : krise l) (x : Int) : rfV l x = findV l x := by
  unfold rfV findV kval khas; rw [rget_eq h]
theorem rset_eq {l : List Int} (h : krise l) (x v : Int) : rins (rdrop l x) x v = setM l x v := by rw [rdrop_eq h, rins_eq h]

set_option maxHeartbeats 2000000 in
theorem mlists_law (A : Option Addr) (c : Nat) (l : List Int) (x v : Int) (w : World) (hA : Ints w A l) (hk : l.length ≤ c) (hm : c ≤ maxLen) :
    Calls Try.prog 3 #[.slice A l.length c, .int .i64 x, .int .i64 v] w (Yes w) := by
  unfold maxLen at hm
  by_cases hl : 100 < l.length
  · have q1 : decide ((l.length : Int) > 100) = true := decide_eq_true (by omega)
    have q2 : decide ((100 : Int) < (l.length : Int)) = true := decide_eq_true (by omega)
    go_enter Try.func3, Try.ntmps3
    go_wp2_with fail
    refine (awake_yes _).mono ?_
    rintro e w1 ⟨rfl, hB1⟩
    go_wp2
    go_ret
    exact ⟨rfl, hB1⟩
  · have q1 : decide ((l.length : Int) > 100) = false := decide_eq_false (by omega)
    have q2 : decide ((100 : Int) < (l.length : Int)) = false := decide_eq_false (by omega)
    have HC := check_any 3 0 A c l w hA (by omega)
    by_cases hr : krise l
    · rw [check_map hr] at HC
      have HE1 := fun W B d (h : Ints W B l) => mrset_any B d l x v W h (by omega) (by rw [rdrop_eq hr]; have := drop_len_le l x; omega)
      have HE2 := fun W B d (h : Ints W B l) => mrdrop_any B d l x W h (by omega)
      rw [rset_eq hr] at HE1
      rw [rdrop_eq hr] at HE2
      have HE3 := fun W B d (h : Ints W B l) => mrfind_any B d l x W h (by omega)
      rw [rf_eq hr] at HE3
      have HE4 := fun W B d (h : Ints W B l) (h' : l.length ≤ d) => mfind_any B d l x W h (by omega) h'
      have HE5 := fun W B d (h : Ints W B l) (h' : l.length ≤ d) => mset_any B d l x v W h (by omega) h'
      have HE6 := fun W B d (h : Ints W B l) (h' : l.length ≤ d) => mdrop_any B d l x W h (by omega) h'
      have HE7 := fun W B d (h : Ints W B l) => copy_any B d l W h (by omega)
      have HE8 := fun W B d B' d' (h : Ints W B l) (h' : Ints W B' l) => sameints_any B B' d d' l l W h h' (by omega)
      rw [show (l == l) = true by simp] at HE8
      have hwl := set_len_le l x v
      have hol := drop_len_le l x
      have HE9 := fun W B d B' d' (h : Ints W B (setM l x v)) (h' : Ints W B' (setM l x v)) => sameints_any B B' d d' (setM l x v) (setM l x v) W h h' (by omega)
      have HE10 := fun W B d B' d' (h : Ints W B (dropM l x)) (h' : Ints W B' (dropM l x)) => sameints_any B B' d d' (dropM l x) (dropM l x) W h h' (by omega)
      rw [show (setM l x v == setM l x v) = true by simp] at HE9
      rw [show (dropM l x == dropM l x) = true by simp] at HE10
      unfold findV at HE3 HE4
      generalize setM l x v = mw at *
      generalize dropM l x = mo at *
      generalize kval l x = va at *
      generalize khas l x = be at *
      have e1 : (va == va) = true := by simp
      have e2 : (be == be) = true := by simp
      unfold RowPost at HE1 HE2 HE5 HE6
      unfold CopyPost at HE7
      unfold stV at HC
      have IA := Lib.hid hA
      clear hA hr
      go_enter Try.func3, Try.ntmps3
      go_wp2_with fail
      refine HC.mono ?_
      rintro e w1 ⟨rfl, hB1⟩
      have IS1 := Lib.hid (IA.out.below hB1)
      go_wp2_with fail
      refine (HE7 w1 A c IS1.out).mono ?_
      rintro e w2 ⟨g2, c2, rfl, h2, hB2⟩
      have hf2 := row_fit h2
      have IN2 := Lib.hid (own_ints rfl h2)
      have IS2 := Lib.hid (IS1.out.below hB2)
      have hC2 := onto hB1 hB2
      clear h2
      go_wp2_with fail
      refine (HE4 w2 _ c2 IN2.out hf2).mono ?_
      rintro e w3 ⟨rfl, hB3⟩
      have hD3 := hB3
      go_wp2_with fail
      refine (HE3 w3 A c (IS2.out.below hD3)).mono ?_
      rintro e w4 ⟨rfl, hw4⟩
      have hD4 : Below w2.heap.size w2 w4 := by rw [hw4]; exact hD3
      clear hw4
      go_wp2_with fail
      refine (HE5 w4 _ c2 (IN2.out.below hD4) hf2).mono ?_
      rintro e w5 ⟨ga, ca, rfl, ha, hB5⟩
      have RA5 := Lib.hid ha
      have hD5 := onto hD4 hB5
      clear ha
      go_wp2_with fail
      refine (HE6 w5 _ c2 (IN2.out.below hD5) hf2).mono ?_
      rintro e w6 ⟨gb, cb, rfl, hb, hB6⟩
      have RB6 := Lib.hid hb
      have RA6 := Lib.hid (row_below RA5.out hB6)
      have hD6 := onto hD5 hB6
      clear hb
      go_wp2_with fail
      refine (HE1 w6 A c (IS2.out.below hD6)).mono ?_
      rintro e w7 ⟨Y7, c7, rfl, h7, hB7⟩
      have IY7 := Lib.hid (own_ints rfl h7)
      have RA7 := Lib.hid (row_below RA6.out hB7)
      have RB7 := Lib.hid (row_below RB6.out hB7)
      have hD7 := onto hD6 hB7
      clear h7
      go_wp2_with fail
      refine (HE9 w7 _ ca _ c7 (own_ints rfl RA7.out) IY7.out).mono ?_
      rintro e w8 ⟨rfl, hB8⟩
      have RA8 := Lib.hid (row_below RA7.out hB8)
      have RB8 := Lib.hid (row_below RB7.out hB8)
      have hD8 := onto hD7 hB8
      go_wp2_with fail
      refine (HE2 w8 A c (IS2.out.below hD8)).mono ?_
      rintro e w9 ⟨Y9, c9, rfl, h9, hB9⟩
      have IY9 := Lib.hid (own_ints rfl h9)
      have RA9 := Lib.hid (row_below RA8.out hB9)
      have RB9 := Lib.hid (row_below RB8.out hB9)
      have hD9 := onto hD8 hB9
      clear h9
      go_wp2_with fail
      refine (HE10 w9 _ cb _ c9 (own_ints rfl RB9.out) IY9.out).mono ?_
      rintro e w10 ⟨rfl, hB10⟩
      have RA10 := Lib.hid (row_below RA9.out hB10)
      have RB10 := Lib.hid (row_below RB9.out hB10)
      have hD10 := onto hD9 hB10
      have hs4 := hD4.size
      have hs5 := hD5.size
      go_wp2_with fail
      refine (overints_own ga ca mw.length _ _ w10 RA10.out (by omega)).mono ?_
      rintro e w11 ⟨rfl, hg11⟩
      have RB11 := Lib.hid (RB10.out.kept hg11 (by
        rcases hgb : Value.ownBlock (.slice gb mo.length cb) with _ | q
        · exact .inl rfl
        · refine .inr fun e => ?_
          have h1 := RA5.out.lt q e.symm
          have h2 := RB6.out.lt q hgb
          omega))
      have hB11 : Below w2.heap.size w10 w11 := (Below.refl _ w10).grown hg11 hD10.size (fun k e => by have := (RA10.out.lt k e).1; omega)
      have hD11 := hD10.trans hB11
      clear hg11
      go_wp2_with fail
      refine (overints_own gb cb mo.length _ _ w11 RB11.out (by omega)).mono ?_
      rintro e w12 ⟨rfl, hg12⟩
      have hB12 : Below w2.heap.size w11 w12 := (Below.refl _ w11).grown hg12 hD11.size (fun k e => by have := (RB11.out.lt k e).1; omega)
      have hD12 := hD11.trans hB12
      have hC12 := nxt hC2 hD12 hC2.size
      clear hg12
      go_wp2_with fail
      refine (HE8 w12 _ c2 A c (IN2.out.below hD12) (IS2.out.below hD12)).mono ?_
      rintro e w13 ⟨rfl, hB13⟩
      go_wp2_with fail
      refine (awake_yes _).mono ?_
      rintro e w14 ⟨rfl, hB14⟩
      go_wp2
      go_ret
      exact ⟨rfl, onto (onto hC12 hB13) hB14⟩
    · rw [check_no_map (n := 0) (fun e => hr e.2)] at HC
      unfold stV at HC
      clear hA hr
      go_enter Try.func3, Try.ntmps3
      go_wp2_with fail
      refine HC.mono ?_
      rintro e w1 ⟨rfl, hB1⟩
      go_wp2_with fail
      refine (awake_yes _).mono ?_
      rintro e w2 ⟨rfl, hB2⟩
      go_wp2
      go_ret
      exact ⟨rfl, onto hB1 hB2⟩
end Go.Proofs.Ytdanihadkchbbaa
