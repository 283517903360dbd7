/- StateBack. -/
import Derived.Test.YtbenfdbjpefegaaDoorStX
import Derived.Test.YtbenfdbjpefegaaDoorStPp
namespace Go.Proofs.YtbenfdbjpefegaaDoor
open Go.RowKit Go.Maps
set_option linter.unusedVariables false

theorem txt_size {t n : Int} {l : List Int} (hl : l.length ≤ 60) (hn : Small n) (hs : ∀ x ∈ l, Small x) : (txtR t n l).length ≤ 1300 := by
  unfold txtR
  split
  · unfold txtL
    have h1 := txtOf_len (numsOf t n l) (nums_small hn hs)
    have h2 : (numsOf t n l).length ≤ 60 := by
      unfold numsOf
      split
      · simp
      · omega
    have h3 := word_len t.toNat
    rw [List.length_append, show (wordL t.toNat).length = (wordB t.toNat).size from bytes_len _]
    omega
  · simp

set_option maxRecDepth 100000 in
set_option maxHeartbeats 1000000 in
theorem back_law (t n : Int) (A : Option Addr) (c : Nat) (l : List Int) (w : World) (hw : Wds w) (hA : Ints w A l) (hsl : ∀ x ∈ l, Small x) (hn : Small n) :
    Calls Tryd.prog 6 #[stV t n A l.length c] w (Yes w) := by
  have hB0 := alloc1 w (.cells #[.int .i64 t, .int .i64 n, .slice A l.length c] 24)
  have HX := Holds.new w 24 #[.int .i64 t, .int .i64 n, .slice A l.length c]
  have hs0 : w.heap.size < (w.alloc (.cells #[.int .i64 t, .int .i64 n, .slice A l.length c] 24)).heap.size := by simp
  have HKN := known_law _ (hw.on hB0)
  unfold stV
  by_cases hl : l.length ≤ 60
  · have q1 : decide (60 < (l.length : Int)) = false := decide_eq_false (by omega)
    go_enter Tryd.func6, Tryd.ntmps6
    go_wp2_with fail
    refine HKN.mono ?_
    rintro e w1 ⟨rfl, hB1⟩
    have hW1 := nxt hB0 hB1 (by omega)
    have HX1 := HX.below hB1 hs0
    have hl1 := HX1.lt
    have hs1 := hW1.size
    have HS : ∀ w', Below w1.heap.size w1 w' → w'.cell? ⟨w.heap.size, 0, none⟩ = some (.int .i64 t) ∧ w'.cell? ⟨w.heap.size, 1, none⟩ = some (.int .i64 n) ∧ w'.cell? ⟨w.heap.size, 2, none⟩ = some (.slice A l.length c) := fun w' h => ⟨(HX1.below h hl1).c (j := 0) rfl, (HX1.below h hl1).c (j := 1) rfl, (HX1.below h hl1).c (j := 2) rfl⟩
    have HKS := Lib.hid HS
    have hi1 : Ints w1 A l := hA.below hW1
    have hwd1 : Wds w1 := hw.on hW1
    have HE := Lib.hid (enc_any t n A c l w1 hi1 (by omega))
    have HT := Lib.hid (fun W (h : Below w1.heap.size w1 W) => text_any t n A c l W (hwd1.on h) (hi1.below h) (by omega) hsl hn)
    have HCK := Lib.hid (fun W (h : Below w1.heap.size w1 W) => check_any t n A c l W (hi1.below h) (by omega))
    have HI := Lib.hid hi1
    have HWD := Lib.hid hwd1
    have hts := txt_size (t := t) hl hn hsl
    have HSL := Lib.hid hsl
    have HN := Lib.hid hn
    obtain ⟨d0, d1, d2⟩ := HKS.out w1 (Below.refl _ _)
    unfold TextP at HT
    obtain ⟨tx, htx⟩ : ∃ tx, (⟨(txtR t n l).toArray⟩ : ByteArray) = tx := ⟨_, rfl⟩
    rw [htx] at HT
    have htl : tx.data.toList = txtR t n l := by rw [← htx]
    have htz : tx.size ≤ 1300 := by rw [← bytes_len, htl]; exact hts
    have HTL := Lib.hid htl
    unfold stV at HE HT HCK
    clear HS hA hi1 hwd1 hw HX HX1 hB1 hB0 HKN hsl hn htx htl
    by_cases hE : checkE t n l = 0
    · have e1 : encR t n l = encL t n l := by unfold encR; rw [if_pos hE]
      have e2 : txtR t n l = txtL t n l := by unfold txtR; rw [if_pos hE]
      have hde := dec_enc hE HN.out HSL.out (by omega)
      have HRD := Lib.hid (read_told hE HN.out HSL.out)
      rw [e1] at HE
      rw [e2] at HTL
      rw [hE] at HE HT HCK
      have hel := enc_len t n l
      have HDE := Lib.hid hde
      have HOC := Lib.hid (enc_octets t n l)
      have HYD : ∀ ys, ys = encL t n l → decOk ys = true ∧ decT ys = t ∧ decN ys = n ∧ decL ys = l := fun ys h => by rw [h]; exact ⟨hde.2.2.2, hde.1, hde.2.1, hde.2.2.1⟩
      obtain ⟨ys, hys⟩ : ∃ ys, encL t n l = ys := ⟨_, rfl⟩
      rw [hys] at HE hel HOC
      have HYD' := Lib.hid (HYD ys hys.symm)
      have hel2 : ys.length ≤ 800 := by omega
      clear hel
      clear hde e1 e2 hys HDE HYD hE
      go_wp2_with fail
      refine HE.out.mono ?_
      rintro e w2 ⟨A2, c2, rfl, hr2, hB2⟩
      have hs2 := hB2.size
      obtain ⟨d0, d1, d2⟩ := HKS.out w2 hB2
      go_wp2_with fail
      refine (HT.out w2 hB2).mono ?_
      rintro e w3 ⟨rfl, hB3⟩
      have h3 := nxt hB2 hB3 hs2
      have hs3 := h3.size
      have hr3 := row_below hr2 hB3
      obtain ⟨d0, d1, d2⟩ := HKS.out w3 h3
      clear hr2 hB3
      go_wp2_with fail
      refine (HCK.out w3 h3).mono ?_
      rintro e w4 ⟨rfl, hB4⟩
      have h4 := nxt h3 hB4 hs3
      have hs4 := h4.size
      have hr4 := row_below hr3 hB4
      clear hr3 hB4
      have hyl : ys.length ≤ c2 ∧ c2 ≤ 9223372036854775807 := by
        rcases hr4.2 with ⟨e1, e2⟩ | ⟨g, cap, cur, e1, _, _, e3, e4, _⟩
        · injection e1 with a1 a2 a3
          omega
        · injection e1 with a1 a2 a3
          subst a3
          unfold maxLen at e4
          exact ⟨e3, e4⟩
      have HD := dec_any A2 c2 ys w4 (show Bytes w4 A2 ys from own_bytes hr4) HOC.out (by omega) hyl.1 hyl.2
      go_wp2_with fail
      refine HD.mono ?_
      intro e w5 hp
      obtain ⟨hok, e1, e2, e3⟩ := HYD'.out
      rcases hp with ⟨_, A5, c5, rfl, ho5, hB5⟩ | ⟨hno, _⟩
      · rw [e1, e2, e3]
        rw [e3] at ho5
        unfold stV
        have h5 := nxt h4 hB5 hs4
        have hs5 := h5.size
        have hB6 := alloc1 w5 (.cells #[.int .i64 t, .int .i64 n, .slice A5 l.length c5] 24)
        have HZ6 := Holds.new w5 24 #[.int .i64 t, .int .i64 n, .slice A5 l.length c5]
        have h6 := nxt h5 hB6 hs5
        have ho6 := row_below ho5 hB6
        obtain ⟨f0, f1, f2⟩ := HKS.out _ h6
        have SS := samest_any t n t n A5 A c5 c l l _ (own_ints rfl ho6) (HI.out.below h6) (by omega)
        rw [same_iff.2 ⟨rfl, rfl, rfl⟩] at SS
        unfold stV at SS
        clear e1 e2 e3 ho5 HD hok d0 d1 d2
        go_upto_region 11 with fail
        generalize w5.alloc (.cells #[.int .i64 t, .int .i64 n, .slice A5 l.length c5] 24) = W6 at *
        have g0 := HZ6.c (j := 0) rfl
        have g1 := HZ6.c (j := 1) rfl
        have g2 := HZ6.c (j := 2) rfl
        have hs6 := h6.size
        go_wp2_with fail
        refine SS.mono ?_
        rintro e w7 ⟨rfl, hB7⟩
        have h7 := nxt h6 hB7 hs6
        obtain ⟨d0, d1, d2⟩ := HKS.out _ h7
        have RY := reads_yes tx t n A c l.length l w7 (HWD.out.on h7) rfl (HI.out.below h7) (by omega) (by omega) (by rw [HTL.out]; exact HRD.out)
        go_wp2_with fail
        refine RY.mono ?_
        rintro e w8 ⟨rfl, hB8⟩
        go_wp2
        go_ret
        exact ⟨rfl, nxt hW1 (nxt h7 hB8 h7.size) (by omega)⟩
      · rw [hok] at hno; cases hno
    · have e1 : encR t n l = [] := by unfold encR; rw [if_neg hE]
      have e2 : txtR t n l = [] := by unfold txtR; rw [if_neg hE]
      rw [e1] at HE
      rw [e2] at HTL
      have htn : tx = ⟨#[]⟩ := by
        apply ByteArray.ext
        apply Array.ext'
        rw [HTL.out]
      subst htn
      generalize checkE t n l = r at *
      have hb : (r != 0) = true := by rw [bne_iff_ne]; exact hE
      have hrr : (r != r) = false := by simp
      clear e1 e2
      go_wp2_with fail
      refine HE.out.mono ?_
      rintro e w2 ⟨A2, c2, rfl, hr2, hB2⟩
      have hs2 := hB2.size
      obtain ⟨d0, d1, d2⟩ := HKS.out w2 hB2
      go_wp2_with fail
      refine (HT.out w2 hB2).mono ?_
      rintro e w3 ⟨rfl, hB3⟩
      have h3 := nxt hB2 hB3 hs2
      have hs3 := h3.size
      obtain ⟨d0, d1, d2⟩ := HKS.out w3 h3
      go_wp2_with fail
      refine (HCK.out w3 h3).mono ?_
      rintro e w4 ⟨rfl, hB4⟩
      have h4 := nxt h3 hB4 hs3
      go_wp2
      go_ret
      exact ⟨rfl, nxt hW1 h4 (by omega)⟩
  · have q1 : decide (60 < (l.length : Int)) = true := decide_eq_true (by omega)
    go_enter Tryd.func6, Tryd.ntmps6
    go_wp2_with fail
    refine HKN.mono ?_
    rintro e w1 ⟨rfl, hB1⟩
    have hW1 := nxt hB0 hB1 (by omega)
    have HX1 := HX.below hB1 hs0
    have d2 := HX1.c (j := 2) rfl
    go_wp2
    go_ret
    exact ⟨rfl, hW1⟩
end Go.Proofs.YtbenfdbjpefegaaDoor
