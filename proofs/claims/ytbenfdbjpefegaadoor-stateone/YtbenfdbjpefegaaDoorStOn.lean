/- StateOne. -/
import Derived.Test.YtbenfdbjpefegaaDoorStBk
namespace Go.Proofs.YtbenfdbjpefegaaDoor
open Go.RowKit Go.Maps
set_option linter.unusedVariables false

theorem enc_one {t n t' n' : Int} {l m : List Int} (h : checkE t n l = 0) (h' : checkE t' n' m = 0) (hn : Small n) (hn' : Small n') (hs : ∀ x ∈ l, Small x) (hs' : ∀ x ∈ m, Small x) (hl : l.length ≤ 1000) (hl' : m.length ≤ 1000) :
    (encL t n l == encL t' n' m) = sameB t n l t' n' m := by
  have d1 := dec_enc h hn hs hl
  have d2 := dec_enc h' hn' hs' hl'
  by_cases e : encL t n l = encL t' n' m
  · rw [beq_iff_eq.2 e]
    symm
    rw [same_iff]
    rw [e] at d1
    exact ⟨d1.1.symm.trans d2.1, d1.2.1.symm.trans d2.2.1, d1.2.2.1.symm.trans d2.2.2.1⟩
  · rw [beq_eq_false_iff_ne.2 e]
    cases hb : sameB t n l t' n' m
    · rfl
    · obtain ⟨rfl, rfl, rfl⟩ := same_iff.1 hb
      exact absurd rfl e
theorem txt_one {t n t' n' : Int} {l m : List Int} (h : checkE t n l = 0) (h' : checkE t' n' m = 0) (hn : Small n) (hn' : Small n') (hs : ∀ x ∈ l, Small x) (hs' : ∀ x ∈ m, Small x) :
    ((⟨(txtL t n l).toArray⟩ : ByteArray).toList == (⟨(txtL t' n' m).toArray⟩ : ByteArray).toList) = sameB t n l t' n' m := by
  have d1 := read_told h hn hs
  have d2 := read_told h' hn' hs'
  rw [Go.ByteArray.toList_eq, Go.ByteArray.toList_eq]
  by_cases e : txtL t n l = txtL t' n' m
  · rw [e] at d1 ⊢
    rw [d2] at d1
    injection d1 with d3 _
    injection d3 with d4 d5
    injection d5 with d6 d7
    rw [same_iff.2 ⟨d4.symm, d6.symm, d7.symm⟩]; simp
  · have hb : sameB t n l t' n' m = false := by
      cases hb : sameB t n l t' n' m
      · rfl
      · obtain ⟨rfl, rfl, rfl⟩ := same_iff.1 hb
        exact absurd rfl e
    rw [hb]
    simpa using e

set_option maxRecDepth 100000 in
set_option maxHeartbeats 1500000 in
theorem one_law (t n t' n' : Int) (A B : Option Addr) (c d : Nat) (l m : List Int) (w : World) (hw : Wds w) (hA : Ints w A l) (hB : Ints w B m) (hsl : ∀ x ∈ l, Small x) (hn : Small n) (hsm : ∀ x ∈ m, Small x) (hn' : Small n') :
    Calls Tryd.prog 7 #[stV t n A l.length c, stV t' n' B m.length d] w (Yes w) := by
  have hB0 : Below w.heap.size w ((w.alloc (.cells #[.int .i64 t, .int .i64 n, .slice A l.length c] 24)).alloc (.cells #[.int .i64 t', .int .i64 n', .slice B m.length d] 24)) := (alloc1 w _).alloc (by simp) _
  have HX := (Holds.new w 24 #[.int .i64 t, .int .i64 n, .slice A l.length c]).alloc (.cells #[.int .i64 t', .int .i64 n', .slice B m.length d] 24)
  have HY := Holds.new (w.alloc (.cells #[.int .i64 t, .int .i64 n, .slice A l.length c] 24)) 24 #[.int .i64 t', .int .i64 n', .slice B m.length d]
  rw [World.size_alloc] at HY
  have hs0 : w.heap.size + 1 < ((w.alloc (.cells #[.int .i64 t, .int .i64 n, .slice A l.length c] 24)).alloc (.cells #[.int .i64 t', .int .i64 n', .slice B m.length d] 24)).heap.size := by simp
  have HKN := known_law _ (hw.on hB0)
  unfold stV
  go_enter Tryd.func7, Tryd.ntmps7
  go_wp2_with fail
  generalize (w.alloc (.cells #[.int .i64 t, .int .i64 n, .slice A l.length c] 24)).alloc (.cells #[.int .i64 t', .int .i64 n', .slice B m.length d] 24) = W0 at *
  refine HKN.mono ?_
  rintro e w1 ⟨rfl, hB1⟩
  have hW1 := nxt hB0 hB1 (by omega)
  have HX1 := HX.below hB1 (by omega)
  have HY1 := HY.below hB1 hs0
  have hl1 := HX1.lt
  have hl2 := HY1.lt
  have hs1 := hW1.size
  have HS : ∀ w', Below w1.heap.size w1 w' → w'.cell? ⟨w.heap.size, 0, none⟩ = some (.int .i64 t) ∧ w'.cell? ⟨w.heap.size, 1, none⟩ = some (.int .i64 n) ∧ w'.cell? ⟨w.heap.size, 2, none⟩ = some (.slice A l.length c) ∧ w'.cell? ⟨w.heap.size + 1, 0, none⟩ = some (.int .i64 t') ∧ w'.cell? ⟨w.heap.size + 1, 1, none⟩ = some (.int .i64 n') ∧ w'.cell? ⟨w.heap.size + 1, 2, none⟩ = some (.slice B m.length d) := fun w' h => ⟨(HX1.below h hl1).c (j := 0) rfl, (HX1.below h hl1).c (j := 1) rfl, (HX1.below h hl1).c (j := 2) rfl, (HY1.below h hl2).c (j := 0) rfl, (HY1.below h hl2).c (j := 1) rfl, (HY1.below h hl2).c (j := 2) rfl⟩
  have HKS := Lib.hid HS
  obtain ⟨d0, d1, d2, d3, d4, d5⟩ := HKS.out w1 (Below.refl _ _)
  have hi1 : Ints w1 A l := hA.below hW1
  have hi2 : Ints w1 B m := hB.below hW1
  have hwd1 : Wds w1 := hw.on hW1
  clear HS HX HY HX1 HY1 HKN hB0 hB1 hA hB hw
  by_cases hl : l.length ≤ 60
  · have q1 : decide (60 < (l.length : Int)) = false := decide_eq_false (by omega)
    by_cases hm : m.length ≤ 60
    · have q2 : decide (60 < (m.length : Int)) = false := decide_eq_false (by omega)
      have HE := Lib.hid (enc_any t n A c l w1 hi1 (by omega))
      have HE2 := Lib.hid (fun W (h : Below w1.heap.size w1 W) => enc_any t' n' B d m W (hi2.below h) (by omega))
      have HT := Lib.hid (fun W (h : Below w1.heap.size w1 W) => text_any t n A c l W (hwd1.on h) (hi1.below h) (by omega) hsl hn)
      have HT2 := Lib.hid (fun W (h : Below w1.heap.size w1 W) => text_any t' n' B d m W (hwd1.on h) (hi2.below h) (by omega) hsm hn')
      have HSM := Lib.hid (fun W (h : Below w1.heap.size w1 W) => same_st t n t' n' A B c d l m W (hi1.below h) (hi2.below h) (by omega))
      have HSS := Lib.hid (fun W (h : Below w1.heap.size w1 W) => samest_any t n t' n' A B c d l m W (hi1.below h) (hi2.below h) (by omega))
      have HO1 := Lib.hid (encR_octets t n l)
      have HO2 := Lib.hid (encR_octets t' n' m)
      have HQ : checkE t n l = 0 → checkE t' n' m = 0 → (encR t n l == encR t' n' m) = sameB t n l t' n' m ∧ ((⟨(txtR t n l).toArray⟩ : ByteArray).toList == (⟨(txtR t' n' m).toArray⟩ : ByteArray).toList) = sameB t n l t' n' m := fun a b => by
        unfold encR txtR
        rw [if_pos a, if_pos b, if_pos a, if_pos b]
        exact ⟨enc_one a b hn hn' hsl hsm (by omega) (by omega), txt_one a b hn hn' hsl hsm⟩
      unfold TextP at HT HT2
      unfold stV at HE HE2 HT HT2 HSM HSS
      generalize checkE t n l = E at *
      generalize checkE t' n' m = E' at *
      generalize encR t n l = ys at *
      generalize encR t' n' m = zs at *
      generalize (⟨(txtR t n l).toArray⟩ : ByteArray) = tx at *
      generalize (⟨(txtR t' n' m).toArray⟩ : ByteArray) = ty at *
      generalize sameB t n l t' n' m = sb at *
      have HQH := Lib.hid HQ
      clear HQ hsl hsm hn hn' hi1 hi2 hwd1
      go_wp2_with fail
      refine HE.out.mono ?_
      rintro e w2 ⟨A2, c2, rfl, hr2, hB2⟩
      have hs2 := hB2.size
      obtain ⟨d0, d1, d2, d3, d4, d5⟩ := HKS.out w2 hB2
      go_wp2_with fail
      refine (HE2.out w2 hB2).mono ?_
      rintro e w3 ⟨A3, c3, rfl, hr3, hB3⟩
      have h3 := nxt hB2 hB3 hs2
      have hs3 := h3.size
      have hr2' := row_below hr2 hB3
      obtain ⟨d0, d1, d2, d3, d4, d5⟩ := HKS.out w3 h3
      go_wp2_with fail
      refine (HT.out w3 h3).mono ?_
      rintro e w4 ⟨rfl, hB4⟩
      have h4 := nxt h3 hB4 hs3
      have hs4 := h4.size
      obtain ⟨d0, d1, d2, d3, d4, d5⟩ := HKS.out w4 h4
      go_wp2_with fail
      refine (HT2.out w4 h4).mono ?_
      rintro e w5 ⟨rfl, hB5⟩
      have h5 := nxt h4 hB5 hs4
      have hs5 := h5.size
      have hB35 := nxt hB4 hB5 hB4.size
      have HR2 := Lib.hid (row_below hr2' hB35)
      have HR3 := Lib.hid (row_below hr3 hB35)
      obtain ⟨d0, d1, d2, d3, d4, d5⟩ := HKS.out w5 h5
      have kb1 : ((E == 0) == (E == 0)) = true := by simp
      have kb2 : ((E' == 0) == (E' == 0)) = true := by simp
      clear hr2 hr3 hr2' hB4 hB5 hB35 hB3 HE HE2 HT HT2
      cases he : (E != 0)
      · have hE0 : E = 0 := by simpa using he
        cases he' : (E' != 0)
        · have hE0' : E' = 0 := by simpa using he'
          obtain ⟨hq1, hq2⟩ := HQH.out hE0 hE0'
          subst hE0 hE0'
          have kss : (sb == sb) = true := by simp
          have HQ1 := Lib.hid hq1
          clear hq1 HQH he he' kb1 kb2
          go_wp2_with fail
          refine (HSM.out w5 h5).mono ?_
          rintro e w6 ⟨rfl, hB6⟩
          have h6 := nxt h5 hB6 hs5
          have hs6 := h6.size
          have HR2' := Lib.hid (row_below HR2.out hB6)
          have HR3' := Lib.hid (row_below HR3.out hB6)
          obtain ⟨d0, d1, d2, d3, d4, d5⟩ := HKS.out w6 h6
          clear hB6
          go_wp2_with fail
          refine (HSS.out w6 h6).mono ?_
          rintro e w7 ⟨rfl, hB7⟩
          have h7 := nxt h6 hB7 hs6
          have hs7 := h7.size
          have SB := samebytes_any A2 A3 c2 c3 ys zs w7 _ _ (own_bytes (row_below HR2'.out hB7)) (own_bytes (row_below HR3'.out hB7)) HO1.out HO2.out
          rw [HQ1.out] at SB
          clear hB7
          go_wp2_with fail
          refine SB.mono ?_
          rintro e w8 ⟨rfl, hB8⟩
          go_wp2
          go_ret
          exact ⟨rfl, nxt hW1 (nxt h7 hB8 hs7) hs1⟩
        · go_wp2
          go_ret
          exact ⟨rfl, nxt hW1 h5 hs1⟩
      · go_wp2
        go_ret
        exact ⟨rfl, nxt hW1 h5 hs1⟩
    · have q2 : decide (60 < (m.length : Int)) = true := decide_eq_true (by omega)
      go_wp2
      go_ret
      exact ⟨rfl, hW1⟩
  · have q1 : decide (60 < (l.length : Int)) = true := decide_eq_true (by omega)
    go_wp2
    go_ret
    exact ⟨rfl, hW1⟩
end Go.Proofs.YtbenfdbjpefegaaDoor
