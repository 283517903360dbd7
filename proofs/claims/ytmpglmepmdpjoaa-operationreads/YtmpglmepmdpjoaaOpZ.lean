/- The document's Read, walked. -/
import Derived.Test.YtmpglmepmdpjoaaOpY
namespace Go.Proofs.Ytmpglmepmdpjoaa
open Go.RowKit Go.Maps
set_option linter.unusedVariables false

theorem res_below {w W : World} (h : Below w.heap.size w W) (u0 u1 u2 u3 u4 : Value) : Below w.heap.size w (((((W.setCell ⟨w.heap.size, 0, none⟩ u0).setCell ⟨w.heap.size, 1, none⟩ u1).setCell ⟨w.heap.size, 2, none⟩ u2).setCell ⟨w.heap.size, 3, none⟩ u3).setCell ⟨w.heap.size, 4, none⟩ u4) := by
  refine Below.setCell (Below.setCell (Below.setCell (Below.setCell (Below.setCell h ?_ _) ?_ _) ?_ _) ?_ _) ?_ _
  all_goals exact Nat.le_refl _

set_option maxRecDepth 100000 in
set_option maxHeartbeats 8000000 in
theorem rread_any (A : Option Addr) (c : Nat) (ws : List ByteArray) (w : World) (hA : Strs w.heap.size w A ws) (hm : ws.length ≤ 100) (hz : ∀ s ∈ ws, s.size ≤ maxLen) :
    Calls Try.prog 21 #[.slice A ws.length c] w (Says (resV (readP ws)) w) := by
  have HRP : Hid (readP ws = readR (takeP 0 ws st1) ws.length) := Lib.hid rfl
  generalize readP ws = rp at HRP ⊢
  have HA := Lib.hid hA
  have HZ := Lib.hid hz
  clear hA hz
  by_cases h0 : ws.length = 0
  · have hw0 : ws = [] := List.length_eq_zero_iff.1 h0
    have HR2 : Hid (rp = ((0, 0, 0, 0, 0), 0, 5)) := Lib.hid (by rw [HRP.out, hw0]; rfl)
    clear HRP HA HZ hm
    subst hw0
    go_enter Try.func21, Try.ntmps21
    go_wp2
    refine bodyPost_ret (v := .tuple #[.agg #[.int .i64 0, .int .i64 0, .int .i64 0, .int .i64 0, .int .i64 0], .int .i64 0, .int .i64 5]) (by simp [results, Try.f21, go_sem]) rfl ?_
    rw [HR2.out]
    exact ⟨rfl, (Below.refl _ _).alloc (Nat.le_refl _) _⟩
  · have n0 : ((ws.length : Int) == 0) = false := beq_eq_false_iff_ne.2 (by omega)
    have hlt0 : 0 < ws.length := by omega
    have hBz : Below w.heap.size w (w.alloc (.cells #[.int .i64 0, .int .i64 0, .int .i64 0, .int .i64 0, .int .i64 0] 25)) := (Below.refl _ _).alloc (Nat.le_refl _) _
    obtain ⟨b, off, rfl, hb, hc⟩ := HA.out.below hBz hlt0
    have c0 := hc 0 hlt0
    rw [Nat.add_zero] at c0
    obtain ⟨s0, hs0⟩ : ∃ s0, ws[0]?.getD ⟨#[]⟩ = s0 := ⟨_, rfl⟩
    rw [hs0] at c0
    have HWS : Hid (ws = s0 :: ws.drop 1) := Lib.hid (by
      cases ws with
      | nil => simp at h0
      | cons x r => simp at hs0; rw [hs0]; rfl)
    have HK := fun W => rkind_any s0 W
    have HZZ := Lib.hid (Holds.new w 25 #[.int .i64 0, .int .i64 0, .int .i64 0, .int .i64 0, .int .i64 0])
    have l1 : (0 : Int) < (ws.length : Int) := by omega
    clear hc hs0
    cases ho : wordI s0 with
    | none =>
      rw [ho] at HK
      simp only [kindO, errOf] at HK
      have HR2 : Hid (rp = ((0, 0, 0, 0, 0), 0, 6)) := Lib.hid (by
        rw [HRP.out]
        have ht := take_noword s0 (ws.drop 1) ho
        rw [← HWS.out] at ht
        exact readR_bad (by rw [ht.1]; rfl) ht.2 (by decide))
      clear HRP ho HWS
      go_enter Try.func21, Try.ntmps21
      go_wp2_with fail
      refine (HK _).mono ?_
      rintro e w1 ⟨rfl, hB1⟩
      have hZ1 := HZZ.out.below hB1 (by simp)
      have z0 := hZ1.c (j := 0) rfl
      have z1 := hZ1.c (j := 1) rfl
      have z2 := hZ1.c (j := 2) rfl
      have z3 := hZ1.c (j := 3) rfl
      have z4 := hZ1.c (j := 4) rfl
      have f0 := hZ1.frozen 0
      have f1 := hZ1.frozen 1
      have f2 := hZ1.frozen 2
      have f3 := hZ1.frozen 3
      have f4 := hZ1.frozen 4
      go_wp2
      refine bodyPost_ret (v := .tuple #[.agg #[.int .i64 0, .int .i64 0, .int .i64 0, .int .i64 0, .int .i64 0], .int .i64 0, .int .i64 6]) (by simp [results, Try.f21, go_sem, z0, z1, z2, z3, z4]) rfl ?_
      rw [HR2.out]
      refine ⟨rfl, ?_⟩
      refine Below.setCell (Below.setCell (Below.setCell (Below.setCell (Below.setCell (nxt hBz hB1 (by simp)) ?_ _) ?_ _) ?_ _) ?_ _) ?_ _
      all_goals exact Nat.le_refl _
    | some i =>
      rw [ho] at HK
      simp only [kindO, errOf] at HK
      have hi := (wordI_lt ho).1
      have HTK : Hid (takeP 0 ws st1 = takeP 1 (ws.drop 1) (stI i 0 0 0 0)) := Lib.hid (by
        have := take_word s0 (ws.drop 1) i ho
        rwa [← HWS.out] at this)
      have HF : ∀ W, Calls Try.prog 31 #[.int .i64 ((i : Int) + 1)] W fun e w' => e = .returned (.tuple #[.agg #[.int .i64 (objN i), .int .i64 (argN i), .int .i64 (rR i), .string (wordB i)], .bool true]) ∧ Below W.heap.size W w' := fun W => by
        have := rof_any ((i : Int) + 1) W
        rw [kindI_in i hi] at this
        exact this
      clear ho HWS
      go_enter Try.func21, Try.ntmps21
      go_wp2_with fail
      refine (HK _).mono ?_
      rintro e w1 ⟨rfl, hB1⟩
      go_wp2_with fail
      refine (HF _).mono ?_
      rintro e w2 ⟨rfl, hB2⟩
      have hb2 : Below (w.heap.size + 1) (w.alloc (.cells #[.int .i64 0, .int .i64 0, .int .i64 0, .int .i64 0, .int .i64 0] 25)) w2 := by
        have h1 := hB1
        rw [World.size_alloc] at h1
        exact nxt h1 hB2 (by have := hB1.size; rw [World.size_alloc] at this; exact this)
      have hRS := RS.new w w2 i hb2
      have hml := argN_le i
      have hkc := hRS.kn.c (j := 1) rfl
      have HRS := Lib.hid hRS
      clear hB1 hB2 HK HF hRS
      go_wp2_with fail
      obtain ⟨W3, hW3⟩ : ∃ W3, W3 = (((w2.alloc (.cells #[.int .i64 (objN i), .int .i64 (argN i), .int .i64 (rR i), .string (wordB i)] 57)).alloc (.cells #[.int .i64 ((i : Int) + 1), .int .i64 0, .int .i64 0, .int .i64 0, .int .i64 0] 25)).alloc (.cells #[.int .i64 0, .int .i64 0] 75)) := ⟨_, rfl⟩
      rw [← hW3] at HRS ⊢
      obtain ⟨B, hB⟩ : ∃ B, w2.heap.size = B := ⟨_, rfl⟩
      rw [hB] at HRS ⊢
      clear hW3 hB hb2 hkc hBz HZZ c0
      obtain ⟨m, hmm⟩ : ∃ m, argN i = m := ⟨_, rfl⟩
      have HM := Lib.hid hmm
      rw [hmm] at hml ⊢
      clear hmm
      go_loopw [12] (fun i12 wr => ∃ (j : Nat) (a b k n : Int), 1 ≤ j ∧ j ≤ ws.length ∧ j ≤ m + 3 ∧ i12 = .int .i64 j ∧ RS w wr B i a b k n ∧ takeP 0 ws st1 = takeP j (ws.drop j) (stI i a b k n) ∧ (j ≤ m + 2 → k = 0 ∧ n = 0)) (fun i12 wr => ws.length + 1 - (intOf i12).toNat)
      case atStart => exact ⟨1, 0, 0, 0, 0, Nat.le_refl _, by omega, by omega, rfl, HRS.out, HTK.out, fun _ => ⟨rfl, rfl⟩⟩
      case round =>
        obtain ⟨j, a, b2, k, n, hj1, hjl, hjm, rfl, hR, heq, hkn⟩ := hrel
        have HE := Lib.hid heq
        have HKN := Lib.hid hkn
        have HRr := Lib.hid hR
        have kc : wr.cell? ⟨B, 1, none⟩ = some (.int .i64 m) := by
          have := hR.kn.c (j := 1) rfl
          rw [HM.out] at this
          exact this
        clear heq hkn
        by_cases hgo : j < ws.length ∧ j ≤ m + 2
        · obtain ⟨hlt, hle⟩ := hgo
          obtain ⟨b', off', he', hb', hc'⟩ := HA.out.below hR.bel (by omega)
          injection he' with he'
          injection he' with he1 he2
          subst he1 he2
          have cj := hc' j hlt
          have hsz : (ws[j]?.getD ⟨#[]⟩).size ≤ maxLen := by
            rw [List.getElem?_eq_getElem hlt]; exact HZ.out _ (List.getElem_mem hlt)
          have hdr : ws.drop j = (ws[j]?.getD ⟨#[]⟩) :: ws.drop (j + 1) := by
            rw [List.getElem?_eq_getElem hlt]
            exact List.drop_eq_getElem_cons hlt
          obtain ⟨s, hs⟩ : ∃ s, ws[j]?.getD ⟨#[]⟩ = s := ⟨_, rfl⟩
          rw [hs] at cj hsz hdr
          rw [hdr] at HE
          have q1 : decide (j < ws.length) = true := decide_eq_true hlt
          have q2 : decide ((j : Int) ≤ (m : Int) + 2) = true := decide_eq_true (by omega)
          have q5 : (0 : Int) ≤ (j : Int) := by omega
          have q6 : (j : Int) < (ws.length : Int) := by omega
          clear hc' hs hdr hR
          by_cases ha : j ≤ m
          · have HN := fun W => rnumber_any s W hsz
            have HGB : Hid (getB s = getB s) := Lib.hid rfl
            have q3 : decide (j ≤ m) = true := decide_eq_true ha
            have q4 : ((j : Int) == (m : Int) + 2) = false := beq_eq_false_iff_ne.2 (by omega)
            obtain ⟨x, hx⟩ : ∃ x, getN s.data.toList = x := ⟨_, rfl⟩
            rw [hx] at HN
            have HX := Lib.hid hx
            clear hx
            cases hg : getB s with
            | false =>
              rw [hg] at HN
              have hbad := take_arg_bad i j a b2 k n s (ws.drop (j + 1)) hj1 (by rw [HM.out]; exact ha) hg
              rw [← HE.out] at hbad
              have HR2 : Hid (rp = ((0, 0, 0, 0, 0), (j : Int), 5)) := Lib.hid (by rw [HRP.out]; exact readR_bad (by rw [hbad.1]) hbad.2 (by decide))
              clear hbad HE HRP
              obtain rfl | rfl : j = 1 ∨ j = 2 := by omega
              · go_wp2_with fail
                refine (HN _).mono ?_
                rintro e w4 ⟨rfl, hB4⟩
                have hR4 := HRr.out.below hB4
                have a0 : w4.cell? ⟨B + 1 + 1, 0, none⟩ = some (.int .i64 a) := hR4.ar.c (j := 0) rfl
                have g0 : w4.frozen? ⟨B + 1 + 1, 0, none⟩ = false := hR4.ar.frozen 0
                have hR5 := hR4.setA x
                have z0 : w4.cell? ⟨w.heap.size, 0, none⟩ = some (.int .i64 0) := hR4.z.c (j := 0) rfl
                have z1 : w4.cell? ⟨w.heap.size, 1, none⟩ = some (.int .i64 0) := hR4.z.c (j := 1) rfl
                have z2 : w4.cell? ⟨w.heap.size, 2, none⟩ = some (.int .i64 0) := hR4.z.c (j := 2) rfl
                have z3 : w4.cell? ⟨w.heap.size, 3, none⟩ = some (.int .i64 0) := hR4.z.c (j := 3) rfl
                have z4 : w4.cell? ⟨w.heap.size, 4, none⟩ = some (.int .i64 0) := hR4.z.c (j := 4) rfl
                have f0 := hR4.z.frozen 0
                have f1 := hR4.z.frozen 1
                have f2 := hR4.z.frozen 2
                have f3 := hR4.z.frozen 3
                have f4 := hR4.z.frozen 4
                have HBe := Lib.hid (res_below hR5.bel)
                have hwB := hR4.hB
                have hne0 : w.heap.size ≠ B + 1 := by omega
                have hne1 : w.heap.size ≠ B + 1 + 1 := by omega
                clear hR4 hR5
                go_wp2
                refine bodyPost_ret (v := .tuple #[.agg #[.int .i64 0, .int .i64 0, .int .i64 0, .int .i64 0, .int .i64 0], .int .i64 1, .int .i64 5]) (by simp [results, Try.f21, go_sem, z0, z1, z2, z3, z4]) rfl ?_
                rw [HR2.out]
                exact ⟨rfl, HBe.out _ _ _ _ _⟩
              · go_wp2_with fail
                refine (HN _).mono ?_
                rintro e w4 ⟨rfl, hB4⟩
                have hR4 := HRr.out.below hB4
                have a1 : w4.cell? ⟨B + 1 + 1, 1, none⟩ = some (.int .i64 b2) := hR4.ar.c (j := 1) rfl
                have g1 : w4.frozen? ⟨B + 1 + 1, 1, none⟩ = false := hR4.ar.frozen 1
                have hR5 := hR4.setB x
                have z0 : w4.cell? ⟨w.heap.size, 0, none⟩ = some (.int .i64 0) := hR4.z.c (j := 0) rfl
                have z1 : w4.cell? ⟨w.heap.size, 1, none⟩ = some (.int .i64 0) := hR4.z.c (j := 1) rfl
                have z2 : w4.cell? ⟨w.heap.size, 2, none⟩ = some (.int .i64 0) := hR4.z.c (j := 2) rfl
                have z3 : w4.cell? ⟨w.heap.size, 3, none⟩ = some (.int .i64 0) := hR4.z.c (j := 3) rfl
                have z4 : w4.cell? ⟨w.heap.size, 4, none⟩ = some (.int .i64 0) := hR4.z.c (j := 4) rfl
                have f0 := hR4.z.frozen 0
                have f1 := hR4.z.frozen 1
                have f2 := hR4.z.frozen 2
                have f3 := hR4.z.frozen 3
                have f4 := hR4.z.frozen 4
                have HBe := Lib.hid (res_below hR5.bel)
                have hwB := hR4.hB
                have hne0 : w.heap.size ≠ B + 1 := by omega
                have hne1 : w.heap.size ≠ B + 1 + 1 := by omega
                clear hR4 hR5
                go_wp2
                refine bodyPost_ret (v := .tuple #[.agg #[.int .i64 0, .int .i64 0, .int .i64 0, .int .i64 0, .int .i64 0], .int .i64 2, .int .i64 5]) (by simp [results, Try.f21, go_sem, z0, z1, z2, z3, z4]) rfl ?_
                rw [HR2.out]
                exact ⟨rfl, HBe.out _ _ _ _ _⟩
            | true =>
              rw [hg] at HN
              obtain rfl | rfl : j = 1 ∨ j = 2 := by omega
              · have hok := take_A i a b2 k n s (ws.drop 2) (by rw [HM.out]; exact ha) hg
                rw [HX.out] at hok
                have HOK := Lib.hid (HE.out.trans hok)
                clear hok
                go_wp2_with fail
                refine (HN _).mono ?_
                rintro e w4 ⟨rfl, hB4⟩
                have hR4 := HRr.out.below hB4
                have a0 : w4.cell? ⟨B + 1 + 1, 0, none⟩ = some (.int .i64 a) := hR4.ar.c (j := 0) rfl
                have g0 : w4.frozen? ⟨B + 1 + 1, 0, none⟩ = false := hR4.ar.frozen 0
                have HR5 := Lib.hid (hR4.setA x)
                clear hR4
                go_wp2
                exact ⟨⟨2, x, b2, k, n, by omega, by omega, by omega, by go_num, HR5.out, HOK.out, fun _ => HKN.out (by omega)⟩, by simp [intOf]; omega⟩
              · have hok := take_B i a b2 k n s (ws.drop 3) (by rw [HM.out]; exact ha) hg
                rw [HX.out] at hok
                have HOK := Lib.hid (HE.out.trans hok)
                clear hok
                go_wp2_with fail
                refine (HN _).mono ?_
                rintro e w4 ⟨rfl, hB4⟩
                have hR4 := HRr.out.below hB4
                have a1 : w4.cell? ⟨B + 1 + 1, 1, none⟩ = some (.int .i64 b2) := hR4.ar.c (j := 1) rfl
                have g1 : w4.frozen? ⟨B + 1 + 1, 1, none⟩ = false := hR4.ar.frozen 1
                have HR5 := Lib.hid (hR4.setB x)
                clear hR4
                go_wp2
                exact ⟨⟨3, a, x, k, n, by omega, by omega, by omega, by go_num, HR5.out, HOK.out, fun _ => HKN.out (by omega)⟩, by simp [intOf]; omega⟩
          · have q3 : decide (j ≤ m) = false := decide_eq_false ha
            by_cases hr : j = m + 1
            · have q4 : ((j : Int) == (m : Int) + 2) = false := beq_eq_false_iff_ne.2 (by omega)
              have HJ := Lib.hid hr
              clear hr ha
              cases hg : (s == arrB) with
              | false =>
                have hbad := take_arr_bad i a b2 k n s (ws.drop (j + 1)) hg
                rw [HM.out, ← HJ.out, ← HE.out] at hbad
                have HR2 : Hid (rp = ((0, 0, 0, 0, 0), (j : Int), 5)) := Lib.hid (by rw [HRP.out]; exact readR_bad (by rw [hbad.1]) hbad.2 (by decide))
                rw [beq_toListBytes, arrB_list] at hg
                clear hbad HE HRP
                have hR5 := HRr.out
                have z0 : wr.cell? ⟨w.heap.size, 0, none⟩ = some (.int .i64 0) := hR5.z.c (j := 0) rfl
                have z1 : wr.cell? ⟨w.heap.size, 1, none⟩ = some (.int .i64 0) := hR5.z.c (j := 1) rfl
                have z2 : wr.cell? ⟨w.heap.size, 2, none⟩ = some (.int .i64 0) := hR5.z.c (j := 2) rfl
                have z3 : wr.cell? ⟨w.heap.size, 3, none⟩ = some (.int .i64 0) := hR5.z.c (j := 3) rfl
                have z4 : wr.cell? ⟨w.heap.size, 4, none⟩ = some (.int .i64 0) := hR5.z.c (j := 4) rfl
                have f0 := hR5.z.frozen 0
                have f1 := hR5.z.frozen 1
                have f2 := hR5.z.frozen 2
                have f3 := hR5.z.frozen 3
                have f4 := hR5.z.frozen 4
                have HBe := Lib.hid (res_below hR5.bel)
                clear hR5
                go_wp2
                refine bodyPost_ret (v := .tuple #[.agg #[.int .i64 0, .int .i64 0, .int .i64 0, .int .i64 0, .int .i64 0], .int .i64 j, .int .i64 5]) (by simp [results, Try.f21, go_sem, z0, z1, z2, z3, z4]) rfl ?_
                rw [HR2.out]
                exact ⟨rfl, HBe.out _ _ _ _ _⟩
              | true =>
                have hok := take_arr i a b2 k n s (ws.drop (j + 1)) hg
                rw [HM.out, ← HJ.out] at hok
                have HOK := Lib.hid (HE.out.trans hok)
                rw [beq_toListBytes, arrB_list] at hg
                clear hok
                go_wp2
                exact ⟨⟨j + 1, a, b2, k, n, by omega, by omega, by omega, by go_num, HRr.out, by rw [HOK.out, HJ.out], fun _ => HKN.out (by omega)⟩, by simp [intOf]; omega⟩
            · have hj2 : j = m + 2 := by omega
              have q4 : ((j : Int) == (m : Int) + 2) = true := by rw [hj2]; simp
              have HJ := Lib.hid hj2
              clear hj2 ha hr
              obtain ⟨rfl, rfl⟩ := HKN.out (by omega)
              have HT := fun W => rreturns_any s W hsz
              obtain ⟨x, hx⟩ : ∃ x, rtK s = x := ⟨_, rfl⟩
              obtain ⟨y, hy⟩ : ∃ y, rtN s = y := ⟨_, rfl⟩
              rw [hx, hy] at HT
              have HX := Lib.hid hx
              have HY := Lib.hid hy
              clear hx hy
              cases hg : rtB s with
              | false =>
                rw [hg] at HT
                have hbad := take_ret_bad i a b2 0 0 s (ws.drop (j + 1)) hg
                rw [HM.out, ← HJ.out, ← HE.out] at hbad
                have HR2 : Hid (rp = ((0, 0, 0, 0, 0), (j : Int), 9)) := Lib.hid (by rw [HRP.out]; exact readR_bad (by rw [hbad.1]) hbad.2 (by decide))
                clear hbad HE HRP
                go_wp2_with fail
                refine (HT _).mono ?_
                rintro e w4 ⟨rfl, hB4⟩
                have hR4 := HRr.out.below hB4
                have a3 : w4.cell? ⟨B + 1, 3, none⟩ = some (.int .i64 0) := hR4.op.c (j := 3) rfl
                have a4 : w4.cell? ⟨B + 1, 4, none⟩ = some (.int .i64 0) := hR4.op.c (j := 4) rfl
                have g3 : w4.frozen? ⟨B + 1, 3, none⟩ = false := hR4.op.frozen 3
                have g4 : w4.frozen? ⟨B + 1, 4, none⟩ = false := hR4.op.frozen 4
                have hR5 := hR4.setR x y
                have z0 : w4.cell? ⟨w.heap.size, 0, none⟩ = some (.int .i64 0) := hR4.z.c (j := 0) rfl
                have z1 : w4.cell? ⟨w.heap.size, 1, none⟩ = some (.int .i64 0) := hR4.z.c (j := 1) rfl
                have z2 : w4.cell? ⟨w.heap.size, 2, none⟩ = some (.int .i64 0) := hR4.z.c (j := 2) rfl
                have z3 : w4.cell? ⟨w.heap.size, 3, none⟩ = some (.int .i64 0) := hR4.z.c (j := 3) rfl
                have z4 : w4.cell? ⟨w.heap.size, 4, none⟩ = some (.int .i64 0) := hR4.z.c (j := 4) rfl
                have f0 := hR4.z.frozen 0
                have f1 := hR4.z.frozen 1
                have f2 := hR4.z.frozen 2
                have f3 := hR4.z.frozen 3
                have f4 := hR4.z.frozen 4
                have HBe := Lib.hid (res_below hR5.bel)
                have hwB := hR4.hB
                have hne0 : w.heap.size ≠ B + 1 := by omega
                have hne1 : w.heap.size ≠ B + 1 + 1 := by omega
                clear hR4 hR5
                go_wp2
                refine bodyPost_ret (v := .tuple #[.agg #[.int .i64 0, .int .i64 0, .int .i64 0, .int .i64 0, .int .i64 0], .int .i64 j, .int .i64 9]) (by simp [results, Try.f21, go_sem, z0, z1, z2, z3, z4]) rfl ?_
                rw [HR2.out]
                exact ⟨rfl, HBe.out _ _ _ _ _⟩
              | true =>
                rw [hg] at HT
                have hok := take_ret i a b2 s (ws.drop (j + 1)) hg
                rw [HM.out, ← HJ.out, HX.out, HY.out] at hok
                have HOK := Lib.hid (HE.out.trans hok)
                clear hok
                go_wp2_with fail
                refine (HT _).mono ?_
                rintro e w4 ⟨rfl, hB4⟩
                have hR4 := HRr.out.below hB4
                have a3 : w4.cell? ⟨B + 1, 3, none⟩ = some (.int .i64 0) := hR4.op.c (j := 3) rfl
                have a4 : w4.cell? ⟨B + 1, 4, none⟩ = some (.int .i64 0) := hR4.op.c (j := 4) rfl
                have g3 : w4.frozen? ⟨B + 1, 3, none⟩ = false := hR4.op.frozen 3
                have g4 : w4.frozen? ⟨B + 1, 4, none⟩ = false := hR4.op.frozen 4
                have HR5 := Lib.hid (hR4.setR x y)
                clear hR4
                go_wp2
                exact ⟨⟨j + 1, a, b2, x, y, by omega, by omega, by omega, by go_num, HR5.out, by rw [HOK.out, HJ.out], fun h => by have := HJ.out; omega⟩, by simp [intOf]; omega⟩
        · by_cases hl : ws.length = m + 3
          · have hj3 : j = m + 3 := by omega
            have ho := HE.out
            rw [show ws.drop j = [] from List.drop_eq_nil_of_le (by omega), hj3, ← HM.out, take_full] at ho
            have hrd := HRP.out
            rw [ho, readR_done] at hrd
            have HRD := Lib.hid hrd
            have HCL := Lib.hid (check_le i a b2 k n)
            have hck : checkP ((i : Int) + 1) a b2 k n = checkI i a b2 k n := by unfold checkP; rw [kindI_in i hi]
            have HC := fun W => rcheck_any ((i : Int) + 1) a b2 k n W
            rw [hck] at HC
            unfold opV at HC
            generalize checkI i a b2 k n = ck at HC HRD HCL
            have n1 : ((ws.length : Int) != (m : Int) + 2 + 1) = false := by rw [bne_eq_false_iff_eq]; omega
            have q1 : decide (j < ws.length) = false := decide_eq_false (by omega)
            have hlen : (ws.length : Int) - 1 = (m : Int) + 2 := by omega
            rw [hlen] at HRD
            have a0 : wr.cell? ⟨B + 1 + 1, 0, none⟩ = some (.int .i64 a) := hR.ar.c (j := 0) rfl
            have a1 : wr.cell? ⟨B + 1 + 1, 1, none⟩ = some (.int .i64 b2) := hR.ar.c (j := 1) rfl
            have p0 : wr.cell? ⟨B + 1, 0, none⟩ = some (.int .i64 ((i : Int) + 1)) := hR.op.c (j := 0) rfl
            have p1 : wr.cell? ⟨B + 1, 1, none⟩ = some (.int .i64 0) := hR.op.c (j := 1) rfl
            have p2 : wr.cell? ⟨B + 1, 2, none⟩ = some (.int .i64 0) := hR.op.c (j := 2) rfl
            have p3 : wr.cell? ⟨B + 1, 3, none⟩ = some (.int .i64 k) := hR.op.c (j := 3) rfl
            have p4 : wr.cell? ⟨B + 1, 4, none⟩ = some (.int .i64 n) := hR.op.c (j := 4) rfl
            have g1 := hR.op.frozen 1
            have g2 := hR.op.frozen 2
            have hO1 : Holds (wr.setCell ⟨B + 1, 1, none⟩ (.int .i64 a)) (B + 1) 25 #[.int .i64 ((i : Int) + 1), .int .i64 a, .int .i64 0, .int .i64 k, .int .i64 n] := hR.op.set 1 _
            have hO2 : Holds ((wr.setCell ⟨B + 1, 1, none⟩ (.int .i64 a)).setCell ⟨B + 1, 2, none⟩ (.int .i64 b2)) (B + 1) 25 #[.int .i64 ((i : Int) + 1), .int .i64 a, .int .i64 b2, .int .i64 k, .int .i64 n] := hO1.set 2 _
            have hwB := hR.hB
            have hBe2 : Below w.heap.size w ((wr.setCell ⟨B + 1, 1, none⟩ (.int .i64 a)).setCell ⟨B + 1, 2, none⟩ (.int .i64 b2)) := (hR.bel.setCell (by show w.heap.size ≤ B + 1; omega) _).setCell (by show w.heap.size ≤ B + 1; omega) _
            have hZe2 : Holds ((wr.setCell ⟨B + 1, 1, none⟩ (.int .i64 a)).setCell ⟨B + 1, 2, none⟩ (.int .i64 b2)) w.heap.size 25 #[.int .i64 0, .int .i64 0, .int .i64 0, .int .i64 0, .int .i64 0] := hR.z.of ((Below.heap_setCell _ _ _ _ (by show w.heap.size ≠ B + 1; omega)).trans (Below.heap_setCell _ _ _ _ (by show w.heap.size ≠ B + 1; omega)))
            have HO2 := Lib.hid hO2
            have HBe2 := Lib.hid hBe2
            have HZe2 := Lib.hid hZe2
            clear hR hO1 hO2 hBe2 hZe2 hj3 ho hrd hck HRP HE hlen
            go_wp2_with fail
            refine (HC _).mono ?_
            rintro e w5 ⟨rfl, hB5⟩
            have hZ5 := HZe2.out.below hB5 HZe2.out.lt
            have hO5 := HO2.out.below hB5 HO2.out.lt
            have hB5' : Below w.heap.size w w5 := nxt HBe2.out hB5 HBe2.out.size
            have HBe := Lib.hid (res_below hB5')
            clear a0 a1 p0 p1 p2 p3 p4 g1 g2
            have p0 : w5.cell? ⟨B + 1, 0, none⟩ = some (.int .i64 ((i : Int) + 1)) := hO5.c (j := 0) rfl
            have p1 : w5.cell? ⟨B + 1, 1, none⟩ = some (.int .i64 a) := hO5.c (j := 1) rfl
            have p2 : w5.cell? ⟨B + 1, 2, none⟩ = some (.int .i64 b2) := hO5.c (j := 2) rfl
            have p3 : w5.cell? ⟨B + 1, 3, none⟩ = some (.int .i64 k) := hO5.c (j := 3) rfl
            have p4 : w5.cell? ⟨B + 1, 4, none⟩ = some (.int .i64 n) := hO5.c (j := 4) rfl
            have z0 : w5.cell? ⟨w.heap.size, 0, none⟩ = some (.int .i64 0) := hZ5.c (j := 0) rfl
            have z1 : w5.cell? ⟨w.heap.size, 1, none⟩ = some (.int .i64 0) := hZ5.c (j := 1) rfl
            have z2 : w5.cell? ⟨w.heap.size, 2, none⟩ = some (.int .i64 0) := hZ5.c (j := 2) rfl
            have z3 : w5.cell? ⟨w.heap.size, 3, none⟩ = some (.int .i64 0) := hZ5.c (j := 3) rfl
            have z4 : w5.cell? ⟨w.heap.size, 4, none⟩ = some (.int .i64 0) := hZ5.c (j := 4) rfl
            have f0 := hZ5.frozen 0
            have f1 := hZ5.frozen 1
            have f2 := hZ5.frozen 2
            have f3 := hZ5.frozen 3
            have f4 := hZ5.frozen 4
            have hcl' := HCL.out
            rcases hcl' with hck | hck | hck
            · subst hck
              have HR2 := Lib.hid (show rp = (((i : Int) + 1, a, b2, k, n), 0, 0) by rw [HRD.out, if_pos rfl])
              clear HRD
              go_wp2
              refine bodyPost_ret (v := .tuple #[.agg #[.int .i64 ((i : Int) + 1), .int .i64 a, .int .i64 b2, .int .i64 k, .int .i64 n], .int .i64 0, .int .i64 0]) (by simp [results, Try.f21, go_sem, z0, z1, z2, z3, z4]) rfl ?_
              rw [HR2.out]
              exact ⟨rfl, HBe.out _ _ _ _ _⟩
            · subst hck
              have HR2 := Lib.hid (show rp = ((0, 0, 0, 0, 0), 1, 2) by rw [HRD.out, if_neg (by decide), if_pos rfl])
              clear HRD
              go_wp2
              refine bodyPost_ret (v := .tuple #[.agg #[.int .i64 0, .int .i64 0, .int .i64 0, .int .i64 0, .int .i64 0], .int .i64 1, .int .i64 2]) (by simp [results, Try.f21, go_sem, z0, z1, z2, z3, z4]) rfl ?_
              rw [HR2.out]
              exact ⟨rfl, HBe.out _ _ _ _ _⟩
            · subst hck
              have HR2 := Lib.hid (show rp = ((0, 0, 0, 0, 0), (m : Int) + 2, 9) by rw [HRD.out, if_neg (by decide), if_neg (by decide)])
              clear HRD
              go_wp2
              refine bodyPost_ret (v := .tuple #[.agg #[.int .i64 0, .int .i64 0, .int .i64 0, .int .i64 0, .int .i64 0], .int .i64 ((m : Int) + 2), .int .i64 9]) (by simp [results, Try.f21, go_sem, z0, z1, z2, z3, z4]) rfl ?_
              rw [HR2.out]
              exact ⟨rfl, HBe.out _ _ _ _ _⟩
          · have n1 : ((ws.length : Int) != (m : Int) + 2 + 1) = true := by rw [bne_iff_ne]; omega
            have n2 : ((ws.length : Int) != (m : Int) + 3) = true := by rw [bne_iff_ne]; omega
            have z0 : wr.cell? ⟨w.heap.size, 0, none⟩ = some (.int .i64 0) := hR.z.c (j := 0) rfl
            have z1 : wr.cell? ⟨w.heap.size, 1, none⟩ = some (.int .i64 0) := hR.z.c (j := 1) rfl
            have z2 : wr.cell? ⟨w.heap.size, 2, none⟩ = some (.int .i64 0) := hR.z.c (j := 2) rfl
            have z3 : wr.cell? ⟨w.heap.size, 3, none⟩ = some (.int .i64 0) := hR.z.c (j := 3) rfl
            have z4 : wr.cell? ⟨w.heap.size, 4, none⟩ = some (.int .i64 0) := hR.z.c (j := 4) rfl
            have f0 := hR.z.frozen 0
            have f1 := hR.z.frozen 1
            have f2 := hR.z.frozen 2
            have f3 := hR.z.frozen 3
            have f4 := hR.z.frozen 4
            have HBe := Lib.hid (res_below hR.bel)
            by_cases hlt : j < ws.length
            · have hj3 : j = m + 3 := by omega
              have hdr : ws.drop j = (ws[j]?.getD ⟨#[]⟩) :: ws.drop (j + 1) := by
                rw [List.getElem?_eq_getElem hlt]
                exact List.drop_eq_getElem_cons hlt
              have ho := HE.out
              rw [hdr, hj3, ← HM.out, take_over] at ho
              have HR2 : Hid (rp = ((0, 0, 0, 0, 0), (m : Int) + 3, 5)) := Lib.hid (by rw [HRP.out, ho]; exact readR_bad (by rw [HM.out]; rfl) rfl (by decide))
              have q1 : decide (j < ws.length) = true := decide_eq_true hlt
              have q2 : decide ((j : Int) ≤ (m : Int) + 2) = false := decide_eq_false (by omega)
              have hmin : min (ws.length : Int) ((m : Int) + 2 + 1) = (m : Int) + 3 := by omega
              have hmin2 : min (ws.length : Int) ((m : Int) + 3) = (m : Int) + 3 := by omega
              clear hdr ho hj3 HE HRP hR
              go_wp2
              refine bodyPost_ret (v := .tuple #[.agg #[.int .i64 0, .int .i64 0, .int .i64 0, .int .i64 0, .int .i64 0], .int .i64 ((m : Int) + 2 + 1), .int .i64 5]) (by simp [results, Try.f21, go_sem, z0, z1, z2, z3, z4]) rfl ?_
              rw [HR2.out]
              exact ⟨by rw [show (m : Int) + 2 + 1 = (m : Int) + 3 by omega]; rfl, HBe.out _ _ _ _ _⟩
            · have hj3 : j = ws.length := by omega
              have ho := HE.out
              rw [hj3, List.drop_length, take_short i ws.length a b2 k n (by rw [HM.out]; omega)] at ho
              have HR2 : Hid (rp = ((0, 0, 0, 0, 0), (ws.length : Int), 5)) := Lib.hid (by rw [HRP.out, ho]; exact readR_bad rfl rfl (by decide))
              have q1 : decide (j < ws.length) = false := decide_eq_false hlt
              have hmin : min (ws.length : Int) ((m : Int) + 2 + 1) = (ws.length : Int) := by omega
              have hmin2 : min (ws.length : Int) ((m : Int) + 3) = (ws.length : Int) := by omega
              clear ho hj3 HE HRP hR
              go_wp2
              refine bodyPost_ret (v := .tuple #[.agg #[.int .i64 0, .int .i64 0, .int .i64 0, .int .i64 0, .int .i64 0], .int .i64 ws.length, .int .i64 5]) (by simp [results, Try.f21, go_sem, z0, z1, z2, z3, z4]) rfl ?_
              rw [HR2.out]
              exact ⟨rfl, HBe.out _ _ _ _ _⟩
end Go.Proofs.Ytmpglmepmdpjoaa
