/- The layer escrow: Apply. (Written by wip/tools/gen_esb.py.) -/
import Derived.Test.YtpnclppjmgeddaaEsA
namespace Go.Proofs.Ytpnclppjmgeddaa
open Go.RowKit Go.Maps
set_option linter.unusedVariables false

theorem fits_escrow (n : Int) (l : List Int) : fitsB 5 n l = true ↔ l = [] ∧ moneyB n = true := by
  rw [money_iff]
  unfold fitsB
  simp [and_assoc]
theorem check_escrow {n : Int} (h : moneyB n = true) : checkE 5 n [] = 0 := by
  unfold checkE; rw [if_neg (by omega), if_pos ((fits_escrow n []).2 ⟨rfl, h⟩)]
theorem check_no_escrow {n : Int} {l : List Int} (h : ¬ (l = [] ∧ moneyB n = true)) : checkE 5 n l = 5 := by
  unfold checkE; rw [if_neg (by omega), if_neg (fun e => h ((fits_escrow n l).1 e))]
theorem check_es (n : Int) (A : Option Addr) (c : Nat) (w : World) (h : moneyB n = true) : Calls Try.prog 25 #[.agg #[.int .i64 5, .int .i64 n, .slice A 0 c]] w (Says (.int .i64 0) w) := by
  have := check_any 5 n A c [] w (ints_nil _ _) (by simp)
  rw [check_escrow h] at this
  exact this
theorem check_es_no (n : Int) (A : Option Addr) (c : Nat) (l : List Int) (w : World) (hA : Ints w A l) (hlen : l.length ≤ 1000) (h : ¬ (l = [] ∧ moneyB n = true)) : Calls Try.prog 25 #[.agg #[.int .i64 5, .int .i64 n, .slice A l.length c]] w (Says (.int .i64 5) w) := by
  have := check_any 5 n A c l w hA hlen
  rw [check_no_escrow h] at this
  exact this

theorem eapply_state (t n : Int) (A : Option Addr) (c : Nat) (l : List Int) (kd a b : Int) (w : World) (h : t ≠ 5) :
    Calls Try.prog 11 #[stV t n A l.length c, .int .i64 kd, .int .i64 a, .int .i64 b] w (Says (ansV 0 0 0 0 12) w) := by
  have ht : (t != 5) = true := by rw [bne_iff_ne]; exact h
  clear h
  unfold stV
  go_enter Try.func11, Try.ntmps11
  go_wp2
  refine bodyPost_ret (v := ansV 0 0 0 0 12) (by simp [results, Try.f11, go_sem, ansV, stV, retV]) rfl ?_
  exact ⟨rfl, boxed3_below w _ _ _ _ _⟩
set_option maxHeartbeats 1000000 in
theorem eapply_form (n : Int) (A : Option Addr) (c : Nat) (l : List Int) (kd a b : Int) (w : World) (hA : Ints w A l) (hlen : l.length ≤ 1000) (h : ¬ (l = [] ∧ moneyB n = true)) :
    Calls Try.prog 11 #[stV 5 n A l.length c, .int .i64 kd, .int .i64 a, .int .i64 b] w (Says (ansV 0 0 0 0 12) w) := by
  have hB0 := boxed3_below w 5 n A l.length c
  have HW := Lib.hid (boxed3_state w 5 n A l.length c)
  have HZ := Lib.hid (boxed3_then w 5 n A l.length c)
  have HR := Lib.hid (boxed3_ret w 5 n A l.length c)
  have hsz := boxed3_size w 5 n A l.length c
  have H := check_es_no n A c l (boxed3 w 5 n A l.length c) (hA.below hB0) hlen h
  clear hA h
  unfold stV
  go_enter Try.func11, Try.ntmps11
  go_wp2_with fail
  refine H.mono ?_
  rintro e w1 ⟨rfl, hB1⟩
  generalize boxed3 w 5 n A l.length c = W0 at *
  have HW1 := Lib.hid (HW.out.below hB1 (by omega))
  have HZ1 := Lib.hid (HZ.out.below hB1 (by omega))
  have HR1 := Lib.hid (HR.out.below hB1 (by omega))
  have s1 := HW1.out.c (j := 1) rfl
  have hBw := nxt hB0 hB1 (by omega)
  have hlt1 : w.heap.size + 1 + 1 < w1.heap.size := HR1.out.lt
  clear hsz hB0 hB1 HW HZ HR
  have z0 := HZ1.out.c (j := 0) rfl
  have z1 := HZ1.out.c (j := 1) rfl
  have z2 := HZ1.out.c (j := 2) rfl
  have r0 := HR1.out.c (j := 0) rfl
  have r1 := HR1.out.c (j := 1) rfl
  have y0 := HZ1.out.frozen 0
  have y1 := HZ1.out.frozen 1
  have y2 := HZ1.out.frozen 2
  have x0 := HR1.out.frozen 0
  have x1 := HR1.out.frozen 1
  go_wp2
  obtain ⟨HZ2, HR2, hB3⟩ := filled_holds (m := w.heap.size) HZ1.out HR1.out (by omega) 0 0 (.slice none 0 0) 0 0
  have k0 := HZ2.c (j := 0) rfl
  have k1 := HZ2.c (j := 1) rfl
  have k2 := HZ2.c (j := 2) rfl
  have q0 := HR2.c (j := 0) rfl
  have q1 := HR2.c (j := 1) rfl
  change bodyPost _ _ _ _ _ (filled w1 (w.heap.size + 1) 0 0 (.slice none 0 0) 0 0)
  generalize filled w1 (w.heap.size + 1) 0 0 (.slice none 0 0) 0 0 = W2 at *
  refine bodyPost_ret (v := ansV 0 0 0 0 12) (by simp [results, Try.f11, go_sem, ansV, stV, retV, k0, k1, k2, q0, q1]) rfl ?_
  exact ⟨rfl, nxt hBw hB3 (Nat.le_refl _)⟩
set_option maxHeartbeats 1000000 in
theorem eapply_word (n : Int) (A : Option Addr) (c : Nat) (kd a b : Int) (w : World) (hm : moneyB n = true) (h : kdB kd = false) :
    Calls Try.prog 11 #[stV 5 n A 0 c, .int .i64 kd, .int .i64 a, .int .i64 b] w (Says (ansV 0 0 0 0 6) w) := by
  have hB0 := boxed3_below w 5 n A 0 c
  have HW := Lib.hid (boxed3_state w 5 n A 0 c)
  have HZ := Lib.hid (boxed3_then w 5 n A 0 c)
  have HR := Lib.hid (boxed3_ret w 5 n A 0 c)
  have hsz := boxed3_size w 5 n A 0 c
  have H := check_es n A c (boxed3 w 5 n A 0 c) hm
  have HN := fun W => eknown_any kd W
  rw [h] at HN
  unfold stV
  go_enter Try.func11, Try.ntmps11
  go_wp2_with fail
  refine H.mono ?_
  rintro e w1 ⟨rfl, hB1⟩
  generalize boxed3 w 5 n A 0 c = W0 at *
  have HW1 := Lib.hid (HW.out.below hB1 (by omega))
  have HZ1 := Lib.hid (HZ.out.below hB1 (by omega))
  have HR1 := Lib.hid (HR.out.below hB1 (by omega))
  have s1 := HW1.out.c (j := 1) rfl
  have hBw := nxt hB0 hB1 (by omega)
  have hlt1 : w.heap.size + 1 + 1 < w1.heap.size := HR1.out.lt
  clear hsz hB0 hB1 HW HZ HR
  go_wp2_with fail
  refine (HN _).mono ?_
  rintro e w2 ⟨rfl, rfl⟩
  have z0 := HZ1.out.c (j := 0) rfl
  have z1 := HZ1.out.c (j := 1) rfl
  have z2 := HZ1.out.c (j := 2) rfl
  have r0 := HR1.out.c (j := 0) rfl
  have r1 := HR1.out.c (j := 1) rfl
  have y0 := HZ1.out.frozen 0
  have y1 := HZ1.out.frozen 1
  have y2 := HZ1.out.frozen 2
  have x0 := HR1.out.frozen 0
  have x1 := HR1.out.frozen 1
  go_wp2
  obtain ⟨HZ2, HR2, hB3⟩ := filled_holds (m := w.heap.size) HZ1.out HR1.out (by omega) 0 0 (.slice none 0 0) 0 0
  have k0 := HZ2.c (j := 0) rfl
  have k1 := HZ2.c (j := 1) rfl
  have k2 := HZ2.c (j := 2) rfl
  have q0 := HR2.c (j := 0) rfl
  have q1 := HR2.c (j := 1) rfl
  change bodyPost _ _ _ _ _ (filled w1 (w.heap.size + 1) 0 0 (.slice none 0 0) 0 0)
  generalize filled w1 (w.heap.size + 1) 0 0 (.slice none 0 0) 0 0 = W2 at *
  refine bodyPost_ret (v := ansV 0 0 0 0 6) (by simp [results, Try.f11, go_sem, ansV, stV, retV, k0, k1, k2, q0, q1]) rfl ?_
  exact ⟨rfl, nxt hBw hB3 (Nat.le_refl _)⟩
set_option maxHeartbeats 1000000 in
theorem eapply_b (n : Int) (A : Option Addr) (c : Nat) (kd a b : Int) (w : World) (hm : moneyB n = true) (h : kdB kd = true) (hb : b ≠ 0) :
    Calls Try.prog 11 #[stV 5 n A 0 c, .int .i64 kd, .int .i64 a, .int .i64 b] w (Says (ansV 0 0 0 0 2) w) := by
  have hB0 := boxed3_below w 5 n A 0 c
  have HW := Lib.hid (boxed3_state w 5 n A 0 c)
  have HZ := Lib.hid (boxed3_then w 5 n A 0 c)
  have HR := Lib.hid (boxed3_ret w 5 n A 0 c)
  have hsz := boxed3_size w 5 n A 0 c
  have H := check_es n A c (boxed3 w 5 n A 0 c) hm
  have HN := fun W => eknown_any kd W
  rw [h] at HN
  have hb1 : (b != 0) = true := by rw [bne_iff_ne]; exact hb
  clear hb
  unfold stV
  go_enter Try.func11, Try.ntmps11
  go_wp2_with fail
  refine H.mono ?_
  rintro e w1 ⟨rfl, hB1⟩
  generalize boxed3 w 5 n A 0 c = W0 at *
  have HW1 := Lib.hid (HW.out.below hB1 (by omega))
  have HZ1 := Lib.hid (HZ.out.below hB1 (by omega))
  have HR1 := Lib.hid (HR.out.below hB1 (by omega))
  have s1 := HW1.out.c (j := 1) rfl
  have hBw := nxt hB0 hB1 (by omega)
  have hlt1 : w.heap.size + 1 + 1 < w1.heap.size := HR1.out.lt
  clear hsz hB0 hB1 HW HZ HR
  go_wp2_with fail
  refine (HN _).mono ?_
  rintro e w2 ⟨rfl, rfl⟩
  have z0 := HZ1.out.c (j := 0) rfl
  have z1 := HZ1.out.c (j := 1) rfl
  have z2 := HZ1.out.c (j := 2) rfl
  have r0 := HR1.out.c (j := 0) rfl
  have r1 := HR1.out.c (j := 1) rfl
  have y0 := HZ1.out.frozen 0
  have y1 := HZ1.out.frozen 1
  have y2 := HZ1.out.frozen 2
  have x0 := HR1.out.frozen 0
  have x1 := HR1.out.frozen 1
  go_wp2
  obtain ⟨HZ2, HR2, hB3⟩ := filled_holds (m := w.heap.size) HZ1.out HR1.out (by omega) 0 0 (.slice none 0 0) 0 0
  have k0 := HZ2.c (j := 0) rfl
  have k1 := HZ2.c (j := 1) rfl
  have k2 := HZ2.c (j := 2) rfl
  have q0 := HR2.c (j := 0) rfl
  have q1 := HR2.c (j := 1) rfl
  change bodyPost _ _ _ _ _ (filled w1 (w.heap.size + 1) 0 0 (.slice none 0 0) 0 0)
  generalize filled w1 (w.heap.size + 1) 0 0 (.slice none 0 0) 0 0 = W2 at *
  refine bodyPost_ret (v := ansV 0 0 0 0 2) (by simp [results, Try.f11, go_sem, ansV, stV, retV, k0, k1, k2, q0, q1]) rfl ?_
  exact ⟨rfl, nxt hBw hB3 (Nat.le_refl _)⟩
set_option maxHeartbeats 1000000 in
theorem eapply_a (n : Int) (A : Option Addr) (c : Nat) (kd a : Int) (w : World) (hm : moneyB n = true) (h : kdB kd = true) (ha : mayB kd a = false) (hs : Small a) :
    Calls Try.prog 11 #[stV 5 n A 0 c, .int .i64 kd, .int .i64 a, .int .i64 0] w (Says (ansV 0 0 0 0 2) w) := by
  have hB0 := boxed3_below w 5 n A 0 c
  have HW := Lib.hid (boxed3_state w 5 n A 0 c)
  have HZ := Lib.hid (boxed3_then w 5 n A 0 c)
  have HR := Lib.hid (boxed3_ret w 5 n A 0 c)
  have hsz := boxed3_size w 5 n A 0 c
  have H := check_es n A c (boxed3 w 5 n A 0 c) hm
  have HN := fun W => eknown_any kd W
  rw [h] at HN
  have HT := fun W => takes_any kd a W hs
  rw [ha] at HT
  clear ha hs
  unfold stV
  go_enter Try.func11, Try.ntmps11
  go_wp2_with fail
  refine H.mono ?_
  rintro e w1 ⟨rfl, hB1⟩
  generalize boxed3 w 5 n A 0 c = W0 at *
  have HW1 := Lib.hid (HW.out.below hB1 (by omega))
  have HZ1 := Lib.hid (HZ.out.below hB1 (by omega))
  have HR1 := Lib.hid (HR.out.below hB1 (by omega))
  have s1 := HW1.out.c (j := 1) rfl
  have hBw := nxt hB0 hB1 (by omega)
  have hlt1 : w.heap.size + 1 + 1 < w1.heap.size := HR1.out.lt
  clear hsz hB0 hB1 HW HZ HR
  go_wp2_with fail
  refine (HN _).mono ?_
  rintro e w2 ⟨rfl, rfl⟩
  go_wp2_with fail
  refine (HT _).mono ?_
  rintro e w2 ⟨rfl, rfl⟩
  have z0 := HZ1.out.c (j := 0) rfl
  have z1 := HZ1.out.c (j := 1) rfl
  have z2 := HZ1.out.c (j := 2) rfl
  have r0 := HR1.out.c (j := 0) rfl
  have r1 := HR1.out.c (j := 1) rfl
  have y0 := HZ1.out.frozen 0
  have y1 := HZ1.out.frozen 1
  have y2 := HZ1.out.frozen 2
  have x0 := HR1.out.frozen 0
  have x1 := HR1.out.frozen 1
  go_wp2
  obtain ⟨HZ2, HR2, hB3⟩ := filled_holds (m := w.heap.size) HZ1.out HR1.out (by omega) 0 0 (.slice none 0 0) 0 0
  have k0 := HZ2.c (j := 0) rfl
  have k1 := HZ2.c (j := 1) rfl
  have k2 := HZ2.c (j := 2) rfl
  have q0 := HR2.c (j := 0) rfl
  have q1 := HR2.c (j := 1) rfl
  change bodyPost _ _ _ _ _ (filled w1 (w.heap.size + 1) 0 0 (.slice none 0 0) 0 0)
  generalize filled w1 (w.heap.size + 1) 0 0 (.slice none 0 0) 0 0 = W2 at *
  refine bodyPost_ret (v := ansV 0 0 0 0 2) (by simp [results, Try.f11, go_sem, ansV, stV, retV, k0, k1, k2, q0, q1]) rfl ?_
  exact ⟨rfl, nxt hBw hB3 (Nat.le_refl _)⟩
set_option maxHeartbeats 1000000 in
theorem eapply_with (n : Int) (A : Option Addr) (c : Nat) (kd a : Int) (w : World) (g : Nat) (hm : moneyB n = true) (h : kdB kd = true) (ha : mayB kd a = true) (hs : Small a) (n2 r : Int) (hn2 : moneyB n2 = true)
    (hix : ∀ W : World, (Instr.index 49 kindsV (.int .i64 kd)).run Try.prog W = .ok (.func (.func g) #[] #[]) W)
    (eg : ∀ args w, (callFunc g args).run Try.prog w = .ok (.enter g args) w)
    (HG : ∀ W, Calls Try.prog g #[.int .u64 (IntKind.u64.wrap n), .int .u64 (IntKind.u64.wrap a)] W fun e w' => e = .returned (.tuple #[.int .u64 n2, .int .i64 r]) ∧ W = w') :
    Calls Try.prog 11 #[stV 5 n A 0 c, .int .i64 kd, .int .i64 a, .int .i64 0] w (Says (ansV 5 n2 2 r 0) w) := by
  have hB0 := boxed3_below w 5 n A 0 c
  have HW := Lib.hid (boxed3_state w 5 n A 0 c)
  have HZ := Lib.hid (boxed3_then w 5 n A 0 c)
  have HR := Lib.hid (boxed3_ret w 5 n A 0 c)
  have hsz := boxed3_size w 5 n A 0 c
  have H := check_es n A c (boxed3 w 5 n A 0 c) hm
  have HN := fun W => eknown_any kd W
  rw [h] at HN
  have HT := fun W => takes_any kd a W hs
  rw [ha] at HT
  have hn3 : Hid (wrap64 n2 = n2) := by have := (money_iff n2).1 hn2; exact iwrap (by omega) (by omega)
  clear ha hs h hm hn2
  obtain ⟨va, hva⟩ : ∃ va, kindsV = va := ⟨_, rfl⟩
  rw [hva] at hix
  have HK : ∀ W : World, Calls Try.prog 28 #[] W (Says va W) := fun W => hva ▸ kinds_any W
  clear hva
  unfold stV
  go_enter Try.func11, Try.ntmps11
  go_wp2_with fail
  refine H.mono ?_
  rintro e w1 ⟨rfl, hB1⟩
  generalize boxed3 w 5 n A 0 c = W0 at *
  have HW1 := Lib.hid (HW.out.below hB1 (by omega))
  have HZ1 := Lib.hid (HZ.out.below hB1 (by omega))
  have HR1 := Lib.hid (HR.out.below hB1 (by omega))
  have s1 := HW1.out.c (j := 1) rfl
  have hBw := nxt hB0 hB1 (by omega)
  have hlt1 : w.heap.size + 1 + 1 < w1.heap.size := HR1.out.lt
  clear hsz hB0 hB1 HW HZ HR
  go_wp2_with fail
  refine (HN _).mono ?_
  rintro e w2 ⟨rfl, rfl⟩
  go_wp2_with fail
  refine (HT _).mono ?_
  rintro e w2 ⟨rfl, rfl⟩
  go_wp2_with fail
  refine (HK _).mono ?_
  rintro e w2 ⟨rfl, hB2⟩
  have HW2 := Lib.hid (HW1.out.below hB2 (by omega))
  replace HZ1 := Lib.hid (HZ1.out.below hB2 (by omega))
  replace HR1 := Lib.hid (HR1.out.below hB2 (by omega))
  replace hBw := nxt hBw hB2 hBw.size
  have hs2 := hB2.size
  clear HW1 s1
  have s1 := HW2.out.c (j := 1) rfl
  go_wp2_with fail
  refine (HG _).mono ?_
  rintro e w3 ⟨rfl, rfl⟩
  have z0 := HZ1.out.c (j := 0) rfl
  have z1 := HZ1.out.c (j := 1) rfl
  have z2 := HZ1.out.c (j := 2) rfl
  have r0 := HR1.out.c (j := 0) rfl
  have r1 := HR1.out.c (j := 1) rfl
  have y0 := HZ1.out.frozen 0
  have y1 := HZ1.out.frozen 1
  have y2 := HZ1.out.frozen 2
  have x0 := HR1.out.frozen 0
  have x1 := HR1.out.frozen 1
  go_wp2
  rw [hn3.out]
  obtain ⟨HZ2, HR2, hB3⟩ := filled_holds (m := w.heap.size) HZ1.out HR1.out (by omega) 5 n2 (.slice none 0 0) 2 r
  have k0 := HZ2.c (j := 0) rfl
  have k1 := HZ2.c (j := 1) rfl
  have k2 := HZ2.c (j := 2) rfl
  have q0 := HR2.c (j := 0) rfl
  have q1 := HR2.c (j := 1) rfl
  change bodyPost _ _ _ _ _ (filled w2 (w.heap.size + 1) 5 n2 (.slice none 0 0) 2 r)
  generalize filled w2 (w.heap.size + 1) 5 n2 (.slice none 0 0) 2 r = W2 at *
  refine bodyPost_ret (v := ansV 5 n2 2 r 0) (by simp [results, Try.f11, go_sem, ansV, stV, retV, k0, k1, k2, q0, q1]) rfl ?_
  exact ⟨rfl, nxt hBw hB3 (Nat.le_refl _)⟩

theorem then_money {kd n a : Int} (hm : moneyB n = true) (ha : mayB kd a = true) : moneyB (eThen kd n a) = true := by
  have h := (money_iff n).1 hm
  refine (money_iff _).2 ?_
  unfold mayB at ha
  by_cases h15 : kd = 15
  · subst h15; simp [eThen]; omega
  · rw [if_neg h15] at ha
    have h2 := (money_iff a).1 ha
    unfold eThen
    split
    · split <;> omega
    · split
      · split <;> omega
      · omega
theorem kd_three {kd : Int} (h : kdB kd = true) : kd = 13 ∨ kd = 14 ∨ kd = 15 := by
  unfold kdB at h; simp at h; omega
set_option maxHeartbeats 1000000 in
theorem eapply_yes (n : Int) (A : Option Addr) (c : Nat) (kd a : Int) (w : World) (hm : moneyB n = true) (h : kdB kd = true) (ha : mayB kd a = true) (hs : Small a) :
    Calls Try.prog 11 #[stV 5 n A 0 c, .int .i64 kd, .int .i64 a, .int .i64 0] w (Says (ansV 5 (eThen kd n a) 2 (eRet kd n a) 0) w) := by
  have hn := (money_iff n).1 hm
  have un : IntKind.u64.wrap n = n := uwrap (by omega) (by omega)
  have hth := then_money hm ha
  rcases kd_three h with rfl | rfl | rfl
  · have h2 := (money_iff a).1 ha
    have ua : IntKind.u64.wrap a = a := uwrap (by omega) (by omega)
    exact eapply_with n A c 13 a w 39 hm h ha hs _ _ hth (fun W => by kernel_rfl) (Go.Proofs.enters_of Try.func39 (by kernel_rfl) rfl) (fun W => by rw [un, ua]; exact deposit_any n a W (by omega) (by omega) (by omega) (by omega))
  · have h2 := (money_iff a).1 ha
    have ua : IntKind.u64.wrap a = a := uwrap (by omega) (by omega)
    exact eapply_with n A c 14 a w 40 hm h ha hs _ _ hth (fun W => by kernel_rfl) (Go.Proofs.enters_of Try.func40 (by kernel_rfl) rfl) (fun W => by rw [un, ua]; exact withdraw_any n a W (by omega) (by omega) (by omega) (by omega))
  · obtain rfl : a = 0 := by simpa [mayB] using ha
    exact eapply_with n A c 15 0 w 41 hm h ha hs _ _ hth (fun W => by kernel_rfl) (Go.Proofs.enters_of Try.func41 (by kernel_rfl) rfl) (fun W => by rw [un]; exact balance_any n _ W (by omega) (by omega))

/-- What Apply answers: the state then, what is returned, the error. -/
def escA (t n : Int) (l : List Int) (kd a b : Int) : Int × Int × Int × Int × Int :=
  if t = 5 ∧ l = [] ∧ moneyB n = true then
    if kdB kd = true then
      if b = 0 ∧ mayB kd a = true then (5, eThen kd n a, 2, eRet kd n a, 0) else (0, 0, 0, 0, 2)
    else (0, 0, 0, 0, 6)
  else (0, 0, 0, 0, 12)
def escV (p : Int × Int × Int × Int × Int) : Value := ansV p.1 p.2.1 p.2.2.1 p.2.2.2.1 p.2.2.2.2
theorem eapply_any (t n : Int) (A : Option Addr) (c : Nat) (l : List Int) (kd a b : Int) (w : World) (hA : Ints w A l) (hlen : l.length ≤ 1000) (hs : Small a) :
    Calls Try.prog 11 #[stV t n A l.length c, .int .i64 kd, .int .i64 a, .int .i64 b] w (Says (escV (escA t n l kd a b)) w) := by
  unfold escA
  split
  · next h =>
    obtain ⟨rfl, rfl, hm⟩ := h
    split
    · next hk =>
      split
      · next h2 =>
        obtain ⟨rfl, ha⟩ := h2
        exact eapply_yes n A c kd a w hm hk ha hs
      · next h2 =>
        by_cases hb : b = 0
        · subst hb
          exact eapply_a n A c kd a w hm hk (by cases h : mayB kd a with | true => exact absurd ⟨rfl, h⟩ h2 | false => rfl) hs
        · exact eapply_b n A c kd a b w hm hk hb
    · next hk => exact eapply_word n A c kd a b w hm (by simpa using hk)
  · next h =>
    by_cases ht : t = 5
    · subst ht
      exact eapply_form n A c l kd a b w hA hlen (fun e => h ⟨rfl, e⟩)
    · exact eapply_state t n A c l kd a b w ht
end Go.Proofs.Ytpnclppjmgeddaa
