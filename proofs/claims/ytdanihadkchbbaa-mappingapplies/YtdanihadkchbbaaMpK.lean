/- The document's Apply. (Written by wip/tools/gen_mpk.py.) -/
import Derived.Test.YtdanihadkchbbaaMpJ
namespace Go.Proofs.Ytdanihadkchbbaa
open Go.RowKit Go.Maps
set_option linter.unusedVariables false
set_option linter.unusedSimpArgs false

set_option maxHeartbeats 1000000 in
theorem rhad_any (A : Option Addr) (c : Nat) (l : List Int) (x : Int) (w : World) (hA : Ints w A l) (hlen : l.length ≤ 1000) (hr : krise l) :
    Calls Try.prog 37 #[.slice A l.length c, .int .i64 x] w (Says (retV (hadK l x) (kval l x)) w) := by
  have HF := mrfind_any A c l x _ (hA.below (alloc1 w (.cells #[.int .i64 0, .int .i64 0] 38))) hlen
  rw [rf_eq hr] at HF
  unfold findV at HF
  unfold retV
  have HR := Lib.hid (Holds.new w 38 #[.int .i64 0, .int .i64 0])
  have hB0 := alloc1 w (.cells #[.int .i64 0, .int .i64 0] 38)
  cases hb : khas l x with
  | true =>
    rw [hb] at HF
    have HK := Lib.hid (had_yes hb)
    generalize hadK l x = hk at *
    generalize kval l x = v at *
    clear hb hA hr
    go_enter Try.func37, Try.ntmps37
    go_wp2_with fail
    refine HF.mono ?_
    rintro e w1 ⟨rfl, rfl⟩
    have r0 := HR.out.c (j := 0) rfl
    have r1 := HR.out.c (j := 1) rfl
    have f0 := HR.out.frozen 0
    have f1 := HR.out.frozen 1
    have HR2 := Lib.hid ((HR.out.set 0 (.int .i64 2)).set 1 (.int .i64 v))
    have hB2 := (hB0.setCell (p := ⟨w.heap.size, 0, none⟩) (Nat.le_refl _) (.int .i64 2)).setCell (p := ⟨w.heap.size, 1, none⟩) (Nat.le_refl _) (.int .i64 v)
    generalize w.alloc (.cells #[.int .i64 0, .int .i64 0] 38) = W1 at *
    go_wp2
    have k0 := HR2.out.c (j := 0) rfl
    have k1 := HR2.out.c (j := 1) rfl
    rw [HK.out]
    generalize (W1.setCell ⟨w.heap.size, 0, none⟩ (.int .i64 2)).setCell ⟨w.heap.size, 1, none⟩ (.int .i64 v) = W2 at *
    refine bodyPost_ret (v := .agg #[.int .i64 2, .int .i64 v]) (by simp [results, Try.f37, go_sem, k0, k1]) rfl ?_
    exact ⟨rfl, hB2⟩
  | false =>
    rw [hb] at HF
    obtain ⟨hk1, hk2⟩ := had_no hb
    have HK := Lib.hid hk1
    rw [hk2] at HF ⊢
    generalize hadK l x = hk at *
    clear hb hA hk1 hk2 hr
    go_enter Try.func37, Try.ntmps37
    go_wp2_with fail
    refine HF.mono ?_
    rintro e w1 ⟨rfl, rfl⟩
    have r0 := HR.out.c (j := 0) rfl
    have r1 := HR.out.c (j := 1) rfl
    have f0 := HR.out.frozen 0
    have f1 := HR.out.frozen 1
    have HR2 := Lib.hid ((HR.out.set 0 (.int .i64 1)).set 1 (.int .i64 0))
    have hB2 := (hB0.setCell (p := ⟨w.heap.size, 0, none⟩) (Nat.le_refl _) (.int .i64 1)).setCell (p := ⟨w.heap.size, 1, none⟩) (Nat.le_refl _) (.int .i64 0)
    generalize w.alloc (.cells #[.int .i64 0, .int .i64 0] 38) = W1 at *
    go_wp2
    have k0 := HR2.out.c (j := 0) rfl
    have k1 := HR2.out.c (j := 1) rfl
    rw [HK.out]
    generalize (W1.setCell ⟨w.heap.size, 0, none⟩ (.int .i64 1)).setCell ⟨w.heap.size, 1, none⟩ (.int .i64 0) = W2 at *
    refine bodyPost_ret (v := .agg #[.int .i64 1, .int .i64 0]) (by simp [results, Try.f37, go_sem, k0, k1]) rfl ?_
    exact ⟨rfl, hB2⟩

theorem rmapply_state (t n : Int) (A : Option Addr) (c : Nat) (l : List Int) (kd a b : Int) (w : World) (h : t ≠ 3) :
    Calls Try.prog 21 #[stV t n A l.length c, .int .i64 kd, .int .i64 a, .int .i64 b] w (SetPost 0 [] 0 0 12 w) := by
  have ht : (t != 3) = true := by rw [bne_iff_ne]; exact h
  clear h
  unfold stV
  go_enter Try.func21, Try.ntmps21
  go_wp2
  refine bodyPost_ret (v := ansV 0 0 0 0 12) (by simp [results, Try.f21, go_sem, ansV, stV, retV]) rfl ?_
  exact set_none _ _ _ (boxed3_below w _ _ _ _ _)
set_option maxHeartbeats 1000000 in
theorem rmapply_form (n : Int) (A : Option Addr) (c : Nat) (l : List Int) (kd a b : Int) (w : World) (hA : Ints w A l) (hlen : l.length ≤ 1000) (h : ¬ (n = 0 ∧ krise l)) :
    Calls Try.prog 21 #[stV 3 n A l.length c, .int .i64 kd, .int .i64 a, .int .i64 b] w (SetPost 0 [] 0 0 12 w) := by
  have hB0 := boxed3_below w 3 n A l.length c
  have H := rcheck_any 3 n A c l _ (hA.below hB0) hlen
  have hc : checkE 3 n l = 5 := by
    exact check_no_map h
  rw [hc] at H
  clear h
  have HZ := Lib.hid (boxed3_then w 3 n A l.length c)
  have HR := Lib.hid (boxed3_ret w 3 n A l.length c)
  have hsz := boxed3_size w 3 n A l.length c
  clear hc hA
  unfold stV at *
  go_enter Try.func21, Try.ntmps21
  go_wp2_with fail
  refine H.mono ?_
  rintro e w1 ⟨rfl, hB1⟩
  generalize boxed3 w 3 n A l.length c = W0 at *
  have HZ1 := Lib.hid (HZ.out.below hB1 (by omega))
  have HR1 := Lib.hid (HR.out.below hB1 (by omega))
  have z0 := HZ1.out.c (j := 0) rfl
  have z1 := HZ1.out.c (j := 1) rfl
  have z2 := HZ1.out.c (j := 2) rfl
  have r0 := HR1.out.c (j := 0) rfl
  have r1 := HR1.out.c (j := 1) rfl
  have y0 := HZ1.out.frozen 0
  have y1 := HZ1.out.frozen 1
  have y2 := HZ1.out.frozen 2
  have x0 := HR1.out.frozen 0
  have x1 := HR1.out.frozen 1
  have hBw := nxt hB0 hB1 (by omega)
  clear hsz
  go_wp2
  obtain ⟨HZ2, HR2, hB2⟩ := filled_holds (m := w.heap.size) HZ1.out HR1.out (by omega) 0 0 (.slice none 0 0) 0 0
  have k0 := HZ2.c (j := 0) rfl
  have k1 := HZ2.c (j := 1) rfl
  have k2 := HZ2.c (j := 2) rfl
  have q0 := HR2.c (j := 0) rfl
  have q1 := HR2.c (j := 1) rfl
  change bodyPost _ _ _ _ _ (filled w1 (w.heap.size + 1) 0 0 (.slice none 0 0) 0 0)
  generalize filled w1 (w.heap.size + 1) 0 0 (.slice none 0 0) 0 0 = W2 at *
  refine bodyPost_ret (v := ansV 0 0 0 0 12) (by simp [results, Try.f21, go_sem, ansV, stV, retV, k0, k1, k2, q0, q1]) rfl ?_
  exact set_none _ _ _ (nxt hBw hB2 (Nat.le_refl _))
set_option maxHeartbeats 1000000 in
theorem rmapply_word (A : Option Addr) (c : Nat) (l : List Int) (kd a b : Int) (w : World) (hA : Ints w A l) (hlen : l.length ≤ 1000) (hr : krise l) (h : kd < 7) :
    Calls Try.prog 21 #[stV 3 0 A l.length c, .int .i64 kd, .int .i64 a, .int .i64 b] w (SetPost 0 [] 0 0 6 w) := by
  have hB0 := boxed3_below w 3 0 A l.length c
  have H := rcheck_any 3 0 A c l _ (hA.below hB0) hlen
  have hc : checkE 3 0 l = 0 := by
    exact check_map hr
  rw [hc] at H
  have d1 : decide (kd < 7) = true := decide_eq_true h
  have HZ := Lib.hid (boxed3_then w 3 0 A l.length c)
  have HR := Lib.hid (boxed3_ret w 3 0 A l.length c)
  have hsz := boxed3_size w 3 0 A l.length c
  clear hc hA
  unfold stV at *
  go_enter Try.func21, Try.ntmps21
  go_wp2_with fail
  refine H.mono ?_
  rintro e w1 ⟨rfl, hB1⟩
  generalize boxed3 w 3 0 A l.length c = W0 at *
  have HZ1 := Lib.hid (HZ.out.below hB1 (by omega))
  have HR1 := Lib.hid (HR.out.below hB1 (by omega))
  have z0 := HZ1.out.c (j := 0) rfl
  have z1 := HZ1.out.c (j := 1) rfl
  have z2 := HZ1.out.c (j := 2) rfl
  have r0 := HR1.out.c (j := 0) rfl
  have r1 := HR1.out.c (j := 1) rfl
  have y0 := HZ1.out.frozen 0
  have y1 := HZ1.out.frozen 1
  have y2 := HZ1.out.frozen 2
  have x0 := HR1.out.frozen 0
  have x1 := HR1.out.frozen 1
  have hBw := nxt hB0 hB1 (by omega)
  clear hsz
  go_wp2
  obtain ⟨HZ2, HR2, hB2⟩ := filled_holds (m := w.heap.size) HZ1.out HR1.out (by omega) 0 0 (.slice none 0 0) 0 0
  have k0 := HZ2.c (j := 0) rfl
  have k1 := HZ2.c (j := 1) rfl
  have k2 := HZ2.c (j := 2) rfl
  have q0 := HR2.c (j := 0) rfl
  have q1 := HR2.c (j := 1) rfl
  change bodyPost _ _ _ _ _ (filled w1 (w.heap.size + 1) 0 0 (.slice none 0 0) 0 0)
  generalize filled w1 (w.heap.size + 1) 0 0 (.slice none 0 0) 0 0 = W2 at *
  refine bodyPost_ret (v := ansV 0 0 0 0 6) (by simp [results, Try.f21, go_sem, ansV, stV, retV, k0, k1, k2, q0, q1]) rfl ?_
  exact set_none _ _ _ (nxt hBw hB2 (Nat.le_refl _))
set_option maxHeartbeats 1000000 in
theorem rmapply_word2 (A : Option Addr) (c : Nat) (l : List Int) (kd a b : Int) (w : World) (hA : Ints w A l) (hlen : l.length ≤ 1000) (hr : krise l) (h : 9 < kd) :
    Calls Try.prog 21 #[stV 3 0 A l.length c, .int .i64 kd, .int .i64 a, .int .i64 b] w (SetPost 0 [] 0 0 6 w) := by
  have hB0 := boxed3_below w 3 0 A l.length c
  have H := rcheck_any 3 0 A c l _ (hA.below hB0) hlen
  have hc : checkE 3 0 l = 0 := by
    exact check_map hr
  rw [hc] at H
  have d1 : decide (kd < 7) = false := decide_eq_false (by omega)
  have d2 : decide (9 < kd) = true := decide_eq_true h
  have d3 : decide (kd > 9) = true := decide_eq_true h
  have HZ := Lib.hid (boxed3_then w 3 0 A l.length c)
  have HR := Lib.hid (boxed3_ret w 3 0 A l.length c)
  have hsz := boxed3_size w 3 0 A l.length c
  clear hc hA
  unfold stV at *
  go_enter Try.func21, Try.ntmps21
  go_wp2_with fail
  refine H.mono ?_
  rintro e w1 ⟨rfl, hB1⟩
  generalize boxed3 w 3 0 A l.length c = W0 at *
  have HZ1 := Lib.hid (HZ.out.below hB1 (by omega))
  have HR1 := Lib.hid (HR.out.below hB1 (by omega))
  have z0 := HZ1.out.c (j := 0) rfl
  have z1 := HZ1.out.c (j := 1) rfl
  have z2 := HZ1.out.c (j := 2) rfl
  have r0 := HR1.out.c (j := 0) rfl
  have r1 := HR1.out.c (j := 1) rfl
  have y0 := HZ1.out.frozen 0
  have y1 := HZ1.out.frozen 1
  have y2 := HZ1.out.frozen 2
  have x0 := HR1.out.frozen 0
  have x1 := HR1.out.frozen 1
  have hBw := nxt hB0 hB1 (by omega)
  clear hsz
  go_wp2
  obtain ⟨HZ2, HR2, hB2⟩ := filled_holds (m := w.heap.size) HZ1.out HR1.out (by omega) 0 0 (.slice none 0 0) 0 0
  have k0 := HZ2.c (j := 0) rfl
  have k1 := HZ2.c (j := 1) rfl
  have k2 := HZ2.c (j := 2) rfl
  have q0 := HR2.c (j := 0) rfl
  have q1 := HR2.c (j := 1) rfl
  change bodyPost _ _ _ _ _ (filled w1 (w.heap.size + 1) 0 0 (.slice none 0 0) 0 0)
  generalize filled w1 (w.heap.size + 1) 0 0 (.slice none 0 0) 0 0 = W2 at *
  refine bodyPost_ret (v := ansV 0 0 0 0 6) (by simp [results, Try.f21, go_sem, ansV, stV, retV, k0, k1, k2, q0, q1]) rfl ?_
  exact set_none _ _ _ (nxt hBw hB2 (Nat.le_refl _))
set_option maxHeartbeats 1000000 in
theorem rmapply_arg (A : Option Addr) (c : Nat) (l : List Int) (kd a b : Int) (w : World) (hA : Ints w A l) (hlen : l.length ≤ 1000) (hr : krise l) (h1 : 8 ≤ kd) (h2 : kd ≤ 9) (h : b ≠ 0) :
    Calls Try.prog 21 #[stV 3 0 A l.length c, .int .i64 kd, .int .i64 a, .int .i64 b] w (SetPost 0 [] 0 0 2 w) := by
  have hB0 := boxed3_below w 3 0 A l.length c
  have H := rcheck_any 3 0 A c l _ (hA.below hB0) hlen
  have hc : checkE 3 0 l = 0 := by
    exact check_map hr
  rw [hc] at H
  have d1 : decide (kd < 7) = false := decide_eq_false (by omega)
  have d2 : decide (9 < kd) = false := decide_eq_false (by omega)
  have d4 : (kd != 7) = true := by rw [bne_iff_ne]; omega
  have d3 : (b != 0) = true := by rw [bne_iff_ne]; exact h
  have HZ := Lib.hid (boxed3_then w 3 0 A l.length c)
  have HR := Lib.hid (boxed3_ret w 3 0 A l.length c)
  have hsz := boxed3_size w 3 0 A l.length c
  clear hc hA
  unfold stV at *
  go_enter Try.func21, Try.ntmps21
  go_wp2_with fail
  refine H.mono ?_
  rintro e w1 ⟨rfl, hB1⟩
  generalize boxed3 w 3 0 A l.length c = W0 at *
  have HZ1 := Lib.hid (HZ.out.below hB1 (by omega))
  have HR1 := Lib.hid (HR.out.below hB1 (by omega))
  have z0 := HZ1.out.c (j := 0) rfl
  have z1 := HZ1.out.c (j := 1) rfl
  have z2 := HZ1.out.c (j := 2) rfl
  have r0 := HR1.out.c (j := 0) rfl
  have r1 := HR1.out.c (j := 1) rfl
  have y0 := HZ1.out.frozen 0
  have y1 := HZ1.out.frozen 1
  have y2 := HZ1.out.frozen 2
  have x0 := HR1.out.frozen 0
  have x1 := HR1.out.frozen 1
  have hBw := nxt hB0 hB1 (by omega)
  clear hsz
  go_wp2
  obtain ⟨HZ2, HR2, hB2⟩ := filled_holds (m := w.heap.size) HZ1.out HR1.out (by omega) 0 0 (.slice none 0 0) 0 0
  have k0 := HZ2.c (j := 0) rfl
  have k1 := HZ2.c (j := 1) rfl
  have k2 := HZ2.c (j := 2) rfl
  have q0 := HR2.c (j := 0) rfl
  have q1 := HR2.c (j := 1) rfl
  change bodyPost _ _ _ _ _ (filled w1 (w.heap.size + 1) 0 0 (.slice none 0 0) 0 0)
  generalize filled w1 (w.heap.size + 1) 0 0 (.slice none 0 0) 0 0 = W2 at *
  refine bodyPost_ret (v := ansV 0 0 0 0 2) (by simp [results, Try.f21, go_sem, ansV, stV, retV, k0, k1, k2, q0, q1]) rfl ?_
  exact set_none _ _ _ (nxt hBw hB2 (Nat.le_refl _))
theorem set3_plain {W : World} {B b : Nat} {t : TypeId} {cs : Array Value} {u0 u1 u2 : Value} (h : Holds W B t cs) (hne : B ≠ b) : Holds (((W.setCell ⟨b, 0, none⟩ u0).setCell ⟨b, 1, none⟩ u1).setCell ⟨b, 2, none⟩ u2) B t cs :=
  set_other (set_other (set_other h _ _ hne) _ _ hne) _ _ hne
theorem set5_plain {W : World} {B b d : Nat} {t : TypeId} {cs : Array Value} {u0 u1 u2 u3 u4 : Value} (h : Holds W B t cs) (hne : B ≠ b) (hnd : B ≠ d) : Holds (((((W.setCell ⟨b, 0, none⟩ u0).setCell ⟨b, 1, none⟩ u1).setCell ⟨b, 2, none⟩ u2).setCell ⟨d, 0, none⟩ u3).setCell ⟨d, 1, none⟩ u4) B t cs :=
  set_other (set_other (set_other (set_other (set_other h _ _ hne) _ _ hne) _ _ hne) _ _ hnd) _ _ hnd

set_option maxHeartbeats 2000000 in
theorem rmapply_put (A : Option Addr) (c : Nat) (l : List Int) (x v : Int) (w : World) (hA : Ints w A l) (hlen : l.length ≤ 800) (hr : krise l) :
    Calls Try.prog 21 #[stV 3 0 A l.length c, .int .i64 7, .int .i64 x, .int .i64 v] w (SetPost 3 (setM l x v) (hadK l x) (kval l x) 0 w) := by
  have hB0 := boxed3_below w 3 0 A l.length c
  have HC := rcheck_any 3 0 A c l _ (hA.below hB0) (by omega)
  rw [check_map hr] at HC
  have HAD := fun W (h : Below w.heap.size w W) => rhad_any A c l x W (hA.below h) (by omega) hr
  have HMK := fun W (h : Below w.heap.size w W) => mrset_any A c l x v W (hA.below h) (by omega) (by rw [rdrop_eq hr]; have := drop_len_le l x; omega)
  rw [rset_eq hr] at HMK
  unfold RowPost at HMK
  have HA := Lib.hid hA
  have HW := Lib.hid (boxed3_state w 3 0 A l.length c)
  have HZ := Lib.hid (boxed3_then w 3 0 A l.length c)
  have HR := Lib.hid (boxed3_ret w 3 0 A l.length c)
  have hsz := boxed3_size w 3 0 A l.length c
  clear hA hr
  unfold stV retV at *
  generalize hadK l x = hk at *
  generalize kval l x = hv at *
  go_enter Try.func21, Try.ntmps21
  go_wp2_with fail
  refine HC.mono ?_
  rintro e w1 ⟨rfl, hB1⟩
  generalize boxed3 w 3 0 A l.length c = W0 at *
  have HW1 := Lib.hid (HW.out.below hB1 (by omega))
  have HZ1 := Lib.hid (HZ.out.below hB1 (by omega))
  have HR1 := Lib.hid (HR.out.below hB1 (by omega))
  have hBw := nxt hB0 hB1 (by omega)
  have hlt1 := HR1.out.lt
  have s2 := HW1.out.c (j := 2) rfl
  have HROW := Lib.hid (World.ownsRow_lit (base := w1.heap.size) (e := 3) (size := 1) w1 #[] 0 (Nat.le_refl _) (Nat.zero_le _) rfl)
  have HA2 := Lib.hid ((HA.out.below hBw).below (alloc1 w1 (.cells #[] 3)))
  have hs2a : w1.heap.size ≤ (w1.alloc (.cells #[] 3)).heap.size := by simp
  have c2x : (w1.alloc (.cells #[] 3)).cell? ⟨w.heap.size, 2, none⟩ = some (.slice A l.length c) := (HW1.out.alloc _).c (j := 2) rfl
  clear hsz hB0 hB1
  go_wp2_with (at_builtin; refine wpList_app _ rfl _ _ 22 rfl w1.heap.size Try.underlying22 _ _ _ rfl HROW.out A l.length c l rfl rfl HA2.out (by omega) (by omega) hs2a ?_; intro v3 w3 hown3 hg3 hn3; obtain ⟨g3, c3, rfl⟩ := form4 hown3 hn3; rw [Nat.zero_add, List.nil_append] at hown3; have hB3 : Below w1.heap.size w1 w3 := (alloc1 w1 _).trans (grown_below hg3 HROW.out hs2a); have HO3 := Lib.hid hown3; have u2 : (w3.alloc (.cells #[.int .i64 3, .int .i64 0, .slice (some ⟨g3, 0, none⟩) l.length c3] 26)).cell? ⟨w.heap.size, 2, none⟩ = some (.slice A l.length c) := ((HW1.out.below hB3 (by omega)).alloc _).c (j := 2) rfl; clear hg3 hn3 c2x s2 hown3)
  have hs3 := hB3.size
  have hBw3 := nxt hBw hB3 hBw.size
  have hB4 := nxt hBw3 (alloc1 w3 (.cells #[.int .i64 3, .int .i64 0, .slice (some ⟨g3, 0, none⟩) l.length c3] 26)) hBw3.size
  have HZ4 := Lib.hid ((HZ1.out.below hB3 (by omega)).alloc (.cells #[.int .i64 3, .int .i64 0, .slice (some ⟨g3, 0, none⟩) l.length c3] 26))
  have HR4 := Lib.hid ((HR1.out.below hB3 (by omega)).alloc (.cells #[.int .i64 3, .int .i64 0, .slice (some ⟨g3, 0, none⟩) l.length c3] 26))
  have HW4 := Lib.hid ((HW1.out.below hB3 (by omega)).alloc (.cells #[.int .i64 3, .int .i64 0, .slice (some ⟨g3, 0, none⟩) l.length c3] 26))
  have HO4 := Lib.hid (Holds.new w3 26 #[.int .i64 3, .int .i64 0, .slice (some ⟨g3, 0, none⟩) l.length c3])
  have HV4 := Lib.hid (row_below HO3.out (alloc1 w3 (.cells #[.int .i64 3, .int .i64 0, .slice (some ⟨g3, 0, none⟩) l.length c3] 26)))
  have hs4 : w3.heap.size < (w3.alloc (.cells #[.int .i64 3, .int .i64 0, .slice (some ⟨g3, 0, none⟩) l.length c3] 26)).heap.size := by simp
  clear HROW HA2
  generalize w3.alloc (.cells #[.int .i64 3, .int .i64 0, .slice (some ⟨g3, 0, none⟩) l.length c3] 26) = W4 at *
  refine (HMK W4 hB4).mono ?_
  rintro e w5 ⟨B5, d5, rfl, ho5, hB5⟩
  have HO5 := Lib.hid (HO4.out.below hB5 hs4)
  have HZ5 := Lib.hid (HZ4.out.below hB5 HZ4.out.lt)
  have HR5 := Lib.hid (HR4.out.below hB5 HR4.out.lt)
  have HW5 := Lib.hid (HW4.out.below hB5 HW4.out.lt)
  have hBw5 := nxt hB4 hB5 hB4.size
  have o2 := HO5.out.c (j := 2) rfl
  have p2 := HO5.out.frozen 2
  clear u2
  go_wp2_with fail
  have HO6 := Lib.hid (HO5.out.set 2 (.slice B5 (setM l x v).length d5))
  have hO6 := (Only.of (B := w3.heap.size) (Below.refl w5.heap.size w5) (Nat.le_refl _)).set 2 (.slice B5 (setM l x v).length d5)
  have HZ6 := Lib.hid (HZ5.out.of (hO6.block _ HZ5.out.lt (by omega)))
  have HR6 := Lib.hid (HR5.out.of (hO6.block _ HR5.out.lt (by omega)))
  have HW6 := Lib.hid (HW5.out.of (hO6.block _ HW5.out.lt (by omega)))
  have HV6 := Lib.hid (row_mid (W' := w5.setCell ⟨w3.heap.size, 2, none⟩ (.slice B5 (setM l x v).length d5)) ho5 (fun B hB hl => hO6.block B hl (by omega)))
  have hBw6 := nxt hBw5 (hO6.below (lo := w.heap.size) (by omega) hBw5.size) (Nat.le_refl _)
  have hs6 := hO6.size
  have hs5 := hB5.size
  clear o2 p2 hO6 ho5
  generalize w5.setCell ⟨w3.heap.size, 2, none⟩ (.slice B5 (setM l x v).length d5) = W6 at *
  have hlo6 : w.heap.size + 1 + 1 < W4.heap.size := HR4.out.lt
  refine wp_region_noPanic ?_
  have hBo : w3.heap.size < W6.heap.size := HO6.out.lt
  refine wp_region_picked [(0, true), (1, true), (2, true), (3, true), (4, false), (5, false), (6, false), (7, true)] (fun W' => Holds W' w3.heap.size 26 #[.int .i64 3, .int .i64 0, .slice B5 (setM l x v).length d5] ∧ Holds W' w.heap.size 26 #[.int .i64 3, .int .i64 0, .slice A l.length c]) (by kernel_rfl) (by kernel_rfl) (fun _ _ _ _ _ h => h) ⟨HO6.out, HW6.out⟩ ?_
  iterate 4
    refine Picked.take ?_ (by rfl) (by rfl) ?_ ?_
    rotate_left
    · rintro w' ⟨h1, h2⟩
      have q0 := h1.c (j := 0) rfl
      have q1 := h1.c (j := 1) rfl
      have q2 := h1.c (j := 2) rfl
      have d2 := h2.c (j := 2) rfl
      go_simp
      try with_reducible rfl
    simp only [Act.put, List.getElem_toArray, List.getElem_cons_zero, List.getElem_cons_succ, List.setIfInBounds_toArray, List.set_cons_zero, List.set_cons_succ]
  refine Picked.call 37 #[.slice A l.length c, .int .i64 x] (by rfl) (by rfl) (by go_simp) ?_
  refine (HAD W6.drew hBw6.drew).mono ?_
  rintro e w7 ⟨rfl, hB7⟩
  have hB7' : Below W6.heap.size W6 w7 := ((Below.refl _ W6).drew).trans hB7
  have HO7 := HO6.out.below hB7' HO6.out.lt
  have HW7 := HW6.out.below hB7' HW6.out.lt
  refine ⟨_, rfl, ⟨HO7, HW7⟩, ?_⟩
  simp only [Act.put, List.getElem_toArray, List.getElem_cons_zero, List.getElem_cons_succ, List.setIfInBounds_toArray, List.set_cons_zero, List.set_cons_succ]
  have HZ7 := Lib.hid (HZ6.out.below hB7' HZ6.out.lt)
  have HR7 := Lib.hid (HR6.out.below hB7' HR6.out.lt)
  have HV7 := Lib.hid (row_below HV6.out hB7')
  have hBw7 := nxt hBw6 hB7' hBw6.size
  have z0 := HZ7.out.c (j := 0) rfl
  have z1 := HZ7.out.c (j := 1) rfl
  have z2 := HZ7.out.c (j := 2) rfl
  have r0 := HR7.out.c (j := 0) rfl
  have r1 := HR7.out.c (j := 1) rfl
  have a0 := HZ7.out.frozen 0
  have a1 := HZ7.out.frozen 1
  have a2 := HZ7.out.frozen 2
  have b0 := HR7.out.frozen 0
  have b1 := HR7.out.frozen 1
  refine ⟨_, by rfl, by rfl, ?_⟩
  go_simp
  refine ⟨⟨set3_plain HO7 (by omega), set3_plain HW7 (by omega)⟩, ?_⟩
  refine ⟨_, by rfl, by rfl, ?_⟩
  go_simp
  refine ⟨⟨set5_plain HO7 (by omega) (by omega), set5_plain HW7 (by omega) (by omega)⟩, ?_⟩
  refine Picked.take (.int .i64 0) (by rfl) (by rfl) (fun w' _ => by go_simp) ?_
  simp only [Act.put, List.getElem_toArray, List.getElem_cons_zero, List.getElem_cons_succ, List.setIfInBounds_toArray, List.set_cons_zero, List.set_cons_succ]
  refine NoPanic.normal ?_
  obtain ⟨HZ8, HR8, hB8⟩ := filled_holds (m := w.heap.size) HZ7.out HR7.out (by omega) 3 0 (.slice B5 (setM l x v).length d5) hk hv
  have HV8 := row_mid (W' := filled w7 (w.heap.size + 1) 3 0 (.slice B5 (setM l x v).length d5) hk hv) HV7.out (fun B hB _ => filled_far _ _ _ _ _ _ _ B (by omega))
  have k0 := HZ8.c (j := 0) rfl
  have k1 := HZ8.c (j := 1) rfl
  have k2 := HZ8.c (j := 2) rfl
  have q0 := HR8.c (j := 0) rfl
  have q1 := HR8.c (j := 1) rfl
  change Exit.then _ _ _ _ (filled w7 (w.heap.size + 1) 3 0 (.slice B5 (setM l x v).length d5) hk hv)
  generalize filled w7 (w.heap.size + 1) 3 0 (.slice B5 (setM l x v).length d5) hk hv = W8 at *
  go_wp2
  refine bodyPost_ret (v := .tuple #[stV 3 0 B5 (setM l x v).length d5, retV hk hv, .int .i64 0]) (by simp [results, Try.f21, go_sem, stV, retV, k0, k1, k2, q0, q1]) rfl ?_
  exact ⟨B5, d5, rfl, row_more HV8 (by omega), nxt hBw7 hB8 (Nat.le_refl _)⟩
set_option maxHeartbeats 2000000 in
theorem rmapply_del (A : Option Addr) (c : Nat) (l : List Int) (x : Int) (w : World) (hA : Ints w A l) (hlen : l.length ≤ 800) (hr : krise l) :
    Calls Try.prog 21 #[stV 3 0 A l.length c, .int .i64 9, .int .i64 x, .int .i64 0] w (SetPost 3 (dropM l x) (hadK l x) (kval l x) 0 w) := by
  have hB0 := boxed3_below w 3 0 A l.length c
  have HC := rcheck_any 3 0 A c l _ (hA.below hB0) (by omega)
  rw [check_map hr] at HC
  have HAD := fun W (h : Below w.heap.size w W) => rhad_any A c l x W (hA.below h) (by omega) hr
  have HMK := fun W (h : Below w.heap.size w W) => mrdrop_any A c l x W (hA.below h) (by omega)
  rw [rdrop_eq hr] at HMK
  unfold RowPost at HMK
  have HA := Lib.hid hA
  have HW := Lib.hid (boxed3_state w 3 0 A l.length c)
  have HZ := Lib.hid (boxed3_then w 3 0 A l.length c)
  have HR := Lib.hid (boxed3_ret w 3 0 A l.length c)
  have hsz := boxed3_size w 3 0 A l.length c
  clear hA hr
  unfold stV retV at *
  generalize hadK l x = hk at *
  generalize kval l x = hv at *
  go_enter Try.func21, Try.ntmps21
  go_wp2_with fail
  refine HC.mono ?_
  rintro e w1 ⟨rfl, hB1⟩
  generalize boxed3 w 3 0 A l.length c = W0 at *
  have HW1 := Lib.hid (HW.out.below hB1 (by omega))
  have HZ1 := Lib.hid (HZ.out.below hB1 (by omega))
  have HR1 := Lib.hid (HR.out.below hB1 (by omega))
  have hBw := nxt hB0 hB1 (by omega)
  have hlt1 := HR1.out.lt
  have s2 := HW1.out.c (j := 2) rfl
  have HROW := Lib.hid (World.ownsRow_lit (base := w1.heap.size) (e := 3) (size := 1) w1 #[] 0 (Nat.le_refl _) (Nat.zero_le _) rfl)
  have HA2 := Lib.hid ((HA.out.below hBw).below (alloc1 w1 (.cells #[] 3)))
  have hs2a : w1.heap.size ≤ (w1.alloc (.cells #[] 3)).heap.size := by simp
  have c2x : (w1.alloc (.cells #[] 3)).cell? ⟨w.heap.size, 2, none⟩ = some (.slice A l.length c) := (HW1.out.alloc _).c (j := 2) rfl
  clear hsz hB0 hB1
  go_wp2_with (at_builtin; refine wpList_app _ rfl _ _ 22 rfl w1.heap.size Try.underlying22 _ _ _ rfl HROW.out A l.length c l rfl rfl HA2.out (by omega) (by omega) hs2a ?_; intro v3 w3 hown3 hg3 hn3; obtain ⟨g3, c3, rfl⟩ := form4 hown3 hn3; rw [Nat.zero_add, List.nil_append] at hown3; have hB3 : Below w1.heap.size w1 w3 := (alloc1 w1 _).trans (grown_below hg3 HROW.out hs2a); have HO3 := Lib.hid hown3; have u2 : (w3.alloc (.cells #[.int .i64 3, .int .i64 0, .slice (some ⟨g3, 0, none⟩) l.length c3] 26)).cell? ⟨w.heap.size, 2, none⟩ = some (.slice A l.length c) := ((HW1.out.below hB3 (by omega)).alloc _).c (j := 2) rfl; clear hg3 hn3 c2x s2 hown3)
  have hs3 := hB3.size
  have hBw3 := nxt hBw hB3 hBw.size
  have hB4 := nxt hBw3 (alloc1 w3 (.cells #[.int .i64 3, .int .i64 0, .slice (some ⟨g3, 0, none⟩) l.length c3] 26)) hBw3.size
  have HZ4 := Lib.hid ((HZ1.out.below hB3 (by omega)).alloc (.cells #[.int .i64 3, .int .i64 0, .slice (some ⟨g3, 0, none⟩) l.length c3] 26))
  have HR4 := Lib.hid ((HR1.out.below hB3 (by omega)).alloc (.cells #[.int .i64 3, .int .i64 0, .slice (some ⟨g3, 0, none⟩) l.length c3] 26))
  have HW4 := Lib.hid ((HW1.out.below hB3 (by omega)).alloc (.cells #[.int .i64 3, .int .i64 0, .slice (some ⟨g3, 0, none⟩) l.length c3] 26))
  have HO4 := Lib.hid (Holds.new w3 26 #[.int .i64 3, .int .i64 0, .slice (some ⟨g3, 0, none⟩) l.length c3])
  have HV4 := Lib.hid (row_below HO3.out (alloc1 w3 (.cells #[.int .i64 3, .int .i64 0, .slice (some ⟨g3, 0, none⟩) l.length c3] 26)))
  have hs4 : w3.heap.size < (w3.alloc (.cells #[.int .i64 3, .int .i64 0, .slice (some ⟨g3, 0, none⟩) l.length c3] 26)).heap.size := by simp
  clear HROW HA2
  generalize w3.alloc (.cells #[.int .i64 3, .int .i64 0, .slice (some ⟨g3, 0, none⟩) l.length c3] 26) = W4 at *
  refine (HMK W4 hB4).mono ?_
  rintro e w5 ⟨B5, d5, rfl, ho5, hB5⟩
  have HO5 := Lib.hid (HO4.out.below hB5 hs4)
  have HZ5 := Lib.hid (HZ4.out.below hB5 HZ4.out.lt)
  have HR5 := Lib.hid (HR4.out.below hB5 HR4.out.lt)
  have HW5 := Lib.hid (HW4.out.below hB5 HW4.out.lt)
  have hBw5 := nxt hB4 hB5 hB4.size
  have o2 := HO5.out.c (j := 2) rfl
  have p2 := HO5.out.frozen 2
  clear u2
  go_wp2_with fail
  have HO6 := Lib.hid (HO5.out.set 2 (.slice B5 (dropM l x).length d5))
  have hO6 := (Only.of (B := w3.heap.size) (Below.refl w5.heap.size w5) (Nat.le_refl _)).set 2 (.slice B5 (dropM l x).length d5)
  have HZ6 := Lib.hid (HZ5.out.of (hO6.block _ HZ5.out.lt (by omega)))
  have HR6 := Lib.hid (HR5.out.of (hO6.block _ HR5.out.lt (by omega)))
  have HW6 := Lib.hid (HW5.out.of (hO6.block _ HW5.out.lt (by omega)))
  have HV6 := Lib.hid (row_mid (W' := w5.setCell ⟨w3.heap.size, 2, none⟩ (.slice B5 (dropM l x).length d5)) ho5 (fun B hB hl => hO6.block B hl (by omega)))
  have hBw6 := nxt hBw5 (hO6.below (lo := w.heap.size) (by omega) hBw5.size) (Nat.le_refl _)
  have hs6 := hO6.size
  have hs5 := hB5.size
  clear o2 p2 hO6 ho5
  generalize w5.setCell ⟨w3.heap.size, 2, none⟩ (.slice B5 (dropM l x).length d5) = W6 at *
  have hlo6 : w.heap.size + 1 + 1 < W4.heap.size := HR4.out.lt
  refine wp_region_noPanic ?_
  have hBo : w3.heap.size < W6.heap.size := HO6.out.lt
  refine wp_region_picked [(0, true), (1, true), (2, true), (3, true), (4, false), (5, false), (6, false), (7, true)] (fun W' => Holds W' w3.heap.size 26 #[.int .i64 3, .int .i64 0, .slice B5 (dropM l x).length d5] ∧ Holds W' w.heap.size 26 #[.int .i64 3, .int .i64 0, .slice A l.length c]) (by kernel_rfl) (by kernel_rfl) (fun _ _ _ _ _ h => h) ⟨HO6.out, HW6.out⟩ ?_
  iterate 4
    refine Picked.take ?_ (by rfl) (by rfl) ?_ ?_
    rotate_left
    · rintro w' ⟨h1, h2⟩
      have q0 := h1.c (j := 0) rfl
      have q1 := h1.c (j := 1) rfl
      have q2 := h1.c (j := 2) rfl
      have d2 := h2.c (j := 2) rfl
      go_simp
      try with_reducible rfl
    simp only [Act.put, List.getElem_toArray, List.getElem_cons_zero, List.getElem_cons_succ, List.setIfInBounds_toArray, List.set_cons_zero, List.set_cons_succ]
  refine Picked.call 37 #[.slice A l.length c, .int .i64 x] (by rfl) (by rfl) (by go_simp) ?_
  refine (HAD W6.drew hBw6.drew).mono ?_
  rintro e w7 ⟨rfl, hB7⟩
  have hB7' : Below W6.heap.size W6 w7 := ((Below.refl _ W6).drew).trans hB7
  have HO7 := HO6.out.below hB7' HO6.out.lt
  have HW7 := HW6.out.below hB7' HW6.out.lt
  refine ⟨_, rfl, ⟨HO7, HW7⟩, ?_⟩
  simp only [Act.put, List.getElem_toArray, List.getElem_cons_zero, List.getElem_cons_succ, List.setIfInBounds_toArray, List.set_cons_zero, List.set_cons_succ]
  have HZ7 := Lib.hid (HZ6.out.below hB7' HZ6.out.lt)
  have HR7 := Lib.hid (HR6.out.below hB7' HR6.out.lt)
  have HV7 := Lib.hid (row_below HV6.out hB7')
  have hBw7 := nxt hBw6 hB7' hBw6.size
  have z0 := HZ7.out.c (j := 0) rfl
  have z1 := HZ7.out.c (j := 1) rfl
  have z2 := HZ7.out.c (j := 2) rfl
  have r0 := HR7.out.c (j := 0) rfl
  have r1 := HR7.out.c (j := 1) rfl
  have a0 := HZ7.out.frozen 0
  have a1 := HZ7.out.frozen 1
  have a2 := HZ7.out.frozen 2
  have b0 := HR7.out.frozen 0
  have b1 := HR7.out.frozen 1
  refine ⟨_, by rfl, by rfl, ?_⟩
  go_simp
  refine ⟨⟨set3_plain HO7 (by omega), set3_plain HW7 (by omega)⟩, ?_⟩
  refine ⟨_, by rfl, by rfl, ?_⟩
  go_simp
  refine ⟨⟨set5_plain HO7 (by omega) (by omega), set5_plain HW7 (by omega) (by omega)⟩, ?_⟩
  refine Picked.take (.int .i64 0) (by rfl) (by rfl) (fun w' _ => by go_simp) ?_
  simp only [Act.put, List.getElem_toArray, List.getElem_cons_zero, List.getElem_cons_succ, List.setIfInBounds_toArray, List.set_cons_zero, List.set_cons_succ]
  refine NoPanic.normal ?_
  obtain ⟨HZ8, HR8, hB8⟩ := filled_holds (m := w.heap.size) HZ7.out HR7.out (by omega) 3 0 (.slice B5 (dropM l x).length d5) hk hv
  have HV8 := row_mid (W' := filled w7 (w.heap.size + 1) 3 0 (.slice B5 (dropM l x).length d5) hk hv) HV7.out (fun B hB _ => filled_far _ _ _ _ _ _ _ B (by omega))
  have k0 := HZ8.c (j := 0) rfl
  have k1 := HZ8.c (j := 1) rfl
  have k2 := HZ8.c (j := 2) rfl
  have q0 := HR8.c (j := 0) rfl
  have q1 := HR8.c (j := 1) rfl
  change Exit.then _ _ _ _ (filled w7 (w.heap.size + 1) 3 0 (.slice B5 (dropM l x).length d5) hk hv)
  generalize filled w7 (w.heap.size + 1) 3 0 (.slice B5 (dropM l x).length d5) hk hv = W8 at *
  go_wp2
  refine bodyPost_ret (v := .tuple #[stV 3 0 B5 (dropM l x).length d5, retV hk hv, .int .i64 0]) (by simp [results, Try.f21, go_sem, stV, retV, k0, k1, k2, q0, q1]) rfl ?_
  exact ⟨B5, d5, rfl, row_more HV8 (by omega), nxt hBw7 hB8 (Nat.le_refl _)⟩
set_option maxHeartbeats 2000000 in
theorem rmapply_get (A : Option Addr) (c : Nat) (l : List Int) (x : Int) (w : World) (hA : Ints w A l) (hlen : l.length ≤ 800) (hr : krise l) :
    Calls Try.prog 21 #[stV 3 0 A l.length c, .int .i64 8, .int .i64 x, .int .i64 0] w (SetPost 3 l (hadK l x) (kval l x) 0 w) := by
  have hB0 := boxed3_below w 3 0 A l.length c
  have HC := rcheck_any 3 0 A c l _ (hA.below hB0) (by omega)
  rw [check_map hr] at HC
  have HAD := fun W (h : Below w.heap.size w W) => rhad_any A c l x W (hA.below h) (by omega) hr
  have HA := Lib.hid hA
  have HW := Lib.hid (boxed3_state w 3 0 A l.length c)
  have HZ := Lib.hid (boxed3_then w 3 0 A l.length c)
  have HR := Lib.hid (boxed3_ret w 3 0 A l.length c)
  have hsz := boxed3_size w 3 0 A l.length c
  clear hA hr
  unfold stV retV at *
  generalize hadK l x = hk at *
  generalize kval l x = hv at *
  go_enter Try.func21, Try.ntmps21
  go_wp2_with fail
  refine HC.mono ?_
  rintro e w1 ⟨rfl, hB1⟩
  generalize boxed3 w 3 0 A l.length c = W0 at *
  have HW1 := Lib.hid (HW.out.below hB1 (by omega))
  have HZ1 := Lib.hid (HZ.out.below hB1 (by omega))
  have HR1 := Lib.hid (HR.out.below hB1 (by omega))
  have hBw := nxt hB0 hB1 (by omega)
  have hlt1 := HR1.out.lt
  have s2 := HW1.out.c (j := 2) rfl
  have HROW := Lib.hid (World.ownsRow_lit (base := w1.heap.size) (e := 3) (size := 1) w1 #[] 0 (Nat.le_refl _) (Nat.zero_le _) rfl)
  have HA2 := Lib.hid ((HA.out.below hBw).below (alloc1 w1 (.cells #[] 3)))
  have hs2a : w1.heap.size ≤ (w1.alloc (.cells #[] 3)).heap.size := by simp
  have c2x : (w1.alloc (.cells #[] 3)).cell? ⟨w.heap.size, 2, none⟩ = some (.slice A l.length c) := (HW1.out.alloc _).c (j := 2) rfl
  clear hsz hB0 hB1
  go_wp2_with (at_builtin; refine wpList_app _ rfl _ _ 22 rfl w1.heap.size Try.underlying22 _ _ _ rfl HROW.out A l.length c l rfl rfl HA2.out (by omega) (by omega) hs2a ?_; intro v3 w3 hown3 hg3 hn3; obtain ⟨g3, c3, rfl⟩ := form4 hown3 hn3; rw [Nat.zero_add, List.nil_append] at hown3; have hB3 : Below w1.heap.size w1 w3 := (alloc1 w1 _).trans (grown_below hg3 HROW.out hs2a); have HO3 := Lib.hid hown3; have u2 : (w3.alloc (.cells #[.int .i64 3, .int .i64 0, .slice (some ⟨g3, 0, none⟩) l.length c3] 26)).cell? ⟨w.heap.size, 2, none⟩ = some (.slice A l.length c) := ((HW1.out.below hB3 (by omega)).alloc _).c (j := 2) rfl; clear hg3 hn3 c2x s2 hown3)
  have hs3 := hB3.size
  have hBw3 := nxt hBw hB3 hBw.size
  have hB4 := nxt hBw3 (alloc1 w3 (.cells #[.int .i64 3, .int .i64 0, .slice (some ⟨g3, 0, none⟩) l.length c3] 26)) hBw3.size
  have HZ4 := Lib.hid ((HZ1.out.below hB3 (by omega)).alloc (.cells #[.int .i64 3, .int .i64 0, .slice (some ⟨g3, 0, none⟩) l.length c3] 26))
  have HR4 := Lib.hid ((HR1.out.below hB3 (by omega)).alloc (.cells #[.int .i64 3, .int .i64 0, .slice (some ⟨g3, 0, none⟩) l.length c3] 26))
  have HW4 := Lib.hid ((HW1.out.below hB3 (by omega)).alloc (.cells #[.int .i64 3, .int .i64 0, .slice (some ⟨g3, 0, none⟩) l.length c3] 26))
  have HO4 := Lib.hid (Holds.new w3 26 #[.int .i64 3, .int .i64 0, .slice (some ⟨g3, 0, none⟩) l.length c3])
  have HV4 := Lib.hid (row_below HO3.out (alloc1 w3 (.cells #[.int .i64 3, .int .i64 0, .slice (some ⟨g3, 0, none⟩) l.length c3] 26)))
  have hs4 : w3.heap.size < (w3.alloc (.cells #[.int .i64 3, .int .i64 0, .slice (some ⟨g3, 0, none⟩) l.length c3] 26)).heap.size := by simp
  clear HROW HA2
  generalize w3.alloc (.cells #[.int .i64 3, .int .i64 0, .slice (some ⟨g3, 0, none⟩) l.length c3] 26) = W4 at *
  clear u2
  refine wp_region_noPanic ?_
  have hBo : w3.heap.size < W4.heap.size := HO4.out.lt
  refine wp_region_picked [(0, true), (1, true), (2, true), (3, true), (4, false), (5, false), (6, false), (7, true)] (fun W' => Holds W' w3.heap.size 26 #[.int .i64 3, .int .i64 0, .slice (some ⟨g3, 0, none⟩) l.length c3] ∧ Holds W' w.heap.size 26 #[.int .i64 3, .int .i64 0, .slice A l.length c]) (by kernel_rfl) (by kernel_rfl) (fun _ _ _ _ _ h => h) ⟨HO4.out, HW4.out⟩ ?_
  iterate 4
    refine Picked.take ?_ (by rfl) (by rfl) ?_ ?_
    rotate_left
    · rintro w' ⟨h1, h2⟩
      have q0 := h1.c (j := 0) rfl
      have q1 := h1.c (j := 1) rfl
      have q2 := h1.c (j := 2) rfl
      have d2 := h2.c (j := 2) rfl
      go_simp
      try with_reducible rfl
    simp only [Act.put, List.getElem_toArray, List.getElem_cons_zero, List.getElem_cons_succ, List.setIfInBounds_toArray, List.set_cons_zero, List.set_cons_succ]
  refine Picked.call 37 #[.slice A l.length c, .int .i64 x] (by rfl) (by rfl) (by go_simp) ?_
  refine (HAD W4.drew hB4.drew).mono ?_
  rintro e w7 ⟨rfl, hB7⟩
  have hB7' : Below W4.heap.size W4 w7 := ((Below.refl _ W4).drew).trans hB7
  have HO7 := HO4.out.below hB7' HO4.out.lt
  have HW7 := HW4.out.below hB7' HW4.out.lt
  refine ⟨_, rfl, ⟨HO7, HW7⟩, ?_⟩
  simp only [Act.put, List.getElem_toArray, List.getElem_cons_zero, List.getElem_cons_succ, List.setIfInBounds_toArray, List.set_cons_zero, List.set_cons_succ]
  have HZ7 := Lib.hid (HZ4.out.below hB7' HZ4.out.lt)
  have HR7 := Lib.hid (HR4.out.below hB7' HR4.out.lt)
  have HV7 := Lib.hid (row_below HV4.out hB7')
  have hBw7 := nxt hB4 hB7' hB4.size
  have z0 := HZ7.out.c (j := 0) rfl
  have z1 := HZ7.out.c (j := 1) rfl
  have z2 := HZ7.out.c (j := 2) rfl
  have r0 := HR7.out.c (j := 0) rfl
  have r1 := HR7.out.c (j := 1) rfl
  have a0 := HZ7.out.frozen 0
  have a1 := HZ7.out.frozen 1
  have a2 := HZ7.out.frozen 2
  have b0 := HR7.out.frozen 0
  have b1 := HR7.out.frozen 1
  refine ⟨_, by rfl, by rfl, ?_⟩
  go_simp
  refine ⟨⟨set3_plain HO7 (by omega), set3_plain HW7 (by omega)⟩, ?_⟩
  refine ⟨_, by rfl, by rfl, ?_⟩
  go_simp
  refine ⟨⟨set5_plain HO7 (by omega) (by omega), set5_plain HW7 (by omega) (by omega)⟩, ?_⟩
  refine Picked.take (.int .i64 0) (by rfl) (by rfl) (fun w' _ => by go_simp) ?_
  simp only [Act.put, List.getElem_toArray, List.getElem_cons_zero, List.getElem_cons_succ, List.setIfInBounds_toArray, List.set_cons_zero, List.set_cons_succ]
  refine NoPanic.normal ?_
  obtain ⟨HZ8, HR8, hB8⟩ := filled_holds (m := w.heap.size) HZ7.out HR7.out (by omega) 3 0 (.slice (some ⟨g3, 0, none⟩) l.length c3) hk hv
  have HV8 := row_mid (W' := filled w7 (w.heap.size + 1) 3 0 (.slice (some ⟨g3, 0, none⟩) l.length c3) hk hv) HV7.out (fun B hB _ => filled_far _ _ _ _ _ _ _ B (by omega))
  have k0 := HZ8.c (j := 0) rfl
  have k1 := HZ8.c (j := 1) rfl
  have k2 := HZ8.c (j := 2) rfl
  have q0 := HR8.c (j := 0) rfl
  have q1 := HR8.c (j := 1) rfl
  change Exit.then _ _ _ _ (filled w7 (w.heap.size + 1) 3 0 (.slice (some ⟨g3, 0, none⟩) l.length c3) hk hv)
  generalize filled w7 (w.heap.size + 1) 3 0 (.slice (some ⟨g3, 0, none⟩) l.length c3) hk hv = W8 at *
  go_wp2
  refine bodyPost_ret (v := .tuple #[stV 3 0 (some ⟨g3, 0, none⟩) l.length c3, retV hk hv, .int .i64 0]) (by simp [results, Try.f21, go_sem, stV, retV, k0, k1, k2, q0, q1]) rfl ?_
  exact ⟨some ⟨g3, 0, none⟩, c3, rfl, row_more HV8 (by omega), nxt hBw7 hB8 (Nat.le_refl _)⟩
end Go.Proofs.Ytdanihadkchbbaa
