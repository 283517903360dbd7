/- Contracts of the layer fifo: isQueue, Starts, Drain, Apply. (Written by wip/tools/gen_fig.py.) -/
import Derived.Test.YthnaogdiiflljaaFiF
import Derived.Test.YthnaogdiiflljaaCnA
namespace Go.Proofs.Ythnaogdiiflljaa
open Go.RowKit Go.Maps
set_option linter.unusedVariables false
set_option linter.unusedSimpArgs false

def isQ (t n : Int) : Bool := t == 4 && n == 0
theorem check_queue (n : Int) (l : List Int) : checkE 4 n l = if n = 0 then 0 else 5 := by
  unfold checkE fitsB
  by_cases h : n = 0 <;> simp [h]
set_option maxHeartbeats 1000000 in
theorem isq_any (t n : Int) (A : Option Addr) (c : Nat) (l : List Int) (w : World) (hA : Ints w A l) (hlen : l.length ≤ 1000) :
    Calls Try.prog 26 #[stV t n A l.length c] w (Says (.bool (isQ t n)) w) := by
  have hB0 := alloc1 w (.cells #[.int .i64 t, .int .i64 n, .slice A l.length c] 24)
  by_cases ht : t = 4
  · subst ht
    have HC := check_any 4 n A c l _ (hA.below hB0) hlen
    rw [check_queue] at HC
    by_cases hn : n = 0
    · rw [if_pos hn] at HC
      have hq : isQ 4 n = true := by unfold isQ; simp [hn]
      rw [hq]
      clear hA hn hq
      unfold stV at *
      go_enter Try.func26, Try.ntmps26
      go_wp2_with fail
      refine HC.mono ?_
      rintro e w1 ⟨rfl, hB1⟩
      go_wp2
      go_ret
      exact ⟨rfl, onto hB0 hB1⟩
    · rw [if_neg hn] at HC
      have hq : isQ 4 n = false := by unfold isQ; simp [hn]
      rw [hq]
      clear hA hn hq
      unfold stV at *
      go_enter Try.func26, Try.ntmps26
      go_wp2_with fail
      refine HC.mono ?_
      rintro e w1 ⟨rfl, hB1⟩
      go_wp2
      go_ret
      exact ⟨rfl, onto hB0 hB1⟩
  · have h1 : (t == 4) = false := by simp [ht]
    have hq : isQ t n = false := by unfold isQ; rw [h1]; rfl
    rw [hq]
    clear hA hq ht
    unfold stV at *
    go_enter Try.func26, Try.ntmps26
    go_wp2
    go_ret
    exact ⟨rfl, hB0⟩

/-- Do these begin with those? -/
def startsB (l m : List Int) : Bool := decide (m.length ≤ l.length) && (l.take m.length == m)
theorem starts_any (A B : Option Addr) (c d : Nat) (l m : List Int) (w : World) (hA : Ints w A l) (hB : Ints w B m) (hc : l.length ≤ c) (hl : l.length ≤ 1000) (hm : m.length ≤ 1000) :
    Calls Try.prog 17 #[.slice A l.length c, .slice B m.length d] w (Says (.bool (startsB l m)) w) := by
  by_cases h : m.length ≤ l.length
  · have HE := equal_any A B c d (l.take m.length) m w (ints_take hA _) hB (by rw [List.length_take]; omega)
    rw [show (l.take m.length).length = m.length by rw [List.length_take]; omega] at HE
    have hs : startsB l m = (l.take m.length == m) := by unfold startsB; rw [decide_eq_true h, Bool.true_and]
    rw [hs]
    generalize (l.take m.length == m) = bb at *
    have g1 : decide ((m.length : Int) ≤ (l.length : Int)) = true := decide_eq_true (by omega)
    have g2 : (m.length : Int) ≤ (c : Int) := by omega
    clear hA hB hs
    generalize l.length = a at *
    generalize m.length = b at *
    cases bb <;>
    · go_enter Try.func17, Try.ntmps17
      go_wp2_with fail
      refine HE.mono ?_
      rintro e w1 ⟨rfl, hB1⟩
      go_wp2
      go_ret
      exact ⟨rfl, hB1⟩
  · have hs : startsB l m = false := by unfold startsB; rw [decide_eq_false h, Bool.false_and]
    have g1 : decide ((m.length : Int) ≤ (l.length : Int)) = false := decide_eq_false (by omega)
    rw [hs]
    clear hA hB hs
    go_enter Try.func17, Try.ntmps17
    go_wp2
    go_ret
    exact ⟨rfl, Below.refl _ _⟩

/-- What Drain tells: a list of its own, and the error. -/
def DrainPost (m : List Int) (er : Int) (w : World) (e : Ending) (w' : World) : Prop :=
  ∃ A c, e = .returned (.tuple #[.slice A m.length c, .int .i64 er]) ∧ w'.ownsRow w.heap.size 3 1 (.slice A m.length c) m.length (intsOf m) ∧ Below w.heap.size w w'
theorem below_ring {w w1 w2 : World} {B : Nat} (h : Below w.heap.size w w1) (hg : w1.grownBy w2 (some B)) (hB : w.heap.size ≤ B) : Below w.heap.size w w2 := h.grown hg h.size (fun k e => by cases e; exact hB)
set_option maxHeartbeats 1000000 in
theorem drainq_no (t n : Int) (A : Option Addr) (c : Nat) (l : List Int) (w : World) (hA : Ints w A l) (hlen : l.length ≤ 1000) (h : isQ t n = false) :
    Calls Try.prog 14 #[stV t n A l.length c] w (DrainPost [] 12 w) := by
  have hB0 := alloc1 w (.cells #[.int .i64 t, .int .i64 n, .slice A l.length c] 24)
  have HC := isq_any t n A c l _ (hA.below hB0) hlen
  rw [h] at HC
  clear hA h
  unfold stV at *
  go_enter Try.func14, Try.ntmps14
  go_wp2_with fail
  refine HC.mono ?_
  rintro e w1 ⟨rfl, hB1⟩
  go_wp2
  refine bodyPost_ret (v := .tuple #[.slice none 0 0, .int .i64 12]) (by simp [results, Try.f14, go_sem]) rfl ?_
  exact ⟨none, 0, rfl, World.ownsRow_nil _ _ _ _, onto hB0 hB1⟩
set_option maxHeartbeats 1000000 in
theorem drainq_yes (A : Option Addr) (c : Nat) (l : List Int) (w : World) (hA : Ints w A l) (hlen : l.length ≤ 1000) :
    Calls Try.prog 14 #[stV 4 0 A l.length c] w (DrainPost l 0 w) := by
  have hB0 := alloc1 w (.cells #[.int .i64 4, .int .i64 0, .slice A l.length c] 24)
  have HC := isq_any 4 0 A c l _ (hA.below hB0) hlen
  rw [show isQ 4 0 = true from rfl] at HC
  have HW := Lib.hid (Holds.new w 24 #[.int .i64 4, .int .i64 0, .slice A l.length c])
  have HA := Lib.hid hA
  clear hA
  unfold stV at *
  go_enter Try.func14, Try.ntmps14
  go_wp2_with fail
  refine HC.mono ?_
  rintro e w1 ⟨rfl, hB1⟩
  have hW1 := HW.out.below hB1 HW.out.lt
  have hBw := onto hB0 hB1
  have s2 := hW1.c (j := 2) rfl
  have HH := hold_any A c l w1 (HA.out.below hBw) hlen
  unfold HoldPost at HH
  go_wp2_with fail
  refine HH.mono ?_
  rintro e w2 ⟨B, g, rfl, hR2, hB2⟩
  have HL := list_any w1.heap.size B g l 0 l w2 hR2 (by omega)
  unfold ListPost at HL
  have hown := hR2.own
  have hsz := hBw.size
  go_wp2_with fail
  refine HL.mono ?_
  rintro e w3 ⟨A3, c3, rfl, ho3, hg3⟩
  have HO := Lib.hid ho3
  clear ho3 HL HH
  generalize hln : l.length = n at *
  have HLN := Lib.hid hln
  clear hln
  go_wp2
  refine bodyPost_ret (v := .tuple #[.slice A3 n c3, .int .i64 0]) (by simp [results, Try.f14, go_sem]) rfl ?_
  have hB12 := onto hBw hB2
  refine ⟨A3, c3, by rw [HLN.out], by rw [HLN.out]; exact row_more HO.out hB12.size, below_ring hB12 hg3 (by omega)⟩

set_option maxHeartbeats 1000000 in
theorem fapply_no (t n : Int) (A : Option Addr) (c : Nat) (l : List Int) (kd a b : Int) (w : World) (hA : Ints w A l) (hlen : l.length ≤ 1000) (hq : isQ t n = false) :
    Calls Try.prog 10 #[stV t n A l.length c, .int .i64 kd, .int .i64 a, .int .i64 b] w (SetPost 0 [] 0 0 12 w) := by
  have hB0 := boxed3_below w t n A l.length c
  have H := isq_any t n A c l _ (hA.below hB0) hlen
  rw [hq] at H
  have HZ := Lib.hid (boxed3_then w t n A l.length c)
  have HR := Lib.hid (boxed3_ret w t n A l.length c)
  have hsz := boxed3_size w t n A l.length c
  clear hA hq
  unfold stV at *
  go_enter Try.func10, Try.ntmps10
  go_wp2_with fail
  refine H.mono ?_
  rintro e w1 ⟨rfl, hB1⟩
  generalize boxed3 w t n A l.length c = W0 at *
  have HZ1 := Lib.hid (HZ.out.below hB1 (by omega))
  have HR1 := Lib.hid (HR.out.below hB1 (by omega))
  have z0 := HZ1.out.c (j := 0) rfl
  have z1 := HZ1.out.c (j := 1) rfl
  have z2 := HZ1.out.c (j := 2) rfl
  have r0 := HR1.out.c (j := 0) rfl
  have r1 := HR1.out.c (j := 1) rfl
  have y0 := HZ1.out.frozen 0
  have y1 := HZ1.out.frozen 1
  have y2 := HZ1.out.frozen 2
  have x0 := HR1.out.frozen 0
  have x1 := HR1.out.frozen 1
  have hBw := nxt hB0 hB1 (by omega)
  clear hsz
  go_wp2
  obtain ⟨HZ2, HR2, hB2⟩ := filled_holds (m := w.heap.size) HZ1.out HR1.out (by omega) 0 0 (.slice none 0 0) 0 0
  have k0 := HZ2.c (j := 0) rfl
  have k1 := HZ2.c (j := 1) rfl
  have k2 := HZ2.c (j := 2) rfl
  have q0 := HR2.c (j := 0) rfl
  have q1 := HR2.c (j := 1) rfl
  change bodyPost _ _ _ _ _ (filled w1 (w.heap.size + 1) 0 0 (.slice none 0 0) 0 0)
  generalize filled w1 (w.heap.size + 1) 0 0 (.slice none 0 0) 0 0 = W2 at *
  refine bodyPost_ret (v := ansV 0 0 0 0 12) (by simp [results, Try.f10, go_sem, ansV, stV, retV, k0, k1, k2, q0, q1]) rfl ?_
  exact set_none _ _ _ (nxt hBw hB2 (Nat.le_refl _))
set_option maxHeartbeats 1000000 in
theorem fapply_word (A : Option Addr) (c : Nat) (l : List Int) (kd a b : Int) (w : World) (hA : Ints w A l) (hlen : l.length ≤ 1000) (h : kd < 10) :
    Calls Try.prog 10 #[stV 4 0 A l.length c, .int .i64 kd, .int .i64 a, .int .i64 b] w (SetPost 0 [] 0 0 6 w) := by
  have hB0 := boxed3_below w 4 0 A l.length c
  have H := isq_any 4 0 A c l _ (hA.below hB0) hlen
  have hq : isQ 4 0 = true := rfl
  rw [hq] at H
  have d1 : decide (kd < 10) = true := decide_eq_true h
  have HZ := Lib.hid (boxed3_then w 4 0 A l.length c)
  have HR := Lib.hid (boxed3_ret w 4 0 A l.length c)
  have hsz := boxed3_size w 4 0 A l.length c
  clear hA hq
  unfold stV at *
  go_enter Try.func10, Try.ntmps10
  go_wp2_with fail
  refine H.mono ?_
  rintro e w1 ⟨rfl, hB1⟩
  generalize boxed3 w 4 0 A l.length c = W0 at *
  have HZ1 := Lib.hid (HZ.out.below hB1 (by omega))
  have HR1 := Lib.hid (HR.out.below hB1 (by omega))
  have z0 := HZ1.out.c (j := 0) rfl
  have z1 := HZ1.out.c (j := 1) rfl
  have z2 := HZ1.out.c (j := 2) rfl
  have r0 := HR1.out.c (j := 0) rfl
  have r1 := HR1.out.c (j := 1) rfl
  have y0 := HZ1.out.frozen 0
  have y1 := HZ1.out.frozen 1
  have y2 := HZ1.out.frozen 2
  have x0 := HR1.out.frozen 0
  have x1 := HR1.out.frozen 1
  have hBw := nxt hB0 hB1 (by omega)
  clear hsz
  go_wp2
  obtain ⟨HZ2, HR2, hB2⟩ := filled_holds (m := w.heap.size) HZ1.out HR1.out (by omega) 0 0 (.slice none 0 0) 0 0
  have k0 := HZ2.c (j := 0) rfl
  have k1 := HZ2.c (j := 1) rfl
  have k2 := HZ2.c (j := 2) rfl
  have q0 := HR2.c (j := 0) rfl
  have q1 := HR2.c (j := 1) rfl
  change bodyPost _ _ _ _ _ (filled w1 (w.heap.size + 1) 0 0 (.slice none 0 0) 0 0)
  generalize filled w1 (w.heap.size + 1) 0 0 (.slice none 0 0) 0 0 = W2 at *
  refine bodyPost_ret (v := ansV 0 0 0 0 6) (by simp [results, Try.f10, go_sem, ansV, stV, retV, k0, k1, k2, q0, q1]) rfl ?_
  exact set_none _ _ _ (nxt hBw hB2 (Nat.le_refl _))
set_option maxHeartbeats 1000000 in
theorem fapply_word2 (A : Option Addr) (c : Nat) (l : List Int) (kd a b : Int) (w : World) (hA : Ints w A l) (hlen : l.length ≤ 1000) (h : 12 < kd) :
    Calls Try.prog 10 #[stV 4 0 A l.length c, .int .i64 kd, .int .i64 a, .int .i64 b] w (SetPost 0 [] 0 0 6 w) := by
  have hB0 := boxed3_below w 4 0 A l.length c
  have H := isq_any 4 0 A c l _ (hA.below hB0) hlen
  have hq : isQ 4 0 = true := rfl
  rw [hq] at H
  have d1 : decide (kd < 10) = false := decide_eq_false (by omega)
  have d2 : decide (12 < kd) = true := decide_eq_true h
  have d3 : decide (kd > 12) = true := decide_eq_true h
  have HZ := Lib.hid (boxed3_then w 4 0 A l.length c)
  have HR := Lib.hid (boxed3_ret w 4 0 A l.length c)
  have hsz := boxed3_size w 4 0 A l.length c
  clear hA hq
  unfold stV at *
  go_enter Try.func10, Try.ntmps10
  go_wp2_with fail
  refine H.mono ?_
  rintro e w1 ⟨rfl, hB1⟩
  generalize boxed3 w 4 0 A l.length c = W0 at *
  have HZ1 := Lib.hid (HZ.out.below hB1 (by omega))
  have HR1 := Lib.hid (HR.out.below hB1 (by omega))
  have z0 := HZ1.out.c (j := 0) rfl
  have z1 := HZ1.out.c (j := 1) rfl
  have z2 := HZ1.out.c (j := 2) rfl
  have r0 := HR1.out.c (j := 0) rfl
  have r1 := HR1.out.c (j := 1) rfl
  have y0 := HZ1.out.frozen 0
  have y1 := HZ1.out.frozen 1
  have y2 := HZ1.out.frozen 2
  have x0 := HR1.out.frozen 0
  have x1 := HR1.out.frozen 1
  have hBw := nxt hB0 hB1 (by omega)
  clear hsz
  go_wp2
  obtain ⟨HZ2, HR2, hB2⟩ := filled_holds (m := w.heap.size) HZ1.out HR1.out (by omega) 0 0 (.slice none 0 0) 0 0
  have k0 := HZ2.c (j := 0) rfl
  have k1 := HZ2.c (j := 1) rfl
  have k2 := HZ2.c (j := 2) rfl
  have q0 := HR2.c (j := 0) rfl
  have q1 := HR2.c (j := 1) rfl
  change bodyPost _ _ _ _ _ (filled w1 (w.heap.size + 1) 0 0 (.slice none 0 0) 0 0)
  generalize filled w1 (w.heap.size + 1) 0 0 (.slice none 0 0) 0 0 = W2 at *
  refine bodyPost_ret (v := ansV 0 0 0 0 6) (by simp [results, Try.f10, go_sem, ansV, stV, retV, k0, k1, k2, q0, q1]) rfl ?_
  exact set_none _ _ _ (nxt hBw hB2 (Nat.le_refl _))
set_option maxHeartbeats 1000000 in
theorem fapply_arg (A : Option Addr) (c : Nat) (l : List Int) (kd a b : Int) (w : World) (hA : Ints w A l) (hlen : l.length ≤ 1000) (h1 : 10 ≤ kd) (h2 : kd ≤ 12) (h : b ≠ 0) :
    Calls Try.prog 10 #[stV 4 0 A l.length c, .int .i64 kd, .int .i64 a, .int .i64 b] w (SetPost 0 [] 0 0 2 w) := by
  have hB0 := boxed3_below w 4 0 A l.length c
  have H := isq_any 4 0 A c l _ (hA.below hB0) hlen
  have hq : isQ 4 0 = true := rfl
  rw [hq] at H
  have d1 : decide (kd < 10) = false := decide_eq_false (by omega)
  have d2 : decide (12 < kd) = false := decide_eq_false (by omega)
  have d3 : decide (kd > 12) = false := decide_eq_false (by omega)
  have d4 : (b != 0) = true := by rw [bne_iff_ne]; exact h
  have HZ := Lib.hid (boxed3_then w 4 0 A l.length c)
  have HR := Lib.hid (boxed3_ret w 4 0 A l.length c)
  have hsz := boxed3_size w 4 0 A l.length c
  clear hA hq
  unfold stV at *
  go_enter Try.func10, Try.ntmps10
  go_wp2_with fail
  refine H.mono ?_
  rintro e w1 ⟨rfl, hB1⟩
  generalize boxed3 w 4 0 A l.length c = W0 at *
  have HZ1 := Lib.hid (HZ.out.below hB1 (by omega))
  have HR1 := Lib.hid (HR.out.below hB1 (by omega))
  have z0 := HZ1.out.c (j := 0) rfl
  have z1 := HZ1.out.c (j := 1) rfl
  have z2 := HZ1.out.c (j := 2) rfl
  have r0 := HR1.out.c (j := 0) rfl
  have r1 := HR1.out.c (j := 1) rfl
  have y0 := HZ1.out.frozen 0
  have y1 := HZ1.out.frozen 1
  have y2 := HZ1.out.frozen 2
  have x0 := HR1.out.frozen 0
  have x1 := HR1.out.frozen 1
  have hBw := nxt hB0 hB1 (by omega)
  clear hsz
  go_wp2
  obtain ⟨HZ2, HR2, hB2⟩ := filled_holds (m := w.heap.size) HZ1.out HR1.out (by omega) 0 0 (.slice none 0 0) 0 0
  have k0 := HZ2.c (j := 0) rfl
  have k1 := HZ2.c (j := 1) rfl
  have k2 := HZ2.c (j := 2) rfl
  have q0 := HR2.c (j := 0) rfl
  have q1 := HR2.c (j := 1) rfl
  change bodyPost _ _ _ _ _ (filled w1 (w.heap.size + 1) 0 0 (.slice none 0 0) 0 0)
  generalize filled w1 (w.heap.size + 1) 0 0 (.slice none 0 0) 0 0 = W2 at *
  refine bodyPost_ret (v := ansV 0 0 0 0 2) (by simp [results, Try.f10, go_sem, ansV, stV, retV, k0, k1, k2, q0, q1]) rfl ?_
  exact set_none _ _ _ (nxt hBw hB2 (Nat.le_refl _))
set_option maxHeartbeats 1000000 in
theorem fapply_arg2 (A : Option Addr) (c : Nat) (l : List Int) (kd a b : Int) (w : World) (hA : Ints w A l) (hlen : l.length ≤ 1000) (h1 : 11 ≤ kd) (h2 : kd ≤ 12) (h : a ≠ 0) (hb : b = 0) :
    Calls Try.prog 10 #[stV 4 0 A l.length c, .int .i64 kd, .int .i64 a, .int .i64 b] w (SetPost 0 [] 0 0 2 w) := by
  have hB0 := boxed3_below w 4 0 A l.length c
  have H := isq_any 4 0 A c l _ (hA.below hB0) hlen
  have hq : isQ 4 0 = true := rfl
  rw [hq] at H
  have d1 : decide (kd < 10) = false := decide_eq_false (by omega)
  have d2 : decide (12 < kd) = false := decide_eq_false (by omega)
  have d3 : decide (kd > 12) = false := decide_eq_false (by omega)
  have d4 : (b != 0) = false := by rw [hb]; rfl
  have d5 : (kd != 10) = true := by rw [bne_iff_ne]; omega
  have d6 : (a != 0) = true := by rw [bne_iff_ne]; exact h
  clear hb
  have HZ := Lib.hid (boxed3_then w 4 0 A l.length c)
  have HR := Lib.hid (boxed3_ret w 4 0 A l.length c)
  have hsz := boxed3_size w 4 0 A l.length c
  clear hA hq
  unfold stV at *
  go_enter Try.func10, Try.ntmps10
  go_wp2_with fail
  refine H.mono ?_
  rintro e w1 ⟨rfl, hB1⟩
  generalize boxed3 w 4 0 A l.length c = W0 at *
  have HZ1 := Lib.hid (HZ.out.below hB1 (by omega))
  have HR1 := Lib.hid (HR.out.below hB1 (by omega))
  have z0 := HZ1.out.c (j := 0) rfl
  have z1 := HZ1.out.c (j := 1) rfl
  have z2 := HZ1.out.c (j := 2) rfl
  have r0 := HR1.out.c (j := 0) rfl
  have r1 := HR1.out.c (j := 1) rfl
  have y0 := HZ1.out.frozen 0
  have y1 := HZ1.out.frozen 1
  have y2 := HZ1.out.frozen 2
  have x0 := HR1.out.frozen 0
  have x1 := HR1.out.frozen 1
  have hBw := nxt hB0 hB1 (by omega)
  clear hsz
  go_wp2
  obtain ⟨HZ2, HR2, hB2⟩ := filled_holds (m := w.heap.size) HZ1.out HR1.out (by omega) 0 0 (.slice none 0 0) 0 0
  have k0 := HZ2.c (j := 0) rfl
  have k1 := HZ2.c (j := 1) rfl
  have k2 := HZ2.c (j := 2) rfl
  have q0 := HR2.c (j := 0) rfl
  have q1 := HR2.c (j := 1) rfl
  change bodyPost _ _ _ _ _ (filled w1 (w.heap.size + 1) 0 0 (.slice none 0 0) 0 0)
  generalize filled w1 (w.heap.size + 1) 0 0 (.slice none 0 0) 0 0 = W2 at *
  refine bodyPost_ret (v := ansV 0 0 0 0 2) (by simp [results, Try.f10, go_sem, ansV, stV, retV, k0, k1, k2, q0, q1]) rfl ?_
  exact set_none _ _ _ (nxt hBw hB2 (Nat.le_refl _))

theorem set3_drewq {W : World} {B b : Nat} {t : TypeId} {cs : Array Value} {u0 u1 u2 : Value} (h : Holds W B t cs) (hne : B ≠ b) : Holds (((W.setCell ⟨b, 0, none⟩ u0).setCell ⟨b, 1, none⟩ u1).setCell ⟨b, 2, none⟩ u2) B t cs :=
  set_other (set_other (set_other h _ _ hne) _ _ hne) _ _ hne
theorem set5_drewq {W : World} {B b d : Nat} {t : TypeId} {cs : Array Value} {u0 u1 u2 u3 u4 : Value} (h : Holds W B t cs) (hne : B ≠ b) (hnd : B ≠ d) : Holds (((((W.setCell ⟨b, 0, none⟩ u0).setCell ⟨b, 1, none⟩ u1).setCell ⟨b, 2, none⟩ u2).setCell ⟨d, 0, none⟩ u3).setCell ⟨d, 1, none⟩ u4) B t cs :=
  set_other (set_other (set_other (set_other (set_other h _ _ hne) _ _ hne) _ _ hne) _ _ hnd) _ _ hnd
theorem holds_ring {W W' : World} {k B : Nat} {t : TypeId} {cs : Array Value} (h : Holds W k t cs) (hg : W.grownBy W' (some B)) (hne : k ≠ B) : Holds W' k t cs := h.kept hg (fun e => hne (Option.some.inj e))
set_option maxHeartbeats 2000000 in
theorem fapply_with (A : Option Addr) (c : Nat) (l : List Int) (kd a : Int) (w : World) (hA : Ints w A l) (hlen : l.length ≤ 1000) (h1 : 10 ≤ kd) (h2 : kd ≤ 12) (h3 : (kd != 10) = false ∨ (kd != 10) = true ∧ (a != 0) = false)
    (H : ∀ W base B g, Ring base W B g l 0 l → Calls Try.prog 28 #[.pointer (some ⟨B, 0, none⟩), .int .i64 kd, .int .i64 a] W (DoPost base B l kd a W)) :
    Calls Try.prog 10 #[stV 4 0 A l.length c, .int .i64 kd, .int .i64 a, .int .i64 0] w (SetPost 4 (fifoL l kd a) (fifoK l kd) (fifoN l kd) 0 w) := by
  have d1 : decide (kd < 10) = false := decide_eq_false (by omega)
  have d2 : decide (12 < kd) = false := decide_eq_false (by omega)
  have d3 : decide (kd > 12) = false := decide_eq_false (by omega)
  have hB0 := boxed3_below w 4 0 A l.length c
  have HC := isq_any 4 0 A c l _ (hA.below hB0) hlen
  rw [show isQ 4 0 = true from rfl] at HC
  have HW := Lib.hid (boxed3_state w 4 0 A l.length c)
  have HZ := Lib.hid (boxed3_then w 4 0 A l.length c)
  have HR := Lib.hid (boxed3_ret w 4 0 A l.length c)
  have hsz := boxed3_size w 4 0 A l.length c
  have HA := Lib.hid hA
  clear hA
  unfold DoPost at H
  unfold stV retV at *
  generalize fifoL l kd a = m at *
  generalize fifoK l kd = hk at *
  generalize fifoN l kd = hv at *
  rcases h3 with h3 | ⟨h3, h4⟩ <;>
  · go_enter Try.func10, Try.ntmps10
    go_wp2_with fail
    refine HC.mono ?_
    rintro e w1 ⟨rfl, hB1⟩
    generalize boxed3 w 4 0 A l.length c = W0 at *
    have HW1 := Lib.hid (HW.out.below hB1 (by omega))
    have HZ1 := Lib.hid (HZ.out.below hB1 (by omega))
    have HR1 := Lib.hid (HR.out.below hB1 (by omega))
    have hBw := nxt hB0 hB1 (by omega)
    have hlt1 := HR1.out.lt
    have s2 := HW1.out.c (j := 2) rfl
    have HH := hold_any A c l w1 (HA.out.below hBw) hlen
    unfold HoldPost at HH
    clear hsz hB0 hB1
    go_wp2_with fail
    refine HH.mono ?_
    rintro e w2 ⟨B, g, rfl, hR2, hB2⟩
    have HD := H w2 w1.heap.size B g hR2
    have hown := hR2.own
    have HW2 := Lib.hid (HW1.out.below hB2 (by omega))
    have HZ2 := Lib.hid (HZ1.out.below hB2 (by omega))
    have HR2 := Lib.hid (HR1.out.below hB2 (by omega))
    have hBw2 := nxt hBw hB2 hBw.size
    clear hR2 hB2 HH s2
    go_wp2_with fail
    refine HD.mono ?_
    rintro e w3 ⟨rfl, ⟨g3, cs, p, hR3, hcs⟩, hB3⟩
    have HW3 := Lib.hid (HW2.out.below hB3 (by omega))
    have HZ3 := Lib.hid (HZ2.out.below hB3 (by omega))
    have HR3 := Lib.hid (HR2.out.below hB3 (by omega))
    have hs3 := hB3.size
    have hs2 := hBw2.size
    have hBw3 : Below w.heap.size w w3 := hBw2.trans (hB3.mono hBw.size)
    have hBlt := hR3.box.lt
    have hN := Holds.new w3 28 #[.int .i64 hk, .int .i64 hv]
    have hB4 := alloc1 w3 (.cells #[.int .i64 hk, .int .i64 hv] 28)
    have HL := list_any w1.heap.size B g3 cs p m _ ((hR3.below hB4 (Nat.le_refl _)).below ((Below.refl (w3.alloc (.cells #[.int .i64 hk, .int .i64 hv] 28)).heap.size _).drew) (Nat.le_refl _)) hcs
    have HW4 := HW3.out.below hB4 HW3.out.lt
    have HZ4 := Lib.hid (HZ3.out.below hB4 HZ3.out.lt)
    have HR4 := Lib.hid (HR3.out.below hB4 HR3.out.lt)
    have hBw4 := onto hBw3 hB4
    unfold ListPost at HL
    clear hR3 hB3 HD
    go_wp2_with fail
    refine wp_region_noPanic ?_
    generalize w3.alloc (.cells #[.int .i64 hk, .int .i64 hv] 28) = W4 at *
    refine wp_region_picked [(0, true), (1, true), (2, true), (5, true), (3, false), (4, true), (6, false), (7, false), (8, true)] (fun W' => Holds W' w.heap.size 24 #[.int .i64 4, .int .i64 0, .slice A l.length c] ∧ Holds W' w3.heap.size 28 #[.int .i64 hk, .int .i64 hv]) (by kernel_rfl) (by kernel_rfl) (fun _ _ _ _ _ h => h) ⟨HW4, hN⟩ ?_
    iterate 4
      refine Picked.take ?_ (by rfl) (by rfl) ?_ ?_
      rotate_left
      · rintro w' ⟨hw1, hw2⟩
        have c0 := hw1.c (j := 0) rfl
        have d0 := hw2.c (j := 0) rfl
        have d1 := hw2.c (j := 1) rfl
        go_simp
        try with_reducible rfl
      simp only [Act.put, List.getElem_toArray, List.getElem_cons_zero, List.getElem_cons_succ, List.setIfInBounds_toArray, List.set_cons_zero, List.set_cons_succ]
    refine Picked.call 29 #[.pointer (some ⟨B, 0, none⟩)] (by rfl) (by rfl) (by go_simp) ?_
    refine HL.mono ?_
    rintro e w5 ⟨A5, c5, rfl, ho5, hg5⟩
    have hg5' : W4.grownBy w5 (some B) := grown_drew1 hg5
    have HW5 := holds_ring HW4 hg5' (by omega)
    have HN5 := holds_ring hN hg5' (by omega)
    have HZ5 := holds_ring HZ4.out hg5' (by omega)
    have HR5 := holds_ring HR4.out hg5' (by omega)
    have hBw5 := below_ring hBw4 hg5' (by omega)
    have hs5 := hg5'.size
    refine ⟨_, rfl, ⟨HW5, HN5⟩, ?_⟩
    simp only [Act.put, List.getElem_toArray, List.getElem_cons_zero, List.getElem_cons_succ, List.setIfInBounds_toArray, List.set_cons_zero, List.set_cons_succ]
    refine Picked.take ?_ (by rfl) (by rfl) ?_ ?_
    rotate_left
    · rintro w' ⟨hw1, hw2⟩
      go_simp
      try with_reducible rfl
    simp only [Act.put, List.getElem_toArray, List.getElem_cons_zero, List.getElem_cons_succ, List.setIfInBounds_toArray, List.set_cons_zero, List.set_cons_succ]
    have z0 := HZ5.c (j := 0) rfl
    have z1 := HZ5.c (j := 1) rfl
    have z2 := HZ5.c (j := 2) rfl
    have r0 := HR5.c (j := 0) rfl
    have r1 := HR5.c (j := 1) rfl
    have y0 := HZ5.frozen 0
    have y1 := HZ5.frozen 1
    have y2 := HZ5.frozen 2
    have x0 := HR5.frozen 0
    have x1 := HR5.frozen 1
    have hw4 : w.heap.size + 3 ≤ w3.heap.size := by omega
    refine ⟨_, by rfl, by rfl, ?_⟩
    go_simp
    refine ⟨⟨set3_drewq HW5 (by omega), set3_drewq HN5 (by omega)⟩, ?_⟩
    refine ⟨_, by rfl, by rfl, ?_⟩
    go_simp
    refine ⟨⟨set5_drewq HW5 (by omega) (by omega), set5_drewq HN5 (by omega) (by omega)⟩, ?_⟩
    refine Picked.take (.int .i64 0) (by rfl) (by rfl) (fun w' _ => by go_simp) ?_
    simp only [Act.put, List.getElem_toArray, List.getElem_cons_zero, List.getElem_cons_succ, List.setIfInBounds_toArray, List.set_cons_zero, List.set_cons_succ]
    refine NoPanic.normal ?_
    obtain ⟨HZ6, HR6, hB6⟩ := filled_holds (m := w.heap.size) HZ5 HR5 (by omega) 4 0 (.slice A5 m.length c5) hk hv
    have hsW : w.heap.size + 3 ≤ W4.heap.size := by have := hB4.size; omega
    have ho6 := row_mid (W' := filled w5 (w.heap.size + 1) 4 0 (.slice A5 m.length c5) hk hv) ho5 (fun B hB _ => filled_far _ _ _ _ _ _ _ B (by have : W4.heap.size ≤ B := hB; omega))
    change Exit.then _ _ _ _ (filled w5 (w.heap.size + 1) 4 0 (.slice A5 m.length c5) hk hv)
    have k0 := HZ6.c (j := 0) rfl
    have k1 := HZ6.c (j := 1) rfl
    have k2 := HZ6.c (j := 2) rfl
    have q0 := HR6.c (j := 0) rfl
    have q1 := HR6.c (j := 1) rfl
    generalize filled w5 (w.heap.size + 1) 4 0 (.slice A5 m.length c5) hk hv = W6 at *
    go_wp2
    refine bodyPost_ret (v := .tuple #[stV 4 0 A5 m.length c5, retV hk hv, .int .i64 0]) (by simp [results, Try.f10, go_sem, stV, retV, k0, k1, k2, q0, q1]) rfl ?_
    exact ⟨A5, c5, rfl, row_more ho6 (by have : W4.drew.heap.size = W4.heap.size := rfl; omega), nxt hBw5 hB6 (Nat.le_refl _)⟩

theorem fapply_enq (A : Option Addr) (c : Nat) (l : List Int) (x : Int) (w : World) (hA : Ints w A l) (hlen : l.length ≤ 1000) :
    Calls Try.prog 10 #[stV 4 0 A l.length c, .int .i64 10, .int .i64 x, .int .i64 0] w (SetPost 4 (fifoL l 10 x) (fifoK l 10) (fifoN l 10) 0 w) :=
  fapply_with A c l 10 x w hA hlen (by omega) (by omega) (.inl rfl) (fun W base B g h => do_enq base B g l x W h hlen)
theorem fapply_deq (A : Option Addr) (c : Nat) (l : List Int) (w : World) (hA : Ints w A l) (hlen : l.length ≤ 1000) :
    Calls Try.prog 10 #[stV 4 0 A l.length c, .int .i64 11, .int .i64 0, .int .i64 0] w (SetPost 4 (fifoL l 11 0) (fifoK l 11) (fifoN l 11) 0 w) :=
  fapply_with A c l 11 0 w hA hlen (by omega) (by omega) (.inr ⟨rfl, rfl⟩) (fun W base B g h => by
    cases l with
    | nil => exact do_none base B g _ 0 W h (by simp)
    | cons y r => exact do_deq base B g _ 0 y r W h (by omega))
theorem fapply_len (A : Option Addr) (c : Nat) (l : List Int) (w : World) (hA : Ints w A l) (hlen : l.length ≤ 1000) :
    Calls Try.prog 10 #[stV 4 0 A l.length c, .int .i64 12, .int .i64 0, .int .i64 0] w (SetPost 4 (fifoL l 12 0) (fifoK l 12) (fifoN l 12) 0 w) :=
  fapply_with A c l 12 0 w hA hlen (by omega) (by omega) (.inr ⟨rfl, rfl⟩) (fun W base B g h => do_len base B g _ 0 l W h (by omega))
end Go.Proofs.Ythnaogdiiflljaa
