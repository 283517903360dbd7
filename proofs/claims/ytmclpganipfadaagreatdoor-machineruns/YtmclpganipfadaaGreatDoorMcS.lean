/- The document's Type and Apply. (Written by wip/tools/gen_mcs.py.) -/
import Derived.Test.YtmclpganipfadaaGreatDoorMcR
import Derived.Test.YtmclpganipfadaaGreatDoorMcB
namespace Go.Proofs.YtmclpganipfadaaGreatDoor
open Go.RowKit Go.Maps
set_option linter.unusedVariables false

theorem rmtype_any (kd : Int) (w : World) : Calls Tryz.prog 12 #[.int .i64 kd] w (Says (.tuple #[.int .i64 (typeP kd).1, .int .i64 (typeP kd).2]) w) := by
  unfold typeP
  by_cases h : kd < 1 ∨ 15 < kd
  · rw [if_pos h]
    by_cases h1 : kd < 1
    · have d1 : decide (kd < 1) = true := decide_eq_true h1
      clear h
      go_enter Tryz.func12, Tryz.ntmps12
      go_wp2
      go_ret2
      exact ⟨rfl, Below.refl _ _⟩
    · have d1 : decide (kd < 1) = false := decide_eq_false h1
      have d2 : decide (15 < kd) = true := decide_eq_true (by omega)
      clear h
      go_enter Tryz.func12, Tryz.ntmps12
      go_wp2
      go_ret2
      exact ⟨rfl, Below.refl _ _⟩
  · rw [if_neg h]
    obtain ⟨k, rfl⟩ : ∃ k : Nat, kd = (k : Int) := ⟨kd.toNat, by omega⟩
    rw [Int.toNat_natCast]
    obtain rfl | rfl | rfl | rfl | rfl | rfl | rfl | rfl | rfl | rfl | rfl | rfl | rfl | rfl | rfl : k = 1 ∨ k = 2 ∨ k = 3 ∨ k = 4 ∨ k = 5 ∨ k = 6 ∨ k = 7 ∨ k = 8 ∨ k = 9 ∨ k = 10 ∨ k = 11 ∨ k = 12 ∨ k = 13 ∨ k = 14 ∨ k = 15 := by omega
    all_goals
      clear h
      go_enter Tryz.func12, Tryz.ntmps12
      go_wp2
      go_ret2
      exact ⟨rfl, Below.refl _ _⟩

theorem rowT_filled {w : World} {Z : Nat} {z r : Array Value} {A : Option Addr} {l : List Int} (h : RowT w A l) (HZ : Holds w Z 24 z) (HR : Holds w (Z + 1) 26 r) (t n : Int) (v : Value) (k q : Int) : RowT (filled w Z t n v k q) A l :=
  h.of fun b cs fr hb => by
    have n0 : b ≠ Z := fun e => by subst e; rw [show w.heap[b]? = _ from HZ] at hb; simp at hb
    have n1 : b ≠ Z + 1 := fun e => by subst e; rw [show w.heap[Z + 1]? = _ from HR] at hb; simp at hb
    have e0 : ∀ (W : World) off u, (W.setCell ⟨Z, off, none⟩ u).heap[b]? = W.heap[b]? := fun W off u => Below.heap_setCell _ _ _ _ n0
    have e1 : ∀ (W : World) off u, (W.setCell ⟨Z + 1, off, none⟩ u).heap[b]? = W.heap[b]? := fun W off u => Below.heap_setCell _ _ _ _ n1
    exact (((((e1 _ _ _).trans (e1 _ _ _)).trans (e0 _ _ _)).trans (e0 _ _ _)).trans (e0 _ _ _))

set_option maxRecDepth 100000 in
set_option maxHeartbeats 1000000 in
theorem rmapply_none (t n : Int) (A : Option Addr) (c : Nat) (l : List Int) (kd a b : Int) (w : World) (h : t < 1 ∨ 5 < t) :
    Calls Tryz.prog 8 #[stV t n A l.length c, .int .i64 kd, .int .i64 a, .int .i64 b] w (RPost (noA 8) w) := by
  have hB0 := boxed3_below w t n A l.length c
  have h1 : (t == 1) = false := by simp; omega
  have h2 : (t == 2) = false := by simp; omega
  have h3 : (t == 3) = false := by simp; omega
  have h4 : (t == 4) = false := by simp; omega
  have h5 : (t == 5) = false := by simp; omega
  clear h
  unfold stV
  go_enter Tryz.func8, Tryz.ntmps8
  go_wp2
  refine bodyPost_ret (v := ansV 0 0 0 0 8) (by simp [results, Tryz.f8, go_sem, ansV, stV, retV]) rfl ?_
  exact rp_says rfl ⟨rfl, hB0⟩
set_option maxRecDepth 100000 in
set_option maxHeartbeats 1000000 in
theorem rmapply_cnt (n : Int) (A : Option Addr) (c : Nat) (l : List Int) (kd a b : Int) (w : World) (hA : Ints w A l) (hlen : l.length ≤ 800) :
    Calls Tryz.prog 8 #[stV 1 n A l.length c, .int .i64 kd, .int .i64 a, .int .i64 b] w (RPost (cntA n l kd a b) w) := by
  have hB0 := boxed3_below w 1 n A l.length c
  have H := rmcnt_any n A c l kd a b _ (hA.below hB0) hlen
  have HZ := Lib.hid (boxed3_then w 1 n A l.length c)
  have HR := Lib.hid (boxed3_ret w 1 n A l.length c)
  have hsz := boxed3_size w 1 n A l.length c
  generalize cntA n l kd a b = p at *
  clear hA
  obtain ⟨pt, pn, pl, pk, pr, pe⟩ := p
  unfold RPost at *
  dsimp only at *
  unfold stV retV at *
  go_enter Tryz.func8, Tryz.ntmps8
  go_wp2_with fail
  refine H.mono ?_
  rintro e w3 ⟨A3, c3, rfl, ho3, hB3⟩
  generalize boxed3 w 1 n A l.length c = W0 at *
  have HZ3 := HZ.out.below hB3 (by omega)
  have HR3 := HR.out.below hB3 (by omega)
  have hBw3 := nxt hB0 hB3 hB0.size
  have z0 := HZ3.c (j := 0) rfl
  have z1 := HZ3.c (j := 1) rfl
  have z2 := HZ3.c (j := 2) rfl
  have r0 := HR3.c (j := 0) rfl
  have r1 := HR3.c (j := 1) rfl
  have y0 := HZ3.frozen 0
  have y1 := HZ3.frozen 1
  have y2 := HZ3.frozen 2
  have x0 := HR3.frozen 0
  have x1 := HR3.frozen 1
  have HRow := Lib.hid ho3
  have HB := Lib.hid hBw3
  clear hB3 ho3 H
  go_wp2
  obtain ⟨HZ4, HR4, hB4⟩ := filled_holds (m := w.heap.size) HZ3 HR3 (by omega) pt pn (.slice A3 pl.length c3) pk pr
  have ho4 := rowT_filled HRow.out HZ3 HR3 pt pn (.slice A3 pl.length c3) pk pr
  have k0 := HZ4.c (j := 0) rfl
  have k1 := HZ4.c (j := 1) rfl
  have k2 := HZ4.c (j := 2) rfl
  have q0 := HR4.c (j := 0) rfl
  have q1 := HR4.c (j := 1) rfl
  change bodyPost _ _ _ _ _ (filled w3 (w.heap.size + 1) pt pn (.slice A3 pl.length c3) pk pr)
  generalize filled w3 (w.heap.size + 1) pt pn (.slice A3 pl.length c3) pk pr = W4 at *
  refine bodyPost_ret (v := .tuple #[.agg #[.int .i64 pt, .int .i64 pn, .slice A3 pl.length c3], .agg #[.int .i64 pk, .int .i64 pr], .int .i64 pe]) (by simp [results, Tryz.f8, go_sem, k0, k1, k2, q0, q1]) rfl ?_
  exact ⟨_, c3, rfl, ho4, nxt HB.out hB4 (Nat.le_refl _)⟩
set_option maxRecDepth 100000 in
set_option maxHeartbeats 1000000 in
theorem rmapply_set (n : Int) (A : Option Addr) (c : Nat) (l : List Int) (kd a b : Int) (w : World) (hA : Ints w A l) (hlen : l.length ≤ 800) :
    Calls Tryz.prog 8 #[stV 2 n A l.length c, .int .i64 kd, .int .i64 a, .int .i64 b] w (RPost (setA n l kd a b) w) := by
  have hB0 := boxed3_below w 2 n A l.length c
  have H := rmset_any n A c l kd a b _ (hA.below hB0) hlen
  have HZ := Lib.hid (boxed3_then w 2 n A l.length c)
  have HR := Lib.hid (boxed3_ret w 2 n A l.length c)
  have hsz := boxed3_size w 2 n A l.length c
  generalize setA n l kd a b = p at *
  clear hA
  obtain ⟨pt, pn, pl, pk, pr, pe⟩ := p
  unfold RPost at *
  dsimp only at *
  unfold stV retV at *
  go_enter Tryz.func8, Tryz.ntmps8
  go_wp2_with fail
  refine H.mono ?_
  rintro e w3 ⟨A3, c3, rfl, ho3, hB3⟩
  generalize boxed3 w 2 n A l.length c = W0 at *
  have HZ3 := HZ.out.below hB3 (by omega)
  have HR3 := HR.out.below hB3 (by omega)
  have hBw3 := nxt hB0 hB3 hB0.size
  have z0 := HZ3.c (j := 0) rfl
  have z1 := HZ3.c (j := 1) rfl
  have z2 := HZ3.c (j := 2) rfl
  have r0 := HR3.c (j := 0) rfl
  have r1 := HR3.c (j := 1) rfl
  have y0 := HZ3.frozen 0
  have y1 := HZ3.frozen 1
  have y2 := HZ3.frozen 2
  have x0 := HR3.frozen 0
  have x1 := HR3.frozen 1
  have HRow := Lib.hid ho3
  have HB := Lib.hid hBw3
  clear hB3 ho3 H
  go_wp2
  obtain ⟨HZ4, HR4, hB4⟩ := filled_holds (m := w.heap.size) HZ3 HR3 (by omega) pt pn (.slice A3 pl.length c3) pk pr
  have ho4 := rowT_filled HRow.out HZ3 HR3 pt pn (.slice A3 pl.length c3) pk pr
  have k0 := HZ4.c (j := 0) rfl
  have k1 := HZ4.c (j := 1) rfl
  have k2 := HZ4.c (j := 2) rfl
  have q0 := HR4.c (j := 0) rfl
  have q1 := HR4.c (j := 1) rfl
  change bodyPost _ _ _ _ _ (filled w3 (w.heap.size + 1) pt pn (.slice A3 pl.length c3) pk pr)
  generalize filled w3 (w.heap.size + 1) pt pn (.slice A3 pl.length c3) pk pr = W4 at *
  refine bodyPost_ret (v := .tuple #[.agg #[.int .i64 pt, .int .i64 pn, .slice A3 pl.length c3], .agg #[.int .i64 pk, .int .i64 pr], .int .i64 pe]) (by simp [results, Tryz.f8, go_sem, k0, k1, k2, q0, q1]) rfl ?_
  exact ⟨_, c3, rfl, ho4, nxt HB.out hB4 (Nat.le_refl _)⟩
set_option maxRecDepth 100000 in
set_option maxHeartbeats 1000000 in
theorem rmapply_map (n : Int) (A : Option Addr) (c : Nat) (l : List Int) (kd a b : Int) (w : World) (hA : Ints w A l) (hlen : l.length ≤ 800) :
    Calls Tryz.prog 8 #[stV 3 n A l.length c, .int .i64 kd, .int .i64 a, .int .i64 b] w (RPost (mapA n l kd a b) w) := by
  have hB0 := boxed3_below w 3 n A l.length c
  have H := rmmap_any n A c l kd a b _ (hA.below hB0) hlen
  have HZ := Lib.hid (boxed3_then w 3 n A l.length c)
  have HR := Lib.hid (boxed3_ret w 3 n A l.length c)
  have hsz := boxed3_size w 3 n A l.length c
  generalize mapA n l kd a b = p at *
  clear hA
  obtain ⟨pt, pn, pl, pk, pr, pe⟩ := p
  unfold RPost at *
  dsimp only at *
  unfold stV retV at *
  go_enter Tryz.func8, Tryz.ntmps8
  go_wp2_with fail
  refine H.mono ?_
  rintro e w3 ⟨A3, c3, rfl, ho3, hB3⟩
  generalize boxed3 w 3 n A l.length c = W0 at *
  have HZ3 := HZ.out.below hB3 (by omega)
  have HR3 := HR.out.below hB3 (by omega)
  have hBw3 := nxt hB0 hB3 hB0.size
  have z0 := HZ3.c (j := 0) rfl
  have z1 := HZ3.c (j := 1) rfl
  have z2 := HZ3.c (j := 2) rfl
  have r0 := HR3.c (j := 0) rfl
  have r1 := HR3.c (j := 1) rfl
  have y0 := HZ3.frozen 0
  have y1 := HZ3.frozen 1
  have y2 := HZ3.frozen 2
  have x0 := HR3.frozen 0
  have x1 := HR3.frozen 1
  have HRow := Lib.hid ho3
  have HB := Lib.hid hBw3
  clear hB3 ho3 H
  go_wp2
  obtain ⟨HZ4, HR4, hB4⟩ := filled_holds (m := w.heap.size) HZ3 HR3 (by omega) pt pn (.slice A3 pl.length c3) pk pr
  have ho4 := rowT_filled HRow.out HZ3 HR3 pt pn (.slice A3 pl.length c3) pk pr
  have k0 := HZ4.c (j := 0) rfl
  have k1 := HZ4.c (j := 1) rfl
  have k2 := HZ4.c (j := 2) rfl
  have q0 := HR4.c (j := 0) rfl
  have q1 := HR4.c (j := 1) rfl
  change bodyPost _ _ _ _ _ (filled w3 (w.heap.size + 1) pt pn (.slice A3 pl.length c3) pk pr)
  generalize filled w3 (w.heap.size + 1) pt pn (.slice A3 pl.length c3) pk pr = W4 at *
  refine bodyPost_ret (v := .tuple #[.agg #[.int .i64 pt, .int .i64 pn, .slice A3 pl.length c3], .agg #[.int .i64 pk, .int .i64 pr], .int .i64 pe]) (by simp [results, Tryz.f8, go_sem, k0, k1, k2, q0, q1]) rfl ?_
  exact ⟨_, c3, rfl, ho4, nxt HB.out hB4 (Nat.le_refl _)⟩
set_option maxRecDepth 100000 in
set_option maxHeartbeats 1000000 in
theorem rmapply_fif (n : Int) (A : Option Addr) (c : Nat) (l : List Int) (kd a b : Int) (w : World) (hA : Ints w A l) (hlen : l.length ≤ 800) :
    Calls Tryz.prog 8 #[stV 4 n A l.length c, .int .i64 kd, .int .i64 a, .int .i64 b] w (RPost (fifA n l kd a b) w) := by
  have hB0 := boxed3_below w 4 n A l.length c
  have H := rmfif_any n A c l kd a b _ (hA.below hB0) hlen
  have HZ := Lib.hid (boxed3_then w 4 n A l.length c)
  have HR := Lib.hid (boxed3_ret w 4 n A l.length c)
  have hsz := boxed3_size w 4 n A l.length c
  generalize fifA n l kd a b = p at *
  clear hA
  obtain ⟨pt, pn, pl, pk, pr, pe⟩ := p
  unfold RPost at *
  dsimp only at *
  unfold stV retV at *
  go_enter Tryz.func8, Tryz.ntmps8
  go_wp2_with fail
  refine H.mono ?_
  rintro e w3 ⟨A3, c3, rfl, ho3, hB3⟩
  generalize boxed3 w 4 n A l.length c = W0 at *
  have HZ3 := HZ.out.below hB3 (by omega)
  have HR3 := HR.out.below hB3 (by omega)
  have hBw3 := nxt hB0 hB3 hB0.size
  have z0 := HZ3.c (j := 0) rfl
  have z1 := HZ3.c (j := 1) rfl
  have z2 := HZ3.c (j := 2) rfl
  have r0 := HR3.c (j := 0) rfl
  have r1 := HR3.c (j := 1) rfl
  have y0 := HZ3.frozen 0
  have y1 := HZ3.frozen 1
  have y2 := HZ3.frozen 2
  have x0 := HR3.frozen 0
  have x1 := HR3.frozen 1
  have HRow := Lib.hid ho3
  have HB := Lib.hid hBw3
  clear hB3 ho3 H
  go_wp2
  obtain ⟨HZ4, HR4, hB4⟩ := filled_holds (m := w.heap.size) HZ3 HR3 (by omega) pt pn (.slice A3 pl.length c3) pk pr
  have ho4 := rowT_filled HRow.out HZ3 HR3 pt pn (.slice A3 pl.length c3) pk pr
  have k0 := HZ4.c (j := 0) rfl
  have k1 := HZ4.c (j := 1) rfl
  have k2 := HZ4.c (j := 2) rfl
  have q0 := HR4.c (j := 0) rfl
  have q1 := HR4.c (j := 1) rfl
  change bodyPost _ _ _ _ _ (filled w3 (w.heap.size + 1) pt pn (.slice A3 pl.length c3) pk pr)
  generalize filled w3 (w.heap.size + 1) pt pn (.slice A3 pl.length c3) pk pr = W4 at *
  refine bodyPost_ret (v := .tuple #[.agg #[.int .i64 pt, .int .i64 pn, .slice A3 pl.length c3], .agg #[.int .i64 pk, .int .i64 pr], .int .i64 pe]) (by simp [results, Tryz.f8, go_sem, k0, k1, k2, q0, q1]) rfl ?_
  exact ⟨_, c3, rfl, ho4, nxt HB.out hB4 (Nat.le_refl _)⟩
set_option maxRecDepth 100000 in
set_option maxHeartbeats 1000000 in
theorem rmapply_acc (n : Int) (A : Option Addr) (c : Nat) (l : List Int) (kd a b : Int) (w : World) (hA : Ints w A l) (hlen : l.length ≤ 800) :
    Calls Tryz.prog 8 #[stV 5 n A l.length c, .int .i64 kd, .int .i64 a, .int .i64 b] w (RPost (accA n l kd a b) w) := by
  have hB0 := boxed3_below w 5 n A l.length c
  have H := rmacc_any n A c l kd a b _ (hA.below hB0) hlen
  have HZ := Lib.hid (boxed3_then w 5 n A l.length c)
  have HR := Lib.hid (boxed3_ret w 5 n A l.length c)
  have hsz := boxed3_size w 5 n A l.length c
  generalize accA n l kd a b = p at *
  clear hA
  obtain ⟨pt, pn, pl, pk, pr, pe⟩ := p
  unfold RPost at *
  dsimp only at *
  unfold stV retV at *
  go_enter Tryz.func8, Tryz.ntmps8
  go_wp2_with fail
  refine H.mono ?_
  rintro e w3 ⟨A3, c3, rfl, ho3, hB3⟩
  generalize boxed3 w 5 n A l.length c = W0 at *
  have HZ3 := HZ.out.below hB3 (by omega)
  have HR3 := HR.out.below hB3 (by omega)
  have hBw3 := nxt hB0 hB3 hB0.size
  have z0 := HZ3.c (j := 0) rfl
  have z1 := HZ3.c (j := 1) rfl
  have z2 := HZ3.c (j := 2) rfl
  have r0 := HR3.c (j := 0) rfl
  have r1 := HR3.c (j := 1) rfl
  have y0 := HZ3.frozen 0
  have y1 := HZ3.frozen 1
  have y2 := HZ3.frozen 2
  have x0 := HR3.frozen 0
  have x1 := HR3.frozen 1
  have HRow := Lib.hid ho3
  have HB := Lib.hid hBw3
  clear hB3 ho3 H
  go_wp2
  obtain ⟨HZ4, HR4, hB4⟩ := filled_holds (m := w.heap.size) HZ3 HR3 (by omega) pt pn (.slice A3 pl.length c3) pk pr
  have ho4 := rowT_filled HRow.out HZ3 HR3 pt pn (.slice A3 pl.length c3) pk pr
  have k0 := HZ4.c (j := 0) rfl
  have k1 := HZ4.c (j := 1) rfl
  have k2 := HZ4.c (j := 2) rfl
  have q0 := HR4.c (j := 0) rfl
  have q1 := HR4.c (j := 1) rfl
  change bodyPost _ _ _ _ _ (filled w3 (w.heap.size + 1) pt pn (.slice A3 pl.length c3) pk pr)
  generalize filled w3 (w.heap.size + 1) pt pn (.slice A3 pl.length c3) pk pr = W4 at *
  refine bodyPost_ret (v := .tuple #[.agg #[.int .i64 pt, .int .i64 pn, .slice A3 pl.length c3], .agg #[.int .i64 pk, .int .i64 pr], .int .i64 pe]) (by simp [results, Tryz.f8, go_sem, k0, k1, k2, q0, q1]) rfl ?_
  exact ⟨_, c3, rfl, ho4, nxt HB.out hB4 (Nat.le_refl _)⟩

/-- What the document's Apply tells of any state and operation. -/
theorem rmapply_all (t n : Int) (A : Option Addr) (c : Nat) (l : List Int) (kd a b : Int) (w : World) (hA : Ints w A l) (hlen : l.length ≤ 800) :
    Calls Tryz.prog 8 #[stV t n A l.length c, .int .i64 kd, .int .i64 a, .int .i64 b] w (RPost (mA t n l kd a b) w) := by
  by_cases h : t < 1 ∨ 5 < t
  · have e : mA t n l kd a b = noA 8 := by unfold mA; rw [if_neg (by omega), if_neg (by omega), if_neg (by omega), if_neg (by omega), if_neg (by omega)]
    rw [e]
    exact rmapply_none t n A c l kd a b w h
  · obtain rfl | rfl | rfl | rfl | rfl : t = 1 ∨ t = 2 ∨ t = 3 ∨ t = 4 ∨ t = 5 := by omega
    · exact rmapply_cnt n A c l kd a b w hA hlen
    · exact rmapply_set n A c l kd a b w hA hlen
    · exact rmapply_map n A c l kd a b w hA hlen
    · exact rmapply_fif n A c l kd a b w hA hlen
    · exact rmapply_acc n A c l kd a b w hA hlen
end Go.Proofs.YtmclpganipfadaaGreatDoor
