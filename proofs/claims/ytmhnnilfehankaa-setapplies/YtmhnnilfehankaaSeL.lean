/- The document's Apply: its four kinds. (Written by wip/tools/gen_sel.py.) -/
import Derived.Test.YtmhnnilfehankaaSeK
namespace Go.Proofs.Ytmhnnilfehankaa
open Go.RowKit Go.Maps
set_option linter.unusedVariables false

set_option maxHeartbeats 2000000 in
theorem rsapply_insert (A : Option Addr) (c : Nat) (l : List Int) (x : Int) (w : World) (hA : Ints w A l) (hlen : l.length ≤ 900) (hr : Rise l) :
    Calls Try.prog 11 #[stV 2 0 A l.length c, .int .i64 3, .int .i64 x, .int .i64 0] w (SetPost 2 (withL l x) 2 (one (!isIn l x)) 0 w) := by
  have hB0 := boxed3_below w 2 0 A l.length c
  have HC := rcheck_any 2 0 A c l _ (hA.below hB0) (by omega)
  have hc : checkE 2 0 l = 0 := by simp [checkE, fitsB, (rise_iff l).2 hr]
  rw [hc] at HC
  have HFI := fun W (h : Below w.heap.size w W) => rfind_any A c l x W (hA.below h) (by omega)
  have HA := Lib.hid hA
  have HW := Lib.hid (boxed3_state w 2 0 A l.length c)
  have HZ := Lib.hid (boxed3_then w 2 0 A l.length c)
  have HR := Lib.hid (boxed3_ret w 2 0 A l.length c)
  have hsz := boxed3_size w 2 0 A l.length c
  clear hc hA
  unfold stV at *
  unfold foundV at HFI
  go_enter Try.func11, Try.ntmps11
  go_wp2_with fail
  refine HC.mono ?_
  rintro e w1 ⟨rfl, hB1⟩
  generalize boxed3 w 2 0 A l.length c = W0 at *
  have HW1 := Lib.hid (HW.out.below hB1 (by omega))
  have HZ1 := Lib.hid (HZ.out.below hB1 (by omega))
  have HR1 := Lib.hid (HR.out.below hB1 (by omega))
  have hBw := nxt hB0 hB1 (by omega)
  have hlt1 := HR1.out.lt
  have s2 := HW1.out.c (j := 2) rfl
  clear hsz hB0 hB1
  go_wp2_with fail
  refine (HFI w1 hBw).mono ?_
  rintro e w2 ⟨rfl, hB2⟩
  have HW2 := Lib.hid (HW1.out.below hB2 (by omega))
  have HZ2 := Lib.hid (HZ1.out.below hB2 (by omega))
  have HR2 := Lib.hid (HR1.out.below hB2 (by omega))
  have hBw2 := nxt hBw hB2 hBw.size
  have hlt2 := HR2.out.lt
  have t2 := HW2.out.c (j := 2) rfl
  have hrow := World.ownsRow_lit (base := w2.heap.size) (e := 3) (size := 1) w2 #[] 0 (Nat.le_refl _) (Nat.zero_le _) rfl
  have HROW := Lib.hid hrow
  have HA2 := Lib.hid ((HA.out.below hBw2).below (alloc1 w2 (.cells #[] 3)))
  have hs2a : w2.heap.size ≤ (w2.alloc (.cells #[] 3)).heap.size := by simp
  have c2x : (w2.alloc (.cells #[] 3)).cell? ⟨w.heap.size, 2, none⟩ = some (.slice A l.length c) := (HW2.out.alloc _).c (j := 2) rfl
  generalize low l x = lo at *
  generalize hbe : isIn l x = be at *
  have HBE := Lib.hid hbe
  clear hbe hrow s2
  go_wp2_with (first
    | (at_builtin; refine wpList_app _ rfl _ _ 22 rfl w2.heap.size Try.underlying22 _ _ _ rfl HROW.out A l.length c l rfl rfl HA2.out (by omega) (by omega) hs2a ?_; intro v3 w3 hown3 hg3 hn3; obtain ⟨g3, c3, rfl⟩ := form4 hown3 hn3; rw [Nat.zero_add, List.nil_append] at hown3; have hB3 : Below w2.heap.size w2 w3 := (alloc1 w2 _).trans (grown_below hg3 HROW.out hs2a); have HO3 := Lib.hid hown3; have u2 : (w3.alloc (.cells #[.int .i64 2, .int .i64 0, .slice (some ⟨g3, 0, none⟩) l.length c3] 24)).cell? ⟨w.heap.size, 2, none⟩ = some (.slice A l.length c) := ((HW2.out.below hB3 (by omega)).alloc _).c (j := 2) rfl; clear hg3 hn3 c2x t2 hown3))
  have hs3 := hB3.size
  have hBw3 := nxt hBw2 hB3 hBw2.size
  have hB4 := nxt hBw3 (alloc1 w3 (.cells #[.int .i64 2, .int .i64 0, .slice (some ⟨g3, 0, none⟩) l.length c3] 24)) hBw3.size
  have HZ4 := Lib.hid ((HZ2.out.below hB3 (by omega)).alloc (.cells #[.int .i64 2, .int .i64 0, .slice (some ⟨g3, 0, none⟩) l.length c3] 24))
  have HR4 := Lib.hid ((HR2.out.below hB3 (by omega)).alloc (.cells #[.int .i64 2, .int .i64 0, .slice (some ⟨g3, 0, none⟩) l.length c3] 24))
  have HW4 := Lib.hid ((HW2.out.below hB3 (by omega)).alloc (.cells #[.int .i64 2, .int .i64 0, .slice (some ⟨g3, 0, none⟩) l.length c3] 24))
  have HO4 := Lib.hid (Holds.new w3 24 #[.int .i64 2, .int .i64 0, .slice (some ⟨g3, 0, none⟩) l.length c3])
  have HV4 := Lib.hid (row_below HO3.out (alloc1 w3 (.cells #[.int .i64 2, .int .i64 0, .slice (some ⟨g3, 0, none⟩) l.length c3] 24)))
  have hs4 : w3.heap.size < (w3.alloc (.cells #[.int .i64 2, .int .i64 0, .slice (some ⟨g3, 0, none⟩) l.length c3] 24)).heap.size := by simp
  generalize w3.alloc (.cells #[.int .i64 2, .int .i64 0, .slice (some ⟨g3, 0, none⟩) l.length c3] 24) = W4 at *
  have HWI := rwith_any A c l x W4 (HA.out.below hB4) (by omega)
  rw [rwith_eq hr] at HWI
  unfold RowPost at HWI
  refine HWI.mono ?_
  rintro e w5 ⟨B5, d5, rfl, ho5, hB5⟩
  have HO5 := Lib.hid (HO4.out.below hB5 hs4)
  have HZ5 := Lib.hid (HZ4.out.below hB5 HZ4.out.lt)
  have HR5 := Lib.hid (HR4.out.below hB5 HR4.out.lt)
  have hBw5 := nxt hB4 hB5 hB4.size
  have o2 := HO5.out.c (j := 2) rfl
  have p2 := HO5.out.frozen 2
  clear u2
  go_wp2_with fail
  have HO6 := Lib.hid (HO5.out.set 2 (.slice B5 (withL l x).length d5))
  have hO6 := (Only.of (B := w3.heap.size) (Below.refl w5.heap.size w5) (Nat.le_refl _)).set 2 (.slice B5 (withL l x).length d5)
  have HZ6 := Lib.hid (HZ5.out.of (hO6.block _ HZ5.out.lt (by omega)))
  have HR6 := Lib.hid (HR5.out.of (hO6.block _ HR5.out.lt (by omega)))
  have HV6 := Lib.hid (row_mid (W' := w5.setCell ⟨w3.heap.size, 2, none⟩ (.slice B5 (withL l x).length d5)) ho5 (fun B hB hl => hO6.block B hl (by omega)))
  have hBw6 := nxt hBw5 (hO6.below (lo := w.heap.size) (by omega) hBw5.size) (Nat.le_refl _)
  have hs6 := hO6.size
  have hs5 := hB5.size
  clear o2 p2 hO6 ho5
  generalize w5.setCell ⟨w3.heap.size, 2, none⟩ (.slice B5 (withL l x).length d5) = W6 at *
  have hlo6 : w.heap.size + 1 + 1 < W4.heap.size := HR4.out.lt
  have y0 : W6.drew.cell? ⟨w3.heap.size, 0, none⟩ = some (.int .i64 2) := HO6.out.c (j := 0) rfl
  have y1 : W6.drew.cell? ⟨w3.heap.size, 1, none⟩ = some (.int .i64 0) := HO6.out.c (j := 1) rfl
  have y2 : W6.drew.cell? ⟨w3.heap.size, 2, none⟩ = some (.slice B5 (withL l x).length d5) := HO6.out.c (j := 2) rfl
  have hBo : w3.heap.size < W6.heap.size := HO6.out.lt
  refine wp_region_noPanic ?_
  refine wp_region_heads [true, true, true, false] (fun w' => w'.cell? ⟨w3.heap.size, 0, none⟩ = some (.int .i64 2) ∧ w'.cell? ⟨w3.heap.size, 1, none⟩ = some (.int .i64 0) ∧ w'.cell? ⟨w3.heap.size, 2, none⟩ = some (.slice B5 (withL l x).length d5)) (by kernel_rfl) (by kernel_rfl) (fun _ _ _ _ _ h => h) ⟨y0, y1, y2⟩ ?_
  iterate 3
    refine Heads.take ?_ (by rfl) ?_ ?_
    rotate_left
    · intro w' hw'
      obtain ⟨q0, q1, q2⟩ := hw'
      go_simp
      try with_reducible rfl
    simp only [Act.put, List.setIfInBounds_toArray, List.set_cons_zero, List.set_cons_succ]
  refine Heads.call 32 #[.bool (!be)] (by rfl) (by go_simp) ?_
  refine (number_any _ _).mono ?_
  rintro e w7 ⟨rfl, hB7⟩
  have hB7' : Below W6.heap.size W6 w7 := ((Below.refl _ W6).drew).trans hB7
  refine ⟨_, rfl, ⟨(hB7.cell (p := ⟨w3.heap.size, 0, none⟩) hBo).trans y0, (hB7.cell (p := ⟨w3.heap.size, 1, none⟩) hBo).trans y1, (hB7.cell (p := ⟨w3.heap.size, 2, none⟩) hBo).trans y2⟩, ?_⟩
  simp only [Act.put, List.setIfInBounds_toArray, List.set_cons_zero, List.set_cons_succ]
  refine Heads.done ?_
  have HZ7 := Lib.hid (HZ6.out.below hB7' HZ6.out.lt)
  have HR7 := Lib.hid (HR6.out.below hB7' HR6.out.lt)
  have HV7 := Lib.hid (row_below HV6.out hB7')
  have hBw7 := nxt hBw6 hB7' hBw6.size
  have z0 := HZ7.out.c (j := 0) rfl
  have z1 := HZ7.out.c (j := 1) rfl
  have z2 := HZ7.out.c (j := 2) rfl
  have r0 := HR7.out.c (j := 0) rfl
  have r1 := HR7.out.c (j := 1) rfl
  have a0 := HZ7.out.frozen 0
  have a1 := HZ7.out.frozen 1
  have a2 := HZ7.out.frozen 2
  have b0 := HR7.out.frozen 0
  have b1 := HR7.out.frozen 1
  clear y0 y1 y2
  unfold retV
  obtain ⟨rr, hrr⟩ : ∃ rr, one (!be) = rr := ⟨_, rfl⟩
  rw [hrr]
  have HRR := Lib.hid hrr
  clear hrr
  go_wp2_with fail
  refine NoPanic.normal ?_
  obtain ⟨HZ8, HR8, hB8⟩ := filled_holds (m := w.heap.size) HZ7.out HR7.out (by omega) 2 0 (.slice B5 (withL l x).length d5) 2 rr
  have HV8 := row_mid (W' := filled w7 (w.heap.size + 1) 2 0 (.slice B5 (withL l x).length d5) 2 rr) HV7.out (fun B hB _ => filled_far _ _ _ _ _ _ _ B (by omega))
  have k0 := HZ8.c (j := 0) rfl
  have k1 := HZ8.c (j := 1) rfl
  have k2 := HZ8.c (j := 2) rfl
  have q0 := HR8.c (j := 0) rfl
  have q1 := HR8.c (j := 1) rfl
  change Exit.then _ _ _ _ (filled w7 (w.heap.size + 1) 2 0 (.slice B5 (withL l x).length d5) 2 rr)
  generalize filled w7 (w.heap.size + 1) 2 0 (.slice B5 (withL l x).length d5) 2 rr = W8 at *
  go_wp2
  refine bodyPost_ret (v := .tuple #[stV 2 0 B5 (withL l x).length d5, retV 2 rr, .int .i64 0]) (by simp [results, Try.f11, go_sem, stV, retV, k0, k1, k2, q0, q1]) rfl ?_
  rw [HRR.out]
  exact ⟨B5, d5, rfl, row_more HV8 (by omega), nxt hBw7 hB8 (Nat.le_refl _)⟩
set_option maxHeartbeats 2000000 in
theorem rsapply_remove (A : Option Addr) (c : Nat) (l : List Int) (x : Int) (w : World) (hA : Ints w A l) (hlen : l.length ≤ 900) (hr : Rise l) :
    Calls Try.prog 11 #[stV 2 0 A l.length c, .int .i64 4, .int .i64 x, .int .i64 0] w (SetPost 2 (outL l x) 2 (one (isIn l x)) 0 w) := by
  have hB0 := boxed3_below w 2 0 A l.length c
  have HC := rcheck_any 2 0 A c l _ (hA.below hB0) (by omega)
  have hc : checkE 2 0 l = 0 := by simp [checkE, fitsB, (rise_iff l).2 hr]
  rw [hc] at HC
  have HFI := fun W (h : Below w.heap.size w W) => rfind_any A c l x W (hA.below h) (by omega)
  have HA := Lib.hid hA
  have HW := Lib.hid (boxed3_state w 2 0 A l.length c)
  have HZ := Lib.hid (boxed3_then w 2 0 A l.length c)
  have HR := Lib.hid (boxed3_ret w 2 0 A l.length c)
  have hsz := boxed3_size w 2 0 A l.length c
  clear hc hA
  unfold stV at *
  unfold foundV at HFI
  go_enter Try.func11, Try.ntmps11
  go_wp2_with fail
  refine HC.mono ?_
  rintro e w1 ⟨rfl, hB1⟩
  generalize boxed3 w 2 0 A l.length c = W0 at *
  have HW1 := Lib.hid (HW.out.below hB1 (by omega))
  have HZ1 := Lib.hid (HZ.out.below hB1 (by omega))
  have HR1 := Lib.hid (HR.out.below hB1 (by omega))
  have hBw := nxt hB0 hB1 (by omega)
  have hlt1 := HR1.out.lt
  have s2 := HW1.out.c (j := 2) rfl
  clear hsz hB0 hB1
  go_wp2_with fail
  refine (HFI w1 hBw).mono ?_
  rintro e w2 ⟨rfl, hB2⟩
  have HW2 := Lib.hid (HW1.out.below hB2 (by omega))
  have HZ2 := Lib.hid (HZ1.out.below hB2 (by omega))
  have HR2 := Lib.hid (HR1.out.below hB2 (by omega))
  have hBw2 := nxt hBw hB2 hBw.size
  have hlt2 := HR2.out.lt
  have t2 := HW2.out.c (j := 2) rfl
  have hrow := World.ownsRow_lit (base := w2.heap.size) (e := 3) (size := 1) w2 #[] 0 (Nat.le_refl _) (Nat.zero_le _) rfl
  have HROW := Lib.hid hrow
  have HA2 := Lib.hid ((HA.out.below hBw2).below (alloc1 w2 (.cells #[] 3)))
  have hs2a : w2.heap.size ≤ (w2.alloc (.cells #[] 3)).heap.size := by simp
  have c2x : (w2.alloc (.cells #[] 3)).cell? ⟨w.heap.size, 2, none⟩ = some (.slice A l.length c) := (HW2.out.alloc _).c (j := 2) rfl
  generalize low l x = lo at *
  generalize hbe : isIn l x = be at *
  have HBE := Lib.hid hbe
  clear hbe hrow s2
  go_wp2_with (first
    | (at_builtin; refine wpList_app _ rfl _ _ 22 rfl w2.heap.size Try.underlying22 _ _ _ rfl HROW.out A l.length c l rfl rfl HA2.out (by omega) (by omega) hs2a ?_; intro v3 w3 hown3 hg3 hn3; obtain ⟨g3, c3, rfl⟩ := form4 hown3 hn3; rw [Nat.zero_add, List.nil_append] at hown3; have hB3 : Below w2.heap.size w2 w3 := (alloc1 w2 _).trans (grown_below hg3 HROW.out hs2a); have HO3 := Lib.hid hown3; have u2 : (w3.alloc (.cells #[.int .i64 2, .int .i64 0, .slice (some ⟨g3, 0, none⟩) l.length c3] 24)).cell? ⟨w.heap.size, 2, none⟩ = some (.slice A l.length c) := ((HW2.out.below hB3 (by omega)).alloc _).c (j := 2) rfl; clear hg3 hn3 c2x t2 hown3))
  have hs3 := hB3.size
  have hBw3 := nxt hBw2 hB3 hBw2.size
  have hB4 := nxt hBw3 (alloc1 w3 (.cells #[.int .i64 2, .int .i64 0, .slice (some ⟨g3, 0, none⟩) l.length c3] 24)) hBw3.size
  have HZ4 := Lib.hid ((HZ2.out.below hB3 (by omega)).alloc (.cells #[.int .i64 2, .int .i64 0, .slice (some ⟨g3, 0, none⟩) l.length c3] 24))
  have HR4 := Lib.hid ((HR2.out.below hB3 (by omega)).alloc (.cells #[.int .i64 2, .int .i64 0, .slice (some ⟨g3, 0, none⟩) l.length c3] 24))
  have HW4 := Lib.hid ((HW2.out.below hB3 (by omega)).alloc (.cells #[.int .i64 2, .int .i64 0, .slice (some ⟨g3, 0, none⟩) l.length c3] 24))
  have HO4 := Lib.hid (Holds.new w3 24 #[.int .i64 2, .int .i64 0, .slice (some ⟨g3, 0, none⟩) l.length c3])
  have HV4 := Lib.hid (row_below HO3.out (alloc1 w3 (.cells #[.int .i64 2, .int .i64 0, .slice (some ⟨g3, 0, none⟩) l.length c3] 24)))
  have hs4 : w3.heap.size < (w3.alloc (.cells #[.int .i64 2, .int .i64 0, .slice (some ⟨g3, 0, none⟩) l.length c3] 24)).heap.size := by simp
  generalize w3.alloc (.cells #[.int .i64 2, .int .i64 0, .slice (some ⟨g3, 0, none⟩) l.length c3] 24) = W4 at *
  have HWI := rwithout_any A c l x W4 (HA.out.below hB4) (by omega)
  rw [outF_eq hr] at HWI
  unfold RowPost at HWI
  refine HWI.mono ?_
  rintro e w5 ⟨B5, d5, rfl, ho5, hB5⟩
  have HO5 := Lib.hid (HO4.out.below hB5 hs4)
  have HZ5 := Lib.hid (HZ4.out.below hB5 HZ4.out.lt)
  have HR5 := Lib.hid (HR4.out.below hB5 HR4.out.lt)
  have hBw5 := nxt hB4 hB5 hB4.size
  have o2 := HO5.out.c (j := 2) rfl
  have p2 := HO5.out.frozen 2
  clear u2
  go_wp2_with fail
  have HO6 := Lib.hid (HO5.out.set 2 (.slice B5 (outL l x).length d5))
  have hO6 := (Only.of (B := w3.heap.size) (Below.refl w5.heap.size w5) (Nat.le_refl _)).set 2 (.slice B5 (outL l x).length d5)
  have HZ6 := Lib.hid (HZ5.out.of (hO6.block _ HZ5.out.lt (by omega)))
  have HR6 := Lib.hid (HR5.out.of (hO6.block _ HR5.out.lt (by omega)))
  have HV6 := Lib.hid (row_mid (W' := w5.setCell ⟨w3.heap.size, 2, none⟩ (.slice B5 (outL l x).length d5)) ho5 (fun B hB hl => hO6.block B hl (by omega)))
  have hBw6 := nxt hBw5 (hO6.below (lo := w.heap.size) (by omega) hBw5.size) (Nat.le_refl _)
  have hs6 := hO6.size
  have hs5 := hB5.size
  clear o2 p2 hO6 ho5
  generalize w5.setCell ⟨w3.heap.size, 2, none⟩ (.slice B5 (outL l x).length d5) = W6 at *
  have hlo6 : w.heap.size + 1 + 1 < W4.heap.size := HR4.out.lt
  have y0 : W6.drew.cell? ⟨w3.heap.size, 0, none⟩ = some (.int .i64 2) := HO6.out.c (j := 0) rfl
  have y1 : W6.drew.cell? ⟨w3.heap.size, 1, none⟩ = some (.int .i64 0) := HO6.out.c (j := 1) rfl
  have y2 : W6.drew.cell? ⟨w3.heap.size, 2, none⟩ = some (.slice B5 (outL l x).length d5) := HO6.out.c (j := 2) rfl
  have hBo : w3.heap.size < W6.heap.size := HO6.out.lt
  refine wp_region_noPanic ?_
  refine wp_region_heads [true, true, false] (fun w' => w'.cell? ⟨w3.heap.size, 0, none⟩ = some (.int .i64 2) ∧ w'.cell? ⟨w3.heap.size, 1, none⟩ = some (.int .i64 0) ∧ w'.cell? ⟨w3.heap.size, 2, none⟩ = some (.slice B5 (outL l x).length d5)) (by kernel_rfl) (by kernel_rfl) (fun _ _ _ _ _ h => h) ⟨y0, y1, y2⟩ ?_
  iterate 2
    refine Heads.take ?_ (by rfl) ?_ ?_
    rotate_left
    · intro w' hw'
      obtain ⟨q0, q1, q2⟩ := hw'
      go_simp
      try with_reducible rfl
    simp only [Act.put, List.setIfInBounds_toArray, List.set_cons_zero, List.set_cons_succ]
  refine Heads.call 32 #[.bool be] (by rfl) (by go_simp) ?_
  refine (number_any _ _).mono ?_
  rintro e w7 ⟨rfl, hB7⟩
  have hB7' : Below W6.heap.size W6 w7 := ((Below.refl _ W6).drew).trans hB7
  refine ⟨_, rfl, ⟨(hB7.cell (p := ⟨w3.heap.size, 0, none⟩) hBo).trans y0, (hB7.cell (p := ⟨w3.heap.size, 1, none⟩) hBo).trans y1, (hB7.cell (p := ⟨w3.heap.size, 2, none⟩) hBo).trans y2⟩, ?_⟩
  simp only [Act.put, List.setIfInBounds_toArray, List.set_cons_zero, List.set_cons_succ]
  refine Heads.done ?_
  have HZ7 := Lib.hid (HZ6.out.below hB7' HZ6.out.lt)
  have HR7 := Lib.hid (HR6.out.below hB7' HR6.out.lt)
  have HV7 := Lib.hid (row_below HV6.out hB7')
  have hBw7 := nxt hBw6 hB7' hBw6.size
  have z0 := HZ7.out.c (j := 0) rfl
  have z1 := HZ7.out.c (j := 1) rfl
  have z2 := HZ7.out.c (j := 2) rfl
  have r0 := HR7.out.c (j := 0) rfl
  have r1 := HR7.out.c (j := 1) rfl
  have a0 := HZ7.out.frozen 0
  have a1 := HZ7.out.frozen 1
  have a2 := HZ7.out.frozen 2
  have b0 := HR7.out.frozen 0
  have b1 := HR7.out.frozen 1
  clear y0 y1 y2
  unfold retV
  obtain ⟨rr, hrr⟩ : ∃ rr, one be = rr := ⟨_, rfl⟩
  rw [hrr]
  have HRR := Lib.hid hrr
  clear hrr
  go_wp2_with fail
  refine NoPanic.normal ?_
  obtain ⟨HZ8, HR8, hB8⟩ := filled_holds (m := w.heap.size) HZ7.out HR7.out (by omega) 2 0 (.slice B5 (outL l x).length d5) 2 rr
  have HV8 := row_mid (W' := filled w7 (w.heap.size + 1) 2 0 (.slice B5 (outL l x).length d5) 2 rr) HV7.out (fun B hB _ => filled_far _ _ _ _ _ _ _ B (by omega))
  have k0 := HZ8.c (j := 0) rfl
  have k1 := HZ8.c (j := 1) rfl
  have k2 := HZ8.c (j := 2) rfl
  have q0 := HR8.c (j := 0) rfl
  have q1 := HR8.c (j := 1) rfl
  change Exit.then _ _ _ _ (filled w7 (w.heap.size + 1) 2 0 (.slice B5 (outL l x).length d5) 2 rr)
  generalize filled w7 (w.heap.size + 1) 2 0 (.slice B5 (outL l x).length d5) 2 rr = W8 at *
  go_wp2
  refine bodyPost_ret (v := .tuple #[stV 2 0 B5 (outL l x).length d5, retV 2 rr, .int .i64 0]) (by simp [results, Try.f11, go_sem, stV, retV, k0, k1, k2, q0, q1]) rfl ?_
  rw [HRR.out]
  exact ⟨B5, d5, rfl, row_more HV8 (by omega), nxt hBw7 hB8 (Nat.le_refl _)⟩
set_option maxHeartbeats 2000000 in
theorem rsapply_has (A : Option Addr) (c : Nat) (l : List Int) (x : Int) (w : World) (hA : Ints w A l) (hlen : l.length ≤ 900) (hr : Rise l) :
    Calls Try.prog 11 #[stV 2 0 A l.length c, .int .i64 5, .int .i64 x, .int .i64 0] w (SetPost 2 l 2 (one (isIn l x)) 0 w) := by
  have hB0 := boxed3_below w 2 0 A l.length c
  have HC := rcheck_any 2 0 A c l _ (hA.below hB0) (by omega)
  have hc : checkE 2 0 l = 0 := by simp [checkE, fitsB, (rise_iff l).2 hr]
  rw [hc] at HC
  have HFI := fun W (h : Below w.heap.size w W) => rfind_any A c l x W (hA.below h) (by omega)
  have HA := Lib.hid hA
  have HW := Lib.hid (boxed3_state w 2 0 A l.length c)
  have HZ := Lib.hid (boxed3_then w 2 0 A l.length c)
  have HR := Lib.hid (boxed3_ret w 2 0 A l.length c)
  have hsz := boxed3_size w 2 0 A l.length c
  clear hc hA
  unfold stV at *
  unfold foundV at HFI
  go_enter Try.func11, Try.ntmps11
  go_wp2_with fail
  refine HC.mono ?_
  rintro e w1 ⟨rfl, hB1⟩
  generalize boxed3 w 2 0 A l.length c = W0 at *
  have HW1 := Lib.hid (HW.out.below hB1 (by omega))
  have HZ1 := Lib.hid (HZ.out.below hB1 (by omega))
  have HR1 := Lib.hid (HR.out.below hB1 (by omega))
  have hBw := nxt hB0 hB1 (by omega)
  have hlt1 := HR1.out.lt
  have s2 := HW1.out.c (j := 2) rfl
  clear hsz hB0 hB1
  go_wp2_with fail
  refine (HFI w1 hBw).mono ?_
  rintro e w2 ⟨rfl, hB2⟩
  have HW2 := Lib.hid (HW1.out.below hB2 (by omega))
  have HZ2 := Lib.hid (HZ1.out.below hB2 (by omega))
  have HR2 := Lib.hid (HR1.out.below hB2 (by omega))
  have hBw2 := nxt hBw hB2 hBw.size
  have hlt2 := HR2.out.lt
  have t2 := HW2.out.c (j := 2) rfl
  have hrow := World.ownsRow_lit (base := w2.heap.size) (e := 3) (size := 1) w2 #[] 0 (Nat.le_refl _) (Nat.zero_le _) rfl
  have HROW := Lib.hid hrow
  have HA2 := Lib.hid ((HA.out.below hBw2).below (alloc1 w2 (.cells #[] 3)))
  have hs2a : w2.heap.size ≤ (w2.alloc (.cells #[] 3)).heap.size := by simp
  have c2x : (w2.alloc (.cells #[] 3)).cell? ⟨w.heap.size, 2, none⟩ = some (.slice A l.length c) := (HW2.out.alloc _).c (j := 2) rfl
  generalize low l x = lo at *
  generalize hbe : isIn l x = be at *
  have HBE := Lib.hid hbe
  clear hbe hrow s2
  go_wp2_with (first
    | (at_builtin; refine wpList_app _ rfl _ _ 22 rfl w2.heap.size Try.underlying22 _ _ _ rfl HROW.out A l.length c l rfl rfl HA2.out (by omega) (by omega) hs2a ?_; intro v3 w3 hown3 hg3 hn3; obtain ⟨g3, c3, rfl⟩ := form4 hown3 hn3; rw [Nat.zero_add, List.nil_append] at hown3; have hB3 : Below w2.heap.size w2 w3 := (alloc1 w2 _).trans (grown_below hg3 HROW.out hs2a); have HO3 := Lib.hid hown3; have u2 : (w3.alloc (.cells #[.int .i64 2, .int .i64 0, .slice (some ⟨g3, 0, none⟩) l.length c3] 24)).cell? ⟨w.heap.size, 2, none⟩ = some (.slice A l.length c) := ((HW2.out.below hB3 (by omega)).alloc _).c (j := 2) rfl; clear hg3 hn3 c2x t2 hown3))
  have hs3 := hB3.size
  have hBw3 := nxt hBw2 hB3 hBw2.size
  have hB4 := nxt hBw3 (alloc1 w3 (.cells #[.int .i64 2, .int .i64 0, .slice (some ⟨g3, 0, none⟩) l.length c3] 24)) hBw3.size
  have HZ4 := Lib.hid ((HZ2.out.below hB3 (by omega)).alloc (.cells #[.int .i64 2, .int .i64 0, .slice (some ⟨g3, 0, none⟩) l.length c3] 24))
  have HR4 := Lib.hid ((HR2.out.below hB3 (by omega)).alloc (.cells #[.int .i64 2, .int .i64 0, .slice (some ⟨g3, 0, none⟩) l.length c3] 24))
  have HW4 := Lib.hid ((HW2.out.below hB3 (by omega)).alloc (.cells #[.int .i64 2, .int .i64 0, .slice (some ⟨g3, 0, none⟩) l.length c3] 24))
  have HO4 := Lib.hid (Holds.new w3 24 #[.int .i64 2, .int .i64 0, .slice (some ⟨g3, 0, none⟩) l.length c3])
  have HV4 := Lib.hid (row_below HO3.out (alloc1 w3 (.cells #[.int .i64 2, .int .i64 0, .slice (some ⟨g3, 0, none⟩) l.length c3] 24)))
  have hs4 : w3.heap.size < (w3.alloc (.cells #[.int .i64 2, .int .i64 0, .slice (some ⟨g3, 0, none⟩) l.length c3] 24)).heap.size := by simp
  clear u2
  generalize w3.alloc (.cells #[.int .i64 2, .int .i64 0, .slice (some ⟨g3, 0, none⟩) l.length c3] 24) = W4 at *
  have y0 : W4.drew.cell? ⟨w3.heap.size, 0, none⟩ = some (.int .i64 2) := HO4.out.c (j := 0) rfl
  have y1 : W4.drew.cell? ⟨w3.heap.size, 1, none⟩ = some (.int .i64 0) := HO4.out.c (j := 1) rfl
  have y2 : W4.drew.cell? ⟨w3.heap.size, 2, none⟩ = some (.slice (some ⟨g3, 0, none⟩) l.length c3) := HO4.out.c (j := 2) rfl
  have hBo : w3.heap.size < W4.heap.size := HO4.out.lt
  refine wp_region_noPanic ?_
  refine wp_region_heads [true, true, false] (fun w' => w'.cell? ⟨w3.heap.size, 0, none⟩ = some (.int .i64 2) ∧ w'.cell? ⟨w3.heap.size, 1, none⟩ = some (.int .i64 0) ∧ w'.cell? ⟨w3.heap.size, 2, none⟩ = some (.slice (some ⟨g3, 0, none⟩) l.length c3)) (by kernel_rfl) (by kernel_rfl) (fun _ _ _ _ _ h => h) ⟨y0, y1, y2⟩ ?_
  iterate 2
    refine Heads.take ?_ (by rfl) ?_ ?_
    rotate_left
    · intro w' hw'
      obtain ⟨q0, q1, q2⟩ := hw'
      go_simp
      try with_reducible rfl
    simp only [Act.put, List.setIfInBounds_toArray, List.set_cons_zero, List.set_cons_succ]
  refine Heads.call 32 #[.bool be] (by rfl) (by go_simp) ?_
  refine (number_any _ _).mono ?_
  rintro e w7 ⟨rfl, hB7⟩
  have hB7' : Below W4.heap.size W4 w7 := ((Below.refl _ W4).drew).trans hB7
  refine ⟨_, rfl, ⟨(hB7.cell (p := ⟨w3.heap.size, 0, none⟩) hBo).trans y0, (hB7.cell (p := ⟨w3.heap.size, 1, none⟩) hBo).trans y1, (hB7.cell (p := ⟨w3.heap.size, 2, none⟩) hBo).trans y2⟩, ?_⟩
  simp only [Act.put, List.setIfInBounds_toArray, List.set_cons_zero, List.set_cons_succ]
  refine Heads.done ?_
  have HZ7 := Lib.hid (HZ4.out.below hB7' HZ4.out.lt)
  have HR7 := Lib.hid (HR4.out.below hB7' HR4.out.lt)
  have HV7 := Lib.hid (row_below HV4.out hB7')
  have hBw7 := nxt hB4 hB7' hB4.size
  have z0 := HZ7.out.c (j := 0) rfl
  have z1 := HZ7.out.c (j := 1) rfl
  have z2 := HZ7.out.c (j := 2) rfl
  have r0 := HR7.out.c (j := 0) rfl
  have r1 := HR7.out.c (j := 1) rfl
  have a0 := HZ7.out.frozen 0
  have a1 := HZ7.out.frozen 1
  have a2 := HZ7.out.frozen 2
  have b0 := HR7.out.frozen 0
  have b1 := HR7.out.frozen 1
  clear y0 y1 y2
  unfold retV
  obtain ⟨rr, hrr⟩ : ∃ rr, one be = rr := ⟨_, rfl⟩
  rw [hrr]
  have HRR := Lib.hid hrr
  clear hrr
  go_wp2_with fail
  refine NoPanic.normal ?_
  obtain ⟨HZ8, HR8, hB8⟩ := filled_holds (m := w.heap.size) HZ7.out HR7.out (by omega) 2 0 (.slice (some ⟨g3, 0, none⟩) l.length c3) 2 rr
  have HV8 := row_mid (W' := filled w7 (w.heap.size + 1) 2 0 (.slice (some ⟨g3, 0, none⟩) l.length c3) 2 rr) HV7.out (fun B hB _ => filled_far _ _ _ _ _ _ _ B (by omega))
  have k0 := HZ8.c (j := 0) rfl
  have k1 := HZ8.c (j := 1) rfl
  have k2 := HZ8.c (j := 2) rfl
  have q0 := HR8.c (j := 0) rfl
  have q1 := HR8.c (j := 1) rfl
  change Exit.then _ _ _ _ (filled w7 (w.heap.size + 1) 2 0 (.slice (some ⟨g3, 0, none⟩) l.length c3) 2 rr)
  generalize filled w7 (w.heap.size + 1) 2 0 (.slice (some ⟨g3, 0, none⟩) l.length c3) 2 rr = W8 at *
  go_wp2
  refine bodyPost_ret (v := .tuple #[stV 2 0 (some ⟨g3, 0, none⟩) l.length c3, retV 2 rr, .int .i64 0]) (by simp [results, Try.f11, go_sem, stV, retV, k0, k1, k2, q0, q1]) rfl ?_
  rw [HRR.out]
  exact ⟨(some ⟨g3, 0, none⟩), c3, rfl, row_more HV8 (by omega), nxt hBw7 hB8 (Nat.le_refl _)⟩
set_option maxHeartbeats 2000000 in
theorem rsapply_size (A : Option Addr) (c : Nat) (l : List Int) (w : World) (hA : Ints w A l) (hlen : l.length ≤ 900) (hr : Rise l) :
    Calls Try.prog 11 #[stV 2 0 A l.length c, .int .i64 6, .int .i64 0, .int .i64 0] w (SetPost 2 l 2 l.length 0 w) := by
  have hB0 := boxed3_below w 2 0 A l.length c
  have HC := rcheck_any 2 0 A c l _ (hA.below hB0) (by omega)
  have hc : checkE 2 0 l = 0 := by simp [checkE, fitsB, (rise_iff l).2 hr]
  rw [hc] at HC
  have HFI := fun W (h : Below w.heap.size w W) => rfind_any A c l 0 W (hA.below h) (by omega)
  have HA := Lib.hid hA
  have HW := Lib.hid (boxed3_state w 2 0 A l.length c)
  have HZ := Lib.hid (boxed3_then w 2 0 A l.length c)
  have HR := Lib.hid (boxed3_ret w 2 0 A l.length c)
  have hsz := boxed3_size w 2 0 A l.length c
  clear hc hA
  unfold stV at *
  unfold foundV at HFI
  go_enter Try.func11, Try.ntmps11
  go_wp2_with fail
  refine HC.mono ?_
  rintro e w1 ⟨rfl, hB1⟩
  generalize boxed3 w 2 0 A l.length c = W0 at *
  have HW1 := Lib.hid (HW.out.below hB1 (by omega))
  have HZ1 := Lib.hid (HZ.out.below hB1 (by omega))
  have HR1 := Lib.hid (HR.out.below hB1 (by omega))
  have hBw := nxt hB0 hB1 (by omega)
  have hlt1 := HR1.out.lt
  have s2 := HW1.out.c (j := 2) rfl
  clear hsz hB0 hB1
  go_wp2_with fail
  refine (HFI w1 hBw).mono ?_
  rintro e w2 ⟨rfl, hB2⟩
  have HW2 := Lib.hid (HW1.out.below hB2 (by omega))
  have HZ2 := Lib.hid (HZ1.out.below hB2 (by omega))
  have HR2 := Lib.hid (HR1.out.below hB2 (by omega))
  have hBw2 := nxt hBw hB2 hBw.size
  have hlt2 := HR2.out.lt
  have t2 := HW2.out.c (j := 2) rfl
  have hrow := World.ownsRow_lit (base := w2.heap.size) (e := 3) (size := 1) w2 #[] 0 (Nat.le_refl _) (Nat.zero_le _) rfl
  have HROW := Lib.hid hrow
  have HA2 := Lib.hid ((HA.out.below hBw2).below (alloc1 w2 (.cells #[] 3)))
  have hs2a : w2.heap.size ≤ (w2.alloc (.cells #[] 3)).heap.size := by simp
  have c2x : (w2.alloc (.cells #[] 3)).cell? ⟨w.heap.size, 2, none⟩ = some (.slice A l.length c) := (HW2.out.alloc _).c (j := 2) rfl
  generalize low l 0 = lo at *
  generalize hbe : isIn l 0 = be at *
  have HBE := Lib.hid hbe
  clear hbe hrow s2
  go_wp2_with (first
    | (at_builtin; refine wpList_app _ rfl _ _ 22 rfl w2.heap.size Try.underlying22 _ _ _ rfl HROW.out A l.length c l rfl rfl HA2.out (by omega) (by omega) hs2a ?_; intro v3 w3 hown3 hg3 hn3; obtain ⟨g3, c3, rfl⟩ := form4 hown3 hn3; rw [Nat.zero_add, List.nil_append] at hown3; have hB3 : Below w2.heap.size w2 w3 := (alloc1 w2 _).trans (grown_below hg3 HROW.out hs2a); have HO3 := Lib.hid hown3; have u2 : (w3.alloc (.cells #[.int .i64 2, .int .i64 0, .slice (some ⟨g3, 0, none⟩) l.length c3] 24)).cell? ⟨w.heap.size, 2, none⟩ = some (.slice A l.length c) := ((HW2.out.below hB3 (by omega)).alloc _).c (j := 2) rfl; clear hg3 hn3 c2x t2 hown3))
  have hs3 := hB3.size
  have hBw3 := nxt hBw2 hB3 hBw2.size
  have hB4 := nxt hBw3 (alloc1 w3 (.cells #[.int .i64 2, .int .i64 0, .slice (some ⟨g3, 0, none⟩) l.length c3] 24)) hBw3.size
  have HZ4 := Lib.hid ((HZ2.out.below hB3 (by omega)).alloc (.cells #[.int .i64 2, .int .i64 0, .slice (some ⟨g3, 0, none⟩) l.length c3] 24))
  have HR4 := Lib.hid ((HR2.out.below hB3 (by omega)).alloc (.cells #[.int .i64 2, .int .i64 0, .slice (some ⟨g3, 0, none⟩) l.length c3] 24))
  have HW4 := Lib.hid ((HW2.out.below hB3 (by omega)).alloc (.cells #[.int .i64 2, .int .i64 0, .slice (some ⟨g3, 0, none⟩) l.length c3] 24))
  have HO4 := Lib.hid (Holds.new w3 24 #[.int .i64 2, .int .i64 0, .slice (some ⟨g3, 0, none⟩) l.length c3])
  have HV4 := Lib.hid (row_below HO3.out (alloc1 w3 (.cells #[.int .i64 2, .int .i64 0, .slice (some ⟨g3, 0, none⟩) l.length c3] 24)))
  have hs4 : w3.heap.size < (w3.alloc (.cells #[.int .i64 2, .int .i64 0, .slice (some ⟨g3, 0, none⟩) l.length c3] 24)).heap.size := by simp
  clear u2
  generalize w3.alloc (.cells #[.int .i64 2, .int .i64 0, .slice (some ⟨g3, 0, none⟩) l.length c3] 24) = W4 at *
  have yw := HW4.out.c (j := 2) rfl
  have y0 := HO4.out.c (j := 0) rfl
  have y1 := HO4.out.c (j := 1) rfl
  have y2 := HO4.out.c (j := 2) rfl
  have z0 := HZ4.out.c (j := 0) rfl
  have z1 := HZ4.out.c (j := 1) rfl
  have z2 := HZ4.out.c (j := 2) rfl
  have r0 := HR4.out.c (j := 0) rfl
  have r1 := HR4.out.c (j := 1) rfl
  have a0 := HZ4.out.frozen 0
  have a1 := HZ4.out.frozen 1
  have a2 := HZ4.out.frozen 2
  have b0 := HR4.out.frozen 0
  have b1 := HR4.out.frozen 1
  have n1 : w.heap.size ≠ w.heap.size + 1 := by omega
  have n2 : w.heap.size ≠ w.heap.size + 1 + 1 := by omega
  go_cut [10] from 86 to 90 (fun s10 wx => s10 = .int .i64 0 ∧ wx = filled W4.drew (w.heap.size + 1) 2 0 (.slice (some ⟨g3, 0, none⟩) l.length c3) 2 l.length)
  case first =>
    go_region
    all_goals (go_wp2_with fail; go_meet; exact ⟨rfl, rfl⟩)
  case rest =>
    obtain ⟨rfl, rfl⟩ := hcut
    obtain ⟨HZ8, HR8, hB8⟩ := filled_holds (m := w.heap.size) (HZ4.out.of (W' := W4.drew) rfl) (HR4.out.of (W' := W4.drew) rfl) (by omega) 2 0 (.slice (some ⟨g3, 0, none⟩) l.length c3) 2 l.length
    have HV8 := row_mid (W' := filled W4.drew (w.heap.size + 1) 2 0 (.slice (some ⟨g3, 0, none⟩) l.length c3) 2 l.length) (row_below HV4.out (Below.refl _ W4).drew) (fun B hB _ => filled_far _ _ _ _ _ _ _ B (by omega))
    generalize filled W4.drew (w.heap.size + 1) 2 0 (.slice (some ⟨g3, 0, none⟩) l.length c3) 2 l.length = W8 at *
    have k0 := HZ8.c (j := 0) rfl
    have k1 := HZ8.c (j := 1) rfl
    have k2 := HZ8.c (j := 2) rfl
    have q0 := HR8.c (j := 0) rfl
    have q1 := HR8.c (j := 1) rfl
    go_wp2
    refine bodyPost_ret (v := .tuple #[stV 2 0 (some ⟨g3, 0, none⟩) l.length c3, retV 2 l.length, .int .i64 0]) (by simp [results, Try.f11, go_sem, stV, retV, k0, k1, k2, q0, q1]) rfl ?_
    exact ⟨_, c3, rfl, row_more HV8 (by omega), nxt hB4.drew hB8 (Nat.le_refl _)⟩
end Go.Proofs.Ytmhnnilfehankaa
