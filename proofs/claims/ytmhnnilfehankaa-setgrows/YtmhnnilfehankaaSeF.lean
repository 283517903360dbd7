/- Contracts of the layer set: Apply's four kinds. -/
import Derived.Test.YtmhnnilfehankaaSeE
namespace Go.Proofs.Ytmhnnilfehankaa
open Go.RowKit Go.Maps
set_option linter.unusedVariables false

set_option maxHeartbeats 1000000 in
theorem sapply_with (A : Option Addr) (c : Nat) (l : List Int) (kd a : Int) (w : World) (g : Nat) (m : List Int) (r : Int) (hA : Ints w A l) (hlen : l.length ≤ 900) (hr : Rise l)
    (h1 : decide (kd < 3) = false) (h2 : decide (6 < kd) = false) (h3 : (kd == 6) = false ∨ (kd == 6) = true ∧ (a != 0) = false)
    (hix : ∀ W : World, (Instr.index 51 kindsV (.int .i64 kd)).run Try.prog W = .ok (.func (.func g) #[] #[]) W)
    (eg : ∀ args w, (callFunc g args).run Try.prog w = .ok (.enter g args) w)
    (H : ∀ W, Below w.heap.size w W → Calls Try.prog g #[.slice A l.length c, .int .i64 a] W (DoPost m r W)) :
    Calls Try.prog 10 #[stV 2 0 A l.length c, .int .i64 kd, .int .i64 a, .int .i64 0] w (SetPost 2 m 2 r 0 w) := by
  have hB0 := boxed3_below w 2 0 A l.length c
  have HC := check_any 2 0 A c l _ (hA.below hB0) (by omega)
  have hc : checkE 2 0 l = 0 := by simp [checkE, fitsB, (rise_iff l).2 hr]
  rw [hc] at HC
  obtain ⟨va, hva⟩ : ∃ va, kindsV = va := ⟨_, rfl⟩
  rw [hva] at hix
  have HK : ∀ W : World, Calls Try.prog 30 #[] W (Says va W) := fun W => hva ▸ kinds_any W
  have HW := Lib.hid (boxed3_state w 2 0 A l.length c)
  have HZ := Lib.hid (boxed3_then w 2 0 A l.length c)
  have HR := Lib.hid (boxed3_ret w 2 0 A l.length c)
  have hsz := boxed3_size w 2 0 A l.length c
  clear hc hA hva
  unfold stV DoPost at *
  rcases h3 with h3 | ⟨h3, h4⟩
  · go_enter Try.func10, Try.ntmps10
    go_wp2_with fail
    refine HC.mono ?_
    rintro e w1 ⟨rfl, hB1⟩
    generalize boxed3 w 2 0 A l.length c = W0 at *
    have HW1 := Lib.hid (HW.out.below hB1 (by omega))
    have HZ1 := Lib.hid (HZ.out.below hB1 (by omega))
    have HR1 := Lib.hid (HR.out.below hB1 (by omega))
    have hBw := nxt hB0 hB1 (by omega)
    have hlt1 := HR1.out.lt
    clear hsz hB0 hB1
    go_wp2_with fail
    refine (HK _).mono ?_
    rintro e w2 ⟨rfl, hB2⟩
    have HW2 := Lib.hid (HW1.out.below hB2 (by omega))
    have HZ2 := Lib.hid (HZ1.out.below hB2 (by omega))
    have HR2 := Lib.hid (HR1.out.below hB2 (by omega))
    have hBw2 := nxt hBw hB2 hBw.size
    have hlt2 := HR2.out.lt
    have s2 := HW2.out.c (j := 2) rfl
    go_wp2_with fail
    refine (H w2 hBw2).mono ?_
    rintro e w3 ⟨g3, c3, rfl, ho3, hB3⟩
    have HZ3 := Lib.hid (HZ2.out.below hB3 (by omega))
    have HR3 := Lib.hid (HR2.out.below hB3 (by omega))
    have hBw3 := nxt hBw2 hB3 hBw2.size
    have z0 := HZ3.out.c (j := 0) rfl
    have z1 := HZ3.out.c (j := 1) rfl
    have z2 := HZ3.out.c (j := 2) rfl
    have r0 := HR3.out.c (j := 0) rfl
    have r1 := HR3.out.c (j := 1) rfl
    have y0 := HZ3.out.frozen 0
    have y1 := HZ3.out.frozen 1
    have y2 := HZ3.out.frozen 2
    have x0 := HR3.out.frozen 0
    have x1 := HR3.out.frozen 1
    go_wp2
    obtain ⟨HZ4, HR4, hB4⟩ := filled_holds (m := w.heap.size) HZ3.out HR3.out (by omega) 2 0 (.slice (some ⟨g3, 0, none⟩) m.length c3) 2 r
    have ho4 := row_mid (W' := filled w3 (w.heap.size + 1) 2 0 (.slice (some ⟨g3, 0, none⟩) m.length c3) 2 r) ho3 (fun B hB _ => filled_far _ _ _ _ _ _ _ B (by omega))
    have k0 := HZ4.c (j := 0) rfl
    have k1 := HZ4.c (j := 1) rfl
    have k2 := HZ4.c (j := 2) rfl
    have q0 := HR4.c (j := 0) rfl
    have q1 := HR4.c (j := 1) rfl
    change bodyPost _ _ _ _ _ (filled w3 (w.heap.size + 1) 2 0 (.slice (some ⟨g3, 0, none⟩) m.length c3) 2 r)
    generalize filled w3 (w.heap.size + 1) 2 0 (.slice (some ⟨g3, 0, none⟩) m.length c3) 2 r = W4 at *
    refine bodyPost_ret (v := .tuple #[stV 2 0 (some ⟨g3, 0, none⟩) m.length c3, retV 2 r, .int .i64 0]) (by simp [results, Try.f10, go_sem, stV, retV, k0, k1, k2, q0, q1]) rfl ?_
    exact ⟨_, c3, rfl, row_more ho4 hBw2.size, nxt hBw3 hB4 (Nat.le_refl _)⟩
  · go_enter Try.func10, Try.ntmps10
    go_wp2_with fail
    refine HC.mono ?_
    rintro e w1 ⟨rfl, hB1⟩
    generalize boxed3 w 2 0 A l.length c = W0 at *
    have HW1 := Lib.hid (HW.out.below hB1 (by omega))
    have HZ1 := Lib.hid (HZ.out.below hB1 (by omega))
    have HR1 := Lib.hid (HR.out.below hB1 (by omega))
    have hBw := nxt hB0 hB1 (by omega)
    have hlt1 := HR1.out.lt
    clear hsz hB0 hB1
    go_wp2_with fail
    refine (HK _).mono ?_
    rintro e w2 ⟨rfl, hB2⟩
    have HW2 := Lib.hid (HW1.out.below hB2 (by omega))
    have HZ2 := Lib.hid (HZ1.out.below hB2 (by omega))
    have HR2 := Lib.hid (HR1.out.below hB2 (by omega))
    have hBw2 := nxt hBw hB2 hBw.size
    have hlt2 := HR2.out.lt
    have s2 := HW2.out.c (j := 2) rfl
    go_wp2_with fail
    refine (H w2 hBw2).mono ?_
    rintro e w3 ⟨g3, c3, rfl, ho3, hB3⟩
    have HZ3 := Lib.hid (HZ2.out.below hB3 (by omega))
    have HR3 := Lib.hid (HR2.out.below hB3 (by omega))
    have hBw3 := nxt hBw2 hB3 hBw2.size
    have z0 := HZ3.out.c (j := 0) rfl
    have z1 := HZ3.out.c (j := 1) rfl
    have z2 := HZ3.out.c (j := 2) rfl
    have r0 := HR3.out.c (j := 0) rfl
    have r1 := HR3.out.c (j := 1) rfl
    have y0 := HZ3.out.frozen 0
    have y1 := HZ3.out.frozen 1
    have y2 := HZ3.out.frozen 2
    have x0 := HR3.out.frozen 0
    have x1 := HR3.out.frozen 1
    go_wp2
    obtain ⟨HZ4, HR4, hB4⟩ := filled_holds (m := w.heap.size) HZ3.out HR3.out (by omega) 2 0 (.slice (some ⟨g3, 0, none⟩) m.length c3) 2 r
    have ho4 := row_mid (W' := filled w3 (w.heap.size + 1) 2 0 (.slice (some ⟨g3, 0, none⟩) m.length c3) 2 r) ho3 (fun B hB _ => filled_far _ _ _ _ _ _ _ B (by omega))
    have k0 := HZ4.c (j := 0) rfl
    have k1 := HZ4.c (j := 1) rfl
    have k2 := HZ4.c (j := 2) rfl
    have q0 := HR4.c (j := 0) rfl
    have q1 := HR4.c (j := 1) rfl
    change bodyPost _ _ _ _ _ (filled w3 (w.heap.size + 1) 2 0 (.slice (some ⟨g3, 0, none⟩) m.length c3) 2 r)
    generalize filled w3 (w.heap.size + 1) 2 0 (.slice (some ⟨g3, 0, none⟩) m.length c3) 2 r = W4 at *
    refine bodyPost_ret (v := .tuple #[stV 2 0 (some ⟨g3, 0, none⟩) m.length c3, retV 2 r, .int .i64 0]) (by simp [results, Try.f10, go_sem, stV, retV, k0, k1, k2, q0, q1]) rfl ?_
    exact ⟨_, c3, rfl, row_more ho4 hBw2.size, nxt hBw3 hB4 (Nat.le_refl _)⟩

theorem sapply_insert (A : Option Addr) (c : Nat) (l : List Int) (x : Int) (w : World) (hA : Ints w A l) (hlen : l.length ≤ 900) (hc : l.length ≤ c) (hr : Rise l) :
    Calls Try.prog 10 #[stV 2 0 A l.length c, .int .i64 3, .int .i64 x, .int .i64 0] w (SetPost 2 (withL l x) 2 (one (!isIn l x)) 0 w) :=
  sapply_with A c l 3 x w 38 _ _ hA hlen hr rfl rfl (.inl rfl) (fun W => by kernel_rfl) (Go.Proofs.enters_of Try.func38 (by kernel_rfl) rfl) (fun W hB => insert_any A c l x W (hA.below hB) hlen hc hr)
theorem sapply_remove (A : Option Addr) (c : Nat) (l : List Int) (x : Int) (w : World) (hA : Ints w A l) (hlen : l.length ≤ 900) (hc : l.length ≤ c) (hr : Rise l) :
    Calls Try.prog 10 #[stV 2 0 A l.length c, .int .i64 4, .int .i64 x, .int .i64 0] w (SetPost 2 (outL l x) 2 (one (isIn l x)) 0 w) :=
  sapply_with A c l 4 x w 39 _ _ hA hlen hr rfl rfl (.inl rfl) (fun W => by kernel_rfl) (Go.Proofs.enters_of Try.func39 (by kernel_rfl) rfl) (fun W hB => remove_any A c l x W (hA.below hB) hlen hc hr)
theorem sapply_has (A : Option Addr) (c : Nat) (l : List Int) (x : Int) (w : World) (hA : Ints w A l) (hlen : l.length ≤ 900) (hr : Rise l) :
    Calls Try.prog 10 #[stV 2 0 A l.length c, .int .i64 5, .int .i64 x, .int .i64 0] w (SetPost 2 l 2 (one (isIn l x)) 0 w) :=
  sapply_with A c l 5 x w 40 _ _ hA hlen hr rfl rfl (.inl rfl) (fun W => by kernel_rfl) (Go.Proofs.enters_of Try.func40 (by kernel_rfl) rfl) (fun W hB => has_any A c l x W (hA.below hB) hlen hr)
theorem sapply_size (A : Option Addr) (c : Nat) (l : List Int) (w : World) (hA : Ints w A l) (hlen : l.length ≤ 900) (hr : Rise l) :
    Calls Try.prog 10 #[stV 2 0 A l.length c, .int .i64 6, .int .i64 0, .int .i64 0] w (SetPost 2 l 2 l.length 0 w) :=
  sapply_with A c l 6 0 w 41 _ _ hA hlen hr rfl rfl (.inr ⟨rfl, rfl⟩) (fun W => by kernel_rfl) (Go.Proofs.enters_of Try.func41 (by kernel_rfl) rfl) (fun W hB => size_any A c l 0 W (hA.below hB) hlen)
end Go.Proofs.Ytmhnnilfehankaa
