/- Contracts of the layer mapping: Apply's three kinds. -/
import Derived.Test.YtdanihadkchbbaaMpE
namespace Go.Proofs.Ytdanihadkchbbaa
open Go.RowKit Go.Maps
set_option linter.unusedVariables false
set_option linter.unusedSimpArgs false

def OnPost (m : List Int) (k r : Int) (w : World) (e : Ending) (w' : World) : Prop :=
  ∃ A c, e = .returned (.tuple #[stV 3 0 A m.length c, retV k r]) ∧ w'.ownsRow w.heap.size 3 1 (.slice A m.length c) m.length (intsOf m) ∧ Below w.heap.size w w'

theorem on_any (t n : Int) (A : Option Addr) (k c : Nat) (w : World) : Calls Try.prog 35 #[stV t n A k c] w fun e w' => e = .returned (.func (.func 45) #[] #[.pointer (some ⟨w.heap.size, 0, none⟩)]) ∧ w' = w.alloc (.cells #[.int .i64 t, .int .i64 n, .slice A k c] 26) := by
  unfold stV
  go_enter Try.func35, Try.ntmps35
  go_wp2
  go_ret
  exact ⟨rfl, rfl⟩

set_option maxHeartbeats 2000000 in
theorem on1_with (Bs : Nat) (A : Option Addr) (c : Nat) (l : List Int) (kd a b : Int) (w : World) (g : Nat) (m : List Int) (hBs : Holds w Bs 26 #[.int .i64 3, .int .i64 0, .slice A l.length c]) (hA : Ints w A l) (hlen : l.length ≤ 900) (hc : l.length ≤ c)
    (hix : ∀ W : World, (Instr.index 69 kindsV (.int .i64 kd)).run Try.prog W = .ok (.func (.func g) #[] #[]) W)
    (eg : ∀ args w, (callFunc g args).run Try.prog w = .ok (.enter g args) w)
    (H : ∀ W, Below w.heap.size w W → Calls Try.prog g #[.slice A l.length c, .int .i64 a, .int .i64 b] W (RowPost m W)) :
    Calls Try.prog 45 #[.int .i64 kd, .int .i64 a, .int .i64 b, .pointer (some ⟨Bs, 0, none⟩)] w (OnPost m (hadK l a) (kval l a) w) := by
  obtain ⟨va, hva⟩ : ∃ va, kindsV = va := ⟨_, rfl⟩
  rw [hva] at hix
  have HK : ∀ W : World, Calls Try.prog 46 #[] W (Says va W) := fun W => hva ▸ kinds_any W
  have HAD : ∀ W, Below w.heap.size w W → Calls Try.prog 47 #[.slice A l.length c, .int .i64 a] W (Says (retV (hadK l a) (kval l a)) W) := fun W hB => had_any A c l a W (hA.below hB) (by omega) hc
  have HBs := Lib.hid hBs
  have hlt := hBs.lt
  have hB0 : Below w.heap.size w ((w.alloc (.cells #[.int .i64 0, .int .i64 0, .slice none 0 0] 26)).alloc (.cells #[.int .i64 0, .int .i64 0] 38)) := (alloc1 w _).alloc (by simp) _
  have HZ := Lib.hid ((Holds.new w 26 #[.int .i64 0, .int .i64 0, .slice none 0 0]).alloc (.cells #[.int .i64 0, .int .i64 0] 38))
  have HR := Lib.hid (new_second w (.cells #[.int .i64 0, .int .i64 0, .slice none 0 0] 26) 38 #[.int .i64 0, .int .i64 0])
  have hsz : ((w.alloc (.cells #[.int .i64 0, .int .i64 0, .slice none 0 0] 26)).alloc (.cells #[.int .i64 0, .int .i64 0] 38)).heap.size = w.heap.size + 2 := by simp
  clear hA hva hBs
  generalize hadK l a = hk at *
  generalize kval l a = hv at *
  unfold RowPost at H
  unfold retV at HAD
  go_enter Try.func45, Try.ntmps45
  go_wp2_with fail
  refine (HK _).mono ?_
  rintro e w1 ⟨rfl, hB1⟩
  have HZ1 := Lib.hid (HZ.out.below hB1 (by omega))
  have HR1 := Lib.hid (HR.out.below hB1 (by omega))
  have hBw := nxt hB0 hB1 (by omega)
  have HBs1 := Lib.hid (HBs.out.below hBw hlt)
  have hlt1 := HR1.out.lt
  clear hsz hB0 hB1 HZ HR
  go_wp2_with fail
  refine wp_region_noPanic ?_
  have hw2 : Holds w1.drew Bs 26 #[.int .i64 3, .int .i64 0, .slice A l.length c] := HBs1.out
  refine wp_region_picked [(0, true), (1, true), (2, true), (3, true), (4, true), (5, true), (6, true), (9, true), (10, true), (11, true), (7, false), (8, true), (12, false), (13, false), (14, false)] (fun W' => Holds W' Bs 26 #[.int .i64 3, .int .i64 0, .slice A l.length c]) (by kernel_rfl) (by kernel_rfl) (fun _ _ _ _ _ h => h) hw2 ?_
  iterate 10
    refine Picked.take ?_ (by rfl) (by rfl) ?_ ?_
    rotate_left
    · intro w' hw'
      have c0 := hw'.c (j := 0) rfl
      have c2 := hw'.c (j := 2) rfl
      go_simp
      try with_reducible rfl
    simp only [Act.put, List.getElem_toArray, List.getElem_cons_zero, List.getElem_cons_succ, List.setIfInBounds_toArray, List.set_cons_zero, List.set_cons_succ]
  refine Picked.call g #[.slice A l.length c, .int .i64 a, .int .i64 b] (by rfl) (by rfl) (by go_simp) ?_
  refine (H w1.drew hBw.drew).mono ?_
  rintro e w2 ⟨A3, c3, rfl, ho2, hB2⟩
  have hB2' : Below w1.heap.size w1 w2 := (Below.refl w1.heap.size w1).drew.trans hB2
  have HBs2 := HBs1.out.below hB2' (by omega)
  refine ⟨_, rfl, HBs2, ?_⟩
  simp only [Act.put, List.getElem_toArray, List.getElem_cons_zero, List.getElem_cons_succ, List.setIfInBounds_toArray, List.set_cons_zero, List.set_cons_succ]
  refine Picked.take ?_ (by rfl) (by rfl) ?_ ?_
  rotate_left
  · intro w' hw'
    go_simp
    try with_reducible rfl
  simp only [Act.put, List.getElem_toArray, List.getElem_cons_zero, List.getElem_cons_succ, List.setIfInBounds_toArray, List.set_cons_zero, List.set_cons_succ]
  have hBw2 := nxt hBw hB2' hBw.size
  have hs2 := hB2'.size
  refine Picked.call 47 #[.slice A l.length c, .int .i64 a] (by rfl) (by rfl) (by go_simp) ?_
  refine (HAD w2 hBw2).mono ?_
  rintro e w3 ⟨rfl, hB3⟩
  have hBw3 := nxt hBw2 hB3 hBw2.size
  have HBs3 := HBs2.below hB3 (by omega)
  refine ⟨_, rfl, HBs3, ?_⟩
  simp only [Act.put, List.getElem_toArray, List.getElem_cons_zero, List.getElem_cons_succ, List.setIfInBounds_toArray, List.set_cons_zero, List.set_cons_succ]
  have HZ3 := (HZ1.out.below hB2' (by omega)).below hB3 (by omega)
  have HR3 := (HR1.out.below hB2' (by omega)).below hB3 (by omega)
  have ho3 := row_below ho2 hB3
  have z0 := HZ3.c (j := 0) rfl
  have z1 := HZ3.c (j := 1) rfl
  have z2 := HZ3.c (j := 2) rfl
  have r0 := HR3.c (j := 0) rfl
  have r1 := HR3.c (j := 1) rfl
  have y0 := HZ3.frozen 0
  have y1 := HZ3.frozen 1
  have y2 := HZ3.frozen 2
  have x0 := HR3.frozen 0
  have x1 := HR3.frozen 1
  refine ⟨_, by rfl, by rfl, ?_⟩
  go_simp
  refine ⟨set_other (set_other (set_other HBs3 _ _ (by omega)) _ _ (by omega)) _ _ (by omega), ?_⟩
  refine ⟨_, by rfl, by rfl, ?_⟩
  go_simp
  refine ⟨set_other (set_other (set_other (set_other (set_other HBs3 _ _ (by omega)) _ _ (by omega)) _ _ (by omega)) _ _ (by omega)) _ _ (by omega), NoPanic.normal ?_⟩
  obtain ⟨HZ4, HR4, hB4⟩ := filled_holds (m := w.heap.size) HZ3 HR3 (by omega) 3 0 (.slice A3 m.length c3) hk hv
  have ho4 := row_mid (W' := filled w3 w.heap.size 3 0 (.slice A3 m.length c3) hk hv) ho3 (fun B hB _ => filled_far _ _ _ _ _ _ _ B (by have : w1.heap.size ≤ B := hB; omega))
  change Exit.then _ _ _ _ (filled w3 w.heap.size 3 0 (.slice A3 m.length c3) hk hv)
  have k0 := HZ4.c (j := 0) rfl
  have k1 := HZ4.c (j := 1) rfl
  have k2 := HZ4.c (j := 2) rfl
  have q0 := HR4.c (j := 0) rfl
  have q1 := HR4.c (j := 1) rfl
  generalize filled w3 w.heap.size 3 0 (.slice A3 m.length c3) hk hv = W4 at *
  go_wp2
  refine bodyPost_ret (v := .tuple #[stV 3 0 A3 m.length c3, retV hk hv]) (by simp [results, Try.f45, go_sem, stV, retV, k0, k1, k2, q0, q1]) rfl ?_
  exact ⟨A3, c3, rfl, row_more ho4 hBw.size, nxt hBw3 hB4 (Nat.le_refl _)⟩

theorem on1_put (Bs : Nat) (A : Option Addr) (c : Nat) (l : List Int) (a b : Int) (w : World) (hBs : Holds w Bs 26 #[.int .i64 3, .int .i64 0, .slice A l.length c]) (hA : Ints w A l) (hlen : l.length ≤ 900) (hc : l.length ≤ c) :
    Calls Try.prog 45 #[.int .i64 7, .int .i64 a, .int .i64 b, .pointer (some ⟨Bs, 0, none⟩)] w (OnPost (setM l a b) (hadK l a) (kval l a) w) :=
  on1_with Bs A c l 7 a b w 13 _ hBs hA hlen hc (fun W => by kernel_rfl) (Go.Proofs.enters_of Try.func13 (by kernel_rfl) rfl) (fun W hB => mset_any A c l a b W (hA.below hB) (by omega) hc)
theorem on1_get (Bs : Nat) (A : Option Addr) (c : Nat) (l : List Int) (a b : Int) (w : World) (hBs : Holds w Bs 26 #[.int .i64 3, .int .i64 0, .slice A l.length c]) (hA : Ints w A l) (hlen : l.length ≤ 900) (hc : l.length ≤ c) :
    Calls Try.prog 45 #[.int .i64 8, .int .i64 a, .int .i64 b, .pointer (some ⟨Bs, 0, none⟩)] w (OnPost l (hadK l a) (kval l a) w) :=
  on1_with Bs A c l 8 a b w 51 _ hBs hA hlen hc (fun W => by kernel_rfl) (Go.Proofs.enters_of Try.func51 (by kernel_rfl) rfl) (fun W hB => mget_any A c l a b W (hA.below hB) (by omega))
theorem on1_del (Bs : Nat) (A : Option Addr) (c : Nat) (l : List Int) (a b : Int) (w : World) (hBs : Holds w Bs 26 #[.int .i64 3, .int .i64 0, .slice A l.length c]) (hA : Ints w A l) (hlen : l.length ≤ 900) (hc : l.length ≤ c) :
    Calls Try.prog 45 #[.int .i64 9, .int .i64 a, .int .i64 b, .pointer (some ⟨Bs, 0, none⟩)] w (OnPost (dropM l a) (hadK l a) (kval l a) w) :=
  on1_with Bs A c l 9 a b w 52 _ hBs hA hlen hc (fun W => by kernel_rfl) (Go.Proofs.enters_of Try.func52 (by kernel_rfl) rfl) (fun W hB => mdel_any A c l a b W (hA.below hB) (by omega) hc)

theorem holds_drew {W : World} {B : Nat} {t : TypeId} {cs : Array Value} (h : Holds W B t cs) : Holds W.drew B t cs := h
theorem set3_drew {W : World} {B b : Nat} {t : TypeId} {cs : Array Value} {u0 u1 u2 : Value} (h : Holds W B t cs) (hne : B ≠ b) : Holds (((W.setCell ⟨b, 0, none⟩ u0).setCell ⟨b, 1, none⟩ u1).setCell ⟨b, 2, none⟩ u2).drew B t cs :=
  holds_drew (set_other (set_other (set_other h _ _ hne) _ _ hne) _ _ hne)
theorem set5_drew {W : World} {B b d : Nat} {t : TypeId} {cs : Array Value} {u0 u1 u2 u3 u4 : Value} (h : Holds W B t cs) (hne : B ≠ b) (hnd : B ≠ d) : Holds (((((W.setCell ⟨b, 0, none⟩ u0).setCell ⟨b, 1, none⟩ u1).setCell ⟨b, 2, none⟩ u2).setCell ⟨d, 0, none⟩ u3).setCell ⟨d, 1, none⟩ u4).drew B t cs :=
  holds_drew (set_other (set_other (set_other (set_other (set_other h _ _ hne) _ _ hne) _ _ hne) _ _ hnd) _ _ hnd)

set_option maxHeartbeats 2000000 in
theorem mapply_with (A : Option Addr) (c : Nat) (l : List Int) (kd a b : Int) (w : World) (m : List Int) (hA : Ints w A l) (hlen : l.length ≤ 900) (hr : krise l)
    (h1 : decide (kd < 7) = false) (h2 : decide (9 < kd) = false) (h3 : (kd != 7) = false ∨ (kd != 7) = true ∧ (b != 0) = false)
    (H : ∀ W Bs, Below w.heap.size w W → Holds W Bs 26 #[.int .i64 3, .int .i64 0, .slice A l.length c] → Calls Try.prog 45 #[.int .i64 kd, .int .i64 a, .int .i64 b, .pointer (some ⟨Bs, 0, none⟩)] W (OnPost m (hadK l a) (kval l a) W)) :
    Calls Try.prog 20 #[stV 3 0 A l.length c, .int .i64 kd, .int .i64 a, .int .i64 b] w (SetPost 3 m (hadK l a) (kval l a) 0 w) := by
  have hB0 := boxed3_below w 3 0 A l.length c
  have HC := check_any 3 0 A c l _ (hA.below hB0) (by omega)
  rw [check_map hr] at HC
  have HW := Lib.hid (boxed3_state w 3 0 A l.length c)
  have HZ := Lib.hid (boxed3_then w 3 0 A l.length c)
  have HR := Lib.hid (boxed3_ret w 3 0 A l.length c)
  have hsz := boxed3_size w 3 0 A l.length c
  have HON := fun W => on_any 3 0 A l.length c W
  clear hA
  unfold OnPost at *
  unfold stV retV at *
  generalize hadK l a = hk at *
  generalize kval l a = hv at *
  have eo := Go.Proofs.enters_of Try.func45 (by kernel_rfl) rfl
  rcases h3 with h3 | ⟨h3, h4⟩
  · go_enter Try.func20, Try.ntmps20
    go_wp2_with fail
    refine HC.mono ?_
    rintro e w1 ⟨rfl, hB1⟩
    generalize boxed3 w 3 0 A l.length c = W0 at *
    have HW1 := Lib.hid (HW.out.below hB1 (by omega))
    have HZ1 := Lib.hid (HZ.out.below hB1 (by omega))
    have HR1 := Lib.hid (HR.out.below hB1 (by omega))
    have hBw := nxt hB0 hB1 (by omega)
    have hlt1 := HR1.out.lt
    have s0 := HW1.out.c (j := 0) rfl
    have s1 := HW1.out.c (j := 1) rfl
    have s2 := HW1.out.c (j := 2) rfl
    clear hsz hB0 hB1
    go_wp2_with fail
    refine (HON w1).mono ?_
    rintro e w2 ⟨rfl, rfl⟩
    have HB := H _ w1.heap.size (hBw.alloc hBw.size _) (Holds.new w1 26 #[.int .i64 3, .int .i64 0, .slice A l.length c])
    go_wp2_with fail
    refine HB.mono ?_
    rintro e w3 ⟨A3, c3, rfl, ho3, hB3⟩
    rw [World.size_alloc] at ho3
    have hB3' : Below w1.heap.size w1 w3 := nxt (alloc1 w1 _) hB3 (by simp)
    have HZ3 := HZ1.out.below hB3' (by omega)
    have HR3 := HR1.out.below hB3' (by omega)
    have hBw3 := nxt hBw hB3' hBw.size
    have hs3 := hB3'.size
    have hN1 := (Holds.new w3 26 #[.int .i64 3, .int .i64 0, .slice A3 m.length c3]).alloc (.cells #[.int .i64 hk, .int .i64 hv] 38)
    have hN2 := new_second w3 (.cells #[.int .i64 3, .int .i64 0, .slice A3 m.length c3] 26) 38 #[.int .i64 hk, .int .i64 hv]
    have hB4 := gro_alloc (gro_alloc (Below.refl w3.heap.size w3) (.cells #[.int .i64 3, .int .i64 0, .slice A3 m.length c3] 26)) (.cells #[.int .i64 hk, .int .i64 hv] 38)
    have HZ4 := HZ3.below hB4 (by omega)
    have HR4 := HR3.below hB4 (by omega)
    have ho4 := row_below ho3 hB4
    have hBw4 := nxt hBw3 hB4 hBw3.size
    go_wp2_with fail
    refine wp_region_noPanic ?_
    generalize (w3.alloc (.cells #[.int .i64 3, .int .i64 0, .slice A3 m.length c3] 26)).alloc (.cells #[.int .i64 hk, .int .i64 hv] 38) = W5 at *
    have z0 := HZ4.c (j := 0) rfl
    have z1 := HZ4.c (j := 1) rfl
    have z2 := HZ4.c (j := 2) rfl
    have r0 := HR4.c (j := 0) rfl
    have r1 := HR4.c (j := 1) rfl
    have y0 := HZ4.frozen 0
    have y1 := HZ4.frozen 1
    have y2 := HZ4.frozen 2
    have x0 := HR4.frozen 0
    have x1 := HR4.frozen 1
    refine wp_region_picked [(0, true), (1, true), (2, false), (3, false), (4, true)] (fun W' => Holds W' w3.heap.size 26 #[.int .i64 3, .int .i64 0, .slice A3 m.length c3] ∧ Holds W' (w3.heap.size + 1) 38 #[.int .i64 hk, .int .i64 hv]) (by kernel_rfl) (by kernel_rfl) (fun _ _ _ _ _ h => h) ⟨hN1, hN2⟩ ?_
    iterate 2
      refine Picked.take ?_ (by rfl) (by rfl) ?_ ?_
      rotate_left
      · rintro w' ⟨hw1, hw2⟩
        have c0 := hw1.c (j := 0) rfl
        have c1 := hw1.c (j := 1) rfl
        have c2 := hw1.c (j := 2) rfl
        have d0 := hw2.c (j := 0) rfl
        have d1 := hw2.c (j := 1) rfl
        go_simp
        try with_reducible rfl
      simp only [Act.put, List.getElem_toArray, List.getElem_cons_zero, List.getElem_cons_succ, List.setIfInBounds_toArray, List.set_cons_zero, List.set_cons_succ]
    refine ⟨_, by rfl, by rfl, ?_⟩
    go_simp
    refine ⟨⟨set3_drew hN1 (by omega), set3_drew hN2 (by omega)⟩, ?_⟩
    refine ⟨_, by rfl, by rfl, ?_⟩
    go_simp
    refine ⟨⟨set5_drew hN1 (by omega) (by omega), set5_drew hN2 (by omega) (by omega)⟩, ?_⟩
    refine Picked.take (.int .i64 0) (by rfl) (by rfl) (fun w' _ => by go_simp) ?_
    simp only [Act.put, List.getElem_toArray, List.getElem_cons_zero, List.getElem_cons_succ, List.setIfInBounds_toArray, List.set_cons_zero, List.set_cons_succ]
    refine NoPanic.normal ?_
    obtain ⟨HZ6, HR6, hB6⟩ := filled_holds (m := w.heap.size) HZ4 HR4 (by omega) 3 0 (.slice A3 m.length c3) hk hv
    have ho6 := row_mid (W' := filled W5 (w.heap.size + 1) 3 0 (.slice A3 m.length c3) hk hv) ho4 (fun B hB _ => filled_far _ _ _ _ _ _ _ B (by omega))
    change Exit.then _ _ _ _ (filled W5 (w.heap.size + 1) 3 0 (.slice A3 m.length c3) hk hv).drew
    have k0 := HZ6.c (j := 0) rfl
    have k1 := HZ6.c (j := 1) rfl
    have k2 := HZ6.c (j := 2) rfl
    have q0 := HR6.c (j := 0) rfl
    have q1 := HR6.c (j := 1) rfl
    generalize filled W5 (w.heap.size + 1) 3 0 (.slice A3 m.length c3) hk hv = W6 at *
    go_wp2
    refine bodyPost_ret (v := .tuple #[stV 3 0 A3 m.length c3, retV hk hv, .int .i64 0]) (by simp [results, Try.f20, go_sem, stV, retV, k0, k1, k2, q0, q1]) rfl ?_
    exact ⟨A3, c3, rfl, row_more (row_mid (W' := W6.drew) ho6 (fun _ _ _ => rfl)) (by omega), (nxt hBw4 hB6 (Nat.le_refl _)).drew⟩
  · go_enter Try.func20, Try.ntmps20
    go_wp2_with fail
    refine HC.mono ?_
    rintro e w1 ⟨rfl, hB1⟩
    generalize boxed3 w 3 0 A l.length c = W0 at *
    have HW1 := Lib.hid (HW.out.below hB1 (by omega))
    have HZ1 := Lib.hid (HZ.out.below hB1 (by omega))
    have HR1 := Lib.hid (HR.out.below hB1 (by omega))
    have hBw := nxt hB0 hB1 (by omega)
    have hlt1 := HR1.out.lt
    have s0 := HW1.out.c (j := 0) rfl
    have s1 := HW1.out.c (j := 1) rfl
    have s2 := HW1.out.c (j := 2) rfl
    clear hsz hB0 hB1
    go_wp2_with fail
    refine (HON w1).mono ?_
    rintro e w2 ⟨rfl, rfl⟩
    have HB := H _ w1.heap.size (hBw.alloc hBw.size _) (Holds.new w1 26 #[.int .i64 3, .int .i64 0, .slice A l.length c])
    go_wp2_with fail
    refine HB.mono ?_
    rintro e w3 ⟨A3, c3, rfl, ho3, hB3⟩
    rw [World.size_alloc] at ho3
    have hB3' : Below w1.heap.size w1 w3 := nxt (alloc1 w1 _) hB3 (by simp)
    have HZ3 := HZ1.out.below hB3' (by omega)
    have HR3 := HR1.out.below hB3' (by omega)
    have hBw3 := nxt hBw hB3' hBw.size
    have hs3 := hB3'.size
    have hN1 := (Holds.new w3 26 #[.int .i64 3, .int .i64 0, .slice A3 m.length c3]).alloc (.cells #[.int .i64 hk, .int .i64 hv] 38)
    have hN2 := new_second w3 (.cells #[.int .i64 3, .int .i64 0, .slice A3 m.length c3] 26) 38 #[.int .i64 hk, .int .i64 hv]
    have hB4 := gro_alloc (gro_alloc (Below.refl w3.heap.size w3) (.cells #[.int .i64 3, .int .i64 0, .slice A3 m.length c3] 26)) (.cells #[.int .i64 hk, .int .i64 hv] 38)
    have HZ4 := HZ3.below hB4 (by omega)
    have HR4 := HR3.below hB4 (by omega)
    have ho4 := row_below ho3 hB4
    have hBw4 := nxt hBw3 hB4 hBw3.size
    go_wp2_with fail
    refine wp_region_noPanic ?_
    generalize (w3.alloc (.cells #[.int .i64 3, .int .i64 0, .slice A3 m.length c3] 26)).alloc (.cells #[.int .i64 hk, .int .i64 hv] 38) = W5 at *
    have z0 := HZ4.c (j := 0) rfl
    have z1 := HZ4.c (j := 1) rfl
    have z2 := HZ4.c (j := 2) rfl
    have r0 := HR4.c (j := 0) rfl
    have r1 := HR4.c (j := 1) rfl
    have y0 := HZ4.frozen 0
    have y1 := HZ4.frozen 1
    have y2 := HZ4.frozen 2
    have x0 := HR4.frozen 0
    have x1 := HR4.frozen 1
    refine wp_region_picked [(0, true), (1, true), (2, false), (3, false), (4, true)] (fun W' => Holds W' w3.heap.size 26 #[.int .i64 3, .int .i64 0, .slice A3 m.length c3] ∧ Holds W' (w3.heap.size + 1) 38 #[.int .i64 hk, .int .i64 hv]) (by kernel_rfl) (by kernel_rfl) (fun _ _ _ _ _ h => h) ⟨hN1, hN2⟩ ?_
    iterate 2
      refine Picked.take ?_ (by rfl) (by rfl) ?_ ?_
      rotate_left
      · rintro w' ⟨hw1, hw2⟩
        have c0 := hw1.c (j := 0) rfl
        have c1 := hw1.c (j := 1) rfl
        have c2 := hw1.c (j := 2) rfl
        have d0 := hw2.c (j := 0) rfl
        have d1 := hw2.c (j := 1) rfl
        go_simp
        try with_reducible rfl
      simp only [Act.put, List.getElem_toArray, List.getElem_cons_zero, List.getElem_cons_succ, List.setIfInBounds_toArray, List.set_cons_zero, List.set_cons_succ]
    refine ⟨_, by rfl, by rfl, ?_⟩
    go_simp
    refine ⟨⟨set3_drew hN1 (by omega), set3_drew hN2 (by omega)⟩, ?_⟩
    refine ⟨_, by rfl, by rfl, ?_⟩
    go_simp
    refine ⟨⟨set5_drew hN1 (by omega) (by omega), set5_drew hN2 (by omega) (by omega)⟩, ?_⟩
    refine Picked.take (.int .i64 0) (by rfl) (by rfl) (fun w' _ => by go_simp) ?_
    simp only [Act.put, List.getElem_toArray, List.getElem_cons_zero, List.getElem_cons_succ, List.setIfInBounds_toArray, List.set_cons_zero, List.set_cons_succ]
    refine NoPanic.normal ?_
    obtain ⟨HZ6, HR6, hB6⟩ := filled_holds (m := w.heap.size) HZ4 HR4 (by omega) 3 0 (.slice A3 m.length c3) hk hv
    have ho6 := row_mid (W' := filled W5 (w.heap.size + 1) 3 0 (.slice A3 m.length c3) hk hv) ho4 (fun B hB _ => filled_far _ _ _ _ _ _ _ B (by omega))
    change Exit.then _ _ _ _ (filled W5 (w.heap.size + 1) 3 0 (.slice A3 m.length c3) hk hv).drew
    have k0 := HZ6.c (j := 0) rfl
    have k1 := HZ6.c (j := 1) rfl
    have k2 := HZ6.c (j := 2) rfl
    have q0 := HR6.c (j := 0) rfl
    have q1 := HR6.c (j := 1) rfl
    generalize filled W5 (w.heap.size + 1) 3 0 (.slice A3 m.length c3) hk hv = W6 at *
    go_wp2
    refine bodyPost_ret (v := .tuple #[stV 3 0 A3 m.length c3, retV hk hv, .int .i64 0]) (by simp [results, Try.f20, go_sem, stV, retV, k0, k1, k2, q0, q1]) rfl ?_
    exact ⟨A3, c3, rfl, row_more (row_mid (W' := W6.drew) ho6 (fun _ _ _ => rfl)) (by omega), (nxt hBw4 hB6 (Nat.le_refl _)).drew⟩

theorem mapply_put (A : Option Addr) (c : Nat) (l : List Int) (a b : Int) (w : World) (hA : Ints w A l) (hlen : l.length ≤ 900) (hc : l.length ≤ c) (hr : krise l) :
    Calls Try.prog 20 #[stV 3 0 A l.length c, .int .i64 7, .int .i64 a, .int .i64 b] w (SetPost 3 (setM l a b) (hadK l a) (kval l a) 0 w) :=
  mapply_with A c l 7 a b w _ hA hlen hr rfl rfl (.inl rfl) (fun W Bs hB hBs => on1_put Bs A c l a b W hBs (hA.below hB) hlen hc)
theorem mapply_get (A : Option Addr) (c : Nat) (l : List Int) (a : Int) (w : World) (hA : Ints w A l) (hlen : l.length ≤ 900) (hc : l.length ≤ c) (hr : krise l) :
    Calls Try.prog 20 #[stV 3 0 A l.length c, .int .i64 8, .int .i64 a, .int .i64 0] w (SetPost 3 l (hadK l a) (kval l a) 0 w) :=
  mapply_with A c l 8 a 0 w _ hA hlen hr rfl rfl (.inr ⟨rfl, rfl⟩) (fun W Bs hB hBs => on1_get Bs A c l a 0 W hBs (hA.below hB) hlen hc)
theorem mapply_del (A : Option Addr) (c : Nat) (l : List Int) (a : Int) (w : World) (hA : Ints w A l) (hlen : l.length ≤ 900) (hc : l.length ≤ c) (hr : krise l) :
    Calls Try.prog 20 #[stV 3 0 A l.length c, .int .i64 9, .int .i64 a, .int .i64 0] w (SetPost 3 (dropM l a) (hadK l a) (kval l a) 0 w) :=
  mapply_with A c l 9 a 0 w _ hA hlen hr rfl rfl (.inr ⟨rfl, rfl⟩) (fun W Bs hB hBs => on1_del Bs A c l a 0 W hBs (hA.below hB) hlen hc)
end Go.Proofs.Ytdanihadkchbbaa
