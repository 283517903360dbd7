/- The document's Starts and Drain; FifoLists. -/
import Derived.Test.YthnaogdiiflljaaFiJ
namespace Go.Proofs.Ythnaogdiiflljaa
open Go.RowKit Go.Maps
set_option linter.unusedVariables false
set_option linter.unusedSimpArgs false

theorem starts_like {l m : List Int} {k : Nat} (h : AlikeTo l m k) (hm : m.length ≤ l.length) (hk : m.length ≤ k) : startsB l m = true := by
  unfold startsB
  rw [decide_eq_true hm, Bool.true_and, beq_iff_eq]
  apply List.ext_getElem
  · rw [List.length_take]; omega
  · intro j h1 h2
    have := h j (by omega)
    rw [List.getElem?_eq_getElem (by omega), List.getElem?_eq_getElem h2] at this
    simpa using this
theorem starts_unlike {l m : List Int} {k : Nat} {x y : Int} (hx : l[k]?.getD 0 = x) (hy : m[k]?.getD 0 = y) (h : x ≠ y) (hk : k < m.length) : startsB l m = false := by
  unfold startsB
  cases hd : decide (m.length ≤ l.length) with
  | false => rfl
  | true =>
    rw [Bool.true_and]
    refine beq_false_of_ne (fun e => h ?_)
    rw [← hx, ← hy, ← e, List.getElem?_take, if_pos hk]
set_option maxHeartbeats 1000000 in
theorem rstarts_any (A B : Option Addr) (c d : Nat) (l m : List Int) (w : World) (hA : Ints w A l) (hB : Ints w B m) (hlen : l.length ≤ 1000) (hm : m.length ≤ 1000) :
    Calls Try.prog 18 #[.slice A l.length c, .slice B m.length d] w (Says (.bool (startsB l m)) w) := by
  by_cases hl : m.length ≤ l.length
  · have k0 : decide ((m.length : Int) > (l.length : Int)) = false := decide_eq_false (by omega)
    have k1 : decide ((l.length : Int) < (m.length : Int)) = false := decide_eq_false (by omega)
    have HL := Lib.hid hl
    have hA' := Lib.hid hA
    have hB' := Lib.hid hB
    clear hA hB
    go_enter Try.func18, Try.ntmps18
    go_wp2
    go_loopw [5] (fun i wr => ∃ (k n : Nat), k ≤ m.length ∧ i = .int .i64 k ∧ AlikeTo l m k ∧ wr = w.drewN n) (fun i wr => m.length - (intOf i).toNat)
    case atStart => exact ⟨0, 0, Nat.zero_le _, rfl, fun j h => absurd h (Nat.not_lt_zero _), rfl⟩
    case round =>
      obtain ⟨k, n, hk, rfl, hal, rfl⟩ := hrel
      have HAL := Lib.hid hal
      clear hal
      by_cases hlt : k < m.length
      · obtain ⟨b, off, rfl, hb, hc⟩ := hA'.out (by omega)
        obtain ⟨b', off', rfl, hb', hc'⟩ := hB'.out (by omega)
        have hck := hc k (by omega)
        have hck' := hc' k hlt
        have hk0 : (0 : Int) ≤ (k : Int) := by omega
        have hk1 : (k : Int) < (l.length : Int) := by omega
        have hk2 : (k : Int) < (m.length : Int) := by omega
        obtain ⟨x, hx⟩ : ∃ x, l[k]?.getD 0 = x := ⟨_, rfl⟩
        obtain ⟨y, hy⟩ : ∃ y, m[k]?.getD 0 = y := ⟨_, rfl⟩
        rw [hx] at hck
        rw [hy] at hck'
        have HX := Lib.hid hx
        have HY := Lib.hid hy
        clear hc hc' hx hy
        by_cases hxy : x = y
        · have HXY := Lib.hid hxy
          have kx : (x != y) = false := by rw [hxy]; simp
          clear hxy
          go_wp2_with fail
          go_quiet (fail)
          go_wp2
          go_roundw
          case rel => exact ⟨k + 1, _, by omega, by go_num, HAL.out.step (by rw [HX.out, HY.out, HXY.out]), rfl⟩
          case measure => simp [intOf]; omega
        · have HXY := Lib.hid hxy
          have kx : (x != y) = true := by rw [bne_iff_ne]; exact hxy
          clear hxy
          go_wp2_with fail
          go_quiet (fail)
          go_wp2
          go_ret
          exact ⟨ret_bool (starts_unlike HX.out HY.out HXY.out hlt).symm, below_drewN (below_drew0 w n) _⟩
      · go_wp2
        go_ret
        exact ⟨ret_bool (starts_like HAL.out HL.out (by omega)).symm, below_drew0 w n⟩
  · have k0 : decide ((m.length : Int) > (l.length : Int)) = true := decide_eq_true (by omega)
    have k1 : decide ((l.length : Int) < (m.length : Int)) = true := decide_eq_true (by omega)
    have hf : startsB l m = false := by unfold startsB; rw [decide_eq_false hl, Bool.false_and]
    rw [hf]
    have hl3 : l.length < m.length := by omega
    clear hl
    go_enter Try.func18, Try.ntmps18
    go_wp2
    go_ret
    exact ⟨rfl, Below.refl _ _⟩

set_option maxHeartbeats 1000000 in
theorem rdrain_no (t n : Int) (A : Option Addr) (c : Nat) (l : List Int) (w : World) (hA : Ints w A l) (hlen : l.length ≤ 1000) (h : isQ t n = false) :
    Calls Try.prog 15 #[stV t n A l.length c] w (DrainPost [] 12 w) := by
  have hB0 := alloc1 w (.cells #[.int .i64 t, .int .i64 n, .slice A l.length c] 24)
  by_cases ht : t = 4
  · subst ht
    have hn : n ≠ 0 := by unfold isQ at h; simpa using h
    have HC := rcheck_any 4 n A c l _ (hA.below hB0) hlen
    rw [check_queue, if_neg hn] at HC
    clear hA h hn
    unfold stV at *
    go_enter Try.func15, Try.ntmps15
    go_wp2_with fail
    refine HC.mono ?_
    rintro e w1 ⟨rfl, hB1⟩
    go_wp2
    refine bodyPost_ret (v := .tuple #[.slice none 0 0, .int .i64 12]) (by simp [results, Try.f15, go_sem]) rfl ?_
    exact ⟨none, 0, rfl, World.ownsRow_nil _ _ _ _, onto hB0 hB1⟩
  · have h1 : (t != 4) = true := by rw [bne_iff_ne]; exact ht
    clear hA h ht
    unfold stV at *
    go_enter Try.func15, Try.ntmps15
    go_wp2
    refine bodyPost_ret (v := .tuple #[.slice none 0 0, .int .i64 12]) (by simp [results, Try.f15, go_sem]) rfl ?_
    exact ⟨none, 0, rfl, World.ownsRow_nil _ _ _ _, hB0⟩
set_option maxHeartbeats 1000000 in
theorem rdrain_yes (A : Option Addr) (c : Nat) (l : List Int) (w : World) (hA : Ints w A l) (hlen : l.length ≤ 1000) :
    Calls Try.prog 15 #[stV 4 0 A l.length c] w (DrainPost l 0 w) := by
  have hB0 := alloc1 w (.cells #[.int .i64 4, .int .i64 0, .slice A l.length c] 24)
  have HC := rcheck_any 4 0 A c l _ (hA.below hB0) hlen
  rw [show checkE 4 0 l = 0 by rw [check_queue]; rfl] at HC
  have HW := Lib.hid (Holds.new w 24 #[.int .i64 4, .int .i64 0, .slice A l.length c])
  have HA := Lib.hid hA
  clear hA
  unfold stV at *
  go_enter Try.func15, Try.ntmps15
  go_wp2_with fail
  refine HC.mono ?_
  rintro e w1 ⟨rfl, hB1⟩
  have hW1 := HW.out.below hB1 HW.out.lt
  have hBw := onto hB0 hB1
  have s2 := hW1.c (j := 2) rfl
  have HROW := Lib.hid (World.ownsRow_lit (base := w1.heap.size) (e := 3) (size := 1) w1 #[] 0 (Nat.le_refl _) (Nat.zero_le _) rfl)
  have HA2 := Lib.hid ((HA.out.below hBw).below (alloc1 w1 (.cells #[] 3)))
  have hs2a : w1.heap.size ≤ (w1.alloc (.cells #[] 3)).heap.size := by simp
  have c2x : (w1.alloc (.cells #[] 3)).cell? ⟨w.heap.size, 2, none⟩ = some (.slice A l.length c) := (hW1.alloc _).c (j := 2) rfl
  go_wp2_with (at_builtin; refine wpList_app _ rfl _ _ 22 rfl w1.heap.size Try.underlying22 _ _ _ rfl HROW.out A l.length c l rfl rfl HA2.out (by omega) (by omega) hs2a ?_; intro v3 w3 hown3 hg3 hn3; obtain ⟨g3, c3, rfl⟩ := form4 hown3 hn3; rw [Nat.zero_add, List.nil_append] at hown3; have hB3 : Below w1.heap.size w1 w3 := (alloc1 w1 _).trans (grown_below hg3 HROW.out hs2a); have HO3 := Lib.hid hown3; clear hg3 hn3 c2x s2 hown3)
  refine bodyPost_ret (v := .tuple #[.slice (some ⟨g3, 0, none⟩) l.length c3, .int .i64 0]) (by simp [results, Try.f15, go_sem]) rfl ?_
  exact ⟨some ⟨g3, 0, none⟩, c3, rfl, row_more HO3.out hBw.size, onto hBw hB3⟩
theorem drain_both (t n : Int) (l : List Int) (hl : l.length ≤ 800) : ∃ (m : List Int) (e : Int), m.length ≤ 800 ∧
    (∀ A c W, Ints W A l → Calls Try.prog 14 #[stV t n A l.length c] W (DrainPost m e W)) ∧
    (∀ A c W, Ints W A l → Calls Try.prog 15 #[stV t n A l.length c] W (DrainPost m e W)) := by
  have h10 : l.length ≤ 1000 := by omega
  cases hq : isQ t n with
  | false => exact ⟨[], 12, by simp, fun A c W hA => drainq_no t n A c l W hA h10 hq, fun A c W hA => rdrain_no t n A c l W hA h10 hq⟩
  | true =>
    obtain ⟨rfl, rfl⟩ : t = 4 ∧ n = 0 := by unfold isQ at hq; simpa using hq
    exact ⟨l, 0, hl, fun A c W hA => drainq_yes A c l W hA h10, fun A c W hA => rdrain_yes A c l W hA h10⟩

set_option maxHeartbeats 2000000 in
theorem flists_law (t n : Int) (A : Option Addr) (c : Nat) (l : List Int) (B : Option Addr) (d : Nat) (q : List Int) (w : World) (hA : Ints w A l) (hm : l.length ≤ maxLen) (hB : Ints w B q) (hq : q.length ≤ maxLen) :
    Calls Try.prog 4 #[stV t n A l.length c, .slice B q.length d] w (Yes w) := by
  have hB0 := alloc1 w (.cells #[.int .i64 t, .int .i64 n, .slice A l.length c] 24)
  unfold maxLen at hm hq
  by_cases hl : 60 < l.length
  · unfold stV
    go_enter Try.func4, Try.ntmps4
    go_wp2_with fail
    refine (awake_yes _).mono ?_
    rintro e w1 ⟨rfl, hB1⟩
    go_wp2
    go_ret
    exact ⟨rfl, onto hB0 hB1⟩
  by_cases hl2 : 60 < q.length
  · unfold stV
    go_enter Try.func4, Try.ntmps4
    go_wp2_with fail
    refine (awake_yes _).mono ?_
    rintro e w1 ⟨rfl, hB1⟩
    go_wp2
    go_ret
    exact ⟨rfl, onto hB0 hB1⟩
  · obtain ⟨m, x, hm', HP, HR⟩ := drain_both t n l (by omega)
    have HS := Lib.hid (Holds.new w 24 #[.int .i64 t, .int .i64 n, .slice A l.length c])
    have HC := copyst_any t n A c l _ (hA.below hB0) (by omega)
    have HA := Lib.hid (hA.below hB0)
    have HQ := Lib.hid (hB.below hB0)
    unfold CopyStPost at HC
    unfold DrainPost at *
    unfold stV at *
    clear hA hB
    go_enter Try.func4, Try.ntmps4
    go_wp2_with fail
    refine HC.mono ?_
    rintro e w1 ⟨A1, c1, rfl, hr1, hB1⟩
    have hfit := row_fit hr1
    have hI1 := Lib.hid (own_ints rfl hr1)
    have hc1 := Lib.hid (HA.out.below hB1)
    have hq1 := Lib.hid (HQ.out.below hB1)
    have HS1 := Lib.hid (HS.out.below hB1 HS.out.lt)
    have hC1 := onto hB0 hB1
    clear hr1 HC
    go_wp2_with fail
    have hB1a := alloc1 w1 (.cells #[.int .i64 t, .int .i64 n, .slice A1 l.length c1] 24)
    have HI := Lib.hid (Holds.new w1 24 #[.int .i64 t, .int .i64 n, .slice A1 l.length c1])
    have HP1 := HP A1 c1 _ (hI1.out.below hB1a)
    replace HS1 := Lib.hid (HS1.out.below hB1a HS1.out.lt)
    replace hI1 := Lib.hid (hI1.out.below hB1a)
    replace hc1 := Lib.hid (hc1.out.below hB1a)
    replace hq1 := Lib.hid (hq1.out.below hB1a)
    replace hC1 := onto hC1 hB1a
    refine HP1.mono ?_
    rintro e w2 ⟨X, cX, rfl, hX, hB2⟩
    generalize w1.alloc (.cells #[.int .i64 t, .int .i64 n, .slice A1 l.length c1] 24) = W1 at *
    have HS2 := HS1.out.below hB2 HS1.out.lt
    have s20 := HS2.c (j := 0) rfl
    have s21 := HS2.c (j := 1) rfl
    have s22 := HS2.c (j := 2) rfl
    have HR2 := HR A c w2 (hc1.out.below hB2)
    have HX2 := Lib.hid hX
    clear HP1 hB1 hB1a hX
    go_wp2_with fail
    refine HR2.mono ?_
    rintro e w3 ⟨Y, cY, rfl, hY, hB3⟩
    have hD3 := onto hB2 hB3
    have HS3 := HS1.out.below hD3 HS1.out.lt
    have HI3 := HI.out.below hD3 HI.out.lt
    have hX3 := Lib.hid (row_below HX2.out hB3)
    have hY3 := Lib.hid (own_ints rfl hY)
    clear HS2 s20 s21 s22 HR2 hY HX2
    have hxx : (x == x) = true := by simp
    go_wp2_with fail
    refine wp_region_noPanic ?_
    refine wp_region_picked [(0, true), (1, true), (2, false), (3, true), (4, true), (5, true), (6, true), (7, true), (8, true), (9, true), (10, true), (11, true), (13, true), (14, true), (15, true), (12, false), (16, false), (17, true), (18, true), (19, true)] (fun W' => Holds W' w1.heap.size 24 #[.int .i64 t, .int .i64 n, .slice A1 l.length c1] ∧ Holds W' w.heap.size 24 #[.int .i64 t, .int .i64 n, .slice A l.length c]) (by kernel_rfl) (by kernel_rfl) (fun _ _ _ _ _ h => h) ⟨holds_drew1 HI3, holds_drew1 HS3⟩ ?_
    iterate 2
      refine Picked.take ?_ (by rfl) (by rfl) ?_ ?_
      rotate_left
      · rintro w' ⟨h1, h2⟩
        have a2 := h1.c (j := 2) rfl
        have b2 := h2.c (j := 2) rfl
        go_simp
        try with_reducible rfl
      simp only [Act.put, List.getElem_toArray, List.getElem_cons_zero, List.getElem_cons_succ, List.setIfInBounds_toArray, List.set_cons_zero, List.set_cons_succ]
    have hBd := (Below.refl w3.heap.size w3).drew
    have H4 := sameints_any X Y cX cY m m w3.drew ((own_ints rfl hX3.out).below hBd) (hY3.out.below hBd) (by omega)
    rw [show (m == m) = true by simp] at H4
    refine Picked.call 16 #[.slice X m.length cX, .slice Y m.length cY] (by rfl) (by rfl) (by go_simp) ?_
    refine H4.mono ?_
    rintro e w4 ⟨rfl, hB4⟩
    have hB34 : Below w3.heap.size w3 w4 := hBd.trans hB4
    have HI4 := HI3.below hB34 HI3.lt
    have HS4 := HS3.below hB34 HS3.lt
    refine ⟨_, rfl, ⟨HI4, HS4⟩, ?_⟩
    simp only [Act.put, List.getElem_toArray, List.getElem_cons_zero, List.getElem_cons_succ, List.setIfInBounds_toArray, List.set_cons_zero, List.set_cons_succ]
    iterate 12
      refine Picked.take ?_ (by rfl) (by rfl) ?_ ?_
      rotate_left
      · rintro w' ⟨h1, h2⟩
        have a2 := h1.c (j := 2) rfl
        have b2 := h2.c (j := 2) rfl
        go_simp
        try with_reducible rfl
      simp only [Act.put, List.getElem_toArray, List.getElem_cons_zero, List.getElem_cons_succ, List.setIfInBounds_toArray, List.set_cons_zero, List.set_cons_succ]
    have hD4 := onto hD3 hB34
    have H5 := starts_any A1 B c1 d l q w4 (hI1.out.below hD4) (hq1.out.below hD4) hfit (by omega) (by omega)
    refine Picked.call 17 #[.slice A1 l.length c1, .slice B q.length d] (by rfl) (by rfl) (by go_simp) ?_
    refine H5.mono ?_
    rintro e w5 ⟨rfl, hB5⟩
    have HI5 := HI4.below hB5 HI4.lt
    have HS5 := HS4.below hB5 HS4.lt
    refine ⟨_, rfl, ⟨HI5, HS5⟩, ?_⟩
    simp only [Act.put, List.getElem_toArray, List.getElem_cons_zero, List.getElem_cons_succ, List.setIfInBounds_toArray, List.set_cons_zero, List.set_cons_succ]
    have hD5 := onto hD4 hB5
    have H6 := rstarts_any A B c d l q w5 (hc1.out.below hD5) (hq1.out.below hD5) (by omega) (by omega)
    refine Picked.call 18 #[.slice A l.length c, .slice B q.length d] (by rfl) (by rfl) (by go_simp) ?_
    refine H6.mono ?_
    rintro e w6 ⟨rfl, hB6⟩
    have HI6 := HI5.below hB6 HI5.lt
    have HS6 := HS5.below hB6 HS5.lt
    refine ⟨_, rfl, ⟨HI6, HS6⟩, ?_⟩
    simp only [Act.put, List.getElem_toArray, List.getElem_cons_zero, List.getElem_cons_succ, List.setIfInBounds_toArray, List.set_cons_zero, List.set_cons_succ]
    generalize startsB l q = bb at *
    have hbb : (bb == bb) = true := by cases bb <;> rfl
    refine Picked.take (.bool true) (by rfl) (by rfl) (fun w' _ => by cases bb <;> go_simp) ?_
    simp only [Act.put, List.getElem_toArray, List.getElem_cons_zero, List.getElem_cons_succ, List.setIfInBounds_toArray, List.set_cons_zero, List.set_cons_succ]
    iterate 2
      refine Picked.take (.bool true) (by rfl) (by rfl) (fun w' _ => by go_simp) ?_
      simp only [Act.put, List.getElem_toArray, List.getElem_cons_zero, List.getElem_cons_succ, List.setIfInBounds_toArray, List.set_cons_zero, List.set_cons_succ]
    refine NoPanic.normal ?_
    have hD6 := onto hD5 hB6
    have hX6 := row_below (row_below (row_below hX3.out hB34) hB5) hB6
    have HOV := overints_any X cX m.length W1.heap.size _ w6 hX6 (by omega) hD6.size
    clear H4 H5 H6 hX6
    go_wp2_with fail
    refine HOV.mono ?_
    rintro e w7 ⟨rfl, hB7⟩
    have hD7 := hD6.trans hB7
    have HS7 := HS1.out.below hD7 HS1.out.lt
    have HI7 := HI.out.below hD7 HI.out.lt
    have s70 := HS7.c (j := 0) rfl
    have s71 := HS7.c (j := 1) rfl
    have s72 := HS7.c (j := 2) rfl
    have i70 := HI7.c (j := 0) rfl
    have i71 := HI7.c (j := 1) rfl
    have i72 := HI7.c (j := 2) rfl
    have H8 := samest_any t n t n A1 A c1 c l l w7 (hI1.out.below hD7) (hc1.out.below hD7) (by omega)
    rw [same_iff.2 ⟨rfl, rfl, rfl⟩] at H8
    unfold stV at H8
    have hC7 := nxt hC1 hD7 hC1.size
    go_wp2_with fail
    refine H8.mono ?_
    rintro e w8 ⟨rfl, hB8⟩
    have hC8 := onto hC7 hB8
    go_wp2_with fail
    refine (awake_yes _).mono ?_
    rintro e w9 ⟨rfl, hB9⟩
    go_wp2
    go_ret
    exact ⟨rfl, onto hC8 hB9⟩
end Go.Proofs.Ythnaogdiiflljaa
