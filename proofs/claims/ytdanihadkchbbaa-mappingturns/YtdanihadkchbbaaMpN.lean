/- MappingTurns. (Written by wip/tools/gen_mpn.py.) -/
import Derived.Test.YtdanihadkchbbaaMpM
namespace Go.Proofs.Ytdanihadkchbbaa
open Go.RowKit Go.Maps
set_option linter.unusedVariables false
set_option linter.unusedSimpArgs false

/-- A box that holds a map of its own. -/
structure MBox (W : World) (B : Nat) (m : List Int) (A : Option Addr) (c : Nat) : Prop where
  box : Holds W B 26 #[.int .i64 3, .int .i64 0, .slice A m.length c]
  row : W.ownsRow 0 3 1 (.slice A m.length c) m.length (intsOf m)
theorem MBox.below {W W' : World} {B : Nat} {m : List Int} {A : Option Addr} {c : Nat} (h : MBox W B m A c) (hb : Below W.heap.size W W') : MBox W' B m A c := ⟨h.box.below hb h.box.lt, row_below h.row hb⟩
theorem MBox.ints {W : World} {B : Nat} {m : List Int} {A : Option Addr} {c : Nat} (h : MBox W B m A c) : Ints W A m := own_ints rfl h.row
theorem MBox.fit {W : World} {B : Nat} {m : List Int} {A : Option Addr} {c : Nat} (h : MBox W B m A c) : m.length ≤ c := row_fit h.row
theorem Holds.grow {W W' : World} {B : Nat} {t : TypeId} {cs : Array Value} (h : Holds W B t cs) (hb : Below W.heap.size W W') : Holds W' B t cs := h.below hb h.lt

theorem set3_else {W : World} {B b : Nat} {t : TypeId} {cs : Array Value} {u0 u1 u2 : Value} (h : Holds W B t cs) (hne : B ≠ b) : Holds (((W.setCell ⟨b, 0, none⟩ u0).setCell ⟨b, 1, none⟩ u1).setCell ⟨b, 2, none⟩ u2) B t cs :=
  set_other (set_other (set_other h _ _ hne) _ _ hne) _ _ hne
theorem samest_self (A1 A2 : Option Addr) (c1 c2 : Nat) (m : List Int) (W : World) (h1 : Ints W A1 m) (h2 : Ints W A2 m) (hm : m.length ≤ 1000) : Calls Try.prog 22 #[stV 3 0 A1 m.length c1, stV 3 0 A2 m.length c2] W (Yes W) := by
  have := samest_any 3 0 3 0 A1 A2 c1 c2 m m W h1 h2 hm
  rw [same_iff.2 ⟨rfl, rfl, rfl⟩] at this
  exact this

theorem step_box {W w' : World} {A : Option Addr} {c : Nat} {m : List Int} (k n : Int) (ho : w'.ownsRow W.heap.size 3 1 (.slice A m.length c) m.length (intsOf m)) (hB : Below W.heap.size W w') :
    MBox ((w'.alloc (.cells #[.int .i64 3, .int .i64 0, .slice A m.length c] 26)).alloc (.cells #[.int .i64 k, .int .i64 n] 38)) w'.heap.size m A c ∧
    Holds ((w'.alloc (.cells #[.int .i64 3, .int .i64 0, .slice A m.length c] 26)).alloc (.cells #[.int .i64 k, .int .i64 n] 38)) (w'.heap.size + 1) 38 #[.int .i64 k, .int .i64 n] ∧
    Below W.heap.size W ((w'.alloc (.cells #[.int .i64 3, .int .i64 0, .slice A m.length c] 26)).alloc (.cells #[.int .i64 k, .int .i64 n] 38)) :=
  ⟨⟨(Holds.new w' _ _).alloc _, row_more (row_below ho ((alloc1 w' _).alloc (by simp) _)) (Nat.zero_le _)⟩, new_second w' _ _ _, gro_alloc (gro_alloc hB _) _⟩

set_option maxHeartbeats 1000000 in
theorem neq_ret (w : World) (a b : Int) : (binOp .neq 38 (.agg #[.int .i64 a, .int .i64 b]) (.agg #[.int .i64 a, .int .i64 b])).run Try.prog w = .ok (.bool false) w := by
  have h1 : (a == a) = true := by simp
  have h2 : (b == b) = true := by simp
  go_simp
theorem eql_ret_self (w : World) (a b : Int) : (binOp .eql 38 (.agg #[.int .i64 a, .int .i64 b]) (.agg #[.int .i64 a, .int .i64 b])).run Try.prog w = .ok (.bool true) w := (eql_ret w a b a b).trans (by rw [sameRet_self])

theorem had_set {l : List Int} (h : krise l) (x v y : Int) : hadK (setM l x v) y = (if y = x then 2 else hadK l y) ∧ kval (setM l x v) y = (if y = x then v else kval l y) := by
  unfold hadK kval khas
  rw [get_set h]
  by_cases e : y = x
  · simp [e]
  · simp [e]
theorem had_drop {l : List Int} (h : krise l) (x : Int) : hadK (dropM l x) x = 1 ∧ kval (dropM l x) x = 0 := by
  unfold hadK kval khas
  rw [get_drop h]
  simp

/-- What Put and Del come to, one behind the other. -/
theorem turns_near (l : List Int) (x v : Int) (hl : l.length ≤ 100) (hr : krise l) : ∃ (P D B : List Int) (k n : Int), P = setM l x v ∧ k = hadK l x ∧ n = kval l x ∧ P.length ≤ 110 ∧ D.length ≤ 110 ∧ B.length ≤ 110 ∧
    (∀ W A c, Ints W A l → l.length ≤ c → Calls Try.prog 20 #[stV 3 0 A l.length c, .int .i64 8, .int .i64 x, .int .i64 0] W (SetPost 3 l k n 0 W)) ∧ (∀ W A c, Ints W A l → l.length ≤ c → Calls Try.prog 20 #[stV 3 0 A l.length c, .int .i64 7, .int .i64 x, .int .i64 v] W (SetPost 3 P k n 0 W)) ∧ (∀ W A c, Ints W A l → l.length ≤ c → Calls Try.prog 20 #[stV 3 0 A l.length c, .int .i64 9, .int .i64 x, .int .i64 0] W (SetPost 3 D k n 0 W)) ∧
    (∀ W A c, Ints W A P → P.length ≤ c → Calls Try.prog 20 #[stV 3 0 A P.length c, .int .i64 7, .int .i64 x, .int .i64 v] W (SetPost 3 P 2 v 0 W)) ∧ (∀ W A c, Ints W A D → D.length ≤ c → Calls Try.prog 20 #[stV 3 0 A D.length c, .int .i64 9, .int .i64 x, .int .i64 0] W (SetPost 3 D 1 0 0 W)) ∧ (∀ W A c, Ints W A P → P.length ≤ c → Calls Try.prog 20 #[stV 3 0 A P.length c, .int .i64 9, .int .i64 x, .int .i64 0] W (SetPost 3 B 2 v 0 W)) ∧
    ((k = 1 ∧ l = B) ∨ (k = 2 ∧ (∀ W A c, Ints W A P → P.length ≤ c → Calls Try.prog 20 #[stV 3 0 A P.length c, .int .i64 7, .int .i64 x, .int .i64 n] W (SetPost 3 l 2 v 0 W)))) := by
  have hp := krise_set hr x v
  have hd := krise_drop hr x
  have h1 := set_len_le l x v
  have h2 := drop_len_le l x
  have h3 := drop_len_le (setM l x v) x
  obtain ⟨e1, e2⟩ := had_set hr x v x
  rw [if_pos rfl] at e1 e2
  obtain ⟨e3, e4⟩ := had_drop hr x
  refine ⟨setM l x v, dropM l x, dropM (setM l x v) x, hadK l x, kval l x, rfl, rfl, rfl, by omega, by omega, by omega, fun W A c h h' => mapply_get A c l x W h (by omega) h' hr, fun W A c h h' => mapply_put A c l x v W h (by omega) h' hr, fun W A c h h' => mapply_del A c l x W h (by omega) h' hr, fun W A c h h' => ?_, fun W A c h h' => ?_, fun W A c h h' => ?_, ?_⟩
  · have := mapply_put A c (setM l x v) x v W h (by omega) h' hp
    rwa [set_again hr, e1, e2] at this
  · have := mapply_del A c (dropM l x) x W h (by omega) h' hd
    rwa [drop_again hr, e3, e4] at this
  · have := mapply_del A c (setM l x v) x W h (by omega) h' hp
    rwa [e1, e2] at this
  · cases hk : kget l x with
    | none => exact .inl ⟨by unfold hadK khas; rw [hk]; rfl, (drop_back hr x v hk).symm⟩
    | some u =>
      refine .inr ⟨by unfold hadK khas; rw [hk]; rfl, fun W A c h h' => ?_⟩
      have hu : kval l x = u := by unfold kval; rw [hk]; rfl
      have := mapply_put A c (setM l x v) x u W h (by omega) h' hp
      rw [hu]
      rwa [set_back hr x v u hk, e1, e2] at this
theorem turns_far (l : List Int) (x v y u : Int) (hl : l.length ≤ 100) (hr : krise l) (hne : y ≠ x) : ∃ (Q L : List Int) (k n : Int), Q.length ≤ 110 ∧ L.length ≤ 110 ∧
    (∀ W A c, Ints W A (setM l x v) → (setM l x v).length ≤ c → Calls Try.prog 20 #[stV 3 0 A (setM l x v).length c, .int .i64 7, .int .i64 y, .int .i64 u] W (SetPost 3 Q k n 0 W)) ∧ (∀ W A c, Ints W A l → l.length ≤ c → Calls Try.prog 20 #[stV 3 0 A l.length c, .int .i64 7, .int .i64 y, .int .i64 u] W (SetPost 3 L k n 0 W)) ∧ (∀ W A c, Ints W A L → L.length ≤ c → Calls Try.prog 20 #[stV 3 0 A L.length c, .int .i64 7, .int .i64 x, .int .i64 v] W (SetPost 3 Q (hadK l x) (kval l x) 0 W)) := by
  have hp := krise_set hr x v
  have hq := krise_set hr y u
  have h1 := set_len_le l x v
  have h2 := set_len_le l y u
  have h3 := set_len_le (setM l x v) y u
  obtain ⟨e1, e2⟩ := had_set hr x v y
  rw [if_neg hne] at e1 e2
  obtain ⟨e3, e4⟩ := had_set hr y u x
  rw [if_neg (Ne.symm hne)] at e3 e4
  refine ⟨setM (setM l x v) y u, setM l y u, hadK l y, kval l y, by omega, by omega, fun W A c h h' => ?_, fun W A c h h' => mapply_put A c l y u W h (by omega) h' hr, fun W A c h h' => ?_⟩
  · have := mapply_put A c (setM l x v) y u W h (by omega) h' hp
    rwa [e1, e2] at this
  · have := mapply_put A c (setM l y u) x v W h (by omega) h' hq
    rwa [← set_turn hr x v y u hne, e3, e4] at this

set_option maxRecDepth 100000 in
set_option maxHeartbeats 8000000 in
theorem mturns_law (A : Option Addr) (c : Nat) (l : List Int) (x y v u : Int) (w : World) (hA : Ints w A l) (hk : l.length ≤ c) (hm : c ≤ maxLen) :
    Calls Try.prog 7 #[.slice A l.length c, .int .i64 x, .int .i64 y, .int .i64 v, .int .i64 u] w (Yes w) := by
  by_cases hp : l.length ≤ 100 ∧ krise l
  · skip
    obtain ⟨hl, hr⟩ := hp
    obtain ⟨P, D, B, k, n, hP, hk1, hn1, hPl, hDl, hBl, F1, F2, F3, F4, F5, F6, F7⟩ := turns_near l x v hl hr
    have HFAR := fun hne => turns_far l x v y u hl hr hne
    rw [← hP, ← hk1, ← hn1] at HFAR
    have HPL := fun W (h : Below w.heap.size w W) => plain_yes A c l W (hA.below h) hl hr
    have HOF := fun W => of_any A l.length c W
    have HTO := fun W => told_any v W
    have HNO := fun W => none_any W
    have HSM := fun (m : List Int) W A1 c1 A2 c2 (h1 : Ints W A1 m) (h2 : Ints W A2 m) (h : m.length ≤ 110) => samest_self A1 A2 c1 c2 m W h1 h2 (by omega)
    have nr := fun w' => neq_ret w' k n
    have nv := fun w' => neq_ret w' 2 v
    have no := fun w' => neq_ret w' 1 0
    have HA := Lib.hid hA
    unfold SetPost at *
    unfold stV retV at *
    clear hA hr hP hk1 hn1
    go_enter Try.func7, Try.ntmps7
    go_wp2_with fail
    refine (known_all w).mono ?_
    rintro e u1 ⟨rfl, hB1⟩
    go_wp2_with fail
    refine (HPL u1 hB1).mono ?_
    rintro e u2 ⟨rfl, hB2⟩
    have hC2 := onto hB1 hB2
    go_wp2_with fail
    refine (HOF u2).mono ?_
    rintro e u3 ⟨rfl, hB3⟩
    have hC : Below w.heap.size w (u3.alloc (.cells #[.int .i64 3, .int .i64 0, .slice A l.length c] 26)) := gro_alloc (onto hC2 hB3) _
    have S := Lib.hid (Holds.new u3 26 #[.int .i64 3, .int .i64 0, .slice A l.length c])
    clear hB1 hB2 hC2 hB3 HPL HOF
    have b0 := S.out.c (j := 0) rfl
    have b1 := S.out.c (j := 1) rfl
    have b2 := S.out.c (j := 2) rfl
    go_wp2_with fail
    generalize u3.alloc (.cells #[.int .i64 3, .int .i64 0, .slice A l.length c] 26) = W0 at *
    refine (F1 W0 A c (HA.out.below hC) hk).mono ?_
    rintro e v1 ⟨A1, c1, rfl, ho1, hB1⟩
    obtain ⟨N1, M1, hS1⟩ := step_box k n ho1 hB1
    replace S := Lib.hid (S.out.grow hS1)
    replace hC := onto hC hS1
    have BX := Lib.hid N1
    have R1 := Lib.hid M1
    clear ho1 hB1 b0 b1 b2 N1 M1 hS1
    clear BX
    have b0 := S.out.c (j := 0) rfl
    have b1 := S.out.c (j := 1) rfl
    have b2 := S.out.c (j := 2) rfl
    go_wp2_with fail
    generalize (v1.alloc (.cells #[.int .i64 3, .int .i64 0, .slice A1 l.length c1] 26)).alloc (.cells #[.int .i64 k, .int .i64 n] 38) = W1 at *
    refine (F2 W1 A c (HA.out.below hC) hk).mono ?_
    rintro e v2 ⟨A2, c2, rfl, ho2, hB2⟩
    obtain ⟨N2, M2, hS2⟩ := step_box k n ho2 hB2
    replace S := Lib.hid (S.out.grow hS2)
    replace R1 := Lib.hid (R1.out.grow hS2)
    replace hC := onto hC hS2
    have BP := Lib.hid N2
    have R2 := Lib.hid M2
    clear ho2 hB2 b0 b1 b2 N2 M2 hS2
    have b0 := S.out.c (j := 0) rfl
    have b1 := S.out.c (j := 1) rfl
    have b2 := S.out.c (j := 2) rfl
    go_wp2_with fail
    generalize (v2.alloc (.cells #[.int .i64 3, .int .i64 0, .slice A2 P.length c2] 26)).alloc (.cells #[.int .i64 k, .int .i64 n] 38) = W2 at *
    refine (F3 W2 A c (HA.out.below hC) hk).mono ?_
    rintro e v3 ⟨A3, c3, rfl, ho3, hB3⟩
    obtain ⟨N3, M3, hS3⟩ := step_box k n ho3 hB3
    replace S := Lib.hid (S.out.grow hS3)
    replace R1 := Lib.hid (R1.out.grow hS3)
    replace BP := Lib.hid (BP.out.below hS3)
    replace R2 := Lib.hid (R2.out.grow hS3)
    replace hC := onto hC hS3
    have BD := Lib.hid N3
    have R3 := Lib.hid M3
    clear ho3 hB3 b0 b1 b2 N3 M3 hS3
    have r10 := R1.out.c (j := 0) rfl
    have r11 := R1.out.c (j := 1) rfl
    have r20 := R2.out.c (j := 0) rfl
    have r21 := R2.out.c (j := 1) rfl
    have r30 := R3.out.c (j := 0) rfl
    have r31 := R3.out.c (j := 1) rfl
    have b0 := BP.out.box.c (j := 0) rfl
    have b1 := BP.out.box.c (j := 1) rfl
    have b2 := BP.out.box.c (j := 2) rfl
    go_wp2_with fail
    generalize (v3.alloc (.cells #[.int .i64 3, .int .i64 0, .slice A3 D.length c3] 26)).alloc (.cells #[.int .i64 k, .int .i64 n] 38) = W3 at *
    refine (F4 W3 _ _ BP.out.ints BP.out.fit).mono ?_
    rintro e v4 ⟨A4, c4, rfl, ho4, hB4⟩
    obtain ⟨N4, M4, hS4⟩ := step_box 2 v ho4 hB4
    replace S := Lib.hid (S.out.grow hS4)
    replace R1 := Lib.hid (R1.out.grow hS4)
    replace BP := Lib.hid (BP.out.below hS4)
    replace R2 := Lib.hid (R2.out.grow hS4)
    replace BD := Lib.hid (BD.out.below hS4)
    replace R3 := Lib.hid (R3.out.grow hS4)
    replace hC := onto hC hS4
    have BG := Lib.hid N4
    have R4 := Lib.hid M4
    clear ho4 hB4 b0 b1 b2 N4 M4 hS4
    clear r10 r11 r20 r21 r30 r31 nr
    clear R3
    have b0 := BD.out.box.c (j := 0) rfl
    have b1 := BD.out.box.c (j := 1) rfl
    have b2 := BD.out.box.c (j := 2) rfl
    go_wp2_with fail
    generalize (v4.alloc (.cells #[.int .i64 3, .int .i64 0, .slice A4 P.length c4] 26)).alloc (.cells #[.int .i64 2, .int .i64 v] 38) = W4 at *
    refine (F5 W4 _ _ BD.out.ints BD.out.fit).mono ?_
    rintro e v5 ⟨A5, c5, rfl, ho5, hB5⟩
    obtain ⟨N5, M5, hS5⟩ := step_box 1 0 ho5 hB5
    replace S := Lib.hid (S.out.grow hS5)
    replace R1 := Lib.hid (R1.out.grow hS5)
    replace BP := Lib.hid (BP.out.below hS5)
    replace R2 := Lib.hid (R2.out.grow hS5)
    replace BD := Lib.hid (BD.out.below hS5)
    replace BG := Lib.hid (BG.out.below hS5)
    replace R4 := Lib.hid (R4.out.grow hS5)
    replace hC := onto hC hS5
    have BN := Lib.hid N5
    have R5 := Lib.hid M5
    clear ho5 hB5 b0 b1 b2 N5 M5 hS5
    go_wp2_with fail
    generalize (v5.alloc (.cells #[.int .i64 3, .int .i64 0, .slice A5 D.length c5] 26)).alloc (.cells #[.int .i64 1, .int .i64 0] 38) = W5 at *
    refine wp_region_noPanic ?_
    refine wp_region_picked [(0, true), (1, true), (2, true), (3, true), (4, true), (5, true), (6, true), (7, true), (8, true), (9, false), (10, true), (11, true), (12, true), (13, true), (14, false), (15, true), (16, true), (17, true), (18, true), (19, true), (20, false), (21, true), (22, true), (23, true), (24, true), (25, true), (26, false), (27, true), (28, true)] (fun W' => (Holds W' (v4.heap.size + 1) 38 #[.int .i64 2, .int .i64 v] ∧ Holds W' (v5.heap.size + 1) 38 #[.int .i64 1, .int .i64 0]) ∧ (Holds W' v4.heap.size 26 #[.int .i64 3, .int .i64 0, .slice A4 P.length c4] ∧ Holds W' v2.heap.size 26 #[.int .i64 3, .int .i64 0, .slice A2 P.length c2]) ∧ Holds W' v5.heap.size 26 #[.int .i64 3, .int .i64 0, .slice A5 D.length c5] ∧ Holds W' v3.heap.size 26 #[.int .i64 3, .int .i64 0, .slice A3 D.length c3]) (by kernel_rfl) (by kernel_rfl) (fun _ _ _ _ _ h => h) ⟨⟨R4.out, R5.out⟩, ⟨BG.out.box, BP.out.box⟩, BN.out.box, BD.out.box⟩ ?_
    iterate 9
      refine Picked.take ?_ (by rfl) (by rfl) ?_ ?_
      rotate_left
      · rintro w' ⟨⟨h1, h2⟩, ⟨h3, h4⟩, h5, h6⟩
        have a0 := h1.c (j := 0) rfl
        have a1 := h1.c (j := 1) rfl
        have b0 := h2.c (j := 0) rfl
        have b1 := h2.c (j := 1) rfl
        have d0 := h3.c (j := 0) rfl
        have d1 := h3.c (j := 1) rfl
        have d2 := h3.c (j := 2) rfl
        have e0 := h4.c (j := 0) rfl
        have e1 := h4.c (j := 1) rfl
        have e2 := h4.c (j := 2) rfl
        have f0 := h5.c (j := 0) rfl
        have f1 := h5.c (j := 1) rfl
        have f2 := h5.c (j := 2) rfl
        have g0 := h6.c (j := 0) rfl
        have g1 := h6.c (j := 1) rfl
        have g2 := h6.c (j := 2) rfl
        go_simp
        try with_reducible rfl
      simp only [Act.put, List.getElem_toArray, List.getElem_cons_zero, List.getElem_cons_succ, List.setIfInBounds_toArray, List.set_cons_zero, List.set_cons_succ]
    refine Picked.call 27 #[.int .i64 v] (by rfl) (by rfl) (by go_simp) ?_
    refine (HTO _).mono ?_
    rintro e x1 ⟨rfl, hx1⟩
    replace hx1 : Below W5.heap.size W5 x1 := (Below.refl W5.heap.size W5).drew.trans hx1
    replace S := Lib.hid (S.out.grow hx1)
    replace R1 := Lib.hid (R1.out.grow hx1)
    replace BP := Lib.hid (BP.out.below hx1)
    replace R2 := Lib.hid (R2.out.grow hx1)
    replace BD := Lib.hid (BD.out.below hx1)
    replace BG := Lib.hid (BG.out.below hx1)
    replace R4 := Lib.hid (R4.out.grow hx1)
    replace BN := Lib.hid (BN.out.below hx1)
    replace R5 := Lib.hid (R5.out.grow hx1)
    replace hC := onto hC hx1
    refine ⟨_, rfl, ⟨⟨R4.out, R5.out⟩, ⟨BG.out.box, BP.out.box⟩, BN.out.box, BD.out.box⟩, ?_⟩
    simp only [Act.put, List.getElem_toArray, List.getElem_cons_zero, List.getElem_cons_succ, List.setIfInBounds_toArray, List.set_cons_zero, List.set_cons_succ]
    iterate 4
      refine Picked.take ?_ (by rfl) (by rfl) ?_ ?_
      rotate_left
      · rintro w' ⟨⟨h1, h2⟩, ⟨h3, h4⟩, h5, h6⟩
        have a0 := h1.c (j := 0) rfl
        have a1 := h1.c (j := 1) rfl
        have b0 := h2.c (j := 0) rfl
        have b1 := h2.c (j := 1) rfl
        have d0 := h3.c (j := 0) rfl
        have d1 := h3.c (j := 1) rfl
        have d2 := h3.c (j := 2) rfl
        have e0 := h4.c (j := 0) rfl
        have e1 := h4.c (j := 1) rfl
        have e2 := h4.c (j := 2) rfl
        have f0 := h5.c (j := 0) rfl
        have f1 := h5.c (j := 1) rfl
        have f2 := h5.c (j := 2) rfl
        have g0 := h6.c (j := 0) rfl
        have g1 := h6.c (j := 1) rfl
        have g2 := h6.c (j := 2) rfl
        go_simp
        try with_reducible rfl
      simp only [Act.put, List.getElem_toArray, List.getElem_cons_zero, List.getElem_cons_succ, List.setIfInBounds_toArray, List.set_cons_zero, List.set_cons_succ]
    refine Picked.call 26 #[] (by rfl) (by rfl) (by go_simp) ?_
    refine (HNO x1).mono ?_
    rintro e x2 ⟨rfl, hx2⟩
    replace S := Lib.hid (S.out.grow hx2)
    replace R1 := Lib.hid (R1.out.grow hx2)
    replace BP := Lib.hid (BP.out.below hx2)
    replace R2 := Lib.hid (R2.out.grow hx2)
    replace BD := Lib.hid (BD.out.below hx2)
    replace BG := Lib.hid (BG.out.below hx2)
    replace R4 := Lib.hid (R4.out.grow hx2)
    replace BN := Lib.hid (BN.out.below hx2)
    replace R5 := Lib.hid (R5.out.grow hx2)
    replace hC := onto hC hx2
    refine ⟨_, rfl, ⟨⟨R4.out, R5.out⟩, ⟨BG.out.box, BP.out.box⟩, BN.out.box, BD.out.box⟩, ?_⟩
    simp only [Act.put, List.getElem_toArray, List.getElem_cons_zero, List.getElem_cons_succ, List.setIfInBounds_toArray, List.set_cons_zero, List.set_cons_succ]
    iterate 5
      refine Picked.take ?_ (by rfl) (by rfl) ?_ ?_
      rotate_left
      · rintro w' ⟨⟨h1, h2⟩, ⟨h3, h4⟩, h5, h6⟩
        have a0 := h1.c (j := 0) rfl
        have a1 := h1.c (j := 1) rfl
        have b0 := h2.c (j := 0) rfl
        have b1 := h2.c (j := 1) rfl
        have d0 := h3.c (j := 0) rfl
        have d1 := h3.c (j := 1) rfl
        have d2 := h3.c (j := 2) rfl
        have e0 := h4.c (j := 0) rfl
        have e1 := h4.c (j := 1) rfl
        have e2 := h4.c (j := 2) rfl
        have f0 := h5.c (j := 0) rfl
        have f1 := h5.c (j := 1) rfl
        have f2 := h5.c (j := 2) rfl
        have g0 := h6.c (j := 0) rfl
        have g1 := h6.c (j := 1) rfl
        have g2 := h6.c (j := 2) rfl
        go_simp
        try with_reducible rfl
      simp only [Act.put, List.getElem_toArray, List.getElem_cons_zero, List.getElem_cons_succ, List.setIfInBounds_toArray, List.set_cons_zero, List.set_cons_succ]
    refine Picked.call 22 #[.agg #[.int .i64 3, .int .i64 0, .slice A4 P.length c4], .agg #[.int .i64 3, .int .i64 0, .slice A2 P.length c2]] (by rfl) (by rfl) (by go_simp) ?_
    refine (HSM P x2 A4 c4 A2 c2 BG.out.ints BP.out.ints hPl).mono ?_
    rintro e x3 ⟨rfl, hx3⟩
    replace S := Lib.hid (S.out.grow hx3)
    replace R1 := Lib.hid (R1.out.grow hx3)
    replace BP := Lib.hid (BP.out.below hx3)
    replace R2 := Lib.hid (R2.out.grow hx3)
    replace BD := Lib.hid (BD.out.below hx3)
    replace BG := Lib.hid (BG.out.below hx3)
    replace R4 := Lib.hid (R4.out.grow hx3)
    replace BN := Lib.hid (BN.out.below hx3)
    replace R5 := Lib.hid (R5.out.grow hx3)
    replace hC := onto hC hx3
    refine ⟨_, rfl, ⟨⟨R4.out, R5.out⟩, ⟨BG.out.box, BP.out.box⟩, BN.out.box, BD.out.box⟩, ?_⟩
    simp only [Act.put, List.getElem_toArray, List.getElem_cons_zero, List.getElem_cons_succ, List.setIfInBounds_toArray, List.set_cons_zero, List.set_cons_succ]
    iterate 5
      refine Picked.take ?_ (by rfl) (by rfl) ?_ ?_
      rotate_left
      · rintro w' ⟨⟨h1, h2⟩, ⟨h3, h4⟩, h5, h6⟩
        have a0 := h1.c (j := 0) rfl
        have a1 := h1.c (j := 1) rfl
        have b0 := h2.c (j := 0) rfl
        have b1 := h2.c (j := 1) rfl
        have d0 := h3.c (j := 0) rfl
        have d1 := h3.c (j := 1) rfl
        have d2 := h3.c (j := 2) rfl
        have e0 := h4.c (j := 0) rfl
        have e1 := h4.c (j := 1) rfl
        have e2 := h4.c (j := 2) rfl
        have f0 := h5.c (j := 0) rfl
        have f1 := h5.c (j := 1) rfl
        have f2 := h5.c (j := 2) rfl
        have g0 := h6.c (j := 0) rfl
        have g1 := h6.c (j := 1) rfl
        have g2 := h6.c (j := 2) rfl
        go_simp
        try with_reducible rfl
      simp only [Act.put, List.getElem_toArray, List.getElem_cons_zero, List.getElem_cons_succ, List.setIfInBounds_toArray, List.set_cons_zero, List.set_cons_succ]
    refine Picked.call 22 #[.agg #[.int .i64 3, .int .i64 0, .slice A5 D.length c5], .agg #[.int .i64 3, .int .i64 0, .slice A3 D.length c3]] (by rfl) (by rfl) (by go_simp) ?_
    refine (HSM D x3 A5 c5 A3 c3 BN.out.ints BD.out.ints hDl).mono ?_
    rintro e x4 ⟨rfl, hx4⟩
    replace S := Lib.hid (S.out.grow hx4)
    replace R1 := Lib.hid (R1.out.grow hx4)
    replace BP := Lib.hid (BP.out.below hx4)
    replace R2 := Lib.hid (R2.out.grow hx4)
    replace BD := Lib.hid (BD.out.below hx4)
    replace BG := Lib.hid (BG.out.below hx4)
    replace R4 := Lib.hid (R4.out.grow hx4)
    replace BN := Lib.hid (BN.out.below hx4)
    replace R5 := Lib.hid (R5.out.grow hx4)
    replace hC := onto hC hx4
    refine ⟨_, rfl, ⟨⟨R4.out, R5.out⟩, ⟨BG.out.box, BP.out.box⟩, BN.out.box, BD.out.box⟩, ?_⟩
    simp only [Act.put, List.getElem_toArray, List.getElem_cons_zero, List.getElem_cons_succ, List.setIfInBounds_toArray, List.set_cons_zero, List.set_cons_succ]
    iterate 2
      refine Picked.take ?_ (by rfl) (by rfl) ?_ ?_
      rotate_left
      · rintro w' ⟨⟨h1, h2⟩, ⟨h3, h4⟩, h5, h6⟩
        have a0 := h1.c (j := 0) rfl
        have a1 := h1.c (j := 1) rfl
        have b0 := h2.c (j := 0) rfl
        have b1 := h2.c (j := 1) rfl
        have d0 := h3.c (j := 0) rfl
        have d1 := h3.c (j := 1) rfl
        have d2 := h3.c (j := 2) rfl
        have e0 := h4.c (j := 0) rfl
        have e1 := h4.c (j := 1) rfl
        have e2 := h4.c (j := 2) rfl
        have f0 := h5.c (j := 0) rfl
        have f1 := h5.c (j := 1) rfl
        have f2 := h5.c (j := 2) rfl
        have g0 := h6.c (j := 0) rfl
        have g1 := h6.c (j := 1) rfl
        have g2 := h6.c (j := 2) rfl
        go_simp
        try with_reducible rfl
      simp only [Act.put, List.getElem_toArray, List.getElem_cons_zero, List.getElem_cons_succ, List.setIfInBounds_toArray, List.set_cons_zero, List.set_cons_succ]
    refine NoPanic.normal ?_
    clear BG R4 BN R5 BD
    clear hx1 hx2 hx3 hx4 nv no HTO HNO F1 F2 F3 F4 F5
    have b0 := BP.out.box.c (j := 0) rfl
    have b1 := BP.out.box.c (j := 1) rfl
    have b2 := BP.out.box.c (j := 2) rfl
    go_wp2_with fail
    refine (F6 x4 _ _ BP.out.ints BP.out.fit).mono ?_
    rintro e v6 ⟨A6, c6, rfl, ho6, hB6⟩
    have hv6 := Nat.le_trans hC.size hB6.size
    have d1 := Nat.lt_of_lt_of_le BP.out.box.lt hB6.size
    have d2 := Nat.lt_of_lt_of_le S.out.lt hB6.size
    have d3 := Nat.lt_of_lt_of_le R2.out.lt hB6.size
    obtain ⟨N6, M6, hS6⟩ := step_box 2 v ho6 hB6
    replace S := Lib.hid (S.out.grow hS6)
    replace R1 := Lib.hid (R1.out.grow hS6)
    replace BP := Lib.hid (BP.out.below hS6)
    replace R2 := Lib.hid (R2.out.grow hS6)
    replace hC := onto hC hS6
    have BB := Lib.hid N6
    have R6 := Lib.hid M6
    clear ho6 hB6 b0 b1 b2 N6 M6 hS6
    clear R6
    rcases F7 with ⟨rfl, rfl⟩ | ⟨rfl, F7⟩
    · have r10 := R1.out.c (j := 0) rfl
      have r11 := R1.out.c (j := 1) rfl
      have s0 := S.out.c (j := 0) rfl
      have s1 := S.out.c (j := 1) rfl
      have s2 := S.out.c (j := 2) rfl
      have t0 := BB.out.box.c (j := 0) rfl
      have t1 := BB.out.box.c (j := 1) rfl
      have t2 := BB.out.box.c (j := 2) rfl
      go_wp2_with fail
      generalize (v6.alloc (.cells #[.int .i64 3, .int .i64 0, .slice A6 l.length c6] 26)).alloc (.cells #[.int .i64 2, .int .i64 v] 38) = W6 at *
      refine (HSM l W6 A6 c6 A c BB.out.ints (HA.out.below hC) (by omega)).mono ?_
      rintro e z2 ⟨rfl, hz2⟩
      clear s0 s1 s2 t0 t1 t2 r10 r11
      clear R1
      replace S := Lib.hid (S.out.grow hz2)
      replace BP := Lib.hid (BP.out.below hz2)
      replace R2 := Lib.hid (R2.out.grow hz2)
      replace BB := Lib.hid (BB.out.below hz2)
      replace hC := onto hC hz2
      clear BB
      by_cases hxy : y = x
      · have e1 : (y == x) = true := by simp [hxy]
        have e2 : (x == x) = true := by simp
        go_wp2
        go_ret
        exact ⟨rfl, hC⟩
      · have e1 : (y == x) = false := by simp [hxy]
        obtain ⟨Q, L, k2, n2, hQl, hLl, F8, F9, F10⟩ := HFAR hxy
        clear HFAR hxy
        have b0 := BP.out.box.c (j := 0) rfl
        have b1 := BP.out.box.c (j := 1) rfl
        have b2 := BP.out.box.c (j := 2) rfl
        go_wp2_with fail
        refine (F8 z2 _ _ BP.out.ints BP.out.fit).mono ?_
        rintro e v7 ⟨A7, c7, rfl, ho7, hB7⟩
        obtain ⟨N7, M7, hS7⟩ := step_box k2 n2 ho7 hB7
        replace S := Lib.hid (S.out.grow hS7)
        replace BP := Lib.hid (BP.out.below hS7)
        replace R2 := Lib.hid (R2.out.grow hS7)
        replace hC := onto hC hS7
        have BQ := Lib.hid N7
        have R8 := Lib.hid M7
        clear ho7 hB7 b0 b1 b2 N7 M7 hS7
        clear BP
        have b0 := S.out.c (j := 0) rfl
        have b1 := S.out.c (j := 1) rfl
        have b2 := S.out.c (j := 2) rfl
        go_wp2_with fail
        generalize (v7.alloc (.cells #[.int .i64 3, .int .i64 0, .slice A7 Q.length c7] 26)).alloc (.cells #[.int .i64 k2, .int .i64 n2] 38) = W7 at *
        refine (F9 W7 A c (HA.out.below hC) hk).mono ?_
        rintro e v8 ⟨A8, c8, rfl, ho8, hB8⟩
        obtain ⟨N8, M8, hS8⟩ := step_box k2 n2 ho8 hB8
        replace S := Lib.hid (S.out.grow hS8)
        replace R2 := Lib.hid (R2.out.grow hS8)
        replace BQ := Lib.hid (BQ.out.below hS8)
        replace R8 := Lib.hid (R8.out.grow hS8)
        replace hC := onto hC hS8
        have BL := Lib.hid N8
        have R9 := Lib.hid M8
        clear ho8 hB8 b0 b1 b2 N8 M8 hS8
        clear S
        have b0 := BL.out.box.c (j := 0) rfl
        have b1 := BL.out.box.c (j := 1) rfl
        have b2 := BL.out.box.c (j := 2) rfl
        go_wp2_with fail
        generalize (v8.alloc (.cells #[.int .i64 3, .int .i64 0, .slice A8 L.length c8] 26)).alloc (.cells #[.int .i64 k2, .int .i64 n2] 38) = W8 at *
        refine (F10 W8 _ _ BL.out.ints BL.out.fit).mono ?_
        rintro e v9 ⟨A9, c9, rfl, ho9, hB9⟩
        obtain ⟨N9, M9, hS9⟩ := step_box 1 n ho9 hB9
        replace R2 := Lib.hid (R2.out.grow hS9)
        replace BQ := Lib.hid (BQ.out.below hS9)
        replace R8 := Lib.hid (R8.out.grow hS9)
        replace BL := Lib.hid (BL.out.below hS9)
        replace R9 := Lib.hid (R9.out.grow hS9)
        replace hC := onto hC hS9
        have BZ := Lib.hid N9
        have RT := Lib.hid M9
        clear ho9 hB9 b0 b1 b2 N9 M9 hS9
        clear BL
        have er := fun w' => eql_ret_self w' k2 n2
        have es := fun w' => eql_ret_self w' 1 n
        have m0 := R8.out.c (j := 0) rfl
        have m1 := R8.out.c (j := 1) rfl
        have m2 := R9.out.c (j := 0) rfl
        have m3 := R9.out.c (j := 1) rfl
        have m4 := RT.out.c (j := 0) rfl
        have m5 := RT.out.c (j := 1) rfl
        have m6 := R2.out.c (j := 0) rfl
        have m7 := R2.out.c (j := 1) rfl
        have q0 := BQ.out.box.c (j := 0) rfl
        have q1 := BQ.out.box.c (j := 1) rfl
        have q2 := BQ.out.box.c (j := 2) rfl
        have t0 := BZ.out.box.c (j := 0) rfl
        have t1 := BZ.out.box.c (j := 1) rfl
        have t2 := BZ.out.box.c (j := 2) rfl
        go_wp2_with fail
        generalize (v9.alloc (.cells #[.int .i64 3, .int .i64 0, .slice A9 Q.length c9] 26)).alloc (.cells #[.int .i64 1, .int .i64 n] 38) = W9 at *
        refine (HSM Q W9 _ _ _ _ BQ.out.ints BZ.out.ints hQl).mono ?_
        rintro e z9 ⟨rfl, hz9⟩
        go_wp2
        go_ret
        exact ⟨rfl, onto hC hz9⟩
    · have r10 := R1.out.c (j := 0) rfl
      have r11 := R1.out.c (j := 1) rfl
      have b0 := BP.out.box.c (j := 0) rfl
      have b1 := BP.out.box.c (j := 1) rfl
      have b2 := BP.out.box.c (j := 2) rfl
      go_wp2_with fail
      generalize (v6.alloc (.cells #[.int .i64 3, .int .i64 0, .slice A6 B.length c6] 26)).alloc (.cells #[.int .i64 2, .int .i64 v] 38) = W6 at *
      refine (F7 W6 _ _ BP.out.ints BP.out.fit).mono ?_
      rintro e z1 ⟨A7, c7, rfl, ho7, hB7⟩
      replace S := Lib.hid (S.out.grow hB7)
      replace R1 := Lib.hid (R1.out.grow hB7)
      replace BP := Lib.hid (BP.out.below hB7)
      replace R2 := Lib.hid (R2.out.grow hB7)
      replace BB := Lib.hid (BB.out.below hB7)
      replace hC := onto hC hB7
      have q0 := BB.out.box.c (j := 0) rfl
      have q1 := BB.out.box.c (j := 1) rfl
      have q2 := BB.out.box.c (j := 2) rfl
      have y0 := BB.out.box.frozen 0
      have y1 := BB.out.box.frozen 1
      have y2 := BB.out.box.frozen 2
      have hO := (((Only.of (B := v6.heap.size) (Below.refl z1.heap.size z1) (Nat.le_refl _)).set 0 (.int .i64 3)).set 1 (.int .i64 0)).set 2 (.slice A7 l.length c7)
      have hBo : w.heap.size ≤ v6.heap.size := hv6
      have NB : MBox (((z1.setCell ⟨v6.heap.size, 0, none⟩ (.int .i64 3)).setCell ⟨v6.heap.size, 1, none⟩ (.int .i64 0)).setCell ⟨v6.heap.size, 2, none⟩ (.slice A7 l.length c7)) v6.heap.size l A7 c7 := ⟨set_three BB.out.box, (row_more ho7 (Nat.zero_le _)).kept hO.grown (.inr (BB.out.box.not_row (row_more ho7 (Nat.zero_le _)) (by decide)).symm)⟩
      have NP : MBox (((z1.setCell ⟨v6.heap.size, 0, none⟩ (.int .i64 3)).setCell ⟨v6.heap.size, 1, none⟩ (.int .i64 0)).setCell ⟨v6.heap.size, 2, none⟩ (.slice A7 l.length c7)) v2.heap.size P A2 c2 := ⟨set3_else BP.out.box (by omega), BP.out.row.kept hO.grown (.inr (BB.out.box.not_row BP.out.row (by decide)).symm)⟩
      have NS := set3_else (b := v6.heap.size) (u0 := .int .i64 3) (u1 := .int .i64 0) (u2 := .slice A7 l.length c7) S.out (by omega)
      have NR := set3_else (b := v6.heap.size) (u0 := .int .i64 3) (u1 := .int .i64 0) (u2 := .slice A7 l.length c7) R2.out (by omega)
      have hC7 := nxt hC (hO.below (lo := w.heap.size) hBo hC.size) (Nat.le_refl _)
      clear BP S R2 BB R1 b0 b1 b2 r10 r11 ho7 hB7 hC
      have BP := Lib.hid NP
      have S := Lib.hid NS
      have R2 := Lib.hid NR
      have BB := Lib.hid NB
      have hC := hC7
      clear NP NS NR NB hC7 hO
      have s0 := S.out.c (j := 0) rfl
      have s1 := S.out.c (j := 1) rfl
      have s2 := S.out.c (j := 2) rfl
      have t0 := BB.out.box.c (j := 0) rfl
      have t1 := BB.out.box.c (j := 1) rfl
      have t2 := BB.out.box.c (j := 2) rfl
      go_wp2_with fail
      generalize ((z1.setCell ⟨v6.heap.size, 0, none⟩ (.int .i64 3)).setCell ⟨v6.heap.size, 1, none⟩ (.int .i64 0)).setCell ⟨v6.heap.size, 2, none⟩ (.slice A7 l.length c7) = WZ at *
      refine (HSM l WZ A7 c7 A c BB.out.ints (HA.out.below hC) (by omega)).mono ?_
      rintro e z2 ⟨rfl, hz2⟩
      clear s0 s1 s2 t0 t1 t2 q0 q1 q2 y0 y1 y2
      replace BP := Lib.hid (BP.out.below hz2)
      replace S := Lib.hid (S.out.grow hz2)
      replace R2 := Lib.hid (R2.out.grow hz2)
      replace hC := onto hC hz2
      clear BB
      by_cases hxy : y = x
      · have e1 : (y == x) = true := by simp [hxy]
        have e2 : (x == x) = true := by simp
        go_wp2
        go_ret
        exact ⟨rfl, hC⟩
      · have e1 : (y == x) = false := by simp [hxy]
        obtain ⟨Q, L, k2, n2, hQl, hLl, F8, F9, F10⟩ := HFAR hxy
        clear HFAR hxy
        have b0 := BP.out.box.c (j := 0) rfl
        have b1 := BP.out.box.c (j := 1) rfl
        have b2 := BP.out.box.c (j := 2) rfl
        go_wp2_with fail
        refine (F8 z2 _ _ BP.out.ints BP.out.fit).mono ?_
        rintro e v7 ⟨A7, c7, rfl, ho7, hB7⟩
        obtain ⟨N7, M7, hS7⟩ := step_box k2 n2 ho7 hB7
        replace BP := Lib.hid (BP.out.below hS7)
        replace S := Lib.hid (S.out.grow hS7)
        replace R2 := Lib.hid (R2.out.grow hS7)
        replace hC := onto hC hS7
        have BQ := Lib.hid N7
        have R8 := Lib.hid M7
        clear ho7 hB7 b0 b1 b2 N7 M7 hS7
        clear BP
        have b0 := S.out.c (j := 0) rfl
        have b1 := S.out.c (j := 1) rfl
        have b2 := S.out.c (j := 2) rfl
        go_wp2_with fail
        generalize (v7.alloc (.cells #[.int .i64 3, .int .i64 0, .slice A7 Q.length c7] 26)).alloc (.cells #[.int .i64 k2, .int .i64 n2] 38) = W7 at *
        refine (F9 W7 A c (HA.out.below hC) hk).mono ?_
        rintro e v8 ⟨A8, c8, rfl, ho8, hB8⟩
        obtain ⟨N8, M8, hS8⟩ := step_box k2 n2 ho8 hB8
        replace S := Lib.hid (S.out.grow hS8)
        replace R2 := Lib.hid (R2.out.grow hS8)
        replace BQ := Lib.hid (BQ.out.below hS8)
        replace R8 := Lib.hid (R8.out.grow hS8)
        replace hC := onto hC hS8
        have BL := Lib.hid N8
        have R9 := Lib.hid M8
        clear ho8 hB8 b0 b1 b2 N8 M8 hS8
        clear S
        have b0 := BL.out.box.c (j := 0) rfl
        have b1 := BL.out.box.c (j := 1) rfl
        have b2 := BL.out.box.c (j := 2) rfl
        go_wp2_with fail
        generalize (v8.alloc (.cells #[.int .i64 3, .int .i64 0, .slice A8 L.length c8] 26)).alloc (.cells #[.int .i64 k2, .int .i64 n2] 38) = W8 at *
        refine (F10 W8 _ _ BL.out.ints BL.out.fit).mono ?_
        rintro e v9 ⟨A9, c9, rfl, ho9, hB9⟩
        obtain ⟨N9, M9, hS9⟩ := step_box 2 n ho9 hB9
        replace R2 := Lib.hid (R2.out.grow hS9)
        replace BQ := Lib.hid (BQ.out.below hS9)
        replace R8 := Lib.hid (R8.out.grow hS9)
        replace BL := Lib.hid (BL.out.below hS9)
        replace R9 := Lib.hid (R9.out.grow hS9)
        replace hC := onto hC hS9
        have BZ := Lib.hid N9
        have RT := Lib.hid M9
        clear ho9 hB9 b0 b1 b2 N9 M9 hS9
        clear BL
        have er := fun w' => eql_ret_self w' k2 n2
        have es := fun w' => eql_ret_self w' 2 n
        have m0 := R8.out.c (j := 0) rfl
        have m1 := R8.out.c (j := 1) rfl
        have m2 := R9.out.c (j := 0) rfl
        have m3 := R9.out.c (j := 1) rfl
        have m4 := RT.out.c (j := 0) rfl
        have m5 := RT.out.c (j := 1) rfl
        have m6 := R2.out.c (j := 0) rfl
        have m7 := R2.out.c (j := 1) rfl
        have q0 := BQ.out.box.c (j := 0) rfl
        have q1 := BQ.out.box.c (j := 1) rfl
        have q2 := BQ.out.box.c (j := 2) rfl
        have t0 := BZ.out.box.c (j := 0) rfl
        have t1 := BZ.out.box.c (j := 1) rfl
        have t2 := BZ.out.box.c (j := 2) rfl
        go_wp2_with fail
        generalize (v9.alloc (.cells #[.int .i64 3, .int .i64 0, .slice A9 Q.length c9] 26)).alloc (.cells #[.int .i64 2, .int .i64 n] 38) = W9 at *
        refine (HSM Q W9 _ _ _ _ BQ.out.ints BZ.out.ints hQl).mono ?_
        rintro e z9 ⟨rfl, hz9⟩
        go_wp2
        go_ret
        exact ⟨rfl, onto hC hz9⟩
  · have HPL := fun W (h : Below w.heap.size w W) => plain_no A c l W (hA.below h) (by omega) hp
    clear hA hp
    go_enter Try.func7, Try.ntmps7
    go_wp2_with fail
    refine (known_all w).mono ?_
    rintro e w1 ⟨rfl, hB1⟩
    go_wp2_with fail
    refine (HPL w1 hB1).mono ?_
    rintro e w2 ⟨rfl, hB2⟩
    go_wp2
    go_ret
    exact ⟨rfl, onto hB1 hB2⟩
end Go.Proofs.Ytdanihadkchbbaa
