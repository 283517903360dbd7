/- The layer machine: may, of the statements' own: an operation of a type with arguments that may be; what the machine makes of one. (Written by wip/tools/gen_mcm.py.) -/
import Derived.Test.YtmclpganipfadaaDoorMcC
namespace Go.Proofs.YtmclpganipfadaaDoor
open Go.RowKit Go.Maps
set_option linter.unusedVariables false

theorem and_one (b : Int) : bits .and .i64 b 1 = 0 ∨ bits .and .i64 b 1 = 1 := by
  have h : ((BitVec.ofInt 64 b) &&& (BitVec.ofInt 64 1)).toNat = (BitVec.ofInt 64 b).toNat % 2 := by
    rw [BitVec.toNat_and]
    exact Nat.and_one_is_mod _
  have hb : bits .and .i64 b 1 = IntKind.i64.wrap (((BitVec.ofInt 64 b).toNat % 2 : Nat) : Int) := by
    rw [← h]; rfl
  rw [hb]
  rcases Nat.mod_two_eq_zero_or_one (BitVec.ofInt 64 b).toNat with e | e <;> rw [e]
  · exact .inl (by decide)
  · exact .inr (by decide)

set_option maxHeartbeats 1000000 in
theorem mcpick_any (x n : Int) (w : World) (hx : Small x) (hn : 0 < n) (hn2 : n ≤ 4611686018427387905) :
    Calls Tryd.prog 17 #[.int .i64 x, .int .i64 n] w fun e w' => e = .returned (.int .i64 (pick x n)) ∧ w = w' := by
  obtain ⟨h1, h2⟩ := hx
  have g1 := Int.tmod_lt_of_pos x hn
  have g2 : -n < x.tmod n := by
    have := Int.neg_tmod x n
    have h3 := Int.tmod_lt_of_pos (-x) hn
    omega
  have k0 : (n == 0) = false := by simp; omega
  have kz : ¬ n = 0 := by omega
  have k1 : decide (n ≤ 0) = false := decide_eq_false (by omega)
  have hw : wrap64 (x.tmod n) = x.tmod n := iwrap (by omega) (by omega)
  by_cases hneg : x.tmod n < 0
  · have HP : Hid (pick x n = x.tmod n + n) := by show pick x n = _; unfold pick; rw [if_pos hneg]
    have kn : decide (x.tmod n < 0) = true := decide_eq_true hneg
    have HW : Hid (wrap64 (x.tmod n + n) = x.tmod n + n) := iwrap (by omega) (by omega)
    clear g1 g2 h1 h2 hn hn2 hneg
    go_enter Tryd.func17, Tryd.ntmps17
    go_wp2
    go_ret
    exact ⟨ret_int (by rw [HW.out, HP.out]), rfl⟩
  · have HP : Hid (pick x n = x.tmod n) := by show pick x n = _; unfold pick; rw [if_neg hneg]
    have kn : decide (x.tmod n < 0) = false := decide_eq_false hneg
    clear g1 g2 h1 h2 hn hn2 hneg
    go_enter Tryd.func17, Tryd.ntmps17
    go_wp2
    go_ret
    exact ⟨ret_int HP.out.symm, rfl⟩

/-- An operation of a type, with arguments that may be. -/
def May (t : Int) (o : Opr) : Prop :=
  Small o.a ∧ o.rk = 0 ∧ o.rn = 0 ∧
    ((t = 1 ∧ o.b = 0 ∧ (o.kd = 1 ∨ (o.kd = 2 ∧ o.a = 0))) ∨
     (t = 2 ∧ o.b = 0 ∧ (o.kd = 3 ∨ o.kd = 4 ∨ o.kd = 5 ∨ (o.kd = 6 ∧ o.a = 0))) ∨
     (t = 3 ∧ (o.kd = 7 ∨ (o.b = 0 ∧ (o.kd = 8 ∨ o.kd = 9)))) ∨
     (t = 4 ∧ o.b = 0 ∧ (o.kd = 10 ∨ (o.a = 0 ∧ (o.kd = 11 ∨ o.kd = 12)))) ∨
     (t = 5 ∧ o.b = 0 ∧ 0 ≤ o.a ∧ o.a ≤ 4611686018427387904 ∧ (o.kd = 13 ∨ o.kd = 14 ∨ (o.kd = 15 ∧ o.a = 0))))

theorem may_form {t n : Int} {l : List Int} {o : Opr} (hm : May t o) (hc : checkE t n l = 0) :
    (mO t n l o).e = 0 ∧ (mO t n l o).t = t ∧ checkE t (mO t n l o).n (mO t n l o).l = 0 := by
  obtain ⟨ht1, ht5, hf⟩ := check_ok hc
  obtain ⟨kd, a, b, rk, rn⟩ := o
  obtain ⟨-, -, -, h⟩ := hm
  dsimp only at h
  unfold mO mA
  have chk : ∀ m l', fitsB t m l' = true → checkE t m l' = 0 := fun m l' hh => by rw [check_in (by omega), if_pos hh]
  rcases h with ⟨rfl, rfl, h⟩ | ⟨rfl, rfl, h⟩ | ⟨rfl, h⟩ | ⟨rfl, rfl, h⟩ | ⟨rfl, rfl, ha0, ha1, h⟩
  · have hl : l = [] := by
      have : l.length = 0 := by simpa [fitsB] using hf
      exact List.length_eq_zero_iff.1 this
    subst hl
    rcases h with rfl | ⟨rfl, rfl⟩ <;> exact ⟨by simp [cntA], by simp [cntA], chk _ _ (by simp [fitsB, cntA])⟩
  · have hf' : n = 0 ∧ riseB 1 l = true := by simpa [fitsB] using hf
    obtain ⟨rfl, hr⟩ := hf'
    have hR := (rise_iff l).1 hr
    have c0 : (0 : Int) = 0 ∧ riseB 1 l = true := ⟨rfl, hr⟩
    rcases h with rfl | rfl | rfl | ⟨rfl, rfl⟩
    · exact ⟨by simp [setA, hr], by simp [setA, hr], chk _ _ (by simp [fitsB, setA, hr]; exact (rise_iff _).2 (with_rise hR _))⟩
    · exact ⟨by simp [setA, hr], by simp [setA, hr], chk _ _ (by simp [fitsB, setA, hr]; exact (rise_iff _).2 (out_rise hR _))⟩
    · exact ⟨by simp [setA, hr], by simp [setA, hr], chk _ _ (by simp [fitsB, setA, hr])⟩
    · exact ⟨by simp [setA, hr], by simp [setA, hr], chk _ _ (by simp [fitsB, setA, hr])⟩
  · obtain ⟨rfl, hk⟩ := (fits_map n l).1 hf
    have hr := (krise_iff l).2 hk
    have hset := (krise_iff _).2 (krise_set hk a b)
    have hdrop := (krise_iff _).2 (krise_drop hk a)
    rcases h with rfl | ⟨rfl, rfl | rfl⟩
    · exact ⟨by simp [mapA, hr], by simp [mapA, hr], chk _ _ (by simp [fitsB, mapA, hr, hset])⟩
    · exact ⟨by simp [mapA, hr], by simp [mapA, hr], chk _ _ (by simp [fitsB, mapA, hr])⟩
    · exact ⟨by simp [mapA, hr], by simp [mapA, hr], chk _ _ (by simp [fitsB, mapA, hr, hdrop])⟩
  · have hn : n = 0 := by simpa [fitsB] using hf
    subst hn
    rcases h with rfl | ⟨rfl, rfl | rfl⟩ <;> exact ⟨by simp [fifA], by simp [fifA], chk _ _ (by simp [fitsB, fifA])⟩
  · obtain ⟨rfl, hmn⟩ := (fits_escrow n l).1 hf
    have hb := (money_iff n).1 hmn
    have hma : moneyB a = true := (money_iff a).2 ⟨ha0, ha1⟩
    have fits : ∀ m, 0 ≤ m → m ≤ 4611686018427387904 → fitsB 5 m [] = true := fun m x y => (fits_escrow m []).2 ⟨rfl, (money_iff m).2 ⟨x, y⟩⟩
    rcases h with rfl | rfl | ⟨rfl, rfl⟩
    · exact ⟨by simp [accA, hmn, kdB, mayB, hma], by simp [accA, hmn, kdB, mayB, hma], chk _ _ (by simp [accA, hmn, kdB, mayB, hma]; exact fits _ (by simp only [eThen]; split <;> omega) (by simp only [eThen]; split <;> omega))⟩
    · exact ⟨by simp [accA, hmn, kdB, mayB, hma], by simp [accA, hmn, kdB, mayB, hma], chk _ _ (by simp [accA, hmn, kdB, mayB, hma]; exact fits _ (by simp [eThen]; split <;> omega) (by simp [eThen]; split <;> omega))⟩
    · exact ⟨by simp [accA, hmn, kdB, mayB], by simp [accA, hmn, kdB, mayB], chk _ _ (by simp [accA, hmn, kdB, mayB]; exact fits _ (by simp [eThen]; omega) (by simp [eThen]; omega))⟩

theorem may_type {t : Int} {o : Opr} (hm : May t o) : typeP o.kd = (t, 0) := by
  obtain ⟨kd, a, b, rk, rn⟩ := o
  obtain ⟨-, -, -, h⟩ := hm
  dsimp only at h ⊢
  rcases h with ⟨rfl, -, h⟩ | ⟨rfl, -, h⟩ | ⟨rfl, h⟩ | ⟨rfl, -, h⟩ | ⟨rfl, -, -, -, h⟩
  · rcases h with rfl | ⟨rfl, -⟩ <;> decide
  · rcases h with rfl | rfl | rfl | ⟨rfl, -⟩ <;> decide
  · rcases h with rfl | ⟨-, rfl | rfl⟩ <;> decide
  · rcases h with rfl | ⟨-, rfl | rfl⟩ <;> decide
  · rcases h with rfl | rfl | ⟨rfl, -⟩ <;> decide

set_option maxHeartbeats 1000000 in
theorem may_1 (wh a b : Int) (w : World) (hwh : Small wh) (ha : Small a) (hp : pick wh 2 = 0) :
    Calls Tryd.prog 15 #[.int .i64 1, .int .i64 wh, .int .i64 a, .int .i64 b] w (Says (opV ⟨1, a, 0, 0, 0⟩) w) := by
  have H := fun W => mcpick_any wh 2 W hwh (by omega) (by omega)
  rw [hp] at H
  unfold opV
  go_enter Tryd.func15, Tryd.ntmps15
  go_wp2_with fail
  refine (H _).mono ?_
  rintro e w1 ⟨rfl, rfl⟩
  go_wp2
  refine bodyPost_ret (v := opV ⟨1, a, 0, 0, 0⟩) (by simp [results, Tryd.f15, go_sem, opV]) rfl ?_
  exact ⟨rfl, (alloc1 w _).alloc (by simp) _⟩
set_option maxHeartbeats 1000000 in
theorem may_2 (wh a b : Int) (w : World) (hwh : Small wh) (ha : Small a) (hp : pick wh 2 = 1) :
    Calls Tryd.prog 15 #[.int .i64 1, .int .i64 wh, .int .i64 a, .int .i64 b] w (Says (opV ⟨2, 0, 0, 0, 0⟩) w) := by
  have H := fun W => mcpick_any wh 2 W hwh (by omega) (by omega)
  rw [hp] at H
  unfold opV
  go_enter Tryd.func15, Tryd.ntmps15
  go_wp2_with fail
  refine (H _).mono ?_
  rintro e w1 ⟨rfl, rfl⟩
  go_wp2
  refine bodyPost_ret (v := opV ⟨2, 0, 0, 0, 0⟩) (by simp [results, Tryd.f15, go_sem, opV]) rfl ?_
  exact ⟨rfl, (alloc1 w _).alloc (by simp) _⟩
set_option maxHeartbeats 1000000 in
theorem may_3 (wh a b : Int) (w : World) (hwh : Small wh) (ha : Small a) (hp : pick wh 4 = 0) :
    Calls Tryd.prog 15 #[.int .i64 2, .int .i64 wh, .int .i64 a, .int .i64 b] w (Says (opV ⟨3, a, 0, 0, 0⟩) w) := by
  have H := fun W => mcpick_any wh 4 W hwh (by omega) (by omega)
  rw [hp] at H
  unfold opV
  go_enter Tryd.func15, Tryd.ntmps15
  go_wp2_with fail
  refine (H _).mono ?_
  rintro e w1 ⟨rfl, rfl⟩
  go_wp2
  refine bodyPost_ret (v := opV ⟨3, a, 0, 0, 0⟩) (by simp [results, Tryd.f15, go_sem, opV]) rfl ?_
  exact ⟨rfl, (alloc1 w _).alloc (by simp) _⟩
set_option maxHeartbeats 1000000 in
theorem may_4 (wh a b : Int) (w : World) (hwh : Small wh) (ha : Small a) (hp : pick wh 4 = 1) :
    Calls Tryd.prog 15 #[.int .i64 2, .int .i64 wh, .int .i64 a, .int .i64 b] w (Says (opV ⟨4, a, 0, 0, 0⟩) w) := by
  have H := fun W => mcpick_any wh 4 W hwh (by omega) (by omega)
  rw [hp] at H
  unfold opV
  go_enter Tryd.func15, Tryd.ntmps15
  go_wp2_with fail
  refine (H _).mono ?_
  rintro e w1 ⟨rfl, rfl⟩
  go_wp2
  refine bodyPost_ret (v := opV ⟨4, a, 0, 0, 0⟩) (by simp [results, Tryd.f15, go_sem, opV]) rfl ?_
  exact ⟨rfl, (alloc1 w _).alloc (by simp) _⟩
set_option maxHeartbeats 1000000 in
theorem may_5 (wh a b : Int) (w : World) (hwh : Small wh) (ha : Small a) (hp : pick wh 4 = 2) :
    Calls Tryd.prog 15 #[.int .i64 2, .int .i64 wh, .int .i64 a, .int .i64 b] w (Says (opV ⟨5, a, 0, 0, 0⟩) w) := by
  have H := fun W => mcpick_any wh 4 W hwh (by omega) (by omega)
  rw [hp] at H
  unfold opV
  go_enter Tryd.func15, Tryd.ntmps15
  go_wp2_with fail
  refine (H _).mono ?_
  rintro e w1 ⟨rfl, rfl⟩
  go_wp2
  refine bodyPost_ret (v := opV ⟨5, a, 0, 0, 0⟩) (by simp [results, Tryd.f15, go_sem, opV]) rfl ?_
  exact ⟨rfl, (alloc1 w _).alloc (by simp) _⟩
set_option maxHeartbeats 1000000 in
theorem may_6 (wh a b : Int) (w : World) (hwh : Small wh) (ha : Small a) (hp : pick wh 4 = 3) :
    Calls Tryd.prog 15 #[.int .i64 2, .int .i64 wh, .int .i64 a, .int .i64 b] w (Says (opV ⟨6, 0, 0, 0, 0⟩) w) := by
  have H := fun W => mcpick_any wh 4 W hwh (by omega) (by omega)
  rw [hp] at H
  unfold opV
  go_enter Tryd.func15, Tryd.ntmps15
  go_wp2_with fail
  refine (H _).mono ?_
  rintro e w1 ⟨rfl, rfl⟩
  go_wp2
  refine bodyPost_ret (v := opV ⟨6, 0, 0, 0, 0⟩) (by simp [results, Tryd.f15, go_sem, opV]) rfl ?_
  exact ⟨rfl, (alloc1 w _).alloc (by simp) _⟩
set_option maxHeartbeats 1000000 in
theorem may_7 (wh a b : Int) (w : World) (hwh : Small wh) (ha : Small a) (hp : pick wh 3 = 0) :
    Calls Tryd.prog 15 #[.int .i64 3, .int .i64 wh, .int .i64 a, .int .i64 b] w (Says (opV ⟨7, a, b, 0, 0⟩) w) := by
  have H := fun W => mcpick_any wh 3 W hwh (by omega) (by omega)
  rw [hp] at H
  unfold opV
  go_enter Tryd.func15, Tryd.ntmps15
  go_wp2_with fail
  refine (H _).mono ?_
  rintro e w1 ⟨rfl, rfl⟩
  go_wp2
  refine bodyPost_ret (v := opV ⟨7, a, b, 0, 0⟩) (by simp [results, Tryd.f15, go_sem, opV]) rfl ?_
  exact ⟨rfl, (alloc1 w _).alloc (by simp) _⟩
set_option maxHeartbeats 1000000 in
theorem may_8 (wh a b : Int) (w : World) (hwh : Small wh) (ha : Small a) (hp : pick wh 3 = 1) :
    Calls Tryd.prog 15 #[.int .i64 3, .int .i64 wh, .int .i64 a, .int .i64 b] w (Says (opV ⟨8, a, 0, 0, 0⟩) w) := by
  have H := fun W => mcpick_any wh 3 W hwh (by omega) (by omega)
  rw [hp] at H
  unfold opV
  go_enter Tryd.func15, Tryd.ntmps15
  go_wp2_with fail
  refine (H _).mono ?_
  rintro e w1 ⟨rfl, rfl⟩
  go_wp2
  refine bodyPost_ret (v := opV ⟨8, a, 0, 0, 0⟩) (by simp [results, Tryd.f15, go_sem, opV]) rfl ?_
  exact ⟨rfl, (alloc1 w _).alloc (by simp) _⟩
set_option maxHeartbeats 1000000 in
theorem may_9 (wh a b : Int) (w : World) (hwh : Small wh) (ha : Small a) (hp : pick wh 3 = 2) :
    Calls Tryd.prog 15 #[.int .i64 3, .int .i64 wh, .int .i64 a, .int .i64 b] w (Says (opV ⟨9, a, 0, 0, 0⟩) w) := by
  have H := fun W => mcpick_any wh 3 W hwh (by omega) (by omega)
  rw [hp] at H
  unfold opV
  go_enter Tryd.func15, Tryd.ntmps15
  go_wp2_with fail
  refine (H _).mono ?_
  rintro e w1 ⟨rfl, rfl⟩
  go_wp2
  refine bodyPost_ret (v := opV ⟨9, a, 0, 0, 0⟩) (by simp [results, Tryd.f15, go_sem, opV]) rfl ?_
  exact ⟨rfl, (alloc1 w _).alloc (by simp) _⟩
set_option maxHeartbeats 1000000 in
theorem may_10 (wh a b : Int) (w : World) (hwh : Small wh) (ha : Small a) (hp : pick wh 3 = 0) :
    Calls Tryd.prog 15 #[.int .i64 4, .int .i64 wh, .int .i64 a, .int .i64 b] w (Says (opV ⟨10, a, 0, 0, 0⟩) w) := by
  have H := fun W => mcpick_any wh 3 W hwh (by omega) (by omega)
  rw [hp] at H
  unfold opV
  go_enter Tryd.func15, Tryd.ntmps15
  go_wp2_with fail
  refine (H _).mono ?_
  rintro e w1 ⟨rfl, rfl⟩
  go_wp2
  refine bodyPost_ret (v := opV ⟨10, a, 0, 0, 0⟩) (by simp [results, Tryd.f15, go_sem, opV]) rfl ?_
  exact ⟨rfl, (alloc1 w _).alloc (by simp) _⟩
set_option maxHeartbeats 1000000 in
theorem may_11 (wh a b : Int) (w : World) (hwh : Small wh) (ha : Small a) (hp : pick wh 3 = 1) :
    Calls Tryd.prog 15 #[.int .i64 4, .int .i64 wh, .int .i64 a, .int .i64 b] w (Says (opV ⟨11, 0, 0, 0, 0⟩) w) := by
  have H := fun W => mcpick_any wh 3 W hwh (by omega) (by omega)
  rw [hp] at H
  unfold opV
  go_enter Tryd.func15, Tryd.ntmps15
  go_wp2_with fail
  refine (H _).mono ?_
  rintro e w1 ⟨rfl, rfl⟩
  go_wp2
  refine bodyPost_ret (v := opV ⟨11, 0, 0, 0, 0⟩) (by simp [results, Tryd.f15, go_sem, opV]) rfl ?_
  exact ⟨rfl, (alloc1 w _).alloc (by simp) _⟩
set_option maxHeartbeats 1000000 in
theorem may_12 (wh a b : Int) (w : World) (hwh : Small wh) (ha : Small a) (hp : pick wh 3 = 2) :
    Calls Tryd.prog 15 #[.int .i64 4, .int .i64 wh, .int .i64 a, .int .i64 b] w (Says (opV ⟨12, 0, 0, 0, 0⟩) w) := by
  have H := fun W => mcpick_any wh 3 W hwh (by omega) (by omega)
  rw [hp] at H
  unfold opV
  go_enter Tryd.func15, Tryd.ntmps15
  go_wp2_with fail
  refine (H _).mono ?_
  rintro e w1 ⟨rfl, rfl⟩
  go_wp2
  refine bodyPost_ret (v := opV ⟨12, 0, 0, 0, 0⟩) (by simp [results, Tryd.f15, go_sem, opV]) rfl ?_
  exact ⟨rfl, (alloc1 w _).alloc (by simp) _⟩
set_option maxHeartbeats 1000000 in
theorem may_13 (wh a b : Int) (w : World) (hwh : Small wh) (ha : Small a) (hp : pick wh 3 = 0) :
    Calls Tryd.prog 15 #[.int .i64 5, .int .i64 wh, .int .i64 a, .int .i64 b] w (Says (opV ⟨13, (pick a 4611686018427387904 + bits .and .i64 b 1), 0, 0, 0⟩) w) := by
  have H := fun W => mcpick_any wh 3 W hwh (by omega) (by omega)
  rw [hp] at H
  have H2 := fun W => mcpick_any a 4611686018427387904 W ha (by omega) (by omega)
  have hb := pick_bd a 4611686018427387904 (by omega)
  have hz := and_one b
  generalize pick a 4611686018427387904 = p at *
  generalize hq : bits .and .i64 b 1 = q at *
  have HS : wrap64 (p + q) = p + q := iwrap (by omega) (by omega)
  clear hb hz
  unfold opV
  go_enter Tryd.func15, Tryd.ntmps15
  go_wp2_with fail
  refine (H _).mono ?_
  rintro e w1 ⟨rfl, rfl⟩
  go_wp2_with fail
  refine (H2 _).mono ?_
  rintro e w1 ⟨rfl, rfl⟩
  go_wp2
  refine bodyPost_ret (v := opV ⟨13, (p + q), 0, 0, 0⟩) (by simp [results, Tryd.f15, go_sem, opV, HS]) rfl ?_
  exact ⟨rfl, (alloc1 w _).alloc (by simp) _⟩
set_option maxHeartbeats 1000000 in
theorem may_14 (wh a b : Int) (w : World) (hwh : Small wh) (ha : Small a) (hp : pick wh 3 = 1) :
    Calls Tryd.prog 15 #[.int .i64 5, .int .i64 wh, .int .i64 a, .int .i64 b] w (Says (opV ⟨14, (pick a 4611686018427387904 + bits .and .i64 b 1), 0, 0, 0⟩) w) := by
  have H := fun W => mcpick_any wh 3 W hwh (by omega) (by omega)
  rw [hp] at H
  have H2 := fun W => mcpick_any a 4611686018427387904 W ha (by omega) (by omega)
  have hb := pick_bd a 4611686018427387904 (by omega)
  have hz := and_one b
  generalize pick a 4611686018427387904 = p at *
  generalize hq : bits .and .i64 b 1 = q at *
  have HS : wrap64 (p + q) = p + q := iwrap (by omega) (by omega)
  clear hb hz
  unfold opV
  go_enter Tryd.func15, Tryd.ntmps15
  go_wp2_with fail
  refine (H _).mono ?_
  rintro e w1 ⟨rfl, rfl⟩
  go_wp2_with fail
  refine (H2 _).mono ?_
  rintro e w1 ⟨rfl, rfl⟩
  go_wp2
  refine bodyPost_ret (v := opV ⟨14, (p + q), 0, 0, 0⟩) (by simp [results, Tryd.f15, go_sem, opV, HS]) rfl ?_
  exact ⟨rfl, (alloc1 w _).alloc (by simp) _⟩
set_option maxHeartbeats 1000000 in
theorem may_15 (wh a b : Int) (w : World) (hwh : Small wh) (ha : Small a) (hp : pick wh 3 = 2) :
    Calls Tryd.prog 15 #[.int .i64 5, .int .i64 wh, .int .i64 a, .int .i64 b] w (Says (opV ⟨15, 0, 0, 0, 0⟩) w) := by
  have H := fun W => mcpick_any wh 3 W hwh (by omega) (by omega)
  rw [hp] at H
  have H2 := fun W => mcpick_any a 4611686018427387904 W ha (by omega) (by omega)
  have hb := pick_bd a 4611686018427387904 (by omega)
  have hz := and_one b
  generalize pick a 4611686018427387904 = p at *
  generalize hq : bits .and .i64 b 1 = q at *
  have HS : wrap64 (p + q) = p + q := iwrap (by omega) (by omega)
  clear hb hz
  unfold opV
  go_enter Tryd.func15, Tryd.ntmps15
  go_wp2_with fail
  refine (H _).mono ?_
  rintro e w1 ⟨rfl, rfl⟩
  go_wp2_with fail
  refine (H2 _).mono ?_
  rintro e w1 ⟨rfl, rfl⟩
  go_wp2
  refine bodyPost_ret (v := opV ⟨15, 0, 0, 0, 0⟩) (by simp [results, Tryd.f15, go_sem, opV, HS]) rfl ?_
  exact ⟨rfl, (alloc1 w _).alloc (by simp) _⟩

theorem may_any (t wh a b : Int) (hwh : Small wh) (ha : Small a) (h1 : 1 ≤ t) (h5 : t ≤ 5) : ∃ o, May t o ∧ ∀ w, Calls Tryd.prog 15 #[.int .i64 t, .int .i64 wh, .int .i64 a, .int .i64 b] w (Says (opV o) w) := by
  have s0 : Small 0 := by constructor <;> omega
  have hb := pick_bd a 4611686018427387904 (by omega)
  have hz := and_one b
  have sp : Small (pick a 4611686018427387904 + bits .and .i64 b 1) := by constructor <;> omega
  obtain rfl | rfl | rfl | rfl | rfl : t = 1 ∨ t = 2 ∨ t = 3 ∨ t = 4 ∨ t = 5 := by omega
  · have hp := pick_bd wh 2 (by omega)
    obtain hp | hp : pick wh 2 = 0 ∨ pick wh 2 = 1 := by omega
    · exact ⟨_, ⟨ha, rfl, rfl, by simp; try omega⟩, fun w => may_1 wh a b w hwh ha hp⟩
    · exact ⟨_, ⟨s0, rfl, rfl, by simp; try omega⟩, fun w => may_2 wh a b w hwh ha hp⟩
  · have hp := pick_bd wh 4 (by omega)
    obtain hp | hp | hp | hp : pick wh 4 = 0 ∨ pick wh 4 = 1 ∨ pick wh 4 = 2 ∨ pick wh 4 = 3 := by omega
    · exact ⟨_, ⟨ha, rfl, rfl, by simp; try omega⟩, fun w => may_3 wh a b w hwh ha hp⟩
    · exact ⟨_, ⟨ha, rfl, rfl, by simp; try omega⟩, fun w => may_4 wh a b w hwh ha hp⟩
    · exact ⟨_, ⟨ha, rfl, rfl, by simp; try omega⟩, fun w => may_5 wh a b w hwh ha hp⟩
    · exact ⟨_, ⟨s0, rfl, rfl, by simp; try omega⟩, fun w => may_6 wh a b w hwh ha hp⟩
  · have hp := pick_bd wh 3 (by omega)
    obtain hp | hp | hp : pick wh 3 = 0 ∨ pick wh 3 = 1 ∨ pick wh 3 = 2 := by omega
    · exact ⟨_, ⟨ha, rfl, rfl, by simp; try omega⟩, fun w => may_7 wh a b w hwh ha hp⟩
    · exact ⟨_, ⟨ha, rfl, rfl, by simp; try omega⟩, fun w => may_8 wh a b w hwh ha hp⟩
    · exact ⟨_, ⟨ha, rfl, rfl, by simp; try omega⟩, fun w => may_9 wh a b w hwh ha hp⟩
  · have hp := pick_bd wh 3 (by omega)
    obtain hp | hp | hp : pick wh 3 = 0 ∨ pick wh 3 = 1 ∨ pick wh 3 = 2 := by omega
    · exact ⟨_, ⟨ha, rfl, rfl, by simp; try omega⟩, fun w => may_10 wh a b w hwh ha hp⟩
    · exact ⟨_, ⟨s0, rfl, rfl, by simp; try omega⟩, fun w => may_11 wh a b w hwh ha hp⟩
    · exact ⟨_, ⟨s0, rfl, rfl, by simp; try omega⟩, fun w => may_12 wh a b w hwh ha hp⟩
  · have hp := pick_bd wh 3 (by omega)
    obtain hp | hp | hp : pick wh 3 = 0 ∨ pick wh 3 = 1 ∨ pick wh 3 = 2 := by omega
    · exact ⟨_, ⟨sp, rfl, rfl, by simp; try omega⟩, fun w => may_13 wh a b w hwh ha hp⟩
    · exact ⟨_, ⟨sp, rfl, rfl, by simp; try omega⟩, fun w => may_14 wh a b w hwh ha hp⟩
    · exact ⟨_, ⟨s0, rfl, rfl, by simp; try omega⟩, fun w => may_15 wh a b w hwh ha hp⟩
end Go.Proofs.YtmclpganipfadaaDoor
