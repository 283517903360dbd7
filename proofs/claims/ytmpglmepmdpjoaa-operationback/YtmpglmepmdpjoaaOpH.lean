/- kind. -/
import Derived.Test.YtmpglmepmdpjoaaOpG
import Derived.Test.YtmpglmepmdpjoaaOpF
import Derived.Test.YtmpglmepmdpjoaaTkTwH
import Derived.Deep.RegionHeld3
import Derived.RegionTactic
import Derived.BigRegion
namespace Go.Proofs.Ytmpglmepmdpjoaa
open Go.RowKit Go.Maps
set_option linter.unusedVariables false

def kindSt (s : ByteArray) (st : St) : St := match wordI s with
  | none => st
  | some i => { st with asked := some i, kd := (i : Int) + 1, steps := st.steps ++ ([1, 2].take (argN i) ++ [3, 4]) }

theorem size_set (w : World) (a : Addr) (v : Value) : (w.setCell a v).heap.size = w.heap.size := by simp [World.setCell]
theorem info_step : (Try.prog.info? 73).map (fun i => (i.zero, i.size, i.bytes)) = some (some .nilFunc, 1, 8) := by kernel_rfl
theorem rd_v (o : Option Nat) (kd a b k n : Int) (v u : Value) : (rdL o kd a b k n v).setIfInBounds 12 u = rdL o kd a b k n u := by cases o <;> rfl

/-- Steps were appended, and the slice was stored. -/
theorem Rd.pushed {W w5 : World} {lo B : Nat} {v v5 : Value} {st : St} {tmp : Obj} (h : Rd W lo B v st) (cs : List Nat) (hg : (W.alloc tmp).grownBy w5 v.ownBlock) (hr : w5.ownsRow lo 73 1 v5 (st.steps.length + cs.length) (st.steps.map (stepV B) ++ cs.map (stepV B))) (hlo : lo ≤ W.heap.size) :
    Rd (w5.setCell ⟨B, 12, none⟩ v5) lo B v5 { st with steps := st.steps ++ cs } ∧ Below lo W (w5.setCell ⟨B, 12, none⟩ v5) ∧ w5.cell? ⟨B, 12, none⟩ = some v ∧ w5.frozen? ⟨B, 12, none⟩ = false := by
  have hc5 : Holds w5 B 72 (rdL st.asked st.kd st.a st.b st.k st.n v) := (h.cells.alloc tmp).kept hg h.apart
  have hb5 : Below lo W w5 := ((Below.refl _ _).alloc hlo _).grown hg (by simp; omega) (fun k e => (h.row.lt k e).1)
  refine ⟨⟨?_, h.hB, ?_⟩, hb5.setCell h.hB _, hc5.c (rd_at _ _ _ _ _ _ _).2.2.2.2.2, hc5.frozen 12⟩
  · have := hc5.set 12 v5
    rwa [rd_v] at this
  · have hO : Only B w5 (w5.setCell ⟨B, 12, none⟩ v5) := (Only.of (Below.refl w5.heap.size w5) (Nat.le_refl _)).set 12 v5
    have e1 : ({ st with steps := st.steps ++ cs } : St).steps.length = st.steps.length + cs.length := by simp
    have e2 : ({ st with steps := st.steps ++ cs } : St).steps.map (stepV B) = st.steps.map (stepV B) ++ cs.map (stepV B) := by simp
    rw [e1, e2]
    exact hr.kept hO.grown (.inr (hc5.not_row hr (by decide)).symm)
theorem Rd.c12 {W : World} {lo B : Nat} {v : Value} {st : St} (h : Rd W lo B v st) : W.cell? ⟨B, 12, none⟩ = some v := h.cells.c (rd_at _ _ _ _ _ _ _).2.2.2.2.2

theorem set8 {W : World} {B : Nat} {t : TypeId} {i : Nat} {y0 y1 y2 y3 y4 y5 y6 y7 a b k n v : Value} (h : Holds W B t #[y0, y1, y2, y3, y4, y5, y6, y7, a, b, k, n, v]) (x0 x1 x2 x3 x4 x5 x6 x7 : Value) :
    Holds ((((((((W.setCell ⟨B, 0, none⟩ x0).setCell ⟨B, 1, none⟩ x1).setCell ⟨B, 2, none⟩ x2).setCell ⟨B, 3, none⟩ x3).setCell ⟨B, 4, none⟩ x4).setCell ⟨B, 5, none⟩ x5).setCell ⟨B, 6, none⟩ x6).setCell ⟨B, 7, none⟩ x7) B t #[x0, x1, x2, x3, x4, x5, x6, x7, a, b, k, n, v] := by
  have h0 : Holds (W.setCell ⟨B, 0, none⟩ x0) B t #[x0, y1, y2, y3, y4, y5, y6, y7, a, b, k, n, v] := h.set 0 x0
  have h1 : Holds ((W.setCell ⟨B, 0, none⟩ x0).setCell ⟨B, 1, none⟩ x1) B t #[x0, x1, y2, y3, y4, y5, y6, y7, a, b, k, n, v] := h0.set 1 x1
  have h2 : Holds (((W.setCell ⟨B, 0, none⟩ x0).setCell ⟨B, 1, none⟩ x1).setCell ⟨B, 2, none⟩ x2) B t #[x0, x1, x2, y3, y4, y5, y6, y7, a, b, k, n, v] := h1.set 2 x2
  have h3 : Holds ((((W.setCell ⟨B, 0, none⟩ x0).setCell ⟨B, 1, none⟩ x1).setCell ⟨B, 2, none⟩ x2).setCell ⟨B, 3, none⟩ x3) B t #[x0, x1, x2, x3, y4, y5, y6, y7, a, b, k, n, v] := h2.set 3 x3
  have h4 : Holds (((((W.setCell ⟨B, 0, none⟩ x0).setCell ⟨B, 1, none⟩ x1).setCell ⟨B, 2, none⟩ x2).setCell ⟨B, 3, none⟩ x3).setCell ⟨B, 4, none⟩ x4) B t #[x0, x1, x2, x3, x4, y5, y6, y7, a, b, k, n, v] := h3.set 4 x4
  have h5 : Holds ((((((W.setCell ⟨B, 0, none⟩ x0).setCell ⟨B, 1, none⟩ x1).setCell ⟨B, 2, none⟩ x2).setCell ⟨B, 3, none⟩ x3).setCell ⟨B, 4, none⟩ x4).setCell ⟨B, 5, none⟩ x5) B t #[x0, x1, x2, x3, x4, x5, y6, y7, a, b, k, n, v] := h4.set 5 x5
  have h6 : Holds (((((((W.setCell ⟨B, 0, none⟩ x0).setCell ⟨B, 1, none⟩ x1).setCell ⟨B, 2, none⟩ x2).setCell ⟨B, 3, none⟩ x3).setCell ⟨B, 4, none⟩ x4).setCell ⟨B, 5, none⟩ x5).setCell ⟨B, 6, none⟩ x6) B t #[x0, x1, x2, x3, x4, x5, x6, y7, a, b, k, n, v] := h5.set 6 x6
  have h7 : Holds ((((((((W.setCell ⟨B, 0, none⟩ x0).setCell ⟨B, 1, none⟩ x1).setCell ⟨B, 2, none⟩ x2).setCell ⟨B, 3, none⟩ x3).setCell ⟨B, 4, none⟩ x4).setCell ⟨B, 5, none⟩ x5).setCell ⟨B, 6, none⟩ x6).setCell ⟨B, 7, none⟩ x7) B t #[x0, x1, x2, x3, x4, x5, x6, x7, a, b, k, n, v] := h6.set 7 x7
  exact h7
theorem only8 (W : World) (B : Nat) (x0 x1 x2 x3 x4 x5 x6 x7 : Value) : Only B W ((((((((W.setCell ⟨B, 0, none⟩ x0).setCell ⟨B, 1, none⟩ x1).setCell ⟨B, 2, none⟩ x2).setCell ⟨B, 3, none⟩ x3).setCell ⟨B, 4, none⟩ x4).setCell ⟨B, 5, none⟩ x5).setCell ⟨B, 6, none⟩ x6).setCell ⟨B, 7, none⟩ x7) :=
  ((((((((Only.of (Below.refl W.heap.size W) (Nat.le_refl _)).set 0 x0).set 1 x1).set 2 x2).set 3 x3).set 4 x4).set 5 x5).set 6 x6).set 7 x7
theorem Only.drew {B : Nat} {w w' : World} (h : Only B w w') : Only B w w'.drew := ⟨h.os, h.tape, h.output, h.size, h.block⟩
theorem Holds.drew {W : World} {B : Nat} {t : TypeId} {cs : Array Value} (h : Holds W B t cs) : Holds W.drew B t cs := h

set_option maxRecDepth 100000 in
set_option maxHeartbeats 2000000 in
theorem kind_step (s : ByteArray) (lo B : Nat) (v : Value) (st : St) (W : World) (h : Rd W lo B v st) (hlo : lo ≤ W.heap.size) (hl : st.steps.length ≤ 1000) :
    Calls Try.prog 40 #[.pointer (some ⟨B, 0, none⟩), .string s] W (StepPost lo B (kindSt s st) (errOf (wordI s)) W) := by
  have H := fun W => find_word s W
  have HK : Hid (kindSt s st = match wordI s with | none => st | some i => { st with asked := some i, kd := (i : Int) + 1, steps := st.steps ++ ([1, 2].take (argN i) ++ [3, 4]) }) := Lib.hid rfl
  have HR := Lib.hid h
  clear h
  unfold fv at H
  generalize kindSt s st = st' at HK
  generalize wordI s = o at H HK
  cases o with
  | none =>
    go_enter Try.func40, Try.ntmps40
    go_wp2_with fail
    refine (H _).mono ?_
    rintro e w1 ⟨rfl, hB1⟩
    simp only [ruleOf, rule0, errOf]
    go_wp2
    go_ret
    refine ⟨rfl, v, ?_, (hB1.alloc hB1.size _).mono hlo⟩
    rw [HK.out]
    exact HR.out.below (hB1.alloc hB1.size _) (Nat.le_refl _)
  | some i =>
    have HK' : Hid (st' = { st with asked := some i, kd := (i : Int) + 1, steps := st.steps ++ ([1, 2].take (argN i) ++ [3, 4]) }) := Lib.hid HK.out
    clear HK
    obtain ⟨x4, x5, x6, hx⟩ := ruleV_eq i
    go_enter Try.func40, Try.ntmps40
    go_wp2_with fail
    refine (H _).mono ?_
    rintro e w1 ⟨rfl, hB1⟩
    simp only [ruleOf, hx, errOf]
    have HX := Lib.hid hx
    clear hx
    go_wp2_with fail
    have hRn := Holds.new w1 52 #[.int .i64 ((i : Int) + 1), .int .i64 (objN i), .string (wordB i), .int .i64 (argN i), .func (.func x4) #[] #[], .func (.func x5) #[] #[], .func (.func x6) #[] #[]]
    have hRd2 := HR.out.below (hB1.alloc hB1.size (.cells #[.int .i64 ((i : Int) + 1), .int .i64 (objN i), .string (wordB i), .int .i64 (argN i), .func (.func x4) #[] #[], .func (.func x5) #[] #[], .func (.func x6) #[] #[]] 52)) (Nat.le_refl _)
    have hBW : B < w1.heap.size := by have := HR.out.lt; have := hB1.size; omega
    have hB2 := hB1.alloc hB1.size (.cells #[.int .i64 ((i : Int) + 1), .int .i64 (objN i), .string (wordB i), .int .i64 (argN i), .func (.func x4) #[] #[], .func (.func x5) #[] #[], .func (.func x6) #[] #[]] 52)
    obtain ⟨W2, hW2⟩ : ∃ W2, W2 = w1.alloc (.cells #[.int .i64 ((i : Int) + 1), .int .i64 (objN i), .string (wordB i), .int .i64 (argN i), .func (.func x4) #[] #[], .func (.func x5) #[] #[], .func (.func x6) #[] #[]] 52) := ⟨_, rfl⟩
    rw [← hW2] at hRn hRd2 hB2 ⊢
    clear hW2
    obtain ⟨R, hR⟩ : ∃ R, w1.heap.size = R := ⟨_, rfl⟩
    rw [hR] at hRn hBW ⊢
    clear hR hB1 H
    have hne : B ≠ R := by omega
    have hne' : R ≠ B := by omega
    have r0 := hRn.c (j := 0) rfl
    have r1 := hRn.c (j := 1) rfl
    have r2 := hRn.c (j := 2) rfl
    have r3 := hRn.c (j := 3) rfl
    have r4 := hRn.c (j := 4) rfl
    have r5 := hRn.c (j := 5) rfl
    have r6 := hRn.c (j := 6) rfl
    obtain ⟨y0, y1, y2, y3, y4, y5, y6, hy⟩ : ∃ y0 y1 y2 y3 y4 y5 y6, rdL st.asked st.kd st.a st.b st.k st.n v = #[y0, y1, y2, y3, y4, y5, y6, .int .i64 st.kd, .int .i64 st.a, .int .i64 st.b, .int .i64 st.k, .int .i64 st.n, v] := by
      cases st.asked <;> exact ⟨_, _, _, _, _, _, _, rfl⟩
    have hc2 := hRd2.cells
    rw [hy] at hc2
    have b0 := hc2.c (j := 0) rfl
    have b1 := hc2.c (j := 1) rfl
    have b2 := hc2.c (j := 2) rfl
    have b3 := hc2.c (j := 3) rfl
    have b4 := hc2.c (j := 4) rfl
    have b5 := hc2.c (j := 5) rfl
    have b6 := hc2.c (j := 6) rfl
    have b7 := hc2.c (j := 7) rfl
    have f0 := hc2.frozen 0
    have f1 := hc2.frozen 1
    have f2 := hc2.frozen 2
    have f3 := hc2.frozen 3
    have f4 := hc2.frozen 4
    have f5 := hc2.frozen 5
    have f6 := hc2.frozen 6
    have f7 := hc2.frozen 7
    have HY := Lib.hid hy
    have HRd2 := Lib.hid hRd2
    have HC2 := Lib.hid hc2
    have HRn := Lib.hid hRn
    clear hy hRd2 hc2 hRn
    go_region_held3 (fun w' => w'.cell? ⟨R, 0, none⟩ = some (.int .i64 ((i : Int) + 1)) ∧ w'.cell? ⟨R, 1, none⟩ = some (.int .i64 (objN i)) ∧ w'.cell? ⟨R, 2, none⟩ = some (.string (wordB i)) ∧ w'.cell? ⟨R, 3, none⟩ = some (.int .i64 (argN i)) ∧ w'.cell? ⟨R, 4, none⟩ = some (.func (.func x4) #[] #[]) ∧ w'.cell? ⟨R, 5, none⟩ = some (.func (.func x5) #[] #[]) ∧ w'.cell? ⟨R, 6, none⟩ = some (.func (.func x6) #[] #[])) (first | go_keep) (fail)
    have hO3 := (only8 W2 B (.int .i64 ((i : Int) + 1)) (.int .i64 (objN i)) (.string (wordB i)) (.int .i64 (argN i)) (.func (.func x4) #[] #[]) (.func (.func x5) #[] #[]) (.func (.func x6) #[] #[]) (.int .i64 ((i : Int) + 1))).drew
    have hc3 := (set8 (i := i) HC2.out (.int .i64 ((i : Int) + 1)) (.int .i64 (objN i)) (.string (wordB i)) (.int .i64 (argN i)) (.func (.func x4) #[] #[]) (.func (.func x5) #[] #[]) (.func (.func x6) #[] #[]) (.int .i64 ((i : Int) + 1))).drew
    obtain ⟨W3, hW3⟩ : ∃ W3, W3 = ((((((((W2.setCell ⟨B, 0, none⟩ (.int .i64 ((i : Int) + 1))).setCell ⟨B, 1, none⟩ (.int .i64 (objN i))).setCell ⟨B, 2, none⟩ (.string (wordB i))).setCell ⟨B, 3, none⟩ (.int .i64 (argN i))).setCell ⟨B, 4, none⟩ (.func (.func x4) #[] #[])).setCell ⟨B, 5, none⟩ (.func (.func x5) #[] #[])).setCell ⟨B, 6, none⟩ (.func (.func x6) #[] #[])).setCell ⟨B, 7, none⟩ (.int .i64 ((i : Int) + 1))).drew := ⟨_, rfl⟩
    rw [← hW3] at hO3 hc3 ⊢
    clear hW3 b0 b1 b2 b3 b4 b5 b6 b7 f0 f1 f2 f3 f4 f5 f6 f7 r0 r1 r2 r3 r4 r5 r6
    have hR3 := HRn.out.of (hO3.block R HRn.out.lt hne')
    have hL : ruleL i = [.int .i64 ((i : Int) + 1), .int .i64 (objN i), .string (wordB i), .int .i64 (argN i), .func (.func x4) #[] #[], .func (.func x5) #[] #[], .func (.func x6) #[] #[]] := by
      have h := HX.out
      rw [ruleV] at h
      injection h with h
      exact congrArg Array.toList h
    obtain ⟨st3, hst3⟩ : ∃ st3 : St, st3 = { st with asked := some i, kd := (i : Int) + 1 } := ⟨_, rfl⟩
    have hRd3 : Rd W3 lo B v st3 := HRd2.out.turn hO3 st3 (by rw [hst3]) (by
      rw [hst3]
      simp only [rdL, hL]
      exact hc3)
    have hB3 : Below lo W W3 := (hB2.mono hlo).trans (hO3.below HR.out.hB (Nat.le_trans hlo hB2.size))
    have hlo3 : lo ≤ W3.heap.size := Nat.le_trans hlo hB3.size
    have hl3 : st3.steps.length ≤ 1000 := by rw [hst3]; exact hl
    have HST : Hid (st' = { st3 with steps := st3.steps ++ ([1, 2].take (argN i) ++ [3, 4]) }) := Lib.hid (by rw [HK'.out, hst3])
    have HRd3 := Lib.hid hRd3
    have c12 := hRd3.c12
    have f12 := hRd3.cells.frozen 12
    have hm := argN_le i
    clear hst3 hRd3 hc3 HC2 HRd2 hB2 hO3 HK' HX hL
    obtain ⟨i0, hi, hz0, hz1, hz2⟩ := info_parts info_step
    generalize argN i = m at *
    obtain rfl | rfl | rfl : m = 0 ∨ m = 1 ∨ m = 2 := by omega
    · have r3 := hR3.c (j := 3) rfl
      go_wp2_with (at_builtin; refine wpList_append_own_at _ rfl _ _ 70 rfl lo 73 i0 .nilFunc 1 8 Try.underlying70 hi hz0 hz1 hz2 rfl (by decide) _ _ _ rfl (HRd3.out.row.alloc _) ⟨W3.heap.size, 0, none⟩ 2 2 [stepV B 3, stepV B 4] rfl rfl (cell_two_new _ _ _ _) (by intro u hu; simp at hu; rcases hu with rfl | rfl <;> rfl) (by unfold maxLen; omega) (by omega) (by simp; omega) ?_; intro v5 w5 hown5 hg5 hnil5 hat5; obtain ⟨hp5, hb5, c125, f125⟩ := HRd3.out.pushed [3, 4] hg5 hown5 hlo3; obtain ⟨A5, c5, rfl⟩ := row_one hown5)
      go_ret
      have est : st' = { st3 with steps := st3.steps ++ [3, 4] } := by rw [HST.out]; simp
      rw [est]
      exact ⟨rfl, _, hp5, hB3.trans hb5⟩
    · have r3 := hR3.c (j := 3) rfl
      go_wp2_with (first | (at_builtin; refine wpList_append_own_at _ rfl _ _ 70 rfl lo 73 i0 .nilFunc 1 8 Try.underlying70 hi hz0 hz1 hz2 rfl (by decide) _ _ _ rfl (HRd3.out.row.alloc _) ⟨W3.heap.size, 0, none⟩ 1 1 [stepV B 1] rfl rfl (cell_one_new _ _ _) (by intro u hu; simp at hu; subst hu; rfl) (by unfold maxLen; omega) (by omega) (by simp; omega) ?_; intro v5 w5 hown5 hg5 hnil5 hat5; have hR5 := (hR3.alloc _).kept hg5 (hR3.not_row HRd3.out.row (by decide)); obtain ⟨hp5, hb5, c125, f125⟩ := HRd3.out.pushed [1] hg5 hown5 hlo3; obtain ⟨st5, hst5⟩ : ∃ st5 : St, st5 = { st3 with steps := st3.steps ++ [1] } := ⟨_, rfl⟩; rw [← hst5] at hp5; have hl5 : st5.steps.length ≤ 1005 := (by rw [hst5]; simp; omega); have HS5 := Lib.hid hst5; clear hst5; have hR5' := hR5.of (Below.heap_setCell w5 ⟨B, 12, none⟩ v5 R hne'); have r35 := hR5'.c (j := 3) rfl; have e125 := hp5.c12; have g125 := hp5.cells.frozen 12; have hlo5 := Nat.le_trans hlo3 hb5.size; have HRd5 := Lib.hid hp5; have hs5 : lo ≤ w5.heap.size := (by rw [size_set] at hlo5; exact hlo5); obtain ⟨A5, c5, rfl⟩ := row_one hown5) | (at_builtin; refine wpList_append_own_at _ rfl _ _ 70 rfl lo 73 i0 .nilFunc 1 8 Try.underlying70 hi hz0 hz1 hz2 rfl (by decide) _ _ _ rfl (HRd5.out.row.alloc _) ⟨w5.heap.size, 0, none⟩ 2 2 [stepV B 3, stepV B 4] rfl rfl (fun j u hj => by have h := cell_two_new (w5.setCell ⟨B, 12, none⟩ (.slice A5 (st3.steps.length + 1) c5)) 73 (stepV B 3) (stepV B 4) j u hj; rw [size_set] at h; exact h) (by intro u hu; simp at hu; rcases hu with rfl | rfl <;> rfl) (by unfold maxLen; omega) (by omega) (by simp; omega) ?_; intro v6 w6 hown6 hg6 hnil6 hat6; obtain ⟨hp6, hb6, c126, f126⟩ := HRd5.out.pushed [3, 4] hg6 hown6 hlo5; obtain ⟨A6, c6, rfl⟩ := row_one hown6))
      go_ret
      have est : st' = { st5 with steps := st5.steps ++ [3, 4] } := by rw [HST.out, HS5.out]; simp
      rw [est]
      exact ⟨rfl, _, hp6, (hB3.trans hb5).trans hb6⟩
    · have r3 := hR3.c (j := 3) rfl
      go_wp2_with (first | (at_builtin; refine wpList_append_own_at _ rfl _ _ 70 rfl lo 73 i0 .nilFunc 1 8 Try.underlying70 hi hz0 hz1 hz2 rfl (by decide) _ _ _ rfl (HRd3.out.row.alloc _) ⟨W3.heap.size, 0, none⟩ 1 1 [stepV B 1] rfl rfl (cell_one_new _ _ _) (by intro u hu; simp at hu; subst hu; rfl) (by unfold maxLen; omega) (by omega) (by simp; omega) ?_; intro v5 w5 hown5 hg5 hnil5 hat5; have hR5 := (hR3.alloc _).kept hg5 (hR3.not_row HRd3.out.row (by decide)); obtain ⟨hp5, hb5, c125, f125⟩ := HRd3.out.pushed [1] hg5 hown5 hlo3; obtain ⟨st5, hst5⟩ : ∃ st5 : St, st5 = { st3 with steps := st3.steps ++ [1] } := ⟨_, rfl⟩; rw [← hst5] at hp5; have hl5 : st5.steps.length ≤ 1005 := (by rw [hst5]; simp; omega); have HS5 := Lib.hid hst5; clear hst5; have hR5' := hR5.of (Below.heap_setCell w5 ⟨B, 12, none⟩ v5 R hne'); have r35 := hR5'.c (j := 3) rfl; have e125 := hp5.c12; have g125 := hp5.cells.frozen 12; have hlo5 := Nat.le_trans hlo3 hb5.size; have HRd5 := Lib.hid hp5; have hs5 : lo ≤ w5.heap.size := (by rw [size_set] at hlo5; exact hlo5); obtain ⟨A5, c5, rfl⟩ := row_one hown5) | (at_builtin; refine wpList_append_own_at _ rfl _ _ 70 rfl lo 73 i0 .nilFunc 1 8 Try.underlying70 hi hz0 hz1 hz2 rfl (by decide) _ _ _ rfl (HRd5.out.row.alloc _) ⟨w5.heap.size, 0, none⟩ 1 1 [stepV B 2] rfl rfl (fun j u hj => by have h := cell_one_new (w5.setCell ⟨B, 12, none⟩ (.slice A5 (st3.steps.length + 1) c5)) (stepV B 2) 73 j u hj; rw [size_set] at h; exact h) (by intro u hu; simp at hu; subst hu; rfl) (by unfold maxLen; omega) (by omega) (by simp; omega) ?_; intro v6 w6 hown6 hg6 hnil6 hat6; have hR6 := (hR5'.alloc _).kept hg6 (hR5'.not_row HRd5.out.row (by decide)); obtain ⟨hp6, hb6, c126, f126⟩ := HRd5.out.pushed [2] hg6 hown6 hlo5; obtain ⟨st6, hst6⟩ : ∃ st6 : St, st6 = { st5 with steps := st5.steps ++ [2] } := ⟨_, rfl⟩; rw [← hst6] at hp6; have hl6 : st6.steps.length ≤ 1006 := (by rw [hst6]; simp; omega); have HS6 := Lib.hid hst6; clear hst6; have hR6' := hR6.of (Below.heap_setCell w6 ⟨B, 12, none⟩ v6 R hne'); have r36 := hR6'.c (j := 3) rfl; have e126 := hp6.c12; have g126 := hp6.cells.frozen 12; have hlo6 := Nat.le_trans hlo5 hb6.size; have HRd6 := Lib.hid hp6; have hs6 : lo ≤ w6.heap.size := (by rw [size_set] at hlo6; exact hlo6); obtain ⟨A6, c6, rfl⟩ := row_one hown6) | (at_builtin; refine wpList_append_own_at _ rfl _ _ 70 rfl lo 73 i0 .nilFunc 1 8 Try.underlying70 hi hz0 hz1 hz2 rfl (by decide) _ _ _ rfl (HRd6.out.row.alloc _) ⟨w6.heap.size, 0, none⟩ 2 2 [stepV B 3, stepV B 4] rfl rfl (fun j u hj => by have h := cell_two_new (w6.setCell ⟨B, 12, none⟩ (.slice A6 (st5.steps.length + 1) c6)) 73 (stepV B 3) (stepV B 4) j u hj; rw [size_set] at h; exact h) (by intro u hu; simp at hu; rcases hu with rfl | rfl <;> rfl) (by unfold maxLen; omega) (by omega) (by simp; omega) ?_; intro v7 w7 hown7 hg7 hnil7 hat7; obtain ⟨hp7, hb7, c127, f127⟩ := HRd6.out.pushed [3, 4] hg7 hown7 hlo6; obtain ⟨A7, c7, rfl⟩ := row_one hown7))
      go_ret
      have est : st' = { st6 with steps := st6.steps ++ [3, 4] } := by rw [HST.out, HS6.out, HS5.out]; simp
      rw [est]
      exact ⟨rfl, _, hp7, ((hB3.trans hb5).trans hb6).trans hb7⟩
end Go.Proofs.Ytmpglmepmdpjoaa
