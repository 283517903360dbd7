/- The document's Check, whole. -/
import Derived.Test.YtmpglmepmdpjoaaOpT
import Derived.Test.YtmpglmepmdpjoaaWalkI
namespace Go.Proofs.Ytmpglmepmdpjoaa
open Go.RowKit Go.Maps
set_option linter.unusedVariables false

theorem check_eq (i : Nat) (hi : i < 15) (a b k n : Int) : checkI i a b k n = if ((argN i < 1 ∧ a ≠ 0) ∨ (argN i < 2 ∧ b ≠ 0) ∨ (objN i = 5 ∧ (a < 0 ∨ 4611686018427387904 < a))) then 2 else if rokR (rR i) k n = false then 9 else 0 := by
  rw [rok_ok i hi]
  unfold checkI
  have h := chk_iff i hi a b
  by_cases hp : okN (mA i) a = false ∨ okN (mB i) b = false
  · rw [if_pos hp, if_pos (h.2 hp)]
  · rw [if_neg hp, if_neg (fun q => hp (h.1 q))]

set_option maxRecDepth 100000 in
theorem rcheck_any (kd a b k n : Int) (w : World) : Calls Try.prog 19 #[opV kd a b k n] w (Says (.int .i64 (checkP kd a b k n)) w) := by
  cases ho : kindI kd with
  | none =>
    have H := fun W => rof_any kd W
    rw [ho] at H
    have hP : Hid (checkP kd a b k n = 6) := Lib.hid (by unfold checkP; rw [ho])
    generalize checkP kd a b k n = r at hP
    unfold opV
    clear ho
    go_enter Try.func19, Try.ntmps19
    go_wp2_with fail
    refine (H _).mono ?_
    rintro e w1 ⟨rfl, hB1⟩
    simp only [rkV, Option.isSome]
    have hs := hB1.size
    simp only [World.size_alloc] at hs
    go_wp2
    go_ret
    exact ⟨by rw [hP.out]; rfl, Below.alloc (nxt ((Below.refl _ _).alloc (Nat.le_refl _) _) hB1 (by simp)) (by omega) _⟩
  | some i =>
    have hi := (kindI_lt ho).1
    have hP : checkP kd a b k n = checkI i a b k n := by unfold checkP; rw [ho]
    rw [hP, check_eq i hi]
    have HO : ∀ W, Calls Try.prog 31 #[.int .i64 kd] W fun e w' => e = .returned (.tuple #[.agg #[.int .i64 (objN i), .int .i64 (argN i), .int .i64 (rR i), .string (wordB i)], .bool true]) ∧ Below W.heap.size W w' := fun W => by
      have := rof_any kd W
      rw [ho] at this
      exact this
    have HR := fun W => rret_any (rR i) (rR_le i) (objN i) (argN i) (wordB i) k n W
    have hm := argN_le i
    obtain hm | hm | hm : argN i = 0 ∨ argN i = 1 ∨ argN i = 2 := by omega
    all_goals
      rw [hm] at HO HR ⊢
      by_cases h5 : objN i = 5
    · have := rcheck_0y kd a b k n (objN i) (rR i) (wordB i) (rokR (rR i) k n) w (by rw [h5]; rfl) HO HR
      change Calls Try.prog _ _ w (RCk w _)
      simpa [h5] using this
    · have := rcheck_0n kd a b k n (objN i) (rR i) (wordB i) (rokR (rR i) k n) w (by rw [beq_eq_false_iff_ne]; omega) HO HR
      change Calls Try.prog _ _ w (RCk w _)
      simpa [h5] using this
    · have := rcheck_1y kd a b k n (objN i) (rR i) (wordB i) (rokR (rR i) k n) w (by rw [h5]; rfl) HO HR
      change Calls Try.prog _ _ w (RCk w _)
      simpa [h5] using this
    · have := rcheck_1n kd a b k n (objN i) (rR i) (wordB i) (rokR (rR i) k n) w (by rw [beq_eq_false_iff_ne]; omega) HO HR
      change Calls Try.prog _ _ w (RCk w _)
      simpa [h5] using this
    · have := rcheck_2y kd a b k n (objN i) (rR i) (wordB i) (rokR (rR i) k n) w (by rw [h5]; rfl) HO HR
      change Calls Try.prog _ _ w (RCk w _)
      simpa [h5] using this
    · have := rcheck_2n kd a b k n (objN i) (rR i) (wordB i) (rokR (rR i) k n) w (by rw [beq_eq_false_iff_ne]; omega) HO HR
      change Calls Try.prog _ _ w (RCk w _)
      simpa [h5] using this

theorem strs_app (a b : List Int) : strOfNums a ++ strOfNums b = strOfNums (a ++ b) := by
  apply ByteArray.ext
  rw [ByteArray.data_append]
  simp [strOfNums]
theorem putB_nums (n : Int) : putB n = strOfNums (nums (putB n)) := (strOf_nums _).symm

/-- The words ahead of the arrow, joined. -/
def headS (i j : Nat) (a b : Int) : ByteArray := strOfNums (jl (wordB i :: argW j a b))
theorem headS_zero (i : Nat) (a b : Int) : headS i 0 a b = wordB i := by
  rw [headS, show argW 0 a b = [] from rfl, jl_one, strOf_nums]
theorem headS_step (i j m : Nat) (a b : Int) (hj : j < m) (hm : m ≤ 2) : headS i j a b ++ ⟨#[32]⟩ ++ putB ([a, b][j]?.getD 0) = headS i (j + 1) a b := by
  rw [headS, headS, argW_step m a b j hj hm, ← List.cons_append, jl_snoc _ _ (by simp), show (⟨#[32]⟩ : ByteArray) = strOfNums [32] from rfl, strs_app, putB_nums, strs_app]
  congr 1
  simp [strOf_nums]
theorem headS_size (i j : Nat) (a b : Int) (hi : i < 15) (hj : j ≤ 2) : (headS i j a b).size ≤ 100 := by
  rw [headS, strOfNums_size]
  have h1 := jl_len (wordB i :: argW j a b) (by simp)
  have h2 := szs_bound (wordB i :: argW j a b) 21 (fun s hs => by
    rcases List.mem_cons.1 hs with rfl | h
    · have := (wordB_fine i hi).2.2; omega
    · obtain ⟨x, rfl⟩ := argW_mem h
      exact putB_size x)
  have h3 : (wordB i :: argW j a b).length = j + 1 := by rw [List.length_cons, argW_l a b j hj]
  rw [h3] at h1 h2
  have : (j + 1) * 21 ≤ 3 * 21 := Nat.mul_le_mul_right _ (by omega)
  omega
theorem headS_end (i : Nat) (a b k n : Int) : headS i (argN i) a b ++ ⟨#[32, 45, 62, 32]⟩ ++ retB k n = strOfNums (jl (opW i a b k n)) := by
  have e1 : opW i a b k n = ((wordB i :: argW (argN i) a b) ++ [arrB]) ++ [retB k n] := by rw [opW]; simp
  rw [headS, e1, jl_snoc _ _ (by simp), jl_snoc _ _ (by simp), show (⟨#[32, 45, 62, 32]⟩ : ByteArray) = strOfNums [32, 45, 62, 32] from rfl, strs_app]
  have e2 : retB k n = strOfNums (nums (retB k n)) := (strOf_nums _).symm
  rw [e2, strs_app]
  congr 1
  rw [show nums arrB = [45, 62] from rfl]
  simp [strOf_nums]

set_option maxRecDepth 100000 in
set_option maxHeartbeats 2000000 in
theorem rtext_any (kd a b k n : Int) (w : World) (ha : I64 a) (hb : I64 b) (hn : I64 n) : Calls Try.prog 17 #[opV kd a b k n] w (Says (.tuple #[.string (textS kd a b k n), .int .i64 (checkP kd a b k n)]) w) := by
  have HC := fun W => rcheck_any kd a b k n W
  have HH := Lib.hid (Holds.new w 25 #[.int .i64 kd, .int .i64 a, .int .i64 b, .int .i64 k, .int .i64 n])
  by_cases hz : checkP kd a b k n = 0
  · obtain ⟨i, ho⟩ : ∃ i, kindI kd = some i := by
      unfold checkP at hz
      cases h : kindI kd with
      | none => rw [h] at hz; exact absurd (show (6 : Int) = 0 from hz) (by decide)
      | some i => exact ⟨i, rfl⟩
    have hi := (kindI_lt ho).1
    have hc0 : checkI i a b k n = 0 := by unfold checkP at hz; rw [ho] at hz; exact hz
    have HT : Hid (textS kd a b k n = headS i (argN i) a b ++ ⟨#[32, 45, 62, 32]⟩ ++ retB k n) := Lib.hid (by unfold textS; rw [ho, headS_end]; simp [hc0])
    have HF : ∀ W, Calls Try.prog 31 #[.int .i64 kd] W fun e w' => e = .returned (.tuple #[.agg #[.int .i64 (objN i), .int .i64 (argN i), .int .i64 (rR i), .string (wordB i)], .bool true]) ∧ Below W.heap.size W w' := fun W => by
      have := rof_any kd W
      rw [ho] at this
      exact this
    rw [hz] at HC ⊢
    have HST := Lib.hid (fun j (hj : j < argN i) => headS_step i j (argN i) a b hj (argN_le i))
    have HSZ := Lib.hid (fun j (hj : j ≤ 2) => headS_size i j a b hi hj)
    have H0 := Lib.hid (headS_zero i a b)
    have HPa := Lib.hid (fun W => rput_any a W ha.1 ha.2)
    have HPb := Lib.hid (fun W => rput_any b W hb.1 hb.2)
    have HPn := Lib.hid (fun W => rput_any n W hn.1 hn.2)
    have hm := argN_le i
    generalize textS kd a b k n = tx at HT
    generalize (objN i : Int) = y1 at *
    generalize (rR i : Int) = y3 at *
    unfold opV at HC ⊢
    clear hz hc0 ho
    generalize headS i = hd at *
    generalize wordB i = wd at *
    generalize argN i = m at *
    go_enter Try.func17, Try.ntmps17
    go_wp2_with fail
    refine (HC _).mono ?_
    rintro e w1 ⟨rfl, hB1⟩
    have hs1 := hB1.size
    simp only [World.size_alloc] at hs1
    have HH1 := HH.out.below hB1 (by simp)
    have o0 := HH1.c (j := 0) rfl
    go_wp2_with fail
    refine (HF _).mono ?_
    rintro e w2 ⟨rfl, hB2⟩
    have hs2 := hB2.size
    have HH2 := (HH1.below hB2 (by omega)).alloc (.cells #[.int .i64 y1, .int .i64 m, .int .i64 y3, .string wd] 57)
    have o1 := HH2.c (j := 1) rfl
    have o2 := HH2.c (j := 2) rfl
    have hB02 : Below w.heap.size w w2 := nxt (nxt ((Below.refl _ _).alloc (Nat.le_refl _) _) hB1 (by simp)) hB2 (by omega)
    have HK3 := (Holds.new w2 57 #[.int .i64 y1, .int .i64 m, .int .i64 y3, .string wd]).alloc (.cells #[.int .i64 a, .int .i64 b] 3)
    have HI3 := Holds.new (w2.alloc (.cells #[.int .i64 y1, .int .i64 m, .int .i64 y3, .string wd] 57)) 3 #[.int .i64 a, .int .i64 b]
    rw [World.size_alloc] at HI3
    have HH3 := HH2.alloc (.cells #[.int .i64 a, .int .i64 b] 3)
    have hB3 : Below w.heap.size w ((w2.alloc (.cells #[.int .i64 y1, .int .i64 m, .int .i64 y3, .string wd] 57)).alloc (.cells #[.int .i64 a, .int .i64 b] 3)) := (hB02.alloc hB02.size _).alloc (by simp; have := hB02.size; omega) _
    go_wp2_with fail
    obtain ⟨W3, hW3⟩ : ∃ W3, W3 = (w2.alloc (.cells #[.int .i64 y1, .int .i64 m, .int .i64 y3, .string wd] 57)).alloc (.cells #[.int .i64 a, .int .i64 b] 3) := ⟨_, rfl⟩
    rw [← hW3] at HK3 HI3 HH3 hB3 ⊢
    have hs3 : W3.heap.size = w2.heap.size + 1 + 1 := by rw [hW3]; simp
    clear hW3 o0 o1 o2 HH1 HH2 HH
    go_loopw [7, 9] (fun s7 i9 wr => ∃ j : Nat, j ≤ m ∧ i9 = .int .i64 j ∧ s7 = .string (hd j a b) ∧ Below W3.heap.size W3 wr) (fun s7 i9 wr => m - (intOf i9).toNat)
    case atStart => exact ⟨0, Nat.zero_le _, rfl, by rw [H0.out], Below.refl _ _⟩
    case round =>
      obtain ⟨j, hj, rfl, rfl, hB⟩ := hrel
      have HKr := HK3.below hB (by omega)
      have HIr := HI3.below hB (by omega)
      have HHr := HH3.below hB HH3.lt
      have kc := HKr.c (j := 1) rfl
      have hsz := HSZ.out j (by omega)
      by_cases hlt : j < m
      · have j1 : (j : Int) < (m : Int) := by omega
        have j0 : (0 : Int) ≤ (j : Int) := by omega
        have j2 : (j : Int) < 2 := by omega
        have jd : decide (j < m) = true := decide_eq_true hlt
        have hst := Lib.hid (HST.out j hlt)
        have hin : ∃ x, wr.cell? ⟨w2.heap.size + 1, j, none⟩ = some (.int .i64 x) ∧ ([a, b][j]?.getD 0) = x ∧ (∀ W, Calls Try.prog 38 #[.int .i64 x] W (PutPost x W)) := by
          have : j = 0 ∨ j = 1 := by omega
          rcases this with rfl | rfl
          · exact ⟨a, HIr.c rfl, rfl, HPa.out⟩
          · exact ⟨b, HIr.c rfl, rfl, HPb.out⟩
        obtain ⟨x, hcx, hx, hput⟩ := hin
        rw [hx] at hst
        have hpz := putB_size x
        have hput' : ∀ W, Calls Try.prog 38 #[.int .i64 x] W fun e w' => e = .returned (.string (putB x)) ∧ Below W.heap.size W w' := hput
        clear hx hput
        generalize putB x = px at *
        obtain ⟨sj, hsj⟩ : ∃ sj, hd j a b = sj := ⟨_, rfl⟩
        rw [hsj] at hsz hst ⊢
        clear hsj
        go_wp2_with fail
        refine (hput' _).mono ?_
        rintro e w3 ⟨rfl, hB3'⟩
        go_wp2
        exact ⟨⟨j + 1, by omega, by go_num, by rw [← hst.out], nxt hB hB3' hB.size⟩, by simp [intOf]; omega⟩
      · have jm : j = m := by omega
        subst jm
        have jd : decide (j < j) = false := decide_eq_false (by omega)
        have o3 := HHr.c (j := 3) rfl
        have o4 := HHr.c (j := 4) rfl
        have hBw : Below w.heap.size w wr := nxt hB3 hB (by have := hB3.size; omega)
        have HRt : Hid (retB k n = if k == 0 then okB else if k == 1 then noneB else putB n) := Lib.hid rfl
        generalize retB k n = rt at HRt HT
        obtain ⟨sj, hsj⟩ : ∃ sj, hd j a b = sj := ⟨_, rfl⟩
        rw [hsj] at hsz HT ⊢
        clear hsj
        cases h0 : (k == 0) with
        | true =>
          have HR2 : Hid (rt = ⟨#[111, 107]⟩) := Lib.hid (by rw [HRt.out, h0]; rfl)
          go_wp2
          go_ret2
          exact ⟨by rw [HT.out, HR2.out]; rfl, hBw⟩
        | false =>
          cases h1 : (k == 1) with
          | true =>
            have HR2 : Hid (rt = ⟨#[110, 111, 110, 101]⟩) := Lib.hid (by rw [HRt.out, h0, h1]; rfl)
            go_wp2
            go_ret2
            exact ⟨by rw [HT.out, HR2.out]; rfl, hBw⟩
          | false =>
            have HR2 : Hid (rt = putB n) := Lib.hid (by rw [HRt.out, h0, h1]; rfl)
            have hpz := putB_size n
            have hput' : ∀ W, Calls Try.prog 38 #[.int .i64 n] W fun e w' => e = .returned (.string (putB n)) ∧ Below W.heap.size W w' := HPn.out
            generalize putB n = px at *
            go_wp2_with fail
            refine (hput' _).mono ?_
            rintro e w3 ⟨rfl, hB3'⟩
            go_wp2
            go_ret2
            exact ⟨by rw [HT.out, HR2.out]; rfl, nxt hBw hB3' hBw.size⟩
  · have hb : (checkP kd a b k n == 0) = false := by simpa using hz
    have HT : Hid (textS kd a b k n = ⟨#[]⟩) := Lib.hid (by
      unfold textS
      unfold checkP at hz
      cases h : kindI kd with
      | none => rfl
      | some i =>
        rw [h] at hz
        simp only
        rw [if_neg hz])
    generalize textS kd a b k n = tx at HT
    generalize checkP kd a b k n = ck at *
    unfold opV at HC ⊢
    go_enter Try.func17, Try.ntmps17
    go_wp2_with fail
    refine (HC _).mono ?_
    rintro e w1 ⟨rfl, hB1⟩
    go_wp2
    go_ret2
    exact ⟨by rw [HT.out]; rfl, nxt ((Below.refl _ _).alloc (Nat.le_refl _) _) hB1 (by simp)⟩
end Go.Proofs.Ytmpglmepmdpjoaa
