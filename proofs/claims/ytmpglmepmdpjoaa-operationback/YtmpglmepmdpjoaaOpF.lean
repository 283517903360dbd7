/- Text. -/
import Derived.Test.YtmpglmepmdpjoaaOpE
namespace Go.Proofs.Ytmpglmepmdpjoaa
open Go.RowKit Go.Maps
set_option linter.unusedVariables false

theorem argN_le (i : Nat) : argN i ≤ 2 := by unfold argN; split <;> omega
theorem argW_step (m : Nat) (a b : Int) (k : Nat) (hk : k < m) (hm : m ≤ 2) : argW (k + 1) a b = argW k a b ++ [putB ([a, b][k]?.getD 0)] := by
  match k with
  | 0 => rfl
  | 1 => rfl
  | k + 2 => omega
theorem argW_l (a b : Int) (k : Nat) (hk : k ≤ 2) : (argW k a b).length = k := by
  rw [argW, List.length_map, List.length_take]; simp; omega

theorem strs_of_row {W : World} {base : Nat} {A : Option Addr} {c : Nat} {ss : List ByteArray} (h : W.ownsRow base 9 1 (.slice A ss.length c) ss.length (texts ss)) : Strs W.heap.size W A ss := by
  intro hl
  rcases h.2 with ⟨e, hn⟩ | ⟨g, cap, cur, e, hb, hg, _⟩
  · omega
  · injection e with e1 e2 e3
    subst e1 e3
    refine ⟨g, 0, rfl, (Array.getElem?_eq_some_iff.1 hg).1, fun j hj => ?_⟩
    rw [Nat.zero_add, h.cellAt j (by omega), texts, List.getElem?_map, List.getElem?_eq_getElem hj]
    rfl

set_option maxRecDepth 100000 in
set_option maxHeartbeats 2000000 in
theorem text_any (kd a b k n : Int) (w : World) (ha : I64 a) (hb : I64 b) (hn : I64 n) : Calls Try.prog 16 #[opV kd a b k n] w (Says (.tuple #[.string (textS kd a b k n), .int .i64 (checkP kd a b k n)]) w) := by
  have H := fun W => find_kind kd W
  have hP : Hid (checkP kd a b k n = match kindI kd with | none => 6 | some i => checkI i a b k n) := Lib.hid rfl
  have hT : Hid (textS kd a b k n = match kindI kd with | none => ⟨#[]⟩ | some i => if checkI i a b k n = 0 then strOfNums (jl (opW i a b k n)) else ⟨#[]⟩) := Lib.hid rfl
  have hI : Hid (∀ i, kindI kd = some i → i < 15) := Lib.hid fun i h => (kindI_lt h).1
  unfold fv at H
  generalize checkP kd a b k n = r at hP
  generalize textS kd a b k n = s at hT
  generalize kindI kd = o at H hP hT hI
  cases o with
  | none =>
    unfold opV
    go_enter Try.func16, Try.ntmps16
    go_wp2_with fail
    refine (H _).mono ?_
    rintro e w1 ⟨rfl, hB1⟩
    simp only [ruleOf, rule0, errOf]
    have hs := hB1.size
    simp only [World.size_alloc] at hs
    go_wp2
    go_ret2
    exact ⟨by rw [hP.out, hT.out]; rfl, Below.alloc (nxt ((Below.refl _ _).alloc (Nat.le_refl _) _) hB1 (by simp)) (by omega) _⟩
  | some i =>
    have HI := Lib.hid (hI.out i rfl)
    have HC := fun W => check_I i kd a b k n W
    have hP' : Hid (r = checkI i a b k n) := Lib.hid hP.out
    have hT' : Hid (s = if checkI i a b k n = 0 then strOfNums (jl (opW i a b k n)) else ⟨#[]⟩) := Lib.hid hT.out
    clear hP hT hI
    obtain ⟨x4, x5, x6, hx⟩ := ruleV_eq i
    have HO := Holds.new w 25 #[.int .i64 kd, .int .i64 a, .int .i64 b, .int .i64 k, .int .i64 n]
    unfold opV at HC ⊢
    generalize checkI i a b k n = c at HC hP' hT'
    go_enter Try.func16, Try.ntmps16
    go_wp2_with fail
    refine (H _).mono ?_
    rintro e w1 ⟨rfl, hB1⟩
    simp only [ruleOf, hx, errOf]
    rw [hx] at HC
    clear hx
    have hs := hB1.size
    simp only [World.size_alloc] at hs
    have HO1 := (HO.below hB1 (by simp)).alloc (.cells #[.int .i64 ((i : Int) + 1), .int .i64 (objN i), .string (wordB i), .int .i64 (argN i), .func (.func x4) #[] #[], .func (.func x5) #[] #[], .func (.func x6) #[] #[]] 52)
    have HR1 := Holds.new w1 52 #[.int .i64 ((i : Int) + 1), .int .i64 (objN i), .string (wordB i), .int .i64 (argN i), .func (.func x4) #[] #[], .func (.func x5) #[] #[], .func (.func x6) #[] #[]]
    have hB1' : Below w.heap.size w (w1.alloc (.cells #[.int .i64 ((i : Int) + 1), .int .i64 (objN i), .string (wordB i), .int .i64 (argN i), .func (.func x4) #[] #[], .func (.func x5) #[] #[], .func (.func x6) #[] #[]] 52)) := Below.alloc (nxt ((Below.refl _ _).alloc (Nat.le_refl _) _) hB1 (by simp)) (by omega) _
    have o0 := HO1.c (j := 0) rfl
    have o1 := HO1.c (j := 1) rfl
    have o2 := HO1.c (j := 2) rfl
    have o3 := HO1.c (j := 3) rfl
    have o4 := HO1.c (j := 4) rfl
    go_wp2_with fail
    refine (HC _).mono ?_
    rintro e w2 ⟨rfl, hB2⟩
    have hs2 := hB2.size
    simp only [World.size_alloc] at hs2
    have hB02 := nxt hB1' hB2 (by simp; omega)
    by_cases hc : c = 0
    · have HRS := Lib.hid (hP'.out.trans hc)
      have HTS := Lib.hid (show s = strOfNums (jl (opW i a b k n)) by rw [hT'.out, if_pos hc])
      clear hT' hP'
      have HO2 := HO1.below hB2 (by simp; omega)
      have HR2 := HR1.below hB2 (by simp)
      have q2 := HR2.c (j := 2) rfl
      have HO3 := HO2.alloc (.cells #[.string (wordB i)] 9)
      have p1 := HO3.c (j := 1) rfl
      have p2 := HO3.c (j := 2) rfl
      have HR4 := (HR2.alloc (.cells #[.string (wordB i)] 9)).alloc (.cells #[.int .i64 a, .int .i64 b] 3)
      have HO4 := HO3.alloc (.cells #[.int .i64 a, .int .i64 b] 3)
      have q3 := HR4.c (j := 3) rfl
      clear o0 o1 o2 o3 o4
      have hm := argN_le i
      have HJ := Lib.hid (opW_js i HI.out a b k n)
      have HW : Hid (opW i a b k n = wordB i :: (argW (argN i) a b ++ [arrB, retB k n])) := Lib.hid rfl
      have HZ := Lib.hid (opW_szs i HI.out a b k n)
      generalize opW i a b k n = ws at HTS HJ HW HZ
      generalize wordB i = wd at *
      generalize argN i = m at *
      clear HR1 HO1 HC
      subst hc
      have m0 : (0 : Int) ≤ (m : Int) := by omega
      have m2 : (m : Int) ≤ 2 := by omega
      go_wp2_with fail
      have HPa := Lib.hid (fun W => put_any a W ha.1 ha.2)
      have HPb := Lib.hid (fun W => put_any b W hb.1 hb.2)
      have HRet := Lib.hid (fun W => returned_any k n W hn)
      unfold retV at HRet
      obtain ⟨i0, hi, hz0, hz1, hz2⟩ := info_parts info_str
      have HI3 : Holds ((w2.alloc (.cells #[.string wd] 9)).alloc (.cells #[.int .i64 a, .int .i64 b] 3)) (w2.heap.size + 1) 3 #[.int .i64 a, .int .i64 b] := by
        have := Holds.new (w2.alloc (.cells #[.string wd] 9)) 3 #[.int .i64 a, .int .i64 b]
        rwa [World.size_alloc] at this
      clear p1 p2 q2 q3 HR4 HO4 HO3
      go_loopw [7, 9, 37] (fun s7 u9 i37 wr => ∃ (j : Nat) (q : Value), j ≤ m ∧ i37 = .int .i64 j ∧ s7 = q ∧ wr.ownsRow w2.heap.size 9 1 q (j + 1) (texts (wd :: argW j a b)) ∧ Holds wr (w2.heap.size + 1) 3 #[.int .i64 a, .int .i64 b] ∧ Below w2.heap.size w2 wr) (fun s7 u9 i37 wr => m - (intOf i37).toNat)
      case atStart =>
        refine ⟨0, .slice (some ⟨w2.heap.size, 0, none⟩) 1 1, Nat.zero_le _, rfl, rfl, ?_, HI3, ((Below.refl _ _).alloc (Nat.le_refl _) _).alloc (by simp) _⟩
        exact (World.ownsRow_lit w2 #[.string wd] 1 (Nat.le_refl _) (by unfold maxLen; omega) rfl).alloc _
      case round =>
        obtain ⟨j, q, hj, rfl, rfl, hrow, hInt, hB⟩ := hrel
        have hwr := hB.size
        have HROW := Lib.hid hrow
        obtain ⟨A', c', hq⟩ := row_one hrow
        subst hq
        clear hrow
        by_cases hlt : j < m
        · have j1 : (j : Int) < (m : Int) := by omega
          have j0 : (0 : Int) ≤ (j : Int) := by omega
          have jd : decide (j < m) = true := decide_eq_true hlt
          have hst := Lib.hid (argW_step m a b j hlt hm)
          have hin : ∃ x, wr.cell? ⟨w2.heap.size + 1, j, none⟩ = some (.int .i64 x) ∧ ([a, b][j]?.getD 0) = x ∧ (∀ W, Calls Try.prog 36 #[.int .i64 x] W (PutPost x W)) := by
            have : j = 0 ∨ j = 1 := by omega
            rcases this with rfl | rfl
            · exact ⟨a, hInt.c rfl, rfl, HPa.out⟩
            · exact ⟨b, hInt.c rfl, rfl, HPb.out⟩
          obtain ⟨x, hcx, hx, hput⟩ := hin
          rw [hx] at hst
          clear hx
          go_wp2_with fail
          refine (hput _).mono ?_
          rintro e w3 ⟨rfl, hB3⟩
          have hw3 := hB3.size
          have hrow3 := Lib.hid (row_below HROW.out hB3)
          have hInt3 := hInt.below hB3 hInt.lt
          clear hcx
          go_wp2_with (at_builtin; refine wpList_append_own_at _ rfl _ _ 36 rfl w2.heap.size 9 i0 (.string ⟨#[]⟩) 1 16 Try.underlying36 hi hz0 hz1 hz2 rfl (by decide) _ _ _ rfl (hrow3.out.alloc _) ⟨w3.heap.size, 0, none⟩ 1 1 [.string ⟨(putL x).toArray⟩] rfl rfl (cell_one_new _ _ _) (by intro u hu; simp at hu; subst hu; rfl) (by unfold maxLen; omega) (by omega) (by simp; omega) ?_; intro v5 w5 hown5 hg5 hnil5 hat5)
          refine ⟨⟨j + 1, v5, by omega, by go_num, rfl, ?_, ?_, ?_⟩, by simp [intOf]; omega⟩
          · rw [hst.out, ← List.cons_append, texts_snoc]
            exact hown5
          · exact (hInt3.alloc _).kept hg5 (hInt3.not_row hrow3.out (by decide))
          · exact ((nxt hB hB3 hwr).alloc (by omega) _).grown hg5 (by simp; omega) (fun k e => ((hrow3.out.lt k e).1))
        · have jm : j = m := by omega
          subst jm
          have jd : decide (j < j) = false := decide_eq_false (by omega)
          have HO5 := HO2.below hB (by omega)
          have o3 := HO5.c (j := 3) rfl
          have o4 := HO5.c (j := 4) rfl
          go_wp2_with fail
          refine (HRet.out _).mono ?_
          rintro e w3 ⟨rfl, hB3⟩
          have hw3 := hB3.size
          have hrow3 := Lib.hid (row_below HROW.out hB3)
          clear o3 o4
          go_wp2_with (at_builtin; refine wpList_append_own_at _ rfl _ _ 36 rfl w2.heap.size 9 i0 (.string ⟨#[]⟩) 1 16 Try.underlying36 hi hz0 hz1 hz2 rfl (by decide) _ _ _ rfl (hrow3.out.alloc _) ⟨w3.heap.size, 0, none⟩ 2 2 [.string arrB, .string (retB k n)] rfl rfl (cell_two_new _ _ _ _) (by intro u hu; simp at hu; rcases hu with rfl | rfl <;> rfl) (by unfold maxLen; omega) (by omega) (by simp; omega) ?_; intro v5 w5 hown5 hg5 hnil5 hat5)
          have hB5 : Below w2.heap.size w2 w5 := ((nxt hB hB3 hwr).alloc (by omega) _).grown hg5 (by simp; omega) (fun k e => ((hrow3.out.lt k e).1))
          have hlen : ws.length = j + 1 + 2 := by
            rw [HW.out, List.length_cons, List.length_append, argW_l a b j (by omega)]; rfl
          have hrowW : w5.ownsRow w2.heap.size 9 1 v5 ws.length (texts ws) := by
            rw [hlen, HW.out, ← List.cons_append]
            have e : texts ((wd :: argW j a b) ++ [arrB, retB k n]) = texts (wd :: argW j a b) ++ [.string arrB, .string (retB k n)] := by simp [texts]
            rw [e]
            exact hown5
          obtain ⟨A5, c5, hv5⟩ := row_one hrowW
          subst hv5
          have HJN := join_any A5 c5 ws w5 (strs_of_row hrowW) (by omega) (by have := HZ.out; omega)
          rw [hlen] at HJN
          refine Calls.mono (by rw [← hlen] at *; exact HJN) ?_
          rintro e w6 ⟨rfl, hB6⟩
          rw [HJ.out.1, HJ.out.2]
          go_wp2
          go_ret2
          exact ⟨by rw [HRS.out, HTS.out]; rfl, nxt (nxt hB02 hB5 (by omega)) hB6 (by have := hB5.size; omega)⟩
    · go_wp2
      go_ret2
      exact ⟨by rw [hP'.out, hT'.out, if_neg hc]; rfl, hB02⟩
end Go.Proofs.Ytmpglmepmdpjoaa
