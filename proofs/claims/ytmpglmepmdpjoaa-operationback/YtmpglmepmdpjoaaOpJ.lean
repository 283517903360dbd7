/- Read. -/
import Derived.Test.YtmpglmepmdpjoaaOpI
namespace Go.Proofs.Ytmpglmepmdpjoaa
open Go.RowKit Go.Maps
set_option linter.unusedVariables false

def st0 : St := ⟨none, 0, 0, 0, 0, 0, []⟩
def st1 : St := ⟨none, 0, 0, 0, 0, 0, [0]⟩
abbrev Res := (Int × Int × Int × Int × Int) × Int × Int
/-- What Read tells of what take told. -/
def readR (x : Nat × Int × St) (len : Nat) : Res :=
  if x.2.1 = 0 then match x.2.2.asked with
    | none => ((0, 0, 0, 0, 0), 0, 0)
    | some i =>
      if checkI i x.2.2.a x.2.2.b x.2.2.k x.2.2.n = 0 then ((x.2.2.kd, x.2.2.a, x.2.2.b, x.2.2.k, x.2.2.n), 0, 0)
      else if checkI i x.2.2.a x.2.2.b x.2.2.k x.2.2.n = 2 then ((0, 0, 0, 0, 0), 1, 2)
      else ((0, 0, 0, 0, 0), (len : Int) - 1, checkI i x.2.2.a x.2.2.b x.2.2.k x.2.2.n)
  else ((0, 0, 0, 0, 0), x.1, x.2.1)
def readP (ws : List ByteArray) : Res := readR (takeP 0 ws st1) ws.length
def resV (r : Res) : Value := .tuple #[opV r.1.1 r.1.2.1 r.1.2.2.1 r.1.2.2.2.1 r.1.2.2.2.2, .int .i64 r.2.1, .int .i64 r.2.2]

theorem step_asked (c : Nat) (s : ByteArray) (st : St) (h : st.asked.isSome = true) : (stepS c s st).asked.isSome = true := by
  match c with
  | 0 =>
    show (kindSt s st).asked.isSome = true
    unfold kindSt
    split
    · exact h
    · rfl
  | 1 =>
    show (stA s st).asked.isSome = true
    unfold stA; split <;> exact h
  | 2 =>
    show (stB s st).asked.isSome = true
    unfold stB; split <;> exact h
  | 3 => exact h
  | c + 4 =>
    show (stR s st).asked.isSome = true
    unfold stR stN
    split
    · exact h
    · split
      · exact h
      · split <;> exact h
theorem take_asked : ∀ (ws : List ByteArray) (i : Nat) (st : St), st.asked.isSome = true → (takeP i ws st).2.2.asked.isSome = true
  | [], i, st, h => by unfold takeP; split <;> exact h
  | s :: r, i, st, h => by
    unfold takeP
    split
    · exact h
    · split
      · exact take_asked r _ _ (step_asked _ _ _ h)
      · exact step_asked _ _ _ h
theorem take_first (ws : List ByteArray) (h : (takeP 0 ws st1).2.1 = 0) : ∃ i, (takeP 0 ws st1).2.2.asked = some i := by
  refine Option.isSome_iff_exists.1 ?_
  match ws with
  | [] => exact absurd h (by decide)
  | s :: r =>
    unfold takeP at h ⊢
    rw [if_neg (by decide)] at h ⊢
    have e : (st1.steps[0]?.getD 0) = 0 := rfl
    rw [e] at h ⊢
    by_cases hE : stepE 0 s = 0
    · rw [if_pos hE]
      refine take_asked r _ _ ?_
      show (kindSt s st1).asked.isSome = true
      unfold kindSt
      cases hw : wordI s with
      | none =>
        have : errOf (wordI s) = 0 := hE
        rw [hw] at this
        exact absurd this (by decide)
      | some i => rfl
    · rw [if_neg hE] at h
      exact absurd h hE

theorem check_le (i : Nat) (a b k n : Int) : checkI i a b k n = 0 ∨ checkI i a b k n = 2 ∨ checkI i a b k n = 9 := by
  unfold checkI
  split
  · exact .inr (.inl rfl)
  · split
    · exact .inr (.inr rfl)
    · exact .inl rfl

def zero5 : Array Value := #[.int .i64 0, .int .i64 0, .int .i64 0, .int .i64 0, .int .i64 0]
def zero13 : Array Value := #[.int .i64 0, .int .i64 0, .string ⟨#[]⟩, .int .i64 0, .nilFunc, .nilFunc, .nilFunc, .int .i64 0, .int .i64 0, .int .i64 0, .int .i64 0, .int .i64 0, .slice none 0 0]

set_option maxRecDepth 100000 in
set_option maxHeartbeats 2000000 in
theorem read_any (A : Option Addr) (c : Nat) (ws : List ByteArray) (w : World) (hA : Strs w.heap.size w A ws) (hm : ws.length ≤ 100) (hz : ∀ s ∈ ws, s.size ≤ maxLen) :
    Calls Try.prog 20 #[.slice A ws.length c] w (Says (resV (readP ws)) w) := by
  have HRP : Hid (readP ws = readR (takeP 0 ws st1) ws.length) := Lib.hid rfl
  generalize readP ws = rp at HRP ⊢
  have hR0 : Rd ((w.alloc (.cells zero5 25)).alloc (.cells zero13 72)) (w.heap.size + 1) (w.heap.size + 1) (.slice none 0 0) st0 := by
    refine ⟨?_, Nat.le_refl _, World.ownsRow_nil _ _ _ _⟩
    have := Holds.new (w.alloc (.cells zero5 25)) 72 zero13
    rwa [World.size_alloc] at this
  have hZ0 : Holds ((w.alloc (.cells zero5 25)).alloc (.cells zero13 72)) w.heap.size 25 zero5 := (Holds.new w _ _).alloc _
  have hB0 : Below w.heap.size w ((w.alloc (.cells zero5 25)).alloc (.cells zero13 72)) := ((Below.refl _ _).alloc (Nat.le_refl _) _).alloc (by simp) _
  have HA := Lib.hid hA
  have HZ := Lib.hid hz
  clear hA hz
  have c12 := hR0.c12
  have f12 := hR0.cells.frozen 12
  have HR0 := Lib.hid hR0
  have HZ0 := Lib.hid hZ0
  clear hR0 hZ0
  unfold zero5 zero13 at c12 f12 HR0 HZ0 hB0
  obtain ⟨i0, hi, hz0, hz1, hz2⟩ := info_parts info_step
  go_enter Try.func20, Try.ntmps20
  go_wp2_with (at_builtin; (refine wpList_append_own_at _ rfl _ _ 70 rfl (w.heap.size + 1) 73 i0 .nilFunc 1 8 Try.underlying70 hi hz0 hz1 hz2 rfl (by decide) _ _ _ rfl (HR0.out.row.alloc _) ⟨w.heap.size + 2, 0, none⟩ 1 1 [stepV (w.heap.size + 1) 0] rfl rfl (fun j u hj => by have h := cell_one_new ((w.alloc (.cells #[.int .i64 0, .int .i64 0, .int .i64 0, .int .i64 0, .int .i64 0] 25)).alloc (.cells #[.int .i64 0, .int .i64 0, .string ⟨#[]⟩, .int .i64 0, .nilFunc, .nilFunc, .nilFunc, .int .i64 0, .int .i64 0, .int .i64 0, .int .i64 0, .int .i64 0, .slice none 0 0] 72)) (stepV (w.heap.size + 1) 0) 73 j u hj; simp only [World.size_alloc] at h; exact h) (by intro u hu; simp at hu; subst hu; rfl) (by unfold maxLen; show 0 + 1 ≤ 9223372036854775807; omega) (by show (0 + 1) * 8 ≤ 140737488355328; omega) (by simp only [World.size_alloc]; omega) ?_; intro v5 w5 hown5 hg5 hnil5 hat5; obtain ⟨hp5, hb5, c125, f125⟩ := HR0.out.pushed [0] hg5 hown5 (by simp only [World.size_alloc]; omega); obtain ⟨A5, c5, rfl⟩ := row_one hown5))
  have hst1 : ({ st0 with steps := st0.steps ++ [0] } : St) = st1 := rfl
  rw [hst1] at hp5
  clear hst1
  have hZ5 : Holds (w5.setCell ⟨w.heap.size + 1, 12, none⟩ (.slice A5 (st0.steps.length + 1) c5)) w.heap.size 25 _ := HZ0.out.below hb5 (by omega)
  have hB5 : Below w.heap.size w (w5.setCell ⟨w.heap.size + 1, 12, none⟩ (.slice A5 (st0.steps.length + 1) c5)) := hB0.trans (hb5.mono (by omega))
  have hs5 : w.heap.size + 1 ≤ (w5.setCell ⟨w.heap.size + 1, 12, none⟩ (.slice A5 (st0.steps.length + 1) c5)).heap.size := by have := hp5.lt; omega
  obtain ⟨W1, hW1⟩ : ∃ W1, W1 = w5.setCell ⟨w.heap.size + 1, 12, none⟩ (.slice A5 (st0.steps.length + 1) c5) := ⟨_, rfl⟩
  rw [← hW1] at hp5 hZ5 hB5 hs5 ⊢
  have hA1 : Strs (w.heap.size + 1) W1 A ws := (HA.out.below hB5).mono (by omega)
  have HTK := Lib.hid (take_any A c ws (w.heap.size + 1) (w.heap.size + 1) _ st1 W1 hp5 hs5 hA1 (by decide) hm HZ.out)
  have HF := Lib.hid (take_first ws)
  clear hW1 hp5 hown5 hg5 hnil5 hat5 hb5 c125 f125 hi hz0 hz1 hz2 HA HZ c12 f12 HR0 HZ0 hB0 hA1
  generalize takeP 0 ws st1 = x at HTK HF HRP
  obtain ⟨at0, e0, sx⟩ := x
  refine HTK.out.mono ?_
  rintro e w2 ⟨rfl, v2, hR2, hB2⟩
  have hZ2 := hZ5.below hB2 (by omega)
  have hBw : Below w.heap.size w w2 := nxt hB5 hB2 (by omega)
  have hs2 : w.heap.size + 1 ≤ w2.heap.size := Nat.le_trans hs5 hB2.size
  have HR2 := Lib.hid hR2
  have z0 := hZ2.c (j := 0) rfl
  have z1 := hZ2.c (j := 1) rfl
  have z2 := hZ2.c (j := 2) rfl
  have z3 := hZ2.c (j := 3) rfl
  have z4 := hZ2.c (j := 4) rfl
  have f0 := hZ2.frozen 0
  have f1 := hZ2.frozen 1
  have f2 := hZ2.frozen 2
  have f3 := hZ2.frozen 3
  have f4 := hZ2.frozen 4
  clear hR2
  by_cases he : e0 = 0
  · obtain ⟨i, hi⟩ := HF.out he
    have hi' : sx.asked = some i := hi
    have HRP' : Hid (rp = if checkI i sx.a sx.b sx.k sx.n = 0 then ((sx.kd, sx.a, sx.b, sx.k, sx.n), 0, 0) else if checkI i sx.a sx.b sx.k sx.n = 2 then ((0, 0, 0, 0, 0), 1, 2) else ((0, 0, 0, 0, 0), (ws.length : Int) - 1, checkI i sx.a sx.b sx.k sx.n)) := Lib.hid (by rw [HRP.out, readR, if_pos he]; simp only [hi'])
    have HCL := Lib.hid (check_le i sx.a sx.b sx.k sx.n)
    have HCK := fun W => check_I i sx.kd sx.a sx.b sx.k sx.n W
    obtain ⟨x4, x5, x6, hx⟩ := ruleV_eq i
    have hL : ruleL i = [.int .i64 ((i : Int) + 1), .int .i64 (objN i), .string (wordB i), .int .i64 (argN i), .func (.func x4) #[] #[], .func (.func x5) #[] #[], .func (.func x6) #[] #[]] := by
      have h := hx
      rw [ruleV] at h
      injection h with h
      exact congrArg Array.toList h
    have hcl : Holds w2 (w.heap.size + 1) 72 #[.int .i64 ((i : Int) + 1), .int .i64 (objN i), .string (wordB i), .int .i64 (argN i), .func (.func x4) #[] #[], .func (.func x5) #[] #[], .func (.func x6) #[] #[], .int .i64 sx.kd, .int .i64 sx.a, .int .i64 sx.b, .int .i64 sx.k, .int .i64 sx.n, v2] := by
      have h := HR2.out.cells
      simp only [hi', rdL, hL] at h
      exact h
    rw [hx] at HCK
    unfold opV at HCK
    clear hx hL HRP HF hi hi' HR2
    have r0 := hcl.c (j := 0) rfl
    have r1 := hcl.c (j := 1) rfl
    have r2 := hcl.c (j := 2) rfl
    have r3 := hcl.c (j := 3) rfl
    have r4 := hcl.c (j := 4) rfl
    have r5 := hcl.c (j := 5) rfl
    have r6 := hcl.c (j := 6) rfl
    have r7 := hcl.c (j := 7) rfl
    have r8 := hcl.c (j := 8) rfl
    have r9 := hcl.c (j := 9) rfl
    have r10 := hcl.c (j := 10) rfl
    have r11 := hcl.c (j := 11) rfl
    subst he
    generalize checkI i sx.a sx.b sx.k sx.n = ck at HCK HRP' HCL
    generalize (objN i : Int) = y1 at *
    generalize wordB i = y2 at *
    generalize (argN i : Int) = y3 at *
    generalize (i : Int) + 1 = y0 at *
    generalize sx.kd = kd at *
    generalize sx.a = a at *
    generalize sx.b = b at *
    generalize sx.k = k at *
    generalize sx.n = n at *
    go_wp2_with fail
    refine wp_region_noPanic ?_
    refine wp_region_till 7 (fun w' => w'.cell? ⟨w.heap.size + 1, 0, none⟩ = some (.int .i64 y0) ∧ w'.cell? ⟨w.heap.size + 1, 1, none⟩ = some (.int .i64 y1) ∧ w'.cell? ⟨w.heap.size + 1, 2, none⟩ = some (.string y2) ∧ w'.cell? ⟨w.heap.size + 1, 3, none⟩ = some (.int .i64 y3) ∧ w'.cell? ⟨w.heap.size + 1, 4, none⟩ = some (.func (.func x4) #[] #[]) ∧ w'.cell? ⟨w.heap.size + 1, 5, none⟩ = some (.func (.func x5) #[] #[]) ∧ w'.cell? ⟨w.heap.size + 1, 6, none⟩ = some (.func (.func x6) #[] #[]) ∧ w'.cell? ⟨w.heap.size + 1, 7, none⟩ = some (.int .i64 kd) ∧ w'.cell? ⟨w.heap.size + 1, 8, none⟩ = some (.int .i64 a) ∧ w'.cell? ⟨w.heap.size + 1, 9, none⟩ = some (.int .i64 b) ∧ w'.cell? ⟨w.heap.size + 1, 10, none⟩ = some (.int .i64 k) ∧ w'.cell? ⟨w.heap.size + 1, 11, none⟩ = some (.int .i64 n)) (by kernel_rfl) (by kernel_rfl) (fun _ _ _ _ _ h => h) ⟨r0, r1, r2, r3, r4, r5, r6, r7, r8, r9, r10, r11⟩ ?_
    iterate 7
      refine readsN.cons ?_ (by rfl) ?_ ?_
      rotate_left
      · intro w' hw'
        try dsimp only at hw'
        go_simp
        try with_reducible rfl
      simp only [Act.put, List.setIfInBounds_toArray, List.set_cons_zero, List.set_cons_succ]
    refine readsN.done (.agg #[.int .i64 kd, .int .i64 a, .int .i64 b, .int .i64 k, .int .i64 n]) w2.drew (by rfl) (by go_simp) ⟨r0, r1, r2, r3, r4, r5, r6, r7, r8, r9, r10, r11⟩ ?_
    simp only [Act.put, List.setIfInBounds_toArray, List.set_cons_zero, List.set_cons_succ]
    go_wp2_with fail
    refine (HCK w2.drew).mono ?_
    rintro e w3 ⟨rfl, hB3⟩
    have hB3' : Below w2.heap.size w2 w3 := Below.trans (Below.refl _ w2).drew hB3
    have hZ3 := hZ2.below hB3' (by omega)
    have hc3 := hcl.below hB3' (by have := hcl.lt; omega)
    have hBf : Below w.heap.size w w3 := nxt hBw hB3' (by omega)
    clear r0 r1 r2 r3 r4 r5 r6 r7 r8 r9 r10 r11 z0 z1 z2 z3 z4 f0 f1 f2 f3 f4
    have r7 : w3.cell? ⟨w.heap.size + 1, 7, none⟩ = some (.int .i64 kd) := hc3.c (j := 7) rfl
    have r8 : w3.cell? ⟨w.heap.size + 1, 8, none⟩ = some (.int .i64 a) := hc3.c (j := 8) rfl
    have r9 : w3.cell? ⟨w.heap.size + 1, 9, none⟩ = some (.int .i64 b) := hc3.c (j := 9) rfl
    have r10 : w3.cell? ⟨w.heap.size + 1, 10, none⟩ = some (.int .i64 k) := hc3.c (j := 10) rfl
    have r11 : w3.cell? ⟨w.heap.size + 1, 11, none⟩ = some (.int .i64 n) := hc3.c (j := 11) rfl
    have z0 : w3.cell? ⟨w.heap.size, 0, none⟩ = some (.int .i64 0) := hZ3.c (j := 0) rfl
    have z1 : w3.cell? ⟨w.heap.size, 1, none⟩ = some (.int .i64 0) := hZ3.c (j := 1) rfl
    have z2 : w3.cell? ⟨w.heap.size, 2, none⟩ = some (.int .i64 0) := hZ3.c (j := 2) rfl
    have z3 : w3.cell? ⟨w.heap.size, 3, none⟩ = some (.int .i64 0) := hZ3.c (j := 3) rfl
    have z4 : w3.cell? ⟨w.heap.size, 4, none⟩ = some (.int .i64 0) := hZ3.c (j := 4) rfl
    have f0 := hZ3.frozen 0
    have f1 := hZ3.frozen 1
    have f2 := hZ3.frozen 2
    have f3 := hZ3.frozen 3
    have f4 := hZ3.frozen 4
    have hBe : ∀ u0 u1 u2 u3 u4 : Value, Below w.heap.size w (((((w3.setCell ⟨w.heap.size, 0, none⟩ u0).setCell ⟨w.heap.size, 1, none⟩ u1).setCell ⟨w.heap.size, 2, none⟩ u2).setCell ⟨w.heap.size, 3, none⟩ u3).setCell ⟨w.heap.size, 4, none⟩ u4) := fun u0 u1 u2 u3 u4 => by
      refine Below.setCell (Below.setCell (Below.setCell (Below.setCell (Below.setCell hBf ?_ _) ?_ _) ?_ _) ?_ _) ?_ _
      all_goals exact Nat.le_refl _
    have HBe := Lib.hid hBe
    clear hBe
    have hcl' := HCL.out
    rcases hcl' with hck | hck | hck
    · subst hck
      have HRP2 := Lib.hid (show rp = ((kd, a, b, k, n), 0, 0) by rw [HRP'.out, if_pos rfl])
      clear HRP'
      go_wp2
      refine NoPanic.normal ?_
      go_wp2
      refine bodyPost_ret (v := .tuple #[.agg #[.int .i64 kd, .int .i64 a, .int .i64 b, .int .i64 k, .int .i64 n], .int .i64 0, .int .i64 0]) (by simp [results, Try.f20, go_sem, z0, z1, z2, z3, z4]) rfl ?_
      rw [HRP2.out]
      exact ⟨rfl, HBe.out _ _ _ _ _⟩
    · subst hck
      have HRP2 := Lib.hid (show rp = ((0, 0, 0, 0, 0), 1, 2) by rw [HRP'.out, if_neg (by decide), if_pos rfl])
      clear HRP'
      go_wp2
      refine NoPanic.normal ?_
      go_wp2
      refine bodyPost_ret (v := .tuple #[.agg #[.int .i64 0, .int .i64 0, .int .i64 0, .int .i64 0, .int .i64 0], .int .i64 1, .int .i64 2]) (by simp [results, Try.f20, go_sem, z0, z1, z2, z3, z4]) rfl ?_
      rw [HRP2.out]
      exact ⟨rfl, HBe.out _ _ _ _ _⟩
    · subst hck
      have HRP2 := Lib.hid (show rp = ((0, 0, 0, 0, 0), (ws.length : Int) - 1, 9) by rw [HRP'.out, if_neg (by decide), if_neg (by decide)])
      clear HRP'
      have l1 : (-1 : Int) ≤ (ws.length : Int) - 1 := by omega
      have l2 : (ws.length : Int) - 1 ≤ 100 := by omega
      go_wp2
      refine NoPanic.normal ?_
      go_wp2
      refine bodyPost_ret (v := .tuple #[.agg #[.int .i64 0, .int .i64 0, .int .i64 0, .int .i64 0, .int .i64 0], .int .i64 ((ws.length : Int) - 1), .int .i64 9]) (by simp [results, Try.f20, go_sem, z0, z1, z2, z3, z4]) rfl ?_
      rw [HRP2.out]
      exact ⟨rfl, HBe.out _ _ _ _ _⟩
  · have hb : (e0 == 0) = false := by simpa using he
    have HRP' : Hid (rp = ((0, 0, 0, 0, 0), (at0 : Int), e0)) := Lib.hid (by rw [HRP.out, readR, if_neg he])
    clear HRP
    go_wp2
    refine bodyPost_ret (v := .tuple #[.agg #[.int .i64 0, .int .i64 0, .int .i64 0, .int .i64 0, .int .i64 0], .int .i64 at0, .int .i64 e0]) (by simp [results, Try.f20, go_sem, z0, z1, z2, z3, z4]) rfl ?_
    rw [HRP'.out]
    refine ⟨rfl, ?_⟩
    refine Below.setCell (Below.setCell (Below.setCell (Below.setCell (Below.setCell hBw ?_ _) ?_ _) ?_ _) ?_ _) ?_ _
    all_goals exact Nat.le_refl _
end Go.Proofs.Ytmpglmepmdpjoaa
