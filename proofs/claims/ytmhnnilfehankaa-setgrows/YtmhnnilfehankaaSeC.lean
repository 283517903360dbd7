/- Contracts of the layer set: again, with, without; rows of numbers that grow. -/
import Derived.Test.YtmhnnilfehankaaSeB
import Derived.Test.YtmhnnilfehankaaSePk
import Derived.Test.YtmhnnilfehankaaMaP
namespace Go.Proofs.Ytmhnnilfehankaa
open Go.RowKit Go.Maps
set_option linter.unusedVariables false

theorem ints_src {w : World} {A : Option Addr} {l : List Int} (hA : Ints w A l) : ∀ ad, A = some ad → ∀ j u, (intsOf l)[j]? = some u → w.cell? (ad.add j) = some u := by
  intro ad e j u hu
  subst e
  have hj : j < l.length := by
    rcases Nat.lt_or_ge j l.length with h | h
    · exact h
    · rw [List.getElem?_eq_none (by simp [intsOf]; omega)] at hu; cases hu
  obtain ⟨b, off, e, hb, hc⟩ := hA (by omega)
  injection e with e
  subst e
  rw [add_plain', hc j hj]
  simp [intsOf, List.getElem?_eq_getElem hj] at hu ⊢
  exact hu
theorem ints_none {w : World} {l : List Int} (hA : Ints w none l) : l = [] := by
  cases l with
  | nil => rfl
  | cons x r => obtain ⟨b, off, e, _⟩ := hA (by simp); cases e

/-- 'append(x, y...)' onto a row of the call's own, y whatever numbers. -/
theorem app_run (w : World) (base : Nat) (t ty : TypeId) (ht : Try.prog.underlying t = some (.slice 3)) (v : Value) (n : Nat) (xs : List Value) (hown : w.ownsRow base 3 1 v n xs) (A : Option Addr) (m c : Nat) (l : List Int) (hl : l.length = m) (hA : Ints w A l) (hn : n ≤ 100000) (hm : m ≤ 100000) (hb : base ≤ w.heap.size) :
    ∃ v' w', (Builtin.append_ #[t, t] ty #[v, .slice A m c]).run Try.prog w = .ok v' w' ∧ w'.ownsRow base 3 1 v' (n + m) (xs ++ intsOf l) ∧ w.grownBy w' v.ownBlock ∧ (v' = .slice none 0 0 → v = .slice none 0 0) := by
  obtain ⟨i0, hi, hz0, hz1, hz2⟩ := info_parts info_int
  cases A with
  | none =>
    obtain rfl := ints_none hA
    obtain rfl : m = 0 := by simpa using hl.symm
    refine ⟨v, w, ?_, by simpa [intsOf] using hown, World.grownBy.refl _ _, id⟩
    rcases hown.2 with ⟨rfl, rfl⟩ | ⟨g, cap, cur, rfl, _, _, hnc, _⟩
    · simp [Builtin.append_, run_underlying ht, sizeOf, typeInfo, hi, Builtin.lenOf, Builtin.firstCells]
    · simp [Builtin.append_, run_underlying ht, sizeOf, typeInfo, hi, Builtin.lenOf, Builtin.firstCells, hnc, storeCells]
  | some ad =>
    obtain ⟨v', w', h1, h2, h3, h4, h5⟩ := run_append_own_at (P := Try.prog) w base t ty 3 i0 (.int .i64 0) 1 8 ht hi hz0 hz1 hz2 rfl (by decide) v n xs hown ad m c (intsOf l) (by simp [intsOf, hl]) (ints_src hA ad rfl) (by intro u hu; simp [intsOf] at hu; obtain ⟨x, _, rfl⟩ := hu; rfl) (by simp only [maxLen]; omega) (by omega) hb
    exact ⟨v', w', h1, h2, h3, fun e => (h4.1 e).1⟩
theorem wpList_app (w : World) {ops : Array Oper} {rest : List Oper} {o : Oper} {a : Act} {Q : Exit → Act → World → Prop} (hgd : o.guard = none) (s x : Operand) (t : TypeId)
    (ho : o.op = .call { callee := .builtin .append, args := #[s, x], argTypes := #[t, t] })
    (base : Nat) (ht : Try.prog.underlying t = some (.slice 3)) (v : Value) (n : Nat) (xs : List Value) (hs : a.eval s = v) (hown : w.ownsRow base 3 1 v n xs)
    (A : Option Addr) (m c : Nat) (l : List Int) (hx : a.eval x = .slice A m c) (hl : l.length = m) (hA : Ints w A l) (hn : n ≤ 100000) (hm : m ≤ 100000) (hb : base ≤ w.heap.size)
    (h : ∀ v' w', w'.ownsRow base 3 1 v' (n + m) (xs ++ intsOf l) → w.grownBy w' v.ownBlock → (v' = .slice none 0 0 → v = .slice none 0 0) → wpList Try.prog ops Q rest (a.put o.dst v') w') : wpList Try.prog ops Q (o :: rest) a w := by
  obtain ⟨v', w', hr, h2, h3, h4⟩ := app_run w base t o.type ht v n xs hown A m c l hl hA hn hm hb
  refine wpList_plain hgd fun _ hK => ?_
  unfold Oper.wp execOp
  simp only [ho, resolve, invoke, builtin, Sem.run_bind, Sem.run_pure, Result.andThen_ok, List.map_toArray, List.map_cons, List.map_nil, hs, hx, hr]
  exact hK _ _ (h v' w' h2 h3 h4)
theorem form4 {w : World} {base g n cap m : Nat} {e : TypeId} {v : Value} {xs : List Value} (h : w.ownsRow base e 1 v m xs) (hn : v = .slice none 0 0 → Value.slice (some ⟨g, 0, none⟩) n cap = .slice none 0 0) : ∃ g' cap', v = .slice (some ⟨g', 0, none⟩) m cap' := by
  rcases h.2 with ⟨e', _⟩ | ⟨g', cap', cur, e', _⟩
  · have := hn e'
    cases this
  · exact ⟨g', cap', e'⟩
theorem grown_below {w w' : World} {base g n cap : Nat} {e : TypeId} {xs : List Value} (hg : w.grownBy w' (Value.ownBlock (.slice (some ⟨g, 0, none⟩) n cap))) (h : w.ownsRow base e 1 (.slice (some ⟨g, 0, none⟩) n cap) n xs) (hb : base ≤ w.heap.size) : Below base w w' :=
  (Below.refl base w).grown hg hb (fun k e => by cases e; exact (h.lt g rfl).1)
theorem info8 {i : TypeInfo} (h : i.bytes = 8) (n : Nat) (hn : n ≤ 1000) : i.bytes * n ≤ 281474976710656 := by rw [h]; omega

set_option maxHeartbeats 1000000 in
theorem again_any (A : Option Addr) (c : Nat) (l : List Int) (w : World) (hA : Ints w A l) (hlen : l.length ≤ 1000) :
    Calls Try.prog 44 #[.slice A l.length c] w (CopyPost l w) := by
  obtain ⟨i0, hi, hz0, hz1, hz2⟩ := info_parts info_int
  have HA := Lib.hid hA
  clear hA
  go_enter Try.func44, Try.ntmps44
  go_wp2_with (first
    | (at_make; refine wpList_make_own _ rfl _ _ 53 rfl w.heap.size 3 i0 (.int .i64 0) 1 Try.underlying53 hi hz0 hz1 .i64 .i64 _ l.length rfl rfl rfl (info8 hz2 _ hlen) (by unfold maxLen; omega) (Nat.le_refl _) ?_; intro w2 hown2 hg2; have hA2 := HA.out.below ((Below.refl _ w).grown hg2 (Nat.le_refl _) (fun k e => by cases e)); have HB2 := Lib.hid ((Below.refl w.heap.size w).grown hg2 (Nat.le_refl _) (fun k e => by cases e)))
    | (at_builtin; refine wpList_app _ rfl _ _ 53 rfl w.heap.size Try.underlying53 _ _ _ rfl hown2 A l.length c l rfl rfl hA2 (by omega) (by omega) hg2.size ?_; intro v3 w3 hown3 hg3 hn3; obtain ⟨g3, c3, rfl⟩ := form4 hown3 hn3))
  go_ret
  rw [Nat.zero_add, List.nil_append] at hown3
  exact ⟨g3, c3, rfl, hown3, HB2.out.trans (grown_below hg3 hown2 hg2.size)⟩

theorem with_in {l : List Int} {x : Int} (h : isIn l x = true) : withL l x = l := by unfold withL; rw [if_pos h]
theorem with_not {l : List Int} {x : Int} (h : isIn l x = false) : withL l x = l.take (low l x) ++ x :: l.drop (low l x) := by unfold withL; rw [if_neg (by rw [h]; decide)]
theorem out_in {l : List Int} {x : Int} (h : isIn l x = true) : outL l x = l.take (low l x) ++ l.drop (low l x + 1) := by unfold outL; rw [if_pos h]
theorem out_not {l : List Int} {x : Int} (h : isIn l x = false) : outL l x = l := by unfold outL; rw [if_neg (by rw [h]; decide)]

theorem with_end {l m : List Int} {x : Int} {p g5 c5 : Nat} {w w5 : World} (hW : m = l.take p ++ x :: l.drop p) (hp : p ≤ l.length) (h : w5.ownsRow w.heap.size 3 1 (.slice (some ⟨g5, 0, none⟩) (p + 1 + (l.length - p)) c5) (p + 1 + (l.length - p)) (intsOf (l.take p) ++ intsOf [x] ++ intsOf (l.drop p))) (hB : Below w.heap.size w w5) :
    CopyPost m w (.returned (.slice (some ⟨g5, 0, none⟩) (p + 1 + (l.length - p)) c5)) w5 := by
  have hlen : m.length = p + 1 + (l.length - p) := by rw [hW, List.length_append, List.length_take, List.length_cons, List.length_drop]; omega
  have e : intsOf (l.take p) ++ intsOf [x] ++ intsOf (l.drop p) = intsOf m := by rw [hW]; simp [intsOf]
  rw [e] at h
  refine ⟨g5, c5, ?_, ?_, hB⟩
  · rw [hlen]
  · rw [hlen]; exact h
theorem out_end {l m : List Int} {p g5 c5 : Nat} {w w5 : World} (hW : m = l.take p ++ l.drop (p + 1)) (hp : p < l.length) (h : w5.ownsRow w.heap.size 3 1 (.slice (some ⟨g5, 0, none⟩) (p + (l.length - (p + 1))) c5) (p + (l.length - (p + 1))) (intsOf (l.take p) ++ intsOf (l.drop (p + 1)))) (hB : Below w.heap.size w w5) :
    CopyPost m w (.returned (.slice (some ⟨g5, 0, none⟩) (p + (l.length - (p + 1))) c5)) w5 := by
  have hlen : m.length = p + (l.length - (p + 1)) := by rw [hW, List.length_append, List.length_take, List.length_drop]; omega
  have e : intsOf (l.take p) ++ intsOf (l.drop (p + 1)) = intsOf m := by rw [hW]; simp [intsOf]
  rw [e] at h
  refine ⟨g5, c5, ?_, ?_, hB⟩
  · rw [hlen]
  · rw [hlen]; exact h

set_option maxHeartbeats 1000000 in
theorem with_any (A : Option Addr) (c : Nat) (l : List Int) (x : Int) (w : World) (hA : Ints w A l) (hlen : l.length ≤ 900) (hc : l.length ≤ c) (hr : Rise l) :
    Calls Try.prog 34 #[.slice A l.length c, .int .i64 x] w (CopyPost (withL l x) w) := by
  have HF := find_any A c l x w hA (by omega) hr
  unfold foundV at HF
  obtain ⟨i0, hi, hz0, hz1, hz2⟩ := info_parts info_int
  cases hin : isIn l x with
  | true =>
    rw [hin] at HF
    have HW := Lib.hid (with_in hin)
    have HA := Lib.hid hA
    have HAG := fun W (h : Below w.heap.size w W) => again_any A c l W (HA.out.below h) (by omega)
    clear hin hA
    go_enter Try.func34, Try.ntmps34
    go_wp2_with fail
    refine HF.mono ?_
    rintro e w1 ⟨rfl, hB1⟩
    go_wp2_with fail
    refine (HAG w1 hB1).mono ?_
    rintro e w2 ⟨g, cap, rfl, ho, hB2⟩
    go_wp2
    go_ret
    rw [HW.out]
    exact ⟨g, cap, rfl, row_more ho hB1.size, nxt hB1 hB2 hB1.size⟩
  | false =>
    rw [hin] at HF
    have HW := Lib.hid (with_not hin)
    have hp := low_le l x
    have HA := Lib.hid hA
    generalize low l x = p at *
    have g0 : (0 : Int) ≤ (p : Int) := by omega
    have g1 : (p : Int) ≤ (c : Int) := by omega
    have g2 : (p : Int) ≤ (l.length : Int) := by omega
    have g3 : (l.length : Int) ≤ (c : Int) := by omega
    clear hin hA
    go_enter Try.func34, Try.ntmps34
    go_wp2_with fail
    refine HF.mono ?_
    rintro e w1 ⟨rfl, hB1⟩
    have hA1 := Lib.hid (HA.out.below hB1)
    have hAd := Lib.hid (hA1.out.below (Below.refl _ w1).drew)
    go_wp2_with fail
    refine wp_region_noPanic ?_
    refine wp_region_picked [(0, true), (1, true), (2, true), (4, true), (5, true), (6, true), (3, false), (7, false), (8, true)] (fun _ => True) (by kernel_rfl) (by kernel_rfl) (fun _ _ _ _ _ h => h) trivial ?_
    iterate 6
      refine Picked.take ?_ (by rfl) (by rfl) ?_ ?_
      rotate_left
      · intro w' hw'
        go_simp
        try with_reducible rfl
      simp only [Act.put, List.getElem_toArray, List.getElem_cons_zero, List.getElem_cons_succ, List.setIfInBounds_toArray, List.set_cons_zero, List.set_cons_succ]
    rw [show IntKind.i64.wrap ((l.length : Int) + 1) = ((l.length + 1 : Nat) : Int) by rw [IntWalk.i64_left]; unfold wrap64; omega]
    obtain ⟨w2, hr2, ho2, hg2⟩ := run_make_own (P := Try.prog) w1.drew w.heap.size 53 3 i0 (.int .i64 0) 1 Try.underlying53 hi hz0 hz1 .i64 .i64 (l.length + 1) (info8 hz2 _ (by omega)) (by unfold maxLen; omega) hB1.size
    refine Picked.make (w1 := w2) (.slice (some ⟨w1.heap.size, 0, none⟩) 0 (l.length + 1)) (by rfl) (by rfl) (exec_make _ _ _ _ _ _ rfl rfl rfl hr2) trivial ?_
    simp only [Act.put, List.getElem_toArray, List.getElem_cons_zero, List.getElem_cons_succ, List.setIfInBounds_toArray, List.set_cons_zero, List.set_cons_succ]
    have hB2 : Below w1.heap.size w1 w2 := ((Below.refl _ w1).drew).grown hg2 (Nat.le_refl _) (fun k e => by cases e)
    have hA2 := Lib.hid (hA1.out.below hB2)
    have hBw2 := nxt hB1 hB2 hB1.size
    obtain ⟨v3, w3, hr3, ho3, hg3, hn3⟩ := app_run w2 w.heap.size 53 53 Try.underlying53 _ 0 [] ho2 A p c (l.take p) (by rw [List.length_take]; omega) (ints_take hA2.out p) (by omega) (by omega) hBw2.size
    obtain ⟨g3', c3, rfl⟩ := form4 ho3 hn3
    have hB3 := grown_below hg3 ho2 hBw2.size
    refine Picked.make (w1 := w3) (.slice (some ⟨g3', 0, none⟩) (0 + p) c3) (by rfl) (by rfl) (exec_app _ _ _ _ _ _ rfl rfl rfl hr3) trivial ?_
    simp only [Act.put, List.getElem_toArray, List.getElem_cons_zero, List.getElem_cons_succ, List.setIfInBounds_toArray, List.set_cons_zero, List.set_cons_succ]
    refine Picked.take (.slice (some ⟨g3', 0, none⟩) (0 + p) c3) (by rfl) (by rfl) (fun w' _ => by go_simp) ?_
    simp only [Act.put, List.getElem_toArray, List.getElem_cons_zero, List.getElem_cons_succ, List.setIfInBounds_toArray, List.set_cons_zero, List.set_cons_succ]
    refine NoPanic.normal ?_
    rw [Nat.zero_add, List.nil_append] at ho3
    rw [Nat.zero_add]
    have hBw3 := hBw2.trans hB3
    have hA3 := Lib.hid (HA.out.below hBw3)
    have HO3 := Lib.hid ho3
    clear ho3 hr3 hr2 ho2 hg3 hg2 hn3
    have hs3 : w.heap.size ≤ (w3.alloc (.cells #[.int .i64 x] 3)).heap.size := by have := hBw3.size; simp; omega
    have HAD := Lib.hid (ints_drop HA.out c p hc)
    unfold subA at HAD
    by_cases hcp : c = p
    · rw [if_pos hcp] at HAD
      go_wp2_with (first
        | (at_builtin; have hk := hown4; refine wpList_app _ rfl _ _ 53 rfl w.heap.size Try.underlying53 _ _ _ rfl hown4 A (l.length - p) 0 (l.drop p) rfl (by rw [List.length_drop]) hA4 (by omega) (by omega) hB4.size ?_; intro v5 w5 hown5 hg5 hn5; obtain ⟨g5, c5, rfl⟩ := form4 hown5 hn5; have hB5 := grown_below hg5 hown4 hB4.size)
        | (at_builtin; refine wpList_app _ rfl _ _ 53 rfl w.heap.size Try.underlying53 _ _ _ rfl (row_below HO3.out (alloc1 w3 (.cells #[.int .i64 x] 3))) (some ⟨w3.heap.size, 0, none⟩) 1 1 [x] rfl rfl (ints_lit w3 [x] 3 _ rfl) (by omega) (by omega) hs3 ?_; intro v4 w4 hown4 hg4 hn4; obtain ⟨g4, c4, rfl⟩ := form4 hown4 hn4; have hB4 : Below w.heap.size w w4 := (hBw3.trans ((alloc1 w3 _).mono hBw3.size)).trans (grown_below hg4 (row_below HO3.out (alloc1 w3 (.cells #[.int .i64 x] 3))) hs3); have hA4 : Ints w4 A (l.drop p) := (HAD.out).below hB4; clear hn4 hg4))
      go_ret
      exact with_end HW.out hp hown5 (hB4.trans hB5)
    · rw [if_neg hcp] at HAD
      go_wp2_with (first
        | (at_builtin; have hk := hown4; refine wpList_app _ rfl _ _ 53 rfl w.heap.size Try.underlying53 _ _ _ rfl hown4 (A.map (·.add p)) (l.length - p) (c - p) (l.drop p) rfl (by rw [List.length_drop]) hA4 (by omega) (by omega) hB4.size ?_; intro v5 w5 hown5 hg5 hn5; obtain ⟨g5, c5, rfl⟩ := form4 hown5 hn5; have hB5 := grown_below hg5 hown4 hB4.size)
        | (at_builtin; refine wpList_app _ rfl _ _ 53 rfl w.heap.size Try.underlying53 _ _ _ rfl (row_below HO3.out (alloc1 w3 (.cells #[.int .i64 x] 3))) (some ⟨w3.heap.size, 0, none⟩) 1 1 [x] rfl rfl (ints_lit w3 [x] 3 _ rfl) (by omega) (by omega) hs3 ?_; intro v4 w4 hown4 hg4 hn4; obtain ⟨g4, c4, rfl⟩ := form4 hown4 hn4; have hB4 : Below w.heap.size w w4 := (hBw3.trans ((alloc1 w3 _).mono hBw3.size)).trans (grown_below hg4 (row_below HO3.out (alloc1 w3 (.cells #[.int .i64 x] 3))) hs3); have hA4 : Ints w4 (A.map (·.add p)) (l.drop p) := (HAD.out).below hB4; clear hn4 hg4))
      go_ret
      exact with_end HW.out hp hown5 (hB4.trans hB5)
end Go.Proofs.Ytmhnnilfehankaa
