/- Contracts of the layer fifo: widen, put. -/
import Derived.Test.YthnaogdiiflljaaFiA
namespace Go.Proofs.Ythnaogdiiflljaa
open Go.RowKit Go.Maps
set_option linter.unusedVariables false
set_option linter.unusedSimpArgs false

theorem zeros_made (n : Nat) : (madeCells (Value.int .i64 0).cells (n * 1)).toList = intsOf (List.replicate n 0) := by
  apply List.ext_getElem
  · simp [madeCells, intsOf]
  · intro i h1 h2
    simp [madeCells, intsOf, Value.cells, Nat.mod_one]
theorem exec_copy {P : Program} {a : Act} {o : Oper} {w w' : World} (t : TypeId) (s x : Operand) (vs vx v : Value) (ho : o.op = .call { callee := .builtin .copy, args := #[s, x], argTypes := #[t, t] }) (hs : a.eval s = vs) (hx : a.eval x = vx) (hr : (Builtin.copy_ #[t, t] o.type #[vs, vx]).run P w = .ok v w') : (execOp a.eval o).run P w = .ok (.value v) w' := by
  unfold execOp
  simp only [ho, resolve, invoke, builtin, Sem.run_bind, Sem.run_pure, Result.andThen_ok, List.map_toArray, List.map_cons, List.map_nil, hs, hx, hr]
theorem size_int : (Try.prog.info? 3).map (·.size) = some 1 := by
  obtain ⟨i0, hi, hz0, hz1, hz2⟩ := info_parts info_int
  rw [hi]; simp [hz1]
/-- Numbers laid over the first ones of a row. -/
theorem copy_run (w : World) (base g N : Nat) (ty : TypeId) (z : List Int) (hown : w.ownsRow base 3 1 (.slice (some ⟨g, 0, none⟩) N N) N (intsOf z)) (A : Option Addr) (c : Nat) (q : List Int) (hA : Ints w A q) (hq : q.length ≤ N) :
    ∃ w', (Builtin.copy_ #[22, 22] ty #[.slice (some ⟨g, 0, none⟩) N N, .slice A q.length c]).run Try.prog w = .ok (.int .i64 q.length) w' ∧ w'.ownsRow base 3 1 (.slice (some ⟨g, 0, none⟩) N N) N (intsOf (q ++ z.drop q.length)) ∧ w.grownBy w' (some g) := by
  by_cases h0 : q.length = 0
  · have : q = [] := List.length_eq_zero_iff.1 h0
    subst this
    exact ⟨w, run_copy_none (P := Try.prog) w _ _ ty 3 _ _ _ _ _ _ Try.underlying22 size_int (by simp), by simpa using hown, World.grownBy.refl _ _⟩
  · have hsrc := ints_src hA
    obtain ⟨b, off, rfl, hb, hc⟩ := hA (by omega)
    rcases hown.2 with ⟨e, _⟩ | ⟨g', cap, cur, e, hbg, hg, hn, hm, hs, ht⟩
    · cases e
    · injection e with e1 e2 e3
      injection e1 with e1
      injection e1 with e1
      subst e1 e3
      have hcur : cur.toList = intsOf z := by
        rw [← ht, List.take_of_length_le (by simp; omega)]
      have hlen : (intsOf q).length = q.length := by simp [intsOf]
      have hr := run_copy_row (P := Try.prog) w 22 22 ty 3 g 0 N N ⟨b, off, none⟩ q.length c cur 3 (intsOf q) Try.underlying22 size_int hg (by rw [hlen]; exact (Nat.min_eq_left hq).symm) (hsrc _ rfl) (by rw [hlen]; omega) (by intro u hu; simp [intsOf] at hu; obtain ⟨x, _, rfl⟩ := hu; rfl)
      rw [hlen] at hr
      refine ⟨_, hr, ⟨?_, .inr ⟨g, N, _, rfl, hbg, setRow_heap w g cur _ 3 (0, 0) hg, hn, hm, ?_, ?_⟩⟩, ⟨rfl, rfl, rfl, by simp, fun k _ hk => setRow_other w g k _ (fun e => hk (by rw [e]))⟩⟩
      · have := hown.1; simp [intsOf] at this ⊢; omega
      · have := hown.1; simp [hcur, intsOf] at this ⊢; omega
      · have := hown.1
        simp only [List.take_zero, List.nil_append, Nat.zero_add, hcur]
        rw [show intsOf (q ++ z.drop q.length) = intsOf q ++ (intsOf z).drop q.length by simp [intsOf]]
        apply List.take_of_length_le
        simp [intsOf] at this ⊢; omega

theorem row_drew {W : World} {base : Nat} {e : TypeId} {size : Nat} {v : Value} {n : Nat} {xs : List Value} (h : W.ownsRow base e size v n xs) : W.drew.ownsRow base e size v n xs := h
theorem holds_drew1 {W : World} {B : Nat} {t : TypeId} {cs : Array Value} (h : Holds W B t cs) : Holds W.drew B t cs := h
theorem grown_drew {a b : World} {row : Option Nat} (h : a.grownBy b row) : a.grownBy b.drew row := ⟨h.os, h.tape, h.output, h.size, h.block⟩
theorem grown_drew1 {a b : World} {row : Option Nat} (h : a.drew.grownBy b row) : a.grownBy b row := ⟨h.os, h.tape, h.output, h.size, h.block⟩
theorem grown_far {a b c : World} {G : Nat} {row : Option Nat} (h : a.grownBy b none) (k : b.grownBy c (some G)) (hG : a.heap.size ≤ G) : a.grownBy c row :=
  ⟨k.os.trans h.os, k.tape.trans h.tape, k.output.trans h.output, Nat.le_trans h.size k.size, fun i hi hne => (k.block i (Nat.lt_of_lt_of_le hi h.size) (fun e => by have := Option.some.inj e; omega)).trans (h.block i hi (by simp))⟩

set_option maxHeartbeats 2000000 in
theorem widen_any (base : Nat) (B : Nat) (A : Option Addr) (q : List Int) (m : Nat) (w : World) (hb : base ≤ B) (hH : Holds w B 56 #[.slice A q.length q.length, .int .i64 0, .int .i64 q.length]) (hA : Ints w A q) (hlen : q.length + m ≤ 5000) :
    Calls Try.prog 33 #[.pointer (some ⟨B, 0, none⟩), .int .i64 m] w fun e w' => e = .returned (.tuple #[]) ∧ (∃ g, w.heap.size ≤ g ∧ Ring base w' B g (q ++ List.replicate m 0) 0 q) ∧ w.grownBy w' (some B) := by
  obtain ⟨i0, hi, hz0, hz1, hz2⟩ := info_parts info_int
  have hlt := hH.lt
  have HQ := Lib.hid (rfl : q.length = q.length)
  have HA := Lib.hid hA
  have HH := Lib.hid hH
  have c0 := hH.c (j := 0) rfl
  have c1 := hH.c (j := 1) rfl
  have c2 := hH.c (j := 2) rfl
  obtain ⟨n, hn⟩ : ∃ n, n = q.length := ⟨_, rfl⟩
  rw [← hn] at c0 c2 hlen HH
  have Hn := Lib.hid hn
  clear hn hH hA HQ
  obtain ⟨N, hN⟩ : ∃ N, N = n + m := ⟨_, rfl⟩
  have hN1 : N ≤ n + m := by omega
  have hN2 : n + m ≤ N := by omega
  have HN := Lib.hid hN
  clear hN
  go_enter Try.func33, Try.ntmps33
  go_wp2_with (at_make; refine wpList_make_full _ rfl _ _ 22 rfl w.heap.size 3 i0 (.int .i64 0) 1 Try.underlying22 hi hz0 hz1 .i64 .i64 _ _ N rfl rfl (by omega) (by omega) (by rw [hz2]; omega) (by unfold maxLen; omega) (Nat.le_refl _) ?_; intro w2 hown2 hg2; rw [zeros_made] at hown2)
  have hH2 := HH.out.kept hg2 (by simp)
  have HA2 := Lib.hid (HA.out.below ((Below.refl _ w).grown hg2 (Nat.le_refl _) (fun k e => by cases e)))
  have d0 := hH2.c (j := 0) rfl
  have d1 := hH2.c (j := 1) rfl
  have HO2 := Lib.hid hown2
  have HG2 := Lib.hid hg2
  have HH2 := Lib.hid hH2
  obtain ⟨G, hG⟩ : ∃ G, G = w.heap.size := ⟨_, rfl⟩
  have hBG : B ≠ G := by omega
  rw [← hG] at HO2
  clear c0 c1 c2 hown2 hg2 hH2
  rw [← hG]
  have HGe := Lib.hid hG
  clear hG
  refine wp_region_noPanic ?_
  refine wp_region_picked [(0, true), (1, true), (2, true), (3, true), (4, true), (5, true), (6, true), (7, true), (8, true), (9, true), (10, false), (11, true)] (fun W' => W'.cell? ⟨B, 0, none⟩ = some (.slice A n n) ∧ W'.cell? ⟨B, 1, none⟩ = some (.int .i64 0)) (by kernel_rfl) (by kernel_rfl) (fun _ _ _ _ _ h => h) ⟨d0, d1⟩ ?_
  iterate 9
    refine Picked.take ?_ (by rfl) (by rfl) ?_ ?_
    rotate_left
    · rintro w' ⟨hw0, hw1⟩
      go_simp
      try with_reducible rfl
    simp only [Act.put, List.getElem_toArray, List.getElem_cons_zero, List.getElem_cons_succ, List.setIfInBounds_toArray, List.set_cons_zero, List.set_cons_succ]
  refine Picked.take (.slice A n n) (by rfl) (by rfl) ?_ ?_
  · intro w' hw'
    by_cases hcp : n = 0
    · subst hcp
      go_simp
    · cases A with
      | none => go_simp
      | some ad => go_simp
  simp only [Act.put, List.getElem_toArray, List.getElem_cons_zero, List.getElem_cons_succ, List.setIfInBounds_toArray, List.set_cons_zero, List.set_cons_succ]
  obtain ⟨w3, hr3, ho3, hg3⟩ := copy_run w2.drew G G N 3 _ (row_drew HO2.out) A n q HA2.out (by have := Hn.out; omega)
  rw [← Hn.out] at hr3
  have hH3 : Holds w3 B 56 #[.slice A n n, .int .i64 0, .int .i64 n] := (holds_drew1 HH2.out).kept hg3 (by intro e; exact hBG (Option.some.inj e))
  have e0 := hH3.c (j := 0) rfl
  have e1 := hH3.c (j := 1) rfl
  refine Picked.make (.int .i64 n) (by rfl) (by rfl) (exec_copy 22 _ _ _ _ _ rfl rfl rfl hr3) ⟨e0, e1⟩ ?_
  simp only [Act.put, List.getElem_toArray, List.getElem_cons_zero, List.getElem_cons_succ, List.setIfInBounds_toArray, List.set_cons_zero, List.set_cons_succ]
  refine Picked.take ?_ (by rfl) (by rfl) ?_ ?_
  rotate_left
  · rintro w' ⟨hw0, hw1⟩
    go_simp
    try with_reducible rfl
  simp only [Act.put, List.getElem_toArray, List.getElem_cons_zero, List.getElem_cons_succ, List.setIfInBounds_toArray, List.set_cons_zero, List.set_cons_succ]
  refine NoPanic.normal ?_
  have HG3 : Hid (w.grownBy w3 (some B)) := Lib.hid (grown_far HG2.out (grown_drew1 hg3) (by rw [HGe.out]; exact Nat.le_refl _))
  have HH3 := Lib.hid hH3
  have HO3 := Lib.hid ho3
  clear d0 d1 hr3 ho3 hg3 hH3
  have g1 : (n : Int) ≤ (N : Int) := by omega
  have g2 : (0 : Int) ≤ (n : Int) := by omega
  go_wp2_with fail
  refine wp_region_noPanic ?_
  refine wp_region_picked [(0, true), (1, true), (2, true), (3, true), (4, true), (5, true), (6, true), (7, true), (8, true), (9, true), (10, true), (11, true), (12, false)] (fun W' => W'.cell? ⟨B, 0, none⟩ = some (.slice A n n) ∧ W'.cell? ⟨B, 1, none⟩ = some (.int .i64 0)) (by kernel_rfl) (by kernel_rfl) (fun _ _ _ _ _ h => h) ⟨e0, e1⟩ ?_
  iterate 2
    refine Picked.take ?_ (by rfl) (by rfl) ?_ ?_
    rotate_left
    · rintro w' ⟨hw0, hw1⟩
      go_simp
      try with_reducible rfl
    simp only [Act.put, List.getElem_toArray, List.getElem_cons_zero, List.getElem_cons_succ, List.setIfInBounds_toArray, List.set_cons_zero, List.set_cons_succ]
  refine Picked.take (.slice (subA (some ⟨G, 0, none⟩) N n) (N - n) (N - n)) (by rfl) (by rfl) ?_ ?_
  · intro w' hw'
    by_cases hcp : N = n
    · have e1 : subA (some ⟨G, 0, none⟩) N n = some ⟨G, 0, none⟩ := by unfold subA; rw [if_pos hcp]
      have e2 : N - n = 0 := by omega
      rw [e1, e2]
      go_simp
    · have e1 : subA (some ⟨G, 0, none⟩) N n = some ⟨G, n, none⟩ := by unfold subA; rw [if_neg hcp]; simp [Addr.add]; omega
      rw [e1]
      go_simp
      try omega
  simp only [Act.put, List.getElem_toArray, List.getElem_cons_zero, List.getElem_cons_succ, List.setIfInBounds_toArray, List.set_cons_zero, List.set_cons_succ]
  iterate 8
    refine Picked.take ?_ (by rfl) (by rfl) ?_ ?_
    rotate_left
    · rintro w' ⟨hw0, hw1⟩
      go_simp
      try with_reducible rfl
    simp only [Act.put, List.getElem_toArray, List.getElem_cons_zero, List.getElem_cons_succ, List.setIfInBounds_toArray, List.set_cons_zero, List.set_cons_succ]
  refine Picked.take (.slice A 0 n) (by rfl) (by rfl) ?_ ?_
  · intro w' hw'
    by_cases hcp : n = 0
    · subst hcp
      go_simp
    · cases A with
      | none => go_simp
      | some ad => go_simp
  simp only [Act.put, List.getElem_toArray, List.getElem_cons_zero, List.getElem_cons_succ, List.setIfInBounds_toArray, List.set_cons_zero, List.set_cons_succ]
  refine Picked.make (w1 := w3.drew) (.int .i64 0) (by rfl) (by rfl) (exec_copy 22 _ _ _ _ _ rfl rfl rfl (run_copy_none (P := Try.prog) w3.drew 22 22 3 3 (subA (some ⟨G, 0, none⟩) N n) A (N - n) (N - n) 0 n Try.underlying22 size_int (by simp))) ⟨e0, e1⟩ ?_
  simp only [Act.put, List.getElem_toArray, List.getElem_cons_zero, List.getElem_cons_succ, List.setIfInBounds_toArray, List.set_cons_zero, List.set_cons_succ]
  refine NoPanic.normal ?_
  have hH4 := holds_drew1 HH3.out
  have HO4 := Lib.hid (row_drew HO3.out)
  have HG4 : Hid (w.grownBy w3.drew (some B)) := Lib.hid (grown_drew HG3.out)
  clear e0 e1
  generalize w3.drew = w4 at *
  have e0 := hH4.c (j := 0) rfl
  have e1 := hH4.c (j := 1) rfl
  have f0 := hH4.frozen 0
  have f1 := hH4.frozen 1
  have HH5 := Lib.hid ((hH4.set 0 (.slice (some ⟨G, 0, none⟩) N N)).set 1 (.int .i64 0))
  have HG5 := Lib.hid ((HG4.out.trans (ring_grown w4 B 0 (.slice (some ⟨G, 0, none⟩) N N))).trans (ring_grown _ B 1 (.int .i64 0)))
  have HO5 := Lib.hid ((HO4.out.kept (ring_grown w4 B 0 (.slice (some ⟨G, 0, none⟩) N N)) (.inr (fun e => hBG (Option.some.inj e).symm))).kept (ring_grown _ B 1 (.int .i64 0)) (.inr (fun e => hBG (Option.some.inj e).symm)))
  clear hH4
  go_wp2
  go_end0
  refine ⟨rfl, ⟨G, by rw [HGe.out]; exact Nat.le_refl _, ?_⟩, HG5.out⟩
  have hlN : (q ++ List.replicate m 0).length = N := by rw [List.length_append, List.length_replicate, ← Hn.out, HN.out]
  have hz : q ++ (List.replicate N 0).drop q.length = q ++ List.replicate m 0 := by rw [List.drop_replicate, ← Hn.out, HN.out, Nat.add_sub_cancel_left]
  have hO := HO5.out
  rw [hz] at hO
  refine ⟨?_, ?_, hb, ⟨List.replicate m 0, by simp⟩, .inr rfl⟩
  · rw [hlN, ← Hn.out]; exact HH5.out
  · rw [hlN]; exact row_more hO (by have := HGe.out; omega)
end Go.Proofs.Ythnaogdiiflljaa
