/- Texts of earlier stages over this seat, joined: FiA FiB FiC FiD FiRg FiE FiF FiG FiH FiI FiJ. -/
import Derived.Test.YtmclpganipfadaaGreatDoorJbC
import Derived.Laws.CopyRow
import Derived.Laws.IdiomCopy
set_option maxRecDepth 100000
namespace Go.Proofs.YtmclpganipfadaaGreatDoor
open Go.RowKit Go.Maps
set_option linter.unusedVariables false
set_option linter.unusedSimpArgs false

/-- A ring in the world: its box, its cells (a row of the call's own), where the first one is, and what is in it. -/
structure Ring (base : Nat) (W : World) (B g : Nat) (cs : List Int) (p : Nat) (q : List Int) : Prop where
  box : Holds W B 111 #[.slice (some ⟨g, 0, none⟩) cs.length cs.length, .int .i64 p, .int .i64 q.length]
  row : W.ownsRow base 3 1 (.slice (some ⟨g, 0, none⟩) cs.length cs.length) cs.length (intsOf cs)
  own : base ≤ B
  laid : ∃ rest, cs.drop p = q ++ rest
  inn : p < cs.length ∨ p = 0
theorem Ring.ne {base : Nat} {W : World} {B g : Nat} {cs : List Int} {p : Nat} {q : List Int} (h : Ring base W B g cs p q) : B ≠ g := fun e =>
  h.box.not_row h.row (by decide) (by rw [e]; rfl)
theorem Ring.fit {base : Nat} {W : World} {B g : Nat} {cs : List Int} {p : Nat} {q : List Int} (h : Ring base W B g cs p q) : p + q.length ≤ cs.length := by
  obtain ⟨rest, hr⟩ := h.laid
  have := congrArg List.length hr
  rw [List.length_drop, List.length_append] at this
  rcases h.inn with h1 | h1 <;> omega
theorem Ring.first {base : Nat} {W : World} {B g : Nat} {cs : List Int} {p : Nat} {x : Int} {q : List Int} (h : Ring base W B g cs p (x :: q)) : cs[p]? = some x := by
  obtain ⟨rest, hr⟩ := h.laid
  have := congrArg (·[0]?) hr
  simpa using this
theorem Ring.kept {base : Nat} {W W' : World} {B g : Nat} {cs : List Int} {p : Nat} {q : List Int} {row : Option Nat} (h : Ring base W B g cs p q) (hg : W.grownBy W' row) (h1 : some B ≠ row) (h2 : some g ≠ row) : Ring base W' B g cs p q :=
  ⟨h.box.kept hg h1, h.row.kept hg (.inr h2), h.own, h.laid, h.inn⟩
theorem Ring.more {base base' : Nat} {W : World} {B g : Nat} {cs : List Int} {p : Nat} {q : List Int} (h : Ring base W B g cs p q) (hb : base' ≤ base) : Ring base' W B g cs p q :=
  ⟨h.box, row_more h.row hb, Nat.le_trans hb h.own, h.laid, h.inn⟩
theorem Ring.glt {base : Nat} {W : World} {B g : Nat} {cs : List Int} {p : Nat} {q : List Int} (h : Ring base W B g cs p q) : base ≤ g ∧ g < W.heap.size := h.row.lt g rfl
theorem Ring.below {base n : Nat} {W W' : World} {B g : Nat} {cs : List Int} {p : Nat} {q : List Int} (h : Ring base W B g cs p q) (hb : Below n W W') (h1 : W.heap.size ≤ n) : Ring base W' B g cs p q :=
  h.kept (row := none) ⟨hb.os, hb.tape, hb.output, hb.size, fun k hk _ => hb.block k (by omega)⟩ (by simp) (by simp)
/-- The first one taken off. -/
theorem Ring.less {base : Nat} {W W' : World} {B g : Nat} {cs : List Int} {p p' : Nat} {x : Int} {q : List Int} (h : Ring base W B g cs p (x :: q)) (hp : p' = if p + 1 < cs.length then p + 1 else 0)
    (hg : W.grownBy W' (some B)) (hb : Holds W' B 111 #[.slice (some ⟨g, 0, none⟩) cs.length cs.length, .int .i64 p', .int .i64 q.length]) : Ring base W' B g cs p' q := by
  refine ⟨hb, h.row.kept hg (.inr ?_), h.own, ?_, ?_⟩
  · intro e; exact h.ne (Option.some.inj e).symm
  · obtain ⟨rest, hr⟩ := h.laid
    by_cases hlt : p + 1 < cs.length
    · rw [if_pos hlt] at hp
      subst hp
      refine ⟨rest, ?_⟩
      have := congrArg List.tail hr
      rw [List.tail_drop] at this
      simpa using this
    · rw [if_neg hlt] at hp
      subst hp
      have hf := h.fit
      have : q = [] := by
        cases q with
        | nil => rfl
        | cons y r => simp at hf; omega
      subst this
      exact ⟨cs, by simp⟩
  · by_cases hlt : p + 1 < cs.length
    · rw [if_pos hlt] at hp; omega
    · rw [if_neg hlt] at hp; omega

theorem ring_grown (w : World) (B off : Nat) (u : Value) : w.grownBy (w.setCell ⟨B, off, none⟩ u) (some B) := ⟨rfl, rfl, rfl, by simp [World.setCell], fun k _ hk => Below.heap_setCell _ _ _ _ (fun e => hk (by rw [e]))⟩
theorem ring_grown1 (w : World) (B off : Nat) (u : Value) : w.grownBy (w.setCell ⟨B, off, none⟩ u).drew.drew (some B) := ⟨rfl, rfl, rfl, by simp [World.setCell], fun k _ hk => Below.heap_setCell _ _ _ _ (fun e => hk (by rw [e]))⟩
theorem ring_set1 {W : World} {B : Nat} {t : TypeId} {a b c : Value} (h : Holds W B t #[a, b, c]) (u : Value) : Holds (W.setCell ⟨B, 1, none⟩ u).drew.drew B t #[a, u, c] := h.set 1 u

theorem rsize_any (base : Nat) (B g : Nat) (cs : List Int) (p : Nat) (q : List Int) (w : World) (h : Ring base w B g cs p q) :
    Calls Tryz.prog 80 #[.pointer (some ⟨B, 0, none⟩)] w fun e w' => e = .returned (.int .i64 q.length) ∧ w' = w := by
  have c2 := h.box.c (j := 2) rfl
  go_enter Tryz.func80, Tryz.ntmps80
  go_wp2
  go_ret
  exact ⟨rfl, rfl⟩
theorem take_none (base : Nat) (B g : Nat) (cs : List Int) (p : Nat) (w : World) (h : Ring base w B g cs p []) :
    Calls Tryz.prog 79 #[.pointer (some ⟨B, 0, none⟩)] w fun e w' => e = .returned (.tuple #[.int .i64 0, .bool false]) ∧ w' = w := by
  have c2 := h.box.c (j := 2) rfl
  simp only [List.length_nil] at c2
  go_enter Tryz.func79, Tryz.ntmps79
  go_wp2
  refine bodyPost_ret (v := .tuple #[.int .i64 0, .bool false]) (by simp [results, Tryz.f79, go_sem]) rfl ?_
  exact ⟨rfl, rfl⟩
set_option maxHeartbeats 1000000 in
theorem take_some (base : Nat) (B g : Nat) (cs : List Int) (p : Nat) (x : Int) (q : List Int) (w : World) (h : Ring base w B g cs p (x :: q)) (hlen : cs.length ≤ 10000) :
    Calls Tryz.prog 79 #[.pointer (some ⟨B, 0, none⟩)] w fun e w' => e = .returned (.tuple #[.int .i64 x, .bool true]) ∧ (∃ p', Ring base w' B g cs p' q) ∧ w.grownBy w' (some B) := by
  have hfit := h.fit
  rw [List.length_cons] at hfit
  have hp : p < cs.length := by omega
  have c0 := h.box.c (j := 0) rfl
  have c1 := h.box.c (j := 1) rfl
  have c2 := h.box.c (j := 2) rfl
  have f1 := h.box.frozen 1
  have f2 := h.box.frozen 2
  rw [List.length_cons] at c2
  have hx : w.cell? ⟨g, p, none⟩ = some (.int .i64 x) := by
    rw [h.row.cellAt p (by omega)]
    simp [intsOf, h.first]
  have HR := Lib.hid h
  have HH : Hid (Holds w B 111 #[.slice (some ⟨g, 0, none⟩) cs.length cs.length, .int .i64 p, .int .i64 ((q.length : Int) + 1)]) := Lib.hid (by have := h.box; rw [List.length_cons, show ((q.length + 1 : Nat) : Int) = (q.length : Int) + 1 by omega] at this; exact this)
  obtain ⟨N, hN⟩ : ∃ N, N = cs.length := ⟨_, rfl⟩
  rw [← hN] at c0 hlen hp hfit HH
  obtain ⟨n, hn⟩ : ∃ n, n = q.length := ⟨_, rfl⟩
  rw [← hn] at c2 hfit HH
  have g0 : ((n + 1 : Nat) : Int) = (n : Int) + 1 := by omega
  rw [g0] at c2
  have g1 : (((n : Int) + 1) == 0) = false := by simp; omega
  have g2 : (0 : Int) ≤ (p : Int) := by omega
  have g3 : (p : Int) < (N : Int) := by omega
  have g4 : ((N : Int) == 0) = false := by simp; omega
  obtain ⟨p', hp'⟩ : ∃ p', p' = if p + 1 < N then p + 1 else 0 := ⟨_, rfl⟩
  obtain ⟨p1, hp1⟩ : ∃ p1, p1 = p + 1 := ⟨_, rfl⟩
  have g5 : (p1 : Int).tmod (N : Int) = (p' : Int) := by
    rw [hp', hp1]
    by_cases hlt : p + 1 < N
    · rw [if_pos hlt]
      show (((p + 1) % N : Nat) : Int) = _
      rw [Nat.mod_eq_of_lt hlt]
    · rw [if_neg hlt]
      show (((p + 1) % N : Nat) : Int) = _
      rw [show p + 1 = N by omega, Nat.mod_self]
  have gw : IntKind.i64.wrap ((p : Int) + 1) = (p1 : Int) := by rw [hp1]; rw [IntWalk.i64_left]; unfold wrap64; omega
  have g7 : p1 ≤ N := by omega
  have g8 : ¬ N = 0 := by omega
  have g6 : p' ≤ N := by rw [hp']; split <;> omega
  have HP := Lib.hid hp'
  have HN := Lib.hid hN
  have Hn := Lib.hid hn
  clear h hp' hN hn g0 hp1
  go_enter Tryz.func79, Tryz.ntmps79
  go_wp2_with fail
  refine wp_region_noPanic ?_
  refine wp_region_picked [(0, true), (1, true), (2, true), (3, true), (4, true), (5, true), (6, true), (7, true), (8, true), (9, true), (10, true)] (fun W' => W'.cell? ⟨B, 0, none⟩ = some (.slice (some ⟨g, 0, none⟩) N N) ∧ W'.cell? ⟨B, 1, none⟩ = some (.int .i64 p) ∧ W'.cell? ⟨g, p, none⟩ = some (.int .i64 x)) (by kernel_rfl) (by kernel_rfl) (fun _ _ _ _ _ h => h) ⟨c0, c1, hx⟩ ?_
  iterate 11
    refine Picked.take ?_ (by rfl) (by rfl) ?_ ?_
    rotate_left
    · rintro w' ⟨hw0, hw1, hw2⟩
      go_simp
      try with_reducible rfl
    simp only [Act.put, List.getElem_toArray, List.getElem_cons_zero, List.getElem_cons_succ, List.setIfInBounds_toArray, List.set_cons_zero, List.set_cons_succ]
  refine NoPanic.normal ?_
  go_wp2_with fail
  refine wp_region_noPanic ?_
  refine wp_region_heads [true, true, true, true, true, true, true, true, true, true, true, true, true, true] (fun W' => W'.cell? ⟨B, 0, none⟩ = some (.slice (some ⟨g, 0, none⟩) N N) ∧ W'.cell? ⟨B, 1, none⟩ = some (.int .i64 p)) (by kernel_rfl) (by kernel_rfl) (fun _ _ _ _ _ h => h) ⟨c0, c1⟩ ?_
  iterate 14
    refine Heads.take ?_ (by rfl) ?_ ?_
    rotate_left
    · rintro w' ⟨hw0, hw1⟩
      go_simp
      try with_reducible rfl
    simp only [Act.put, List.getElem_toArray, List.getElem_cons_zero, List.getElem_cons_succ, List.setIfInBounds_toArray, List.set_cons_zero, List.set_cons_succ]
  refine Heads.done ?_
  go_wp2_with fail
  refine NoPanic.normal ?_
  have hH1 : Holds (w.setCell ⟨B, 1, none⟩ (.int .i64 p')).drew.drew B 111 #[.slice (some ⟨g, 0, none⟩) N N, .int .i64 p', .int .i64 ((n : Int) + 1)] := ring_set1 HH.out _
  have hG1 := ring_grown1 w B 1 (.int .i64 p')
  generalize (w.setCell ⟨B, 1, none⟩ (.int .i64 p')).drew.drew = W1 at *
  have d2 := hH1.c (j := 2) rfl
  have e2 := hH1.frozen 2
  have hH2 := hH1.set 2 (.int .i64 n)
  have hG2 := hG1.trans (ring_grown W1 B 2 (.int .i64 n))
  have HG2 := Lib.hid hG2
  have HH2 := Lib.hid hH2
  clear c0 c1 c2 f1 f2 hx hH1 hH2 hG1 hG2
  go_wp2
  refine bodyPost_ret (v := .tuple #[.int .i64 x, .bool true]) (by simp [results, Tryz.f79, go_sem]) rfl ?_
  refine ⟨rfl, ⟨p', HR.out.less (by rw [HP.out, HN.out]) HG2.out ?_⟩, HG2.out⟩
  rw [← HN.out, ← Hn.out]
  exact HH2.out
end Go.Proofs.YtmclpganipfadaaGreatDoor

namespace Go.Proofs.YtmclpganipfadaaGreatDoor
open Go.RowKit Go.Maps
set_option linter.unusedVariables false
set_option linter.unusedSimpArgs false

theorem zeros_made (n : Nat) : (madeCells (Value.int .i64 0).cells (n * 1)).toList = intsOf (List.replicate n 0) := by
  apply List.ext_getElem
  · simp [madeCells, intsOf]
  · intro i h1 h2
    simp [madeCells, intsOf, Value.cells, Nat.mod_one]
theorem exec_copy {P : Program} {a : Act} {o : Oper} {w w' : World} (t : TypeId) (s x : Operand) (vs vx v : Value) (ho : o.op = .call { callee := .builtin .copy, args := #[s, x], argTypes := #[t, t] }) (hs : a.eval s = vs) (hx : a.eval x = vx) (hr : (Builtin.copy_ #[t, t] o.type #[vs, vx]).run P w = .ok v w') : (execOp a.eval o).run P w = .ok (.value v) w' := by
  unfold execOp
  simp only [ho, resolve, invoke, builtin, Sem.run_bind, Sem.run_pure, Result.andThen_ok, List.map_toArray, List.map_cons, List.map_nil, hs, hx, hr]
theorem size_int : (Tryz.prog.info? 3).map (·.size) = some 1 := by
  obtain ⟨i0, hi, hz0, hz1, hz2⟩ := info_parts info_int
  rw [hi]; simp [hz1]
/-- Numbers laid over the first ones of a row. -/
theorem copy_run (w : World) (base g N : Nat) (ty : TypeId) (z : List Int) (hown : w.ownsRow base 3 1 (.slice (some ⟨g, 0, none⟩) N N) N (intsOf z)) (A : Option Addr) (c : Nat) (q : List Int) (hA : Ints w A q) (hq : q.length ≤ N) :
    ∃ w', (Builtin.copy_ #[22, 22] ty #[.slice (some ⟨g, 0, none⟩) N N, .slice A q.length c]).run Tryz.prog w = .ok (.int .i64 q.length) w' ∧ w'.ownsRow base 3 1 (.slice (some ⟨g, 0, none⟩) N N) N (intsOf (q ++ z.drop q.length)) ∧ w.grownBy w' (some g) := by
  by_cases h0 : q.length = 0
  · have : q = [] := List.length_eq_zero_iff.1 h0
    subst this
    exact ⟨w, run_copy_none (P := Tryz.prog) w _ _ ty 3 _ _ _ _ _ _ Tryz.underlying22 size_int (by simp), by simpa using hown, World.grownBy.refl _ _⟩
  · have hsrc := ints_src hA
    obtain ⟨b, off, rfl, hb, hc⟩ := hA (by omega)
    rcases hown.2 with ⟨e, _⟩ | ⟨g', cap, cur, e, hbg, hg, hn, hm, hs, ht⟩
    · cases e
    · injection e with e1 e2 e3
      injection e1 with e1
      injection e1 with e1
      subst e1 e3
      have hcur : cur.toList = intsOf z := by
        rw [← ht, List.take_of_length_le (by simp; omega)]
      have hlen : (intsOf q).length = q.length := by simp [intsOf]
      have hr := run_copy_row (P := Tryz.prog) w 22 22 ty 3 g 0 N N ⟨b, off, none⟩ q.length c cur 3 (intsOf q) Tryz.underlying22 size_int hg (by rw [hlen]; exact (Nat.min_eq_left hq).symm) (hsrc _ rfl) (by rw [hlen]; omega) (by intro u hu; simp [intsOf] at hu; obtain ⟨x, _, rfl⟩ := hu; rfl)
      rw [hlen] at hr
      refine ⟨_, hr, ⟨?_, .inr ⟨g, N, _, rfl, hbg, setRow_heap w g cur _ 3 (0, 0) hg, hn, hm, ?_, ?_⟩⟩, ⟨rfl, rfl, rfl, by simp, fun k _ hk => setRow_other w g k _ (fun e => hk (by rw [e]))⟩⟩
      · have := hown.1; simp [intsOf] at this ⊢; omega
      · have := hown.1; simp [hcur, intsOf] at this ⊢; omega
      · have := hown.1
        simp only [List.take_zero, List.nil_append, Nat.zero_add, hcur]
        rw [show intsOf (q ++ z.drop q.length) = intsOf q ++ (intsOf z).drop q.length by simp [intsOf]]
        apply List.take_of_length_le
        simp [intsOf] at this ⊢; omega

theorem row_drew {W : World} {base : Nat} {e : TypeId} {size : Nat} {v : Value} {n : Nat} {xs : List Value} (h : W.ownsRow base e size v n xs) : W.drew.ownsRow base e size v n xs := h
theorem holds_drew1 {W : World} {B : Nat} {t : TypeId} {cs : Array Value} (h : Holds W B t cs) : Holds W.drew B t cs := h
theorem grown_drew {a b : World} {row : Option Nat} (h : a.grownBy b row) : a.grownBy b.drew row := ⟨h.os, h.tape, h.output, h.size, h.block⟩
theorem grown_drew1 {a b : World} {row : Option Nat} (h : a.drew.grownBy b row) : a.grownBy b row := ⟨h.os, h.tape, h.output, h.size, h.block⟩
theorem grown_far {a b c : World} {G : Nat} {row : Option Nat} (h : a.grownBy b none) (k : b.grownBy c (some G)) (hG : a.heap.size ≤ G) : a.grownBy c row :=
  ⟨k.os.trans h.os, k.tape.trans h.tape, k.output.trans h.output, Nat.le_trans h.size k.size, fun i hi hne => (k.block i (Nat.lt_of_lt_of_le hi h.size) (fun e => by have := Option.some.inj e; omega)).trans (h.block i hi (by simp))⟩

set_option maxHeartbeats 2000000 in
theorem widen_any (base : Nat) (B : Nat) (A : Option Addr) (q : List Int) (m : Nat) (w : World) (hb : base ≤ B) (hH : Holds w B 111 #[.slice A q.length q.length, .int .i64 0, .int .i64 q.length]) (hA : Ints w A q) (hlen : q.length + m ≤ 5000) :
    Calls Tryz.prog 77 #[.pointer (some ⟨B, 0, none⟩), .int .i64 m] w fun e w' => e = .returned (.tuple #[]) ∧ (∃ g, w.heap.size ≤ g ∧ Ring base w' B g (q ++ List.replicate m 0) 0 q) ∧ w.grownBy w' (some B) := by
  obtain ⟨i0, hi, hz0, hz1, hz2⟩ := info_parts info_int
  have hlt := hH.lt
  have HQ := Lib.hid (rfl : q.length = q.length)
  have HA := Lib.hid hA
  have HH := Lib.hid hH
  have c0 := hH.c (j := 0) rfl
  have c1 := hH.c (j := 1) rfl
  have c2 := hH.c (j := 2) rfl
  obtain ⟨n, hn⟩ : ∃ n, n = q.length := ⟨_, rfl⟩
  rw [← hn] at c0 c2 hlen HH
  have Hn := Lib.hid hn
  clear hn hH hA HQ
  obtain ⟨N, hN⟩ : ∃ N, N = n + m := ⟨_, rfl⟩
  have hN1 : N ≤ n + m := by omega
  have hN2 : n + m ≤ N := by omega
  have HN := Lib.hid hN
  clear hN
  go_enter Tryz.func77, Tryz.ntmps77
  go_wp2_with (at_make; refine wpList_make_full _ rfl _ _ 22 rfl w.heap.size 3 i0 (.int .i64 0) 1 Tryz.underlying22 hi hz0 hz1 .i64 .i64 _ _ N rfl rfl (by omega) (by omega) (by rw [hz2]; omega) (by unfold maxLen; omega) (Nat.le_refl _) ?_; intro w2 hown2 hg2; rw [zeros_made] at hown2)
  have hH2 := HH.out.kept hg2 (by simp)
  have HA2 := Lib.hid (HA.out.below ((Below.refl _ w).grown hg2 (Nat.le_refl _) (fun k e => by cases e)))
  have d0 := hH2.c (j := 0) rfl
  have d1 := hH2.c (j := 1) rfl
  have HO2 := Lib.hid hown2
  have HG2 := Lib.hid hg2
  have HH2 := Lib.hid hH2
  obtain ⟨G, hG⟩ : ∃ G, G = w.heap.size := ⟨_, rfl⟩
  have hBG : B ≠ G := by omega
  rw [← hG] at HO2
  clear c0 c1 c2 hown2 hg2 hH2
  rw [← hG]
  have HGe := Lib.hid hG
  clear hG
  refine wp_region_noPanic ?_
  refine wp_region_picked [(0, true), (1, true), (2, true), (3, true), (4, true), (5, true), (6, true), (7, true), (8, true), (9, true), (10, false), (11, true)] (fun W' => W'.cell? ⟨B, 0, none⟩ = some (.slice A n n) ∧ W'.cell? ⟨B, 1, none⟩ = some (.int .i64 0)) (by kernel_rfl) (by kernel_rfl) (fun _ _ _ _ _ h => h) ⟨d0, d1⟩ ?_
  iterate 9
    refine Picked.take ?_ (by rfl) (by rfl) ?_ ?_
    rotate_left
    · rintro w' ⟨hw0, hw1⟩
      go_simp
      try with_reducible rfl
    simp only [Act.put, List.getElem_toArray, List.getElem_cons_zero, List.getElem_cons_succ, List.setIfInBounds_toArray, List.set_cons_zero, List.set_cons_succ]
  refine Picked.take (.slice A n n) (by rfl) (by rfl) ?_ ?_
  · intro w' hw'
    by_cases hcp : n = 0
    · subst hcp
      go_simp
    · cases A with
      | none => go_simp
      | some ad => go_simp
  simp only [Act.put, List.getElem_toArray, List.getElem_cons_zero, List.getElem_cons_succ, List.setIfInBounds_toArray, List.set_cons_zero, List.set_cons_succ]
  obtain ⟨w3, hr3, ho3, hg3⟩ := copy_run w2.drew G G N 3 _ (row_drew HO2.out) A n q HA2.out (by have := Hn.out; omega)
  rw [← Hn.out] at hr3
  have hH3 : Holds w3 B 111 #[.slice A n n, .int .i64 0, .int .i64 n] := (holds_drew1 HH2.out).kept hg3 (by intro e; exact hBG (Option.some.inj e))
  have e0 := hH3.c (j := 0) rfl
  have e1 := hH3.c (j := 1) rfl
  refine Picked.make (.int .i64 n) (by rfl) (by rfl) (exec_copy 22 _ _ _ _ _ rfl rfl rfl hr3) ⟨e0, e1⟩ ?_
  simp only [Act.put, List.getElem_toArray, List.getElem_cons_zero, List.getElem_cons_succ, List.setIfInBounds_toArray, List.set_cons_zero, List.set_cons_succ]
  refine Picked.take ?_ (by rfl) (by rfl) ?_ ?_
  rotate_left
  · rintro w' ⟨hw0, hw1⟩
    go_simp
    try with_reducible rfl
  simp only [Act.put, List.getElem_toArray, List.getElem_cons_zero, List.getElem_cons_succ, List.setIfInBounds_toArray, List.set_cons_zero, List.set_cons_succ]
  refine NoPanic.normal ?_
  have HG3 : Hid (w.grownBy w3 (some B)) := Lib.hid (grown_far HG2.out (grown_drew1 hg3) (by rw [HGe.out]; exact Nat.le_refl _))
  have HH3 := Lib.hid hH3
  have HO3 := Lib.hid ho3
  clear d0 d1 hr3 ho3 hg3 hH3
  have g1 : (n : Int) ≤ (N : Int) := by omega
  have g2 : (0 : Int) ≤ (n : Int) := by omega
  go_wp2_with fail
  refine wp_region_noPanic ?_
  refine wp_region_picked [(0, true), (1, true), (2, true), (3, true), (4, true), (5, true), (6, true), (7, true), (8, true), (9, true), (10, true), (11, true), (12, false)] (fun W' => W'.cell? ⟨B, 0, none⟩ = some (.slice A n n) ∧ W'.cell? ⟨B, 1, none⟩ = some (.int .i64 0)) (by kernel_rfl) (by kernel_rfl) (fun _ _ _ _ _ h => h) ⟨e0, e1⟩ ?_
  iterate 2
    refine Picked.take ?_ (by rfl) (by rfl) ?_ ?_
    rotate_left
    · rintro w' ⟨hw0, hw1⟩
      go_simp
      try with_reducible rfl
    simp only [Act.put, List.getElem_toArray, List.getElem_cons_zero, List.getElem_cons_succ, List.setIfInBounds_toArray, List.set_cons_zero, List.set_cons_succ]
  refine Picked.take (.slice (subA (some ⟨G, 0, none⟩) N n) (N - n) (N - n)) (by rfl) (by rfl) ?_ ?_
  · intro w' hw'
    by_cases hcp : N = n
    · have e1 : subA (some ⟨G, 0, none⟩) N n = some ⟨G, 0, none⟩ := by unfold subA; rw [if_pos hcp]
      have e2 : N - n = 0 := by omega
      rw [e1, e2]
      go_simp
    · have e1 : subA (some ⟨G, 0, none⟩) N n = some ⟨G, n, none⟩ := by unfold subA; rw [if_neg hcp]; simp [Addr.add]; omega
      rw [e1]
      go_simp
      try omega
  simp only [Act.put, List.getElem_toArray, List.getElem_cons_zero, List.getElem_cons_succ, List.setIfInBounds_toArray, List.set_cons_zero, List.set_cons_succ]
  iterate 8
    refine Picked.take ?_ (by rfl) (by rfl) ?_ ?_
    rotate_left
    · rintro w' ⟨hw0, hw1⟩
      go_simp
      try with_reducible rfl
    simp only [Act.put, List.getElem_toArray, List.getElem_cons_zero, List.getElem_cons_succ, List.setIfInBounds_toArray, List.set_cons_zero, List.set_cons_succ]
  refine Picked.take (.slice A 0 n) (by rfl) (by rfl) ?_ ?_
  · intro w' hw'
    by_cases hcp : n = 0
    · subst hcp
      go_simp
    · cases A with
      | none => go_simp
      | some ad => go_simp
  simp only [Act.put, List.getElem_toArray, List.getElem_cons_zero, List.getElem_cons_succ, List.setIfInBounds_toArray, List.set_cons_zero, List.set_cons_succ]
  refine Picked.make (w1 := w3.drew) (.int .i64 0) (by rfl) (by rfl) (exec_copy 22 _ _ _ _ _ rfl rfl rfl (run_copy_none (P := Tryz.prog) w3.drew 22 22 3 3 (subA (some ⟨G, 0, none⟩) N n) A (N - n) (N - n) 0 n Tryz.underlying22 size_int (by simp))) ⟨e0, e1⟩ ?_
  simp only [Act.put, List.getElem_toArray, List.getElem_cons_zero, List.getElem_cons_succ, List.setIfInBounds_toArray, List.set_cons_zero, List.set_cons_succ]
  refine NoPanic.normal ?_
  have hH4 := holds_drew1 HH3.out
  have HO4 := Lib.hid (row_drew HO3.out)
  have HG4 : Hid (w.grownBy w3.drew (some B)) := Lib.hid (grown_drew HG3.out)
  clear e0 e1
  generalize w3.drew = w4 at *
  have e0 := hH4.c (j := 0) rfl
  have e1 := hH4.c (j := 1) rfl
  have f0 := hH4.frozen 0
  have f1 := hH4.frozen 1
  have HH5 := Lib.hid ((hH4.set 0 (.slice (some ⟨G, 0, none⟩) N N)).set 1 (.int .i64 0))
  have HG5 := Lib.hid ((HG4.out.trans (ring_grown w4 B 0 (.slice (some ⟨G, 0, none⟩) N N))).trans (ring_grown _ B 1 (.int .i64 0)))
  have HO5 := Lib.hid ((HO4.out.kept (ring_grown w4 B 0 (.slice (some ⟨G, 0, none⟩) N N)) (.inr (fun e => hBG (Option.some.inj e).symm))).kept (ring_grown _ B 1 (.int .i64 0)) (.inr (fun e => hBG (Option.some.inj e).symm)))
  clear hH4
  go_wp2
  go_end0
  refine ⟨rfl, ⟨G, by rw [HGe.out]; exact Nat.le_refl _, ?_⟩, HG5.out⟩
  have hlN : (q ++ List.replicate m 0).length = N := by rw [List.length_append, List.length_replicate, ← Hn.out, HN.out]
  have hz : q ++ (List.replicate N 0).drop q.length = q ++ List.replicate m 0 := by rw [List.drop_replicate, ← Hn.out, HN.out, Nat.add_sub_cancel_left]
  have hO := HO5.out
  rw [hz] at hO
  refine ⟨?_, ?_, hb, ⟨List.replicate m 0, by simp⟩, .inr rfl⟩
  · rw [hlN, ← Hn.out]; exact HH5.out
  · rw [hlN]; exact row_more hO (by have := HGe.out; omega)
end Go.Proofs.YtmclpganipfadaaGreatDoor

namespace Go.Proofs.YtmclpganipfadaaGreatDoor
open Go.RowKit Go.Maps
set_option linter.unusedVariables false
set_option linter.unusedSimpArgs false

theorem set_mid (q : List Int) (y x : Int) (rest : List Int) (n : Nat) (hn : n = q.length) : (intsOf (q ++ y :: rest)).set n (.int .i64 x) = intsOf (q ++ x :: rest) := by
  subst hn
  simp [intsOf, List.set_append]
theorem Ring.put {base : Nat} {W W' : World} {B g : Nat} {q rest : List Int} {x y : Int} {n N : Nat} (h : Ring base W B g (q ++ y :: rest) 0 q) (hn : n = q.length) (hN : N = (q ++ y :: rest).length)
    (hg : W'.ownsRow base 3 1 (.slice (some ⟨g, 0, none⟩) N N) N ((intsOf (q ++ y :: rest)).set n (.int .i64 x))) (hb : Holds W' B 111 #[.slice (some ⟨g, 0, none⟩) N N, .int .i64 0, .int .i64 ((n : Int) + 1)]) : Ring base W' B g (q ++ x :: rest) 0 (q ++ [x]) := by
  have hl : (q ++ x :: rest).length = N := by rw [hN]; simp
  rw [set_mid q y x rest n hn] at hg
  refine ⟨?_, ?_, h.own, ⟨rest, by simp⟩, .inr rfl⟩
  · rw [hl, List.length_append, List.length_cons, List.length_nil, show ((q.length + (0 + 1) : Nat) : Int) = (n : Int) + 1 by omega]; exact hb
  · rw [hl]; exact hg
theorem ring_set2 {W : World} {B : Nat} {t : TypeId} {a b c : Value} (h : Holds W B t #[a, b, c]) (u : Value) : Holds (W.setCell ⟨B, 2, none⟩ u) B t #[a, b, u] := h.set 2 u
theorem far_set {W : World} {B g : Nat} {t : TypeId} {cs : Array Value} (h : Holds W B t cs) (off : Nat) (u : Value) (hne : B ≠ g) : Holds (W.setCell ⟨g, off, none⟩ u) B t cs := h.of (Below.heap_setCell _ _ _ _ hne)
/-- The world behind 'r.cells[..] = x'. -/
structure PutMid (base : Nat) (w : World) (B g n N : Nat) (cs : List Int) (x : Int) (W : World) : Prop where
  row : W.ownsRow base 3 1 (.slice (some ⟨g, 0, none⟩) N N) N ((intsOf cs).set n (.int .i64 x))
  box : Holds W B 111 #[.slice (some ⟨g, 0, none⟩) N N, .int .i64 0, .int .i64 n]
  below : Below base w W
theorem put_mid {base : Nat} {w W : World} {B g n N : Nat} {cs : List Int} (x : Int) (ho : W.ownsRow base 3 1 (.slice (some ⟨g, 0, none⟩) N N) N (intsOf cs)) (hb : Holds W B 111 #[.slice (some ⟨g, 0, none⟩) N N, .int .i64 0, .int .i64 n]) (hne : B ≠ g) (hB : Below base w W) : PutMid base w B g n N cs x (W.setCell ⟨g, n, none⟩ (.int .i64 x)).drew.drew :=
  ⟨row_drew (row_drew (ho.stored n (.int .i64 x)).1), holds_drew1 (holds_drew1 (far_set hb n _ hne)), (hB.setCell (p := ⟨g, n, none⟩) (ho.lt g rfl).1 _).drew.drew⟩

theorem grow_one {w W : World} {B g : Nat} (h : w.grownBy W (some B)) (n : Nat) (u : Value) (hg : w.heap.size ≤ g) : w.grownBy (W.setCell ⟨g, n, none⟩ u).drew (some B) :=
  ⟨h.os, h.tape, h.output, by have := h.size; simpa [World.setCell] using this, fun k hk hne => (Below.heap_setCell _ _ _ _ (show k ≠ g by omega)).trans (h.block k hk hne)⟩
theorem put_mid1 {base : Nat} {w W : World} {B g n N : Nat} {cs : List Int} (x : Int) (ho : W.ownsRow base 3 1 (.slice (some ⟨g, 0, none⟩) N N) N (intsOf cs)) (hb : Holds W B 111 #[.slice (some ⟨g, 0, none⟩) N N, .int .i64 0, .int .i64 n]) (hne : B ≠ g) (hB : Below base w W) : PutMid base w B g n N cs x (W.setCell ⟨g, n, none⟩ (.int .i64 x)).drew :=
  ⟨row_drew (ho.stored n (.int .i64 x)).1, holds_drew1 (far_set hb n _ hne), (hB.setCell (p := ⟨g, n, none⟩) (ho.lt g rfl).1 _).drew⟩

set_option maxHeartbeats 2000000 in
theorem put_room (base : Nat) (B g : Nat) (q rest : List Int) (y x : Int) (w : World) (h : Ring base w B g (q ++ y :: rest) 0 q) (hlen : (q ++ y :: rest).length ≤ 5000) :
    Calls Tryz.prog 78 #[.pointer (some ⟨B, 0, none⟩), .int .i64 x] w fun e w' => e = .returned (.tuple #[]) ∧ Ring base w' B g (q ++ x :: rest) 0 (q ++ [x]) ∧ Below base w w' := by
  have hBG := h.ne
  have hown := h.own
  have c0 := h.box.c (j := 0) rfl
  have c1 := h.box.c (j := 1) rfl
  have c2 := h.box.c (j := 2) rfl
  have HW := Lib.hid h
  have HH := Lib.hid h.box
  have HO := Lib.hid h.row
  obtain ⟨cs, hcs⟩ : ∃ cs, cs = q ++ y :: rest := ⟨_, rfl⟩
  have hfit : q.length < cs.length := by rw [hcs]; simp
  rw [← hcs] at hlen c0 HH HO
  obtain ⟨N, hN⟩ : ∃ N, N = cs.length := ⟨_, rfl⟩
  rw [← hN] at c0 hlen HH HO hfit
  obtain ⟨n, hn⟩ : ∃ n, n = q.length := ⟨_, rfl⟩
  rw [← hn] at c2 HH hfit
  have HN : Hid (N = (q ++ y :: rest).length) := Lib.hid (by rw [hN, hcs])
  have Hn := Lib.hid hn
  have HCS := Lib.hid hcs
  have fn := HO.out.frozenAt n
  have cn : ∃ v, w.cell? ⟨g, n, none⟩ = some v := by
    rw [HO.out.cellAt n (by omega)]
    exact ⟨_, List.getElem?_eq_getElem (by have := HO.out.1; omega)⟩
  obtain ⟨v, cn⟩ := cn
  have HBW := Lib.hid (Below.refl base w)
  have g1 : ((n : Int) == (N : Int)) = false := by simp; omega
  have g2 : (0 : Int) ≤ (n : Int) := by omega
  have g3 : (n : Int) < (N : Int) := by omega
  have g4 : ¬ N = 0 := by omega
  have g5 : (n : Int).tmod (N : Int) = (n : Int) := by show ((n % N : Nat) : Int) = _; rw [Nat.mod_eq_of_lt hfit]
  have g6 : IntKind.i64.wrap (n : Int) = (n : Int) := by rw [IntWalk.i64_left]; unfold wrap64; omega
  have g7 : ¬ n = N := by omega
  clear h hn hN hcs
  go_enter Tryz.func78, Tryz.ntmps78
  go_wp2_with fail
  refine wp_region_noPanic ?_
  refine wp_region_picked [(0, true), (1, true), (2, true), (3, true), (4, true), (5, true), (6, true), (7, true), (8, true), (9, true)] (fun W' => W'.cell? ⟨B, 0, none⟩ = some (.slice (some ⟨g, 0, none⟩) N N) ∧ W'.cell? ⟨B, 2, none⟩ = some (.int .i64 n)) (by kernel_rfl) (by kernel_rfl) (fun _ _ _ _ _ h => h) ⟨c0, c2⟩ ?_
  iterate 10
    refine Picked.take ?_ (by rfl) (by rfl) ?_ ?_
    rotate_left
    · rintro w' ⟨hw0, hw2⟩
      go_simp
      try with_reducible rfl
    simp only [Act.put, List.getElem_toArray, List.getElem_cons_zero, List.getElem_cons_succ, List.setIfInBounds_toArray, List.set_cons_zero, List.set_cons_succ]
  refine NoPanic.normal ?_
  have hHd := holds_drew1 (holds_drew1 HH.out)
  go_wp2_with fail
  clear c0 c1 c2
  refine wp_region_noPanic ?_
  refine wp_region_picked [(0, true), (1, true), (2, true), (3, true), (4, true), (5, true), (6, true), (7, true), (8, true), (9, true), (10, true), (11, true), (12, true), (13, true), (14, true), (15, true), (16, true), (17, true), (18, true), (19, true), (20, true), (21, false)] (fun W' => Holds W' B 111 #[.slice (some ⟨g, 0, none⟩) N N, .int .i64 0, .int .i64 n]) (by kernel_rfl) (by kernel_rfl) (fun _ _ _ _ _ h => h) hHd ?_
  iterate 21
    refine Picked.take ?_ (by rfl) (by rfl) ?_ ?_
    rotate_left
    · rintro w' hw
      have hw0 := hw.c (j := 0) rfl
      have hw1 := hw.c (j := 1) rfl
      have hw2 := hw.c (j := 2) rfl
      go_simp
      try with_reducible rfl
    simp only [Act.put, List.getElem_toArray, List.getElem_cons_zero, List.getElem_cons_succ, List.setIfInBounds_toArray, List.set_cons_zero, List.set_cons_succ]
  refine ⟨_, by rfl, by rfl, ?_⟩
  go_simp
  have hM := put_mid x HO.out HH.out hBG HBW.out
  refine ⟨hM.box, ?_⟩
  refine NoPanic.normal ?_
  generalize (w.setCell ⟨g, n, none⟩ (.int .i64 x)).drew.drew = W2 at *
  have d2 := hM.box.c (j := 2) rfl
  have e2 := hM.box.frozen 2
  have HM := Lib.hid hM
  clear hM cn fn
  go_wp2
  go_end0
  have hB2 := HM.out.box
  refine ⟨rfl, ?_, HM.out.below.setCell (p := ⟨B, 2, none⟩) hown _⟩
  have hput := HW.out.put (x := x) Hn.out HN.out (HCS.out ▸ HM.out.row.kept (ring_grown W2 B 2 (.int .i64 ((n : Int) + 1))) (.inr (fun e => hBG (Option.some.inj e).symm))) (ring_set2 hB2 _)
  exact hput
set_option maxHeartbeats 2000000 in
theorem put_full (base : Nat) (B g0 : Nat) (q : List Int) (x : Int) (w : World) (h : Ring base w B g0 q 0 q) (hlen : q.length ≤ 2000) :
    Calls Tryz.prog 78 #[.pointer (some ⟨B, 0, none⟩), .int .i64 x] w fun e w' => e = .returned (.tuple #[]) ∧ (∃ g, Ring base w' B g (q ++ x :: List.replicate q.length 0) 0 (q ++ [x])) ∧ w.grownBy w' (some B) := by
  have hown := h.own
  have hbs := h.box.lt
  have c0 := h.box.c (j := 0) rfl
  have c2 := h.box.c (j := 2) rfl
  have HWD := widen_any base B (some ⟨g0, 0, none⟩) q (q.length + 1) w.drew hown (holds_drew1 h.box) (own_ints rfl (row_drew h.row)) (by omega)
  obtain ⟨n, hn⟩ : ∃ n, n = q.length := ⟨_, rfl⟩
  rw [← hn] at c0 c2 HWD hlen ⊢
  rw [show ((n + 1 : Nat) : Int) = (n : Int) + 1 by omega] at HWD
  have Hn := Lib.hid hn
  clear h hn
  go_enter Tryz.func78, Tryz.ntmps78
  go_wp2_with fail
  refine wp_region_noPanic ?_
  refine wp_region_picked [(0, true), (1, true), (2, true), (3, true), (4, true), (5, true), (6, true), (7, true), (8, true), (9, true)] (fun W' => W'.cell? ⟨B, 0, none⟩ = some (.slice (some ⟨g0, 0, none⟩) n n) ∧ W'.cell? ⟨B, 2, none⟩ = some (.int .i64 n)) (by kernel_rfl) (by kernel_rfl) (fun _ _ _ _ _ h => h) ⟨c0, c2⟩ ?_
  iterate 10
    refine Picked.take ?_ (by rfl) (by rfl) ?_ ?_
    rotate_left
    · rintro w' ⟨hw0, hw2⟩
      go_simp
      try with_reducible rfl
    simp only [Act.put, List.getElem_toArray, List.getElem_cons_zero, List.getElem_cons_succ, List.setIfInBounds_toArray, List.set_cons_zero, List.set_cons_succ]
  refine NoPanic.normal ?_
  go_wp2_with fail
  refine HWD.mono ?_
  rintro e w1 ⟨rfl, ⟨g, hfar, h⟩, hg1⟩
  have HBW : Hid (Below base w w1) := Lib.hid ((Below.refl base w).grown (grown_drew1 hg1) (by omega) (fun k e => by cases e; exact hown))
  have HGW : Hid (w.grownBy w1 (some B)) := Lib.hid (grown_drew1 hg1)
  have hfar' : w.heap.size ≤ g := hfar
  clear hg1 c0 c2 HWD hfar
  rw [List.replicate_succ] at h
  have hBG := h.ne
  have c0 := h.box.c (j := 0) rfl
  have c1 := h.box.c (j := 1) rfl
  have c2 := h.box.c (j := 2) rfl
  have HW := Lib.hid h
  have HH := Lib.hid h.box
  have HO := Lib.hid h.row
  obtain ⟨cs, hcs⟩ : ∃ cs, cs = q ++ 0 :: List.replicate n 0 := ⟨_, rfl⟩
  have hfit : q.length < cs.length := by rw [hcs]; simp
  have hlen2 : cs.length ≤ 5000 := by rw [hcs]; simp; have := Hn.out; omega
  rw [← hcs] at c0 HH HO
  obtain ⟨N, hN⟩ : ∃ N, N = cs.length := ⟨_, rfl⟩
  rw [← hN] at c0 HH HO hfit hlen2
  rw [← Hn.out] at c2 HH hfit
  have HN : Hid (N = (q ++ 0 :: List.replicate n 0).length) := Lib.hid (by rw [hN, hcs])
  have HCS := Lib.hid hcs
  have fn := HO.out.frozenAt n
  have cn : ∃ v, w1.cell? ⟨g, n, none⟩ = some v := by
    rw [HO.out.cellAt n (by omega)]
    exact ⟨_, List.getElem?_eq_getElem (by have := HO.out.1; omega)⟩
  obtain ⟨v, cn⟩ := cn
  have g2 : (0 : Int) ≤ (n : Int) := by omega
  have g3 : (n : Int) < (N : Int) := by omega
  have g4 : ¬ N = 0 := by omega
  have g5 : (n : Int).tmod (N : Int) = (n : Int) := by show ((n % N : Nat) : Int) = _; rw [Nat.mod_eq_of_lt hfit]
  have g6 : IntKind.i64.wrap (n : Int) = (n : Int) := by rw [IntWalk.i64_left]; unfold wrap64; omega
  have hHd := holds_drew1 HH.out
  clear h hN hcs
  go_wp2_with fail
  clear c0 c1 c2
  refine wp_region_noPanic ?_
  refine wp_region_picked [(0, true), (1, true), (2, true), (3, true), (4, true), (5, true), (6, true), (7, true), (8, true), (9, true), (10, true), (11, true), (12, true), (13, true), (14, true), (15, true), (16, true), (17, true), (18, true), (19, true), (20, true), (21, false)] (fun W' => Holds W' B 111 #[.slice (some ⟨g, 0, none⟩) N N, .int .i64 0, .int .i64 n]) (by kernel_rfl) (by kernel_rfl) (fun _ _ _ _ _ h => h) hHd ?_
  iterate 21
    refine Picked.take ?_ (by rfl) (by rfl) ?_ ?_
    rotate_left
    · rintro w' hw
      have hw0 := hw.c (j := 0) rfl
      have hw1 := hw.c (j := 1) rfl
      have hw2 := hw.c (j := 2) rfl
      go_simp
      try with_reducible rfl
    simp only [Act.put, List.getElem_toArray, List.getElem_cons_zero, List.getElem_cons_succ, List.setIfInBounds_toArray, List.set_cons_zero, List.set_cons_succ]
  refine ⟨_, by rfl, by rfl, ?_⟩
  go_simp
  have hM := put_mid1 x HO.out HH.out hBG HBW.out
  refine ⟨hM.box, ?_⟩
  refine NoPanic.normal ?_
  have HG2 := Lib.hid (grow_one HGW.out n (.int .i64 x) hfar')
  generalize (w1.setCell ⟨g, n, none⟩ (.int .i64 x)).drew = W2 at *
  have d2 := hM.box.c (j := 2) rfl
  have e2 := hM.box.frozen 2
  have HM := Lib.hid hM
  clear hM cn fn
  go_wp2
  go_end0
  have hB2 := HM.out.box
  refine ⟨rfl, ?_, HG2.out.trans (ring_grown W2 B 2 _)⟩
  have hput := HW.out.put (x := x) Hn.out HN.out (HCS.out ▸ HM.out.row.kept (ring_grown W2 B 2 (.int .i64 ((n : Int) + 1))) (.inr (fun e => hBG (Option.some.inj e).symm))) (ring_set2 hB2 _)
  exact ⟨g, hput⟩
end Go.Proofs.YtmclpganipfadaaGreatDoor

namespace Go.Proofs.YtmclpganipfadaaGreatDoor
open Go.RowKit Go.Maps
set_option linter.unusedVariables false
set_option linter.unusedSimpArgs false

/-- A queue of these numbers, in memory of the call's own. -/
def HoldPost (l : List Int) (w : World) (e : Ending) (w' : World) : Prop := ∃ B g, e = .returned (.pointer (some ⟨B, 0, none⟩)) ∧ Ring w.heap.size w' B g l 0 l ∧ Below w.heap.size w w'

theorem hold_step {l : List Int} {k : Nat} {x : Int} (hk : l[k]? = some x) : l.take k ++ [x] = l.take (k + 1) := by rw [List.take_add_one, hk]; rfl

set_option maxHeartbeats 1000000 in
theorem hold_any (A : Option Addr) (c : Nat) (l : List Int) (w : World) (hA : Ints w A l) (hlen : l.length ≤ 1000) :
    Calls Tryz.prog 58 #[.slice A l.length c] w (HoldPost l w) := by
  have hB0 := alloc1 w (.cells #[.slice none 0 0, .int .i64 0, .int .i64 0] 111)
  have HWD := widen_any w.heap.size w.heap.size none [] l.length (w.alloc (.cells #[.slice none 0 0, .int .i64 0, .int .i64 0] 111)) (Nat.le_refl _) (Holds.new w _ _) (ints_nil _ _) (by simp; omega)
  have hsz : w.heap.size < (w.alloc (.cells #[.slice none 0 0, .int .i64 0, .int .i64 0] 111)).heap.size := by simp
  have HA := Lib.hid hA
  obtain ⟨n, hn⟩ : ∃ n, n = l.length := ⟨_, rfl⟩
  rw [← hn] at HWD hlen ⊢
  have Hn := Lib.hid hn
  clear hn hA
  go_enter Tryz.func58, Tryz.ntmps58
  go_wp2_with fail
  refine HWD.mono ?_
  rintro e w1 ⟨rfl, ⟨g, -, h1⟩, hg1⟩
  have HB1 : Hid (Below w.heap.size w w1) := Lib.hid (hB0.grown hg1 hB0.size (fun k e => by cases e; exact Nat.le_refl _))
  have H1 := Lib.hid h1
  clear h1 hg1 HWD hB0 hsz
  obtain ⟨B, hB⟩ : ∃ B, B = w.heap.size := ⟨_, rfl⟩
  have HBe := Lib.hid hB
  have hBw : B ≤ w.heap.size := by omega
  have hBw2 : w.heap.size ≤ B := by omega
  rw [← hB] at H1 HB1 ⊢
  clear hB
  go_wp2
  go_loopw [5, 16] (fun s5 s16 wr => ∃ k : Nat, k ≤ n ∧ s16 = .int .i64 k ∧ Ring B wr B g (l.take k ++ List.replicate (n - k) 0) 0 (l.take k) ∧ Below B w wr) (fun s5 s16 wr => n - (intOf s16).toNat)
  case atStart => exact ⟨0, Nat.zero_le _, rfl, by simpa using H1.out, HB1.out⟩
  case round =>
    obtain ⟨k, hk, rfl, hR, hB⟩ := hrel
    have HR := Lib.hid hR
    have HB := Lib.hid hB
    clear hR hB
    by_cases hlt : k < n
    · have hkl : k < l.length := by have := Hn.out; omega
      obtain ⟨b, off, rfl, hb, hc⟩ := HA.out.below (HB.out.mono (by omega)) (by omega)
      have ck := hc k hkl
      obtain ⟨x, hx⟩ : ∃ x, l[k]? = some x := ⟨_, List.getElem?_eq_getElem hkl⟩
      rw [hx] at ck
      have HP := put_room B B g (l.take k) (List.replicate (n - k - 1) 0) 0 x wr (by have := HR.out; rwa [show n - k = (n - k - 1) + 1 by omega, List.replicate_succ] at this) (by simp; omega)
      have HX := Lib.hid hx
      have g0 : (0 : Int) ≤ (k : Int) := by omega
      have g1 : (k : Int) < (n : Int) := by omega
      clear hc hx
      go_wp2_with fail
      refine HP.mono ?_
      rintro e w2 ⟨rfl, hR2, hB2⟩
      have HR2 := Lib.hid hR2
      have HB2 := Lib.hid (HB.out.trans hB2)
      clear hR2 hB2 HP
      go_wp2
      go_roundw
      case rel =>
        refine ⟨k + 1, by omega, by go_num, ?_, HB2.out⟩
        have := HR2.out
        rw [hold_step HX.out, show l.take k ++ x :: List.replicate (n - k - 1) 0 = l.take (k + 1) ++ List.replicate (n - (k + 1)) 0 by rw [← hold_step HX.out, List.append_assoc]; rfl] at this
        exact this
      case measure => simp [intOf]; omega
    · obtain rfl : k = n := by omega
      go_wp2
      go_ret
      have h1 := HR.out
      rw [Nat.sub_self, List.replicate_zero, List.append_nil, Hn.out, List.take_length] at h1
      have h2 := HB.out
      rw [HBe.out] at h1 h2
      exact ⟨B, g, rfl, by rw [HBe.out]; exact h1, h2⟩

/-- What an operation makes of a queue: what is in it then, and what is returned. -/
def fifoL (l : List Int) (k x : Int) : List Int := if k = 10 then l ++ [x] else if k = 11 then l.tail else l
def fifoK (l : List Int) (k : Int) : Int := if k = 10 then 0 else if k = 11 then (if l = [] then 1 else 2) else 2
def fifoN (l : List Int) (k : Int) : Int := if k = 10 then 0 else if k = 11 then l.head?.getD 0 else l.length

def fi_DoPost (base B : Nat) (l : List Int) (k x : Int) (w : World) (e : Ending) (w' : World) : Prop :=
  e = .returned (retV (fifoK l k) (fifoN l k)) ∧ (∃ g cs p, Ring base w' B g cs p (fifoL l k x) ∧ cs.length ≤ 5000) ∧ Below base w w'

set_option maxHeartbeats 1000000 in
theorem do_enq (base B g : Nat) (l : List Int) (x : Int) (w : World) (h : Ring base w B g l 0 l) (hlen : l.length ≤ 1000) :
    Calls Tryz.prog 59 #[.pointer (some ⟨B, 0, none⟩), .int .i64 10, .int .i64 x] w (fi_DoPost base B l 10 x w) := by
  have hB0 := alloc1 w (.cells #[.int .i64 0, .int .i64 0] 26)
  have hlt := h.box.lt
  have hown := h.own
  have HP := put_full base B g l x _ (h.below hB0 (Nat.le_refl _)) (by omega)
  have HR0 := Lib.hid (Holds.new w 26 #[.int .i64 0, .int .i64 0])
  clear h
  go_enter Tryz.func59, Tryz.ntmps59
  go_wp2_with fail
  refine HP.mono ?_
  rintro e w1 ⟨rfl, ⟨g1, hR1⟩, hg1⟩
  have hQ := HR0.out.kept hg1 (by intro e; have := Option.some.inj e; omega)
  have hB1 : Below base w w1 := (hB0.mono (by omega)).grown hg1 (by have := hB0.size; omega) (fun k e => by cases e; exact hown)
  have hne : g1 ≠ w.heap.size := fun e => hQ.not_row hR1.row (by decide) (by rw [e]; rfl)
  have HR1 := Lib.hid hR1
  have HB1 := Lib.hid hB1
  have q0 := hQ.c (j := 0) rfl
  have q1 := hQ.c (j := 1) rfl
  have k0 := hQ.frozen 0
  have k1 := hQ.frozen 1
  have HQ2 := set_two (a' := .int .i64 0) (b' := .int .i64 0) hQ
  have h0 := HQ2.c (j := 0) rfl
  have h1 := HQ2.c (j := 1) rfl
  clear hR1 hg1 hB1 HP
  go_wp2
  refine bodyPost_ret (v := retV 0 0) (by simp [results, Tryz.f59, go_sem, retV, h0, h1]) rfl ?_
  have hO2 : Only w.heap.size w1 ((w1.setCell ⟨w.heap.size, 0, none⟩ (.int .i64 0)).setCell ⟨w.heap.size, 1, none⟩ (.int .i64 0)) := ((Only.of (Below.refl w1.heap.size w1) (Nat.le_refl _)).set 0 _).set 1 _
  refine ⟨rfl, ⟨g1, _, 0, HR1.out.kept hO2.grown (by intro e; have := Option.some.inj e; omega) (by intro e; have := Option.some.inj e; omega), by simp; omega⟩, HB1.out.trans (hO2.below (by omega) (by have := HB1.out.size; omega))⟩

theorem do_deq (base B g : Nat) (cs : List Int) (p : Nat) (y : Int) (l : List Int) (w : World) (h : Ring base w B g cs p (y :: l)) (hlen : cs.length ≤ 5000) :
    Calls Tryz.prog 59 #[.pointer (some ⟨B, 0, none⟩), .int .i64 11, .int .i64 0] w (fi_DoPost base B (y :: l) 11 0 w) := by
  have hB0 := alloc1 w (.cells #[.int .i64 0, .int .i64 0] 26)
  have hlt := h.box.lt
  have hown := h.own
  have hgl := h.glt
  have HP := take_some base B g cs p y l _ (h.below hB0 (Nat.le_refl _)) (by omega)
  have HR0 := Lib.hid (Holds.new w 26 #[.int .i64 0, .int .i64 0])
  clear h
  go_enter Tryz.func59, Tryz.ntmps59
  go_wp2_with fail
  refine HP.mono ?_
  rintro e w1 ⟨rfl, ⟨p', hR1⟩, hg1⟩
  have hQ := HR0.out.kept hg1 (by intro e; have := Option.some.inj e; omega)
  have hB1 : Below base w w1 := (hB0.mono (by omega)).grown hg1 (by have := hB0.size; omega) (fun k e => by cases e; exact hown)
  have HR1 := Lib.hid hR1
  have HB1 := Lib.hid hB1
  have q0 := hQ.c (j := 0) rfl
  have q1 := hQ.c (j := 1) rfl
  have k0 := hQ.frozen 0
  have k1 := hQ.frozen 1
  clear hR1 hg1 hB1 HP
  have HQ2 := set_two (a' := .int .i64 2) (b' := .int .i64 y) hQ
  have h0 := HQ2.c (j := 0) rfl
  have h1 := HQ2.c (j := 1) rfl
  go_wp2
  refine bodyPost_ret (v := retV 2 y) (by simp [results, Tryz.f59, go_sem, retV, h0, h1]) rfl ?_
  have hO2 : Only w.heap.size w1 ((w1.setCell ⟨w.heap.size, 0, none⟩ (.int .i64 2)).setCell ⟨w.heap.size, 1, none⟩ (.int .i64 y)) := ((Only.of (Below.refl w1.heap.size w1) (Nat.le_refl _)).set 0 _).set 1 _
  refine ⟨rfl, ⟨g, _, p', HR1.out.kept hO2.grown (by intro e; have := Option.some.inj e; omega) (by intro e; have := Option.some.inj e; omega), hlen⟩, HB1.out.trans (hO2.below (by omega) (by have := HB1.out.size; omega))⟩

theorem do_none (base B g : Nat) (cs : List Int) (p : Nat) (w : World) (h : Ring base w B g cs p []) (hlen : cs.length ≤ 5000) :
    Calls Tryz.prog 59 #[.pointer (some ⟨B, 0, none⟩), .int .i64 11, .int .i64 0] w (fi_DoPost base B [] 11 0 w) := by
  have hB0 := alloc1 w (.cells #[.int .i64 0, .int .i64 0] 26)
  have hlt := h.box.lt
  have hown := h.own
  have hgl := h.glt
  have HR1 := Lib.hid (h.below hB0 (Nat.le_refl _))
  have HP := take_none base B g cs p _ HR1.out
  have hQ := Holds.new w 26 #[.int .i64 0, .int .i64 0]
  have HB1 : Hid (Below base w _) := Lib.hid (hB0.mono (show base ≤ w.heap.size by omega))
  have hsz := hB0.size
  clear h
  go_enter Tryz.func59, Tryz.ntmps59
  go_wp2_with fail
  refine HP.mono ?_
  generalize w.alloc (.cells #[.int .i64 0, .int .i64 0] 26) = w1 at *
  rintro e w2 ⟨rfl, rfl⟩
  have q0 := hQ.c (j := 0) rfl
  have q1 := hQ.c (j := 1) rfl
  have k0 := hQ.frozen 0
  have k1 := hQ.frozen 1
  clear HP
  have HQ2 := set_two (a' := .int .i64 1) (b' := .int .i64 0) hQ
  have h0 := HQ2.c (j := 0) rfl
  have h1 := HQ2.c (j := 1) rfl
  go_wp2
  refine bodyPost_ret (v := retV 1 0) (by simp [results, Tryz.f59, go_sem, retV, h0, h1]) rfl ?_
  have hO2 : Only w.heap.size w2 ((w2.setCell ⟨w.heap.size, 0, none⟩ (.int .i64 1)).setCell ⟨w.heap.size, 1, none⟩ (.int .i64 0)) := ((Only.of (Below.refl w2.heap.size w2) (Nat.le_refl _)).set 0 _).set 1 _
  refine ⟨rfl, ⟨g, _, p, HR1.out.kept hO2.grown (by intro e; have := Option.some.inj e; omega) (by intro e; have := Option.some.inj e; omega), hlen⟩, HB1.out.trans (hO2.below (by omega) (by have := HB1.out.size; omega))⟩

theorem do_len (base B g : Nat) (cs : List Int) (p : Nat) (l : List Int) (w : World) (h : Ring base w B g cs p l) (hlen : cs.length ≤ 5000) :
    Calls Tryz.prog 59 #[.pointer (some ⟨B, 0, none⟩), .int .i64 12, .int .i64 0] w (fi_DoPost base B l 12 0 w) := by
  have hB0 := alloc1 w (.cells #[.int .i64 0, .int .i64 0] 26)
  have hlt := h.box.lt
  have hown := h.own
  have hgl := h.glt
  have HR1 := Lib.hid (h.below hB0 (Nat.le_refl _))
  have HP := rsize_any base B g cs p l _ HR1.out
  have hQ := Holds.new w 26 #[.int .i64 0, .int .i64 0]
  have HB1 : Hid (Below base w _) := Lib.hid (hB0.mono (show base ≤ w.heap.size by omega))
  have hsz := hB0.size
  clear h
  go_enter Tryz.func59, Tryz.ntmps59
  go_wp2_with fail
  refine HP.mono ?_
  generalize w.alloc (.cells #[.int .i64 0, .int .i64 0] 26) = w1 at *
  rintro e w2 ⟨rfl, rfl⟩
  have q0 := hQ.c (j := 0) rfl
  have q1 := hQ.c (j := 1) rfl
  have k0 := hQ.frozen 0
  have k1 := hQ.frozen 1
  clear HP
  have HQ2 := set_two (a' := .int .i64 2) (b' := .int .i64 l.length) hQ
  have h0 := HQ2.c (j := 0) rfl
  have h1 := HQ2.c (j := 1) rfl
  go_wp2
  refine bodyPost_ret (v := retV 2 l.length) (by simp [results, Tryz.f59, go_sem, retV, h0, h1]) rfl ?_
  have hO2 : Only w.heap.size w2 ((w2.setCell ⟨w.heap.size, 0, none⟩ (.int .i64 2)).setCell ⟨w.heap.size, 1, none⟩ (.int .i64 l.length)) := ((Only.of (Below.refl w2.heap.size w2) (Nat.le_refl _)).set 0 _).set 1 _
  refine ⟨rfl, ⟨g, _, p, HR1.out.kept hO2.grown (by intro e; have := Option.some.inj e; omega) (by intro e; have := Option.some.inj e; omega), hlen⟩, HB1.out.trans (hO2.below (by omega) (by have := HB1.out.size; omega))⟩
end Go.Proofs.YtmclpganipfadaaGreatDoor

namespace Go.Proofs.YtmclpganipfadaaGreatDoor
open Go.RowKit Go.Shelf Go.Maps
set_option linter.unusedVariables false

/-- It holds on, whatever becomes of block Bq. -/
def AfarQ {β : Type} (Bq : Nat) (I : β → World → Prop) : Prop :=
  ∀ s W W' row, I s W → W.grownBy W' row → (∀ r, row = some r → r = Bq) → I s W'
theorem AfarQ.new {β : Type} {B : Nat} {I : β → World → Prop} (h : AfarQ B I) {s : β} {W : World} (o : Obj) (hs : I s W) : I s (W.alloc o) :=
  h s W _ none hs (World.grownBy_alloc W o none) (fun r e => by cases e)
theorem AfarQ.drew {β : Type} {B : Nat} {I : β → World → Prop} (h : AfarQ B I) {s : β} {W : World} (hs : I s W) : I s W.drew :=
  h s W _ none hs ⟨rfl, rfl, rfl, Nat.le_refl _, fun _ _ _ => rfl⟩ (fun r e => by cases e)

/-- What an iterator is asked: called at the yield of any loop, with any invariant that holds on whatever becomes of block Bq, it goes through some list of which S holds. -/
def WholeQ {α : Type} (Bq : Nat) (F : Fence) (n : Nat) (P : Program) (g : Nat) (lb : Array Value) (encs : α → Array Value) (Kp : World → World → Prop) (S : List α → Prop) (N : Nat) (w : World) : Prop :=
  ∀ (l : Nat) (J : List α → World → Prop) (W : World), Below w.heap.size w W → AfarQ Bq J →
    (∀ pre x W1, J pre W1 → pre.length < N → YieldAt F (n - 1) P l (encs x) W1 fun e W' => e = .returned (.bool true) ∧ J (pre ++ [x]) W' ∧ Kp W1 W') →
    J [] W → CallsIn F n P g (#[.func (.yield l) #[] #[]] ++ lb) W fun e W' => (∃ v, e = .returned v) ∧ ∃ xs, S xs ∧ J xs W'

variable {F : Fence} {n : Nat} {P : Program}

theorem range_ring {α : Type} {g : Operand} {ps : Array Tmp} {assign body : Code} {Q : Exit → Act → World → Prop} {a : Act} {w : World} (Bq : Nat) (hBq : Bq < w.heap.size)
    (hro : F.round = none) (h1 : 1 ≤ n) {gf : Nat} {lb : Array Value} (hg : a.eval g = .func (.func gf) #[] lb) (hFg : F.fn gf) (eg : ∀ args w, (callFunc gf args).run P w = .ok (.enter gf args) w)
    {encs : α → Array Value} {Kp : World → World → Prop} {S : List α → Prop} {N : Nat} (hit : WholeQ Bq F (n - 1) P gf lb encs Kp S N w)
    (hKt : ∀ {X Y Z : World}, Kp X Y → Kp Y Z → Kp X Z) (hKb : ∀ (W : World) (l : Nat) (o o' : Obj), w.heap.size ≤ l → W.heap[l]? = some o → o.isCells = false → Kp W (W.putObj l o')) (hps : ∀ x, (encs x).size = ps.size)
    (I : List α → World → Prop) (hI : AfarQ Bq I) (hIp : ∀ s W l o o', I s W → w.heap.size ≤ l → W.heap[l]? = some o → o.isCells = false → I s (W.putObj l o')) (h0 : I [] w)
    (Ax : α → Act → World → Prop) (hAx : ∀ x a' W (l : Nat) (o o' : Obj), Ax x a' W → W.heap[l]? = some o → o.isCells = false → Ax x a' (W.putObj l o'))
    (hassign : ∀ (l : Nat) (pre : List α) (x : α) (W : World) (K : Act → World → Prop), w.heap.size ≤ W.heap.size → I pre W → (∀ a' W', KeepsOthers W W' → Kp W W' → I pre W' → Ax x a' W' → K a' W') →
      assign.wpIn (F.inRound l) (n - 1 - 1) P (Exit.then K (fun _ _ _ => False)) { tmps := (ps.zip (encs x)).foldl (fun t (p, v) => t.setIfInBounds p v) a.tmps, defers := [] } W)
    (hbody : ∀ (l : Nat) (pre : List α) (x : α) (a' : Act) (W : World), I pre W → Ax x a' W → pre.length < N → body.wpIn (F.inRound l) (n - 1 - 1) P (fun e _ W' => e = .normal ∧ KeepsOthers W W' ∧ Kp W W' ∧ I (pre ++ [x]) W') a' W)
    (hdone : ∀ (D : Nat) (xs : List α) (W : World), w.heap.size ≤ D → S xs → I xs W → W.heap[D]? = some (.deferred (some [])) → Q .normal { a with defers := { target := .collected D, args := #[] } :: a.defers } W) :
    (Code.rangeFunc g ps assign body).wpIn F n P Q a w := by
  refine wpIn_rangeFunc fun fn hfn => ?_
  rw [hro]
  obtain ⟨R, hR⟩ : ∃ R : LoopState → Loop, R = fun st => { state := st, pending := none, fn, tmps := a.tmps, params := ps, assign, body, defers := w.heap.size } := ⟨_, rfl⟩
  obtain ⟨B, hB⟩ : ∃ B, B = w.heap.size := ⟨_, rfl⟩
  obtain ⟨W1, hW1⟩ : ∃ W1, (w.alloc (.deferred (some []))).alloc (.loop (R .ready)) = W1 := ⟨_, rfl⟩
  have hs1 : W1.heap.size = B + 2 := by rw [← hW1, hB]; simp
  have hL1 : W1.heap[B + 1]? = some (.loop (R .ready)) := by
    have := World.alloc_heap_new (w.alloc (.deferred (some []))) (.loop (R .ready))
    rwa [World.size_alloc, hW1, ← hB] at this
  have hD1 : W1.heap[B]? = some (.deferred (some [])) := by
    rw [← hW1, hB]; exact (Below.heap_alloc _ _ _ (by simp)).trans (World.alloc_heap_new w _)
  have hw1 : Below w.heap.size w W1 := by rw [← hW1]; exact ((Below.refl _ w).alloc (Nat.le_refl _) _).alloc (by simp) _
  have hI1 : I [] W1 := by rw [← hW1]; exact hI.new _ (hI.new _ h0)
  refine ⟨w.heap.size + 1, [{ target := .collected w.heap.size, args := #[] }], W1, { target := .fn (.func gf) lb, args := #[.func (.yield (w.heap.size + 1)) #[] #[]] }, W1, gf, #[.func (.yield (w.heap.size + 1)) #[] #[]] ++ lb, W1, ?_, ?_, ?_, ?_, fun _ => h1, ?_⟩
  · rw [← hW1, hR]; exact run_enterLoop_outer _ _ _ _ _
  · simp only [resolve, hg]; simp [go_sem]
  · intro f' hf'; simp [Target.leads] at hf'; subst hf'; exact hFg
  · simp [invoke, go_sem, eg]
  rw [← hB] at hIp hKb hassign hdone hBq ⊢
  refine (hit (B + 1) (fun pre W => I pre W ∧ W.heap[B + 1]? = some (.loop (R .ready)) ∧ W.heap[B]? = some (.deferred (some []))) W1 hw1 ?_ ?_ ⟨hI1, hL1, hD1⟩).mono ?_
  · rintro s X Y row ⟨hs, hl, hd⟩ hgr hr
    refine ⟨hI s X Y row hs hgr hr, (hgr.block _ (Array.getElem?_eq_some_iff.1 hl).1 (fun e => by have := hr _ e.symm; omega)).trans hl, (hgr.block _ (Array.getElem?_eq_some_iff.1 hd).1 (fun e => by have := hr _ e.symm; omega)).trans hd⟩
  · rintro pre x W ⟨hi, hl, hd⟩ hlen
    have hlt : B + 1 < W.heap.size := (Array.getElem?_eq_some_iff.1 hl).1
    have hy := run_yield (P := P) (args := encs x) hl (by rw [hR]; exact hps x)
    rw [hR] at hy
    refine ⟨fn, _, assign, body, hy, roundIn_of_wpIn hfn (hassign _ pre x W _ (by omega) hi ?_)⟩
    intro a' W' hk' hkp' hi' hax'
    have hl' := hk'.same _ _ hl rfl
    have hd' := hk'.same _ _ hd rfl
    refine ⟨_, run_beginRound hl' (by rw [hR]), ?_⟩
    have hlt' : B + 1 < W'.heap.size := (Array.getElem?_eq_some_iff.1 hl').1
    refine wpIn_mono (hbody _ pre x a' _ (hIp _ _ _ _ _ hi' (by omega) hl' rfl) (hAx _ _ _ _ _ _ hax' hl' rfl) hlen) ?_
    rintro e a3 W3 ⟨rfl, hk3, hkp3, hi3⟩
    have hl3 := hk3.same _ _ (World.putObj_heap_same hlt') rfl
    have hd3 := hk3.same _ _ ((World.putObj_heap_other (by omega)).trans hd') rfl
    have hlt3 : B + 1 < W3.heap.size := (Array.getElem?_eq_some_iff.1 hl3).1
    have hend := run_endRound (P := P) none hl3
    refine ⟨_, _, hend, rfl, ⟨hIp _ _ _ _ _ hi3 (by omega) hl3 rfl, ?_, (World.putObj_heap_other (by omega)).trans hd3⟩, hKt (hKt (hKt hkp' (hKb _ _ _ _ (by omega) hl' rfl)) hkp3) (hKb _ _ _ _ (by omega) hl3 rfl)⟩
    rw [World.putObj_heap_same hlt3, hR]; rfl
  · rintro e W2 ⟨⟨v, rfl⟩, xs, hS, hi, hl, hd⟩
    refine ⟨none, _, ?_, hdone B xs _ (by omega) hS (hIp _ _ (B + 1) _ (.loop (R .exhausted)) hi (by omega) hl rfl) ((World.putObj_heap_other (by omega)).trans hd)⟩
    have := run_endLoop (P := P) hl (by rw [hR]; simp)
    rw [hR] at this ⊢
    exact this
end Go.Proofs.YtmclpganipfadaaGreatDoor

namespace Go.Proofs.YtmclpganipfadaaGreatDoor
open Go.RowKit Go.Shelf Go.Maps
set_option linter.unusedVariables false
set_option linter.unusedSimpArgs false

attribute [local go_sem] Oper.semAt_some

/-- These blocks lie as they lay, if they are cells. -/
structure KeptAt (X : Nat → Prop) (W W' : World) : Prop where
  size : W.heap.size ≤ W'.heap.size
  same : ∀ (k : Nat) (o : Obj), X k → W.heap[k]? = some o → o.isCells = true → W'.heap[k]? = some o
theorem KeptAt.refl (X : Nat → Prop) (W : World) : KeptAt X W W := ⟨Nat.le_refl _, fun _ _ _ h _ => h⟩
theorem KeptAt.trans {X : Nat → Prop} {A B C : World} (h : KeptAt X A B) (k : KeptAt X B C) : KeptAt X A C :=
  ⟨Nat.le_trans h.size k.size, fun i o hi ho hc => k.same i o hi (h.same i o hi ho hc) hc⟩
theorem KeptAt.put (X : Nat → Prop) (W : World) (l : Nat) (o o' : Obj) (h : W.heap[l]? = some o) (hc : o.isCells = false) : KeptAt X W (W.putObj l o') :=
  ⟨by simp, fun k x _ hk hx => (World.putObj_heap_other (fun e => by subst e; rw [hk] at h; cases h; rw [hx] at hc; cases hc)).trans hk⟩
theorem KeptAt.grown {X : Nat → Prop} {W W' : World} {row : Option Nat} (h : W.grownBy W' row) (hr : ∀ r, row = some r → ¬ X r) : KeptAt X W W' :=
  ⟨h.size, fun k o hk ho _ => (h.block k (Array.getElem?_eq_some_iff.1 ho).1 (fun e => hr k e.symm hk)).trans ho⟩
theorem KeptAt.holds {X : Nat → Prop} {W W' : World} (h : KeptAt X W W') {k : Nat} {t : TypeId} {cs : Array Value} (hk : X k) (hh : Holds W k t cs) : Holds W' k t cs := h.same k _ hk hh rfl
theorem KeptAt.row {X : Nat → Prop} {W W' : World} (h : KeptAt X W W') {base g n cap : Nat} {e : TypeId} {size : Nat} {xs : List Value} (hk : X g) (hh : W.ownsRow base e size (.slice (some ⟨g, 0, none⟩) n cap) n xs) : W'.ownsRow base e size (.slice (some ⟨g, 0, none⟩) n cap) n xs := by
  refine ⟨hh.1, ?_⟩
  rcases hh.2 with h' | ⟨g', cap', cur, h1, h2, h3, h4⟩
  · exact .inl h'
  · injection h1 with e1 e2 e3
    injection e1 with e1
    injection e1 with e1
    subst e1 e3
    exact .inr ⟨g, cap, cur, rfl, h2, h.same g _ hk h3 rfl, h4⟩
theorem KeptAt.ring {X : Nat → Prop} {W W' : World} (h : KeptAt X W W') {base B g p : Nat} {cs q : List Int} (hB : X B) (hg : X g) (hh : Ring base W B g cs p q) : Ring base W' B g cs p q :=
  ⟨h.holds hB hh.box, h.row hg hh.row, hh.own, hh.laid, hh.inn⟩

theorem drain_in (F : Fence) (m : Nat) (h1 : F.fn 81) (hro : F.round = none) (B : Nat) (w : World) :
    CallsIn F m Tryz.prog 81 #[.pointer (some ⟨B, 0, none⟩)] w fun e w' => e = .returned (.func (.func 101) #[] #[.pointer (some ⟨w.heap.size, 0, none⟩)]) ∧ w' = w.alloc (.cells #[.pointer (some ⟨B, 0, none⟩)] 122) := by
  refine callsIn_of_wp Tryz.func81 rfl h1 ?_ hro
  simp only [Tryz.ntmps81, List.size_toArray, List.length_cons, List.length_nil, Nat.reduceAdd, Nat.reduceSub, Array.replicate_succ, Array.replicate_zero, List.push_toArray, List.append_toArray, List.nil_append, List.cons_append]
  gi_wp2
  go_ret
  exact ⟨rfl, rfl⟩

/-- How many are in a ring. -/
def countAt (B : Nat) (w : World) : Nat :=
  match w.cell? ⟨B, 2, none⟩ with
  | some (.int _ k) => k.toNat
  | _ => 0
theorem count_eq {base : Nat} {W : World} {B g : Nat} {cs : List Int} {p : Nat} {q : List Int} (h : Ring base W B g cs p q) : countAt B W = q.length := by
  unfold countAt
  rw [h.box.c (j := 2) rfl]
  simp

set_option maxRecDepth 100000 in
set_option maxHeartbeats 1000000 in
theorem drain1_in (m : Nat) (hm : 1 ≤ m) (lp base Bp B g : Nat) (cs : List Int) (p0 : Nat) (q : List Int) (hlen : cs.length ≤ 5000) (J : List Int → World → Prop)
    (W : World) (hJ : AfarQ B J) (hpB : Bp ≠ B)
    (hY : ∀ pre x W, J pre W → pre.length < q.length → YieldAt Fence.wide (m - 1) Tryz.prog lp #[.int .i64 x] W fun e W' => e = .returned (.bool true) ∧ J (pre ++ [x]) W' ∧ KeptAt (fun k => k = Bp ∨ k = B ∨ k = g) W W')
    (hBp : Holds W Bp 122 #[.pointer (some ⟨B, 0, none⟩)]) (hR : Ring base W B g cs p0 q) (h0 : J [] W) :
    CallsIn Fence.wide m Tryz.prog 101 #[.func (.yield lp) #[] #[], .pointer (some ⟨Bp, 0, none⟩)] W fun e W' => (∃ v, e = .returned v) ∧ ∃ ys : List Int, ys = q ∧ J ys W' := by
  refine callsIn_of_wp Tryz.func101 rfl trivial ?_ rfl
  simp only [Tryz.ntmps101, List.size_toArray, List.length_cons, List.length_nil, Nat.reduceAdd, Nat.reduceSub, Array.replicate_succ, Array.replicate_zero, List.push_toArray, List.append_toArray, List.nil_append, List.cons_append]
  have HR0 := Lib.hid hR
  have HP0 := Lib.hid hBp
  have H0 := Lib.hid h0
  clear hR hBp h0
  gi_wp2
  gi_loopw [3, 4, 5] (fun s3 s4 s5 wr => ∃ (p : Nat) (pre r : List Int), pre ++ r = q ∧ Holds wr Bp 122 #[.pointer (some ⟨B, 0, none⟩)] ∧ Ring base wr B g cs p r ∧ J pre wr) (fun s3 s4 s5 wr => countAt B wr)
  case atStart => exact ⟨p0, [], q, rfl, HP0.out, HR0.out, H0.out⟩
  case round =>
    obtain ⟨p, pre, r, hq, hP, hR, hJr⟩ := hrel
    have HQ := Lib.hid hq
    have HP := Lib.hid hP
    have HR := Lib.hid hR
    have HJ := Lib.hid hJr
    have cp := hP.c (j := 0) rfl
    clear hq hP hR hJr
    cases r with
    | nil =>
      have HT := take_none base B g cs p wr HR.out
      gi_wp2_with fail
      refine ⟨trivial, (callsIn_wide.2 HT).mono ?_⟩
      rintro e w1 ⟨rfl, rfl⟩
      gi_wp2
      refine ⟨fun f e => (by cases e), ?_⟩
      gi_wp2
      refine bodyPost_ret (results_none rfl _ _ _) rfl ?_
      refine ⟨⟨_, rfl⟩, q, rfl, ?_⟩
      have h1 := HJ.out
      rw [show pre = q by have := HQ.out; simpa using this] at h1
      exact h1
    | cons x r =>
      have HT := take_some base B g cs p x r wr HR.out (by omega)
      gi_wp2_with fail
      refine ⟨trivial, (callsIn_wide.2 HT).mono ?_⟩
      rintro e w1 ⟨rfl, ⟨p1, hR1⟩, hg1⟩
      have HP1 := Lib.hid (HP.out.kept hg1 (by intro e; exact hpB (Option.some.inj e)))
      have hJ1 := hJ pre wr w1 (some B) HJ.out hg1 (fun r e => (Option.some.inj e).symm)
      obtain ⟨fn, tmps, assign, body, hy, hR⟩ := hY pre x w1 hJ1 (by rw [← HQ.out, List.length_append, List.length_cons]; omega)
      have HR1 := Lib.hid hR1
      clear hR1 hg1 hJ1 HT
      gi_wp2_with fail
      refine hR.mono ?_
      rintro e W3 ⟨rfl, hJ3, hk3⟩
      have hR3 := hk3.ring (.inr (.inl rfl)) (.inr (.inr rfl)) HR1.out
      have hP3 := hk3.holds (.inl rfl) HP1.out
      have HJ3 := Lib.hid hJ3
      have HR3 := Lib.hid hR3
      have HP3 := Lib.hid hP3
      clear hJ3 hk3 hR3 hP3
      gi_wp2
      go_roundw
      case rel => exact ⟨p1, pre ++ [x], r, by rw [List.append_assoc]; exact HQ.out, HP3.out, HR3.out, HJ3.out⟩
      case measure => rw [count_eq HR3.out, count_eq HR.out, List.length_cons]; omega

theorem drain_whole (m : Nat) (hm : 1 ≤ m) (base Bp B g : Nat) (cs : List Int) (p0 : Nat) (q : List Int) (hlen : cs.length ≤ 5000) (w : World) (hpB : Bp ≠ B)
    (hBp : Holds w Bp 122 #[.pointer (some ⟨B, 0, none⟩)]) (hR : Ring base w B g cs p0 q) :
    WholeQ B Fence.wide m Tryz.prog 101 #[.pointer (some ⟨Bp, 0, none⟩)] (fun x : Int => #[Value.int .i64 x]) (KeptAt (fun k => k = Bp ∨ k = B ∨ k = g)) (fun ys => ys = q) q.length w := fun lp J W hW hJ hY h0 =>
  drain1_in m hm lp base Bp B g cs p0 q hlen J W hJ hpB hY (hBp.below hW hBp.lt) (hR.below hW (Nat.le_refl _)) h0
end Go.Proofs.YtmclpganipfadaaGreatDoor

namespace Go.Proofs.YtmclpganipfadaaGreatDoor
open Go.RowKit Go.Shelf Go.Maps
set_option linter.unusedVariables false
set_option linter.unusedSimpArgs false

attribute [local go_sem] Oper.semAt_some

def ListPost (B : Nat) (l : List Int) (w : World) (e : Ending) (w' : World) : Prop :=
  ∃ A c, e = .returned (.slice A l.length c) ∧ w'.ownsRow w.heap.size 3 1 (.slice A l.length c) l.length (intsOf l) ∧ w.grownBy w' (some B)

theorem grow_two {a b : World} {row : Option Nat} (h : a.grownBy b none) (o o' : Obj) : a.grownBy ((b.alloc o).alloc o') row :=
  ⟨h.os, h.tape, h.output, by have := h.size; simp; omega, fun k hk _ => ((Below.heap_alloc (b.alloc o) o' k (by have := h.size; simp; omega)).trans (Below.heap_alloc b o k (by have := h.size; omega))).trans (h.block k hk (by simp))⟩
theorem own_not {W : World} {base : Nat} {e : TypeId} {size : Nat} {v : Value} {n : Nat} {xs : List Value} (h : W.ownsRow base e size v n xs) {D : Nat} {o : Obj} (hD : W.heap[D]? = some o) (hc : o.isCells = false) : v.ownBlock = none ∨ v.ownBlock ≠ some D := by
  rcases h.2 with ⟨rfl, _⟩ | ⟨g, cap, cur, rfl, _, hg, _⟩
  · exact .inl rfl
  · refine .inr (fun e => ?_)
    cases (Option.some.inj e : g = D)
    rw [hg] at hD; cases hD; cases hc
/-- What has been told so far lies in a row of the call's own, its slice in box P; box Q holds where the ring is. -/
structure Lst (w : World) (B P Q : Nat) (pre : List Int) (W : World) : Prop where
  row : ∃ v, Boxed W P 22 v ∧ W.ownsRow w.heap.size 3 1 v pre.length (intsOf pre)
  ptr : Holds W Q 122 #[.pointer (some ⟨B, 0, none⟩)]
  grown : w.grownBy W (some B)
theorem Lst.kept {w : World} {B P Q : Nat} {pre : List Int} {X Y : World} {row : Option Nat} (h : Lst w B P Q pre X) (hB : B < w.heap.size) (hP : B ≠ P) (hQ : B ≠ Q) (hg : X.grownBy Y row) (hr : ∀ r, row = some r → r = B) : Lst w B P Q pre Y := by
  obtain ⟨v, h1, h2⟩ := h.row
  have hne : ∀ k, k ≠ B → some k ≠ row := fun k hk e => hk (hr k e.symm)
  refine ⟨⟨v, h1.kept hg (hne P hP.symm), h2.kept hg ?_⟩, h.ptr.kept hg (hne Q hQ.symm), ⟨hg.os.trans h.grown.os, hg.tape.trans h.grown.tape, hg.output.trans h.grown.output, Nat.le_trans h.grown.size hg.size, fun k hk hk2 => (hg.block k (Nat.lt_of_lt_of_le hk h.grown.size) (hne k (fun e => hk2 (by rw [e])))).trans (h.grown.block k hk hk2)⟩⟩
  cases e : v.ownBlock with
  | none => exact .inl rfl
  | some k => exact .inr (hne k (by have := (h2.lt k e).1; omega))
theorem Lst.put {w : World} {B P Q : Nat} {pre : List Int} {X : World} (h : Lst w B P Q pre X) (l : Nat) (o o' : Obj) (hl : w.heap.size ≤ l) (ho : X.heap[l]? = some o) (hc : o.isCells = false) : Lst w B P Q pre (X.putObj l o') := by
  obtain ⟨v, h1, h2⟩ := h.row
  have hg := grownBy_putObj' X l o'
  have hne : ∀ k x, X.heap[k]? = some x → x.isCells = true → k ≠ l := fun k x hk hx e => by subst e; rw [hk] at ho; cases ho; rw [hx] at hc; cases hc
  refine ⟨⟨v, h1.kept hg (fun e => hne P _ h1 rfl (Option.some.inj e)), h2.kept hg ?_⟩, h.ptr.kept hg (fun e => hne Q _ h.ptr rfl (Option.some.inj e)), ⟨h.grown.os, h.grown.tape, h.grown.output, by have := h.grown.size; simpa using this, fun k hk hk2 => (World.putObj_heap_other (by omega)).trans (h.grown.block k hk hk2)⟩⟩
  rcases h2.2 with ⟨rfl, _⟩ | ⟨g, cap, cur, rfl, _, hg2, _⟩
  · exact .inl rfl
  · exact .inr (fun e => hne g _ hg2 rfl (Option.some.inj e))
theorem Lst.more {w W w1 : World} {B P Q : Nat} {pre : List Int} {x : Int} {v v' : Value} {tmp : Obj} (hP : w.heap.size ≤ P) (hv : Boxed W P 22 v) (hrow : W.ownsRow w.heap.size 3 1 v pre.length (intsOf pre)) (hptr : Holds W Q 122 #[.pointer (some ⟨B, 0, none⟩)]) (hgr : w.grownBy W (some B)) (hPQ : P ≠ Q)
    (hown : w1.ownsRow w.heap.size 3 1 v' (pre.length + 1) (intsOf pre ++ [.int .i64 x])) (hg : (W.alloc tmp).grownBy w1 v.ownBlock) (X : Nat → Prop) (hX : ∀ k, X k → k = Q ∨ k < w.heap.size) :
    Boxed w1 P 22 v ∧ KeepsOthers W (w1.setCell ⟨P, 0, none⟩ v') ∧ KeptAt X W (w1.setCell ⟨P, 0, none⟩ v') ∧ Lst w B P Q (pre ++ [x]) (w1.setCell ⟨P, 0, none⟩ v') := by
  obtain ⟨hv1, hv2, hr2, hk2, hb2⟩ := hv.appended (by decide) hrow hgr.size hP hown hg
  have hp1 : Holds w1 Q 122 #[.pointer (some ⟨B, 0, none⟩)] := (hptr.alloc tmp).kept hg (hptr.not_row hrow (by decide))
  have hp2 : Holds (w1.setCell ⟨P, 0, none⟩ v') Q 122 #[.pointer (some ⟨B, 0, none⟩)] := hp1.of (Below.heap_setCell _ _ _ _ hPQ.symm)
  refine ⟨hv1, hk2, ⟨hk2.size, fun k o hk ho hc => ?_⟩, ⟨⟨v', hv2, ?_⟩, hp2, ⟨hb2.os.trans hgr.os, hb2.tape.trans hgr.tape, hb2.output.trans hgr.output, Nat.le_trans hgr.size hb2.size, fun k hk hne => (hb2.block k hk).trans (hgr.block k hk hne)⟩⟩⟩
  · rcases hX k hk with rfl | hlt
    · rw [show W.heap[k]? = _ from hptr] at ho
      cases ho
      exact hp2
    · exact (hb2.block k hlt).trans ho
  · rw [List.length_append, List.length_cons, List.length_nil]
    simpa [intsOf] using hr2

set_option maxRecDepth 100000 in
set_option maxHeartbeats 2000000 in
theorem list_any (base B g : Nat) (cs : List Int) (p : Nat) (l : List Int) (w : World) (h : Ring base w B g cs p l) (hlen : cs.length ≤ 5000) :
    Calls Tryz.prog 60 #[.pointer (some ⟨B, 0, none⟩)] w (ListPost B l w) := by
  obtain ⟨i0, hi, hz0, hz1, hz2⟩ := info_parts info_int
  have hfit := h.fit
  have HR := Lib.hid h
  have hlt := h.box.lt
  have hgl := h.glt
  have hBG := h.ne
  obtain ⟨n, hn⟩ : ∃ n, n = l.length := ⟨_, rfl⟩
  have HS := rsize_any base B g cs p l w h
  rw [← hn] at HS hfit
  have Hn := Lib.hid hn
  clear h hn
  refine (callsIn_wide (n := 6)).1 ?_
  refine callsIn_of_wp_marks Tryz.func60 rfl trivial ?_ rfl
  simp only [Tryz.ntmps60, List.size_toArray, List.length_cons, List.length_nil, Nat.reduceAdd, Nat.reduceSub, Array.replicate_succ, Array.replicate_zero, List.push_toArray, List.append_toArray, List.nil_append, List.cons_append]
  gi_wp2_with (first
    | (refine ⟨trivial, ?_⟩; gi_at_call 80; refine (callsIn_wide.2 HS).mono ?_; rintro e w' ⟨rfl, hw'⟩; replace hw' := hw'.symm; subst hw')
    | (refine ⟨trivial, ?_⟩; gi_at_call 81; refine (drain_in Fence.wide _ trivial rfl _ _).mono ?_; rintro e w' ⟨rfl, rfl⟩)
    | (gi_at_make; refine wpListIn_make_own _ rfl _ _ 22 rfl w.heap.size 3 i0 (.int .i64 0) 1 Tryz.underlying22 hi hz0 hz1 .i64 .i64 _ n rfl rfl rfl (by rw [hz2]; omega) (by unfold maxLen; omega) (Nat.le_refl _) ?_; intro w1 hown1 hg1))
  rename_i K hKt
  have hs1 := hg1.size
  have hP : w.heap.size ≤ w1.heap.size := hs1
  have bP := (Boxed.new w1 22 (.slice (some ⟨w.heap.size, 0, none⟩) 0 n)).alloc (.cells #[.pointer (some ⟨B, 0, none⟩)] 122)
  have bQ := new_second w1 (.cells #[.slice (some ⟨w.heap.size, 0, none⟩) 0 n] 22) 122 #[.pointer (some ⟨B, 0, none⟩)]
  have hrow := (hown1.alloc (.cells #[.slice (some ⟨w.heap.size, 0, none⟩) 0 n] 22)).alloc (.cells #[.pointer (some ⟨B, 0, none⟩)] 122)
  have hgr : w.grownBy ((w1.alloc (.cells #[.slice (some ⟨w.heap.size, 0, none⟩) 0 n] 22)).alloc (.cells #[.pointer (some ⟨B, 0, none⟩)] 122)) (some B) := grow_two hg1 _ _
  have hsz : ((w1.alloc (.cells #[.slice (some ⟨w.heap.size, 0, none⟩) 0 n] 22)).alloc (.cells #[.pointer (some ⟨B, 0, none⟩)] 122)).heap.size = w1.heap.size + 2 := by simp
  have hR0 := HR.out.kept (grow_two (row := none) hg1 (.cells #[.slice (some ⟨w.heap.size, 0, none⟩) 0 n] 22) (.cells #[.pointer (some ⟨B, 0, none⟩)] 122)) (by simp) (by simp)
  generalize (w1.alloc (.cells #[.slice (some ⟨w.heap.size, 0, none⟩) 0 n] 22)).alloc (.cells #[.pointer (some ⟨B, 0, none⟩)] 122) = W0 at *
  obtain ⟨P, hPe⟩ : ∃ P, P = w1.heap.size := ⟨_, rfl⟩
  rw [← hPe] at bP bQ hsz hP ⊢
  clear hown1 hg1 hs1 hPe HS
  refine range_ring B (by omega) rfl (by omega) (gf := 101) (lb := #[.pointer (some ⟨P + 1, 0, none⟩)]) rfl trivial (enters_of Tryz.func101 (by kernel_rfl) rfl)
    (drain_whole 5 (by omega) base (P + 1) B g cs p l hlen W0 (by omega) bQ hR0) KeptAt.trans (fun W l o o' _ h1 h2 => KeptAt.put _ W l o o' h1 h2) (fun _ => rfl)
    (fun (pre : List Int) W => Lst w B P (P + 1) pre W)
    (fun s X Y row hs hg hr => hs.kept hlt (by omega) (by omega) hg hr)
    (fun s X l o o' hs hl ho hc => hs.put l o o' (by omega) ho hc)
    ⟨⟨_, bP, by simpa [intsOf] using hrow⟩, bQ, hgr⟩
    (fun x a' W => a' = { tmps := #[.pointer (some ⟨B, 0, none⟩), undef, .slice none 0 0, .pointer (some ⟨P, 0, none⟩), .int .i64 x, .pointer (some ⟨B, 0, none⟩), .pointer (some ⟨B, 0, none⟩), .pointer (some ⟨B, 0, none⟩), .int .i64 n, .slice (some ⟨w.heap.size, 0, none⟩) 0 n, .pointer (some ⟨B, 0, none⟩), .pointer (some ⟨B, 0, none⟩), .pointer (some ⟨B, 0, none⟩), .func (.func 101) #[] #[.pointer (some ⟨P + 1, 0, none⟩)], .int .i64 x, undef, undef, undef, undef, undef], defers := [] })
    (fun x a' W l o o' h1 ho hc => h1) ?assign ?body ?done
  case assign =>
    intro l pre x W K hsz hI hK
    gi_wp2
    exact hK _ _ (KeepsOthers.refl _) (KeptAt.refl _ _) hI rfl
  case body =>
    rintro lp pre x a' W hI rfl hlt2
    obtain ⟨⟨v, hv, hrow⟩, hptr, hgr⟩ := hI
    have hc := hv.cell
    have hws := hgr.size
    gi_wp2_with (gi_at_builtin; refine wpListIn_append_own _ rfl _ _ 22 rfl w.heap.size 3 i0 (.int .i64 0) 1 8 Tryz.underlying22 hi hz0 hz1 hz2 rfl (by decide) _ _ _ rfl (hrow.alloc _) ⟨W.heap.size, 0, none⟩ 1 1 [.int .i64 x] rfl rfl (cell_one_new _ _ _) (by simp [Value.oneCell']) (by simp only [maxLen]; have := Hn.out; omega) (by have := Hn.out; omega) (by simp; omega) ?_; intro v' w2 hown' hgrow _; obtain ⟨g', cap', rfl⟩ := ownsRow_succ hown'; obtain ⟨hv1, hk2, hkp2, hL2⟩ := Lst.more hP hv hrow hptr hgr (by omega) hown' hgrow (fun k => k = P + 1 ∨ k = B ∨ k = g) (fun k hk => by omega); have hc1 := hv1.cell; have hf1 := hv1.frozen)
  case done =>
    rintro D ys W hD rfl hI hK
    obtain ⟨⟨v, hv, hrow⟩, hptr, hgr⟩ := hI
    have hc := hv.cell
    obtain ⟨A3, c3, rfl, -⟩ := row_shape hrow
    refine hKt _ _ ?_
    gi_wp2
    refine ⟨by simp, .inl ⟨_, _, rfl, run_takeDeferred hK, ?_⟩⟩
    refine ⟨_, results_tmp rfl _ _ _, A3, c3, rfl, ?_, ?_⟩
    · exact hrow.kept (grownBy_putObj' W D _) (own_not hrow hK rfl)
    · exact ⟨hgr.os, hgr.tape, hgr.output, by have := hgr.size; simpa using this, fun k hk hk2 => (World.putObj_heap_other (by omega)).trans (hgr.block k hk hk2)⟩
end Go.Proofs.YtmclpganipfadaaGreatDoor

namespace Go.Proofs.YtmclpganipfadaaGreatDoor
open Go.RowKit Go.Maps
set_option linter.unusedVariables false
set_option linter.unusedSimpArgs false

def isQ (t n : Int) : Bool := t == 4 && n == 0
theorem check_queue (n : Int) (l : List Int) : checkE 4 n l = if n = 0 then 0 else 5 := by
  unfold checkE fitsB
  by_cases h : n = 0 <;> simp [h]
set_option maxHeartbeats 1000000 in
theorem isq_any (t n : Int) (A : Option Addr) (c : Nat) (l : List Int) (w : World) (hA : Ints w A l) (hlen : l.length ≤ 1000) :
    Calls Tryz.prog 57 #[stV t n A l.length c] w (Says (.bool (isQ t n)) w) := by
  have hB0 := alloc1 w (.cells #[.int .i64 t, .int .i64 n, .slice A l.length c] 24)
  by_cases ht : t = 4
  · subst ht
    have HC := check_any 4 n A c l _ (hA.below hB0) hlen
    rw [check_queue] at HC
    by_cases hn : n = 0
    · rw [if_pos hn] at HC
      have hq : isQ 4 n = true := by unfold isQ; simp [hn]
      rw [hq]
      clear hA hn hq
      unfold stV at *
      go_enter Tryz.func57, Tryz.ntmps57
      go_wp2_with fail
      refine HC.mono ?_
      rintro e w1 ⟨rfl, hB1⟩
      go_wp2
      go_ret
      exact ⟨rfl, onto hB0 hB1⟩
    · rw [if_neg hn] at HC
      have hq : isQ 4 n = false := by unfold isQ; simp [hn]
      rw [hq]
      clear hA hn hq
      unfold stV at *
      go_enter Tryz.func57, Tryz.ntmps57
      go_wp2_with fail
      refine HC.mono ?_
      rintro e w1 ⟨rfl, hB1⟩
      go_wp2
      go_ret
      exact ⟨rfl, onto hB0 hB1⟩
  · have h1 : (t == 4) = false := by simp [ht]
    have hq : isQ t n = false := by unfold isQ; rw [h1]; rfl
    rw [hq]
    clear hA hq ht
    unfold stV at *
    go_enter Tryz.func57, Tryz.ntmps57
    go_wp2
    go_ret
    exact ⟨rfl, hB0⟩

/-- Do these begin with those? -/
def startsB (l m : List Int) : Bool := decide (m.length ≤ l.length) && (l.take m.length == m)
/-- What Drain tells: a list of its own, and the error. -/
def DrainPost (m : List Int) (er : Int) (w : World) (e : Ending) (w' : World) : Prop :=
  ∃ A c, e = .returned (.tuple #[.slice A m.length c, .int .i64 er]) ∧ w'.ownsRow w.heap.size 3 1 (.slice A m.length c) m.length (intsOf m) ∧ Below w.heap.size w w'
theorem below_ring {w w1 w2 : World} {B : Nat} (h : Below w.heap.size w w1) (hg : w1.grownBy w2 (some B)) (hB : w.heap.size ≤ B) : Below w.heap.size w w2 := h.grown hg h.size (fun k e => by cases e; exact hB)
set_option maxHeartbeats 1000000 in
theorem fapply_no (t n : Int) (A : Option Addr) (c : Nat) (l : List Int) (kd a b : Int) (w : World) (hA : Ints w A l) (hlen : l.length ≤ 1000) (hq : isQ t n = false) :
    Calls Tryz.prog 37 #[stV t n A l.length c, .int .i64 kd, .int .i64 a, .int .i64 b] w (SetPost 0 [] 0 0 12 w) := by
  have hB0 := boxed3_below w t n A l.length c
  have H := isq_any t n A c l _ (hA.below hB0) hlen
  rw [hq] at H
  have HZ := Lib.hid (boxed3_then w t n A l.length c)
  have HR := Lib.hid (boxed3_ret w t n A l.length c)
  have hsz := boxed3_size w t n A l.length c
  clear hA hq
  unfold stV at *
  go_enter Tryz.func37, Tryz.ntmps37
  go_wp2_with fail
  refine H.mono ?_
  rintro e w1 ⟨rfl, hB1⟩
  generalize boxed3 w t n A l.length c = W0 at *
  have HZ1 := Lib.hid (HZ.out.below hB1 (by omega))
  have HR1 := Lib.hid (HR.out.below hB1 (by omega))
  have z0 := HZ1.out.c (j := 0) rfl
  have z1 := HZ1.out.c (j := 1) rfl
  have z2 := HZ1.out.c (j := 2) rfl
  have r0 := HR1.out.c (j := 0) rfl
  have r1 := HR1.out.c (j := 1) rfl
  have y0 := HZ1.out.frozen 0
  have y1 := HZ1.out.frozen 1
  have y2 := HZ1.out.frozen 2
  have x0 := HR1.out.frozen 0
  have x1 := HR1.out.frozen 1
  have hBw := nxt hB0 hB1 (by omega)
  clear hsz
  go_wp2
  obtain ⟨HZ2, HR2, hB2⟩ := filled_holds (m := w.heap.size) HZ1.out HR1.out (by omega) 0 0 (.slice none 0 0) 0 0
  have k0 := HZ2.c (j := 0) rfl
  have k1 := HZ2.c (j := 1) rfl
  have k2 := HZ2.c (j := 2) rfl
  have q0 := HR2.c (j := 0) rfl
  have q1 := HR2.c (j := 1) rfl
  change bodyPost _ _ _ _ _ (filled w1 (w.heap.size + 1) 0 0 (.slice none 0 0) 0 0)
  generalize filled w1 (w.heap.size + 1) 0 0 (.slice none 0 0) 0 0 = W2 at *
  refine bodyPost_ret (v := ansV 0 0 0 0 12) (by simp [results, Tryz.f37, go_sem, ansV, stV, retV, k0, k1, k2, q0, q1]) rfl ?_
  exact set_none _ _ _ (nxt hBw hB2 (Nat.le_refl _))
set_option maxHeartbeats 1000000 in
theorem fapply_word (A : Option Addr) (c : Nat) (l : List Int) (kd a b : Int) (w : World) (hA : Ints w A l) (hlen : l.length ≤ 1000) (h : kd < 10) :
    Calls Tryz.prog 37 #[stV 4 0 A l.length c, .int .i64 kd, .int .i64 a, .int .i64 b] w (SetPost 0 [] 0 0 6 w) := by
  have hB0 := boxed3_below w 4 0 A l.length c
  have H := isq_any 4 0 A c l _ (hA.below hB0) hlen
  have hq : isQ 4 0 = true := rfl
  rw [hq] at H
  have d1 : decide (kd < 10) = true := decide_eq_true h
  have HZ := Lib.hid (boxed3_then w 4 0 A l.length c)
  have HR := Lib.hid (boxed3_ret w 4 0 A l.length c)
  have hsz := boxed3_size w 4 0 A l.length c
  clear hA hq
  unfold stV at *
  go_enter Tryz.func37, Tryz.ntmps37
  go_wp2_with fail
  refine H.mono ?_
  rintro e w1 ⟨rfl, hB1⟩
  generalize boxed3 w 4 0 A l.length c = W0 at *
  have HZ1 := Lib.hid (HZ.out.below hB1 (by omega))
  have HR1 := Lib.hid (HR.out.below hB1 (by omega))
  have z0 := HZ1.out.c (j := 0) rfl
  have z1 := HZ1.out.c (j := 1) rfl
  have z2 := HZ1.out.c (j := 2) rfl
  have r0 := HR1.out.c (j := 0) rfl
  have r1 := HR1.out.c (j := 1) rfl
  have y0 := HZ1.out.frozen 0
  have y1 := HZ1.out.frozen 1
  have y2 := HZ1.out.frozen 2
  have x0 := HR1.out.frozen 0
  have x1 := HR1.out.frozen 1
  have hBw := nxt hB0 hB1 (by omega)
  clear hsz
  go_wp2
  obtain ⟨HZ2, HR2, hB2⟩ := filled_holds (m := w.heap.size) HZ1.out HR1.out (by omega) 0 0 (.slice none 0 0) 0 0
  have k0 := HZ2.c (j := 0) rfl
  have k1 := HZ2.c (j := 1) rfl
  have k2 := HZ2.c (j := 2) rfl
  have q0 := HR2.c (j := 0) rfl
  have q1 := HR2.c (j := 1) rfl
  change bodyPost _ _ _ _ _ (filled w1 (w.heap.size + 1) 0 0 (.slice none 0 0) 0 0)
  generalize filled w1 (w.heap.size + 1) 0 0 (.slice none 0 0) 0 0 = W2 at *
  refine bodyPost_ret (v := ansV 0 0 0 0 6) (by simp [results, Tryz.f37, go_sem, ansV, stV, retV, k0, k1, k2, q0, q1]) rfl ?_
  exact set_none _ _ _ (nxt hBw hB2 (Nat.le_refl _))
set_option maxHeartbeats 1000000 in
theorem fapply_word2 (A : Option Addr) (c : Nat) (l : List Int) (kd a b : Int) (w : World) (hA : Ints w A l) (hlen : l.length ≤ 1000) (h : 12 < kd) :
    Calls Tryz.prog 37 #[stV 4 0 A l.length c, .int .i64 kd, .int .i64 a, .int .i64 b] w (SetPost 0 [] 0 0 6 w) := by
  have hB0 := boxed3_below w 4 0 A l.length c
  have H := isq_any 4 0 A c l _ (hA.below hB0) hlen
  have hq : isQ 4 0 = true := rfl
  rw [hq] at H
  have d1 : decide (kd < 10) = false := decide_eq_false (by omega)
  have d2 : decide (12 < kd) = true := decide_eq_true h
  have d3 : decide (kd > 12) = true := decide_eq_true h
  have HZ := Lib.hid (boxed3_then w 4 0 A l.length c)
  have HR := Lib.hid (boxed3_ret w 4 0 A l.length c)
  have hsz := boxed3_size w 4 0 A l.length c
  clear hA hq
  unfold stV at *
  go_enter Tryz.func37, Tryz.ntmps37
  go_wp2_with fail
  refine H.mono ?_
  rintro e w1 ⟨rfl, hB1⟩
  generalize boxed3 w 4 0 A l.length c = W0 at *
  have HZ1 := Lib.hid (HZ.out.below hB1 (by omega))
  have HR1 := Lib.hid (HR.out.below hB1 (by omega))
  have z0 := HZ1.out.c (j := 0) rfl
  have z1 := HZ1.out.c (j := 1) rfl
  have z2 := HZ1.out.c (j := 2) rfl
  have r0 := HR1.out.c (j := 0) rfl
  have r1 := HR1.out.c (j := 1) rfl
  have y0 := HZ1.out.frozen 0
  have y1 := HZ1.out.frozen 1
  have y2 := HZ1.out.frozen 2
  have x0 := HR1.out.frozen 0
  have x1 := HR1.out.frozen 1
  have hBw := nxt hB0 hB1 (by omega)
  clear hsz
  go_wp2
  obtain ⟨HZ2, HR2, hB2⟩ := filled_holds (m := w.heap.size) HZ1.out HR1.out (by omega) 0 0 (.slice none 0 0) 0 0
  have k0 := HZ2.c (j := 0) rfl
  have k1 := HZ2.c (j := 1) rfl
  have k2 := HZ2.c (j := 2) rfl
  have q0 := HR2.c (j := 0) rfl
  have q1 := HR2.c (j := 1) rfl
  change bodyPost _ _ _ _ _ (filled w1 (w.heap.size + 1) 0 0 (.slice none 0 0) 0 0)
  generalize filled w1 (w.heap.size + 1) 0 0 (.slice none 0 0) 0 0 = W2 at *
  refine bodyPost_ret (v := ansV 0 0 0 0 6) (by simp [results, Tryz.f37, go_sem, ansV, stV, retV, k0, k1, k2, q0, q1]) rfl ?_
  exact set_none _ _ _ (nxt hBw hB2 (Nat.le_refl _))
set_option maxHeartbeats 1000000 in
theorem fapply_arg (A : Option Addr) (c : Nat) (l : List Int) (kd a b : Int) (w : World) (hA : Ints w A l) (hlen : l.length ≤ 1000) (h1 : 10 ≤ kd) (h2 : kd ≤ 12) (h : b ≠ 0) :
    Calls Tryz.prog 37 #[stV 4 0 A l.length c, .int .i64 kd, .int .i64 a, .int .i64 b] w (SetPost 0 [] 0 0 2 w) := by
  have hB0 := boxed3_below w 4 0 A l.length c
  have H := isq_any 4 0 A c l _ (hA.below hB0) hlen
  have hq : isQ 4 0 = true := rfl
  rw [hq] at H
  have d1 : decide (kd < 10) = false := decide_eq_false (by omega)
  have d2 : decide (12 < kd) = false := decide_eq_false (by omega)
  have d3 : decide (kd > 12) = false := decide_eq_false (by omega)
  have d4 : (b != 0) = true := by rw [bne_iff_ne]; exact h
  have HZ := Lib.hid (boxed3_then w 4 0 A l.length c)
  have HR := Lib.hid (boxed3_ret w 4 0 A l.length c)
  have hsz := boxed3_size w 4 0 A l.length c
  clear hA hq
  unfold stV at *
  go_enter Tryz.func37, Tryz.ntmps37
  go_wp2_with fail
  refine H.mono ?_
  rintro e w1 ⟨rfl, hB1⟩
  generalize boxed3 w 4 0 A l.length c = W0 at *
  have HZ1 := Lib.hid (HZ.out.below hB1 (by omega))
  have HR1 := Lib.hid (HR.out.below hB1 (by omega))
  have z0 := HZ1.out.c (j := 0) rfl
  have z1 := HZ1.out.c (j := 1) rfl
  have z2 := HZ1.out.c (j := 2) rfl
  have r0 := HR1.out.c (j := 0) rfl
  have r1 := HR1.out.c (j := 1) rfl
  have y0 := HZ1.out.frozen 0
  have y1 := HZ1.out.frozen 1
  have y2 := HZ1.out.frozen 2
  have x0 := HR1.out.frozen 0
  have x1 := HR1.out.frozen 1
  have hBw := nxt hB0 hB1 (by omega)
  clear hsz
  go_wp2
  obtain ⟨HZ2, HR2, hB2⟩ := filled_holds (m := w.heap.size) HZ1.out HR1.out (by omega) 0 0 (.slice none 0 0) 0 0
  have k0 := HZ2.c (j := 0) rfl
  have k1 := HZ2.c (j := 1) rfl
  have k2 := HZ2.c (j := 2) rfl
  have q0 := HR2.c (j := 0) rfl
  have q1 := HR2.c (j := 1) rfl
  change bodyPost _ _ _ _ _ (filled w1 (w.heap.size + 1) 0 0 (.slice none 0 0) 0 0)
  generalize filled w1 (w.heap.size + 1) 0 0 (.slice none 0 0) 0 0 = W2 at *
  refine bodyPost_ret (v := ansV 0 0 0 0 2) (by simp [results, Tryz.f37, go_sem, ansV, stV, retV, k0, k1, k2, q0, q1]) rfl ?_
  exact set_none _ _ _ (nxt hBw hB2 (Nat.le_refl _))
set_option maxHeartbeats 1000000 in
theorem fapply_arg2 (A : Option Addr) (c : Nat) (l : List Int) (kd a b : Int) (w : World) (hA : Ints w A l) (hlen : l.length ≤ 1000) (h1 : 11 ≤ kd) (h2 : kd ≤ 12) (h : a ≠ 0) (hb : b = 0) :
    Calls Tryz.prog 37 #[stV 4 0 A l.length c, .int .i64 kd, .int .i64 a, .int .i64 b] w (SetPost 0 [] 0 0 2 w) := by
  have hB0 := boxed3_below w 4 0 A l.length c
  have H := isq_any 4 0 A c l _ (hA.below hB0) hlen
  have hq : isQ 4 0 = true := rfl
  rw [hq] at H
  have d1 : decide (kd < 10) = false := decide_eq_false (by omega)
  have d2 : decide (12 < kd) = false := decide_eq_false (by omega)
  have d3 : decide (kd > 12) = false := decide_eq_false (by omega)
  have d4 : (b != 0) = false := by rw [hb]; rfl
  have d5 : (kd != 10) = true := by rw [bne_iff_ne]; omega
  have d6 : (a != 0) = true := by rw [bne_iff_ne]; exact h
  clear hb
  have HZ := Lib.hid (boxed3_then w 4 0 A l.length c)
  have HR := Lib.hid (boxed3_ret w 4 0 A l.length c)
  have hsz := boxed3_size w 4 0 A l.length c
  clear hA hq
  unfold stV at *
  go_enter Tryz.func37, Tryz.ntmps37
  go_wp2_with fail
  refine H.mono ?_
  rintro e w1 ⟨rfl, hB1⟩
  generalize boxed3 w 4 0 A l.length c = W0 at *
  have HZ1 := Lib.hid (HZ.out.below hB1 (by omega))
  have HR1 := Lib.hid (HR.out.below hB1 (by omega))
  have z0 := HZ1.out.c (j := 0) rfl
  have z1 := HZ1.out.c (j := 1) rfl
  have z2 := HZ1.out.c (j := 2) rfl
  have r0 := HR1.out.c (j := 0) rfl
  have r1 := HR1.out.c (j := 1) rfl
  have y0 := HZ1.out.frozen 0
  have y1 := HZ1.out.frozen 1
  have y2 := HZ1.out.frozen 2
  have x0 := HR1.out.frozen 0
  have x1 := HR1.out.frozen 1
  have hBw := nxt hB0 hB1 (by omega)
  clear hsz
  go_wp2
  obtain ⟨HZ2, HR2, hB2⟩ := filled_holds (m := w.heap.size) HZ1.out HR1.out (by omega) 0 0 (.slice none 0 0) 0 0
  have k0 := HZ2.c (j := 0) rfl
  have k1 := HZ2.c (j := 1) rfl
  have k2 := HZ2.c (j := 2) rfl
  have q0 := HR2.c (j := 0) rfl
  have q1 := HR2.c (j := 1) rfl
  change bodyPost _ _ _ _ _ (filled w1 (w.heap.size + 1) 0 0 (.slice none 0 0) 0 0)
  generalize filled w1 (w.heap.size + 1) 0 0 (.slice none 0 0) 0 0 = W2 at *
  refine bodyPost_ret (v := ansV 0 0 0 0 2) (by simp [results, Tryz.f37, go_sem, ansV, stV, retV, k0, k1, k2, q0, q1]) rfl ?_
  exact set_none _ _ _ (nxt hBw hB2 (Nat.le_refl _))

theorem set3_drewq {W : World} {B b : Nat} {t : TypeId} {cs : Array Value} {u0 u1 u2 : Value} (h : Holds W B t cs) (hne : B ≠ b) : Holds (((W.setCell ⟨b, 0, none⟩ u0).setCell ⟨b, 1, none⟩ u1).setCell ⟨b, 2, none⟩ u2) B t cs :=
  set_other (set_other (set_other h _ _ hne) _ _ hne) _ _ hne
theorem set5_drewq {W : World} {B b d : Nat} {t : TypeId} {cs : Array Value} {u0 u1 u2 u3 u4 : Value} (h : Holds W B t cs) (hne : B ≠ b) (hnd : B ≠ d) : Holds (((((W.setCell ⟨b, 0, none⟩ u0).setCell ⟨b, 1, none⟩ u1).setCell ⟨b, 2, none⟩ u2).setCell ⟨d, 0, none⟩ u3).setCell ⟨d, 1, none⟩ u4) B t cs :=
  set_other (set_other (set_other (set_other (set_other h _ _ hne) _ _ hne) _ _ hne) _ _ hnd) _ _ hnd
theorem holds_ring {W W' : World} {k B : Nat} {t : TypeId} {cs : Array Value} (h : Holds W k t cs) (hg : W.grownBy W' (some B)) (hne : k ≠ B) : Holds W' k t cs := h.kept hg (fun e => hne (Option.some.inj e))
set_option maxHeartbeats 2000000 in
theorem fapply_with (A : Option Addr) (c : Nat) (l : List Int) (kd a : Int) (w : World) (hA : Ints w A l) (hlen : l.length ≤ 1000) (h1 : 10 ≤ kd) (h2 : kd ≤ 12) (h3 : (kd != 10) = false ∨ (kd != 10) = true ∧ (a != 0) = false)
    (H : ∀ W base B g, Ring base W B g l 0 l → Calls Tryz.prog 59 #[.pointer (some ⟨B, 0, none⟩), .int .i64 kd, .int .i64 a] W (fi_DoPost base B l kd a W)) :
    Calls Tryz.prog 37 #[stV 4 0 A l.length c, .int .i64 kd, .int .i64 a, .int .i64 0] w (SetPost 4 (fifoL l kd a) (fifoK l kd) (fifoN l kd) 0 w) := by
  have d1 : decide (kd < 10) = false := decide_eq_false (by omega)
  have d2 : decide (12 < kd) = false := decide_eq_false (by omega)
  have d3 : decide (kd > 12) = false := decide_eq_false (by omega)
  have hB0 := boxed3_below w 4 0 A l.length c
  have HC := isq_any 4 0 A c l _ (hA.below hB0) hlen
  rw [show isQ 4 0 = true from rfl] at HC
  have HW := Lib.hid (boxed3_state w 4 0 A l.length c)
  have HZ := Lib.hid (boxed3_then w 4 0 A l.length c)
  have HR := Lib.hid (boxed3_ret w 4 0 A l.length c)
  have hsz := boxed3_size w 4 0 A l.length c
  have HA := Lib.hid hA
  clear hA
  unfold fi_DoPost at H
  unfold stV retV at *
  generalize fifoL l kd a = m at *
  generalize fifoK l kd = hk at *
  generalize fifoN l kd = hv at *
  rcases h3 with h3 | ⟨h3, h4⟩ <;>
  · go_enter Tryz.func37, Tryz.ntmps37
    go_wp2_with fail
    refine HC.mono ?_
    rintro e w1 ⟨rfl, hB1⟩
    generalize boxed3 w 4 0 A l.length c = W0 at *
    have HW1 := Lib.hid (HW.out.below hB1 (by omega))
    have HZ1 := Lib.hid (HZ.out.below hB1 (by omega))
    have HR1 := Lib.hid (HR.out.below hB1 (by omega))
    have hBw := nxt hB0 hB1 (by omega)
    have hlt1 := HR1.out.lt
    have s2 := HW1.out.c (j := 2) rfl
    have HH := hold_any A c l w1 (HA.out.below hBw) hlen
    unfold HoldPost at HH
    clear hsz hB0 hB1
    go_wp2_with fail
    refine HH.mono ?_
    rintro e w2 ⟨B, g, rfl, hR2, hB2⟩
    have HD := H w2 w1.heap.size B g hR2
    have hown := hR2.own
    have HW2 := Lib.hid (HW1.out.below hB2 (by omega))
    have HZ2 := Lib.hid (HZ1.out.below hB2 (by omega))
    have HR2 := Lib.hid (HR1.out.below hB2 (by omega))
    have hBw2 := nxt hBw hB2 hBw.size
    clear hR2 hB2 HH s2
    go_wp2_with fail
    refine HD.mono ?_
    rintro e w3 ⟨rfl, ⟨g3, cs, p, hR3, hcs⟩, hB3⟩
    have HW3 := Lib.hid (HW2.out.below hB3 (by omega))
    have HZ3 := Lib.hid (HZ2.out.below hB3 (by omega))
    have HR3 := Lib.hid (HR2.out.below hB3 (by omega))
    have hs3 := hB3.size
    have hs2 := hBw2.size
    have hBw3 : Below w.heap.size w w3 := hBw2.trans (hB3.mono hBw.size)
    have hBlt := hR3.box.lt
    have hN := Holds.new w3 26 #[.int .i64 hk, .int .i64 hv]
    have hB4 := alloc1 w3 (.cells #[.int .i64 hk, .int .i64 hv] 26)
    have HL := list_any w1.heap.size B g3 cs p m _ ((hR3.below hB4 (Nat.le_refl _)).below ((Below.refl (w3.alloc (.cells #[.int .i64 hk, .int .i64 hv] 26)).heap.size _).drew) (Nat.le_refl _)) hcs
    have HW4 := HW3.out.below hB4 HW3.out.lt
    have HZ4 := Lib.hid (HZ3.out.below hB4 HZ3.out.lt)
    have HR4 := Lib.hid (HR3.out.below hB4 HR3.out.lt)
    have hBw4 := onto hBw3 hB4
    unfold ListPost at HL
    clear hR3 hB3 HD
    go_wp2_with fail
    refine wp_region_noPanic ?_
    generalize w3.alloc (.cells #[.int .i64 hk, .int .i64 hv] 26) = W4 at *
    refine wp_region_picked [(0, true), (1, true), (2, true), (5, true), (3, false), (4, true), (6, false), (7, false), (8, true)] (fun W' => Holds W' w.heap.size 24 #[.int .i64 4, .int .i64 0, .slice A l.length c] ∧ Holds W' w3.heap.size 26 #[.int .i64 hk, .int .i64 hv]) (by kernel_rfl) (by kernel_rfl) (fun _ _ _ _ _ h => h) ⟨HW4, hN⟩ ?_
    iterate 4
      refine Picked.take ?_ (by rfl) (by rfl) ?_ ?_
      rotate_left
      · rintro w' ⟨hw1, hw2⟩
        have c0 := hw1.c (j := 0) rfl
        have d0 := hw2.c (j := 0) rfl
        have d1 := hw2.c (j := 1) rfl
        go_simp
        try with_reducible rfl
      simp only [Act.put, List.getElem_toArray, List.getElem_cons_zero, List.getElem_cons_succ, List.setIfInBounds_toArray, List.set_cons_zero, List.set_cons_succ]
    refine Picked.call 60 #[.pointer (some ⟨B, 0, none⟩)] (by rfl) (by rfl) (by go_simp) ?_
    refine HL.mono ?_
    rintro e w5 ⟨A5, c5, rfl, ho5, hg5⟩
    have hg5' : W4.grownBy w5 (some B) := grown_drew1 hg5
    have HW5 := holds_ring HW4 hg5' (by omega)
    have HN5 := holds_ring hN hg5' (by omega)
    have HZ5 := holds_ring HZ4.out hg5' (by omega)
    have HR5 := holds_ring HR4.out hg5' (by omega)
    have hBw5 := below_ring hBw4 hg5' (by omega)
    have hs5 := hg5'.size
    refine ⟨_, rfl, ⟨HW5, HN5⟩, ?_⟩
    simp only [Act.put, List.getElem_toArray, List.getElem_cons_zero, List.getElem_cons_succ, List.setIfInBounds_toArray, List.set_cons_zero, List.set_cons_succ]
    refine Picked.take ?_ (by rfl) (by rfl) ?_ ?_
    rotate_left
    · rintro w' ⟨hw1, hw2⟩
      go_simp
      try with_reducible rfl
    simp only [Act.put, List.getElem_toArray, List.getElem_cons_zero, List.getElem_cons_succ, List.setIfInBounds_toArray, List.set_cons_zero, List.set_cons_succ]
    have z0 := HZ5.c (j := 0) rfl
    have z1 := HZ5.c (j := 1) rfl
    have z2 := HZ5.c (j := 2) rfl
    have r0 := HR5.c (j := 0) rfl
    have r1 := HR5.c (j := 1) rfl
    have y0 := HZ5.frozen 0
    have y1 := HZ5.frozen 1
    have y2 := HZ5.frozen 2
    have x0 := HR5.frozen 0
    have x1 := HR5.frozen 1
    have hw4 : w.heap.size + 3 ≤ w3.heap.size := by omega
    refine ⟨_, by rfl, by rfl, ?_⟩
    go_simp
    refine ⟨⟨set3_drewq HW5 (by omega), set3_drewq HN5 (by omega)⟩, ?_⟩
    refine ⟨_, by rfl, by rfl, ?_⟩
    go_simp
    refine ⟨⟨set5_drewq HW5 (by omega) (by omega), set5_drewq HN5 (by omega) (by omega)⟩, ?_⟩
    refine Picked.take (.int .i64 0) (by rfl) (by rfl) (fun w' _ => by go_simp) ?_
    simp only [Act.put, List.getElem_toArray, List.getElem_cons_zero, List.getElem_cons_succ, List.setIfInBounds_toArray, List.set_cons_zero, List.set_cons_succ]
    refine NoPanic.normal ?_
    obtain ⟨HZ6, HR6, hB6⟩ := filled_holds (m := w.heap.size) HZ5 HR5 (by omega) 4 0 (.slice A5 m.length c5) hk hv
    have hsW : w.heap.size + 3 ≤ W4.heap.size := by have := hB4.size; omega
    have ho6 := row_mid (W' := filled w5 (w.heap.size + 1) 4 0 (.slice A5 m.length c5) hk hv) ho5 (fun B hB _ => filled_far _ _ _ _ _ _ _ B (by have : W4.heap.size ≤ B := hB; omega))
    change Exit.then _ _ _ _ (filled w5 (w.heap.size + 1) 4 0 (.slice A5 m.length c5) hk hv)
    have k0 := HZ6.c (j := 0) rfl
    have k1 := HZ6.c (j := 1) rfl
    have k2 := HZ6.c (j := 2) rfl
    have q0 := HR6.c (j := 0) rfl
    have q1 := HR6.c (j := 1) rfl
    generalize filled w5 (w.heap.size + 1) 4 0 (.slice A5 m.length c5) hk hv = W6 at *
    go_wp2
    refine bodyPost_ret (v := .tuple #[stV 4 0 A5 m.length c5, retV hk hv, .int .i64 0]) (by simp [results, Tryz.f37, go_sem, stV, retV, k0, k1, k2, q0, q1]) rfl ?_
    exact ⟨A5, c5, rfl, row_more ho6 (by have : W4.drew.heap.size = W4.heap.size := rfl; omega), nxt hBw5 hB6 (Nat.le_refl _)⟩

theorem fapply_enq (A : Option Addr) (c : Nat) (l : List Int) (x : Int) (w : World) (hA : Ints w A l) (hlen : l.length ≤ 1000) :
    Calls Tryz.prog 37 #[stV 4 0 A l.length c, .int .i64 10, .int .i64 x, .int .i64 0] w (SetPost 4 (fifoL l 10 x) (fifoK l 10) (fifoN l 10) 0 w) :=
  fapply_with A c l 10 x w hA hlen (by omega) (by omega) (.inl rfl) (fun W base B g h => do_enq base B g l x W h hlen)
theorem fapply_deq (A : Option Addr) (c : Nat) (l : List Int) (w : World) (hA : Ints w A l) (hlen : l.length ≤ 1000) :
    Calls Tryz.prog 37 #[stV 4 0 A l.length c, .int .i64 11, .int .i64 0, .int .i64 0] w (SetPost 4 (fifoL l 11 0) (fifoK l 11) (fifoN l 11) 0 w) :=
  fapply_with A c l 11 0 w hA hlen (by omega) (by omega) (.inr ⟨rfl, rfl⟩) (fun W base B g h => by
    cases l with
    | nil => exact do_none base B g _ 0 W h (by simp)
    | cons y r => exact do_deq base B g _ 0 y r W h (by omega))
theorem fapply_len (A : Option Addr) (c : Nat) (l : List Int) (w : World) (hA : Ints w A l) (hlen : l.length ≤ 1000) :
    Calls Tryz.prog 37 #[stV 4 0 A l.length c, .int .i64 12, .int .i64 0, .int .i64 0] w (SetPost 4 (fifoL l 12 0) (fifoK l 12) (fifoN l 12) 0 w) :=
  fapply_with A c l 12 0 w hA hlen (by omega) (by omega) (.inr ⟨rfl, rfl⟩) (fun W base B g h => do_len base B g _ 0 l W h (by omega))
end Go.Proofs.YtmclpganipfadaaGreatDoor

namespace Go.Proofs.YtmclpganipfadaaGreatDoor
open Go.RowKit Go.Maps
set_option linter.unusedVariables false
set_option linter.unusedSimpArgs false

abbrev boxedA (w : World) (A : Option Addr) (k c : Nat) (B : Option Addr) (m d : Nat) (r n : Int) : World := ((w.alloc (.cells #[.int .i64 4, .int .i64 0, .slice A k c] 24)).alloc (.cells #[.int .i64 4, .int .i64 0, .slice B m d] 24)).alloc (.cells #[.int .i64 r, .int .i64 n] 26)
theorem boxedA_below (w : World) (A : Option Addr) (k c : Nat) (B : Option Addr) (m d : Nat) (r n : Int) : Below w.heap.size w (boxedA w A k c B m d r n) := ((alloc1 w _).alloc (by simp) _).alloc (by simp; omega) _
theorem boxedA_want (w : World) (A : Option Addr) (k c : Nat) (B : Option Addr) (m d : Nat) (r n : Int) : Holds (boxedA w A k c B m d r n) (w.heap.size + 1) 24 #[.int .i64 4, .int .i64 0, .slice B m d] := (new_second w _ _ _).alloc _
theorem boxedA_ret (w : World) (A : Option Addr) (k c : Nat) (B : Option Addr) (m d : Nat) (r n : Int) : Holds (boxedA w A k c B m d r n) (w.heap.size + 1 + 1) 26 #[.int .i64 r, .int .i64 n] := by
  have := Holds.new ((w.alloc (.cells #[.int .i64 4, .int .i64 0, .slice A k c] 24)).alloc (.cells #[.int .i64 4, .int .i64 0, .slice B m d] 24)) 26 #[.int .i64 r, .int .i64 n]
  rwa [World.size_alloc, World.size_alloc] at this

end Go.Proofs.YtmclpganipfadaaGreatDoor

namespace Go.Proofs.YtmclpganipfadaaGreatDoor
open Go.RowKit Go.Maps
set_option linter.unusedVariables false
set_option linter.unusedSimpArgs false

theorem ints_lit2 (w : World) (o : Obj) (l : List Int) (t : TypeId) (cs : Array Value) (h : cs = (l.map (Value.int .i64)).toArray) : Ints ((w.alloc o).alloc (.cells cs t)) (some ⟨w.heap.size + 1, 0, none⟩) l := by
  have := ints_lit (w.alloc o) l t cs h
  rwa [World.size_alloc] at this
theorem fi_same_lit (l : List Int) (k : Nat) (h1 : l.length = k) (h2 : l.length ≤ 1000) (A B : Option Addr) (c d : Nat) (W : World) (hA : Ints W A l) (hB : Ints W B l) :
    Calls Tryz.prog 30 #[.slice A k c, .slice B k d] W (Yes W) := by
  subst h1
  have := sameints_any A B c d l l W hA hB h2
  rwa [show (l == l) = true by simp] at this
end Go.Proofs.YtmclpganipfadaaGreatDoor

namespace Go.Proofs.YtmclpganipfadaaGreatDoor
open Go.RowKit Go.Maps
set_option linter.unusedVariables false
set_option linter.unusedSimpArgs false

theorem set3_drew1 {W : World} {B b : Nat} {t : TypeId} {cs : Array Value} {u0 u1 u2 : Value} (h : Holds W B t cs) (hne : B ≠ b) : Holds (((W.setCell ⟨b, 0, none⟩ u0).setCell ⟨b, 1, none⟩ u1).setCell ⟨b, 2, none⟩ u2).drew B t cs :=
  holds_drew1 (set3_drewq h hne)
theorem set5_drew1 {W : World} {B b d : Nat} {t : TypeId} {cs : Array Value} {u0 u1 u2 u3 u4 : Value} (h : Holds W B t cs) (hne : B ≠ b) (hnd : B ≠ d) : Holds (((((W.setCell ⟨b, 0, none⟩ u0).setCell ⟨b, 1, none⟩ u1).setCell ⟨b, 2, none⟩ u2).setCell ⟨d, 0, none⟩ u3).setCell ⟨d, 1, none⟩ u4).drew B t cs :=
  holds_drew1 (set5_drewq h hne hnd)
theorem cell3 {W : World} {b off d : Nat} {u0 u1 u2 v : Value} (h : W.cell? ⟨b, off, none⟩ = some v) (hne : b ≠ d) : (((W.setCell ⟨d, 0, none⟩ u0).setCell ⟨d, 1, none⟩ u1).setCell ⟨d, 2, none⟩ u2).drew.cell? ⟨b, off, none⟩ = some v := by
  have e : ∀ (X : World) k u, (X.setCell ⟨d, k, none⟩ u).cell? ⟨b, off, none⟩ = X.cell? ⟨b, off, none⟩ := fun X k u => World.cell?_of_block (Below.heap_setCell _ _ _ _ hne)
  have e2 : ∀ (X : World), X.drew.cell? ⟨b, off, none⟩ = X.cell? ⟨b, off, none⟩ := fun X => rfl
  rw [e2, e, e, e]; exact h
theorem cell5 {W : World} {b off d d' : Nat} {u0 u1 u2 u3 u4 v : Value} (h : W.cell? ⟨b, off, none⟩ = some v) (hne : b ≠ d) (hn2 : b ≠ d') : (((((W.setCell ⟨d, 0, none⟩ u0).setCell ⟨d, 1, none⟩ u1).setCell ⟨d, 2, none⟩ u2).setCell ⟨d', 0, none⟩ u3).setCell ⟨d', 1, none⟩ u4).drew.cell? ⟨b, off, none⟩ = some v := by
  have e : ∀ (X : World) k u, (X.setCell ⟨d', k, none⟩ u).cell? ⟨b, off, none⟩ = X.cell? ⟨b, off, none⟩ := fun X k u => World.cell?_of_block (Below.heap_setCell _ _ _ _ hn2)
  have e2 : ∀ (X : World), X.drew.cell? ⟨b, off, none⟩ = X.cell? ⟨b, off, none⟩ := fun X => rfl
  have := cell3 (u0 := u0) (u1 := u1) (u2 := u2) h hne
  rw [e2] at this
  rw [e2, e, e]; exact this
/-- A list of numbers that lies in a block of numbers. -/
def RowR (w : World) (A : Option Addr) (l : List Int) : Prop :=
  0 < l.length → ∃ b off cs fr, A = some ⟨b, off, none⟩ ∧ w.heap[b]? = some (.cells cs 3 fr) ∧ ∀ j, j < l.length → w.cell? ⟨b, off + j, none⟩ = some (.int .i64 (l[j]?.getD 0))
theorem RowR.ints {w : World} {A : Option Addr} {l : List Int} (h : RowR w A l) : Ints w A l := fun hl => by
  obtain ⟨b, off, cs, fr, e, hb, hc⟩ := h hl
  exact ⟨b, off, e, (Array.getElem?_eq_some_iff.1 hb).1, hc⟩
theorem rowR_own {W : World} {base : Nat} {A : Option Addr} {c n : Nat} {l : List Int} (hn : l.length = n) (h : W.ownsRow base 3 1 (.slice A n c) n (intsOf l)) : RowR W A l := fun hl => by
  have hI := own_ints hn h hl
  obtain ⟨b, off, e, hb, hc⟩ := hI
  rcases h.2 with ⟨e1, e2⟩ | ⟨g, cap, cur, e1, h2, h3, _⟩
  · omega
  · injection e1 with e1 e2 e3
    rw [e] at e1
    injection e1 with e1
    injection e1 with e1
    subst e1
    exact ⟨b, off, _, _, e, h3, hc⟩
/-- What the document's Apply tells: a list that is only read. -/
def ReadPost (t : Int) (m : List Int) (k r er : Int) (w : World) (e : Ending) (w' : World) : Prop :=
  ∃ A c, e = .returned (.tuple #[stV t 0 A m.length c, retV k r, .int .i64 er]) ∧ RowR w' A m ∧ Below w.heap.size w w'
theorem read_none (w w' : World) (er : Int) (hB : Below w.heap.size w w') : ReadPost 0 [] 0 0 er w (.returned (ansV 0 0 0 0 er)) w' := ⟨none, 0, rfl, fun h => absurd h (Nat.lt_irrefl 0), hB⟩
theorem deq_one {W : World} {g c : Nat} {l : List Int} (h : RowR W (some ⟨g, 0, none⟩) l) (hf : l.length ≤ c) (hc : c = 1) : RowR W (some ⟨g, 0, none⟩) (l.drop 1) := fun hl => by rw [List.length_drop] at hl; omega
theorem deq_more {W : World} {g c : Nat} {l : List Int} (h : RowR W (some ⟨g, 0, none⟩) l) (hf : l.length ≤ c) (hc : ¬ c = 1) : RowR W (some ⟨g, 1, none⟩) (l.drop 1) := fun hl => by
  rw [List.length_drop] at hl
  obtain ⟨b, off, cs, fr, e, hb, hcc⟩ := h (by omega)
  injection e with e
  injection e with e1 e2
  subst e1 e2
  refine ⟨g, 1, cs, fr, rfl, hb, fun j hj => ?_⟩
  rw [List.length_drop] at hj
  have h1 := hcc (1 + j) (by omega)
  rw [Nat.zero_add] at h1
  rw [List.getElem?_drop]
  exact h1
theorem deq_says {l : List Int} {y : Int} (h : l[0]? = some y) : ReadPost 4 (fifoL l 11 0) (fifoK l 11) (fifoN l 11) = ReadPost 4 (l.drop 1) 2 y := by
  cases l with
  | nil => cases h
  | cons z r => simp at h; subst h; rfl
theorem rfapply_state (t n : Int) (A : Option Addr) (c : Nat) (l : List Int) (kd a b : Int) (w : World) (h : t ≠ 4) :
    Calls Tryz.prog 28 #[stV t n A l.length c, .int .i64 kd, .int .i64 a, .int .i64 b] w (ReadPost 0 [] 0 0 12 w) := by
  have ht : (t != 4) = true := by rw [bne_iff_ne]; exact h
  clear h
  unfold stV
  go_enter Tryz.func28, Tryz.ntmps28
  go_wp2
  refine bodyPost_ret (v := ansV 0 0 0 0 12) (by simp [results, Tryz.f28, go_sem, ansV, stV, retV]) rfl ?_
  exact read_none _ _ _ (boxed3_below w _ _ _ _ _)
set_option maxHeartbeats 1000000 in
theorem rfapply_form (n : Int) (A : Option Addr) (c : Nat) (l : List Int) (kd a b : Int) (w : World) (hA : Ints w A l) (hlen : l.length ≤ 1000) (hn : n ≠ 0) :
    Calls Tryz.prog 28 #[stV 4 n A l.length c, .int .i64 kd, .int .i64 a, .int .i64 b] w (ReadPost 0 [] 0 0 12 w) := by
  have hB0 := boxed3_below w 4 n A l.length c
  have H := rcheck_any 4 n A c l _ (hA.below hB0) hlen
  have hq : checkE 4 n l = 5 := by rw [check_queue, if_neg hn]
  rw [hq] at H
  have HZ := Lib.hid (boxed3_then w 4 n A l.length c)
  have HR := Lib.hid (boxed3_ret w 4 n A l.length c)
  have hsz := boxed3_size w 4 n A l.length c
  clear hA hq
  unfold stV at *
  go_enter Tryz.func28, Tryz.ntmps28
  go_wp2_with fail
  refine H.mono ?_
  rintro e w1 ⟨rfl, hB1⟩
  generalize boxed3 w 4 n A l.length c = W0 at *
  have HZ1 := Lib.hid (HZ.out.below hB1 (by omega))
  have HR1 := Lib.hid (HR.out.below hB1 (by omega))
  have z0 := HZ1.out.c (j := 0) rfl
  have z1 := HZ1.out.c (j := 1) rfl
  have z2 := HZ1.out.c (j := 2) rfl
  have r0 := HR1.out.c (j := 0) rfl
  have r1 := HR1.out.c (j := 1) rfl
  have y0 := HZ1.out.frozen 0
  have y1 := HZ1.out.frozen 1
  have y2 := HZ1.out.frozen 2
  have x0 := HR1.out.frozen 0
  have x1 := HR1.out.frozen 1
  have hBw := nxt hB0 hB1 (by omega)
  clear hsz
  go_wp2
  obtain ⟨HZ2, HR2, hB2⟩ := filled_holds (m := w.heap.size) HZ1.out HR1.out (by omega) 0 0 (.slice none 0 0) 0 0
  have k0 := HZ2.c (j := 0) rfl
  have k1 := HZ2.c (j := 1) rfl
  have k2 := HZ2.c (j := 2) rfl
  have q0 := HR2.c (j := 0) rfl
  have q1 := HR2.c (j := 1) rfl
  change bodyPost _ _ _ _ _ (filled w1 (w.heap.size + 1) 0 0 (.slice none 0 0) 0 0)
  generalize filled w1 (w.heap.size + 1) 0 0 (.slice none 0 0) 0 0 = W2 at *
  refine bodyPost_ret (v := ansV 0 0 0 0 12) (by simp [results, Tryz.f28, go_sem, ansV, stV, retV, k0, k1, k2, q0, q1]) rfl ?_
  exact read_none _ _ _ (nxt hBw hB2 (Nat.le_refl _))
set_option maxHeartbeats 1000000 in
theorem rfapply_word (A : Option Addr) (c : Nat) (l : List Int) (kd a b : Int) (w : World) (hA : Ints w A l) (hlen : l.length ≤ 1000) (h : kd < 10) :
    Calls Tryz.prog 28 #[stV 4 0 A l.length c, .int .i64 kd, .int .i64 a, .int .i64 b] w (ReadPost 0 [] 0 0 6 w) := by
  have hB0 := boxed3_below w 4 0 A l.length c
  have H := rcheck_any 4 0 A c l _ (hA.below hB0) hlen
  have hq : checkE 4 0 l = 0 := by rw [check_queue]; rfl
  rw [hq] at H
  have d1 : decide (kd < 10) = true := decide_eq_true h
  have HZ := Lib.hid (boxed3_then w 4 0 A l.length c)
  have HR := Lib.hid (boxed3_ret w 4 0 A l.length c)
  have hsz := boxed3_size w 4 0 A l.length c
  clear hA hq
  unfold stV at *
  go_enter Tryz.func28, Tryz.ntmps28
  go_wp2_with fail
  refine H.mono ?_
  rintro e w1 ⟨rfl, hB1⟩
  generalize boxed3 w 4 0 A l.length c = W0 at *
  have HZ1 := Lib.hid (HZ.out.below hB1 (by omega))
  have HR1 := Lib.hid (HR.out.below hB1 (by omega))
  have z0 := HZ1.out.c (j := 0) rfl
  have z1 := HZ1.out.c (j := 1) rfl
  have z2 := HZ1.out.c (j := 2) rfl
  have r0 := HR1.out.c (j := 0) rfl
  have r1 := HR1.out.c (j := 1) rfl
  have y0 := HZ1.out.frozen 0
  have y1 := HZ1.out.frozen 1
  have y2 := HZ1.out.frozen 2
  have x0 := HR1.out.frozen 0
  have x1 := HR1.out.frozen 1
  have hBw := nxt hB0 hB1 (by omega)
  clear hsz
  go_wp2
  obtain ⟨HZ2, HR2, hB2⟩ := filled_holds (m := w.heap.size) HZ1.out HR1.out (by omega) 0 0 (.slice none 0 0) 0 0
  have k0 := HZ2.c (j := 0) rfl
  have k1 := HZ2.c (j := 1) rfl
  have k2 := HZ2.c (j := 2) rfl
  have q0 := HR2.c (j := 0) rfl
  have q1 := HR2.c (j := 1) rfl
  change bodyPost _ _ _ _ _ (filled w1 (w.heap.size + 1) 0 0 (.slice none 0 0) 0 0)
  generalize filled w1 (w.heap.size + 1) 0 0 (.slice none 0 0) 0 0 = W2 at *
  refine bodyPost_ret (v := ansV 0 0 0 0 6) (by simp [results, Tryz.f28, go_sem, ansV, stV, retV, k0, k1, k2, q0, q1]) rfl ?_
  exact read_none _ _ _ (nxt hBw hB2 (Nat.le_refl _))
set_option maxHeartbeats 1000000 in
theorem rfapply_word2 (A : Option Addr) (c : Nat) (l : List Int) (kd a b : Int) (w : World) (hA : Ints w A l) (hlen : l.length ≤ 1000) (h : 12 < kd) :
    Calls Tryz.prog 28 #[stV 4 0 A l.length c, .int .i64 kd, .int .i64 a, .int .i64 b] w (ReadPost 0 [] 0 0 6 w) := by
  have hB0 := boxed3_below w 4 0 A l.length c
  have H := rcheck_any 4 0 A c l _ (hA.below hB0) hlen
  have hq : checkE 4 0 l = 0 := by rw [check_queue]; rfl
  rw [hq] at H
  have d1 : decide (kd < 10) = false := decide_eq_false (by omega)
  have d2 : decide (12 < kd) = true := decide_eq_true h
  have d3 : decide (kd > 12) = true := decide_eq_true h
  have HZ := Lib.hid (boxed3_then w 4 0 A l.length c)
  have HR := Lib.hid (boxed3_ret w 4 0 A l.length c)
  have hsz := boxed3_size w 4 0 A l.length c
  clear hA hq
  unfold stV at *
  go_enter Tryz.func28, Tryz.ntmps28
  go_wp2_with fail
  refine H.mono ?_
  rintro e w1 ⟨rfl, hB1⟩
  generalize boxed3 w 4 0 A l.length c = W0 at *
  have HZ1 := Lib.hid (HZ.out.below hB1 (by omega))
  have HR1 := Lib.hid (HR.out.below hB1 (by omega))
  have z0 := HZ1.out.c (j := 0) rfl
  have z1 := HZ1.out.c (j := 1) rfl
  have z2 := HZ1.out.c (j := 2) rfl
  have r0 := HR1.out.c (j := 0) rfl
  have r1 := HR1.out.c (j := 1) rfl
  have y0 := HZ1.out.frozen 0
  have y1 := HZ1.out.frozen 1
  have y2 := HZ1.out.frozen 2
  have x0 := HR1.out.frozen 0
  have x1 := HR1.out.frozen 1
  have hBw := nxt hB0 hB1 (by omega)
  clear hsz
  go_wp2
  obtain ⟨HZ2, HR2, hB2⟩ := filled_holds (m := w.heap.size) HZ1.out HR1.out (by omega) 0 0 (.slice none 0 0) 0 0
  have k0 := HZ2.c (j := 0) rfl
  have k1 := HZ2.c (j := 1) rfl
  have k2 := HZ2.c (j := 2) rfl
  have q0 := HR2.c (j := 0) rfl
  have q1 := HR2.c (j := 1) rfl
  change bodyPost _ _ _ _ _ (filled w1 (w.heap.size + 1) 0 0 (.slice none 0 0) 0 0)
  generalize filled w1 (w.heap.size + 1) 0 0 (.slice none 0 0) 0 0 = W2 at *
  refine bodyPost_ret (v := ansV 0 0 0 0 6) (by simp [results, Tryz.f28, go_sem, ansV, stV, retV, k0, k1, k2, q0, q1]) rfl ?_
  exact read_none _ _ _ (nxt hBw hB2 (Nat.le_refl _))
set_option maxHeartbeats 1000000 in
theorem rfapply_arg (A : Option Addr) (c : Nat) (l : List Int) (kd a b : Int) (w : World) (hA : Ints w A l) (hlen : l.length ≤ 1000) (h1 : 10 ≤ kd) (h2 : kd ≤ 12) (h : b ≠ 0) :
    Calls Tryz.prog 28 #[stV 4 0 A l.length c, .int .i64 kd, .int .i64 a, .int .i64 b] w (ReadPost 0 [] 0 0 2 w) := by
  have hB0 := boxed3_below w 4 0 A l.length c
  have H := rcheck_any 4 0 A c l _ (hA.below hB0) hlen
  have hq : checkE 4 0 l = 0 := by rw [check_queue]; rfl
  rw [hq] at H
  have d1 : decide (kd < 10) = false := decide_eq_false (by omega)
  have d2 : decide (12 < kd) = false := decide_eq_false (by omega)
  have d3 : decide (kd > 12) = false := decide_eq_false (by omega)
  have d4 : (b != 0) = true := by rw [bne_iff_ne]; exact h
  have HZ := Lib.hid (boxed3_then w 4 0 A l.length c)
  have HR := Lib.hid (boxed3_ret w 4 0 A l.length c)
  have hsz := boxed3_size w 4 0 A l.length c
  clear hA hq
  unfold stV at *
  go_enter Tryz.func28, Tryz.ntmps28
  go_wp2_with fail
  refine H.mono ?_
  rintro e w1 ⟨rfl, hB1⟩
  generalize boxed3 w 4 0 A l.length c = W0 at *
  have HZ1 := Lib.hid (HZ.out.below hB1 (by omega))
  have HR1 := Lib.hid (HR.out.below hB1 (by omega))
  have z0 := HZ1.out.c (j := 0) rfl
  have z1 := HZ1.out.c (j := 1) rfl
  have z2 := HZ1.out.c (j := 2) rfl
  have r0 := HR1.out.c (j := 0) rfl
  have r1 := HR1.out.c (j := 1) rfl
  have y0 := HZ1.out.frozen 0
  have y1 := HZ1.out.frozen 1
  have y2 := HZ1.out.frozen 2
  have x0 := HR1.out.frozen 0
  have x1 := HR1.out.frozen 1
  have hBw := nxt hB0 hB1 (by omega)
  clear hsz
  go_wp2
  obtain ⟨HZ2, HR2, hB2⟩ := filled_holds (m := w.heap.size) HZ1.out HR1.out (by omega) 0 0 (.slice none 0 0) 0 0
  have k0 := HZ2.c (j := 0) rfl
  have k1 := HZ2.c (j := 1) rfl
  have k2 := HZ2.c (j := 2) rfl
  have q0 := HR2.c (j := 0) rfl
  have q1 := HR2.c (j := 1) rfl
  change bodyPost _ _ _ _ _ (filled w1 (w.heap.size + 1) 0 0 (.slice none 0 0) 0 0)
  generalize filled w1 (w.heap.size + 1) 0 0 (.slice none 0 0) 0 0 = W2 at *
  refine bodyPost_ret (v := ansV 0 0 0 0 2) (by simp [results, Tryz.f28, go_sem, ansV, stV, retV, k0, k1, k2, q0, q1]) rfl ?_
  exact read_none _ _ _ (nxt hBw hB2 (Nat.le_refl _))
set_option maxHeartbeats 1000000 in
theorem rfapply_arg2 (A : Option Addr) (c : Nat) (l : List Int) (kd a b : Int) (w : World) (hA : Ints w A l) (hlen : l.length ≤ 1000) (h1 : 11 ≤ kd) (h2 : kd ≤ 12) (h : a ≠ 0) (hb : b = 0) :
    Calls Tryz.prog 28 #[stV 4 0 A l.length c, .int .i64 kd, .int .i64 a, .int .i64 b] w (ReadPost 0 [] 0 0 2 w) := by
  have hB0 := boxed3_below w 4 0 A l.length c
  have H := rcheck_any 4 0 A c l _ (hA.below hB0) hlen
  have hq : checkE 4 0 l = 0 := by rw [check_queue]; rfl
  rw [hq] at H
  have d1 : decide (kd < 10) = false := decide_eq_false (by omega)
  have d2 : decide (12 < kd) = false := decide_eq_false (by omega)
  have d3 : decide (kd > 12) = false := decide_eq_false (by omega)
  have d4 : (b != 0) = false := by rw [hb]; rfl
  have d5 : (kd != 10) = true := by rw [bne_iff_ne]; omega
  have d6 : (a != 0) = true := by rw [bne_iff_ne]; exact h
  clear hb
  have HZ := Lib.hid (boxed3_then w 4 0 A l.length c)
  have HR := Lib.hid (boxed3_ret w 4 0 A l.length c)
  have hsz := boxed3_size w 4 0 A l.length c
  clear hA hq
  unfold stV at *
  go_enter Tryz.func28, Tryz.ntmps28
  go_wp2_with fail
  refine H.mono ?_
  rintro e w1 ⟨rfl, hB1⟩
  generalize boxed3 w 4 0 A l.length c = W0 at *
  have HZ1 := Lib.hid (HZ.out.below hB1 (by omega))
  have HR1 := Lib.hid (HR.out.below hB1 (by omega))
  have z0 := HZ1.out.c (j := 0) rfl
  have z1 := HZ1.out.c (j := 1) rfl
  have z2 := HZ1.out.c (j := 2) rfl
  have r0 := HR1.out.c (j := 0) rfl
  have r1 := HR1.out.c (j := 1) rfl
  have y0 := HZ1.out.frozen 0
  have y1 := HZ1.out.frozen 1
  have y2 := HZ1.out.frozen 2
  have x0 := HR1.out.frozen 0
  have x1 := HR1.out.frozen 1
  have hBw := nxt hB0 hB1 (by omega)
  clear hsz
  go_wp2
  obtain ⟨HZ2, HR2, hB2⟩ := filled_holds (m := w.heap.size) HZ1.out HR1.out (by omega) 0 0 (.slice none 0 0) 0 0
  have k0 := HZ2.c (j := 0) rfl
  have k1 := HZ2.c (j := 1) rfl
  have k2 := HZ2.c (j := 2) rfl
  have q0 := HR2.c (j := 0) rfl
  have q1 := HR2.c (j := 1) rfl
  change bodyPost _ _ _ _ _ (filled w1 (w.heap.size + 1) 0 0 (.slice none 0 0) 0 0)
  generalize filled w1 (w.heap.size + 1) 0 0 (.slice none 0 0) 0 0 = W2 at *
  refine bodyPost_ret (v := ansV 0 0 0 0 2) (by simp [results, Tryz.f28, go_sem, ansV, stV, retV, k0, k1, k2, q0, q1]) rfl ?_
  exact read_none _ _ _ (nxt hBw hB2 (Nat.le_refl _))
set_option maxHeartbeats 2000000 in
theorem rfapply_enq (A : Option Addr) (c : Nat) (l : List Int) (x : Int) (w : World) (hA : Ints w A l) (hlen : l.length ≤ 800) :
    Calls Tryz.prog 28 #[stV 4 0 A l.length c, .int .i64 10, .int .i64 x, .int .i64 0] w (ReadPost 4 (fifoL l 10 x) (fifoK l 10) (fifoN l 10) 0 w) := by
  have hB0 := boxed3_below w 4 0 A l.length c
  have HC := rcheck_any 4 0 A c l _ (hA.below hB0) (by omega)
  rw [show checkE 4 0 l = 0 by rw [check_queue]; rfl] at HC
  have HA := Lib.hid hA
  have HW := Lib.hid (boxed3_state w 4 0 A l.length c)
  have HZ := Lib.hid (boxed3_then w 4 0 A l.length c)
  have HR := Lib.hid (boxed3_ret w 4 0 A l.length c)
  have hsz := boxed3_size w 4 0 A l.length c
  clear hA
  unfold stV at *
  go_enter Tryz.func28, Tryz.ntmps28
  go_wp2_with fail
  refine HC.mono ?_
  rintro e w1 ⟨rfl, hB1⟩
  generalize boxed3 w 4 0 A l.length c = W0 at *
  have HW1 := Lib.hid (HW.out.below hB1 (by omega))
  have HZ1 := Lib.hid (HZ.out.below hB1 (by omega))
  have HR1 := Lib.hid (HR.out.below hB1 (by omega))
  have hBw := nxt hB0 hB1 (by omega)
  have hlt1 := HR1.out.lt
  have s2 := HW1.out.c (j := 2) rfl
  have HROW := Lib.hid (World.ownsRow_lit (base := w1.heap.size) (e := 3) (size := 1) w1 #[] 0 (Nat.le_refl _) (Nat.zero_le _) rfl)
  have HA2 := Lib.hid ((HA.out.below hBw).below (alloc1 w1 (.cells #[] 3)))
  have hs2a : w1.heap.size ≤ (w1.alloc (.cells #[] 3)).heap.size := by simp
  have c2x : (w1.alloc (.cells #[] 3)).cell? ⟨w.heap.size, 2, none⟩ = some (.slice A l.length c) := (HW1.out.alloc _).c (j := 2) rfl
  clear hsz hB0 hB1
  go_upto_region 8 with (at_builtin; refine wpList_app _ rfl _ _ 22 rfl w1.heap.size Tryz.underlying22 _ _ _ rfl HROW.out A l.length c l rfl rfl HA2.out (by omega) (by omega) hs2a ?_; intro v3 w3 hown3 hg3 hn3; obtain ⟨g3, c3, rfl⟩ := form4 hown3 hn3; rw [Nat.zero_add, List.nil_append] at hown3; have hB3 : Below w1.heap.size w1 w3 := (alloc1 w1 _).trans (grown_below hg3 HROW.out hs2a); have HO3 := Lib.hid hown3; clear hg3 hn3 c2x s2 hown3)
  have hs3 := hB3.size
  have hBw3 := nxt hBw hB3 hBw.size
  have hB4 := nxt hBw3 (alloc1 w3 (.cells #[.int .i64 4, .int .i64 0, .slice (some ⟨g3, 0, none⟩) l.length c3] 24)) hBw3.size
  have hB14 := nxt hB3 (alloc1 w3 (.cells #[.int .i64 4, .int .i64 0, .slice (some ⟨g3, 0, none⟩) l.length c3] 24)) hB3.size
  have HZ4 := Lib.hid ((HZ1.out.below hB3 (by omega)).alloc (.cells #[.int .i64 4, .int .i64 0, .slice (some ⟨g3, 0, none⟩) l.length c3] 24))
  have HR4 := Lib.hid ((HR1.out.below hB3 (by omega)).alloc (.cells #[.int .i64 4, .int .i64 0, .slice (some ⟨g3, 0, none⟩) l.length c3] 24))
  have HW4 := Lib.hid ((HW1.out.below hB3 (by omega)).alloc (.cells #[.int .i64 4, .int .i64 0, .slice (some ⟨g3, 0, none⟩) l.length c3] 24))
  have HO4 := Lib.hid (Holds.new w3 24 #[.int .i64 4, .int .i64 0, .slice (some ⟨g3, 0, none⟩) l.length c3])
  have HV4 := Lib.hid (row_below HO3.out (alloc1 w3 (.cells #[.int .i64 4, .int .i64 0, .slice (some ⟨g3, 0, none⟩) l.length c3] 24)))
  have hs4 : w3.heap.size < (w3.alloc (.cells #[.int .i64 4, .int .i64 0, .slice (some ⟨g3, 0, none⟩) l.length c3] 24)).heap.size := by simp
  clear HROW HA2 HO3
  generalize w3.alloc (.cells #[.int .i64 4, .int .i64 0, .slice (some ⟨g3, 0, none⟩) l.length c3] 24) = W4 at *
  have hsB : w.heap.size + 3 ≤ w3.heap.size := by omega
  have o2 := HO4.out.c (j := 2) rfl
  have hl2 : w1.heap.size ≤ (W4.alloc (.cells #[.int .i64 x] 3)).heap.size := by simp; omega
  have o2x : (W4.alloc (.cells #[.int .i64 x] 3)).cell? ⟨w3.heap.size, 2, none⟩ = some (.slice (some ⟨g3, 0, none⟩) l.length c3) := (HO4.out.alloc _).c (j := 2) rfl
  have HZx := Lib.hid (HZ4.out.alloc (.cells #[.int .i64 x] 3))
  have HRx := Lib.hid (HR4.out.alloc (.cells #[.int .i64 x] 3))
  have HOx := Lib.hid (HO4.out.alloc (.cells #[.int .i64 x] 3))
  have hVx := row_below HV4.out (alloc1 W4 (.cells #[.int .i64 x] 3))
  have HVx := Lib.hid hVx
  have HLx := Lib.hid (ints_lit W4 [x] 3 #[.int .i64 x] rfl)
  clear hVx
  go_upto_region 11 with (at_builtin; refine wpList_app _ rfl _ _ 22 rfl w1.heap.size Tryz.underlying22 _ _ _ rfl HVx.out (some ⟨W4.heap.size, 0, none⟩) 1 1 [x] rfl rfl HLx.out (by omega) (by omega) hl2 ?_; intro v5 w5 hown5 hg5 hn5; obtain ⟨g5, c5, rfl⟩ := form4 hown5 hn5; have HO5 := HOx.out.kept hg5 (HOx.out.not_row HVx.out (by decide)); have e2 := HO5.c (j := 2) rfl; have f2 := HO5.frozen 2; have HW5 := Lib.hid hown5; have HG5 := Lib.hid hg5; have HP5 := Lib.hid HO5; clear hown5 hg5 hn5 HO5)
  have hZ5 := HZx.out.kept HG5.out (HZx.out.not_row HVx.out (by decide))
  have hR5 := HRx.out.kept HG5.out (HRx.out.not_row HVx.out (by decide))
  obtain ⟨ho5, hB5⟩ := row_put (w := w1) HV4.out hB14 HW5.out HG5.out
  have HO6 := Lib.hid (HP5.out.set 2 (.slice (some ⟨g5, 0, none⟩) (l.length + 1) c5))
  have HZ5 := set_other (b := w3.heap.size) hZ5 2 (.slice (some ⟨g5, 0, none⟩) (l.length + 1) c5) (by omega)
  have HR5 := set_other (b := w3.heap.size) hR5 2 (.slice (some ⟨g5, 0, none⟩) (l.length + 1) c5) (by omega)
  have HV5 := Lib.hid (row_set ho5 w3.heap.size 2 (.slice (some ⟨g5, 0, none⟩) (l.length + 1) c5) (fun g e h => HP5.out.not_row HW5.out (by decide) (by rw [e, h])))
  have hBw5 := nxt hBw (hB5.setCell (p := ⟨w3.heap.size, 2, none⟩) hs3 (.slice (some ⟨g5, 0, none⟩) (l.length + 1) c5)) hBw.size
  clear e2 f2 o2 o2x hZ5 hR5 ho5 hB5
  generalize w5.setCell ⟨w3.heap.size, 2, none⟩ (.slice (some ⟨g5, 0, none⟩) (l.length + 1) c5) = W5 at *
  have e0 := HO6.out.c (j := 0) rfl
  have e1 := HO6.out.c (j := 1) rfl
  have e2 := HO6.out.c (j := 2) rfl
  have z0 := HZ5.c (j := 0) rfl
  have z1 := HZ5.c (j := 1) rfl
  have z2 := HZ5.c (j := 2) rfl
  have r0 := HR5.c (j := 0) rfl
  have r1 := HR5.c (j := 1) rfl
  have y0 := HZ5.frozen 0
  have y1 := HZ5.frozen 1
  have y2 := HZ5.frozen 2
  have x0 := HR5.frozen 0
  have x1 := HR5.frozen 1
  go_wp2
  obtain ⟨HZ6, HR6, hB6⟩ := filled_holds (m := w.heap.size) HZ5 HR5 (by omega) 4 0 (.slice (some ⟨g5, 0, none⟩) (l.length + 1) c5) 0 0
  change bodyPost _ _ _ _ _ (filled W5 (w.heap.size + 1) 4 0 (.slice (some ⟨g5, 0, none⟩) (l.length + 1) c5) 0 0)
  have k0 := HZ6.c (j := 0) rfl
  have k1 := HZ6.c (j := 1) rfl
  have k2 := HZ6.c (j := 2) rfl
  have q0 := HR6.c (j := 0) rfl
  have q1 := HR6.c (j := 1) rfl
  have HI6 := Lib.hid (rowR_own (by simp) (row_mid (W' := filled W5 (w.heap.size + 1) 4 0 (.slice (some ⟨g5, 0, none⟩) (l.length + 1) c5) 0 0) HV5.out (fun B hB _ => filled_far _ _ _ _ _ _ _ B (by omega))))
  generalize filled W5 (w.heap.size + 1) 4 0 (.slice (some ⟨g5, 0, none⟩) (l.length + 1) c5) 0 0 = W6 at *
  refine bodyPost_ret (v := .tuple #[.agg #[.int .i64 4, .int .i64 0, (.slice (some ⟨g5, 0, none⟩) (l.length + 1) c5)], .agg #[.int .i64 0, .int .i64 0], .int .i64 0]) (by simp [results, Tryz.f28, go_sem, k0, k1, k2, q0, q1]) rfl ?_
  exact ⟨some ⟨g5, 0, none⟩, c5, by simp [fifoL, fifoK, fifoN, stV, retV], HI6.out, nxt hBw5 hB6 (Nat.le_refl _)⟩
set_option maxHeartbeats 2000000 in
theorem rfapply_none (A : Option Addr) (c : Nat) (w : World) (hA : Ints w A []) :
    Calls Tryz.prog 28 #[stV 4 0 A 0 c, .int .i64 11, .int .i64 0, .int .i64 0] w (ReadPost 4 (fifoL [] 11 0) (fifoK [] 11) (fifoN [] 11) 0 w) := by
  have hB0 := boxed3_below w 4 0 A 0 c
  have HC := rcheck_any 4 0 A c [] _ (hA.below hB0) (by simp)
  rw [show checkE 4 0 [] = 0 by rw [check_queue]; rfl] at HC
  have HA := Lib.hid hA
  have HW := Lib.hid (boxed3_state w 4 0 A 0 c)
  have HZ := Lib.hid (boxed3_then w 4 0 A 0 c)
  have HR := Lib.hid (boxed3_ret w 4 0 A 0 c)
  have hsz := boxed3_size w 4 0 A 0 c
  clear hA
  unfold stV at *
  go_enter Tryz.func28, Tryz.ntmps28
  go_wp2_with fail
  refine HC.mono ?_
  rintro e w1 ⟨rfl, hB1⟩
  generalize boxed3 w 4 0 A 0 c = W0 at *
  have HW1 := Lib.hid (HW.out.below hB1 (by omega))
  have HZ1 := Lib.hid (HZ.out.below hB1 (by omega))
  have HR1 := Lib.hid (HR.out.below hB1 (by omega))
  have hBw := nxt hB0 hB1 (by omega)
  have hlt1 := HR1.out.lt
  have s2 := HW1.out.c (j := 2) rfl
  have HROW := Lib.hid (World.ownsRow_lit (base := w1.heap.size) (e := 3) (size := 1) w1 #[] 0 (Nat.le_refl _) (Nat.zero_le _) rfl)
  have HA2 := Lib.hid ((HA.out.below hBw).below (alloc1 w1 (.cells #[] 3)))
  have hs2a : w1.heap.size ≤ (w1.alloc (.cells #[] 3)).heap.size := by simp
  have c2x : (w1.alloc (.cells #[] 3)).cell? ⟨w.heap.size, 2, none⟩ = some (.slice A 0 c) := (HW1.out.alloc _).c (j := 2) rfl
  clear hsz hB0 hB1
  go_upto_region 8 with (at_builtin; refine wpList_app _ rfl _ _ 22 rfl w1.heap.size Tryz.underlying22 _ _ _ rfl HROW.out A 0 c [] rfl rfl HA2.out (by omega) (by omega) hs2a ?_; intro v3 w3 hown3 hg3 hn3; obtain ⟨g3, c3, rfl⟩ := form4 hown3 hn3; rw [Nat.zero_add, List.nil_append] at hown3; have hB3 : Below w1.heap.size w1 w3 := (alloc1 w1 _).trans (grown_below hg3 HROW.out hs2a); have HO3 := Lib.hid hown3; clear hg3 hn3 c2x s2 hown3)
  have hs3 := hB3.size
  have hBw3 := nxt hBw hB3 hBw.size
  have hB4 := nxt hBw3 (alloc1 w3 (.cells #[.int .i64 4, .int .i64 0, .slice (some ⟨g3, 0, none⟩) 0 c3] 24)) hBw3.size
  have hB14 := nxt hB3 (alloc1 w3 (.cells #[.int .i64 4, .int .i64 0, .slice (some ⟨g3, 0, none⟩) 0 c3] 24)) hB3.size
  have HZ4 := Lib.hid ((HZ1.out.below hB3 (by omega)).alloc (.cells #[.int .i64 4, .int .i64 0, .slice (some ⟨g3, 0, none⟩) 0 c3] 24))
  have HR4 := Lib.hid ((HR1.out.below hB3 (by omega)).alloc (.cells #[.int .i64 4, .int .i64 0, .slice (some ⟨g3, 0, none⟩) 0 c3] 24))
  have HW4 := Lib.hid ((HW1.out.below hB3 (by omega)).alloc (.cells #[.int .i64 4, .int .i64 0, .slice (some ⟨g3, 0, none⟩) 0 c3] 24))
  have HO4 := Lib.hid (Holds.new w3 24 #[.int .i64 4, .int .i64 0, .slice (some ⟨g3, 0, none⟩) 0 c3])
  have HV4 := Lib.hid (row_below HO3.out (alloc1 w3 (.cells #[.int .i64 4, .int .i64 0, .slice (some ⟨g3, 0, none⟩) 0 c3] 24)))
  have hs4 : w3.heap.size < (w3.alloc (.cells #[.int .i64 4, .int .i64 0, .slice (some ⟨g3, 0, none⟩) 0 c3] 24)).heap.size := by simp
  clear HROW HA2 HO3
  generalize w3.alloc (.cells #[.int .i64 4, .int .i64 0, .slice (some ⟨g3, 0, none⟩) 0 c3] 24) = W4 at *
  have hsB : w.heap.size + 3 ≤ w3.heap.size := by omega
  have e0 := HO4.out.c (j := 0) rfl
  have e1 := HO4.out.c (j := 1) rfl
  have e2 := HO4.out.c (j := 2) rfl
  have s2 := HW4.out.c (j := 2) rfl
  have HZ5 := HZ4.out
  have HR5 := HR4.out
  have z0 := HZ5.c (j := 0) rfl
  have z1 := HZ5.c (j := 1) rfl
  have z2 := HZ5.c (j := 2) rfl
  have r0 := HR5.c (j := 0) rfl
  have r1 := HR5.c (j := 1) rfl
  have y0 := HZ5.frozen 0
  have y1 := HZ5.frozen 1
  have y2 := HZ5.frozen 2
  have x0 := HR5.frozen 0
  have x1 := HR5.frozen 1
  go_wp2
  obtain ⟨HZ6, HR6, hB6⟩ := filled_holds (m := w.heap.size) HZ5 HR5 (by omega) 4 0 (.slice (some ⟨g3, 0, none⟩) 0 c3) 1 0
  change bodyPost _ _ _ _ _ (filled W4 (w.heap.size + 1) 4 0 (.slice (some ⟨g3, 0, none⟩) 0 c3) 1 0)
  have k0 := HZ6.c (j := 0) rfl
  have k1 := HZ6.c (j := 1) rfl
  have k2 := HZ6.c (j := 2) rfl
  have q0 := HR6.c (j := 0) rfl
  have q1 := HR6.c (j := 1) rfl
  have HI6 := Lib.hid (rowR_own rfl (row_mid (W' := filled W4 (w.heap.size + 1) 4 0 (.slice (some ⟨g3, 0, none⟩) 0 c3) 1 0) HV4.out (fun B hB _ => filled_far _ _ _ _ _ _ _ B (by omega))))
  generalize filled W4 (w.heap.size + 1) 4 0 (.slice (some ⟨g3, 0, none⟩) 0 c3) 1 0 = W6 at *
  refine bodyPost_ret (v := .tuple #[.agg #[.int .i64 4, .int .i64 0, (.slice (some ⟨g3, 0, none⟩) 0 c3)], .agg #[.int .i64 1, .int .i64 0], .int .i64 0]) (by simp [results, Tryz.f28, go_sem, k0, k1, k2, q0, q1]) rfl ?_
  exact ⟨some ⟨g3, 0, none⟩, c3, by simp [fifoL, fifoK, fifoN, stV, retV], HI6.out, nxt hB4 hB6 (Nat.le_refl _)⟩
set_option maxHeartbeats 2000000 in
theorem rfapply_len (A : Option Addr) (c : Nat) (l : List Int) (w : World) (hA : Ints w A l) (hlen : l.length ≤ 800) :
    Calls Tryz.prog 28 #[stV 4 0 A l.length c, .int .i64 12, .int .i64 0, .int .i64 0] w (ReadPost 4 (fifoL l 12 0) (fifoK l 12) (fifoN l 12) 0 w) := by
  have hB0 := boxed3_below w 4 0 A l.length c
  have HC := rcheck_any 4 0 A c l _ (hA.below hB0) (by omega)
  rw [show checkE 4 0 l = 0 by rw [check_queue]; rfl] at HC
  have HA := Lib.hid hA
  have HW := Lib.hid (boxed3_state w 4 0 A l.length c)
  have HZ := Lib.hid (boxed3_then w 4 0 A l.length c)
  have HR := Lib.hid (boxed3_ret w 4 0 A l.length c)
  have hsz := boxed3_size w 4 0 A l.length c
  clear hA
  unfold stV at *
  go_enter Tryz.func28, Tryz.ntmps28
  go_wp2_with fail
  refine HC.mono ?_
  rintro e w1 ⟨rfl, hB1⟩
  generalize boxed3 w 4 0 A l.length c = W0 at *
  have HW1 := Lib.hid (HW.out.below hB1 (by omega))
  have HZ1 := Lib.hid (HZ.out.below hB1 (by omega))
  have HR1 := Lib.hid (HR.out.below hB1 (by omega))
  have hBw := nxt hB0 hB1 (by omega)
  have hlt1 := HR1.out.lt
  have s2 := HW1.out.c (j := 2) rfl
  have HROW := Lib.hid (World.ownsRow_lit (base := w1.heap.size) (e := 3) (size := 1) w1 #[] 0 (Nat.le_refl _) (Nat.zero_le _) rfl)
  have HA2 := Lib.hid ((HA.out.below hBw).below (alloc1 w1 (.cells #[] 3)))
  have hs2a : w1.heap.size ≤ (w1.alloc (.cells #[] 3)).heap.size := by simp
  have c2x : (w1.alloc (.cells #[] 3)).cell? ⟨w.heap.size, 2, none⟩ = some (.slice A l.length c) := (HW1.out.alloc _).c (j := 2) rfl
  clear hsz hB0 hB1
  go_upto_region 8 with (at_builtin; refine wpList_app _ rfl _ _ 22 rfl w1.heap.size Tryz.underlying22 _ _ _ rfl HROW.out A l.length c l rfl rfl HA2.out (by omega) (by omega) hs2a ?_; intro v3 w3 hown3 hg3 hn3; obtain ⟨g3, c3, rfl⟩ := form4 hown3 hn3; rw [Nat.zero_add, List.nil_append] at hown3; have hB3 : Below w1.heap.size w1 w3 := (alloc1 w1 _).trans (grown_below hg3 HROW.out hs2a); have HO3 := Lib.hid hown3; clear hg3 hn3 c2x s2 hown3)
  have hs3 := hB3.size
  have hBw3 := nxt hBw hB3 hBw.size
  have hB4 := nxt hBw3 (alloc1 w3 (.cells #[.int .i64 4, .int .i64 0, .slice (some ⟨g3, 0, none⟩) l.length c3] 24)) hBw3.size
  have hB14 := nxt hB3 (alloc1 w3 (.cells #[.int .i64 4, .int .i64 0, .slice (some ⟨g3, 0, none⟩) l.length c3] 24)) hB3.size
  have HZ4 := Lib.hid ((HZ1.out.below hB3 (by omega)).alloc (.cells #[.int .i64 4, .int .i64 0, .slice (some ⟨g3, 0, none⟩) l.length c3] 24))
  have HR4 := Lib.hid ((HR1.out.below hB3 (by omega)).alloc (.cells #[.int .i64 4, .int .i64 0, .slice (some ⟨g3, 0, none⟩) l.length c3] 24))
  have HW4 := Lib.hid ((HW1.out.below hB3 (by omega)).alloc (.cells #[.int .i64 4, .int .i64 0, .slice (some ⟨g3, 0, none⟩) l.length c3] 24))
  have HO4 := Lib.hid (Holds.new w3 24 #[.int .i64 4, .int .i64 0, .slice (some ⟨g3, 0, none⟩) l.length c3])
  have HV4 := Lib.hid (row_below HO3.out (alloc1 w3 (.cells #[.int .i64 4, .int .i64 0, .slice (some ⟨g3, 0, none⟩) l.length c3] 24)))
  have hs4 : w3.heap.size < (w3.alloc (.cells #[.int .i64 4, .int .i64 0, .slice (some ⟨g3, 0, none⟩) l.length c3] 24)).heap.size := by simp
  clear HROW HA2 HO3
  generalize w3.alloc (.cells #[.int .i64 4, .int .i64 0, .slice (some ⟨g3, 0, none⟩) l.length c3] 24) = W4 at *
  have hsB : w.heap.size + 3 ≤ w3.heap.size := by omega
  have s2 := HW4.out.c (j := 2) rfl
  have HSS := And.intro (holds_drew1 HO4.out) (holds_drew1 HW4.out)
  have HZ5 := HZ4.out
  have HR5 := HR4.out
  have HO5 := HO4.out
  have HW5 := HW4.out
  have z0 := HZ5.c (j := 0) rfl
  have z1 := HZ5.c (j := 1) rfl
  have z2 := HZ5.c (j := 2) rfl
  have r0 := HR5.c (j := 0) rfl
  have r1 := HR5.c (j := 1) rfl
  have y0 := HZ5.frozen 0
  have y1 := HZ5.frozen 1
  have y2 := HZ5.frozen 2
  have x0 := HR5.frozen 0
  have x1 := HR5.frozen 1
  go_wp2_with fail
  refine wp_region_noPanic ?_
  refine wp_region_picked [(0, true), (1, true), (2, true), (3, true), (4, true), (5, false), (6, false), (7, true)] (fun W' => Holds W' w3.heap.size 24 #[.int .i64 4, .int .i64 0, (.slice (some ⟨g3, 0, none⟩) l.length c3)] ∧ Holds W' w.heap.size 24 #[.int .i64 4, .int .i64 0, .slice A l.length c]) (by kernel_rfl) (by kernel_rfl) (fun _ _ _ _ _ h => h) HSS ?_
  iterate 5
    refine Picked.take ?_ (by rfl) (by rfl) ?_ ?_
    rotate_left
    · rintro w' ⟨h1, h2⟩
      have q0 := h1.c (j := 0) rfl
      have q1 := h1.c (j := 1) rfl
      have q2 := h1.c (j := 2) rfl
      have d2 := h2.c (j := 2) rfl
      go_simp
      try with_reducible rfl
    simp only [Act.put, List.getElem_toArray, List.getElem_cons_zero, List.getElem_cons_succ, List.setIfInBounds_toArray, List.set_cons_zero, List.set_cons_succ]
  refine ⟨_, by rfl, by rfl, ?_⟩
  go_simp
  refine ⟨⟨set3_drew1 HO5 (by omega), set3_drew1 HW5 (by omega)⟩, ?_⟩
  refine ⟨_, by rfl, by rfl, ?_⟩
  go_simp
  refine ⟨⟨set5_drew1 HO5 (by omega) (by omega), set5_drew1 HW5 (by omega) (by omega)⟩, ?_⟩
  refine Picked.take (.int .i64 0) (by rfl) (by rfl) (fun w' _ => by go_simp) ?_
  simp only [Act.put, List.getElem_toArray, List.getElem_cons_zero, List.getElem_cons_succ, List.setIfInBounds_toArray, List.set_cons_zero, List.set_cons_succ]
  refine NoPanic.normal ?_
  obtain ⟨HZ6, HR6, hB6⟩ := filled_holds (m := w.heap.size) HZ5 HR5 (by omega) 4 0 (.slice (some ⟨g3, 0, none⟩) l.length c3) 2 l.length
  change Exit.then _ _ _ _ (filled W4 (w.heap.size + 1) 4 0 (.slice (some ⟨g3, 0, none⟩) l.length c3) 2 l.length).drew
  have k0 := HZ6.c (j := 0) rfl
  have k1 := HZ6.c (j := 1) rfl
  have k2 := HZ6.c (j := 2) rfl
  have q0 := HR6.c (j := 0) rfl
  have q1 := HR6.c (j := 1) rfl
  have HI6 := Lib.hid (rowR_own rfl (row_mid (W' := filled W4 (w.heap.size + 1) 4 0 (.slice (some ⟨g3, 0, none⟩) l.length c3) 2 l.length) HV4.out (fun B hB _ => filled_far _ _ _ _ _ _ _ B (by omega))))
  generalize filled W4 (w.heap.size + 1) 4 0 (.slice (some ⟨g3, 0, none⟩) l.length c3) 2 l.length = W6 at *
  go_wp2
  refine bodyPost_ret (v := .tuple #[.agg #[.int .i64 4, .int .i64 0, (.slice (some ⟨g3, 0, none⟩) l.length c3)], .agg #[.int .i64 2, .int .i64 l.length], .int .i64 0]) (by simp [results, Tryz.f28, go_sem, k0, k1, k2, q0, q1]) rfl ?_
  exact ⟨some ⟨g3, 0, none⟩, c3, by simp [fifoL, fifoK, fifoN, stV, retV], HI6.out, (nxt hB4 hB6 (Nat.le_refl _)).drew⟩
set_option maxHeartbeats 2000000 in
theorem rfapply_deq (A : Option Addr) (c : Nat) (l : List Int) (y : Int) (w : World) (hA : Ints w A l) (hlen : l.length ≤ 800) (hy : l[0]? = some y) :
    Calls Tryz.prog 28 #[stV 4 0 A l.length c, .int .i64 11, .int .i64 0, .int .i64 0] w (ReadPost 4 (fifoL l 11 0) (fifoK l 11) (fifoN l 11) 0 w) := by
  have hB0 := boxed3_below w 4 0 A l.length c
  have HC := rcheck_any 4 0 A c l _ (hA.below hB0) (by omega)
  rw [show checkE 4 0 l = 0 by rw [check_queue]; rfl] at HC
  have HA := Lib.hid hA
  have HW := Lib.hid (boxed3_state w 4 0 A l.length c)
  have HZ := Lib.hid (boxed3_then w 4 0 A l.length c)
  have HR := Lib.hid (boxed3_ret w 4 0 A l.length c)
  have hsz := boxed3_size w 4 0 A l.length c
  clear hA
  unfold stV at *
  go_enter Tryz.func28, Tryz.ntmps28
  go_wp2_with fail
  refine HC.mono ?_
  rintro e w1 ⟨rfl, hB1⟩
  generalize boxed3 w 4 0 A l.length c = W0 at *
  have HW1 := Lib.hid (HW.out.below hB1 (by omega))
  have HZ1 := Lib.hid (HZ.out.below hB1 (by omega))
  have HR1 := Lib.hid (HR.out.below hB1 (by omega))
  have hBw := nxt hB0 hB1 (by omega)
  have hlt1 := HR1.out.lt
  have s2 := HW1.out.c (j := 2) rfl
  have HROW := Lib.hid (World.ownsRow_lit (base := w1.heap.size) (e := 3) (size := 1) w1 #[] 0 (Nat.le_refl _) (Nat.zero_le _) rfl)
  have HA2 := Lib.hid ((HA.out.below hBw).below (alloc1 w1 (.cells #[] 3)))
  have hs2a : w1.heap.size ≤ (w1.alloc (.cells #[] 3)).heap.size := by simp
  have c2x : (w1.alloc (.cells #[] 3)).cell? ⟨w.heap.size, 2, none⟩ = some (.slice A l.length c) := (HW1.out.alloc _).c (j := 2) rfl
  clear hsz hB0 hB1
  go_upto_region 8 with (at_builtin; refine wpList_app _ rfl _ _ 22 rfl w1.heap.size Tryz.underlying22 _ _ _ rfl HROW.out A l.length c l rfl rfl HA2.out (by omega) (by omega) hs2a ?_; intro v3 w3 hown3 hg3 hn3; obtain ⟨g3, c3, rfl⟩ := form4 hown3 hn3; rw [Nat.zero_add, List.nil_append] at hown3; have hB3 : Below w1.heap.size w1 w3 := (alloc1 w1 _).trans (grown_below hg3 HROW.out hs2a); have HO3 := Lib.hid hown3; clear hg3 hn3 c2x s2 hown3)
  have hs3 := hB3.size
  have hBw3 := nxt hBw hB3 hBw.size
  have hB4 := nxt hBw3 (alloc1 w3 (.cells #[.int .i64 4, .int .i64 0, .slice (some ⟨g3, 0, none⟩) l.length c3] 24)) hBw3.size
  have hB14 := nxt hB3 (alloc1 w3 (.cells #[.int .i64 4, .int .i64 0, .slice (some ⟨g3, 0, none⟩) l.length c3] 24)) hB3.size
  have HZ4 := Lib.hid ((HZ1.out.below hB3 (by omega)).alloc (.cells #[.int .i64 4, .int .i64 0, .slice (some ⟨g3, 0, none⟩) l.length c3] 24))
  have HR4 := Lib.hid ((HR1.out.below hB3 (by omega)).alloc (.cells #[.int .i64 4, .int .i64 0, .slice (some ⟨g3, 0, none⟩) l.length c3] 24))
  have HW4 := Lib.hid ((HW1.out.below hB3 (by omega)).alloc (.cells #[.int .i64 4, .int .i64 0, .slice (some ⟨g3, 0, none⟩) l.length c3] 24))
  have HO4 := Lib.hid (Holds.new w3 24 #[.int .i64 4, .int .i64 0, .slice (some ⟨g3, 0, none⟩) l.length c3])
  have HV4 := Lib.hid (row_below HO3.out (alloc1 w3 (.cells #[.int .i64 4, .int .i64 0, .slice (some ⟨g3, 0, none⟩) l.length c3] 24)))
  have hs4 : w3.heap.size < (w3.alloc (.cells #[.int .i64 4, .int .i64 0, .slice (some ⟨g3, 0, none⟩) l.length c3] 24)).heap.size := by simp
  clear HROW HA2 HO3
  generalize w3.alloc (.cells #[.int .i64 4, .int .i64 0, .slice (some ⟨g3, 0, none⟩) l.length c3] 24) = W4 at *
  have hsB : w.heap.size + 3 ≤ w3.heap.size := by omega
  have hl1 : 0 < l.length := (List.getElem?_eq_some_iff.1 hy).1
  have hl2 : ¬ l.length = 0 := by omega
  have hl3 : ¬ l = [] := fun e => by rw [e] at hl1; cases hl1
  have hl4 : ((l.length : Int) == 0) = false := by simp; exact hl3
  have hfit := row_fit HV4.out
  have HL := Lib.hid hy
  obtain ⟨b, off, rfl, hbx, hc⟩ := HA.out hl1
  have cy := hc 0 hl1
  rw [hy, Nat.add_zero] at cy
  have hBx : Below w.heap.size w W4 := hB4
  have g1 : (1 : Int) ≤ (l.length : Int) := by omega
  have g2 : (1 : Int) ≤ (c3 : Int) := by omega
  have g3' : (l.length : Int) ≤ (c3 : Int) := by omega
  have o2 := HO4.out.c (j := 2) rfl
  have f2 := HO4.out.frozen 2
  have s2 := HW4.out.c (j := 2) rfl
  clear hc hy
  by_cases hcp : c3 = 1
  · have HIs := Lib.hid (fun (W : World) (h : W.ownsRow w1.heap.size 3 1 (.slice (some ⟨g3, 0, none⟩) l.length c3) l.length (intsOf l)) => deq_one (rowR_own rfl h) hfit hcp)
    go_upto_region 17 with fail
    have hOO := HO4.out.set 2 (.slice (some ⟨g3, 0, none⟩) (l.length - 1) 0)
    have hZZ := set_other (b := w3.heap.size) HZ4.out 2 (.slice (some ⟨g3, 0, none⟩) (l.length - 1) 0) (by omega)
    have hRR := set_other (b := w3.heap.size) HR4.out 2 (.slice (some ⟨g3, 0, none⟩) (l.length - 1) 0) (by omega)
    have hWW := set_other (b := w3.heap.size) HW4.out 2 (.slice (some ⟨g3, 0, none⟩) (l.length - 1) 0) (by omega)
    have hVV := row_set HV4.out w3.heap.size 2 (.slice (some ⟨g3, 0, none⟩) (l.length - 1) 0) (fun g e h => HO4.out.not_row HV4.out (by decide) (by rw [e, h]))
    have hBB := nxt hBw (hB14.setCell (p := ⟨w3.heap.size, 2, none⟩) hs3 (.slice (some ⟨g3, 0, none⟩) (l.length - 1) 0)) hBw.size
    have cyy := (hBx.setCell (p := ⟨w3.heap.size, 2, none⟩) (show w.heap.size ≤ w3.heap.size by omega) (.slice (some ⟨g3, 0, none⟩) (l.length - 1) 0) |>.cell (p := ⟨b, off, none⟩) hbx).trans cy
    clear o2 f2
    generalize W4.setCell ⟨w3.heap.size, 2, none⟩ (.slice (some ⟨g3, 0, none⟩) (l.length - 1) 0) = W5 at *
    have HSS := And.intro (holds_drew1 hOO) (And.intro (holds_drew1 hWW) cyy)
    have HZ5 := hZZ
    have HR5 := hRR
    have HO5 := hOO
    have HW5 := hWW
    have z0 := HZ5.c (j := 0) rfl
    have z1 := HZ5.c (j := 1) rfl
    have z2 := HZ5.c (j := 2) rfl
    have r0 := HR5.c (j := 0) rfl
    have r1 := HR5.c (j := 1) rfl
    have y0 := HZ5.frozen 0
    have y1 := HZ5.frozen 1
    have y2 := HZ5.frozen 2
    have x0 := HR5.frozen 0
    have x1 := HR5.frozen 1
    refine wp_region_noPanic ?_
    refine wp_region_picked [(0, true), (1, true), (2, true), (3, true), (4, true), (5, true), (6, false), (7, false), (8, true)] (fun W' => Holds W' w3.heap.size 24 #[.int .i64 4, .int .i64 0, .slice (some ⟨g3, 0, none⟩) (l.length - 1) 0] ∧ Holds W' w.heap.size 24 #[.int .i64 4, .int .i64 0, .slice (some ⟨b, off, none⟩) l.length c] ∧ W'.cell? ⟨b, off, none⟩ = some (.int .i64 y)) (by kernel_rfl) (by kernel_rfl) (fun _ _ _ _ _ h => h) HSS ?_
    iterate 6
      refine Picked.take ?_ (by rfl) (by rfl) ?_ ?_
      rotate_left
      · rintro w' ⟨h1, h2, h3⟩
        have q0 := h1.c (j := 0) rfl
        have q1 := h1.c (j := 1) rfl
        have q2 := h1.c (j := 2) rfl
        have d2 := h2.c (j := 2) rfl
        go_simp
        try with_reducible rfl
      simp only [Act.put, List.getElem_toArray, List.getElem_cons_zero, List.getElem_cons_succ, List.setIfInBounds_toArray, List.set_cons_zero, List.set_cons_succ]
    refine ⟨_, by rfl, by rfl, ?_⟩
    go_simp
    first | refine ⟨⟨set3_drew1 HO5 (by omega), set3_drew1 HW5 (by omega), cell3 cyy (by omega)⟩, ?_⟩ | refine ⟨set3_drew1 HO5 (by omega), set3_drew1 HW5 (by omega), cell3 cyy (by omega), ?_⟩ | refine ⟨set3_drew1 HO5 (by omega), set3_drew1 HW5 (by omega), ?_⟩ | refine ⟨⟨set3_drew1 HO5 (by omega), set3_drew1 HW5 (by omega)⟩, ?_⟩
    refine ⟨_, by rfl, by rfl, ?_⟩
    go_simp
    first | refine ⟨⟨set5_drew1 HO5 (by omega) (by omega), set5_drew1 HW5 (by omega) (by omega), cell5 cyy (by omega) (by omega)⟩, ?_⟩ | refine ⟨set5_drew1 HO5 (by omega) (by omega), set5_drew1 HW5 (by omega) (by omega), cell5 cyy (by omega) (by omega), ?_⟩ | refine ⟨set5_drew1 HO5 (by omega) (by omega), set5_drew1 HW5 (by omega) (by omega), ?_⟩ | refine ⟨⟨set5_drew1 HO5 (by omega) (by omega), set5_drew1 HW5 (by omega) (by omega)⟩, ?_⟩
    refine Picked.take (.int .i64 0) (by rfl) (by rfl) (fun w' _ => by go_simp) ?_
    simp only [Act.put, List.getElem_toArray, List.getElem_cons_zero, List.getElem_cons_succ, List.setIfInBounds_toArray, List.set_cons_zero, List.set_cons_succ]
    refine NoPanic.normal ?_
    obtain ⟨HZ6, HR6, hB6⟩ := filled_holds (m := w.heap.size) HZ5 HR5 (by omega) 4 0 (.slice (some ⟨g3, 0, none⟩) (l.length - 1) 0) 2 y
    change Exit.then _ _ _ _ (filled W5 (w.heap.size + 1) 4 0 (.slice (some ⟨g3, 0, none⟩) (l.length - 1) 0) 2 y).drew
    have k0 := HZ6.c (j := 0) rfl
    have k1 := HZ6.c (j := 1) rfl
    have k2 := HZ6.c (j := 2) rfl
    have q0 := HR6.c (j := 0) rfl
    have q1 := HR6.c (j := 1) rfl
    have HI6 := Lib.hid ((HIs.out _ (row_mid (W' := filled W5 (w.heap.size + 1) 4 0 (.slice (some ⟨g3, 0, none⟩) (l.length - 1) 0) 2 y) hVV (fun B hB _ => filled_far _ _ _ _ _ _ _ B (by omega)))))
    generalize filled W5 (w.heap.size + 1) 4 0 (.slice (some ⟨g3, 0, none⟩) (l.length - 1) 0) 2 y = W6 at *
    go_wp2
    refine bodyPost_ret (v := .tuple #[.agg #[.int .i64 4, .int .i64 0, (.slice (some ⟨g3, 0, none⟩) (l.length - 1) 0)], .agg #[.int .i64 2, .int .i64 y], .int .i64 0]) (by simp [results, Tryz.f28, go_sem, k0, k1, k2, q0, q1]) rfl ?_
    rw [deq_says HL.out]
    exact ⟨some ⟨g3, 0, none⟩, 0, by rw [List.length_drop]; rfl, HI6.out, (nxt hBB hB6 (Nat.le_refl _)).drew⟩
  · have HIs := Lib.hid (fun (W : World) (h : W.ownsRow w1.heap.size 3 1 (.slice (some ⟨g3, 0, none⟩) l.length c3) l.length (intsOf l)) => deq_more (rowR_own rfl h) hfit hcp)
    go_upto_region 17 with fail
    have hOO := HO4.out.set 2 (.slice (some ⟨g3, 1, none⟩) (l.length - 1) (c3 - 1))
    have hZZ := set_other (b := w3.heap.size) HZ4.out 2 (.slice (some ⟨g3, 1, none⟩) (l.length - 1) (c3 - 1)) (by omega)
    have hRR := set_other (b := w3.heap.size) HR4.out 2 (.slice (some ⟨g3, 1, none⟩) (l.length - 1) (c3 - 1)) (by omega)
    have hWW := set_other (b := w3.heap.size) HW4.out 2 (.slice (some ⟨g3, 1, none⟩) (l.length - 1) (c3 - 1)) (by omega)
    have hVV := row_set HV4.out w3.heap.size 2 (.slice (some ⟨g3, 1, none⟩) (l.length - 1) (c3 - 1)) (fun g e h => HO4.out.not_row HV4.out (by decide) (by rw [e, h]))
    have hBB := nxt hBw (hB14.setCell (p := ⟨w3.heap.size, 2, none⟩) hs3 (.slice (some ⟨g3, 1, none⟩) (l.length - 1) (c3 - 1))) hBw.size
    have cyy := (hBx.setCell (p := ⟨w3.heap.size, 2, none⟩) (show w.heap.size ≤ w3.heap.size by omega) (.slice (some ⟨g3, 1, none⟩) (l.length - 1) (c3 - 1)) |>.cell (p := ⟨b, off, none⟩) hbx).trans cy
    clear o2 f2
    generalize W4.setCell ⟨w3.heap.size, 2, none⟩ (.slice (some ⟨g3, 1, none⟩) (l.length - 1) (c3 - 1)) = W5 at *
    have HSS := And.intro (holds_drew1 hOO) (And.intro (holds_drew1 hWW) cyy)
    have HZ5 := hZZ
    have HR5 := hRR
    have HO5 := hOO
    have HW5 := hWW
    have z0 := HZ5.c (j := 0) rfl
    have z1 := HZ5.c (j := 1) rfl
    have z2 := HZ5.c (j := 2) rfl
    have r0 := HR5.c (j := 0) rfl
    have r1 := HR5.c (j := 1) rfl
    have y0 := HZ5.frozen 0
    have y1 := HZ5.frozen 1
    have y2 := HZ5.frozen 2
    have x0 := HR5.frozen 0
    have x1 := HR5.frozen 1
    refine wp_region_noPanic ?_
    refine wp_region_picked [(0, true), (1, true), (2, true), (3, true), (4, true), (5, true), (6, false), (7, false), (8, true)] (fun W' => Holds W' w3.heap.size 24 #[.int .i64 4, .int .i64 0, .slice (some ⟨g3, 1, none⟩) (l.length - 1) (c3 - 1)] ∧ Holds W' w.heap.size 24 #[.int .i64 4, .int .i64 0, .slice (some ⟨b, off, none⟩) l.length c] ∧ W'.cell? ⟨b, off, none⟩ = some (.int .i64 y)) (by kernel_rfl) (by kernel_rfl) (fun _ _ _ _ _ h => h) HSS ?_
    iterate 6
      refine Picked.take ?_ (by rfl) (by rfl) ?_ ?_
      rotate_left
      · rintro w' ⟨h1, h2, h3⟩
        have q0 := h1.c (j := 0) rfl
        have q1 := h1.c (j := 1) rfl
        have q2 := h1.c (j := 2) rfl
        have d2 := h2.c (j := 2) rfl
        go_simp
        try with_reducible rfl
      simp only [Act.put, List.getElem_toArray, List.getElem_cons_zero, List.getElem_cons_succ, List.setIfInBounds_toArray, List.set_cons_zero, List.set_cons_succ]
    refine ⟨_, by rfl, by rfl, ?_⟩
    go_simp
    first | refine ⟨⟨set3_drew1 HO5 (by omega), set3_drew1 HW5 (by omega), cell3 cyy (by omega)⟩, ?_⟩ | refine ⟨set3_drew1 HO5 (by omega), set3_drew1 HW5 (by omega), cell3 cyy (by omega), ?_⟩ | refine ⟨set3_drew1 HO5 (by omega), set3_drew1 HW5 (by omega), ?_⟩ | refine ⟨⟨set3_drew1 HO5 (by omega), set3_drew1 HW5 (by omega)⟩, ?_⟩
    refine ⟨_, by rfl, by rfl, ?_⟩
    go_simp
    first | refine ⟨⟨set5_drew1 HO5 (by omega) (by omega), set5_drew1 HW5 (by omega) (by omega), cell5 cyy (by omega) (by omega)⟩, ?_⟩ | refine ⟨set5_drew1 HO5 (by omega) (by omega), set5_drew1 HW5 (by omega) (by omega), cell5 cyy (by omega) (by omega), ?_⟩ | refine ⟨set5_drew1 HO5 (by omega) (by omega), set5_drew1 HW5 (by omega) (by omega), ?_⟩ | refine ⟨⟨set5_drew1 HO5 (by omega) (by omega), set5_drew1 HW5 (by omega) (by omega)⟩, ?_⟩
    refine Picked.take (.int .i64 0) (by rfl) (by rfl) (fun w' _ => by go_simp) ?_
    simp only [Act.put, List.getElem_toArray, List.getElem_cons_zero, List.getElem_cons_succ, List.setIfInBounds_toArray, List.set_cons_zero, List.set_cons_succ]
    refine NoPanic.normal ?_
    obtain ⟨HZ6, HR6, hB6⟩ := filled_holds (m := w.heap.size) HZ5 HR5 (by omega) 4 0 (.slice (some ⟨g3, 1, none⟩) (l.length - 1) (c3 - 1)) 2 y
    change Exit.then _ _ _ _ (filled W5 (w.heap.size + 1) 4 0 (.slice (some ⟨g3, 1, none⟩) (l.length - 1) (c3 - 1)) 2 y).drew
    have k0 := HZ6.c (j := 0) rfl
    have k1 := HZ6.c (j := 1) rfl
    have k2 := HZ6.c (j := 2) rfl
    have q0 := HR6.c (j := 0) rfl
    have q1 := HR6.c (j := 1) rfl
    have HI6 := Lib.hid ((HIs.out _ (row_mid (W' := filled W5 (w.heap.size + 1) 4 0 (.slice (some ⟨g3, 1, none⟩) (l.length - 1) (c3 - 1)) 2 y) hVV (fun B hB _ => filled_far _ _ _ _ _ _ _ B (by omega)))))
    generalize filled W5 (w.heap.size + 1) 4 0 (.slice (some ⟨g3, 1, none⟩) (l.length - 1) (c3 - 1)) 2 y = W6 at *
    go_wp2
    refine bodyPost_ret (v := .tuple #[.agg #[.int .i64 4, .int .i64 0, (.slice (some ⟨g3, 1, none⟩) (l.length - 1) (c3 - 1))], .agg #[.int .i64 2, .int .i64 y], .int .i64 0]) (by simp [results, Tryz.f28, go_sem, k0, k1, k2, q0, q1]) rfl ?_
    rw [deq_says HL.out]
    exact ⟨some ⟨g3, 1, none⟩, (c3 - 1), by rw [List.length_drop]; rfl, HI6.out, (nxt hBB hB6 (Nat.le_refl _)).drew⟩
end Go.Proofs.YtmclpganipfadaaGreatDoor
