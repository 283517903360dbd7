/- Contracts of the layer fifo: the ring; size, take. -/
import Derived.Test.YthnaogdiiflljaaMaS
import Derived.Test.YthnaogdiiflljaaStRg
import Derived.Laws.CopyRow
import Derived.Laws.IdiomCopy
namespace Go.Proofs.Ythnaogdiiflljaa
open Go.RowKit Go.Maps
set_option linter.unusedVariables false
set_option linter.unusedSimpArgs false

/-- A ring in the world: its box, its cells (a row of the call's own), where the first one is, and what is in it. -/
structure Ring (base : Nat) (W : World) (B g : Nat) (cs : List Int) (p : Nat) (q : List Int) : Prop where
  box : Holds W B 56 #[.slice (some ⟨g, 0, none⟩) cs.length cs.length, .int .i64 p, .int .i64 q.length]
  row : W.ownsRow base 3 1 (.slice (some ⟨g, 0, none⟩) cs.length cs.length) cs.length (intsOf cs)
  own : base ≤ B
  laid : ∃ rest, cs.drop p = q ++ rest
  inn : p < cs.length ∨ p = 0
theorem Ring.ne {base : Nat} {W : World} {B g : Nat} {cs : List Int} {p : Nat} {q : List Int} (h : Ring base W B g cs p q) : B ≠ g := fun e =>
  h.box.not_row h.row (by decide) (by rw [e]; rfl)
theorem Ring.fit {base : Nat} {W : World} {B g : Nat} {cs : List Int} {p : Nat} {q : List Int} (h : Ring base W B g cs p q) : p + q.length ≤ cs.length := by
  obtain ⟨rest, hr⟩ := h.laid
  have := congrArg List.length hr
  rw [List.length_drop, List.length_append] at this
  rcases h.inn with h1 | h1 <;> omega
theorem Ring.first {base : Nat} {W : World} {B g : Nat} {cs : List Int} {p : Nat} {x : Int} {q : List Int} (h : Ring base W B g cs p (x :: q)) : cs[p]? = some x := by
  obtain ⟨rest, hr⟩ := h.laid
  have := congrArg (·[0]?) hr
  simpa using this
theorem Ring.kept {base : Nat} {W W' : World} {B g : Nat} {cs : List Int} {p : Nat} {q : List Int} {row : Option Nat} (h : Ring base W B g cs p q) (hg : W.grownBy W' row) (h1 : some B ≠ row) (h2 : some g ≠ row) : Ring base W' B g cs p q :=
  ⟨h.box.kept hg h1, h.row.kept hg (.inr h2), h.own, h.laid, h.inn⟩
theorem Ring.more {base base' : Nat} {W : World} {B g : Nat} {cs : List Int} {p : Nat} {q : List Int} (h : Ring base W B g cs p q) (hb : base' ≤ base) : Ring base' W B g cs p q :=
  ⟨h.box, row_more h.row hb, Nat.le_trans hb h.own, h.laid, h.inn⟩
theorem Ring.glt {base : Nat} {W : World} {B g : Nat} {cs : List Int} {p : Nat} {q : List Int} (h : Ring base W B g cs p q) : base ≤ g ∧ g < W.heap.size := h.row.lt g rfl
theorem Ring.below {base n : Nat} {W W' : World} {B g : Nat} {cs : List Int} {p : Nat} {q : List Int} (h : Ring base W B g cs p q) (hb : Below n W W') (h1 : W.heap.size ≤ n) : Ring base W' B g cs p q :=
  h.kept (row := none) ⟨hb.os, hb.tape, hb.output, hb.size, fun k hk _ => hb.block k (by omega)⟩ (by simp) (by simp)
/-- The first one taken off. -/
theorem Ring.less {base : Nat} {W W' : World} {B g : Nat} {cs : List Int} {p p' : Nat} {x : Int} {q : List Int} (h : Ring base W B g cs p (x :: q)) (hp : p' = if p + 1 < cs.length then p + 1 else 0)
    (hg : W.grownBy W' (some B)) (hb : Holds W' B 56 #[.slice (some ⟨g, 0, none⟩) cs.length cs.length, .int .i64 p', .int .i64 q.length]) : Ring base W' B g cs p' q := by
  refine ⟨hb, h.row.kept hg (.inr ?_), h.own, ?_, ?_⟩
  · intro e; exact h.ne (Option.some.inj e).symm
  · obtain ⟨rest, hr⟩ := h.laid
    by_cases hlt : p + 1 < cs.length
    · rw [if_pos hlt] at hp
      subst hp
      refine ⟨rest, ?_⟩
      have := congrArg List.tail hr
      rw [List.tail_drop] at this
      simpa using this
    · rw [if_neg hlt] at hp
      subst hp
      have hf := h.fit
      have : q = [] := by
        cases q with
        | nil => rfl
        | cons y r => simp at hf; omega
      subst this
      exact ⟨cs, by simp⟩
  · by_cases hlt : p + 1 < cs.length
    · rw [if_pos hlt] at hp; omega
    · rw [if_neg hlt] at hp; omega

theorem ring_grown (w : World) (B off : Nat) (u : Value) : w.grownBy (w.setCell ⟨B, off, none⟩ u) (some B) := ⟨rfl, rfl, rfl, by simp [World.setCell], fun k _ hk => Below.heap_setCell _ _ _ _ (fun e => hk (by rw [e]))⟩
theorem ring_grown1 (w : World) (B off : Nat) (u : Value) : w.grownBy (w.setCell ⟨B, off, none⟩ u).drew.drew (some B) := ⟨rfl, rfl, rfl, by simp [World.setCell], fun k _ hk => Below.heap_setCell _ _ _ _ (fun e => hk (by rw [e]))⟩
theorem ring_set1 {W : World} {B : Nat} {t : TypeId} {a b c : Value} (h : Holds W B t #[a, b, c]) (u : Value) : Holds (W.setCell ⟨B, 1, none⟩ u).drew.drew B t #[a, u, c] := h.set 1 u

theorem rsize_any (base : Nat) (B g : Nat) (cs : List Int) (p : Nat) (q : List Int) (w : World) (h : Ring base w B g cs p q) :
    Calls Try.prog 36 #[.pointer (some ⟨B, 0, none⟩)] w fun e w' => e = .returned (.int .i64 q.length) ∧ w' = w := by
  have c2 := h.box.c (j := 2) rfl
  go_enter Try.func36, Try.ntmps36
  go_wp2
  go_ret
  exact ⟨rfl, rfl⟩
theorem take_none (base : Nat) (B g : Nat) (cs : List Int) (p : Nat) (w : World) (h : Ring base w B g cs p []) :
    Calls Try.prog 35 #[.pointer (some ⟨B, 0, none⟩)] w fun e w' => e = .returned (.tuple #[.int .i64 0, .bool false]) ∧ w' = w := by
  have c2 := h.box.c (j := 2) rfl
  simp only [List.length_nil] at c2
  go_enter Try.func35, Try.ntmps35
  go_wp2
  refine bodyPost_ret (v := .tuple #[.int .i64 0, .bool false]) (by simp [results, Try.f35, go_sem]) rfl ?_
  exact ⟨rfl, rfl⟩
set_option maxHeartbeats 1000000 in
theorem take_some (base : Nat) (B g : Nat) (cs : List Int) (p : Nat) (x : Int) (q : List Int) (w : World) (h : Ring base w B g cs p (x :: q)) (hlen : cs.length ≤ 10000) :
    Calls Try.prog 35 #[.pointer (some ⟨B, 0, none⟩)] w fun e w' => e = .returned (.tuple #[.int .i64 x, .bool true]) ∧ (∃ p', Ring base w' B g cs p' q) ∧ w.grownBy w' (some B) := by
  have hfit := h.fit
  rw [List.length_cons] at hfit
  have hp : p < cs.length := by omega
  have c0 := h.box.c (j := 0) rfl
  have c1 := h.box.c (j := 1) rfl
  have c2 := h.box.c (j := 2) rfl
  have f1 := h.box.frozen 1
  have f2 := h.box.frozen 2
  rw [List.length_cons] at c2
  have hx : w.cell? ⟨g, p, none⟩ = some (.int .i64 x) := by
    rw [h.row.cellAt p (by omega)]
    simp [intsOf, h.first]
  have HR := Lib.hid h
  have HH : Hid (Holds w B 56 #[.slice (some ⟨g, 0, none⟩) cs.length cs.length, .int .i64 p, .int .i64 ((q.length : Int) + 1)]) := Lib.hid (by have := h.box; rw [List.length_cons, show ((q.length + 1 : Nat) : Int) = (q.length : Int) + 1 by omega] at this; exact this)
  obtain ⟨N, hN⟩ : ∃ N, N = cs.length := ⟨_, rfl⟩
  rw [← hN] at c0 hlen hp hfit HH
  obtain ⟨n, hn⟩ : ∃ n, n = q.length := ⟨_, rfl⟩
  rw [← hn] at c2 hfit HH
  have g0 : ((n + 1 : Nat) : Int) = (n : Int) + 1 := by omega
  rw [g0] at c2
  have g1 : (((n : Int) + 1) == 0) = false := by simp; omega
  have g2 : (0 : Int) ≤ (p : Int) := by omega
  have g3 : (p : Int) < (N : Int) := by omega
  have g4 : ((N : Int) == 0) = false := by simp; omega
  obtain ⟨p', hp'⟩ : ∃ p', p' = if p + 1 < N then p + 1 else 0 := ⟨_, rfl⟩
  obtain ⟨p1, hp1⟩ : ∃ p1, p1 = p + 1 := ⟨_, rfl⟩
  have g5 : (p1 : Int).tmod (N : Int) = (p' : Int) := by
    rw [hp', hp1]
    by_cases hlt : p + 1 < N
    · rw [if_pos hlt]
      show (((p + 1) % N : Nat) : Int) = _
      rw [Nat.mod_eq_of_lt hlt]
    · rw [if_neg hlt]
      show (((p + 1) % N : Nat) : Int) = _
      rw [show p + 1 = N by omega, Nat.mod_self]
  have gw : IntKind.i64.wrap ((p : Int) + 1) = (p1 : Int) := by rw [hp1]; rw [IntWalk.i64_left]; unfold wrap64; omega
  have g7 : p1 ≤ N := by omega
  have g8 : ¬ N = 0 := by omega
  have g6 : p' ≤ N := by rw [hp']; split <;> omega
  have HP := Lib.hid hp'
  have HN := Lib.hid hN
  have Hn := Lib.hid hn
  clear h hp' hN hn g0 hp1
  go_enter Try.func35, Try.ntmps35
  go_wp2_with fail
  refine wp_region_noPanic ?_
  refine wp_region_picked [(0, true), (1, true), (2, true), (3, true), (4, true), (5, true), (6, true), (7, true), (8, true), (9, true), (10, true)] (fun W' => W'.cell? ⟨B, 0, none⟩ = some (.slice (some ⟨g, 0, none⟩) N N) ∧ W'.cell? ⟨B, 1, none⟩ = some (.int .i64 p) ∧ W'.cell? ⟨g, p, none⟩ = some (.int .i64 x)) (by kernel_rfl) (by kernel_rfl) (fun _ _ _ _ _ h => h) ⟨c0, c1, hx⟩ ?_
  iterate 11
    refine Picked.take ?_ (by rfl) (by rfl) ?_ ?_
    rotate_left
    · rintro w' ⟨hw0, hw1, hw2⟩
      go_simp
      try with_reducible rfl
    simp only [Act.put, List.getElem_toArray, List.getElem_cons_zero, List.getElem_cons_succ, List.setIfInBounds_toArray, List.set_cons_zero, List.set_cons_succ]
  refine NoPanic.normal ?_
  go_wp2_with fail
  refine wp_region_noPanic ?_
  refine wp_region_heads [true, true, true, true, true, true, true, true, true, true, true, true, true, true] (fun W' => W'.cell? ⟨B, 0, none⟩ = some (.slice (some ⟨g, 0, none⟩) N N) ∧ W'.cell? ⟨B, 1, none⟩ = some (.int .i64 p)) (by kernel_rfl) (by kernel_rfl) (fun _ _ _ _ _ h => h) ⟨c0, c1⟩ ?_
  iterate 14
    refine Heads.take ?_ (by rfl) ?_ ?_
    rotate_left
    · rintro w' ⟨hw0, hw1⟩
      go_simp
      try with_reducible rfl
    simp only [Act.put, List.getElem_toArray, List.getElem_cons_zero, List.getElem_cons_succ, List.setIfInBounds_toArray, List.set_cons_zero, List.set_cons_succ]
  refine Heads.done ?_
  go_wp2_with fail
  refine NoPanic.normal ?_
  have hH1 : Holds (w.setCell ⟨B, 1, none⟩ (.int .i64 p')).drew.drew B 56 #[.slice (some ⟨g, 0, none⟩) N N, .int .i64 p', .int .i64 ((n : Int) + 1)] := ring_set1 HH.out _
  have hG1 := ring_grown1 w B 1 (.int .i64 p')
  generalize (w.setCell ⟨B, 1, none⟩ (.int .i64 p')).drew.drew = W1 at *
  have d2 := hH1.c (j := 2) rfl
  have e2 := hH1.frozen 2
  have hH2 := hH1.set 2 (.int .i64 n)
  have hG2 := hG1.trans (ring_grown W1 B 2 (.int .i64 n))
  have HG2 := Lib.hid hG2
  have HH2 := Lib.hid hH2
  clear c0 c1 c2 f1 f2 hx hH1 hH2 hG1 hG2
  go_wp2
  refine bodyPost_ret (v := .tuple #[.int .i64 x, .bool true]) (by simp [results, Try.f35, go_sem]) rfl ?_
  refine ⟨rfl, ⟨p', HR.out.less (by rw [HP.out, HN.out]) HG2.out ?_⟩, HG2.out⟩
  rw [← HN.out, ← Hn.out]
  exact HH2.out
end Go.Proofs.Ythnaogdiiflljaa
