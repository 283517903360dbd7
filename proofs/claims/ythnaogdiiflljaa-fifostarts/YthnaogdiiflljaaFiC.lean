/- Contracts of the layer fifo: put. (Written by wip/tools/gen_fic.py.) -/
import Derived.Test.YthnaogdiiflljaaFiB
namespace Go.Proofs.Ythnaogdiiflljaa
open Go.RowKit Go.Maps
set_option linter.unusedVariables false
set_option linter.unusedSimpArgs false

theorem set_mid (q : List Int) (y x : Int) (rest : List Int) (n : Nat) (hn : n = q.length) : (intsOf (q ++ y :: rest)).set n (.int .i64 x) = intsOf (q ++ x :: rest) := by
  subst hn
  simp [intsOf, List.set_append]
theorem Ring.put {base : Nat} {W W' : World} {B g : Nat} {q rest : List Int} {x y : Int} {n N : Nat} (h : Ring base W B g (q ++ y :: rest) 0 q) (hn : n = q.length) (hN : N = (q ++ y :: rest).length)
    (hg : W'.ownsRow base 3 1 (.slice (some ⟨g, 0, none⟩) N N) N ((intsOf (q ++ y :: rest)).set n (.int .i64 x))) (hb : Holds W' B 56 #[.slice (some ⟨g, 0, none⟩) N N, .int .i64 0, .int .i64 ((n : Int) + 1)]) : Ring base W' B g (q ++ x :: rest) 0 (q ++ [x]) := by
  have hl : (q ++ x :: rest).length = N := by rw [hN]; simp
  rw [set_mid q y x rest n hn] at hg
  refine ⟨?_, ?_, h.own, ⟨rest, by simp⟩, .inr rfl⟩
  · rw [hl, List.length_append, List.length_cons, List.length_nil, show ((q.length + (0 + 1) : Nat) : Int) = (n : Int) + 1 by omega]; exact hb
  · rw [hl]; exact hg
theorem ring_set2 {W : World} {B : Nat} {t : TypeId} {a b c : Value} (h : Holds W B t #[a, b, c]) (u : Value) : Holds (W.setCell ⟨B, 2, none⟩ u) B t #[a, b, u] := h.set 2 u
theorem far_set {W : World} {B g : Nat} {t : TypeId} {cs : Array Value} (h : Holds W B t cs) (off : Nat) (u : Value) (hne : B ≠ g) : Holds (W.setCell ⟨g, off, none⟩ u) B t cs := h.of (Below.heap_setCell _ _ _ _ hne)
/-- The world behind 'r.cells[..] = x'. -/
structure PutMid (base : Nat) (w : World) (B g n N : Nat) (cs : List Int) (x : Int) (W : World) : Prop where
  row : W.ownsRow base 3 1 (.slice (some ⟨g, 0, none⟩) N N) N ((intsOf cs).set n (.int .i64 x))
  box : Holds W B 56 #[.slice (some ⟨g, 0, none⟩) N N, .int .i64 0, .int .i64 n]
  below : Below base w W
theorem put_mid {base : Nat} {w W : World} {B g n N : Nat} {cs : List Int} (x : Int) (ho : W.ownsRow base 3 1 (.slice (some ⟨g, 0, none⟩) N N) N (intsOf cs)) (hb : Holds W B 56 #[.slice (some ⟨g, 0, none⟩) N N, .int .i64 0, .int .i64 n]) (hne : B ≠ g) (hB : Below base w W) : PutMid base w B g n N cs x (W.setCell ⟨g, n, none⟩ (.int .i64 x)).drew.drew :=
  ⟨row_drew (row_drew (ho.stored n (.int .i64 x)).1), holds_drew1 (holds_drew1 (far_set hb n _ hne)), (hB.setCell (p := ⟨g, n, none⟩) (ho.lt g rfl).1 _).drew.drew⟩

theorem grow_one {w W : World} {B g : Nat} (h : w.grownBy W (some B)) (n : Nat) (u : Value) (hg : w.heap.size ≤ g) : w.grownBy (W.setCell ⟨g, n, none⟩ u).drew (some B) :=
  ⟨h.os, h.tape, h.output, by have := h.size; simpa [World.setCell] using this, fun k hk hne => (Below.heap_setCell _ _ _ _ (show k ≠ g by omega)).trans (h.block k hk hne)⟩
theorem put_mid1 {base : Nat} {w W : World} {B g n N : Nat} {cs : List Int} (x : Int) (ho : W.ownsRow base 3 1 (.slice (some ⟨g, 0, none⟩) N N) N (intsOf cs)) (hb : Holds W B 56 #[.slice (some ⟨g, 0, none⟩) N N, .int .i64 0, .int .i64 n]) (hne : B ≠ g) (hB : Below base w W) : PutMid base w B g n N cs x (W.setCell ⟨g, n, none⟩ (.int .i64 x)).drew :=
  ⟨row_drew (ho.stored n (.int .i64 x)).1, holds_drew1 (far_set hb n _ hne), (hB.setCell (p := ⟨g, n, none⟩) (ho.lt g rfl).1 _).drew⟩

set_option maxHeartbeats 2000000 in
theorem put_room (base : Nat) (B g : Nat) (q rest : List Int) (y x : Int) (w : World) (h : Ring base w B g (q ++ y :: rest) 0 q) (hlen : (q ++ y :: rest).length ≤ 5000) :
    Calls Try.prog 34 #[.pointer (some ⟨B, 0, none⟩), .int .i64 x] w fun e w' => e = .returned (.tuple #[]) ∧ Ring base w' B g (q ++ x :: rest) 0 (q ++ [x]) ∧ Below base w w' := by
  have hBG := h.ne
  have hown := h.own
  have c0 := h.box.c (j := 0) rfl
  have c1 := h.box.c (j := 1) rfl
  have c2 := h.box.c (j := 2) rfl
  have HW := Lib.hid h
  have HH := Lib.hid h.box
  have HO := Lib.hid h.row
  obtain ⟨cs, hcs⟩ : ∃ cs, cs = q ++ y :: rest := ⟨_, rfl⟩
  have hfit : q.length < cs.length := by rw [hcs]; simp
  rw [← hcs] at hlen c0 HH HO
  obtain ⟨N, hN⟩ : ∃ N, N = cs.length := ⟨_, rfl⟩
  rw [← hN] at c0 hlen HH HO hfit
  obtain ⟨n, hn⟩ : ∃ n, n = q.length := ⟨_, rfl⟩
  rw [← hn] at c2 HH hfit
  have HN : Hid (N = (q ++ y :: rest).length) := Lib.hid (by rw [hN, hcs])
  have Hn := Lib.hid hn
  have HCS := Lib.hid hcs
  have fn := HO.out.frozenAt n
  have cn : ∃ v, w.cell? ⟨g, n, none⟩ = some v := by
    rw [HO.out.cellAt n (by omega)]
    exact ⟨_, List.getElem?_eq_getElem (by have := HO.out.1; omega)⟩
  obtain ⟨v, cn⟩ := cn
  have HBW := Lib.hid (Below.refl base w)
  have g1 : ((n : Int) == (N : Int)) = false := by simp; omega
  have g2 : (0 : Int) ≤ (n : Int) := by omega
  have g3 : (n : Int) < (N : Int) := by omega
  have g4 : ¬ N = 0 := by omega
  have g5 : (n : Int).tmod (N : Int) = (n : Int) := by show ((n % N : Nat) : Int) = _; rw [Nat.mod_eq_of_lt hfit]
  have g6 : IntKind.i64.wrap (n : Int) = (n : Int) := by rw [IntWalk.i64_left]; unfold wrap64; omega
  have g7 : ¬ n = N := by omega
  clear h hn hN hcs
  go_enter Try.func34, Try.ntmps34
  go_wp2_with fail
  refine wp_region_noPanic ?_
  refine wp_region_picked [(0, true), (1, true), (2, true), (3, true), (4, true), (5, true), (6, true), (7, true), (8, true), (9, true)] (fun W' => W'.cell? ⟨B, 0, none⟩ = some (.slice (some ⟨g, 0, none⟩) N N) ∧ W'.cell? ⟨B, 2, none⟩ = some (.int .i64 n)) (by kernel_rfl) (by kernel_rfl) (fun _ _ _ _ _ h => h) ⟨c0, c2⟩ ?_
  iterate 10
    refine Picked.take ?_ (by rfl) (by rfl) ?_ ?_
    rotate_left
    · rintro w' ⟨hw0, hw2⟩
      go_simp
      try with_reducible rfl
    simp only [Act.put, List.getElem_toArray, List.getElem_cons_zero, List.getElem_cons_succ, List.setIfInBounds_toArray, List.set_cons_zero, List.set_cons_succ]
  refine NoPanic.normal ?_
  have hHd := holds_drew1 (holds_drew1 HH.out)
  go_wp2_with fail
  clear c0 c1 c2
  refine wp_region_noPanic ?_
  refine wp_region_picked [(0, true), (1, true), (2, true), (3, true), (4, true), (5, true), (6, true), (7, true), (8, true), (9, true), (10, true), (11, true), (12, true), (13, true), (14, true), (15, true), (16, true), (17, true), (18, true), (19, true), (20, true), (21, false)] (fun W' => Holds W' B 56 #[.slice (some ⟨g, 0, none⟩) N N, .int .i64 0, .int .i64 n]) (by kernel_rfl) (by kernel_rfl) (fun _ _ _ _ _ h => h) hHd ?_
  iterate 21
    refine Picked.take ?_ (by rfl) (by rfl) ?_ ?_
    rotate_left
    · rintro w' hw
      have hw0 := hw.c (j := 0) rfl
      have hw1 := hw.c (j := 1) rfl
      have hw2 := hw.c (j := 2) rfl
      go_simp
      try with_reducible rfl
    simp only [Act.put, List.getElem_toArray, List.getElem_cons_zero, List.getElem_cons_succ, List.setIfInBounds_toArray, List.set_cons_zero, List.set_cons_succ]
  refine ⟨_, by rfl, by rfl, ?_⟩
  go_simp
  have hM := put_mid x HO.out HH.out hBG HBW.out
  refine ⟨hM.box, ?_⟩
  refine NoPanic.normal ?_
  generalize (w.setCell ⟨g, n, none⟩ (.int .i64 x)).drew.drew = W2 at *
  have d2 := hM.box.c (j := 2) rfl
  have e2 := hM.box.frozen 2
  have HM := Lib.hid hM
  clear hM cn fn
  go_wp2
  go_end0
  have hB2 := HM.out.box
  refine ⟨rfl, ?_, HM.out.below.setCell (p := ⟨B, 2, none⟩) hown _⟩
  have hput := HW.out.put (x := x) Hn.out HN.out (HCS.out ▸ HM.out.row.kept (ring_grown W2 B 2 (.int .i64 ((n : Int) + 1))) (.inr (fun e => hBG (Option.some.inj e).symm))) (ring_set2 hB2 _)
  exact hput
set_option maxHeartbeats 2000000 in
theorem put_full (base : Nat) (B g0 : Nat) (q : List Int) (x : Int) (w : World) (h : Ring base w B g0 q 0 q) (hlen : q.length ≤ 2000) :
    Calls Try.prog 34 #[.pointer (some ⟨B, 0, none⟩), .int .i64 x] w fun e w' => e = .returned (.tuple #[]) ∧ (∃ g, Ring base w' B g (q ++ x :: List.replicate q.length 0) 0 (q ++ [x])) ∧ w.grownBy w' (some B) := by
  have hown := h.own
  have hbs := h.box.lt
  have c0 := h.box.c (j := 0) rfl
  have c2 := h.box.c (j := 2) rfl
  have HWD := widen_any base B (some ⟨g0, 0, none⟩) q (q.length + 1) w.drew hown (holds_drew1 h.box) (own_ints rfl (row_drew h.row)) (by omega)
  obtain ⟨n, hn⟩ : ∃ n, n = q.length := ⟨_, rfl⟩
  rw [← hn] at c0 c2 HWD hlen ⊢
  rw [show ((n + 1 : Nat) : Int) = (n : Int) + 1 by omega] at HWD
  have Hn := Lib.hid hn
  clear h hn
  go_enter Try.func34, Try.ntmps34
  go_wp2_with fail
  refine wp_region_noPanic ?_
  refine wp_region_picked [(0, true), (1, true), (2, true), (3, true), (4, true), (5, true), (6, true), (7, true), (8, true), (9, true)] (fun W' => W'.cell? ⟨B, 0, none⟩ = some (.slice (some ⟨g0, 0, none⟩) n n) ∧ W'.cell? ⟨B, 2, none⟩ = some (.int .i64 n)) (by kernel_rfl) (by kernel_rfl) (fun _ _ _ _ _ h => h) ⟨c0, c2⟩ ?_
  iterate 10
    refine Picked.take ?_ (by rfl) (by rfl) ?_ ?_
    rotate_left
    · rintro w' ⟨hw0, hw2⟩
      go_simp
      try with_reducible rfl
    simp only [Act.put, List.getElem_toArray, List.getElem_cons_zero, List.getElem_cons_succ, List.setIfInBounds_toArray, List.set_cons_zero, List.set_cons_succ]
  refine NoPanic.normal ?_
  go_wp2_with fail
  refine HWD.mono ?_
  rintro e w1 ⟨rfl, ⟨g, hfar, h⟩, hg1⟩
  have HBW : Hid (Below base w w1) := Lib.hid ((Below.refl base w).grown (grown_drew1 hg1) (by omega) (fun k e => by cases e; exact hown))
  have HGW : Hid (w.grownBy w1 (some B)) := Lib.hid (grown_drew1 hg1)
  have hfar' : w.heap.size ≤ g := hfar
  clear hg1 c0 c2 HWD hfar
  rw [List.replicate_succ] at h
  have hBG := h.ne
  have c0 := h.box.c (j := 0) rfl
  have c1 := h.box.c (j := 1) rfl
  have c2 := h.box.c (j := 2) rfl
  have HW := Lib.hid h
  have HH := Lib.hid h.box
  have HO := Lib.hid h.row
  obtain ⟨cs, hcs⟩ : ∃ cs, cs = q ++ 0 :: List.replicate n 0 := ⟨_, rfl⟩
  have hfit : q.length < cs.length := by rw [hcs]; simp
  have hlen2 : cs.length ≤ 5000 := by rw [hcs]; simp; have := Hn.out; omega
  rw [← hcs] at c0 HH HO
  obtain ⟨N, hN⟩ : ∃ N, N = cs.length := ⟨_, rfl⟩
  rw [← hN] at c0 HH HO hfit hlen2
  rw [← Hn.out] at c2 HH hfit
  have HN : Hid (N = (q ++ 0 :: List.replicate n 0).length) := Lib.hid (by rw [hN, hcs])
  have HCS := Lib.hid hcs
  have fn := HO.out.frozenAt n
  have cn : ∃ v, w1.cell? ⟨g, n, none⟩ = some v := by
    rw [HO.out.cellAt n (by omega)]
    exact ⟨_, List.getElem?_eq_getElem (by have := HO.out.1; omega)⟩
  obtain ⟨v, cn⟩ := cn
  have g2 : (0 : Int) ≤ (n : Int) := by omega
  have g3 : (n : Int) < (N : Int) := by omega
  have g4 : ¬ N = 0 := by omega
  have g5 : (n : Int).tmod (N : Int) = (n : Int) := by show ((n % N : Nat) : Int) = _; rw [Nat.mod_eq_of_lt hfit]
  have g6 : IntKind.i64.wrap (n : Int) = (n : Int) := by rw [IntWalk.i64_left]; unfold wrap64; omega
  have hHd := holds_drew1 HH.out
  clear h hN hcs
  go_wp2_with fail
  clear c0 c1 c2
  refine wp_region_noPanic ?_
  refine wp_region_picked [(0, true), (1, true), (2, true), (3, true), (4, true), (5, true), (6, true), (7, true), (8, true), (9, true), (10, true), (11, true), (12, true), (13, true), (14, true), (15, true), (16, true), (17, true), (18, true), (19, true), (20, true), (21, false)] (fun W' => Holds W' B 56 #[.slice (some ⟨g, 0, none⟩) N N, .int .i64 0, .int .i64 n]) (by kernel_rfl) (by kernel_rfl) (fun _ _ _ _ _ h => h) hHd ?_
  iterate 21
    refine Picked.take ?_ (by rfl) (by rfl) ?_ ?_
    rotate_left
    · rintro w' hw
      have hw0 := hw.c (j := 0) rfl
      have hw1 := hw.c (j := 1) rfl
      have hw2 := hw.c (j := 2) rfl
      go_simp
      try with_reducible rfl
    simp only [Act.put, List.getElem_toArray, List.getElem_cons_zero, List.getElem_cons_succ, List.setIfInBounds_toArray, List.set_cons_zero, List.set_cons_succ]
  refine ⟨_, by rfl, by rfl, ?_⟩
  go_simp
  have hM := put_mid1 x HO.out HH.out hBG HBW.out
  refine ⟨hM.box, ?_⟩
  refine NoPanic.normal ?_
  have HG2 := Lib.hid (grow_one HGW.out n (.int .i64 x) hfar')
  generalize (w1.setCell ⟨g, n, none⟩ (.int .i64 x)).drew = W2 at *
  have d2 := hM.box.c (j := 2) rfl
  have e2 := hM.box.frozen 2
  have HM := Lib.hid hM
  clear hM cn fn
  go_wp2
  go_end0
  have hB2 := HM.out.box
  refine ⟨rfl, ?_, HG2.out.trans (ring_grown W2 B 2 _)⟩
  have hput := HW.out.put (x := x) Hn.out HN.out (HCS.out ▸ HM.out.row.kept (ring_grown W2 B 2 (.int .i64 ((n : Int) + 1))) (.inr (fun e => hBG (Option.some.inj e).symm))) (ring_set2 hB2 _)
  exact ⟨g, hput⟩
end Go.Proofs.Ythnaogdiiflljaa
