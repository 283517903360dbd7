/- Contracts of the layer set: find. -/
import Derived.Test.YtmhnnilfehankaaSeA
namespace Go.Proofs.Ytmhnnilfehankaa
open Go.RowKit Go.Shelf Go.Maps
set_option linter.unusedVariables false

attribute [local go_sem] Oper.semAt_some

def foundV (l : List Int) (x : Int) : Value := .tuple #[.int .i64 (low l x), .bool (isIn l x)]
theorem afar_box {B P : Nat} (t : TypeId) (f : List Span → Value) (h : P < B) : Afar B (fun pre W => Boxed W P t (f pre)) := fun s X Y row hs hg hr =>
  hs.kept hg (fun e => by have := hr P e.symm; omega)
theorem afar_below {β : Type} {n₀ B : Nat} {w₀ : World} (hn : n₀ ≤ w₀.heap.size) (hB : n₀ ≤ B) : Afar B (fun (_ : β) W => Below n₀ w₀ W) :=
  fun _ _ _ _ hs hg hr => hs.grown hg (Nat.le_trans hn hs.size) (fun k e => Nat.le_trans hB (hr k e))

set_option maxRecDepth 100000 in
set_option maxHeartbeats 2000000 in
theorem find_any (A : Option Addr) (c : Nat) (l : List Int) (x : Int) (w : World) (hA : Ints w A l) (hlen : l.length ≤ 1000) (hr : Rise l) :
    Calls Try.prog 33 #[.slice A l.length c, .int .i64 x] w (Says (foundV l x) w) := by
  refine (callsIn_wide (n := 6)).1 ?_
  refine callsIn_of_wp_marks Try.func33 rfl trivial ?_ rfl
  simp only [Try.ntmps33, List.size_toArray, List.length_cons, List.length_nil, Nat.reduceAdd, Nat.reduceSub, Array.replicate_succ, Array.replicate_zero, List.push_toArray, List.append_toArray, List.nil_append, List.cons_append]
  gi_wp2_with (refine ⟨trivial, ?_⟩; gi_at_call 43; refine (halves_in Fence.wide _ trivial rfl _ _ _ _ _).mono ?_; rintro e w' ⟨rfl, rfl⟩)
  have bP := Boxed.new w 3 (.int .i64 0)
  have bL := Boxed.new (w.alloc (.cells #[.int .i64 0] 3)) 53 (.slice A l.length c)
  have bX := Boxed.new ((w.alloc (.cells #[.int .i64 0] 3)).alloc (.cells #[.slice A l.length c] 53)) 3 (.int .i64 x)
  rw [World.size_alloc] at bL
  rw [World.size_alloc, World.size_alloc] at bX
  have hB0 : Below w.heap.size w (((w.alloc (.cells #[.int .i64 0] 3)).alloc (.cells #[.slice A l.length c] 53)).alloc (.cells #[.int .i64 x] 3)) := (((Below.refl _ w).alloc (Nat.le_refl _) _).alloc (by simp) _).alloc (by simp; omega) _
  have hA0 : IntsB w.heap.size w A l := hA
  refine range_whole rfl (by omega) (gf := 50) (lb := #[.pointer (some ⟨w.heap.size + 1, 0, none⟩), .pointer (some ⟨w.heap.size + 1 + 1, 0, none⟩)]) rfl trivial (enters_of Try.func50 (by kernel_rfl) rfl)
    (halves_whole 5 (by omega) (w.heap.size + 1) (w.heap.size + 1 + 1) w.heap.size w.heap.size x A c l hlen hr _ (by simp; omega) (Nat.le_refl _) (by omega) (by omega) (by simp) (by simp) (bL.alloc _).cell bX.cell (hA0.below hB0)) KeptX.trans (fun W l o o' _ h1 h2 => KeptX.put _ W l o o' h1 h2) (fun _ => rfl)
    (fun (pre : List Span) W => Boxed W w.heap.size 3 (.int .i64 (lastAt pre)) ∧ Below w.heap.size w W)
    (fun s X Y row hs hg hrr => ⟨afar_box 3 (fun pre => .int .i64 (lastAt pre)) (by simp; omega) s X Y row hs.1 hg hrr, afar_below (β := Unit) (Nat.le_refl _) (by simp; omega) () X Y row hs.2 hg hrr⟩)
    ⟨(bP.alloc _).alloc _, hB0⟩
    (fun s a' W => ∃ Bh, w.heap.size < Bh ∧ Holds W Bh 68 #[.int .i64 s.1, .int .i64 s.2] ∧ a' = { tmps := #[.slice A l.length c, .int .i64 x, undef, undef, .int .i64 0, .bool false, .pointer (some ⟨w.heap.size, 0, none⟩), .pointer (some ⟨Bh, 0, none⟩), .slice A l.length c, .int .i64 x, .func (.func 50) #[] #[.pointer (some ⟨w.heap.size + 1, 0, none⟩), .pointer (some ⟨w.heap.size + 1 + 1, 0, none⟩)], .agg #[.int .i64 s.1, .int .i64 s.2], undef, undef, undef, undef, undef, undef, undef, undef, undef, undef, undef, undef, undef, undef, undef], defers := [] })
    (fun s a' W l o o' ⟨Bh, h1, h2, h3⟩ ho hc => ⟨Bh, h1, (h2.of (World.putObj_heap_other (fun e => by subst e; rw [show W.heap[_]? = _ from h2] at ho; cases ho; cases hc))), h3⟩) ?assign ?body ?done
  case assign =>
    rintro l pre s W K hsz ⟨hb, hB⟩ hK
    have hsz' : w.heap.size < W.heap.size := by simp at hsz; omega
    gi_wp2
    exact hK _ _ (KeepsOthers.alloc _ _) (KeptX.alloc _ _ _) ⟨hb.alloc _, hB.alloc (by omega) _⟩ ⟨W.heap.size, hsz', Holds.new _ _ _, rfl⟩
  case body =>
    rintro lp pre s a' W ⟨hv, hB⟩ ⟨Bh, h1, h2, rfl⟩ hlt
    have hc := hv.cell
    have hf := hv.frozen
    have c0 := h2.c (j := 0) rfl
    have hv2 := hv.set (.int .i64 s.1)
    gi_wp2
    refine ⟨KeepsOthers.setCell _ _ _, KeptX.set _ _ _ _, ?_, hB.setCell (p := ⟨w.heap.size, 0, none⟩) (Nat.le_refl _) _⟩
    rw [lastAt_snoc]
    exact hv2
  case done =>
    rintro D ys W hD hS ⟨hv, hB⟩ hK
    have hc := hv.cell
    rw [hS] at hc
    have hat := isIn_at hr x
    have hle := low_le l x
    have hI := hA0.below hB
    by_cases hlt : low l x < l.length
    · obtain ⟨b, off, rfl, hb, hcl⟩ := hI (by omega)
      have ck := hcl (low l x) hlt
      rw [decide_eq_true hlt, Bool.true_and] at hat
      generalize hlo : low l x = lo at *
      obtain ⟨y, hy⟩ : ∃ y, l[lo]?.getD 0 = y := ⟨_, rfl⟩
      rw [hy] at ck hat
      have HAT := Lib.hid hat
      have g0 : (0 : Int) ≤ (lo : Int) := by omega
      have g1 : (lo : Int) < (l.length : Int) := by omega
      have g2 : decide ((lo : Int) < (l.length : Int)) = true := decide_eq_true (by omega)
      have HLO := Lib.hid hlo
      clear hcl hy hat hlo hS
      gi_wp2_with fail
      refine wpIn_wide.2 ?_
      go_quiet (fail)
      gi_wp2_with fail
      refine ⟨by simp, .inl ⟨_, _, rfl, run_takeDeferred (show (W.drewN nq).heap[D]? = some (.deferred (some [])) from hK), ?_⟩⟩
      refine ⟨.tuple #[.int .i64 lo, .bool (y == x)], by simp [results, Try.f33, go_sem], ?_, ?_⟩
      · unfold foundV; rw [HLO.out, HAT.out]
      · exact (below_drewN hB nq).trans (belowK_b (w := w) (Nat.le_refl _) (W.drewN nq) D _ _ (by simp at hD; omega) hK rfl rfl)
    · rw [decide_eq_false hlt, Bool.false_and] at hat
      generalize hlo : low l x = lo at *
      have HAT := Lib.hid hat
      have g2 : decide ((lo : Int) < (l.length : Int)) = false := decide_eq_false (by omega)
      have HLO := Lib.hid hlo
      clear hat hlo hS
      gi_wp2_with fail
      refine wpIn_wide.2 ?_
      go_quiet (fail)
      gi_wp2_with fail
      refine ⟨by simp, .inl ⟨_, _, rfl, run_takeDeferred (show (W.drewN nq).heap[D]? = some (.deferred (some [])) from hK), ?_⟩⟩
      refine ⟨.tuple #[.int .i64 lo, .bool false], by simp [results, Try.f33, go_sem], ?_, ?_⟩
      · unfold foundV; rw [HLO.out, HAT.out]
      · exact (below_drewN hB nq).trans (belowK_b (w := w) (Nat.le_refl _) (W.drewN nq) D _ _ (by simp at hD; omega) hK rfl rfl)
end Go.Proofs.Ytmhnnilfehankaa
