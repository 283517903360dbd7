/- Contracts of the layer fifo: list. -/
import Derived.Test.YthnaogdiiflljaaFiE
namespace Go.Proofs.Ythnaogdiiflljaa
open Go.RowKit Go.Shelf Go.Maps
set_option linter.unusedVariables false
set_option linter.unusedSimpArgs false

attribute [local go_sem] Oper.semAt_some

def ListPost (B : Nat) (l : List Int) (w : World) (e : Ending) (w' : World) : Prop :=
  ∃ A c, e = .returned (.slice A l.length c) ∧ w'.ownsRow w.heap.size 3 1 (.slice A l.length c) l.length (intsOf l) ∧ w.grownBy w' (some B)

theorem grow_two {a b : World} {row : Option Nat} (h : a.grownBy b none) (o o' : Obj) : a.grownBy ((b.alloc o).alloc o') row :=
  ⟨h.os, h.tape, h.output, by have := h.size; simp; omega, fun k hk _ => ((Below.heap_alloc (b.alloc o) o' k (by have := h.size; simp; omega)).trans (Below.heap_alloc b o k (by have := h.size; omega))).trans (h.block k hk (by simp))⟩
theorem own_not {W : World} {base : Nat} {e : TypeId} {size : Nat} {v : Value} {n : Nat} {xs : List Value} (h : W.ownsRow base e size v n xs) {D : Nat} {o : Obj} (hD : W.heap[D]? = some o) (hc : o.isCells = false) : v.ownBlock = none ∨ v.ownBlock ≠ some D := by
  rcases h.2 with ⟨rfl, _⟩ | ⟨g, cap, cur, rfl, _, hg, _⟩
  · exact .inl rfl
  · refine .inr (fun e => ?_)
    cases (Option.some.inj e : g = D)
    rw [hg] at hD; cases hD; cases hc
/-- What has been told so far lies in a row of the call's own, its slice in box P; box Q holds where the ring is. -/
structure Lst (w : World) (B P Q : Nat) (pre : List Int) (W : World) : Prop where
  row : ∃ v, Boxed W P 22 v ∧ W.ownsRow w.heap.size 3 1 v pre.length (intsOf pre)
  ptr : Holds W Q 70 #[.pointer (some ⟨B, 0, none⟩)]
  grown : w.grownBy W (some B)
theorem Lst.kept {w : World} {B P Q : Nat} {pre : List Int} {X Y : World} {row : Option Nat} (h : Lst w B P Q pre X) (hB : B < w.heap.size) (hP : B ≠ P) (hQ : B ≠ Q) (hg : X.grownBy Y row) (hr : ∀ r, row = some r → r = B) : Lst w B P Q pre Y := by
  obtain ⟨v, h1, h2⟩ := h.row
  have hne : ∀ k, k ≠ B → some k ≠ row := fun k hk e => hk (hr k e.symm)
  refine ⟨⟨v, h1.kept hg (hne P hP.symm), h2.kept hg ?_⟩, h.ptr.kept hg (hne Q hQ.symm), ⟨hg.os.trans h.grown.os, hg.tape.trans h.grown.tape, hg.output.trans h.grown.output, Nat.le_trans h.grown.size hg.size, fun k hk hk2 => (hg.block k (Nat.lt_of_lt_of_le hk h.grown.size) (hne k (fun e => hk2 (by rw [e])))).trans (h.grown.block k hk hk2)⟩⟩
  cases e : v.ownBlock with
  | none => exact .inl rfl
  | some k => exact .inr (hne k (by have := (h2.lt k e).1; omega))
theorem Lst.put {w : World} {B P Q : Nat} {pre : List Int} {X : World} (h : Lst w B P Q pre X) (l : Nat) (o o' : Obj) (hl : w.heap.size ≤ l) (ho : X.heap[l]? = some o) (hc : o.isCells = false) : Lst w B P Q pre (X.putObj l o') := by
  obtain ⟨v, h1, h2⟩ := h.row
  have hg := grownBy_putObj' X l o'
  have hne : ∀ k x, X.heap[k]? = some x → x.isCells = true → k ≠ l := fun k x hk hx e => by subst e; rw [hk] at ho; cases ho; rw [hx] at hc; cases hc
  refine ⟨⟨v, h1.kept hg (fun e => hne P _ h1 rfl (Option.some.inj e)), h2.kept hg ?_⟩, h.ptr.kept hg (fun e => hne Q _ h.ptr rfl (Option.some.inj e)), ⟨h.grown.os, h.grown.tape, h.grown.output, by have := h.grown.size; simpa using this, fun k hk hk2 => (World.putObj_heap_other (by omega)).trans (h.grown.block k hk hk2)⟩⟩
  rcases h2.2 with ⟨rfl, _⟩ | ⟨g, cap, cur, rfl, _, hg2, _⟩
  · exact .inl rfl
  · exact .inr (fun e => hne g _ hg2 rfl (Option.some.inj e))
theorem Lst.more {w W w1 : World} {B P Q : Nat} {pre : List Int} {x : Int} {v v' : Value} {tmp : Obj} (hP : w.heap.size ≤ P) (hv : Boxed W P 22 v) (hrow : W.ownsRow w.heap.size 3 1 v pre.length (intsOf pre)) (hptr : Holds W Q 70 #[.pointer (some ⟨B, 0, none⟩)]) (hgr : w.grownBy W (some B)) (hPQ : P ≠ Q)
    (hown : w1.ownsRow w.heap.size 3 1 v' (pre.length + 1) (intsOf pre ++ [.int .i64 x])) (hg : (W.alloc tmp).grownBy w1 v.ownBlock) (X : Nat → Prop) (hX : ∀ k, X k → k = Q ∨ k < w.heap.size) :
    Boxed w1 P 22 v ∧ KeepsOthers W (w1.setCell ⟨P, 0, none⟩ v') ∧ KeptAt X W (w1.setCell ⟨P, 0, none⟩ v') ∧ Lst w B P Q (pre ++ [x]) (w1.setCell ⟨P, 0, none⟩ v') := by
  obtain ⟨hv1, hv2, hr2, hk2, hb2⟩ := hv.appended (by decide) hrow hgr.size hP hown hg
  have hp1 : Holds w1 Q 70 #[.pointer (some ⟨B, 0, none⟩)] := (hptr.alloc tmp).kept hg (hptr.not_row hrow (by decide))
  have hp2 : Holds (w1.setCell ⟨P, 0, none⟩ v') Q 70 #[.pointer (some ⟨B, 0, none⟩)] := hp1.of (Below.heap_setCell _ _ _ _ hPQ.symm)
  refine ⟨hv1, hk2, ⟨hk2.size, fun k o hk ho hc => ?_⟩, ⟨⟨v', hv2, ?_⟩, hp2, ⟨hb2.os.trans hgr.os, hb2.tape.trans hgr.tape, hb2.output.trans hgr.output, Nat.le_trans hgr.size hb2.size, fun k hk hne => (hb2.block k hk).trans (hgr.block k hk hne)⟩⟩⟩
  · rcases hX k hk with rfl | hlt
    · rw [show W.heap[k]? = _ from hptr] at ho
      cases ho
      exact hp2
    · exact (hb2.block k hlt).trans ho
  · rw [List.length_append, List.length_cons, List.length_nil]
    simpa [intsOf] using hr2

set_option maxRecDepth 100000 in
set_option maxHeartbeats 2000000 in
theorem list_any (base B g : Nat) (cs : List Int) (p : Nat) (l : List Int) (w : World) (h : Ring base w B g cs p l) (hlen : cs.length ≤ 5000) :
    Calls Try.prog 29 #[.pointer (some ⟨B, 0, none⟩)] w (ListPost B l w) := by
  obtain ⟨i0, hi, hz0, hz1, hz2⟩ := info_parts info_int
  have hfit := h.fit
  have HR := Lib.hid h
  have hlt := h.box.lt
  have hgl := h.glt
  have hBG := h.ne
  obtain ⟨n, hn⟩ : ∃ n, n = l.length := ⟨_, rfl⟩
  have HS := rsize_any base B g cs p l w h
  rw [← hn] at HS hfit
  have Hn := Lib.hid hn
  clear h hn
  refine (callsIn_wide (n := 6)).1 ?_
  refine callsIn_of_wp_marks Try.func29 rfl trivial ?_ rfl
  simp only [Try.ntmps29, List.size_toArray, List.length_cons, List.length_nil, Nat.reduceAdd, Nat.reduceSub, Array.replicate_succ, Array.replicate_zero, List.push_toArray, List.append_toArray, List.nil_append, List.cons_append]
  gi_wp2_with (first
    | (refine ⟨trivial, ?_⟩; gi_at_call 36; refine (callsIn_wide.2 HS).mono ?_; rintro e w' ⟨rfl, hw'⟩; replace hw' := hw'.symm; subst hw')
    | (refine ⟨trivial, ?_⟩; gi_at_call 37; refine (drain_in Fence.wide _ trivial rfl _ _).mono ?_; rintro e w' ⟨rfl, rfl⟩)
    | (gi_at_make; refine wpListIn_make_own _ rfl _ _ 22 rfl w.heap.size 3 i0 (.int .i64 0) 1 Try.underlying22 hi hz0 hz1 .i64 .i64 _ n rfl rfl rfl (by rw [hz2]; omega) (by unfold maxLen; omega) (Nat.le_refl _) ?_; intro w1 hown1 hg1))
  rename_i K hKt
  have hs1 := hg1.size
  have hP : w.heap.size ≤ w1.heap.size := hs1
  have bP := (Boxed.new w1 22 (.slice (some ⟨w.heap.size, 0, none⟩) 0 n)).alloc (.cells #[.pointer (some ⟨B, 0, none⟩)] 70)
  have bQ := new_second w1 (.cells #[.slice (some ⟨w.heap.size, 0, none⟩) 0 n] 22) 70 #[.pointer (some ⟨B, 0, none⟩)]
  have hrow := (hown1.alloc (.cells #[.slice (some ⟨w.heap.size, 0, none⟩) 0 n] 22)).alloc (.cells #[.pointer (some ⟨B, 0, none⟩)] 70)
  have hgr : w.grownBy ((w1.alloc (.cells #[.slice (some ⟨w.heap.size, 0, none⟩) 0 n] 22)).alloc (.cells #[.pointer (some ⟨B, 0, none⟩)] 70)) (some B) := grow_two hg1 _ _
  have hsz : ((w1.alloc (.cells #[.slice (some ⟨w.heap.size, 0, none⟩) 0 n] 22)).alloc (.cells #[.pointer (some ⟨B, 0, none⟩)] 70)).heap.size = w1.heap.size + 2 := by simp
  have hR0 := HR.out.kept (grow_two (row := none) hg1 (.cells #[.slice (some ⟨w.heap.size, 0, none⟩) 0 n] 22) (.cells #[.pointer (some ⟨B, 0, none⟩)] 70)) (by simp) (by simp)
  generalize (w1.alloc (.cells #[.slice (some ⟨w.heap.size, 0, none⟩) 0 n] 22)).alloc (.cells #[.pointer (some ⟨B, 0, none⟩)] 70) = W0 at *
  obtain ⟨P, hPe⟩ : ∃ P, P = w1.heap.size := ⟨_, rfl⟩
  rw [← hPe] at bP bQ hsz hP ⊢
  clear hown1 hg1 hs1 hPe HS
  refine range_ring B (by omega) rfl (by omega) (gf := 41) (lb := #[.pointer (some ⟨P + 1, 0, none⟩)]) rfl trivial (enters_of Try.func41 (by kernel_rfl) rfl)
    (drain_whole 5 (by omega) base (P + 1) B g cs p l hlen W0 (by omega) bQ hR0) KeptAt.trans (fun W l o o' _ h1 h2 => KeptAt.put _ W l o o' h1 h2) (fun _ => rfl)
    (fun (pre : List Int) W => Lst w B P (P + 1) pre W)
    (fun s X Y row hs hg hr => hs.kept hlt (by omega) (by omega) hg hr)
    (fun s X l o o' hs hl ho hc => hs.put l o o' (by omega) ho hc)
    ⟨⟨_, bP, by simpa [intsOf] using hrow⟩, bQ, hgr⟩
    (fun x a' W => a' = { tmps := #[.pointer (some ⟨B, 0, none⟩), undef, .slice none 0 0, .pointer (some ⟨P, 0, none⟩), .int .i64 x, .pointer (some ⟨B, 0, none⟩), .pointer (some ⟨B, 0, none⟩), .pointer (some ⟨B, 0, none⟩), .int .i64 n, .slice (some ⟨w.heap.size, 0, none⟩) 0 n, .pointer (some ⟨B, 0, none⟩), .pointer (some ⟨B, 0, none⟩), .pointer (some ⟨B, 0, none⟩), .func (.func 41) #[] #[.pointer (some ⟨P + 1, 0, none⟩)], .int .i64 x, undef, undef, undef, undef, undef], defers := [] })
    (fun x a' W l o o' h1 ho hc => h1) ?assign ?body ?done
  case assign =>
    intro l pre x W K hsz hI hK
    gi_wp2
    exact hK _ _ (KeepsOthers.refl _) (KeptAt.refl _ _) hI rfl
  case body =>
    rintro lp pre x a' W hI rfl hlt2
    obtain ⟨⟨v, hv, hrow⟩, hptr, hgr⟩ := hI
    have hc := hv.cell
    have hws := hgr.size
    gi_wp2_with (gi_at_builtin; refine wpListIn_append_own _ rfl _ _ 22 rfl w.heap.size 3 i0 (.int .i64 0) 1 8 Try.underlying22 hi hz0 hz1 hz2 rfl (by decide) _ _ _ rfl (hrow.alloc _) ⟨W.heap.size, 0, none⟩ 1 1 [.int .i64 x] rfl rfl (cell_one_new _ _ _) (by simp [Value.oneCell']) (by simp only [maxLen]; have := Hn.out; omega) (by have := Hn.out; omega) (by simp; omega) ?_; intro v' w2 hown' hgrow _; obtain ⟨g', cap', rfl⟩ := ownsRow_succ hown'; obtain ⟨hv1, hk2, hkp2, hL2⟩ := Lst.more hP hv hrow hptr hgr (by omega) hown' hgrow (fun k => k = P + 1 ∨ k = B ∨ k = g) (fun k hk => by omega); have hc1 := hv1.cell; have hf1 := hv1.frozen)
  case done =>
    rintro D ys W hD rfl hI hK
    obtain ⟨⟨v, hv, hrow⟩, hptr, hgr⟩ := hI
    have hc := hv.cell
    obtain ⟨A3, c3, rfl, -⟩ := row_shape hrow
    refine hKt _ _ ?_
    gi_wp2
    refine ⟨by simp, .inl ⟨_, _, rfl, run_takeDeferred hK, ?_⟩⟩
    refine ⟨_, results_tmp rfl _ _ _, A3, c3, rfl, ?_, ?_⟩
    · exact hrow.kept (grownBy_putObj' W D _) (own_not hrow hK rfl)
    · exact ⟨hgr.os, hgr.tape, hgr.output, by have := hgr.size; simpa using this, fun k hk hk2 => (World.putObj_heap_other (by omega)).trans (hgr.block k hk hk2)⟩
end Go.Proofs.Ythnaogdiiflljaa
