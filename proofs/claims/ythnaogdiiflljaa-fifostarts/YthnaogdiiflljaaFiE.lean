/- Contracts of the layer fifo: the iterator drain. -/
import Derived.Test.YthnaogdiiflljaaFiRg
import Derived.Test.YthnaogdiiflljaaFiD
namespace Go.Proofs.Ythnaogdiiflljaa
open Go.RowKit Go.Shelf Go.Maps
set_option linter.unusedVariables false
set_option linter.unusedSimpArgs false

attribute [local go_sem] Oper.semAt_some

/-- These blocks lie as they lay, if they are cells. -/
structure KeptAt (X : Nat → Prop) (W W' : World) : Prop where
  size : W.heap.size ≤ W'.heap.size
  same : ∀ (k : Nat) (o : Obj), X k → W.heap[k]? = some o → o.isCells = true → W'.heap[k]? = some o
theorem KeptAt.refl (X : Nat → Prop) (W : World) : KeptAt X W W := ⟨Nat.le_refl _, fun _ _ _ h _ => h⟩
theorem KeptAt.trans {X : Nat → Prop} {A B C : World} (h : KeptAt X A B) (k : KeptAt X B C) : KeptAt X A C :=
  ⟨Nat.le_trans h.size k.size, fun i o hi ho hc => k.same i o hi (h.same i o hi ho hc) hc⟩
theorem KeptAt.put (X : Nat → Prop) (W : World) (l : Nat) (o o' : Obj) (h : W.heap[l]? = some o) (hc : o.isCells = false) : KeptAt X W (W.putObj l o') :=
  ⟨by simp, fun k x _ hk hx => (World.putObj_heap_other (fun e => by subst e; rw [hk] at h; cases h; rw [hx] at hc; cases hc)).trans hk⟩
theorem KeptAt.grown {X : Nat → Prop} {W W' : World} {row : Option Nat} (h : W.grownBy W' row) (hr : ∀ r, row = some r → ¬ X r) : KeptAt X W W' :=
  ⟨h.size, fun k o hk ho _ => (h.block k (Array.getElem?_eq_some_iff.1 ho).1 (fun e => hr k e.symm hk)).trans ho⟩
theorem KeptAt.holds {X : Nat → Prop} {W W' : World} (h : KeptAt X W W') {k : Nat} {t : TypeId} {cs : Array Value} (hk : X k) (hh : Holds W k t cs) : Holds W' k t cs := h.same k _ hk hh rfl
theorem KeptAt.row {X : Nat → Prop} {W W' : World} (h : KeptAt X W W') {base g n cap : Nat} {e : TypeId} {size : Nat} {xs : List Value} (hk : X g) (hh : W.ownsRow base e size (.slice (some ⟨g, 0, none⟩) n cap) n xs) : W'.ownsRow base e size (.slice (some ⟨g, 0, none⟩) n cap) n xs := by
  refine ⟨hh.1, ?_⟩
  rcases hh.2 with h' | ⟨g', cap', cur, h1, h2, h3, h4⟩
  · exact .inl h'
  · injection h1 with e1 e2 e3
    injection e1 with e1
    injection e1 with e1
    subst e1 e3
    exact .inr ⟨g, cap, cur, rfl, h2, h.same g _ hk h3 rfl, h4⟩
theorem KeptAt.ring {X : Nat → Prop} {W W' : World} (h : KeptAt X W W') {base B g p : Nat} {cs q : List Int} (hB : X B) (hg : X g) (hh : Ring base W B g cs p q) : Ring base W' B g cs p q :=
  ⟨h.holds hB hh.box, h.row hg hh.row, hh.own, hh.laid, hh.inn⟩

theorem drain_in (F : Fence) (m : Nat) (h1 : F.fn 37) (hro : F.round = none) (B : Nat) (w : World) :
    CallsIn F m Try.prog 37 #[.pointer (some ⟨B, 0, none⟩)] w fun e w' => e = .returned (.func (.func 41) #[] #[.pointer (some ⟨w.heap.size, 0, none⟩)]) ∧ w' = w.alloc (.cells #[.pointer (some ⟨B, 0, none⟩)] 70) := by
  refine callsIn_of_wp Try.func37 rfl h1 ?_ hro
  simp only [Try.ntmps37, List.size_toArray, List.length_cons, List.length_nil, Nat.reduceAdd, Nat.reduceSub, Array.replicate_succ, Array.replicate_zero, List.push_toArray, List.append_toArray, List.nil_append, List.cons_append]
  gi_wp2
  go_ret
  exact ⟨rfl, rfl⟩

/-- How many are in a ring. -/
def countAt (B : Nat) (w : World) : Nat :=
  match w.cell? ⟨B, 2, none⟩ with
  | some (.int _ k) => k.toNat
  | _ => 0
theorem count_eq {base : Nat} {W : World} {B g : Nat} {cs : List Int} {p : Nat} {q : List Int} (h : Ring base W B g cs p q) : countAt B W = q.length := by
  unfold countAt
  rw [h.box.c (j := 2) rfl]
  simp

set_option maxRecDepth 100000 in
set_option maxHeartbeats 1000000 in
theorem drain1_in (m : Nat) (hm : 1 ≤ m) (lp base Bp B g : Nat) (cs : List Int) (p0 : Nat) (q : List Int) (hlen : cs.length ≤ 5000) (J : List Int → World → Prop)
    (W : World) (hJ : AfarQ B J) (hpB : Bp ≠ B)
    (hY : ∀ pre x W, J pre W → pre.length < q.length → YieldAt Fence.wide (m - 1) Try.prog lp #[.int .i64 x] W fun e W' => e = .returned (.bool true) ∧ J (pre ++ [x]) W' ∧ KeptAt (fun k => k = Bp ∨ k = B ∨ k = g) W W')
    (hBp : Holds W Bp 70 #[.pointer (some ⟨B, 0, none⟩)]) (hR : Ring base W B g cs p0 q) (h0 : J [] W) :
    CallsIn Fence.wide m Try.prog 41 #[.func (.yield lp) #[] #[], .pointer (some ⟨Bp, 0, none⟩)] W fun e W' => (∃ v, e = .returned v) ∧ ∃ ys : List Int, ys = q ∧ J ys W' := by
  refine callsIn_of_wp Try.func41 rfl trivial ?_ rfl
  simp only [Try.ntmps41, List.size_toArray, List.length_cons, List.length_nil, Nat.reduceAdd, Nat.reduceSub, Array.replicate_succ, Array.replicate_zero, List.push_toArray, List.append_toArray, List.nil_append, List.cons_append]
  have HR0 := Lib.hid hR
  have HP0 := Lib.hid hBp
  have H0 := Lib.hid h0
  clear hR hBp h0
  gi_wp2
  gi_loopw [3, 4, 5] (fun s3 s4 s5 wr => ∃ (p : Nat) (pre r : List Int), pre ++ r = q ∧ Holds wr Bp 70 #[.pointer (some ⟨B, 0, none⟩)] ∧ Ring base wr B g cs p r ∧ J pre wr) (fun s3 s4 s5 wr => countAt B wr)
  case atStart => exact ⟨p0, [], q, rfl, HP0.out, HR0.out, H0.out⟩
  case round =>
    obtain ⟨p, pre, r, hq, hP, hR, hJr⟩ := hrel
    have HQ := Lib.hid hq
    have HP := Lib.hid hP
    have HR := Lib.hid hR
    have HJ := Lib.hid hJr
    have cp := hP.c (j := 0) rfl
    clear hq hP hR hJr
    cases r with
    | nil =>
      have HT := take_none base B g cs p wr HR.out
      gi_wp2_with fail
      refine ⟨trivial, (callsIn_wide.2 HT).mono ?_⟩
      rintro e w1 ⟨rfl, rfl⟩
      gi_wp2
      refine ⟨fun f e => (by cases e), ?_⟩
      gi_wp2
      refine bodyPost_ret (results_none rfl _ _ _) rfl ?_
      refine ⟨⟨_, rfl⟩, q, rfl, ?_⟩
      have h1 := HJ.out
      rw [show pre = q by have := HQ.out; simpa using this] at h1
      exact h1
    | cons x r =>
      have HT := take_some base B g cs p x r wr HR.out (by omega)
      gi_wp2_with fail
      refine ⟨trivial, (callsIn_wide.2 HT).mono ?_⟩
      rintro e w1 ⟨rfl, ⟨p1, hR1⟩, hg1⟩
      have HP1 := Lib.hid (HP.out.kept hg1 (by intro e; exact hpB (Option.some.inj e)))
      have hJ1 := hJ pre wr w1 (some B) HJ.out hg1 (fun r e => (Option.some.inj e).symm)
      obtain ⟨fn, tmps, assign, body, hy, hR⟩ := hY pre x w1 hJ1 (by rw [← HQ.out, List.length_append, List.length_cons]; omega)
      have HR1 := Lib.hid hR1
      clear hR1 hg1 hJ1 HT
      gi_wp2_with fail
      refine hR.mono ?_
      rintro e W3 ⟨rfl, hJ3, hk3⟩
      have hR3 := hk3.ring (.inr (.inl rfl)) (.inr (.inr rfl)) HR1.out
      have hP3 := hk3.holds (.inl rfl) HP1.out
      have HJ3 := Lib.hid hJ3
      have HR3 := Lib.hid hR3
      have HP3 := Lib.hid hP3
      clear hJ3 hk3 hR3 hP3
      gi_wp2
      go_roundw
      case rel => exact ⟨p1, pre ++ [x], r, by rw [List.append_assoc]; exact HQ.out, HP3.out, HR3.out, HJ3.out⟩
      case measure => rw [count_eq HR3.out, count_eq HR.out, List.length_cons]; omega

theorem drain_whole (m : Nat) (hm : 1 ≤ m) (base Bp B g : Nat) (cs : List Int) (p0 : Nat) (q : List Int) (hlen : cs.length ≤ 5000) (w : World) (hpB : Bp ≠ B)
    (hBp : Holds w Bp 70 #[.pointer (some ⟨B, 0, none⟩)]) (hR : Ring base w B g cs p0 q) :
    WholeQ B Fence.wide m Try.prog 41 #[.pointer (some ⟨Bp, 0, none⟩)] (fun x : Int => #[Value.int .i64 x]) (KeptAt (fun k => k = Bp ∨ k = B ∨ k = g)) (fun ys => ys = q) q.length w := fun lp J W hW hJ hY h0 =>
  drain1_in m hm lp base Bp B g cs p0 q hlen J W hJ hpB hY (hBp.below hW hBp.lt) (hR.below hW (Nat.le_refl _)) h0
end Go.Proofs.Ythnaogdiiflljaa
