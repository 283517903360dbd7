/- Run: what it comes to; a state copied in a region that draws its order; what lasts through the loop. -/
import Derived.Test.YtmclpganipfadaaGreatDoorMcE
namespace Go.Proofs.YtmclpganipfadaaGreatDoor
open Go.RowKit Go.Shelf Go.Maps
set_option linter.unusedVariables false

attribute [local go_sem] Oper.semAt_some

/-- Operations, as long as they return what was recorded: the state ahead of the first that does not, how many did, why it ended. -/
def runA : Sta → List Opr → Sta × Nat × Int
  | s, [] => (s, 0, 0)
  | s, o :: r => if okB (stepA s o) o = true then ((runA (stepA s o).st r).1, (runA (stepA s o).st r).2.1 + 1, (runA (stepA s o).st r).2.2) else (s, 0, if (stepA s o).e = 0 then 9 else (stepA s o).e)
def errOf (p : Ans) : Int := if p.e = 0 then 9 else p.e
def legalTo (s : Sta) (ops : List Opr) (k : Nat) : Prop := ∀ j, j < k → ∀ o, ops[j]? = some o → okB (stepA (stAt s ops j) o) o = true
theorem run_all : ∀ (s : Sta) (ops : List Opr), legalTo s ops ops.length → runA s ops = (stAt s ops ops.length, ops.length, 0)
  | s, [], _ => rfl
  | s, o :: r, h => by
    have h0 := h 0 (by simp) o rfl
    rw [stAt_zero] at h0
    have ih := run_all (stepA s o).st r (fun j hj o' ho' => h (j + 1) (by simp; omega) o' ho')
    unfold runA
    rw [if_pos h0, ih]
    rfl
theorem run_stop : ∀ (s : Sta) (ops : List Opr) (k : Nat) (o : Opr), ops[k]? = some o → legalTo s ops k → okB (stepA (stAt s ops k) o) o = false → runA s ops = (stAt s ops k, k, errOf (stepA (stAt s ops k) o))
  | s, [], k, o, h, _, _ => by simp at h
  | s, o' :: r, 0, o, h, hl, hn => by
    simp at h; subst h
    rw [stAt_zero] at hn ⊢
    unfold runA
    rw [if_neg (by rw [hn]; decide)]
    rfl
  | s, o' :: r, k + 1, o, h, hl, hn => by
    have h0 := hl 0 (by omega) o' rfl
    rw [stAt_zero] at h0
    have ih := run_stop (stepA s o').st r k o (by simpa using h) (fun j hj o2 ho2 => hl (j + 1) (by omega) o2 ho2) hn
    unfold runA
    rw [if_pos h0, ih]
    rfl

/-- The state behind what has come. -/
def lastS (s : Sta) (pre : List Yd) : Sta := (pre.getLast?.map (·.p.st)).getD s
theorem lastS_nil (s : Sta) : lastS s [] = s := rfl
theorem lastS_snoc (s : Sta) (pre : List Yd) (x : Yd) : lastS s (pre ++ [x]) = x.p.st := by simp [lastS]
/-- What has come returned what was recorded. -/
def legals (pre : List Yd) (ops : List Opr) : Prop := ∀ (j : Nat) (x : Yd) (o : Opr), pre[j]? = some x → ops[j]? = some o → okB x.p o = true
theorem legals_nil (ops : List Opr) : legals [] ops := fun j x o h => by simp at h
theorem legals_snoc {pre : List Yd} {ops : List Opr} {x : Yd} {o : Opr} (h : legals pre ops) (ho : ops[pre.length]? = some o) (hx : okB x.p o = true) : legals (pre ++ [x]) ops := fun j y o' hy ho' => by
  rcases Nat.lt_or_ge j pre.length with hj | hj
  · rw [List.getElem?_append_left hj] at hy; exact h j y o' hy ho'
  · rw [List.getElem?_append_right hj] at hy
    rcases Nat.eq_zero_or_pos (j - pre.length) with e | e
    · rw [e] at hy
      have : y = x := by simpa using hy.symm
      subst this
      obtain rfl : j = pre.length := by omega
      rw [ho] at ho'; cases ho'; exact hx
    · rw [List.getElem?_eq_none (by simp; omega)] at hy; cases hy
theorem yd_at {s : Sta} {ops : List Opr} {pre : List Yd} (h : pre.map (·.p) <+: answers s ops) {j : Nat} {x : Yd} (hx : pre[j]? = some x) : ∃ o, ops[j]? = some o ∧ x.p = stepA (stAt s ops j) o := by
  have hj : j < pre.length := (List.getElem?_eq_some_iff.1 hx).1
  have hl := h.length_le
  rw [List.length_map, answers_len] at hl
  obtain ⟨o, ho⟩ : ∃ o, ops[j]? = some o := ⟨_, List.getElem?_eq_getElem (by omega)⟩
  refine ⟨o, ho, ?_⟩
  have h1 := answers_at s ops j o ho
  obtain ⟨r, hr⟩ := h
  rw [← hr, List.getElem?_append_left (by simpa using hj), List.getElem?_map, hx] at h1
  exact Option.some.inj h1
theorem last_at {s : Sta} {ops : List Opr} : ∀ {pre : List Yd}, pre.map (·.p) <+: answers s ops → lastS s pre = stAt s ops pre.length := by
  intro pre h
  rcases List.eq_nil_or_concat pre with rfl | ⟨q, x, rfl⟩
  · rw [lastS_nil]; exact (stAt_zero s ops).symm
  · rw [List.concat_eq_append] at *
    obtain ⟨o, ho, hp⟩ := yd_at (j := q.length) (x := x) h (by simp)
    rw [lastS_snoc, hp, List.length_append, List.length_singleton, stAt_succ s ops _ o ho]
theorem legal_to {s : Sta} {ops : List Opr} {pre : List Yd} (h : pre.map (·.p) <+: answers s ops) (hl : legals pre ops) : legalTo s ops pre.length := fun j hj o ho => by
  obtain ⟨x, hx⟩ : ∃ x, pre[j]? = some x := ⟨_, List.getElem?_eq_getElem hj⟩
  obtain ⟨o', ho', hp⟩ := yd_at h hx
  rw [ho] at ho'; cases ho'
  rw [← hp]; exact hl j x o hx ho
theorem run_done {s : Sta} {ops : List Opr} {pre : List Yd} (h : pre.map (·.p) = answers s ops) (hl : legals pre ops) : runA s ops = (lastS s pre, pre.length, 0) := by
  have hlen : pre.length = ops.length := by have := congrArg List.length h; rwa [List.length_map, answers_len] at this
  have hp : pre.map (·.p) <+: answers s ops := by rw [h]; exact List.prefix_refl _
  rw [last_at hp, hlen, run_all s ops (hlen ▸ legal_to hp hl)]
theorem run_left {s : Sta} {ops : List Opr} {pre : List Yd} {x : Yd} (h : (pre ++ [x]).map (·.p) <+: answers s ops) (hl : legals pre ops) (hn : ∀ o, ops[pre.length]? = some o → okB x.p o = false) : runA s ops = (lastS s pre, pre.length, errOf x.p) := by
  have hp : pre.map (·.p) <+: answers s ops := by
    rw [List.map_append] at h
    exact (List.prefix_append _ _).trans h
  obtain ⟨o, ho, hx⟩ := yd_at (j := pre.length) (x := x) h (by simp)
  rw [last_at hp, run_stop s ops _ o ho (legal_to hp hl) (hx ▸ hn o ho), hx]

/-! ### What lasts -/

theorem mine_block {B : Nat} {t : TypeId} {X Y : World} {row : Option Nat} (hg : X.grownBy Y row) (hr : ∀ r, row = some r → Mine B t X r) {k : Nat} (hk : k < B) (hs : B ≤ X.heap.size) : Y.heap[k]? = X.heap[k]? :=
  hg.block k (by omega) (fun e => by have := (hr k e.symm).1; omega)
theorem holds_mine {B : Nat} {t : TypeId} {X Y : World} {row : Option Nat} (hg : X.grownBy Y row) (hr : ∀ r, row = some r → Mine B t X r) {k : Nat} {t' : TypeId} {cs : Array Value} (hk : k < B) (h : Holds X k t' cs) : Holds Y k t' cs :=
  h.kept hg (fun e => by have := (hr k e.symm).1; omega)
theorem row_mine {B : Nat} {t : TypeId} {X Y : World} {row : Option Nat} (hg : X.grownBy Y row) (hr : ∀ r, row = some r → Mine B t X r) {base : Nat} {e : TypeId} {size n : Nat} {v : Value} {xs : List Value} (h : X.ownsRow base e size v n xs) (hne : t ≠ e) : Y.ownsRow base e size v n xs := by
  refine h.kept hg ?_
  rcases h.2 with ⟨rfl, _⟩ | ⟨g, cap, cur, rfl, _, hgb, _⟩
  · exact .inl rfl
  · refine .inr fun e' => ?_
    obtain ⟨_, o, ho, hc⟩ := hr g (by simpa [Value.ownBlock] using e'.symm)
    rw [hgb] at ho
    cases ho
    rcases hc with hc | ⟨cs, fr, hc⟩
    · cases hc
    · injection hc with _ h2; exact hne h2.symm
theorem below_mine {B n : Nat} {t : TypeId} {w X Y : World} {row : Option Nat} (hg : X.grownBy Y row) (hr : ∀ r, row = some r → Mine B t X r) (h : Below n w X) (hn : n ≤ w.heap.size) (hB : n ≤ B) : Below n w Y :=
  h.grown hg (Nat.le_trans hn h.size) (fun k e => Nat.le_trans hB (hr k e).1)
theorem oprs_mine {B n₀ : Nat} {t : TypeId} {X Y : World} {row : Option Nat} (hg : X.grownBy Y row) (hr : ∀ r, row = some r → Mine B t X r) {A : Option Addr} {ops : List Opr} (h : OprsB n₀ X A ops) (hB : n₀ ≤ B) : OprsB n₀ Y A ops := fun hl => by
  obtain ⟨b, off, e, hlt, hc⟩ := h hl
  refine ⟨b, off, e, hlt, fun j o ho => ?_⟩
  obtain ⟨h0, h1, h2, h3, h4⟩ := hc j o ho
  have hb : b < X.heap.size := by
    obtain ⟨o', ho', _⟩ := cell_cells h0
    exact (Array.getElem?_eq_some_iff.1 ho').1
  have e : Y.heap[b]? = X.heap[b]? := hg.block b hb (fun e => by have := (hr b e.symm).1; omega)
  exact ⟨(World.cell?_of_block e).trans h0, (World.cell?_of_block e).trans h1, (World.cell?_of_block e).trans h2, (World.cell?_of_block e).trans h3, (World.cell?_of_block e).trans h4⟩

/-- Between two operations of Run. -/
structure RunC (w : World) (B4 Bl Bst Bc Be : Nat) (Ao : Option Addr) (co : Nat) (ops : List Opr) (s : Sta) (cnt : Nat) (er : Int) (W : World) : Prop where
  st : ∃ A c, Holds W Bst 24 #[.int .i64 s.t, .int .i64 s.n, .slice A s.l.length c] ∧ W.ownsRow w.heap.size 3 1 (.slice A s.l.length c) s.l.length (intsOf s.l)
  cnt : Holds W Bc 3 #[.int .i64 cnt]
  err : Holds W Be 31 #[.int .i64 er]
  l : Holds W Bl 41 #[.slice Ao ops.length co]
  res : Holds W B4 24 #[.int .i64 0, .int .i64 0, .slice none 0 0]
  ops : OprsB w.heap.size W Ao ops
  below : Below w.heap.size w W
theorem RunC.mine {w X Y : World} {B4 Bl Bst Bc Be B : Nat} {Ao : Option Addr} {co : Nat} {ops : List Opr} {s : Sta} {cnt : Nat} {er : Int} {row : Option Nat} (h : RunC w B4 Bl Bst Bc Be Ao co ops s cnt er X) (hg : X.grownBy Y row) (hr : ∀ r, row = some r → Mine B 24 X r)
    (hB : w.heap.size ≤ B) (h1 : B4 < B) (h2 : Bl < B) (h3 : Bst < B) (h4 : Bc < B) (h5 : Be < B) : RunC w B4 Bl Bst Bc Be Ao co ops s cnt er Y := by
  obtain ⟨A, c, ha, hb⟩ := h.st
  exact ⟨⟨A, c, holds_mine hg hr h3 ha, row_mine hg hr hb (by decide)⟩, holds_mine hg hr h4 h.cnt, holds_mine hg hr h5 h.err, holds_mine hg hr h2 h.l, holds_mine hg hr h1 h.res, oprs_mine hg hr h.ops hB, below_mine hg hr h.below (Nat.le_refl _) hB⟩
theorem RunC.alloc {w X : World} {B4 Bl Bst Bc Be : Nat} {Ao : Option Addr} {co : Nat} {ops : List Opr} {s : Sta} {cnt : Nat} {er : Int} (h : RunC w B4 Bl Bst Bc Be Ao co ops s cnt er X) (o : Obj) : RunC w B4 Bl Bst Bc Be Ao co ops s cnt er (X.alloc o) := by
  obtain ⟨A, c, ha, hb⟩ := h.st
  exact ⟨⟨A, c, ha.alloc o, row_below hb (alloc1 X o)⟩, h.cnt.alloc o, h.err.alloc o, h.l.alloc o, h.res.alloc o, h.ops.below ((alloc1 X o).mono h.below.size), gro_alloc h.below o⟩
theorem RunC.drew {w X : World} {B4 Bl Bst Bc Be : Nat} {Ao : Option Addr} {co : Nat} {ops : List Opr} {s : Sta} {cnt : Nat} {er : Int} (h : RunC w B4 Bl Bst Bc Be Ao co ops s cnt er X) : RunC w B4 Bl Bst Bc Be Ao co ops s cnt er X.drew := by
  obtain ⟨A, c, ha, hb⟩ := h.st
  exact ⟨⟨A, c, ha, hb⟩, h.cnt, h.err, h.l, h.res, h.ops, h.below.drew⟩
theorem RunC.fault {w X : World} {B4 Bl Bst Bc Be : Nat} {Ao : Option Addr} {co : Nat} {ops : List Opr} {s : Sta} {cnt : Nat} {er : Int} (h : RunC w B4 Bl Bst Bc Be Ao co ops s cnt er X) (er' : Int) (h1 : B4 ≠ Be) (h2 : Bl ≠ Be) (h3 : Bst ≠ Be) (h4 : Bc ≠ Be) (h5 : w.heap.size ≤ Be) :
    RunC w B4 Bl Bst Bc Be Ao co ops s cnt er' (X.setCell ⟨Be, 0, none⟩ (.int .i64 er')) := by
  obtain ⟨A, c, ha, hb⟩ := h.st
  exact ⟨⟨A, c, set_other ha _ _ h3, row_set hb Be 0 _ (fun g e e' => h.err.not_row hb (by decide) (by rw [e, e']))⟩, set_other h.cnt _ _ h4, h.err.set 0 _, set_other h.l _ _ h2, set_other h.res _ _ h1, h.ops.below ((Below.refl w.heap.size X).setCell (p := ⟨Be, 0, none⟩) h5 _), gro_set h.below _ _ h5⟩
/-- A box of one number is no row that was handed over. -/
theorem row_box {W : World} {B base : Nat} {v : Value} {n : Nat} {xs : List Value} {u : Value} (h : Holds W B 3 #[u]) (hr : W.ownsRow base 3 1 v n xs) (hB : B < base) : ∀ g, v.ownBlock = some g → g ≠ B := fun g e e' => by
  have := (hr.lt g e).1
  omega
theorem RunC.next {w X : World} {B4 Bl Bst Bc Be : Nat} {Ao : Option Addr} {co : Nat} {ops : List Opr} {s : Sta} {cnt : Nat} {er : Int} (h : RunC w B4 Bl Bst Bc Be Ao co ops s cnt er X) (t n : Int) (A : Option Addr) (c : Nat) (l : List Int) (k : Int) (hr : X.ownsRow w.heap.size 3 1 (.slice A l.length c) l.length (intsOf l)) (hg : ∀ g, (Value.slice A l.length c).ownBlock = some g → g ≠ Bc)
    (h1 : B4 ≠ Bst) (h2 : Bl ≠ Bst) (h3 : Be ≠ Bst) (h4 : Bc ≠ Bst) (h5 : w.heap.size ≤ Bst) (k1 : B4 ≠ Bc) (k2 : Bl ≠ Bc) (k3 : Be ≠ Bc) (k5 : w.heap.size ≤ Bc) (hk : k = ((cnt + 1 : Nat) : Int)) :
    RunC w B4 Bl Bst Bc Be Ao co ops ⟨t, n, l⟩ (cnt + 1) er ((((X.setCell ⟨Bst, 0, none⟩ (.int .i64 t)).setCell ⟨Bst, 1, none⟩ (.int .i64 n)).setCell ⟨Bst, 2, none⟩ (.slice A l.length c)).setCell ⟨Bc, 0, none⟩ (.int .i64 k)) := by
  obtain ⟨A0, c0, ha, hb⟩ := h.st
  have ng : ∀ g, (Value.slice A l.length c).ownBlock = some g → g ≠ Bst := fun g e e' => ha.not_row hr (by decide) (by rw [e, e'])
  subst hk
  have hbl : Below w.heap.size X ((((X.setCell ⟨Bst, 0, none⟩ (.int .i64 t)).setCell ⟨Bst, 1, none⟩ (.int .i64 n)).setCell ⟨Bst, 2, none⟩ (.slice A l.length c)).setCell ⟨Bc, 0, none⟩ (.int .i64 ((cnt + 1 : Nat) : Int))) :=
    ((((Below.refl w.heap.size X).setCell (p := ⟨Bst, 0, none⟩) h5 _).setCell (p := ⟨Bst, 1, none⟩) h5 _).setCell (p := ⟨Bst, 2, none⟩) h5 _).setCell (p := ⟨Bc, 0, none⟩) k5 _
  refine ⟨⟨A, c, set_other (set_three ha) _ _ h4.symm, row_set (row_set (row_set (row_set hr _ _ _ ng) _ _ _ ng) _ _ _ ng) _ _ _ hg⟩, ?_, ?_, ?_, ?_, h.ops.below hbl, h.below.trans hbl⟩
  · exact (set_other (set_other (set_other h.cnt _ _ h4) _ _ h4) _ _ h4).set 0 _
  · exact set_other (set_other (set_other (set_other h.err _ _ h3) _ _ h3) _ _ h3) _ _ k3
  · exact set_other (set_other (set_other (set_other h.l _ _ h2) _ _ h2) _ _ h2) _ _ k2
  · exact set_other (set_other (set_other (set_other h.res _ _ h1) _ _ h1) _ _ h1) _ _ k1
end Go.Proofs.YtmclpganipfadaaGreatDoor
