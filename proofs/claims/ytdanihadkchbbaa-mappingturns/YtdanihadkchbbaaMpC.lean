/- Contracts of the layer mapping: cut. -/
import Derived.Test.YtdanihadkchbbaaMpA
namespace Go.Proofs.Ytdanihadkchbbaa
open Go.RowKit Go.Shelf Go.Maps
set_option linter.unusedVariables false
set_option linter.unusedSimpArgs false

attribute [local go_sem] Oper.semAt_some

def partsV (A1 : Option Addr) (n1 c1 : Nat) (A2 : Option Addr) (n2 c2 : Nat) (v : Int) (b : Bool) : Value := .agg #[.slice A1 n1 c1, .slice A2 n2 c2, .int .i64 v, .bool b]
def CutPost (l : List Int) (x : Int) (w : World) (e : Ending) (w' : World) : Prop :=
  ∃ A1 c1 A2 c2, e = .returned (partsV A1 (l.take (kat l x)).length c1 A2 (l.drop (kend l x)).length c2 (kval l x) (khas l x)) ∧ Ints w A1 (l.take (kat l x)) ∧ Ints w A2 (l.drop (kend l x)) ∧ Below w.heap.size w w'

theorem holds_kept {X Y : World} {B : Nat} {t : TypeId} {cs : Array Value} {row : Option Nat} (h : Holds X B t cs) (hg : X.grownBy Y row) (hr : ∀ r, row = some r → ∃ o : Obj, X.heap[r]? = some o ∧ o.isCells = false) : Holds Y B t cs :=
  h.kept hg fun e => by
    obtain ⟨o, ho, hc⟩ := hr B e.symm
    rw [show X.heap[B]? = _ from h] at ho; cases ho; cases hc

/-- The four boxes that a key is looked for with. -/
structure CutBox (s : Nat) (w : World) (x a v : Int) (b : Bool) (W : World) : Prop where
  key : Holds W s 3 #[.int .i64 x]
  res : Holds W (s + 1) 58 #[.slice none 0 0, .slice none 0 0, .int .i64 0, .bool false]
  p : Holds W (s + 1 + 1) 58 #[.slice none 0 0, .slice none 0 0, .int .i64 v, .bool b]
  pos : Holds W (s + 1 + 1 + 1) 3 #[.int .i64 a]
  below : Below s w W
theorem CutBox.kept {s B : Nat} {w : World} {x a v : Int} {b : Bool} {X Y : World} {row : Option Nat} (hs : s ≤ w.heap.size) (hB : s ≤ B) (h : CutBox s w x a v b X) (hg : X.grownBy Y row) (hr : ∀ r, row = some r → B ≤ r ∧ ∃ o : Obj, X.heap[r]? = some o ∧ o.isCells = false) : CutBox s w x a v b Y :=
  ⟨holds_kept h.key hg (fun r e => (hr r e).2), holds_kept h.res hg (fun r e => (hr r e).2), holds_kept h.p hg (fun r e => (hr r e).2), holds_kept h.pos hg (fun r e => (hr r e).2), h.below.grown hg (Nat.le_trans hs h.below.size) (fun r e => Nat.le_trans hB (hr r e).1)⟩

theorem CutBox.setPos {s : Nat} {w : World} {x a v : Int} {b : Bool} {W : World} (h : CutBox s w x a v b W) (a' : Int) : CutBox s w x a' v b (W.setCell ⟨s + 1 + 1 + 1, 0, none⟩ (.int .i64 a')) :=
  ⟨set_other h.key _ _ (by omega), set_other h.res _ _ (by omega), set_other h.p _ _ (by omega), h.pos.set 0 _, h.below.setCell (p := ⟨s + 1 + 1 + 1, 0, none⟩) (show s ≤ s + 1 + 1 + 1 by omega) _⟩
theorem CutBox.setP {s : Nat} {w : World} {x a v : Int} {b : Bool} {W : World} (h : CutBox s w x a v b W) (v' : Int) (b' : Bool) : CutBox s w x a v' b' ((W.setCell ⟨s + 1 + 1, 2, none⟩ (.int .i64 v')).setCell ⟨s + 1 + 1, 3, none⟩ (.bool b')) :=
  ⟨set_other (set_other h.key _ _ (by omega)) _ _ (by omega), set_other (set_other h.res _ _ (by omega)) _ _ (by omega), (h.p.set 2 _).set 3 _, set_other (set_other h.pos _ _ (by omega)) _ _ (by omega), (h.below.setCell (p := ⟨s + 1 + 1, 2, none⟩) (show s ≤ s + 1 + 1 by omega) _).setCell (p := ⟨s + 1 + 1, 3, none⟩) (show s ≤ s + 1 + 1 by omega) _⟩

/-- Behind the loop: what is ahead and what is behind stand in p. -/
structure CutMid (s : Nat) (w : World) (u1 u2 : Value) (v : Int) (b : Bool) (W : World) : Prop where
  res : Holds W (s + 1) 58 #[.slice none 0 0, .slice none 0 0, .int .i64 0, .bool false]
  p : Holds W (s + 1 + 1) 58 #[u1, u2, .int .i64 v, .bool b]
  below : Below s w W
theorem cut_mid {s : Nat} {w : World} {x a v : Int} {b : Bool} {W : World} (h : CutBox s w x a v b W) (u1 u2 : Value) :
    CutMid s w u1 u2 v b ((W.setCell ⟨s + 1 + 1, 0, none⟩ u1).setCell ⟨s + 1 + 1, 1, none⟩ u2).drew ∧ KeepsOthers W ((W.setCell ⟨s + 1 + 1, 0, none⟩ u1).setCell ⟨s + 1 + 1, 1, none⟩ u2).drew :=
  ⟨⟨set_other (set_other h.res _ _ (by omega)) _ _ (by omega), (h.p.set 0 u1).set 1 u2, ((h.below.setCell (p := ⟨s + 1 + 1, 0, none⟩) (show s ≤ s + 1 + 1 by omega) _).setCell (p := ⟨s + 1 + 1, 1, none⟩) (show s ≤ s + 1 + 1 by omega) _).drew⟩,
    ((KeepsOthers.setCell _ _ _).trans (KeepsOthers.setCell _ _ _)).trans (KeepsOthers.drew _)⟩
theorem CutMid.put {s : Nat} {w : World} {u1 u2 : Value} {v : Int} {b : Bool} {W : World} (h : CutMid s w u1 u2 v b W) (u3 : Value) : CutMid s w u1 u3 v b (W.setCell ⟨s + 1 + 1, 1, none⟩ u3) ∧ KeepsOthers W (W.setCell ⟨s + 1 + 1, 1, none⟩ u3) :=
  ⟨⟨set_other h.res _ _ (by omega), h.p.set 1 u3, h.below.setCell (p := ⟨s + 1 + 1, 1, none⟩) (show s ≤ s + 1 + 1 by omega) _⟩, KeepsOthers.setCell _ _ _⟩
def fin4 (W : World) (s : Nat) (u1 u2 : Value) (v : Int) (b : Bool) : World := (((W.setCell ⟨s + 1, 0, none⟩ u1).setCell ⟨s + 1, 1, none⟩ u2).setCell ⟨s + 1, 2, none⟩ (.int .i64 v)).setCell ⟨s + 1, 3, none⟩ (.bool b)
theorem cut_fin {s : Nat} {w : World} {u1 u2 : Value} {v : Int} {b : Bool} {W : World} (h : CutMid s w u1 u2 v b W) :
    Holds (fin4 W s u1 u2 v b) (s + 1) 58 #[u1, u2, .int .i64 v, .bool b] ∧ Below s w (fin4 W s u1 u2 v b) ∧ KeepsOthers W (fin4 W s u1 u2 v b) :=
  ⟨(((h.res.set 0 u1).set 1 u2).set 2 (.int .i64 v)).set 3 (.bool b), (((h.below.setCell (p := ⟨s + 1, 0, none⟩) (show s ≤ s + 1 by omega) _).setCell (p := ⟨s + 1, 1, none⟩) (show s ≤ s + 1 by omega) _).setCell (p := ⟨s + 1, 2, none⟩) (show s ≤ s + 1 by omega) _).setCell (p := ⟨s + 1, 3, none⟩) (show s ≤ s + 1 by omega) _,
    (((KeepsOthers.setCell _ _ _).trans (KeepsOthers.setCell _ _ _)).trans (KeepsOthers.setCell _ _ _)).trans (KeepsOthers.setCell _ _ _)⟩
theorem cut_end {s D : Nat} {w W : World} {u1 u2 u3 u4 : Value} {tm : Array Value} {R : Ending → World → Prop} (hp : tm[4]?.getD undef = .pointer (some ⟨s + 1, 0, none⟩)) (h : Holds W (s + 1) 58 #[u1, u2, u3, u4]) (hB : Below s w W) (hs : s = w.heap.size) (hD : s + 5 ≤ D) (hK : W.heap[D]? = some (.deferred (some [])))
    (hR : ∀ W', Below s w W' → R (.returned (.agg #[u1, u2, u3, u4])) W') :
    bodyPostM Fence.wide 6 Try.prog Try.f33 R .ret { tmps := tm, defers := [{ target := .collected D, args := #[] }] } W := by
  subst hs
  have hBe := hB.trans (belowK_b (w := w) (Nat.le_refl _) W D _ (.deferred none) (by omega) hK rfl rfl)
  have hP2 : Holds (W.putObj D (.deferred none)) (w.heap.size + 1) 58 #[u1, u2, u3, u4] := h.of (World.putObj_heap_other (by omega))
  have p0 := hP2.c (j := 0) rfl
  have p1 := hP2.c (j := 1) rfl
  have p2 := hP2.c (j := 2) rfl
  have p3 := hP2.c (j := 3) rfl
  refine ⟨by simp, .inl ⟨_, _, rfl, run_takeDeferred hK, ?_⟩⟩
  refine ⟨.agg #[u1, u2, u3, u4], ?_, hR _ hBe⟩
  simp [results, Try.f33, go_sem, hp, p0, p1, p2, p3]

theorem cut_says {l : List Int} {x : Int} {p q : Nat} {v : Int} {b : Bool} {w W' : World} {A1 A2 : Option Addr} {n2 c1 c2 : Nat} (h1 : p = kat l x) (h2 : v = kval l x) (h3 : b = khas l x) (h4 : kend l x = q) (hp : p ≤ l.length) (hn : n2 = l.length - q)
    (hA1 : Ints w A1 (l.take p)) (hA2 : Ints w A2 (l.drop q)) (hB : Below w.heap.size w W') : CutPost l x w (.returned (.agg #[.slice A1 p c1, .slice A2 n2 c2, .int .i64 v, .bool b])) W' := by
  subst h1 h2 h3 h4 hn
  refine ⟨A1, c1, A2, c2, ?_, hA1, hA2, hB⟩
  unfold partsV
  rw [List.length_take, List.length_drop, Nat.min_eq_left hp]

/-- All keys so far are less. -/
def CutI (s : Nat) (w : World) (x : Int) (pre : List (Int × Int)) (W : World) : Prop := CutBox s w x ((2 * pre.length : Nat) : Int) 0 false W ∧ ∀ q ∈ pre, q.1 < x
/-- The last one is not. -/
def CutX (s : Nat) (w : World) (x : Int) (pre : List (Int × Int)) (W : World) : Prop :=
  ∃ q k u v, pre = q ++ [(k, u)] ∧ (∀ p ∈ q, p.1 < x) ∧ ¬ k < x ∧ v = (if k = x then u else 0) ∧ CutBox s w x ((2 * q.length : Nat) : Int) v (k == x) W

set_option maxRecDepth 100000 in
set_option maxHeartbeats 2000000 in
theorem cut_any (A : Option Addr) (c : Nat) (l : List Int) (x : Int) (w : World) (hA : Ints w A l) (hlen : l.length ≤ 1000) (hc : l.length ≤ c) :
    Calls Try.prog 33 #[.slice A l.length c, .int .i64 x] w (CutPost l x w) := by
  refine (callsIn_wide (n := 6)).1 ?_
  refine callsIn_of_wp_marks Try.func33 rfl trivial ?_ rfl
  simp only [Try.ntmps33, List.size_toArray, List.length_cons, List.length_nil, Nat.reduceAdd, Nat.reduceSub, Array.replicate_succ, Array.replicate_zero, List.push_toArray, List.append_toArray, List.nil_append, List.cons_append]
  gi_wp2_with (refine ⟨trivial, ?_⟩; gi_at_call 43; refine (entries_in Fence.wide _ trivial rfl _ _ _ _).mono ?_; rintro e w' ⟨rfl, rfl⟩)
  rename_i K hKt
  obtain ⟨W0, hW0⟩ : ∃ W0, ((((w.alloc (.cells #[.int .i64 x] 3)).alloc (.cells #[.slice none 0 0, .slice none 0 0, .int .i64 0, .bool false] 58)).alloc (.cells #[.slice none 0 0, .slice none 0 0, .int .i64 0, .bool false] 58)).alloc (.cells #[.int .i64 0] 3)).alloc (.cells #[.slice A l.length c] 22) = W0 := ⟨_, rfl⟩
  have hsz : W0.heap.size = w.heap.size + 5 := by rw [← hW0]; simp
  have hB0 : Below w.heap.size w W0 := by
    rw [← hW0]; exact (((((Below.refl _ w).alloc (Nat.le_refl _) _).alloc (by simp) _).alloc (by simp; omega) _).alloc (by simp; omega) _).alloc (by simp; omega) _
  have hC0 : CutBox w.heap.size w x 0 0 false W0 := by
    refine ⟨?_, ?_, ?_, ?_, hB0⟩
    · rw [← hW0]; exact ((((Holds.new w _ _).alloc _).alloc _).alloc _).alloc _
    · rw [← hW0]; exact (((new_second w _ _ _).alloc _).alloc _).alloc _
    · rw [← hW0]; have := ((Holds.new ((w.alloc (.cells #[.int .i64 x] 3)).alloc (.cells #[.slice none 0 0, .slice none 0 0, .int .i64 0, .bool false] 58)) 58 #[.slice none 0 0, .slice none 0 0, .int .i64 0, .bool false]).alloc (.cells #[.int .i64 0] 3)).alloc (.cells #[.slice A l.length c] 22); rwa [World.size_alloc, World.size_alloc] at this
    · rw [← hW0]; have := (Holds.new (((w.alloc (.cells #[.int .i64 x] 3)).alloc (.cells #[.slice none 0 0, .slice none 0 0, .int .i64 0, .bool false] 58)).alloc (.cells #[.slice none 0 0, .slice none 0 0, .int .i64 0, .bool false] 58)) 3 #[.int .i64 0]).alloc (.cells #[.slice A l.length c] 22); rwa [World.size_alloc, World.size_alloc, World.size_alloc] at this
  have hL0 : Holds W0 (w.heap.size + 1 + 1 + 1 + 1) 22 #[.slice A l.length c] := by
    rw [← hW0]; have := Holds.new ((((w.alloc (.cells #[.int .i64 x] 3)).alloc (.cells #[.slice none 0 0, .slice none 0 0, .int .i64 0, .bool false] 58)).alloc (.cells #[.slice none 0 0, .slice none 0 0, .int .i64 0, .bool false] 58)).alloc (.cells #[.int .i64 0] 3)) 22 #[.slice A l.length c]; rwa [World.size_alloc, World.size_alloc, World.size_alloc, World.size_alloc] at this
  rw [hW0]
  clear hW0
  have hA0 : IntsB w.heap.size w A l := hA
  obtain ⟨p, hpe⟩ : ∃ p, p = kat l x := ⟨_, rfl⟩
  obtain ⟨v, hve⟩ : ∃ v, v = kval l x := ⟨_, rfl⟩
  obtain ⟨b, hbe⟩ : ∃ b, b = khas l x := ⟨_, rfl⟩
  have tail : ∀ (D : Nat) (W : World), w.heap.size + 5 ≤ D → CutBox w.heap.size w x (p : Int) v b W → W.heap[D]? = some (.deferred (some [])) →
      K { tmps := #[.slice A l.length c, .int .i64 x, undef, .pointer (some ⟨w.heap.size, 0, none⟩), .pointer (some ⟨w.heap.size + 1, 0, none⟩), .pointer (some ⟨w.heap.size + 1 + 1, 0, none⟩), .pointer (some ⟨w.heap.size + 1 + 1 + 1, 0, none⟩), undef, undef, .agg #[.slice none 0 0, .slice none 0 0, .int .i64 0, .bool false], .slice A l.length c, .func (.func 50) #[] #[.pointer (some ⟨w.heap.size + 1 + 1 + 1 + 1, 0, none⟩)], undef, undef, undef, undef, undef, undef, undef, undef, undef, undef, undef, undef, undef, undef, undef, undef, undef, undef, undef, undef, undef, undef, undef, undef, undef, undef, undef, undef], defers := [{ target := .collected D, args := #[] }] } W := by
    intro D W hD hv hK
    have hke := kat_le l x
    have hend : kend l x = p + if b = true then 2 else 0 := by unfold kend; rw [← hpe, ← hbe]
    rw [hend] at hke
    have c0 := hv.pos.c (j := 0) rfl
    have p0 := hv.p.c (j := 0) rfl
    have p1 := hv.p.c (j := 1) rfl
    have p2 := hv.p.c (j := 2) rfl
    have p3 := hv.p.c (j := 3) rfl
    have f0 := hv.p.frozen 0
    have f1 := hv.p.frozen 1
    have f2 := hv.p.frozen 2
    have f3 := hv.p.frozen 3
    have q0 := hv.res.c (j := 0) rfl
    have q1 := hv.res.c (j := 1) rfl
    have q2 := hv.res.c (j := 2) rfl
    have q3 := hv.res.c (j := 3) rfl
    have z0 := hv.res.frozen 0
    have z1 := hv.res.frozen 1
    have z2 := hv.res.frozen 2
    have z3 := hv.res.frozen 3
    have HV := Lib.hid hv
    have HPE := Lib.hid hpe
    have HVE := Lib.hid hve
    have HBE := Lib.hid hbe
    have HEND := Lib.hid hend
    have HK := Lib.hid hK
    refine hKt _ _ ?_
    clear hKt hv hpe hve hbe hend hK
    have g0 : (0 : Int) ≤ (p : Int) := by omega
    have g3 : (l.length : Int) ≤ (c : Int) := by omega
    have hke2 : p ≤ l.length := by omega
    have g1 : (p : Int) ≤ (c : Int) := by omega
    have g2 : (p : Int) ≤ (l.length : Int) := by omega
    have hw2 : W.drew.cell? ⟨w.heap.size + 1 + 1 + 1, 0, none⟩ = some (.int .i64 p) := c0
    gi_wp2_with fail
    refine wpIn_wide.2 ?_
    refine wp_region_noPanic ?_
    refine wp_region_picked [(0, true), (1, true), (2, true), (3, true), (4, true), (5, true), (6, true), (7, false), (8, true), (9, false)] (fun W' => W'.cell? ⟨w.heap.size + 1 + 1 + 1, 0, none⟩ = some (.int .i64 p)) (by kernel_rfl) (by kernel_rfl) (fun _ _ _ _ _ h => h) hw2 ?_
    iterate 5
      refine Picked.take ?_ (by rfl) (by rfl) ?_ ?_
      rotate_left
      · intro w' hw'
        go_simp
        try with_reducible rfl
      simp only [Act.put, List.getElem_toArray, List.getElem_cons_zero, List.getElem_cons_succ, List.setIfInBounds_toArray, List.set_cons_zero, List.set_cons_succ]
    refine Picked.take (.slice (subA A c p) (l.length - p) (c - p)) (by rfl) (by rfl) ?_ ?_
    · intro w' hw'
      by_cases hcp : c = p
      · have e1 : subA A c p = A := by unfold subA; rw [if_pos hcp]
        have e2 : c - p = 0 := by omega
        rw [e1, e2]
        go_simp
      · have e1 : subA A c p = A.map (·.add p) := by unfold subA; rw [if_neg hcp]
        rw [e1]
        go_simp
    simp only [Act.put, List.getElem_toArray, List.getElem_cons_zero, List.getElem_cons_succ, List.setIfInBounds_toArray, List.set_cons_zero, List.set_cons_succ]
    refine Picked.take ?_ (by rfl) (by rfl) ?_ ?_
    rotate_left
    · intro w' hw'
      go_simp
      try with_reducible rfl
    simp only [Act.put, List.getElem_toArray, List.getElem_cons_zero, List.getElem_cons_succ, List.setIfInBounds_toArray, List.set_cons_zero, List.set_cons_succ]
    refine ⟨_, by rfl, by rfl, ?_⟩
    go_simp
    refine Picked.take ?_ (by rfl) (by rfl) ?_ ?_
    rotate_left
    · intro w' hw'
      go_simp
      try with_reducible rfl
    simp only [Act.put, List.getElem_toArray, List.getElem_cons_zero, List.getElem_cons_succ, List.setIfInBounds_toArray, List.set_cons_zero, List.set_cons_succ]
    refine ⟨_, by rfl, by rfl, ?_⟩
    go_simp
    refine NoPanic.normal ?_
    obtain ⟨u2, hu2⟩ : ∃ u2, subA A c p = u2 := ⟨_, rfl⟩
    have hD' : Ints w (subA A c p) (l.drop p) := ints_drop hA c p hc
    rw [hu2] at hD' ⊢
    obtain ⟨hm, hko⟩ := cut_mid HV.out (.slice A p c) (.slice u2 (l.length - p) (c - p))
    have HD1 := Lib.hid (hko.same D _ HK.out rfl)
    have HD' := Lib.hid hD'
    clear hD' hu2 c0 p0 p1 p2 p3 f0 f1 f2 f3 q0 q1 q2 q3 z0 z1 z2 z3 hw2
    generalize ((W.setCell ⟨w.heap.size + 1 + 1, 0, none⟩ (.slice A p c)).setCell ⟨w.heap.size + 1 + 1, 1, none⟩ (.slice u2 (l.length - p) (c - p))).drew = W1 at *
    have p0 := hm.p.c (j := 0) rfl
    have p1 := hm.p.c (j := 1) rfl
    have p2 := hm.p.c (j := 2) rfl
    have p3 := hm.p.c (j := 3) rfl
    have f1 := hm.p.frozen 1
    have q0 := hm.res.c (j := 0) rfl
    have q1 := hm.res.c (j := 1) rfl
    have q2 := hm.res.c (j := 2) rfl
    have q3 := hm.res.c (j := 3) rfl
    have z0 := hm.res.frozen 0
    have z1 := hm.res.frozen 1
    have z2 := hm.res.frozen 2
    have z3 := hm.res.frozen 3
    have HM := Lib.hid hm
    clear hm hko
    cases b with
    | false =>
      gi_wp2
      obtain ⟨h1, h2, h3⟩ := cut_fin HM.out
      refine cut_end rfl h1 h2 rfl hD (h3.same D _ HD1.out rfl) (fun W' hB' => ?_)
      exact cut_says HPE.out HVE.out HBE.out (by rw [HEND.out]; rfl) hke2 (by omega) (ints_take hA p) HD'.out hB'
    | true =>
      have hke3 : p + 2 ≤ l.length := by simpa using hke
      have g4 : (2 : Int) ≤ ((l.length - p : Nat) : Int) := by omega
      have g5 : ((l.length - p : Nat) : Int) ≤ ((c - p : Nat) : Int) := by omega
      have g6 : (2 : Int) ≤ ((c - p : Nat) : Int) := by omega
      obtain ⟨b2, o2, rfl, -, -⟩ := HD'.out (by rw [List.length_drop]; omega)
      have hD2 := ints_drop HD'.out (c - p) 2 (by rw [List.length_drop]; omega)
      rw [List.drop_drop] at hD2
      unfold subA at hD2
      have HD2 := Lib.hid hD2
      clear hD2
      by_cases hcp2 : c - p = 2
      · rw [if_pos hcp2] at HD2
        gi_wp2
        obtain ⟨hm2, hko2⟩ := HM.out.put (.slice (some ⟨b2, o2, none⟩) (l.length - p - 2) 0)
        obtain ⟨h1, h2, h3⟩ := cut_fin hm2
        refine cut_end rfl h1 h2 rfl hD (h3.same D _ (hko2.same D _ HD1.out rfl) rfl) (fun W' hB' => ?_)
        exact cut_says HPE.out HVE.out HBE.out (by rw [HEND.out]; rfl) hke2 (by omega) (ints_take hA p) HD2.out hB'
      · rw [if_neg hcp2] at HD2
        gi_wp2
        obtain ⟨hm2, hko2⟩ := HM.out.put (.slice (some ⟨b2, o2 + 2, none⟩) (l.length - p - 2) (c - p - 2))
        obtain ⟨h1, h2, h3⟩ := cut_fin hm2
        refine cut_end rfl h1 h2 rfl hD (h3.same D _ (hko2.same D _ HD1.out rfl) rfl) (fun W' hB' => ?_)
        exact cut_says HPE.out HVE.out HBE.out (by rw [HEND.out]; rfl) hke2 (by omega) (ints_take hA p) HD2.out hB'
  refine wpIn_rangeFunc_ownG rfl (by omega) (gf := 50) (lb := #[.pointer (some ⟨w.heap.size + 1 + 1 + 1 + 1, 0, none⟩)]) rfl trivial (enters_of Try.func50 (by kernel_rfl) rfl)
    (entries_stops 5 (by omega) (w.heap.size + 1 + 1 + 1 + 1) w.heap.size A c l hlen W0 (by omega) (by omega) (hL0.c (j := 0) rfl) (hA0.below hB0)) KeptO.trans (KeptO.put (by omega) (by omega)) (Below.refl _ _) (fun _ => rfl)
    (fun pre W => CutI w.heap.size w x pre W)
    (fun cd pre W => cd = .exit 0 ∧ CutX w.heap.size w x pre W)
    (fun pre X Y row hs hg hr => ⟨hs.1.kept (Nat.le_refl _) (by omega) hg hr, hs.2⟩)
    (fun cd pre X Y row hs hg hr => ⟨hs.1, by obtain ⟨q, k, u, v, h1, h2, h3, h4, h5⟩ := hs.2; exact ⟨q, k, u, v, h1, h2, h3, h4, h5.kept (Nat.le_refl _) (by omega) hg hr⟩⟩)
    ⟨hC0, fun q hq => by cases hq⟩
    (fun y => { tmps := #[.slice A l.length c, .int .i64 x, undef, .pointer (some ⟨w.heap.size, 0, none⟩), .pointer (some ⟨w.heap.size + 1, 0, none⟩), .pointer (some ⟨w.heap.size + 1 + 1, 0, none⟩), .pointer (some ⟨w.heap.size + 1 + 1 + 1, 0, none⟩), .int .i64 y.1, .int .i64 y.2, .agg #[.slice none 0 0, .slice none 0 0, .int .i64 0, .bool false], .slice A l.length c, .func (.func 50) #[] #[.pointer (some ⟨w.heap.size + 1 + 1 + 1 + 1, 0, none⟩)], .int .i64 y.1, .int .i64 y.2, undef, undef, undef, undef, undef, undef, undef, undef, undef, undef, undef, undef, undef, undef, undef, undef, undef, undef, undef, undef, undef, undef, undef, undef, undef, undef], defers := [] }) ?assign ?body ?done ?stop
  case assign =>
    intro l y W K hK
    gi_wp2
    exact hK
  case body =>
    rintro lp pre ⟨k, u⟩ W ⟨hv, hB⟩ hlt
    have hdl := duos_len l
    have hn : ((2 * pre.length : Nat) : Int) ≤ 1000 := by omega
    have HB := Lib.hid hB
    have HV := Lib.hid hv
    have c0 := hv.key.c (j := 0) rfl
    have p2 := hv.p.c (j := 2) rfl
    have p3 := hv.p.c (j := 3) rfl
    have f2 := hv.p.frozen 2
    have f3 := hv.p.frozen 3
    have a0 := hv.pos.c (j := 0) rfl
    have fa := hv.pos.frozen 0
    clear hB hv
    generalize hnn : 2 * pre.length = n at *
    have HN := Lib.hid hnn
    clear hnn
    by_cases hkx : k < x
    · have g1 : (k == x) = false := by simp; omega
      have g2 : decide (x ≤ k) = false := decide_eq_false (by omega)
      have g3 : decide (k ≥ x) = false := decide_eq_false (by omega)
      gi_wp2
      refine ⟨(KeepsOthers.setCell _ _ _).from _, KeptO.set _ _ _ _ _ (by simp; omega) (by simp), ?_, ?_⟩
      · have := HV.out.setPos ((n : Int) + 2)
        rw [List.length_append, List.length_cons, List.length_nil, show ((2 * (pre.length + (0 + 1)) : Nat) : Int) = (n : Int) + 2 by have := HN.out; omega]
        exact this
      · intro q hq
        rcases List.mem_append.1 hq with hq | hq
        · exact HB.out q hq
        · obtain rfl : q = (k, u) := by simpa using hq
          exact hkx
    · by_cases e : k = x
      · subst e
        have g1 : (k == k) = true := by simp
        have g2 : decide (k ≤ k) = true := decide_eq_true (by omega)
        have g3 : decide (k ≥ k) = true := decide_eq_true (by omega)
        gi_wp2
        refine ⟨((KeepsOthers.setCell _ _ _).trans (KeepsOthers.setCell _ _ _)).from _, rfl, pre, k, u, u, rfl, HB.out, by omega, by rw [if_pos rfl], ?_⟩
        have := HV.out.setP u true
        rw [HN.out, g1]
        exact this
      · have g1 : (k == x) = false := by simp; omega
        have g2 : decide (x ≤ k) = true := decide_eq_true (by omega)
        have g3 : decide (k ≥ x) = true := decide_eq_true (by omega)
        gi_wp2
        refine ⟨(KeepsOthers.refl _).from _, rfl, pre, k, u, 0, rfl, HB.out, by omega, by rw [if_neg e], ?_⟩
        have := HV.out
        rw [HN.out, g1]
        exact this
  case done =>
    rintro D ys W hD rfl ⟨hv, hB⟩ hK
    obtain ⟨h1, h2⟩ := cut_none l x hB
    rw [← h1, ← hpe] at hv
    obtain rfl : v = 0 := by rw [hve]; unfold kval; rw [h2]; rfl
    obtain rfl : b = false := by rw [hbe]; unfold khas; rw [h2]; rfl
    exact tail D W (by omega) hv hK
  case stop =>
    rintro D cd pre W hD hS ⟨rfl, q, k, u, v', rfl, h1, h2, h3, hX⟩ hK
    obtain ⟨k1, k2, k3⟩ := cut_some l x k u q hS h1 h2
    rw [← k1, ← hpe] at hX
    obtain rfl : v = v' := by rw [hve]; unfold kval; rw [k2, h3]; split <;> rfl
    obtain rfl : b = (k == x) := by
      rw [hbe]; unfold khas; rw [k2]
      by_cases e : k = x
      · simp [e]
      · simp [e]
    have := tail D W (by omega) hX hK
    refine wpIn_exit ?_
    exact this
end Go.Proofs.Ytdanihadkchbbaa
