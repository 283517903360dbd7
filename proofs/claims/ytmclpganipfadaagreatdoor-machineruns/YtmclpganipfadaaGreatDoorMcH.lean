/- The layer machine: Run. -/
import Derived.Test.YtmclpganipfadaaGreatDoorMcX
import Derived.WalkMore
import Derived.ControlIn
namespace Go.Proofs.YtmclpganipfadaaGreatDoor
open Go.RowKit Go.Shelf Go.Maps
set_option linter.unusedVariables false

attribute [local go_sem] Oper.semAt_some

theorem wpIn_scope_wide {n : Nat} {P : Program} {c : Code} {Q : Exit → Act → World → Prop} {a : Act} {w : World} (h : c.wpIn Fence.wide n P (Exit.noGoto Q) a w) : (Code.scope c).wpIn Fence.wide n P Q a w :=
  wpIn_wide.2 (wp_scope_straight ((wpIn_wide (n := n)).1 h))

theorem states1_early (m : Nat) (hm : 1 ≤ m) (Bs Bl n₀ hi : Nat) (s : Sta) (A : Option Addr) (c : Nat) (Ao : Option Addr) (co : Nat) (ops : List Opr) (hlen : s.l.length + 2 * ops.length ≤ 800) (hc : s.l.length ≤ c) (hsm : ∀ o ∈ ops, Small o.a)
    (w : World) (hn : n₀ ≤ hi) (hh : hi ≤ w.heap.size) (hs1 : hi ≤ Bs) (hs2 : hi ≤ Bl)
    (hBs : Holds w Bs 24 #[.int .i64 s.t, .int .i64 s.n, .slice A s.l.length c]) (hBl : Holds w Bl 41 #[.slice Ao ops.length co]) (hA : IntsB n₀ w A s.l) (hO : OprsB n₀ w Ao ops) :
    Early 24 Fence.wide m Tryz.prog 51 #[.pointer (some ⟨Bs, 0, none⟩), .pointer (some ⟨Bl, 0, none⟩)] Yd.encs (KeptM n₀ hi) (Yd.rx hi) (fun xs => xs.map (·.p) = answers s ops) (fun pre => pre.map (·.p) <+: answers s ops) ops.length w := fun lp J Jx W hW hJ hJx hY h0 =>
  states1_in m hm lp Bs Bl n₀ hi s A c Ao co ops hlen hc hsm J Jx W hJ hJx hn (Nat.le_trans hh hW.size) hs1 hs2 hY (hBs.below hW hBs.lt) (hBl.below hW hBl.lt) (hA.below (hW.mono (by omega))) (hO.below (hW.mono (by omega))) h0

set_option maxHeartbeats 1000000 in
theorem neq_ret (w : World) (a b c d : Int) : (binOp .neq 26 (.agg #[.int .i64 a, .int .i64 b]) (.agg #[.int .i64 c, .int .i64 d])).run Tryz.prog w = .ok (.bool (!sameRet a b c d)) w := by
  unfold sameRet
  cases h1 : (a == c) <;> cases h2 : (b == d)
  all_goals go_simp

def RunPost (r : Sta × Nat × Int) (w : World) (e : Ending) (w' : World) : Prop :=
  ∃ A c, e = .returned (.tuple #[stV r.1.t r.1.n A r.1.l.length c, .int .i64 r.2.1, .int .i64 r.2.2]) ∧ w'.ownsRow w.heap.size 3 1 (.slice A r.1.l.length c) r.1.l.length (intsOf r.1.l) ∧ Below w.heap.size w w'


theorem run_end {D B4 : Nat} {w W : World} {s : Sta} {A : Option Addr} {c cnt : Nat} {er : Int} {r : Sta × Nat × Int} {tm : Array Value} (hr : r = (s, cnt, er)) (h4 : tm[4]?.getD undef = .pointer (some ⟨B4, 0, none⟩)) (h5 : tm[5]?.getD undef = .int .i64 cnt) (h6 : tm[6]?.getD undef = .int .i64 er)
    (h : Holds W B4 24 #[.int .i64 s.t, .int .i64 s.n, .slice A s.l.length c]) (ho : W.ownsRow w.heap.size 3 1 (.slice A s.l.length c) s.l.length (intsOf s.l)) (hB : Below w.heap.size w W) (hD : w.heap.size ≤ D) (hK : W.heap[D]? = some (.deferred (some []))) :
    bodyPostM Fence.wide 8 Tryz.prog Tryz.f15 (RunPost r w) .ret { tmps := tm, defers := [{ target := .collected D, args := #[] }] } W := by
  subst hr
  have hBe := hB.trans (belowK_b (w := w) (Nat.le_refl _) W D _ (.deferred none) hD hK rfl rfl)
  have hP2 : Holds (W.putObj D (.deferred none)) B4 24 #[.int .i64 s.t, .int .i64 s.n, .slice A s.l.length c] := h.of (World.putObj_heap_other (fun e => by subst e; rw [show W.heap[_]? = _ from h] at hK; cases hK))
  have p0 : (W.putObj D (.deferred none)).cell? ⟨B4, 0, none⟩ = _ := hP2.c rfl
  have p1 : (W.putObj D (.deferred none)).cell? ⟨B4, 1, none⟩ = _ := hP2.c rfl
  have p2 : (W.putObj D (.deferred none)).cell? ⟨B4, 2, none⟩ = _ := hP2.c rfl
  refine ⟨by simp, .inl ⟨_, _, rfl, run_takeDeferred hK, ?_⟩⟩
  refine ⟨.tuple #[stV s.t s.n A s.l.length c, .int .i64 cnt, .int .i64 er], ?_, A, c, rfl, ownsRow_putObj ho _ hK rfl, hBe⟩
  simp [results, Tryz.f15, go_sem, h4, h5, h6, p0, p1, p2, stV]

set_option maxRecDepth 100000 in
set_option maxHeartbeats 4000000 in
theorem mcrun_any (s : Sta) (A : Option Addr) (c : Nat) (Ao : Option Addr) (co : Nat) (ops : List Opr) (w : World) (hA : Ints w A s.l) (hO : Oprs w Ao ops) (hlen : s.l.length + 2 * ops.length ≤ 800) (hc : s.l.length ≤ c) (hsm : ∀ o ∈ ops, Small o.a) :
    Calls Tryz.prog 15 #[stV s.t s.n A s.l.length c, .slice Ao ops.length co] w (RunPost (runA s ops) w) := by
  refine (callsIn_wide (n := 8)).1 ?_
  refine callsIn_of_wp_marks Tryz.func15 rfl trivial ?_ rfl
  simp only [Tryz.ntmps15, List.size_toArray, List.length_cons, List.length_nil, Nat.reduceAdd, Nat.reduceSub, Array.replicate_succ, Array.replicate_zero, List.push_toArray, List.append_toArray, List.nil_append, List.cons_append]
  unfold stV
  gi_wp2
  refine wpIn_scope_wide ?_
  gi_wp2_with fail
  have HS0 := ((Holds.new w 24 #[.int .i64 s.t, .int .i64 s.n, .slice A s.l.length c]).alloc (.cells #[.slice Ao ops.length co] 41)).alloc (.cells #[.int .i64 0, .int .i64 0, .slice none 0 0] 24)
  have HL0 := (new_second w (.cells #[.int .i64 s.t, .int .i64 s.n, .slice A s.l.length c] 24) 41 #[.slice Ao ops.length co]).alloc (.cells #[.int .i64 0, .int .i64 0, .slice none 0 0] 24)
  have HR0 := new_second (w.alloc (.cells #[.int .i64 s.t, .int .i64 s.n, .slice A s.l.length c] 24)) (.cells #[.slice Ao ops.length co] 41) 24 #[.int .i64 0, .int .i64 0, .slice none 0 0]
  rw [World.size_alloc] at HR0
  have hB0 : Below w.heap.size w (((w.alloc (.cells #[.int .i64 s.t, .int .i64 s.n, .slice A s.l.length c] 24)).alloc (.cells #[.slice Ao ops.length co] 41)).alloc (.cells #[.int .i64 0, .int .i64 0, .slice none 0 0] 24)) := gro_alloc (gro_alloc (alloc1 w _) _) _
  have hsz : (((w.alloc (.cells #[.int .i64 s.t, .int .i64 s.n, .slice A s.l.length c] 24)).alloc (.cells #[.slice Ao ops.length co] 41)).alloc (.cells #[.int .i64 0, .int .i64 0, .slice none 0 0] 24)).heap.size = w.heap.size + 3 := by simp
  generalize ((w.alloc (.cells #[.int .i64 s.t, .int .i64 s.n, .slice A s.l.length c] 24)).alloc (.cells #[.slice Ao ops.length co] 41)).alloc (.cells #[.int .i64 0, .int .i64 0, .slice none 0 0] 24) = W0 at *
  have hl0 : w.heap.size < W0.heap.size := by omega
  refine wpIn_wide.2 ?_
  refine wp_region_noPanic ?_
  refine wp_region_forked (Plan.takes [0, 1, 2, 3, 4, 5] (.copied 6)) (fun W' => Below W0.heap.size W0 W') (by kernel_rfl) (by kernel_rfl) (fun _ _ _ _ _ h => h) (Below.refl _ _).drew ?_
  unfold Plan.takes Plan.takes Plan.takes Plan.takes Plan.takes Plan.takes Plan.takes
  iterate 6
    refine Forked.ask ?_ (by rfl) (by rfl) ?_ ?_
    rotate_left
    · intro w' hw'
      have s0 : w'.cell? ⟨w.heap.size, 0, none⟩ = _ := (hw'.cell (p := ⟨w.heap.size, 0, none⟩) hl0).trans (HS0.c rfl)
      have s1 : w'.cell? ⟨w.heap.size, 1, none⟩ = _ := (hw'.cell (p := ⟨w.heap.size, 1, none⟩) hl0).trans (HS0.c rfl)
      have s2 : w'.cell? ⟨w.heap.size, 2, none⟩ = _ := (hw'.cell (p := ⟨w.heap.size, 2, none⟩) hl0).trans (HS0.c rfl)
      go_simp
      try with_reducible rfl
    simp only [Act.put, List.getElem_toArray, List.getElem_cons_zero, List.getElem_cons_succ, List.setIfInBounds_toArray, List.set_cons_zero, List.set_cons_succ]
  refine copied5 (t := s.t) (n := s.n) (l := s.l) rfl rfl rfl rfl rfl rfl rfl rfl rfl rfl rfl rfl rfl rfl rfl rfl rfl rfl rfl rfl rfl rfl rfl (by decide) (by intro d hd; simp at hd ⊢; omega) (hA.below hB0) (by omega) (Below.refl _ _).drew ?_
  intro Bst vB A1 c1 W1 hX HX hr1 hB1
  refine NoPanic.normal ?_
  simp only [Act.put, List.setIfInBounds_toArray, List.set_cons_zero, List.set_cons_succ]
  have hs1 := hB1.size
  have HL1 := HL0.below hB1 (by omega)
  have HS1 := HS0.below hB1 (by omega)
  have HR1 := HR0.below hB1 (by omega)
  have hBw1 := onto hB0 hB1
  have C2 : RunC w (w.heap.size + 1 + 1) (w.heap.size + 1) Bst W1.heap.size (W1.heap.size + 1) Ao co ops s 0 0 ((W1.alloc (.cells #[.int .i64 0] 3)).alloc (.cells #[.int .i64 0] 31)) :=
    ⟨⟨A1, c1, (HX.alloc _).alloc _, row_below (row_below (row_more hr1 hB0.size) (alloc1 W1 _)) (alloc1 _ _)⟩, (Holds.new W1 _ _).alloc _, new_second W1 _ _ _, (HL1.alloc _).alloc _, (HR1.alloc _).alloc _, (hO.below hBw1).below ((gro_alloc (alloc1 W1 (.cells #[.int .i64 0] 3)) (.cells #[.int .i64 0] 31)).mono hBw1.size), gro_alloc (gro_alloc hBw1 _) _⟩
  have HS2 := (HS1.alloc (.cells #[.int .i64 0] 3)).alloc (.cells #[.int .i64 0] 31)
  have hlX := HX.lt
  have hsz2 : ((W1.alloc (.cells #[.int .i64 0] 3)).alloc (.cells #[.int .i64 0] 31)).heap.size = W1.heap.size + 2 := by simp
  clear hr1 HX HL0 HS0 HR0 HL1 HS1 HR1
  gi_wp2_with fail
  refine wpIn_label ?_
  generalize (W1.alloc (.cells #[.int .i64 0] 3)).alloc (.cells #[.int .i64 0] 31) = W2 at *
  have s0 : W2.cell? ⟨w.heap.size, 0, none⟩ = some (.int .i64 s.t) := HS2.c rfl
  have s1 : W2.cell? ⟨w.heap.size, 1, none⟩ = some (.int .i64 s.n) := HS2.c rfl
  have s2 : W2.cell? ⟨w.heap.size, 2, none⟩ = some (.slice A s.l.length c) := HS2.c rfl
  have l0 : W2.cell? ⟨w.heap.size + 1, 0, none⟩ = some (.slice Ao ops.length co) := C2.l.c rfl
  gi_wp2_with fail
  refine ⟨trivial, ?_⟩
  refine (states_in Fence.wide _ trivial rfl _ _ _ _ _ _ _ _ _).mono ?_
  rintro e w3 ⟨rfl, rfl⟩
  gi_wp2_with fail
  have hBw3 : Below w.heap.size w ((W2.alloc (.cells #[.int .i64 s.t, .int .i64 s.n, .slice A s.l.length c] 24)).alloc (.cells #[.slice Ao ops.length co] 41)) := gro_alloc (gro_alloc C2.below _) _
  have C3 := (C2.alloc (.cells #[.int .i64 s.t, .int .i64 s.n, .slice A s.l.length c] 24)).alloc (.cells #[.slice Ao ops.length co] 41)
  have HBs := (Holds.new W2 24 #[.int .i64 s.t, .int .i64 s.n, .slice A s.l.length c]).alloc (.cells #[.slice Ao ops.length co] 41)
  have HBl := new_second W2 (.cells #[.int .i64 s.t, .int .i64 s.n, .slice A s.l.length c] 24) 41 #[.slice Ao ops.length co]
  rw [hsz2] at HBs HBl
  have hsz3 : ((W2.alloc (.cells #[.int .i64 s.t, .int .i64 s.n, .slice A s.l.length c] 24)).alloc (.cells #[.slice Ao ops.length co] 41)).heap.size = W1.heap.size + 4 := by simp; omega
  have hA3 : IntsB w.heap.size ((W2.alloc (.cells #[.int .i64 s.t, .int .i64 s.n, .slice A s.l.length c] 24)).alloc (.cells #[.slice Ao ops.length co] 41)) A s.l := IntsB.below (show IntsB w.heap.size w A s.l from hA) hBw3
  refine range_left (t := 24) rfl (by omega) (gf := 51) (lb := #[.pointer (some ⟨W1.heap.size + 2, 0, none⟩), .pointer (some ⟨W1.heap.size + 2 + 1, 0, none⟩)]) rfl trivial (enters_of Tryz.func51 (by kernel_rfl) rfl)
    (states1_early 7 (by omega) (W1.heap.size + 2) (W1.heap.size + 2 + 1) w.heap.size (W1.heap.size + 2) s A c Ao co ops hlen hc hsm _ (by have := hBw1.size; omega) (by omega) (Nat.le_refl _) (by omega) HBs HBl hA3 C3.ops) KeptM.trans (fun W l o o' _ h1 h2 => KeptM.put _ _ W l o o' h1 h2) (fun _ => rfl)
    (fun pre W => legals pre ops ∧ RunC w (w.heap.size + 1 + 1) (w.heap.size + 1) Bst W1.heap.size (W1.heap.size + 1) Ao co ops (lastS s pre) pre.length 0 W)
    (fun cd pre W => cd = .exit 0 ∧ ∃ (q : List Yd) (x : Yd), pre = q ++ [x] ∧ legals q ops ∧ (∀ o, ops[q.length]? = some o → okB x.p o = false) ∧ RunC w (w.heap.size + 1 + 1) (w.heap.size + 1) Bst W1.heap.size (W1.heap.size + 1) Ao co ops (lastS s q) q.length (errOf x.p) W)
    (fun pre X Y row hs hg hr => ⟨hs.1, hs.2.mine hg hr (by have := hBw1.size; omega) (by omega) (by omega) (by omega) (by omega) (by omega)⟩)
    (fun cd pre X Y row hs hg hr => by
      obtain ⟨h1, q, x, h2, h3, h4, h5⟩ := hs
      exact ⟨h1, q, x, h2, h3, h4, h5.mine hg hr (by have := hBw1.size; omega) (by omega) (by omega) (by omega) (by omega) (by omega)⟩)
    ⟨legals_nil ops, C3⟩
    (fun x a' W => ∃ X Y : Nat, W1.heap.size + 2 ≤ X ∧ X ≠ Y ∧ W1.heap.size + 2 ≤ Y ∧ Holds W X 24 #[.int .i64 x.p.t, .int .i64 x.p.n, .slice x.A x.p.l.length x.c] ∧ Holds W Y 63 #[.int .i64 x.p.k, .int .i64 x.p.r, .int .i64 x.p.e] ∧ x.rx (W1.heap.size + 2) W ∧ a' = { tmps := #[.agg #[.int .i64 s.t, .int .i64 s.n, .slice A s.l.length c], .slice Ao ops.length co, .pointer (some ⟨w.heap.size, 0, none⟩), .pointer (some ⟨w.heap.size + 1, 0, none⟩), .pointer (some ⟨w.heap.size + 1 + 1, 0, none⟩), .int .i64 0, .int .i64 0, .pointer (some ⟨Bst, 0, none⟩), .pointer (some ⟨W1.heap.size, 0, none⟩), .pointer (some ⟨W1.heap.size + 1, 0, none⟩), .pointer (some ⟨X, 0, none⟩), .pointer (some ⟨Y, 0, none⟩), .pointer (some ⟨w.heap.size, 0, none⟩), .int .i64 s.t, .pointer (some ⟨w.heap.size, 1, none⟩), .int .i64 s.n, .pointer (some ⟨w.heap.size, 2, none⟩), .slice A s.l.length c, vB, .slice A1 s.l.length c1, stV s.t s.n A1 s.l.length c1, .agg #[.int .i64 s.t, .int .i64 s.n, .slice A s.l.length c], .slice Ao ops.length co, .func (.func 51) #[] #[.pointer (some ⟨W1.heap.size + 2, 0, none⟩), .pointer (some ⟨W1.heap.size + 2 + 1, 0, none⟩)], .agg #[.int .i64 x.p.t, .int .i64 x.p.n, .slice x.A x.p.l.length x.c], .agg #[.int .i64 x.p.k, .int .i64 x.p.r, .int .i64 x.p.e], undef, undef, undef, undef, undef, undef, undef, undef, undef, undef, undef, undef, undef, undef, undef, undef, undef, undef, undef, undef, undef], defers := [] })
    (fun x a' W l o o' ⟨X, Y, h1, h2, h3, h4, h5, h6, h7⟩ ho hc => ⟨X, Y, h1, h2, h3, h4.of (World.putObj_heap_other (fun e => by subst e; rw [show W.heap[_]? = _ from h4] at ho; cases ho; cases hc)), h5.of (World.putObj_heap_other (fun e => by subst e; rw [show W.heap[_]? = _ from h5] at ho; cases ho; cases hc)), ownsRow_putObj h6 _ ho hc, h7⟩) ?assign ?body ?done ?stop
  case assign =>
    rintro l pre x W K hsz4 ⟨hl, hC⟩ hrx hK
    unfold Yd.encs
    gi_wp2
    refine hK _ _ ((KeepsOthers.alloc _ _).trans (KeepsOthers.alloc _ _)) ((KeptM.alloc _ _ W _).trans (KeptM.alloc _ _ _ _)) ⟨hl, (hC.alloc _).alloc _⟩ ⟨W.heap.size, W.heap.size + 1, by omega, by omega, by omega, (Holds.new W _ _).alloc _, new_second W _ _ _, row_below (row_below hrx (alloc1 W _)) (alloc1 _ _), ?_⟩
    rfl
  case body =>
    rintro lp pre x a' W ⟨hl, hC⟩ ⟨X, Y, hX1, hXY, hY1, HX, HY, hrx, rfl⟩ hlt
    obtain ⟨o, ho⟩ : ∃ o, ops[pre.length]? = some o := ⟨_, List.getElem?_eq_getElem hlt⟩
    have HC := Lib.hid hC
    have HXh := Lib.hid HX
    have HYh := Lib.hid HY
    have HRX := Lib.hid hrx
    have y2 : W.cell? ⟨Y, 2, none⟩ = some (.int .i64 x.p.e) := HY.c rfl
    have q0 : W.cell? ⟨W1.heap.size + 1, 0, none⟩ = some (.int .i64 0) := hC.err.c rfl
    have q1 := hC.err.frozen 0
    have hwb := hBw1.size
    cases he : (x.p.e != 0)
    · have hz : x.p.e = 0 := by simpa using he
      have hgc : ∀ g, (Value.slice x.A x.p.l.length x.c).ownBlock = some g → g ≠ W1.heap.size := fun g e => by have := (hrx.lt g e).1; omega
      obtain ⟨bo, offo, rfl, hbo, hco⟩ := hC.ops (by omega)
      obtain ⟨_, _, _, c3, c4⟩ := hco pre.length o ho
      have y0 : W.cell? ⟨Y, 0, none⟩ = some (.int .i64 x.p.k) := HY.c rfl
      have y1 : W.cell? ⟨Y, 1, none⟩ = some (.int .i64 x.p.r) := HY.c rfl
      have x0 : W.cell? ⟨X, 0, none⟩ = some (.int .i64 x.p.t) := HX.c rfl
      have x1 : W.cell? ⟨X, 1, none⟩ = some (.int .i64 x.p.n) := HX.c rfl
      have x2 : W.cell? ⟨X, 2, none⟩ = some (.slice x.A x.p.l.length x.c) := HX.c rfl
      have m0 : W.cell? ⟨w.heap.size + 1, 0, none⟩ = some (.slice (some ⟨bo, offo, none⟩) ops.length co) := hC.l.c rfl
      have n0 : W.cell? ⟨W1.heap.size, 0, none⟩ = some (.int .i64 pre.length) := hC.cnt.c rfl
      have n1 := hC.cnt.frozen 0
      obtain ⟨A0, c0, hst, _⟩ := hC.st
      have t0 : W.cell? ⟨Bst, 0, none⟩ = some (.int .i64 (lastS s pre).t) := hst.c rfl
      have t1 : W.cell? ⟨Bst, 1, none⟩ = some (.int .i64 (lastS s pre).n) := hst.c rfl
      have t2 : W.cell? ⟨Bst, 2, none⟩ = some (.slice A0 (lastS s pre).l.length c0) := hst.c rfl
      have f0 := hst.frozen 0
      have f1 := hst.frozen 1
      have f2 := hst.frozen 2
      have g0 : (0 : Int) ≤ (pre.length : Int) := by omega
      have g1 : (pre.length : Int) < (ops.length : Int) := by omega
      have hok : ∀ o', ops[pre.length]? = some o' → okB x.p o' = sameRet x.p.k x.p.r o.rk o.rn := fun o' ho' => by rw [ho] at ho'; cases ho'; simp [okB, hz]
      have hnq := fun W' => neq_ret W' x.p.k x.p.r o.rk o.rn
      obtain ⟨m, hm⟩ : ∃ m : Nat, m = pre.length + 1 := ⟨_, rfl⟩
      have hw1 : IntKind.i64.wrap ((pre.length : Int) + 1) = (m : Int) := by rw [IntKind.wrap_i64]; omega
      have HM := Lib.hid hm
      have hn1 : (errOf x.p) = 9 := if_pos hz
      have hl2 : ∀ b, sameRet x.p.k x.p.r o.rk o.rn = b → b = true → legals (pre ++ [x]) ops := fun b e1 e2 => legals_snoc hl ho (by rw [hok o ho, e1, e2])
      generalize sameRet x.p.k x.p.r o.rk o.rn = same at *
      clear HX HY hC hrx hst hco hm
      gi_wp2_with fail
      refine wpIn_region_reads (by kernel_rfl) (by kernel_rfl) ?_
      iterate 9
        refine quiet_take ?_ (by rfl) ?_ ?_
        rotate_left
        · rintro w' rfl
          go_simp
          try with_reducible rfl
        simp only [Act.put, List.setIfInBounds_toArray, List.set_cons_zero, List.set_cons_succ]
      refine wpQuiet_nil ?_
      cases same
      · gi_wp2_with fail
        refine ⟨(KeepsOthers.trans (KeepsOthers.setCell _ _ _) (KeepsOthers.drew _)).from _, rfl, pre, x, rfl, hl, fun o' ho' => hok o' ho', ?_⟩
        rw [hn1]
        exact (HC.out.fault _ (by omega) (by omega) (by omega) (by omega) (by omega)).drew
      · have hl3 := hl2 true rfl rfl
        gi_wp2_with fail
        refine ⟨(((((KeepsOthers.setCell _ _ _).trans (KeepsOthers.setCell _ _ _)).trans (KeepsOthers.setCell _ _ _)).trans (KeepsOthers.setCell _ _ _)).trans (KeepsOthers.drew _)).from _, (((((KeptM.refl _ _ W).box 0 _ (by omega) (by omega)).box 1 _ (by omega) (by omega)).box 2 _ (by omega) (by omega)).box 0 _ (by omega) (by omega)).drew, hl3, ?_⟩
        rw [lastS_snoc, List.length_append, List.length_singleton]
        exact (HC.out.next x.p.t x.p.n x.A x.c x.p.l m (row_more HRX.out (by omega)) hgc (by omega) (by omega) (by omega) (by omega) (by omega) (by omega) (by omega) (by omega) (by omega) (by rw [HM.out])).drew
    · have hne : x.p.e ≠ 0 := by simpa using he
      have hnl : ∀ o, ops[pre.length]? = some o → okB x.p o = false := fun o _ => by simp [okB, hne]
      have herr : errOf x.p = x.p.e := if_neg hne
      clear HX HY hC hrx
      gi_wp2_with fail
      refine ⟨(KeepsOthers.setCell _ _ _).from _, rfl, pre, x, rfl, hl, hnl, ?_⟩
      rw [herr]
      exact HC.out.fault _ (by omega) (by omega) (by omega) (by omega) (by omega)
  case done =>
    rintro D xs W hD hS ⟨hl, hC⟩ hK
    have hrun := run_done hS hl
    have hwb := hBw1.size
    rw [hsz3] at hD
    generalize lastS s xs = se at *
    generalize xs.length = cnt at *
    obtain ⟨er, her⟩ : ∃ er : Int, er = 0 := ⟨_, rfl⟩
    rw [← her] at hrun hC
    clear her
    gi_wp2_with fail
    obtain ⟨A5, c5, hst, hrow⟩ := hC.st
    have HS5 := hst
    refine wpIn_wide.2 ?_
    refine wp_region_noPanic ?_
    refine wp_region_picked [(0, true), (1, true), (2, true), (3, false), (4, true), (5, true)] (fun W' => Holds W' Bst 24 #[.int .i64 se.t, .int .i64 se.n, .slice A5 se.l.length c5] ∧ Holds W' W1.heap.size 3 #[.int .i64 cnt] ∧ Holds W' (W1.heap.size + 1) 31 #[.int .i64 er]) (by kernel_rfl) (by kernel_rfl) (fun _ _ _ _ _ h => h) ⟨hst, hC.cnt, hC.err⟩ ?_
    iterate 3
      refine Picked.take ?_ (by rfl) (by rfl) ?_ ?_
      rotate_left
      · rintro w' ⟨hwX, hwC, hwE⟩
        have x0 : w'.cell? ⟨Bst, 0, none⟩ = _ := hwX.c rfl
        have x1 : w'.cell? ⟨Bst, 1, none⟩ = _ := hwX.c rfl
        have x2 : w'.cell? ⟨Bst, 2, none⟩ = _ := hwX.c rfl
        have n0 : w'.cell? ⟨W1.heap.size, 0, none⟩ = _ := hwC.c rfl
        have e0 : w'.cell? ⟨W1.heap.size + 1, 0, none⟩ = _ := hwE.c rfl
        go_simp
        try with_reducible rfl
      simp only [Act.put, List.getElem_toArray, List.getElem_cons_zero, List.getElem_cons_succ, List.setIfInBounds_toArray, List.set_cons_zero, List.set_cons_succ]
    have nX : Bst ≠ w.heap.size + 1 + 1 := by omega
    have nC : W1.heap.size ≠ w.heap.size + 1 + 1 := by omega
    have nE : W1.heap.size + 1 ≠ w.heap.size + 1 + 1 := by omega
    refine Picked.store (by rfl) (by rfl) rfl (exec_storeSt rfl rfl rfl (show Holds W.drew (w.heap.size + 1 + 1) 24 _ from hC.res)) ⟨set_other (set_other (set_other hst _ _ nX) _ _ nX) _ _ nX, set_other (set_other (set_other hC.cnt _ _ nC) _ _ nC) _ _ nC, set_other (set_other (set_other hC.err _ _ nE) _ _ nE) _ _ nE⟩ ?_
    iterate 2
      refine Picked.take ?_ (by rfl) (by rfl) ?_ ?_
      rotate_left
      · rintro w' _
        go_simp
        try with_reducible rfl
      simp only [Act.put, List.getElem_toArray, List.getElem_cons_zero, List.getElem_cons_succ, List.setIfInBounds_toArray, List.set_cons_zero, List.set_cons_succ]
    refine NoPanic.normal ?_
    have hod : W.drew.ownsRow w.heap.size 3 1 (.slice A5 se.l.length c5) se.l.length (intsOf se.l) := hrow
    have hnz : ∀ g, (Value.slice A5 se.l.length c5).ownBlock = some g → g ≠ w.heap.size + 1 + 1 := fun g e e' => hC.res.not_row hrow (by decide) (by rw [e, e'])
    have hrow6 := row_set (row_set (row_set hod (w.heap.size + 1 + 1) 0 (.int .i64 se.t) hnz) (w.heap.size + 1 + 1) 1 (.int .i64 se.n) hnz) (w.heap.size + 1 + 1) 2 (.slice A5 se.l.length c5) hnz
    have HF6 := set_three (a' := .int .i64 se.t) (b' := .int .i64 se.n) (c' := .slice A5 se.l.length c5) (show Holds W.drew (w.heap.size + 1 + 1) 24 _ from hC.res)
    have hBf6 := gro_set (gro_set (gro_set hC.below.drew (b := w.heap.size + 1 + 1) 0 (.int .i64 se.t) (by omega)) (b := w.heap.size + 1 + 1) 1 (.int .i64 se.n) (by omega)) (b := w.heap.size + 1 + 1) 2 (.slice A5 se.l.length c5) (by omega)
    have hK6 : (((W.drew.setCell ⟨w.heap.size + 1 + 1, 0, none⟩ (.int .i64 se.t)).setCell ⟨w.heap.size + 1 + 1, 1, none⟩ (.int .i64 se.n)).setCell ⟨w.heap.size + 1 + 1, 2, none⟩ (.slice A5 se.l.length c5)).heap[D]? = some (.deferred (some [])) := ((KeepsOthers.setCell _ _ _).trans ((KeepsOthers.setCell _ _ _).trans (KeepsOthers.setCell _ _ _))).same D _ (show W.drew.heap[D]? = _ from hK) rfl
    gi_wp2
    rw [Exit.noGoto_ret]
    exact run_end hrun rfl rfl rfl HF6 hrow6 hBf6 (by omega) hK6
  case stop =>
    rintro D cd pre W hD hS ⟨rfl, q, x, rfl, hl, hn, hC⟩ hK
    have hrun := run_left hS hl hn
    have hwb := hBw1.size
    rw [hsz3] at hD
    generalize lastS s q = se at *
    generalize q.length = cnt at *
    generalize errOf x.p = er at *
    gi_wp2_with fail
    obtain ⟨A5, c5, hst, hrow⟩ := hC.st
    have HS5 := hst
    refine wpIn_wide.2 ?_
    refine wp_region_noPanic ?_
    refine wp_region_picked [(0, true), (1, true), (2, true), (3, false), (4, true), (5, true)] (fun W' => Holds W' Bst 24 #[.int .i64 se.t, .int .i64 se.n, .slice A5 se.l.length c5] ∧ Holds W' W1.heap.size 3 #[.int .i64 cnt] ∧ Holds W' (W1.heap.size + 1) 31 #[.int .i64 er]) (by kernel_rfl) (by kernel_rfl) (fun _ _ _ _ _ h => h) ⟨hst, hC.cnt, hC.err⟩ ?_
    iterate 3
      refine Picked.take ?_ (by rfl) (by rfl) ?_ ?_
      rotate_left
      · rintro w' ⟨hwX, hwC, hwE⟩
        have x0 : w'.cell? ⟨Bst, 0, none⟩ = _ := hwX.c rfl
        have x1 : w'.cell? ⟨Bst, 1, none⟩ = _ := hwX.c rfl
        have x2 : w'.cell? ⟨Bst, 2, none⟩ = _ := hwX.c rfl
        have n0 : w'.cell? ⟨W1.heap.size, 0, none⟩ = _ := hwC.c rfl
        have e0 : w'.cell? ⟨W1.heap.size + 1, 0, none⟩ = _ := hwE.c rfl
        go_simp
        try with_reducible rfl
      simp only [Act.put, List.getElem_toArray, List.getElem_cons_zero, List.getElem_cons_succ, List.setIfInBounds_toArray, List.set_cons_zero, List.set_cons_succ]
    have nX : Bst ≠ w.heap.size + 1 + 1 := by omega
    have nC : W1.heap.size ≠ w.heap.size + 1 + 1 := by omega
    have nE : W1.heap.size + 1 ≠ w.heap.size + 1 + 1 := by omega
    refine Picked.store (by rfl) (by rfl) rfl (exec_storeSt rfl rfl rfl (show Holds W.drew (w.heap.size + 1 + 1) 24 _ from hC.res)) ⟨set_other (set_other (set_other hst _ _ nX) _ _ nX) _ _ nX, set_other (set_other (set_other hC.cnt _ _ nC) _ _ nC) _ _ nC, set_other (set_other (set_other hC.err _ _ nE) _ _ nE) _ _ nE⟩ ?_
    iterate 2
      refine Picked.take ?_ (by rfl) (by rfl) ?_ ?_
      rotate_left
      · rintro w' _
        go_simp
        try with_reducible rfl
      simp only [Act.put, List.getElem_toArray, List.getElem_cons_zero, List.getElem_cons_succ, List.setIfInBounds_toArray, List.set_cons_zero, List.set_cons_succ]
    refine NoPanic.normal ?_
    have hod : W.drew.ownsRow w.heap.size 3 1 (.slice A5 se.l.length c5) se.l.length (intsOf se.l) := hrow
    have hnz : ∀ g, (Value.slice A5 se.l.length c5).ownBlock = some g → g ≠ w.heap.size + 1 + 1 := fun g e e' => hC.res.not_row hrow (by decide) (by rw [e, e'])
    have hrow6 := row_set (row_set (row_set hod (w.heap.size + 1 + 1) 0 (.int .i64 se.t) hnz) (w.heap.size + 1 + 1) 1 (.int .i64 se.n) hnz) (w.heap.size + 1 + 1) 2 (.slice A5 se.l.length c5) hnz
    have HF6 := set_three (a' := .int .i64 se.t) (b' := .int .i64 se.n) (c' := .slice A5 se.l.length c5) (show Holds W.drew (w.heap.size + 1 + 1) 24 _ from hC.res)
    have hBf6 := gro_set (gro_set (gro_set hC.below.drew (b := w.heap.size + 1 + 1) 0 (.int .i64 se.t) (by omega)) (b := w.heap.size + 1 + 1) 1 (.int .i64 se.n) (by omega)) (b := w.heap.size + 1 + 1) 2 (.slice A5 se.l.length c5) (by omega)
    have hK6 : (((W.drew.setCell ⟨w.heap.size + 1 + 1, 0, none⟩ (.int .i64 se.t)).setCell ⟨w.heap.size + 1 + 1, 1, none⟩ (.int .i64 se.n)).setCell ⟨w.heap.size + 1 + 1, 2, none⟩ (.slice A5 se.l.length c5)).heap[D]? = some (.deferred (some [])) := ((KeepsOthers.setCell _ _ _).trans ((KeepsOthers.setCell _ _ _).trans (KeepsOthers.setCell _ _ _))).same D _ (show W.drew.heap[D]? = _ from hK) rfl
    gi_wp2
    rw [Exit.noGoto_ret]
    exact run_end hrun rfl rfl rfl HF6 hrow6 hBf6 (by omega) hK6
end Go.Proofs.YtmclpganipfadaaGreatDoor
