/- The layer machine: Returns. -/
import Derived.Test.YtmclpganipfadaaGreatDoorMcH
namespace Go.Proofs.YtmclpganipfadaaGreatDoor
open Go.RowKit Go.Shelf Go.Maps
set_option linter.unusedVariables false

attribute [local go_sem] Oper.semAt_some

def retCells (rs : List (Int × Int)) : List Value := rs.flatMap fun x => [.int .i64 x.1, .int .i64 x.2]
theorem retCells_snoc (rs : List (Int × Int)) (x : Int × Int) : retCells (rs ++ [x]) = retCells rs ++ [.int .i64 x.1, .int .i64 x.2] := by simp [retCells]
/-- The first error, or none. -/
def firstE : List Ans → Int
  | [] => 0
  | p :: r => if p.e = 0 then firstE r else p.e
def retsOf (l : List Ans) : List (Int × Int) := l.map fun p => (p.k, p.r)
def retsA (s : Sta) (ops : List Opr) : List (Int × Int) × Int := if firstE (answers s ops) = 0 then (retsOf (answers s ops), 0) else ([], firstE (answers s ops))
theorem first_none : ∀ {l : List Ans}, (∀ p ∈ l, p.e = 0) → firstE l = 0
  | [], _ => rfl
  | p :: r, h => by unfold firstE; rw [if_pos (h p (by simp)), first_none (fun q hq => h q (by simp [hq]))]
theorem first_some : ∀ {l r : List Ans} {p : Ans}, (∀ q ∈ l, q.e = 0) → p.e ≠ 0 → firstE (l ++ p :: r) = p.e
  | [], r, p, _, hp => by simp [firstE, hp]
  | q :: l, r, p, h, hp => by
    show (if q.e = 0 then firstE (l ++ p :: r) else q.e) = p.e
    rw [if_pos (h q (by simp)), first_some (fun x hx => h x (by simp [hx])) hp]
theorem rets_done {s : Sta} {ops : List Opr} {pre : List Yd} (h : pre.map (·.p) = answers s ops) (hl : ∀ x ∈ pre, x.p.e = 0) : retsA s ops = (retsOf (pre.map (·.p)), 0) := by
  unfold retsA
  rw [← h, if_pos (first_none (fun p hp => by obtain ⟨x, hx, rfl⟩ := List.mem_map.1 hp; exact hl x hx))]
theorem rets_left {s : Sta} {ops : List Opr} {pre : List Yd} {x : Yd} (h : (pre ++ [x]).map (·.p) <+: answers s ops) (hl : ∀ x ∈ pre, x.p.e = 0) (hx : x.p.e ≠ 0) : retsA s ops = ([], x.p.e) := by
  obtain ⟨r, hr⟩ := h
  have hf : firstE (answers s ops) = x.p.e := by
    rw [← hr, List.map_append, List.append_assoc]
    exact first_some (fun p hp => by obtain ⟨y, hy, rfl⟩ := List.mem_map.1 hp; exact hl y hy) hx
  unfold retsA
  rw [hf, if_neg hx]

theorem info_ret : (Tryz.prog.info? 26).map (fun i => (i.zero, i.size, i.bytes)) = some (some (.agg #[.int .i64 0, .int .i64 0]), 2, 16) := by kernel_rfl
theorem cell_ret_new (W : World) (t : TypeId) (a b : Value) : ∀ j u, [a, b][j]? = some u → (W.alloc (.cells #[a, b] t)).cell? ((⟨W.heap.size, 0, none⟩ : Addr).add j) = some u := by
  intro j u h
  match j with
  | 0 => simp at h; subst h; simp [Addr.add, World.cell?_alloc_new]
  | 1 => simp at h; subst h; simp [Addr.add, World.cell?_alloc_new]
  | j + 2 => simp at h

/-- Between two operations of Returns. -/
structure RetC (w : World) (B4 B5 Br : Nat) (rs : List (Int × Int)) (W : World) : Prop where
  row : ∃ v, Boxed W Br 44 v ∧ W.ownsRow w.heap.size 26 2 v rs.length (retCells rs)
  res : Holds W B4 44 #[.slice none 0 0]
  err : Holds W B5 31 #[.int .i64 0]
  below : Below w.heap.size w W
theorem boxed_mine {B : Nat} {t : TypeId} {X Y : World} {row : Option Nat} (hg : X.grownBy Y row) (hr : ∀ r, row = some r → Mine B t X r) {k : Nat} {t' : TypeId} {v : Value} (hk : k < B) (h : Boxed X k t' v) : Boxed Y k t' v :=
  h.kept hg (fun e => by have := (hr k e.symm).1; omega)
theorem RetC.mine {w X Y : World} {B4 B5 Br B : Nat} {rs : List (Int × Int)} {row : Option Nat} (h : RetC w B4 B5 Br rs X) (hg : X.grownBy Y row) (hr : ∀ r, row = some r → Mine B 24 X r) (hB : w.heap.size ≤ B) (h1 : B4 < B) (h2 : B5 < B) (h3 : Br < B) : RetC w B4 B5 Br rs Y := by
  obtain ⟨v, ha, hb⟩ := h.row
  exact ⟨⟨v, boxed_mine hg hr h3 ha, row_mine hg hr hb (by decide)⟩, holds_mine hg hr h1 h.res, holds_mine hg hr h2 h.err, below_mine hg hr h.below (Nat.le_refl _) hB⟩
theorem RetC.alloc {w X : World} {B4 B5 Br : Nat} {rs : List (Int × Int)} (h : RetC w B4 B5 Br rs X) (o : Obj) : RetC w B4 B5 Br rs (X.alloc o) := by
  obtain ⟨v, ha, hb⟩ := h.row
  exact ⟨⟨v, ha.alloc o, row_below hb (alloc1 X o)⟩, h.res.alloc o, h.err.alloc o, gro_alloc h.below o⟩
/-- Behind 'rets = append(rets, c.ret)'. -/
theorem RetC.more {w W w1 : World} {B4 B5 Br hi : Nat} {rs : List (Int × Int)} {x : Int × Int} {v v' : Value} {tmp : Obj} (h : RetC w B4 B5 Br rs W) (hv : Boxed W Br 44 v) (hrow : W.ownsRow w.heap.size 26 2 v rs.length (retCells rs)) (h1 : B4 ≠ Br) (h2 : B5 ≠ Br) (h3 : w.heap.size ≤ Br) (h4 : Br < hi)
    (hown : w1.ownsRow w.heap.size 26 2 v' (rs.length + 1) (retCells rs ++ [.int .i64 x.1, .int .i64 x.2])) (hg : (W.alloc tmp).grownBy w1 v.ownBlock) :
    RetC w B4 B5 Br (rs ++ [x]) (w1.setCell ⟨Br, 0, none⟩ v') ∧ KeepsOthers W (w1.setCell ⟨Br, 0, none⟩ v') ∧ KeptM w.heap.size hi W (w1.setCell ⟨Br, 0, none⟩ v') := by
  have hs := h.below.size
  obtain ⟨_, k2, k3, k4, k5⟩ := hv.appended (by decide) hrow hs h3 hown hg
  have hgb : ∀ g, v.ownBlock = some g → w.heap.size ≤ g ∧ ∃ cs fr, W.heap[g]? = some (.cells cs 26 fr) := fun g e => by
    rcases hrow.2 with ⟨rfl, _⟩ | ⟨g', cap, cur, rfl, q1, q2, _⟩
    · cases e
    · cases e; exact ⟨q1, _, _, q2⟩
  have far : ∀ {B : Nat} {t : TypeId} {cs : Array Value}, B ≠ Br → t ≠ 26 → Holds W B t cs → Holds (w1.setCell ⟨Br, 0, none⟩ v') B t cs := fun {B t cs} hne ht hh => by
    refine set_other ((hh.alloc tmp).kept hg (fun e => ?_)) _ _ hne
    obtain ⟨_, cs', fr, hb⟩ := hgb B e.symm
    rw [show W.heap[B]? = _ from hh] at hb
    injection hb with hb
    injection hb with _ hb
    exact ht hb
  refine ⟨⟨⟨v', k2, ?_⟩, far h1 (by decide) h.res, far h2 (by decide) h.err, h.below.trans k5⟩, k4, ?_⟩
  · rw [List.length_append, retCells_snoc]; exact k3
  · have hm : KeptM w.heap.size hi W w1 := ⟨by have := hg.size; simp at this; omega, fun k o ho hc hn => by
      have hk : k < W.heap.size := (Array.getElem?_eq_some_iff.1 ho).1
      rw [hg.block k (by simp; omega) (fun e => ?_), Below.heap_alloc W tmp k hk]; exact ho
      obtain ⟨q1, cs', fr, hb⟩ := hgb k e.symm
      rw [ho] at hb
      exact hn ⟨q1, .inr ⟨cs', fr, Option.some.inj hb⟩⟩⟩
    exact hm.box 0 v' h3 h4

def RetPost (r : List (Int × Int) × Int) (w : World) (e : Ending) (w' : World) : Prop :=
  ∃ A c, e = .returned (.tuple #[.slice A r.1.length c, .int .i64 r.2]) ∧ w'.ownsRow w.heap.size 26 2 (.slice A r.1.length c) r.1.length (retCells r.1) ∧ Below w.heap.size w w'
theorem row_slice {W : World} {b n size : Nat} {t : TypeId} {v : Value} {xs : List Value} (h : W.ownsRow b t size v n xs) : ∃ A c, v = .slice A n c := by
  rcases h.2 with ⟨rfl, rfl⟩ | ⟨g, cap, cur, rfl, _⟩
  · exact ⟨none, 0, rfl⟩
  · exact ⟨_, cap, rfl⟩
theorem ret_end {D B4 B5 m : Nat} {w W : World} {rs : List (Int × Int)} {v : Value} {er : Int} {r : List (Int × Int) × Int} {tm : Array Value} (hr : r = (rs, er)) (h4 : tm[4]?.getD undef = .pointer (some ⟨B4, 0, none⟩)) (h5 : tm[5]?.getD undef = .pointer (some ⟨B5, 0, none⟩))
    (h : Holds W B4 44 #[v]) (he : Holds W B5 31 #[.int .i64 er]) (ho : W.ownsRow w.heap.size 26 2 v rs.length (retCells rs)) (hB : Below w.heap.size w W) (hD : w.heap.size ≤ D) (hK : W.heap[D]? = some (.deferred (some []))) :
    bodyPostM Fence.wide m Tryz.prog Tryz.f17 (RetPost r w) .ret { tmps := tm, defers := [{ target := .collected D, args := #[] }] } W := by
  subst hr
  obtain ⟨A, c, rfl⟩ := row_slice ho
  have hBe := hB.trans (belowK_b (w := w) (Nat.le_refl _) W D _ (.deferred none) hD hK rfl rfl)
  have hP2 : Holds (W.putObj D (.deferred none)) B4 44 #[.slice A rs.length c] := h.of (World.putObj_heap_other (fun e => by subst e; rw [show W.heap[_]? = _ from h] at hK; cases hK))
  have hP3 : Holds (W.putObj D (.deferred none)) B5 31 #[.int .i64 er] := he.of (World.putObj_heap_other (fun e => by subst e; rw [show W.heap[_]? = _ from he] at hK; cases hK))
  have p0 : (W.putObj D (.deferred none)).cell? ⟨B4, 0, none⟩ = _ := hP2.c rfl
  have p1 : (W.putObj D (.deferred none)).cell? ⟨B5, 0, none⟩ = _ := hP3.c rfl
  refine ⟨by simp, .inl ⟨_, _, rfl, run_takeDeferred hK, ?_⟩⟩
  refine ⟨.tuple #[.slice A rs.length c, .int .i64 er], ?_, A, c, rfl, ownsRow_putObj ho _ hK rfl, hBe⟩
  simp [results, Tryz.f17, go_sem, h4, h5, p0, p1]

set_option maxRecDepth 100000 in
set_option maxHeartbeats 4000000 in
theorem mcrets_any (s : Sta) (A : Option Addr) (c : Nat) (Ao : Option Addr) (co : Nat) (ops : List Opr) (w : World) (hA : Ints w A s.l) (hO : Oprs w Ao ops) (hlen : s.l.length + 2 * ops.length ≤ 800) (hc : s.l.length ≤ c) (hsm : ∀ o ∈ ops, Small o.a) :
    Calls Tryz.prog 17 #[stV s.t s.n A s.l.length c, .slice Ao ops.length co] w (RetPost (retsA s ops) w) := by
  obtain ⟨i0, hi0, hz0, hz1, hz2⟩ := info_parts info_ret
  refine (callsIn_wide (n := 8)).1 ?_
  refine callsIn_of_wp_marks Tryz.func17 rfl trivial ?_ rfl
  simp only [Tryz.ntmps17, List.size_toArray, List.length_cons, List.length_nil, Nat.reduceAdd, Nat.reduceSub, Array.replicate_succ, Array.replicate_zero, List.push_toArray, List.append_toArray, List.nil_append, List.cons_append]
  unfold stV
  have hB0 : Below w.heap.size w (((w.alloc (.cells #[.int .i64 s.t, .int .i64 s.n, .slice A s.l.length c] 24)).alloc (.cells #[.slice none 0 0] 44)).alloc (.cells #[.int .i64 0] 31)) := gro_alloc (gro_alloc (alloc1 w _) _) _
  have HS0 := ((Holds.new w 24 #[.int .i64 s.t, .int .i64 s.n, .slice A s.l.length c]).alloc (.cells #[.slice none 0 0] 44)).alloc (.cells #[.int .i64 0] 31)
  have HR0 := (new_second w (.cells #[.int .i64 s.t, .int .i64 s.n, .slice A s.l.length c] 24) 44 #[.slice none 0 0]).alloc (.cells #[.int .i64 0] 31)
  have HE0 := new_second (w.alloc (.cells #[.int .i64 s.t, .int .i64 s.n, .slice A s.l.length c] 24)) (.cells #[.slice none 0 0] 44) 31 #[.int .i64 0]
  rw [World.size_alloc] at HE0
  have hsz : (((w.alloc (.cells #[.int .i64 s.t, .int .i64 s.n, .slice A s.l.length c] 24)).alloc (.cells #[.slice none 0 0] 44)).alloc (.cells #[.int .i64 0] 31)).heap.size = w.heap.size + 3 := by simp
  obtain ⟨w2, hr2, ho2, hg2⟩ := run_make_own (P := Tryz.prog) (((w.alloc (.cells #[.int .i64 s.t, .int .i64 s.n, .slice A s.l.length c] 24)).alloc (.cells #[.slice none 0 0] 44)).alloc (.cells #[.int .i64 0] 31)) w.heap.size 44 26 i0 (.agg #[.int .i64 0, .int .i64 0]) 2 Tryz.underlying44 hi0 hz0 hz1 .i64 .i64 ops.length (by rw [hz2]; omega) (by unfold maxLen; omega) hB0.size
  rw [hsz] at ho2
  have hB02 := (Below.refl _ (((w.alloc (.cells #[.int .i64 s.t, .int .i64 s.n, .slice A s.l.length c] 24)).alloc (.cells #[.slice none 0 0] 44)).alloc (.cells #[.int .i64 0] 31))).grown hg2 (Nat.le_refl _) (fun k e => by cases e)
  have hs2 := hB02.size
  rw [hsz] at hs2
  have hB2 := onto hB0 hB02
  have HS2 := (HS0.below hB02 (by omega)).alloc (.cells #[.slice (some ⟨w.heap.size + 3, 0, none⟩) 0 ops.length] 44)
  have C2 : RetC w (w.heap.size + 1) (w.heap.size + 1 + 1) w2.heap.size [] (w2.alloc (.cells #[.slice (some ⟨w.heap.size + 3, 0, none⟩) 0 ops.length] 44)) :=
    ⟨⟨_, Boxed.new w2 _ _, row_below ho2 (alloc1 w2 _)⟩, (HR0.below hB02 (by omega)).alloc _, (HE0.below hB02 (by omega)).alloc _, gro_alloc hB2 _⟩
  have s0 : (w2.alloc (.cells #[.slice (some ⟨w.heap.size + 3, 0, none⟩) 0 ops.length] 44)).cell? ⟨w.heap.size, 0, none⟩ = some (.int .i64 s.t) := HS2.c rfl
  have s1 : (w2.alloc (.cells #[.slice (some ⟨w.heap.size + 3, 0, none⟩) 0 ops.length] 44)).cell? ⟨w.heap.size, 1, none⟩ = some (.int .i64 s.n) := HS2.c rfl
  have s2 : (w2.alloc (.cells #[.slice (some ⟨w.heap.size + 3, 0, none⟩) 0 ops.length] 44)).cell? ⟨w.heap.size, 2, none⟩ = some (.slice A s.l.length c) := HS2.c rfl
  have hsz2 : (w2.alloc (.cells #[.slice (some ⟨w.heap.size + 3, 0, none⟩) 0 ops.length] 44)).heap.size = w2.heap.size + 1 := by simp
  clear ho2 HS0 HR0 HE0
  gi_wp2_with fail
  generalize w2.alloc (.cells #[.slice (some ⟨w.heap.size + 3, 0, none⟩) 0 ops.length] 44) = W2 at *
  refine ⟨trivial, ?_⟩
  refine (states_in Fence.wide _ trivial rfl _ _ _ _ _ _ _ _ _).mono ?_
  rintro e w3 ⟨rfl, rfl⟩
  clear hr2 hg2 hB02 hB0 s0 s1 s2
  gi_wp2_with fail
  have hBw3 : Below w.heap.size w ((W2.alloc (.cells #[.int .i64 s.t, .int .i64 s.n, .slice A s.l.length c] 24)).alloc (.cells #[.slice Ao ops.length co] 41)) := gro_alloc (gro_alloc C2.below _) _
  have C3 := (C2.alloc (.cells #[.int .i64 s.t, .int .i64 s.n, .slice A s.l.length c] 24)).alloc (.cells #[.slice Ao ops.length co] 41)
  have HBs := (Holds.new W2 24 #[.int .i64 s.t, .int .i64 s.n, .slice A s.l.length c]).alloc (.cells #[.slice Ao ops.length co] 41)
  have HBl := new_second W2 (.cells #[.int .i64 s.t, .int .i64 s.n, .slice A s.l.length c] 24) 41 #[.slice Ao ops.length co]
  rw [hsz2] at HBs HBl
  have hsz3 : ((W2.alloc (.cells #[.int .i64 s.t, .int .i64 s.n, .slice A s.l.length c] 24)).alloc (.cells #[.slice Ao ops.length co] 41)).heap.size = w2.heap.size + 3 := by simp; omega
  have hA3 : IntsB w.heap.size ((W2.alloc (.cells #[.int .i64 s.t, .int .i64 s.n, .slice A s.l.length c] 24)).alloc (.cells #[.slice Ao ops.length co] 41)) A s.l := IntsB.below (show IntsB w.heap.size w A s.l from hA) hBw3
  have hO3 := OprsB.below (show OprsB w.heap.size w Ao ops from hO) hBw3
  refine range_left (t := 24) rfl (by omega) (gf := 51) (lb := #[.pointer (some ⟨w2.heap.size + 1, 0, none⟩), .pointer (some ⟨w2.heap.size + 1 + 1, 0, none⟩)]) rfl trivial (enters_of Tryz.func51 (by kernel_rfl) rfl)
    (states1_early 7 (by omega) (w2.heap.size + 1) (w2.heap.size + 1 + 1) w.heap.size (w2.heap.size + 1) s A c Ao co ops hlen hc hsm _ (by omega) (by omega) (Nat.le_refl _) (by omega) HBs HBl hA3 hO3) KeptM.trans (fun W l o o' _ h1 h2 => KeptM.put _ _ W l o o' h1 h2) (fun _ => rfl)
    (fun pre W => (∀ x ∈ pre, x.p.e = 0) ∧ RetC w (w.heap.size + 1) (w.heap.size + 1 + 1) w2.heap.size (retsOf (pre.map (·.p))) W)
    (fun cd pre W => cd = .ret ∧ ∃ (q : List Yd) (x : Yd), pre = q ++ [x] ∧ (∀ y ∈ q, y.p.e = 0) ∧ x.p.e ≠ 0 ∧ Holds W (w.heap.size + 1) 44 #[.slice none 0 0] ∧ Holds W (w.heap.size + 1 + 1) 31 #[.int .i64 x.p.e] ∧ Below w.heap.size w W)
    (fun pre X Y row hs hg hr => ⟨hs.1, hs.2.mine hg hr (by omega) (by omega) (by omega) (by omega)⟩)
    (fun cd pre X Y row hs hg hr => by
      obtain ⟨h1, q, x, h2, h3, h4, h5, h6, h7⟩ := hs
      exact ⟨h1, q, x, h2, h3, h4, holds_mine hg hr (by omega) h5, holds_mine hg hr (by omega) h6, below_mine hg hr h7 (Nat.le_refl _) (by omega)⟩)
    ⟨fun x hx => (by cases hx), C3⟩
    (fun x a' W => ∃ Y : Nat, w2.heap.size + 1 ≤ Y ∧ Holds W Y 63 #[.int .i64 x.p.k, .int .i64 x.p.r, .int .i64 x.p.e] ∧ a' = { tmps := #[.agg #[.int .i64 s.t, .int .i64 s.n, .slice A s.l.length c], .slice Ao ops.length co, .pointer (some ⟨w.heap.size, 0, none⟩), undef, .pointer (some ⟨w.heap.size + 1, 0, none⟩), .pointer (some ⟨w.heap.size + 1 + 1, 0, none⟩), .pointer (some ⟨w2.heap.size, 0, none⟩), undef, .pointer (some ⟨Y, 0, none⟩), .slice Ao ops.length co, .int .i64 ops.length, .slice (some ⟨w.heap.size + 3, 0, none⟩) 0 ops.length, .agg #[.int .i64 s.t, .int .i64 s.n, .slice A s.l.length c], .slice Ao ops.length co, .func (.func 51) #[] #[.pointer (some ⟨w2.heap.size + 1, 0, none⟩), .pointer (some ⟨w2.heap.size + 1 + 1, 0, none⟩)], .agg #[.int .i64 x.p.t, .int .i64 x.p.n, .slice x.A x.p.l.length x.c], .agg #[.int .i64 x.p.k, .int .i64 x.p.r, .int .i64 x.p.e], undef, undef, undef, undef, undef, undef, undef, undef, undef, undef, undef], defers := [] })
    (fun x a' W l o o' ⟨Y, h1, h2, h3⟩ ho hc => ⟨Y, h1, h2.of (World.putObj_heap_other (fun e => by subst e; rw [show W.heap[_]? = _ from h2] at ho; cases ho; cases hc)), h3⟩) ?assign ?body ?done ?stop
  case assign =>
    rintro l pre x W K hsz4 ⟨hl, hC⟩ hrx hK
    unfold Yd.encs
    gi_wp2
    refine hK _ _ (KeepsOthers.alloc _ _) (KeptM.alloc _ _ W _) ⟨hl, hC.alloc _⟩ ⟨W.heap.size, by omega, Holds.new W _ _, ?_⟩
    rfl
  case body =>
    rintro lp pre x a' W ⟨hl, hC⟩ ⟨Y, hY1, HY, rfl⟩ hlt
    have hbs := hC.below.size
    obtain ⟨v, hv, hrow⟩ := hC.row
    have HC := Lib.hid hC
    have y0 : W.cell? ⟨Y, 0, none⟩ = some (.int .i64 x.p.k) := HY.c rfl
    have y1 : W.cell? ⟨Y, 1, none⟩ = some (.int .i64 x.p.r) := HY.c rfl
    have y2 : W.cell? ⟨Y, 2, none⟩ = some (.int .i64 x.p.e) := HY.c rfl
    have q0 : W.cell? ⟨w.heap.size + 1, 0, none⟩ = some (.slice none 0 0) := hC.res.c rfl
    have q1 := hC.res.frozen 0
    have q2 : W.cell? ⟨w.heap.size + 1 + 1, 0, none⟩ = some (.int .i64 0) := hC.err.c rfl
    have q3 := hC.err.frozen 0
    cases he : (x.p.e != 0)
    · have hz : x.p.e = 0 := by simpa using he
      have hl3 : ∀ y ∈ pre ++ [x], y.p.e = 0 := fun y hy => by
        rcases List.mem_append.1 hy with h | h
        · exact hl y h
        · obtain rfl : y = x := by simpa using h
          exact hz
      have hvc := hv.cell
      have hvl : pre.length = (retsOf (pre.map (·.p))).length := by simp [retsOf]
      have HSN := Lib.hid (show retsOf ((pre ++ [x]).map (·.p)) = retsOf (pre.map (·.p)) ++ [(x.p.k, x.p.r)] by simp [retsOf])
      generalize retsOf (pre.map (·.p)) = rs at *
      clear HY hC
      gi_wp2_with (gi_at_builtin; refine wpListIn_append_own _ rfl _ _ 44 rfl w.heap.size 26 i0 (.agg #[.int .i64 0, .int .i64 0]) 2 16 Tryz.underlying44 hi0 hz0 hz1 hz2 rfl (by decide) _ _ _ rfl (hrow.alloc _) ⟨W.heap.size, 0, none⟩ 1 1 [.int .i64 x.p.k, .int .i64 x.p.r] rfl rfl (cell_ret_new _ _ _ _) (by simp [Value.oneCell']) (by unfold maxLen; omega) (by omega) (by simp; omega) ?_; intro v' w1 hown' hgrow _; obtain ⟨g', cap', rfl⟩ := ownsRow_succ hown'; obtain ⟨hv1, _, _, _, _⟩ := hv.appended (by decide) hrow hbs (by omega) hown' hgrow; have hc1 := hv1.cell; have hf1 := hv1.frozen)
      obtain ⟨z1, z2, z3⟩ := HC.out.more (hi := w2.heap.size + 1) (x := (x.p.k, x.p.r)) hv hrow (by omega) (by omega) (by omega) (by omega) hown' hgrow
      refine ⟨z2.from _, z3, hl3, ?_⟩
      rw [HSN.out]
      exact z1
    · have hne : x.p.e ≠ 0 := by simpa using he
      have HR1 := Lib.hid (hC.res.set 0 (.slice none 0 0))
      have HE1 := Lib.hid (set_other hC.err 0 (.slice none 0 0) (show w.heap.size + 1 + 1 ≠ w.heap.size + 1 by omega))
      have HR2 := Lib.hid (set_other HR1.out 0 (.int .i64 x.p.e) (show w.heap.size + 1 ≠ w.heap.size + 1 + 1 by omega))
      have HE2 := Lib.hid (HE1.out.set 0 (.int .i64 x.p.e))
      have HB2 := Lib.hid (gro_set (gro_set hC.below (b := w.heap.size + 1) 0 (.slice none 0 0) (by omega)) (b := w.heap.size + 1 + 1) 0 (.int .i64 x.p.e) (by omega))
      clear HY hC hrow hv
      gi_wp2_with fail
      refine wpIn_region_forked (.two 0 (.two 1 (.one 2 (.one 3 .done)) 2 (.one 1 (.one 3 .done))) 2 (.one 0 (.one 1 (.one 3 .done)))) (by kernel_rfl) (by kernel_rfl) ?_
      have HKO := Lib.hid (show KeepsFrom ((W2.alloc (.cells #[.int .i64 s.t, .int .i64 s.n, .slice A s.l.length c] 24)).alloc (.cells #[.slice Ao ops.length co] 41)).heap.size W (((W.setCell ⟨w.heap.size + 1, 0, none⟩ (.slice none 0 0)).setCell ⟨w.heap.size + 1 + 1, 0, none⟩ (.int .i64 x.p.e)).drew) from (((KeepsOthers.setCell _ _ _).trans (KeepsOthers.setCell _ _ _)).trans (KeepsOthers.drew _)).from _)
      refine ⟨?_, ?_⟩
      · refine GoesI.ask ?_ (by rfl) (by rfl) (by rfl) ?_ ?_
        rotate_left
        · go_simp
          try with_reducible rfl
        simp only [Act.put, List.getElem_toArray, List.getElem_cons_zero, List.setIfInBounds_toArray, List.set_cons_zero, List.set_cons_succ]
        refine ⟨?_, ?_⟩
        · refine GoesI.ask ?_ (by rfl) (by rfl) (by rfl) ?_ ?_
          rotate_left
          · go_simp
            try with_reducible rfl
          simp only [Act.put, List.getElem_toArray, List.getElem_cons_zero, List.getElem_cons_succ, List.setIfInBounds_toArray, List.set_cons_zero, List.set_cons_succ]
          refine GoesI.skip (w' := W.drew.setCell ⟨w.heap.size + 1, 0, none⟩ (.slice none 0 0)) (by rfl) (by rfl) (by rfl) rfl (by go_simp) ?_
          refine GoesI.skip (w' := (W.drew.setCell ⟨w.heap.size + 1, 0, none⟩ (.slice none 0 0)).setCell ⟨w.heap.size + 1 + 1, 0, none⟩ (.int .i64 x.p.e)) (by rfl) (by rfl) (by rfl) rfl (by go_simp) ?_
          refine forkedI_done ?_
          gi_wp2
          exact ⟨HKO.out, rfl, pre, x, rfl, hl, hne, HR2.out, HE2.out, HB2.out.drew⟩
        · refine GoesI.skip (w' := W.drew.setCell ⟨w.heap.size + 1, 0, none⟩ (.slice none 0 0)) (by rfl) (by rfl) (by rfl) rfl (by go_simp) ?_
          refine GoesI.ask ?_ (by rfl) (by rfl) (by rfl) ?_ ?_
          rotate_left
          · go_simp
            try with_reducible rfl
          simp only [Act.put, List.getElem_toArray, List.getElem_cons_zero, List.getElem_cons_succ, List.setIfInBounds_toArray, List.set_cons_zero, List.set_cons_succ]
          refine GoesI.skip (w' := (W.drew.setCell ⟨w.heap.size + 1, 0, none⟩ (.slice none 0 0)).setCell ⟨w.heap.size + 1 + 1, 0, none⟩ (.int .i64 x.p.e)) (by rfl) (by rfl) (by rfl) rfl (by go_simp) ?_
          refine forkedI_done ?_
          gi_wp2
          exact ⟨HKO.out, rfl, pre, x, rfl, hl, hne, HR2.out, HE2.out, HB2.out.drew⟩
      · refine GoesI.skip (w' := W.drew.setCell ⟨w.heap.size + 1, 0, none⟩ (.slice none 0 0)) (by rfl) (by rfl) (by rfl) rfl (by go_simp) ?_
        refine GoesI.ask ?_ (by rfl) (by rfl) (by rfl) ?_ ?_
        rotate_left
        · go_simp
          try with_reducible rfl
        simp only [Act.put, List.getElem_toArray, List.getElem_cons_zero, List.setIfInBounds_toArray, List.set_cons_zero, List.set_cons_succ]
        refine GoesI.ask ?_ (by rfl) (by rfl) (by rfl) ?_ ?_
        rotate_left
        · go_simp
          try with_reducible rfl
        simp only [Act.put, List.getElem_toArray, List.getElem_cons_zero, List.getElem_cons_succ, List.setIfInBounds_toArray, List.set_cons_zero, List.set_cons_succ]
        refine GoesI.skip (w' := (W.drew.setCell ⟨w.heap.size + 1, 0, none⟩ (.slice none 0 0)).setCell ⟨w.heap.size + 1 + 1, 0, none⟩ (.int .i64 x.p.e)) (by rfl) (by rfl) (by rfl) rfl (by go_simp) ?_
        refine forkedI_done ?_
        gi_wp2
        exact ⟨HKO.out, rfl, pre, x, rfl, hl, hne, HR2.out, HE2.out, HB2.out.drew⟩
  case done =>
    rintro D xs W hD hS ⟨hl, hC⟩ hK
    have hrun := rets_done hS hl
    rw [hsz3] at hD
    generalize retsOf (xs.map (·.p)) = rs at *
    obtain ⟨v, hv, hrow⟩ := hC.row
    have hvc := hv.cell
    have q0 : W.cell? ⟨w.heap.size + 1, 0, none⟩ = some (.slice none 0 0) := hC.res.c rfl
    have q1 := hC.res.frozen 0
    have q2 : W.cell? ⟨w.heap.size + 1 + 1, 0, none⟩ = some (.int .i64 0) := hC.err.c rfl
    have q3 := hC.err.frozen 0
    obtain ⟨A5, c5, rfl⟩ := row_slice hrow
    have hn4 : ∀ g, (Value.slice A5 rs.length c5).ownBlock = some g → g ≠ w.heap.size + 1 := fun g e e' => hC.res.not_row hrow (by decide) (by rw [e, e'])
    have hn5 : ∀ g, (Value.slice A5 rs.length c5).ownBlock = some g → g ≠ w.heap.size + 1 + 1 := fun g e e' => hC.err.not_row hrow (by decide) (by rw [e, e'])
    have HR6 := set_other (hC.res.set 0 (.slice A5 rs.length c5)) 0 (.int .i64 0) (show w.heap.size + 1 ≠ w.heap.size + 1 + 1 by omega)
    have HE6 := (set_other hC.err 0 (.slice A5 rs.length c5) (show w.heap.size + 1 + 1 ≠ w.heap.size + 1 by omega)).set 0 (.int .i64 0)
    have HW6 := row_set (row_set hrow (w.heap.size + 1) 0 (.slice A5 rs.length c5) hn4) (w.heap.size + 1 + 1) 0 (.int .i64 0) hn5
    have HB6 := gro_set (gro_set hC.below (b := w.heap.size + 1) 0 (.slice A5 rs.length c5) (by omega)) (b := w.heap.size + 1 + 1) 0 (.int .i64 0) (by omega)
    have hK6 := ((KeepsOthers.setCell W ⟨w.heap.size + 1, 0, none⟩ (.slice A5 rs.length c5)).trans (KeepsOthers.setCell _ ⟨w.heap.size + 1 + 1, 0, none⟩ (.int .i64 0))).same D _ hK rfl
    gi_wp2
    exact ret_end hrun rfl rfl HR6 HE6 HW6 HB6 (by omega) hK6
  case stop =>
    rintro D cd pre W hD hS ⟨rfl, q, x, rfl, hl, hn, hR, hE, hB⟩ hK
    have hrun := rets_left hS hl hn
    rw [hsz3] at hD
    gi_wp2
    exact ret_end hrun rfl rfl hR hE (World.ownsRow_nil _ _ _ _) hB (by omega) hK
end Go.Proofs.YtmclpganipfadaaGreatDoor
