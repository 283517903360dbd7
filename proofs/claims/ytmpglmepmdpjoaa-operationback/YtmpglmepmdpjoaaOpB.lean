/- Which rule fits. -/
import Derived.Test.YtmpglmepmdpjoaaOpA
import Derived.Laws.EntriesVeiled
import Derived.RangeFuncBox
namespace Go.Proofs.Ytmpglmepmdpjoaa
open Go.RowKit
set_option linter.unusedVariables false

def zero7 : Obj := .cells #[.int .i64 0, .int .i64 0, .string ⟨#[]⟩, .int .i64 0, .nilFunc, .nilFunc, .nilFunc] 52
def ruleOf : Option Nat → Value
  | none => rule0
  | some i => ruleV i
def errOf : Option Nat → Int
  | none => 6
  | some _ => 0
def FindPost (o : Option Nat) (w : World) (e : Ending) (w' : World) : Prop := e = .returned (.tuple #[ruleOf o, .int .i64 (errOf o)]) ∧ Below w.heap.size w w'

theorem rule_cells (k : Nat) (hk : k < 15) (w : World) (j : Nat) (hj : j < 7) : (w.alloc rulesO).cell? ⟨w.heap.size, k * 7 + j, none⟩ = (ruleL k)[j]? := by
  rw [rulesO, World.cell?_alloc_new]
  have hk' : k ∈ List.range 15 := List.mem_range.2 hk
  have hj' : j ∈ List.range 7 := List.mem_range.2 hj
  have hs : rulesL.toArray[k * 7 + j]? = (rulesL.map id)[k * 7 + j]? := by rw [List.map_id, List.getElem?_toArray]
  rw [hs, List.map_id]
  have : ∀ k ∈ List.range 15, ∀ j ∈ List.range 7, rulesL[k * 7 + j]? = (ruleL k)[j]? := by
    simp only [show List.range 15 = [0,1,2,3,4,5,6,7,8,9,10,11,12,13,14] from rfl, show List.range 7 = [0,1,2,3,4,5,6] from rfl, List.forall_mem_cons]
    repeat' apply And.intro
    all_goals first | rfl | (intro x hx; cases hx)
  exact this k hk' j hj'

theorem find_none {hits : Nat → Bool} (h : ∀ j, j < 15 → hits j = false) : (List.range 15).find? hits = none := by
  rw [List.find?_eq_none]
  intro x hx
  rw [h x (List.mem_range.1 hx)]
  simp
theorem find_first {hits : Nat → Bool} {k : Nat} (hk : k < 15) (h : ∀ j, j < k → hits j = false) (hh : hits k = true) : (List.range 15).find? hits = some k := by
  rw [List.find?_range_eq_some]
  exact ⟨hh, List.mem_range.2 hk, fun j hj => by rw [h j hj]; rfl⟩

/-- Block B holds these cells, and is the program's own. -/
def Holds (W : World) (B : Nat) (t : TypeId) (cs : Array Value) : Prop := W.heap[B]? = some (.cells cs t (0, 0))
theorem Holds.lt {W : World} {B : Nat} {t : TypeId} {cs : Array Value} (h : Holds W B t cs) : B < W.heap.size := (Array.getElem?_eq_some_iff.1 h).1
theorem Holds.c {W : World} {B : Nat} {t : TypeId} {cs : Array Value} (h : Holds W B t cs) {j : Nat} {v : Value} (hj : cs[j]? = some v) : W.cell? ⟨B, j, none⟩ = some v := by simp [World.cell?, show W.heap[B]? = _ from h, hj]
theorem Holds.frozen {W : World} {B : Nat} {t : TypeId} {cs : Array Value} (h : Holds W B t cs) (j : Nat) : W.frozen? ⟨B, j, none⟩ = false := by simp [World.frozen?, show W.heap[B]? = _ from h]
theorem Holds.new (W : World) (t : TypeId) (cs : Array Value) : Holds (W.alloc (.cells cs t)) W.heap.size t cs := World.alloc_heap_new W _
theorem Holds.alloc {W : World} {B : Nat} {t : TypeId} {cs : Array Value} (h : Holds W B t cs) (o : Obj) : Holds (W.alloc o) B t cs := (Below.heap_alloc W o B h.lt).trans h
theorem Holds.of {W W' : World} {B : Nat} {t : TypeId} {cs : Array Value} (h : Holds W B t cs) (e : W'.heap[B]? = W.heap[B]?) : Holds W' B t cs := e.trans h
theorem Holds.below {W W' : World} {B n : Nat} {t : TypeId} {cs : Array Value} (h : Holds W B t cs) (hb : Below n W W') (hl : B < n) : Holds W' B t cs := h.of (hb.block B hl)

set_option maxRecDepth 100000 in
set_option maxHeartbeats 1000000 in
theorem find_int (key : Value) (g : Nat) (hits : Nat → Bool) (w : World) (eg : ∀ args w, (callFunc g args).run Try.prog w = .ok (.enter g args) w) (hg : ∀ i W, Calls Try.prog g #[ruleV i, key] W (BoolPost (hits i) W)) :
    Calls Try.prog 29 #[fv g, key] w (FindPost ((List.range 15).find? hits) w) := by
  have HG := Lib.hid hg
  clear hg
  have HC := Lib.hid (fun k hk => rule_cells k hk (w.alloc zero7))
  have HZ := Lib.hid (Holds.new w 52 #[.int .i64 0, .int .i64 0, .string ⟨#[]⟩, .int .i64 0, .nilFunc, .nilFunc, .nilFunc])
  have hfv : fv g = .func (.func g) #[] #[] := rfl
  rw [hfv]
  clear hfv
  go_enter Try.func29, Try.ntmps29
  go_wp2_with fail
  refine (rules_any _).mono ?_
  rintro e w1 ⟨rfl, rfl⟩
  go_wp2
  obtain ⟨W1, hW1⟩ : ∃ W1, W1 = (w.alloc zero7).alloc rulesO := ⟨_, rfl⟩
  have hs1 : W1.heap.size = w.heap.size + 2 := by rw [hW1]; simp
  have hBw : Below w.heap.size w W1 := by rw [hW1]; exact ((Below.refl _ _).alloc (Nat.le_refl _) _).alloc (by simp) _
  have HZ1 := Lib.hid (show Holds W1 w.heap.size _ _ by rw [hW1]; exact HZ.out.alloc _)
  clear HZ
  go_loopw [7, 10] (fun u i wr => ∃ k : Nat, k ≤ 15 ∧ i = .int .i64 k ∧ (∀ j, j < k → hits j = false) ∧ Below W1.heap.size W1 wr) (fun u i wr => 15 - (intOf i).toNat)
  case atStart => exact ⟨0, Nat.zero_le _, rfl, fun j h => absurd h (Nat.not_lt_zero _), by rw [hW1]; exact Below.refl _ _⟩
  case round =>
    obtain ⟨k, hk, rfl, hall, hB⟩ := hrel
    have HALL := Lib.hid hall
    have HK := Lib.hid hk
    clear hall hk
    have hwr := hB.size
    have HZr := HZ1.out.below hB (by omega)
    by_cases hlt : k < 15
    · have hlt' : (k : Int) < 15 := by omega
      have hk0 : (0 : Int) ≤ (k : Int) := by omega
      obtain ⟨x0, x1, x2, x3, x4, x5, x6, hx⟩ : ∃ x0 x1 x2 x3 x4 x5 x6, ruleL k = [.int .i64 x0, .int .i64 x1, .string x2, .int .i64 x3, .func (.func x4) #[] #[], .func (.func x5) #[] #[], .func (.func x6) #[] #[]] := ⟨_, _, _, _, _, _, _, rfl⟩
      have hrc : ∀ j, j < 7 → wr.cell? ⟨w.heap.size + 1, k * 7 + j, none⟩ = [.int .i64 x0, .int .i64 x1, .string x2, .int .i64 x3, .func (.func x4) #[] #[], .func (.func x5) #[] #[], .func (.func x6) #[] #[]][j]? := fun j hj => by
        have h := HC.out k hlt j hj
        rw [World.size_alloc, hx, ← hW1] at h
        rw [← h]
        exact World.cell?_of_block (hB.block _ (by simp; omega))
      have r0 := hrc 0 (by omega)
      have r1 := hrc 1 (by omega)
      have r2 := hrc 2 (by omega)
      have r3 := hrc 3 (by omega)
      have r4 := hrc 4 (by omega)
      have r5 := hrc 5 (by omega)
      have r6 := hrc 6 (by omega)
      simp only [List.getElem?_cons_zero, List.getElem?_cons_succ, Nat.add_zero] at r0 r1 r2 r3 r4 r5 r6
      clear hrc
      have hgk := HG.out k
      rw [show ruleV k = .agg #[.int .i64 x0, .int .i64 x1, .string x2, .int .i64 x3, .func (.func x4) #[] #[], .func (.func x5) #[] #[], .func (.func x6) #[] #[]] from by rw [ruleV, hx]] at hgk
      have HX := Lib.hid hx
      clear hx
      have HR := Holds.new wr 52 #[.int .i64 x0, .int .i64 x1, .string x2, .int .i64 x3, .func (.func x4) #[] #[], .func (.func x5) #[] #[], .func (.func x6) #[] #[]]
      go_wp2_with fail
      refine (hgk _).mono ?_
      rintro e w2 ⟨rfl, hB2⟩
      have HR2 := HR.below hB2 (by simp)
      have HZ2 := (HZr.alloc _).below hB2 (by simp; omega)
      have hB02 : Below W1.heap.size W1 w2 := (hB.alloc (by omega) _).trans (hB2.mono (by simp; omega))
      have c0 := HR2.c (j := 0) rfl
      have c1 := HR2.c (j := 1) rfl
      have c2 := HR2.c (j := 2) rfl
      have c3 := HR2.c (j := 3) rfl
      have c4 := HR2.c (j := 4) rfl
      have c5 := HR2.c (j := 5) rfl
      have c6 := HR2.c (j := 6) rfl
      have z0 := HZ2.c (j := 0) rfl
      have z1 := HZ2.c (j := 1) rfl
      have z2 := HZ2.c (j := 2) rfl
      have z3 := HZ2.c (j := 3) rfl
      have z4 := HZ2.c (j := 4) rfl
      have z5 := HZ2.c (j := 5) rfl
      have z6 := HZ2.c (j := 6) rfl
      have f0 := HZ2.frozen 0
      have f1 := HZ2.frozen 1
      have f2 := HZ2.frozen 2
      have f3 := HZ2.frozen 3
      have f4 := HZ2.frozen 4
      have f5 := HZ2.frozen 5
      have f6 := HZ2.frozen 6
      cases hh : hits k with
      | true =>
        have HH := Lib.hid hh
        clear hh
        go_wp2
        refine bodyPost_ret (v := .tuple #[.agg #[.int .i64 x0, .int .i64 x1, .string x2, .int .i64 x3, .func (.func x4) #[] #[], .func (.func x5) #[] #[], .func (.func x6) #[] #[]], .int .i64 0]) (by simp [results, Try.f29, go_sem, z0, z1, z2, z3, z4, z5, z6]) rfl ?_
        rw [find_first hlt HALL.out HH.out]
        refine ⟨by rw [ruleOf, ruleV, HX.out]; rfl, ?_⟩
        have hb := hBw.trans (hB02.mono (by omega))
        refine Below.setCell (Below.setCell (Below.setCell (Below.setCell (Below.setCell (Below.setCell (Below.setCell hb ?_ _) ?_ _) ?_ _) ?_ _) ?_ _) ?_ _) ?_ _
        all_goals exact Nat.le_refl _
      | false =>
        have HH := Lib.hid hh
        clear hh
        go_wp2
        go_roundw
        case rel => exact ⟨k + 1, by omega, by go_num, fun j hj => by
          rcases Nat.lt_succ_iff_lt_or_eq.1 hj with h | rfl
          · exact HALL.out j h
          · exact HH.out, hB02⟩
        case measure => simp [intOf]; omega
    · have hlt' : decide ((k : Int) < 15) = false := decide_eq_false (by omega)
      have HK2 : k = 15 := by have := HK.out; omega
      have z0 := HZr.c (j := 0) rfl
      have z1 := HZr.c (j := 1) rfl
      have z2 := HZr.c (j := 2) rfl
      have z3 := HZr.c (j := 3) rfl
      have z4 := HZr.c (j := 4) rfl
      have z5 := HZr.c (j := 5) rfl
      have z6 := HZr.c (j := 6) rfl
      have f0 := HZr.frozen 0
      have f1 := HZr.frozen 1
      have f2 := HZr.frozen 2
      have f3 := HZr.frozen 3
      have f4 := HZr.frozen 4
      have f5 := HZr.frozen 5
      have f6 := HZr.frozen 6
      go_wp2
      refine bodyPost_ret (v := .tuple #[rule0, .int .i64 6]) (by simp [results, rule0, Try.f29, go_sem, z0, z1, z2, z3, z4, z5, z6]) rfl ?_
      rw [find_none (fun j hj => HALL.out j (by omega))]
      refine ⟨rfl, ?_⟩
      have hb := hBw.trans (hB.mono (by omega))
      refine Below.setCell (Below.setCell (Below.setCell (Below.setCell (Below.setCell (Below.setCell (Below.setCell hb ?_ _) ?_ _) ?_ _) ?_ _) ?_ _) ?_ _) ?_ _
      all_goals exact Nat.le_refl _

set_option maxRecDepth 100000 in
set_option maxHeartbeats 1000000 in
theorem find_str (key : Value) (g : Nat) (hits : Nat → Bool) (w : World) (eg : ∀ args w, (callFunc g args).run Try.prog w = .ok (.enter g args) w) (hg : ∀ i W, Calls Try.prog g #[ruleV i, key] W (BoolPost (hits i) W)) :
    Calls Try.prog 32 #[fv g, key] w (FindPost ((List.range 15).find? hits) w) := by
  have HG := Lib.hid hg
  clear hg
  have HC := Lib.hid (fun k hk => rule_cells k hk (w.alloc zero7))
  have HZ := Lib.hid (Holds.new w 52 #[.int .i64 0, .int .i64 0, .string ⟨#[]⟩, .int .i64 0, .nilFunc, .nilFunc, .nilFunc])
  have hfv : fv g = .func (.func g) #[] #[] := rfl
  rw [hfv]
  clear hfv
  go_enter Try.func32, Try.ntmps32
  go_wp2_with fail
  refine (rules_any _).mono ?_
  rintro e w1 ⟨rfl, rfl⟩
  go_wp2
  obtain ⟨W1, hW1⟩ : ∃ W1, W1 = (w.alloc zero7).alloc rulesO := ⟨_, rfl⟩
  have hs1 : W1.heap.size = w.heap.size + 2 := by rw [hW1]; simp
  have hBw : Below w.heap.size w W1 := by rw [hW1]; exact ((Below.refl _ _).alloc (Nat.le_refl _) _).alloc (by simp) _
  have HZ1 := Lib.hid (show Holds W1 w.heap.size _ _ by rw [hW1]; exact HZ.out.alloc _)
  clear HZ
  go_loopw [7, 10] (fun u i wr => ∃ k : Nat, k ≤ 15 ∧ i = .int .i64 k ∧ (∀ j, j < k → hits j = false) ∧ Below W1.heap.size W1 wr) (fun u i wr => 15 - (intOf i).toNat)
  case atStart => exact ⟨0, Nat.zero_le _, rfl, fun j h => absurd h (Nat.not_lt_zero _), by rw [hW1]; exact Below.refl _ _⟩
  case round =>
    obtain ⟨k, hk, rfl, hall, hB⟩ := hrel
    have HALL := Lib.hid hall
    have HK := Lib.hid hk
    clear hall hk
    have hwr := hB.size
    have HZr := HZ1.out.below hB (by omega)
    by_cases hlt : k < 15
    · have hlt' : (k : Int) < 15 := by omega
      have hk0 : (0 : Int) ≤ (k : Int) := by omega
      obtain ⟨x0, x1, x2, x3, x4, x5, x6, hx⟩ : ∃ x0 x1 x2 x3 x4 x5 x6, ruleL k = [.int .i64 x0, .int .i64 x1, .string x2, .int .i64 x3, .func (.func x4) #[] #[], .func (.func x5) #[] #[], .func (.func x6) #[] #[]] := ⟨_, _, _, _, _, _, _, rfl⟩
      have hrc : ∀ j, j < 7 → wr.cell? ⟨w.heap.size + 1, k * 7 + j, none⟩ = [.int .i64 x0, .int .i64 x1, .string x2, .int .i64 x3, .func (.func x4) #[] #[], .func (.func x5) #[] #[], .func (.func x6) #[] #[]][j]? := fun j hj => by
        have h := HC.out k hlt j hj
        rw [World.size_alloc, hx, ← hW1] at h
        rw [← h]
        exact World.cell?_of_block (hB.block _ (by simp; omega))
      have r0 := hrc 0 (by omega)
      have r1 := hrc 1 (by omega)
      have r2 := hrc 2 (by omega)
      have r3 := hrc 3 (by omega)
      have r4 := hrc 4 (by omega)
      have r5 := hrc 5 (by omega)
      have r6 := hrc 6 (by omega)
      simp only [List.getElem?_cons_zero, List.getElem?_cons_succ, Nat.add_zero] at r0 r1 r2 r3 r4 r5 r6
      clear hrc
      have hgk := HG.out k
      rw [show ruleV k = .agg #[.int .i64 x0, .int .i64 x1, .string x2, .int .i64 x3, .func (.func x4) #[] #[], .func (.func x5) #[] #[], .func (.func x6) #[] #[]] from by rw [ruleV, hx]] at hgk
      have HX := Lib.hid hx
      clear hx
      have HR := Holds.new wr 52 #[.int .i64 x0, .int .i64 x1, .string x2, .int .i64 x3, .func (.func x4) #[] #[], .func (.func x5) #[] #[], .func (.func x6) #[] #[]]
      go_wp2_with fail
      refine (hgk _).mono ?_
      rintro e w2 ⟨rfl, hB2⟩
      have HR2 := HR.below hB2 (by simp)
      have HZ2 := (HZr.alloc _).below hB2 (by simp; omega)
      have hB02 : Below W1.heap.size W1 w2 := (hB.alloc (by omega) _).trans (hB2.mono (by simp; omega))
      have c0 := HR2.c (j := 0) rfl
      have c1 := HR2.c (j := 1) rfl
      have c2 := HR2.c (j := 2) rfl
      have c3 := HR2.c (j := 3) rfl
      have c4 := HR2.c (j := 4) rfl
      have c5 := HR2.c (j := 5) rfl
      have c6 := HR2.c (j := 6) rfl
      have z0 := HZ2.c (j := 0) rfl
      have z1 := HZ2.c (j := 1) rfl
      have z2 := HZ2.c (j := 2) rfl
      have z3 := HZ2.c (j := 3) rfl
      have z4 := HZ2.c (j := 4) rfl
      have z5 := HZ2.c (j := 5) rfl
      have z6 := HZ2.c (j := 6) rfl
      have f0 := HZ2.frozen 0
      have f1 := HZ2.frozen 1
      have f2 := HZ2.frozen 2
      have f3 := HZ2.frozen 3
      have f4 := HZ2.frozen 4
      have f5 := HZ2.frozen 5
      have f6 := HZ2.frozen 6
      cases hh : hits k with
      | true =>
        have HH := Lib.hid hh
        clear hh
        go_wp2
        refine bodyPost_ret (v := .tuple #[.agg #[.int .i64 x0, .int .i64 x1, .string x2, .int .i64 x3, .func (.func x4) #[] #[], .func (.func x5) #[] #[], .func (.func x6) #[] #[]], .int .i64 0]) (by simp [results, Try.f32, go_sem, z0, z1, z2, z3, z4, z5, z6]) rfl ?_
        rw [find_first hlt HALL.out HH.out]
        refine ⟨by rw [ruleOf, ruleV, HX.out]; rfl, ?_⟩
        have hb := hBw.trans (hB02.mono (by omega))
        refine Below.setCell (Below.setCell (Below.setCell (Below.setCell (Below.setCell (Below.setCell (Below.setCell hb ?_ _) ?_ _) ?_ _) ?_ _) ?_ _) ?_ _) ?_ _
        all_goals exact Nat.le_refl _
      | false =>
        have HH := Lib.hid hh
        clear hh
        go_wp2
        go_roundw
        case rel => exact ⟨k + 1, by omega, by go_num, fun j hj => by
          rcases Nat.lt_succ_iff_lt_or_eq.1 hj with h | rfl
          · exact HALL.out j h
          · exact HH.out, hB02⟩
        case measure => simp [intOf]; omega
    · have hlt' : decide ((k : Int) < 15) = false := decide_eq_false (by omega)
      have HK2 : k = 15 := by have := HK.out; omega
      have z0 := HZr.c (j := 0) rfl
      have z1 := HZr.c (j := 1) rfl
      have z2 := HZr.c (j := 2) rfl
      have z3 := HZr.c (j := 3) rfl
      have z4 := HZr.c (j := 4) rfl
      have z5 := HZr.c (j := 5) rfl
      have z6 := HZr.c (j := 6) rfl
      have f0 := HZr.frozen 0
      have f1 := HZr.frozen 1
      have f2 := HZr.frozen 2
      have f3 := HZr.frozen 3
      have f4 := HZr.frozen 4
      have f5 := HZr.frozen 5
      have f6 := HZr.frozen 6
      go_wp2
      refine bodyPost_ret (v := .tuple #[rule0, .int .i64 6]) (by simp [results, rule0, Try.f32, go_sem, z0, z1, z2, z3, z4, z5, z6]) rfl ?_
      rw [find_none (fun j hj => HALL.out j (by omega))]
      refine ⟨rfl, ?_⟩
      have hb := hBw.trans (hB.mono (by omega))
      refine Below.setCell (Below.setCell (Below.setCell (Below.setCell (Below.setCell (Below.setCell (Below.setCell hb ?_ _) ?_ _) ?_ _) ?_ _) ?_ _) ?_ _) ?_ _
      all_goals exact Nat.le_refl _
end Go.Proofs.Ytmpglmepmdpjoaa
