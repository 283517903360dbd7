/- Regions in a round; lay, the iterator, Check, Lives. -/
import Derived.Test.YtpdbkjnaicjfdaaGreatDoorGpk
import Derived.Test.YtpdbkjnaicjfdaaGreatDoorGb
import Derived.OrdersIn
import Derived.Deep.RegionHeld3
import Derived.RangeFuncCalls
import Derived.Test.YtpdbkjnaicjfdaaGreatDoorHsR2
import Derived.Test.YtpdbkjnaicjfdaaGreatDoorGrN
import Derived.Test.YtpdbkjnaicjfdaaGreatDoorGrX
import Derived.RangeFuncNested
import Derived.RangeFuncBound
import Derived.RangeFuncLeaves
import Derived.RangeFuncBox
import Derived.Shelf.Abstract
import Derived.Shelf.RegionOpen
import Derived.OwnWalkIn
import Derived.TacticsInMore
import Derived.LoopNIn
import Derived.LoopIn
namespace Go.Proofs.YtpdbkjnaicjfdaaGreatDoor
open Go Go.RowKit
set_option linter.unusedVariables false

section
variable {lp n : Nat} {P : Program} {md : Region.Mode} {ops : Array Oper} {Q : Exit → Act → World → Prop}

/-- Q, but 'False' at every other end. -/
def Norm (Q : Exit → Act → World → Prop) : Exit → Act → World → Prop
  | .normal, a, w => Q .normal a w
  | _, _, _ => False
theorem Norm.normal {a : Act} {w : World} (h : Q .normal a w) : Norm Q .normal a w := h
theorem rows_wide {row : String} {args : Array Value} {w : World} {R : Value → World → Prop} (h : Rows P row args w R) : RowsIn (Fence.wide.inRound lp) n P row args w R :=
  fun c cs _ => let ⟨v, w', r, s⟩ := h c cs; ⟨v, w', r, stepsIn_wide.2 s⟩
theorem no_out : ¬ LetsOut (Norm Q) := fun ⟨_, _, h⟩ => h
def tameB (o : Oper) : Bool := match o.op with
  | .defer _ => false
  | _ => true
theorem tame_sem {o : Oper} (h : tameB o = true) (r : Option Nat) (ρ : Operand → Value) : o.semAt r ρ = execOp ρ o :=
  Oper.semAt_eq r ρ o fun c e => by unfold tameB at h; rw [e] at h; cases h
theorem wp_wide {o : Oper} {a : Act} {w : World} {K : Act → World → Prop} (ht : tameB o = true) (h : o.wp P a w K (Norm Q)) : o.wpIn (Fence.wide.inRound lp) n P a w K Q := by
  unfold Oper.wp at h
  unfold Oper.wpIn
  refine ⟨fun _ _ => trivial, ?_⟩
  rw [tame_sem ht]
  generalize (execOp a.eval o).run P w = r at *
  cases r with
  | ok x w' =>
    cases x <;> first
      | exact h
      | exact (show False from h).elim
      | exact ⟨fun e => (by cases e), rows_wide h⟩
      | (refine ⟨fun e => (by cases e), CallsIn.inRound lp (callsIn_wide.2 (Calls.mono h ?_))⟩
         intro e w'' h2
         cases e with
         | returned v => exact h2
         | panicked chain => exact (show False from h2).elim
         | outgrown => exact (no_out h2).elim)
  | halt x w' =>
    cases x <;> first | exact (show False from h).elim
theorem any_wide (ht : ops.toList.all tameB = true) : ∀ (fuel : Nat) (got : Array Bool) (a : Act) (w : World), wpAny P md ops (Norm Q) fuel got a w → wpAnyIn (Fence.wide.inRound lp) n P md ops Q fuel got a w
  | 0, got, a, w, h => ⟨h.1, h.2⟩
  | fuel + 1, got, a, w, h => by
    refine ⟨fun h0 => h.1 h0, fun i hi => ?_⟩
    have h2 := h.2 i hi
    unfold Go.wpOp at h2
    unfold Go.wpOpIn
    cases ho : ops[i]? with
    | none => rw [ho] at h2; exact any_wide ht fuel _ a w h2
    | some o =>
      rw [ho] at h2
      dsimp only at h2 ⊢
      by_cases hw : Region.wanted o (yielded ops a.tmps) = true
      · rw [if_pos hw] at h2 ⊢
        rcases h2 with h2 | ⟨_, h2⟩
        · exact wp_wide (List.all_eq_true.1 ht o (List.mem_of_getElem? (i := i) (by simpa using ho))) (Oper.wp_mono (fun a w h => any_wide ht fuel _ a w h) h2)
        · exact (no_out h2).elim
      · rw [if_neg hw] at h2 ⊢
        exact ⟨fun _ _ => trivial, any_wide ht fuel _ _ w h2⟩
theorem wpIn_region_heads {id : Nat} {a : Act} {w : World} {l : List Oper} (ms : List Bool) (S : World → Prop) (hm : P.follows .mixedOrders = true) (hB : headsAll .any l.toArray ms = true) (ht : l.all tameB = true)
    (hS : S w.drew) (h : Heads P l.toArray (Norm Q) S ms l a w.drew) : (Code.region id l.toArray true).wpIn (Fence.wide.inRound lp) n P Q a w := by
  simp only [headsAll, Bool.and_eq_true, decide_eq_true_eq] at hB
  refine wpIn_region_any hm (any_wide (by simpa using ht) _ _ _ _ (Till.any (heads_till hB.1.1.1.1 hB.1.1.2 hB.1.2 hB.1.1.1.2 (fun _ _ _ _ _ h => h) ms l 0 _ a _ (fun j => by simp) (by omega) (by simp) ⟨by simp, ?_, ?_⟩ (by simpa using hB.2) hS h)))
  · intro j _ _ h1; rw [getD_replicate_false] at h1; cases h1
  · intro t _ h1; exact getD_in (by simpa using h1) (getD_replicate_false _ _)
theorem wpIn_region_picked {id : Nat} {a : Act} {w : World} {l : List Oper} (ms : List (Nat × Bool)) (S : World → Prop) (hm : P.follows .mixedOrders = true) (hB : (Region.noSelect l.toArray && decide (ms.length = l.length) && pickedB .any l.toArray ms (Array.replicate l.toArray.size false)) = true) (ht : l.all tameB = true)
    (hS : S w.drew) (h : Picked P l.toArray (Norm Q) S ms a w.drew) : (Code.region id l.toArray true).wpIn (Fence.wide.inRound lp) n P Q a w := by
  simp only [Bool.and_eq_true, decide_eq_true_eq] at hB
  have := picked_held (md := .any) hB.1.1 (fun _ _ _ _ _ h => h) ms _ a w.drew hB.2 hS h
  rw [hB.1.2] at this
  exact wpIn_region_any hm (any_wide (by simpa using ht) _ _ _ _ (wpAny_of_held _ _ _ _ this))
end
end Go.Proofs.YtpdbkjnaicjfdaaGreatDoor
namespace Go.Proofs.YtpdbkjnaicjfdaaGreatDoor
open Go.RowKit Go.Maps
set_option linter.unusedVariables false
set_option maxRecDepth 100000

theorem lay_step {es : List Ev} {k : Nat} {e : Ev} (hk : es[k]? = some e) (h0 : layE (es.take k) = 0) :
    (agE (layD (es.take k)) e = 0 → layE (es.take (k + 1)) = 0 ∧ layD (es.take (k + 1)) = takeD (layD (es.take k)) e) ∧ (agE (layD (es.take k)) e ≠ 0 → layX dk0 0 es = (layD (es.take k), agE (layD (es.take k)) e, (k : Int))) := by
  have hl := (List.getElem?_eq_some_iff.1 hk).1
  have ht : es.take (k + 1) = es.take k ++ [e] := by
    rw [List.take_succ_eq_append_getElem hl]
    rw [List.getElem?_eq_getElem hl] at hk
    rw [Option.some.inj hk]
  have hlen : (es.take k).length = k := by rw [List.length_take]; omega
  have h1 := (lay_app (es.take k) [e] dk0 0).2 h0
  rw [← ht, hlen, Nat.zero_add] at h1
  refine ⟨fun ha => ?_, fun ha => ?_⟩
  · rw [layX, if_pos ha] at h1
    exact ⟨by unfold layE; rw [h1]; rfl, by unfold layD; rw [h1]; rfl⟩
  · rw [layX, if_neg ha] at h1
    have h2 := (lay_app (es.take (k + 1)) (es.drop (k + 1)) dk0 0).1 (by rw [h1]; exact ha)
    rw [List.take_append_drop] at h2
    rw [h2, h1]
theorem lay_last {es : List Ev} (h0 : layE es = 0) : layX dk0 0 es = (layD es, 0, 0) := by
  have := lay_fine es dk0 0 h0
  unfold layE at h0
  unfold layD
  generalize layX dk0 0 es = x at *
  obtain ⟨a, b, c⟩ := x
  simp_all
theorem lay_evs {es : List Ev} : (layD es).evs ≤ es.length := by
  have := (lay_ok es dk0 0 dk0_ok).2.1
  unfold layD
  have e : dk0.evs = 0 := rfl
  omega
def LayPost (x : Dk × Int × Int) (w : World) (e : Ending) (w' : World) : Prop :=
  ∃ L, e = .returned (.tuple #[.pointer (some ⟨L.B, 0, none⟩), .agg #[.int .i64 x.2.1, .int .i64 x.2.2]]) ∧ Dsk w' w.heap.size L x.1 ∧ Below w.heap.size w w'

set_option maxHeartbeats 4000000 in
theorem lay_any (A : Option Addr) (c : Nat) (zs : List EvZ) (w : World) (hA : ReadEvs w.heap.size w A zs) (hN : ReadNums w zs) (hlen : ∀ z ∈ zs, z.1.st.2.2.length ≤ 20000 ∧ z.1.nm.size ≤ 8000 ∧ z.1.ob.size ≤ 8000) (hm : zs.length ≤ 90) :
    Calls Tryz.prog 39 #[.slice A zs.length c] w (LayPost (layX dk0 0 (zs.map Prod.fst)) w) := by
  have HA := Lib.hid hA
  have HN := Lib.hid hN
  have HLN := Lib.hid hlen
  obtain ⟨X, hX⟩ : ∃ X, layX dk0 0 (zs.map Prod.fst) = X := ⟨_, rfl⟩
  have HXX := Lib.hid hX
  rw [hX]
  obtain ⟨m, hmm⟩ : ∃ m, zs.length = m := ⟨_, rfl⟩
  rw [hmm] at hm ⊢
  have HMM := Lib.hid hmm
  have hb0 := alloc1 w (.cells #[.int .i64 0, .int .i64 0] 29)
  have HF0 := Lib.hid (Holds.new w 29 #[.int .i64 0, .int .i64 0])
  have hz0 : (w.alloc (.cells #[.int .i64 0, .int .i64 0] 29)).heap.size = w.heap.size + 1 := by simp
  clear hA hN hlen hmm hX
  go_enter Tryz.func39, Tryz.ntmps39
  go_upto_region 1 with fail
  generalize w.alloc (.cells #[.int .i64 0, .int .i64 0] 29) = W0 at *
  go_wp2_with fail
  refine (new_any _).mono ?_
  rintro e w1 ⟨L0, rfl, hD1, hb1⟩
  obtain ⟨B0, hB0⟩ : ∃ B0, L0.B = B0 := ⟨_, rfl⟩
  rw [hB0]
  have hbb := nxt hb0 hb1 hb0.size
  have HB0 := Lib.hid hB0
  have HD1 := Lib.hid (hD1.mono (show w.heap.size ≤ W0.heap.size by omega))
  have HF1 := Lib.hid (HF0.out.below hb1 (by omega))
  have hD1lo := hD1.hB
  have hl0 : w.heap.size < W0.heap.size := by omega
  have HLO := Lib.hid hD1
  have hW01 := hb1.size
  clear hD1 hB0
  go_wp2_with fail
  go_loopw [11] (fun i wr => ∃ (k : Nat) (L : Lay), k ≤ m ∧ i = .int .i64 k ∧ L.B = B0 ∧ Dsk wr W0.heap.size L (layD ((zs.map Prod.fst).take k)) ∧ layE ((zs.map Prod.fst).take k) = 0 ∧ Holds wr w.heap.size 29 #[.int .i64 0, .int .i64 0] ∧ Below w.heap.size w wr ∧ W0.heap.size ≤ wr.heap.size) (fun i wr => m - (intOf i).toNat)
  case atStart => exact ⟨0, L0, Nat.zero_le _, rfl, HB0.out, HLO.out, rfl, HF1.out, hbb, hW01⟩
  case round =>
    obtain ⟨k, L, hk, rfl, hLB, hD, hE, hF, hB, hwr⟩ := hrel
    have HD := Lib.hid hD
    have HE := Lib.hid hE
    have HF := Lib.hid hF
    have hevs : (layD ((zs.map Prod.fst).take k)).evs ≤ k := by
      have := lay_evs (es := (zs.map Prod.fst).take k)
      rw [List.length_take] at this; omega
    clear hD hE hF
    by_cases hlt : k < m
    · have hkd : decide (k < m) = true := decide_eq_true hlt
      obtain ⟨b, off, rfl, hb, hcs⟩ := ev_read (HA.out.below hB) (by rw [HMM.out]; exact hlt)
      have hz := wd_memE (zs := zs) (by rw [HMM.out]; exact hlt)
      have hek : (zs.map Prod.fst)[k]? = some (zs[k]?.getD (⟨0, emB, emB, op0, stz⟩, none, 0)).1 := by
        rw [List.getElem?_map, List.getElem?_eq_getElem (show k < zs.length by rw [HMM.out]; exact hlt)]; rfl
      have hst := lay_step hek HE.out
      have hlz := HLN.out _ hz
      have hints := (HN.out _ hz).below hB
      have HST := Lib.hid hst
      clear hek hst hz
      generalize zs[k]?.getD (⟨0, emB, emB, op0, stz⟩, none, 0) = z at *
      obtain ⟨ev, Ae, ce⟩ := z
      dsimp only at hcs hints hlz
      have hba := alloc1 wr (.cells (evC ev Ae ce) 55)
      have HX1 := Lib.hid (Holds.new wr 55 (evC ev Ae ce))
      have HDa := Lib.hid (HD.out.below hba)
      have HADD := Lib.hid (dadd_any ev Ae ce (wr.alloc (.cells (evC ev Ae ce) 55)) HDa.out (by omega) (by have := hba.size; omega) (hints.below hba) hlz.1 hlz.2.1 hlz.2.2)
      have HFa := Lib.hid (HF.out.below hba HF.out.lt)
      have HHA := Lib.hid (show addD (layD ((zs.map Prod.fst).take k)) ev = if agE (layD ((zs.map Prod.fst).take k)) ev = 0 then takeD (layD ((zs.map Prod.fst).take k)) ev else layD ((zs.map Prod.fst).take k) from rfl)
      unfold AddedPost at HADD
      dsimp only at HST
      generalize hag : agE (layD ((zs.map Prod.fst).take k)) ev = ag at *
      have HAG := Lib.hid hag
      clear hag
      rw [hLB] at HADD
      unfold evV evC at *
      obtain ⟨x0, x1, x2, x3, x4, x5, x6, x7, x8, x9, x10⟩ := hcs
      have hk0 : (0 : Int) ≤ (k : Int) := by omega
      have hk1 : (k : Int) < (m : Int) := by omega
      go_upto_region 5 with fail
      have hba2 := hba.size
      have hlw := HX1.out.lt
      generalize wr.alloc (.cells #[.int .i64 ev.kd, .string ev.nm, .string ev.ob, .int .i64 ev.op.1, .int .i64 ev.op.2.1, .int .i64 ev.op.2.2.1, .int .i64 ev.op.2.2.2.1, .int .i64 ev.op.2.2.2.2, .int .i64 ev.st.1, .int .i64 ev.st.2.1, .slice Ae ev.st.2.2.length ce] 55) = W2 at *
      clear x0 x1 x2 x3 x4 x5 x6 x7 x8 x9 x10
      obtain ⟨x0, x1, x2, x3, x4, x5, x6, x7, x8, x9, x10, y0⟩ := ev_cells HX1.out
      go_wp2_with fail
      refine HADD.out.mono ?_
      rintro e w3 ⟨rfl, L', hD3, hLB3, hbut, hft⟩
      have hft2 : ∀ i, foot L i → W0.heap.size ≤ i := fun i hi => (HDa.out.lt i hi).1
      have hF3 : Holds w3 w.heap.size 29 #[.int .i64 0, .int .i64 0] := HFa.out.of (hbut.block _ HFa.out.lt (fun hf => by have := hft2 _ hf; omega))
      have hB3 : Below w.heap.size w w3 := (nxt hB hba (by have := hB.size; omega)).trans (hbut.below (fun i hi => by have := hft2 i hi; omega) (by have := hB.size; omega))
      have hs3 : W0.heap.size ≤ w3.heap.size := by have := hbut.size; omega
      have HF3 := Lib.hid hF3
      have HD3 := Lib.hid hD3
      clear hF3 hD3 hft hft2 hbut x0 x1 x2 x3 x4 x5 x6 x7 x8 x9 x10 y0
      by_cases hz : ag = 0
      · subst hz
        have e1 := HHA.out
        rw [if_pos rfl] at e1
        rw [e1] at HD3
        have h2 := HST.out.1 rfl
        go_wp2_with fail
        go_roundw
        case rel => exact ⟨k + 1, L', by omega, by go_num, hLB3, by rw [h2.2]; exact HD3.out, h2.1, HF3.out, hB3, hs3⟩
        case measure => simp [intOf]; omega
      · have hzz : (ag == 0) = false := beq_eq_false_iff_ne.2 hz
        have e1 := HHA.out
        rw [if_neg hz] at e1
        rw [e1] at HD3
        have h2 := (HST.out.2 hz).symm.trans HXX.out
        have HX2 := Lib.hid h2
        clear h2 e1 hz
        have f0 := HF3.out.c (j := 0) rfl
        have f1 := HF3.out.c (j := 1) rfl
        have fz := HF3.out.frozen
        have g2 := (HF3.out.set 0 (.int .i64 ag)).set 1 (.int .i64 k)
        have hB9 := (hB3.setCell (p := ⟨w.heap.size, 0, none⟩) (Nat.le_refl _) (.int .i64 ag)).setCell (p := ⟨w.heap.size, 1, none⟩) (Nat.le_refl _) (.int .i64 k)
        have hO := ((only_set w3 w.heap.size 0 (.int .i64 ag)).then (only_set (w3.setCell ⟨w.heap.size, 0, none⟩ (.int .i64 ag)) w.heap.size 1 (.int .i64 k)))
        have hD9 := HD3.out.kept (fun i hi hf => hO.block i hi (fun e => by have := (HD3.out.lt i hf).1; omega))
        go_wp2
        have k0 : ((w3.setCell ⟨w.heap.size, 0, none⟩ (.int .i64 ag)).setCell ⟨w.heap.size, 1, none⟩ (.int .i64 k)).cell? ⟨w.heap.size, 0, none⟩ = some (.int .i64 ag) := g2.c (j := 0) rfl
        have k1 : ((w3.setCell ⟨w.heap.size, 0, none⟩ (.int .i64 ag)).setCell ⟨w.heap.size, 1, none⟩ (.int .i64 k)).cell? ⟨w.heap.size, 1, none⟩ = some (.int .i64 k) := g2.c (j := 1) rfl
        clear f0 f1
        generalize (w3.setCell ⟨w.heap.size, 0, none⟩ (.int .i64 ag)).setCell ⟨w.heap.size, 1, none⟩ (.int .i64 k) = W9 at *
        refine bodyPost_ret (v := .tuple #[.pointer (some ⟨B0, 0, none⟩), .agg #[.int .i64 ag, .int .i64 k]]) (by simp [results, Tryz.f39, go_sem, k0, k1]) rfl ?_
        rw [← HX2.out]
        exact ⟨L', by rw [hLB3], hD9.mono (by omega), hB9⟩
    · have hkk : k = m := by omega
      subst hkk
      have hkd : decide (k < k) = false := decide_eq_false (by omega)
      have htk : (zs.map Prod.fst).take k = zs.map Prod.fst := List.take_of_length_le (by rw [List.length_map, HMM.out]; exact Nat.le_refl _)
      rw [htk] at HD HE
      have h2 := (lay_last HE.out).symm.trans HXX.out
      have HX2 := Lib.hid h2
      clear h2 htk
      have f0 := HF.out.c (j := 0) rfl
      have f1 := HF.out.c (j := 1) rfl
      have fz := HF.out.frozen
      have g2 := (HF.out.set 0 (.int .i64 0)).set 1 (.int .i64 0)
      have hB9 := (hB.setCell (p := ⟨w.heap.size, 0, none⟩) (Nat.le_refl _) (.int .i64 0)).setCell (p := ⟨w.heap.size, 1, none⟩) (Nat.le_refl _) (.int .i64 0)
      have hO := ((only_set wr w.heap.size 0 (.int .i64 0)).then (only_set (wr.setCell ⟨w.heap.size, 0, none⟩ (.int .i64 0)) w.heap.size 1 (.int .i64 0)))
      have hD9 := HD.out.kept (fun i hi hf => hO.block i hi (fun e => by have := (HD.out.lt i hf).1; omega))
      go_wp2
      have k0 : ((wr.setCell ⟨w.heap.size, 0, none⟩ (.int .i64 0)).setCell ⟨w.heap.size, 1, none⟩ (.int .i64 0)).cell? ⟨w.heap.size, 0, none⟩ = some (.int .i64 0) := g2.c (j := 0) rfl
      have k1 : ((wr.setCell ⟨w.heap.size, 0, none⟩ (.int .i64 0)).setCell ⟨w.heap.size, 1, none⟩ (.int .i64 0)).cell? ⟨w.heap.size, 1, none⟩ = some (.int .i64 0) := g2.c (j := 1) rfl
      clear f0 f1
      generalize (wr.setCell ⟨w.heap.size, 0, none⟩ (.int .i64 0)).setCell ⟨w.heap.size, 1, none⟩ (.int .i64 0) = W9 at *
      refine bodyPost_ret (v := .tuple #[.pointer (some ⟨B0, 0, none⟩), .agg #[.int .i64 0, .int .i64 0]]) (by simp [results, Tryz.f39, go_sem, k0, k1]) rfl ?_
      rw [← HX2.out]
      exact ⟨L, by rw [hLB], hD9.mono (by omega), hB9⟩
end Go.Proofs.YtpdbkjnaicjfdaaGreatDoor
namespace Go.Proofs.YtpdbkjnaicjfdaaGreatDoor
open Go.RowKit Go.Shelf Go.Maps
set_option linter.unusedVariables false

attribute [local go_sem] Oper.semAt_some

/-- Pointers that lie below B. -/
def PtrsB (B : Nat) (w : World) (A : Option Addr) (l : List Nat) : Prop :=
  0 < l.length → ∃ b off, A = some ⟨b, off, none⟩ ∧ b < B ∧ ∀ j, j < l.length → w.cell? ⟨b, off + j, none⟩ = some (.pointer (some ⟨l[j]?.getD 0, 0, none⟩))
theorem PtrsB.below {B : Nat} {w w' : World} {A : Option Addr} {l : List Nat} (h : PtrsB B w A l) (hb : Below B w w') : PtrsB B w' A l := fun hl => by
  obtain ⟨b, off, e, hlt, hc⟩ := h hl
  exact ⟨b, off, e, hlt, fun j hj => (hb.cell (p := ⟨b, off + j, none⟩) hlt).trans (hc j hj)⟩
theorem reg_ptrs {w : World} {lo : Nat} {pt tt : TypeId} {M : Nat} {A : Option Addr} {k : Nat} {ns : List ByteArray} {bs : List Nat} {cs : List (Array Value)} (h : Reg w lo pt tt M (.slice A bs.length k) ns bs cs) : PtrsB w.heap.size w A bs := fun hl => by
  rcases h.row.2 with ⟨_, hn⟩ | ⟨g, cap, cur, e, hb, hg, _⟩
  · omega
  · injection e with e1
    subst e1
    refine ⟨g, 0, rfl, (Array.getElem?_eq_some_iff.1 hg).1, fun j hj => ?_⟩
    have := h.row.cells (g := g) rfl j (ptrO (some bs[j])) (by rw [List.getElem?_map, List.getElem?_eq_getElem hj]; rfl)
    rw [List.getElem?_eq_getElem hj]
    have e2 : (⟨g, 0, none⟩ : Addr).add j = ⟨g, 0 + j, none⟩ := by unfold Addr.add; split <;> simp_all
    rw [e2] at this
    exact this

theorem all_O_in (F : Fence) (m : Nat) (h1 : F.fn 43) (hro : F.round = none) (B : Nat) (w : World) :
    CallsIn F m Tryz.prog 43 #[.pointer (some ⟨B, 1, none⟩)] w fun e w' => e = .returned (.func (.func 63) #[] #[.pointer (some ⟨w.heap.size, 0, none⟩)]) ∧ w' = w.alloc (.cells #[.pointer (some ⟨B, 1, none⟩)] 126) := by
  refine callsIn_of_wp Tryz.func43 rfl h1 ?_ hro
  simp only [Tryz.ntmps43, List.size_toArray, List.length_cons, List.length_nil, Nat.reduceAdd, Nat.reduceSub, Array.replicate_succ, Array.replicate_zero, List.push_toArray, List.append_toArray, List.nil_append, List.cons_append]
  gi_wp2
  go_ret
  exact ⟨rfl, rfl⟩

set_option maxRecDepth 100000 in
set_option maxHeartbeats 1000000 in
theorem all1_O_in {α : Type} (f : α → Nat) (m : Nat) (hm : 1 ≤ m) (lp Bb B n₀ : Nat) (A : Option Addr) (c : Nat) (ps : List α) (hlen : ps.length ≤ maxLen) (J Jx : List α → World → Prop)
    (hY : ∀ pre (x : α) W, J pre W → pre.length < ps.length → YieldAt Fence.wide (m - 1) Tryz.prog lp #[.pointer (some ⟨f x, 0, none⟩)] W fun e W' =>
      (e = .returned (.bool true) ∧ J (pre ++ [x]) W' ∧ Below n₀ W W') ∨ (e = .returned (.bool false) ∧ Jx (pre ++ [x]) W'))
    (W : World) (hBb : W.cell? ⟨Bb, 0, none⟩ = some (.pointer (some ⟨B, 1, none⟩))) (hv : W.cell? ⟨B, 2, none⟩ = some (.slice A ps.length c)) (hA : PtrsB n₀ W A (ps.map f)) (h0 : J [] W) :
    CallsIn Fence.wide m Tryz.prog 63 #[.func (.yield lp) #[] #[], .pointer (some ⟨Bb, 0, none⟩)] W fun e W' => (∃ v, e = .returned v) ∧
      ((∃ ys, ys = ps ∧ J ys W') ∨ (∃ pre, pre <+: ps ∧ Jx pre W')) := by
  unfold maxLen at hlen
  refine callsIn_of_wp Tryz.func63 rfl trivial ?_ rfl
  simp only [Tryz.ntmps63, List.size_toArray, List.length_cons, List.length_nil, Nat.reduceAdd, Nat.reduceSub, Array.replicate_succ, Array.replicate_zero, List.push_toArray, List.append_toArray, List.nil_append, List.cons_append]
  gi_wp2
  gi_loopw [10] (fun i wr => ∃ (k : Nat), k ≤ ps.length ∧ i = .int .i64 k ∧ J (ps.take k) wr ∧ Below n₀ W wr) (fun i wr => ps.length - (intOf i).toNat)
  case atStart => exact ⟨0, Nat.zero_le _, rfl, h0, Below.refl _ _⟩
  case round =>
    obtain ⟨k, hk, rfl, hJ, hB⟩ := hrel
    have HJ := Lib.hid hJ
    have HA := Lib.hid (hA.below hB)
    have HB := Lib.hid hB
    clear hJ hB
    by_cases hlt : k < ps.length
    · obtain ⟨b, off, rfl, hb, hc⟩ := HA.out (by rw [List.length_map]; omega)
      have hck := hc k (by rw [List.length_map]; exact hlt)
      have hx : ps[k]? = some ps[k] := List.getElem?_eq_getElem hlt
      rw [List.getElem?_map, hx] at hck
      simp only [Option.map_some, Option.getD_some] at hck
      have hst : ps.take (k + 1) = ps.take k ++ [ps[k]] := List.take_succ_eq_append_getElem hlt
      have hk0 : (0 : Int) ≤ (k : Int) := by omega
      have hk1 : (k : Int) < (ps.length : Int) := by omega
      obtain ⟨fn, tmps, assign, body, hy, hR⟩ := hY (ps.take k) ps[k] wr HJ.out (by rw [List.length_take]; omega)
      rw [← hst] at hR
      have HR := Lib.hid hR
      clear hst hc hx hR
      generalize f ps[k] = fx at *
      gi_wp2
      refine HR.out.mono ?_
      rintro e W3 (⟨rfl, hJ3, hk3⟩ | ⟨rfl, hJx3⟩)
      · gi_wp2
        go_roundw
        case rel => exact ⟨k + 1, by omega, by go_num, hJ3, HB.out.trans hk3⟩
        case measure => simp [intOf]; omega
      · gi_wp2
        first | (refine bodyPost_ret (results_none rfl _ _ _) rfl ?_) | trace_state
        exact ⟨⟨_, rfl⟩, .inr ⟨_, List.take_prefix _ _, hJx3⟩⟩
    · gi_wp2
      go_end0
      refine ⟨⟨_, rfl⟩, .inl ⟨_, rfl, ?_⟩⟩
      have := HJ.out
      rwa [List.take_of_length_le (by omega)] at this

theorem all_O_stops {α : Type} (f : α → Nat) (m : Nat) (hm : 1 ≤ m) (Bb B n₀ : Nat) (A : Option Addr) (c : Nat) (ps : List α) (hlen : ps.length ≤ maxLen) (w : World) (hBb : Bb < w.heap.size) (hB : B < w.heap.size) (hn₀ : n₀ ≤ w.heap.size)
    (hcb : w.cell? ⟨Bb, 0, none⟩ = some (.pointer (some ⟨B, 1, none⟩))) (hv : w.cell? ⟨B, 2, none⟩ = some (.slice A ps.length c)) (hA : PtrsB n₀ w A (ps.map f)) :
    SeqStopsK Fence.wide m Tryz.prog 63 #[.pointer (some ⟨Bb, 0, none⟩)] (fun x : α => #[Value.pointer (some ⟨f x, 0, none⟩)]) (Below n₀) (fun ys => ys = ps) (fun pre => pre <+: ps) ps.length w := fun lp J Jx W hW _ _ hY h0 =>
  all1_O_in f m hm lp Bb B n₀ A c ps hlen J Jx hY W ((hW.cell (p := ⟨Bb, 0, none⟩) hBb).trans hcb) ((hW.cell (p := ⟨B, 2, none⟩) hB).trans hv) (hA.below (hW.mono hn₀)) h0

theorem all_L_in (F : Fence) (m : Nat) (h1 : F.fn 41) (hro : F.round = none) (B : Nat) (w : World) :
    CallsIn F m Tryz.prog 41 #[.pointer (some ⟨B, 3, none⟩)] w fun e w' => e = .returned (.func (.func 62) #[] #[.pointer (some ⟨w.heap.size, 0, none⟩)]) ∧ w' = w.alloc (.cells #[.pointer (some ⟨B, 3, none⟩)] 124) := by
  refine callsIn_of_wp Tryz.func41 rfl h1 ?_ hro
  simp only [Tryz.ntmps41, List.size_toArray, List.length_cons, List.length_nil, Nat.reduceAdd, Nat.reduceSub, Array.replicate_succ, Array.replicate_zero, List.push_toArray, List.append_toArray, List.nil_append, List.cons_append]
  gi_wp2
  go_ret
  exact ⟨rfl, rfl⟩

set_option maxRecDepth 100000 in
set_option maxHeartbeats 1000000 in
theorem all1_L_in {α : Type} (f : α → Nat) (m : Nat) (hm : 1 ≤ m) (lp Bb B n₀ : Nat) (A : Option Addr) (c : Nat) (ps : List α) (hlen : ps.length ≤ maxLen) (J Jx : List α → World → Prop)
    (hY : ∀ pre (x : α) W, J pre W → pre.length < ps.length → YieldAt Fence.wide (m - 1) Tryz.prog lp #[.pointer (some ⟨f x, 0, none⟩)] W fun e W' =>
      (e = .returned (.bool true) ∧ J (pre ++ [x]) W' ∧ Below n₀ W W') ∨ (e = .returned (.bool false) ∧ Jx (pre ++ [x]) W'))
    (W : World) (hBb : W.cell? ⟨Bb, 0, none⟩ = some (.pointer (some ⟨B, 3, none⟩))) (hv : W.cell? ⟨B, 4, none⟩ = some (.slice A ps.length c)) (hA : PtrsB n₀ W A (ps.map f)) (h0 : J [] W) :
    CallsIn Fence.wide m Tryz.prog 62 #[.func (.yield lp) #[] #[], .pointer (some ⟨Bb, 0, none⟩)] W fun e W' => (∃ v, e = .returned v) ∧
      ((∃ ys, ys = ps ∧ J ys W') ∨ (∃ pre, pre <+: ps ∧ Jx pre W')) := by
  unfold maxLen at hlen
  refine callsIn_of_wp Tryz.func62 rfl trivial ?_ rfl
  simp only [Tryz.ntmps62, List.size_toArray, List.length_cons, List.length_nil, Nat.reduceAdd, Nat.reduceSub, Array.replicate_succ, Array.replicate_zero, List.push_toArray, List.append_toArray, List.nil_append, List.cons_append]
  gi_wp2
  gi_loopw [10] (fun i wr => ∃ (k : Nat), k ≤ ps.length ∧ i = .int .i64 k ∧ J (ps.take k) wr ∧ Below n₀ W wr) (fun i wr => ps.length - (intOf i).toNat)
  case atStart => exact ⟨0, Nat.zero_le _, rfl, h0, Below.refl _ _⟩
  case round =>
    obtain ⟨k, hk, rfl, hJ, hB⟩ := hrel
    have HJ := Lib.hid hJ
    have HA := Lib.hid (hA.below hB)
    have HB := Lib.hid hB
    clear hJ hB
    by_cases hlt : k < ps.length
    · obtain ⟨b, off, rfl, hb, hc⟩ := HA.out (by rw [List.length_map]; omega)
      have hck := hc k (by rw [List.length_map]; exact hlt)
      have hx : ps[k]? = some ps[k] := List.getElem?_eq_getElem hlt
      rw [List.getElem?_map, hx] at hck
      simp only [Option.map_some, Option.getD_some] at hck
      have hst : ps.take (k + 1) = ps.take k ++ [ps[k]] := List.take_succ_eq_append_getElem hlt
      have hk0 : (0 : Int) ≤ (k : Int) := by omega
      have hk1 : (k : Int) < (ps.length : Int) := by omega
      obtain ⟨fn, tmps, assign, body, hy, hR⟩ := hY (ps.take k) ps[k] wr HJ.out (by rw [List.length_take]; omega)
      rw [← hst] at hR
      have HR := Lib.hid hR
      clear hst hc hx hR
      generalize f ps[k] = fx at *
      gi_wp2
      refine HR.out.mono ?_
      rintro e W3 (⟨rfl, hJ3, hk3⟩ | ⟨rfl, hJx3⟩)
      · gi_wp2
        go_roundw
        case rel => exact ⟨k + 1, by omega, by go_num, hJ3, HB.out.trans hk3⟩
        case measure => simp [intOf]; omega
      · gi_wp2
        first | (refine bodyPost_ret (results_none rfl _ _ _) rfl ?_) | trace_state
        exact ⟨⟨_, rfl⟩, .inr ⟨_, List.take_prefix _ _, hJx3⟩⟩
    · gi_wp2
      go_end0
      refine ⟨⟨_, rfl⟩, .inl ⟨_, rfl, ?_⟩⟩
      have := HJ.out
      rwa [List.take_of_length_le (by omega)] at this

theorem all_L_stops {α : Type} (f : α → Nat) (m : Nat) (hm : 1 ≤ m) (Bb B n₀ : Nat) (A : Option Addr) (c : Nat) (ps : List α) (hlen : ps.length ≤ maxLen) (w : World) (hBb : Bb < w.heap.size) (hB : B < w.heap.size) (hn₀ : n₀ ≤ w.heap.size)
    (hcb : w.cell? ⟨Bb, 0, none⟩ = some (.pointer (some ⟨B, 3, none⟩))) (hv : w.cell? ⟨B, 4, none⟩ = some (.slice A ps.length c)) (hA : PtrsB n₀ w A (ps.map f)) :
    SeqStopsK Fence.wide m Tryz.prog 62 #[.pointer (some ⟨Bb, 0, none⟩)] (fun x : α => #[Value.pointer (some ⟨f x, 0, none⟩)]) (Below n₀) (fun ys => ys = ps) (fun pre => pre <+: ps) ps.length w := fun lp J Jx W hW _ _ hY h0 =>
  all1_L_in f m hm lp Bb B n₀ A c ps hlen J Jx hY W ((hW.cell (p := ⟨Bb, 0, none⟩) hBb).trans hcb) ((hW.cell (p := ⟨B, 4, none⟩) hB).trans hv) (hA.below (hW.mono hn₀)) h0
end Go.Proofs.YtpdbkjnaicjfdaaGreatDoor
namespace Go.Proofs.YtpdbkjnaicjfdaaGreatDoor
open Go.RowKit Go.Shelf Go.Maps
set_option linter.unusedVariables false
set_option maxRecDepth 100000

attribute [local go_sem] Oper.semAt_some

theorem own_not {W : World} {base : Nat} {e : TypeId} {size : Nat} {v : Value} {n : Nat} {xs : List Value} (h : W.ownsRow base e size v n xs) {D : Nat} {o : Obj} (hD : W.heap[D]? = some o) (hc : o.isCells = false) : v.ownBlock = none ∨ v.ownBlock ≠ some D := by
  rcases h.2 with ⟨rfl, _⟩ | ⟨g, cap, cur, rfl, _, hg, _⟩
  · exact .inl rfl
  · refine .inr (fun e => ?_)
    cases (Option.some.inj e : g = D)
    rw [hg] at hD; cases hD; cases hc
/-- Events that history reads. -/
structure EvIn (w : World) (A : Option Addr) (zs : List EvZ) : Prop where
  read : ReadEvs w.heap.size w A zs
  nums : ReadNums w zs
  len : ∀ z ∈ zs, z.1.st.2.2.length ≤ 20000 ∧ z.1.nm.size ≤ 8000 ∧ z.1.ob.size ≤ 8000
  many : zs.length ≤ 90
theorem EvIn.below {w w' : World} {A : Option Addr} {zs : List EvZ} (h : EvIn w A zs) (hb : Below w.heap.size w w') : EvIn w' A zs := ⟨(h.read.below hb).mono hb.size, h.nums.below hb, h.len, h.many⟩
def fltV (x : Dk × Int × Int) : Value := .agg #[.int .i64 x.2.1, .int .i64 x.2.2]

set_option maxHeartbeats 2000000 in
theorem check_any (A : Option Addr) (c : Nat) (zs : List EvZ) (w : World) (hE : EvIn w A zs) :
    Calls Tryz.prog 20 #[.slice A zs.length c] w (Says (fltV (layX dk0 0 (zs.map Prod.fst))) w) := by
  have hb0 := alloc1 w (.cells #[.int .i64 0, .int .i64 0] 29)
  have HF0 := Lib.hid (Holds.new w 29 #[.int .i64 0, .int .i64 0])
  have hE1 := hE.below hb0
  have HL := Lib.hid (lay_any A c zs _ hE1.read hE1.nums hE1.len hE1.many)
  unfold LayPost at HL
  generalize layX dk0 0 (zs.map Prod.fst) = X at *
  obtain ⟨d, er, p⟩ := X
  unfold fltV
  dsimp only at HL ⊢
  clear hE hE1
  go_enter Tryz.func20, Tryz.ntmps20
  go_upto_region 1 with fail
  generalize w.alloc (.cells #[.int .i64 0, .int .i64 0] 29) = W0 at *
  go_wp2_with fail
  refine HL.out.mono ?_
  rintro e w1 ⟨L, rfl, hD, hb1⟩
  have hbb := nxt hb0 hb1 hb0.size
  have hb2 := alloc1 w1 (.cells #[.int .i64 er, .int .i64 p] 29)
  have HX := Lib.hid (Holds.new w1 29 #[.int .i64 er, .int .i64 p])
  have HF2 := Lib.hid ((HF0.out.below hb1 HF0.out.lt).alloc (.cells #[.int .i64 er, .int .i64 p] 29))
  have hb3 := nxt hbb hb2 hbb.size
  clear hD
  go_upto_region 2 with fail
  generalize w1.alloc (.cells #[.int .i64 er, .int .i64 p] 29) = W2 at *
  have x0 : W2.cell? ⟨w1.heap.size, 0, none⟩ = some (.int .i64 er) := HX.out.c (j := 0) rfl
  have x1 : W2.cell? ⟨w1.heap.size, 1, none⟩ = some (.int .i64 p) := HX.out.c (j := 1) rfl
  have f0 : W2.cell? ⟨w.heap.size, 0, none⟩ = some (.int .i64 0) := HF2.out.c (j := 0) rfl
  have f1 : W2.cell? ⟨w.heap.size, 1, none⟩ = some (.int .i64 0) := HF2.out.c (j := 1) rfl
  have fz := HF2.out.frozen
  have g2 := (HF2.out.set 0 (.int .i64 er)).set 1 (.int .i64 p)
  have hB9 := (hb3.setCell (p := ⟨w.heap.size, 0, none⟩) (Nat.le_refl _) (.int .i64 er)).setCell (p := ⟨w.heap.size, 1, none⟩) (Nat.le_refl _) (.int .i64 p)
  go_wp2
  have k0 : ((W2.setCell ⟨w.heap.size, 0, none⟩ (.int .i64 er)).setCell ⟨w.heap.size, 1, none⟩ (.int .i64 p)).cell? ⟨w.heap.size, 0, none⟩ = some (.int .i64 er) := g2.c (j := 0) rfl
  have k1 : ((W2.setCell ⟨w.heap.size, 0, none⟩ (.int .i64 er)).setCell ⟨w.heap.size, 1, none⟩ (.int .i64 p)).cell? ⟨w.heap.size, 1, none⟩ = some (.int .i64 p) := g2.c (j := 1) rfl
  clear f0 f1 x0 x1
  generalize (W2.setCell ⟨w.heap.size, 0, none⟩ (.int .i64 er)).setCell ⟨w.heap.size, 1, none⟩ (.int .i64 p) = W9 at *
  refine bodyPost_ret (v := .agg #[.int .i64 er, .int .i64 p]) (by simp [results, Tryz.f20, go_sem, k0, k1]) rfl ?_
  exact ⟨rfl, hB9⟩

def OwnLifes (W : World) (base : Nat) (v : Value) (xs : List Lf) : Prop := W.ownsRow base 58 5 v xs.length (xs.flatMap fun x => (lfC x).toList)
def LivesPost (X : Dk × Int × Int) (w : World) (e : Ending) (w' : World) : Prop :=
  ∃ v, e = .returned (.tuple #[v, fltV X]) ∧ OwnLifes w' w.heap.size v (if X.2.1 = 0 then X.1.trs else []) ∧ Below w.heap.size w w'
theorem info_lf : (Tryz.prog.info? 58).map (fun i => (i.zero, i.size, i.bytes)) = some (some (.agg #[.string ⟨#[]⟩, .int .i64 0, .int .i64 0, .bool false, .int .i64 0]), 5, 48) := by kernel_rfl

set_option maxHeartbeats 4000000 in
theorem lives_no (A : Option Addr) (c : Nat) (n : Nat) (w : World) (d : Dk) (er p : Int) (hz : er ≠ 0)
    (HL : Calls Tryz.prog 39 #[.slice A n c] (w.alloc (.cells #[.int .i64 0, .int .i64 0] 29)) (LayPost (d, er, p) (w.alloc (.cells #[.int .i64 0, .int .i64 0] 29)))) :
    Calls Tryz.prog 14 #[.slice A n c] w (LivesPost (d, er, p) w) := by
  have hb0 := alloc1 w (.cells #[.int .i64 0, .int .i64 0] 29)
  have HF0 := Lib.hid (Holds.new w 29 #[.int .i64 0, .int .i64 0])
  unfold LivesPost fltV
  unfold LayPost at HL
  dsimp only at HL ⊢
  rw [if_neg hz]
  have hzz : (er == 0) = false := beq_eq_false_iff_ne.2 hz
  clear hz
  go_enter Tryz.func14, Tryz.ntmps14
  go_upto_region 1 with fail
  generalize w.alloc (.cells #[.int .i64 0, .int .i64 0] 29) = W0 at *
  go_wp2_with fail
  refine HL.mono ?_
  rintro e w1 ⟨L, rfl, hD, hb1⟩
  have hbb := nxt hb0 hb1 hb0.size
  have hb2 := alloc1 w1 (.cells #[.int .i64 er, .int .i64 p] 29)
  have HX := Lib.hid (Holds.new w1 29 #[.int .i64 er, .int .i64 p])
  have HF2 := Lib.hid ((HF0.out.below hb1 HF0.out.lt).alloc (.cells #[.int .i64 er, .int .i64 p] 29))
  have hb3 := nxt hbb hb2 hbb.size
  clear hD
  go_upto_region 2 with fail
  generalize w1.alloc (.cells #[.int .i64 er, .int .i64 p] 29) = W2 at *
  have x0 : W2.cell? ⟨w1.heap.size, 0, none⟩ = some (.int .i64 er) := HX.out.c (j := 0) rfl
  have x1 : W2.cell? ⟨w1.heap.size, 1, none⟩ = some (.int .i64 p) := HX.out.c (j := 1) rfl
  have f0 : W2.cell? ⟨w.heap.size, 0, none⟩ = some (.int .i64 0) := HF2.out.c (j := 0) rfl
  have f1 : W2.cell? ⟨w.heap.size, 1, none⟩ = some (.int .i64 0) := HF2.out.c (j := 1) rfl
  have fz := HF2.out.frozen
  have hne : ¬ w.heap.size = w1.heap.size := by have := hbb.size; have := HF0.out.lt; have := hb1.size; omega
  have g2 := (HF2.out.set 0 (.int .i64 er)).set 1 (.int .i64 p)
  have hB9 := (hb3.setCell (p := ⟨w.heap.size, 0, none⟩) (Nat.le_refl _) (.int .i64 er)).setCell (p := ⟨w.heap.size, 1, none⟩) (Nat.le_refl _) (.int .i64 p)
  go_wp2_with fail
  go_region
  go_wp2
  have k0 : ((W2.setCell ⟨w.heap.size, 0, none⟩ (.int .i64 er)).setCell ⟨w.heap.size, 1, none⟩ (.int .i64 p)).drew.cell? ⟨w.heap.size, 0, none⟩ = some (.int .i64 er) := g2.c (j := 0) rfl
  have k1 : ((W2.setCell ⟨w.heap.size, 0, none⟩ (.int .i64 er)).setCell ⟨w.heap.size, 1, none⟩ (.int .i64 p)).drew.cell? ⟨w.heap.size, 1, none⟩ = some (.int .i64 p) := g2.c (j := 1) rfl
  have hBd := hB9.drew
  clear f0 f1 x0 x1 g2 hB9
  generalize ((W2.setCell ⟨w.heap.size, 0, none⟩ (.int .i64 er)).setCell ⟨w.heap.size, 1, none⟩ (.int .i64 p)).drew = W9 at *
  refine bodyPost_ret (v := .tuple #[.slice none 0 0, .agg #[.int .i64 er, .int .i64 p]]) (by simp [results, Tryz.f14, go_sem, k0, k1]) rfl ?_
  exact ⟨_, rfl, World.ownsRow_nil _ _ _ _, hBd⟩

set_option maxHeartbeats 4000000 in
theorem lives_yes (A : Option Addr) (c : Nat) (n : Nat) (w : World) (d : Dk) (p : Int)
    (HL : Calls Tryz.prog 39 #[.slice A n c] (w.alloc (.cells #[.int .i64 0, .int .i64 0] 29)) (LayPost (d, 0, p) (w.alloc (.cells #[.int .i64 0, .int .i64 0] 29)))) (hp : p = 0) :
    Calls Tryz.prog 14 #[.slice A n c] w (LivesPost (d, 0, p) w) := by
  subst hp
  obtain ⟨i0, hi, hz0, hz1, hz2⟩ := info_parts info_lf
  have hb0 := alloc1 w (.cells #[.int .i64 0, .int .i64 0] 29)
  have HF0 := Lib.hid (Holds.new w 29 #[.int .i64 0, .int .i64 0])
  unfold LivesPost fltV
  unfold LayPost at HL
  dsimp only at HL ⊢
  rw [if_pos rfl]
  refine (callsIn_wide (n := 6)).1 ?_
  refine callsIn_of_wp_marks Tryz.func14 rfl trivial ?_ rfl
  simp only [Tryz.ntmps14, List.size_toArray, List.length_cons, List.length_nil, Nat.reduceAdd, Nat.reduceSub, Array.replicate_succ, Array.replicate_zero, List.push_toArray, List.append_toArray, List.nil_append, List.cons_append]
  gi_wp2_with (refine ⟨trivial, ?_⟩; gi_at_call 39; refine (callsIn_wide.2 HL).mono ?_; rintro e w1 ⟨L, rfl, hD, hb1⟩)
  have hbb := nxt hb0 hb1 hb0.size
  have hs0 : (w.alloc (.cells #[.int .i64 0, .int .i64 0] 29)).heap.size = w.heap.size + 1 := by simp
  have hs1 := hb1.size
  have hb2 := alloc1 w1 (.cells #[.int .i64 0, .int .i64 0] 29)
  have HF2 := Lib.hid ((HF0.out.below hb1 HF0.out.lt).alloc (.cells #[.int .i64 0, .int .i64 0] 29))
  have hb3 := nxt hbb hb2 hbb.size
  have HD2 := Lib.hid (hD.below hb2)
  have hs2 : w1.heap.size < (w1.alloc (.cells #[.int .i64 0, .int .i64 0] 29)).heap.size := by simp
  clear hD HL HF0
  generalize w.alloc (.cells #[.int .i64 0, .int .i64 0] 29) = W0 at *
  generalize w1.alloc (.cells #[.int .i64 0, .int .i64 0] 29) = W2 at *
  obtain ⟨A1, k1, hv1⟩ := HD2.out.tr.shape
  have hl : d.trs.length = L.ls.length := by have := HD2.out.tr.nl; unfold tnm at this; rwa [List.length_map] at this
  have hmany := HD2.out.ok.many
  have hfew := HD2.out.few
  have c4 : W2.cell? ⟨L.B, 4, none⟩ = some (.slice A1 L.ls.length k1) := hv1 ▸ (desk_cells HD2.out).2.2.2.2.1
  have hBlt : L.B < W2.heap.size := HD2.out.box.lt
  have hBw : w.heap.size < L.B := by have := HD2.out.hB; omega
  refine ⟨trivial, ?_⟩
  refine (callsIn_wide.2 (count_L L.B W2 A1 L.ls.length k1 c4)).mono ?_
  rintro e w2 ⟨rfl, rfl⟩
  gi_wp2_with (gi_at_make; refine wpListIn_make_own _ rfl _ _ 26 rfl W2.heap.size 58 i0 (.agg #[.string ⟨#[]⟩, .int .i64 0, .int .i64 0, .bool false, .int .i64 0]) 5 Tryz.underlying26 hi hz0 hz1 .i64 .i64 _ L.ls.length rfl rfl rfl (by rw [hz2]; omega) (by unfold maxLen; omega) (Nat.le_refl _) ?_; intro w3 hown3 hg3)
  have hb4 := (Below.refl W2.heap.size W2).grown hg3 (Nat.le_refl _) (fun k e => by cases e)
  have hs3 := hb4.size
  refine ⟨trivial, ?_⟩
  refine (all_L_in Fence.wide _ trivial rfl L.B _).mono ?_
  rintro e w' ⟨rfl, rfl⟩
  have bO := Boxed.new w3 26 (.slice (some ⟨W2.heap.size, 0, none⟩) 0 L.ls.length)
  have HO := Lib.hid (hown3.alloc (.cells #[.slice (some ⟨W2.heap.size, 0, none⟩) 0 L.ls.length] 26))
  have hb5 := hb4.alloc hs3 (.cells #[.slice (some ⟨W2.heap.size, 0, none⟩) 0 L.ls.length] 26)
  have hs5 : w3.heap.size < (w3.alloc (.cells #[.slice (some ⟨W2.heap.size, 0, none⟩) 0 L.ls.length] 26)).heap.size := by simp
  generalize w3.alloc (.cells #[.slice (some ⟨W2.heap.size, 0, none⟩) 0 L.ls.length] 26) = W5 at *
  have bR := Boxed.new W5 124 (.pointer (some ⟨L.B, 3, none⟩))
  have hb6 := hb5.alloc (by omega) (.cells #[.pointer (some ⟨L.B, 3, none⟩)] 124)
  have bO6 := bO.alloc (.cells #[.pointer (some ⟨L.B, 3, none⟩)] 124)
  have hO6 := HO.out.alloc (.cells #[.pointer (some ⟨L.B, 3, none⟩)] 124)
  have hps : (d.trs.zip L.ls).attach.length = L.ls.length := by rw [List.length_attach, List.length_zip]; omega
  have hpf : (d.trs.zip L.ls).attach.map (fun x => x.1.2) = L.ls := by
    rw [show (fun x : {p // p ∈ d.trs.zip L.ls} => x.1.2) = Prod.snd ∘ Subtype.val from rfl, ← List.map_map, List.attach_map_subtype_val, List.map_snd_zip]
    omega
  have hmem : ∀ x : {p // p ∈ d.trs.zip L.ls}, Holds W2 x.1.2 tLf (lfC x.1.1) := fun x => by
    obtain ⟨j, hj, e⟩ := List.getElem_of_mem x.2
    rw [List.getElem_zip] at e
    have h1 : d.trs[j]? = some x.1.1 := by rw [← e]; exact List.getElem?_eq_getElem _
    have h2 : L.ls[j]? = some x.1.2 := by rw [← e]; exact List.getElem?_eq_getElem _
    exact (HD2.out.tr.box j x.1.2 (lfC x.1.1) h2 (by rw [List.getElem?_map, h1]; rfl)).2
  have HMEM := Lib.hid hmem
  have hptr := reg_ptrs (hv1 ▸ HD2.out.tr)
  have hfe : (d.trs.zip L.ls).attach.map (fun x => x.1.1) = d.trs := by
    rw [show (fun x : {p // p ∈ d.trs.zip L.ls} => x.1.1) = Prod.fst ∘ Subtype.val from rfl, ← List.map_map, List.attach_map_subtype_val, List.map_fst_zip]
    omega
  have hfl : (d.trs.zip L.ls).attach.flatMap (fun x => (lfC x.1.1).toList) = d.trs.flatMap (fun x => (lfC x).toList) := by
    conv => rhs; rw [← hfe, List.flatMap_map]
  have HFL := Lib.hid hfl
  clear hmem hfl hfe
  generalize hps2 : (d.trs.zip L.ls).attach = ps at *
  gi_wp2_with fail
  refine wpIn_rangeFunc_ownG rfl (by omega) (gf := 62) (lb := #[.pointer (some ⟨W5.heap.size, 0, none⟩)]) rfl trivial (enters_of Tryz.func62 (by kernel_rfl) rfl)
    (all_L_stops (fun x : {p // p ∈ d.trs.zip L.ls} => x.1.2) 5 (by omega) W5.heap.size L.B W2.heap.size A1 k1 ps (by rw [hps]; unfold maxLen; omega) _ (by simp) (by simp; omega) (by simp; omega) bR.cell (by rw [hps]; exact (hb6.cell (p := ⟨L.B, 4, none⟩) hBlt).trans c4) (by rw [hpf]; exact hptr.below hb6)) belowK_t (belowK_b (by simp; omega)) (Below.refl _ _) (fun _ => rfl)
    (fun pre W => (∃ v, Boxed W w3.heap.size 26 v ∧ W.ownsRow W2.heap.size 58 5 v pre.length (pre.flatMap fun x => (lfC x.1.1).toList) ∧ True) ∧ Below W2.heap.size W2 W)
    (fun _ _ _ => False)
    (OwnFrom.and (Own.from (holdsRow_own W2.heap.size w3.heap.size 26 58 5 (fun pre : List {p // p ∈ d.trs.zip L.ls} => pre.length) (fun pre => pre.flatMap fun x => (lfC x.1.1).toList) (fun pre v => True)) _) (ownFrom_below (Nat.le_refl _) (by simp; omega)))
    (fun _ _ _ _ _ hs _ _ => hs)
    ⟨⟨_, bO6, hO6, trivial⟩, hb6⟩
    (fun x => { tmps := #[.slice A n c, undef, .slice none 0 0, .pointer (some ⟨w.heap.size, 0, none⟩), .pointer (some ⟨L.B, 0, none⟩), .pointer (some ⟨w1.heap.size, 0, none⟩), .pointer (some ⟨w3.heap.size, 0, none⟩), .pointer (some ⟨x.1.2, 0, none⟩), .tuple #[.pointer (some ⟨L.B, 0, none⟩), .agg #[.int .i64 0, .int .i64 0]], .slice A n c, .tuple #[.pointer (some ⟨L.B, 0, none⟩), .agg #[.int .i64 0, .int .i64 0]], .pointer (some ⟨L.B, 0, none⟩), .agg #[.int .i64 0, .int .i64 0], .pointer (some ⟨w1.heap.size, 0, none⟩), .int .i64 0, .bool false, undef, .pointer (some ⟨L.B, 0, none⟩), .pointer (some ⟨L.B, 0, none⟩), .pointer (some ⟨L.B, 3, none⟩), .int .i64 L.ls.length, .slice (some ⟨W2.heap.size, 0, none⟩) 0 L.ls.length, .pointer (some ⟨L.B, 0, none⟩), .pointer (some ⟨L.B, 0, none⟩), .pointer (some ⟨L.B, 3, none⟩), .func (.func 62) #[] #[.pointer (some ⟨W5.heap.size, 0, none⟩)], .pointer (some ⟨x.1.2, 0, none⟩), undef, undef, undef, undef, undef, undef, undef, undef], defers := [] }) ?assign ?body ?done ?stop
  case assign =>
    intro l x W K hK
    gi_wp2
    exact hK
  case body =>
    rintro lp pre x W ⟨⟨v, hv, hrow, _⟩, hB⟩ hlt
    have hx := (HMEM.out x).below hB (HMEM.out x).lt
    obtain ⟨⟨⟨xn, xb, xe, xc, xo⟩, bx⟩, hxm⟩ := x
    dsimp only at hx
    have c0 := hv.cell
    have r0 : W.cell? ⟨bx, 0, none⟩ = some (.string xn) := hx.c (j := 0) rfl
    have r1 : W.cell? ⟨bx, 1, none⟩ = some (.int .i64 xb) := hx.c (j := 1) rfl
    have r2 : W.cell? ⟨bx, 2, none⟩ = some (.int .i64 xe) := hx.c (j := 2) rfl
    have r3 : W.cell? ⟨bx, 3, none⟩ = some (.bool xc) := hx.c (j := 3) rfl
    have r4 : W.cell? ⟨bx, 4, none⟩ = some (.int .i64 xo) := hx.c (j := 4) rfl
    have hlp : pre.length ≤ 100 := by have : ps.length ≤ 100 := by rw [hps]; omega
                                      omega
    have hws := hB.size
    have hlW := hv.lt
    have hlb := hx.lt
    gi_wp2_with fail
    refine wpIn_region_heads [true, true, true, true, false] (fun W' => W'.cell? ⟨w3.heap.size, 0, none⟩ = some v ∧ W'.cell? ⟨bx, 0, none⟩ = some (.string xn) ∧ W'.cell? ⟨bx, 1, none⟩ = some (.int .i64 xb) ∧ W'.cell? ⟨bx, 2, none⟩ = some (.int .i64 xe) ∧ W'.cell? ⟨bx, 3, none⟩ = some (.bool xc) ∧ W'.cell? ⟨bx, 4, none⟩ = some (.int .i64 xo)) (by kernel_rfl) (by kernel_rfl) (by kernel_rfl) ⟨c0, r0, r1, r2, r3, r4⟩ ?_
    iterate 4
      refine Heads.take ?_ (by rfl) ?_ ?_
      rotate_left
      · rintro w' ⟨q0, q1, q2, q3, q4, q5⟩
        go_simp
        try with_reducible rfl
      simp only [Act.put, List.setIfInBounds_toArray, List.set_cons_zero, List.set_cons_succ]
    refine Heads.make (.slice (some ⟨W.heap.size, 0, none⟩) 1 1) (w1 := W.drew.alloc (.cells (lfC ⟨xn, xb, xe, xc, xo⟩) 58)) (by rfl) (by unfold lfC; go_simp) ?_ ?_
    · have hal : ∀ p u, W.cell? p = some u → (W.drew.alloc (.cells (lfC ⟨xn, xb, xe, xc, xo⟩) 58)).cell? p = some u := fun p u hp => (World.cell?_alloc_lt _ _ _ (World.block_lt_of_cell? W.drew p hp)).trans hp
      exact ⟨hal _ _ c0, hal _ _ r0, hal _ _ r1, hal _ _ r2, hal _ _ r3, hal _ _ r4⟩
    refine Heads.done ?_
    simp only [Act.put, List.setIfInBounds_toArray, List.set_cons_zero, List.set_cons_succ]
    have hrow' := hrow.alloc (.cells (lfC ⟨xn, xb, xe, xc, xo⟩) 58)
    clear c0 r0 r1 r2 r3 r4
    go_wp2_with (at_builtin; refine wpList_append_own _ rfl _ _ 26 rfl W2.heap.size 58 i0 (.agg #[.string ⟨#[]⟩, .int .i64 0, .int .i64 0, .bool false, .int .i64 0]) 5 48 Tryz.underlying26 hi hz0 hz1 hz2 rfl (by decide) v _ _ rfl (show (W.drew.alloc _).ownsRow _ _ _ _ _ _ from hrow') ⟨W.heap.size, 0, none⟩ 1 1 [.string xn, .int .i64 xb, .int .i64 xe, .bool xc, .int .i64 xo] rfl rfl (cell_new_any W.drew 58 (lfC ⟨xn, xb, xe, xc, xo⟩)) (by intro u hu; simp at hu; rcases hu with rfl | rfl | rfl | rfl | rfl <;> rfl) (by unfold maxLen; omega) (by omega) (by simp; omega) ?_; intro v' w4 hown4 hg4 _; obtain ⟨g', cap', rfl⟩ := ownsRow_succ hown4; obtain ⟨hv1, hv2, hr2, hk2, hb2⟩ := Boxed.appended (W := W.drew) (show Boxed W.drew _ _ _ from hv) (by decide) (show W.drew.ownsRow _ _ _ _ _ _ from hrow) hws (by omega) hown4 hg4; have hc1 := hv1.cell; have hf1 := hv1.frozen)
    have hbw := (Below.refl W2.heap.size W).drew.trans hb2
    exact Norm.normal ⟨((KeepsOthers.drew W).trans hk2).from _, hbw, ⟨_, hv2, by simpa [lfC] using hr2, trivial⟩, hB.trans hbw⟩
  case done =>
    rintro D ys W hD rfl ⟨⟨v, hv, hrow, _⟩, hB⟩ hK
    have c0 := hv.cell
    have HF9 := HF2.out.below hB (by omega)
    have f0 : W.cell? ⟨w.heap.size, 0, none⟩ = some (.int .i64 0) := HF9.c (j := 0) rfl
    have f1 : W.cell? ⟨w.heap.size, 1, none⟩ = some (.int .i64 0) := HF9.c (j := 1) rfl
    have fz := HF9.frozen
    have g2 := (HF9.set 0 (.int .i64 0)).set 1 (.int .i64 0)
    have hO := (only_set W w.heap.size 0 (.int .i64 0)).then (only_set (W.setCell ⟨w.heap.size, 0, none⟩ (.int .i64 0)) w.heap.size 1 (.int .i64 0))
    have hDl := (Array.getElem?_eq_some_iff.1 hK).1
    have hDw : D ≠ w.heap.size := fun e => by rw [e] at hK; rw [show W.heap[w.heap.size]? = _ from HF9] at hK; cases hK
    gi_wp2
    generalize (W.setCell ⟨w.heap.size, 0, none⟩ (.int .i64 0)).setCell ⟨w.heap.size, 1, none⟩ (.int .i64 0) = W9 at *
    have hK9 := (hO.block D hDl hDw).trans hK
    refine ⟨by simp, .inl ⟨_, _, rfl, run_takeDeferred hK9, ?_⟩⟩
    refine ⟨.tuple #[v, .agg #[.int .i64 0, .int .i64 0]], ?_, v, rfl, ?_, ?_⟩
    · have h9 : Holds (W9.putObj D (.deferred none)) w.heap.size 29 _ := g2.of (World.putObj_heap_other (fun e => hDw e.symm))
      have k0 : (W9.putObj D (.deferred none)).cell? ⟨w.heap.size, 0, none⟩ = some (.int .i64 0) := h9.c (j := 0) rfl
      have k1 : (W9.putObj D (.deferred none)).cell? ⟨w.heap.size, 1, none⟩ = some (.int .i64 0) := h9.c (j := 1) rfl
      simp [results, Tryz.f14, go_sem, k0, k1]
    · have h1 : W9.ownsRow W2.heap.size 58 5 v d.trs.length (d.trs.flatMap fun x => (lfC x).toList) := by
        have e1 : ys.length = d.trs.length := by rw [hps, hl]
        rw [HFL.out, e1] at hrow
        exact hrow.kept hO.grown (.inr (fun e => by have := (hrow.lt _ e).1; omega))
      have h2 := row_mono (h1.kept (grownBy_putObj' W9 D (.deferred none)) (own_not h1 hK9 rfl)) (show w.heap.size ≤ W2.heap.size by omega)
      exact h2
    · have hz := hB.size
      have hD2 : W2.heap.size ≤ D := by simp at hD; omega
      have b1 : Below w.heap.size w W9 := (hb3.trans (hB.mono (by omega))).trans (hO.below (lo := w.heap.size) (Nat.le_refl _) (by omega))
      exact ⟨b1.os, b1.tape, b1.output, by have := b1.size; simpa using this, fun k hk => (World.putObj_heap_other (by omega)).trans (b1.block k hk)⟩
  case stop =>
    rintro D c pre W _ _ h _
    exact h.elim
theorem lives_any (A : Option Addr) (c : Nat) (zs : List EvZ) (w : World) (hE : EvIn w A zs) :
    Calls Tryz.prog 14 #[.slice A zs.length c] w (LivesPost (layX dk0 0 (zs.map Prod.fst)) w) := by
  have hb0 := alloc1 w (.cells #[.int .i64 0, .int .i64 0] 29)
  have hE1 := hE.below hb0
  have HL := lay_any A c zs _ hE1.read hE1.nums hE1.len hE1.many
  have hf := lay_fine (zs.map Prod.fst) dk0 0
  generalize layX dk0 0 (zs.map Prod.fst) = X at *
  obtain ⟨d, er, p⟩ := X
  by_cases hz : er = 0
  · subst hz
    exact lives_yes A c zs.length w d p HL (hf rfl)
  · exact lives_no A c zs.length w d er p hz HL
end Go.Proofs.YtpdbkjnaicjfdaaGreatDoor
