/- Contracts of the layer history: lay, Check. -/
import Derived.Test.YtpdbkjnaicjfdaaGreatDoorHsG
import Derived.Test.YtpdbkjnaicjfdaaGreatDoorGrN
import Derived.Test.YtpdbkjnaicjfdaaGreatDoorGrX
namespace Go.Proofs.YtpdbkjnaicjfdaaGreatDoor
open Go.RowKit Go.Maps
set_option linter.unusedVariables false
set_option maxRecDepth 100000

theorem lay_step {es : List Ev} {k : Nat} {e : Ev} (hk : es[k]? = some e) (h0 : layE (es.take k) = 0) :
    (agE (layD (es.take k)) e = 0 → layE (es.take (k + 1)) = 0 ∧ layD (es.take (k + 1)) = takeD (layD (es.take k)) e) ∧ (agE (layD (es.take k)) e ≠ 0 → layX dk0 0 es = (layD (es.take k), agE (layD (es.take k)) e, (k : Int))) := by
  have hl := (List.getElem?_eq_some_iff.1 hk).1
  have ht : es.take (k + 1) = es.take k ++ [e] := by
    rw [List.take_succ_eq_append_getElem hl]
    rw [List.getElem?_eq_getElem hl] at hk
    rw [Option.some.inj hk]
  have hlen : (es.take k).length = k := by rw [List.length_take]; omega
  have h1 := (lay_app (es.take k) [e] dk0 0).2 h0
  rw [← ht, hlen, Nat.zero_add] at h1
  refine ⟨fun ha => ?_, fun ha => ?_⟩
  · rw [layX, if_pos ha] at h1
    exact ⟨by unfold layE; rw [h1]; rfl, by unfold layD; rw [h1]; rfl⟩
  · rw [layX, if_neg ha] at h1
    have h2 := (lay_app (es.take (k + 1)) (es.drop (k + 1)) dk0 0).1 (by rw [h1]; exact ha)
    rw [List.take_append_drop] at h2
    rw [h2, h1]
theorem lay_last {es : List Ev} (h0 : layE es = 0) : layX dk0 0 es = (layD es, 0, 0) := by
  have := lay_fine es dk0 0 h0
  unfold layE at h0
  unfold layD
  generalize layX dk0 0 es = x at *
  obtain ⟨a, b, c⟩ := x
  simp_all
theorem lay_evs {es : List Ev} : (layD es).evs ≤ es.length := by
  have := (lay_ok es dk0 0 dk0_ok).2.1
  unfold layD
  have e : dk0.evs = 0 := rfl
  omega
def LayPost (x : Dk × Int × Int) (w : World) (e : Ending) (w' : World) : Prop :=
  ∃ L, e = .returned (.tuple #[.pointer (some ⟨L.B, 0, none⟩), .agg #[.int .i64 x.2.1, .int .i64 x.2.2]]) ∧ Dsk w' w.heap.size L x.1 ∧ Below w.heap.size w w'

set_option maxHeartbeats 4000000 in
theorem lay_any (A : Option Addr) (c : Nat) (zs : List EvZ) (w : World) (hA : ReadEvs w.heap.size w A zs) (hN : ReadNums w zs) (hlen : ∀ z ∈ zs, z.1.st.2.2.length ≤ 20000 ∧ z.1.nm.size ≤ 8000 ∧ z.1.ob.size ≤ 8000) (hm : zs.length ≤ 90) :
    Calls Tryz.prog 39 #[.slice A zs.length c] w (LayPost (layX dk0 0 (zs.map Prod.fst)) w) := by
  have HA := Lib.hid hA
  have HN := Lib.hid hN
  have HLN := Lib.hid hlen
  obtain ⟨X, hX⟩ : ∃ X, layX dk0 0 (zs.map Prod.fst) = X := ⟨_, rfl⟩
  have HXX := Lib.hid hX
  rw [hX]
  obtain ⟨m, hmm⟩ : ∃ m, zs.length = m := ⟨_, rfl⟩
  rw [hmm] at hm ⊢
  have HMM := Lib.hid hmm
  have hb0 := alloc1 w (.cells #[.int .i64 0, .int .i64 0] 29)
  have HF0 := Lib.hid (Holds.new w 29 #[.int .i64 0, .int .i64 0])
  have hz0 : (w.alloc (.cells #[.int .i64 0, .int .i64 0] 29)).heap.size = w.heap.size + 1 := by simp
  clear hA hN hlen hmm hX
  go_enter Tryz.func39, Tryz.ntmps39
  go_upto_region 1 with fail
  generalize w.alloc (.cells #[.int .i64 0, .int .i64 0] 29) = W0 at *
  go_wp2_with fail
  refine (new_any _).mono ?_
  rintro e w1 ⟨L0, rfl, hD1, hb1⟩
  obtain ⟨B0, hB0⟩ : ∃ B0, L0.B = B0 := ⟨_, rfl⟩
  rw [hB0]
  have hbb := nxt hb0 hb1 hb0.size
  have HB0 := Lib.hid hB0
  have HD1 := Lib.hid (hD1.mono (show w.heap.size ≤ W0.heap.size by omega))
  have HF1 := Lib.hid (HF0.out.below hb1 (by omega))
  have hD1lo := hD1.hB
  have hl0 : w.heap.size < W0.heap.size := by omega
  have HLO := Lib.hid hD1
  have hW01 := hb1.size
  clear hD1 hB0
  go_wp2_with fail
  go_loopw [11] (fun i wr => ∃ (k : Nat) (L : Lay), k ≤ m ∧ i = .int .i64 k ∧ L.B = B0 ∧ Dsk wr W0.heap.size L (layD ((zs.map Prod.fst).take k)) ∧ layE ((zs.map Prod.fst).take k) = 0 ∧ Holds wr w.heap.size 29 #[.int .i64 0, .int .i64 0] ∧ Below w.heap.size w wr ∧ W0.heap.size ≤ wr.heap.size) (fun i wr => m - (intOf i).toNat)
  case atStart => exact ⟨0, L0, Nat.zero_le _, rfl, HB0.out, HLO.out, rfl, HF1.out, hbb, hW01⟩
  case round =>
    obtain ⟨k, L, hk, rfl, hLB, hD, hE, hF, hB, hwr⟩ := hrel
    have HD := Lib.hid hD
    have HE := Lib.hid hE
    have HF := Lib.hid hF
    have hevs : (layD ((zs.map Prod.fst).take k)).evs ≤ k := by
      have := lay_evs (es := (zs.map Prod.fst).take k)
      rw [List.length_take] at this; omega
    clear hD hE hF
    by_cases hlt : k < m
    · have hkd : decide (k < m) = true := decide_eq_true hlt
      obtain ⟨b, off, rfl, hb, hcs⟩ := ev_read (HA.out.below hB) (by rw [HMM.out]; exact hlt)
      have hz := wd_memE (zs := zs) (by rw [HMM.out]; exact hlt)
      have hek : (zs.map Prod.fst)[k]? = some (zs[k]?.getD (⟨0, emB, emB, op0, stz⟩, none, 0)).1 := by
        rw [List.getElem?_map, List.getElem?_eq_getElem (show k < zs.length by rw [HMM.out]; exact hlt)]; rfl
      have hst := lay_step hek HE.out
      have hlz := HLN.out _ hz
      have hints := (HN.out _ hz).below hB
      have HST := Lib.hid hst
      clear hek hst hz
      generalize zs[k]?.getD (⟨0, emB, emB, op0, stz⟩, none, 0) = z at *
      obtain ⟨ev, Ae, ce⟩ := z
      dsimp only at hcs hints hlz
      have hba := alloc1 wr (.cells (evC ev Ae ce) 55)
      have HX1 := Lib.hid (Holds.new wr 55 (evC ev Ae ce))
      have HDa := Lib.hid (HD.out.below hba)
      have HADD := Lib.hid (dadd_any ev Ae ce (wr.alloc (.cells (evC ev Ae ce) 55)) HDa.out (by omega) (by have := hba.size; omega) (hints.below hba) hlz.1 hlz.2.1 hlz.2.2)
      have HFa := Lib.hid (HF.out.below hba HF.out.lt)
      have HHA := Lib.hid (show addD (layD ((zs.map Prod.fst).take k)) ev = if agE (layD ((zs.map Prod.fst).take k)) ev = 0 then takeD (layD ((zs.map Prod.fst).take k)) ev else layD ((zs.map Prod.fst).take k) from rfl)
      unfold AddedPost at HADD
      dsimp only at HST
      generalize hag : agE (layD ((zs.map Prod.fst).take k)) ev = ag at *
      have HAG := Lib.hid hag
      clear hag
      rw [hLB] at HADD
      unfold evV evC at *
      obtain ⟨x0, x1, x2, x3, x4, x5, x6, x7, x8, x9, x10⟩ := hcs
      have hk0 : (0 : Int) ≤ (k : Int) := by omega
      have hk1 : (k : Int) < (m : Int) := by omega
      go_upto_region 5 with fail
      have hba2 := hba.size
      have hlw := HX1.out.lt
      generalize wr.alloc (.cells #[.int .i64 ev.kd, .string ev.nm, .string ev.ob, .int .i64 ev.op.1, .int .i64 ev.op.2.1, .int .i64 ev.op.2.2.1, .int .i64 ev.op.2.2.2.1, .int .i64 ev.op.2.2.2.2, .int .i64 ev.st.1, .int .i64 ev.st.2.1, .slice Ae ev.st.2.2.length ce] 55) = W2 at *
      clear x0 x1 x2 x3 x4 x5 x6 x7 x8 x9 x10
      obtain ⟨x0, x1, x2, x3, x4, x5, x6, x7, x8, x9, x10, y0⟩ := ev_cells HX1.out
      go_wp2_with fail
      refine HADD.out.mono ?_
      rintro e w3 ⟨rfl, L', hD3, hLB3, hbut, hft⟩
      have hft2 : ∀ i, foot L i → W0.heap.size ≤ i := fun i hi => (HDa.out.lt i hi).1
      have hF3 : Holds w3 w.heap.size 29 #[.int .i64 0, .int .i64 0] := HFa.out.of (hbut.block _ HFa.out.lt (fun hf => by have := hft2 _ hf; omega))
      have hB3 : Below w.heap.size w w3 := (nxt hB hba (by have := hB.size; omega)).trans (hbut.below (fun i hi => by have := hft2 i hi; omega) (by have := hB.size; omega))
      have hs3 : W0.heap.size ≤ w3.heap.size := by have := hbut.size; omega
      have HF3 := Lib.hid hF3
      have HD3 := Lib.hid hD3
      clear hF3 hD3 hft hft2 hbut x0 x1 x2 x3 x4 x5 x6 x7 x8 x9 x10 y0
      by_cases hz : ag = 0
      · subst hz
        have e1 := HHA.out
        rw [if_pos rfl] at e1
        rw [e1] at HD3
        have h2 := HST.out.1 rfl
        go_wp2_with fail
        go_roundw
        case rel => exact ⟨k + 1, L', by omega, by go_num, hLB3, by rw [h2.2]; exact HD3.out, h2.1, HF3.out, hB3, hs3⟩
        case measure => simp [intOf]; omega
      · have hzz : (ag == 0) = false := beq_eq_false_iff_ne.2 hz
        have e1 := HHA.out
        rw [if_neg hz] at e1
        rw [e1] at HD3
        have h2 := (HST.out.2 hz).symm.trans HXX.out
        have HX2 := Lib.hid h2
        clear h2 e1 hz
        have f0 := HF3.out.c (j := 0) rfl
        have f1 := HF3.out.c (j := 1) rfl
        have fz := HF3.out.frozen
        have g2 := (HF3.out.set 0 (.int .i64 ag)).set 1 (.int .i64 k)
        have hB9 := (hB3.setCell (p := ⟨w.heap.size, 0, none⟩) (Nat.le_refl _) (.int .i64 ag)).setCell (p := ⟨w.heap.size, 1, none⟩) (Nat.le_refl _) (.int .i64 k)
        have hO := ((only_set w3 w.heap.size 0 (.int .i64 ag)).then (only_set (w3.setCell ⟨w.heap.size, 0, none⟩ (.int .i64 ag)) w.heap.size 1 (.int .i64 k)))
        have hD9 := HD3.out.kept (fun i hi hf => hO.block i hi (fun e => by have := (HD3.out.lt i hf).1; omega))
        go_wp2
        have k0 : ((w3.setCell ⟨w.heap.size, 0, none⟩ (.int .i64 ag)).setCell ⟨w.heap.size, 1, none⟩ (.int .i64 k)).cell? ⟨w.heap.size, 0, none⟩ = some (.int .i64 ag) := g2.c (j := 0) rfl
        have k1 : ((w3.setCell ⟨w.heap.size, 0, none⟩ (.int .i64 ag)).setCell ⟨w.heap.size, 1, none⟩ (.int .i64 k)).cell? ⟨w.heap.size, 1, none⟩ = some (.int .i64 k) := g2.c (j := 1) rfl
        clear f0 f1
        generalize (w3.setCell ⟨w.heap.size, 0, none⟩ (.int .i64 ag)).setCell ⟨w.heap.size, 1, none⟩ (.int .i64 k) = W9 at *
        refine bodyPost_ret (v := .tuple #[.pointer (some ⟨B0, 0, none⟩), .agg #[.int .i64 ag, .int .i64 k]]) (by simp [results, Tryz.f39, go_sem, k0, k1]) rfl ?_
        rw [← HX2.out]
        exact ⟨L', by rw [hLB3], hD9.mono (by omega), hB9⟩
    · have hkk : k = m := by omega
      subst hkk
      have hkd : decide (k < k) = false := decide_eq_false (by omega)
      have htk : (zs.map Prod.fst).take k = zs.map Prod.fst := List.take_of_length_le (by rw [List.length_map, HMM.out]; exact Nat.le_refl _)
      rw [htk] at HD HE
      have h2 := (lay_last HE.out).symm.trans HXX.out
      have HX2 := Lib.hid h2
      clear h2 htk
      have f0 := HF.out.c (j := 0) rfl
      have f1 := HF.out.c (j := 1) rfl
      have fz := HF.out.frozen
      have g2 := (HF.out.set 0 (.int .i64 0)).set 1 (.int .i64 0)
      have hB9 := (hB.setCell (p := ⟨w.heap.size, 0, none⟩) (Nat.le_refl _) (.int .i64 0)).setCell (p := ⟨w.heap.size, 1, none⟩) (Nat.le_refl _) (.int .i64 0)
      have hO := ((only_set wr w.heap.size 0 (.int .i64 0)).then (only_set (wr.setCell ⟨w.heap.size, 0, none⟩ (.int .i64 0)) w.heap.size 1 (.int .i64 0)))
      have hD9 := HD.out.kept (fun i hi hf => hO.block i hi (fun e => by have := (HD.out.lt i hf).1; omega))
      go_wp2
      have k0 : ((wr.setCell ⟨w.heap.size, 0, none⟩ (.int .i64 0)).setCell ⟨w.heap.size, 1, none⟩ (.int .i64 0)).cell? ⟨w.heap.size, 0, none⟩ = some (.int .i64 0) := g2.c (j := 0) rfl
      have k1 : ((wr.setCell ⟨w.heap.size, 0, none⟩ (.int .i64 0)).setCell ⟨w.heap.size, 1, none⟩ (.int .i64 0)).cell? ⟨w.heap.size, 1, none⟩ = some (.int .i64 0) := g2.c (j := 1) rfl
      clear f0 f1
      generalize (wr.setCell ⟨w.heap.size, 0, none⟩ (.int .i64 0)).setCell ⟨w.heap.size, 1, none⟩ (.int .i64 0) = W9 at *
      refine bodyPost_ret (v := .tuple #[.pointer (some ⟨B0, 0, none⟩), .agg #[.int .i64 0, .int .i64 0]]) (by simp [results, Tryz.f39, go_sem, k0, k1]) rfl ?_
      rw [← HX2.out]
      exact ⟨L, by rw [hLB], hD9.mono (by omega), hB9⟩
end Go.Proofs.YtpdbkjnaicjfdaaGreatDoor
