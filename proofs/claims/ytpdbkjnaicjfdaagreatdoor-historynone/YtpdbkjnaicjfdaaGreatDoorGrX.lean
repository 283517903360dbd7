/- Contracts of the kit: LongEvents, CopyState, CopyEvents. -/
import Derived.Test.YtpdbkjnaicjfdaaGreatDoorGrN
import Derived.Test.YtpdbkjnaicjfdaaGreatDoorGrH
namespace Go.Proofs.YtpdbkjnaicjfdaaGreatDoor
open Go.RowKit Go.Maps
set_option linter.unusedVariables false
set_option maxRecDepth 100000

abbrev evD : Ev := ⟨0, emB, emB, op0, stz⟩
/-- An event that is longer than is gone through. -/
def bigE (e : Ev) : Bool := decide ((60 : Int) < (e.nm.size : Int)) || (decide ((60 : Int) < (e.ob.size : Int)) || decide ((30 : Int) < (e.st.2.2.length : Int)))
def longB (es : List Ev) : Bool := decide ((60 : Int) < (es.length : Int)) || es.any bigE
theorem long_no {es : List Ev} (h : longB es = false) : es.length ≤ 60 ∧ ∀ e ∈ es, e.nm.size ≤ 60 ∧ e.ob.size ≤ 60 ∧ e.st.2.2.length ≤ 30 := by
  unfold longB at h
  rw [Bool.or_eq_false_iff, decide_eq_false_iff_not, List.any_eq_false] at h
  refine ⟨by omega, fun e he => ?_⟩
  have := h.2 e he
  unfold bigE at this
  rw [Bool.not_eq_true, Bool.or_eq_false_iff, Bool.or_eq_false_iff, decide_eq_false_iff_not, decide_eq_false_iff_not, decide_eq_false_iff_not] at this
  omega
theorem long_big {es : List Ev} {k : Nat} (hk : k < es.length) (h : bigE (es[k]?.getD evD) = true) : longB es = true := by
  unfold longB
  rw [Bool.or_eq_true, List.any_eq_true]
  exact .inr ⟨_, by rw [List.getElem?_eq_getElem hk]; exact List.getElem_mem hk, h⟩
theorem long_end {es : List Ev} (hl : es.length ≤ 60) (h : ∀ k, k < es.length → bigE (es[k]?.getD evD) = false) : longB es = false := by
  unfold longB
  rw [Bool.or_eq_false_iff, decide_eq_false_iff_not, List.any_eq_false]
  refine ⟨by omega, fun e he => ?_⟩
  obtain ⟨k, hk, rfl⟩ := List.getElem_of_mem he
  have := h k hk
  rw [List.getElem?_eq_getElem hk] at this
  rw [show bigE es[k] = false from this]; simp

set_option maxHeartbeats 4000000 in
theorem long_any (A : Option Addr) (c : Nat) (zs : List EvZ) (w : World) (hA : ReadEvs w.heap.size w A zs) (hm : zs.length ≤ maxLen) :
    Calls Tryz.prog 11 #[.slice A zs.length c] w (Says (.bool (longB (zs.map Prod.fst))) w) := by
  have HA := Lib.hid hA
  obtain ⟨R, hR⟩ : ∃ R, longB (zs.map Prod.fst) = R := ⟨_, rfl⟩
  have HBIG := Lib.hid (fun (k : Nat) (hk : k < (zs.map Prod.fst).length) h => (long_big (es := zs.map Prod.fst) hk h).symm.trans hR)
  have HEND := Lib.hid (fun h1 h2 => (long_end (es := zs.map Prod.fst) h1 h2).symm.trans hR)
  have HFEW := Lib.hid (fun (h : 60 < zs.length) => (show true = longB (zs.map Prod.fst) by unfold longB; rw [List.length_map, decide_eq_true (by omega)]; rfl).trans hR)
  rw [hR]
  obtain ⟨m, hmm⟩ : ∃ m, zs.length = m := ⟨_, rfl⟩
  rw [hmm] at HFEW hm ⊢
  have HMM := Lib.hid hmm
  unfold maxLen at hm
  clear hA hR hmm
  go_enter Tryz.func11, Tryz.ntmps11
  go_wp2
  go_loopw [3] (fun i wr => ∃ k : Nat, k ≤ m ∧ k ≤ 61 ∧ i = .int .i64 k ∧ Below w.heap.size w wr ∧ ∀ j, j < k → bigE ((zs.map Prod.fst)[j]?.getD evD) = false) (fun i wr => m - (intOf i).toNat)
  case atStart => exact ⟨0, Nat.zero_le _, Nat.zero_le _, rfl, Below.refl _ _, fun j h => absurd h (Nat.not_lt_zero _)⟩
  case round =>
    obtain ⟨k, hk, hk61, rfl, hB0, hall⟩ := hrel
    have HAL := Lib.hid hall
    clear hall
    by_cases hlt : k < m
    · have hkd : decide (k < m) = true := decide_eq_true hlt
      by_cases h61 : k < 61
      · have hkd1 : decide ((k : Int) < 61) = true := decide_eq_true (by omega)
        obtain ⟨b, off, rfl, hb, hcs⟩ := ev_read (HA.out.below hB0) (by rw [HMM.out]; exact hlt)
        have ez := fst_at (zs := zs) (by rw [HMM.out]; exact hlt)
        generalize zs[k]?.getD (⟨0, emB, emB, op0, stz⟩, none, 0) = z at *
        obtain ⟨ev, Ae, ce⟩ := z
        dsimp only at hcs ez
        obtain ⟨x0, x1, x2, x3, x4, x5, x6, x7, x8, x9, x10⟩ := hcs
        have HBE := Lib.hid (show bigE ((zs.map Prod.fst)[k]?.getD evD) = (decide ((60 : Int) < (ev.nm.size : Int)) || (decide ((60 : Int) < (ev.ob.size : Int)) || decide ((30 : Int) < (ev.st.2.2.length : Int)))) by rw [show (zs.map Prod.fst)[k]?.getD evD = ev from ez]; rfl)
        have hk0 : (0 : Int) ≤ (k : Int) := by omega
        have hk1 : (k : Int) < (m : Int) := by omega
        have hkl : k < (zs.map Prod.fst).length := by rw [List.length_map, HMM.out]; exact hlt
        have hkw : IntKind.i64.wrap (k : Int) = (k : Int) := by rw [IntKind.wrap_i64]; omega
        clear ez
        obtain ⟨b1, hb1⟩ : ∃ b1, decide ((60 : Int) < (ev.nm.size : Int)) = b1 := ⟨_, rfl⟩
        obtain ⟨b2, hb2⟩ : ∃ b1, decide ((60 : Int) < (ev.ob.size : Int)) = b1 := ⟨_, rfl⟩
        obtain ⟨b3, hb3⟩ : ∃ b1, decide ((30 : Int) < (ev.st.2.2.length : Int)) = b1 := ⟨_, rfl⟩
        rw [hb1, hb2, hb3] at HBE
        cases b1
        · cases b2
          · cases b3
            · go_wp2
              go_roundw
              case rel =>
                refine ⟨k + 1, by omega, by omega, by go_num, hB0, fun j hj => ?_⟩
                by_cases he : j = k
                · subst he; exact HBE.out
                · exact HAL.out j (by omega)
              case measure => simp [intOf]; omega
            · have hfin : true = R := HBIG.out k hkl HBE.out
              subst hfin
              go_wp2
              go_ret
              exact ⟨rfl, hB0⟩
          · have hfin : true = R := HBIG.out k hkl HBE.out
            subst hfin
            go_wp2
            go_ret
            exact ⟨rfl, hB0⟩
        · have hfin : true = R := HBIG.out k hkl HBE.out
          subst hfin
          go_wp2
          go_ret
          exact ⟨rfl, hB0⟩
      · have hkd1 : decide ((k : Int) < 61) = false := decide_eq_false (by omega)
        have hfin : true = R := HFEW.out (by omega)
        subst hfin
        have hm60 : decide ((60 : Int) < (m : Int)) = true := decide_eq_true (by omega)
        go_wp2
        go_ret
        exact ⟨rfl, hB0⟩
    · have hkd : decide (k < m) = false := decide_eq_false hlt
      by_cases hm6 : 60 < m
      · have hfin : true = R := HFEW.out hm6
        subst hfin
        have hm60 : decide ((60 : Int) < (m : Int)) = true := decide_eq_true (by omega)
        go_wp2
        go_ret
        exact ⟨rfl, hB0⟩
      · have hfin : false = R := HEND.out (by rw [List.length_map, HMM.out]; omega) (fun j hj => HAL.out j (by rw [List.length_map, HMM.out] at hj; omega))
        subst hfin
        have hm60 : decide ((60 : Int) < (m : Int)) = false := decide_eq_false (by omega)
        go_wp2
        go_ret
        exact ⟨rfl, hB0⟩


def CopyEvsPost (es : List Ev) (w : World) (e : Ending) (w' : World) : Prop := ∃ A c, e = .returned (.slice A es.length c) ∧ OwnEvs w' w.heap.size (.slice A es.length c) es ∧ Below w.heap.size w w'

set_option maxHeartbeats 4000000 in
theorem copyevs_any (A : Option Addr) (c : Nat) (zs : List EvZ) (w : World) (hA : ReadEvs w.heap.size w A zs) (hN : ReadNums w zs) (hlen : ∀ z ∈ zs, z.1.st.2.2.length ≤ 1000) (hm : zs.length ≤ 100000) :
    Calls Tryz.prog 13 #[.slice A zs.length c] w (CopyEvsPost (zs.map Prod.fst) w) := by
  obtain ⟨i0, hi, hz0, hz1, hz2⟩ := info_parts info_ev
  have HA := Lib.hid hA
  have HN := Lib.hid hN
  have HLN := Lib.hid hlen
  unfold CopyEvsPost
  have hll : (zs.map Prod.fst).length = zs.length := List.length_map _
  rw [hll]
  clear hll
  obtain ⟨m, hmm⟩ : ∃ m, zs.length = m := ⟨_, rfl⟩
  rw [hmm] at hm ⊢
  have HMM := Lib.hid hmm
  clear hA hN hlen hmm
  go_enter Tryz.func13, Tryz.ntmps13
  go_wp2
  go_loopw [3, 4] (fun s3 i wr => ∃ (k : Nat) (q : Value) (ys : List EvZ), k ≤ m ∧ i = .int .i64 k ∧ s3 = q ∧ ys.map Prod.fst = (zs.map Prod.fst).take k ∧ ys.length = k ∧ wr.ownsRow w.heap.size 55 11 q k (evsC ys) ∧ EvRows wr w.heap.size ys ∧ Below w.heap.size w wr) (fun s3 i wr => m - (intOf i).toNat)
  case atStart => exact ⟨0, _, [], Nat.zero_le _, rfl, rfl, by simp, rfl, World.ownsRow_nil _ _ _ _, (fun z hz => by cases hz), Below.refl _ _⟩
  case round =>
    obtain ⟨k, q, ys, hk, rfl, rfl, hys, hyl, hrow, hrows, hB0⟩ := hrel
    obtain ⟨Aq, cq, rfl⟩ := row_one hrow
    have HYS := Lib.hid hys
    have HYL := Lib.hid hyl
    have HROW := Lib.hid hrow
    have HROWS := Lib.hid hrows
    clear hys hyl hrow hrows
    have hw0 := hB0.size
    by_cases hlt : k < m
    · have hkd : decide (k < m) = true := decide_eq_true hlt
      obtain ⟨b, off, rfl, hb, hcs⟩ := ev_read (HA.out.below hB0) (by rw [HMM.out]; exact hlt)
      have hz := wd_memE (zs := zs) (by rw [HMM.out]; exact hlt)
      have ez := fst_at (zs := zs) (by rw [HMM.out]; exact hlt)
      have htk : (zs.map Prod.fst).take (k + 1) = (zs.map Prod.fst).take k ++ [(zs.map Prod.fst)[k]?.getD evD] := by
        have hkl : k < (zs.map Prod.fst).length := by rw [List.length_map, HMM.out]; exact hlt
        rw [List.take_succ_eq_append_getElem hkl, List.getElem?_eq_getElem hkl]; rfl
      rw [show (zs.map Prod.fst)[k]?.getD evD = _ from ez] at htk
      have HTK := Lib.hid htk
      clear htk ez
      generalize zs[k]?.getD (⟨0, emB, emB, op0, stz⟩, none, 0) = z at *
      obtain ⟨⟨kd, nm, ob, ⟨o1, o2, o3, o4, o5⟩, t, n, l⟩, Ae, ce⟩ := z
      dsimp only at hcs
      have hints := (HN.out _ hz).below hB0
      have hlz := HLN.out _ hz
      dsimp only at hints hlz
      obtain ⟨x0, x1, x2, x3, x4, x5, x6, x7, x8, x9, x10⟩ := hcs
      have hk0 : (0 : Int) ≤ (k : Int) := by omega
      have hk1 : (k : Int) < (m : Int) := by omega
      have hkw : IntKind.i64.wrap (k : Int) = (k : Int) := by rw [IntKind.wrap_i64]; omega
      have hB1 := alloc1 wr (.cells #[.int .i64 kd, .string nm, .string ob, .int .i64 o1, .int .i64 o2, .int .i64 o3, .int .i64 o4, .int .i64 o5, .int .i64 t, .int .i64 n, .slice Ae l.length ce] 55)
      have HX1 := Lib.hid (Holds.new wr 55 #[.int .i64 kd, .string nm, .string ob, .int .i64 o1, .int .i64 o2, .int .i64 o3, .int .i64 o4, .int .i64 o5, .int .i64 t, .int .i64 n, .slice Ae l.length ce])
      have HCS := Lib.hid (copyst_any t n Ae ce l _ (hints.below hB1) hlz)
      unfold CopyStPost stV at HCS
      clear hz hints
      go_upto_region 6 with fail
      have hB1' := nxt hB0 hB1 hB0.size
      have HROW1 := Lib.hid (row_below HROW.out hB1)
      have HROWS1 := Lib.hid (HROWS.out.below hB1)
      generalize wr.alloc (.cells #[.int .i64 kd, .string nm, .string ob, .int .i64 o1, .int .i64 o2, .int .i64 o3, .int .i64 o4, .int .i64 o5, .int .i64 t, .int .i64 n, .slice Ae l.length ce] 55) = W1 at *
      have hl1 := HX1.out.lt
      clear x0 x1 x2 x3 x4 x5 x6 x7 x8 x9 x10
      obtain ⟨x0, x1, x2, x3, x4, x5, x6, x7, x8, x9, x10, y0⟩ := ev_cells HX1.out
      go_wp2_with fail
      refine HCS.out.mono ?_
      rintro e w2 ⟨A2, c2, rfl, hr2, hB2⟩
      have HX2 := Lib.hid (HX1.out.below hB2 hl1)
      have HROW2 := Lib.hid (row_below HROW1.out hB2)
      have HROWS2 := Lib.hid (HROWS1.out.below hB2)
      have hB2' := nxt hB1' hB2 hB1'.size
      have hs2 := hB2.size
      clear x0 x1 x2 x3 x4 x5 x6 x7 x8 x9 x10 y0
      obtain ⟨x0, x1, x2, x3, x4, x5, x6, x7, x8, x9, x10, y0⟩ := ev_cells HX2.out
      have g3 := ((HX2.out.set 8 (.int .i64 t)).set 9 (.int .i64 n)).set 10 (.slice A2 l.length c2)
      simp only [List.setIfInBounds_toArray, List.set_cons_zero, List.set_cons_succ] at g3
      have O3 := Lib.hid ((((Only.of (Below.refl w2.heap.size w2) (Nat.le_refl _)).set (B := wr.heap.size) 8 (.int .i64 t)).set 9 (.int .i64 n)).set 10 (.slice A2 l.length c2))
      have HX3 := Lib.hid g3
      have HR2 := Lib.hid hr2
      clear g3 hr2
      go_upto_region 7 with fail
      generalize ((w2.setCell ⟨wr.heap.size, 8, none⟩ (.int .i64 t)).setCell ⟨wr.heap.size, 9, none⟩ (.int .i64 n)).setCell ⟨wr.heap.size, 10, none⟩ (.slice A2 l.length c2) = W3 at *
      clear x0 x1 x2 x3 x4 x5 x6 x7 x8 x9 x10 y0
      obtain ⟨x0, x1, x2, x3, x4, x5, x6, x7, x8, x9, x10, y0⟩ := ev_cells HX3.out
      have hr3 := HR2.out.kept O3.out.grown (.inr (HX2.out.not_row HR2.out (by decide)).symm)
      have HR3 := Lib.hid (row_mono hr3 (show w.heap.size ≤ W1.heap.size by omega))
      have HROW3 := Lib.hid (HROW2.out.kept O3.out.grown (.inr (fun e => by have := (HROW.out.lt _ e).2; omega)))
      have HROWS3 := Lib.hid (HROWS2.out.kept O3.out.grown (fun r e => by cases e; exact ⟨_, _, _, HX2.out, by decide⟩))
      have hB3 : Below w.heap.size w W3 := hB2'.trans (O3.out.below (lo := w.heap.size) (by omega) (by omega))
      have hs3 := O3.out.size
      have hcn := cell_new_any W3 55 (evC ⟨kd, nm, ob, (o1, o2, o3, o4, o5), t, n, l⟩ A2 c2)
      have HCN := Lib.hid hcn
      clear hr3 hcn HROW1 HROW2 HROWS1 HROWS2
      unfold evC at HCN
      dsimp only at HCN
      go_wp2_with (at_builtin; refine wpList_append_own_at _ rfl _ _ 22 rfl w.heap.size 55 i0 (.agg evZ) 11 120 Tryz.underlying22 hi hz0 hz1 hz2 rfl (by decide) _ _ _ rfl (HROW3.out.alloc _) ⟨W3.heap.size, 0, none⟩ 1 1 _ rfl rfl HCN.out (by intro u hu; simp at hu; rcases hu with rfl | rfl | rfl | rfl | rfl | rfl | rfl | rfl | rfl | rfl | rfl <;> rfl) (by unfold maxLen; omega) (by omega) (by simp; omega) ?_; intro v7 w7 hown7 hg7 hnil7 hat7)
      have hgr : ∀ r, (Value.slice Aq k cq).ownBlock = some r → ∃ cs tt mm, (W3.alloc (.cells #[.int .i64 kd, .string nm, .string ob, .int .i64 o1, .int .i64 o2, .int .i64 o3, .int .i64 o4, .int .i64 o5, .int .i64 t, .int .i64 n, .slice A2 l.length c2] 55)).heap[r]? = some (.cells cs tt mm) ∧ tt ≠ 3 := fun r e => by
        obtain ⟨cur, hcur⟩ := row_cells (HROW3.out.alloc (.cells #[.int .i64 kd, .string nm, .string ob, .int .i64 o1, .int .i64 o2, .int .i64 o3, .int .i64 o4, .int .i64 o5, .int .i64 t, .int .i64 n, .slice A2 l.length c2] 55)) e
        exact ⟨cur, _, _, hcur, by decide⟩
      go_roundw
      case rel =>
        refine ⟨k + 1, v7, ys ++ [((⟨kd, nm, ob, (o1, o2, o3, o4, o5), t, n, l⟩ : Ev), A2, c2)], by omega, by go_num, rfl, ?_, ?_, ?_, ?_, ?_⟩
        · rw [List.map_append, HYS.out, HTK.out]; rfl
        · rw [List.length_append, HYL.out]; rfl
        · rw [evsC_snoc]; exact hown7
        · intro z hz
          rcases List.mem_append.1 hz with h | h
          · exact ((HROWS3.out.alloc (.cells #[.int .i64 kd, .string nm, .string ob, .int .i64 o1, .int .i64 o2, .int .i64 o3, .int .i64 o4, .int .i64 o5, .int .i64 t, .int .i64 n, .slice A2 l.length c2] 55)).kept hg7 hgr) z h
          · exact (((EvRows.one (z := ((⟨kd, nm, ob, (o1, o2, o3, o4, o5), t, n, l⟩ : Ev), A2, c2)) HR3.out).alloc (.cells #[.int .i64 kd, .string nm, .string ob, .int .i64 o1, .int .i64 o2, .int .i64 o3, .int .i64 o4, .int .i64 o5, .int .i64 t, .int .i64 n, .slice A2 l.length c2] 55)).kept hg7 hgr) z h
        · exact (hB3.alloc (by omega) _).grown hg7 (by simp; omega) (fun r e => (HROW3.out.lt r e).1)
      case measure => simp [intOf]; omega
    · have hkk : k = m := by omega
      subst hkk
      have hkd : decide (k < k) = false := decide_eq_false (by omega)
      have hys : ys.map Prod.fst = zs.map Prod.fst := by rw [HYS.out]; exact List.take_of_length_le (by rw [List.length_map, HMM.out]; exact Nat.le_refl _)
      have HYY := Lib.hid hys
      clear hys
      go_wp2
      go_ret
      refine ⟨Aq, cq, rfl, ⟨ys, HYY.out, ?_, HROWS.out⟩, hB0⟩
      rw [HYL.out]; exact HROW.out
end Go.Proofs.YtpdbkjnaicjfdaaGreatDoor
