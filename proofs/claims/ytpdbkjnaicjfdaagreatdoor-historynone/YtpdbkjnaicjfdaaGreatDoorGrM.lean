/- Contracts of the layer grammar: Print. -/
import Derived.Test.YtpdbkjnaicjfdaaGreatDoorGrL
import Derived.Test.YtpdbkjnaicjfdaaGreatDoorGrG
namespace Go.Proofs.YtpdbkjnaicjfdaaGreatDoor
open Go.RowKit Go.Maps
set_option linter.unusedVariables false
set_option maxRecDepth 100000

theorem ev_read {B : Nat} {W : World} {A : Option Addr} {zs : List EvZ} (h : ReadEvs B W A zs) {k : Nat} (hk : k < zs.length) : ∃ b off, A = some ⟨b, off, none⟩ ∧ b < B ∧
    (let z := zs[k]?.getD (⟨0, emB, emB, op0, stz⟩, none, 0)
     W.cell? ⟨b, off + k * 11, none⟩ = some (.int .i64 z.1.kd) ∧ W.cell? ⟨b, off + k * 11 + 1, none⟩ = some (.string z.1.nm) ∧ W.cell? ⟨b, off + k * 11 + 2, none⟩ = some (.string z.1.ob) ∧
     W.cell? ⟨b, off + k * 11 + 3, none⟩ = some (.int .i64 z.1.op.1) ∧ W.cell? ⟨b, off + k * 11 + 4, none⟩ = some (.int .i64 z.1.op.2.1) ∧ W.cell? ⟨b, off + k * 11 + 5, none⟩ = some (.int .i64 z.1.op.2.2.1) ∧
     W.cell? ⟨b, off + k * 11 + 6, none⟩ = some (.int .i64 z.1.op.2.2.2.1) ∧ W.cell? ⟨b, off + k * 11 + 7, none⟩ = some (.int .i64 z.1.op.2.2.2.2) ∧ W.cell? ⟨b, off + k * 11 + 8, none⟩ = some (.int .i64 z.1.st.1) ∧
     W.cell? ⟨b, off + k * 11 + 9, none⟩ = some (.int .i64 z.1.st.2.1) ∧ W.cell? ⟨b, off + k * 11 + 10, none⟩ = some (.slice z.2.1 z.1.st.2.2.length z.2.2)) := by
  obtain ⟨b, off, e, hb, hc⟩ := h (by omega)
  have g := hc k hk
  exact ⟨b, off, e, hb, g 0 (by omega), g 1 (by omega), g 2 (by omega), g 3 (by omega), g 4 (by omega), g 5 (by omega), g 6 (by omega), g 7 (by omega), g 8 (by omega), g 9 (by omega), g 10 (by omega)⟩

theorem nm_name {s : ByteArray} (h : nm_checkE s = 0) : nameB s = true := by
  unfold nm_checkE at h
  cases hn : nameB s
  · rw [hn] at h; cases h
  · rfl
theorem app_size (a b : ByteArray) : (a ++ b).size = a.size + b.size := ByteArray.size_append
theorem kwB_size8 (k : Nat) : (kwB k).size ≤ 8 := by unfold kwB; split <;> decide
theorem ev_size {e : Ev} (hok : EvOk e) (h : evE e = 0) : (evS e).size ≤ 22000 := by
  obtain ⟨hk, hb, hn, h1, h3⟩ := evE_cases h
  have hnm := (name_size (nm_name hn)).2
  have hkw := kwB_size8 e.kd.toNat
  have hbl : blB.size = 1 := by decide
  have hh : (evH e).size ≤ 41 := by unfold evH; rw [app_size, app_size]; omega
  unfold evS
  by_cases k1 : e.kd = 1
  · rw [if_pos k1]
    obtain ⟨hs1, hs2⟩ := firstE_zero (h1 k1)
    have hs : (stS e.st).size ≤ 21100 := by
      have e1 : (stS e.st).size = (txtL e.st.1 e.st.2.1 e.st.2.2).length := by simp [stS, ByteArray.size]
      rw [e1]
      obtain ⟨g1, g5, _⟩ := check_ok hs1
      unfold txtL
      rw [List.length_append]
      have hw := word_len e.st.1.toNat
      have hw2 : (wordL e.st.1.toNat).length = (st_wordB e.st.1.toNat).size := rfl
      have := txtOf_len (numsOf e.st.1 e.st.2.1 e.st.2.2) (nums_small hok.n hok.small)
      have hl : (numsOf e.st.1 e.st.2.1 e.st.2.2).length ≤ 1001 := by
        unfold numsOf; split
        · simp
        · omega
      omega
    rw [app_size, app_size]; omega
  · rw [if_neg k1]
    by_cases k3 : e.kd = 3
    · rw [if_pos k3]
      have ho := (name_size (nm_name (doneE_zero (h3 k3)).1)).2
      have hs : (opS e.op).size ≤ 200 := op_size _ _ _ _ _
      rw [app_size, app_size, app_size, app_size]; omega
    · rw [if_neg k3]; omega
theorem wd_memE {zs : List EvZ} {k : Nat} (h : k < zs.length) : zs[k]?.getD (⟨0, emB, emB, op0, stz⟩, none, 0) ∈ zs := by rw [List.getElem?_eq_getElem h]; exact List.getElem_mem h
theorem prE_take : ∀ (es : List Ev) (k : Nat), prE (es.take k) = 0 → k < es.length → prE (es.take (k + 1)) = evE (es[k]?.getD ⟨0, emB, emB, op0, stz⟩)
  | [], k, _, h => by simp at h
  | e :: r, 0, _, _ => by simp only [List.take_succ_cons, List.take_zero, prE, List.getElem?_cons_zero, Option.getD_some]; split <;> simp_all
  | e :: r, k + 1, h, hk => by
    rw [List.take_succ_cons, prE] at h
    rw [List.take_succ_cons, prE, List.getElem?_cons_succ]
    by_cases he : evE e = 0
    · rw [if_pos he] at h ⊢
      exact prE_take r k h (by simpa using hk)
    · rw [if_neg he] at h; exact absurd h he
theorem prE_stop : ∀ (es : List Ev) (k : Nat), prE (es.take k) ≠ 0 → prE es = prE (es.take k)
  | [], k, h => by simp [prE] at h
  | e :: r, 0, h => by simp [prE] at h
  | e :: r, k + 1, h => by
    rw [List.take_succ_cons, prE] at h ⊢
    rw [prE]
    by_cases he : evE e = 0
    · rw [if_pos he] at h ⊢
      rw [if_pos he]
      exact prE_stop r k h
    · rw [if_neg he, if_neg he]
theorem prL_take {es : List Ev} {k : Nat} (hk : k < es.length) : prL (es.take (k + 1)) = prL (es.take k) ++ (nums (evS (es[k]?.getD ⟨0, emB, emB, op0, stz⟩)) ++ [10]) := by
  unfold prL
  rw [List.take_succ_eq_append_getElem hk, List.flatMap_append, List.getElem?_eq_getElem hk]
  simp

def PrintPost (es : List Ev) (w : World) (e : Ending) (w' : World) : Prop := e = .returned (.tuple #[.string (prS es), .int .i64 (prE es)]) ∧ Below w.heap.size w w'

set_option maxHeartbeats 8000000 in
theorem print_any (A : Option Addr) (c : Nat) (zs : List EvZ) (w : World) (hA : ReadEvs w.heap.size w A zs) (hN : ReadNums w zs) (hok : ∀ z ∈ zs, EvOk z.1) (hm : zs.length ≤ 2000) (hw : Wds w) (hk : KWds w) :
    Calls Tryz.prog 55 #[.slice A zs.length c] w (PrintPost (zs.map Prod.fst) w) := by
  obtain ⟨i0, hi, hz0, hz1, hz2⟩ := info_parts info_u8
  have HA := Lib.hid hA
  have HN := Lib.hid hN
  have HOK := Lib.hid hok
  have HW := Lib.hid hw
  have HK := Lib.hid hk
  unfold PrintPost
  obtain ⟨es, hes⟩ : ∃ es, zs.map Prod.fst = es := ⟨_, rfl⟩
  have hlen : es.length = zs.length := by rw [← hes, List.length_map]
  have hget : ∀ k, k < zs.length → es[k]?.getD ⟨0, emB, emB, op0, stz⟩ = (zs[k]?.getD (⟨0, emB, emB, op0, stz⟩, none, 0)).1 := by
    intro k hk
    rw [← hes, List.getElem?_map, List.getElem?_eq_getElem hk]; rfl
  have HGET := Lib.hid hget
  rw [hes]
  clear hA hN hok hw hk hget hes
  obtain ⟨m, hmm⟩ : ∃ m, zs.length = m := ⟨_, rfl⟩
  rw [hmm] at hlen hm HGET ⊢
  have HLEN := Lib.hid hlen
  have HMM := Lib.hid hmm
  clear hlen hmm
  go_enter Tryz.func55, Tryz.ntmps55
  go_wp2
  go_loopw [4, 5, 12] (fun s4 s5 i12 wr => ∃ (k N : Nat) (q : Value), k ≤ m ∧ i12 = .int .i64 k ∧ s5 = .bool false ∧ s4 = q ∧ wr.ownsRow w.heap.size 5 1 q N (bytesOf (prL (es.take k))) ∧ N = (prL (es.take k)).length ∧ N ≤ k * 22001 ∧ prE (es.take k) = 0 ∧ Below w.heap.size w wr) (fun s4 s5 i12 wr => m - (intOf i12).toNat)
  case atStart => exact ⟨0, 0, _, Nat.zero_le _, rfl, rfl, rfl, World.ownsRow_nil _ _ _ _, rfl, by omega, rfl, Below.refl _ _⟩
  case round =>
    obtain ⟨k, N, q, hk, rfl, rfl, rfl, hrow, hN, hNb, hpe, hB⟩ := hrel
    obtain ⟨Aq, cq, rfl⟩ := row_one hrow
    have HROW := Lib.hid hrow
    have HNN := Lib.hid hN
    have HPE := Lib.hid hpe
    have hwr := hB.size
    clear hrow hN hpe
    by_cases hlt : k < m
    · obtain ⟨b, off, rfl, hb, hcs⟩ := ev_read (HA.out.below hB) (by rw [HMM.out]; exact hlt)
      have hz := wd_memE (zs := zs) (by rw [HMM.out]; exact hlt)
      have hg := HGET.out k hlt
      generalize zs[k]?.getD (⟨0, emB, emB, op0, stz⟩, none, 0) = z at *
      obtain ⟨ev, Ae, ce⟩ := z
      dsimp only at hcs hg
      obtain ⟨x0, x1, x2, x3, x4, x5, x6, x7, x8, x9, x10⟩ := hcs
      have hints := (HN.out _ hz).below hB
      have hevk := HOK.out _ hz
      dsimp only at hints hevk
      have k0 : (0 : Int) ≤ (k : Int) := by omega
      have k1 : (k : Int) < (m : Int) := by omega
      have kd : decide (k < m) = true := decide_eq_true hlt
      have hpt := prE_take es k HPE.out (by rw [HLEN.out]; exact hlt)
      have hlt2 := prL_take (es := es) (show k < es.length by rw [HLEN.out]; exact hlt)
      rw [hg] at hpt hlt2
      have HPT := Lib.hid hpt
      have HLT := Lib.hid hlt2
      have hB1 := alloc1 wr (.cells (evC ev Ae ce) 55)
      have HLN := Lib.hid (line_any ev Ae ce _ (hints.below hB1) hevk ((HW.out.on hB).on hB1) ((HK.out.on hB).on hB1))
      have HEV := Lib.hid hevk
      have hB2 := nxt hB hB1 hB.size
      have HROW1 := Lib.hid (row_below HROW.out hB1)
      clear hz hg hints hevk hpt hlt2
      unfold evV at HLN
      unfold evC at *
      go_wp2_with fail
      refine HLN.out.mono ?_
      rintro e w2 ⟨rfl, hB3⟩
      have hB4 := nxt hB2 hB3 hB2.size
      have HROW2 := Lib.hid (row_below HROW1.out hB3)
      have hs2 := hB4.size
      clear x0 x1 x2 x3 x4 x5 x6 x7 x8 x9 x10
      by_cases hE : evE ev = 0
      · have hT : evT ev = evS ev := by unfold evT; rw [if_pos hE]
        have hsz := ev_size HEV.out hE
        rw [hE, hT]
        have HLT2 := Lib.hid HLT.out
        generalize evS ev = s at *
        have hp1 : prE (es.take (k + 1)) = 0 := HPT.out.trans hE
        have HP1 := Lib.hid hp1
        have d1 : decide ((65536 : Int) < (s.size : Int)) = false := decide_eq_false (by omega)
        have hk22 : k * 22001 ≤ 2000 * 22001 := Nat.mul_le_mul_right _ (by omega)
        have d2 : decide ((67108864 : Int) < (N : Int) + (s.size : Int) + 1) = false := decide_eq_false (by omega)
        have d3 : ¬ 65536 < s.size := by omega
        have d4 : ¬ 67108864 < N + s.size + 1 := by omega
        have hst := strCells_nums s
        have hst2 := strCells_nums ⟨#[10]⟩
        have HST := Lib.hid hst
        have HST2 := Lib.hid hst2
        clear hp1 hT hE hst hst2
        go_wp2_with (first
          | (at_builtin; refine Lib.wpList_append_own_string _ rfl _ _ 78 9 rfl w.heap.size 5 i0 Tryz.underlying78 Tryz.underlying9 hi hz0 hz1 hz2 _ _ _ rfl HROW2.out s rfl (by unfold maxLen; omega) (by omega) (by omega) ?_; intro v5 w5 hown5 hg5 hnil5; have hw5 : w.heap.size ≤ w5.heap.size := Nat.le_trans hs2 hg5.size; have HNIL5 := Lib.hid hnil5; clear hnil5)
          | (at_builtin; refine Lib.wpList_append_own_string _ rfl _ _ 78 9 rfl w.heap.size 5 i0 Tryz.underlying78 Tryz.underlying9 hi hz0 hz1 hz2 _ _ _ rfl hown5 ⟨#[10]⟩ rfl (by unfold maxLen; show N + s.size + 1 ≤ _; omega) (by show N + s.size + 1 ≤ _; omega) hw5 ?_; intro v6 w6 hown6 hg6 hnil6; have HNIL6 := Lib.hid hnil6; clear hnil6))
        go_roundw
        case rel =>
          refine ⟨k + 1, N + s.size + 1, v6, by omega, by go_num, rfl, rfl, ?_, ?_, by omega, HP1.out, ?_⟩
          · rw [HLT2.out]
            rw [HST.out, HST2.out] at hown6
            have e1 : bytesOf (prL (es.take k) ++ (nums s ++ [10])) = bytesOf (prL (es.take k)) ++ bytesOf (nums s) ++ bytesOf (nums ⟨#[10]⟩) := by
              unfold bytesOf; simp; rfl
            rw [e1]
            exact hown6
          · rw [HLT2.out, List.length_append, List.length_append, nums_len, ← HNN.out]; rfl
          · exact (hB4.grown hg5 (by omega) (fun r e => (HROW2.out.lt r e).1)).grown hg6 hw5 (fun r e => (hown5.lt r e).1)
        case measure => simp [intOf]; omega
      · have hbn : (evE ev != 0) = true := by rw [bne_iff_ne]; exact hE
        have hfin : prE es = evE ev := by
          have := prE_stop es (k + 1) (by rw [HPT.out]; exact hE)
          rw [this, HPT.out]
        have hfs : prS es = emB := by unfold prS; rw [if_neg (by rw [hfin]; exact hE)]
        have HFIN := Lib.hid hfin
        have HFS := Lib.hid hfs
        generalize evE ev = er at *
        generalize evT ev = et at *
        clear hfin hfs
        go_wp2
        go_ret2
        rw [HFIN.out, HFS.out]
        exact ⟨rfl, hB4⟩
    · have hkk : k = m := by omega
      subst hkk
      have kd : decide (k < k) = false := decide_eq_false (by omega)
      have hes : es.take k = es := List.take_of_length_le (by rw [HLEN.out]; exact Nat.le_refl _)
      have hrow := HROW.out
      have hN := HNN.out
      have hpe := HPE.out
      rw [hes] at hrow hN hpe
      subst hN
      have hcv := conv_any (c := cq) (own_bytes hrow)
      have hfs : prS es = strOfNums (prL es) := by unfold prS; rw [if_pos hpe]
      have HFS := Lib.hid hfs
      have HPE2 := Lib.hid hpe
      clear hes hrow hfs hpe
      go_wp2
      go_ret2
      rw [HFS.out, HPE2.out]
      exact ⟨rfl, hB⟩
end Go.Proofs.YtpdbkjnaicjfdaaGreatDoor
