/- The document's functions of the layer grammar: Print. -/
import Derived.Test.YtakbphjdfgidmaaGreatDoorGuA
namespace Go.Proofs.YtakbphjdfgidmaaGreatDoor
open Go.RowKit Go.Maps
set_option linter.unusedVariables false
set_option maxRecDepth 100000

theorem strOf_app (a b : List Int) : strOfNums (a ++ b) = strOfNums a ++ strOfNums b := by
  apply ByteArray.ext
  rw [ByteArray.data_append]
  unfold strOfNums
  simp

set_option maxHeartbeats 8000000 in
theorem rprint_any (A : Option Addr) (c : Nat) (zs : List EvZ) (w : World) (hA : ReadEvs w.heap.size w A zs) (hN : ReadNums w zs) (hok : ∀ z ∈ zs, EvOk z.1) (hm : zs.length ≤ 2000) :
    Calls Tryz.prog 14 #[.slice A zs.length c] w (PrintPost (zs.map Prod.fst) w) := by
  have HA := Lib.hid hA
  have HN := Lib.hid hN
  have HOK := Lib.hid hok
  unfold PrintPost
  obtain ⟨es, hes⟩ : ∃ es, zs.map Prod.fst = es := ⟨_, rfl⟩
  have hlen : es.length = zs.length := by rw [← hes, List.length_map]
  have hget : ∀ k, k < zs.length → es[k]?.getD ⟨0, emB, emB, op0, stz⟩ = (zs[k]?.getD (⟨0, emB, emB, op0, stz⟩, none, 0)).1 := by
    intro k hk
    rw [← hes, List.getElem?_map, List.getElem?_eq_getElem hk]; rfl
  have HGET := Lib.hid hget
  rw [hes]
  clear hA hN hok hget hes
  obtain ⟨m, hmm⟩ : ∃ m, zs.length = m := ⟨_, rfl⟩
  rw [hmm] at hlen hm HGET ⊢
  have HLEN := Lib.hid hlen
  have HMM := Lib.hid hmm
  clear hlen hmm
  go_enter Tryz.func14, Tryz.ntmps14
  go_wp2
  go_loopw [4, 5, 6] (fun s4 s5 i6 wr => ∃ (k : Nat) (out : ByteArray), k ≤ m ∧ i6 = .int .i64 k ∧ s5 = .bool false ∧ s4 = .string out ∧ out = strOfNums (prL (es.take k)) ∧ out.size ≤ k * 22001 ∧ prE (es.take k) = 0 ∧ Below w.heap.size w wr) (fun s4 s5 i6 wr => m - (intOf i6).toNat)
  case atStart => exact ⟨0, ⟨#[]⟩, Nat.zero_le _, rfl, rfl, rfl, rfl, Nat.zero_le _, rfl, Below.refl _ _⟩
  case round =>
    obtain ⟨k, out, hk, rfl, rfl, rfl, hout, hN, hpe, hB⟩ := hrel
    have HOUT := Lib.hid hout
    have HPE := Lib.hid hpe
    have hwr := hB.size
    clear hout hpe
    by_cases hlt : k < m
    · obtain ⟨b, off, rfl, hb, hcs⟩ := ev_read (HA.out.below hB) (by rw [HMM.out]; exact hlt)
      have hz := wd_memE (zs := zs) (by rw [HMM.out]; exact hlt)
      have hg := HGET.out k hlt
      generalize zs[k]?.getD (⟨0, emB, emB, op0, stz⟩, none, 0) = z at *
      obtain ⟨ev, Ae, ce⟩ := z
      dsimp only at hcs hg
      obtain ⟨x0, x1, x2, x3, x4, x5, x6, x7, x8, x9, x10⟩ := hcs
      have hints := (HN.out _ hz).below hB
      have hevk := HOK.out _ hz
      dsimp only at hints hevk
      have k0 : (0 : Int) ≤ (k : Int) := by omega
      have k1 : (k : Int) < (m : Int) := by omega
      have kd : decide (k < m) = true := decide_eq_true hlt
      have hkw : IntKind.i64.wrap (k : Int) = (k : Int) := by rw [IntKind.wrap_i64]; omega
      have hpt := prE_take es k HPE.out (by rw [HLEN.out]; exact hlt)
      have hlt2 := prL_take (es := es) (show k < es.length by rw [HLEN.out]; exact hlt)
      rw [hg] at hpt hlt2
      have HPT := Lib.hid hpt
      have HLT := Lib.hid hlt2
      have HLN := Lib.hid (rline_any ev Ae ce wr hints hevk)
      have HEV := Lib.hid hevk
      clear hz hg hints hevk hpt hlt2
      unfold LinePost evV at HLN
      unfold evC at *
      by_cases hE : evE ev = 0
      · have hT : evT ev = evS ev := by unfold evT; rw [if_pos hE]
        have hsz := ev_size HEV.out hE
        rw [hE, hT] at HLN
        have HLT2 := Lib.hid HLT.out
        generalize evS ev = s at *
        have hp1 : prE (es.take (k + 1)) = 0 := HPT.out.trans hE
        have HP1 := Lib.hid hp1
        have d1 : decide ((65536 : Int) < (s.size : Int)) = false := decide_eq_false (by omega)
        have hk22 : k * 22001 ≤ 2000 * 22001 := Nat.mul_le_mul_right _ (by omega)
        have q1 : ¬ 9223372036854775807 < out.size + s.size := by omega
        have q2 : ¬ 9223372036854775807 < out.size + s.size + 1 := by omega
        have d3 : ¬ 65536 < s.size := by omega
        clear hp1 hT hE
        go_wp2_with fail
        refine HLN.out.mono ?_
        rintro e w2 ⟨rfl, hB3⟩
        have hB4 := nxt hB hB3 hB.size
        go_wp2
        go_roundw
        case rel =>
          refine ⟨k + 1, _, by omega, by go_num, rfl, rfl, ?_, ?_, HP1.out, hB4⟩
          · rw [HLT2.out, strOf_app, strOf_app, strOf_nums, ← HOUT.out, ← ByteArray.append_assoc]; rfl
          · rw [app_size, app_size]
            show out.size + s.size + 1 ≤ _
            omega
        case measure => simp [intOf]; omega
      · have hbn : (evE ev != 0) = true := by rw [bne_iff_ne]; exact hE
        have hfin : prE es = evE ev := by
          have := prE_stop es (k + 1) (by rw [HPT.out]; exact hE)
          rw [this, HPT.out]
        have hfs : prS es = emB := by unfold prS; rw [if_neg (by rw [hfin]; exact hE)]
        have HFIN := Lib.hid hfin
        have HFS := Lib.hid hfs
        generalize evE ev = er at *
        generalize evT ev = et at *
        clear hfin hfs
        go_wp2_with fail
        refine HLN.out.mono ?_
        rintro e w2 ⟨rfl, hB3⟩
        have hB4 := nxt hB hB3 hB.size
        go_wp2
        go_ret2
        rw [HFIN.out, HFS.out]
        exact ⟨rfl, hB4⟩
    · have hkk : k = m := by omega
      subst hkk
      have kd : decide (k < k) = false := decide_eq_false (by omega)
      have hes : es.take k = es := List.take_of_length_le (by rw [HLEN.out]; exact Nat.le_refl _)
      have hpe := HPE.out
      have ho := HOUT.out
      rw [hes] at hpe ho
      have hfs : prS es = out := by unfold prS; rw [if_pos hpe, ho]
      have HFS := Lib.hid hfs
      have HPE2 := Lib.hid hpe
      have hk22 : k * 22001 ≤ 2000 * 22001 := Nat.mul_le_mul_right _ (by omega)
      have d1 : decide ((67108864 : Int) < (out.size : Int)) = false := decide_eq_false (by omega)
      have d2 : ¬ 67108864 < out.size := by omega
      clear hes ho hfs hpe HOUT
      go_wp2
      go_ret2
      rw [HFS.out, HPE2.out]
      exact ⟨rfl, hB⟩
end Go.Proofs.YtakbphjdfgidmaaGreatDoor
