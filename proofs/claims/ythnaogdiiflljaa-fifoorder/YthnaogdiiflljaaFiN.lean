/- FifoOrder. (Written by wip/tools/gen_fin.py.) -/
import Derived.Test.YthnaogdiiflljaaFiM
import Derived.Deep.RegionHeld3
namespace Go.Proofs.Ythnaogdiiflljaa
open Go.RowKit Go.Maps
set_option linter.unusedVariables false
set_option linter.unusedSimpArgs false

theorem cell_kept {w W : World} {b off : Nat} {v : Value} (hB : Below w.heap.size w W) (hb : b < w.heap.size) (h : w.cell? ⟨b, off, none⟩ = some v) : W.cell? ⟨b, off, none⟩ = some v := (hB.cell (p := ⟨b, off, none⟩) hb).trans h
theorem qbox_below {base B : Nat} {W W' : World} {s : List Int} {A : Option Addr} {c : Nat} (h : QBox base W B s A c) (hb : Below W.heap.size W W') : QBox base W' B s A c := h.below hb

set_option maxRecDepth 100000 in
set_option maxHeartbeats 4000000 in
theorem forder_law (A : Option Addr) (c : Nat) (l : List Int) (C : Option Addr) (d : Nat) (cl : List Int) (w : World) (hA : Ints w A l) (hC : Ints w C cl) (hfl : l.length ≤ c) (hcm : c ≤ maxLen) (hcl : cl.length ≤ maxLen) :
    Calls Try.prog 6 #[.slice A l.length c, .slice C cl.length d] w (Yes w) := by
  unfold maxLen at hcm hcl
  by_cases hl : 60 < l.length
  · go_enter Try.func6, Try.ntmps6
    go_wp2_with fail
    refine (known_all _).mono ?_
    rintro e w1 ⟨rfl, hB1⟩
    go_wp2
    go_ret
    exact ⟨rfl, hB1⟩
  by_cases hl2 : 120 < cl.length
  · go_enter Try.func6, Try.ntmps6
    go_wp2_with fail
    refine (known_all _).mono ?_
    rintro e w1 ⟨rfl, hB1⟩
    go_wp2
    go_ret
    exact ⟨rfl, hB1⟩
  · have HA := Lib.hid hA
    have HC := Lib.hid hC
    clear hA hC
    have he0 : ∀ w' : World, (binOp .neq 28 (.agg #[.int .i64 0, .int .i64 0]) (.agg #[.int .i64 0, .int .i64 0])).run Try.prog w' = .ok (.bool false) w' := fun w' => neq_ret w' 0 0 0 0
    have he1 : ∀ w' : World, (binOp .neq 28 (.agg #[.int .i64 1, .int .i64 0]) (.agg #[.int .i64 1, .int .i64 0])).run Try.prog w' = .ok (.bool false) w' := fun w' => neq_ret w' 1 0 1 0
    go_enter Try.func6, Try.ntmps6
    go_wp2_with fail
    refine (known_all _).mono ?_
    rintro e w1 ⟨rfl, hB1⟩
    go_wp2_with fail
    refine (of_any _ _ _ _).mono ?_
    rintro e w2 ⟨rfl, hB2⟩
    have hC2 := onto hB1 hB2
    unfold stV
    obtain ⟨Sb, hSb⟩ : ∃ Sb, Sb = w2.heap.size := ⟨_, rfl⟩
    have hC3 := onto hC2 (alloc1 w2 (.cells #[.int .i64 4, .int .i64 0, .slice none 0 0] 24))
    have HQ0 : Hid (QBox w.heap.size (w2.alloc (.cells #[.int .i64 4, .int .i64 0, .slice none 0 0] 24)) Sb [] none 0) := Lib.hid ⟨by rw [hSb]; exact Holds.new w2 _ _, World.ownsRow_nil _ _ _ _⟩
    have hSw : w.heap.size ≤ Sb := by rw [hSb]; exact hC2.size
    go_wp2_with fail
    rw [← hSb]
    clear hSb
    generalize w2.alloc (.cells #[.int .i64 4, .int .i64 0, .slice none 0 0] 24) = W3 at *
    go_loopw [7, 8, 9] (fun s7 s8 s9 wr => ∃ (i p q n : Nat) (A1 : Option Addr) (c1 : Nat) (m : List Int), i ≤ cl.length ∧ s7 = .int .i64 p ∧ s8 = .int .i64 q ∧ s9 = .int .i64 i ∧ q ≤ p ∧ p ≤ l.length ∧ m = qlist l p q ∧ QBox w.heap.size wr Sb m A1 c1 ∧ Below w.heap.size w wr) (fun s7 s8 s9 wr => cl.length - (intOf s9).toNat)
    case atStart => exact ⟨0, 0, 0, 0, none, 0, [], Nat.zero_le _, rfl, rfl, rfl, Nat.le_refl _, Nat.zero_le _, (qlist_none l 0).symm, HQ0.out, hC3⟩
    case round =>
      obtain ⟨i, p, q, -, A1, c1, m0, hi, rfl, rfl, rfl, hqp, hpl, hm0, hQ, hB⟩ := hrel
      have HM0 := Lib.hid hm0
      have HQ := Lib.hid hQ
      have hn : p - q = m0.length := by rw [hm0, qlist_len hpl]
      obtain ⟨n, hne⟩ : ∃ n, n = m0.length := ⟨_, rfl⟩
      have hn1 : n ≤ p - q := by omega
      have hn2 : p - q ≤ n := by omega
      have s0 := hQ.box.c (j := 0) rfl
      have s1 := hQ.box.c (j := 1) rfl
      have s2 := hQ.box.c (j := 2) rfl
      have f0 := hQ.box.frozen 0
      have f1 := hQ.box.frozen 1
      have f2 := hQ.box.frozen 2
      rw [← hne] at s2
      have HNE := Lib.hid hne
      have hsw := hQ.box.lt
      have HI := Lib.hid (own_ints rfl hQ.row)
      clear hm0 hQ hn hne
      by_cases hlt : i < cl.length
      · obtain ⟨bc, offc, rfl, hbc, hcc⟩ := HC.out (by omega)
        obtain ⟨z, hz⟩ : ∃ z, cl[i]?.getD 0 = z := ⟨_, rfl⟩
        have hci := cell_kept hB hbc (hcc i hlt)
        rw [hz] at hci
        have g0 : (0 : Int) ≤ (i : Int) := by omega
        have g1 : (i : Int) < (cl.length : Int) := by omega
        clear hcc hz
        cases hodd : (z.tmod 2 != 0) with
        | true =>
          by_cases hp : p = l.length
          · have e1 : ((p : Int) == (l.length : Int)) = true := by rw [hp]; simp
            have HP := Lib.hid hp
            clear hp
            go_wp2
            exact ⟨⟨i + 1, p, q, 0, A1, c1, m0, by omega, rfl, rfl, by go_num, hqp, hpl, HM0.out, HQ.out, hB⟩, by simp [intOf]; omega⟩
          · have e1 : ((p : Int) == (l.length : Int)) = false := by simp; omega
            have hp2 : p < l.length := by omega
            obtain ⟨bl, off, rfl, hbl, hc⟩ := HA.out (by omega)
            obtain ⟨x, hx⟩ : ∃ x, l[p]? = some x := ⟨_, List.getElem?_eq_getElem hp2⟩
            have hck := cell_kept hB hbl (hc p hp2)
            rw [hx] at hck
            have q0 : (0 : Int) ≤ (p : Int) := by omega
            have q1 : (p : Int) < (l.length : Int) := by omega
            have HAP := fun W (h : Below wr.heap.size wr W) => fapply_enq A1 c1 m0 x W (HI.out.below h) (by have := HNE.out; omega)
            obtain ⟨m, hm⟩ : ∃ m, fifoL m0 10 x = m := ⟨_, rfl⟩
            rw [hm, show fifoK m0 10 = 0 from rfl, show fifoN m0 10 = 0 from rfl, ← HNE.out] at HAP
            have HMQ : Hid (m = qlist l (p + 1) q) := Lib.hid (by rw [← hm, ← qlist_put hqp hx, ← HM0.out]; rfl)
            unfold SetPost stV retV at HAP
            have hbw : bl < wr.heap.size := by have := hB.size; omega
            have HSZ := Lib.hid hB.size
            have hBd : Below wr.heap.size wr wr.drew := (Below.refl _ wr).drew
            have hmlen : m.length ≤ 61 := by rw [HMQ.out, qlist_len (by omega)]; omega
            clear hc hx hm
            go_wp2_with fail
            go_cut [10, 11, 12] from 45 to 54 (fun s8 s9 s10 wx => s10 = .int .i64 0 ∧ ToldQ w wr m 0 0 s8 s9 wx)
            case first =>
              have HKS := Lib.hid (show ∀ W', Below wr.heap.size wr W' → (W'.cell? ⟨Sb, 0, none⟩ = some (.int .i64 4) ∧ W'.cell? ⟨Sb, 1, none⟩ = some (.int .i64 0) ∧ W'.cell? ⟨Sb, 2, none⟩ = some (.slice A1 n c1) ∧ W'.cell? ⟨bl, off + p, none⟩ = some (.int .i64 x)) from fun W' h => ⟨(h.cell (p := ⟨Sb, 0, none⟩) hsw).trans s0, (h.cell (p := ⟨Sb, 1, none⟩) hsw).trans s1, (h.cell (p := ⟨Sb, 2, none⟩) hsw).trans s2, (h.cell (p := ⟨bl, off + p, none⟩) hbw).trans hck⟩)
              go_region_held3 (fun w' => w'.cell? ⟨Sb, 0, none⟩ = some (.int .i64 4) ∧ w'.cell? ⟨Sb, 1, none⟩ = some (.int .i64 0) ∧ w'.cell? ⟨Sb, 2, none⟩ = some (.slice A1 n c1) ∧ w'.cell? ⟨bl, off + p, none⟩ = some (.int .i64 x)) (first | exact HKS.out _ (by repeat (first | (with_reducible exact hBd) | (with_reducible exact hB6w) | (with_reducible exact Below.refl _ _) | (with_reducible refine Below.drew ?_) | (with_reducible refine gro_alloc ?_ _) | ((with_reducible refine gro_set ?_ _ _ ?hb); case hb => omega))) | go_keep) (first | (go_at_call 10; refine (HAP _ (by repeat (first | (with_reducible exact hBd) | (with_reducible exact hB6w) | (with_reducible exact Below.refl _ _) | (with_reducible refine Below.drew ?_) | (with_reducible refine gro_alloc ?_ _) | ((with_reducible refine gro_set ?_ _ _ ?hb); case hb => omega)))).mono ?_; rintro e w6 ⟨Y6, c6, rfl, ho6, hB6⟩; have hs6 := hB6.size; (try simp at hs6); have hB6w : Below wr.heap.size wr w6 := onto (by repeat (first | (with_reducible exact hBd) | (with_reducible exact hB6w) | (with_reducible exact Below.refl _ _) | (with_reducible refine Below.drew ?_) | (with_reducible refine gro_alloc ?_ _) | ((with_reducible refine gro_set ?_ _ _ ?hb); case hb => omega))) hB6; have hsz := HSZ.out; replace ho6 := row_more (b' := w.heap.size) ho6 (by simp <;> omega); clear hsz; first | ((with_reducible have hB7 : Below ((wr.alloc (.cells #[.int .i64 0, .int .i64 0, .slice none 0 0] 24)).alloc (.cells #[.int .i64 0, .int .i64 0] 28)).drew.heap.size ((wr.alloc (.cells #[.int .i64 0, .int .i64 0, .slice none 0 0] 24)).alloc (.cells #[.int .i64 0, .int .i64 0] 28)).drew w6 := hB6); have hX6 : Holds w6 wr.heap.size 24 #[.int .i64 0, .int .i64 0, .slice none 0 0] := (Holds.of (W' := ((wr.alloc (.cells #[.int .i64 0, .int .i64 0, .slice none 0 0] 24)).alloc (.cells #[.int .i64 0, .int .i64 0] 28)).drew) ((Holds.new wr 24 #[.int .i64 0, .int .i64 0, .slice none 0 0]).alloc (.cells #[.int .i64 0, .int .i64 0] 28)) rfl).below hB7 (by simp <;> omega); have hR6 : Holds w6 (wr.heap.size + 1) 28 #[.int .i64 0, .int .i64 0] := (Holds.of (W' := ((wr.alloc (.cells #[.int .i64 0, .int .i64 0, .slice none 0 0] 24)).alloc (.cells #[.int .i64 0, .int .i64 0] 28)).drew) (new_second wr (.cells #[.int .i64 0, .int .i64 0, .slice none 0 0] 24) 28 #[.int .i64 0, .int .i64 0]) rfl).below hB7 (by simp <;> omega); have ax0 := hX6.c (j := 0) rfl; have ax1 := hX6.c (j := 1) rfl; have ax2 := hX6.c (j := 2) rfl; have fx0 := hX6.frozen 0; have fx1 := hX6.frozen 1; have fx2 := hX6.frozen 2; have ar0 := hR6.c (j := 0) rfl; have ar1 := hR6.c (j := 1) rfl; have fr0 := hR6.frozen 0; have fr1 := hR6.frozen 1; have ne1 : wr.heap.size ≠ wr.heap.size + 1 := (by omega)) | ((with_reducible have hB7 : Below ((wr.alloc (.cells #[.int .i64 0, .int .i64 0] 28)).alloc (.cells #[.int .i64 0, .int .i64 0, .slice none 0 0] 24)).drew.heap.size ((wr.alloc (.cells #[.int .i64 0, .int .i64 0] 28)).alloc (.cells #[.int .i64 0, .int .i64 0, .slice none 0 0] 24)).drew w6 := hB6); have hR6 : Holds w6 wr.heap.size 28 #[.int .i64 0, .int .i64 0] := (Holds.of (W' := ((wr.alloc (.cells #[.int .i64 0, .int .i64 0] 28)).alloc (.cells #[.int .i64 0, .int .i64 0, .slice none 0 0] 24)).drew) ((Holds.new wr 28 #[.int .i64 0, .int .i64 0]).alloc (.cells #[.int .i64 0, .int .i64 0, .slice none 0 0] 24)) rfl).below hB7 (by simp <;> omega); have hX6 : Holds w6 (wr.heap.size + 1) 24 #[.int .i64 0, .int .i64 0, .slice none 0 0] := (Holds.of (W' := ((wr.alloc (.cells #[.int .i64 0, .int .i64 0] 28)).alloc (.cells #[.int .i64 0, .int .i64 0, .slice none 0 0] 24)).drew) (new_second wr (.cells #[.int .i64 0, .int .i64 0] 28) 24 #[.int .i64 0, .int .i64 0, .slice none 0 0]) rfl).below hB7 (by simp <;> omega); have ax0 := hX6.c (j := 0) rfl; have ax1 := hX6.c (j := 1) rfl; have ax2 := hX6.c (j := 2) rfl; have fx0 := hX6.frozen 0; have fx1 := hX6.frozen 1; have fx2 := hX6.frozen 2; have ar0 := hR6.c (j := 0) rfl; have ar1 := hR6.c (j := 1) rfl; have fr0 := hR6.frozen 0; have fr1 := hR6.frozen 1; have ne1 : wr.heap.size ≠ wr.heap.size + 1 := (by omega)) | ((with_reducible have hB7 : Below (wr.alloc (.cells #[.int .i64 0, .int .i64 0, .slice none 0 0] 24)).drew.heap.size (wr.alloc (.cells #[.int .i64 0, .int .i64 0, .slice none 0 0] 24)).drew w6 := hB6); have hX6 : Holds w6 wr.heap.size 24 #[.int .i64 0, .int .i64 0, .slice none 0 0] := (Holds.of (W' := (wr.alloc (.cells #[.int .i64 0, .int .i64 0, .slice none 0 0] 24)).drew) (Holds.new wr 24 #[.int .i64 0, .int .i64 0, .slice none 0 0]) rfl).below hB7 (by simp <;> omega); have ax0 := hX6.c (j := 0) rfl; have ax1 := hX6.c (j := 1) rfl; have ax2 := hX6.c (j := 2) rfl; have fx0 := hX6.frozen 0; have fx1 := hX6.frozen 1; have fx2 := hX6.frozen 2; have gX0 := (hX6.alloc (.cells #[.int .i64 0, .int .i64 0] 28)).c (j := 0) rfl; have geX0 := (hX6.alloc (.cells #[.int .i64 0, .int .i64 0] 28)).frozen 0; have gX1 := (hX6.alloc (.cells #[.int .i64 0, .int .i64 0] 28)).c (j := 1) rfl; have geX1 := (hX6.alloc (.cells #[.int .i64 0, .int .i64 0] 28)).frozen 1; have gX2 := (hX6.alloc (.cells #[.int .i64 0, .int .i64 0] 28)).c (j := 2) rfl; have geX2 := (hX6.alloc (.cells #[.int .i64 0, .int .i64 0] 28)).frozen 2; have hs7 : wr.heap.size + 1 ≤ w6.heap.size := (by simpa using hB6.size); have ne1 : wr.heap.size ≠ w6.heap.size := (by omega); have ne2 : w6.heap.size ≠ wr.heap.size := (by omega)) | ((with_reducible have hB7 : Below (wr.alloc (.cells #[.int .i64 0, .int .i64 0] 28)).drew.heap.size (wr.alloc (.cells #[.int .i64 0, .int .i64 0] 28)).drew w6 := hB6); have hR6 : Holds w6 wr.heap.size 28 #[.int .i64 0, .int .i64 0] := (Holds.of (W' := (wr.alloc (.cells #[.int .i64 0, .int .i64 0] 28)).drew) (Holds.new wr 28 #[.int .i64 0, .int .i64 0]) rfl).below hB7 (by simp <;> omega); have ar0 := hR6.c (j := 0) rfl; have ar1 := hR6.c (j := 1) rfl; have fr0 := hR6.frozen 0; have fr1 := hR6.frozen 1; have gR0 := (hR6.alloc (.cells #[.int .i64 0, .int .i64 0, .slice none 0 0] 24)).c (j := 0) rfl; have geR0 := (hR6.alloc (.cells #[.int .i64 0, .int .i64 0, .slice none 0 0] 24)).frozen 0; have gR1 := (hR6.alloc (.cells #[.int .i64 0, .int .i64 0, .slice none 0 0] 24)).c (j := 1) rfl; have geR1 := (hR6.alloc (.cells #[.int .i64 0, .int .i64 0, .slice none 0 0] 24)).frozen 1; have qR0 := (hR6.alloc (.cells #[.int .i64 4, .int .i64 0, .slice Y6 m.length c6] 24)).c (j := 0) rfl; have qeR0 := (hR6.alloc (.cells #[.int .i64 4, .int .i64 0, .slice Y6 m.length c6] 24)).frozen 0; have qR1 := (hR6.alloc (.cells #[.int .i64 4, .int .i64 0, .slice Y6 m.length c6] 24)).c (j := 1) rfl; have qeR1 := (hR6.alloc (.cells #[.int .i64 4, .int .i64 0, .slice Y6 m.length c6] 24)).frozen 1; have hs7 : wr.heap.size + 1 ≤ w6.heap.size := (by simpa using hB6.size); have ne1 : wr.heap.size ≠ w6.heap.size := (by omega); have ne2 : w6.heap.size ≠ wr.heap.size := (by omega)) | skip))
              all_goals go_wp2_with fail
              all_goals go_meet
              all_goals first | (with_reducible exact ⟨rfl, toldq_a hB6w ho6 (Nat.le_refl _)⟩) | (with_reducible exact ⟨rfl, toldq_b hB6w ho6 (Nat.le_refl _)⟩) | (with_reducible exact ⟨rfl, toldq_c hB6w ho6 (Nat.le_refl _) hX6⟩) | (with_reducible exact ⟨rfl, toldq_e hB6w ho6 (Nat.le_refl _) hR6⟩) | (with_reducible exact ⟨rfl, toldq_sets hX6 hR6 (by omega) ho6 (by omega) (by omega) hB6w⟩)
            case rest =>
              obtain ⟨rfl, X, R, Y, cY, rfl, rfl, hX, hR, bX, bR, hBx⟩ := hcut
              obtain ⟨Wx, rfl⟩ : ∃ Wx, Wx = wc := ⟨_, rfl⟩
              have TX := Lib.hid bX
              have TR := Lib.hid bR
              have HSx := Lib.hid (HQ.out.below hBx)
              have hBxw := onto hB hBx
              have hXS : X ≠ Sb := by omega
              have hRS : R ≠ Sb := by omega
              clear s0 s1 s2 f0 f1 f2 hck HAP hBd bX bR hci
              have x0 := TX.out.box.c (j := 0) rfl
              have x1 := TX.out.box.c (j := 1) rfl
              have x2 := TX.out.box.c (j := 2) rfl
              have b0 := HSx.out.box.c (j := 0) rfl
              have b1 := HSx.out.box.c (j := 1) rfl
              have b2 := HSx.out.box.c (j := 2) rfl
              have fb0 := HSx.out.box.frozen 0
              have fb1 := HSx.out.box.frozen 1
              have fb2 := HSx.out.box.frozen 2
              have r0 := TR.out.c (j := 0) rfl
              have r1 := TR.out.c (j := 1) rfl
              go_upto_region 23 with fail
              have HQy := Lib.hid (qbox_move TX.out HSx.out.box)
              have hBy := gro_set (gro_set (gro_set hBxw 0 (.int .i64 4) hSw) 1 (.int .i64 0) hSw) 2 (.slice Y m.length cY) hSw
              clear x0 x1 x2 b0 b1 b2 fb0 fb1 fb2 r0 r1
              generalize ((Wx.setCell ⟨Sb, 0, none⟩ (.int .i64 4)).setCell ⟨Sb, 1, none⟩ (.int .i64 0)).setCell ⟨Sb, 2, none⟩ (.slice Y m.length cY) = Wy at *
              have gw : IntKind.i64.wrap ((p : Int) + 1 - (q : Int)) = (m.length : Int) := by rw [IntWalk.i64_left, HMQ.out, qlist_len (by omega)]; unfold wrap64; omega
              have hml : m.length ≤ 60 := by rw [HMQ.out, qlist_len (by omega)]; omega
              have HSd := holds_drew1 HQy.out.box
              refine wp_region_noPanic ?_
              refine wp_region_picked [(0, true), (1, true), (2, true), (3, true), (4, true), (5, false), (6, false), (7, true)] (fun W' => Holds W' Sb 24 #[.int .i64 4, .int .i64 0, .slice Y m.length cY]) (by kernel_rfl) (by kernel_rfl) (fun _ _ _ _ _ h => h) HSd ?_
              iterate 5
                refine Picked.take ?_ (by rfl) (by rfl) ?_ ?_
                rotate_left
                · rintro w' h1
                  have v0 := h1.c (j := 0) rfl
                  have v1 := h1.c (j := 1) rfl
                  have v2 := h1.c (j := 2) rfl
                  go_simp
                  try with_reducible rfl
                simp only [Act.put, List.getElem_toArray, List.getElem_cons_zero, List.getElem_cons_succ, List.setIfInBounds_toArray, List.set_cons_zero, List.set_cons_succ]
              refine Picked.call 22 #[.int .i64 (m.length : Int)] (by rfl) (by rfl) (by go_simp) ?_
              have HNU := fun W => number_any (m.length : Int) W
              unfold retV at HNU
              refine (HNU _).mono ?_
              rintro e w7 ⟨rfl, hB7⟩
              have hB7' : Below Wy.heap.size Wy w7 := (Below.refl Wy.heap.size Wy).drew.trans hB7
              have HQ7 := Lib.hid (HQy.out.below hB7')
              refine ⟨_, rfl, HQ7.out.box, ?_⟩
              simp only [Act.put, List.getElem_toArray, List.getElem_cons_zero, List.getElem_cons_succ, List.setIfInBounds_toArray, List.set_cons_zero, List.set_cons_succ]
              have HAL := applies_yes Y Y cY cY m m 12 0 2 m.length w7 (own_ints rfl HQ7.out.row) (by omega) (fun W' h => fapply_len Y cY m W' ((own_ints rfl HQ7.out.row).below h) (by omega))
              unfold stV retV at HAL
              refine Picked.call 21 #[.agg #[.int .i64 4, .int .i64 0, .slice Y m.length cY], .int .i64 12, .int .i64 0, .agg #[.int .i64 4, .int .i64 0, .slice Y m.length cY], .agg #[.int .i64 2, .int .i64 m.length]] (by rfl) (by rfl) (by go_simp) ?_
              refine HAL.mono ?_
              rintro e w8 ⟨rfl, hB8⟩
              have HQ8 := Lib.hid (HQ7.out.below hB8)
              have hBy8 := onto (onto hBy hB7') hB8
              refine ⟨_, rfl, HQ8.out.box, ?_⟩
              simp only [Act.put, List.getElem_toArray, List.getElem_cons_zero, List.getElem_cons_succ, List.setIfInBounds_toArray, List.set_cons_zero, List.set_cons_succ]
              refine Picked.take (.bool false) (by rfl) (by rfl) (fun w' _ => by go_simp) ?_
              simp only [Act.put, List.getElem_toArray, List.getElem_cons_zero, List.getElem_cons_succ, List.setIfInBounds_toArray, List.set_cons_zero, List.set_cons_succ]
              refine NoPanic.normal ?_
              clear HAL HSd HNU
              go_wp2
              exact ⟨⟨i + 1, (p + 1), q, 0, Y, cY, m, by omega, by first | rfl | go_num, by first | rfl | go_num, by go_num, by omega, by omega, HMQ.out, HQ8.out, hBy8⟩, by simp [intOf]; omega⟩
        | false =>
          by_cases hqe : q = p
          · obtain rfl : q = p := hqe
            have d1 : ((q : Int) == (q : Int)) = true := by simp
            have HM1 : Hid (m0 = []) := Lib.hid (by rw [HM0.out, qlist_none])
            have HAD := fapply_deq A1 c1 m0 wr HI.out (by have := HNE.out; omega)
            obtain ⟨m, hm⟩ : ∃ m, fifoL m0 11 0 = m := ⟨_, rfl⟩
            have HMQ : Hid (m = qlist l q q) := Lib.hid (by rw [← hm, HM1.out, qlist_none]; rfl)
            rw [hm, show fifoK m0 11 = 1 by rw [HM1.out]; rfl, show fifoN m0 11 = 0 by rw [HM1.out]; rfl, ← HNE.out] at HAD
            have hkk : ((1 : Int) == 2) = false := rfl
            unfold SetPost stV retV at HAD
            have hsz := hB.size
            clear hm
            go_wp2_with fail
            refine HAD.mono ?_
            rintro e w6 ⟨Y, cY, rfl, ho6, hB6⟩
            have hT := toldq_a (w := w) (k := 1) (r := 0) hB6 ho6 hsz
            have TX : Hid (QBox w.heap.size ((w6.alloc (TstQ Y m.length cY)).alloc (TrtQ 1 0)) w6.heap.size m Y cY) := Lib.hid ⟨(Holds.new _ _ _).alloc _, row_more (row_below (row_below ho6 (alloc1 _ _)) (alloc1 _ _)) hsz⟩
            have TR : Hid (Holds ((w6.alloc (TstQ Y m.length cY)).alloc (TrtQ 1 0)) (w6.heap.size + 1) 28 #[.int .i64 1, .int .i64 0]) := Lib.hid (new_second _ _ _ _)
            have hBx : Below wr.heap.size wr ((w6.alloc (TstQ Y m.length cY)).alloc (TrtQ 1 0)) := gro_alloc (gro_alloc hB6 _) _
            have HSx := Lib.hid (HQ.out.below hBx)
            have hBxw := onto hB hBx
            have hs6 := hB6.size
            have hXS : w6.heap.size ≠ Sb := by omega
            have hRS : w6.heap.size + 1 ≠ Sb := by omega
            clear s0 s1 s2 f0 f1 f2 HAD hT ho6 hci
            go_upto_region 16 with fail
            generalize ((w6.alloc (TstQ Y m.length cY)).alloc (TrtQ 1 0)) = Wx at *
            have x0 := TX.out.box.c (j := 0) rfl
            have x1 := TX.out.box.c (j := 1) rfl
            have x2 := TX.out.box.c (j := 2) rfl
            have b0 := HSx.out.box.c (j := 0) rfl
            have b1 := HSx.out.box.c (j := 1) rfl
            have b2 := HSx.out.box.c (j := 2) rfl
            have fb0 := HSx.out.box.frozen 0
            have fb1 := HSx.out.box.frozen 1
            have fb2 := HSx.out.box.frozen 2
            have r0 := TR.out.c (j := 0) rfl
            have r1 := TR.out.c (j := 1) rfl
            go_upto_region 23 with fail
            have HQy := Lib.hid (qbox_move TX.out HSx.out.box)
            have hBy := gro_set (gro_set (gro_set hBxw 0 (.int .i64 4) hSw) 1 (.int .i64 0) hSw) 2 (.slice Y m.length cY) hSw
            clear x0 x1 x2 b0 b1 b2 fb0 fb1 fb2 r0 r1
            generalize ((Wx.setCell ⟨Sb, 0, none⟩ (.int .i64 4)).setCell ⟨Sb, 1, none⟩ (.int .i64 0)).setCell ⟨Sb, 2, none⟩ (.slice Y m.length cY) = Wy at *
            have gw : IntKind.i64.wrap (0) = (m.length : Int) := by rw [IntWalk.i64_left, HMQ.out, qlist_len (by omega)]; unfold wrap64; omega
            have hml : m.length ≤ 60 := by rw [HMQ.out, qlist_len (by omega)]; omega
            have HSd := holds_drew1 HQy.out.box
            refine wp_region_noPanic ?_
            refine wp_region_picked [(0, true), (1, true), (2, true), (3, true), (4, true), (5, false), (6, false), (7, true)] (fun W' => Holds W' Sb 24 #[.int .i64 4, .int .i64 0, .slice Y m.length cY]) (by kernel_rfl) (by kernel_rfl) (fun _ _ _ _ _ h => h) HSd ?_
            iterate 5
              refine Picked.take ?_ (by rfl) (by rfl) ?_ ?_
              rotate_left
              · rintro w' h1
                have v0 := h1.c (j := 0) rfl
                have v1 := h1.c (j := 1) rfl
                have v2 := h1.c (j := 2) rfl
                go_simp
                try with_reducible rfl
              simp only [Act.put, List.getElem_toArray, List.getElem_cons_zero, List.getElem_cons_succ, List.setIfInBounds_toArray, List.set_cons_zero, List.set_cons_succ]
            refine Picked.call 22 #[.int .i64 (m.length : Int)] (by rfl) (by rfl) (by go_simp) ?_
            have HNU := fun W => number_any (m.length : Int) W
            unfold retV at HNU
            refine (HNU _).mono ?_
            rintro e w7 ⟨rfl, hB7⟩
            have hB7' : Below Wy.heap.size Wy w7 := (Below.refl Wy.heap.size Wy).drew.trans hB7
            have HQ7 := Lib.hid (HQy.out.below hB7')
            refine ⟨_, rfl, HQ7.out.box, ?_⟩
            simp only [Act.put, List.getElem_toArray, List.getElem_cons_zero, List.getElem_cons_succ, List.setIfInBounds_toArray, List.set_cons_zero, List.set_cons_succ]
            have HAL := applies_yes Y Y cY cY m m 12 0 2 m.length w7 (own_ints rfl HQ7.out.row) (by omega) (fun W' h => fapply_len Y cY m W' ((own_ints rfl HQ7.out.row).below h) (by omega))
            unfold stV retV at HAL
            refine Picked.call 21 #[.agg #[.int .i64 4, .int .i64 0, .slice Y m.length cY], .int .i64 12, .int .i64 0, .agg #[.int .i64 4, .int .i64 0, .slice Y m.length cY], .agg #[.int .i64 2, .int .i64 m.length]] (by rfl) (by rfl) (by go_simp) ?_
            refine HAL.mono ?_
            rintro e w8 ⟨rfl, hB8⟩
            have HQ8 := Lib.hid (HQ7.out.below hB8)
            have hBy8 := onto (onto hBy hB7') hB8
            refine ⟨_, rfl, HQ8.out.box, ?_⟩
            simp only [Act.put, List.getElem_toArray, List.getElem_cons_zero, List.getElem_cons_succ, List.setIfInBounds_toArray, List.set_cons_zero, List.set_cons_succ]
            refine Picked.take (.bool false) (by rfl) (by rfl) (fun w' _ => by go_simp) ?_
            simp only [Act.put, List.getElem_toArray, List.getElem_cons_zero, List.getElem_cons_succ, List.setIfInBounds_toArray, List.set_cons_zero, List.set_cons_succ]
            refine NoPanic.normal ?_
            clear HAL HSd HNU
            go_wp2
            exact ⟨⟨i + 1, q, q, 0, Y, cY, m, by omega, by first | rfl | go_num, by first | rfl | go_num, by go_num, by omega, by omega, HMQ.out, HQ8.out, hBy8⟩, by simp [intOf]; omega⟩
          · have hq2 : q < p := by omega
            have hq3 : q < l.length := by omega
            obtain ⟨bl, off, rfl, hbl, hc⟩ := HA.out (by omega)
            obtain ⟨y, hy⟩ : ∃ y, l[q]? = some y := ⟨_, List.getElem?_eq_getElem hq3⟩
            have hck := hc q hq3
            rw [hy] at hck
            have q0 : (0 : Int) ≤ (q : Int) := by omega
            have q1 : (q : Int) < (l.length : Int) := by omega
            have d1 : ((q : Int) == (p : Int)) = false := by simp; omega
            have d2 : decide ((q : Int) < (p : Int)) = true := decide_eq_true (by omega)
            have HM1 : Hid (m0 = y :: qlist l p (q + 1)) := Lib.hid (by rw [HM0.out, qlist_take hq2 hy])
            have HAD := fapply_deq A1 c1 m0 wr HI.out (by have := HNE.out; omega)
            obtain ⟨m, hm⟩ : ∃ m, fifoL m0 11 0 = m := ⟨_, rfl⟩
            have HMQ : Hid (m = qlist l p (q + 1)) := Lib.hid (by rw [← hm, HM1.out]; rfl)
            rw [hm, show fifoK m0 11 = 2 by rw [HM1.out]; rfl, show fifoN m0 11 = y by rw [HM1.out]; rfl, ← HNE.out] at HAD
            have HCK := Lib.hid hck
            clear hc hy hck
            unfold SetPost stV retV at HAD
            have hsz := hB.size
            clear hm
            go_wp2_with fail
            refine HAD.mono ?_
            rintro e w6 ⟨Y, cY, rfl, ho6, hB6⟩
            have hT := toldq_a (w := w) (k := 2) (r := y) hB6 ho6 hsz
            have TX : Hid (QBox w.heap.size ((w6.alloc (TstQ Y m.length cY)).alloc (TrtQ 2 y)) w6.heap.size m Y cY) := Lib.hid ⟨(Holds.new _ _ _).alloc _, row_more (row_below (row_below ho6 (alloc1 _ _)) (alloc1 _ _)) hsz⟩
            have TR : Hid (Holds ((w6.alloc (TstQ Y m.length cY)).alloc (TrtQ 2 y)) (w6.heap.size + 1) 28 #[.int .i64 2, .int .i64 y]) := Lib.hid (new_second _ _ _ _)
            have hBx : Below wr.heap.size wr ((w6.alloc (TstQ Y m.length cY)).alloc (TrtQ 2 y)) := gro_alloc (gro_alloc hB6 _) _
            have HSx := Lib.hid (HQ.out.below hBx)
            have hBxw := onto hB hBx
            have hs6 := hB6.size
            have hXS : w6.heap.size ≠ Sb := by omega
            have hRS : w6.heap.size + 1 ≠ Sb := by omega
            clear s0 s1 s2 f0 f1 f2 HAD hT ho6 hci
            go_upto_region 16 with fail
            generalize ((w6.alloc (TstQ Y m.length cY)).alloc (TrtQ 2 y)) = Wx at *
            have x0 := TX.out.box.c (j := 0) rfl
            have x1 := TX.out.box.c (j := 1) rfl
            have x2 := TX.out.box.c (j := 2) rfl
            have b0 := HSx.out.box.c (j := 0) rfl
            have b1 := HSx.out.box.c (j := 1) rfl
            have b2 := HSx.out.box.c (j := 2) rfl
            have fb0 := HSx.out.box.frozen 0
            have fb1 := HSx.out.box.frozen 1
            have fb2 := HSx.out.box.frozen 2
            have r0 := TR.out.c (j := 0) rfl
            have r1 := TR.out.c (j := 1) rfl
            go_upto_region 20 with fail
            have HQy := Lib.hid (qbox_move TX.out HSx.out.box)
            have hBy := gro_set (gro_set (gro_set hBxw 0 (.int .i64 4) hSw) 1 (.int .i64 0) hSw) 2 (.slice Y m.length cY) hSw
            have hRy : Wx.cell? ⟨w6.heap.size + 1, 1, none⟩ = some (.int .i64 y) := r1
            have TRy := Lib.hid (set_other (b := Sb) (set_other (b := Sb) (set_other (b := Sb) TR.out 0 (.int .i64 4) hRS) 1 (.int .i64 0) hRS) 2 (.slice Y m.length cY) hRS)
            clear hRy
            clear x0 x1 x2 b0 b1 b2 fb0 fb1 fb2 r0 r1
            generalize ((Wx.setCell ⟨Sb, 0, none⟩ (.int .i64 4)).setCell ⟨Sb, 1, none⟩ (.int .i64 0)).setCell ⟨Sb, 2, none⟩ (.slice Y m.length cY) = Wy at *
            have ry := TRy.out.c (j := 1) rfl
            have hcq := cell_kept hBy hbl HCK.out
            refine wp_region_noPanic ?_
            refine wp_region_picked [(0, true), (1, true), (2, true), (3, true), (4, true), (5, true), (6, true)] (fun W' => W'.cell? ⟨w6.heap.size + 1, 1, none⟩ = some (.int .i64 y) ∧ W'.cell? ⟨bl, off + q, none⟩ = some (.int .i64 y)) (by kernel_rfl) (by kernel_rfl) (fun _ _ _ _ _ h => h) ⟨ry, hcq⟩ ?_
            iterate 7
              refine Picked.take ?_ (by rfl) (by rfl) ?_ ?_
              rotate_left
              · rintro w' ⟨h1, h2⟩
                go_simp
                try with_reducible rfl
              simp only [Act.put, List.getElem_toArray, List.getElem_cons_zero, List.getElem_cons_succ, List.setIfInBounds_toArray, List.set_cons_zero, List.set_cons_succ]
            refine NoPanic.normal ?_
            go_upto_region 23 with fail
            replace HQy : Hid (QBox w.heap.size Wy.drew Sb m Y cY) := Lib.hid (HQy.out.below ((Below.refl _ _).drew))
            replace hBy := hBy.drew
            clear ry hcq TRy
            generalize Wy.drew = Wy at *
            have gw : IntKind.i64.wrap ((p : Int) - ((q : Int) + 1)) = (m.length : Int) := by rw [IntWalk.i64_left, HMQ.out, qlist_len (by omega)]; unfold wrap64; omega
            have hml : m.length ≤ 60 := by rw [HMQ.out, qlist_len (by omega)]; omega
            have HSd := holds_drew1 HQy.out.box
            refine wp_region_noPanic ?_
            refine wp_region_picked [(0, true), (1, true), (2, true), (3, true), (4, true), (5, false), (6, false), (7, true)] (fun W' => Holds W' Sb 24 #[.int .i64 4, .int .i64 0, .slice Y m.length cY]) (by kernel_rfl) (by kernel_rfl) (fun _ _ _ _ _ h => h) HSd ?_
            iterate 5
              refine Picked.take ?_ (by rfl) (by rfl) ?_ ?_
              rotate_left
              · rintro w' h1
                have v0 := h1.c (j := 0) rfl
                have v1 := h1.c (j := 1) rfl
                have v2 := h1.c (j := 2) rfl
                go_simp
                try with_reducible rfl
              simp only [Act.put, List.getElem_toArray, List.getElem_cons_zero, List.getElem_cons_succ, List.setIfInBounds_toArray, List.set_cons_zero, List.set_cons_succ]
            refine Picked.call 22 #[.int .i64 (m.length : Int)] (by rfl) (by rfl) (by go_simp) ?_
            have HNU := fun W => number_any (m.length : Int) W
            unfold retV at HNU
            refine (HNU _).mono ?_
            rintro e w7 ⟨rfl, hB7⟩
            have hB7' : Below Wy.heap.size Wy w7 := (Below.refl Wy.heap.size Wy).drew.trans hB7
            have HQ7 := Lib.hid (HQy.out.below hB7')
            refine ⟨_, rfl, HQ7.out.box, ?_⟩
            simp only [Act.put, List.getElem_toArray, List.getElem_cons_zero, List.getElem_cons_succ, List.setIfInBounds_toArray, List.set_cons_zero, List.set_cons_succ]
            have HAL := applies_yes Y Y cY cY m m 12 0 2 m.length w7 (own_ints rfl HQ7.out.row) (by omega) (fun W' h => fapply_len Y cY m W' ((own_ints rfl HQ7.out.row).below h) (by omega))
            unfold stV retV at HAL
            refine Picked.call 21 #[.agg #[.int .i64 4, .int .i64 0, .slice Y m.length cY], .int .i64 12, .int .i64 0, .agg #[.int .i64 4, .int .i64 0, .slice Y m.length cY], .agg #[.int .i64 2, .int .i64 m.length]] (by rfl) (by rfl) (by go_simp) ?_
            refine HAL.mono ?_
            rintro e w8 ⟨rfl, hB8⟩
            have HQ8 := Lib.hid (HQ7.out.below hB8)
            have hBy8 := onto (onto hBy hB7') hB8
            refine ⟨_, rfl, HQ8.out.box, ?_⟩
            simp only [Act.put, List.getElem_toArray, List.getElem_cons_zero, List.getElem_cons_succ, List.setIfInBounds_toArray, List.set_cons_zero, List.set_cons_succ]
            refine Picked.take (.bool false) (by rfl) (by rfl) (fun w' _ => by go_simp) ?_
            simp only [Act.put, List.getElem_toArray, List.getElem_cons_zero, List.getElem_cons_succ, List.setIfInBounds_toArray, List.set_cons_zero, List.set_cons_succ]
            refine NoPanic.normal ?_
            clear HAL HSd HNU
            go_wp2
            exact ⟨⟨i + 1, p, (q + 1), 0, Y, cY, m, by omega, by first | rfl | go_num, by first | rfl | go_num, by go_num, by omega, by omega, HMQ.out, HQ8.out, hBy8⟩, by simp [intOf]; omega⟩
      · have HD := drainq_yes A1 c1 m0 wr HI.out (by have := HNE.out; omega)
        rw [← HNE.out] at HD
        have hb := stV
        clear hb
        unfold DrainPost stV at HD
        rw [← HNE.out] at HD
        have k1 : (q : Int) ≤ (p : Int) := by omega
        have k2 : (p : Int) ≤ (c : Int) := by omega
        have k3 : (0 : Int) ≤ (q : Int) := by omega
        go_wp2_with fail
        refine HD.mono ?_
        rintro e w6 ⟨A2, c2, rfl, ho6, hB6⟩
        have hC6 := onto hB hB6
        have HI6 := Lib.hid (own_ints HNE.out.symm ho6)
        have hI7 : Ints w6 (subA A c q) (qlist l p q) := (ints_drop (ints_take HA.out p) c q (by rw [List.length_take]; omega)).below hC6
        have HSI := sameints_any A2 (subA A c q) c2 (c - q) m0 (qlist l p q) w6 HI6.out hI7 (by have := HNE.out; omega)
        rw [qlist_len hpl, ← HNE.out, show (m0 == qlist l p q) = true by rw [HM0.out]; simp] at HSI
        have HN := Lib.hid hn1
        clear hI7 ho6 HD s0 s1 s2 f0 f1 f2
        by_cases hcq : c = q
        · have e1 : subA A c q = A := by unfold subA; rw [if_pos hcq]
          have e2 : c - q = 0 := by omega
          rw [e1, e2] at HSI
          clear e1 e2
          go_wp2_with fail
          refine HSI.mono ?_
          rintro e w7 ⟨rfl, hB7⟩
          go_wp2
          go_ret
          exact ⟨rfl, onto hC6 hB7⟩
        · have e1 : subA A c q = A.map (·.add q) := by unfold subA; rw [if_neg hcq]
          rw [e1] at HSI
          clear e1
          go_wp2_with fail
          refine HSI.mono ?_
          rintro e w7 ⟨rfl, hB7⟩
          go_wp2
          go_ret
          exact ⟨rfl, onto hC6 hB7⟩
end Go.Proofs.Ythnaogdiiflljaa
