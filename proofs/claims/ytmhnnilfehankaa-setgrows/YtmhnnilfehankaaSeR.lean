/- SetGrows. (Written by wip/tools/gen_ser.py.) -/
import Derived.Test.YtmhnnilfehankaaSeQ
import Derived.Deep.Cut
namespace Go.Proofs.Ytmhnnilfehankaa
open Go.RowKit Go.Maps
set_option linter.unusedVariables false

set_option maxRecDepth 100000 in
set_option maxHeartbeats 4000000 in
theorem grows_law (A : Option Addr) (c : Nat) (l : List Int) (w : World) (hA : Ints w A l) (hm : l.length ≤ maxLen) :
    Calls Try.prog 7 #[.slice A l.length c] w (Yes w) := by
  unfold maxLen at hm
  by_cases hl : 60 < l.length
  · go_enter Try.func7, Try.ntmps7
    go_wp2_with fail
    refine (known_all _).mono ?_
    rintro e w1 ⟨rfl, hB1⟩
    go_wp2
    go_ret
    exact ⟨rfl, hB1⟩
  · have HA := Lib.hid hA
    clear hA
    go_enter Try.func7, Try.ntmps7
    go_wp2_with fail
    refine (known_all _).mono ?_
    rintro e w1 ⟨rfl, hB1⟩
    go_wp2_with fail
    refine (of_any _ _ _ _).mono ?_
    rintro e w2 ⟨rfl, hB2⟩
    have hC2 := onto hB1 hB2
    go_wp2_with fail
    refine (of_any _ _ _ _).mono ?_
    rintro e w3 ⟨rfl, hB3⟩
    have hC3 := onto hC2 hB3
    unfold stV
    have hB3a : Below w3.heap.size w3 ((w3.alloc (.cells #[.int .i64 2, .int .i64 0, .slice none 0 0] 24)).alloc (.cells #[.int .i64 2, .int .i64 0, .slice none 0 0] 24)) := (alloc1 w3 _).alloc (by simp) _
    have hC4 := onto hC3 hB3a
    have G4 : Grow w w3.heap.size l 0 ((w3.alloc (.cells #[.int .i64 2, .int .i64 0, .slice none 0 0] 24)).alloc (.cells #[.int .i64 2, .int .i64 0, .slice none 0 0] 24)) := ⟨none, none, 0, 0, ⟨(Holds.new w3 _ _).alloc _, World.ownsRow_nil _ _ _ _⟩, ⟨new_second _ _ _ _, World.ownsRow_nil _ _ _ _⟩, hC4⟩
    have hw3 := hC3.size
    go_wp2_with fail
    generalize (w3.alloc (.cells #[.int .i64 2, .int .i64 0, .slice none 0 0] 24)).alloc (.cells #[.int .i64 2, .int .i64 0, .slice none 0 0] 24) = W4 at *
    go_loopw [6, 7] (fun s6 i wr => ∃ (k n : Nat), k ≤ l.length ∧ i = .int .i64 k ∧ s6 = .int .i64 n ∧ n = (risL (l.take k)).length ∧ Grow w w3.heap.size l k wr) (fun s6 i wr => l.length - (intOf i).toNat)
    case atStart => exact ⟨0, 0, Nat.zero_le _, rfl, rfl, rfl, G4⟩
    case round =>
      obtain ⟨k, n, hk, rfl, rfl, hn, A1, A2, c1, c2, hS, hT, hB⟩ := hrel
      have HN := Lib.hid hn
      have HS := Lib.hid hS
      have HT := Lib.hid hT
      have HB := Lib.hid hB
      clear hn hS hT
      by_cases hlt : k < l.length
      · obtain ⟨bl, off, rfl, hbl, hc⟩ := HA.out (by omega)
        have hck := (hB.cell (p := ⟨bl, off + k, none⟩) hbl).trans (hc k hlt)
        obtain ⟨x, hx⟩ : ∃ x, l[k]?.getD 0 = x := ⟨_, rfl⟩
        rw [hx] at hck
        obtain ⟨j, hj⟩ : ∃ j, j = l.length - 1 - k := ⟨_, rfl⟩
        have hcj := hc j (by omega)
        obtain ⟨y, hy⟩ : ∃ y, l[j]?.getD 0 = y := ⟨_, rfl⟩
        rw [hy] at hcj
        have hyr : l.reverse[k]?.getD 0 = y := by rw [rev_at l k hlt, ← hj, hy]
        obtain ⟨l1, hl1⟩ : ∃ l1 : Nat, l1 = l.length - 1 := ⟨_, rfl⟩
        have hw1 : IntKind.i64.wrap ((l.length : Int) - 1) = (l1 : Int) := by rw [IntKind.wrap_i64]; omega
        have hw2 : IntKind.i64.wrap ((l1 : Int) - (k : Int)) = (j : Int) := by rw [IntKind.wrap_i64]; omega
        have hk0 : (0 : Int) ≤ (k : Int) := by omega
        have hk1 : (k : Int) < (l.length : Int) := by omega
        have hj0 : (0 : Int) ≤ (j : Int) := by omega
        have hj1 : (j : Int) < (l.length : Int) := by omega
        have q2 : decide (k < l.length) = true := decide_eq_true hlt
        have s0 := HS.out.box.c (j := 0) rfl
        have s1 := HS.out.box.c (j := 1) rfl
        have s2 := HS.out.box.c (j := 2) rfl
        have hln := ris_len (l.take k)
        have hln2 := ris_len (l.reverse.take k)
        rw [List.length_take] at hln hln2
        have h1 := ris_snoc l k hlt
        have h2 := ris_snoc l.reverse k (by rw [List.length_reverse]; exact hlt)
        rw [hx] at h1
        rw [hyr] at h2
        have HAP := fun W (h : Below wr.heap.size wr W) => sapply_insert A1 c1 (risL (l.take k)) x W ((own_ints rfl HS.out.row).below h) (by omega) (row_fit HS.out.row) (ris_rise _)
        have HAQ := fun W (h : Below wr.heap.size wr W) => sapply_insert A2 c2 (risL (l.reverse.take k)) y W ((own_ints rfl HT.out.row).below h) (by omega) (row_fit HT.out.row) (ris_rise _)
        have hnn := len_with_int (risL (l.take k)) x
        have hone : one (!isIn (risL (l.take k)) x) = 0 ∨ one (!isIn (risL (l.take k)) x) = 1 := by unfold one; split <;> simp
        rw [← h1] at HAP hnn
        rw [← h2] at HAQ
        have hln3 := ris_len (l.take (k + 1))
        rw [List.length_take] at hln3
        have HN1 := HN.out
        obtain ⟨sa, hsa⟩ : ∃ sa, risL (l.take k) = sa := ⟨_, rfl⟩
        obtain ⟨sb, hsb⟩ : ∃ sb, risL (l.reverse.take k) = sb := ⟨_, rfl⟩
        obtain ⟨m, hmw⟩ : ∃ m, risL (l.take (k + 1)) = m := ⟨_, rfl⟩
        obtain ⟨m2, hmw2⟩ : ∃ m2, risL (l.reverse.take (k + 1)) = m2 := ⟨_, rfl⟩
        rw [hsa] at s2 HAP HS hnn hone HN1
        rw [hmw] at HAP hnn hln3
        obtain ⟨r, hrr⟩ : ∃ r, one (!isIn sa x) = r := ⟨_, rfl⟩
        obtain ⟨r2, hrr2⟩ : ∃ r2, one (!isIn sb y) = r2 := ⟨_, rfl⟩
        rw [hrr] at HAP hnn hone
        rw [hsb, hmw2, hrr2] at HAQ
        rw [hsb] at HT
        unfold SetPost stV retV at HAP HAQ
        have hr0 : 0 ≤ r := by omega
        have hr1 : r ≤ 1 := by omega
        have HNN := Lib.hid (show (n : Int) + r = (m.length : Int) by omega)
        have HMW := Lib.hid hmw
        have HMW2 := Lib.hid hmw2
        have hmlen : m.length ≤ 60 := by omega
        clear hx hc hl1 hsa hmw hmw2 hrr hrr2 hln hln2 hln3 hj hy hyr h1 h2 hnn hone HN1 hsb HN
        have hbw : bl < wr.heap.size := by have := hB.size; omega
        have hsw := HS.out.box.lt
        have htw := HT.out.box.lt
        have HSZ := Lib.hid hB.size
        have hBd : Below wr.heap.size wr wr.drew := (Below.refl _ wr).drew
        go_wp2_with fail
        go_cut [8, 9, 10] from 30 to 39 (fun s8 s9 s10 wx => s10 = .int .i64 0 ∧ Told w wr m r s8 s9 wx)
        case first =>
          have HKS := Lib.hid (show ∀ W', Below wr.heap.size wr W' → (W'.cell? ⟨w3.heap.size, 0, none⟩ = some (.int .i64 2) ∧ W'.cell? ⟨w3.heap.size, 1, none⟩ = some (.int .i64 0) ∧ W'.cell? ⟨w3.heap.size, 2, none⟩ = some (.slice A1 sa.length c1) ∧ W'.cell? ⟨bl, off + k, none⟩ = some (.int .i64 x)) from fun W' h => ⟨(h.cell (p := ⟨w3.heap.size, 0, none⟩) hsw).trans s0, (h.cell (p := ⟨w3.heap.size, 1, none⟩) hsw).trans s1, (h.cell (p := ⟨w3.heap.size, 2, none⟩) hsw).trans s2, (h.cell (p := ⟨bl, off + k, none⟩) hbw).trans hck⟩)
          go_region_held3 (fun w' => w'.cell? ⟨w3.heap.size, 0, none⟩ = some (.int .i64 2) ∧ w'.cell? ⟨w3.heap.size, 1, none⟩ = some (.int .i64 0) ∧ w'.cell? ⟨w3.heap.size, 2, none⟩ = some (.slice A1 sa.length c1) ∧ w'.cell? ⟨bl, off + k, none⟩ = some (.int .i64 x)) (first | exact HKS.out _ (by repeat (first | (with_reducible exact hBd) | (with_reducible exact hB6w) | (with_reducible exact Below.refl _ _) | (with_reducible refine Below.drew ?_) | (with_reducible refine gro_alloc ?_ _) | ((with_reducible refine gro_set ?_ _ _ ?hb); case hb => omega))) | go_keep) (first | (go_at_call 10; refine (HAP _ (by repeat (first | (with_reducible exact hBd) | (with_reducible exact hB6w) | (with_reducible exact Below.refl _ _) | (with_reducible refine Below.drew ?_) | (with_reducible refine gro_alloc ?_ _) | ((with_reducible refine gro_set ?_ _ _ ?hb); case hb => omega)))).mono ?_; rintro e w6 ⟨Y6, c6, rfl, ho6, hB6⟩; have hs6 := hB6.size; (try simp at hs6); have hB6w : Below wr.heap.size wr w6 := onto (by repeat (first | (with_reducible exact hBd) | (with_reducible exact hB6w) | (with_reducible exact Below.refl _ _) | (with_reducible refine Below.drew ?_) | (with_reducible refine gro_alloc ?_ _) | ((with_reducible refine gro_set ?_ _ _ ?hb); case hb => omega))) hB6; have hsz := HSZ.out; replace ho6 := row_more (b' := w.heap.size) ho6 (by simp <;> omega); clear hsz; first | ((with_reducible have hB7 : Below ((wr.alloc (.cells #[.int .i64 0, .int .i64 0, .slice none 0 0] 24)).alloc (.cells #[.int .i64 0, .int .i64 0] 28)).drew.heap.size ((wr.alloc (.cells #[.int .i64 0, .int .i64 0, .slice none 0 0] 24)).alloc (.cells #[.int .i64 0, .int .i64 0] 28)).drew w6 := hB6); have hX6 : Holds w6 wr.heap.size 24 #[.int .i64 0, .int .i64 0, .slice none 0 0] := (Holds.of (W' := ((wr.alloc (.cells #[.int .i64 0, .int .i64 0, .slice none 0 0] 24)).alloc (.cells #[.int .i64 0, .int .i64 0] 28)).drew) ((Holds.new wr 24 #[.int .i64 0, .int .i64 0, .slice none 0 0]).alloc (.cells #[.int .i64 0, .int .i64 0] 28)) rfl).below hB7 (by simp <;> omega); have hR6 : Holds w6 (wr.heap.size + 1) 28 #[.int .i64 0, .int .i64 0] := (Holds.of (W' := ((wr.alloc (.cells #[.int .i64 0, .int .i64 0, .slice none 0 0] 24)).alloc (.cells #[.int .i64 0, .int .i64 0] 28)).drew) (new_second wr (.cells #[.int .i64 0, .int .i64 0, .slice none 0 0] 24) 28 #[.int .i64 0, .int .i64 0]) rfl).below hB7 (by simp <;> omega); have ax0 := hX6.c (j := 0) rfl; have ax1 := hX6.c (j := 1) rfl; have ax2 := hX6.c (j := 2) rfl; have fx0 := hX6.frozen 0; have fx1 := hX6.frozen 1; have fx2 := hX6.frozen 2; have ar0 := hR6.c (j := 0) rfl; have ar1 := hR6.c (j := 1) rfl; have fr0 := hR6.frozen 0; have fr1 := hR6.frozen 1; have ne1 : wr.heap.size ≠ wr.heap.size + 1 := (by omega)) | ((with_reducible have hB7 : Below ((wr.alloc (.cells #[.int .i64 0, .int .i64 0] 28)).alloc (.cells #[.int .i64 0, .int .i64 0, .slice none 0 0] 24)).drew.heap.size ((wr.alloc (.cells #[.int .i64 0, .int .i64 0] 28)).alloc (.cells #[.int .i64 0, .int .i64 0, .slice none 0 0] 24)).drew w6 := hB6); have hR6 : Holds w6 wr.heap.size 28 #[.int .i64 0, .int .i64 0] := (Holds.of (W' := ((wr.alloc (.cells #[.int .i64 0, .int .i64 0] 28)).alloc (.cells #[.int .i64 0, .int .i64 0, .slice none 0 0] 24)).drew) ((Holds.new wr 28 #[.int .i64 0, .int .i64 0]).alloc (.cells #[.int .i64 0, .int .i64 0, .slice none 0 0] 24)) rfl).below hB7 (by simp <;> omega); have hX6 : Holds w6 (wr.heap.size + 1) 24 #[.int .i64 0, .int .i64 0, .slice none 0 0] := (Holds.of (W' := ((wr.alloc (.cells #[.int .i64 0, .int .i64 0] 28)).alloc (.cells #[.int .i64 0, .int .i64 0, .slice none 0 0] 24)).drew) (new_second wr (.cells #[.int .i64 0, .int .i64 0] 28) 24 #[.int .i64 0, .int .i64 0, .slice none 0 0]) rfl).below hB7 (by simp <;> omega); have ax0 := hX6.c (j := 0) rfl; have ax1 := hX6.c (j := 1) rfl; have ax2 := hX6.c (j := 2) rfl; have fx0 := hX6.frozen 0; have fx1 := hX6.frozen 1; have fx2 := hX6.frozen 2; have ar0 := hR6.c (j := 0) rfl; have ar1 := hR6.c (j := 1) rfl; have fr0 := hR6.frozen 0; have fr1 := hR6.frozen 1; have ne1 : wr.heap.size ≠ wr.heap.size + 1 := (by omega)) | ((with_reducible have hB7 : Below (wr.alloc (.cells #[.int .i64 0, .int .i64 0, .slice none 0 0] 24)).drew.heap.size (wr.alloc (.cells #[.int .i64 0, .int .i64 0, .slice none 0 0] 24)).drew w6 := hB6); have hX6 : Holds w6 wr.heap.size 24 #[.int .i64 0, .int .i64 0, .slice none 0 0] := (Holds.of (W' := (wr.alloc (.cells #[.int .i64 0, .int .i64 0, .slice none 0 0] 24)).drew) (Holds.new wr 24 #[.int .i64 0, .int .i64 0, .slice none 0 0]) rfl).below hB7 (by simp <;> omega); have ax0 := hX6.c (j := 0) rfl; have ax1 := hX6.c (j := 1) rfl; have ax2 := hX6.c (j := 2) rfl; have fx0 := hX6.frozen 0; have fx1 := hX6.frozen 1; have fx2 := hX6.frozen 2; have gX0 := (hX6.alloc (.cells #[.int .i64 0, .int .i64 0] 28)).c (j := 0) rfl; have geX0 := (hX6.alloc (.cells #[.int .i64 0, .int .i64 0] 28)).frozen 0; have gX1 := (hX6.alloc (.cells #[.int .i64 0, .int .i64 0] 28)).c (j := 1) rfl; have geX1 := (hX6.alloc (.cells #[.int .i64 0, .int .i64 0] 28)).frozen 1; have gX2 := (hX6.alloc (.cells #[.int .i64 0, .int .i64 0] 28)).c (j := 2) rfl; have geX2 := (hX6.alloc (.cells #[.int .i64 0, .int .i64 0] 28)).frozen 2; have hs7 : wr.heap.size + 1 ≤ w6.heap.size := (by simpa using hB6.size); have ne1 : wr.heap.size ≠ w6.heap.size := (by omega); have ne2 : w6.heap.size ≠ wr.heap.size := (by omega)) | ((with_reducible have hB7 : Below (wr.alloc (.cells #[.int .i64 0, .int .i64 0] 28)).drew.heap.size (wr.alloc (.cells #[.int .i64 0, .int .i64 0] 28)).drew w6 := hB6); have hR6 : Holds w6 wr.heap.size 28 #[.int .i64 0, .int .i64 0] := (Holds.of (W' := (wr.alloc (.cells #[.int .i64 0, .int .i64 0] 28)).drew) (Holds.new wr 28 #[.int .i64 0, .int .i64 0]) rfl).below hB7 (by simp <;> omega); have ar0 := hR6.c (j := 0) rfl; have ar1 := hR6.c (j := 1) rfl; have fr0 := hR6.frozen 0; have fr1 := hR6.frozen 1; have gR0 := (hR6.alloc (.cells #[.int .i64 0, .int .i64 0, .slice none 0 0] 24)).c (j := 0) rfl; have geR0 := (hR6.alloc (.cells #[.int .i64 0, .int .i64 0, .slice none 0 0] 24)).frozen 0; have gR1 := (hR6.alloc (.cells #[.int .i64 0, .int .i64 0, .slice none 0 0] 24)).c (j := 1) rfl; have geR1 := (hR6.alloc (.cells #[.int .i64 0, .int .i64 0, .slice none 0 0] 24)).frozen 1; have qR0 := (hR6.alloc (.cells #[.int .i64 2, .int .i64 0, .slice Y6 m.length c6] 24)).c (j := 0) rfl; have qeR0 := (hR6.alloc (.cells #[.int .i64 2, .int .i64 0, .slice Y6 m.length c6] 24)).frozen 0; have qR1 := (hR6.alloc (.cells #[.int .i64 2, .int .i64 0, .slice Y6 m.length c6] 24)).c (j := 1) rfl; have qeR1 := (hR6.alloc (.cells #[.int .i64 2, .int .i64 0, .slice Y6 m.length c6] 24)).frozen 1; have hs7 : wr.heap.size + 1 ≤ w6.heap.size := (by simpa using hB6.size); have ne1 : wr.heap.size ≠ w6.heap.size := (by omega); have ne2 : w6.heap.size ≠ wr.heap.size := (by omega)) | skip))
          all_goals go_wp2_with fail
          all_goals go_meet
          all_goals first | (with_reducible exact ⟨rfl, told_a hB6w ho6 (Nat.le_refl _)⟩) | (with_reducible exact ⟨rfl, told_b hB6w ho6 (Nat.le_refl _)⟩) | (with_reducible exact ⟨rfl, told_c hB6w ho6 (Nat.le_refl _) hX6⟩) | (with_reducible exact ⟨rfl, told_e hB6w ho6 (Nat.le_refl _) hR6⟩) | (with_reducible exact ⟨rfl, told_sets hX6 hR6 (by omega) ho6 (by omega) (by omega) hB6w⟩)
        case rest =>
          obtain ⟨rfl, X, R, Y, cY, rfl, rfl, hX, hR, bX, bR, hBx⟩ := hcut
          obtain ⟨Wx, rfl⟩ : ∃ Wx, Wx = wc := ⟨_, rfl⟩
          have TX := Lib.hid bX
          have TR := Lib.hid bR
          have HTx := Lib.hid (HT.out.below hBx)
          have HSx := Lib.hid (HS.out.below hBx)
          have hBxw := onto hB hBx
          have HAQ1 := fun W (h : Below Wx.heap.size Wx W) => HAQ W (onto hBx h)
          have t0 := HTx.out.box.c (j := 0) rfl
          have t1 := HTx.out.box.c (j := 1) rfl
          have t2 := HTx.out.box.c (j := 2) rfl
          have hcx : Wx.cell? ⟨bl, off + j, none⟩ = some (.int .i64 y) := (hBxw.cell (p := ⟨bl, off + j, none⟩) hbl).trans hcj
          have hbw2 : bl < Wx.heap.size := by have := hBx.size; omega
          have htw2 := HTx.out.box.lt
          have HSZ2 := Lib.hid hBxw.size
          have hBd2 : Below Wx.heap.size Wx Wx.drew := (Below.refl _ Wx).drew
          have hXl := TX.out.box.lt
          have hRl := TR.out.lt
          clear s0 s1 s2 hck HAP HAQ hBd bX bR
          go_wp2_with fail
          go_cut [11, 12, 13] from 40 to 53 (fun s8 s9 s10 wx => s10 = .int .i64 0 ∧ Told w Wx m2 r2 s8 s9 wx)
          case first =>
            have HKS := Lib.hid (show ∀ W', Below Wx.heap.size Wx W' → (W'.cell? ⟨w3.heap.size + 1, 0, none⟩ = some (.int .i64 2) ∧ W'.cell? ⟨w3.heap.size + 1, 1, none⟩ = some (.int .i64 0) ∧ W'.cell? ⟨w3.heap.size + 1, 2, none⟩ = some (.slice A2 sb.length c2) ∧ W'.cell? ⟨bl, off + j, none⟩ = some (.int .i64 y)) from fun W' h => ⟨(h.cell (p := ⟨w3.heap.size + 1, 0, none⟩) htw2).trans t0, (h.cell (p := ⟨w3.heap.size + 1, 1, none⟩) htw2).trans t1, (h.cell (p := ⟨w3.heap.size + 1, 2, none⟩) htw2).trans t2, (h.cell (p := ⟨bl, off + j, none⟩) hbw2).trans hcx⟩)
            go_region_held3 (fun w' => w'.cell? ⟨w3.heap.size + 1, 0, none⟩ = some (.int .i64 2) ∧ w'.cell? ⟨w3.heap.size + 1, 1, none⟩ = some (.int .i64 0) ∧ w'.cell? ⟨w3.heap.size + 1, 2, none⟩ = some (.slice A2 sb.length c2) ∧ w'.cell? ⟨bl, off + j, none⟩ = some (.int .i64 y)) (first | exact HKS.out _ (by repeat (first | (with_reducible exact hBd2) | (with_reducible exact hB6w) | (with_reducible exact Below.refl _ _) | (with_reducible refine Below.drew ?_) | (with_reducible refine gro_alloc ?_ _) | ((with_reducible refine gro_set ?_ _ _ ?hb); case hb => omega))) | go_keep) (first | (go_at_call 10; refine (HAQ1 _ (by repeat (first | (with_reducible exact hBd2) | (with_reducible exact hB6w) | (with_reducible exact Below.refl _ _) | (with_reducible refine Below.drew ?_) | (with_reducible refine gro_alloc ?_ _) | ((with_reducible refine gro_set ?_ _ _ ?hb); case hb => omega)))).mono ?_; rintro e w6 ⟨Y6, c6, rfl, ho6, hB6⟩; have hs6 := hB6.size; (try simp at hs6); have hB6w : Below Wx.heap.size Wx w6 := onto (by repeat (first | (with_reducible exact hBd2) | (with_reducible exact hB6w) | (with_reducible exact Below.refl _ _) | (with_reducible refine Below.drew ?_) | (with_reducible refine gro_alloc ?_ _) | ((with_reducible refine gro_set ?_ _ _ ?hb); case hb => omega))) hB6; have hsz := HSZ2.out; replace ho6 := row_more (b' := w.heap.size) ho6 (by simp <;> omega); clear hsz; first | ((with_reducible have hB7 : Below ((Wx.alloc (.cells #[.int .i64 0, .int .i64 0, .slice none 0 0] 24)).alloc (.cells #[.int .i64 0, .int .i64 0] 28)).drew.heap.size ((Wx.alloc (.cells #[.int .i64 0, .int .i64 0, .slice none 0 0] 24)).alloc (.cells #[.int .i64 0, .int .i64 0] 28)).drew w6 := hB6); have hX6 : Holds w6 Wx.heap.size 24 #[.int .i64 0, .int .i64 0, .slice none 0 0] := (Holds.of (W' := ((Wx.alloc (.cells #[.int .i64 0, .int .i64 0, .slice none 0 0] 24)).alloc (.cells #[.int .i64 0, .int .i64 0] 28)).drew) ((Holds.new Wx 24 #[.int .i64 0, .int .i64 0, .slice none 0 0]).alloc (.cells #[.int .i64 0, .int .i64 0] 28)) rfl).below hB7 (by simp <;> omega); have hR6 : Holds w6 (Wx.heap.size + 1) 28 #[.int .i64 0, .int .i64 0] := (Holds.of (W' := ((Wx.alloc (.cells #[.int .i64 0, .int .i64 0, .slice none 0 0] 24)).alloc (.cells #[.int .i64 0, .int .i64 0] 28)).drew) (new_second Wx (.cells #[.int .i64 0, .int .i64 0, .slice none 0 0] 24) 28 #[.int .i64 0, .int .i64 0]) rfl).below hB7 (by simp <;> omega); have ax0 := hX6.c (j := 0) rfl; have ax1 := hX6.c (j := 1) rfl; have ax2 := hX6.c (j := 2) rfl; have fx0 := hX6.frozen 0; have fx1 := hX6.frozen 1; have fx2 := hX6.frozen 2; have ar0 := hR6.c (j := 0) rfl; have ar1 := hR6.c (j := 1) rfl; have fr0 := hR6.frozen 0; have fr1 := hR6.frozen 1; have ne1 : Wx.heap.size ≠ Wx.heap.size + 1 := (by omega)) | ((with_reducible have hB7 : Below ((Wx.alloc (.cells #[.int .i64 0, .int .i64 0] 28)).alloc (.cells #[.int .i64 0, .int .i64 0, .slice none 0 0] 24)).drew.heap.size ((Wx.alloc (.cells #[.int .i64 0, .int .i64 0] 28)).alloc (.cells #[.int .i64 0, .int .i64 0, .slice none 0 0] 24)).drew w6 := hB6); have hR6 : Holds w6 Wx.heap.size 28 #[.int .i64 0, .int .i64 0] := (Holds.of (W' := ((Wx.alloc (.cells #[.int .i64 0, .int .i64 0] 28)).alloc (.cells #[.int .i64 0, .int .i64 0, .slice none 0 0] 24)).drew) ((Holds.new Wx 28 #[.int .i64 0, .int .i64 0]).alloc (.cells #[.int .i64 0, .int .i64 0, .slice none 0 0] 24)) rfl).below hB7 (by simp <;> omega); have hX6 : Holds w6 (Wx.heap.size + 1) 24 #[.int .i64 0, .int .i64 0, .slice none 0 0] := (Holds.of (W' := ((Wx.alloc (.cells #[.int .i64 0, .int .i64 0] 28)).alloc (.cells #[.int .i64 0, .int .i64 0, .slice none 0 0] 24)).drew) (new_second Wx (.cells #[.int .i64 0, .int .i64 0] 28) 24 #[.int .i64 0, .int .i64 0, .slice none 0 0]) rfl).below hB7 (by simp <;> omega); have ax0 := hX6.c (j := 0) rfl; have ax1 := hX6.c (j := 1) rfl; have ax2 := hX6.c (j := 2) rfl; have fx0 := hX6.frozen 0; have fx1 := hX6.frozen 1; have fx2 := hX6.frozen 2; have ar0 := hR6.c (j := 0) rfl; have ar1 := hR6.c (j := 1) rfl; have fr0 := hR6.frozen 0; have fr1 := hR6.frozen 1; have ne1 : Wx.heap.size ≠ Wx.heap.size + 1 := (by omega)) | ((with_reducible have hB7 : Below (Wx.alloc (.cells #[.int .i64 0, .int .i64 0, .slice none 0 0] 24)).drew.heap.size (Wx.alloc (.cells #[.int .i64 0, .int .i64 0, .slice none 0 0] 24)).drew w6 := hB6); have hX6 : Holds w6 Wx.heap.size 24 #[.int .i64 0, .int .i64 0, .slice none 0 0] := (Holds.of (W' := (Wx.alloc (.cells #[.int .i64 0, .int .i64 0, .slice none 0 0] 24)).drew) (Holds.new Wx 24 #[.int .i64 0, .int .i64 0, .slice none 0 0]) rfl).below hB7 (by simp <;> omega); have ax0 := hX6.c (j := 0) rfl; have ax1 := hX6.c (j := 1) rfl; have ax2 := hX6.c (j := 2) rfl; have fx0 := hX6.frozen 0; have fx1 := hX6.frozen 1; have fx2 := hX6.frozen 2; have gX0 := (hX6.alloc (.cells #[.int .i64 0, .int .i64 0] 28)).c (j := 0) rfl; have geX0 := (hX6.alloc (.cells #[.int .i64 0, .int .i64 0] 28)).frozen 0; have gX1 := (hX6.alloc (.cells #[.int .i64 0, .int .i64 0] 28)).c (j := 1) rfl; have geX1 := (hX6.alloc (.cells #[.int .i64 0, .int .i64 0] 28)).frozen 1; have gX2 := (hX6.alloc (.cells #[.int .i64 0, .int .i64 0] 28)).c (j := 2) rfl; have geX2 := (hX6.alloc (.cells #[.int .i64 0, .int .i64 0] 28)).frozen 2; have hs7 : Wx.heap.size + 1 ≤ w6.heap.size := (by simpa using hB6.size); have ne1 : Wx.heap.size ≠ w6.heap.size := (by omega); have ne2 : w6.heap.size ≠ Wx.heap.size := (by omega)) | ((with_reducible have hB7 : Below (Wx.alloc (.cells #[.int .i64 0, .int .i64 0] 28)).drew.heap.size (Wx.alloc (.cells #[.int .i64 0, .int .i64 0] 28)).drew w6 := hB6); have hR6 : Holds w6 Wx.heap.size 28 #[.int .i64 0, .int .i64 0] := (Holds.of (W' := (Wx.alloc (.cells #[.int .i64 0, .int .i64 0] 28)).drew) (Holds.new Wx 28 #[.int .i64 0, .int .i64 0]) rfl).below hB7 (by simp <;> omega); have ar0 := hR6.c (j := 0) rfl; have ar1 := hR6.c (j := 1) rfl; have fr0 := hR6.frozen 0; have fr1 := hR6.frozen 1; have gR0 := (hR6.alloc (.cells #[.int .i64 0, .int .i64 0, .slice none 0 0] 24)).c (j := 0) rfl; have geR0 := (hR6.alloc (.cells #[.int .i64 0, .int .i64 0, .slice none 0 0] 24)).frozen 0; have gR1 := (hR6.alloc (.cells #[.int .i64 0, .int .i64 0, .slice none 0 0] 24)).c (j := 1) rfl; have geR1 := (hR6.alloc (.cells #[.int .i64 0, .int .i64 0, .slice none 0 0] 24)).frozen 1; have qR0 := (hR6.alloc (.cells #[.int .i64 2, .int .i64 0, .slice Y6 m2.length c6] 24)).c (j := 0) rfl; have qeR0 := (hR6.alloc (.cells #[.int .i64 2, .int .i64 0, .slice Y6 m2.length c6] 24)).frozen 0; have qR1 := (hR6.alloc (.cells #[.int .i64 2, .int .i64 0, .slice Y6 m2.length c6] 24)).c (j := 1) rfl; have qeR1 := (hR6.alloc (.cells #[.int .i64 2, .int .i64 0, .slice Y6 m2.length c6] 24)).frozen 1; have hs7 : Wx.heap.size + 1 ≤ w6.heap.size := (by simpa using hB6.size); have ne1 : Wx.heap.size ≠ w6.heap.size := (by omega); have ne2 : w6.heap.size ≠ Wx.heap.size := (by omega)) | skip))
            all_goals go_wp2_with fail
            all_goals go_meet
            all_goals first | (with_reducible exact ⟨rfl, told_a hB6w ho6 (Nat.le_refl _)⟩) | (with_reducible exact ⟨rfl, told_b hB6w ho6 (Nat.le_refl _)⟩) | (with_reducible exact ⟨rfl, told_c hB6w ho6 (Nat.le_refl _) hX6⟩) | (with_reducible exact ⟨rfl, told_e hB6w ho6 (Nat.le_refl _) hR6⟩) | (with_reducible exact ⟨rfl, told_sets hX6 hR6 (by omega) ho6 (by omega) (by omega) hB6w⟩)
          case rest =>
            obtain ⟨rfl, X2, R2, Y2, cY2, rfl, rfl, hX2, hR2, bX2, bR2, hBy⟩ := hcut
            have UX2 := Lib.hid bX2
            have UX := Lib.hid (TX.out.below hBy)
            have UR := Lib.hid (TR.out.below hBy TR.out.lt)
            have US := Lib.hid (HSx.out.below hBy)
            have UT := Lib.hid (HTx.out.below hBy)
            have hByw := onto hBxw hBy
            have r1 := UR.out.c (j := 1) rfl
            have x0 := UX.out.box.c (j := 0) rfl
            have x1 := UX.out.box.c (j := 1) rfl
            have x2 := UX.out.box.c (j := 2) rfl
            have y0 := UX2.out.box.c (j := 0) rfl
            have y1 := UX2.out.box.c (j := 1) rfl
            have y2 := UX2.out.box.c (j := 2) rfl
            have b0 := US.out.box.c (j := 0) rfl
            have b1 := US.out.box.c (j := 1) rfl
            have b2 := US.out.box.c (j := 2) rfl
            have d0 := UT.out.box.c (j := 0) rfl
            have d1 := UT.out.box.c (j := 1) rfl
            have d2 := UT.out.box.c (j := 2) rfl
            have fb0 := US.out.box.frozen 0
            have fb1 := US.out.box.frozen 1
            have fb2 := US.out.box.frozen 2
            have fd0 := UT.out.box.frozen 0
            have fd1 := UT.out.box.frozen 1
            have fd2 := UT.out.box.frozen 2
            have n1 : X2 ≠ w3.heap.size := by omega
            have n2 : R ≠ w3.heap.size := by omega
            have n3 : R ≠ w3.heap.size + 1 := by omega
            have g1 : decide (r < 0) = false := decide_eq_false (by omega)
            have g2 : decide (1 < r) = false := decide_eq_false (by omega)
            clear t0 t1 t2 hcx HAQ1 hBd2 bX2 bR2
            go_wp2
            exact ⟨⟨k + 1, m.length, by omega, by go_num, by rw [HNN.out, show wrap64 (m.length : Int) = (m.length : Int) by unfold wrap64; omega], by rw [HMW.out], grow_next HMW.out HMW2.out UX.out UX2.out US.out.box UT.out.box hw3 hByw⟩, by simp [intOf]; omega⟩
      · have q2 : decide (k < l.length) = false := decide_eq_false hlt
        have hS1 := HS.out
        have hT1 := HT.out
        have hn1 := HN.out
        rw [List.take_of_length_le (by omega)] at hS1 hn1
        rw [List.take_of_length_le (by rw [List.length_reverse]; omega), ris_rev] at hT1
        have hrl := ris_len l
        have hrr := ris_rise l
        have hmem : ∀ y ∈ l, y ∈ risL l := fun y h => mem_ris.2 h
        have HRI := fun W (h : Below w.heap.size w W) => risen_any A c l W (HA.out.below h) (by omega)
        unfold RowPost at HRI
        generalize risL l = s at *
        have HS1 := Lib.hid hS1
        have HT1 := Lib.hid hT1
        have HMEM := Lib.hid hmem
        have HRR := Lib.hid hrr
        have HN1 := Lib.hid hn1
        have IS := Lib.hid (own_ints rfl hS1.row)
        have IT := Lib.hid (own_ints rfl hT1.row)
        have e1 : ((n : Int) == (s.length : Int)) = true := by rw [hn1]; simp
        have b0 := hS1.box.c (j := 0) rfl
        have b1 := hS1.box.c (j := 1) rfl
        have b2 := hS1.box.c (j := 2) rfl
        have d0 := hT1.box.c (j := 0) rfl
        have d1 := hT1.box.c (j := 1) rfl
        have d2 := hT1.box.c (j := 2) rfl
        have hsl := hS1.box.lt
        have htl := hT1.box.lt
        have HKS := Lib.hid (show ∀ W', Below wr.heap.size wr W' → (W'.cell? ⟨w3.heap.size, 0, none⟩ = some (.int .i64 2) ∧ W'.cell? ⟨w3.heap.size, 1, none⟩ = some (.int .i64 0) ∧ W'.cell? ⟨w3.heap.size, 2, none⟩ = some (.slice A1 s.length c1) ∧ W'.cell? ⟨w3.heap.size + 1, 0, none⟩ = some (.int .i64 2) ∧ W'.cell? ⟨w3.heap.size + 1, 1, none⟩ = some (.int .i64 0) ∧ W'.cell? ⟨w3.heap.size + 1, 2, none⟩ = some (.slice A2 s.length c2)) from fun W' h => ⟨(h.cell (p := ⟨w3.heap.size, 0, none⟩) hsl).trans b0, (h.cell (p := ⟨w3.heap.size, 1, none⟩) hsl).trans b1, (h.cell (p := ⟨w3.heap.size, 2, none⟩) hsl).trans b2, (h.cell (p := ⟨w3.heap.size + 1, 0, none⟩) htl).trans d0, (h.cell (p := ⟨w3.heap.size + 1, 1, none⟩) htl).trans d1, (h.cell (p := ⟨w3.heap.size + 1, 2, none⟩) htl).trans d2⟩)
        clear hS1 hT1 hmem hrr hn1 HS HT HN b0 b1 b2 d0 d1 d2
        obtain ⟨Wr, rfl⟩ : ∃ Wr, Wr = wr := ⟨_, rfl⟩
        go_wp2_with fail
        go_loopw [14] (fun i wq => ∃ k2 : Nat, k2 ≤ l.length ∧ i = .int .i64 k2 ∧ Below Wr.heap.size Wr wq) (fun i wq => l.length - (intOf i).toNat)
        case atStart => exact ⟨0, Nat.zero_le _, rfl, Below.refl _ _⟩
        case round =>
          obtain ⟨k2, hk2, rfl, hBq⟩ := hrel
          obtain ⟨Wq, rfl⟩ : ∃ Wq, Wq = wr := ⟨_, rfl⟩
          have HBq := Lib.hid hBq
          have hBwq := onto HB.out hBq
          obtain ⟨v0, v1, v2, v3, v4, v5⟩ := HKS.out Wq hBq
          clear hBq
          by_cases hl2 : k2 < l.length
          · have q3 : decide (k2 < l.length) = true := decide_eq_true hl2
            obtain ⟨bl, off, rfl, hbl, hc⟩ := HA.out.below hBwq (by omega)
            have hck := hc k2 hl2
            obtain ⟨x, hx⟩ : ∃ x, l[k2]?.getD 0 = x := ⟨_, rfl⟩
            rw [hx] at hck
            have hxl : x ∈ l := by rw [← hx, List.getElem?_eq_getElem hl2]; exact List.getElem_mem hl2
            have hin : isIn s x = true := isIn_iff.2 (HMEM.out x hxl)
            obtain ⟨hlo, hdr⟩ := cut_low HRR.out hin
            have hat : s[low s x]?.getD 0 = x := by
              rw [List.drop_eq_getElem_cons hlo] at hdr
              rw [List.getElem?_eq_getElem hlo]
              exact (List.cons.inj hdr).1
            have HF := fun W (h : Below Wr.heap.size Wr W) => xfind_any A1 c1 s x W (IS.out.below h) (by omega) HRR.out
            unfold foundV at HF
            rw [hin] at HF
            obtain ⟨b1, off1, rfl, hb1, hc1⟩ := IS.out (by omega)
            have hcs : ∀ W, Below Wr.heap.size Wr W → W.cell? ⟨b1, off1 + low s x, none⟩ = some (.int .i64 x) := fun W h => by rw [(h.cell (p := ⟨b1, off1 + low s x, none⟩) hb1), hc1 _ hlo, hat]
            have hbq : bl < Wq.heap.size := hbl
            generalize low s x = lo at *
            have HCS := Lib.hid hcs
            have hk0 : (0 : Int) ≤ (k2 : Int) := by omega
            have hk1 : (k2 : Int) < (l.length : Int) := by omega
            have hl0 : (0 : Int) ≤ (lo : Int) := by omega
            have hl1 : (lo : Int) < (s.length : Int) := by omega
            have hd1 : decide ((lo : Int) < 0) = false := decide_eq_false (by omega)
            have hd2 : decide ((s.length : Int) ≤ (lo : Int)) = false := decide_eq_false (by omega)
            have hxx : (x != x) = false := by simp
            clear hx hc hxl hin hdr hat hc1 hcs v0 v1 v3 v4 v5
            go_wp2_with fail
            go_region_held3 (fun w' => w'.cell? ⟨w3.heap.size, 2, none⟩ = some (.slice (some ⟨b1, off1, none⟩) s.length c1) ∧ w'.cell? ⟨bl, off + k2, none⟩ = some (.int .i64 x)) (first | exact ⟨v2, hck⟩ | exact ⟨(hB6.cell (p := ⟨w3.heap.size, 2, none⟩) hsq).trans v2, (hB6.cell (p := ⟨bl, off + k2, none⟩) hbq).trans hck⟩ | go_keep) (first | (go_at_call 16; refine (HF _ HBq.out.drew).mono ?_; rintro e w6 ⟨rfl, hB6⟩; have hsq : w3.heap.size < Wq.drew.heap.size := Nat.lt_of_lt_of_le hsl HBq.out.size))
            have hB6q : Below Wr.heap.size Wr w6 := nxt HBq.out.drew hB6 HBq.out.size
            have c6 := HCS.out w6 hB6q
            have v6 : w6.cell? ⟨w3.heap.size, 2, none⟩ = some (.slice (some ⟨b1, off1, none⟩) s.length c1) := (hB6.cell (p := ⟨w3.heap.size, 2, none⟩) hsq).trans v2
            have k6 : w6.cell? ⟨bl, off + k2, none⟩ = some (.int .i64 x) := (hB6.cell (p := ⟨bl, off + k2, none⟩) hbq).trans hck
            clear v2 hck
            go_wp2_with fail
            go_quiet (fail)
            go_wp2
            exact ⟨⟨k2 + 1, by omega, by go_num, below_drewN hB6q nq⟩, by simp [intOf]; omega⟩
          · have q3 : decide (k2 < l.length) = false := decide_eq_false hl2
            have hBd : Below Wr.heap.size Wr Wq.drew := HBq.out.drew
            have HSS := fun W (h : Below Wr.heap.size Wr W) => samest_any 2 0 2 0 A1 A2 c1 c2 s s W (IS.out.below h) (IT.out.below h) (by omega)
            rw [same_iff.2 ⟨rfl, rfl, rfl⟩] at HSS
            unfold stV at HSS
            have HSI := fun W (h : Below Wr.heap.size Wr W) B d (hb : Ints W B s) => sameints_any A1 B c1 d s s W (IS.out.below h) hb (by omega)
            rw [show (s == s) = true by simp] at HSI
            have HBw := Lib.hid HB.out
            clear v0 v1 v2 v3 v4 v5
            go_wp2_with fail
            have c0 := HKS.out _ hBd
            go_region_held3 (fun w' => w'.cell? ⟨w3.heap.size, 0, none⟩ = some (.int .i64 2) ∧ w'.cell? ⟨w3.heap.size, 1, none⟩ = some (.int .i64 0) ∧ w'.cell? ⟨w3.heap.size, 2, none⟩ = some (.slice A1 s.length c1) ∧ w'.cell? ⟨w3.heap.size + 1, 0, none⟩ = some (.int .i64 2) ∧ w'.cell? ⟨w3.heap.size + 1, 1, none⟩ = some (.int .i64 0) ∧ w'.cell? ⟨w3.heap.size + 1, 2, none⟩ = some (.slice A2 s.length c2)) (first | exact c0 | exact c8 | exact c7 | exact c6 | go_keep) (first
              | (go_at_call 12; refine (HSS _ hBd).mono ?_; rintro e w6 ⟨rfl, hB6⟩; have hC6 : Below Wr.heap.size Wr w6 := nxt hBd hB6 hBd.size; have c6 := HKS.out _ hC6)
              | (go_at_call 14; refine (HRI _ (onto HBw.out hC6)).mono ?_; rintro e w7 ⟨B7, d7, rfl, ho7, hB7⟩; have hC7 : Below Wr.heap.size Wr w7 := nxt hC6 hB7 hC6.size; have c7 := HKS.out _ hC7; have I7 := Lib.hid (own_ints rfl ho7); clear ho7)
              | (go_at_call 20; refine (HSI _ hC7 B7 d7 I7.out).mono ?_; rintro e w8 ⟨rfl, hB8⟩; have hC8 : Below Wr.heap.size Wr w8 := nxt hC7 hB8 hC7.size; have c8 := HKS.out _ hC8))
            go_wp2
            go_ret
            exact ⟨rfl, onto HBw.out hC8⟩
end Go.Proofs.Ytmhnnilfehankaa
