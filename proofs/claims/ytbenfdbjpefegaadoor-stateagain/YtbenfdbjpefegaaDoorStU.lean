/- The document's Text. -/
import Derived.Test.YtbenfdbjpefegaaDoorStT
import Derived.Test.YtbenfdbjpefegaaDoorStJ
import Derived.Test.YtbenfdbjpefegaaDoorWalkG
import Derived.Deep.Cut
import Derived.Deep.CutRange
namespace Go.Proofs.YtbenfdbjpefegaaDoor
open Go.RowKit Go.Maps
set_option linter.unusedVariables false

theorem rtext_no (t n : Int) (A : Option Addr) (c : Nat) (l : List Int) (w : World) (hA : Ints w A l) (hlen : l.length ≤ 100) (h : checkE t n l ≠ 0) :
    Calls Tryd.prog 14 #[stV t n A l.length c] w (TextNo (checkE t n l) w) := by
  have H := rcheck_any t n A c l (w.alloc (.cells #[.int .i64 t, .int .i64 n, .slice A l.length c] 24)) (hA.below (alloc1 w _)) (by omega)
  unfold stV at *
  generalize checkE t n l = r at *
  have hb : (r != 0) = true := by rw [bne_iff_ne]; exact h
  go_enter Tryd.func14, Tryd.ntmps14
  go_wp2_with fail
  refine H.mono ?_
  rintro e w1 ⟨rfl, hB1⟩
  go_wp2
  go_ret2
  exact ⟨rfl, nxt (alloc1 w _) hB1 (by simp)⟩

theorem str_join3 (a b : ByteArray) : (a ++ (⟨#[32]⟩ : ByteArray) ++ b).data.toList = a.data.toList ++ 32 :: b.data.toList := by
  simp [ByteArray.data_append]
theorem str_eq {a : ByteArray} {l : List UInt8} (h : a.data.toList = l) : a = ⟨l.toArray⟩ := by
  apply ByteArray.ext
  apply Array.ext'
  simpa using h

set_option maxRecDepth 100000 in
set_option maxHeartbeats 2000000 in
theorem rtext_yes (t n : Int) (A : Option Addr) (c : Nat) (l : List Int) (w : World) (hA : Ints w A l) (hlen : l.length ≤ 100) (hsm : ∀ x ∈ l, Small x) (hn : Small n) (h : checkE t n l = 0) :
    Calls Tryd.prog 14 #[stV t n A l.length c] w (TextYes (txtL t n l) w) := by
  obtain ⟨ht1, ht5, _⟩ := check_ok h
  have hB0 := alloc1 w (.cells #[.int .i64 t, .int .i64 n, .slice A l.length c] 24)
  have H := rcheck_any t n A c l (w.alloc (.cells #[.int .i64 t, .int .i64 n, .slice A l.length c] 24)) (hA.below hB0) (by omega)
  rw [h] at H
  have HW := Lib.hid (Holds.new w 24 #[.int .i64 t, .int .i64 n, .slice A l.length c])
  have HA := Lib.hid (hA.below hB0)
  have hlt0 : w.heap.size < (w.alloc (.cells #[.int .i64 t, .int .i64 n, .slice A l.length c] 24)).heap.size := by simp
  obtain ⟨j, hj⟩ : ∃ j : Nat, t - 1 = (j : Int) := ⟨(t - 1).toNat, by omega⟩
  have HL : txtL t n l = wordL (j + 1) ++ txtOf (numsOf t n l) := by unfold txtL; rw [show t.toNat = j + 1 by omega]
  have HLH := Lib.hid HL
  have HSM := Lib.hid hsm
  have hj5 : j < 5 := by omega
  unfold stV
  clear h hA HL hsm
  go_enter Tryd.func14, Tryd.ntmps14
  go_wp2_with fail
  refine H.mono ?_
  rintro e w1 ⟨rfl, hB1⟩
  generalize w.alloc (.cells #[.int .i64 t, .int .i64 n, .slice A l.length c] 24) = W0 at *
  have hsz1 := hB1.size
  have HW1 := Lib.hid (HW.out.below hB1 hlt0)
  have c0 := HW1.out.c (j := 0) rfl
  have HA1 := Lib.hid (HA.out.below hB1)
  have HBw := Lib.hid (nxt hB0 hB1 (by omega))
  have hw1 : w.heap.size < w1.heap.size := HW1.out.lt
  clear hB0 hB1 H
  have hwl := word_len (j + 1)
  have hcj := rwords_cell w1.drew j hj5
  have HWL := Lib.hid (show (wordB (j + 1)).data.toList = wordL (j + 1) from rfl)
  obtain ⟨s, hs⟩ : ∃ s, wordB (j + 1) = s := ⟨_, rfl⟩
  rw [hs] at hwl hcj HWL
  have hD : Below w1.heap.size w1 w1.drew := (Below.refl _ _).drew
  have hBa := hD.alloc (Nat.le_refl _) wordsO
  have ca : (w1.drew.alloc wordsO).cell? ⟨w.heap.size, 0, none⟩ = some (.int .i64 t) := (HW1.out.below hBa hw1).c (j := 0) rfl
  have hj0 : (0 : Int) ≤ (j : Int) := by omega
  have hj1 : (j : Int) < 5 := by omega
  have hwrap : IntKind.i64.wrap (t - 1) = (j : Int) := by rw [hj, IntKind.wrap_i64]; omega
  have RW : Calls Tryd.prog 42 #[] w1.drew fun e w' => e = .returned (.slice (some ⟨w1.heap.size, 0, none⟩) 5 5) ∧ w'.cell? ⟨w1.heap.size, j, none⟩ = some (.string s) ∧ w'.cell? ⟨w.heap.size, 0, none⟩ = some (.int .i64 t) ∧ Below w1.heap.size w1 w' := (rwords_any w1.drew).mono fun e w' h => ⟨h.1, by rw [h.2]; exact hcj, by rw [h.2]; exact ca, by rw [h.2]; exact hBa⟩
  have HJ := Lib.hid hj
  clear hs hj hcj ca hBa
  go_upto_region 4 with fail
  go_cut [5] from 12 to 17 (fun s5 wx => s5 = .string s ∧ Below w1.heap.size w1 wx)
  case first =>
    go_region_with (first | (go_at_call 42; refine RW.mono ?_; rintro e w6 ⟨rfl, hcj6, ca6, hBa6⟩))
    all_goals (go_wp2_with fail; go_meet; exact ⟨rfl, hBa6⟩)
  case rest =>
    obtain ⟨rfl, hBx⟩ := hcut
    have HBX := Lib.hid hBx
    have HWX := Lib.hid (HW1.out.below hBx hw1)
    have d0 := HWX.out.c (j := 0) rfl
    have d1 := HWX.out.c (j := 1) rfl
    have d2 := HWX.out.c (j := 2) rfl
    have hsx := hBx.size
    have HPn := fun W => rput_any n W hn.1 hn.2
    have hpl := put_len n hn
    unfold PutPost at HPn
    clear hBx RW hwrap
    cases hsg : singB t
    · have e1 : (t == 1) = false := by
        unfold singB at hsg; simp at hsg; simp [hsg.1]
      have e5 : (t == 5) = false := by
        unfold singB at hsg; simp at hsg; simp [hsg.2]
      go_wp2
      go_loopw [5, 6] (fun s5 i wr => ∃ (k : Nat) (a : ByteArray), k ≤ l.length ∧ i = .int .i64 k ∧ s5 = .string a ∧ a.data.toList = s.data.toList ++ txtOf (l.take k) ∧ Below w1.heap.size w1 wr) (fun s5 i wr => l.length - (intOf i).toNat)
      case atStart => exact ⟨0, s, Nat.zero_le _, rfl, rfl, by simp [txtOf], HBX.out⟩
      case round =>
        obtain ⟨k, a, hk, rfl, rfl, ha, hB⟩ := hrel
        have HAA := Lib.hid ha
        have HB := Lib.hid hB
        have hsz := hB.size
        have HWr := HW1.out.below hB hw1
        have r2 := HWr.c (j := 2) rfl
        have hints := HA1.out.below hB
        have hal : a.size ≤ 3000 := by
          have h1 := txtOf_len (l.take k) (fun x hx => HSM.out x (List.mem_of_mem_take hx))
          rw [List.length_take] at h1
          rw [← bytes_len, ha, List.length_append, bytes_len]; omega
        clear ha hB
        by_cases hlt : k < l.length
        · obtain ⟨b, off, rfl, hb, hc⟩ := hints (by omega)
          have hck := hc k hlt
          have hk0 : (0 : Int) ≤ (k : Int) := by omega
          have hk1 : (k : Int) < (l.length : Int) := by omega
          have hsk := small_at HSM.out k hlt
          have HST := Lib.hid (txtOf_take hlt)
          obtain ⟨x, hx'⟩ : ∃ x, l[k]?.getD 0 = x := ⟨_, rfl⟩
          rw [hx'] at hck hsk HST
          have hpx := put_len x hsk
          have HPx := fun W => rput_any x W hsk.1 hsk.2
          unfold PutPost at HPx
          obtain ⟨pb, hpb⟩ : ∃ pb, (⟨(putL x).toArray⟩ : ByteArray) = pb := ⟨_, rfl⟩
          rw [hpb] at HPx
          have hpbl : pb.size ≤ 20 := by rw [← hpb, ← bytes_len]; simpa using hpx
          have HPB := Lib.hid (show pb.data.toList = putL x by rw [← hpb])
          clear hc hx' hpb hints
          go_wp2_with fail
          refine (HPx wr).mono ?_
          rintro e w5 ⟨rfl, hB5⟩
          go_wp2
          go_roundw
          case rel =>
            refine ⟨k + 1, a ++ ⟨#[32]⟩ ++ pb, by omega, by go_num, rfl, ?_, nxt HB.out hB5 (by omega)⟩
            rw [str_join3, HAA.out, HST.out, HPB.out, List.append_assoc]
          case measure => simp [intOf]; omega
        · have hfin : a.data.toList = txtL t n l := by rw [HAA.out, List.take_of_length_le (by omega), HLH.out, HWL.out, numsOf, hsg]; rfl
          have HFIN := Lib.hid (str_eq hfin)
          clear hfin hints
          go_wp2
          go_ret2
          exact ⟨by rw [← HFIN.out]; rfl, nxt HBw.out HB.out (by omega)⟩
    · obtain ⟨pb, hpb⟩ : ∃ pb, (⟨(putL n).toArray⟩ : ByteArray) = pb := ⟨_, rfl⟩
      rw [hpb] at HPn
      have hpbl : pb.size ≤ 20 := by rw [← hpb, ← bytes_len]; simpa using hpl
      have hfin : (s ++ (⟨#[32]⟩ : ByteArray) ++ pb).data.toList = txtL t n l := by
        rw [str_join3, HLH.out, HWL.out, numsOf, hsg, ← hpb]; simp [txtOf]
      have HFIN := Lib.hid (str_eq hfin)
      clear hfin hpb
      cases e1 : (t == 1)
      · have e5 : (t == 5) = true := by unfold singB at hsg; rw [e1] at hsg; simpa using hsg
        go_wp2_with fail
        refine (HPn _).mono ?_
        rintro e w5 ⟨rfl, hB5⟩
        go_wp2
        go_ret2
        exact ⟨by rw [← HFIN.out]; rfl, nxt HBw.out (nxt HBX.out hB5 (by omega)) (by omega)⟩
      · go_wp2_with fail
        refine (HPn _).mono ?_
        rintro e w5 ⟨rfl, hB5⟩
        go_wp2
        go_ret2
        exact ⟨by rw [← HFIN.out]; rfl, nxt HBw.out (nxt HBX.out hB5 (by omega)) (by omega)⟩
end Go.Proofs.YtbenfdbjpefegaaDoor
