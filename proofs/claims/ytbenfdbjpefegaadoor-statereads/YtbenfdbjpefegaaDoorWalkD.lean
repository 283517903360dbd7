/- Contracts of the layer number: Get, whole. -/
import Derived.Test.YtbenfdbjpefegaaDoorOpBase
import Derived.Test.YtbenfdbjpefegaaDoorWalkC
import Derived.Test.YtbenfdbjpefegaaDoorWalkB
namespace Go.Proofs.YtbenfdbjpefegaaDoor
open Go.RowKit
set_option linter.unusedVariables false

def GetPost (l : List UInt8) (w : World) (e : Ending) (w' : World) : Prop :=
  e = .returned (.tuple #[.int .i64 (getN l), .agg #[.int .i64 (getE l), .int .i64 (getP l)]]) ∧ Below w.heap.size w w'

set_option maxHeartbeats 1000000 in
theorem get_any (s : ByteArray) (w : World) (hs : s.size ≤ maxLen) :
    Calls Tryd.prog 67 #[.string s] w (GetPost s.data.toList w) := by
  have hs' := hs
  unfold maxLen at hs
  have hl := bytes_len s
  by_cases h20 : 20 < s.size
  · have H := Lib.hid (get_long s.data.toList (by omega))
    clear hl
    go_enter Tryd.func67, Tryd.ntmps67
    go_wp2
    exact bodyPost_ret (v := .tuple #[.int .i64 0, .agg #[.int .i64 4, .int .i64 20]]) (by simp [results, Tryd.results67, go_sem]) rfl ⟨by rw [H.out.1, H.out.2.1, H.out.2.2], (Below.refl _ _).alloc (Nat.le_refl _) _⟩
  · obtain ⟨hg1, hg2⟩ := sgn_le s.data.toList
    have hat := dtk_le (s.data.toList.drop (sgn s.data.toList)) (decide (0 < sgn s.data.toList))
    rw [List.length_drop] at hat
    rw [hl] at hat hg2
    have HF := Lib.hid (get_form s.data.toList (by omega))
    have HN := Lib.hid (get_num s.data.toList (by omega))
    have HA : Hid (getAt s.data.toList = sgn s.data.toList + dtk (s.data.toList.drop (sgn s.data.toList)) (decide (0 < sgn s.data.toList))) := rfl
    have HD := Lib.hid (dtk_all (s.data.toList.drop (sgn s.data.toList)) (decide (0 < sgn s.data.toList)))
    have HS := Lib.hid (fun W => signs_any s W hs')
    have HL := Lib.hid hl
    clear hl
    generalize hg : sgn s.data.toList = g at *
    clear hg
    have HX := Lib.hid (extract_data s g)
    have HT := Lib.hid (taken_any (s.extract g s.size) (decide (0 < g)))
    rw [HX.out, extract_size] at HT
    generalize hd : dtk (s.data.toList.drop g) (decide (0 < g)) = d at *
    clear hd
    have hfit : s.size - g ≤ maxLen := Nat.le_trans (Nat.sub_le _ _) hs'
    by_cases hbad : g + d < s.size ∨ d = 0
    · have HF' := Lib.hid (HF.out (by rw [HA.out, HL.out]; omega))
      rw [HA.out] at HF'
      clear HF HN HA HD
      by_cases hlt : g + d < s.size
      · go_enter Tryd.func67, Tryd.ntmps67
        go_wp2_with fail
        refine (HS.out _).mono ?_
        rintro e w' ⟨rfl, rfl⟩
        go_wp2_with fail
        refine (HT.out _ hfit).mono ?_
        rintro e w' ⟨rfl, rfl⟩
        go_wp2
        exact bodyPost_ret (v := .tuple #[.int .i64 0, .agg #[.int .i64 5, .int .i64 (g + d)]]) (by simp [results, Tryd.results67, go_sem]) rfl ⟨by rw [HF'.out.1, HF'.out.2.1, HF'.out.2.2]; rfl, (Below.refl _ _).alloc (Nat.le_refl _) _⟩
      · have hb1 : decide (g + d < s.size) = false := by simpa using hlt
        obtain rfl : d = 0 := by omega
        have hb2 : ((g : Int) == g) = true := by simp
        go_enter Tryd.func67, Tryd.ntmps67
        go_wp2_with fail
        refine (HS.out _).mono ?_
        rintro e w' ⟨rfl, rfl⟩
        go_wp2_with fail
        refine (HT.out _ hfit).mono ?_
        rintro e w' ⟨rfl, rfl⟩
        go_wp2
        exact bodyPost_ret (v := .tuple #[.int .i64 0, .agg #[.int .i64 5, .int .i64 g]]) (by simp [results, Tryd.results67, go_sem]) rfl ⟨by rw [HF'.out.1, HF'.out.2.1, HF'.out.2.2]; rfl, (Below.refl _ _).alloc (Nat.le_refl _) _⟩
    · have HN' := Lib.hid (HN.out (by rw [HA.out, HL.out]; omega))
      have HD' := Lib.hid (HD.out (by rw [List.length_drop, HL.out]; omega))
      have HG := Lib.hid (fun W => signed_any (s.extract g s.size) (decide (0 < g)) W (by rw [extract_size]; exact hfit) (fun k hk => HD'.out _ (by rw [← HX.out]; exact List.mem_of_getElem? (byte_at _ k hk))))
      rw [HX.out] at HG
      clear HF HN HA HD HD'
      have hb1 : decide (g + d < s.size) = false := by simp; omega
      have hb2 : ((g : Int) + d == g) = false := by simp; omega
      have HZ := Lib.hid (signN_zero (s.data.toList.drop g) (decide (0 < g)))
      generalize signN (s.data.toList.drop g) (decide (0 < g)) = x at *
      generalize signB (s.data.toList.drop g) (decide (0 < g)) = ok at *
      cases ok
      · obtain rfl : x = 0 := HZ.out rfl
        go_enter Tryd.func67, Tryd.ntmps67
        go_wp2_with fail
        refine (HS.out _).mono ?_
        rintro e w' ⟨rfl, rfl⟩
        go_wp2_with fail
        refine (HT.out _ hfit).mono ?_
        rintro e w' ⟨rfl, rfl⟩
        go_wp2_with fail
        refine (HG.out _).mono ?_
        rintro e w' ⟨rfl, rfl⟩
        go_wp2
        exact bodyPost_ret (v := .tuple #[.int .i64 0, .agg #[.int .i64 3, .int .i64 0]]) (by simp [results, Tryd.results67, go_sem]) rfl ⟨by rw [HN'.out.1, HN'.out.2.1, HN'.out.2.2]; rfl, (Below.refl _ _).alloc (Nat.le_refl _) _⟩
      · go_enter Tryd.func67, Tryd.ntmps67
        go_wp2_with fail
        refine (HS.out _).mono ?_
        rintro e w' ⟨rfl, rfl⟩
        go_wp2_with fail
        refine (HT.out _ hfit).mono ?_
        rintro e w' ⟨rfl, rfl⟩
        go_wp2_with fail
        refine (HG.out _).mono ?_
        rintro e w' ⟨rfl, rfl⟩
        go_wp2
        exact bodyPost_ret (v := .tuple #[.int .i64 x, .agg #[.int .i64 0, .int .i64 0]]) (by simp [results, Tryd.results67, go_sem]) rfl ⟨by rw [HN'.out.1, HN'.out.2.1, HN'.out.2.2]; rfl, (Below.refl _ _).alloc (Nat.le_refl _) _⟩
end Go.Proofs.YtbenfdbjpefegaaDoor
