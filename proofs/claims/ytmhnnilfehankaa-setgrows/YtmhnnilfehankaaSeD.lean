/- Contracts of the layer set: without; the exported calls; insert, remove, has, size. -/
import Derived.Test.YtmhnnilfehankaaSeC
namespace Go.Proofs.Ytmhnnilfehankaa
open Go.RowKit Go.Maps
set_option linter.unusedVariables false

set_option maxHeartbeats 1000000 in
theorem without_any (A : Option Addr) (c : Nat) (l : List Int) (x : Int) (w : World) (hA : Ints w A l) (hlen : l.length ≤ 900) (hc : l.length ≤ c) (hr : Rise l) :
    Calls Try.prog 35 #[.slice A l.length c, .int .i64 x] w (CopyPost (outL l x) w) := by
  have HF := find_any A c l x w hA (by omega) hr
  unfold foundV at HF
  obtain ⟨i0, hi, hz0, hz1, hz2⟩ := info_parts info_int
  cases hin : isIn l x with
  | false =>
    rw [hin] at HF
    have HW := Lib.hid (out_not hin)
    have HA := Lib.hid hA
    have HAG := fun W (h : Below w.heap.size w W) => again_any A c l W (HA.out.below h) (by omega)
    clear hin hA
    go_enter Try.func35, Try.ntmps35
    go_wp2_with fail
    refine HF.mono ?_
    rintro e w1 ⟨rfl, hB1⟩
    go_wp2_with fail
    refine (HAG w1 hB1).mono ?_
    rintro e w2 ⟨g, cap, rfl, ho, hB2⟩
    go_wp2
    go_ret
    rw [HW.out]
    exact ⟨g, cap, rfl, row_more ho hB1.size, nxt hB1 hB2 hB1.size⟩
  | true =>
    rw [hin] at HF
    have HW := Lib.hid (out_in hin)
    have hp := (cut_low hr hin).1
    have HA := Lib.hid hA
    generalize low l x = p at *
    have g0 : (0 : Int) ≤ (p : Int) := by omega
    have g1 : (p : Int) ≤ (c : Int) := by omega
    have g2 : (p : Int) + 1 ≤ (l.length : Int) := by omega
    have g3 : (l.length : Int) ≤ (c : Int) := by omega
    clear hin hA
    go_enter Try.func35, Try.ntmps35
    go_wp2_with fail
    refine HF.mono ?_
    rintro e w1 ⟨rfl, hB1⟩
    have hA1 := Lib.hid (HA.out.below hB1)
    go_wp2_with fail
    refine wp_region_noPanic ?_
    refine wp_region_picked [(0, true), (1, true), (2, true), (4, true), (5, true), (6, true), (3, false), (7, false), (8, true)] (fun _ => True) (by kernel_rfl) (by kernel_rfl) (fun _ _ _ _ _ h => h) trivial ?_
    iterate 6
      refine Picked.take ?_ (by rfl) (by rfl) ?_ ?_
      rotate_left
      · intro w' hw'
        go_simp
        try with_reducible rfl
      simp only [Act.put, List.getElem_toArray, List.getElem_cons_zero, List.getElem_cons_succ, List.setIfInBounds_toArray, List.set_cons_zero, List.set_cons_succ]
    rw [show IntKind.i64.wrap ((l.length : Int) - 1) = ((l.length - 1 : Nat) : Int) by rw [IntWalk.i64_left]; unfold wrap64; omega]
    obtain ⟨w2, hr2, ho2, hg2⟩ := run_make_own (P := Try.prog) w1.drew w.heap.size 53 3 i0 (.int .i64 0) 1 Try.underlying53 hi hz0 hz1 .i64 .i64 (l.length - 1) (info8 hz2 _ (by omega)) (by unfold maxLen; omega) hB1.size
    refine Picked.make (w1 := w2) (.slice (some ⟨w1.heap.size, 0, none⟩) 0 (l.length - 1)) (by rfl) (by rfl) (exec_make _ _ _ _ _ _ rfl rfl rfl hr2) trivial ?_
    simp only [Act.put, List.getElem_toArray, List.getElem_cons_zero, List.getElem_cons_succ, List.setIfInBounds_toArray, List.set_cons_zero, List.set_cons_succ]
    have hB2 : Below w1.heap.size w1 w2 := ((Below.refl _ w1).drew).grown hg2 (Nat.le_refl _) (fun k e => by cases e)
    have hA2 := Lib.hid (hA1.out.below hB2)
    have hBw2 := nxt hB1 hB2 hB1.size
    obtain ⟨v3, w3, hr3, ho3, hg3, hn3⟩ := app_run w2 w.heap.size 53 53 Try.underlying53 _ 0 [] ho2 A p c (l.take p) (by rw [List.length_take]; omega) (ints_take hA2.out p) (by omega) (by omega) hBw2.size
    obtain ⟨g3', c3, rfl⟩ := form4 ho3 hn3
    have hB3 := grown_below hg3 ho2 hBw2.size
    refine Picked.make (w1 := w3) (.slice (some ⟨g3', 0, none⟩) (0 + p) c3) (by rfl) (by rfl) (exec_app _ _ _ _ _ _ rfl rfl rfl hr3) trivial ?_
    simp only [Act.put, List.getElem_toArray, List.getElem_cons_zero, List.getElem_cons_succ, List.setIfInBounds_toArray, List.set_cons_zero, List.set_cons_succ]
    refine Picked.take (.slice (some ⟨g3', 0, none⟩) (0 + p) c3) (by rfl) (by rfl) (fun w' _ => by go_simp) ?_
    simp only [Act.put, List.getElem_toArray, List.getElem_cons_zero, List.getElem_cons_succ, List.setIfInBounds_toArray, List.set_cons_zero, List.set_cons_succ]
    refine NoPanic.normal ?_
    rw [Nat.zero_add, List.nil_append] at ho3
    rw [Nat.zero_add]
    have hBw3 := hBw2.trans hB3
    have HO3 := Lib.hid ho3
    clear ho3 hr3 hr2 ho2 hg3 hg2 hn3
    obtain ⟨q, hq⟩ : ∃ q, q = p + 1 := ⟨_, rfl⟩
    have HQ := Lib.hid hq
    have hqi : (p : Int) + 1 = (q : Int) := by omega
    have g4 : (0 : Int) ≤ (q : Int) := by omega
    have g5 : (q : Int) ≤ (l.length : Int) := by omega
    have g6 : (q : Int) ≤ (c : Int) := by omega
    have hql : q ≤ l.length := by omega
    have HAD := Lib.hid (ints_drop (HA.out.below hBw3) c q hc)
    unfold subA at HAD
    rw [hq.symm] at HW
    clear hq g2
    by_cases hcp : c = q
    · rw [if_pos hcp] at HAD
      go_wp2_with (first
        | (at_builtin; refine wpList_app _ rfl _ _ 53 rfl w.heap.size Try.underlying53 _ _ _ rfl HO3.out A (l.length - q) 0 (l.drop q) rfl (by rw [List.length_drop]) HAD.out (by omega) (by omega) hBw3.size ?_; intro v5 w5 hown5 hg5 hn5; obtain ⟨g5', c5, rfl⟩ := form4 hown5 hn5; have hB5 := grown_below hg5 HO3.out hBw3.size))
      go_ret
      have HQ' := HQ.out
      subst HQ'
      exact out_end HW.out hp hown5 (hBw3.trans hB5)
    · rw [if_neg hcp] at HAD
      go_wp2_with (first
        | (at_builtin; refine wpList_app _ rfl _ _ 53 rfl w.heap.size Try.underlying53 _ _ _ rfl HO3.out (A.map (·.add q)) (l.length - q) (c - q) (l.drop q) rfl (by rw [List.length_drop]) HAD.out (by omega) (by omega) hBw3.size ?_; intro v5 w5 hown5 hg5 hn5; obtain ⟨g5', c5, rfl⟩ := form4 hown5 hn5; have hB5 := grown_below hg5 HO3.out hBw3.size))
      go_ret
      have HQ' := HQ.out
      subst HQ'
      exact out_end HW.out hp hown5 (hBw3.trans hB5)

theorem xfind_any (A : Option Addr) (c : Nat) (l : List Int) (x : Int) (w : World) (hA : Ints w A l) (hlen : l.length ≤ 1000) (hr : Rise l) :
    Calls Try.prog 16 #[.slice A l.length c, .int .i64 x] w (Says (foundV l x) w) := by
  have H := find_any A c l x w hA hlen hr
  unfold foundV at *
  clear hA
  go_enter Try.func16, Try.ntmps16
  go_wp2_with fail
  refine H.mono ?_
  rintro e w1 ⟨rfl, hB1⟩
  go_wp2
  refine bodyPost_ret (v := .tuple #[.int .i64 (low l x), .bool (isIn l x)]) (by simp [results, Try.f16, go_sem]) rfl ?_
  exact ⟨rfl, hB1⟩
theorem xwith_any (A : Option Addr) (c : Nat) (l : List Int) (x : Int) (w : World) (hA : Ints w A l) (hlen : l.length ≤ 900) (hc : l.length ≤ c) (hr : Rise l) :
    Calls Try.prog 18 #[.slice A l.length c, .int .i64 x] w (CopyPost (withL l x) w) := by
  have H := with_any A c l x w hA hlen hc hr
  unfold CopyPost at H
  clear hA
  go_enter Try.func18, Try.ntmps18
  go_wp2_with fail
  refine H.mono ?_
  rintro e w1 ⟨g, cap, rfl, ho, hB1⟩
  go_wp2
  go_ret
  exact ⟨g, cap, rfl, ho, hB1⟩
theorem xwithout_any (A : Option Addr) (c : Nat) (l : List Int) (x : Int) (w : World) (hA : Ints w A l) (hlen : l.length ≤ 900) (hc : l.length ≤ c) (hr : Rise l) :
    Calls Try.prog 19 #[.slice A l.length c, .int .i64 x] w (CopyPost (outL l x) w) := by
  have H := without_any A c l x w hA hlen hc hr
  unfold CopyPost at H
  clear hA
  go_enter Try.func19, Try.ntmps19
  go_wp2_with fail
  refine H.mono ?_
  rintro e w1 ⟨g, cap, rfl, ho, hB1⟩
  go_wp2
  go_ret
  exact ⟨g, cap, rfl, ho, hB1⟩

/-- What an operation tells: a list of its own, and a number. -/
def DoPost (m : List Int) (r : Int) (w : World) (e : Ending) (w' : World) : Prop :=
  ∃ g cap, e = .returned (.tuple #[.slice (some ⟨g, 0, none⟩) m.length cap, .int .i64 r]) ∧ w'.ownsRow w.heap.size 3 1 (.slice (some ⟨g, 0, none⟩) m.length cap) m.length (intsOf m) ∧ Below w.heap.size w w'
def one (b : Bool) : Int := if b = true then 1 else 0
theorem len_with_int (l : List Int) (x : Int) : ((withL l x).length : Int) - (l.length : Int) = one (!isIn l x) := by
  have := len_with l x
  unfold one
  cases h : isIn l x <;> rw [h] at this <;> simp at this ⊢ <;> omega
theorem len_out_int {l : List Int} (h : Rise l) (x : Int) : (l.length : Int) - ((outL l x).length : Int) = one (isIn l x) := by
  have := len_out h x
  unfold one
  cases h : isIn l x <;> rw [h] at this <;> simp at this ⊢ <;> omega
theorem with_le (l : List Int) (x : Int) : (withL l x).length ≤ l.length + 1 := by have := len_with l x; split at this <;> omega
theorem out_le {l : List Int} (h : Rise l) (x : Int) : (outL l x).length ≤ l.length := by have := len_out h x; split at this <;> omega

theorem insert_any (A : Option Addr) (c : Nat) (l : List Int) (x : Int) (w : World) (hA : Ints w A l) (hlen : l.length ≤ 900) (hc : l.length ≤ c) (hr : Rise l) :
    Calls Try.prog 38 #[.slice A l.length c, .int .i64 x] w (DoPost (withL l x) (one (!isIn l x)) w) := by
  have H := with_any A c l x w hA hlen hc hr
  unfold CopyPost at H
  have hle := with_le l x
  have HE := Lib.hid (len_with_int l x)
  generalize withL l x = m at *
  clear hA
  go_enter Try.func38, Try.ntmps38
  go_wp2_with fail
  refine H.mono ?_
  rintro e w1 ⟨g, cap, rfl, ho, hB1⟩
  go_wp2
  refine bodyPost_ret (v := .tuple #[.slice (some ⟨g, 0, none⟩) m.length cap, .int .i64 ((m.length : Int) - (l.length : Int))]) (by simp [results, Try.f38, go_sem]) rfl ?_
  rw [HE.out]
  exact ⟨g, cap, rfl, ho, hB1⟩
theorem remove_any (A : Option Addr) (c : Nat) (l : List Int) (x : Int) (w : World) (hA : Ints w A l) (hlen : l.length ≤ 900) (hc : l.length ≤ c) (hr : Rise l) :
    Calls Try.prog 39 #[.slice A l.length c, .int .i64 x] w (DoPost (outL l x) (one (isIn l x)) w) := by
  have H := without_any A c l x w hA hlen hc hr
  unfold CopyPost at H
  have hle := out_le hr x
  have HE := Lib.hid (len_out_int hr x)
  generalize outL l x = m at *
  clear hA
  go_enter Try.func39, Try.ntmps39
  go_wp2_with fail
  refine H.mono ?_
  rintro e w1 ⟨g, cap, rfl, ho, hB1⟩
  go_wp2
  refine bodyPost_ret (v := .tuple #[.slice (some ⟨g, 0, none⟩) m.length cap, .int .i64 ((l.length : Int) - (m.length : Int))]) (by simp [results, Try.f39, go_sem]) rfl ?_
  rw [HE.out]
  exact ⟨g, cap, rfl, ho, hB1⟩
theorem has_any (A : Option Addr) (c : Nat) (l : List Int) (x : Int) (w : World) (hA : Ints w A l) (hlen : l.length ≤ 900) (hr : Rise l) :
    Calls Try.prog 40 #[.slice A l.length c, .int .i64 x] w (DoPost l (one (isIn l x)) w) := by
  have HF := find_any A c l x w hA (by omega) hr
  unfold foundV at HF
  have HA := Lib.hid hA
  have HAG := fun W (h : Below w.heap.size w W) => again_any A c l W (HA.out.below h) (by omega)
  clear hA
  cases hin : isIn l x
  all_goals rw [hin] at HF
  · go_enter Try.func40, Try.ntmps40
    go_wp2_with fail
    refine HF.mono ?_
    rintro e w1 ⟨rfl, hB1⟩
    go_wp2_with fail
    refine (HAG w1 hB1).mono ?_
    rintro e w2 ⟨g, cap, rfl, ho, hB2⟩
    go_wp2
    refine bodyPost_ret (v := .tuple #[.slice (some ⟨g, 0, none⟩) l.length cap, .int .i64 0]) (by simp [results, Try.f40, go_sem]) rfl ?_
    exact ⟨g, cap, rfl, row_more ho hB1.size, nxt hB1 hB2 hB1.size⟩
  · go_enter Try.func40, Try.ntmps40
    go_wp2_with fail
    refine HF.mono ?_
    rintro e w1 ⟨rfl, hB1⟩
    go_wp2_with fail
    refine (HAG w1 hB1).mono ?_
    rintro e w2 ⟨g, cap, rfl, ho, hB2⟩
    go_wp2
    refine bodyPost_ret (v := .tuple #[.slice (some ⟨g, 0, none⟩) l.length cap, .int .i64 1]) (by simp [results, Try.f40, go_sem]) rfl ?_
    exact ⟨g, cap, rfl, row_more ho hB1.size, nxt hB1 hB2 hB1.size⟩
theorem size_any (A : Option Addr) (c : Nat) (l : List Int) (x : Int) (w : World) (hA : Ints w A l) (hlen : l.length ≤ 900) :
    Calls Try.prog 41 #[.slice A l.length c, .int .i64 x] w (DoPost l l.length w) := by
  have H := again_any A c l w hA (by omega)
  unfold CopyPost at H
  clear hA
  go_enter Try.func41, Try.ntmps41
  go_wp2_with fail
  refine H.mono ?_
  rintro e w1 ⟨g, cap, rfl, ho, hB1⟩
  go_wp2
  refine bodyPost_ret (v := .tuple #[.slice (some ⟨g, 0, none⟩) l.length cap, .int .i64 l.length]) (by simp [results, Try.f41, go_sem]) rfl ?_
  exact ⟨g, cap, rfl, ho, hB1⟩
def kindsV : Value := .agg #[.nilFunc, .nilFunc, .nilFunc, .func (.func 38) #[] #[], .func (.func 39) #[] #[], .func (.func 40) #[] #[], .func (.func 41) #[] #[]]
theorem kinds_any (w : World) : Calls Try.prog 30 #[] w (Says kindsV w) := by
  go_enter Try.func30, Try.ntmps30
  go_wp2
  refine bodyPost_ret (v := kindsV) (by simp [results, Try.f30, go_sem, kindsV]) rfl ?_
  exact ⟨rfl, alloc1 w _⟩
end Go.Proofs.Ytmhnnilfehankaa
