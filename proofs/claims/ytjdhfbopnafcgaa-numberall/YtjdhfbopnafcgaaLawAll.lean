/- NumberAll, walked. -/
import Derived.Test.YtjdhfbopnafcgaaLawSums
namespace Go.Proofs.Ytjdhfbopnafcgaa
open Go.RowKit
set_option linter.unusedVariables false

/-- Where a number points in a list of length n. -/
def pick (x n : Int) : Int := if x.tmod n < 0 then x.tmod n + n else x.tmod n
theorem pick_bd (x n : Int) (hn : 0 < n) : 0 ≤ pick x n ∧ pick x n < n := by
  have h1 := Int.tmod_lt_of_pos x hn
  have h2 : -n < x.tmod n := by
    have := Int.neg_tmod x n
    have h3 := Int.tmod_lt_of_pos (-x) hn
    omega
  unfold pick; split <;> omega

set_option maxHeartbeats 1000000 in
theorem pick_any (x : Int) (n : Nat) (w : World) (h1 : -9223372036854775808 ≤ x) (h2 : x ≤ 9223372036854775807) (hn : 0 < n) (hn2 : n ≤ 1000) :
    Calls Try.prog 25 #[.int .i64 x, .int .i64 n] w fun e w' => e = .returned (.int .i64 (pick x n)) ∧ w' = w := by
  have g1 := Int.tmod_lt_of_pos x (show (0 : Int) < n by omega)
  have g2 : -(n : Int) < x.tmod n := by
    have := Int.neg_tmod x n
    have h3 := Int.tmod_lt_of_pos (-x) (show (0 : Int) < n by omega)
    omega
  have k0 : ((n : Int) == 0) = false := by simp; omega
  by_cases hneg : x.tmod n < 0
  · have HP : Hid (pick x n = x.tmod n + n) := by show pick x n = _; unfold pick; rw [if_pos hneg]
    go_enter Try.func25, Try.ntmps25
    go_wp2
    go_ret
    exact ⟨ret_int (by rw [HP.out]), rfl⟩
  · have HP : Hid (pick x n = x.tmod n) := by show pick x n = _; unfold pick; rw [if_neg hneg]
    go_enter Try.func25, Try.ntmps25
    go_wp2
    go_ret
    exact ⟨ret_int (by rw [HP.out]), rfl⟩

theorem tot_set : ∀ (l : List Int) (i : Nat) (v : Int), i < l.length → tot (l.set i v) = tot l - l[i]?.getD 0 + v
  | [], _, _, h => by simp at h
  | x :: r, 0, v, _ => by rw [List.set_cons_zero, tot_cons, tot_cons]; simp; omega
  | x :: r, i + 1, v, h => by
    rw [List.set_cons_succ, tot_cons, tot_cons, tot_set r i v (by simpa using h)]
    simp <;> omega
theorem tot_swap (l : List Int) (i j : Nat) (x y : Int) (hi : i < l.length) (hj : j < l.length) (hx : l[i]? = some x) (hy : l[j]? = some y) : tot ((l.set i y).set j x) = tot l := by
  rw [tot_set _ _ _ (by simpa using hj), tot_set _ _ _ hi, List.getElem?_set, hx]
  by_cases h : i = j
  · subst h
    rw [hx] at hy; injection hy with hy
    simp [hi] <;> omega
  · rw [if_neg h, hy]; simp only [Option.getD_some]; omega
theorem small_swap {l : List Int} (h : ∀ z ∈ l, Small z) {i j : Nat} {x y : Int} (hx : l[i]? = some x) (hy : l[j]? = some y) : ∀ z ∈ (l.set i y).set j x, Small z := by
  intro z hz
  rcases List.mem_or_eq_of_mem_set hz with h1 | rfl
  · rcases List.mem_or_eq_of_mem_set h1 with h2 | rfl
    · exact h z h2
    · exact h _ (List.mem_of_getElem? hy)
  · exact h _ (List.mem_of_getElem? hx)

theorem all_tot {l m : List Int} (h : tot m = tot l) : allN m = allN l ∧ allE m = allE l := by unfold allN allE; rw [h]; exact ⟨rfl, rfl⟩

theorem int_cell {w : World} {base g cap n : Nat} {ys : List Int} (h : w.ownsRow base 3 1 (.slice (some ⟨g, 0, none⟩) n cap) n (intsOf ys)) {j : Nat} {a : Int} (hj : j < n) (ha : ys[j]? = some a) :
    w.cell? ⟨g, j, none⟩ = some (.int .i64 a) ∧ w.frozen? ⟨g, j, none⟩ = false := by
  refine ⟨?_, h.frozenAt j⟩
  rw [h.cellAt j (by omega), intsOf, List.getElem?_map, ha]; rfl

def WrapOf (l : List Int) (k : Nat) (V : Int) : Prop := V = wrap64 (tot (l.take k))
theorem wrap_start (l : List Int) : WrapOf l 0 0 := by unfold WrapOf; rw [List.take_zero]; unfold wrap64; rfl
theorem wrap_step {l : List Int} {k : Nat} {V : Int} (h : WrapOf l k V) (hk : k < l.length) : WrapOf l (k + 1) (wrap64 (V + l[k]?.getD 0)) := by
  unfold WrapOf at h ⊢; rw [tot_take l k hk, h]; unfold wrap64; omega
theorem wrap_end {l : List Int} {k : Nat} {V : Int} (h : WrapOf l k V) (hk : l.length ≤ k) (hin : -9223372036854775808 ≤ tot l ∧ tot l ≤ 9223372036854775807) : V = tot l := by
  unfold WrapOf at h; rw [h, List.take_of_length_le hk]; exact IntWalk.wrap64_in _ hin
def SumOf (l : List Int) (k : Nat) (S E : Int) : Prop := Small S ∧ ((E = 0 ∧ S = tot (l.take k)) ∨ E = 3)
theorem sum_start (l : List Int) : SumOf l 0 0 0 := ⟨⟨by omega, by omega⟩, .inl ⟨rfl, by rw [List.take_zero]; rfl⟩⟩
theorem sum_step {l : List Int} {k : Nat} {S : Int} (h : SumOf l k S 0) (hk : k < l.length) : SumOf l (k + 1) (sumN S (l[k]?.getD 0)) (sumE S (l[k]?.getD 0)) := by
  have hS : S = tot (l.take k) := by
    rcases h.2 with ⟨_, h⟩ | h
    · exact h
    · omega
  unfold SumOf sumN sumE
  by_cases hin : -9223372036854775808 ≤ S + l[k]?.getD 0 ∧ S + l[k]?.getD 0 ≤ 9223372036854775807
  · rw [if_pos hin, if_pos hin, tot_take l k hk, ← hS]; exact ⟨hin, .inl ⟨rfl, rfl⟩⟩
  · rw [if_neg hin, if_neg hin]; exact ⟨⟨by omega, by omega⟩, .inr rfl⟩
theorem all_in {l : List Int} (h : -9223372036854775808 ≤ tot l ∧ tot l ≤ 9223372036854775807) : allN l = tot l ∧ allE l = 0 := by
  unfold allN allE; rw [if_pos h, if_pos h]; exact ⟨rfl, rfl⟩
theorem all_out {l : List Int} (h : ¬ (-9223372036854775808 ≤ tot l ∧ tot l ≤ 9223372036854775807)) : allN l = 0 ∧ allE l = 3 := by
  unfold allN allE; rw [if_neg h, if_neg h]; exact ⟨rfl, rfl⟩

theorem all_yes2 (n e0 : Int) (A : Option Addr) (c m : Nat) (l : List Int) (w : World) (hm : l.length = m) (hA : Ints w A l) (hs : ∀ x ∈ l, Small x) (hlen : m ≤ 4611686018427387904) (h1 : allN l = n) (h2 : allE l = e0) :
    Calls Try.prog 24 #[.int .i64 n, .int .i64 e0, .slice A m c] w (Yes w) := by
  subst hm; exact all_yes n e0 A c l w hA hs hlen h1 h2

theorem swap_own {w : World} {base g cap n : Nat} {ms : List Int} (h : w.ownsRow base 3 1 (.slice (some ⟨g, 0, none⟩) n cap) n (intsOf ms)) (q p : Nat) (y z : Int) :
    ((w.setCell ⟨g, q, none⟩ (.int .i64 y)).setCell ⟨g, p, none⟩ (.int .i64 z)).ownsRow base 3 1 (.slice (some ⟨g, 0, none⟩) n cap) n (intsOf ((ms.set q y).set p z)) := by
  have h1 := (h.stored q (.int .i64 y)).1
  have h2 := (h1.stored p (.int .i64 z)).1
  have e : intsOf ((ms.set q y).set p z) = ((intsOf ms).set q (.int .i64 y)).set p (.int .i64 z) := by simp [intsOf, List.map_set]
  rw [e]; exact h2
theorem swap_below {a w : World} {B g : Nat} (h : Below B a w) (hg : B ≤ g) (q p : Nat) (y z : Int) :
    Below B a ((w.setCell ⟨g, q, none⟩ (.int .i64 y)).setCell ⟨g, p, none⟩ (.int .i64 z)) :=
  (h.setCell (p := ⟨g, q, none⟩) hg _).setCell (p := ⟨g, p, none⟩) hg _

set_option maxRecDepth 100000 in
set_option maxHeartbeats 4000000 in
theorem all_long (A B : Option Addr) (c d : Nat) (l s : List Int) (w : World) (hm : l.length ≤ maxLen) (hm2 : s.length ≤ maxLen) (hlong : 60 < l.length ∨ 60 < s.length) :
    Calls Try.prog 8 #[.slice A l.length c, .slice B s.length d] w (Yes w) := by
  unfold maxLen at hm hm2
  by_cases h1 : 60 < l.length
  · have k1 : decide (60 < l.length) = true := by simp; omega
    go_enter Try.func8, Try.ntmps8
    go_wp2_with fail
    refine (known_yes _).mono ?_
    rintro e w1 ⟨rfl, hB1⟩
    go_wp2
    go_ret
    exact ⟨rfl, hB1⟩
  · have k1 : decide (60 < l.length) = false := by simp; omega
    have h2 : 60 < s.length := by omega
    go_enter Try.func8, Try.ntmps8
    go_wp2_with fail
    refine (known_yes _).mono ?_
    rintro e w1 ⟨rfl, hB1⟩
    go_wp2
    go_ret
    exact ⟨rfl, hB1⟩

set_option maxRecDepth 100000 in
set_option maxHeartbeats 4000000 in
theorem all_short (A B : Option Addr) (c d : Nat) (l s : List Int) (w : World) (hA : Ints w A l) (hB : Ints w B s) (hs : ∀ x ∈ l, Small x) (hs2 : ∀ x ∈ s, Small x) (hl1 : l.length ≤ 60) (hl2 : s.length ≤ 60) :
    Calls Try.prog 8 #[.slice A l.length c, .slice B s.length d] w (Yes w) := by
  have k1 : decide (60 < l.length) = false := by simp; omega
  have k2 : decide (60 < s.length) = false := by simp; omega
  have HA := Lib.hid hA
  have HB := Lib.hid hB
  have HS := Lib.hid hs
  have HS2 := Lib.hid hs2
  clear hA hB hs hs2
  obtain ⟨n, hn⟩ : ∃ n, allN l = n := ⟨_, rfl⟩
  obtain ⟨e, he⟩ : ∃ e, allE l = e := ⟨_, rfl⟩
  have HN := Lib.hid hn
  have HE := Lib.hid he
  clear hn he
  have HAl := Lib.hid (all_any A c l)
  unfold AllPost at HAl
  rw [HN.out, HE.out] at HAl
  go_enter Try.func8, Try.ntmps8
  go_wp2_with fail
  refine (known_yes _).mono ?_
  rintro e1 w1 ⟨rfl, hB1⟩
  go_wp2_with fail
  refine (HAl.out _ (HA.out.below hB1) HS.out (by omega)).mono ?_
  rintro e1 w2 ⟨rfl, hB2⟩
  replace hB2 := Below.next hB1 hB2 (Nat.le_refl _)
  clear hB1
  go_wp2_with fail
  refine (copy_any A c l _ (HA.out.below hB2) (by omega)).mono ?_
  rintro e1 w3 ⟨g, cap, rfl, hown, hB3⟩
  have hbase : w.heap.size ≤ w2.heap.size := hB2.size
  have hg : w.heap.size ≤ g := Nat.le_trans hbase (hown.lt g rfl).1
  have HO := Lib.hid hown
  clear hown
  replace hB3 := Below.next hB2 hB3 (Nat.le_refl _)
  clear hB2
  go_wp2_with fail
  go_loopw [9] (fun i wr => ∃ (k : Nat) (ms : List Int), k ≤ s.length ∧ i = .int .i64 k ∧ ms.length = l.length ∧ tot ms = tot l ∧ (∀ x ∈ ms, Small x) ∧ wr.ownsRow w2.heap.size 3 1 (.slice (some ⟨g, 0, none⟩) l.length cap) l.length (intsOf ms) ∧ Below w.heap.size w wr) (fun i wr => s.length - (intOf i).toNat)
  case atStart => exact ⟨0, l, Nat.zero_le _, rfl, rfl, rfl, HS.out, HO.out, hB3⟩
  case round =>
    obtain ⟨k, ms, hk, rfl, hml, hmt, hms, hmo, hBr⟩ := hrel
    have HML := Lib.hid hml
    have HMT := Lib.hid hmt
    have HMS := Lib.hid hms
    have HMO := Lib.hid hmo
    clear hml hmt hms hmo
    by_cases hgo : k < s.length ∧ 0 < l.length
    · obtain ⟨hks, hl0⟩ := hgo
      have kk : decide (k < s.length) = true := decide_eq_true hks
      have kl : decide (0 < l.length) = true := decide_eq_true hl0
      obtain ⟨b, off, rfl, hb, hc⟩ := HB.out (by omega)
      have hck := (hBr.cell (p := ⟨b, off + k, none⟩) hb).trans (hc k hks)
      clear hc
      obtain ⟨x1, x2⟩ := small_at HS2.out k hks
      generalize s[k]?.getD 0 = x at *
      obtain ⟨p1, p2⟩ := pick_bd x l.length (by omega)
      have HP := Lib.hid (pick_any x l.length · x1 x2 hl0 (by omega))
      obtain ⟨pn, hpn⟩ := Int.eq_ofNat_of_zero_le p1
      rw [hpn] at p2 HP
      clear hpn p1
      have hq : k % l.length < l.length := Nat.mod_lt _ hl0
      have htm : Int.tmod (k : Int) (l.length : Int) = ((k % l.length : Nat) : Int) := by
        rw [Int.tmod_eq_emod_of_nonneg (by omega)]; rfl
      generalize k % l.length = q at *
      have hk0 : (0 : Int) ≤ (k : Int) := by omega
      have hk1 : (k : Int) < (s.length : Int) := by omega
      have kz : ((l.length : Int) == 0) = false := beq_eq_false_iff_ne.2 (by omega)
      go_wp2_with fail
      go_quiet ((go_at_call 25; exact Calls.quiet_of_same (HP.out _)))
      have HTM := Lib.hid htm
      clear htm
      have hp : pn < l.length := by omega
      obtain ⟨z, hz⟩ : ∃ z, ms[q]? = some z := ⟨_, List.getElem?_eq_getElem (by rw [HML.out]; exact hq)⟩
      obtain ⟨y, hy⟩ : ∃ y, ms[pn]? = some y := ⟨_, List.getElem?_eq_getElem (by rw [HML.out]; exact hp)⟩
      obtain ⟨cz, fz⟩ := int_cell HMO.out hq hz
      obtain ⟨cy, fy⟩ := int_cell HMO.out hp hy
      have HZ := Lib.hid hz
      have HY := Lib.hid hy
      clear hz hy hck
      rcases Nat.lt_trichotomy q pn with hqp | hqp | hqp
      · go_wp2_with fail
        go_region
        go_wp2
        go_roundw
        case rel => exact ⟨k + 1, (ms.set q y).set pn z, by omega, by go_num, by simp [HML.out], by rw [tot_swap ms q pn z y (by rw [HML.out]; exact hq) (by rw [HML.out]; exact hp) HZ.out HY.out, HMT.out], small_swap HMS.out HZ.out HY.out, swap_own (w := wr.drewN (nq + 1)) HMO.out q pn y z, swap_below (below_drewN hBr (nq + 1)) hg q pn y z⟩
        case measure => simp [intOf]; omega
      · subst hqp
        have hzy : z = y := by have h1 := HZ.out; rw [HY.out] at h1; injection h1 with h1; exact h1.symm
        subst hzy
        clear cy fy
        go_wp2_with fail
        go_region
        go_wp2
        go_roundw
        case rel => exact ⟨k + 1, (ms.set q z).set q z, by omega, by go_num, by simp [HML.out], by rw [tot_swap ms q q z z (by rw [HML.out]; exact hq) (by rw [HML.out]; exact hp) HZ.out HZ.out, HMT.out], small_swap HMS.out HZ.out HZ.out, swap_own (w := wr.drewN (nq + 1)) HMO.out q q z z, swap_below (below_drewN hBr (nq + 1)) hg q q z z⟩
        case measure => simp [intOf]; omega
      · go_wp2_with fail
        go_region
        go_wp2
        go_roundw
        case rel => exact ⟨k + 1, (ms.set q y).set pn z, by omega, by go_num, by simp [HML.out], by rw [tot_swap ms q pn z y (by rw [HML.out]; exact hq) (by rw [HML.out]; exact hp) HZ.out HY.out, HMT.out], small_swap HMS.out HZ.out HY.out, swap_own (w := wr.drewN (nq + 1)) HMO.out q pn y z, swap_below (below_drewN hBr (nq + 1)) hg q pn y z⟩
        case measure => simp [intOf]; omega
    · by_cases hks : k < s.length
      · have kk : decide (k < s.length) = true := decide_eq_true hks
        have kl : decide (0 < l.length) = false := decide_eq_false (by omega)
        go_wp2_with fail
        refine (all_yes2 n e _ cap _ ms _ HML.out (ints_own HML.out HMO.out) HMS.out (by omega) (by rw [(all_tot HMT.out).1, HN.out]) (by rw [(all_tot HMT.out).2, HE.out])).mono ?_
        rintro e1 w5 ⟨rfl, hB5⟩
        replace hB5 := Below.next hBr hB5 (Nat.le_refl _)
        go_wp2
        go_loop [12, 13, 14] (fun sm f i => ∃ (k2 : Nat) (S E : Int), k2 ≤ l.length ∧ i = .int .i64 k2 ∧ sm = .int .i64 S ∧ f = .int .i64 E ∧ SumOf l k2 S E) (fun sm f i => l.length - (intOf i).toNat)
        case atStart => exact ⟨0, 0, 0, Nat.zero_le _, rfl, rfl, rfl, sum_start l⟩
        case round =>
          obtain ⟨k2, S, E, hk2, rfl, rfl, rfl, hS⟩ := hrel
          have HSu := Lib.hid hS
          clear hS
          rcases HSu.out.2 with ⟨rfl, hS2⟩ | rfl
          · have HS3 := Lib.hid hS2
            clear hS2
            by_cases hlt2 : k2 < l.length
            · obtain ⟨b2, off2, rfl, hb2, hc2⟩ := (HA.out.below hB5) (by omega)
              have hck2 := hc2 k2 hlt2
              clear hc2
              obtain ⟨s1, s2⟩ := HSu.out.1
              obtain ⟨x1, x2⟩ := small_at HS.out k2 hlt2
              have HV2 := Lib.hid (sum_step HSu.out hlt2)
              generalize l[k2]?.getD 0 = x at *
              have kk2 : decide (k2 < l.length) = true := decide_eq_true hlt2
              go_wp2_with (go_at_call 15; refine (sum_any _ _ _ s1 s2 x1 x2).mono ?_; rintro e1 w6 ⟨rfl, rfl⟩)
              go_round
              case rel => exact ⟨k2 + 1, _, _, by omega, by go_num, rfl, rfl, HV2.out⟩
              case measure => simp [intOf]; omega
            · have kk2 : decide (k2 < l.length) = false := decide_eq_false hlt2
              rw [List.take_of_length_le (by omega)] at HS3
              have HIN : Hid (-9223372036854775808 ≤ tot l ∧ tot l ≤ 9223372036854775807) := by have := HSu.out.1; rw [HS3.out] at this; exact this
              go_wp2
              go_loop [15, 16] (fun wv i => ∃ (k3 : Nat) (V : Int), k3 ≤ l.length ∧ i = .int .i64 k3 ∧ wv = .int .i64 V ∧ WrapOf l k3 V) (fun wv i => l.length - (intOf i).toNat)
              case atStart => exact ⟨0, 0, Nat.zero_le _, rfl, rfl, wrap_start l⟩
              case round =>
                obtain ⟨k3, V, hk3, rfl, rfl, hV⟩ := hrel
                have HV := Lib.hid hV
                clear hV
                by_cases hlt3 : k3 < l.length
                · obtain ⟨b3, off3, rfl, hb3, hc3⟩ := (HA.out.below hB5) (by omega)
                  have hck3 := hc3 k3 hlt3
                  clear hc3
                  have HV2 := Lib.hid (wrap_step HV.out hlt3)
                  generalize l[k3]?.getD 0 = x3 at *
                  go_wp2_with (go_at_call 19; refine (wrap_any _ _ _).mono ?_; rintro e1 w6 ⟨rfl, rfl⟩)
                  go_round
                  case rel => exact ⟨k3 + 1, _, by omega, by go_num, rfl, HV2.out⟩
                  case measure => simp [intOf]; omega
                · have HW := Lib.hid (wrap_end HV.out (by omega))
                  obtain ⟨en, ee⟩ := all_in HIN.out
                  obtain rfl : e = 0 := by rw [← HE.out, ee]
                  obtain rfl : n = V := by rw [← HN.out, en, HW.out HIN.out]
                  obtain rfl : n = S := by rw [← HN.out, en, HS3.out]
                  have kn : (n == n) = true := by simp
                  go_wp2
                  go_ret
                  exact ⟨rfl, hB5⟩
          · by_cases hlt2 : k2 < l.length
            · have kk2 : decide (k2 < l.length) = true := decide_eq_true hlt2
              go_wp2
              go_loop [15, 16] (fun wv i => ∃ (k3 : Nat) (V : Int), k3 ≤ l.length ∧ i = .int .i64 k3 ∧ wv = .int .i64 V ∧ WrapOf l k3 V) (fun wv i => l.length - (intOf i).toNat)
              case atStart => exact ⟨0, 0, Nat.zero_le _, rfl, rfl, wrap_start l⟩
              case round =>
                obtain ⟨k3, V, hk3, rfl, rfl, hV⟩ := hrel
                have HV := Lib.hid hV
                clear hV
                by_cases hlt3 : k3 < l.length
                · obtain ⟨b3, off3, rfl, hb3, hc3⟩ := (HA.out.below hB5) (by omega)
                  have hck3 := hc3 k3 hlt3
                  clear hc3
                  have HV2 := Lib.hid (wrap_step HV.out hlt3)
                  generalize l[k3]?.getD 0 = x3 at *
                  go_wp2_with (go_at_call 19; refine (wrap_any _ _ _).mono ?_; rintro e1 w6 ⟨rfl, rfl⟩)
                  go_round
                  case rel => exact ⟨k3 + 1, _, by omega, by go_num, rfl, HV2.out⟩
                  case measure => simp [intOf]; omega
                · have HW := Lib.hid (wrap_end HV.out (by omega))
                  by_cases hin : -9223372036854775808 ≤ tot l ∧ tot l ≤ 9223372036854775807
                  · obtain ⟨en, ee⟩ := all_in hin
                    obtain rfl : e = 0 := by rw [← HE.out, ee]
                    obtain rfl : n = V := by rw [← HN.out, en, HW.out hin]
                    have kn : (n == n) = true := by simp
                    go_wp2
                    go_ret
                    exact ⟨rfl, hB5⟩
                  · obtain ⟨en, ee⟩ := all_out hin
                    obtain rfl : e = 3 := by rw [← HE.out, ee]
                    go_wp2
                    go_ret
                    exact ⟨rfl, hB5⟩
            · have kk2 : decide (k2 < l.length) = false := decide_eq_false hlt2
              go_wp2
              go_loop [15, 16] (fun wv i => ∃ (k3 : Nat) (V : Int), k3 ≤ l.length ∧ i = .int .i64 k3 ∧ wv = .int .i64 V ∧ WrapOf l k3 V) (fun wv i => l.length - (intOf i).toNat)
              case atStart => exact ⟨0, 0, Nat.zero_le _, rfl, rfl, wrap_start l⟩
              case round =>
                obtain ⟨k3, V, hk3, rfl, rfl, hV⟩ := hrel
                have HV := Lib.hid hV
                clear hV
                by_cases hlt3 : k3 < l.length
                · obtain ⟨b3, off3, rfl, hb3, hc3⟩ := (HA.out.below hB5) (by omega)
                  have hck3 := hc3 k3 hlt3
                  clear hc3
                  have HV2 := Lib.hid (wrap_step HV.out hlt3)
                  generalize l[k3]?.getD 0 = x3 at *
                  go_wp2_with (go_at_call 19; refine (wrap_any _ _ _).mono ?_; rintro e1 w6 ⟨rfl, rfl⟩)
                  go_round
                  case rel => exact ⟨k3 + 1, _, by omega, by go_num, rfl, HV2.out⟩
                  case measure => simp [intOf]; omega
                · have HW := Lib.hid (wrap_end HV.out (by omega))
                  by_cases hin : -9223372036854775808 ≤ tot l ∧ tot l ≤ 9223372036854775807
                  · obtain ⟨en, ee⟩ := all_in hin
                    obtain rfl : e = 0 := by rw [← HE.out, ee]
                    obtain rfl : n = V := by rw [← HN.out, en, HW.out hin]
                    have kn : (n == n) = true := by simp
                    go_wp2
                    go_ret
                    exact ⟨rfl, hB5⟩
                  · obtain ⟨en, ee⟩ := all_out hin
                    obtain rfl : e = 3 := by rw [← HE.out, ee]
                    go_wp2
                    go_ret
                    exact ⟨rfl, hB5⟩
      · have kk : decide (k < s.length) = false := decide_eq_false hks
        go_wp2_with fail
        refine (all_yes2 n e _ cap _ ms _ HML.out (ints_own HML.out HMO.out) HMS.out (by omega) (by rw [(all_tot HMT.out).1, HN.out]) (by rw [(all_tot HMT.out).2, HE.out])).mono ?_
        rintro e1 w5 ⟨rfl, hB5⟩
        replace hB5 := Below.next hBr hB5 (Nat.le_refl _)
        go_wp2
        go_loop [12, 13, 14] (fun sm f i => ∃ (k2 : Nat) (S E : Int), k2 ≤ l.length ∧ i = .int .i64 k2 ∧ sm = .int .i64 S ∧ f = .int .i64 E ∧ SumOf l k2 S E) (fun sm f i => l.length - (intOf i).toNat)
        case atStart => exact ⟨0, 0, 0, Nat.zero_le _, rfl, rfl, rfl, sum_start l⟩
        case round =>
          obtain ⟨k2, S, E, hk2, rfl, rfl, rfl, hS⟩ := hrel
          have HSu := Lib.hid hS
          clear hS
          rcases HSu.out.2 with ⟨rfl, hS2⟩ | rfl
          · have HS3 := Lib.hid hS2
            clear hS2
            by_cases hlt2 : k2 < l.length
            · obtain ⟨b2, off2, rfl, hb2, hc2⟩ := (HA.out.below hB5) (by omega)
              have hck2 := hc2 k2 hlt2
              clear hc2
              obtain ⟨s1, s2⟩ := HSu.out.1
              obtain ⟨x1, x2⟩ := small_at HS.out k2 hlt2
              have HV2 := Lib.hid (sum_step HSu.out hlt2)
              generalize l[k2]?.getD 0 = x at *
              have kk2 : decide (k2 < l.length) = true := decide_eq_true hlt2
              go_wp2_with (go_at_call 15; refine (sum_any _ _ _ s1 s2 x1 x2).mono ?_; rintro e1 w6 ⟨rfl, rfl⟩)
              go_round
              case rel => exact ⟨k2 + 1, _, _, by omega, by go_num, rfl, rfl, HV2.out⟩
              case measure => simp [intOf]; omega
            · have kk2 : decide (k2 < l.length) = false := decide_eq_false hlt2
              rw [List.take_of_length_le (by omega)] at HS3
              have HIN : Hid (-9223372036854775808 ≤ tot l ∧ tot l ≤ 9223372036854775807) := by have := HSu.out.1; rw [HS3.out] at this; exact this
              go_wp2
              go_loop [15, 16] (fun wv i => ∃ (k3 : Nat) (V : Int), k3 ≤ l.length ∧ i = .int .i64 k3 ∧ wv = .int .i64 V ∧ WrapOf l k3 V) (fun wv i => l.length - (intOf i).toNat)
              case atStart => exact ⟨0, 0, Nat.zero_le _, rfl, rfl, wrap_start l⟩
              case round =>
                obtain ⟨k3, V, hk3, rfl, rfl, hV⟩ := hrel
                have HV := Lib.hid hV
                clear hV
                by_cases hlt3 : k3 < l.length
                · obtain ⟨b3, off3, rfl, hb3, hc3⟩ := (HA.out.below hB5) (by omega)
                  have hck3 := hc3 k3 hlt3
                  clear hc3
                  have HV2 := Lib.hid (wrap_step HV.out hlt3)
                  generalize l[k3]?.getD 0 = x3 at *
                  go_wp2_with (go_at_call 19; refine (wrap_any _ _ _).mono ?_; rintro e1 w6 ⟨rfl, rfl⟩)
                  go_round
                  case rel => exact ⟨k3 + 1, _, by omega, by go_num, rfl, HV2.out⟩
                  case measure => simp [intOf]; omega
                · have HW := Lib.hid (wrap_end HV.out (by omega))
                  obtain ⟨en, ee⟩ := all_in HIN.out
                  obtain rfl : e = 0 := by rw [← HE.out, ee]
                  obtain rfl : n = V := by rw [← HN.out, en, HW.out HIN.out]
                  obtain rfl : n = S := by rw [← HN.out, en, HS3.out]
                  have kn : (n == n) = true := by simp
                  go_wp2
                  go_ret
                  exact ⟨rfl, hB5⟩
          · by_cases hlt2 : k2 < l.length
            · have kk2 : decide (k2 < l.length) = true := decide_eq_true hlt2
              go_wp2
              go_loop [15, 16] (fun wv i => ∃ (k3 : Nat) (V : Int), k3 ≤ l.length ∧ i = .int .i64 k3 ∧ wv = .int .i64 V ∧ WrapOf l k3 V) (fun wv i => l.length - (intOf i).toNat)
              case atStart => exact ⟨0, 0, Nat.zero_le _, rfl, rfl, wrap_start l⟩
              case round =>
                obtain ⟨k3, V, hk3, rfl, rfl, hV⟩ := hrel
                have HV := Lib.hid hV
                clear hV
                by_cases hlt3 : k3 < l.length
                · obtain ⟨b3, off3, rfl, hb3, hc3⟩ := (HA.out.below hB5) (by omega)
                  have hck3 := hc3 k3 hlt3
                  clear hc3
                  have HV2 := Lib.hid (wrap_step HV.out hlt3)
                  generalize l[k3]?.getD 0 = x3 at *
                  go_wp2_with (go_at_call 19; refine (wrap_any _ _ _).mono ?_; rintro e1 w6 ⟨rfl, rfl⟩)
                  go_round
                  case rel => exact ⟨k3 + 1, _, by omega, by go_num, rfl, HV2.out⟩
                  case measure => simp [intOf]; omega
                · have HW := Lib.hid (wrap_end HV.out (by omega))
                  by_cases hin : -9223372036854775808 ≤ tot l ∧ tot l ≤ 9223372036854775807
                  · obtain ⟨en, ee⟩ := all_in hin
                    obtain rfl : e = 0 := by rw [← HE.out, ee]
                    obtain rfl : n = V := by rw [← HN.out, en, HW.out hin]
                    have kn : (n == n) = true := by simp
                    go_wp2
                    go_ret
                    exact ⟨rfl, hB5⟩
                  · obtain ⟨en, ee⟩ := all_out hin
                    obtain rfl : e = 3 := by rw [← HE.out, ee]
                    go_wp2
                    go_ret
                    exact ⟨rfl, hB5⟩
            · have kk2 : decide (k2 < l.length) = false := decide_eq_false hlt2
              go_wp2
              go_loop [15, 16] (fun wv i => ∃ (k3 : Nat) (V : Int), k3 ≤ l.length ∧ i = .int .i64 k3 ∧ wv = .int .i64 V ∧ WrapOf l k3 V) (fun wv i => l.length - (intOf i).toNat)
              case atStart => exact ⟨0, 0, Nat.zero_le _, rfl, rfl, wrap_start l⟩
              case round =>
                obtain ⟨k3, V, hk3, rfl, rfl, hV⟩ := hrel
                have HV := Lib.hid hV
                clear hV
                by_cases hlt3 : k3 < l.length
                · obtain ⟨b3, off3, rfl, hb3, hc3⟩ := (HA.out.below hB5) (by omega)
                  have hck3 := hc3 k3 hlt3
                  clear hc3
                  have HV2 := Lib.hid (wrap_step HV.out hlt3)
                  generalize l[k3]?.getD 0 = x3 at *
                  go_wp2_with (go_at_call 19; refine (wrap_any _ _ _).mono ?_; rintro e1 w6 ⟨rfl, rfl⟩)
                  go_round
                  case rel => exact ⟨k3 + 1, _, by omega, by go_num, rfl, HV2.out⟩
                  case measure => simp [intOf]; omega
                · have HW := Lib.hid (wrap_end HV.out (by omega))
                  by_cases hin : -9223372036854775808 ≤ tot l ∧ tot l ≤ 9223372036854775807
                  · obtain ⟨en, ee⟩ := all_in hin
                    obtain rfl : e = 0 := by rw [← HE.out, ee]
                    obtain rfl : n = V := by rw [← HN.out, en, HW.out hin]
                    have kn : (n == n) = true := by simp
                    go_wp2
                    go_ret
                    exact ⟨rfl, hB5⟩
                  · obtain ⟨en, ee⟩ := all_out hin
                    obtain rfl : e = 3 := by rw [← HE.out, ee]
                    go_wp2
                    go_ret
                    exact ⟨rfl, hB5⟩
end Go.Proofs.Ytjdhfbopnafcgaa
