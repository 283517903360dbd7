/- TokenJoins, walked. -/
import Derived.Test.YtmmehfpkcheaiaaTkL
import Derived.Test.YtmmehfpkcheaiaaTkR
namespace Go.Proofs.Ytmmehfpkcheaiaa
open Go.RowKit
set_option linter.unusedVariables false

set_option maxHeartbeats 1000000 in
theorem texts_same (A A' : Option Addr) (c c' : Nat) (ss : List ByteArray) (w : World) (B : Nat) (h1 : Strs B w A ss) (h2 : Strs B w A' ss) (hm : ss.length ≤ 1000000) :
    Calls Try.prog 17 #[.slice A ss.length c, .slice A' ss.length c'] w fun e w' => e = .returned (.bool true) ∧ ∃ n, w' = w.drewN n := by
  have H1 := Lib.hid h1
  have H2 := Lib.hid h2
  have k0 : ((ss.length : Int) != (ss.length : Int)) = false := by simp
  clear h1 h2
  go_enter Try.func17, Try.ntmps17
  go_wp2
  go_loopw [5] (fun i wr => ∃ k n : Nat, k ≤ ss.length ∧ i = .int .i64 k ∧ wr = w.drewN n) (fun i wr => ss.length - (intOf i).toNat)
  case atStart => exact ⟨0, 0, Nat.zero_le _, rfl, rfl⟩
  case round =>
    obtain ⟨k, n, hk, rfl, rfl⟩ := hrel
    by_cases hlt : k < ss.length
    · obtain ⟨b, off, rfl, hb, hc⟩ := H1.out (by omega)
      obtain ⟨b', off', rfl, hb', hc'⟩ := H2.out (by omega)
      have c1 := hc k hlt
      have c2 := hc' k hlt
      generalize ss[k]?.getD ⟨#[]⟩ = s at *
      have m3 : (s.toList == s.toList) = true := by simp
      have hk0 : (0 : Int) ≤ (k : Int) := by omega
      have hk1 : (k : Int) < (ss.length : Int) := by omega
      clear hc hc'
      go_wp2_with fail
      go_quiet (fail)
      go_wp2
      go_roundw
      case rel => exact ⟨k + 1, _, by omega, by go_num, rfl⟩
      case measure => simp [intOf]; omega
    · have hd : decide (k < ss.length) = false := decide_eq_false hlt
      go_wp2
      go_ret
      exact ⟨rfl, n, rfl⟩

def strsOf (ss : List ByteArray) : List Value := ss.map Value.string
theorem info_str : (Try.prog.info? 9).map (fun i => (i.zero, i.size, i.bytes)) = some (some (.string ⟨#[]⟩), 1, 16) := by kernel_rfl

theorem strs_own {w : World} {base : Nat} {A : Option Addr} {c : Nat} {ss : List ByteArray} (h : w.ownsRow base 9 1 (.slice A ss.length c) ss.length (strsOf ss)) : Strs w.heap.size w A ss := by
  intro hl
  rcases h.2 with ⟨e, hn⟩ | ⟨g, cap, cur, e, hb, hg, _⟩
  · omega
  · cases e
    refine ⟨g, 0, rfl, (Array.getElem?_eq_some_iff.1 hg).1, fun j hj => ?_⟩
    rw [Nat.zero_add, h.cellAt j (by omega), strsOf, List.getElem?_map, List.getElem?_eq_getElem hj]; rfl

theorem add_plain (b off j : Nat) : (⟨b, off, none⟩ : Addr).add j = ⟨b, off + j, none⟩ := by unfold Addr.add; split <;> simp_all

theorem szs_bound (ss : List ByteArray) (h : ∀ s ∈ ss, s.size ≤ 140737488351232) : szs ss ≤ ss.length * 140737488351232 := by
  induction ss with
  | nil => simp [szs]
  | cons a r ih =>
    have e : szs (a :: r) = a.size + szs r := by simp [szs]
    have h1 := h a List.mem_cons_self
    have h2 := ih (fun s hs => h s (List.mem_cons_of_mem _ hs))
    rw [e, List.length_cons, Nat.add_mul]
    omega

theorem szs_k (ss : List ByteArray) (h : ∀ s ∈ ss, s.size ≤ 140737488351232) (k : Nat) (hk : k ≤ 61) : szs (ss.take k) ≤ 8584986789425152 := by
  have h1 := szs_bound (ss.take k) (fun s hs => h s (List.mem_of_mem_take hs))
  have h2 : (ss.take k).length ≤ 61 := by rw [List.length_take]; omega
  have h3 : (ss.take k).length * 140737488351232 ≤ 61 * 140737488351232 := Nat.mul_le_mul_right _ h2
  omega

set_option maxHeartbeats 2000000 in
theorem joins_law (A : Option Addr) (c : Nat) (ss : List ByteArray) (w : World) (hA : Strs w.heap.size w A ss) (hnil : A = none → c = 0) (hm : ss.length ≤ 140737488351232) (hz : ∀ s ∈ ss, s.size ≤ 140737488351232) :
    Calls Try.prog 4 #[.slice A ss.length c] w (Yes w) := by
  have HZ := Lib.hid (szs_k ss hz)
  have HNil := Lib.hid hnil
  clear hnil
  have HA := Lib.hid hA
  have HT := Lib.hid (szs_take ss)
  clear hz hA
  go_enter Try.func4, Try.ntmps4
  go_wp2
  go_loop [3, 4] (fun s3 i => ∃ k z : Nat, k ≤ ss.length ∧ k ≤ 61 ∧ i = .int .i64 k ∧ s3 = .int .i64 z ∧ z = szs (ss.take k)) (fun s3 i => 61 - (intOf i).toNat)
  case atStart => exact ⟨0, 0, Nat.zero_le _, by omega, rfl, rfl, by simp [szs]⟩
  case round =>
    obtain ⟨k, z, hk, hk61, rfl, rfl, hzk⟩ := hrel
    have hzb : z ≤ 8584986789425152 := by rw [hzk]; exact HZ.out k hk61
    have HZK := Lib.hid hzk
    clear hzk
    by_cases hlt : k < ss.length ∧ k < 61
    · obtain ⟨hlt, h61⟩ := hlt
      obtain ⟨b, off, rfl, hb, hc⟩ := HA.out (by omega)
      have hck := hc k hlt
      have hst := HT.out k hlt
      have hzb2 := HZ.out (k + 1) (by omega)
      obtain ⟨s, hs⟩ : ∃ s, ss[k]?.getD ⟨#[]⟩ = s := ⟨_, rfl⟩
      rw [hs] at hck hst
      have hsz : z + s.size ≤ 8584986789425152 := by rw [hst, ← HZK.out] at hzb2; exact hzb2
      have HST := Lib.hid hst
      clear hs hst hc hzb2
      go_wp2
      go_roundw
      case rel => exact ⟨k + 1, z + s.size, by omega, by omega, by go_num, by go_num, by rw [HST.out, HZK.out]⟩
      case measure => simp [intOf]; omega
    · by_cases h60 : 60 < ss.length
      · have h61 : ¬ k < 61 := by omega
        have hd1 : decide (k < 61) = false := decide_eq_false h61
        have hd2 : decide ((60 : Int) < (ss.length : Int)) = true := decide_eq_true (by omega)
        have hlt1 : decide (k < ss.length) = true ∨ decide (k < ss.length) = false := by cases decide (k < ss.length) <;> simp
        rcases hlt1 with hl1 | hl1
        all_goals
          go_wp2_with fail
          refine (awake_yes _).mono ?_
          rintro e w1 ⟨rfl, hB1⟩
          go_wp2
          go_ret
          exact ⟨rfl, hB1⟩
      · have hkl : ¬ k < ss.length := by omega
        have hl1 : decide (k < ss.length) = false := decide_eq_false hkl
        have hd2 : decide ((60 : Int) < (ss.length : Int)) = false := decide_eq_false (by omega)
        have htk : ss.take k = ss := List.take_of_length_le (by omega)
        have hzs : szs ss = z := by rw [HZK.out, htk]
        have HZS := Lib.hid hzs
        clear htk hzs
        by_cases h7 : 70000 < z
        · have hd3 : decide ((70000 : Int) < (z : Int)) = true := decide_eq_true (by omega)
          go_wp2_with fail
          refine (awake_yes _).mono ?_
          rintro e w1 ⟨rfl, hB1⟩
          go_wp2
          go_ret
          exact ⟨rfl, hB1⟩
        · have hd3 : decide ((70000 : Int) < (z : Int)) = false := decide_eq_false (by omega)
          obtain ⟨i0, hi, hz0, hz1, hz2⟩ := info_parts info_str
          have hzt : szs ss ≤ 1000000 := by rw [HZS.out]; omega
          have hrow := World.ownsRow_lit (base := w.heap.size) (e := 9) (size := 1) w #[] 0 (Nat.le_refl _) (Nat.zero_le _) rfl
          have k1 : ((jE ss) == (jE ss)) = true := by simp
          obtain ⟨st, hst⟩ : ∃ st, strOfNums (jS ss) = st := ⟨_, rfl⟩
          have k2 : (st.toList == st.toList) = true := by simp
          have HJ := fun (A c W) (h : Strs w.heap.size W A ss) (hW : w.heap.size ≤ W.heap.size) => join_any A c ss W (h.mono hW) (by omega) hzt
          have HR := fun (A c W) (h : Strs w.heap.size W A ss) (hW : w.heap.size ≤ W.heap.size) => rjoin_any A c ss W (h.mono hW) (by omega) hzt
          have HJ2 := fun (A c W) (h : Strs (World.heap W).size W A ss) => join_any A c ss W h (by omega) hzt
          unfold JoinPost at HJ HR HJ2
          rw [hst] at HJ HR HJ2
          generalize jE ss = er at *
          clear hst
          have HJ2' := Lib.hid HJ2
          have HR' := Lib.hid HR
          clear HJ HJ2 HR
          cases A with
          | none =>
            have e : ss = [] := List.eq_nil_of_length_eq_zero (by
              rcases Nat.eq_zero_or_pos ss.length with h | h
              · exact h
              · obtain ⟨b, off, e, _⟩ := HA.out h; cases e)
            subst e
            obtain rfl : c = 0 := HNil.out rfl
            have hB1 : Below w.heap.size w (w.alloc (.cells #[] 9)) := (Below.refl _ _).alloc (Nat.le_refl _) _
            go_wp2_with fail
            refine (HJ2'.out _ _ _ (fun h => absurd h (by simp))).mono ?_
            rintro e w2 ⟨rfl, hB2⟩
            replace hB2 := Below.next hB1 hB2 (Nat.le_refl _)
            go_wp2_with fail
            refine (HR'.out _ _ _ (fun h => absurd h (by simp)) hB2.size).mono ?_
            rintro e w3 ⟨rfl, hB3⟩
            replace hB3 := Below.next hB2 hB3 (Nat.le_refl _)
            go_wp2_with fail
            refine (texts_same _ _ _ _ [] _ 0 (fun h => absurd h (by simp)) (fun h => absurd h (by simp)) (by simp)).mono ?_
            rintro e w4 ⟨rfl, n4, rfl⟩
            go_wp2_with fail
            refine (awake_yes _).mono ?_
            rintro e w5 ⟨rfl, hB5⟩
            replace hB5 := Below.next (below_drewN hB3 n4) hB5 (Nat.le_refl _)
            go_wp2
            go_ret
            exact ⟨rfl, hB5⟩
          | some ad =>
            have hsrc : ∀ j u, (strsOf ss)[j]? = some u → (w.alloc (.cells #[] 9)).cell? (ad.add j) = some u := by
              intro j u hu
              have hj : j < ss.length := by
                rcases Nat.lt_or_ge j ss.length with h | h
                · exact h
                · rw [List.getElem?_eq_none (by simp [strsOf]; omega)] at hu; cases hu
              obtain ⟨b, off, e, hb, hc⟩ := HA.out (by omega)
              injection e with e
              subst e
              rw [add_plain, World.cell?_alloc_lt _ _ _ hb, hc j hj]
              simp [strsOf, List.getElem?_eq_getElem hj] at hu ⊢
              exact hu
            have HS := Lib.hid hsrc
            have HRow := Lib.hid hrow
            clear hsrc hrow
            go_wp2_with (at_builtin; refine wpList_append_own_at _ rfl _ _ 39 rfl w.heap.size 9 i0 (.string ⟨#[]⟩) 1 16 Try.underlying39 hi hz0 hz1 hz2 rfl (by decide) _ _ _ rfl HRow.out ad ss.length c (strsOf ss) rfl (by simp [strsOf]) HS.out (by intro u hu; simp [strsOf] at hu; obtain ⟨x, _, rfl⟩ := hu; rfl) (by simp only [maxLen]; omega) (by omega) (by simp) ?_; intro v1 w1 hown1 hg1 hnil1 hat1; rw [Nat.zero_add, List.nil_append] at hown1; obtain ⟨A1, c1, rfl⟩ := row_one hown1)
            have HS1 := Lib.hid (strs_own hown1)
            have hB1 : Below w.heap.size w w1 := ((Below.refl _ w).alloc (Nat.le_refl _) _).grown hg1 (by simp) (fun k hk => by cases hk; exact Nat.le_refl _)
            have hs1 := hB1.size
            clear hown1 hnil1 hat1 hg1
            refine (HJ2'.out _ _ _ HS1.out).mono ?_
            rintro e w2 ⟨rfl, hB2⟩
            have HS2 := Lib.hid (HS1.out.below hB2)
            have hs2 := hB2.size
            replace hB2 := Below.next hB1 hB2 (Nat.le_refl _)
            go_wp2_with fail
            refine (HR'.out _ _ _ (HA.out.below hB2) hB2.size).mono ?_
            rintro e w3 ⟨rfl, hB3⟩
            have HS3 := Lib.hid (HS2.out.below (hB3.mono hs2))
            replace hB3 := Below.next hB2 hB3 (Nat.le_refl _)
            go_wp2_with fail
            refine (texts_same _ _ _ _ ss _ w1.heap.size HS3.out ((HA.out.below hB3).mono hs1) (by omega)).mono ?_
            rintro e w4 ⟨rfl, n4, rfl⟩
            go_wp2_with fail
            refine (awake_yes _).mono ?_
            rintro e w5 ⟨rfl, hB5⟩
            replace hB5 := Below.next (below_drewN hB3 n4) hB5 (Nat.le_refl _)
            go_wp2
            go_ret
            exact ⟨rfl, hB5⟩
end Go.Proofs.Ytmmehfpkcheaiaa
