/- slices.Grow of nothing, slices.Concat, of numbers. -/
import Derived.Test.YtdanihadkchbbaaMaS
import Derived.Lib.AppendZeros
namespace Go.Proofs.Ytdanihadkchbbaa
open Go.RowKit Go.Maps
set_option linter.unusedVariables false
set_option linter.unusedSimpArgs false

def GrowPost (w : World) (e : Ending) (w' : World) : Prop := ∃ v, e = .returned v ∧ w'.ownsRow w.heap.size 3 1 v 0 [] ∧ Below w.heap.size w w'

set_option maxHeartbeats 1000000 in
theorem grow_any (n : Nat) (w : World) (hn : n ≤ 100000) : Calls Try.prog 44 #[.slice none 0 0, .int .i64 n] w (GrowPost w) := by
  obtain ⟨i0, hi, hz0, hz1, hz2⟩ := info_parts info_int
  have h1 : decide ((n : Int) < 0) = false := decide_eq_false (by omega)
  by_cases h0 : n = 0
  · subst h0
    go_enter Try.func44, Try.ntmps44
    go_wp2
    go_ret
    exact ⟨_, rfl, World.ownsRow_nil _ _ _ _, Below.refl _ _⟩
  · have h2 : decide ((n : Int) > 0) = true := decide_eq_true (by omega)
    have h3 : decide (0 < (n : Int)) = true := decide_eq_true (by omega)
    have hr := fun ty => Lib.run_append_nil_zeros (P := Try.prog) w 22 3 ty 3 i0 (.int .i64 0) .i64 .i64 Try.underlying22 Try.underlying3 hi hz0 n (by omega) (by rw [hz1]; omega) (by omega) (by rw [hz2]; omega)
    have hG := grownCap_ge w n 0 3
    have hM := grownCap_le_maxLen w n 0 3 (by unfold maxLen; omega)
    obtain ⟨G, hGe⟩ : ∃ G, G = grownCap w n 0 3 := ⟨_, rfl⟩
    rw [← hGe] at hr hG hM
    have hM2 : G ≤ 9223372036854775807 := by unfold maxLen at hM; omega
    have g1 : (0 : Int) ≤ (G : Int) := by omega
    obtain ⟨cs, hcs⟩ : ∃ cs, cs = Builtin.zeroCells (Value.int .i64 0).cells n ++ Builtin.zeroCells (Value.int .i64 0).cells (G - n) := ⟨_, rfl⟩
    rw [← hcs] at hr
    have hsz : cs.size = G * 1 := by rw [hcs, Array.size_append, size_zeroCells, size_zeroCells]; show n * 1 + (G - n) * 1 = G * 1; omega
    have HS := Lib.hid hsz
    have HM := Lib.hid hM
    clear hGe hcs hsz hM
    go_enter Try.func44, Try.ntmps44
    go_wp2_with (at_builtin; refine Lib.wpList_append_run _ rfl _ _ _ _ rfl _ _ rfl rfl _ _ (hr _) ?_)
    go_ret
    refine ⟨_, rfl, ?_, ?_⟩
    · exact World.ownsRow_made w.drew cs G (Nat.le_refl _) HM.out HS.out
    · exact (Below.refl _ w).drew.alloc (Nat.le_refl _) _

/-- One of the slices that are put together. -/
structure Part where
  A : Option Addr
  c : Nat
  l : List Int
def sumP (ps : List Part) : Nat := (ps.map (·.l.length)).sum
def catP (ps : List Part) : List Int := ps.flatMap (·.l)
theorem cat_len (ps : List Part) : (catP ps).length = sumP ps := by
  induction ps with
  | nil => rfl
  | cons p r ih => simp only [catP, sumP, List.flatMap_cons, List.length_append, List.map_cons, List.sum_cons] at ih ⊢; rw [ih]
theorem sum_snoc (ps : List Part) (k : Nat) (p : Part) (h : ps[k]? = some p) : sumP (ps.take (k + 1)) = sumP (ps.take k) + p.l.length := by
  unfold sumP; rw [List.take_add_one, h]; simp
theorem cat_snoc (ps : List Part) (k : Nat) (p : Part) (h : ps[k]? = some p) : catP (ps.take (k + 1)) = catP (ps.take k) ++ p.l := by
  unfold catP; rw [List.take_add_one, h]; simp
theorem sum_take (ps : List Part) (k : Nat) : sumP (ps.take k) ≤ sumP ps := by
  conv => rhs; rw [← List.take_append_drop k ps]
  unfold sumP; rw [List.map_append, List.sum_append]; omega
theorem intsOf_app (a b : List Int) : intsOf (a ++ b) = intsOf a ++ intsOf b := by simp [intsOf]

set_option maxRecDepth 100000 in
set_option maxHeartbeats 1000000 in
theorem concat_any (b c : Nat) (ps : List Part) (w : World) (hb : b < w.heap.size) (hlen : ps.length ≤ 1000) (hsum : sumP ps ≤ 10000)
    (hcell : ∀ j p, ps[j]? = some p → w.cell? ⟨b, j, none⟩ = some (.slice p.A p.l.length p.c)) (hI : ∀ p ∈ ps, Ints w p.A p.l) :
    Calls Try.prog 34 #[.slice (some ⟨b, 0, none⟩) ps.length c] w (RowPost (catP ps) w) := by
  have HC := Lib.hid hcell
  have HI := Lib.hid hI
  clear hcell hI
  go_enter Try.func34, Try.ntmps34
  go_wp2
  go_loopw [3, 5, 11] (fun s3 s5 s11 wr => ∃ k m : Nat, k ≤ ps.length ∧ m = sumP (ps.take k) ∧ s3 = .int .i64 m ∧ s11 = .int .i64 k ∧ w = wr) (fun s3 s5 s11 wr => ps.length - (intOf s11).toNat)
  case atStart => exact ⟨0, 0, Nat.zero_le _, rfl, rfl, rfl, rfl⟩
  case round =>
    obtain ⟨k, m, hk, hm, rfl, rfl, rfl⟩ := hrel
    have HM := Lib.hid hm
    have hmb : m ≤ 10000 := by have := sum_take ps k; omega
    clear hm
    by_cases hlt : k < ps.length
    · obtain ⟨p, hp⟩ : ∃ p, ps[k]? = some p := ⟨_, List.getElem?_eq_getElem hlt⟩
      have hcell := HC.out k p hp
      have hst := sum_snoc ps k p hp
      have hmb2 := sum_take ps (k + 1)
      rw [← HM.out] at hst
      have HST := Lib.hid hst
      have hbd : m + p.l.length ≤ 10000 := by omega
      have g0 : (0 : Int) ≤ (k : Int) := by omega
      have g1 : (k : Int) < (ps.length : Int) := by omega
      have g2 : decide ((m : Int) + (p.l.length : Int) < 0) = false := decide_eq_false (by omega)
      clear hst hmb2 hp
      go_wp2
      go_roundw
      case rel => exact ⟨k + 1, m + p.l.length, by omega, HST.out.symm, by go_num, by go_num, by first | exact rfl | trivial⟩
      case measure => simp [intOf]; omega
    · obtain rfl : k = ps.length := by omega
      have HM2 : Hid (m = sumP ps) := Lib.hid (by rw [HM.out, List.take_length])
      clear HM
      go_wp2_with fail
      refine (grow_any m _ (by omega)).mono ?_
      rintro e w1 ⟨v1, rfl, ho1, hB1⟩
      have HO1 := Lib.hid ho1
      have HB1 := Lib.hid hB1
      clear ho1
      go_wp2
      go_loopw [6, 8, 27] (fun s6 s8 s27 wr => ∃ k m : Nat, k ≤ ps.length ∧ m = sumP (ps.take k) ∧ s27 = .int .i64 k ∧ wr.ownsRow w.heap.size 3 1 s6 m (intsOf (catP (ps.take k))) ∧ Below w.heap.size w wr) (fun s6 s8 s27 wr => ps.length - (intOf s27).toNat)
      case atStart => exact ⟨0, 0, Nat.zero_le _, rfl, rfl, HO1.out, HB1.out⟩
      case round =>
        obtain ⟨k, m, hk, hm, rfl, ho, hB⟩ := hrel
        have HM := Lib.hid hm
        have hmb : m ≤ 10000 := by have := sum_take ps k; omega
        have HO := Lib.hid ho
        have HB := Lib.hid hB
        have hsz := hB.size
        clear hm ho hB
        by_cases hlt : k < ps.length
        · obtain ⟨p, hp⟩ : ∃ p, ps[k]? = some p := ⟨_, List.getElem?_eq_getElem hlt⟩
          have hcell := (HB.out.cell (p := ⟨b, k, none⟩) hb).trans (HC.out k p hp)
          have hst := sum_snoc ps k p hp
          have hmb2 := sum_take ps (k + 1)
          rw [← HM.out] at hst
          have HST := Lib.hid hst
          have hbd : m + p.l.length ≤ 10000 := by omega
          have HCT := Lib.hid (cat_snoc ps k p hp)
          have HA := Lib.hid ((HI.out p (List.mem_of_getElem? hp)).below HB.out)
          have g0 : (0 : Int) ≤ (k : Int) := by omega
          have g1 : (k : Int) < (ps.length : Int) := by omega
          clear hst hmb2 hp
          go_wp2_with (at_builtin; refine wpList_app _ rfl _ _ 22 rfl w.heap.size Try.underlying22 _ _ _ rfl HO.out p.A p.l.length p.c p.l rfl rfl HA.out (by omega) (by omega) hsz ?_; intro v3 w3 hown3 hg3 hn3)
          go_roundw
          case rel => exact ⟨k + 1, m + p.l.length, by omega, HST.out.symm, by go_num, by rw [HCT.out, intsOf_app]; exact hown3, HB.out.grown hg3 hsz (fun r e => (HO.out.lt r e).1)⟩
          case measure => simp [intOf]; omega
        · obtain rfl : k = ps.length := by omega
          go_wp2
          go_ret
          have := HO.out
          rw [List.take_length] at this
          exact row_ends this HB.out
end Go.Proofs.Ytdanihadkchbbaa
