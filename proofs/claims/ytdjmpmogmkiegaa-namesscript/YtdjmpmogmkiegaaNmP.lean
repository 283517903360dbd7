/- The document's table: Order; OverInts. -/
import Derived.Test.YtdjmpmogmkiegaaNmO
namespace Go.Proofs.Ytdjmpmogmkiegaa
open Go.RowKit Go.Maps
set_option linter.unusedVariables false

/-- The order, as far as the names below k are laid in. -/
def fillO (o : List Nat) (k : Nat) : List Value := o.map fun x => if x < k then .int .i64 x else .int .i64 0

theorem fillO_zero {n : Nat} {o : List Nat} (h : o.length = n) : fillV n 0 = fillO o 0 := by
  apply List.ext_getElem
  · simp [fillV, fillO, h]
  · intro i h1 h2
    simp [fillV, fillO]
theorem fillO_end {n : Nat} {o : List Nat} (h : ∀ x ∈ o, x < n) : fillO o n = numsV o := by
  unfold fillO numsV
  apply List.map_congr_left
  intro x hx
  rw [if_pos (h x hx)]
theorem IsOrd.nodup {ns : List ByteArray} {o : List Nat} (h : IsOrd ns o) : o.Nodup := h.perm.nodup_iff.2 List.nodup_range
/-- The k-th name's place. -/
theorem IsOrd.at {ns : List ByteArray} {o : List Nat} (h : IsOrd ns o) {k : Nat} (hk : k < ns.length) : ∃ hp : Go.Proofs.Ytdjmpmogmkiegaa.rank ns k < o.length, o[Go.Proofs.Ytdjmpmogmkiegaa.rank ns k] = k := by
  obtain ⟨p, hp, e⟩ := List.mem_iff_getElem.1 (h.perm.mem_iff.2 (List.mem_range.2 hk))
  have hr := h.rank p hp
  rw [e] at hr
  subst hr
  exact ⟨hp, e⟩
theorem fillO_step {ns : List ByteArray} {o : List Nat} (h : IsOrd ns o) {k : Nat} (hk : k < ns.length) : (fillO o k).set (rank ns k) (.int .i64 k) = fillO o (k + 1) := by
  obtain ⟨hp, e⟩ := h.at hk
  apply List.ext_getElem
  · simp [fillO]
  · intro i h1 h2
    have hi : i < o.length := by simpa [fillO] using h2
    rw [List.getElem_set]
    simp only [fillO, List.getElem_map]
    by_cases ei : rank ns k = i
    · subst ei
      rw [if_pos rfl, e, if_pos (by omega)]
    · rw [if_neg ei]
      have hne : o[i] ≠ k := fun e' => ei (nodup_inj h.nodup hp hi (e.trans e'.symm))
      by_cases hl : o[i] < k
      · rw [if_pos hl, if_pos (by omega)]
      · rw [if_neg hl, if_neg (by omega)]
theorem fillO_get {ns : List ByteArray} {o : List Nat} (h : IsOrd ns o) {k : Nat} (hk : k < ns.length) : (fillO o k)[rank ns k]? = some (.int .i64 0) := by
  obtain ⟨hp, e⟩ := h.at hk
  rw [fillO, List.getElem?_map, List.getElem?_eq_getElem hp, e]
  simp

/-- How many of the first j names are ahead of the i-th. -/
def ahead (ns : List ByteArray) (i j : Nat) : Nat := (List.range j).countP fun k => Op.bytesLess (nm ns k) (nm ns i)
theorem ahead_le (ns : List ByteArray) (i j : Nat) : ahead ns i j ≤ j := by
  have := List.countP_le_length (p := fun k => Op.bytesLess (nm ns k) (nm ns i)) (l := List.range j)
  simpa [ahead] using this
theorem ahead_yes {ns : List ByteArray} {i j : Nat} (h : Op.bytesLess (nm ns j) (nm ns i) = true) : ahead ns i (j + 1) = ahead ns i j + 1 := by
  rw [ahead, List.range_succ, List.countP_append, ahead]; simp [h]
theorem ahead_no {ns : List ByteArray} {i j : Nat} (h : Op.bytesLess (nm ns j) (nm ns i) = false) : ahead ns i (j + 1) = ahead ns i j := by
  rw [ahead, List.range_succ, List.countP_append, ahead]; simp [h]

def ROrderPost (ns : List ByteArray) (o : List Nat) (w : World) (e : Ending) (w' : World) : Prop :=
  ∃ g c, e = .returned (.slice (some ⟨g, 0, none⟩) ns.length c) ∧ w'.ownsRow w.heap.size 3 1 (.slice (some ⟨g, 0, none⟩) ns.length c) ns.length (numsV o) ∧ Below w.heap.size w w'

set_option maxHeartbeats 2000000 in
theorem rorder_any {lo C : Nat} {q : Value} {ns : List ByteArray} {o : List Nat} (w : World) (h : RTab w lo C q ns) (ho : IsOrd ns o) (hl : ns.length ≤ 1000) :
    Calls Try.prog 22 #[.pointer (some ⟨C, 0, none⟩)] w (ROrderPost ns o w) := by
  obtain ⟨A, cA, rfl⟩ := row_shape h.row
  have HS := Lib.hid (strs_own h.row)
  have c0 := h.c0
  have hCl : C < w.heap.size := lt_of_cell h.c0
  have HO := Lib.hid ho
  obtain ⟨i0, hi, hz0, hz1, hz2⟩ := info_parts info_int
  clear h ho
  go_enter Try.func22, Try.ntmps22
  go_wp2_with (at_make; refine wpList_make_full _ rfl _ _ 37 rfl w.heap.size 3 i0 (.int .i64 0) 1 Try.underlying37 hi hz0 hz1 .i64 .i64 _ _ ns.length rfl rfl rfl rfl (by rw [hz2]; omega) (by unfold maxLen; omega) (Nat.le_refl _) ?_; intro w2 hown2 hg2; rw [fill_start] at hown2)
  rw [fillO_zero HO.out.len] at hown2
  have HO2 := Lib.hid hown2
  have HB2 := Lib.hid ((Below.refl w.heap.size w).grown hg2 (Nat.le_refl _) (fun k e => by cases e))
  clear hown2 hg2
  go_loopw [4, 5, 6] (fun i u5 u6 wr => ∃ k : Nat, k ≤ ns.length ∧ i = .int .i64 k ∧ wr.ownsRow w.heap.size 3 1 (.slice (some ⟨w.heap.size, 0, none⟩) ns.length ns.length) ns.length (fillO o k) ∧ Below w.heap.size w wr) (fun i u5 u6 wr => ns.length - (intOf i).toNat)
  case atStart => exact ⟨0, Nat.zero_le _, rfl, HO2.out, HB2.out⟩
  case round =>
    obtain ⟨k, hk, rfl, hown, hB⟩ := hrel
    have HOwn := Lib.hid hown
    have c0' := (hB.cell (p := ⟨C, 0, none⟩) hCl).trans c0
    clear hown
    obtain ⟨Wo, hWo⟩ : ∃ Wo, Wo = wr := ⟨_, rfl⟩
    subst hWo
    by_cases hlt : k < ns.length
    · have q2 : decide (k < ns.length) = true := decide_eq_true hlt
      go_wp2
      go_loopw [5, 6] (fun s5 j wr => ∃ m q : Nat, m ≤ ns.length ∧ j = .int .i64 m ∧ s5 = .int .i64 (ahead ns k m) ∧ wr = Wo.drewN q) (fun s5 j wr => ns.length - (intOf j).toNat)
      case atStart => exact ⟨0, 0, Nat.zero_le _, rfl, rfl, rfl⟩
      case round =>
        obtain ⟨m, q, hm, rfl, rfl, rfl⟩ := hrel
        by_cases hml : m < ns.length
        · obtain ⟨b, off, rfl, hb, hc⟩ := HS.out.below hB (by omega)
          have c1 := hc m hml
          have c2 := hc k hlt
          have r0 : (0 : Int) ≤ (m : Int) := by omega
          have r1 : (m : Int) < (ns.length : Int) := by omega
          have r2 : decide (m < ns.length) = true := decide_eq_true hml
          have r3 : (0 : Int) ≤ (k : Int) := by omega
          have r4 : (k : Int) < (ns.length : Int) := by omega
          have hal := ahead_le ns k m
          have hbl : ∀ z, Op.bytesLess (nm ns m) (nm ns k) = z → Op.bytesLess (ns[m]?.getD ⟨#[]⟩).toList (ns[k]?.getD ⟨#[]⟩).toList = z := fun z e => by
            rw [ByteArray.toList_eq, ByteArray.toList_eq]; exact e
          cases hbz : Op.bytesLess (nm ns m) (nm ns k) with
          | true =>
            have hb1 := hbl true hbz
            have HA := Lib.hid (ahead_yes hbz)
            generalize ns[m]?.getD ⟨#[]⟩ = s at c1 hb1
            generalize ns[k]?.getD ⟨#[]⟩ = t at c2 hb1
            generalize ahead ns k m = a0 at hal HA
            clear hc hbl hbz
            go_wp2_with fail
            go_quiet (fail)
            go_wp2
            exact ⟨⟨m + 1, _, by omega, by go_num, by rw [HA.out]; go_num, rfl⟩, by simp [intOf]; omega⟩
          | false =>
            have hb1 := hbl false hbz
            have HA := Lib.hid (ahead_no hbz)
            generalize ns[m]?.getD ⟨#[]⟩ = s at c1 hb1
            generalize ns[k]?.getD ⟨#[]⟩ = t at c2 hb1
            generalize ahead ns k m = a0 at hal HA
            clear hc hbl hbz
            go_wp2_with fail
            go_quiet (fail)
            go_wp2
            exact ⟨⟨m + 1, _, by omega, by go_num, by rw [HA.out], rfl⟩, by simp [intOf]; omega⟩
        · have r2 : decide (m < ns.length) = false := decide_eq_false hml
          have hme : m = ns.length := by omega
          have hrk : ahead ns k m = rank ns k := by rw [hme]; rfl
          rw [hrk]
          obtain ⟨W7, hW7⟩ : ∃ W7, Wo.drewN q = W7 := ⟨_, rfl⟩
          have hB7 : Below Wo.heap.size Wo W7 := by rw [← hW7]; exact below_drewN (Below.refl _ _) q
          rw [hW7]
          have c07 := (hB7.cell (p := ⟨C, 0, none⟩) (Nat.lt_of_lt_of_le hCl hB.size)).trans c0'
          have hown := row_below HOwn.out hB7
          obtain ⟨hp, he⟩ := HO.out.at hlt
          have hpl : rank ns k < ns.length := by rw [← HO.out.len]; exact hp
          have hcell := hown.cellAt (rank ns k) (by omega)
          rw [fillO_get HO.out hlt] at hcell
          have hfro := hown.frozenAt (rank ns k)
          have hst := hown.stored (rank ns k) (.int .i64 k)
          rw [fillO_step HO.out hlt] at hst
          have HST := Lib.hid hst
          have hBf : Below w.heap.size w W7 := nxt hB hB7 hB.size
          generalize rank ns k = rk at hcell hfro HST hpl
          have s0 : (0 : Int) ≤ (rk : Int) := by omega
          have s1 : (rk : Int) < (ns.length : Int) := by omega
          clear hst hown hp he hrk hme hW7
          go_wp2
          exact ⟨⟨k + 1, by omega, by go_num, HST.out.1, hBf.grown HST.out.2 hBf.size (fun j e => by cases e; exact Nat.le_refl _)⟩, by simp [intOf]; omega⟩
    · have q2 : decide (k < ns.length) = false := decide_eq_false hlt
      have hkn : k = ns.length := by omega
      have hend : fillO o k = numsV o := by rw [hkn]; exact fillO_end (fun x hx => HO.out.lt hx)
      rw [hend] at HOwn
      clear hend hkn
      go_wp2
      go_ret
      exact ⟨w.heap.size, ns.length, rfl, HOwn.out, hB⟩

set_option maxHeartbeats 1000000 in
theorem over_any (g c n lo : Nat) (xs : List Value) (w : World) (h : w.ownsRow lo 3 1 (.slice (some ⟨g, 0, none⟩) n c) n xs) (hn : n ≤ 1000) :
    Calls Try.prog 23 #[.slice (some ⟨g, 0, none⟩) n c] w fun e w' => e = .returned (.tuple #[]) ∧ w.grownBy w' (some g) := by
  have HO := Lib.hid h
  clear h
  go_enter Try.func23, Try.ntmps23
  go_wp2
  go_loopw [2] (fun i wr => ∃ (k : Nat) (ys : List Value), k ≤ n ∧ i = .int .i64 k ∧ wr.ownsRow lo 3 1 (.slice (some ⟨g, 0, none⟩) n c) n ys ∧ w.grownBy wr (some g)) (fun i wr => n - (intOf i).toNat)
  case atStart => exact ⟨0, xs, Nat.zero_le _, rfl, HO.out, World.grownBy.refl _ _⟩
  case round =>
    obtain ⟨k, ys, hk, rfl, hown, hg⟩ := hrel
    by_cases hlt : k < n
    · have q0 : (0 : Int) ≤ (k : Int) := by omega
      have q1 : (k : Int) < (n : Int) := by omega
      have q2 : decide (k < n) = true := decide_eq_true hlt
      have hlen : ys.length = n := by have := hown.1; omega
      have hcell := hown.cellAt k (by omega)
      rw [List.getElem?_eq_getElem (by omega)] at hcell
      have hfro := hown.frozenAt k
      have HST := Lib.hid (hown.stored k (.int .i64 (-77)))
      generalize ys[k] = y at hcell
      clear hown
      go_wp2
      exact ⟨⟨k + 1, _, by omega, by go_num, HST.out.1, hg.trans HST.out.2⟩, by simp [intOf]; omega⟩
    · have q2 : decide (k < n) = false := decide_eq_false hlt
      go_wp2
      go_end0
      exact ⟨rfl, hg⟩
end Go.Proofs.Ytdjmpmogmkiegaa
