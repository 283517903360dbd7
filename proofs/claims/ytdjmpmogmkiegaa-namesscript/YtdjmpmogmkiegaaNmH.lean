/- The chapter's examples: adds, of, two, awake, NamesKnown. -/
import Derived.Test.YtdjmpmogmkiegaaNmG
namespace Go.Proofs.Ytdjmpmogmkiegaa
open Go.RowKit Go.Maps
set_option linter.unusedVariables false

def Yes (w : World) (e : Ending) (w' : World) : Prop := e = .returned (.bool true) ∧ Below w.heap.size w w'

def AddsPost (lo B M : Nat) (v : Value) (ns : List ByteArray) (w : World) (e : Ending) (w' : World) : Prop :=
  e = .returned (.bool true) ∧ ∃ v', Tab w' lo B M v' ns ∧ Below lo w w'

set_option maxHeartbeats 1000000 in
theorem adds_yes {lo B M : Nat} {v : Value} {ns ns' : List ByteArray} (s : ByteArray) (n e : Int) (w : World) (h : Tab w lo B M v ns) (hlo : lo ≤ w.heap.size) (hn : ns.length ≤ 1000) (hs : s.size ≤ 1000)
    (hi : (addI ns s : Int) = n) (he : addE ns s = e) (hN : addN ns s = ns') :
    Calls Try.prog 36 #[.pointer (some ⟨B, 0, none⟩), .string s, .int .i64 n, .int .i64 e] w (AddsPost lo B M v ns' w) := by
  have hA := add_any s w h hlo hn hs
  unfold AddPost at hA
  rw [hi, he, hN] at hA
  have HF := Lib.hid h.foot_lt
  have k1 : (n == n) = true := by simp
  have k2 : (e == e) = true := by simp
  clear h hi he hN
  go_enter Try.func36, Try.ntmps36
  go_wp2_with fail
  refine hA.mono ?_
  rintro e w1 ⟨rfl, v', hT, hB, hloc⟩
  go_wp2
  go_ret
  exact ⟨rfl, v', hT, hB.below (fun k hk => (HF.out k hk).1) hlo⟩

set_option maxHeartbeats 1000000 in
theorem of_yes {lo B M : Nat} {v : Value} {ns : List ByteArray} (s : ByteArray) (n e : Int) (w : World) (h : Tab w lo B M v ns) (hs : s.size ≤ maxLen) (hi : (ofI ns s : Int) = n) (he : ofE ns s = e) :
    Calls Try.prog 25 #[.pointer (some ⟨B, 0, none⟩), .string s, .int .i64 n, .int .i64 e] w (Yes w) := by
  have hA := of_any s w h hs
  rw [hi, he] at hA
  have k1 : (n == n) = true := by simp
  have k2 : (e == e) = true := by simp
  clear h hi he
  go_enter Try.func25, Try.ntmps25
  go_wp2_with fail
  refine hA.mono ?_
  rintro e w1 ⟨rfl, hB⟩
  go_wp2
  go_ret
  exact ⟨rfl, hB⟩

def twoN : List ByteArray := [⟨#[98]⟩, ⟨#[97]⟩]
def TwoPost (w : World) (e : Ending) (w' : World) : Prop := ∃ B M v, e = .returned (.pointer (some ⟨B, 0, none⟩)) ∧ Tab w' w.heap.size B M v twoN ∧ Below w.heap.size w w'

theorem ex_b : addI [] ⟨#[98]⟩ = 0 ∧ addE [] ⟨#[98]⟩ = 0 ∧ addN [] ⟨#[98]⟩ = [⟨#[98]⟩] := by decide +kernel
theorem ex_a : addI [⟨#[98]⟩] ⟨#[97]⟩ = 1 ∧ addE [⟨#[98]⟩] ⟨#[97]⟩ = 0 ∧ addN [⟨#[98]⟩] ⟨#[97]⟩ = twoN := by decide +kernel
theorem ex_bb : addI twoN ⟨#[98]⟩ = 0 ∧ addE twoN ⟨#[98]⟩ = 10 ∧ addN twoN ⟨#[98]⟩ = twoN := by decide +kernel
theorem ex_A : addI twoN ⟨#[65]⟩ = 0 ∧ addE twoN ⟨#[65]⟩ = 7 ∧ addN twoN ⟨#[65]⟩ = twoN := by decide +kernel

set_option maxHeartbeats 1000000 in
theorem two_yes (w : World) : Calls Try.prog 24 #[] w (TwoPost w) := by
  go_enter Try.func24, Try.ntmps24
  go_wp2_with fail
  refine (new_any w).mono ?_
  rintro e w1 ⟨B, M, rfl, hT1, hB1⟩
  have HT1 := Lib.hid hT1
  clear hT1
  go_wp2_with fail
  refine (adds_yes ⟨#[98]⟩ 0 0 w1 HT1.out hB1.size (by decide) (by decide) (by rw [ex_b.1]; rfl) ex_b.2.1 ex_b.2.2).mono ?_
  rintro e w2 ⟨rfl, v2, hT2, hB2⟩
  have HT2 := Lib.hid hT2
  clear hT2
  replace hB2 := hB1.trans hB2
  go_wp2_with fail
  refine (adds_yes ⟨#[97]⟩ 1 0 w2 HT2.out hB2.size (by decide) (by decide) (by rw [ex_a.1]; rfl) ex_a.2.1 ex_a.2.2).mono ?_
  rintro e w3 ⟨rfl, v3, hT3, hB3⟩
  have HT3 := Lib.hid hT3
  clear hT3
  replace hB3 := hB2.trans hB3
  go_wp2_with fail
  refine (adds_yes ⟨#[98]⟩ 0 10 w3 HT3.out hB3.size (by decide) (by decide) (by rw [ex_bb.1]; rfl) ex_bb.2.1 ex_bb.2.2).mono ?_
  rintro e w4 ⟨rfl, v4, hT4, hB4⟩
  have HT4 := Lib.hid hT4
  clear hT4
  replace hB4 := hB3.trans hB4
  go_wp2_with fail
  refine (adds_yes ⟨#[65]⟩ 0 7 w4 HT4.out hB4.size (by decide) (by decide) (by rw [ex_A.1]; rfl) ex_A.2.1 ex_A.2.2).mono ?_
  rintro e w5 ⟨rfl, v5, hT5, hB5⟩
  have HT5 := Lib.hid hT5
  clear hT5
  replace hB5 := hB4.trans hB5
  go_wp2_with fail
  refine (len_any w5 HT5.out).mono ?_
  rintro e w6 ⟨rfl, rfl⟩
  have hl : ((twoN.length : Nat) : Int) = 2 := rfl
  rw [hl]
  clear hl
  go_wp2
  go_ret
  exact ⟨B, M, v5, rfl, HT5.out, hB5⟩

/-- A slice's address A, of whatever capacity, reads as the numbers o (nil let in). -/
def Nums (w : World) (A : Option Addr) (o : List Nat) : Prop :=
  0 < o.length → ∃ b off, A = some ⟨b, off, none⟩ ∧ b < w.heap.size ∧ ∀ j, j < o.length → w.cell? ⟨b, off + j, none⟩ = some (.int .i64 (o[j]?.getD 0))

theorem Nums.below {w w' : World} {A : Option Addr} {l : List Nat} (h : Nums w A l) (hb : Below w.heap.size w w') : Nums w' A l := fun hl => by
  obtain ⟨b, off, e, hlt, hc⟩ := h hl
  exact ⟨b, off, e, Nat.lt_of_lt_of_le hlt hb.size, fun j hj => (hb.cell (p := ⟨b, off + j, none⟩) hlt).trans (hc j hj)⟩
theorem nums_own {w : World} {base g cap n : Nat} {o : List Nat} (h : w.ownsRow base 3 1 (.slice (some ⟨g, 0, none⟩) n cap) n (numsV o)) : Nums w (some ⟨g, 0, none⟩) o := by
  intro hl
  have hn : o.length = n := by have := h.1; simpa [numsV] using this
  refine ⟨g, 0, rfl, (h.lt g rfl).2, fun j hj => ?_⟩
  rw [Nat.zero_add, h.cellAt j (by omega)]
  simp [numsV, List.getElem?_eq_getElem hj]

set_option maxHeartbeats 1000000 in
theorem ints_same (A A' : Option Addr) (c c' n n' : Nat) (o : List Nat) (w : World) (h1 : Nums w A o) (h2 : Nums w A' o) (hm : o.length ≤ 1000000) (hn : o.length = n) (hn' : o.length = n') :
    Calls Try.prog 21 #[.slice A n c, .slice A' n' c'] w fun e w' => e = .returned (.bool true) ∧ ∃ q, w' = w.drewN q := by
  subst hn
  subst hn'
  have H1 := Lib.hid h1
  have H2 := Lib.hid h2
  have k0 : ((o.length : Int) != (o.length : Int)) = false := by simp
  clear h1 h2
  go_enter Try.func21, Try.ntmps21
  go_wp2
  go_loopw [5] (fun i wr => ∃ k q : Nat, k ≤ o.length ∧ i = .int .i64 k ∧ wr = w.drewN q) (fun i wr => o.length - (intOf i).toNat)
  case atStart => exact ⟨0, 0, Nat.zero_le _, rfl, rfl⟩
  case round =>
    obtain ⟨k, q, hk, rfl, rfl⟩ := hrel
    by_cases hlt : k < o.length
    · obtain ⟨b, off, rfl, hb, hc⟩ := H1.out (by omega)
      obtain ⟨b', off', rfl, hb', hc'⟩ := H2.out (by omega)
      have c1 := hc k hlt
      have c2 := hc' k hlt
      generalize o[k]?.getD 0 = s at *
      have m3 : ((s : Int) != (s : Int)) = false := by simp
      have hk0 : (0 : Int) ≤ (k : Int) := by omega
      have hk1 : (k : Int) < (o.length : Int) := by omega
      clear hc hc'
      go_wp2_with fail
      go_quiet (fail)
      go_wp2
      go_roundw
      case rel => exact ⟨k + 1, _, by omega, by go_num, rfl⟩
      case measure => simp [intOf]; omega
    · have hd : decide (k < o.length) = false := decide_eq_false hlt
      go_wp2
      go_ret
      exact ⟨rfl, q, rfl⟩

theorem ord_two : IsOrd twoN [1, 0] := ⟨by decide +kernel, by decide +kernel⟩
theorem ex_of : ofI twoN ⟨#[97]⟩ = 1 ∧ ofE twoN ⟨#[97]⟩ = 0 := by decide +kernel
theorem ex_ofc : ofI twoN ⟨#[99]⟩ = 0 ∧ ofE twoN ⟨#[99]⟩ = 11 := by decide +kernel

theorem below_drewN {B : Nat} {a w : World} (h : Below B a w) (n : Nat) : Below B a (w.drewN n) := ⟨h.os, h.tape, h.output, h.size, h.block⟩

set_option maxHeartbeats 1000000 in
theorem awake_yes (w : World) : Calls Try.prog 9 #[] w (Yes w) := by
  go_enter Try.func9, Try.ntmps9
  go_wp2_with fail
  refine (two_yes w).mono ?_
  rintro e w1 ⟨B, M, v, rfl, hT1, hB1⟩
  have HT1 := Lib.hid hT1
  clear hT1
  go_wp2_with fail
  refine (order_any w1 HT1.out (by decide)).mono ?_
  rintro e w2 ⟨g, c, o, rfl, ho, hrow, hB2⟩
  have eo := ho.one ord_two
  subst eo
  have hN := nums_own hrow
  have HT2 := Lib.hid (HT1.out.below hB2)
  have hB2' := nxt hB1 hB2 hB1.size
  clear hrow ho hB2
  have hl : (twoN.length : Nat) = 2 := rfl
  rw [hl]
  clear hl
  obtain ⟨W3, hW3⟩ : ∃ W3, w2.alloc (Obj.cells #[Value.int IntKind.i64 1, Value.int IntKind.i64 0] 3) = W3 := ⟨_, rfl⟩
  have hB3 : Below w2.heap.size w2 W3 := by rw [← hW3]; exact (Below.refl _ _).alloc (Nat.le_refl _) _
  have hN2 : Nums W3 (some ⟨w2.heap.size, 0, none⟩) [1, 0] := by
    intro _
    refine ⟨w2.heap.size, 0, rfl, by rw [← hW3]; simp, fun j hj => ?_⟩
    rw [← hW3, Nat.zero_add, World.cell?_alloc_new]
    match j, hj with
    | 0, _ => rfl
    | 1, _ => rfl
  have HI := Lib.hid (ints_same (some ⟨g, 0, none⟩) (some ⟨w2.heap.size, 0, none⟩) c 2 2 2 [1, 0] W3 (hN.below hB3) hN2 (by decide) rfl rfl)
  have HT3 := Lib.hid (HT2.out.below hB3)
  have hB3' := nxt hB2' hB3 hB2'.size
  clear hN hN2 HT2 hB3
  go_wp2_with fail
  refine HI.out.mono ?_
  rintro e w4 ⟨rfl, q, rfl⟩
  have hd : Below W3.heap.size W3 (W3.drewN q) := below_drewN (Below.refl _ _) q
  go_wp2_with fail
  refine (of_yes ⟨#[97]⟩ 1 0 _ (HT3.out.below hd) (by decide) (by rw [ex_of.1]; rfl) ex_of.2).mono ?_
  rintro e w5 ⟨rfl, hB5⟩
  go_wp2
  go_ret
  exact ⟨rfl, nxt (below_drewN hB3' q) hB5 hB3'.size⟩

theorem ex_n0 : nameT twoN 0 = ⟨#[98]⟩ ∧ nameE twoN 0 = 0 := by decide +kernel
theorem ex_n2 : nameT twoN 2 = ⟨#[]⟩ ∧ nameE twoN 2 = 3 := by decide +kernel
theorem ex_c1 : checkE ⟨#[97, 95, 49]⟩ = 0 ∧ checkE ⟨#[49, 97]⟩ = 7 ∧ checkE ⟨#[95]⟩ = 7 ∧ checkE ⟨#[]⟩ = 7 := by decide +kernel

theorem check_is (s : ByteArray) (r : Int) (w : World) (hs : s.size ≤ 1000) (h : checkE s = r) : Calls Try.prog 14 #[.string s] w (Says (.int .i64 r) w) := by
  rw [← h]; exact check_any s w hs
theorem name_is {lo B M : Nat} {v : Value} {ns : List ByteArray} (n : Int) (t : ByteArray) (r : Int) (w : World) (h : Tab w lo B M v ns) (h1 : nameT ns n = t) (h2 : nameE ns n = r) :
    Calls Try.prog 18 #[.pointer (some ⟨B, 0, none⟩), .int .i64 n] w (Pair (.string t) (.int .i64 r) w) := by
  rw [← h1, ← h2]; exact name_any n w h

set_option maxHeartbeats 1000000 in
theorem known_yes (w : World) : Calls Try.prog 5 #[] w (Yes w) := by
  go_enter Try.func5, Try.ntmps5
  go_wp2_with fail
  refine (two_yes w).mono ?_
  rintro e w1 ⟨B, M, v, rfl, hT1, hB1⟩
  have HT1 := Lib.hid hT1
  clear hT1
  go_wp2_with fail
  refine (of_yes ⟨#[99]⟩ 0 11 _ HT1.out (by decide) (by rw [ex_ofc.1]; rfl) ex_ofc.2).mono ?_
  rintro e w2 ⟨rfl, hB2⟩
  have HT2 := Lib.hid (HT1.out.below hB2)
  replace hB2 := nxt hB1 hB2 hB1.size
  clear HT1 hB1
  go_wp2_with fail
  refine (name_is 0 ⟨#[98]⟩ 0 _ HT2.out ex_n0.1 ex_n0.2).mono ?_
  rintro e w3 ⟨rfl, hB3⟩
  have HT3 := Lib.hid (HT2.out.below hB3)
  replace hB3 := nxt hB2 hB3 hB2.size
  clear HT2 hB2
  go_wp2_with fail
  refine (name_is 2 ⟨#[]⟩ 3 _ HT3.out ex_n2.1 ex_n2.2).mono ?_
  rintro e w4 ⟨rfl, hB4⟩
  replace hB4 := nxt hB3 hB4 hB3.size
  clear HT3 hB3
  go_wp2_with fail
  refine (awake_yes _).mono ?_
  rintro e w5 ⟨rfl, hB5⟩
  replace hB5 := nxt hB4 hB5 hB4.size
  clear hB4
  go_wp2_with fail
  refine (check_is ⟨#[97, 95, 49]⟩ 0 _ (by decide) ex_c1.1).mono ?_
  rintro e w6 ⟨rfl, hB6⟩
  replace hB6 := nxt hB5 hB6 hB5.size
  clear hB5
  go_wp2_with fail
  refine (check_is ⟨#[49, 97]⟩ 7 _ (by decide) ex_c1.2.1).mono ?_
  rintro e w7 ⟨rfl, hB7⟩
  replace hB7 := nxt hB6 hB7 hB6.size
  clear hB6
  go_wp2_with fail
  refine (check_is ⟨#[95]⟩ 7 _ (by decide) ex_c1.2.2.1).mono ?_
  rintro e w8 ⟨rfl, hB8⟩
  replace hB8 := nxt hB7 hB8 hB7.size
  clear hB7
  go_wp2_with fail
  refine (check_is ⟨#[]⟩ 7 _ (by decide) ex_c1.2.2.2).mono ?_
  rintro e w9 ⟨rfl, hB9⟩
  replace hB9 := nxt hB8 hB9 hB8.size
  clear hB8
  go_wp2
  go_ret
  exact ⟨rfl, hB9⟩
end Go.Proofs.Ytdjmpmogmkiegaa
