/- Contracts of the laws' helpers: long, place, made. -/
import Derived.Test.YtdjmpmogmkiegaaNmH
namespace Go.Proofs.Ytdjmpmogmkiegaa
open Go.RowKit Go.Maps
set_option linter.unusedVariables false

/-- A slice's address A reads as the texts ss; all below B. -/
def Strs (B : Nat) (w : World) (A : Option Addr) (ss : List ByteArray) : Prop :=
  0 < ss.length → ∃ b off, A = some ⟨b, off, none⟩ ∧ b < B ∧ ∀ j, j < ss.length → w.cell? ⟨b, off + j, none⟩ = some (.string (ss[j]?.getD ⟨#[]⟩))

theorem Strs.below {B : Nat} {w w' : World} {A : Option Addr} {ss : List ByteArray} (h : Strs B w A ss) (hb : Below B w w') : Strs B w' A ss := fun hl => by
  obtain ⟨b, off, e, hlt, hc⟩ := h hl
  exact ⟨b, off, e, hlt, fun j hj => (hb.cell (p := ⟨b, off + j, none⟩) hlt).trans (hc j hj)⟩
theorem Strs.mono {B B' : Nat} {w : World} {A : Option Addr} {ss : List ByteArray} (h : Strs B w A ss) (hb : B ≤ B') : Strs B' w A ss := fun hl => by
  obtain ⟨b, off, e, hlt, hc⟩ := h hl
  exact ⟨b, off, e, by omega, hc⟩
theorem strs_own {w : World} {base : Nat} {A : Option Addr} {c : Nat} {ss : List ByteArray} (h : w.ownsRow base 9 1 (.slice A ss.length c) ss.length (texts ss)) : Strs w.heap.size w A ss := by
  intro hl
  obtain ⟨g, e, hg, _, hc⟩ := row_at h 0 hl
  exact ⟨g, 0, e, hg, fun j hj => by rw [Nat.zero_add]; exact hc j hj⟩

/-- More than is gone through? -/
def longB (ss : List ByteArray) : Bool := (ss.take 81).any (fun s => decide (60 < s.size)) || decide (80 < ss.length)

theorem long_no {ss : List ByteArray} (h : longB ss = false) : ss.length ≤ 80 ∧ ∀ s ∈ ss, s.size ≤ 60 := by
  unfold longB at h
  simp only [Bool.or_eq_false_iff, decide_eq_false_iff_not, List.any_eq_false, decide_eq_true_eq] at h
  have hl : ss.length ≤ 80 := by omega
  refine ⟨hl, fun s hs => ?_⟩
  have := h.1 s (by rw [List.take_of_length_le (by omega)]; exact hs)
  omega
theorem long_bad {ss : List ByteArray} {k : Nat} (hk : k < ss.length) (h81 : k < 81) (h : 60 < (ss[k]?.getD ⟨#[]⟩).size) : longB ss = true := by
  rw [List.getElem?_eq_getElem hk] at h
  unfold longB
  rw [Bool.or_eq_true]
  left
  rw [List.any_eq_true]
  refine ⟨ss[k], ?_, decide_eq_true h⟩
  rw [List.mem_iff_getElem]
  exact ⟨k, by rw [List.length_take]; omega, by rw [List.getElem_take]⟩
theorem long_end {ss : List ByteArray} (h : ∀ j, j < ss.length → j < 81 → (ss[j]?.getD ⟨#[]⟩).size ≤ 60) : longB ss = decide (80 < ss.length) := by
  unfold longB
  have : (ss.take 81).any (fun s => decide (60 < s.size)) = false := by
    rw [List.any_eq_false]
    intro s hs
    obtain ⟨j, hj, rfl⟩ := List.mem_iff_getElem.1 hs
    rw [List.length_take] at hj
    have := h j (by omega) (by omega)
    rw [List.getElem?_eq_getElem (by omega)] at this
    rw [List.getElem_take]
    simp only [Option.getD_some] at this
    simpa using this
  rw [this, Bool.false_or]

set_option maxHeartbeats 1000000 in
theorem long_any (A : Option Addr) (c : Nat) (ss : List ByteArray) (w : World) (hA : Strs w.heap.size w A ss) (hm : ss.length ≤ 140737488351232) (hz : ∀ s ∈ ss, s.size ≤ 140737488351232) :
    Calls Try.prog 8 #[.slice A ss.length c] w fun e w' => e = .returned (.bool (longB ss)) ∧ w = w' := by
  have HA := Lib.hid hA
  have HZ := Lib.hid hz
  clear hA hz
  go_enter Try.func8, Try.ntmps8
  go_wp2
  go_loop [3] (fun i => ∃ k : Nat, k ≤ ss.length ∧ k ≤ 81 ∧ i = .int .i64 k ∧ ∀ j, j < ss.length → j < k → (ss[j]?.getD ⟨#[]⟩).size ≤ 60) (fun i => 81 - (intOf i).toNat)
  case atStart => exact ⟨0, Nat.zero_le _, by omega, rfl, fun j _ hj => absurd hj (by omega)⟩
  case round =>
    obtain ⟨k, hk, hk81, rfl, hq⟩ := hrel
    have HQ := Lib.hid hq
    clear hq
    by_cases hlt : k < ss.length
    · by_cases h81 : k < 81
      · obtain ⟨b, off, rfl, hb, hc⟩ := HA.out (by omega)
        have hck := hc k hlt
        have hsz : (ss[k]?.getD ⟨#[]⟩).size ≤ 140737488351232 := by
          rw [List.getElem?_eq_getElem hlt]; exact HZ.out _ (List.getElem_mem hlt)
        obtain ⟨s, hs⟩ : ∃ s, ss[k]?.getD ⟨#[]⟩ = s := ⟨_, rfl⟩
        rw [hs] at hck hsz
        have HS := Lib.hid hs
        have q0 : (0 : Int) ≤ (k : Int) := by omega
        have q1 : (k : Int) < (ss.length : Int) := by omega
        have q2 : decide (k < ss.length) = true := decide_eq_true hlt
        have q3 : decide ((k : Int) < 81) = true := decide_eq_true (by omega)
        clear hc hs
        by_cases h60 : 60 < s.size
        · have q4 : decide ((60 : Int) < (s.size : Int)) = true := decide_eq_true (by omega)
          go_wp2
          go_ret
          have hb : longB ss = true := long_bad hlt h81 (by rw [HS.out]; exact h60)
          exact ⟨by rw [hb]; rfl, rfl⟩
        · have q4 : decide ((60 : Int) < (s.size : Int)) = false := decide_eq_false (by omega)
          go_wp2
          go_round
          case rel =>
            refine ⟨k + 1, by omega, by omega, by go_num, fun j hj hjk => ?_⟩
            by_cases e : j = k
            · subst e; rw [HS.out]; omega
            · exact HQ.out j hj (by omega)
          case measure => simp [intOf]; omega
      · have q2 : decide (k < ss.length) = true := decide_eq_true hlt
        have q3 : decide ((k : Int) < 81) = false := decide_eq_false (by omega)
        have q4 : decide ((80 : Int) < (ss.length : Int)) = true := decide_eq_true (by omega)
        have he : longB ss = decide (80 < ss.length) := long_end (fun j hj hj81 => HQ.out j hj (by omega))
        rw [decide_eq_true (show 80 < ss.length by omega)] at he
        have HE := Lib.hid he
        clear he
        go_wp2
        go_ret
        exact ⟨by rw [HE.out]; rfl, rfl⟩
    · have q2 : decide (k < ss.length) = false := decide_eq_false hlt
      have he : longB ss = decide (80 < ss.length) := long_end (fun j hj hj81 => HQ.out j hj (by omega))
      have HE := Lib.hid he
      clear he
      by_cases h80 : 80 < ss.length
      · have q4 : decide ((80 : Int) < (ss.length : Int)) = true := decide_eq_true (by omega)
        go_wp2
        go_ret
        exact ⟨by rw [HE.out, decide_eq_true h80]; rfl, rfl⟩
      · have q4 : decide ((80 : Int) < (ss.length : Int)) = false := decide_eq_false (by omega)
        go_wp2
        go_ret
        exact ⟨by rw [HE.out, decide_eq_false h80]; rfl, rfl⟩

theorem idx_here {ns : List ByteArray} {s : ByteArray} {k : Nat} (hk : k < ns.length) (h : ∀ j, j < ns.length → j < k → ns[j]?.getD ⟨#[]⟩ ≠ s) (e : ns[k]?.getD ⟨#[]⟩ = s) : ns.idxOf s = k := by
  rw [List.getElem?_eq_getElem hk] at e
  have hm : s ∈ ns := by rw [← e]; exact List.getElem_mem hk
  have hl := List.idxOf_lt_length_of_mem hm
  have he := List.getElem_idxOf (xs := ns) (x := s) hl
  rcases Nat.lt_trichotomy (ns.idxOf s) k with hlt | hlt | hlt
  · have := h _ hl hlt
    rw [List.getElem?_eq_getElem hl, he] at this
    exact absurd rfl this
  · exact hlt
  · have := List.not_of_lt_findIdx hlt
    simp [← e] at this

set_option maxHeartbeats 1000000 in
theorem place_any (A : Option Addr) (c : Nat) (ns : List ByteArray) (s : ByteArray) (w : World) (hA : Strs w.heap.size w A ns) (hm : ns.length ≤ 1000000) (hc : ns.contains s = true) :
    Calls Try.prog 26 #[.slice A ns.length c, .string s] w fun e w' => e = .returned (.int .i64 (ns.idxOf s)) ∧ w = w' := by
  have HA := Lib.hid hA
  have HC := Lib.hid hc
  clear hA hc
  go_enter Try.func26, Try.ntmps26
  go_wp2
  go_loop [5] (fun i => ∃ k : Nat, k ≤ ns.length ∧ i = .int .i64 k ∧ ∀ j, j < ns.length → j < k → ns[j]?.getD ⟨#[]⟩ ≠ s) (fun i => ns.length - (intOf i).toNat)
  case atStart => exact ⟨0, Nat.zero_le _, rfl, fun j _ hj => absurd hj (by omega)⟩
  case round =>
    obtain ⟨k, hk, rfl, hq⟩ := hrel
    have HQ := Lib.hid hq
    clear hq
    by_cases hlt : k < ns.length
    · obtain ⟨b, off, rfl, hb, hc⟩ := HA.out (by omega)
      have hck := hc k hlt
      obtain ⟨t, ht⟩ : ∃ t, ns[k]?.getD ⟨#[]⟩ = t := ⟨_, rfl⟩
      rw [ht] at hck
      have HT := Lib.hid ht
      have q0 : (0 : Int) ≤ (k : Int) := by omega
      have q1 : (k : Int) < (ns.length : Int) := by omega
      have q2 : decide (k < ns.length) = true := decide_eq_true hlt
      clear hc ht
      by_cases e : t = s
      · have q3 : (t.toList == s.toList) = true := by rw [e]; simp
        have hi := idx_here hlt HQ.out (HT.out.trans e)
        have HI := Lib.hid hi
        clear hi e
        go_wp2
        go_ret
        exact ⟨by rw [HI.out]; rfl, rfl⟩
      · have q3 : (t.toList == s.toList) = false := by
          apply beq_eq_false_iff_ne.2
          intro h
          rw [ByteArray.toList_eq, ByteArray.toList_eq] at h
          exact e (ByteArray.ext (Array.ext' h))
        go_wp2
        go_round
        case rel =>
          refine ⟨k + 1, by omega, by go_num, fun j hj hjk => ?_⟩
          by_cases e' : j = k
          · subst e'; rw [HT.out]; exact e
          · exact HQ.out j hj (by omega)
        case measure => simp [intOf]; omega
    · exfalso
      have hm : s ∈ ns := by simpa using HC.out
      have hl := List.idxOf_lt_length_of_mem hm
      have := HQ.out _ hl (by omega)
      rw [List.getElem?_eq_getElem hl, List.getElem_idxOf] at this
      exact this rfl

/-- The names among texts, each once. -/
def allN (ss : List ByteArray) : List ByteArray := ss.foldl addN []
theorem allN_nil : allN [] = [] := rfl
theorem allN_take {ss : List ByteArray} {k : Nat} (hk : k < ss.length) : allN (ss.take (k + 1)) = addN (allN (ss.take k)) (ss[k]?.getD ⟨#[]⟩) := by
  rw [allN, List.take_succ_eq_append_getElem hk, List.foldl_append, List.getElem?_eq_getElem hk]
  rfl
theorem addN_len (ns : List ByteArray) (s : ByteArray) : (addN ns s).length ≤ ns.length + 1 := by
  unfold addN; split <;> simp
theorem fold_len : ∀ (ss ns : List ByteArray), (ss.foldl addN ns).length ≤ ns.length + ss.length
  | [], ns => by simp
  | s :: r, ns => by
    have h1 := fold_len r (addN ns s)
    have h2 := addN_len ns s
    simp only [List.foldl_cons, List.length_cons]
    omega
theorem allN_len (ss : List ByteArray) : (allN ss).length ≤ ss.length := by
  have := fold_len ss []
  simpa [allN] using this

def MadePost (ns : List ByteArray) (w : World) (e : Ending) (w' : World) : Prop := ∃ B M v, e = .returned (.pointer (some ⟨B, 0, none⟩)) ∧ Tab w' w.heap.size B M v ns ∧ Below w.heap.size w w'

set_option maxHeartbeats 1000000 in
theorem mk_any (A : Option Addr) (c : Nat) (ss : List ByteArray) (w : World) (hA : Strs w.heap.size w A ss) (hm : ss.length ≤ 80) (hz : ∀ s ∈ ss, s.size ≤ 60) :
    Calls Try.prog 27 #[.slice A ss.length c] w (MadePost (allN ss) w) := by
  have HA := Lib.hid hA
  have HZ := Lib.hid hz
  clear hA hz
  go_enter Try.func27, Try.ntmps27
  go_wp2_with fail
  refine (new_any w).mono ?_
  rintro e w1 ⟨B, M, rfl, hT1, hB1⟩
  have HT1 := Lib.hid hT1
  clear hT1
  go_wp2
  go_loopw [4] (fun i wr => ∃ (k : Nat) (v : Value), k ≤ ss.length ∧ i = .int .i64 k ∧ Tab wr w.heap.size B M v (allN (ss.take k)) ∧ Below w.heap.size w wr) (fun i wr => ss.length - (intOf i).toNat)
  case atStart => exact ⟨0, _, Nat.zero_le _, rfl, HT1.out, hB1⟩
  case round =>
    obtain ⟨k, v, hk, rfl, hT, hB⟩ := hrel
    have HT := Lib.hid hT
    clear hT
    by_cases hlt : k < ss.length
    · obtain ⟨b, off, rfl, hb, hc⟩ := HA.out.below hB (by omega)
      have hck := hc k hlt
      have hsz : (ss[k]?.getD ⟨#[]⟩).size ≤ 60 := by
        rw [List.getElem?_eq_getElem hlt]; exact HZ.out _ (List.getElem_mem hlt)
      have hst := allN_take hlt
      obtain ⟨s, hs⟩ : ∃ s, ss[k]?.getD ⟨#[]⟩ = s := ⟨_, rfl⟩
      rw [hs] at hck hsz hst
      have HST := Lib.hid hst
      have hln : (allN (ss.take k)).length ≤ 1000 := by
        have := allN_len (ss.take k)
        rw [List.length_take] at this
        omega
      have q0 : (0 : Int) ≤ (k : Int) := by omega
      have q1 : (k : Int) < (ss.length : Int) := by omega
      have q2 : decide (k < ss.length) = true := decide_eq_true hlt
      clear hc hs hst
      go_wp2_with fail
      refine (add_any s wr HT.out hB.size hln (by omega)).mono ?_
      rintro e w2 ⟨rfl, v', hT', hBut, hloc⟩
      have hB' := hB.trans (hBut.below (fun j hj => (HT.out.foot_lt j hj).1) hB.size)
      go_wp2
      go_roundw
      case rel => exact ⟨k + 1, v', by omega, by go_num, by rw [HST.out]; exact hT', hB'⟩
      case measure => simp [intOf]; omega
    · have q2 : decide (k < ss.length) = false := decide_eq_false hlt
      have htk : ss.take k = ss := List.take_of_length_le (by omega)
      have HTK := Lib.hid htk
      clear htk
      go_wp2
      go_ret
      exact ⟨B, M, v, rfl, by have := HT.out; rw [HTK.out] at this; exact this, hB⟩
end Go.Proofs.Ytdjmpmogmkiegaa
