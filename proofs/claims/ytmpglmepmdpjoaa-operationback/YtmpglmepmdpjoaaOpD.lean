/- The words of an operation's text (pure). -/
import Derived.Test.YtmpglmepmdpjoaaOpC
import Derived.Test.YtmpglmepmdpjoaaWalkQ
import Derived.Test.YtmpglmepmdpjoaaTkY
namespace Go.Proofs.Ytmpglmepmdpjoaa
open Go.RowKit
set_option linter.unusedVariables false

def I64 (x : Int) : Prop := -9223372036854775808 ≤ x ∧ x ≤ 9223372036854775807

def putB (n : Int) : ByteArray := ⟨(putL n).toArray⟩
def arrB : ByteArray := ⟨#[45, 62]⟩
def okB : ByteArray := ⟨#[111, 107]⟩
def noneB : ByteArray := ⟨#[110, 111, 110, 101]⟩
def retB (k n : Int) : ByteArray := if k == 0 then okB else if k == 1 then noneB else putB n
def argW (m : Nat) (a b : Int) : List ByteArray := ([a, b].take m).map putB
def opW (i : Nat) (a b k n : Int) : List ByteArray := wordB i :: (argW (argN i) a b ++ [arrB, retB k n])
def textS (kd a b k n : Int) : ByteArray := match kindI kd with
  | none => ⟨#[]⟩
  | some i => if checkI i a b k n = 0 then strOfNums (jl (opW i a b k n)) else ⟨#[]⟩

theorem putI_bytes (n : Int) : ∀ x ∈ putI n, 45 ≤ x ∧ x ≤ 57 := by
  intro x hx
  rw [putI, List.mem_reverse, List.mem_append] at hx
  rcases hx with h | h
  · have := dr_bd _ _ x h; omega
  · split at h
    · simp at h; omega
    · cases h
theorem putI_len (n : Int) : 1 ≤ (putI n).length ∧ (putI n).length ≤ 21 := by
  rw [putI, List.length_reverse, List.length_append]
  have h1 : 1 ≤ (dr 20 n.natAbs).length := dr_pos 19 n.natAbs
  have h2 := dr_len 20 n.natAbs
  split <;> simp <;> omega
theorem nums_putB (n : Int) : nums (putB n) = putI n := by
  rw [nums, putB, putL]
  simp only [List.map_map]
  conv => rhs; rw [← List.map_id (putI n)]
  apply List.map_congr_left
  intro x hx
  have := putI_bytes n x hx
  simp [UInt8.toNat_ofNat']
  omega
theorem putB_size (n : Int) : (putB n).size ≤ 21 := by
  rw [← nums_len, nums_putB]; exact (putI_len n).2
theorem putB_fine (n : Int) : fw (nums (putB n)) = none := by
  rw [nums_putB]
  refine fw_none (fun e => ?_) fun x hx => ?_
  · have := (putI_len n).1; rw [e] at this; simp at this
  · have := putI_bytes n x hx
    simp [bad]; omega
theorem retB_fine (k n : Int) : fw (nums (retB k n)) = none := by
  unfold retB
  split
  · decide
  · split
    · decide
    · exact putB_fine n
theorem retB_size (k n : Int) : (retB k n).size ≤ 21 := by
  unfold retB
  split
  · decide
  · split
    · decide
    · exact putB_size n
theorem wordB_fine (i : Nat) (h : i < 15) : fw (nums (wordB i)) = none ∧ over (nums (wordB i)) = false ∧ (wordB i).size ≤ 8 := by
  have hm : i ∈ List.range 15 := List.mem_range.2 h
  revert i
  have : ∀ i ∈ List.range 15, fw (nums (wordB i)) = none ∧ over (nums (wordB i)) = false ∧ (wordB i).size ≤ 8 := by decide
  intro i _ h
  exact this i h
theorem argW_mem {m : Nat} {a b : Int} {s : ByteArray} (h : s ∈ argW m a b) : ∃ x, s = putB x := by
  obtain ⟨x, _, rfl⟩ := List.mem_map.1 h
  exact ⟨x, rfl⟩
theorem argW_len (m : Nat) (a b : Int) : (argW m a b).length ≤ 2 := by
  rw [argW, List.length_map, List.length_take]; simp; omega
theorem opW_mem {i : Nat} {a b k n : Int} (hi : i < 15) {s : ByteArray} (h : s ∈ opW i a b k n) : fw (nums s) = none ∧ s.size ≤ 21 := by
  rw [opW, List.mem_cons, List.mem_append] at h
  rcases h with rfl | h | h
  · have := wordB_fine i hi; exact ⟨this.1, by omega⟩
  · obtain ⟨x, rfl⟩ := argW_mem h
    exact ⟨putB_fine x, putB_size x⟩
  · rcases List.mem_cons.1 h with rfl | h
    · exact ⟨by decide, by decide⟩
    · obtain rfl : s = retB k n := by simpa using h
      exact ⟨retB_fine k n, retB_size k n⟩
theorem opW_len (i : Nat) (a b k n : Int) : (opW i a b k n).length ≤ 5 := by
  have := argW_len (argN i) a b
  rw [opW, List.length_cons, List.length_append]; simp; omega
theorem szs_bound : ∀ (ss : List ByteArray) (c : Nat), (∀ s ∈ ss, s.size ≤ c) → szs ss ≤ ss.length * c
  | [], _, _ => by simp [szs]
  | s :: r, c, h => by
    have h1 := szs_bound r c fun x hx => h x (List.mem_cons_of_mem _ hx)
    have h2 := h s List.mem_cons_self
    have h3 : szs (s :: r) = s.size + szs r := by simp [szs]
    rw [h3, List.length_cons, Nat.succ_mul]; omega
theorem opW_szs (i : Nat) (hi : i < 15) (a b k n : Int) : szs (opW i a b k n) ≤ 105 := by
  have h1 := szs_bound (opW i a b k n) 21 fun s hs => (opW_mem hi hs).2
  have h2 := opW_len i a b k n
  have : (opW i a b k n).length * 21 ≤ 5 * 21 := Nat.mul_le_mul_right _ h2
  omega
theorem opW_join (i : Nat) (hi : i < 15) (a b k n : Int) : joinOk (opW i a b k n) = true ∧ (jl (opW i a b k n)).length ≤ 200 := by
  constructor
  · unfold joinOk
    rw [Bool.and_eq_true]
    constructor
    · rw [fineW, List.all_eq_true]
      intro s hs
      rw [(opW_mem hi hs).1]; rfl
    · rw [opW]
      simp only
      rw [(wordB_fine i hi).2.1]; rfl
  · have h1 := jl_len (opW i a b k n) (by rw [opW]; simp)
    have h2 := opW_szs i hi a b k n
    have h3 := opW_len i a b k n
    omega
theorem opW_js (i : Nat) (hi : i < 15) (a b k n : Int) : jS (opW i a b k n) = jl (opW i a b k n) ∧ jE (opW i a b k n) = 0 := by
  obtain ⟨h1, h2⟩ := opW_join i hi a b k n
  constructor
  · rw [jS, if_pos ⟨h1, by omega⟩]
  · rw [jE, if_pos h1, if_neg (by omega)]
theorem kindI_lt {kd : Int} {i : Nat} (h : kindI kd = some i) : i < 15 ∧ (i : Int) + 1 = kd := by
  rw [kindI, List.find?_range_eq_some] at h
  exact ⟨List.mem_range.1 h.2.1, by simpa using h.1⟩
theorem wordI_lt {s : ByteArray} {i : Nat} (h : wordI s = some i) : i < 15 ∧ wordB i = s := by
  rw [wordI, List.find?_range_eq_some] at h
  exact ⟨List.mem_range.1 h.2.1, by simpa using h.1⟩
end Go.Proofs.Ytmpglmepmdpjoaa
