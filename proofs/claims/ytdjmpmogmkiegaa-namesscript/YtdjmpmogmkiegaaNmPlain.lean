/- Names, as plain lists of numbers. -/
import Derived.WalkKit
namespace Go.Proofs.Ytdjmpmogmkiegaa
set_option linter.unusedVariables false

instance lawB : LawfulBEq ByteArray where
  eq_of_beq := by
    rintro ⟨a⟩ ⟨b⟩ h
    have h' : (a == b) = true := h
    rw [eq_of_beq h']
  rfl := by
    rintro ⟨a⟩
    show (a == a) = true
    simp

def begB (c : Int) : Bool := decide (97 ≤ c) && decide (c ≤ 122)
def folB (c : Int) : Bool := begB c || (decide (48 ≤ c) && decide (c ≤ 57)) || c == 95

/-- A string's bytes as numbers. -/
def nums (s : ByteArray) : List Int := s.data.toList.map fun b => (b.toNat : Int)

theorem nums_len (s : ByteArray) : (nums s).length = s.size := by
  rw [nums, List.length_map, Array.length_toList]; rfl
theorem nums_get (s : ByteArray) (j : Nat) : (nums s)[j]?.getD 0 = ((s.data.toList.getD j 0).toNat : Int) := by
  rw [nums, List.getElem?_map, List.getD]
  cases s.data.toList[j]? <;> rfl

/-- Is it a name? -/
def nameL (l : List Int) : Bool := decide (1 ≤ l.length) && decide (l.length ≤ 32) && (l.take 1).all begB && (l.drop 1).all folB
def nameB (s : ByteArray) : Bool := nameL (nums s)

theorem name_size {s : ByteArray} (h : nameB s = true) : 1 ≤ s.size ∧ s.size ≤ 32 := by
  unfold nameB nameL at h
  rw [nums_len] at h
  simp only [Bool.and_eq_true, decide_eq_true_eq] at h
  omega

def checkE (s : ByteArray) : Int := if nameB s then 0 else 7
theorem checkE_yes {s : ByteArray} (h : nameB s = true) : checkE s = 0 := by rw [checkE, h]; rfl
theorem checkE_no {s : ByteArray} (h : nameB s = false) : checkE s = 7 := by rw [checkE, h]; rfl

theorem all_take {p : Int → Bool} {l : List Int} {k : Nat} (hk : k < l.length) (h : (l.take k).all p = true) (hp : p (l[k]?.getD 0) = true) : (l.take (k + 1)).all p = true := by
  rw [List.take_succ_eq_append_getElem hk, List.all_append, h]
  rw [List.getElem?_eq_getElem hk] at hp
  simpa using hp
theorem all_bad {p : Int → Bool} {l : List Int} {k : Nat} (hk : k < l.length) (hp : p (l[k]?.getD 0) = false) : l.all p = false := by
  rw [List.getElem?_eq_getElem hk] at hp
  apply Bool.eq_false_iff.2
  intro h
  have := List.all_eq_true.1 h _ (List.getElem_mem hk)
  simp only [Option.getD_some] at hp
  rw [hp] at this; cases this
end Go.Proofs.Ytdjmpmogmkiegaa
