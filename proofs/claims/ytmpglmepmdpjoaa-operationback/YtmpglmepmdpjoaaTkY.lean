/- Plain lists: what is joined, as a text. -/
import Derived.Test.YtmpglmepmdpjoaaOpBase
import Derived.Test.YtmpglmepmdpjoaaTkF
namespace Go.Proofs.Ytmpglmepmdpjoaa
open Go.RowKit
set_option linter.unusedVariables false

/-- Words at their places. -/
def wat : Nat → List ByteArray → List Wd
  | _, [] => []
  | o, s :: r => (o, nums s) :: wat (o + s.size + 1) r

theorem wat_len : ∀ (ss : List ByteArray) (o : Nat), (wat o ss).length = ss.length
  | [], _ => rfl
  | s :: r, o => by rw [wat, List.length_cons, List.length_cons, wat_len r]

theorem wat_get : ∀ (ss : List ByteArray) (o k : Nat), k < ss.length → (wat o ss)[k]? = some (o + szs (ss.take k) + k, nums (ss[k]?.getD ⟨#[]⟩))
  | [], _, _, h => by cases h
  | s :: r, o, 0, _ => by simp [wat, szs]
  | s :: r, o, k + 1, h => by
    rw [wat, List.getElem?_cons_succ, wat_get r _ k (by simpa using h), List.take_succ_cons, List.getElem?_cons_succ]
    have e : szs (s :: r.take k) = s.size + szs (r.take k) := by simp [szs]
    rw [e]
    congr 2
    omega

theorem fine_mem {ss : List ByteArray} (h : fineW ss = true) {s : ByteArray} (hs : s ∈ ss) : fw (nums s) = none := by
  have := List.all_eq_true.1 h s hs
  cases e : fw (nums s) with
  | none => rfl
  | some k => rw [e] at this; cases this

theorem bad_ten : bad 10 = true := by decide
theorem word_no {l : List Int} (h : fw l = none) : (32 : Int) ∉ l ∧ (10 : Int) ∉ l := by
  have hg := (fw_none_inv h).2
  exact ⟨fun e => by have h2 := hg _ e; revert h2; decide, fun e => by have h2 := hg _ e; revert h2; decide⟩

theorem jl_cuts : ∀ (ss : List ByteArray) (o : Nat), ss ≠ [] → fineW ss = true → cuts 32 o (jl ss) = wat o ss
  | [], _, h, _ => absurd rfl h
  | [s], o, _, hf => by
    rw [jl_one, cuts_none _ _ (word_no (fine_mem hf List.mem_cons_self)).1]; rfl
  | s :: t :: r, o, _, hf => by
    have e1 : jl (s :: t :: r) = nums s ++ 32 :: jl (t :: r) := rfl
    have hf2 : fineW (t :: r) = true := List.all_eq_true.2 fun x hx => List.all_eq_true.1 hf x (List.mem_cons_of_mem _ hx)
    rw [e1, cuts_sep _ _ _ (word_no (fine_mem hf List.mem_cons_self)).1, jl_cuts (t :: r) _ (by simp) hf2, nums_len]; rfl

theorem jl_ten : ∀ (ss : List ByteArray), fineW ss = true → (10 : Int) ∉ jl ss
  | [], _ => by simp [jl, joined]
  | [s], hf => by rw [jl_one]; exact (word_no (fine_mem hf List.mem_cons_self)).2
  | s :: t :: r, hf => by
    have e1 : jl (s :: t :: r) = nums s ++ 32 :: jl (t :: r) := rfl
    have hf2 : fineW (t :: r) = true := List.all_eq_true.2 fun x hx => List.all_eq_true.1 hf x (List.mem_cons_of_mem _ hx)
    have h1 := (word_no (fine_mem hf List.mem_cons_self)).2
    have h2 := jl_ten (t :: r) hf2
    rw [e1]; simp only [List.mem_append, List.mem_cons, not_or]
    exact ⟨h1, by decide, h2⟩

theorem wat_fine : ∀ (ss : List ByteArray) (o : Nat), fineW ss = true → (wat o ss).findSome? wordF = none
  | [], _, _ => rfl
  | s :: r, o, hf => by
    have hf2 : fineW r = true := List.all_eq_true.2 fun x hx => List.all_eq_true.1 hf x (List.mem_cons_of_mem _ hx)
    rw [wat, List.findSome?_cons, wordF_none (x := (o, nums s)) (fine_mem hf List.mem_cons_self)]
    exact wat_fine r _ hf2

theorem jl_over (ss : List ByteArray) (h : joinOk ss = true) : over (jl ss) = false ∧ fineW ss = true ∧ ss ≠ [] := by
  unfold joinOk at h
  rw [Bool.and_eq_true] at h
  obtain ⟨hf, ho⟩ := h
  refine ⟨?_, hf, fun e => by subst e; cases ho⟩
  cases ss with
  | nil => cases ho
  | cons s r =>
    have ho' : over (nums s) = false := by simpa using ho
    have hne := (fw_none_inv (fine_mem hf List.mem_cons_self)).1
    have e1 : ∃ q, jl (s :: r) = nums s ++ q := by
      cases r with
      | nil => exact ⟨[], by rw [jl_one]; simp⟩
      | cons t r => exact ⟨32 :: jl (t :: r), rfl⟩
    obtain ⟨q, hq⟩ := e1
    rw [hq]
    cases hn : nums s with
    | nil => exact absurd hn hne
    | cons x l => rw [hn] at ho'; exact ho'

/-- What is joined, behind other lines. -/
def backT (ss : List ByteArray) : List Int := [120, 32, 121, 10, 10, 35, 32, 32, 35, 10] ++ (jl ss ++ [10])

theorem back_cuts (ss : List ByteArray) (hf : fineW ss = true) : cuts 10 0 (backT ss) = [(0, [120, 32, 121]), (4, []), (5, [35, 32, 32, 35]), (10, jl ss), (10 + (jl ss).length + 1, [])] := by
  have e : backT ss = [120, 32, 121] ++ 10 :: ([] ++ 10 :: ([35, 32, 32, 35] ++ 10 :: (jl ss ++ 10 :: []))) := rfl
  rw [e, cuts_sep _ _ _ (by decide), cuts_sep _ _ _ (by decide), cuts_sep _ _ _ (by decide), cuts_sep _ _ _ (jl_ten ss hf)]
  rfl

theorem back_text (ss : List ByteArray) (h : joinOk ss = true) (hl : (jl ss).length ≤ 65536) : textF (backT ss) = none ∧ textL (backT ss) = [(0, [(0, [120]), (2, [121])]), (10, wat 10 ss)] := by
  obtain ⟨ho, hf, hne⟩ := jl_over ss h
  have hlen : (backT ss).length ≤ 67108864 := by simp [backT]; omega
  have h3 : lineF (10, jl ss) = none := by
    rw [lineF_words (x := (10, jl ss)) (by simp; omega) ho]
    show (cuts 32 10 (jl ss)).findSome? wordF = none
    rw [jl_cuts ss 10 hne hf]; exact wat_fine ss 10 hf
  have h1 : textF (backT ss) = none := by
    unfold textF
    rw [if_neg (by omega), back_cuts ss hf]
    simp only [List.findSome?_cons, List.findSome?_nil]
    rw [show lineF (0, [120, 32, 121]) = none by decide, show lineF (4, []) = none by decide, show lineF (5, [35, 32, 32, 35]) = none by decide, h3, lineF_over (x := (10 + (jl ss).length + 1, [])) (by simp) rfl]
  refine ⟨h1, ?_⟩
  rw [textL, if_pos h1, back_cuts ss hf]
  have e4 : lineL (10, jl ss) = some (10, wat 10 ss) := by
    rw [lineL_words (x := (10, jl ss)) ho]
    show some (10, cuts 32 10 (jl ss)) = _
    rw [jl_cuts ss 10 hne hf]
  have e5 : lineL (10 + (jl ss).length + 1, []) = none := lineL_over (x := (10 + (jl ss).length + 1, [])) rfl
  simp only [List.filterMap_cons, List.filterMap_nil]
  rw [show lineL (0, [120, 32, 121]) = some (0, [(0, [120]), (2, [121])]) by decide, show lineL (4, []) = none by decide, show lineL (5, [35, 32, 32, 35]) = none by decide, e4, e5]

theorem back_str (ss : List ByteArray) : (⟨#[120, 32, 121, 10, 10, 35, 32, 32, 35, 10]⟩ : ByteArray) ++ strOfNums (jl ss) ++ ⟨#[10]⟩ = strOfNums (backT ss) := by
  apply ByteArray.ext
  rw [ByteArray.data_append, ByteArray.data_append]
  simp [strOfNums, backT]
theorem jl_octets : ∀ (ss : List ByteArray), Octets (jl ss)
  | [] => fun x hx => by simp [jl, joined] at hx
  | [s] => nums_octets s
  | s :: t :: r => fun x hx => by
    have e1 : jl (s :: t :: r) = nums s ++ 32 :: jl (t :: r) := rfl
    rw [e1] at hx
    rcases List.mem_append.1 hx with h | h
    · exact nums_octets s x h
    · rcases List.mem_cons.1 h with rfl | h
      · omega
      · exact jl_octets (t :: r) x h
theorem back_octets (ss : List ByteArray) : Octets (backT ss) := fun x hx => by
  unfold backT at hx
  rcases List.mem_append.1 hx with h | h
  · simp at h; omega
  · rcases List.mem_append.1 h with h | h
    · exact jl_octets ss x h
    · simp at h; omega
end Go.Proofs.Ytmpglmepmdpjoaa
