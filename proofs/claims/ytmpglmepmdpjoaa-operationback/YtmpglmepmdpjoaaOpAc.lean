/- What is told is read as it was, and neither more nor less words are (pure). -/
import Derived.Test.YtmpglmepmdpjoaaOpAa
namespace Go.Proofs.Ytmpglmepmdpjoaa
open Go.RowKit Go.Maps
set_option linter.unusedVariables false

theorem one_text (ss : List ByteArray) (h : joinOk ss = true) (hl : (jl ss).length ≤ 65536) : textF (jl ss) = none ∧ textL (jl ss) = [(0, wat 0 ss)] := by
  obtain ⟨ho, hf, hne⟩ := jl_over ss h
  have hc : cuts 10 0 (jl ss) = [(0, jl ss)] := cuts_none _ _ (jl_ten ss hf)
  have h3 : lineF (0, jl ss) = none := by
    rw [lineF_words (x := (0, jl ss)) (by simp; omega) ho]
    show (cuts 32 0 (jl ss)).findSome? wordF = none
    rw [jl_cuts ss 0 hne hf]; exact wat_fine ss 0 hf
  have h1 : textF (jl ss) = none := by
    unfold textF
    rw [if_neg (by omega), hc]
    simp only [List.findSome?_cons, List.findSome?_nil]
    rw [h3]
  refine ⟨h1, ?_⟩
  rw [textL, if_pos h1, hc]
  have e4 : lineL (0, jl ss) = some (0, wat 0 ss) := by
    rw [lineL_words (x := (0, jl ss)) ho]
    show some (0, cuts 32 0 (jl ss)) = _
    rw [jl_cuts ss 0 hne hf]
  simp only [List.filterMap_cons, List.filterMap_nil]
  rw [e4]

theorem check_args {i : Nat} (hi : i < 15) {a b k n : Int} (h : checkI i a b k n = 0) : (argN i < 1 → a = 0) ∧ (argN i < 2 → b = 0) ∧ okR (mR i) k n = true := by
  rw [check_eq i hi] at h
  by_cases hp : ((argN i < 1 ∧ a ≠ 0) ∨ (argN i < 2 ∧ b ≠ 0) ∨ (objN i = 5 ∧ (a < 0 ∨ 4611686018427387904 < a)))
  · rw [if_pos hp] at h; exact absurd h (by decide)
  · rw [if_neg hp] at h
    refine ⟨fun q => ?_, fun q => ?_, ?_⟩
    · by_cases ha : a = 0
      · exact ha
      · exact absurd (.inl ⟨q, ha⟩) hp
    · by_cases hb : b = 0
      · exact hb
      · exact absurd (.inr (.inl ⟨q, hb⟩)) hp
    · rw [← rok_ok i hi]
      cases hr : rokR (rR i) k n with
      | true => rfl
      | false => rw [hr] at h; exact absurd h (by decide)

theorem take_head (i : Nat) (hi : i < 15) (a b : Int) (ha : I64 a) (hb : I64 b) (h1 : argN i < 1 → a = 0) (h2 : argN i < 2 → b = 0) (r : List ByteArray) :
    takeP 0 (wordB i :: (argW (argN i) a b ++ arrB :: r)) st1 = takeP (argN i + 2) r (stI i a b 0 0) := by
  have hm := argN_le i
  rw [take_word _ _ i (wordI_in i hi)]
  have hA := put_back ha
  have hBb := put_back hb
  have harr : (arrB == arrB) = true := by simp
  obtain h0 | h0 | h0 : argN i = 0 ∨ argN i = 1 ∨ argN i = 2 := by omega
  · obtain rfl := h1 (by omega)
    obtain rfl := h2 (by omega)
    have := take_arr i 0 0 0 0 arrB r harr
    rw [h0] at this ⊢
    exact this
  · obtain rfl := h2 (by omega)
    have e : argW (argN i) a 0 ++ arrB :: r = putB a :: (arrB :: r) := by rw [h0]; rfl
    rw [e, take_A i 0 0 0 0 _ _ (by omega) hA.1, hA.2]
    have := take_arr i a 0 0 0 arrB r harr
    rw [h0] at this ⊢
    exact this
  · have e : argW (argN i) a b ++ arrB :: r = putB a :: putB b :: (arrB :: r) := by rw [h0]; rfl
    rw [e, take_A i 0 0 0 0 _ _ (by omega) hA.1, hA.2, take_B i _ 0 0 0 _ _ (by omega) hBb.1, hBb.2]
    have := take_arr i a b 0 0 arrB r harr
    rw [h0] at this ⊢
    exact this

theorem read_told {i : Nat} (hi : i < 15) {a b k n : Int} (ha : I64 a) (hb : I64 b) (hn : I64 n) (h : checkI i a b k n = 0) :
    readP (opW i a b k n) = (((i : Int) + 1, a, b, k, n), 0, 0) ∧ (∀ x, (readP (opW i a b k n ++ [x])).2.2 = 5) ∧ (readP (opW i a b k n).dropLast).2.2 = 5 := by
  obtain ⟨h1, h2, hr⟩ := check_args hi h
  obtain ⟨t1, t2, t3⟩ := ret_told hr hn
  have e : ∀ r, wordB i :: (argW (argN i) a b ++ arrB :: r) = wordB i :: (argW (argN i) a b ++ [arrB]) ++ r := fun r => by simp
  refine ⟨?_, fun x => ?_, ?_⟩
  · have e1 : opW i a b k n = wordB i :: (argW (argN i) a b ++ arrB :: [retB k n]) := rfl
    unfold readP
    rw [e1, take_head i hi a b ha hb h1 h2, take_ret i a b _ _ t1, t2, t3, take_full, readR_done, if_pos h]
  · have e1 : opW i a b k n ++ [x] = wordB i :: (argW (argN i) a b ++ arrB :: [retB k n, x]) := by rw [opW]; simp
    unfold readP
    rw [e1, take_head i hi a b ha hb h1 h2, take_ret i a b _ _ t1, t2, t3, take_over, readR_bad (p := (argN i : Int) + 3) (e := 5) rfl rfl (by decide)]
  · have e1 : (opW i a b k n).dropLast = wordB i :: (argW (argN i) a b ++ arrB :: []) := by
      have : opW i a b k n = (wordB i :: (argW (argN i) a b ++ arrB :: [])) ++ [retB k n] := by rw [opW]; simp
      rw [this, List.dropLast_concat]
    unfold readP
    rw [e1, take_head i hi a b ha hb h1 h2, take_short i _ a b 0 0 (by omega), readR_bad (p := (argN i : Int) + 2) (e := 5) rfl rfl (by decide)]

theorem not_read {kd a b k n : Int} {r : Res} (h : r.2.2 = 5) : readsB kd a b k n r = false := by
  unfold readsB
  rw [h]
  simp
theorem is_read {kd a b k n : Int} {r : Res} (h : r = ((kd, a, b, k, n), 0, 0)) : readsB kd a b k n r = true := by
  rw [h]
  simp [readsB, sameOp]
end Go.Proofs.Ytmpglmepmdpjoaa
