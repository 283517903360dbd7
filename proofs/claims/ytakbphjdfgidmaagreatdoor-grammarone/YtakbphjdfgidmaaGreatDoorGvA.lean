/- Pure: the words of an event's line; what is printed is parsed as it was. -/
import Derived.Test.YtakbphjdfgidmaaGreatDoorGrM
import Derived.Test.YtakbphjdfgidmaaGreatDoorGp
import Derived.Test.YtakbphjdfgidmaaGreatDoorGtw
import Derived.Test.YtakbphjdfgidmaaGreatDoorGuJ
namespace Go.Proofs.YtakbphjdfgidmaaGreatDoor
open Go.RowKit
set_option linter.unusedVariables false

theorem nums_app (a b : ByteArray) : nums (a ++ b) = nums a ++ nums b := by
  unfold nums
  rw [ByteArray.data_append]
  simp
theorem jl_cons (w : ByteArray) : ∀ ps : List ByteArray, jl (w :: ps) = nums w ++ ps.flatMap fun p => 32 :: nums p
  | [] => by rw [jl_one]; simp
  | p :: r => by
    have e : jl (w :: p :: r) = nums w ++ 32 :: jl (p :: r) := rfl
    rw [e, jl_cons p r, List.flatMap_cons]; simp
theorem name_fw {s : ByteArray} (h : nm_checkE s = 0) : fw (nums s) = none := by
  have h1 := nm_name h
  unfold nameB nameL at h1
  simp only [Bool.and_eq_true, decide_eq_true_eq] at h1
  obtain ⟨⟨⟨a1, a2⟩, a3⟩, a4⟩ := h1
  refine fw_none (fun e => by rw [e] at a1; simp at a1) fun x hx => ?_
  have hb : begB x = true ∨ folB x = true := by
    rw [← List.take_append_drop 1 (nums s)] at hx
    rcases List.mem_append.1 hx with h | h
    · exact .inl (List.all_eq_true.1 a3 x h)
    · exact .inr (List.all_eq_true.1 a4 x h)
  unfold folB begB at hb
  simp only [Bool.or_eq_true, Bool.and_eq_true, decide_eq_true_eq, beq_iff_eq] at hb
  unfold bad
  simp only [Bool.or_eq_false_iff, decide_eq_false_iff_not]
  omega
/-- A state's words. -/
def stW (s : StT) : List ByteArray := st_wordB s.1.toNat :: (numsOf s.1 s.2.1 s.2.2).map putB
theorem nums_list (l : List UInt8) : nums ⟨l.toArray⟩ = l.map fun b => (b.toNat : Int) := by simp [nums]
theorem stW_jl (s : StT) : jl (stW s) = nums (stS s) := by
  obtain ⟨t, n, l⟩ := s
  unfold stW stS txtL
  dsimp only
  rw [jl_cons, nums_list (wordL t.toNat ++ txtOf (numsOf t n l)), List.map_append]
  congr 1
  unfold txtOf
  generalize numsOf t n l = ys
  induction ys with
  | nil => rfl
  | cons y r ih =>
    rw [List.map_cons, List.flatMap_cons, List.flatMap_cons, List.map_append, ih]
    congr 1
theorem st_word_fw (k : Nat) (h1 : 1 ≤ k) (h5 : k ≤ 5) : fw (nums (st_wordB k)) = none := by
  have : k = 1 ∨ k = 2 ∨ k = 3 ∨ k = 4 ∨ k = 5 := by omega
  rcases this with rfl | rfl | rfl | rfl | rfl <;> decide
theorem kw_fw (k : Nat) (h1 : 1 ≤ k) (h5 : k ≤ 5) : fw (nums (kwB k)) = none ∧ over (nums (kwB k)) = false := by
  have : k = 1 ∨ k = 2 ∨ k = 3 ∨ k = 4 ∨ k = 5 := by omega
  rcases this with rfl | rfl | rfl | rfl | rfl <;> decide
/-- An operation's words. -/
def opWd (o : OpT) : List ByteArray := match kindI o.1 with
  | none => []
  | some i => opW i o.2.1 o.2.2.1 o.2.2.2.1 o.2.2.2.2
/-- The words of an event's line. -/
def evWd (e : Ev) : List ByteArray := kwB e.kd.toNat :: e.nm :: (if e.kd = 1 then stW e.st else if e.kd = 3 then e.ob :: opWd e.op else [])
theorem op_some {o : OpT} (h : opE o = 0) : ∃ i, i < 15 ∧ kindI o.1 = some i ∧ (i : Int) + 1 = o.1 ∧ checkI i o.2.1 o.2.2.1 o.2.2.2.1 o.2.2.2.2 = 0 := by
  unfold opE checkP at h
  cases hk : kindI o.1 with
  | none => rw [hk] at h; cases h
  | some i =>
    rw [hk] at h
    exact ⟨i, (kindI_lt hk).1, rfl, (kindI_lt hk).2, h⟩
theorem fine_of {ss : List ByteArray} (h : ∀ s ∈ ss, fw (nums s) = none) : fineW ss = true := by
  unfold fineW
  rw [List.all_eq_true]
  intro s hs
  rw [h s hs]; rfl
theorem st_type {s : StT} (h : st_checkE s.1 s.2.1 s.2.2 = 0) : 1 ≤ s.1 ∧ s.1 ≤ 5 := ⟨(check_ok h).1, (check_ok h).2.1⟩
theorem evWd_fine {e : Ev} (h : evE e = 0) : joinOk (evWd e) = true := by
  obtain ⟨hk, hb, hn, h1, h3⟩ := evE_cases h
  have hkk : 1 ≤ e.kd.toNat ∧ e.kd.toNat ≤ 5 := by omega
  obtain ⟨f1, f2⟩ := kw_fw _ hkk.1 hkk.2
  unfold joinOk
  rw [Bool.and_eq_true]
  refine ⟨fine_of fun s hs => ?_, by unfold evWd; simp [f2]⟩
  unfold evWd at hs
  rcases List.mem_cons.1 hs with rfl | hs
  · exact f1
  · rcases List.mem_cons.1 hs with rfl | hs
    · exact name_fw hn
    · by_cases k1 : e.kd = 1
      · rw [if_pos k1] at hs
        obtain ⟨c1, c2⟩ := firstE_zero (h1 k1)
        have ht := st_type c1
        unfold stW at hs
        rcases List.mem_cons.1 hs with rfl | hs
        · exact st_word_fw _ (by omega) (by omega)
        · obtain ⟨x, _, rfl⟩ := List.mem_map.1 hs
          exact putB_fine x
      · rw [if_neg k1] at hs
        by_cases k3 : e.kd = 3
        · rw [if_pos k3] at hs
          obtain ⟨d1, d2⟩ := doneE_zero (h3 k3)
          obtain ⟨i, i1, i2, i3, i4⟩ := op_some d2
          rcases List.mem_cons.1 hs with rfl | hs
          · exact name_fw d1
          · unfold opWd at hs
            rw [i2] at hs
            exact (opW_mem i1 hs).1
        · rw [if_neg k3] at hs; cases hs
theorem evWd_jl {e : Ev} (h : evE e = 0) : nums (evS e) = jl (evWd e) := by
  obtain ⟨hk, hb, hn, h1, h3⟩ := evE_cases h
  obtain ⟨kd, nm, ob, o, s⟩ := e
  dsimp only at hk hb hn h1 h3
  have hbl : nums blB = [32] := by decide
  have j2 : ∀ (a b : ByteArray) (r : List ByteArray), jl (a :: b :: r) = nums a ++ 32 :: jl (b :: r) := fun a b r => rfl
  unfold evS evH evWd
  dsimp only
  by_cases k1 : kd = 1
  · rw [if_pos k1, if_pos k1, nums_app, nums_app, nums_app, nums_app, hbl]
    have e1 : ∃ w r, stW s = w :: r := ⟨_, _, rfl⟩
    obtain ⟨w, r, e1⟩ := e1
    rw [← stW_jl, e1, j2, j2]
    simp
  · rw [if_neg k1, if_neg k1]
    by_cases k3 : kd = 3
    · rw [if_pos k3, if_pos k3]
      obtain ⟨d1, d2⟩ := doneE_zero (h3 k3)
      obtain ⟨i, i1, i2, i3, i4⟩ := op_some d2
      have hop : nums (opS o) = jl (opWd o) := by
        unfold opS opWd textS
        rw [i2]
        dsimp only
        rw [if_pos i4, nums_strOf _ (jl_octets _)]
      have e1 : ∃ w r, opWd o = w :: r := by unfold opWd; rw [i2]; exact ⟨_, _, rfl⟩
      obtain ⟨w, r, e1⟩ := e1
      rw [nums_app, nums_app, nums_app, nums_app, nums_app, nums_app, hbl, hop, e1, j2, j2, j2]
      simp
    · rw [if_neg k3, if_neg k3, j2, jl_one, nums_app, nums_app, hbl]
      simp
end Go.Proofs.YtakbphjdfgidmaaGreatDoor
