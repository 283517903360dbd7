/- words. -/
import Derived.Test.YtmpglmepmdpjoaaOpAc
import Derived.Test.YtmpglmepmdpjoaaTkG
namespace Go.Proofs.Ytmpglmepmdpjoaa
open Go.RowKit Go.Maps
set_option linter.unusedVariables false

theorem texts_take {ss : List ByteArray} {k : Nat} (h : k < ss.length) : texts (ss.take (k + 1)) = texts (ss.take k) ++ [.string (ss[k]?.getD ⟨#[]⟩)] := by
  rw [List.take_succ_eq_append_getElem h, List.getElem?_eq_getElem h, texts_snoc]
  rfl

def WordsPost (ss : List ByteArray) (w : World) (e : Ending) (w' : World) : Prop :=
  ∃ v, e = .returned (.tuple #[v, .bool true]) ∧ w'.ownsRow w.heap.size 9 1 v ss.length (texts ss) ∧ Below w.heap.size w w'

set_option maxRecDepth 100000 in
set_option maxHeartbeats 2000000 in
theorem words_any (ss : List ByteArray) (w : World) (hj : joinOk ss = true) (hl : (jl ss).length ≤ 1000) (hm : ss.length ≤ 100) :
    Calls Try.prog 26 #[.string (strOfNums (jl ss))] w (WordsPost ss w) := by
  have hcv := fun (W : World) (s : ByteArray) => Lib.run_convert_string_bytes (P := Try.prog) W 9 85 5 s Try.underlying9 Try.underlying85 Try.underlying5
  obtain ⟨ht1, ht2⟩ := one_text ss hj (by omega)
  have hX : nums (strOfNums (jl ss)) = jl ss := nums_strOf _ (jl_octets ss)
  have hby := bytes_of_str w (strOfNums (jl ss))
  rw [hX] at hby
  have hss : (strOfNums (jl ss)).size = (jl ss).length := strOfNums_size _
  have h0 : 0 < ss.length := by
    rcases Nat.eq_zero_or_pos ss.length with h | h
    · rw [List.length_eq_zero_iff.1 h] at hj; cases hj
    · exact h
  obtain ⟨st, hst⟩ : ∃ st, strOfNums (jl ss) = st := ⟨_, rfl⟩
  have HL := Lib.hid (lines_any (some ⟨w.heap.size, 0, none⟩) (grownCap w (jl ss).length 0 5) (jl ss) _ hby (jl_octets ss) (grownCap_ge _ _ _ _) (by unfold maxLen; omega))
  unfold LinesPost at HL
  rw [ht2, show textE (jl ss) = 0 by rw [textE, ht1], show textP (jl ss) = 0 by rw [textP, ht1]] at HL
  rw [← hss] at HL hl
  rw [hst] at HL hss hl ⊢
  obtain ⟨i0, hi, hz0, hz1, hz2⟩ := info_parts info_str
  have HBB := Lib.hid (below_bytes (Below.refl w.heap.size w) (Nat.le_refl _) st)
  clear ht1 ht2 hX hby hss hst hj
  go_enter Try.func26, Try.ntmps26
  go_wp2_with fail
  refine HL.out.mono ?_
  rintro e w2 ⟨v, rfl, hown, hB2⟩
  obtain ⟨Al, cl, rfl, hRL⟩ := hown.read
  obtain ⟨b, off, rfl, hb, hcs⟩ := hRL (by simp)
  obtain ⟨Aw, cw, _, hc1, hRW⟩ := hcs 0 (by simp)
  have hc1' : w2.cell? ⟨b, off + 1, none⟩ = some (.slice Aw ss.length cw) := by
    have h := hc1
    simp only [Nat.zero_mul, Nat.add_zero] at h
    rw [h]
    simp [wat_len]
  have hRW' : ReadWords w2.heap.size w2 Aw (wat 0 ss) := hRW
  have HRW := Lib.hid hRW'
  have hB02 : Below w.heap.size w w2 := HBB.out.trans (hB2.mono (by rw [Lib.bytesWorld_size]; omega))
  have hBa := (Below.refl w2.heap.size w2).alloc (Nat.le_refl _) (.cells #[.int .i64 0, .int .i64 0] 82)
  clear hown hRL hcs hc1 hRW hRW' HL HBB hB2
  have c1 := (hBa.cell (p := ⟨b, off + 1, none⟩) hb).trans hc1'
  have HRW3 := Lib.hid (HRW.out.below hBa)
  go_wp2
  obtain ⟨W3, hW3⟩ : ∃ W3, W3 = w2.alloc (.cells #[.int .i64 0, .int .i64 0] 82) := ⟨_, rfl⟩
  rw [← hW3] at c1 HRW3 hBa ⊢
  have hs3 : w2.heap.size ≤ W3.heap.size := hBa.size
  have hB03 : Below w.heap.size w W3 := nxt hB02 hBa hB02.size
  clear hW3 hc1' HRW
  go_loopw [6, 7] (fun s6 i7 wr => ∃ (k : Nat) (q : Value), k ≤ ss.length ∧ i7 = .int .i64 k ∧ s6 = q ∧ wr.ownsRow W3.heap.size 9 1 q k (texts (ss.take k)) ∧ Below W3.heap.size W3 wr) (fun s6 i7 wr => ss.length - (intOf i7).toNat)
  case atStart => exact ⟨0, .slice none 0 0, Nat.zero_le _, rfl, rfl, World.ownsRow_nil _ _ _ _, Below.refl _ _⟩
  case round =>
    obtain ⟨k, q, hk, rfl, rfl, hrow, hB⟩ := hrel
    have hwr := hB.size
    have cc := (hB.cell (p := ⟨b, off + 1, none⟩) (by show b < W3.heap.size; omega)).trans c1
    have HROW := Lib.hid hrow
    obtain ⟨A', c', hq⟩ := row_one hrow
    subst hq
    clear hrow
    by_cases hlt : k < ss.length
    · obtain ⟨bw, offw, rfl, hbw, hcw⟩ := HRW3.out.below (hB.mono hs3) (by rw [wat_len]; exact h0)
      have ck := (hcw k (by rw [wat_len]; exact hlt)).1
      rw [wat_get ss 0 k hlt] at ck
      simp only [Option.getD_some, strOf_nums] at ck
      have hst := texts_take hlt
      obtain ⟨s, hs⟩ : ∃ s, ss[k]?.getD ⟨#[]⟩ = s := ⟨_, rfl⟩
      rw [hs] at ck hst
      have HST := Lib.hid hst
      have k0 : (0 : Int) ≤ (k : Int) := by omega
      have k1 : (k : Int) < (ss.length : Int) := by omega
      have kd : decide (k < ss.length) = true := decide_eq_true hlt
      clear hs hst hcw
      go_wp2_with (at_builtin; refine wpList_append_own_at _ rfl _ _ 36 rfl W3.heap.size 9 i0 (.string ⟨#[]⟩) 1 16 Try.underlying36 hi hz0 hz1 hz2 rfl (by decide) _ _ _ rfl (HROW.out.alloc _) ⟨wr.heap.size, 0, none⟩ 1 1 [.string s] rfl rfl (cell_one_new _ _ _) (by intro u hu; simp at hu; subst hu; rfl) (by unfold maxLen; omega) (by omega) (by simp; omega) ?_; intro v5 w5 hown5 hg5 hnil5 hat5)
      refine ⟨⟨k + 1, v5, by omega, by go_num, rfl, ?_, ?_⟩, by simp [intOf]; omega⟩
      · rw [HST.out]; exact hown5
      · exact (hB.alloc hwr _).grown hg5 (by simp; omega) (fun k e => ((HROW.out.lt k e).1))
    · have kd : decide (k < ss.length) = false := decide_eq_false hlt
      have hkk : k = ss.length := by omega
      subst hkk
      go_wp2
      go_ret2
      refine ⟨_, rfl, ?_, nxt hB03 hB (by have := hB03.size; omega)⟩
      have h := HROW.out
      rw [List.take_length] at h
      exact row_mono h hB03.size
end Go.Proofs.Ytmpglmepmdpjoaa
