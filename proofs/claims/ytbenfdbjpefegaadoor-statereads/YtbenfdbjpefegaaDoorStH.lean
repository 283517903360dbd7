/- Contracts: strings.Cut at a space; typeOf. -/
import Derived.Test.YtbenfdbjpefegaaDoorStC
import Derived.Lib.Bytealg
namespace Go.Proofs.YtbenfdbjpefegaaDoor
open Go.RowKit Go.Maps
set_option linter.unusedVariables false

def spB : ByteArray := ⟨#[32]⟩
def partB (s : ByteArray) : ByteArray := ⟨(partL s.data.toList).toArray⟩
theorem part_bytes (s : ByteArray) : (partB s).data.toList = partL s.data.toList := by simp [partB]
theorem part_size (s : ByteArray) : (partB s).size = (partL s.data.toList).length := by rw [← bytes_len, part_bytes]
theorem part_size_le (s : ByteArray) : (partB s).size ≤ s.size := by rw [part_size, ← bytes_len]; exact part_le _
theorem idx_part : ∀ l : List UInt8, Lib.indexByte l 32 = if (partL l).length < l.length then ((partL l).length : Int) else -1
  | [] => rfl
  | b :: l => by
    have ih := idx_part l
    have hle := part_le l
    unfold Lib.indexByte
    by_cases h : b = 32
    · subst h
      have e : partL (32 :: l) = [] := by simp [partL]
      rw [e]; simp
    · have e : partL (b :: l) = b :: partL l := by simp [partL, h]
      have hb : (b == 32) = false := by simpa using h
      rw [e, hb]
      by_cases h2 : (partL l).length < l.length
      · have i : Lib.indexByte l 32 = ((partL l).length : Int) := by rw [ih, if_pos h2]
        have hne : (((partL l).length : Int) == -1) = false := by rw [beq_eq_false_iff_ne]; omega
        rw [i, hne, if_pos (show (b :: partL l).length < (b :: l).length by simp; exact h2)]
        simp
      · have i : Lib.indexByte l 32 = -1 := by rw [ih, if_neg h2]
        rw [i, if_neg (show ¬ (b :: partL l).length < (b :: l).length by simp; omega)]
        simp
theorem part_take : ∀ l : List UInt8, partL l = l.take (partL l).length
  | [] => rfl
  | b :: l => by
    by_cases h : b = 32
    · subst h; simp [partL]
    · have e : partL (b :: l) = b :: partL l := by simp [partL, h]
      rw [e]; simp only [List.length_cons, List.take_succ_cons]; rw [← part_take l]
theorem part_all {l : List UInt8} (h : ¬ (partL l).length < l.length) : partL l = l := by
  rw [part_take, List.take_of_length_le (by omega)]
theorem part_extract (s : ByteArray) : s.extract 0 (partB s).size = partB s := by
  rw [part_size]
  apply ByteArray.ext
  apply Array.ext'
  rw [part_bytes]
  have : (s.extract 0 (partL s.data.toList).length).data.toList = s.data.toList.take (partL s.data.toList).length := by
    simp [ByteArray.data_extract]
  rw [this, ← part_take]
theorem part_whole {s : ByteArray} (h : ¬ (partB s).size < s.size) : partB s = s := by
  apply ByteArray.ext
  apply Array.ext'
  rw [part_bytes]
  exact part_all (by rw [part_size, ← bytes_len] at h; exact h)

theorem extern_index (s : ByteArray) (c : Int) (w : World) : (callFunc 82 #[.string s, .int .u8 c]).run Tryd.prog w = .ok (.value (.int .i64 (Lib.indexByte s.data.toList c.toNat.toUInt8))) w := by
  rw [run_callFunc_extern Tryd.func82 (by kernel_rfl) (by kernel_rfl) (by kernel_rfl) (e := Extern.BytealgIndexByte.indexByte) (by kernel_rfl), Lib.run_indexByteString]; rfl
theorem indexByte_any (s : ByteArray) (c : Int) (w : World) : Calls Tryd.prog 78 #[.string s, .int .u8 c] w fun e w' => e = .returned (.int .i64 (Lib.indexByte s.data.toList c.toNat.toUInt8)) ∧ w' = w := by
  have H := extern_index s c
  go_enter Tryd.func78, Tryd.ntmps78
  go_wp2
  go_ret
  exact ⟨rfl, rfl⟩
set_option maxRecDepth 100000 in
theorem index_any (s : ByteArray) (w : World) : Calls Tryd.prog 73 #[.string s, .string ⟨#[32]⟩] w fun e w' => e = .returned (.int .i64 (Lib.indexByte s.data.toList 32)) ∧ w' = w := by
  have H := indexByte_any s 32 w
  cases h : ([32] == s.toList)
  · go_enter Tryd.func73, Tryd.ntmps73
    go_wp2_with fail
    refine H.mono ?_
    rintro e w1 ⟨rfl, rfl⟩
    go_wp2
    go_ret
    exact ⟨rfl, rfl⟩
  · have hs : s.data.toList = [32] := by
      have := (beq_iff_eq.1 h).symm
      rwa [Go.ByteArray.toList_eq] at this
    have hi : Lib.indexByte s.data.toList 32 = 0 := by rw [hs]; rfl
    rw [hi]
    clear hs hi H
    go_enter Tryd.func73, Tryd.ntmps73
    go_wp2
    go_ret
    exact ⟨rfl, rfl⟩
def CutPost (s : ByteArray) (w : World) (e : Ending) (w' : World) : Prop := ∃ u v, e = .returned (.tuple #[.string (partB s), .string u, .bool v]) ∧ ∃ n, w' = w.drewN n
set_option maxHeartbeats 1000000 in
theorem cutl_any (s : ByteArray) (w : World) (hs : s.size ≤ 1000000) : Calls Tryd.prog 66 #[.string s, .string ⟨#[32]⟩] w (CutPost s w) := by
  have H := index_any s w
  rw [idx_part, ← part_size, bytes_len] at H
  by_cases h : (partB s).size < s.size
  · rw [if_pos h] at H
    obtain ⟨k, hk⟩ : ∃ k, (partB s).size = k := ⟨_, rfl⟩
    have hp : s.extract 0 k = partB s := by rw [← hk]; exact part_extract s
    rw [hk] at H h
    have HP := Lib.hid hp
    have h0 : decide ((k : Int) ≥ 0) = true := decide_eq_true (by omega)
    have h1 : (0 : Int) ≤ (k : Int) := by omega
    have h2 : (k : Int) ≤ (s.size : Int) := by omega
    obtain ⟨k1, hk1⟩ : ∃ k1, k1 = k + 1 := ⟨_, rfl⟩
    have hwr : IntKind.i64.wrap ((k : Int) + 1) = (k1 : Int) := by rw [hk1, IntKind.wrap_i64]; omega
    have h3 : (0 : Int) ≤ (k1 : Int) := by omega
    have h4 : (k1 : Int) ≤ (s.size : Int) := by omega
    clear hk hk1 hp
    go_enter Tryd.func66, Tryd.ntmps66
    go_wp2_with fail
    refine H.mono ?_
    rintro e w1 ⟨rfl, rfl⟩
    go_wp2_with fail
    go_quiet (fail)
    go_wp2
    refine bodyPost_ret (v := .tuple #[.string (s.extract 0 k), .string (s.extract k1 s.size), .bool true]) (by simp [results, Tryd.f66, go_sem]) rfl ?_
    exact ⟨_, _, by rw [HP.out], _, rfl⟩
  · rw [if_neg h] at H
    have hp := part_whole h
    unfold CutPost
    rw [hp]
    clear h hp
    go_enter Tryd.func66, Tryd.ntmps66
    go_wp2_with fail
    refine H.mono ?_
    rintro e w1 ⟨rfl, rfl⟩
    go_wp2
    refine bodyPost_ret (v := .tuple #[.string s, .string ⟨#[]⟩, .bool false]) (by simp [results, Tryd.f66, go_sem]) rfl ?_
    exact ⟨_, _, rfl, 0, rfl⟩
theorem cut_any (s : ByteArray) (w : World) (hs : s.size ≤ 1000000) : Calls Tryd.prog 52 #[.string s, .string ⟨#[32]⟩] w (CutPost s w) := by
  have H := cutl_any s w hs
  go_enter Tryd.func52, Tryd.ntmps52
  go_wp2_with fail
  refine H.mono ?_
  rintro e w1 ⟨u, v, rfl, n, rfl⟩
  go_wp2
  refine bodyPost_ret (v := .tuple #[.string (partB s), .string u, .bool v]) (by simp [results, Tryd.f52, go_sem]) rfl ?_
  exact ⟨u, v, rfl, n, rfl⟩

theorem wordB_list : ∀ i, i < 6 → (wordB i).toList = wordL i := fun i _ => Go.ByteArray.toList_eq _
/-- The first of the words from the k-th on that l is. -/
theorem type_first {l : List UInt8} {k : Nat} (hk : k < 6) (h : l = wordL k) (hb : ∀ j, j < k → l ≠ wordL j) : typeL l = k := by
  subst h
  match k, hk with
  | 0, _ => rfl
  | 1, _ => rfl
  | 2, _ => rfl
  | 3, _ => rfl
  | 4, _ => rfl
  | 5, _ => rfl
theorem type_none {l : List UInt8} (h : ∀ j, j < 6 → l ≠ wordL j) : typeL l = 0 := by
  unfold typeL
  rw [if_neg (h 1 (by omega)), if_neg (h 2 (by omega)), if_neg (h 3 (by omega)), if_neg (h 4 (by omega)), if_neg (h 5 (by omega))]
theorem type_le (l : List UInt8) : typeL l ≤ 5 := by unfold typeL; repeat' split <;> try omega
theorem type_word {l : List UInt8} (h : typeL l ≠ 0) : l = wordL (typeL l) := by
  unfold typeL at *
  repeat' split at h
  all_goals first | (next h1 => simp_all) | skip
  all_goals (try exact absurd rfl h)

theorem words_index : ∀ (k : Nat), k < 6 → ∀ W : World, (Instr.index 57 (.agg #[.string (wordB 0), .string (wordB 1), .string (wordB 2), .string (wordB 3), .string (wordB 4), .string (wordB 5)]) (.int .i64 (k : Int))).run Tryd.prog W = .ok (.string (wordB k)) W
  | 0, _, W => by kernel_rfl
  | 1, _, W => by kernel_rfl
  | 2, _, W => by kernel_rfl
  | 3, _, W => by kernel_rfl
  | 4, _, W => by kernel_rfl
  | 5, _, W => by kernel_rfl
  | k + 6, h, W => by omega
set_option maxHeartbeats 1000000 in
theorem typeOf_any (s : ByteArray) (w : World) (hw : Wds w) : Calls Tryd.prog 53 #[.string s] w fun e w' => e = .returned (.int .i64 (typeL s.data.toList)) ∧ w' = w := by
  have c0 := hw 0 (by omega)
  have c1 := hw 1 (by omega)
  have c2 := hw 2 (by omega)
  have c3 := hw 3 (by omega)
  have c4 := hw 4 (by omega)
  have c5 := hw 5 (by omega)
  clear hw
  have HIX := words_index
  go_enter Tryd.func53, Tryd.ntmps53
  go_wp2
  generalize (Value.agg #[.string (wordB 0), .string (wordB 1), .string (wordB 2), .string (wordB 3), .string (wordB 4), .string (wordB 5)]) = va at *
  clear c0 c1 c2 c3 c4 c5
  go_loopw [3, 4, 6] (fun s3 s4 i wr => ∃ k : Nat, k ≤ 6 ∧ i = .int .i64 k ∧ (∀ j, j < k → s.data.toList ≠ wordL j) ∧ wr = w) (fun s3 s4 i wr => 6 - (intOf i).toNat)
  case atStart => exact ⟨0, by omega, rfl, fun j h => absurd h (Nat.not_lt_zero _), rfl⟩
  case round =>
    obtain ⟨k, hk, rfl, hall, rfl⟩ := hrel
    have HALL := Lib.hid hall
    clear hall
    by_cases hlt : k < 6
    · have hix := HIX k hlt
      have q2 : decide ((k : Int) < 6) = true := decide_eq_true (by omega)
      have hwl := wordB_list k hlt
      obtain ⟨sk, hsk⟩ : ∃ sk, wordB k = sk := ⟨_, rfl⟩
      rw [hsk] at hix hwl
      have HSK := Lib.hid hwl
      clear HIX hsk hwl
      cases he : (sk.toList == s.toList)
      · go_wp2
        go_roundw
        case rel =>
          refine ⟨k + 1, by omega, by go_num, fun j hj => ?_, trivial⟩
          rcases Nat.lt_or_ge j k with h1 | h1
          · exact HALL.out j h1
          · rw [show j = k by omega, ← HSK.out]
            intro e
            rw [beq_eq_false_iff_ne, Go.ByteArray.toList_eq s] at he
            exact he e.symm
        case measure => simp [intOf]; omega
      · go_wp2
        go_ret
        refine ⟨ret_int ?_, rfl⟩
        have h1 := beq_iff_eq.1 he
        rw [HSK.out, Go.ByteArray.toList_eq s] at h1
        have := type_first hlt h1.symm HALL.out
        omega
    · have q2 : decide ((k : Int) < 6) = false := decide_eq_false (by omega)
      clear HIX
      go_wp2
      go_ret
      exact ⟨ret_int (by rw [type_none (fun j hj => HALL.out j (by omega))]; rfl), rfl⟩
end Go.Proofs.YtbenfdbjpefegaaDoor
