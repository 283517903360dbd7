/- Contracts of the layer token: joinedSize, Join. -/
import Derived.Test.YtmpglmepmdpjoaaOpBase
import Derived.Test.YtmpglmepmdpjoaaTkE
namespace Go.Proofs.Ytmpglmepmdpjoaa
open Go.RowKit
set_option linter.unusedVariables false

/-- Words, a space between two. -/
def joined : List (List Int) → List Int
  | [] => []
  | [p] => p
  | p :: q :: r => p ++ 32 :: joined (q :: r)

theorem joined_snoc : ∀ (l : List (List Int)) (p : List Int), l ≠ [] → joined (l ++ [p]) = joined l ++ 32 :: p
  | [], p, h => absurd rfl h
  | [a], p, _ => rfl
  | a :: b :: r, p, _ => by
    have := joined_snoc (b :: r) p (by simp)
    show a ++ 32 :: joined (b :: r ++ [p]) = _
    rw [this]; simp [joined]

def jl (ss : List ByteArray) : List Int := joined (ss.map nums)
def szs (ss : List ByteArray) : Nat := (ss.map ByteArray.size).sum

theorem jl_snoc (l : List ByteArray) (s : ByteArray) (h : l ≠ []) : jl (l ++ [s]) = jl l ++ 32 :: nums s := by
  unfold jl; rw [List.map_append]; exact joined_snoc _ _ (by simpa using h)
theorem jl_one (s : ByteArray) : jl [s] = nums s := rfl
theorem szs_snoc (l : List ByteArray) (s : ByteArray) : szs (l ++ [s]) = szs l + s.size := by simp [szs]
theorem szs_take (ss : List ByteArray) (k : Nat) (h : k < ss.length) : szs (ss.take (k + 1)) = szs (ss.take k) + (ss[k]?.getD ⟨#[]⟩).size := by
  rw [List.take_succ_eq_append_getElem h, szs_snoc, List.getElem?_eq_getElem h]; rfl
theorem szs_app (a b : List ByteArray) : szs (a ++ b) = szs a + szs b := by simp [szs]
theorem szs_le (ss : List ByteArray) (k : Nat) : szs (ss.take k) ≤ szs ss := by
  have h := szs_app (ss.take k) (ss.drop k)
  rw [List.take_append_drop] at h
  omega
theorem szs_mem {ss : List ByteArray} {s : ByteArray} (h : s ∈ ss) : s.size ≤ szs ss := by
  induction ss with
  | nil => cases h
  | cons a r ih =>
    have e : szs (a :: r) = a.size + szs r := by simp [szs]
    rcases List.mem_cons.1 h with rfl | h
    · omega
    · have := ih h; omega
theorem jl_len : ∀ (ss : List ByteArray), 0 < ss.length → (jl ss).length + 1 = ss.length + szs ss
  | [], h => by cases h
  | [s], _ => by simp [jl_one, nums_len, szs]; omega
  | s :: t :: r, _ => by
    have ih := jl_len (t :: r) (by simp)
    have e1 : jl (s :: t :: r) = nums s ++ 32 :: jl (t :: r) := rfl
    have e2 : szs (s :: t :: r) = s.size + szs (t :: r) := by simp [szs]
    rw [e1, e2, List.length_append, List.length_cons, nums_len]
    simp only [List.length_cons] at ih ⊢
    omega

set_option maxHeartbeats 1000000 in
theorem jsize_any (A : Option Addr) (c : Nat) (ss : List ByteArray) (w : World) (hA : Strs w.heap.size w A ss) (hm : ss.length ≤ 1000) (h0 : 0 < ss.length) (hz : szs ss ≤ 1000000) :
    Calls Try.prog 46 #[.slice A ss.length c] w fun e w' => e = .returned (.int .i64 (jl ss).length) ∧ w = w' := by
  have HL := Lib.hid (jl_len ss h0)
  obtain ⟨b, off, rfl, hb, hc⟩ := hA h0
  have HC := Lib.hid hc
  have HT := Lib.hid (szs_take ss)
  have HE := Lib.hid (szs_le ss)
  clear hA hc
  go_enter Try.func46, Try.ntmps46
  go_wp2
  go_loop [3, 11] (fun s3 i => ∃ k z : Nat, k ≤ ss.length ∧ i = .int .i64 k ∧ s3 = .int .i64 ((ss.length : Int) - 1 + z) ∧ z = szs (ss.take k)) (fun s3 i => ss.length - (intOf i).toNat)
  case atStart => exact ⟨0, 0, Nat.zero_le _, rfl, by simp, by simp [szs]⟩
  case round =>
    obtain ⟨k, z, hk, rfl, rfl, hzk⟩ := hrel
    have HZ := Lib.hid hzk
    have hle : z ≤ 1000000 := by have := HE.out k; omega
    clear hzk
    by_cases hlt : k < ss.length
    · have hck := HC.out k hlt
      have hst := HT.out k hlt
      have hle2 := HE.out (k + 1)
      obtain ⟨s, hs⟩ : ∃ s, ss[k]?.getD ⟨#[]⟩ = s := ⟨_, rfl⟩
      rw [hs] at hck hst
      have hsz : s.size ≤ 1000000 := by omega
      have HST := Lib.hid hst
      clear hs hst hle2
      go_wp2
      go_roundw
      case rel => exact ⟨k + 1, z + s.size, by omega, by go_num, by go_num, by rw [HST.out, HZ.out]⟩
      case measure => simp [intOf]; omega
    · have hd : decide (k < ss.length) = false := decide_eq_false hlt
      have HK : Hid (szs (ss.take k) = szs ss) := Lib.hid (by rw [List.take_of_length_le (by omega)])
      go_wp2
      go_ret
      refine ⟨ret_int ?_, rfl⟩
      have := HZ.out
      have := HK.out
      have := HL.out
      omega

/-- Join's answer. -/
def jE (ss : List ByteArray) : Int := if joinOk ss then (if 65536 < (jl ss).length then 4 else 0) else 5
def jS (ss : List ByteArray) : List Int := if joinOk ss = true ∧ ¬ 65536 < (jl ss).length then jl ss else []
def JoinPost (ss : List ByteArray) (w : World) (e : Ending) (w' : World) : Prop := e = .returned (.tuple #[.string (strOfNums (jS ss)), .int .i64 (jE ss)]) ∧ Below w.heap.size w w'

theorem strCells_nums (s : ByteArray) : Lib.strCells s = bytesOf (nums s) := by simp [Lib.strCells, bytesOf, nums]
theorem jl_take (ss : List ByteArray) (k : Nat) (h : k < ss.length) : jl (ss.take (k + 1)) = if k = 0 then nums (ss[k]?.getD ⟨#[]⟩) else jl (ss.take k) ++ 32 :: nums (ss[k]?.getD ⟨#[]⟩) := by
  rw [List.take_succ_eq_append_getElem h, List.getElem?_eq_getElem h]
  by_cases hk : k = 0
  · subst hk; rw [if_pos rfl]; simp [jl_one]
  · rw [if_neg hk, jl_snoc _ _ (by
      intro e
      have this : (ss.take k).length = 0 := by rw [e]; rfl
      rw [List.length_take] at this; omega)]; rfl

theorem jl_take_len (ss : List ByteArray) (k : Nat) (h : k ≤ ss.length) : (jl (ss.take k)).length ≤ ss.length + szs ss := by
  by_cases hk : 0 < (ss.take k).length
  · have := jl_len (ss.take k) hk
    have := szs_le ss k
    rw [List.length_take] at *
    omega
  · have : ss.take k = [] := List.eq_nil_of_length_eq_zero (by omega)
    rw [this]; simp [jl, joined]

theorem conv_own {w : World} {base g n cap : Nat} {zs : List Int} (hn : zs.length = n) (h : w.ownsRow base 5 1 (.slice (some ⟨g, 0, none⟩) n cap) n (bytesOf zs)) :
    (convert 85 9 (.slice (some ⟨g, 0, none⟩) n cap)).run Try.prog w = .ok (.string (strOfNums zs)) w := by
  refine run_convert_bytes_arg (P := Try.prog) w 85 5 Try.underlying85 Try.underlying5 g 0 n cap zs hn (fun i hi => ?_) 9 Try.underlying9
  rw [Nat.zero_add, h.cellAt i (by omega), bytesOf, List.getElem?_map]
  have : i < zs.length := by omega
  rw [List.getElem?_eq_getElem this]
  simp only [Option.map_some, List.getD, List.getElem?_eq_getElem this, Option.getD_some]

theorem form3 {w : World} {base g n cap m : Nat} {e : TypeId} {v : Value} {xs : List Value} {P : Prop} (h : w.ownsRow base e 1 v m xs) (hn : v = .slice none 0 0 ↔ Value.slice (some ⟨g, 0, none⟩) n cap = .slice none 0 0 ∧ P) : ∃ g' cap', v = .slice (some ⟨g', 0, none⟩) m cap' := by
  rcases h.2 with ⟨e', _⟩ | ⟨g', cap', cur, e', _⟩
  · have := (hn.1 e').1
    cases this
  · exact ⟨g', cap', e'⟩

set_option maxHeartbeats 2000000 in
theorem join_any (A : Option Addr) (c : Nat) (ss : List ByteArray) (w : World) (hA : Strs w.heap.size w A ss) (hm : ss.length ≤ 1000) (hz : szs ss ≤ 1000000) :
    Calls Try.prog 28 #[.slice A ss.length c] w (JoinPost ss w) := by
  have HJ := Lib.hid (joinable_any A c ss w hA hm (fun s hs => Nat.le_trans (szs_mem hs) hz))
  have HA := Lib.hid hA
  clear hA
  cases hok : joinOk ss with
  | false =>
    have HE : Hid (jE ss = 5 ∧ jS ss = []) := Lib.hid ⟨by simp [jE, hok], by simp [jS, hok]⟩
    rw [hok] at HJ
    clear hok
    go_enter Try.func28, Try.ntmps28
    go_wp2_with fail
    refine HJ.out.mono ?_
    rintro e w1 ⟨rfl, hB1⟩
    go_wp2
    go_ret2
    exact ⟨by rw [HE.out.1, HE.out.2]; rfl, hB1⟩
  | true =>
    have h0 : 0 < ss.length := by
      cases ss with
      | nil => simp [joinOk] at hok
      | cons s r => simp
    have hlen := jl_len ss h0
    rw [hok] at HJ
    by_cases h65 : 65536 < (jl ss).length
    · have HE : Hid (jE ss = 4 ∧ jS ss = []) := Lib.hid ⟨by simp [jE, hok, h65], by simp [jS, h65]⟩
      have hd : decide ((65536 : Int) < ((jl ss).length : Int)) = true := decide_eq_true (by omega)
      clear hok
      have HLn := Lib.hid hlen
      clear hlen
      go_enter Try.func28, Try.ntmps28
      go_wp2_with fail
      refine HJ.out.mono ?_
      rintro e w1 ⟨rfl, hB1⟩
      go_wp2_with fail
      refine (jsize_any A c ss _ ((HA.out.below hB1).mono hB1.size) hm h0 hz).mono ?_
      rintro e w2 ⟨rfl, rfl⟩
      go_wp2
      go_ret2
      exact ⟨by rw [HE.out.1, HE.out.2]; rfl, hB1⟩
    · have HE : Hid (jE ss = 0 ∧ jS ss = jl ss) := Lib.hid ⟨by simp [jE, hok, h65], by simp [jS, hok, h65]⟩
      have hd : decide ((65536 : Int) < ((jl ss).length : Int)) = false := decide_eq_false (by omega)
      obtain ⟨i0, hi, hz0, hz1, hz2⟩ := info_parts info_u8
      have HT := Lib.hid (jl_take ss)
      have HTL := Lib.hid (jl_take_len ss)
      clear hok
      have HLn := Lib.hid hlen
      clear hlen
      obtain ⟨m, hmm⟩ : ∃ m, (jl ss).length = m := ⟨_, rfl⟩
      rw [hmm] at hd h65
      have HM := Lib.hid hmm
      clear hmm
      go_enter Try.func28, Try.ntmps28
      go_wp2_with fail
      refine HJ.out.mono ?_
      rintro e w1 ⟨rfl, hB1⟩
      go_wp2_with fail
      refine (jsize_any A c ss _ ((HA.out.below hB1).mono hB1.size) hm h0 hz).mono ?_
      rw [HM.out]
      rintro e w2 ⟨rfl, rfl⟩
      have hw1 := hB1.size
      go_wp2_with (at_make; refine wpList_make_own _ rfl _ _ 85 rfl w.heap.size 5 i0 (.int .u8 0) 1 Try.underlying85 hi hz0 hz1 .i64 .i64 _ m rfl rfl rfl (by rw [hz2]; omega) (by unfold maxLen; omega) hw1 ?_; intro w2 hown hgrow)
      have hB2 : Below w.heap.size w w2 := hB1.grown hgrow hw1 (fun k e => by cases e)
      go_loopw [5, 19] (fun s5 i wr => ∃ (k g n cap : Nat), k ≤ ss.length ∧ i = .int .i64 k ∧ s5 = .slice (some ⟨g, 0, none⟩) n cap ∧ wr.ownsRow w.heap.size 5 1 (.slice (some ⟨g, 0, none⟩) n cap) n (bytesOf (jl (ss.take k))) ∧ Below w.heap.size w wr) (fun s5 i wr => ss.length - (intOf i).toNat)
      case atStart => exact ⟨0, w1.heap.size, 0, m, Nat.zero_le _, rfl, rfl, by simpa [jl, joined, bytesOf] using hown, hB2⟩
      case round =>
        obtain ⟨k, g, n, cap, hk, rfl, rfl, hrow, hB⟩ := hrel
        have hwr := hB.size
        have hn : (jl (ss.take k)).length = n := by have := hrow.1; simpa [bytesOf] using this
        have hnl := HTL.out k hk
        rw [hn] at hnl
        have HN := Lib.hid hn
        clear hn
        by_cases hlt : k < ss.length
        · have htk := HT.out k hlt
          obtain ⟨b, off, rfl, hb, hc⟩ := HA.out.below hB h0
          have hck := hc k hlt
          have hsz : (ss[k]?.getD ⟨#[]⟩).size ≤ szs ss := by
            rw [List.getElem?_eq_getElem hlt]; exact szs_mem (List.getElem_mem hlt)
          obtain ⟨s, hs⟩ : ∃ s, ss[k]?.getD ⟨#[]⟩ = s := ⟨_, rfl⟩
          rw [hs] at hck htk hsz
          have HTK := Lib.hid htk
          clear hc hs htk
          have hmx : n + 1 + s.size ≤ maxLen := by unfold maxLen; omega
          by_cases hk0 : k = 0
          · subst hk0
            rw [Nat.add_zero] at hck
            go_wp2_with (at_builtin; refine Lib.wpList_append_own_string _ rfl _ _ 85 9 rfl w.heap.size 5 i0 Try.underlying85 Try.underlying9 hi hz0 hz1 hz2 _ _ _ rfl hrow s rfl (by omega) (by omega) hwr ?_; intro v1 w3 hown3 hg3 hnil3)
            go_roundw
            case rel =>
              obtain ⟨g3, cap3, rfl⟩ := form3 hown3 hnil3
              refine ⟨1, g3, n + s.size, cap3, by omega, by go_num, rfl, ?_, hB.grown hg3 hwr (fun j e => by have := (hrow.lt j e).1; omega)⟩
              have e1 : jl (ss.take 0) = [] := by simp [jl, joined]
              rw [HTK.out, if_pos rfl]
              rw [e1, strCells_nums] at hown3
              simpa [bytesOf] using hown3
            case measure => simp [intOf]; omega
          · have hgt : 0 < k := by omega
            go_wp2_with (first
              | (at_builtin; refine wpList_append_own _ rfl _ _ 85 rfl w.heap.size 5 i0 (.int .u8 0) 1 1 Try.underlying85 hi hz0 hz1 hz2 rfl (by decide) _ _ _ rfl (hrow.alloc _) ⟨wr.heap.size, 0, none⟩ 1 1 [.int .u8 32] rfl rfl (cell_one_new _ _ _) (by simp [Value.oneCell']) (by omega) (by omega) (by simp; omega) ?_; intro v1 w3 hown3 hg3 hnil3; obtain ⟨g3, cap3, rfl⟩ := ownsRow_succ hown3; have hw3 : w.heap.size ≤ w3.heap.size := Nat.le_trans hwr (Nat.le_trans (by simp) hg3.size))
              | (at_builtin; refine Lib.wpList_append_own_string _ rfl _ _ 85 9 rfl w.heap.size 5 i0 Try.underlying85 Try.underlying9 hi hz0 hz1 hz2 _ _ _ rfl hown3 s rfl (by omega) (by omega) hw3 ?_; intro v4 w4 hown4 hg4 hnil4))
            go_roundw
            case rel =>
              obtain ⟨g4, cap4, rfl⟩ := form3 hown4 hnil4
              refine ⟨k + 1, g4, n + 1 + s.size, cap4, by omega, by go_num, rfl, ?_, ((hB.alloc hwr _).grown hg3 (by simp; omega) (fun j e => (hrow.lt j e).1)).grown hg4 hw3 (fun j e => (hown3.lt j e).1)⟩
              rw [HTK.out, if_neg hk0]
              rw [strCells_nums] at hown4
              simpa [bytesOf] using hown4
            case measure => simp [intOf]; omega
        · have hd2 : decide (k < ss.length) = false := decide_eq_false hlt
          have hkl : ss.take k = ss := List.take_of_length_le (by omega)
          rw [hkl] at hrow HN
          have hcv := conv_own HN.out hrow
          have HKL := Lib.hid hkl
          clear hkl
          go_wp2
          go_ret2
          exact ⟨by rw [HE.out.1, HE.out.2]; rfl, hB⟩
end Go.Proofs.Ytmpglmepmdpjoaa
