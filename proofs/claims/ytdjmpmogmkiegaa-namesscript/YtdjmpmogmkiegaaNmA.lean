/- Contracts of the layer names: letters, every, Check. -/
import Derived.Test.YtdjmpmogmkiegaaChecked
import Derived.Test.YtdjmpmogmkiegaaNmPlain
import Derived.Lib.Hide
import Derived.Lib.ConvBytes
import Derived.OwnWalk
import Derived.ProofKit
import Derived.Below
import Derived.IntWalk
import Derived.Shelf.Abstract
namespace Go.Proofs.Ytdjmpmogmkiegaa
open Go.RowKit
set_option linter.unusedVariables false

theorem begins_any (c : Int) (w : World) : Calls Try.prog 31 #[.int .u8 c] w fun e w' => e = .returned (.bool (begB c)) ∧ w = w' := by
  unfold begB
  by_cases h1 : 97 ≤ c
  · by_cases h2 : c ≤ 122
    all_goals
      have k1 : decide (97 ≤ c) = true := decide_eq_true h1
      go_enter Try.func31, Try.ntmps31
      go_wp2
      go_ret
      exact ⟨by simp [h1, h2], rfl⟩
  · have k1 : decide (97 ≤ c) = false := decide_eq_false h1
    go_enter Try.func31, Try.ntmps31
    go_wp2
    go_ret
    exact ⟨by simp, rfl⟩

theorem follows_any (c : Int) (w : World) : Calls Try.prog 32 #[.int .u8 c] w fun e w' => e = .returned (.bool (folB c)) ∧ w = w' := by
  have HB := begins_any c w
  unfold folB
  generalize begB c = b at HB ⊢
  cases b with
  | true =>
    go_enter Try.func32, Try.ntmps32
    go_wp2_with fail
    refine HB.mono ?_
    rintro e w1 ⟨rfl, rfl⟩
    go_wp2
    go_ret
    exact ⟨by simp, rfl⟩
  | false =>
    by_cases h1 : 48 ≤ c
    · by_cases h2 : c ≤ 57
      · have k1 : decide (48 ≤ c) = true := decide_eq_true h1
        have k2 : decide (c ≤ 57) = true := decide_eq_true h2
        go_enter Try.func32, Try.ntmps32
        go_wp2_with fail
        refine HB.mono ?_
        rintro e w1 ⟨rfl, rfl⟩
        go_wp2
        go_ret
        exact ⟨by simp [h1, h2], rfl⟩
      · have k1 : decide (48 ≤ c) = true := decide_eq_true h1
        have k2 : decide (c ≤ 57) = false := decide_eq_false h2
        go_enter Try.func32, Try.ntmps32
        go_wp2_with fail
        refine HB.mono ?_
        rintro e w1 ⟨rfl, rfl⟩
        go_wp2
        go_ret
        exact ⟨by simp [h1]; omega, rfl⟩
    · have k1 : decide (48 ≤ c) = false := decide_eq_false h1
      go_enter Try.func32, Try.ntmps32
      go_wp2_with fail
      refine HB.mono ?_
      rintro e w1 ⟨rfl, rfl⟩
      go_wp2
      go_ret
      exact ⟨by simp; omega, rfl⟩

theorem below_bytes {w W : World} {B : Nat} (h : Below B w W) (hB : B ≤ W.heap.size) (s : ByteArray) : Below B w (Lib.bytesWorld W 5 s) :=
  h.trans ⟨rfl, rfl, rfl, by rw [Lib.bytesWorld_size]; omega, fun k hk => Lib.bytesWorld_at_old W _ s k (by omega)⟩

theorem nxt {a b c : World} {B n : Nat} (h : Below B a b) (k : Below n b c) (hn : B ≤ n) : Below B a c := h.trans (k.mono hn)

def Says (v : Value) (w : World) (e : Ending) (w' : World) : Prop := e = .returned v ∧ Below w.heap.size w w'

set_option maxHeartbeats 1000000 in
theorem every_any (g : Nat) (p : Int → Bool) (s : ByteArray) (w : World) (eg : ∀ args w, (callFunc g args).run Try.prog w = .ok (.enter g args) w) (hg : ∀ c W, Calls Try.prog g #[.int .u8 c] W fun e w' => e = .returned (.bool (p c)) ∧ W = w') (hs : s.size ≤ 1000) :
    Calls Try.prog 30 #[.string s, .func (.func g) #[] #[]] w (Says (.bool ((nums s).all p)) w) := by
  have hcv := fun (W : World) (s : ByteArray) => Lib.run_convert_string_bytes (P := Try.prog) W 9 60 5 s Try.underlying9 Try.underlying60 Try.underlying5
  have hB := below_bytes (Below.refl w.heap.size w) (Nat.le_refl _) s
  have hcell := fun j hj => Lib.bytesWorld_cell w 5 s j hj
  have HC := Lib.hid hcell
  have HG := Lib.hid hg
  clear hcell hg
  go_enter Try.func30, Try.ntmps30
  go_wp2
  go_loop [6, 10] (fun u i => ∃ k : Nat, k ≤ s.size ∧ i = .int .i64 k ∧ ((nums s).take k).all p = true) (fun u i => s.size - (intOf i).toNat)
  case atStart => exact ⟨0, Nat.zero_le _, rfl, by simp⟩
  case round =>
    obtain ⟨k, hk, rfl, hall⟩ := hrel
    have HALL := Lib.hid hall
    clear hall
    by_cases hlt : k < s.size
    · have hc := HC.out k hlt
      have hn := nums_get s k
      generalize (s.data.toList.getD k 0).toNat = x at hc hn
      have hk0 : (0 : Int) ≤ (k : Int) := by omega
      have hk1 : (k : Int) < (s.size : Int) := by omega
      have HN := Lib.hid hn
      clear hn
      have hgx := HG.out (x : Int) (Lib.bytesWorld w 5 s)
      cases hp : p (x : Int) with
      | true =>
        rw [hp] at hgx
        have HP := Lib.hid hp
        clear hp
        go_wp2_with fail
        refine hgx.mono ?_
        rintro e w1 ⟨rfl, rfl⟩
        go_wp2
        go_round
        case rel => exact ⟨k + 1, by omega, by go_num, all_take (by rw [nums_len]; exact hlt) HALL.out (by rw [HN.out]; exact HP.out)⟩
        case measure => simp [intOf]; omega
      | false =>
        rw [hp] at hgx
        have HP := Lib.hid hp
        clear hp
        go_wp2_with fail
        refine hgx.mono ?_
        rintro e w1 ⟨rfl, rfl⟩
        go_wp2
        go_ret
        have hbad : (nums s).all p = false := all_bad (k := k) (by rw [nums_len]; exact hlt) (by rw [HN.out]; exact HP.out)
        exact ⟨by rw [hbad]; rfl, hB⟩
    · have hd : decide (k < s.size) = false := decide_eq_false hlt
      have HK : (nums s).take k = nums s := List.take_of_length_le (by rw [nums_len]; omega)
      have HK' := Lib.hid HK
      clear HK
      go_wp2
      go_ret
      exact ⟨by rw [← HK'.out, HALL.out]; rfl, hB⟩

theorem nums_extract (s : ByteArray) (i j : Nat) : nums (s.extract i j) = ((nums s).drop i).take (j - i) := by
  rw [nums, ByteArray.data_extract, Array.toList_extract, nums, List.extract_eq_take_drop, List.map_take, List.map_drop]
theorem size_extract (s : ByteArray) (i j : Nat) (hj : j ≤ s.size) : (s.extract i j).size ≤ s.size := by
  rw [ByteArray.size_extract]; omega
theorem name_parts (s : ByteArray) (h1 : 1 ≤ s.size) (h2 : s.size ≤ 32) : nameB s = ((nums (s.extract 0 1)).all begB && (nums (s.extract 1 s.size)).all folB) := by
  rw [nums_extract, nums_extract, nameB, nameL, nums_len, decide_eq_true h1, decide_eq_true h2, List.drop_zero, List.take_of_length_le (i := s.size - 1) (by rw [List.length_drop, nums_len]; omega)]
  rfl

set_option maxHeartbeats 1000000 in
theorem check_any (s : ByteArray) (w : World) (hs : s.size ≤ 1000) : Calls Try.prog 14 #[.string s] w (Says (.int .i64 (checkE s)) w) := by
  have eg1 : ∀ args w, (callFunc 31 args).run Try.prog w = .ok (.enter 31 args) w := Go.Proofs.enters_of Try.func31 (by kernel_rfl) rfl
  have eg2 : ∀ args w, (callFunc 32 args).run Try.prog w = .ok (.enter 32 args) w := Go.Proofs.enters_of Try.func32 (by kernel_rfl) rfl
  have H1 := fun s w h => every_any 31 begB s w eg1 begins_any h
  have H2 := fun s w h => every_any 32 folB s w eg2 follows_any h
  clear eg1 eg2
  by_cases h1 : s.size < 1
  · have hn : nameB s = false := by rw [nameB, nameL, nums_len, decide_eq_false (by omega)]; rfl
    have k1 : decide ((s.size : Int) < 1) = true := decide_eq_true (by omega)
    go_enter Try.func14, Try.ntmps14
    go_wp2
    go_ret
    exact ⟨by rw [checkE_no hn]; rfl, Below.refl _ _⟩
  · by_cases h2 : 32 < s.size
    · have hn : nameB s = false := by rw [nameB, nameL, nums_len, decide_eq_false (show ¬ s.size ≤ 32 by omega), Bool.and_false]; rfl
      have k1 : decide ((s.size : Int) < 1) = false := decide_eq_false (by omega)
      have k2 : decide ((32 : Int) < (s.size : Int)) = true := decide_eq_true (by omega)
      go_enter Try.func14, Try.ntmps14
      go_wp2
      go_ret
      exact ⟨by rw [checkE_no hn]; rfl, Below.refl _ _⟩
    · have k1 : decide ((s.size : Int) < 1) = false := decide_eq_false (by omega)
      have k2 : decide ((32 : Int) < (s.size : Int)) = false := decide_eq_false (by omega)
      have hp := name_parts s (by omega) (by omega)
      have J1 := H1 (s.extract 0 1) w (Nat.le_trans (size_extract s 0 1 (by omega)) hs)
      have J2 := fun W => H2 (s.extract 1 s.size) W (Nat.le_trans (size_extract s 1 _ (Nat.le_refl _)) hs)
      have j1 : decide ((1 : Int) ≤ (s.size : Int)) = true := decide_eq_true (by omega)
      clear H1 H2
      generalize (nums (s.extract 0 1)).all begB = b1 at J1 hp
      generalize (nums (s.extract 1 s.size)).all folB = b2 at J2 hp
      have HP := Lib.hid hp
      clear hp
      cases b1 with
      | false =>
        have hn : nameB s = false := HP.out
        have HN := Lib.hid hn
        clear hn
        go_enter Try.func14, Try.ntmps14
        go_wp2_with fail
        refine J1.mono ?_
        rintro e w1 ⟨rfl, hB1⟩
        go_wp2
        go_ret
        exact ⟨by rw [checkE_no HN.out]; rfl, hB1⟩
      | true =>
        cases b2 with
        | false =>
          have hn : nameB s = false := HP.out
          have HN := Lib.hid hn
          clear hn
          go_enter Try.func14, Try.ntmps14
          go_wp2_with fail
          refine J1.mono ?_
          rintro e w1 ⟨rfl, hB1⟩
          go_wp2_with fail
          refine (J2 _).mono ?_
          rintro e w2 ⟨rfl, hB2⟩
          go_wp2
          go_ret
          exact ⟨by rw [checkE_no HN.out]; rfl, nxt hB1 hB2 hB1.size⟩
        | true =>
          have hn : nameB s = true := HP.out
          have HN := Lib.hid hn
          clear hn
          go_enter Try.func14, Try.ntmps14
          go_wp2_with fail
          refine J1.mono ?_
          rintro e w1 ⟨rfl, hB1⟩
          go_wp2_with fail
          refine (J2 _).mono ?_
          rintro e w2 ⟨rfl, hB2⟩
          go_wp2
          go_ret
          exact ⟨by rw [checkE_yes HN.out]; rfl, nxt hB1 hB2 hB1.size⟩
end Go.Proofs.Ytdjmpmogmkiegaa
