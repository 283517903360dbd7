/- Texts of earlier stages over this seat, joined: NmPlain NmA NmN. -/
import Derived.Test.YtpdbkjnaicjfdaaGreatDoorGb
import Derived.WalkKit
import Derived.Lib.Hide
import Derived.Lib.ConvBytes
import Derived.OwnWalk
import Derived.ProofKit
import Derived.Below
import Derived.IntWalk
import Derived.Shelf.Abstract
set_option maxRecDepth 100000
namespace Go.Proofs.YtpdbkjnaicjfdaaGreatDoor
set_option linter.unusedVariables false

def begB (c : Int) : Bool := decide (97 ≤ c) && decide (c ≤ 122)
def folB (c : Int) : Bool := begB c || (decide (48 ≤ c) && decide (c ≤ 57)) || c == 95

/-- Is it a name? -/
def nameL (l : List Int) : Bool := decide (1 ≤ l.length) && decide (l.length ≤ 32) && (l.take 1).all begB && (l.drop 1).all folB
def nameB (s : ByteArray) : Bool := nameL (nums s)

theorem name_size {s : ByteArray} (h : nameB s = true) : 1 ≤ s.size ∧ s.size ≤ 32 := by
  unfold nameB nameL at h
  rw [nums_len] at h
  simp only [Bool.and_eq_true, decide_eq_true_eq] at h
  omega

def nm_checkE (s : ByteArray) : Int := if nameB s then 0 else 7
theorem checkE_yes {s : ByteArray} (h : nameB s = true) : nm_checkE s = 0 := by rw [nm_checkE, h]; rfl
theorem checkE_no {s : ByteArray} (h : nameB s = false) : nm_checkE s = 7 := by rw [nm_checkE, h]; rfl

theorem all_take {p : Int → Bool} {l : List Int} {k : Nat} (hk : k < l.length) (h : (l.take k).all p = true) (hp : p (l[k]?.getD 0) = true) : (l.take (k + 1)).all p = true := by
  rw [List.take_succ_eq_append_getElem hk, List.all_append, h]
  rw [List.getElem?_eq_getElem hk] at hp
  simpa using hp
theorem all_bad {p : Int → Bool} {l : List Int} {k : Nat} (hk : k < l.length) (hp : p (l[k]?.getD 0) = false) : l.all p = false := by
  rw [List.getElem?_eq_getElem hk] at hp
  apply Bool.eq_false_iff.2
  intro h
  have := List.all_eq_true.1 h _ (List.getElem_mem hk)
  simp only [Option.getD_some] at hp
  rw [hp] at this; cases this
end Go.Proofs.YtpdbkjnaicjfdaaGreatDoor

namespace Go.Proofs.YtpdbkjnaicjfdaaGreatDoor
open Go.RowKit
set_option linter.unusedVariables false

theorem begins_any (c : Int) (w : World) : Calls Tryz.prog 128 #[.int .u8 c] w fun e w' => e = .returned (.bool (begB c)) ∧ w = w' := by
  unfold begB
  by_cases h1 : 97 ≤ c
  · by_cases h2 : c ≤ 122
    all_goals
      have k1 : decide (97 ≤ c) = true := decide_eq_true h1
      go_enter Tryz.func128, Tryz.ntmps128
      go_wp2
      go_ret
      exact ⟨by simp [h1, h2], rfl⟩
  · have k1 : decide (97 ≤ c) = false := decide_eq_false h1
    go_enter Tryz.func128, Tryz.ntmps128
    go_wp2
    go_ret
    exact ⟨by simp, rfl⟩

theorem follows_any (c : Int) (w : World) : Calls Tryz.prog 129 #[.int .u8 c] w fun e w' => e = .returned (.bool (folB c)) ∧ w = w' := by
  have HB := begins_any c w
  unfold folB
  generalize begB c = b at HB ⊢
  cases b with
  | true =>
    go_enter Tryz.func129, Tryz.ntmps129
    go_wp2_with fail
    refine HB.mono ?_
    rintro e w1 ⟨rfl, rfl⟩
    go_wp2
    go_ret
    exact ⟨by simp, rfl⟩
  | false =>
    by_cases h1 : 48 ≤ c
    · by_cases h2 : c ≤ 57
      · have k1 : decide (48 ≤ c) = true := decide_eq_true h1
        have k2 : decide (c ≤ 57) = true := decide_eq_true h2
        go_enter Tryz.func129, Tryz.ntmps129
        go_wp2_with fail
        refine HB.mono ?_
        rintro e w1 ⟨rfl, rfl⟩
        go_wp2
        go_ret
        exact ⟨by simp [h1, h2], rfl⟩
      · have k1 : decide (48 ≤ c) = true := decide_eq_true h1
        have k2 : decide (c ≤ 57) = false := decide_eq_false h2
        go_enter Tryz.func129, Tryz.ntmps129
        go_wp2_with fail
        refine HB.mono ?_
        rintro e w1 ⟨rfl, rfl⟩
        go_wp2
        go_ret
        exact ⟨by simp [h1]; omega, rfl⟩
    · have k1 : decide (48 ≤ c) = false := decide_eq_false h1
      go_enter Tryz.func129, Tryz.ntmps129
      go_wp2_with fail
      refine HB.mono ?_
      rintro e w1 ⟨rfl, rfl⟩
      go_wp2
      go_ret
      exact ⟨by simp; omega, rfl⟩

set_option maxHeartbeats 1000000 in
theorem every_any (g : Nat) (p : Int → Bool) (s : ByteArray) (w : World) (eg : ∀ args w, (callFunc g args).run Tryz.prog w = .ok (.enter g args) w) (hg : ∀ c W, Calls Tryz.prog g #[.int .u8 c] W fun e w' => e = .returned (.bool (p c)) ∧ W = w') (hs : s.size ≤ 8000) :
    Calls Tryz.prog 127 #[.string s, .func (.func g) #[] #[]] w (Says (.bool ((nums s).all p)) w) := by
  have hcv := fun (W : World) (s : ByteArray) => Lib.run_convert_string_bytes (P := Tryz.prog) W 9 78 5 s Tryz.underlying9 Tryz.underlying78 Tryz.underlying5
  have hB := below_bytes (Below.refl w.heap.size w) (Nat.le_refl _) s
  have hcell := fun j hj => Lib.bytesWorld_cell w 5 s j hj
  have HC := Lib.hid hcell
  have HG := Lib.hid hg
  clear hcell hg
  go_enter Tryz.func127, Tryz.ntmps127
  go_wp2
  go_loop [6, 10] (fun u i => ∃ k : Nat, k ≤ s.size ∧ i = .int .i64 k ∧ ((nums s).take k).all p = true) (fun u i => s.size - (intOf i).toNat)
  case atStart => exact ⟨0, Nat.zero_le _, rfl, by simp⟩
  case round =>
    obtain ⟨k, hk, rfl, hall⟩ := hrel
    have HALL := Lib.hid hall
    clear hall
    by_cases hlt : k < s.size
    · have hc := HC.out k hlt
      have hn := nums_get s k
      generalize (s.data.toList.getD k 0).toNat = x at hc hn
      have hk0 : (0 : Int) ≤ (k : Int) := by omega
      have hk1 : (k : Int) < (s.size : Int) := by omega
      have HN := Lib.hid hn
      clear hn
      have hgx := HG.out (x : Int) (Lib.bytesWorld w 5 s)
      cases hp : p (x : Int) with
      | true =>
        rw [hp] at hgx
        have HP := Lib.hid hp
        clear hp
        go_wp2_with fail
        refine hgx.mono ?_
        rintro e w1 ⟨rfl, rfl⟩
        go_wp2
        go_round
        case rel => exact ⟨k + 1, by omega, by go_num, all_take (by rw [nums_len]; exact hlt) HALL.out (by rw [HN.out]; exact HP.out)⟩
        case measure => simp [intOf]; omega
      | false =>
        rw [hp] at hgx
        have HP := Lib.hid hp
        clear hp
        go_wp2_with fail
        refine hgx.mono ?_
        rintro e w1 ⟨rfl, rfl⟩
        go_wp2
        go_ret
        have hbad : (nums s).all p = false := all_bad (k := k) (by rw [nums_len]; exact hlt) (by rw [HN.out]; exact HP.out)
        exact ⟨by rw [hbad]; rfl, hB⟩
    · have hd : decide (k < s.size) = false := decide_eq_false hlt
      have HK : (nums s).take k = nums s := List.take_of_length_le (by rw [nums_len]; omega)
      have HK' := Lib.hid HK
      clear HK
      go_wp2
      go_ret
      exact ⟨by rw [← HK'.out, HALL.out]; rfl, hB⟩

theorem nums_extract (s : ByteArray) (i j : Nat) : nums (s.extract i j) = ((nums s).drop i).take (j - i) := by
  rw [nums, ByteArray.data_extract, Array.toList_extract, nums, List.extract_eq_take_drop, List.map_take, List.map_drop]
theorem size_extract (s : ByteArray) (i j : Nat) (hj : j ≤ s.size) : (s.extract i j).size ≤ s.size := by
  rw [ByteArray.size_extract]; omega
theorem name_parts (s : ByteArray) (h1 : 1 ≤ s.size) (h2 : s.size ≤ 32) : nameB s = ((nums (s.extract 0 1)).all begB && (nums (s.extract 1 s.size)).all folB) := by
  rw [nums_extract, nums_extract, nameB, nameL, nums_len, decide_eq_true h1, decide_eq_true h2, List.drop_zero, List.take_of_length_le (i := s.size - 1) (by rw [List.length_drop, nums_len]; omega)]
  rfl

set_option maxHeartbeats 1000000 in
theorem nm_check_any (s : ByteArray) (w : World) (hs : s.size ≤ 8000) : Calls Tryz.prog 111 #[.string s] w (Says (.int .i64 (nm_checkE s)) w) := by
  have eg1 : ∀ args w, (callFunc 128 args).run Tryz.prog w = .ok (.enter 128 args) w := Go.Proofs.enters_of Tryz.func128 (by kernel_rfl) rfl
  have eg2 : ∀ args w, (callFunc 129 args).run Tryz.prog w = .ok (.enter 129 args) w := Go.Proofs.enters_of Tryz.func129 (by kernel_rfl) rfl
  have H1 := fun s w h => every_any 128 begB s w eg1 begins_any h
  have H2 := fun s w h => every_any 129 folB s w eg2 follows_any h
  clear eg1 eg2
  by_cases h1 : s.size < 1
  · have hn : nameB s = false := by rw [nameB, nameL, nums_len, decide_eq_false (by omega)]; rfl
    have k1 : decide ((s.size : Int) < 1) = true := decide_eq_true (by omega)
    go_enter Tryz.func111, Tryz.ntmps111
    go_wp2
    go_ret
    exact ⟨by rw [checkE_no hn]; rfl, Below.refl _ _⟩
  · by_cases h2 : 32 < s.size
    · have hn : nameB s = false := by rw [nameB, nameL, nums_len, decide_eq_false (show ¬ s.size ≤ 32 by omega), Bool.and_false]; rfl
      have k1 : decide ((s.size : Int) < 1) = false := decide_eq_false (by omega)
      have k2 : decide ((32 : Int) < (s.size : Int)) = true := decide_eq_true (by omega)
      go_enter Tryz.func111, Tryz.ntmps111
      go_wp2
      go_ret
      exact ⟨by rw [checkE_no hn]; rfl, Below.refl _ _⟩
    · have k1 : decide ((s.size : Int) < 1) = false := decide_eq_false (by omega)
      have k2 : decide ((32 : Int) < (s.size : Int)) = false := decide_eq_false (by omega)
      have hp := name_parts s (by omega) (by omega)
      have J1 := H1 (s.extract 0 1) w (Nat.le_trans (size_extract s 0 1 (by omega)) hs)
      have J2 := fun W => H2 (s.extract 1 s.size) W (Nat.le_trans (size_extract s 1 _ (Nat.le_refl _)) hs)
      have j1 : decide ((1 : Int) ≤ (s.size : Int)) = true := decide_eq_true (by omega)
      clear H1 H2
      generalize (nums (s.extract 0 1)).all begB = b1 at J1 hp
      generalize (nums (s.extract 1 s.size)).all folB = b2 at J2 hp
      have HP := Lib.hid hp
      clear hp
      cases b1 with
      | false =>
        have hn : nameB s = false := HP.out
        have HN := Lib.hid hn
        clear hn
        go_enter Tryz.func111, Tryz.ntmps111
        go_wp2_with fail
        refine J1.mono ?_
        rintro e w1 ⟨rfl, hB1⟩
        go_wp2
        go_ret
        exact ⟨by rw [checkE_no HN.out]; rfl, hB1⟩
      | true =>
        cases b2 with
        | false =>
          have hn : nameB s = false := HP.out
          have HN := Lib.hid hn
          clear hn
          go_enter Tryz.func111, Tryz.ntmps111
          go_wp2_with fail
          refine J1.mono ?_
          rintro e w1 ⟨rfl, hB1⟩
          go_wp2_with fail
          refine (J2 _).mono ?_
          rintro e w2 ⟨rfl, hB2⟩
          go_wp2
          go_ret
          exact ⟨by rw [checkE_no HN.out]; rfl, nxt hB1 hB2 hB1.size⟩
        | true =>
          have hn : nameB s = true := HP.out
          have HN := Lib.hid hn
          clear hn
          go_enter Tryz.func111, Tryz.ntmps111
          go_wp2_with fail
          refine J1.mono ?_
          rintro e w1 ⟨rfl, hB1⟩
          go_wp2_with fail
          refine (J2 _).mono ?_
          rintro e w2 ⟨rfl, hB2⟩
          go_wp2
          go_ret
          exact ⟨by rw [checkE_yes HN.out]; rfl, nxt hB1 hB2 hB1.size⟩
end Go.Proofs.YtpdbkjnaicjfdaaGreatDoor

namespace Go.Proofs.YtpdbkjnaicjfdaaGreatDoor
open Go.RowKit Go.Maps
set_option linter.unusedVariables false

theorem nm_nums_at {s : ByteArray} {k : Nat} (hk : k < s.size) : (nums s)[k]?.getD 0 = (s[k].toNat : Int) := by
  rw [nums_get]
  have h : s.data.toList.getD k 0 = s[k] := by
    have hl : k < s.data.toList.length := by rw [Array.length_toList]; exact hk
    rw [List.getD, List.getElem?_eq_getElem hl]
    rfl
  rw [h]

theorem beg_fol {c : Int} (h : begB c = true) : folB c = true := by rw [folB, h]; rfl

/-- A name, as the document says it. -/
theorem name_doc {s : ByteArray} (h1 : 1 ≤ s.size) (h2 : s.size ≤ 32) : nameB s = (begB ((nums s)[0]?.getD 0) && (nums s).all folB) := by
  unfold nameB nameL
  rw [nums_len, decide_eq_true h1, decide_eq_true h2]
  have hl := nums_len s
  cases hn : nums s with
  | nil => rw [hn] at hl; simp at hl; omega
  | cons c r =>
    simp only [List.take_succ_cons, List.take_zero, List.drop_succ_cons, List.drop_zero, List.all_cons, List.all_nil, Bool.and_true, Bool.true_and, List.getElem?_cons_zero, Option.getD_some]
    cases hb : begB c with
    | false => rfl
    | true => rw [beg_fol hb]; rfl

theorem fol_no1 {c : Int} (h : folB c = false) : begB c = false ∧ (decide (48 ≤ c) && decide (c ≤ 57)) = false ∧ (c == 95) = false := by
  unfold folB at h
  simp only [Bool.or_eq_false_iff] at h
  exact ⟨h.1.1, h.1.2, h.2⟩

theorem fol_cases (x : Int) :
    (folB x = true ∧ decide (97 ≤ x) = true ∧ decide (x ≤ 122) = true) ∨
    (folB x = false ∧ decide (97 ≤ x) = true ∧ decide (x ≤ 122) = false ∧ decide (48 ≤ x) = true ∧ decide (x ≤ 57) = false ∧ (x == 95) = false) ∨
    (folB x = true ∧ decide (97 ≤ x) = false ∧ decide (48 ≤ x) = true ∧ decide (x ≤ 57) = true) ∨
    (folB x = true ∧ decide (97 ≤ x) = false ∧ decide (48 ≤ x) = true ∧ decide (x ≤ 57) = false ∧ (x == 95) = true) ∨
    (folB x = false ∧ decide (97 ≤ x) = false ∧ decide (48 ≤ x) = true ∧ decide (x ≤ 57) = false ∧ (x == 95) = false) ∨
    (folB x = false ∧ decide (97 ≤ x) = false ∧ decide (48 ≤ x) = false ∧ (x == 95) = false) := by
  unfold folB begB
  by_cases a1 : 97 ≤ x
  · by_cases a2 : x ≤ 122
    · left; simp [a1, a2]
    · right; left
      have b3 : decide (48 ≤ x) = true := decide_eq_true (by omega)
      have b4 : decide (x ≤ 57) = false := decide_eq_false (by omega)
      have b5 : (x == 95) = false := beq_eq_false_iff_ne.2 (by omega)
      rw [b3, b4, b5, decide_eq_true a1, decide_eq_false a2]
      simp
  · rw [decide_eq_false a1]
    by_cases a3 : 48 ≤ x
    · rw [decide_eq_true a3]
      by_cases a4 : x ≤ 57
      · rw [decide_eq_true a4]; simp
      · rw [decide_eq_false a4]
        by_cases a5 : x = 95
        · rw [beq_iff_eq.2 a5]; simp
        · rw [beq_eq_false_iff_ne.2 a5]; simp
    · rw [decide_eq_false a3, beq_eq_false_iff_ne.2 (show x ≠ 95 by omega)]; simp

set_option maxHeartbeats 2000000 in
theorem nm_rcheck_any (s : ByteArray) (w : World) (hs : s.size ≤ 8000) : Calls Tryz.prog 91 #[.string s] w fun e w' => e = .returned (.int .i64 (nm_checkE s)) ∧ w = w' := by
  by_cases h1 : s.size < 1
  · have hn : nameB s = false := by rw [nameB, nameL, nums_len, decide_eq_false (by omega)]; rfl
    have k1 : decide ((s.size : Int) < 1) = true := decide_eq_true (by omega)
    go_enter Tryz.func91, Tryz.ntmps91
    go_wp2
    go_ret
    exact ⟨by rw [checkE_no hn]; rfl, rfl⟩
  · have k1 : decide ((s.size : Int) < 1) = false := decide_eq_false (by omega)
    by_cases h2 : 32 < s.size
    · have hn : nameB s = false := by rw [nameB, nameL, nums_len, decide_eq_false (show ¬ s.size ≤ 32 by omega), Bool.and_false]; rfl
      have k2 : decide ((32 : Int) < (s.size : Int)) = true := decide_eq_true (by omega)
      go_enter Tryz.func91, Tryz.ntmps91
      go_wp2
      go_ret
      exact ⟨by rw [checkE_no hn]; rfl, rfl⟩
    · have k2 : decide ((32 : Int) < (s.size : Int)) = false := decide_eq_false (by omega)
      have hdoc := name_doc (s := s) (by omega) (by omega)
      have hp : 0 < s.size := by omega
      have hn0 := nm_nums_at hp
      obtain ⟨c0, hc0⟩ : ∃ c0 : Int, (s[0].toNat : Int) = c0 := ⟨_, rfl⟩
      rw [hc0] at hn0
      rw [hn0] at hdoc
      have HN0 := Lib.hid hn0
      have HDoc := Lib.hid hdoc
      clear hdoc hn0
      by_cases h3 : c0 < 97
      · have hn : nameB s = false := by rw [HDoc.out, begB, decide_eq_false (show ¬ 97 ≤ c0 by omega)]; rfl
        have k3 : decide ((s[0].toNat : Int) < 97) = true := by rw [hc0]; exact decide_eq_true h3
        have HN := Lib.hid hn
        clear hn hc0
        go_enter Tryz.func91, Tryz.ntmps91
        go_wp2
        go_ret
        exact ⟨by rw [checkE_no HN.out]; rfl, rfl⟩
      · by_cases h4 : 122 < c0
        · have hn : nameB s = false := by rw [HDoc.out, begB, decide_eq_false (show ¬ c0 ≤ 122 by omega), Bool.and_false]; rfl
          have k3 : decide ((s[0].toNat : Int) < 97) = false := decide_eq_false (by omega)
          have k4 : decide ((122 : Int) < (s[0].toNat : Int)) = true := decide_eq_true (by omega)
          have HN := Lib.hid hn
          clear hn hc0
          go_enter Tryz.func91, Tryz.ntmps91
          go_wp2
          go_ret
          exact ⟨by rw [checkE_no HN.out]; rfl, rfl⟩
        · have hb : begB c0 = true := by rw [begB, decide_eq_true (by omega), decide_eq_true (by omega)]; rfl
          have hall : nameB s = (nums s).all folB := by rw [HDoc.out, hb]; rfl
          have k3 : decide ((s[0].toNat : Int) < 97) = false := decide_eq_false (by omega)
          have k4 : decide ((122 : Int) < (s[0].toNat : Int)) = false := decide_eq_false (by omega)
          have HAll := Lib.hid hall
          clear hall hb hc0 HDoc HN0
          go_enter Tryz.func91, Tryz.ntmps91
          go_wp2
          go_loop [3, 4] (fun i u => ∃ k : Nat, k ≤ s.size ∧ i = .int .i64 k ∧ ((nums s).take k).all folB = true) (fun i u => s.size - (intOf i).toNat)
          case atStart => exact ⟨0, Nat.zero_le _, rfl, by simp⟩
          case round =>
            obtain ⟨k, hk, rfl, htk⟩ := hrel
            have HTK := Lib.hid htk
            clear htk
            by_cases hlt : k < s.size
            · have hnk := nm_nums_at hlt
              have q0 : (0 : Int) ≤ (k : Int) := by omega
              have q1 : (k : Int) < (s.size : Int) := by omega
              have q2 : decide (k < s.size) = true := decide_eq_true hlt
              have HNK := Lib.hid hnk
              clear hnk
              rcases fol_cases (s[k].toNat : Int) with ⟨f0, f1, f2⟩ | ⟨f0, f1, f2, f3, f4, f5⟩ | ⟨f0, f1, f3, f4⟩ | ⟨f0, f1, f3, f4, f5⟩ | ⟨f0, f1, f3, f4, f5⟩ | ⟨f0, f1, f3, f5⟩
              · have HF := Lib.hid f0
                clear f0
                go_wp2
                exact ⟨⟨k + 1, by omega, by go_num, all_take (by rw [nums_len]; exact hlt) HTK.out (by rw [HNK.out]; exact HF.out)⟩, by simp [intOf]; omega⟩
              · have HF := Lib.hid f0
                clear f0
                go_wp2
                go_ret
                have hbad : nameB s = false := by rw [HAll.out]; exact all_bad (k := k) (by rw [nums_len]; exact hlt) (by rw [HNK.out]; exact HF.out)
                exact ⟨by rw [checkE_no hbad]; rfl, rfl⟩
              · have HF := Lib.hid f0
                clear f0
                go_wp2
                exact ⟨⟨k + 1, by omega, by go_num, all_take (by rw [nums_len]; exact hlt) HTK.out (by rw [HNK.out]; exact HF.out)⟩, by simp [intOf]; omega⟩
              · have HF := Lib.hid f0
                clear f0
                go_wp2
                exact ⟨⟨k + 1, by omega, by go_num, all_take (by rw [nums_len]; exact hlt) HTK.out (by rw [HNK.out]; exact HF.out)⟩, by simp [intOf]; omega⟩
              · have HF := Lib.hid f0
                clear f0
                go_wp2
                go_ret
                have hbad : nameB s = false := by rw [HAll.out]; exact all_bad (k := k) (by rw [nums_len]; exact hlt) (by rw [HNK.out]; exact HF.out)
                exact ⟨by rw [checkE_no hbad]; rfl, rfl⟩
              · have HF := Lib.hid f0
                clear f0
                go_wp2
                go_ret
                have hbad : nameB s = false := by rw [HAll.out]; exact all_bad (k := k) (by rw [nums_len]; exact hlt) (by rw [HNK.out]; exact HF.out)
                exact ⟨by rw [checkE_no hbad]; rfl, rfl⟩
            · have q2 : decide (k < s.size) = false := decide_eq_false hlt
              have hkk : (nums s).take k = nums s := List.take_of_length_le (by rw [nums_len]; omega)
              have HKK := Lib.hid hkk
              clear hkk
              go_wp2
              go_ret
              have hy : nameB s = true := by rw [HAll.out, ← HKK.out]; exact HTK.out
              exact ⟨by rw [checkE_yes hy]; rfl, rfl⟩
end Go.Proofs.YtpdbkjnaicjfdaaGreatDoor
