/- The document's number, returns; SameTexts. -/
import Derived.Test.YtmpglmepmdpjoaaOpU
namespace Go.Proofs.Ytmpglmepmdpjoaa
open Go.RowKit Go.Maps
set_option linter.unusedVariables false

set_option maxHeartbeats 1000000 in
theorem texts_same (A A' : Option Addr) (c c' : Nat) (ss : List ByteArray) (w : World) (B : Nat) (h1 : Strs B w A ss) (h2 : Strs B w A' ss) (hm : ss.length ≤ 1000000) :
    Calls Try.prog 22 #[.slice A ss.length c, .slice A' ss.length c'] w fun e w' => e = .returned (.bool true) ∧ ∃ n, w' = w.drewN n := by
  have H1 := Lib.hid h1
  have H2 := Lib.hid h2
  have k0 : ((ss.length : Int) != (ss.length : Int)) = false := by simp
  clear h1 h2
  go_enter Try.func22, Try.ntmps22
  go_wp2
  go_loopw [5] (fun i wr => ∃ k n : Nat, k ≤ ss.length ∧ i = .int .i64 k ∧ wr = w.drewN n) (fun i wr => ss.length - (intOf i).toNat)
  case atStart => exact ⟨0, 0, Nat.zero_le _, rfl, rfl⟩
  case round =>
    obtain ⟨k, n, hk, rfl, rfl⟩ := hrel
    by_cases hlt : k < ss.length
    · obtain ⟨b, off, rfl, hb, hc⟩ := H1.out (by omega)
      obtain ⟨b', off', rfl, hb', hc'⟩ := H2.out (by omega)
      have c1 := hc k hlt
      have c2 := hc' k hlt
      generalize ss[k]?.getD ⟨#[]⟩ = s at *
      have m3 : (s.toList == s.toList) = true := by simp
      have hk0 : (0 : Int) ≤ (k : Int) := by omega
      have hk1 : (k : Int) < (ss.length : Int) := by omega
      clear hc hc'
      go_wp2_with fail
      go_quiet (fail)
      go_wp2
      go_roundw
      case rel => exact ⟨k + 1, _, by omega, by go_num, rfl⟩
      case measure => simp [intOf]; omega
    · have hd : decide (k < ss.length) = false := decide_eq_false hlt
      go_wp2
      go_ret
      exact ⟨rfl, n, rfl⟩


def getB (s : ByteArray) : Bool := getE s.data.toList == 0
theorem rnumber_any (s : ByteArray) (w : World) (hs : s.size ≤ maxLen) : Calls Try.prog 42 #[.string s] w (Says (.tuple #[.int .i64 (getN s.data.toList), .bool (getB s)]) w) := by
  have HG := Lib.hid (fun W => rget_any s W hs)
  have HB : Hid (getB s = (getE s.data.toList == 0)) := Lib.hid rfl
  unfold GetPost at HG
  generalize getB s = gb at HB
  generalize getE s.data.toList = ge at HG HB
  generalize getN s.data.toList = gn at HG
  generalize getP s.data.toList = gp at HG
  go_enter Try.func42, Try.ntmps42
  go_wp2_with fail
  refine (HG.out _).mono ?_
  rintro e w1 ⟨rfl, hB1⟩
  have c0 := (Holds.new w1 82 #[.int .i64 ge, .int .i64 gp]).c (j := 0) rfl
  go_wp2_with fail
  go_quiet (fail)
  go_wp2
  go_ret2
  exact ⟨by rw [HB.out]; rfl, below_drewN (hB1.alloc hB1.size _) _⟩

/-- What the document says of a return's word. -/
def rtK (s : ByteArray) : Int := if s == okB then 0 else if s == noneB then 1 else 2
def rtN (s : ByteArray) : Int := if s == okB then 0 else if s == noneB then 0 else getN s.data.toList
def rtB (s : ByteArray) : Bool := if s == okB then true else if s == noneB then true else getB s
theorem rreturns_any (s : ByteArray) (w : World) (hs : s.size ≤ maxLen) : Calls Try.prog 43 #[.string s] w (Says (.tuple #[.agg #[.int .i64 (rtK s), .int .i64 (rtN s)], .bool (rtB s)]) w) := by
  cases hb : (s == okB) with
  | true =>
    obtain rfl : s = okB := by simpa using hb
    go_enter Try.func43, Try.ntmps43
    unfold okB
    go_wp2
    refine bodyPost_ret (v := .tuple #[.agg #[.int .i64 0, .int .i64 0], .bool true]) (by simp [results, Try.f43, go_sem]) rfl ?_
    exact ⟨rfl, (Below.refl _ _).alloc (Nat.le_refl _) _⟩
  | false =>
    cases hc : (s == noneB) with
    | true =>
      obtain rfl : s = noneB := by simpa using hc
      go_enter Try.func43, Try.ntmps43
      unfold noneB
      go_wp2
      refine bodyPost_ret (v := .tuple #[.agg #[.int .i64 1, .int .i64 0], .bool true]) (by simp [results, Try.f43, go_sem]) rfl ?_
      exact ⟨rfl, (Below.refl _ _).alloc (Nat.le_refl _) _⟩
    | false =>
      have h1 : rtK s = 2 := by unfold rtK; rw [hb, hc]; rfl
      have h2 : rtN s = getN s.data.toList := by unfold rtN; rw [hb, hc]; rfl
      have h3 : rtB s = getB s := by unfold rtB; rw [hb, hc]; rfl
      rw [h1, h2, h3]
      have HN := fun W => rnumber_any s W hs
      rw [beq_toListBytes, okB_list] at hb
      rw [beq_toListBytes, noneB_list] at hc
      generalize getN s.data.toList = gn at HN ⊢
      generalize getB s = gb at HN ⊢
      clear h1 h2 h3
      have HZ := Holds.new w 23 #[.int .i64 0, .int .i64 0]
      go_enter Try.func43, Try.ntmps43
      go_wp2_with fail
      refine (HN _).mono ?_
      rintro e w1 ⟨rfl, hB1⟩
      have H1 := HZ.below hB1 (by simp)
      have z0 := H1.c (j := 0) rfl
      have z1 := H1.c (j := 1) rfl
      have f0 := H1.frozen 0
      have f1 := H1.frozen 1
      go_wp2
      refine bodyPost_ret (v := .tuple #[.agg #[.int .i64 2, .int .i64 gn], .bool gb]) (by simp [results, Try.f43, go_sem, z0, z1]) rfl ?_
      refine ⟨rfl, ?_⟩
      refine Below.setCell (Below.setCell (nxt ((Below.refl _ _).alloc (Nat.le_refl _) _) hB1 (by simp)) ?_ _) ?_ _
      all_goals exact Nat.le_refl _
end Go.Proofs.Ytmpglmepmdpjoaa
