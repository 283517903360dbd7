/- The document's answers: Wrap, Sum, All; lists copied and compared. -/
import Derived.Test.YtpnclppjmgeddaaOpBase
import Derived.Test.YtpnclppjmgeddaaWalkK
import Derived.OpenShut
import Derived.Maps.AppendAt
import Derived.Deep.AppendLies
import Derived.Laws.BitsAllLaws
namespace Go.Proofs.Ytpnclppjmgeddaa
open Go.RowKit
set_option linter.unusedVariables false

theorem rwrap_eq (a b : Int) : wrap64 (IntKind.u64.wrap (IntKind.u64.wrap a + IntKind.u64.wrap b)) = wrap64 (a + b) := by
  rw [u64_mod, u64_mod, u64_mod]; unfold wrap64; omega

theorem ofInt64 (x : Int) : (BitVec.ofInt 64 x).toNat = (x % 18446744073709551616).toNat := by rw [BitVec.toNat_ofInt]; rfl
theorem and32 (x : Int) : bits .and .i64 x 4294967295 = x % 4294967296 := by
  show IntKind.i64.wrap ((BitVec.ofInt 64 x &&& BitVec.ofInt 64 4294967295).toNat : Int) = _
  rw [BitVec.toNat_and, ofInt64, ofInt64]
  have e : ((4294967295 : Int) % 18446744073709551616).toNat = 2 ^ 32 - 1 := by decide
  rw [e, Nat.and_two_pow_sub_one_eq_mod, IntWalk.i64_left]
  have h : ((((x % 18446744073709551616).toNat % 2 ^ 32 : Nat)) : Int) = x % 4294967296 := by omega
  rw [h]; unfold wrap64; omega
theorem or32 (H b : Int) (h1 : -2147483648 ≤ H) (h2 : H < 2147483648) (hb0 : 0 ≤ b) (hb1 : b < 4294967296) : bits .or .i64 (H * 4294967296) b = H * 4294967296 + b := by
  show IntKind.i64.wrap ((BitVec.ofInt 64 (H * 4294967296) ||| BitVec.ofInt 64 b).toNat : Int) = _
  rw [BitVec.toNat_or, ofInt64, ofInt64]
  rw [nat_join 32 _ _ (by omega) (by omega), IntWalk.i64_left]
  unfold wrap64; omega

theorem info_int : (Try.prog.info? 3).map (fun i => (i.zero, i.size, i.bytes)) = some (some (.int .i64 0), 1, 8) := by kernel_rfl

def intsOf (l : List Int) : List Value := l.map (Value.int .i64)

def CopyPost (l : List Int) (w : World) (e : Ending) (w' : World) : Prop :=
  ∃ g cap, e = .returned (.slice (some ⟨g, 0, none⟩) l.length cap) ∧ w'.ownsRow w.heap.size 3 1 (.slice (some ⟨g, 0, none⟩) l.length cap) l.length (intsOf l) ∧ Below w.heap.size w w'

theorem add_plain' (b off j : Nat) : (⟨b, off, none⟩ : Addr).add j = ⟨b, off + j, none⟩ := by unfold Addr.add; split <;> simp_all

set_option maxHeartbeats 1000000 in
theorem copy_any (A : Option Addr) (c : Nat) (l : List Int) (w : World) (hA : Ints w A l) (hlen : l.length ≤ 1000) :
    Calls Try.prog 24 #[.slice A l.length c] w (CopyPost l w) := by
  obtain ⟨i0, hi, hz0, hz1, hz2⟩ := info_parts info_int
  have hrow := World.ownsRow_lit (base := w.heap.size) (e := 3) (size := 1) w #[] 0 (Nat.le_refl _) (Nat.zero_le _) rfl
  have hsrc : ∀ ad, A = some ad → ∀ j u, (intsOf l)[j]? = some u → (w.alloc (.cells #[] 3)).cell? (ad.add j) = some u := by
    intro ad e j u hu
    subst e
    have hj : j < l.length := by
      rcases Nat.lt_or_ge j l.length with h | h
      · exact h
      · rw [List.getElem?_eq_none (by simp [intsOf]; omega)] at hu; cases hu
    obtain ⟨b, off, e, hb, hc⟩ := hA (by omega)
    injection e with e
    subst e
    rw [add_plain', World.cell?_alloc_lt _ _ _ hb, hc j hj]
    simp [intsOf, List.getElem?_eq_getElem hj] at hu ⊢
    exact hu
  cases A with
  | none =>
    have hl : l = [] := by
      cases l with
      | nil => rfl
      | cons x r => obtain ⟨b, off, e, _⟩ := hA (by simp); cases e
    subst hl
    go_enter Try.func24, Try.ntmps24
    go_wp2
    go_ret
    exact ⟨w.heap.size, 0, rfl, hrow, (Below.refl _ _).alloc (Nat.le_refl _) _⟩
  | some ad =>
    have hsrc' := Lib.hid (hsrc ad rfl)
    have hrow' := Lib.hid hrow
    clear hsrc hrow hA
    go_enter Try.func24, Try.ntmps24
    go_wp2_with (at_builtin; refine wpList_append_own_at _ rfl _ _ 22 rfl w.heap.size 3 i0 (.int .i64 0) 1 8 Try.underlying22 hi hz0 hz1 hz2 rfl (by decide) _ _ _ rfl hrow'.out ad l.length c (intsOf l) rfl (by simp [intsOf]) hsrc'.out (by intro u hu; simp [intsOf] at hu; obtain ⟨x, _, rfl⟩ := hu; rfl) (by simp only [maxLen]; omega) (by omega) (by simp) ?_; intro v1 w1 hown1 hg1 hnil1 hat1)
    go_ret
    have hB1 : Below w.heap.size w w1 := ((Below.refl _ w).alloc (Nat.le_refl _) _).grown hg1 (by simp) (fun k hk => by cases hk; exact Nat.le_refl _)
    rw [Nat.zero_add, List.nil_append] at hown1
    have hform : ∃ g cap, v1 = .slice (some ⟨g, 0, none⟩) l.length cap := by
      rcases hown1.2 with ⟨e, _⟩ | ⟨g, cap, cur, e, _⟩
      · have := (hnil1.1 e).1
        cases this
      · exact ⟨g, cap, e⟩
    obtain ⟨g, cap, rfl⟩ := hform
    exact ⟨g, cap, rfl, hown1, hB1⟩

/-- A row of the call's own reads as its numbers. -/
theorem ints_own {w : World} {base g n cap : Nat} {l : List Int} (hn : l.length = n) (h : w.ownsRow base 3 1 (.slice (some ⟨g, 0, none⟩) n cap) n (intsOf l)) : Ints w (some ⟨g, 0, none⟩) l := by
  intro hl
  refine ⟨g, 0, rfl, (h.lt g rfl).2, fun j hj => ?_⟩
  rw [Nat.zero_add, h.cellAt j (by omega), intsOf, List.getElem?_map, List.getElem?_eq_getElem hj]
  rfl

set_option maxHeartbeats 1000000 in
theorem same_any (A B : Option Addr) (c d : Nat) (l : List Int) (w : World) (hA : Ints w A l) (hB : Ints w B l) (hlen : l.length ≤ 1000) :
    Calls Try.prog 32 #[.slice A l.length c, .slice B l.length d] w fun e w' => e = .returned (.bool true) ∧ ∃ n, w' = w.drewN n := by
  have k0 : ((l.length : Int) != l.length) = false := by simp
  go_enter Try.func32, Try.ntmps32
  go_wp2
  go_loopw [5] (fun i wr => ∃ (k n : Nat), k ≤ l.length ∧ i = .int .i64 k ∧ wr = w.drewN n) (fun i wr => l.length - (intOf i).toNat)
  case atStart => exact ⟨0, 0, Nat.zero_le _, rfl, rfl⟩
  case round =>
    obtain ⟨k, n, hk, rfl, rfl⟩ := hrel
    by_cases hlt : k < l.length
    · obtain ⟨b, off, rfl, hb, hc⟩ := hA (by omega)
      obtain ⟨b', off', rfl, hb', hc'⟩ := hB (by omega)
      have hck := hc k hlt
      have hck' := hc' k hlt
      clear hc hc'
      generalize l[k]?.getD 0 = x at *
      have kx : (x != x) = false := by simp
      have hk0 : (0 : Int) ≤ (k : Int) := by omega
      have hk1 : (k : Int) < (l.length : Int) := by omega
      go_wp2_with fail
      go_quiet (fail)
      go_wp2
      go_roundw
      case rel => exact ⟨k + 1, _, by omega, by go_num, rfl⟩
      case measure => simp [intOf]; omega
    · go_wp2
      go_ret
      exact ⟨rfl, n, rfl⟩
end Go.Proofs.Ytpnclppjmgeddaa
