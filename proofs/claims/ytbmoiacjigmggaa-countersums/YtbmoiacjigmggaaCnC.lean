/- What stands behind each Add: the iterator behind; Total, Back. -/
import Derived.Test.YtbmoiacjigmggaaCnA
import Derived.RangeFuncNested
import Derived.RangeFuncBound
import Derived.RangeFuncCalls
import Derived.RangeFuncLeaves
import Derived.RangeFuncBox
import Derived.Shelf.Abstract
import Derived.Shelf.RegionOpen
import Derived.OwnWalkIn
import Derived.TacticsInMore
import Derived.LoopNIn
import Derived.LoopIn
namespace Go.Proofs.Ytbmoiacjigmggaa
open Go.RowKit Go.Shelf Go.Maps
set_option linter.unusedVariables false

attribute [local go_sem] Oper.semAt_some

/-- What a counter comes to behind an Add of each of l. -/
def totN (n : Int) (l : List Int) : Int := l.foldl (fun m a => wrap64 (m + a)) n
/-- What stands behind each Add, one by one. -/
def scanN : Int → List Int → List Int
  | _, [] => []
  | n, a :: r => wrap64 (n + a) :: scanN (wrap64 (n + a)) r
theorem scan_len (l : List Int) : ∀ n, (scanN n l).length = l.length := by
  induction l with
  | nil => intro n; rfl
  | cons a r ih => intro n; simp [scanN, ih]
theorem tot_step (n : Int) (l : List Int) (k : Nat) (h : k < l.length) : totN n (l.take (k + 1)) = wrap64 (totN n (l.take k) + l[k]?.getD 0) := by
  unfold totN
  rw [take_snoc l k h, List.foldl_append, List.getElem?_eq_getElem h]; rfl
theorem scan_take (l : List Int) : ∀ (n : Int) (k : Nat), k < l.length → (scanN n l).take (k + 1) = (scanN n l).take k ++ [totN n (l.take (k + 1))] := by
  induction l with
  | nil => intro n k h; simp at h
  | cons a r ih =>
    intro n k h
    cases k with
    | zero => simp [scanN, totN]
    | succ k =>
      have := ih (wrap64 (n + a)) k (by simpa using h)
      simp only [scanN, List.take_succ_cons, List.cons_append, this]
      rfl
theorem scan_last (l : List Int) : ∀ n : Int, (scanN n l).getLastD n = totN n l := by
  induction l with
  | nil => intro n; rfl
  | cons a r ih =>
    intro n
    have := ih (wrap64 (n + a))
    simp only [scanN, totN, List.foldl_cons, List.getLastD_cons] at this ⊢
    exact this

/-- Numbers that lie below B. -/
def IntsB (B : Nat) (w : World) (A : Option Addr) (l : List Int) : Prop :=
  0 < l.length → ∃ b off, A = some ⟨b, off, none⟩ ∧ b < B ∧ ∀ j, j < l.length → w.cell? ⟨b, off + j, none⟩ = some (.int .i64 (l[j]?.getD 0))
theorem IntsB.below {B : Nat} {w w' : World} {A : Option Addr} {l : List Int} (h : IntsB B w A l) (hb : Below B w w') : IntsB B w' A l := fun hl => by
  obtain ⟨b, off, e, hlt, hc⟩ := h hl
  exact ⟨b, off, e, hlt, fun j hj => (hb.cell (p := ⟨b, off + j, none⟩) hlt).trans (hc j hj)⟩

theorem behind_in (F : Fence) (m : Nat) (h1 : F.fn 31) (hro : F.round = none) (n : Int) (A : Option Addr) (k c : Nat) (w : World) :
    CallsIn F m Try.prog 31 #[.int .i64 n, .slice A k c] w fun e w' => e = .returned (.func (.func 36) #[] #[.pointer (some ⟨w.heap.size, 0, none⟩), .pointer (some ⟨w.heap.size + 1, 0, none⟩)]) ∧ w' = (w.alloc (.cells #[.int .i64 n] 49)).alloc (.cells #[.slice A k c] 22) := by
  refine callsIn_of_wp Try.func31 rfl h1 ?_ hro
  simp only [Try.ntmps31, List.size_toArray, List.length_cons, List.length_nil, Nat.reduceAdd, Nat.reduceSub, Array.replicate_succ, Array.replicate_zero, List.push_toArray, List.append_toArray, List.nil_append, List.cons_append]
  gi_wp2
  go_ret
  exact ⟨rfl, rfl⟩

set_option maxRecDepth 100000 in
set_option maxHeartbeats 1000000 in
theorem behind1_in (m : Nat) (hm : 1 ≤ m) (lp Bn Bl n₀ : Nat) (n : Int) (A : Option Addr) (c : Nat) (l : List Int) (hlen : l.length ≤ maxLen) (J Jx : List Int → World → Prop)
    (hY : ∀ pre x W, J pre W → pre.length < (scanN n l).length → YieldAt Fence.wide (m - 1) Try.prog lp #[.int .i64 x] W fun e W' =>
      (e = .returned (.bool true) ∧ J (pre ++ [x]) W' ∧ Below n₀ W W') ∨ (e = .returned (.bool false) ∧ Jx (pre ++ [x]) W'))
    (W : World) (hBn : W.cell? ⟨Bn, 0, none⟩ = some (.int .i64 n)) (hBl : W.cell? ⟨Bl, 0, none⟩ = some (.slice A l.length c)) (hA : IntsB n₀ W A l) (h0 : J [] W) :
    CallsIn Fence.wide m Try.prog 36 #[.func (.yield lp) #[] #[], .pointer (some ⟨Bn, 0, none⟩), .pointer (some ⟨Bl, 0, none⟩)] W fun e W' => (∃ v, e = .returned v) ∧
      ((∃ ys, ys = scanN n l ∧ J ys W') ∨ (∃ pre, pre <+: scanN n l ∧ Jx pre W')) := by
  unfold maxLen at hlen
  refine callsIn_of_wp Try.func36 rfl trivial ?_ rfl
  simp only [Try.ntmps36, List.size_toArray, List.length_cons, List.length_nil, Nat.reduceAdd, Nat.reduceSub, Array.replicate_succ, Array.replicate_zero, List.push_toArray, List.append_toArray, List.nil_append, List.cons_append]
  gi_wp2
  gi_loopw [4, 6, 10] (fun s4 s6 i wr => ∃ (k : Nat) (m4 : Int), k ≤ l.length ∧ i = .int .i64 k ∧ s4 = .int .i64 m4 ∧ m4 = totN n (l.take k) ∧ J ((scanN n l).take k) wr ∧ Below n₀ W wr) (fun s4 s6 i wr => l.length - (intOf i).toNat)
  case atStart => exact ⟨0, n, Nat.zero_le _, rfl, rfl, rfl, h0, Below.refl _ _⟩
  case round =>
    obtain ⟨k, m4, hk, rfl, rfl, hm4, hJ, hB⟩ := hrel
    have HJ := Lib.hid hJ
    have HM4 := Lib.hid hm4
    have HA := Lib.hid (hA.below hB)
    have HB := Lib.hid hB
    clear hJ hm4 hB
    by_cases hlt : k < l.length
    · obtain ⟨b, off, rfl, hb, hc⟩ := HA.out (by omega)
      have hck := hc k hlt
      have hk0 : (0 : Int) ≤ (k : Int) := by omega
      have hk1 : (k : Int) < (l.length : Int) := by omega
      obtain ⟨x, hx⟩ : ∃ x, l[k]?.getD 0 = x := ⟨_, rfl⟩
      rw [hx] at hck
      have HX := Lib.hid hx
      clear hc hx
      have hst := scan_take l n k hlt
      rw [tot_step n l k hlt, ← HM4.out, HX.out] at hst
      have HT := Lib.hid hst
      have hlen2 := scan_len l n
      obtain ⟨fn, tmps, assign, body, hy, hR⟩ := hY ((scanN n l).take k) (wrap64 (m4 + x)) wr HJ.out (by rw [List.length_take, hlen2]; omega)
      rw [← HT.out] at hR
      clear hst hlen2
      gi_wp2_with (refine ⟨trivial, ?_⟩; gi_at_call 34; refine (callsIn_wide.2 (plus_any _ _ _)).mono ?_; rintro e w' ⟨rfl, rfl⟩)
      refine hR.mono ?_
      rintro e W3 (⟨rfl, hJ3, hk3⟩ | ⟨rfl, hJx3⟩)
      · gi_wp2
        go_roundw
        case rel => exact ⟨k + 1, _, by omega, by go_num, rfl, by rw [tot_step n l k hlt, ← HM4.out, HX.out], hJ3, HB.out.trans hk3⟩
        case measure => simp [intOf]; omega
      · gi_wp2
        first | (refine bodyPost_ret (results_none rfl _ _ _) rfl ?_) | trace_state
        exact ⟨⟨_, rfl⟩, .inr ⟨_, List.take_prefix _ _, hJx3⟩⟩
    · gi_wp2
      go_end0
      refine ⟨⟨_, rfl⟩, .inl ⟨_, rfl, ?_⟩⟩
      have := HJ.out
      rwa [List.take_of_length_le (by rw [scan_len]; omega)] at this

theorem behind_stops (m : Nat) (hm : 1 ≤ m) (Bn Bl n₀ : Nat) (n : Int) (A : Option Addr) (c : Nat) (l : List Int) (hlen : l.length ≤ maxLen) (w : World) (hBn : Bn < w.heap.size) (hBl : Bl < w.heap.size) (hn₀ : n₀ ≤ w.heap.size)
    (hcn : w.cell? ⟨Bn, 0, none⟩ = some (.int .i64 n)) (hcl : w.cell? ⟨Bl, 0, none⟩ = some (.slice A l.length c)) (hA : IntsB n₀ w A l) :
    SeqStopsK Fence.wide m Try.prog 36 #[.pointer (some ⟨Bn, 0, none⟩), .pointer (some ⟨Bl, 0, none⟩)] (fun x : Int => #[Value.int .i64 x]) (Below n₀) (fun ys => ys = scanN n l) (fun pre => pre <+: scanN n l) (scanN n l).length w := fun lp J Jx W hW _ _ hY h0 =>
  behind1_in m hm lp Bn Bl n₀ n A c l hlen J Jx hY W ((hW.cell (p := ⟨Bn, 0, none⟩) hBn).trans hcn) ((hW.cell (p := ⟨Bl, 0, none⟩) hBl).trans hcl) (hA.below (hW.mono hn₀)) h0
end Go.Proofs.Ytbmoiacjigmggaa
