/- The document's answers: digits, Put. -/
import Derived.Test.YtbenfdbjpefegaaDoorOpBase
import Derived.Test.YtbenfdbjpefegaaDoorWalkK
import Derived.Test.YtbenfdbjpefegaaDoorPlainB
import Derived.Laws.BytesArg
namespace Go.Proofs.YtbenfdbjpefegaaDoor
open Go.RowKit
set_option linter.unusedVariables false

def StrPost (l : List UInt8) (w : World) (e : Ending) (w' : World) : Prop := e = .returned (.string ⟨l.toArray⟩) ∧ Below w.heap.size w w'

theorem conv_one (w : World) (x : Int) : (convert 27 9 (.slice (some ⟨w.heap.size, 0, none⟩) 1 1)).run Tryd.prog (w.alloc (.cells #[.int .u8 x] 5)) = .ok (.string ⟨#[ub x]⟩) (w.alloc (.cells #[.int .u8 x] 5)) := by
  have h := run_convert_bytes_arg (P := Tryd.prog) (w.alloc (.cells #[.int .u8 x] 5)) 27 5 Tryd.underlying27 Tryd.underlying5 w.heap.size 0 1 1 [x] rfl (fun i hi => by
    obtain rfl : i = 0 := by omega
    rw [Nat.zero_add, World.cell?_alloc_new]; rfl) 9 Tryd.underlying9
  exact h

set_option maxRecDepth 100000 in
set_option maxHeartbeats 400000 in
theorem rdigits_small (n : Nat) (w : World) (h : n < 10) :
    Calls Tryd.prog 60 #[.int .u64 n] w (StrPost [ub (48 + (n : Int))] w) := by
  have hcv := conv_one w (48 + (n : Int))
  go_enter Tryd.func60, Tryd.ntmps60
  go_wp2_with fail
  go_ret
  exact ⟨rfl, (Below.refl _ _).alloc (Nat.le_refl _) _⟩

theorem str_join (a b : List UInt8) : (⟨a.toArray⟩ : ByteArray) ++ ⟨b.toArray⟩ = ⟨(a ++ b).toArray⟩ := by
  apply ByteArray.ext
  rw [ByteArray.data_append]
  simp

set_option maxHeartbeats 1000000 in
theorem rdigits_any (f : Nat) : ∀ (n : Nat) (w : World), n < 10 ^ (f + 1) → n < 100000000000000000000 → n ≤ 18446744073709551615 →
    Calls Tryd.prog 60 #[.int .u64 n] w (StrPost (dsf (f + 1) n) w) := by
  induction f with
  | zero =>
    intro n w h _ _
    have h10 : n < 10 := by simpa using h
    rw [dsf_small 0 n h10, show (48 + (n : Int) % 10) = 48 + (n : Int) by omega]
    exact rdigits_small n w h10
  | succ f ih =>
    intro n w h hn hn2
    by_cases h10 : n < 10
    · rw [dsf_small (f + 1) n h10, show (48 + (n : Int) % 10) = 48 + (n : Int) by omega]
      exact rdigits_small n w h10
    · have hdiv : n / 10 < 10 ^ (f + 1) := by rw [Nat.pow_succ] at h; exact Nat.div_lt_of_lt_mul (by rw [Nat.mul_comm]; exact h)
      have HI := Lib.hid (fun W => ih (n / 10) W hdiv (by omega) (by omega))
      have HM := Lib.hid (fun W => rdigits_small (n % 10) W (by omega))
      have HD := Lib.hid (dsf_great (f + 1) n h10)
      rw [show (((n / 10 : Nat)) : Int) = (n : Int) / 10 by omega] at HI
      rw [show (((n % 10 : Nat)) : Int) = (n : Int) % 10 by omega] at HM
      have hlen := dsf_len (f + 1) 20 (n / 10) (by rw [pow20]; omega) (by omega)
      clear ih hdiv h
      go_enter Tryd.func60, Tryd.ntmps60
      go_wp2_with fail
      refine (HI.out _).mono ?_
      rintro e w1 ⟨rfl, hB1⟩
      go_wp2_with fail
      refine (HM.out _).mono ?_
      rintro e w2 ⟨rfl, hB2⟩
      replace hB2 := Below.next hB1 hB2 (Nat.le_refl _)
      go_wp2_with fail
      go_ret
      refine ⟨?_, hB2⟩
      rw [HD.out, ← str_join]; rfl

theorem rput_post (n : Int) (w : World) (e : Ending) (w' : World) (h1 : e = .returned (.string ⟨(putL n).toArray⟩)) (hB : Below w.heap.size w w') : PutPost n w e w' := ⟨h1, hB⟩

set_option maxHeartbeats 400000 in
theorem rput_any (n : Int) (w : World) (h1 : -9223372036854775808 ≤ n) (h2 : n ≤ 9223372036854775807) :
    Calls Tryd.prog 43 #[.int .i64 n] w (PutPost n w) := by
  have hm : n.natAbs < 10 ^ 20 := by rw [pow20]; omega
  have HR := Lib.hid (fun W => rdigits_any 19 n.natAbs W hm (by omega) (by omega))
  have HP := Lib.hid (putL_is n)
  by_cases hneg : n < 0
  · have hz : IntKind.u64.wrap (-IntKind.u64.wrap n) = ((n.natAbs : Nat) : Int) := by rw [sz_neg n h1 hneg, sz_nat]
    have hlen : (dsf 20 n.natAbs).length ≤ 20 := dsf_len 20 20 n.natAbs hm (by omega)
    clear hm
    go_enter Tryd.func43, Tryd.ntmps43
    go_wp2_with fail
    refine (HR.out _).mono ?_
    rintro e w1 ⟨rfl, hB1⟩
    go_wp2_with fail
    go_ret
    refine ⟨?_, hB1⟩
    rw [HP.out, if_pos hneg, ← str_join]; rfl
  · have hz : n = ((n.natAbs : Nat) : Int) := by omega
    have HZ := Lib.hid hz
    clear hm hz
    go_enter Tryd.func43, Tryd.ntmps43
    go_wp2_with fail
    rw [← HZ.out] at HR
    refine (HR.out _).mono ?_
    rintro e w1 ⟨rfl, hB1⟩
    go_wp2
    go_ret
    exact ⟨by rw [HP.out, if_neg (by omega)]; rfl, hB1⟩
end Go.Proofs.YtbenfdbjpefegaaDoor
