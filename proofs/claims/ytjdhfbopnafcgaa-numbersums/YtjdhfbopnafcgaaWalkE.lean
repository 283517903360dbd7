/- The law's own helpers gets, fails, all, where they say yes. -/
import Derived.Test.YtjdhfbopnafcgaaWalkD
namespace Go.Proofs.Ytjdhfbopnafcgaa
open Go.RowKit
set_option linter.unusedVariables false

def Yes (w : World) (e : Ending) (w' : World) : Prop := e = .returned (.bool true) ∧ Below w.heap.size w w'

set_option maxHeartbeats 400000 in
theorem gets_yes (s : ByteArray) (n : Int) (w : World) (hs : s.size ≤ maxLen) (h1 : getN s.data.toList = n) (h2 : getE s.data.toList = 0) (h3 : getP s.data.toList = 0) :
    Calls Try.prog 22 #[.string s, .int .i64 n] w (Yes w) := by
  have HG := Lib.hid (get_any s w hs)
  unfold GetPost at HG
  rw [h1, h2, h3] at HG
  clear h1 h2 h3
  have hb : (n == n) = true := by simp
  go_enter Try.func22, Try.ntmps22
  go_wp2_with fail
  refine HG.out.mono ?_
  rintro e w1 ⟨rfl, hB⟩
  go_wp2
  go_ret
  exact ⟨rfl, hB.alloc hB.size _⟩

set_option maxHeartbeats 400000 in
theorem fails_yes (s : ByteArray) (e0 p0 : Int) (w : World) (hs : s.size ≤ maxLen) (h1 : getN s.data.toList = 0) (h2 : getE s.data.toList = e0) (h3 : getP s.data.toList = p0) :
    Calls Try.prog 23 #[.string s, .int .i64 e0, .int .i64 p0] w (Yes w) := by
  have HG := Lib.hid (get_any s w hs)
  unfold GetPost at HG
  rw [h1, h2, h3] at HG
  clear h1 h2 h3
  go_enter Try.func23, Try.ntmps23
  go_wp2_with fail
  refine HG.out.mono ?_
  rintro e w1 ⟨rfl, hB⟩
  go_wp2
  go_ret
  exact ⟨rfl, hB.alloc hB.size _⟩

set_option maxHeartbeats 400000 in
theorem all_yes (n e0 : Int) (A : Option Addr) (c : Nat) (l : List Int) (w : World) (hA : Ints w A l) (hs : ∀ x ∈ l, Small x) (hlen : l.length ≤ 4611686018427387904) (h1 : allN l = n) (h2 : allE l = e0) :
    Calls Try.prog 24 #[.int .i64 n, .int .i64 e0, .slice A l.length c] w (Yes w) := by
  have HG := Lib.hid (all_any A c l w hA hs hlen)
  unfold AllPost at HG
  rw [h1, h2] at HG
  clear h1 h2 hs
  have hb : (n == n) = true := by simp
  have hb2 : (e0 == e0) = true := by simp
  go_enter Try.func24, Try.ntmps24
  go_wp2_with fail
  refine HG.out.mono ?_
  rintro e w1 ⟨rfl, hB⟩
  go_wp2
  go_ret
  exact ⟨rfl, hB⟩
end Go.Proofs.Ytjdhfbopnafcgaa
