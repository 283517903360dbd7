/- tells, reads, fails. -/
import Derived.Test.YtmpglmepmdpjoaaOpK
namespace Go.Proofs.Ytmpglmepmdpjoaa
open Go.RowKit Go.Maps
set_option linter.unusedVariables false

def tellsB (kd a b k n : Int) (s : ByteArray) : Bool := textS kd a b k n == s && checkP kd a b k n == 0
def readsB (kd a b k n : Int) (r : Res) : Bool := sameOp r.1.1 r.1.2.1 r.1.2.2.1 r.1.2.2.2.1 r.1.2.2.2.2 kd a b k n && r.2.1 == 0 && r.2.2 == 0
def failsB (pos err : Int) (r : Res) : Bool := sameOp r.1.1 r.1.2.1 r.1.2.2.1 r.1.2.2.2.1 r.1.2.2.2.2 0 0 0 0 0 && r.2.1 == pos && r.2.2 == err

theorem tells_any (kd a b k n : Int) (s : ByteArray) (w : World) (ha : I64 a) (hb : I64 b) (hn : I64 n) : Calls Try.prog 23 #[opV kd a b k n, .string s] w (BoolPost (tellsB kd a b k n s) w) := by
  have HT := Lib.hid (fun W => text_any kd a b k n W ha hb hn)
  have HP : Hid (tellsB kd a b k n s = (textS kd a b k n == s && checkP kd a b k n == 0)) := Lib.hid rfl
  unfold opV at HT ⊢
  generalize tellsB kd a b k n s = r at HP
  generalize textS kd a b k n = t at HT HP
  generalize checkP kd a b k n = e at HT HP
  have hl := beq_toListBytes t s
  cases h1 : (t == s) with
  | false =>
    rw [h1] at hl
    have hl' : (t.toList == s.toList) = false := hl.symm
    clear hl
    go_enter Try.func23, Try.ntmps23
    go_wp2_with fail
    refine (HT.out _).mono ?_
    rintro e w1 ⟨rfl, hB1⟩
    go_wp2
    go_ret
    exact ⟨by rw [HP.out, h1]; rfl, nxt ((Below.refl _ _).alloc (Nat.le_refl _) _) hB1 (by simp)⟩
  | true =>
    rw [h1] at hl
    have hl' : (t.toList == s.toList) = true := hl.symm
    clear hl
    go_enter Try.func23, Try.ntmps23
    go_wp2_with fail
    refine (HT.out _).mono ?_
    rintro e w1 ⟨rfl, hB1⟩
    go_wp2
    go_ret
    exact ⟨by rw [HP.out, h1]; rfl, nxt ((Below.refl _ _).alloc (Nat.le_refl _) _) hB1 (by simp)⟩

set_option maxHeartbeats 1000000 in
theorem reads_any (A : Option Addr) (c : Nat) (ws : List ByteArray) (kd a b k n : Int) (w : World) (hA : Strs w.heap.size w A ws) (hm : ws.length ≤ 100) (hz : ∀ s ∈ ws, s.size ≤ maxLen) :
    Calls Try.prog 27 #[opV kd a b k n, .slice A ws.length c] w (BoolPost (readsB kd a b k n (readP ws)) w) := by
  have HR := Lib.hid (read_any A c ws (w.alloc (.cells #[.int .i64 kd, .int .i64 a, .int .i64 b, .int .i64 k, .int .i64 n] 25)) ((hA.below ((Below.refl _ _).alloc (Nat.le_refl _) _)).mono (by simp)) hm hz)
  have HO := Holds.new w 25 #[.int .i64 kd, .int .i64 a, .int .i64 b, .int .i64 k, .int .i64 n]
  clear hA hz
  unfold opV
  generalize readP ws = r at HR
  obtain ⟨⟨r1, r2, r3, r4, r5⟩, rn, re⟩ := r
  unfold resV opV at HR
  simp only at HR
  have HE := fun W => eql_op W r1 r2 r3 r4 r5 kd a b k n
  have HP : Hid (readsB kd a b k n ((r1, r2, r3, r4, r5), rn, re) = (sameOp r1 r2 r3 r4 r5 kd a b k n && rn == 0 && re == 0)) := Lib.hid rfl
  generalize readsB kd a b k n ((r1, r2, r3, r4, r5), rn, re) = res at HP
  generalize sameOp r1 r2 r3 r4 r5 kd a b k n = sb at HE HP
  have hgo : ∀ w1, Below (w.alloc (.cells #[.int .i64 kd, .int .i64 a, .int .i64 b, .int .i64 k, .int .i64 n] 25)).heap.size (w.alloc (.cells #[.int .i64 kd, .int .i64 a, .int .i64 b, .int .i64 k, .int .i64 n] 25)) w1 → Holds (w1.alloc (.cells #[.int .i64 r1, .int .i64 r2, .int .i64 r3, .int .i64 r4, .int .i64 r5] 25)) w.heap.size 25 #[.int .i64 kd, .int .i64 a, .int .i64 b, .int .i64 k, .int .i64 n] := fun w1 h => (HO.below h (by simp)).alloc _
  have HGO := Lib.hid hgo
  clear hgo HO
  cases sb <;> cases h2 : (rn == 0)
  all_goals
    go_enter Try.func27, Try.ntmps27
    go_wp2_with fail
    refine HR.out.mono ?_
    rintro e w1 ⟨rfl, hB1⟩
    have H1 := HGO.out w1 hB1
    have o0 := H1.c (j := 0) rfl
    have o1 := H1.c (j := 1) rfl
    have o2 := H1.c (j := 2) rfl
    have o3 := H1.c (j := 3) rfl
    have o4 := H1.c (j := 4) rfl
    have hs := hB1.size
    simp only [World.size_alloc] at hs
    go_wp2
    go_ret
    exact ⟨by rw [HP.out]; simp [h2], Below.alloc (nxt ((Below.refl _ _).alloc (Nat.le_refl _) _) hB1 (by simp)) (by omega) _⟩

set_option maxHeartbeats 1000000 in
theorem fails_any (A : Option Addr) (c : Nat) (ws : List ByteArray) (pos err : Int) (w : World) (hA : Strs w.heap.size w A ws) (hm : ws.length ≤ 100) (hz : ∀ s ∈ ws, s.size ≤ maxLen) :
    Calls Try.prog 25 #[.int .i64 pos, .int .i64 err, .slice A ws.length c] w (BoolPost (failsB pos err (readP ws)) w) := by
  have HR := Lib.hid (read_any A c ws w hA hm hz)
  clear hA hz
  generalize readP ws = r at HR
  obtain ⟨⟨r1, r2, r3, r4, r5⟩, rn, re⟩ := r
  unfold resV opV at HR
  simp only at HR
  have HE := fun W => eql_op W r1 r2 r3 r4 r5 0 0 0 0 0
  have HP : Hid (failsB pos err ((r1, r2, r3, r4, r5), rn, re) = (sameOp r1 r2 r3 r4 r5 0 0 0 0 0 && rn == pos && re == err)) := Lib.hid rfl
  generalize failsB pos err ((r1, r2, r3, r4, r5), rn, re) = res at HP
  generalize sameOp r1 r2 r3 r4 r5 0 0 0 0 0 = sb at HE HP
  cases sb <;> cases h2 : (rn == pos)
  all_goals
    go_enter Try.func25, Try.ntmps25
    go_wp2_with fail
    refine HR.out.mono ?_
    rintro e w1 ⟨rfl, hB1⟩
    have hs := hB1.size
    go_wp2
    go_ret
    exact ⟨by rw [HP.out]; simp [h2], Below.alloc hB1 (by omega) _⟩
end Go.Proofs.Ytmpglmepmdpjoaa
