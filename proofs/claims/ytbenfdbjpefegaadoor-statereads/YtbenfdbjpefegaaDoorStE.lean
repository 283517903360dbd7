/- Contracts of the layer state: Encode. -/
import Derived.Test.YtbenfdbjpefegaaDoorStD
namespace Go.Proofs.YtbenfdbjpefegaaDoor
open Go.RowKit Go.Maps
set_option linter.unusedVariables false

def EncNo (r : Int) (w : World) (e : Ending) (w' : World) : Prop := e = .returned (.tuple #[.slice none 0 0, .int .i64 r]) ∧ Below w.heap.size w w'
def EncYes (ys : List Int) (w : World) (e : Ending) (w' : World) : Prop :=
  ∃ g cap, e = .returned (.tuple #[.slice (some ⟨g, 0, none⟩) ys.length cap, .int .i64 0]) ∧ w'.ownsRow w.heap.size 5 1 (.slice (some ⟨g, 0, none⟩) ys.length cap) ys.length (bytesOf ys) ∧ Below w.heap.size w w'

theorem enc_no (t n : Int) (A : Option Addr) (c : Nat) (l : List Int) (w : World) (hA : Ints w A l) (hlen : l.length ≤ 100) (h : checkE t n l ≠ 0) :
    Calls Tryd.prog 11 #[stV t n A l.length c] w (EncNo (checkE t n l) w) := by
  have H := check_any t n A c l (w.alloc (.cells #[.int .i64 t, .int .i64 n, .slice A l.length c] 24)) (hA.below (alloc1 w _)) (by omega)
  unfold stV at *
  generalize checkE t n l = r at *
  have hb : (r != 0) = true := by rw [bne_iff_ne]; exact h
  go_enter Tryd.func11, Tryd.ntmps11
  go_wp2_with fail
  refine H.mono ?_
  rintro e w1 ⟨rfl, hB1⟩
  go_wp2
  go_ret2
  exact ⟨rfl, nxt (alloc1 w _) hB1 (by simp)⟩

theorem row_more {W : World} {b b' : Nat} {e : TypeId} {size : Nat} {v : Value} {n : Nat} {xs : List Value} (h : W.ownsRow b e size v n xs) (hb : b' ≤ b) : W.ownsRow b' e size v n xs := by
  refine ⟨h.1, ?_⟩
  rcases h.2 with h | ⟨g, cap, cur, h1, h2, h3⟩
  · exact .inl h
  · exact .inr ⟨g, cap, cur, h1, by omega, h3⟩

theorem intsOff_lit (F : Nat) (w : World) (t : Int) (ty : TypeId) (h : F ≠ w.heap.size) : IntsOff F (w.alloc (.cells #[.int .i64 t] ty)) (some ⟨w.heap.size, 0, none⟩) [t] := fun _ => by
  refine ⟨w.heap.size, 0, rfl, by simp, fun e => h e.symm, fun j hj => ?_⟩
  obtain rfl : j = 0 := by simp at hj; omega
  simp [World.cell?_alloc_new]

theorem appB_lit (base g0 cap0 m : Nat) (xs : List Int) (s : Nat) (si x : Int) (b : Nat) (w : World) (hm : m = xs.length) (hsi : si = s)
    (hrow : w.ownsRow base 5 1 (.slice (some ⟨g0, 0, none⟩) m cap0) m (bytesOf xs)) (hg : g0 ≠ w.heap.size) (hbase : base ≤ w.heap.size) (hs : s ≤ 8) (hx : m ≤ 1000) (hb : b = w.heap.size) :
    Calls Tryd.prog 38 #[.slice (some ⟨g0, 0, none⟩) m cap0, .int .i64 si, .slice (some ⟨b, 0, none⟩) 1 1] (w.alloc (.cells #[.int .i64 x] 3)) (AppB base g0 (xs ++ be s x) (w.alloc (.cells #[.int .i64 x] 3))) := by
  subst hm hsi hb
  have := appB_any base g0 cap0 xs s (some ⟨w.heap.size, 0, none⟩) 1 [x] (w.alloc (.cells #[.int .i64 x] 3)) (hrow.alloc _) (intsOff_lit _ _ _ _ hg) (by simp; omega) hs (by simp) hx
  rw [show ([x] : List Int).flatMap (be s) = be s x by simp] at this
  exact this

set_option maxHeartbeats 2000000 in
theorem enc_yes (t n : Int) (A : Option Addr) (c : Nat) (l : List Int) (w : World) (hA : Ints w A l) (hlen : l.length ≤ 100) (h : checkE t n l = 0) :
    Calls Tryd.prog 11 #[stV t n A l.length c] w (EncYes (encL t n l) w) := by
  have hB0 := alloc1 w (.cells #[.int .i64 t, .int .i64 n, .slice A l.length c] 24)
  have H := check_any t n A c l (w.alloc (.cells #[.int .i64 t, .int .i64 n, .slice A l.length c] 24)) (hA.below hB0) (by omega)
  rw [h] at H
  have HW := Lib.hid (Holds.new w 24 #[.int .i64 t, .int .i64 n, .slice A l.length c])
  have HA := Lib.hid (hA.below hB0)
  have hlt0 : w.heap.size < (w.alloc (.cells #[.int .i64 t, .int .i64 n, .slice A l.length c] 24)).heap.size := by simp
  obtain ⟨i0, hi, hz0, hz1, hz2⟩ := info_parts info_u8
  unfold stV
  clear h hA
  go_enter Tryd.func11, Tryd.ntmps11
  go_wp2_with fail
  refine H.mono ?_
  rintro e w1 ⟨rfl, hB1⟩
  generalize w.alloc (.cells #[.int .i64 t, .int .i64 n, .slice A l.length c] 24) = W0 at *
  have hsz1 := hB1.size
  have HW1 := Lib.hid (HW.out.below hB1 hlt0)
  have c0 := HW1.out.c (j := 0) rfl
  have c1 := HW1.out.c (j := 1) rfl
  have c2 := HW1.out.c (j := 2) rfl
  have HA1 := Lib.hid (HA.out.below hB1)
  have hBw : Below w.heap.size w w1 := nxt hB0 hB1 (by omega)
  have HB1 := Lib.hid hBw
  have hwB : w.heap.size < w1.heap.size := by omega
  clear hBw hB1 hB0 H
  go_wp2_with (at_make; refine wpList_make_own _ rfl _ _ 27 rfl w1.heap.size 5 i0 (.int .u8 0) 1 Tryd.underlying27 hi hz0 hz1 .i64 .i64 _ (13 + 8 * l.length) rfl rfl (by omega) (by rw [hz2]; omega) (by unfold maxLen; omega) (Nat.le_refl _) ?_; intro w2 hown2 hg2; have hB2 : Below w1.heap.size w1 w2 := (Below.refl _ _).grown hg2 (Nat.le_refl _) (fun k e => by cases e); have HW2 := Lib.hid (HW1.out.below hB2 (by omega)); have c02 := HW2.out.c (j := 0) rfl; have HOWN2 := Lib.hid hown2; have HB2 := Lib.hid hB2; clear hown2 hg2 hB2 c0 c1 c2)
  have hs2 := HB2.out.size
  have hg2 := HOWN2.out.lt _ rfl
  have H1 := appB_lit w1.heap.size w1.heap.size (13 + 8 * l.length) 0 [] 1 1 t w2.heap.size w2 rfl rfl HOWN2.out (by omega) (by omega) (by omega) (by omega) rfl
  obtain ⟨y1, hy1⟩ : ∃ y, ([] ++ be 1 t : List Int) = y := ⟨_, rfl⟩
  rw [hy1] at H1
  have hl1 : y1.length = 1 := by rw [← hy1]; simp [be_len]
  have HY1 := Lib.hid hy1
  have HL1 := Lib.hid hl1
  clear hy1 hl1
  refine H1.mono ?_
  rintro e w3 ⟨g1, cap1, rfl, hown3, hB3, hgg1⟩
  clear H1
  have HB3 := Lib.hid (nxt (HB2.out.alloc (by omega) _) hB3 (Nat.le_refl _))
  have HW3 := Lib.hid (HW1.out.below HB3.out (by omega))
  have c13 := HW3.out.c (j := 1) rfl
  have HOWN3 := Lib.hid hown3
  have hs3 := HB3.out.size
  have hg3 := hown3.lt _ rfl
  clear hown3 hB3 c02
  go_wp2_with fail
  have H2 := appB_lit w1.heap.size g1 cap1 y1.length y1 8 8 n w3.heap.size w3 rfl rfl HOWN3.out (by omega) (by omega) (by omega) (by have := HL1.out; omega) rfl
  obtain ⟨y2, hy2⟩ : ∃ y, (y1 ++ be 8 n : List Int) = y := ⟨_, rfl⟩
  rw [hy2] at H2
  have hl2 : y2.length = 9 := by rw [← hy2, List.length_append, HL1.out]; simp [be_len]
  have HY2 := Lib.hid hy2
  have HL2 := Lib.hid hl2
  clear hy2 hl2
  refine H2.mono ?_
  rintro e w4 ⟨g2, cap2, rfl, hown4, hB4, hgg2⟩
  clear H2
  have HB4 := Lib.hid (nxt (HB3.out.alloc (by omega) _) hB4 (Nat.le_refl _))
  have HW4 := Lib.hid (HW1.out.below HB4.out (by omega))
  have c24 := HW4.out.c (j := 2) rfl
  have HOWN4 := Lib.hid hown4
  have hs4 := HB4.out.size
  have hg4 := hown4.lt _ rfl
  clear hown4 hB4 c13
  go_wp2_with fail
  have H3 := appB_lit w1.heap.size g2 cap2 y2.length y2 4 4 (l.length : Int) w4.heap.size w4 rfl rfl HOWN4.out (by omega) (by omega) (by omega) (by have := HL2.out; omega) rfl
  obtain ⟨y3, hy3⟩ : ∃ y, (y2 ++ be 4 (l.length : Int) : List Int) = y := ⟨_, rfl⟩
  rw [hy3] at H3
  have hl3 : y3.length = 13 := by rw [← hy3, List.length_append, HL2.out]; simp [be_len]
  have HY3 := Lib.hid hy3
  have HL3 := Lib.hid hl3
  clear hy3 hl3
  refine H3.mono ?_
  rintro e w5 ⟨g3, cap3, rfl, hown5, hB5, hgg3⟩
  clear H3
  have HB5 := Lib.hid (nxt (HB4.out.alloc (by omega) _) hB5 (Nat.le_refl _))
  have HW5 := Lib.hid (HW1.out.below HB5.out (by omega))
  have c25 := HW5.out.c (j := 2) rfl
  have HOWN5 := Lib.hid hown5
  have hs5 := HB5.out.size
  have hg5 := hown5.lt _ rfl
  clear hown5 hB5 c24
  go_wp2_with fail
  have H4 : Calls Tryd.prog 38 #[.slice (some ⟨g3, 0, none⟩) y3.length cap3, .int .i64 8, .slice A l.length c] w5 (AppB w1.heap.size g3 (y3 ++ l.flatMap (be 8)) w5) := appB_any w1.heap.size g3 cap3 y3 8 A c l w5 HOWN5.out (IntsOff.of (n := 0) HA1.out HB5.out (by omega)) (by omega) (by omega) (by omega) (by have := HL3.out; omega)
  obtain ⟨y4, hy4⟩ : ∃ y, (y3 ++ l.flatMap (be 8) : List Int) = y := ⟨_, rfl⟩
  rw [hy4] at H4
  have HY4 := Lib.hid hy4
  clear hy4
  refine H4.mono ?_
  rintro e w6 ⟨g4, cap4, rfl, hown6, hB6, hgg4⟩
  have hfin : y4 = encL t n l := by rw [← HY4.out, ← HY3.out, ← HY2.out, ← HY1.out]; simp [encL]
  have HFIN := Lib.hid hfin
  clear H4 hfin c25
  go_wp2
  go_ret2
  refine ⟨g4, cap4, by rw [← HFIN.out]; rfl, by rw [← HFIN.out]; exact row_more hown6 (by omega), nxt HB1.out (nxt HB5.out hB6 (by omega)) (by omega)⟩
end Go.Proofs.YtbenfdbjpefegaaDoor
