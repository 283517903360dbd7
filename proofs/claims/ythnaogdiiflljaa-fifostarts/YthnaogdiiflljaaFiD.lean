/- Contracts of the layer fifo: hold, do. -/
import Derived.Test.YthnaogdiiflljaaFiC
namespace Go.Proofs.Ythnaogdiiflljaa
open Go.RowKit Go.Maps
set_option linter.unusedVariables false
set_option linter.unusedSimpArgs false

/-- A queue of these numbers, in memory of the call's own. -/
def HoldPost (l : List Int) (w : World) (e : Ending) (w' : World) : Prop := ∃ B g, e = .returned (.pointer (some ⟨B, 0, none⟩)) ∧ Ring w.heap.size w' B g l 0 l ∧ Below w.heap.size w w'

theorem hold_step {l : List Int} {k : Nat} {x : Int} (hk : l[k]? = some x) : l.take k ++ [x] = l.take (k + 1) := by rw [List.take_add_one, hk]; rfl

set_option maxHeartbeats 1000000 in
theorem hold_any (A : Option Addr) (c : Nat) (l : List Int) (w : World) (hA : Ints w A l) (hlen : l.length ≤ 1000) :
    Calls Try.prog 27 #[.slice A l.length c] w (HoldPost l w) := by
  have hB0 := alloc1 w (.cells #[.slice none 0 0, .int .i64 0, .int .i64 0] 56)
  have HWD := widen_any w.heap.size w.heap.size none [] l.length (w.alloc (.cells #[.slice none 0 0, .int .i64 0, .int .i64 0] 56)) (Nat.le_refl _) (Holds.new w _ _) (ints_nil _ _) (by simp; omega)
  have hsz : w.heap.size < (w.alloc (.cells #[.slice none 0 0, .int .i64 0, .int .i64 0] 56)).heap.size := by simp
  have HA := Lib.hid hA
  obtain ⟨n, hn⟩ : ∃ n, n = l.length := ⟨_, rfl⟩
  rw [← hn] at HWD hlen ⊢
  have Hn := Lib.hid hn
  clear hn hA
  go_enter Try.func27, Try.ntmps27
  go_wp2_with fail
  refine HWD.mono ?_
  rintro e w1 ⟨rfl, ⟨g, -, h1⟩, hg1⟩
  have HB1 : Hid (Below w.heap.size w w1) := Lib.hid (hB0.grown hg1 hB0.size (fun k e => by cases e; exact Nat.le_refl _))
  have H1 := Lib.hid h1
  clear h1 hg1 HWD hB0 hsz
  obtain ⟨B, hB⟩ : ∃ B, B = w.heap.size := ⟨_, rfl⟩
  have HBe := Lib.hid hB
  have hBw : B ≤ w.heap.size := by omega
  have hBw2 : w.heap.size ≤ B := by omega
  rw [← hB] at H1 HB1 ⊢
  clear hB
  go_wp2
  go_loopw [5, 16] (fun s5 s16 wr => ∃ k : Nat, k ≤ n ∧ s16 = .int .i64 k ∧ Ring B wr B g (l.take k ++ List.replicate (n - k) 0) 0 (l.take k) ∧ Below B w wr) (fun s5 s16 wr => n - (intOf s16).toNat)
  case atStart => exact ⟨0, Nat.zero_le _, rfl, by simpa using H1.out, HB1.out⟩
  case round =>
    obtain ⟨k, hk, rfl, hR, hB⟩ := hrel
    have HR := Lib.hid hR
    have HB := Lib.hid hB
    clear hR hB
    by_cases hlt : k < n
    · have hkl : k < l.length := by have := Hn.out; omega
      obtain ⟨b, off, rfl, hb, hc⟩ := HA.out.below (HB.out.mono (by omega)) (by omega)
      have ck := hc k hkl
      obtain ⟨x, hx⟩ : ∃ x, l[k]? = some x := ⟨_, List.getElem?_eq_getElem hkl⟩
      rw [hx] at ck
      have HP := put_room B B g (l.take k) (List.replicate (n - k - 1) 0) 0 x wr (by have := HR.out; rwa [show n - k = (n - k - 1) + 1 by omega, List.replicate_succ] at this) (by simp; omega)
      have HX := Lib.hid hx
      have g0 : (0 : Int) ≤ (k : Int) := by omega
      have g1 : (k : Int) < (n : Int) := by omega
      clear hc hx
      go_wp2_with fail
      refine HP.mono ?_
      rintro e w2 ⟨rfl, hR2, hB2⟩
      have HR2 := Lib.hid hR2
      have HB2 := Lib.hid (HB.out.trans hB2)
      clear hR2 hB2 HP
      go_wp2
      go_roundw
      case rel =>
        refine ⟨k + 1, by omega, by go_num, ?_, HB2.out⟩
        have := HR2.out
        rw [hold_step HX.out, show l.take k ++ x :: List.replicate (n - k - 1) 0 = l.take (k + 1) ++ List.replicate (n - (k + 1)) 0 by rw [← hold_step HX.out, List.append_assoc]; rfl] at this
        exact this
      case measure => simp [intOf]; omega
    · obtain rfl : k = n := by omega
      go_wp2
      go_ret
      have h1 := HR.out
      rw [Nat.sub_self, List.replicate_zero, List.append_nil, Hn.out, List.take_length] at h1
      have h2 := HB.out
      rw [HBe.out] at h1 h2
      exact ⟨B, g, rfl, by rw [HBe.out]; exact h1, h2⟩

/-- What an operation makes of a queue: what is in it then, and what is returned. -/
def fifoL (l : List Int) (k x : Int) : List Int := if k = 10 then l ++ [x] else if k = 11 then l.tail else l
def fifoK (l : List Int) (k : Int) : Int := if k = 10 then 0 else if k = 11 then (if l = [] then 1 else 2) else 2
def fifoN (l : List Int) (k : Int) : Int := if k = 10 then 0 else if k = 11 then l.head?.getD 0 else l.length

def DoPost (base B : Nat) (l : List Int) (k x : Int) (w : World) (e : Ending) (w' : World) : Prop :=
  e = .returned (retV (fifoK l k) (fifoN l k)) ∧ (∃ g cs p, Ring base w' B g cs p (fifoL l k x) ∧ cs.length ≤ 5000) ∧ Below base w w'

set_option maxHeartbeats 1000000 in
theorem do_enq (base B g : Nat) (l : List Int) (x : Int) (w : World) (h : Ring base w B g l 0 l) (hlen : l.length ≤ 1000) :
    Calls Try.prog 28 #[.pointer (some ⟨B, 0, none⟩), .int .i64 10, .int .i64 x] w (DoPost base B l 10 x w) := by
  have hB0 := alloc1 w (.cells #[.int .i64 0, .int .i64 0] 28)
  have hlt := h.box.lt
  have hown := h.own
  have HP := put_full base B g l x _ (h.below hB0 (Nat.le_refl _)) (by omega)
  have HR0 := Lib.hid (Holds.new w 28 #[.int .i64 0, .int .i64 0])
  clear h
  go_enter Try.func28, Try.ntmps28
  go_wp2_with fail
  refine HP.mono ?_
  rintro e w1 ⟨rfl, ⟨g1, hR1⟩, hg1⟩
  have hQ := HR0.out.kept hg1 (by intro e; have := Option.some.inj e; omega)
  have hB1 : Below base w w1 := (hB0.mono (by omega)).grown hg1 (by have := hB0.size; omega) (fun k e => by cases e; exact hown)
  have hne : g1 ≠ w.heap.size := fun e => hQ.not_row hR1.row (by decide) (by rw [e]; rfl)
  have HR1 := Lib.hid hR1
  have HB1 := Lib.hid hB1
  have q0 := hQ.c (j := 0) rfl
  have q1 := hQ.c (j := 1) rfl
  have k0 := hQ.frozen 0
  have k1 := hQ.frozen 1
  have HQ2 := set_two (a' := .int .i64 0) (b' := .int .i64 0) hQ
  have h0 := HQ2.c (j := 0) rfl
  have h1 := HQ2.c (j := 1) rfl
  clear hR1 hg1 hB1 HP
  go_wp2
  refine bodyPost_ret (v := retV 0 0) (by simp [results, Try.f28, go_sem, retV, h0, h1]) rfl ?_
  have hO2 : Only w.heap.size w1 ((w1.setCell ⟨w.heap.size, 0, none⟩ (.int .i64 0)).setCell ⟨w.heap.size, 1, none⟩ (.int .i64 0)) := ((Only.of (Below.refl w1.heap.size w1) (Nat.le_refl _)).set 0 _).set 1 _
  refine ⟨rfl, ⟨g1, _, 0, HR1.out.kept hO2.grown (by intro e; have := Option.some.inj e; omega) (by intro e; have := Option.some.inj e; omega), by simp; omega⟩, HB1.out.trans (hO2.below (by omega) (by have := HB1.out.size; omega))⟩

theorem do_deq (base B g : Nat) (cs : List Int) (p : Nat) (y : Int) (l : List Int) (w : World) (h : Ring base w B g cs p (y :: l)) (hlen : cs.length ≤ 5000) :
    Calls Try.prog 28 #[.pointer (some ⟨B, 0, none⟩), .int .i64 11, .int .i64 0] w (DoPost base B (y :: l) 11 0 w) := by
  have hB0 := alloc1 w (.cells #[.int .i64 0, .int .i64 0] 28)
  have hlt := h.box.lt
  have hown := h.own
  have hgl := h.glt
  have HP := take_some base B g cs p y l _ (h.below hB0 (Nat.le_refl _)) (by omega)
  have HR0 := Lib.hid (Holds.new w 28 #[.int .i64 0, .int .i64 0])
  clear h
  go_enter Try.func28, Try.ntmps28
  go_wp2_with fail
  refine HP.mono ?_
  rintro e w1 ⟨rfl, ⟨p', hR1⟩, hg1⟩
  have hQ := HR0.out.kept hg1 (by intro e; have := Option.some.inj e; omega)
  have hB1 : Below base w w1 := (hB0.mono (by omega)).grown hg1 (by have := hB0.size; omega) (fun k e => by cases e; exact hown)
  have HR1 := Lib.hid hR1
  have HB1 := Lib.hid hB1
  have q0 := hQ.c (j := 0) rfl
  have q1 := hQ.c (j := 1) rfl
  have k0 := hQ.frozen 0
  have k1 := hQ.frozen 1
  clear hR1 hg1 hB1 HP
  have HQ2 := set_two (a' := .int .i64 2) (b' := .int .i64 y) hQ
  have h0 := HQ2.c (j := 0) rfl
  have h1 := HQ2.c (j := 1) rfl
  go_wp2
  refine bodyPost_ret (v := retV 2 y) (by simp [results, Try.f28, go_sem, retV, h0, h1]) rfl ?_
  have hO2 : Only w.heap.size w1 ((w1.setCell ⟨w.heap.size, 0, none⟩ (.int .i64 2)).setCell ⟨w.heap.size, 1, none⟩ (.int .i64 y)) := ((Only.of (Below.refl w1.heap.size w1) (Nat.le_refl _)).set 0 _).set 1 _
  refine ⟨rfl, ⟨g, _, p', HR1.out.kept hO2.grown (by intro e; have := Option.some.inj e; omega) (by intro e; have := Option.some.inj e; omega), hlen⟩, HB1.out.trans (hO2.below (by omega) (by have := HB1.out.size; omega))⟩

theorem do_none (base B g : Nat) (cs : List Int) (p : Nat) (w : World) (h : Ring base w B g cs p []) (hlen : cs.length ≤ 5000) :
    Calls Try.prog 28 #[.pointer (some ⟨B, 0, none⟩), .int .i64 11, .int .i64 0] w (DoPost base B [] 11 0 w) := by
  have hB0 := alloc1 w (.cells #[.int .i64 0, .int .i64 0] 28)
  have hlt := h.box.lt
  have hown := h.own
  have hgl := h.glt
  have HR1 := Lib.hid (h.below hB0 (Nat.le_refl _))
  have HP := take_none base B g cs p _ HR1.out
  have hQ := Holds.new w 28 #[.int .i64 0, .int .i64 0]
  have HB1 : Hid (Below base w _) := Lib.hid (hB0.mono (show base ≤ w.heap.size by omega))
  have hsz := hB0.size
  clear h
  go_enter Try.func28, Try.ntmps28
  go_wp2_with fail
  refine HP.mono ?_
  generalize w.alloc (.cells #[.int .i64 0, .int .i64 0] 28) = w1 at *
  rintro e w2 ⟨rfl, rfl⟩
  have q0 := hQ.c (j := 0) rfl
  have q1 := hQ.c (j := 1) rfl
  have k0 := hQ.frozen 0
  have k1 := hQ.frozen 1
  clear HP
  have HQ2 := set_two (a' := .int .i64 1) (b' := .int .i64 0) hQ
  have h0 := HQ2.c (j := 0) rfl
  have h1 := HQ2.c (j := 1) rfl
  go_wp2
  refine bodyPost_ret (v := retV 1 0) (by simp [results, Try.f28, go_sem, retV, h0, h1]) rfl ?_
  have hO2 : Only w.heap.size w2 ((w2.setCell ⟨w.heap.size, 0, none⟩ (.int .i64 1)).setCell ⟨w.heap.size, 1, none⟩ (.int .i64 0)) := ((Only.of (Below.refl w2.heap.size w2) (Nat.le_refl _)).set 0 _).set 1 _
  refine ⟨rfl, ⟨g, _, p, HR1.out.kept hO2.grown (by intro e; have := Option.some.inj e; omega) (by intro e; have := Option.some.inj e; omega), hlen⟩, HB1.out.trans (hO2.below (by omega) (by have := HB1.out.size; omega))⟩

theorem do_len (base B g : Nat) (cs : List Int) (p : Nat) (l : List Int) (w : World) (h : Ring base w B g cs p l) (hlen : cs.length ≤ 5000) :
    Calls Try.prog 28 #[.pointer (some ⟨B, 0, none⟩), .int .i64 12, .int .i64 0] w (DoPost base B l 12 0 w) := by
  have hB0 := alloc1 w (.cells #[.int .i64 0, .int .i64 0] 28)
  have hlt := h.box.lt
  have hown := h.own
  have hgl := h.glt
  have HR1 := Lib.hid (h.below hB0 (Nat.le_refl _))
  have HP := rsize_any base B g cs p l _ HR1.out
  have hQ := Holds.new w 28 #[.int .i64 0, .int .i64 0]
  have HB1 : Hid (Below base w _) := Lib.hid (hB0.mono (show base ≤ w.heap.size by omega))
  have hsz := hB0.size
  clear h
  go_enter Try.func28, Try.ntmps28
  go_wp2_with fail
  refine HP.mono ?_
  generalize w.alloc (.cells #[.int .i64 0, .int .i64 0] 28) = w1 at *
  rintro e w2 ⟨rfl, rfl⟩
  have q0 := hQ.c (j := 0) rfl
  have q1 := hQ.c (j := 1) rfl
  have k0 := hQ.frozen 0
  have k1 := hQ.frozen 1
  clear HP
  have HQ2 := set_two (a' := .int .i64 2) (b' := .int .i64 l.length) hQ
  have h0 := HQ2.c (j := 0) rfl
  have h1 := HQ2.c (j := 1) rfl
  go_wp2
  refine bodyPost_ret (v := retV 2 l.length) (by simp [results, Try.f28, go_sem, retV, h0, h1]) rfl ?_
  have hO2 : Only w.heap.size w2 ((w2.setCell ⟨w.heap.size, 0, none⟩ (.int .i64 2)).setCell ⟨w.heap.size, 1, none⟩ (.int .i64 l.length)) := ((Only.of (Below.refl w2.heap.size w2) (Nat.le_refl _)).set 0 _).set 1 _
  refine ⟨rfl, ⟨g, _, p, HR1.out.kept hO2.grown (by intro e; have := Option.some.inj e; omega) (by intro e; have := Option.some.inj e; omega), hlen⟩, HB1.out.trans (hO2.below (by omega) (by have := HB1.out.size; omega))⟩
end Go.Proofs.Ythnaogdiiflljaa
