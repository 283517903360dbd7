/- Contracts of the layer set: the iterator halves. -/
import Derived.Test.YtmhnnilfehankaaSePlain
import Derived.Test.YtmhnnilfehankaaSeRg
namespace Go.Proofs.Ytmhnnilfehankaa
open Go.RowKit Go.Shelf Go.Maps
set_option linter.unusedVariables false

attribute [local go_sem] Oper.semAt_some

/-- Numbers that lie below B. -/
def IntsB (B : Nat) (w : World) (A : Option Addr) (l : List Int) : Prop :=
  0 < l.length → ∃ b off, A = some ⟨b, off, none⟩ ∧ b < B ∧ ∀ j, j < l.length → w.cell? ⟨b, off + j, none⟩ = some (.int .i64 (l[j]?.getD 0))
theorem IntsB.below {B : Nat} {w w' : World} {A : Option Addr} {l : List Int} (h : IntsB B w A l) (hb : Below B w w') : IntsB B w' A l := fun hl => by
  obtain ⟨b, off, e, hlt, hc⟩ := h hl
  exact ⟨b, off, e, hlt, fun j hj => (hb.cell (p := ⟨b, off + j, none⟩) hlt).trans (hc j hj)⟩

/-- All cells but block B's lie as they lay. -/
structure KeptX (B : Nat) (W W' : World) : Prop where
  os : W'.os = W.os
  tape : W'.tape = W.tape
  output : W'.output = W.output
  size : W.heap.size ≤ W'.heap.size
  same : ∀ (k : Nat) (o : Obj), k ≠ B → W.heap[k]? = some o → o.isCells = true → W'.heap[k]? = some o
theorem KeptX.refl (B : Nat) (W : World) : KeptX B W W := ⟨rfl, rfl, rfl, Nat.le_refl _, fun _ _ _ h _ => h⟩
theorem KeptX.trans {B : Nat} {X Y Z : World} (h : KeptX B X Y) (k : KeptX B Y Z) : KeptX B X Z :=
  ⟨k.os.trans h.os, k.tape.trans h.tape, k.output.trans h.output, Nat.le_trans h.size k.size, fun i o hi ho hc => k.same i o hi (h.same i o hi ho hc) hc⟩
theorem KeptX.alloc (B : Nat) (W : World) (o : Obj) : KeptX B W (W.alloc o) :=
  ⟨rfl, rfl, rfl, by simp, fun k o' _ h _ => (Below.heap_alloc W o k (Array.getElem?_eq_some_iff.1 h).1).trans h⟩
theorem KeptX.put (B : Nat) (W : World) (l : Nat) (o o' : Obj) (h : W.heap[l]? = some o) (hc : o.isCells = false) : KeptX B W (W.putObj l o') :=
  ⟨rfl, rfl, rfl, by simp, fun k x _ hk hx => (World.putObj_heap_other (fun e => by subst e; rw [hk] at h; cases h; rw [hx] at hc; cases hc)).trans hk⟩
theorem KeptX.set (B : Nat) (W : World) (off : Nat) (u : Value) : KeptX B W (W.setCell ⟨B, off, none⟩ u) :=
  ⟨rfl, rfl, rfl, by simp [World.setCell], fun k o hk h _ => (Below.heap_setCell _ _ _ _ hk).trans h⟩
theorem KeptX.drew {B : Nat} {W W' : World} (h : KeptX B W W') : KeptX B W W'.drew := ⟨h.os, h.tape, h.output, h.size, h.same⟩
theorem KeptX.own {B H : Nat} {W W' : World} (h : KeptX B W W') (hH : W.heap.size ≤ H) (off : Nat) (u : Value) : KeptX B W (W'.setCell ⟨H, off, none⟩ u) :=
  ⟨h.os, h.tape, h.output, by have := h.size; simpa [World.setCell] using this, fun k o hk ho hc => (Below.heap_setCell _ _ _ _ (by have := (Array.getElem?_eq_some_iff.1 ho).1; show k ≠ H; omega)).trans (h.same k o hk ho hc)⟩
theorem cell_cells {W : World} {p : Addr} {v : Value} (h : W.cell? p = some v) : ∃ o : Obj, W.heap[p.block]? = some o ∧ o.isCells = true := by
  unfold World.cell? at h
  split at h
  · next cs t fr hb => exact ⟨_, hb, rfl⟩
  · cases h
theorem KeptX.cell {B : Nat} {W W' : World} (h : KeptX B W W') {p : Addr} {v : Value} (hp : p.block ≠ B) (hc : W.cell? p = some v) : W'.cell? p = some v := by
  obtain ⟨o, ho, hi⟩ := cell_cells hc
  exact (World.cell?_of_block ((h.same _ o hp ho hi).trans ho.symm)).trans hc
theorem KeptX.holds {B : Nat} {W W' : World} (h : KeptX B W W') {k : Nat} {t : TypeId} {cs : Array Value} (hk : k ≠ B) (hh : Holds W k t cs) : Holds W' k t cs := h.same k _ hk hh rfl
theorem KeptX.ints {B n₀ : Nat} {W W' : World} (h : KeptX B W W') {A : Option Addr} {l : List Int} (hn : n₀ ≤ B) (hA : IntsB n₀ W A l) : IntsB n₀ W' A l := fun hl => by
  obtain ⟨b, off, e, hlt, hc⟩ := hA hl
  exact ⟨b, off, e, hlt, fun j hj => h.cell (p := ⟨b, off + j, none⟩) (by show b ≠ B; omega) (hc j hj)⟩

theorem halves_in (F : Fence) (m : Nat) (h1 : F.fn 43) (hro : F.round = none) (A : Option Addr) (k c : Nat) (x : Int) (w : World) :
    CallsIn F m Try.prog 43 #[.slice A k c, .int .i64 x] w fun e w' => e = .returned (.func (.func 50) #[] #[.pointer (some ⟨w.heap.size, 0, none⟩), .pointer (some ⟨w.heap.size + 1, 0, none⟩)]) ∧ w' = (w.alloc (.cells #[.slice A k c] 53)).alloc (.cells #[.int .i64 x] 3) := by
  refine callsIn_of_wp Try.func43 rfl h1 ?_ hro
  simp only [Try.ntmps43, List.size_toArray, List.length_cons, List.length_nil, Nat.reduceAdd, Nat.reduceSub, Array.replicate_succ, Array.replicate_zero, List.push_toArray, List.append_toArray, List.nil_append, List.cons_append]
  gi_wp2
  go_ret
  exact ⟨rfl, rfl⟩

/-- A half: its first place and its last. -/
abbrev Span := Nat × Nat
/-- The place that the last half begins at. -/
def lastAt (pre : List Span) : Nat := (pre.getLastD (0, 0)).1
theorem lastAt_snoc (pre : List Span) (s : Span) : lastAt (pre ++ [s]) = s.1 := by simp [lastAt]

theorem mid_eq (f k : Nat) (h : f < k) : (f : Int) + ((k : Int) - (f : Int)).tdiv 2 = ((f + (k - f) / 2 : Nat) : Int) := by
  rw [show ((k : Int) - (f : Int)) = ((k - f : Nat) : Int) by omega]
  show (f : Int) + (((k - f) / 2 : Nat) : Int) = _
  omega

/-- How many places a half has behind its first one. -/
def spread (B : Nat) (w : World) : Nat :=
  match w.cell? ⟨B, 0, none⟩, w.cell? ⟨B, 1, none⟩ with
  | some (.int _ f), some (.int _ k) => (k - f).toNat
  | _, _ => 0
theorem spread_eq {B : Nat} {w : World} {t : TypeId} {f k : Nat} (h : Holds w B t #[.int .i64 f, .int .i64 k]) : spread B w = k - f := by
  unfold spread
  rw [h.c (j := 0) rfl, h.c (j := 1) rfl]
  show ((k : Int) - (f : Int)).toNat = k - f
  omega

set_option maxRecDepth 100000 in
set_option maxHeartbeats 1000000 in
theorem halves1_in (m : Nat) (hm : 1 ≤ m) (lp Bl Bx n₀ Bp : Nat) (x : Int) (A : Option Addr) (c : Nat) (l : List Int) (hlen : l.length ≤ 1000) (hr : Rise l) (J : List Span → World → Prop)
    (W : World) (hJ : Afar W.heap.size J) (hp1 : Bp < W.heap.size) (hp2 : n₀ ≤ Bp) (hp3 : Bl ≠ Bp) (hp4 : Bx ≠ Bp)
    (hY : ∀ pre (s : Span) W, J pre W → pre.length < l.length → YieldAt Fence.wide (m - 1) Try.prog lp #[.agg #[.int .i64 s.1, .int .i64 s.2]] W fun e W' => e = .returned (.bool true) ∧ J (pre ++ [s]) W' ∧ KeptX Bp W W')
    (hBl : W.cell? ⟨Bl, 0, none⟩ = some (.slice A l.length c)) (hBx : W.cell? ⟨Bx, 0, none⟩ = some (.int .i64 x)) (hA : IntsB n₀ W A l) (h0 : J [] W) :
    CallsIn Fence.wide m Try.prog 50 #[.func (.yield lp) #[] #[], .pointer (some ⟨Bl, 0, none⟩), .pointer (some ⟨Bx, 0, none⟩)] W fun e W' => (∃ v, e = .returned v) ∧ ∃ ys : List Span, lastAt ys = low l x ∧ J ys W' := by
  refine callsIn_of_wp Try.func50 rfl trivial ?_ rfl
  simp only [Try.ntmps50, List.size_toArray, List.length_cons, List.length_nil, Nat.reduceAdd, Nat.reduceSub, Array.replicate_succ, Array.replicate_zero, List.push_toArray, List.append_toArray, List.nil_append, List.cons_append]
  have hBl' := Lib.hid hBl
  have hBx' := Lib.hid hBx
  gi_wp2
  have HH := Holds.new W 68 #[.int .i64 0, .int .i64 l.length]
  have hK0 := KeptX.alloc Bp W (.cells #[.int .i64 0, .int .i64 l.length] 68)
  have hJ0 := hJ.new (.cells #[.int .i64 0, .int .i64 l.length] 68) h0
  gi_loopw [5] (fun s5 wr => ∃ (f k : Nat) (pre : List Span), f ≤ low l x ∧ low l x ≤ k ∧ k ≤ l.length ∧ Holds wr W.heap.size 68 #[.int .i64 f, .int .i64 k] ∧ lastAt pre = f ∧ pre.length + (k - f) ≤ l.length ∧ J pre wr ∧ KeptX Bp W wr) (fun s5 wr => spread W.heap.size wr)
  case atStart => exact ⟨0, l.length, [], Nat.zero_le _, low_le _ _, Nat.le_refl _, HH, rfl, by simp, hJ0, hK0⟩
  case round =>
    obtain ⟨f, k, pre, hf, hk, hkl, hh, hla, hpl, hJr, hKr⟩ := hrel
    have HH := Lib.hid hh
    have HJ := Lib.hid hJr
    have HK := Lib.hid hKr
    have HLA := Lib.hid hla
    have HPL := Lib.hid hpl
    have HF := Lib.hid hf
    have HKK := Lib.hid hk
    have c0 := hh.c (j := 0) rfl
    have c1 := hh.c (j := 1) rfl
    have f0 := hh.frozen 0
    have f1 := hh.frozen 1
    have cl := hKr.cell (p := ⟨Bl, 0, none⟩) hp3 hBl'.out
    have cx := hKr.cell (p := ⟨Bx, 0, none⟩) hp4 hBx'.out
    clear hh hJr hKr hla hpl hf hk
    by_cases hlt : f < k
    · have hA1 := HK.out.ints hp2 hA
      obtain ⟨b, off, rfl, hb, hc⟩ := hA1 (by omega)
      obtain ⟨mi, hmi⟩ : ∃ mi, mi = f + (k - f) / 2 := ⟨_, rfl⟩
      have hm1 : mi < k := by omega
      have hm2 : f ≤ mi := by omega
      have hml : mi < l.length := by omega
      have hq := mid_eq f k hlt
      rw [← hmi] at hq
      have ck := hc mi hml
      have hat := low_at (x := x) hr mi hml
      obtain ⟨y, hy⟩ : ∃ y, l[mi]?.getD 0 = y := ⟨_, rfl⟩
      rw [hy] at ck hat
      have g0 : (0 : Int) ≤ (mi : Int) := by omega
      have g1 : (mi : Int) < (l.length : Int) := by omega
      have g2 : decide ((f : Int) < (k : Int)) = true := decide_eq_true (by omega)
      have HAT := Lib.hid hat
      clear hc hy hmi hat
      by_cases hyx : y < x
      · have hh1 : Holds (wr.setCell ⟨W.heap.size, 0, none⟩ (.int .i64 ((mi : Int) + 1))).drew W.heap.size 68 #[.int .i64 ((mi : Int) + 1), .int .i64 k] := (HH.out.set 0 (.int .i64 ((mi : Int) + 1))).of rfl
        have hJ1 := hJ.drew (hJ.set (b := W.heap.size) 0 (.int .i64 ((mi : Int) + 1)) HJ.out (Nat.le_refl _))
        obtain ⟨fn, tmps, assign, body, hy, hR⟩ := hY pre (mi + 1, k) _ hJ1 (by have := HPL.out; omega)
        have e1 : ((mi + 1 : Nat) : Int) = (mi : Int) + 1 := by omega
        dsimp only at hy
        rw [e1] at hy
        have HH1 := Lib.hid hh1
        have HJ1 := Lib.hid hJ1
        clear hh1 hJ1 e1
        gi_wp2_with fail
        gi_region
        gi_wp2_with fail
        refine hR.mono ?_
        rintro e W3 ⟨rfl, hJ3, hk3⟩
        have hh3 := hk3.holds (by omega) HH1.out
        have hhr := HH.out
        gi_wp2
        go_roundw
        case rel => exact ⟨mi + 1, k, pre ++ [(mi + 1, k)], by have := HAT.out.1 hyx; omega, HKK.out, hkl, hh3, lastAt_snoc _ _, by rw [List.length_append]; have := HPL.out; simp; omega, hJ3, (KeptX.own HK.out (Nat.le_refl _) 0 _).drew.trans hk3⟩
        case measure =>
          have h3 : Holds W3 W.heap.size 68 #[.int .i64 ((mi + 1 : Nat) : Int), .int .i64 k] := hh3
          rw [spread_eq h3, spread_eq HH.out]; omega
      · have hh1 : Holds (wr.setCell ⟨W.heap.size, 1, none⟩ (.int .i64 (mi : Int))).drew W.heap.size 68 #[.int .i64 f, .int .i64 mi] := (HH.out.set 1 (.int .i64 (mi : Int))).of rfl
        have hJ1 := hJ.drew (hJ.set (b := W.heap.size) 1 (.int .i64 (mi : Int)) HJ.out (Nat.le_refl _))
        obtain ⟨fn, tmps, assign, body, hy, hR⟩ := hY pre (f, mi) _ hJ1 (by have := HPL.out; omega)
        dsimp only at hy
        have HH1 := Lib.hid hh1
        have HJ1 := Lib.hid hJ1
        clear hh1 hJ1
        gi_wp2_with fail
        gi_region
        gi_wp2_with fail
        refine hR.mono ?_
        rintro e W3 ⟨rfl, hJ3, hk3⟩
        have hh3 := hk3.holds (by omega) HH1.out
        gi_wp2
        go_roundw
        case rel => exact ⟨f, mi, pre ++ [(f, mi)], HF.out, by have := HAT.out; omega, by omega, hh3, lastAt_snoc _ _, by rw [List.length_append]; have := HPL.out; simp; omega, hJ3, (KeptX.own HK.out (Nat.le_refl _) 1 _).drew.trans hk3⟩
        case measure => rw [spread_eq hh3, spread_eq HH.out]; omega
    · have g2 : decide ((f : Int) < (k : Int)) = false := decide_eq_false (by omega)
      gi_wp2
      go_end0
      exact ⟨⟨_, rfl⟩, pre, by rw [HLA.out]; have := HF.out; have := HKK.out; omega, HJ.out⟩

theorem halves_whole (m : Nat) (hm : 1 ≤ m) (Bl Bx n₀ Bp : Nat) (x : Int) (A : Option Addr) (c : Nat) (l : List Int) (hlen : l.length ≤ 1000) (hr : Rise l) (w : World) (hp1 : Bp < w.heap.size) (hp2 : n₀ ≤ Bp) (hp3 : Bl ≠ Bp) (hp4 : Bx ≠ Bp) (h1 : Bl < w.heap.size) (h2 : Bx < w.heap.size)
    (hBl : w.cell? ⟨Bl, 0, none⟩ = some (.slice A l.length c)) (hBx : w.cell? ⟨Bx, 0, none⟩ = some (.int .i64 x)) (hA : IntsB n₀ w A l) :
    Whole Fence.wide m Try.prog 50 #[.pointer (some ⟨Bl, 0, none⟩), .pointer (some ⟨Bx, 0, none⟩)] (fun s : Span => #[.agg #[.int .i64 s.1, .int .i64 s.2]]) (KeptX Bp) (fun ys => lastAt ys = low l x) l.length w := fun lp J W hW hJ hY h0 =>
  halves1_in m hm lp Bl Bx n₀ Bp x A c l hlen hr J W hJ (by have := hW.size; omega) hp2 hp3 hp4 hY ((hW.cell (p := ⟨Bl, 0, none⟩) h1).trans hBl) ((hW.cell (p := ⟨Bx, 0, none⟩) h2).trans hBx) (hA.below (hW.mono (by omega))) h0
end Go.Proofs.Ytmhnnilfehankaa
