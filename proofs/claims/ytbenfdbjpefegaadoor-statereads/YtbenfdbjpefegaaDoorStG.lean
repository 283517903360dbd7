/- Contracts of the layer state: Decode. -/
import Derived.Test.YtbenfdbjpefegaaDoorStF
import Derived.Test.YtbenfdbjpefegaaDoorStE
import Derived.Test.YtbenfdbjpefegaaDoorStRg
import Derived.Deep.Cut
import Derived.Deep.CutRange
namespace Go.Proofs.YtbenfdbjpefegaaDoor
open Go.RowKit Go.Maps
set_option linter.unusedVariables false

def zeroSt : Array Value := #[.int .i64 0, .int .i64 0, .slice none 0 0]
def DecNo (w : World) (e : Ending) (w' : World) : Prop := e = .returned (.tuple #[stV 0 0 none 0 0, .int .i64 5]) ∧ Below w.heap.size w w'
/-- The numbers l in a row of the call's own, nil if there are none. -/
def OwnInts (base : Nat) (w : World) (v : Value) (l : List Int) : Prop := w.ownsRow base 3 1 v l.length (intsOf l)
def DecYes (t n : Int) (l : List Int) (w : World) (e : Ending) (w' : World) : Prop :=
  ∃ A c, e = .returned (.tuple #[stV t n A l.length c, .int .i64 0]) ∧ OwnInts w.heap.size w' (.slice A l.length c) l ∧ Below w.heap.size w w'

def DecPost (b : List Int) (w : World) (e : Ending) (w' : World) : Prop := (decOk b = true ∧ DecYes (decT b) (decN b) (decL b) w e w') ∨ (decOk b = false ∧ DecNo w e w')
theorem own_form {W : World} {base : Nat} {e : TypeId} {v : Value} {n : Nat} {xs : List Value} (h : W.ownsRow base e 1 v n xs) : ∃ A c, v = .slice A n c := by
  rcases h.2 with ⟨e1, e2⟩ | ⟨g, cap, cur, e1, _⟩
  · subst e2; exact ⟨none, 0, e1⟩
  · exact ⟨_, _, e1⟩
theorem own_ints {W : World} {base : Nat} {A : Option Addr} {c n : Nat} {l : List Int} (hn : l.length = n) (h : W.ownsRow base 3 1 (.slice A n c) n (intsOf l)) : Ints W A l := by
  rcases h.2 with ⟨e1, e2⟩ | ⟨g, cap, cur, e1, _⟩
  · intro hl; omega
  · cases e1; exact ints_own hn h
theorem drew_size (w : World) : w.drew.heap.size = w.heap.size := rfl
theorem Only.more {B : Nat} {a b c : World} {o : Obj} {row : Option Nat} (h : Only B a b) (hg : (b.drew.alloc o).grownBy c row) (hr : ∀ g, row = some g → a.heap.size ≤ g) : Only B a c :=
  ⟨hg.os.trans h.os, hg.tape.trans h.tape, hg.output.trans h.output, by have h1 := h.size; have h2 := hg.size; simp at h2; omega, fun k hk hF => by
    have h1 := h.size
    refine (hg.block k (by simp; omega) (fun e => by have := hr k e.symm; omega)).trans ?_
    refine (Below.heap_alloc b.drew o k (by simp; omega)).trans ?_
    exact h.block k hk hF⟩
theorem intsOf_snoc (xs : List Int) (x : Int) : intsOf xs ++ [.int .i64 x] = intsOf (xs ++ [x]) := by simp [intsOf]

theorem dec_short (A : Option Addr) (c : Nat) (b : List Int) (w : World) (hA : Bytes w A b) (ho : Octets b) (hl : b.length ≤ 1000) (hc : b.length ≤ c) (hc2 : c ≤ 9223372036854775807) (hm : measB b = false) :
    Calls Tryd.prog 27 #[.slice A b.length c] w (DecNo w) := by
  have H := measured_any A c b (w.alloc (.cells zeroSt 24)) (hA.below (B := 0) (alloc1 w _)) ho hl hc hc2
  rw [hm] at H
  unfold zeroSt at H
  clear hA ho
  go_enter Tryd.func27, Tryd.ntmps27
  go_wp2_with fail
  refine H.mono ?_
  rintro e w1 ⟨rfl, rfl⟩
  go_wp2
  refine bodyPost_ret (v := .tuple #[stV 0 0 none 0 0, .int .i64 5]) (by simp [results, Tryd.f27, go_sem, stV]) rfl ?_
  exact ⟨rfl, alloc1 w _⟩

set_option maxRecDepth 100000 in
set_option maxHeartbeats 1000000 in
theorem dec_meas (A : Option Addr) (c : Nat) (b : List Int) (w : World) (hA : Bytes w A b) (ho : Octets b) (hl : b.length ≤ 1000) (hc : b.length ≤ c) (hc2 : c ≤ 9223372036854775807) (hm : measB b = true) :
    Calls Tryd.prog 27 #[.slice A b.length c] w (DecPost b w) := by
  have H := measured_any A c b (w.alloc (.cells zeroSt 24)) (hA.below (B := 0) (alloc1 w _)) ho hl hc hc2
  rw [hm] at H
  have h13 : 13 ≤ b.length := by unfold measB at hm; simp at hm; exact hm.1
  obtain ⟨bl, off, rfl, hb, _⟩ := hA (by omega)
  unfold zeroSt at H
  have HA := Lib.hid hA
  have HO := Lib.hid ho
  have hk1 : (1 : Int) ≤ (c : Int) := by omega
  have hk9 : (9 : Int) ≤ (c : Int) := by omega
  have hk19 : (1 : Int) ≤ 9 := by omega
  have hne1 : ¬ c = 1 := by omega
  obtain ⟨i0, hi, hz0, hz1, hz2⟩ := info_parts info_int
  have HM := Lib.hid hm
  clear hA ho hm
  go_enter Tryd.func27, Tryd.ntmps27
  go_wp2_with fail
  refine H.mono ?_
  rintro e w1 ⟨rfl, rfl⟩
  clear H
  have hB0 : Below w.heap.size w (w.alloc (.cells #[.int .i64 0, .int .i64 0, .slice none 0 0] 24)) := alloc1 w _
  have HZ := Lib.hid (Holds.new w 24 #[.int .i64 0, .int .i64 0, .slice none 0 0])
  have hs0 : (w.alloc (.cells #[.int .i64 0, .int .i64 0, .slice none 0 0] 24)).heap.size = w.heap.size + 1 := by simp
  go_upto_region 3 with fail
  generalize w.alloc (.cells #[.int .i64 0, .int .i64 0, .slice none 0 0] 24) = W0 at *
  have HA0 : ∀ W, Below W0.heap.size W0 W → Bytes W (some ⟨bl, off, none⟩) b := fun W hW => HA.out.below (B := 0) (nxt hB0 hW (by omega))
  obtain ⟨t0, ht0⟩ : ∃ x, numAt b 0 1 = x := ⟨_, rfl⟩
  obtain ⟨n0, hn0⟩ : ∃ x, numAt b 1 8 = x := ⟨_, rfl⟩
  have HN : ∀ W, Below W0.heap.size W0 W → Calls Tryd.prog 50 #[.slice (some ⟨bl, off, none⟩) 1 c] W fun e w' => e = .returned (.int .i64 t0) ∧ w' = W := fun W hW => ht0 ▸ numberAt_any bl off c 1 0 b W (HA0 W hW) HO.out (by omega) (by omega)
  have HN8 : ∀ W, Below W0.heap.size W0 W → Calls Tryd.prog 50 #[.slice (some ⟨bl, off + 1, none⟩) 8 (c - 1)] W fun e w' => e = .returned (.int .i64 n0) ∧ w' = W := fun W hW => hn0 ▸ numberAt_any bl off (c - 1) 8 1 b W (HA0 W hW) HO.out (by omega) (by omega)
  have HT0 := Lib.hid ht0
  have HN0 := Lib.hid hn0
  clear ht0 hn0
  go_cut [4] from 10 to 16 (fun s4 wx => s4 = .pointer (some ⟨w.heap.size + 1, 0, none⟩) ∧ wx = (W0.alloc (.cells #[.int .i64 t0, .int .i64 n0, .slice none 0 0] 24)).drew)
  case first =>
    go_region_held3 (fun w' => Below W0.heap.size W0 w') (first | exact (Below.refl _ W0).drew | exact (Below.refl _ W0).drew.alloc (by simp) _ | exact ((Below.refl _ W0).alloc (Nat.le_refl _) _).drew | go_keep) (first | (go_at_call 50; with_reducible refine Calls.mono (HN _ (by first | exact (Below.refl _ W0).drew | exact ((Below.refl _ W0).alloc (Nat.le_refl _) _).drew)) ?_; rintro e w6 ⟨rfl, rfl⟩) | (go_at_call 50; with_reducible refine Calls.mono (HN8 _ (by first | exact (Below.refl _ W0).drew | exact ((Below.refl _ W0).alloc (Nat.le_refl _) _).drew)) ?_; rintro e w6 ⟨rfl, rfl⟩))
    all_goals (go_wp2_with fail; go_meet; exact ⟨rfl, rfl⟩)
  case rest =>
    obtain ⟨rfl, rfl⟩ := hcut
    have hK : ∃ K : Nat, b.length = 13 + 8 * K := by
      have h1 := HM.out
      unfold measB at h1
      simp only [Bool.and_eq_true, decide_eq_true_eq] at h1
      have h2 := numAt_four HO.out 9
      exact ⟨(numAt b 9 4).toNat, by omega⟩
    obtain ⟨K, hK⟩ := hK
    have HW1 := Lib.hid (show Holds (W0.alloc (.cells #[.int .i64 t0, .int .i64 n0, .slice none 0 0] 24)).drew (w.heap.size + 1) 24 #[.int .i64 t0, .int .i64 n0, .slice none 0 0] from by rw [← hs0]; exact Holds.new W0 24 #[.int .i64 t0, .int .i64 n0, .slice none 0 0])
    have hB1 : Below w.heap.size w (W0.alloc (.cells #[.int .i64 t0, .int .i64 n0, .slice none 0 0] 24)).drew := (nxt hB0 (alloc1 W0 _) (by omega)).drew
    have HZ1 := Lib.hid (HZ.out.below ((alloc1 W0 (.cells #[.int .i64 t0, .int .i64 n0, .slice none 0 0] 24)).drew) (by omega))
    have hs1 : (W0.alloc (.cells #[.int .i64 t0, .int .i64 n0, .slice none 0 0] 24)).drew.heap.size = w.heap.size + 2 := by simp; omega
    have HB1 := Lib.hid hB1
    clear HN HN8 HA0 HZ hB0 hB1
    generalize (W0.alloc (.cells #[.int .i64 t0, .int .i64 n0, .slice none 0 0] 24)).drew = W1 at *
    have HN : ∀ (W : World) (p : Nat), Below w.heap.size w W → p + 8 ≤ b.length → Calls Tryd.prog 50 #[.slice (some ⟨bl, off + p, none⟩) 8 (c - p)] W fun e w' => e = .returned (.int .i64 (numAt b p 8)) ∧ w' = W := fun W p hW hp => numberAt_any bl off (c - p) 8 p b W (HA.out.below (B := 0) hW) HO.out (by omega) hp
    have HNN := Lib.hid HN
    clear HN hs0
    go_wp2_with fail
    go_loopw [5] (fun i wr => ∃ (k p : Nat) (v : Value), k ≤ K ∧ p = 13 + 8 * k ∧ i = .int .i64 p ∧ Holds wr (w.heap.size + 1) 24 #[.int .i64 t0, .int .i64 n0, v] ∧ wr.ownsRow W1.heap.size 3 1 v k (intsOf (decTo b k)) ∧ Only (w.heap.size + 1) W1 wr) (fun i wr => b.length - (intOf i).toNat)
    case atStart => exact ⟨0, 13, .slice none 0 0, Nat.zero_le _, rfl, rfl, HW1.out, World.ownsRow_nil _ _ _ _, Only.of (Below.refl _ _) (Nat.le_refl _)⟩
    case round =>
      obtain ⟨k, p, v, hk, hp, rfl, hH, hown, hO⟩ := hrel
      have HH := Lib.hid hH
      have HOWN := Lib.hid hown
      have HON := Lib.hid hO
      have HP := Lib.hid hp
      have hc2' := hH.c (j := 2) rfl
      by_cases hlt : p < b.length
      · have hp8 : p + 8 ≤ b.length := by omega
        have hd1 : (0 : Int) ≤ (p : Int) := by omega
        obtain ⟨p8, hp8'⟩ : ∃ p8, p8 = p + 8 := ⟨_, rfl⟩
        have hwr : IntKind.i64.wrap ((p : Int) + 8) = (p8 : Int) := by rw [hp8', IntKind.wrap_i64]; omega
        have hd2 : (0 : Int) ≤ (p8 : Int) := by omega
        have hd3 : (p8 : Int) ≤ (c : Int) := by omega
        have hd4 : p ≤ p8 := by omega
        have hd5 : p8 - p = 8 := by omega
        have hk99 : k ≤ 1000 := by omega
        have HP8 := Lib.hid (show p8 = 13 + 8 * (k + 1) by omega)
        have hkK : k + 1 ≤ K := by omega
        have HDL := Lib.hid (decTo_succ b k)
        have hp13 : p = 13 + 8 * k := hp
        have HPP := Lib.hid hp13
        clear hp13
        have hne : ¬ c = p := by omega
        have hBw : Below w.heap.size w wr := nxt HB1.out (hO.below (lo := w.heap.size) (by omega) (by omega)) (Nat.le_refl _)
        have HNp := HNN.out wr.drew p hBw.drew hp8
        obtain ⟨x, hx⟩ : ∃ x, numAt b p 8 = x := ⟨_, rfl⟩
        rw [hx] at HNp
        have HX := Lib.hid hx
        have hsw := hO.size
        clear hx hp hK hH hown hO hp8 hp8'
        go_wp2_with fail
        refine wp_region_noPanic ?_
        refine wp_region_heads [true, true, true, true, true, true, true, false, false] (fun w' => w'.cell? ⟨w.heap.size + 1, 2, none⟩ = some v) (by kernel_rfl) (by kernel_rfl) (fun _ _ _ _ _ h => h) hc2' ?_
        iterate 7
          refine Heads.take ?_ (by rfl) ?_ ?_
          rotate_left
          · intro w' hw'
            try dsimp only at hw'
            go_simp
            try with_reducible rfl
          simp only [Act.put, List.setIfInBounds_toArray, List.set_cons_zero, List.set_cons_succ]
        refine Heads.call 50 #[.slice (some ⟨bl, off + p, none⟩) 8 (c - p)] (by rfl) (by go_simp) ?_
        refine HNp.mono ?_
        rintro e w3 ⟨rfl, rfl⟩
        refine ⟨_, rfl, hc2', ?_⟩
        simp only [Act.put, List.setIfInBounds_toArray, List.set_cons_zero, List.set_cons_succ]
        refine Heads.make (.slice (some ⟨wr.heap.size, 0, none⟩) 1 1) (w1 := wr.drew.alloc (.cells #[.int .i64 x] 3)) (by rfl) (by go_simp) ?_ ?_
        · show ((wr.drew).alloc _).cell? _ = _
          rw [World.cell?_alloc_lt _ _ _ (show (w.heap.size + 1 : Nat) < wr.drew.heap.size from by simp; omega)]
          exact hc2'
        refine Heads.done ?_
        simp only [Act.put, List.setIfInBounds_toArray, List.set_cons_zero, List.set_cons_succ]
        have hnot := HH.out.not_row HOWN.out (by decide)
        have HNOT := Lib.hid hnot
        clear hnot hc2'
        go_wp2_with (at_builtin; refine wpList_append_own_at _ rfl _ _ 22 rfl W1.heap.size 3 i0 (.int .i64 0) 1 8 Tryd.underlying22 hi hz0 hz1 hz2 rfl (by decide) _ _ _ rfl (HOWN.out.drew.alloc _) ⟨wr.heap.size, 0, none⟩ 1 1 [.int .i64 x] rfl rfl (cell_one wr.drew _ _) (by intro u hu; simp at hu; subst hu; rfl) (by unfold maxLen; omega) (by omega) (by simp; omega) ?_; intro v5 w5 hown5 hg5 hnil5 hat5; obtain ⟨A5, c5, rfl⟩ := own_form hown5; have HH5 := (HH.out.of (W' := wr.drew) rfl |>.alloc (.cells #[.int .i64 x] 3)).kept hg5 HNOT.out; have c25 := HH5.c (j := 2) rfl; have f25 := HH5.frozen 2; have HHH5 := Lib.hid HH5; have HOWN5 := Lib.hid hown5; have HG5 := Lib.hid hg5; clear hown5 hg5 hnil5 hat5 HH5)
        refine NoPanic.normal ?_
        go_wp2
        go_roundw
        case rel =>
          have hrow : ∀ g, v.ownBlock = some g → W1.heap.size ≤ g := fun g e => (HOWN.out.lt g e).1
          have hO5 : Only (w.heap.size + 1) W1 w5 := HON.out.more HG5.out hrow
          have hset : Only (w.heap.size + 1) w5 (w5.setCell ⟨w.heap.size + 1, 2, none⟩ (.slice A5 (k + 1) c5)) := (Only.of (Below.refl _ _) (Nat.le_refl _)).set 2 _
          refine ⟨k + 1, p8, .slice A5 (k + 1) c5, hkK, HP8.out, by go_num, HHH5.out.set 2 _, ?_, hO5.then hset⟩
          have h1 := HOWN5.out
          rw [intsOf_snoc, ← HX.out, HPP.out, ← HDL.out] at h1
          refine h1.kept hset.grown (.inr ?_)
          exact (HHH5.out.not_row h1 (by decide)).symm
        case measure => have := HPP.out; have := HP8.out; simp [intOf]; omega
      · have hkK : k = K := by omega
        have hdl : decTo b k = decL b := by unfold decL; rw [show (b.length - 13) / 8 = k by omega]
        have hlen : (decL b).length = k := by rw [← hdl, decTo_len]
        rw [hdl] at hown
        obtain ⟨Av, cv, rfl⟩ := own_form hown
        have hints := own_ints hlen hown
        have HCK := check_any t0 n0 Av cv (decL b) wr hints (by omega)
        rw [hlen] at HCK
        have hOb := hO.below (lo := W1.heap.size - 2) (by omega) (by omega)
        have hBw : Below w.heap.size w wr := nxt HB1.out hOb (by omega)
        have HZr := HZ1.out.of (hO.block w.heap.size (by omega) (by omega))
        have hr0 := hH.c (j := 0) rfl
        have hr1 := hH.c (j := 1) rfl
        have HDEC : decOk b = (checkE t0 n0 (decL b) == 0) := by unfold decOk; rw [HM.out]; unfold decT decN; rw [HT0.out, HN0.out]; rfl
        have HDEC' := Lib.hid HDEC
        have HLEN := Lib.hid hlen
        have HOWNL := Lib.hid hown
        have hzl : w.heap.size < wr.heap.size := HZr.lt
        have hHl := hH.lt
        have HHr := Lib.hid hH
        have HZZ := Lib.hid HZr
        have HTT := Lib.hid (show decT b = t0 from HT0.out)
        have HNN' := Lib.hid (show decN b = n0 from HN0.out)
        clear HDEC hlen hown hints hOb HZr hH hO hdl HT0 HN0 hkK hp HP
        unfold stV at HCK
        obtain ⟨r, hr⟩ : ∃ r, checkE t0 n0 (decL b) = r := ⟨_, rfl⟩
        rw [hr] at HCK HDEC'
        clear hr
        cases hr0' : (r != 0)
        · have hre : (r == 0) = true := by simpa using hr0'
          rw [hre] at HDEC'
          go_wp2_with fail
          refine HCK.mono ?_
          rintro e w7 ⟨rfl, hB7⟩
          have HH7 := HHr.out.below hB7 hHl
          have HZ7 := HZZ.out.below hB7 hzl
          have q0 := HH7.c (j := 0) rfl
          have q1 := HH7.c (j := 1) rfl
          have q2 := HH7.c (j := 2) rfl
          have z0 := HZ7.c (j := 0) rfl
          have z1 := HZ7.c (j := 1) rfl
          have z2 := HZ7.c (j := 2) rfl
          have f0 := HZ7.frozen 0
          have f1 := HZ7.frozen 1
          have f2 := HZ7.frozen 2
          go_wp2
          have HZ8 := ((HZ7.set 0 (.int .i64 t0)).set 1 (.int .i64 n0)).set 2 (.slice Av k cv)
          have hO8 := ((((Only.of (Below.refl w7.heap.size w7) (Nat.le_refl _)).set (B := w.heap.size) 0 (.int .i64 t0)).set 1 (.int .i64 n0)).set 2 (.slice Av k cv))
          generalize ((w7.setCell ⟨w.heap.size, 0, none⟩ (.int .i64 t0)).setCell ⟨w.heap.size, 1, none⟩ (.int .i64 n0)).setCell ⟨w.heap.size, 2, none⟩ (.slice Av k cv) = W8 at *
          have y0 := HZ8.c (j := 0) rfl
          have y1 := HZ8.c (j := 1) rfl
          have y2 := HZ8.c (j := 2) rfl
          have hs7 := hB7.size
          refine bodyPost_ret (v := .tuple #[.agg #[.int .i64 t0, .int .i64 n0, (.slice Av k cv)], .int .i64 0]) (by simp [results, Tryd.f27, go_sem, y0, y1, y2]) rfl ?_
          refine .inl ⟨HDEC'.out, Av, cv, ?_, ?_, nxt (nxt hBw hB7 hBw.size) (hO8.below (lo := w.heap.size) (Nat.le_refl _) (by omega)) (Nat.le_refl _)⟩
          · rw [HTT.out, HNN'.out, HLEN.out]; rfl
          · unfold OwnInts
            rw [HLEN.out]
            have h1 := row_below HOWNL.out hB7
            exact row_more (h1.kept hO8.grown (.inr (HZ7.not_row h1 (by decide)).symm)) (by omega)
        · have hre : (r == 0) = false := by simpa using hr0'
          rw [hre] at HDEC'
          go_wp2_with fail
          refine HCK.mono ?_
          rintro e w7 ⟨rfl, hB7⟩
          have HZ7 := HZZ.out.below hB7 hzl
          have z0 := HZ7.c (j := 0) rfl
          have z1 := HZ7.c (j := 1) rfl
          have z2 := HZ7.c (j := 2) rfl
          have f0 := HZ7.frozen 0
          have f1 := HZ7.frozen 1
          have f2 := HZ7.frozen 2
          go_wp2
          have HZ8 := ((HZ7.set 0 (.int .i64 0)).set 1 (.int .i64 0)).set 2 (.slice none 0 0)
          have hO8 := ((((Only.of (Below.refl w7.heap.size w7) (Nat.le_refl _)).set (B := w.heap.size) 0 (.int .i64 0)).set 1 (.int .i64 0)).set 2 (.slice none 0 0))
          generalize ((w7.setCell ⟨w.heap.size, 0, none⟩ (.int .i64 0)).setCell ⟨w.heap.size, 1, none⟩ (.int .i64 0)).setCell ⟨w.heap.size, 2, none⟩ (.slice none 0 0) = W8 at *
          have y0 := HZ8.c (j := 0) rfl
          have y1 := HZ8.c (j := 1) rfl
          have y2 := HZ8.c (j := 2) rfl
          have hs7 := hB7.size
          refine bodyPost_ret (v := .tuple #[.agg #[.int .i64 0, .int .i64 0, (.slice none 0 0)], .int .i64 5]) (by simp [results, Tryd.f27, go_sem, y0, y1, y2]) rfl ?_
          exact .inr ⟨HDEC'.out, rfl, nxt (nxt hBw hB7 hBw.size) (hO8.below (lo := w.heap.size) (Nat.le_refl _) (by omega)) (Nat.le_refl _)⟩

theorem dec_any (A : Option Addr) (c : Nat) (b : List Int) (w : World) (hA : Bytes w A b) (ho : Octets b) (hl : b.length ≤ 1000) (hc : b.length ≤ c) (hc2 : c ≤ 9223372036854775807) :
    Calls Tryd.prog 27 #[.slice A b.length c] w (DecPost b w) := by
  cases hm : measB b
  · refine (dec_short A c b w hA ho hl hc hc2 hm).mono ?_
    intro e w' h
    exact .inr ⟨by unfold decOk; rw [hm]; rfl, h⟩
  · exact dec_meas A c b w hA ho hl hc hc2 hm
end Go.Proofs.YtbenfdbjpefegaaDoor
