/- Contracts of the layer state: numbersBehind. -/
import Derived.Test.YtbenfdbjpefegaaDoorStG
import Derived.Test.YtbenfdbjpefegaaDoorStH
import Derived.Test.YtbenfdbjpefegaaDoorWalkD
import Derived.Deep.Cut
import Derived.Deep.CutRange
namespace Go.Proofs.YtbenfdbjpefegaaDoor
open Go.RowKit Go.Maps
set_option linter.unusedVariables false

theorem getP_bd (l : List UInt8) (h : l.length ≤ 100000) : 0 ≤ getP l ∧ getP l ≤ 100000 := by
  by_cases he : getE l = 0
  · have h20 : ¬ 20 < l.length := fun h1 => by have := (get_long l h1).2.1; omega
    by_cases h2 : getAt l < l.length ∨ getAt l = sgn l
    · have := (get_form l h20 h2).2.1; omega
    · have := (get_num l h20 h2).2.2; omega
  · have h1 := get_not l he
    rcases Nat.lt_or_ge 20 l.length with h2 | h2
    · have := h1.2.2 h2; omega
    · have := h1.2.1 h2; omega

def BehPost (R : List Int × Int × Int) (w : World) (e : Ending) (w' : World) : Prop :=
  (R.2.1 = 0 ∧ ∃ A c, e = .returned (.tuple #[.slice A R.1.length c, .agg #[.int .i64 0, .int .i64 0]]) ∧ OwnInts w.heap.size w' (.slice A R.1.length c) R.1 ∧ Below w.heap.size w w') ∨
  (R.2.1 ≠ 0 ∧ e = .returned (.tuple #[.slice none 0 0, .agg #[.int .i64 R.2.1, .int .i64 R.2.2]]) ∧ Below w.heap.size w w')

theorem beh_end {f k : Nat} {s : List UInt8} {acc : List Int} (h : s.length ≤ k) (hf : 0 < f) : behindL f (s.drop k) k acc = (acc, 0, 0) := by
  rw [List.drop_of_length_le h]
  cases f with
  | zero => omega
  | succ f => rfl
theorem beh_step {f k : Nat} {s : List UInt8} {acc : List Int} (h : k < s.length) (he : getE (partL (s.drop (k + 1))) = 0) :
    behindL (f + 1) (s.drop k) k acc = behindL f (s.drop (k + 1 + (partL (s.drop (k + 1))).length)) (k + 1 + (partL (s.drop (k + 1))).length) (acc ++ [getN (partL (s.drop (k + 1)))]) := by
  rw [List.drop_eq_getElem_cons h]
  show (if getE (partL (s.drop (k + 1))) = 0 then _ else _) = _
  rw [if_pos he, List.drop_drop]
theorem beh_bad {f k : Nat} {s : List UInt8} {acc : List Int} (h : k < s.length) (he : getE (partL (s.drop (k + 1))) ≠ 0) :
    behindL (f + 1) (s.drop k) k acc = ([], getE (partL (s.drop (k + 1))), (k : Int) + 1 + getP (partL (s.drop (k + 1)))) := by
  rw [List.drop_eq_getElem_cons h]
  show (if getE (partL (s.drop (k + 1))) = 0 then _ else _) = _
  rw [if_neg he]

set_option maxRecDepth 100000 in
set_option maxHeartbeats 1000000 in
theorem behind_any (s : ByteArray) (p0 : Nat) (w : World) (hs : s.size ≤ 2000) (hp : p0 ≤ s.size) :
    Calls Tryd.prog 54 #[.string s, .int .i64 p0] w (BehPost (behindR s.data.toList p0) w) := by
  obtain ⟨i0, hi, hz0, hz1, hz2⟩ := info_parts info_int
  have hB0 := alloc1 w (.cells #[.int .i64 0, .int .i64 0] 44)
  have HZ := Lib.hid (Holds.new w 44 #[.int .i64 0, .int .i64 0])
  have hs0 : (w.alloc (.cells #[.int .i64 0, .int .i64 0] 44)).heap.size = w.heap.size + 1 := by simp
  obtain ⟨R, hR⟩ : ∃ R, behindR s.data.toList p0 = R := ⟨_, rfl⟩
  rw [hR]
  unfold behindR at hR
  have HR := Lib.hid hR
  clear hR
  go_enter Tryd.func54, Tryd.ntmps54
  go_wp2
  generalize w.alloc (.cells #[.int .i64 0, .int .i64 0] 44) = W0 at *
  have HB0 := Lib.hid hB0
  have HS0 := Lib.hid hs0
  clear hB0 hs0
  go_loopw [1, 6, 7, 8, 9, 10, 11] (fun at1 v s7 s8 s9 s10 s11 wr => ∃ (k f : Nat) (acc : List Int), k ≤ s.size ∧ at1 = .int .i64 k ∧ s.size < f + k ∧ behindL f (s.data.toList.drop k) k acc = R ∧ acc.length ≤ k ∧ wr.ownsRow W0.heap.size 3 1 v acc.length (intsOf acc) ∧ Below W0.heap.size W0 wr) (fun at1 v s7 s8 s9 s10 s11 wr => s.size - (intOf at1).toNat)
  case atStart => exact ⟨p0, s.data.toList.length + 1, [], hp, rfl, by rw [bytes_len]; omega, HR.out, by simp, World.ownsRow_nil _ _ _ _, Below.refl _ _⟩
  case round =>
    obtain ⟨k, f, acc, hk, rfl, hf, hbeh, hal, hown, hB⟩ := hrel
    have HBEH := Lib.hid hbeh
    have HOWN := Lib.hid hown
    have HB := Lib.hid hB
    have hsz := hB.size
    have hsz0 := HS0.out
    obtain ⟨A6, c6, rfl⟩ := own_form hown
    clear hbeh hown hB
    by_cases hlt : k < s.size
    · obtain ⟨f, rfl⟩ : ∃ f', f = f' + 1 := ⟨f - 1, by omega⟩
      have hll : k < s.data.toList.length := by rw [bytes_len]; exact hlt
      have hd : (s.extract (k + 1) s.size).data.toList = s.data.toList.drop (k + 1) := extract_data s (k + 1)
      have hds : (s.extract (k + 1) s.size).size ≤ s.size := by simp
      obtain ⟨s1, hs1⟩ : ∃ s1, s.extract (k + 1) s.size = s1 := ⟨_, rfl⟩
      have hes : s1.size = s.size - (k + 1) := by rw [← hs1]; simp
      rw [hs1] at hd hds
      have HCUT := fun W => cut_any s1 W (by omega)
      have hpd : (partB s1).data.toList = partL (s.data.toList.drop (k + 1)) := by rw [part_bytes, hd]
      have hple := part_size_le s1
      have hpsz := part_size s1
      rw [hd] at hpsz
      have HSTEP := Lib.hid (fun he => beh_step (f := f) (acc := acc) hll he)
      have HBAD := Lib.hid (fun he => beh_bad (f := f) (acc := acc) hll he)
      rw [← hpsz] at HSTEP
      rw [← hpd] at HSTEP HBAD
      obtain ⟨pb, hpb⟩ : ∃ pb, partB s1 = pb := ⟨_, rfl⟩
      have HCUT' : ∀ W, Calls Tryd.prog 52 #[.string s1, .string ⟨#[32]⟩] W fun e w' => ∃ u v, e = .returned (.tuple #[.string pb, .string u, .bool v]) ∧ ∃ n, w' = W.drewN n := by rw [← hpb]; exact HCUT
      rw [hpb] at HSTEP HBAD hple
      have hgP := getP_bd pb.data.toList (by rw [bytes_len]; omega)
      have HGET := fun W => get_any pb W (by unfold maxLen; omega)
      unfold GetPost at HGET
      obtain ⟨gN, hgN⟩ : ∃ x, getN pb.data.toList = x := ⟨_, rfl⟩
      obtain ⟨gE, hgE⟩ : ∃ x, getE pb.data.toList = x := ⟨_, rfl⟩
      obtain ⟨gP, hgP'⟩ : ∃ x, getP pb.data.toList = x := ⟨_, rfl⟩
      rw [hgN, hgE, hgP'] at HGET
      rw [hgE] at HSTEP HBAD
      rw [hgN] at HSTEP
      rw [hgP'] at HBAD hgP
      have hk0 : (0 : Int) ≤ (k : Int) := by omega
      obtain ⟨k1, hk1⟩ : ∃ k1, k1 = k + 1 := ⟨_, rfl⟩
      have e1 : (k : Int) + 1 = (k1 : Int) := by omega
      have hk10 : (0 : Int) ≤ (k1 : Int) := by omega
      have hk1s : (k1 : Int) ≤ (s.size : Int) := by omega
      rw [← hk1] at hs1
      have HK1 := Lib.hid hk1
      have q2 : decide (k < s.size) = true := decide_eq_true hlt
      have hk1b : k1 ≤ 2000 := by omega
      have hpbk : k1 + pb.size ≤ s.size := by omega
      clear hd hds hes hpd hpsz hpb hgN hgE hgP' HCUT hk1 hll
      go_wp2_with fail
      refine (HCUT' wr).mono ?_
      rintro e w1 ⟨u, v, rfl, n1, rfl⟩
      go_wp2_with fail
      refine (HGET (wr.drewN n1)).mono ?_
      rintro e w2 ⟨rfl, hB2⟩
      have HB2 := Lib.hid (show Below wr.heap.size wr w2 from (below_drew0 wr n1).trans hB2)
      have hsz2 := HB2.out.size
      have HB2a := Lib.hid (nxt HB.out HB2.out (by omega))
      clear hB2
      by_cases he : gE = 0
      · subst he
        go_wp2_with (at_builtin; refine wpList_append_own_at _ rfl _ _ 22 rfl W0.heap.size 3 i0 (.int .i64 0) 1 8 Tryd.underlying22 hi hz0 hz1 hz2 rfl (by decide) _ _ _ rfl ((row_below HOWN.out HB2.out).alloc _ |>.alloc _) ⟨w2.heap.size + 1, 0, none⟩ 1 1 [.int .i64 gN] rfl rfl (by have := cell_one (w2.alloc (.cells #[.int .i64 0, .int .i64 gP] 44)) 3 (.int .i64 gN); rw [World.size_alloc] at this; exact this) (by intro u hu; simp at hu; subst hu; rfl) (by unfold maxLen; omega) (by omega) (by simp; omega) ?_; intro v5 w5 hown5 hg5 hnil5 hat5; obtain ⟨A5, c5, rfl⟩ := own_form hown5; have HOWN5 := Lib.hid hown5; have HG5 := Lib.hid hg5; clear hown5 hg5 hnil5 hat5)
        go_roundw
        case rel =>
          have hst := HSTEP.out trivial
          refine ⟨k1 + pb.size, f, acc ++ [gN], by omega, by go_num, by have := HK1.out; omega, ?_, by rw [List.length_append]; simp; have := HK1.out; omega, ?_, ?_⟩
          · rw [HK1.out, ← hst]; exact HBEH.out
          · have := HOWN5.out
            rw [intsOf_snoc] at this
            rw [List.length_append]; exact this
          · exact (((HB2a.out.alloc (by omega) _).alloc (by simp; omega) _)).grown HG5.out (by simp; omega) (fun g e => (HOWN.out.lt g e).1)
        case measure => have := HK1.out; simp [intOf]; omega
      · have hne : (gE != 0) = true := by rw [bne_iff_ne]; exact he
        have HE := Lib.hid he
        have HZ2 := HZ.out.below HB2a.out (by omega)
        have hB3 : Below w2.heap.size w2 (w2.alloc (.cells #[.int .i64 gE, .int .i64 gP] 44)) := alloc1 w2 _
        have HF := Holds.new w2 44 #[.int .i64 gE, .int .i64 gP]
        have hzl := HZ2.lt
        have HZ3 := HZ2.below hB3 hzl
        have hsz3 : w2.heap.size < (w2.alloc (.cells #[.int .i64 gE, .int .i64 gP] 44)).heap.size := by simp
        obtain ⟨pp, hpp⟩ : ∃ pp, pp = (k1 : Int) + gP := ⟨_, rfl⟩
        have hwr : IntKind.i64.wrap ((k1 : Int) + gP) = pp := by rw [hpp, IntKind.wrap_i64]; omega
        have HPP := Lib.hid hpp
        clear hpp he
        go_upto_region 7 with fail
        generalize w2.alloc (.cells #[.int .i64 gE, .int .i64 gP] 44) = W3 at *
        have f0 := HF.c (j := 0) rfl
        have f1 := HF.c (j := 1) rfl
        have z0 := HZ3.c (j := 0) rfl
        have z1 := HZ3.c (j := 1) rfl
        have y0 := HZ3.frozen 0
        have y1 := HZ3.frozen 1
        have hapart : w.heap.size ≠ w2.heap.size := by omega
        go_cut [4] from 34 to 40 (fun s4 wx => s4 = .slice none 0 0 ∧ wx = ((W3.drew.setCell ⟨w.heap.size, 0, none⟩ (.int .i64 gE)).setCell ⟨w.heap.size, 1, none⟩ (.int .i64 pp)))
        case first =>
          go_region
          all_goals (go_wp2_with fail; go_meet; exact ⟨rfl, rfl⟩)
        case rest =>
          obtain ⟨rfl, rfl⟩ := hcut
          have HZ6 := ((HZ3.of (W' := W3.drew) rfl).set 0 (.int .i64 gE)).set 1 (.int .i64 pp)
          have hO6 := ((Only.of (Below.refl W3.drew.heap.size W3.drew) (Nat.le_refl _)).set (B := w.heap.size) 0 (.int .i64 gE)).set 1 (.int .i64 pp)
          have hRR := (HBAD.out HE.out).symm.trans HBEH.out
          have HRR := Lib.hid hRR
          clear hRR
          generalize (W3.drew.setCell ⟨w.heap.size, 0, none⟩ (.int .i64 gE)).setCell ⟨w.heap.size, 1, none⟩ (.int .i64 pp) = W6 at *
          have x0 := HZ6.c (j := 0) rfl
          have x1 := HZ6.c (j := 1) rfl
          go_wp2
          refine bodyPost_ret (v := .tuple #[.slice none 0 0, .agg #[.int .i64 gE, .int .i64 pp]]) (by simp [results, Tryd.f54, go_sem, x0, x1]) rfl ?_
          have hb6 := hO6.below (lo := w.heap.size) (Nat.le_refl _) (show w.heap.size ≤ W3.heap.size by omega)
          refine .inr ⟨by rw [← HRR.out]; exact HE.out, ?_, nxt (nxt (nxt HB0.out HB2a.out (by omega)) hB3.drew (by omega)) hb6 (Nat.le_refl _)⟩
          rw [← HRR.out, HPP.out, HK1.out]
          simp only [Int.natCast_add, Int.natCast_one]
    · have hend := beh_end (k := k) (s := s.data.toList) (acc := acc) (f := f) (by rw [bytes_len]; omega) (by omega)
      have hRR := hend.symm.trans HBEH.out
      have HRR := Lib.hid hRR
      have HZ2 := HZ.out.below HB.out (by omega)
      have z0 := HZ2.c (j := 0) rfl
      have z1 := HZ2.c (j := 1) rfl
      have y0 := HZ2.frozen 0
      have y1 := HZ2.frozen 1
      have q2 : decide (k < s.size) = false := decide_eq_false hlt
      clear hend hRR
      go_wp2
      have HZ6 := (HZ2.set 0 (.int .i64 0)).set 1 (.int .i64 0)
      have hO6 := ((Only.of (Below.refl wr.heap.size wr) (Nat.le_refl _)).set (B := w.heap.size) 0 (.int .i64 0)).set 1 (.int .i64 0)
      generalize (wr.setCell ⟨w.heap.size, 0, none⟩ (.int .i64 0)).setCell ⟨w.heap.size, 1, none⟩ (.int .i64 0) = W6 at *
      have x0 := HZ6.c (j := 0) rfl
      have x1 := HZ6.c (j := 1) rfl
      refine bodyPost_ret (v := .tuple #[.slice A6 acc.length c6, .agg #[.int .i64 0, .int .i64 0]]) (by simp [results, Tryd.f54, go_sem, x0, x1]) rfl ?_
      have hb6 := hO6.below (lo := w.heap.size) (Nat.le_refl _) (show w.heap.size ≤ wr.heap.size by omega)
      rw [← HRR.out]
      refine .inl ⟨rfl, A6, c6, rfl, ?_, nxt (nxt HB0.out HB.out (by omega)) hb6 (Nat.le_refl _)⟩
      exact row_more (HOWN.out.kept hO6.grown (.inr (HZ2.not_row HOWN.out (by decide)).symm)) (by omega)
end Go.Proofs.YtbenfdbjpefegaaDoor
