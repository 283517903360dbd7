/- The document's Run. -/
import Derived.Test.YtmclpganipfadaaGreatDoorMcU
import Derived.Test.YtmclpganipfadaaGreatDoorMcTo
import Derived.Test.YtmclpganipfadaaGreatDoorMcF
namespace Go.Proofs.YtmclpganipfadaaGreatDoor
open Go.RowKit Go.Shelf Go.Maps
set_option linter.unusedVariables false
set_option linter.unusedSimpArgs false

def RRunPost (r : Sta × Nat × Int) (w : World) (e : Ending) (w' : World) : Prop :=
  ∃ A c, e = .returned (.tuple #[stV r.1.t r.1.n A r.1.l.length c, .int .i64 r.2.1, .int .i64 r.2.2]) ∧ RowT w' A r.1.l ∧ Below w.heap.size w w'
theorem legal_next {s : Sta} {ops : List Opr} {k : Nat} {o : Opr} (h : legalTo s ops k) (ho : ops[k]? = some o) (hk : okB (stepA (stAt s ops k) o) o = true) : legalTo s ops (k + 1) := fun j hj o' ho' => by
  by_cases e : j = k
  · subst e
    rw [ho] at ho'
    cases ho'
    exact hk
  · exact h j (by omega) o' ho'

theorem tell3 {Z : Nat} {w W : World} {z0 z1 z2 : Value} {A : Option Addr} {l : List Int} (HZ : Holds W Z 24 #[z0, z1, z2]) (hr : RowT W A l) (hB : Below w.heap.size w W) (hm : w.heap.size ≤ Z) (u0 u1 u2 : Value) :
    Holds (((W.setCell ⟨Z, 0, none⟩ u0).setCell ⟨Z, 1, none⟩ u1).setCell ⟨Z, 2, none⟩ u2) Z 24 #[u0, u1, u2] ∧ RowT (((W.setCell ⟨Z, 0, none⟩ u0).setCell ⟨Z, 1, none⟩ u1).setCell ⟨Z, 2, none⟩ u2) A l ∧ Below w.heap.size w (((W.setCell ⟨Z, 0, none⟩ u0).setCell ⟨Z, 1, none⟩ u1).setCell ⟨Z, 2, none⟩ u2) := by
  have H0 := HZ.set 0 u0
  have H1 := H0.set 1 u1
  have H2 := H1.set 2 u2
  have L := lasts_rowT A l
  exact ⟨H2, L.st _ _ _ 2 u2 H1 (L.st _ _ _ 1 u1 H0 (L.st _ _ _ 0 u0 HZ hr)), gro_set (gro_set (gro_set hB 0 u0 hm) 1 u1 hm) 2 u2 hm⟩

set_option maxRecDepth 100000 in
set_option maxHeartbeats 4000000 in
theorem rmrun_any (s : Sta) (A : Option Addr) (c : Nat) (Ao : Option Addr) (co : Nat) (ops : List Opr) (w : World) (hA : Ints w A s.l) (hO : Oprs w Ao ops) (hlen : s.l.length + 2 * ops.length ≤ 800) :
    Calls Tryz.prog 16 #[stV s.t s.n A s.l.length c, .slice Ao ops.length co] w (RRunPost (runA s ops) w) := by
  obtain ⟨t, n, l⟩ := s
  dsimp only at hA hlen ⊢
  have hB0 : Below w.heap.size w ((w.alloc (.cells #[.int .i64 t, .int .i64 n, .slice A l.length c] 24)).alloc (.cells #[.int .i64 0, .int .i64 0, .slice none 0 0] 24)) := gro_alloc (alloc1 w _) _
  have HW := Lib.hid ((Holds.new w 24 #[.int .i64 t, .int .i64 n, .slice A l.length c]).alloc (.cells #[.int .i64 0, .int .i64 0, .slice none 0 0] 24))
  have HZ := Lib.hid (new_second w (.cells #[.int .i64 t, .int .i64 n, .slice A l.length c] 24) 24 #[.int .i64 0, .int .i64 0, .slice none 0 0])
  have hsz : ((w.alloc (.cells #[.int .i64 t, .int .i64 n, .slice A l.length c] 24)).alloc (.cells #[.int .i64 0, .int .i64 0, .slice none 0 0] 24)).heap.size = w.heap.size + 2 := by simp
  have HA := Lib.hid hA
  have HOp := Lib.hid hO
  clear hA hO
  unfold stV
  go_enter Tryz.func16, Tryz.ntmps16
  go_upto_region 1 with fail
  generalize (w.alloc (.cells #[.int .i64 t, .int .i64 n, .slice A l.length c] 24)).alloc (.cells #[.int .i64 0, .int .i64 0, .slice none 0 0] 24) = W0 at *
  have hszl : w.heap.size + 2 ≤ W0.heap.size := by omega
  clear hsz
  have HROW := Lib.hid (World.ownsRow_lit (base := W0.heap.size) (e := 3) (size := 1) W0 #[] 0 (Nat.le_refl _) (Nat.zero_le _) rfl)
  have HA2 := Lib.hid ((HA.out.below hB0).below (alloc1 W0 (.cells #[] 3)))
  have hs2a : W0.heap.size ≤ (W0.alloc (.cells #[] 3)).heap.size := by simp
  have c2x : (W0.alloc (.cells #[] 3)).cell? ⟨w.heap.size, 2, none⟩ = some (.slice A l.length c) := (HW.out.alloc _).c (j := 2) rfl
  go_upto_region 2 with (at_builtin; refine wpList_app _ rfl _ _ 22 rfl W0.heap.size Tryz.underlying22 _ _ _ rfl HROW.out A l.length c l rfl rfl HA2.out (by omega) (by omega) hs2a ?_; intro v3 w3 hown3 hg3 hn3; obtain ⟨g3, c3, rfl⟩ := form4 hown3 hn3; rw [Nat.zero_add, List.nil_append] at hown3; have hB3 : Below W0.heap.size W0 w3 := (alloc1 W0 _).trans (grown_below hg3 HROW.out hs2a); have HW3 := HW.out.below hB3 (by omega); have e2 := HW3.c (j := 2) rfl; have f2 := HW3.frozen 2; have HO3 := Lib.hid hown3; have HP3 := Lib.hid HW3; clear hg3 hn3 c2x hown3 HW3)
  have hs3 := hB3.size
  have HW4 := Lib.hid (HP3.out.set 2 (.slice (some ⟨g3, 0, none⟩) l.length c3))
  have HZ4 := Lib.hid (set_other (b := w.heap.size) (HZ.out.below hB3 (by omega)) 2 (.slice (some ⟨g3, 0, none⟩) l.length c3) (by omega))
  have HR4 := Lib.hid ((lasts_rowT (some ⟨g3, 0, none⟩) l).st _ _ _ 2 (.slice (some ⟨g3, 0, none⟩) l.length c3) HP3.out (rowT_own rfl HO3.out))
  have hB4 := gro_set (nxt hB0 hB3 hB0.size) (b := w.heap.size) 2 (.slice (some ⟨g3, 0, none⟩) l.length c3) (Nat.le_refl _)
  clear e2 f2 HROW HA2 HO3 HP3 hB3
  generalize w3.setCell ⟨w.heap.size, 2, none⟩ (.slice (some ⟨g3, 0, none⟩) l.length c3) = W4 at *
  have HB4 := Lib.hid hB4
  clear hB4 hB0 hs2a hs3 hszl HW HZ
  go_wp2
  go_loopw [7] (fun i wr => ∃ (k : Nat) (Ak : Option Addr) (ck : Nat), k ≤ ops.length ∧ i = .int .i64 k ∧ legalTo ⟨t, n, l⟩ ops k ∧ Holds wr w.heap.size 24 #[.int .i64 (stAt ⟨t, n, l⟩ ops k).t, .int .i64 (stAt ⟨t, n, l⟩ ops k).n, .slice Ak (stAt ⟨t, n, l⟩ ops k).l.length ck] ∧ Holds wr (w.heap.size + 1) 24 #[.int .i64 0, .int .i64 0, .slice none 0 0] ∧ RowT wr Ak (stAt ⟨t, n, l⟩ ops k).l ∧ Below w.heap.size w wr) (fun i wr => ops.length - (intOf i).toNat)
  case atStart =>
    refine ⟨0, some ⟨g3, 0, none⟩, c3, Nat.zero_le _, rfl, fun j hj => by omega, ?_⟩
    rw [stAt_zero]
    exact ⟨HW4.out, HZ4.out, HR4.out, HB4.out⟩
  case round =>
    obtain ⟨k, Ak, ck, hk, rfl, hleg, hS, hZ, hR, hB⟩ := hrel
    by_cases hlt : k < ops.length
    · obtain ⟨o, ho⟩ : ∃ o, ops[k]? = some o := ⟨_, List.getElem?_eq_getElem hlt⟩
      have hsl := stAt_len ⟨t, n, l⟩ ops k
      have hnx := stAt_succ ⟨t, n, l⟩ ops k o ho
      have hstop := run_stop ⟨t, n, l⟩ ops k o ho hleg
      have hnext := legal_next hleg ho
      obtain ⟨bo, offo, rfl, hbo, hco⟩ := (OprsB.below (show OprsB w.heap.size w Ao ops from HOp.out) hB) (by omega)
      obtain ⟨c0, c1, c2, c3', c4⟩ := hco k o ho
      dsimp only at hsl
      generalize stAt ⟨t, n, l⟩ ops k = sk at *
      obtain ⟨st, sn, sl⟩ := sk
      dsimp only at hsl hR hS
      have HL := fun W (h : Below wr.heap.size wr W) => rlegal_any st sn Ak ck sl o W (hR.ints.below h) (by omega)
      have hst : stepA ⟨st, sn, sl⟩ o = mO st sn sl o := rfl
      rw [hst] at hnx hstop hnext
      clear hst
      generalize mO st sn sl o = p at *
      obtain ⟨pt, pn, pl, pk, pr, pe⟩ := p
      have hok0 : pe ≠ 0 → okB ⟨pt, pn, pl, pk, pr, pe⟩ o = false := fun h => by simp [okB, h]
      generalize okB ⟨pt, pn, pl, pk, pr, pe⟩ o = bb at *
      obtain ⟨kd, oa, ob, rk, rn⟩ := o
      unfold RLPost opV stV at HL
      dsimp only at *
      have hwr := hB.size
      have HS := Lib.hid hS
      have HZr := Lib.hid hZ
      have HBr := Lib.hid hB
      have HN := Lib.hid hnext
      have HST := Lib.hid hstop
      have HX := Lib.hid hnx
      have HK0 := Lib.hid hok0
      have HLg := Lib.hid hleg
      have HRk := Lib.hid hR
      clear hnx hstop hnext hok0 hleg ho hco hS hZ hR hB
      have q0 : (0 : Int) ≤ (k : Int) := by omega
      have q1 : (k : Int) < (ops.length : Int) := by omega
      have q2 : decide ((k : Int) < (ops.length : Int)) = true := decide_eq_true q1
      have q3 : decide (k < ops.length) = true := decide_eq_true hlt
      go_wp2_with fail
      refine wp_region_noPanic ?_
      refine wp_region_forked (Plan.takes [0, 1, 2, 3, 4] (.told1 5)) (fun W' => Below wr.heap.size wr W') (by kernel_rfl) (by kernel_rfl) (fun _ _ _ _ _ h => h) (Below.refl _ _).drew ?_
      unfold Plan.takes Plan.takes Plan.takes Plan.takes Plan.takes Plan.takes
      iterate 5
        refine Forked.take ?_ (by rfl) (by rfl) ?_ ?_
        rotate_left
        · intro w' hw'
          have s0 := (HS.out.below hw' HS.out.lt).c (j := 0) rfl
          have s1 := (HS.out.below hw' HS.out.lt).c (j := 1) rfl
          have s2 := (HS.out.below hw' HS.out.lt).c (j := 2) rfl
          have o0 := (hw'.cell (p := ⟨bo, _, none⟩) (by show bo < _; omega)).trans c0
          have o1 := (hw'.cell (p := ⟨bo, _, none⟩) (by show bo < _; omega)).trans c1
          have o2 := (hw'.cell (p := ⟨bo, _, none⟩) (by show bo < _; omega)).trans c2
          have o3 := (hw'.cell (p := ⟨bo, _, none⟩) (by show bo < _; omega)).trans c3'
          have o4 := (hw'.cell (p := ⟨bo, _, none⟩) (by show bo < _; omega)).trans c4
          go_simp
          try with_reducible rfl
        simp only [Act.put, List.getElem_toArray, List.getElem_cons_zero, List.getElem_cons_succ, List.setIfInBounds_toArray, List.set_cons_zero, List.set_cons_succ]
      refine told1 (t := pt) (n := pn) (m := pl.length) (u := .bool bb) (v := .int .i64 pe) (R := fun A' c' W => RowT W A' pl) (f := 10) (args := #[.agg #[.int .i64 st, .int .i64 sn, .slice Ak sl.length ck], .agg #[.int .i64 kd, .int .i64 oa, .int .i64 ob, .int .i64 rk, .int .i64 rn]]) rfl rfl rfl rfl rfl rfl rfl rfl rfl rfl rfl rfl rfl rfl rfl rfl rfl rfl rfl rfl rfl rfl rfl rfl rfl rfl rfl rfl rfl rfl rfl rfl rfl rfl rfl (by intro cs b h; cases h) (by kernel_rfl) (by decide) (by intro d hd; simp at hd ⊢; omega) (fun W => by go_simp) (fun A' c' => lasts_rowT _ _) (Below.refl _ _).drew ?_ ?_
      · intro W hW
        exact HL W hW
      intro X A8 c8 W8 hX HX8 hr8 hB8
      refine NoPanic.normal ?_
      simp only [parts5, Act.put, List.setIfInBounds_toArray, List.set_cons_zero, List.set_cons_succ]
      have HB8 := Lib.hid (HBr.out.trans (hB8.mono hwr))
      have HS8 := Lib.hid (HS.out.below hB8 HS.out.lt)
      have HZ8 := Lib.hid (HZr.out.below hB8 HZr.out.lt)
      have HX9 := Lib.hid HX8
      have HR8 := Lib.hid hr8
      have HRk8 := Lib.hid (HRk.out.below hB8)
      have hXn : w.heap.size ≠ X := by have := HS.out.lt; omega
      clear HS HZr HBr hB8 HX8 hr8 HL c0 c1 c2 c3' c4
      have s0 := HS8.out.c (j := 0) rfl
      have s1 := HS8.out.c (j := 1) rfl
      have s2 := HS8.out.c (j := 2) rfl
      have z0 := HZ8.out.c (j := 0) rfl
      have z1 := HZ8.out.c (j := 1) rfl
      have z2 := HZ8.out.c (j := 2) rfl
      have x0 := HX9.out.c (j := 0) rfl
      have x1 := HX9.out.c (j := 1) rfl
      have x2 := HX9.out.c (j := 2) rfl
      have y0 := HZ8.out.frozen 0
      have y1 := HZ8.out.frozen 1
      have y2 := HZ8.out.frozen 2
      have v0 := HS8.out.frozen 0
      have v1 := HS8.out.frozen 1
      have v2 := HS8.out.frozen 2
      cases he : (pe != 0)
      · have hpe : pe = 0 := by simpa using he
        cases bb with
        | false =>
          have hrun := HST.out rfl
          rw [show errOf ⟨pt, pn, pl, pk, pr, pe⟩ = 9 from if_pos hpe] at hrun
          clear HST HK0 HN HX v0 v1 v2 x0 x1 x2
          go_wp2
          obtain ⟨HF, hrow, hbf⟩ := tell3 (Z := w.heap.size + 1) HZ8.out HRk8.out HB8.out (by omega) (.int .i64 st) (.int .i64 sn) (.slice Ak sl.length ck)
          generalize ((W8.setCell ⟨w.heap.size + 1, 0, none⟩ (.int .i64 st)).setCell ⟨w.heap.size + 1, 1, none⟩ (.int .i64 sn)).setCell ⟨w.heap.size + 1, 2, none⟩ (.slice Ak sl.length ck) = W9 at *
          have k0 := HF.c (j := 0) rfl
          have k1 := HF.c (j := 1) rfl
          have k2 := HF.c (j := 2) rfl
          refine bodyPost_ret (v := .tuple #[.agg #[.int .i64 st, .int .i64 sn, .slice Ak sl.length ck], .int .i64 k, .int .i64 9]) (by simp [results, Tryz.f16, go_sem, k0, k1, k2]) rfl ?_
          rw [hrun]
          exact ⟨Ak, ck, rfl, hrow, hbf⟩
        | true =>
          clear HST HK0 y0 y1 y2 z0 z1 z2
          go_wp2
          go_roundw
          case rel =>
            obtain ⟨HF, hrow, hbf⟩ := tell3 (Z := w.heap.size) HS8.out HR8.out HB8.out (Nat.le_refl _) (.int .i64 pt) (.int .i64 pn) (.slice A8 pl.length c8)
            have hZZ := set_other (b := w.heap.size) (set_other (b := w.heap.size) (set_other (b := w.heap.size) HZ8.out 0 (.int .i64 pt) (by omega)) 1 (.int .i64 pn) (by omega)) 2 (.slice A8 pl.length c8) (by omega)
            refine ⟨k + 1, A8, c8, by omega, by go_num, HN.out rfl, ?_⟩
            rw [HX.out]
            exact ⟨HF, hZZ, hrow, hbf⟩
          case measure => simp [intOf]; omega
      · have hne : pe ≠ 0 := by simpa using he
        have hrun := HST.out (HK0.out hne)
        rw [show errOf ⟨pt, pn, pl, pk, pr, pe⟩ = pe from if_neg hne] at hrun
        clear HST HK0 HN HX v0 v1 v2 x0 x1 x2
        go_wp2
        obtain ⟨HF, hrow, hbf⟩ := tell3 (Z := w.heap.size + 1) HZ8.out HRk8.out HB8.out (by omega) (.int .i64 st) (.int .i64 sn) (.slice Ak sl.length ck)
        generalize ((W8.setCell ⟨w.heap.size + 1, 0, none⟩ (.int .i64 st)).setCell ⟨w.heap.size + 1, 1, none⟩ (.int .i64 sn)).setCell ⟨w.heap.size + 1, 2, none⟩ (.slice Ak sl.length ck) = W9 at *
        have k0 := HF.c (j := 0) rfl
        have k1 := HF.c (j := 1) rfl
        have k2 := HF.c (j := 2) rfl
        refine bodyPost_ret (v := .tuple #[.agg #[.int .i64 st, .int .i64 sn, .slice Ak sl.length ck], .int .i64 k, .int .i64 pe]) (by simp [results, Tryz.f16, go_sem, k0, k1, k2]) rfl ?_
        rw [hrun]
        exact ⟨Ak, ck, rfl, hrow, hbf⟩
    · have q2 : decide ((k : Int) < (ops.length : Int)) = false := decide_eq_false (by omega)
      obtain rfl : k = ops.length := by omega
      have hrun := run_all ⟨t, n, l⟩ ops hleg
      generalize stAt ⟨t, n, l⟩ ops ops.length = sk at *
      obtain ⟨st, sn, sl⟩ := sk
      dsimp only at hR hS
      have HS := Lib.hid hS
      have HZr := Lib.hid hZ
      have HBr := Lib.hid hB
      have HRr := Lib.hid hR
      clear hS hZ hB hR hleg
      have s0 := HS.out.c (j := 0) rfl
      have s1 := HS.out.c (j := 1) rfl
      have s2 := HS.out.c (j := 2) rfl
      have z0 := HZr.out.c (j := 0) rfl
      have z1 := HZr.out.c (j := 1) rfl
      have z2 := HZr.out.c (j := 2) rfl
      have y0 := HZr.out.frozen 0
      have y1 := HZr.out.frozen 1
      have y2 := HZr.out.frozen 2
      go_wp2
      obtain ⟨HF, hrow, hbf⟩ := tell3 (Z := w.heap.size + 1) HZr.out HRr.out HBr.out (by omega) (.int .i64 st) (.int .i64 sn) (.slice Ak sl.length ck)
      generalize ((wr.setCell ⟨w.heap.size + 1, 0, none⟩ (.int .i64 st)).setCell ⟨w.heap.size + 1, 1, none⟩ (.int .i64 sn)).setCell ⟨w.heap.size + 1, 2, none⟩ (.slice Ak sl.length ck) = W9 at *
      have k0 := HF.c (j := 0) rfl
      have k1 := HF.c (j := 1) rfl
      have k2 := HF.c (j := 2) rfl
      refine bodyPost_ret (v := .tuple #[.agg #[.int .i64 st, .int .i64 sn, .slice Ak sl.length ck], .int .i64 ops.length, .int .i64 0]) (by simp [results, Tryz.f16, go_sem, k0, k1, k2]) rfl ?_
      rw [hrun]
      exact ⟨Ak, ck, rfl, hrow, hbf⟩
end Go.Proofs.YtmclpganipfadaaGreatDoor
