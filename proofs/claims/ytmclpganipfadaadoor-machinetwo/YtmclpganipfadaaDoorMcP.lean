/- MachineTwo. -/
import Derived.Test.YtmclpganipfadaaDoorMcO
import Derived.Test.YtmclpganipfadaaDoorMcL
import Derived.Test.YtmclpganipfadaaDoorMcTo
namespace Go.Proofs.YtmclpganipfadaaDoor
open Go.RowKit Go.Maps
set_option linter.unusedVariables false

theorem info_op : (Tryd.prog.info? 37).map (fun i => (i.zero, i.size, i.bytes)) = some (some (.agg #[.int .i64 0, .int .i64 0, .int .i64 0, .int .i64 0, .int .i64 0]), 5, 40) := by kernel_rfl
theorem cell_op_new (W : World) (t : TypeId) (a b c d e : Value) : ∀ j u, [a, b, c, d, e][j]? = some u → (W.alloc (.cells #[a, b, c, d, e] t)).cell? ((⟨W.heap.size, 0, none⟩ : Addr).add j) = some u := by
  intro j u h
  match j with
  | 0 | 1 | 2 | 3 | 4 => simp at h; subst h; simp [Addr.add, World.cell?_alloc_new]
  | j + 5 => simp at h

theorem retCells_at : ∀ (rs : List (Int × Int)) (j : Nat) (x : Int × Int), rs[j]? = some x → (retCells rs)[j * 2]? = some (.int .i64 x.1) ∧ (retCells rs)[j * 2 + 1]? = some (.int .i64 x.2)
  | [], j, x, h => by simp at h
  | y :: r, 0, x, h => by simp at h; subst h; exact ⟨rfl, rfl⟩
  | y :: r, j + 1, x, h => by
    obtain ⟨h0, h1⟩ := retCells_at r j x (by simpa using h)
    have e : ∀ q, (retCells (y :: r))[(j + 1) * 2 + q]? = (retCells r)[j * 2 + q]? := fun q => by
      show ([Value.int .i64 y.1, .int .i64 y.2] ++ retCells r)[(j + 1) * 2 + q]? = _
      rw [List.getElem?_append_right (by simp; omega)]
      congr 1
      simp
      omega
    exact ⟨(e 0).trans h0, (e 1).trans h1⟩
theorem retCells_len (rs : List (Int × Int)) : (retCells rs).length = rs.length * 2 := by
  induction rs with
  | nil => rfl
  | cons x r ih =>
    show ([Value.int .i64 x.1, .int .i64 x.2] ++ retCells r).length = _
    rw [List.length_append, ih]
    simp
    omega
theorem own_some {W : World} {base size n c : Nat} {t : TypeId} {A : Option Addr} {xs : List Value} (h : W.ownsRow base t size (.slice A n c) n xs) (hx : 0 < n) : ∃ g, A = some ⟨g, 0, none⟩ ∧ base ≤ g ∧ g < W.heap.size := by
  rcases h.2 with ⟨e1, e2⟩ | ⟨g, cap, cur, e1, _⟩
  · omega
  · injection e1 with e1
    exact ⟨g, e1, h.lt g (by rw [e1]; rfl)⟩

theorem row_fitO {W : World} {base size n c : Nat} {t : TypeId} {A : Option Addr} {xs : List Value} (h : W.ownsRow base t size (.slice A n c) n xs) : n ≤ c := by
  rcases h.2 with ⟨e1, e2⟩ | ⟨g, cap, cur, e1, _, _, hnc, _⟩
  · omega
  · injection e1 with _ _ e3
    omega

set_option maxRecDepth 100000 in
set_option maxHeartbeats 8000000 in
theorem two_form (t n : Int) (A : Option Addr) (c : Nat) (l : List Int) (An : Option Addr) (cn : Nat) (ns : List Int) (x : Int) (w : World) (hw : Tys w) (hA : Ints w A l) (hlen : l.length ≤ 40) (hc : l.length ≤ c) (hN : Ints w An ns) (hsn : ∀ y ∈ ns, Small y) (hnl : ns.length ≤ 60) (hx : Small x) (hk : checkE t n l = 0) :
    Calls Tryd.prog 5 #[stV t n A l.length c, .slice An ns.length cn, .int .i64 x] w (Yes w) := by
  obtain ⟨ht1, ht5, _⟩ := check_ok hk
  obtain ⟨i0, hi0, hz0, hz1, hz2⟩ := info_parts info_op
  have HC := fun W (h : Below w.heap.size w W) => check_any t n A c l W (hA.below h) (by omega)
  rw [hk] at HC
  have hB0 : Below w.heap.size w (w.alloc (.cells #[.int .i64 t, .int .i64 n, .slice A l.length c] 27)) := alloc1 w _
  have HS0 := Lib.hid (Holds.new w 27 #[.int .i64 t, .int .i64 n, .slice A l.length c])
  have HK := mcknown_all _ (hw.on hB0)
  have k0 : decide ((40 : Int) < (l.length : Int)) = false := decide_eq_false (by omega)
  have k1 : decide ((60 : Int) < (ns.length : Int)) = false := decide_eq_false (by omega)
  have HA := Lib.hid hA
  have HN := Lib.hid hN
  unfold stV at *
  clear hA hN
  go_enter Tryd.func5, Tryd.ntmps5
  go_wp2_with fail
  refine HK.mono ?_
  generalize w.alloc (.cells #[.int .i64 t, .int .i64 n, .slice A l.length c] 27) = W0 at *
  rintro e w1 ⟨rfl, hB1⟩
  clear HK
  have hC1 := onto hB0 hB1
  have HS1 := Lib.hid (HS0.out.below hB1 HS0.out.lt)
  have s0 := HS1.out.c (j := 0) rfl
  have s1 := HS1.out.c (j := 1) rfl
  have s2 := HS1.out.c (j := 2) rfl
  clear hB0 hB1 HS0
  go_wp2_with fail
  refine (HC _ hC1).mono ?_
  rintro e w2 ⟨rfl, hB2⟩
  have hC2 := onto hC1 hB2
  have HS2 := Lib.hid (HS1.out.below hB2 HS1.out.lt)
  have HW2 := Lib.hid (hw.on hC2)
  have hl2 : w.heap.size < w2.heap.size := HS2.out.lt
  clear HC s0 s1 s2 HS1 hC1 hB2 k0 k1 hw
  go_wp2
  go_loopw [8, 9] (fun s8 i wr => ∃ (m : Nat) (ops : List Opr), m = ops.length * 3 ∧ m ≤ ns.length ∧ i = .int .i64 m ∧ (∀ o ∈ ops, May t o) ∧ wr.ownsRow w2.heap.size 37 5 s8 ops.length (opCells ops) ∧ Below w2.heap.size w2 wr) (fun s8 i wr => ns.length - (intOf i).toNat)
  case atStart => exact ⟨0, [], rfl, Nat.zero_le _, rfl, fun o h => by (cases h), World.ownsRow_nil _ _ _ _, Below.refl _ _⟩
  case round =>
    obtain ⟨m, ops, hm, hmn, rfl, hmay, ho, hB⟩ := hrel
    have HO := Lib.hid ho
    have HB := Lib.hid hB
    have HM := Lib.hid hmay
    have Hm := Lib.hid hm
    have hCw := onto hC2 hB
    have HSr := Lib.hid (HS2.out.below hB HS2.out.lt)
    clear hmay ho hB hm
    by_cases hlt : m + 2 < ns.length
    · obtain ⟨b, off, rfl, hb, hcell⟩ := HN.out (by omega)
      have hma := fun j (hj : j < ns.length) => hsn _ (List.getElem_mem hj)
      obtain ⟨y0, hy0⟩ : ∃ y, ns[m]?.getD 0 = y := ⟨_, rfl⟩
      obtain ⟨y1, hy1⟩ : ∃ y, ns[m + 1]?.getD 0 = y := ⟨_, rfl⟩
      obtain ⟨y2, hy2⟩ : ∃ y, ns[m + 2]?.getD 0 = y := ⟨_, rfl⟩
      have sm0 : Small y0 := by rw [← hy0, List.getElem?_eq_getElem (by omega)]; exact hma m (by omega)
      have sm1 : Small y1 := by rw [← hy1, List.getElem?_eq_getElem (by omega)]; exact hma (m + 1) (by omega)
      obtain ⟨o, hmo, HMo⟩ := may_any t y0 y1 y2 sm0 sm1 ht1 ht5
      obtain ⟨m1, hm1⟩ : ∃ m1, m1 = m + 1 := ⟨_, rfl⟩
      obtain ⟨m2, hm2⟩ : ∃ m2, m2 = m + 2 := ⟨_, rfl⟩
      have c0 := hcell m (by omega)
      have c1 := hcell (m + 1) (by omega)
      have c2 := hcell (m + 2) (by omega)
      rw [hy0] at c0
      rw [hy1, ← hm1] at c1
      rw [hy2, ← hm2] at c2
      have g0 : (0 : Int) ≤ (m : Int) := by omega
      have g1 : (m : Int) < (ns.length : Int) := by omega
      have g2 : decide ((m : Int) + 2 < (ns.length : Int)) = true := decide_eq_true (by omega)
      have g5 : IntKind.i64.wrap ((m : Int) + 1) = (m1 : Int) := by rw [IntWalk.i64_left]; unfold wrap64; omega
      have g6 : IntKind.i64.wrap ((m : Int) + 2) = (m2 : Int) := by rw [IntWalk.i64_left]; unfold wrap64; omega
      have g7 : (0 : Int) ≤ (m1 : Int) := by omega
      have g8 : (m1 : Int) < (ns.length : Int) := by omega
      have g9 : (0 : Int) ≤ (m2 : Int) := by omega
      have g10 : (m2 : Int) < (ns.length : Int) := by omega
      have HCL : Hid (∀ W, Below w2.heap.size w2 W → W.cell? ⟨b, off + m, none⟩ = some (.int .i64 y0) ∧ W.cell? ⟨b, off + m1, none⟩ = some (.int .i64 y1) ∧ W.cell? ⟨b, off + m2, none⟩ = some (.int .i64 y2) ∧ W.cell? ⟨w.heap.size, 0, none⟩ = some (.int .i64 t)) := Lib.hid fun W h =>
        have h' := onto hC2 h
        ⟨(h'.cell (p := ⟨b, _, none⟩) hb).trans c0, (h'.cell (p := ⟨b, _, none⟩) hb).trans c1, (h'.cell (p := ⟨b, _, none⟩) hb).trans c2, (HS2.out.below h HS2.out.lt).c rfl⟩
      have hol : ops.length ≤ 19 := by have := Hm.out; omega
      clear c0 c1 c2 hcell hma hy0 hy1 hy2 hm1 hm2
      go_wp2_with fail
      refine wp_region_noPanic ?_
      refine wp_region_picked [(0, true), (1, true), (2, true), (3, true), (4, true), (5, true), (6, true), (7, true), (8, true), (9, true), (10, true), (11, true), (12, true), (13, true), (14, true), (15, true), (16, true), (17, false), (18, false), (19, false), (20, true)] (fun W' => Below w2.heap.size w2 W') (by kernel_rfl) (by kernel_rfl) (fun _ _ _ _ _ h => h) HB.out.drew ?_
      iterate 17
        refine Picked.take ?_ (by rfl) (by rfl) ?_ ?_
        rotate_left
        · intro w' hw'
          obtain ⟨d0, d1, d2, d3⟩ := HCL.out w' hw'
          go_simp
          try with_reducible rfl
        simp only [Act.put, List.getElem_toArray, List.getElem_cons_zero, List.getElem_cons_succ, List.setIfInBounds_toArray, List.set_cons_zero, List.set_cons_succ]
      refine Picked.call 15 #[.int .i64 t, .int .i64 y0, .int .i64 y1, .int .i64 y2] (by rfl) (by rfl) (by go_simp) ((HMo _).mono ?_)
      rintro e w3 ⟨rfl, hB3⟩
      have hD3 := HB.out.drew.trans (hB3.mono HB.out.size)
      refine ⟨_, rfl, hD3, ?_⟩
      have hro3 := row_below (row_mid HO.out (fun _ _ _ => rfl) : wr.drew.ownsRow _ _ _ _ _ _) hB3
      clear hB3
      obtain ⟨kd, oa, ob, rk, rn⟩ := o
      unfold opV
      dsimp only
      simp only [Act.put, List.getElem_toArray, List.getElem_cons_zero, List.getElem_cons_succ, List.setIfInBounds_toArray, List.set_cons_zero, List.set_cons_succ]
      refine Picked.make (w1 := w3.alloc (.cells #[.int .i64 kd, .int .i64 oa, .int .i64 ob, .int .i64 rk, .int .i64 rn] 37)) (.slice (some ⟨w3.heap.size, 0, none⟩) 1 1) (by rfl) (by rfl) (by go_simp) (hD3.alloc hD3.size _) ?_
      have hD4 := hD3.alloc hD3.size (.cells #[.int .i64 kd, .int .i64 oa, .int .i64 ob, .int .i64 rk, .int .i64 rn] 37)
      simp only [Act.put, List.getElem_toArray, List.getElem_cons_zero, List.getElem_cons_succ, List.setIfInBounds_toArray, List.set_cons_zero, List.set_cons_succ]
      obtain ⟨v5, w5, hr5, ho5, hg5, _⟩ := run_append_own (P := Tryd.prog) (w3.alloc (.cells #[.int .i64 kd, .int .i64 oa, .int .i64 ob, .int .i64 rk, .int .i64 rn] 37)) w2.heap.size 42 42 37 i0 _ 5 40 Tryd.underlying42 hi0 hz0 hz1 hz2 rfl (by decide) _ _ _ (row_below hro3 (alloc1 w3 (.cells #[.int .i64 kd, .int .i64 oa, .int .i64 ob, .int .i64 rk, .int .i64 rn] 37))) ⟨w3.heap.size, 0, none⟩ 1 1 [.int .i64 kd, .int .i64 oa, .int .i64 ob, .int .i64 rk, .int .i64 rn] rfl (cell_op_new w3 _ _ _ _ _ _) (by simp [Value.oneCell']) (by unfold maxLen; omega) (by omega) hD4.size
      have hD5 : Below w2.heap.size w2 w5 := hD4.grown hg5 hD4.size (fun r e => (hro3.lt r e).1)
      refine Picked.make (w1 := w5) v5 (by rfl) (by rfl) (exec_app _ _ _ _ _ _ rfl rfl rfl hr5) hD5 ?_
      simp only [Act.put, List.getElem_toArray, List.getElem_cons_zero, List.getElem_cons_succ, List.setIfInBounds_toArray, List.set_cons_zero, List.set_cons_succ]
      refine Picked.take v5 (by rfl) (by rfl) (fun w' _ => by go_simp) ?_
      simp only [Act.put, List.getElem_toArray, List.getElem_cons_zero, List.getElem_cons_succ, List.setIfInBounds_toArray, List.set_cons_zero, List.set_cons_succ]
      refine NoPanic.normal ?_
      have HO5 := Lib.hid ho5
      have HB5 := Lib.hid hD5
      have HM5 := Lib.hid (show ∀ q ∈ ops ++ [⟨kd, oa, ob, rk, rn⟩], May t q from fun q hq => by
        rcases List.mem_append.1 hq with h | h
        · exact HM.out q h
        · obtain rfl := List.mem_singleton.1 h; exact hmo)
      clear hr5 ho5 hg5 hD5 hD4 hD3 hro3 HO HB HM HCL HSr hCw
      go_wp2
      go_roundw
      case rel => exact ⟨m + 3, ops ++ [⟨kd, oa, ob, rk, rn⟩], by have := Hm.out; simp; omega, by omega, by go_num, HM5.out, by rw [opCells_snoc, List.length_append]; exact HO5.out, HB5.out⟩
      case measure => simp [intOf]; omega
    · generalize wr = wq at *
      have g2 : decide ((m : Int) + 2 < (ns.length : Int)) = false := decide_eq_false (by omega)
      have hol : ops.length ≤ 20 := by have := Hm.out; omega
      obtain ⟨Ao, co, rfl⟩ := row_slice HO.out
      have hRT := mcrets_any ⟨t, n, l⟩ A c Ao co ops wq (HA.out.below hCw) (oprs_own HO.out) (by dsimp only; omega) hc (fun o ho => (HM.out o ho).1)
      have hall := (may_all ⟨t, n, l⟩ ops HM.out hk).2
      rw [may_rets (s := ⟨t, n, l⟩) HM.out hk] at hRT
      have hrl := rets_len ⟨t, n, l⟩ ops
      generalize retsOf (answers ⟨t, n, l⟩ ops) = rs at *
      unfold RetPost stV at hRT
      dsimp only at hRT
      simp only [hrl] at hRT
      have s0 := HSr.out.c (j := 0) rfl
      have s1 := HSr.out.c (j := 1) rfl
      have s2 := HSr.out.c (j := 2) rfl
      go_wp2_with fail
      refine hRT.mono ?_
      rintro e w3 ⟨Ar, cr, rfl, hor, hB3⟩
      have HR3 := Lib.hid hor
      have HO3 := Lib.hid (row_below HO.out hB3)
      have HB3 := Lib.hid (HB.out.trans (hB3.mono HB.out.size))
      clear hRT s0 s1 s2 hor hB3 g2 hlt
      go_wp2
      go_loopw [12] (fun i W => ∃ (j : Nat) (cur : List Opr), j ≤ ops.length ∧ i = .int .i64 j ∧ cur.length = ops.length ∧ (∀ q, q < j → cur[q]? = (recZ ops rs)[q]?) ∧ (∀ q, j ≤ q → cur[q]? = ops[q]?) ∧ W.ownsRow w2.heap.size 37 5 (.slice Ao ops.length co) ops.length (opCells cur) ∧ W.ownsRow wq.heap.size 29 2 (.slice Ar ops.length cr) ops.length (retCells rs) ∧ Below w2.heap.size w2 W) (fun i W => ops.length - (intOf i).toNat)
      case atStart => exact ⟨0, ops, Nat.zero_le _, rfl, rfl, fun q h => by omega, fun q _ => rfl, HO3.out, HR3.out, HB3.out⟩
      case round =>
        obtain ⟨j, cur, hj, rfl, hcl, hcu, hcd, hoc, hor, hBr⟩ := hrel
        by_cases hjl : j < ops.length
        · have q0 : (0 : Int) ≤ (j : Int) := by omega
          have q1 : (j : Int) < (ops.length : Int) := by omega
          have q2 : decide ((j : Int) < (ops.length : Int)) = true := decide_eq_true q1
          obtain ⟨⟨kd, oa, ob, rk, rn⟩, hoj⟩ : ∃ o, ops[j]? = some o := ⟨_, List.getElem?_eq_getElem hjl⟩
          obtain ⟨⟨x1, x2⟩, hxj⟩ : ∃ o, rs[j]? = some o := ⟨_, List.getElem?_eq_getElem (by omega)⟩
          obtain ⟨g, rfl, hg1, hg2⟩ := own_some hoc (by omega)
          obtain ⟨gr, rfl, hr1, hr2⟩ := own_some hor (by omega)
          have hcj := (hcd j (Nat.le_refl _)).trans hoj
          obtain ⟨_, _, _, e3, e4⟩ := opCells_at cur j _ hcj
          obtain ⟨f0, f1⟩ := retCells_at rs j _ hxj
          have r0 : wr.cell? ⟨gr, j * 2, none⟩ = some (.int .i64 x1) := (hor.cellAt _ (by omega)).trans f0
          have r1 : wr.cell? ⟨gr, j * 2 + 1, none⟩ = some (.int .i64 x2) := (hor.cellAt _ (by omega)).trans f1
          have o3 : wr.cell? ⟨g, j * 5 + 3, none⟩ = some (.int .i64 rk) := (hoc.cellAt _ (by omega)).trans e3
          have o4 : wr.cell? ⟨g, j * 5 + 4, none⟩ = some (.int .i64 rn) := (hoc.cellAt _ (by omega)).trans e4
          have z3 := hoc.frozenAt (j * 5 + 3)
          have z4 := hoc.frozenAt (j * 5 + 4)
          have hglt : g < wq.heap.size := (HO.out.lt g rfl).2
          have HOn := Lib.hid (((hoc.stored (j * 5 + 3) (.int .i64 x1)).1).stored (j * 5 + 4) (.int .i64 x2)).1
          rw [opCells_set cur j _ x1 x2 hcj] at HOn
          have HRn := Lib.hid (ownsRow_setCell_below (ownsRow_setCell_below hor (a := ⟨g, j * 5 + 3, none⟩) hglt (.int .i64 x1)) (a := ⟨g, j * 5 + 4, none⟩) hglt (.int .i64 x2))
          have HBn := Lib.hid ((hBr.setCell (p := ⟨g, j * 5 + 3, none⟩) hg1 (.int .i64 x1)).setCell (p := ⟨g, j * 5 + 4, none⟩) hg1 (.int .i64 x2))
          have HCL := Lib.hid hcl
          have HCU := Lib.hid hcu
          have HCD := Lib.hid hcd
          have HXJ := Lib.hid (rec_at ops rs j _ _ hoj hxj)
          clear hoc hor hBr e3 e4 f0 f1 hcl hcu hcd hcj hoj hxj hg1 hg2 hr1 hr2
          go_wp2
          go_roundw
          case rel =>
            refine ⟨j + 1, _, by omega, by go_num, by rw [List.length_set]; exact HCL.out, fun q hq => ?_, fun q hq => ?_, HOn.out, HRn.out, HBn.out⟩
            · rw [List.getElem?_set]
              by_cases e : j = q
              · subst e
                rw [if_pos rfl, if_pos (by rw [HCL.out]; exact hjl), HXJ.out]
              · rw [if_neg e]; exact HCU.out q (by omega)
            · rw [List.getElem?_set, if_neg (by omega)]; exact HCD.out q (by omega)
          case measure => simp [intOf]; omega
        · have hcur : cur = recZ ops rs := by
            apply List.ext_getElem?
            intro q
            by_cases hq : q < j
            · exact hcu q hq
            · rw [List.getElem?_eq_none (by omega), List.getElem?_eq_none (by rw [rec_len ops rs hrl]; omega)]
          have q2 : decide ((j : Int) < (ops.length : Int)) = false := decide_eq_false (by omega)
          subst hcur
          have HO4 := Lib.hid hoc
          have HB4 := Lib.hid hBr
          have HCL := Lib.hid hcl
          have hsm := rec_small hrl (fun o ho => (HM.out o ho).1)
          have hC4 := onto hC2 hBr
          have HS4 := Lib.hid (HS2.out.below hBr HS2.out.lt)
          clear hoc hor hBr hcu hcd HO HO3 HR3 HB3 HB HSr hCw HM hrl
          generalize recZ ops rs = rec at *
          have hPK := fun W => mcpick_any x ((ops.length : Int) + 1) W hx (by omega) (by omega)
          have hpb := pick_bd x ((ops.length : Int) + 1) (by omega)
          obtain ⟨k, hkp⟩ : ∃ k : Nat, (k : Int) = pick x ((ops.length : Int) + 1) := ⟨(pick x ((ops.length : Int) + 1)).toNat, by omega⟩
          rw [← hkp] at hPK hpb
          have hk2 : k ≤ ops.length := by omega
          clear hkp hpb
          have hRun := fun W (h : Below w2.heap.size w2 W) (hO : Oprs W Ao rec) => mcrun_any ⟨t, n, l⟩ A c Ao co rec W (HA.out.below (onto hC2 h)) hO (by dsimp only; rw [HCL.out]; omega) hc hsm
          have hsplit := List.take_append_drop k rec
          have hall2 := legal_app ⟨t, n, l⟩ (rec.take k) (rec.drop k) (by rw [hsplit]; exact hall)
          have hend2 := end_app ⟨t, n, l⟩ (rec.take k) (rec.drop k)
          rw [hsplit] at hend2
          have hel := end_len ⟨t, n, l⟩ (rec.take k)
          have hel2 := end_len ⟨t, n, l⟩ rec
          have htl : (rec.take k).length = k := by rw [List.length_take, HCL.out]; omega
          have hdl : (rec.drop k).length = ops.length - k := by rw [List.length_drop, HCL.out]
          have hRun1 := fun W (h : Below w2.heap.size w2 W) (hO : Oprs W Ao rec) => mcrun_any ⟨t, n, l⟩ A c Ao co (rec.take k) W (HA.out.below (onto hC2 h)) (oprs_take hO k) (by dsimp only; rw [htl]; omega) hc (fun o ho => hsm o (List.mem_of_mem_take ho))
          have hco : ops.length ≤ co := row_fitO HO4.out
          have hRun2 := fun (A' : Option Addr) (c' : Nat) W (hA' : Ints W A' (endA ⟨t, n, l⟩ (rec.take k)).l) (hc' : (endA ⟨t, n, l⟩ (rec.take k)).l.length ≤ c') (hO : Oprs W Ao rec) => mcrun_any (endA ⟨t, n, l⟩ (rec.take k)) A' c' (subO Ao co k) (co - k) (rec.drop k) W hA' (oprs_drop hO co k (by rw [HCL.out]; exact hco)) (by rw [hdl]; rw [htl] at hel; dsimp only at hel; omega) hc' (fun o ho => hsm o (List.mem_of_mem_drop ho))
          rw [run_legal _ _ hall] at hRun
          rw [run_legal _ _ hall2.1] at hRun1
          rw [run_legal _ _ hall2.2, ← hend2] at hRun2
          unfold RunPost stV at hRun hRun1 hRun2
          dsimp only at hRun hRun1 hRun2 hel hel2
          simp only [HCL.out, htl, hdl] at hRun hRun1 hRun2 hel hel2
          generalize endA ⟨t, n, l⟩ rec = E at *
          generalize endA ⟨t, n, l⟩ (rec.take k) = E1 at *
          obtain ⟨Et, En, El⟩ := E
          obtain ⟨E1t, E1n, E1l⟩ := E1
          dsimp only at hRun hRun1 hRun2 hel hel2
          clear hsplit hall2 hend2 htl hdl hall
          have s0 := HS4.out.c (j := 0) rfl
          have s1 := HS4.out.c (j := 1) rfl
          have s2 := HS4.out.c (j := 2) rfl
          go_wp2_with fail
          refine (hPK _).mono ?_
          rintro e w5 ⟨rfl, rfl⟩
          have HOr := Lib.hid (oprs_own (c := co) (show wr.ownsRow w2.heap.size 37 5 (.slice Ao rec.length co) rec.length (opCells rec) by rw [HCL.out]; exact HO4.out))
          go_wp2_with fail
          refine (hRun _ HB4.out HOr.out).mono ?_
          rintro e w6 ⟨A6, c6, rfl, ho6, hB6⟩
          have HOr6 := Lib.hid ((HOr.out.below hB6).more hB6.size)
          have HB6 := Lib.hid (HB4.out.trans (hB6.mono HB4.out.size))
          have HI6 := Lib.hid (own_ints rfl ho6)
          clear hRun hPK HOr ho6 hB6 s0 s1 s2 HB4 HO4 HS4 hC4
          have HX6 := Lib.hid (Holds.new w6 27 #[.int .i64 Et, .int .i64 En, .slice A6 El.length c6])
          have HB7 := Lib.hid (gro_alloc HB6.out (.cells #[.int .i64 Et, .int .i64 En, .slice A6 El.length c6] 27))
          have HOr7 := Lib.hid ((HOr6.out.below (alloc1 w6 (.cells #[.int .i64 Et, .int .i64 En, .slice A6 El.length c6] 27))).more (alloc1 w6 (.cells #[.int .i64 Et, .int .i64 En, .slice A6 El.length c6] 27)).size)
          have HI7 := Lib.hid (HI6.out.below (alloc1 w6 (.cells #[.int .i64 Et, .int .i64 En, .slice A6 El.length c6] 27)))
          go_wp2_with fail
          generalize w6.alloc (.cells #[.int .i64 Et, .int .i64 En, .slice A6 El.length c6] 27) = W7 at *
          have hs7 := HB7.out.size
          have HS7 := Lib.hid (HS2.out.below HB7.out HS2.out.lt)
          clear HOr6 HB6 HI6
          have h0k : (0 : Int) ≤ (k : Int) := by omega
          have hkco : (k : Int) ≤ (co : Int) := by omega
          refine wp_region_noPanic ?_
          refine wp_region_forked (Plan.takes [0, 1, 2, 3] (.told1 4)) (fun W' => Below W7.heap.size W7 W') (by kernel_rfl) (by kernel_rfl) (fun _ _ _ _ _ h => h) (Below.refl _ _).drew ?_
          unfold Plan.takes Plan.takes Plan.takes Plan.takes Plan.takes
          iterate 4
            refine Forked.take ?_ (by rfl) (by rfl) ?_ ?_
            rotate_left
            · intro w' hw'
              have s0 := (HS7.out.below hw' HS7.out.lt).c (j := 0) rfl
              have s1 := (HS7.out.below hw' HS7.out.lt).c (j := 1) rfl
              have s2 := (HS7.out.below hw' HS7.out.lt).c (j := 2) rfl
              go_simp
              try with_reducible rfl
            simp only [Act.put, List.getElem_toArray, List.getElem_cons_zero, List.getElem_cons_succ, List.setIfInBounds_toArray, List.set_cons_zero, List.set_cons_succ]
          refine told1 (t := E1t) (n := E1n) (m := E1l.length) (u := .int .i64 k) (v := .int .i64 0) (R := fun A' c' W => W.ownsRow W7.heap.size 3 1 (.slice A' E1l.length c') E1l.length (intsOf E1l)) (f := 18) (args := #[.agg #[.int .i64 t, .int .i64 n, .slice A l.length c], .slice Ao k co]) rfl rfl rfl rfl rfl rfl rfl rfl rfl rfl rfl rfl rfl rfl rfl rfl rfl rfl rfl rfl rfl rfl rfl rfl rfl rfl rfl rfl rfl rfl rfl rfl rfl rfl rfl (by intro cs b h; cases h) (by kernel_rfl) (by decide) (by intro d hd; simp at hd ⊢; omega) (fun W => by go_simp) (fun A' c' => lasts_row _ _ _ _ _) (Below.refl _ _).drew ?_ ?_
          · intro W hW
            refine (hRun1 W (HB7.out.trans (hW.mono HB7.out.size)) ((HOr7.out.below hW).more hW.size)).mono ?_
            rintro e W' ⟨A', c', rfl, ho, hB⟩
            exact ⟨A', c', rfl, row_more ho hW.size, hB⟩
          intro X A8 c8 W8 hX HX hr8 hB8
          refine NoPanic.normal ?_
          simp only [parts5, Act.put, List.setIfInBounds_toArray, List.set_cons_zero, List.set_cons_succ]
          have HB8 := Lib.hid (HB7.out.trans (hB8.mono HB7.out.size))
          have HX8 := Lib.hid (HX6.out.below hB8 HX6.out.lt)
          have HY8 := Lib.hid HX
          have HI8 := Lib.hid (HI7.out.below hB8)
          have HJ8 := Lib.hid (own_ints rfl hr8)
          have hc8 := row_fitO hr8
          have HOr8 := Lib.hid ((HOr7.out.below hB8).more hB8.size)
          clear HOr7 HB7 HX6 HI7 HS7 hr8 hB8 hRun1 HX
          have hks : (k : Int) ≤ (ops.length : Int) := by omega
          have hsl : (ops.length : Int) ≤ (co : Int) := by omega
          go_wp2_with fail
          refine wp_region_noPanic ?_
          refine wp_region_forked (Plan.takes [0, 1, 2, 3] (.told1 4)) (fun W' => Below W8.heap.size W8 W') (by kernel_rfl) (by kernel_rfl) (fun _ _ _ _ _ h => h) (Below.refl _ _).drew ?_
          unfold Plan.takes Plan.takes Plan.takes Plan.takes Plan.takes
          iterate 4
            refine Forked.take ?_ (by rfl) (by rfl) ?_ ?_
            rotate_left
            · intro w' hw'
              have s0 := (HY8.out.below hw' HY8.out.lt).c (j := 0) rfl
              have s1 := (HY8.out.below hw' HY8.out.lt).c (j := 1) rfl
              have s2 := (HY8.out.below hw' HY8.out.lt).c (j := 2) rfl
              go_simp
              try with_reducible rfl
            simp only [Act.put, List.getElem_toArray, List.getElem_cons_zero, List.getElem_cons_succ, List.setIfInBounds_toArray, List.set_cons_zero, List.set_cons_succ]
          refine told1 (t := Et) (n := En) (m := El.length) (u := .int .i64 ((ops.length - k : Nat) : Int)) (v := .int .i64 0) (R := fun A' c' W => W.ownsRow W8.heap.size 3 1 (.slice A' El.length c') El.length (intsOf El)) (f := 18) (args := #[.agg #[.int .i64 E1t, .int .i64 E1n, .slice A8 E1l.length c8], .slice (subO Ao co k) (ops.length - k) (co - k)]) rfl rfl rfl rfl rfl rfl rfl rfl rfl rfl rfl rfl rfl rfl rfl rfl rfl rfl rfl rfl rfl rfl rfl rfl rfl rfl rfl rfl rfl rfl rfl rfl rfl rfl rfl (by intro cs b h; cases h) (by kernel_rfl) (by decide) (by intro d hd; simp at hd ⊢; omega) (fun W => by unfold subO; go_simp) (fun A' c' => lasts_row _ _ _ _ _) (Below.refl _ _).drew ?_ ?_
          · intro W hW
            refine (hRun2 A8 c8 W (HJ8.out.below hW) hc8 ((HOr8.out.below hW).more hW.size)).mono ?_
            rintro e W' ⟨A', c', rfl, ho, hB⟩
            exact ⟨A', c', rfl, row_more ho hW.size, hB⟩
          intro X2 A9 c9 W9 hX2 HX2 hr9 hB9
          refine NoPanic.normal ?_
          simp only [parts5, Act.put, List.setIfInBounds_toArray, List.set_cons_zero, List.set_cons_succ]
          have HX9 := Lib.hid (HX8.out.below hB9 HX8.out.lt)
          have HZ9 := Lib.hid HX2
          have hB10 := onto hC2 (HB8.out.trans (hB9.mono HB8.out.size))
          have HQ := samest_any Et En Et En A6 A9 c6 c9 El El W9 (HI8.out.below hB9) (own_ints rfl hr9) (by omega)
          rw [same_iff.2 ⟨rfl, rfl, rfl⟩] at HQ
          unfold stV at HQ
          have e1 : ((ops.length : Int) == (ops.length : Int)) = true := by simp
          have e2 : ((k : Int) == (k : Int)) = true := by simp
          have e3 : (((ops.length - k : Nat) : Int) == (ops.length : Int) - (k : Int)) = true := by rw [beq_iff_eq]; omega
          clear HOr8 HB8 HX8 HI8 HJ8 HY8 hr9 hB9 HX2 hRun2
          have x0 := HX9.out.c (j := 0) rfl
          have x1 := HX9.out.c (j := 1) rfl
          have x2 := HX9.out.c (j := 2) rfl
          have z0 := HZ9.out.c (j := 0) rfl
          have z1 := HZ9.out.c (j := 1) rfl
          have z2 := HZ9.out.c (j := 2) rfl
          go_wp2_with fail
          all_goals
            refine HQ.mono ?_
            rintro e w10 ⟨rfl, hB11⟩
            go_wp2
            go_ret
            exact ⟨rfl, onto hB10 hB11⟩

set_option maxRecDepth 100000 in
set_option maxHeartbeats 4000000 in
theorem two_long (t n : Int) (A : Option Addr) (c : Nat) (l : List Int) (An : Option Addr) (cn : Nat) (ns : List Int) (x : Int) (w : World) (hw : Tys w) (hlen : 40 < l.length ∨ 60 < ns.length) :
    Calls Tryd.prog 5 #[stV t n A l.length c, .slice An ns.length cn, .int .i64 x] w (Yes w) := by
  have hB0 : Below w.heap.size w (w.alloc (.cells #[.int .i64 t, .int .i64 n, .slice A l.length c] 27)) := alloc1 w _
  have HS0 := Lib.hid (Holds.new w 27 #[.int .i64 t, .int .i64 n, .slice A l.length c])
  have HK := mcknown_all _ (hw.on hB0)
  have kd : (decide ((40 : Int) < (l.length : Int)) = true) ∨ (decide ((40 : Int) < (l.length : Int)) = false ∧ decide ((60 : Int) < (ns.length : Int)) = true) := by
    by_cases h : 40 < l.length
    · exact .inl (decide_eq_true (by omega))
    · exact .inr ⟨decide_eq_false (by omega), decide_eq_true (by omega)⟩
  unfold stV
  clear hw hlen
  go_enter Tryd.func5, Tryd.ntmps5
  go_wp2_with fail
  refine HK.mono ?_
  generalize w.alloc (.cells #[.int .i64 t, .int .i64 n, .slice A l.length c] 27) = W0 at *
  rintro e w1 ⟨rfl, hB1⟩
  have hC1 := onto hB0 hB1
  have s2 : w1.cell? ⟨w.heap.size, 2, none⟩ = _ := (HS0.out.below hB1 HS0.out.lt).c rfl
  rcases kd with k0 | ⟨k0, k1⟩
  · go_wp2
    go_ret
    exact ⟨rfl, hC1⟩
  · go_wp2
    go_ret
    exact ⟨rfl, hC1⟩

set_option maxRecDepth 100000 in
set_option maxHeartbeats 4000000 in
theorem two_formless (t n : Int) (A : Option Addr) (c : Nat) (l : List Int) (An : Option Addr) (cn : Nat) (ns : List Int) (x : Int) (w : World) (hw : Tys w) (hA : Ints w A l) (hlen : l.length ≤ 40) (hnl : ns.length ≤ 60) (hk : checkE t n l ≠ 0) :
    Calls Tryd.prog 5 #[stV t n A l.length c, .slice An ns.length cn, .int .i64 x] w (Yes w) := by
  have hB0 : Below w.heap.size w (w.alloc (.cells #[.int .i64 t, .int .i64 n, .slice A l.length c] 27)) := alloc1 w _
  have HS0 := Lib.hid (Holds.new w 27 #[.int .i64 t, .int .i64 n, .slice A l.length c])
  have HK := mcknown_all _ (hw.on hB0)
  have k0 : decide ((40 : Int) < (l.length : Int)) = false := decide_eq_false (by omega)
  have k2 : decide ((60 : Int) < (ns.length : Int)) = false := decide_eq_false (by omega)
  have HC := fun W (h : Below w.heap.size w W) => check_any t n A c l W (hA.below h) (by omega)
  have k1 : (checkE t n l != 0) = true := by simpa using hk
  generalize checkE t n l = ce at *
  unfold stV at *
  clear hw hlen hnl hk hA
  go_enter Tryd.func5, Tryd.ntmps5
  go_wp2_with fail
  refine HK.mono ?_
  generalize w.alloc (.cells #[.int .i64 t, .int .i64 n, .slice A l.length c] 27) = W0 at *
  rintro e w1 ⟨rfl, hB1⟩
  have hC1 := onto hB0 hB1
  have HS1 := HS0.out.below hB1 HS0.out.lt
  have s0 : w1.cell? ⟨w.heap.size, 0, none⟩ = _ := HS1.c rfl
  have s1 : w1.cell? ⟨w.heap.size, 1, none⟩ = _ := HS1.c rfl
  have s2 : w1.cell? ⟨w.heap.size, 2, none⟩ = _ := HS1.c rfl
  go_wp2_with fail
  refine (HC _ hC1).mono ?_
  rintro e w2 ⟨rfl, hB2⟩
  have hC2 := onto hC1 hB2
  go_wp2
  go_ret
  exact ⟨rfl, hC2⟩

theorem two_all (t n : Int) (A : Option Addr) (c : Nat) (l : List Int) (An : Option Addr) (cn : Nat) (ns : List Int) (x : Int) (w : World) (hw : Tys w) (hA : Ints w A l) (hc : l.length ≤ c) (hN : Ints w An ns) (hsn : ∀ y ∈ ns, Small y) (hx : Small x) :
    Calls Tryd.prog 5 #[stV t n A l.length c, .slice An ns.length cn, .int .i64 x] w (Yes w) := by
  by_cases h : l.length ≤ 40 ∧ ns.length ≤ 60
  · by_cases hk : checkE t n l = 0
    · exact two_form t n A c l An cn ns x w hw hA h.1 hc hN hsn h.2 hx hk
    · exact two_formless t n A c l An cn ns x w hw hA h.1 h.2 hk
  · exact two_long t n A c l An cn ns x w hw (by omega)
end Go.Proofs.YtmclpganipfadaaDoor
