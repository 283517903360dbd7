/- Contracts of the layer grammar: the reader; done, op. -/
import Derived.Test.YtpdbkjnaicjfdaaGreatDoorGrC
import Derived.Test.YtpdbkjnaicjfdaaGreatDoorGp
namespace Go.Proofs.YtpdbkjnaicjfdaaGreatDoor
open Go.RowKit Go.Maps
set_option linter.unusedVariables false
set_option maxRecDepth 100000

def opVT (o : OpT) : Value := opV o.1 o.2.1 o.2.2.1 o.2.2.2.1 o.2.2.2.2
def DonePost (x : Rx OpT) (w : World) : Ending → World → Prop := RxPost x (fun o e w' => e = .returned (opVT o) ∧ Below w.heap.size w w') w
def wdsS (l : List Wd) : List ByteArray := l.map fun x => strOfNums x.2

theorem wdsS_len (l : List Wd) : (wdsS l).length = l.length := by simp [wdsS]
theorem words_drop {B : Nat} {w : World} {b off : Nat} {ws : List Wd} {n : Nat} (hb : b < B) (hn : n < ws.length)
    (hc : ∀ j, j < ws.length → w.cell? ⟨b, off + j * 2, none⟩ = some (.string (strOfNums (ws[j]?.getD (0, [])).2)) ∧ w.cell? ⟨b, off + j * 2 + 1, none⟩ = some (.int .i64 (ws[j]?.getD (0, [])).1)) :
    ReadWords B w (some ⟨b, off + n * 2, none⟩) (ws.drop n) := fun _ => ⟨b, off + n * 2, rfl, hb, fun j hj => by
  rw [List.length_drop] at hj
  have h := hc (n + j) (by omega)
  rw [List.getElem?_drop, show off + n * 2 + j * 2 = off + (n + j) * 2 by omega]
  exact h⟩
theorem texts_take2 {ss : List ByteArray} {k : Nat} (h : k < ss.length) : texts (ss.take (k + 1)) = texts (ss.take k) ++ [.string (ss[k]?.getD ⟨#[]⟩)] := by
  rw [List.take_succ_eq_append_getElem h, List.getElem?_eq_getElem h, texts_snoc]
  rfl

set_option maxHeartbeats 4000000 in
theorem done_any (R : Nat) (AT : Option Addr) (cT : Nat) (bs : List Int) (ws : List Wd) (n : Nat) (w : World) (h : Rdr w R AT cT bs ws) (hn : n ≤ ws.length) :
    Calls Tryz.prog 105 #[.pointer (some ⟨R, 0, none⟩), .int .i64 n] w (DonePost (doneX ws n) w) := by
  unfold DonePost
  have hB0 := alloc1 w (.cells #[.int .i64 0, .int .i64 0, .int .i64 0, .int .i64 0, .int .i64 0] 50)
  have HZ := Lib.hid (Holds.new w 50 #[.int .i64 0, .int .i64 0, .int .i64 0, .int .i64 0, .int .i64 0])
  obtain ⟨AW, cW, hbox, hrd⟩ := h.box
  have c1 : w.cell? ⟨R, 1, none⟩ = some (.slice AW ws.length cW) := hbox.c (j := 1) rfl
  have hR := h.lt
  have d1 := (hB0.cell (p := ⟨R, 1, none⟩) hR).trans c1
  obtain ⟨b, off, rfl, hb, hc⟩ := hrd h.fine.pos
  have hcap := h.cap hbox
  have hfine := h.fine
  have hn0 : (0 : Int) ≤ (n : Int) := by omega
  have hn1 : (n : Int) ≤ (ws.length : Int) := by omega
  have hn2 : (n : Int) ≤ (cW : Int) := by omega
  have hn3 : (ws.length : Int) ≤ (cW : Int) := by omega
  have HST := Lib.hid (fun W (hB : Below w.heap.size w W) (er : Int) (k : Nat) => stop_any R AT cT bs ws er k W (h.below hB))
  have hx : doneX ws n = if (rdO ws n).2.2 ≠ 0 then stopX ws (rdO ws n).2.2 (n + (rdO ws n).2.1.toNat) else .ok (rdO ws n).1 := rfl
  have HX := Lib.hid hx
  have hRO : readP (wdsS (ws.drop n)) = rdO ws n := rfl
  have hfail := read_fail (wdsS (ws.drop n))
  rw [hRO] at hfail
  have hml : (wdsS (ws.drop n)).length = ws.length - n := by rw [wdsS_len, List.length_drop]
  have hsz : ∀ s ∈ wdsS (ws.drop n), s.size ≤ maxLen := by
    intro s hs
    obtain ⟨x, hx, rfl⟩ := List.mem_map.1 hs
    rw [strOfNums_size]
    have := hfine.size x (List.mem_of_mem_drop hx)
    unfold maxLen; omega
  have hfew := hfine.few
  have HRD := Lib.hid (fun A c W hA => op_read_any A c (wdsS (ws.drop n)) W hA (by rw [hml]; omega) hsz)
  rw [hRO] at HRD
  have hget : ∀ k, k < ws.length - n → (wdsS (ws.drop n))[k]?.getD ⟨#[]⟩ = strOfNums ((ws.drop n)[k]?.getD (0, [])).2 := by
    intro k hk
    unfold wdsS
    rw [List.getElem?_map, List.getElem?_eq_getElem (by rw [List.length_drop]; exact hk)]
    rfl
  have HGET := Lib.hid hget
  generalize hss : wdsS (ws.drop n) = ss at *
  obtain ⟨⟨⟨o1, o2, o3, o4, o5⟩, op, oe⟩, hr⟩ : ∃ r : Res, rdO ws n = r := ⟨_, rfl⟩
  rw [hr] at HX HRD hfail
  dsimp only at HX hfail
  have HFAIL := Lib.hid hfail
  have hbw : ∀ k, k < ws.length - n → k < (ws.drop n).length := fun k hk => by rw [List.length_drop]; exact hk
  have HBW := Lib.hid hbw
  have hA1 : n < ws.length → ReadWords w.heap.size w (some ⟨b, off + n * 2, none⟩) (ws.drop n) := fun hlt => words_drop hb hlt hc
  have hA2 : ReadWords w.heap.size w (if cW = n then some ⟨b, off, none⟩ else some ⟨b, off + n * 2, none⟩) (ws.drop n) := by
    by_cases hlt : n < ws.length
    · rw [if_neg (by omega)]; exact hA1 hlt
    · intro hp
      rw [List.length_drop] at hp
      omega
  have HA2 := Lib.hid hA2
  clear hx hRO hr hss hget hsz hfail hc hA1 hA2 hbw hrd hbox h hfine
  obtain ⟨i0, hi, hz0, hz1, hz2⟩ := info_parts info_str
  obtain ⟨m, hm⟩ : ∃ m, ws.length - n = m := ⟨_, rfl⟩
  rw [hm] at hml
  rw [hm] at HGET HBW
  have hmb : m ≤ 8000 := by omega
  go_enter Tryz.func105, Tryz.ntmps105
  have hl0 := HZ.out.lt
  by_cases hcw : cW = n
  · rw [if_pos hcw] at HA2
    go_wp2_with fail
    generalize w.alloc (.cells #[.int .i64 0, .int .i64 0, .int .i64 0, .int .i64 0, .int .i64 0] 50) = W0 at *
    go_loopw [5, 18] (fun s5 i18 wr => ∃ (k : Nat) (q : Value), k ≤ m ∧ i18 = .int .i64 k ∧ s5 = q ∧ wr.ownsRow W0.heap.size 9 1 q k (texts (ss.take k)) ∧ Below W0.heap.size W0 wr) (fun s5 i18 wr => m - (intOf i18).toNat)
    case atStart => exact ⟨0, .slice none 0 0, Nat.zero_le _, rfl, rfl, World.ownsRow_nil _ _ _ _, Below.refl _ _⟩
    case round =>
      obtain ⟨k, q, hk, rfl, rfl, hrow, hB⟩ := hrel
      have hwr := hB.size
      have HROW := Lib.hid hrow
      obtain ⟨A', c', hq⟩ := row_one hrow
      subst hq
      have hBw := nxt hB0 hB hB0.size
      have HBW2 := Lib.hid hBw
      clear hrow
      by_cases hlt : k < m
      · exfalso; omega
      · have kd : decide (k < m) = false := decide_eq_false hlt
        have hkk : k = m := by omega
        subst hkk
        have hS : Strs wr.heap.size wr A' ss := by
          have hr := HROW.out
          rw [List.take_of_length_le (by omega)] at hr
          have e : ss.length = k := hml
          rw [← e] at hr
          exact strs_of_row hr
        have HZ1 := Lib.hid (HZ.out.below hB hl0)
        have HS := Lib.hid hS
        have hl1 := HZ1.out.lt
        have HRD1 := Lib.hid (HRD.out A' c' wr hS)
        rw [hml] at HRD1
        clear hS
        go_wp2_with fail
        refine HRD1.out.mono ?_
        rintro e w2 ⟨rfl, hB2⟩
        unfold resV
        dsimp only
        unfold opV
        have hB2' := nxt HBW2.out hB2 HBW2.out.size
        have HZ2 := Lib.hid (HZ1.out.below hB2 HZ1.out.lt)
        have hl2 := HZ2.out.lt
        by_cases hoe : oe = 0
        · subst hoe
          have hB3 := alloc1 w2 (.cells #[.int .i64 o1, .int .i64 o2, .int .i64 o3, .int .i64 o4, .int .i64 o5] 50)
          have HX3 := Lib.hid (Holds.new w2 50 #[.int .i64 o1, .int .i64 o2, .int .i64 o3, .int .i64 o4, .int .i64 o5])
          have HZ3 := Lib.hid (HZ2.out.below hB3 HZ2.out.lt)
          have hB3' := nxt hB2' hB3 hB2'.size
          have hx2 : doneX ws n = .ok (o1, o2, o3, o4, o5) := HX.out
          have HX2 := Lib.hid hx2
          clear hx2
          go_upto_region 10 with fail
          generalize w2.alloc (.cells #[.int .i64 o1, .int .i64 o2, .int .i64 o3, .int .i64 o4, .int .i64 o5] 50) = W3 at *
          have x0 := HX3.out.c (j := 0) rfl
          have x1 := HX3.out.c (j := 1) rfl
          have x2 := HX3.out.c (j := 2) rfl
          have x3 := HX3.out.c (j := 3) rfl
          have x4 := HX3.out.c (j := 4) rfl
          have z0 := HZ3.out.c (j := 0) rfl
          have z1 := HZ3.out.c (j := 1) rfl
          have z2 := HZ3.out.c (j := 2) rfl
          have z3 := HZ3.out.c (j := 3) rfl
          have z4 := HZ3.out.c (j := 4) rfl
          have y0 := HZ3.out.frozen
          go_wp2
          have g := ((((HZ3.out.set 0 (.int .i64 o1)).set 1 (.int .i64 o2)).set 2 (.int .i64 o3)).set 3 (.int .i64 o4)).set 4 (.int .i64 o5)
          simp only [List.setIfInBounds_toArray, List.set_cons_zero, List.set_cons_succ] at g
          have o : Only w.heap.size W3 (((((W3.setCell ⟨w.heap.size, 0, none⟩ (.int .i64 o1)).setCell ⟨w.heap.size, 1, none⟩ (.int .i64 o2)).setCell ⟨w.heap.size, 2, none⟩ (.int .i64 o3)).setCell ⟨w.heap.size, 3, none⟩ (.int .i64 o4)).setCell ⟨w.heap.size, 4, none⟩ (.int .i64 o5)) := (((((Only.of (Below.refl W3.heap.size W3) (Nat.le_refl _)).set 0 _).set 1 _).set 2 _).set 3 _).set 4 _
          have hb9 : Below w.heap.size w _ := hB3'.trans (o.below (Nat.le_refl _) hB3'.size)
          generalize ((((W3.setCell ⟨w.heap.size, 0, none⟩ (.int .i64 o1)).setCell ⟨w.heap.size, 1, none⟩ (.int .i64 o2)).setCell ⟨w.heap.size, 2, none⟩ (.int .i64 o3)).setCell ⟨w.heap.size, 3, none⟩ (.int .i64 o4)).setCell ⟨w.heap.size, 4, none⟩ (.int .i64 o5) = W9 at *
          have k0 := g.c (j := 0) rfl
          have k1 := g.c (j := 1) rfl
          have k2 := g.c (j := 2) rfl
          have k3 := g.c (j := 3) rfl
          have k4 := g.c (j := 4) rfl
          refine bodyPost_ret (v := .agg #[.int .i64 o1, .int .i64 o2, .int .i64 o3, .int .i64 o4, .int .i64 o5]) (by simp [results, Tryz.f105, go_sem, k0, k1, k2, k3, k4]) rfl ?_
          rw [HX2.out]
          exact ⟨rfl, hb9⟩
        · have hbn : (oe != 0) = true := by rw [bne_iff_ne]; exact hoe
          obtain ⟨_, a1, a2⟩ := HFAIL.out hoe
          obtain ⟨at', rfl⟩ := Int.eq_ofNat_of_zero_le a1
          have hx2 : doneX ws n = stopX ws oe (n + at') := HX.out.trans (if_pos hoe)
          have HX2 := Lib.hid hx2
          have a3 : at' ≤ 8000 := by omega
          have hnn : n ≤ 8000 := by omega
          have hadd : (n : Int) + (at' : Int) = ((n + at' : Nat) : Int) := by omega
          have HST3 := Lib.hid (HST.out (w2.alloc (.cells #[.int .i64 o1, .int .i64 o2, .int .i64 o3, .int .i64 o4, .int .i64 o5] 50)) (nxt hB2' (alloc1 w2 _) hB2'.size) oe (n + at'))
          have hB3' := nxt hB2' (alloc1 w2 (.cells #[.int .i64 o1, .int .i64 o2, .int .i64 o3, .int .i64 o4, .int .i64 o5] 50)) hB2'.size
          generalize hsum : n + at' = na at *
          clear hx2
          go_wp2_with fail
          refine HST3.out.mono ?_
          rintro e w4 ⟨rfl, hB4⟩
          go_wp2
          rw [HX2.out]
          exact ⟨rfl, rfl, nxt hB3' hB4 hB3'.size⟩
  · rw [if_neg hcw] at HA2
    go_wp2_with fail
    generalize w.alloc (.cells #[.int .i64 0, .int .i64 0, .int .i64 0, .int .i64 0, .int .i64 0] 50) = W0 at *
    go_loopw [5, 18] (fun s5 i18 wr => ∃ (k : Nat) (q : Value), k ≤ m ∧ i18 = .int .i64 k ∧ s5 = q ∧ wr.ownsRow W0.heap.size 9 1 q k (texts (ss.take k)) ∧ Below W0.heap.size W0 wr) (fun s5 i18 wr => m - (intOf i18).toNat)
    case atStart => exact ⟨0, .slice none 0 0, Nat.zero_le _, rfl, rfl, World.ownsRow_nil _ _ _ _, Below.refl _ _⟩
    case round =>
      obtain ⟨k, q, hk, rfl, rfl, hrow, hB⟩ := hrel
      have hwr := hB.size
      have HROW := Lib.hid hrow
      obtain ⟨A', c', hq⟩ := row_one hrow
      subst hq
      have hBw := nxt hB0 hB hB0.size
      have HBW2 := Lib.hid hBw
      clear hrow
      by_cases hlt : k < m
      · obtain ⟨b2, off2, e2, hb2, hc2⟩ := HA2.out.below hBw (by have := HBW.out k hlt; omega)
        cases e2
        have ck := (hc2 k (HBW.out k hlt)).1
        rw [← HGET.out k hlt] at ck
        have ck2 := (hc2 k (HBW.out k hlt)).2
        have hst := texts_take2 (show k < ss.length by omega)
        obtain ⟨s, hs⟩ : ∃ s, ss[k]?.getD ⟨#[]⟩ = s := ⟨_, rfl⟩
        rw [hs] at ck hst
        obtain ⟨pp, hpp⟩ : ∃ pp, ((ws.drop n)[k]?.getD (0, [])).1 = pp := ⟨_, rfl⟩
        rw [hpp] at ck2
        have HST2 := Lib.hid hst
        have k0 : (0 : Int) ≤ (k : Int) := by omega
        have k1 : (k : Int) < (m : Int) := by omega
        have kd : decide (k < m) = true := decide_eq_true hlt
        clear hs hst hc2 hpp
        go_wp2_with (at_builtin; refine wpList_append_own_at _ rfl _ _ 32 rfl W0.heap.size 9 i0 (.string ⟨#[]⟩) 1 16 Tryz.underlying32 hi hz0 hz1 hz2 rfl (by decide) _ _ _ rfl ((HROW.out.alloc _).alloc _) ⟨wr.heap.size + 1, 0, none⟩ 1 1 [.string s] rfl rfl (by have := cell_one (wr.alloc (.cells #[.string s, .int .i64 pp] 144)) 9 (.string s); rw [World.size_alloc] at this; exact this) (by intro u hu; simp at hu; subst hu; rfl) (by unfold maxLen; omega) (by omega) (by simp; omega) ?_; intro v5 w5 hown5 hg5 hnil5 hat5)
        go_roundw
        case rel =>
          refine ⟨k + 1, v5, by omega, by go_num, rfl, ?_, ?_⟩
          · rw [HST2.out]; exact hown5
          · exact ((hB.alloc hwr _).alloc (by simp; omega) _).grown hg5 (by simp; omega) (fun k e => ((HROW.out.lt k e).1))
        case measure => simp [intOf]; omega
      · have kd : decide (k < m) = false := decide_eq_false hlt
        have hkk : k = m := by omega
        subst hkk
        have hS : Strs wr.heap.size wr A' ss := by
          have hr := HROW.out
          rw [List.take_of_length_le (by omega)] at hr
          have e : ss.length = k := hml
          rw [← e] at hr
          exact strs_of_row hr
        have HZ1 := Lib.hid (HZ.out.below hB hl0)
        have HS := Lib.hid hS
        have hl1 := HZ1.out.lt
        have HRD1 := Lib.hid (HRD.out A' c' wr hS)
        rw [hml] at HRD1
        clear hS
        go_wp2_with fail
        refine HRD1.out.mono ?_
        rintro e w2 ⟨rfl, hB2⟩
        unfold resV
        dsimp only
        unfold opV
        have hB2' := nxt HBW2.out hB2 HBW2.out.size
        have HZ2 := Lib.hid (HZ1.out.below hB2 HZ1.out.lt)
        have hl2 := HZ2.out.lt
        by_cases hoe : oe = 0
        · subst hoe
          have hB3 := alloc1 w2 (.cells #[.int .i64 o1, .int .i64 o2, .int .i64 o3, .int .i64 o4, .int .i64 o5] 50)
          have HX3 := Lib.hid (Holds.new w2 50 #[.int .i64 o1, .int .i64 o2, .int .i64 o3, .int .i64 o4, .int .i64 o5])
          have HZ3 := Lib.hid (HZ2.out.below hB3 HZ2.out.lt)
          have hB3' := nxt hB2' hB3 hB2'.size
          have hx2 : doneX ws n = .ok (o1, o2, o3, o4, o5) := HX.out
          have HX2 := Lib.hid hx2
          clear hx2
          go_upto_region 10 with fail
          generalize w2.alloc (.cells #[.int .i64 o1, .int .i64 o2, .int .i64 o3, .int .i64 o4, .int .i64 o5] 50) = W3 at *
          have x0 := HX3.out.c (j := 0) rfl
          have x1 := HX3.out.c (j := 1) rfl
          have x2 := HX3.out.c (j := 2) rfl
          have x3 := HX3.out.c (j := 3) rfl
          have x4 := HX3.out.c (j := 4) rfl
          have z0 := HZ3.out.c (j := 0) rfl
          have z1 := HZ3.out.c (j := 1) rfl
          have z2 := HZ3.out.c (j := 2) rfl
          have z3 := HZ3.out.c (j := 3) rfl
          have z4 := HZ3.out.c (j := 4) rfl
          have y0 := HZ3.out.frozen
          go_wp2
          have g := ((((HZ3.out.set 0 (.int .i64 o1)).set 1 (.int .i64 o2)).set 2 (.int .i64 o3)).set 3 (.int .i64 o4)).set 4 (.int .i64 o5)
          simp only [List.setIfInBounds_toArray, List.set_cons_zero, List.set_cons_succ] at g
          have o : Only w.heap.size W3 (((((W3.setCell ⟨w.heap.size, 0, none⟩ (.int .i64 o1)).setCell ⟨w.heap.size, 1, none⟩ (.int .i64 o2)).setCell ⟨w.heap.size, 2, none⟩ (.int .i64 o3)).setCell ⟨w.heap.size, 3, none⟩ (.int .i64 o4)).setCell ⟨w.heap.size, 4, none⟩ (.int .i64 o5)) := (((((Only.of (Below.refl W3.heap.size W3) (Nat.le_refl _)).set 0 _).set 1 _).set 2 _).set 3 _).set 4 _
          have hb9 : Below w.heap.size w _ := hB3'.trans (o.below (Nat.le_refl _) hB3'.size)
          generalize ((((W3.setCell ⟨w.heap.size, 0, none⟩ (.int .i64 o1)).setCell ⟨w.heap.size, 1, none⟩ (.int .i64 o2)).setCell ⟨w.heap.size, 2, none⟩ (.int .i64 o3)).setCell ⟨w.heap.size, 3, none⟩ (.int .i64 o4)).setCell ⟨w.heap.size, 4, none⟩ (.int .i64 o5) = W9 at *
          have k0 := g.c (j := 0) rfl
          have k1 := g.c (j := 1) rfl
          have k2 := g.c (j := 2) rfl
          have k3 := g.c (j := 3) rfl
          have k4 := g.c (j := 4) rfl
          refine bodyPost_ret (v := .agg #[.int .i64 o1, .int .i64 o2, .int .i64 o3, .int .i64 o4, .int .i64 o5]) (by simp [results, Tryz.f105, go_sem, k0, k1, k2, k3, k4]) rfl ?_
          rw [HX2.out]
          exact ⟨rfl, hb9⟩
        · have hbn : (oe != 0) = true := by rw [bne_iff_ne]; exact hoe
          obtain ⟨_, a1, a2⟩ := HFAIL.out hoe
          obtain ⟨at', rfl⟩ := Int.eq_ofNat_of_zero_le a1
          have hx2 : doneX ws n = stopX ws oe (n + at') := HX.out.trans (if_pos hoe)
          have HX2 := Lib.hid hx2
          have a3 : at' ≤ 8000 := by omega
          have hnn : n ≤ 8000 := by omega
          have hadd : (n : Int) + (at' : Int) = ((n + at' : Nat) : Int) := by omega
          have HST3 := Lib.hid (HST.out (w2.alloc (.cells #[.int .i64 o1, .int .i64 o2, .int .i64 o3, .int .i64 o4, .int .i64 o5] 50)) (nxt hB2' (alloc1 w2 _) hB2'.size) oe (n + at'))
          have hB3' := nxt hB2' (alloc1 w2 (.cells #[.int .i64 o1, .int .i64 o2, .int .i64 o3, .int .i64 o4, .int .i64 o5] 50)) hB2'.size
          generalize hsum : n + at' = na at *
          clear hx2
          go_wp2_with fail
          refine HST3.out.mono ?_
          rintro e w4 ⟨rfl, hB4⟩
          go_wp2
          rw [HX2.out]
          exact ⟨rfl, rfl, nxt hB3' hB4 hB3'.size⟩
end Go.Proofs.YtpdbkjnaicjfdaaGreatDoor
