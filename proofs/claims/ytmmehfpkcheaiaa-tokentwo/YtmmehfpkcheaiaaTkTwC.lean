/- TokenTwo, walked. -/
import Derived.Test.YtmmehfpkcheaiaaTkTwA
import Derived.Test.YtmmehfpkcheaiaaTkTwB
import Derived.Test.YtmmehfpkcheaiaaTkX
import Derived.Test.YtmmehfpkcheaiaaTkTwH
import Derived.Deep.RegionHeld3
import Derived.Deep.AppendLies
namespace Go.Proofs.Ytmmehfpkcheaiaa
open Go.RowKit
set_option linter.unusedVariables false

/-- While lines are put behind others. -/
structure TwoI (w W8 : World) (lo : Nat) (ls : List Ln) (vl : Value) (wr : World) : Prop where
  own : OwnLines wr w.heap.size vl ls
  loc : ∀ g, vl.ownBlock = some g → g < lo ∨ W8.heap.size ≤ g
  mid : ∀ B, lo ≤ B → B < W8.heap.size → wr.heap[B]? = W8.heap[B]?
  below : Below w.heap.size w wr
  size : W8.heap.size ≤ wr.heap.size

theorem OwnLines.at {W : World} {base n c : Nat} {A : Option Addr} {ls : List Ln} (h : OwnLines W base (.slice A n c) ls) : ReadLines W.heap.size W A ls := by
  obtain ⟨A', c', e, hr⟩ := h.read
  cases e; exact hr

theorem TwoI.next {w W8 : World} {lo : Nat} {ls : List Ln} {vl : Value} {wr wx : World} (h : TwoI w W8 lo ls vl wr) (hb : Below wr.heap.size wr wx) : TwoI w W8 lo ls vl wx :=
  ⟨h.own.below hb, h.loc, fun B h1 h2 => (hb.block B (by have := h.size; omega)).trans (h.mid B h1 h2), h.below.trans (hb.mono h.below.size), Nat.le_trans h.size hb.size⟩

theorem ownsRow_drew {W : World} {base : Nat} {e : TypeId} {size n : Nat} {v : Value} {xs : List Value} (h : W.ownsRow base e size v n xs) : W.drew.ownsRow base e size v n xs := h

theorem pair_set1 {W : World} {B : Nat} {t : TypeId} {a b : Value} (h : Pair2 W B t a b) (u : Value) : Pair2 (W.setCell ⟨B, 1, none⟩ u) B t a u := heap_setCell_same W B 1 #[a, b] t u h

theorem pair_far {W w1 : World} {B : Nat} {t e : TypeId} {a b v : Value} {n k size : Nat} {xs : List Value} (h : Pair2 W B t a b) (hte : t ≠ e) (hr : W.ownsRow n e size v k xs) (hg : W.grownBy w1 v.ownBlock) : Pair2 w1 B t a b ∧ some B ≠ v.ownBlock := by
  have hne : some B ≠ v.ownBlock := by
    rcases hr.2 with ⟨rfl, _⟩ | ⟨g, cap, cur, rfl, _, hgb, _⟩
    · simp [Value.ownBlock]
    · intro e'
      obtain rfl : B = g := by simpa [Value.ownBlock] using e'
      have := (show W.heap[B]? = _ from h).symm.trans hgb
      simp at this
      exact hte this.2
  exact ⟨h.of (hg.block B h.lt hne), hne⟩

set_option maxHeartbeats 8000000 in
set_option maxRecDepth 10000 in
theorem two_law (A : Option Addr) (c : Nat) (aa : List Int) (Ab : Option Addr) (cb : Nat) (bb : List Int) (w : World) (hA : Bytes w A aa) (ho : Octets aa) (hm : aa.length ≤ maxLen) (hnil : A = none → c = 0)
    (hAb : Bytes w Ab bb) (hob : Octets bb) (hcb : bb.length ≤ cb) (hmb : bb.length ≤ maxLen) (hnilb : Ab = none → cb = 0) :
    Calls Try.prog 7 #[.slice A aa.length c, .slice Ab bb.length cb] w (Yes w) := by
  unfold maxLen at hm hmb
  by_cases hlong : 500 < aa.length ∨ 500 < bb.length
  · have hcond : decide ((500 : Int) < (aa.length : Int)) = true ∨ (decide ((500 : Int) < (aa.length : Int)) = false ∧ decide ((500 : Int) < (bb.length : Int)) = true) := by
      rcases Nat.lt_or_ge 500 aa.length with h | h
      · exact .inl (decide_eq_true (by omega))
      · exact .inr ⟨decide_eq_false (by omega), decide_eq_true (by omega)⟩
    clear hA hAb ho hob hnil hnilb
    rcases hcond with h1 | ⟨h1, h2⟩
    all_goals
      go_enter Try.func7, Try.ntmps7
      go_wp2_with fail
      refine (awake_yes _).mono ?_
      rintro e w1 ⟨rfl, hB1⟩
      go_wp2
      go_ret
      exact ⟨rfl, hB1⟩
  · have hla : aa.length ≤ 500 := by omega
    have hlb : bb.length ≤ 500 := by omega
    have h1 : decide ((500 : Int) < (aa.length : Int)) = false := decide_eq_false (by omega)
    have h2 : decide ((500 : Int) < (bb.length : Int)) = false := decide_eq_false (by omega)
    obtain ⟨i0, hi, hz0, hz1, hz2⟩ := info_parts info_u8
    have HA := Lib.hid hA
    have HAb := Lib.hid hAb
    have HN := Lib.hid hnil
    have HNb := Lib.hid hnilb
    have HOa : Hid (Octets (aa ++ [10])) := Lib.hid (fun x hx => by
      rcases List.mem_append.1 hx with h | h
      · exact ho x h
      · simp at h; omega)
    have HOb := Lib.hid hob
    clear hA hAb ho hob hnil hnilb hlong hm hmb
    go_enter Try.func7, Try.ntmps7
    go_wp2_with fail
    refine (awake_yes _).mono ?_
    rintro e w1 ⟨rfl, hB1⟩
    have hs1 := hB1.size
    go_wp2_with fail
    refine (copy_any A c aa w1 (HA.out.below (B := 0) hB1) (by omega) HN.out).mono ?_
    rintro e w2 ⟨g0, cap0, rfl, hown0, hB2⟩
    have HRow0 := Lib.hid hown0
    have hs2 := hB2.size
    replace hB2 := Below.next hB1 hB2 (Nat.le_refl _)
    clear hown0
    go_wp2_with (at_builtin; refine wpList_append_own _ rfl _ _ 22 rfl w1.heap.size 5 i0 (.int .u8 0) 1 1 Try.underlying22 hi hz0 hz1 hz2 rfl (by decide) _ _ _ rfl (HRow0.out.alloc _) ⟨w2.heap.size, 0, none⟩ 1 1 [.int .u8 10] rfl rfl (cell_one_new _ _ _) (by simp [Value.oneCell']) (by unfold maxLen; omega) (by omega) (by simp; omega) ?_; intro v1 w3 hown1 hg1 hn1; obtain ⟨g1, cap1, rfl⟩ := ownsRow_succ hown1; have hcap1 := row_cap hown1)
    obtain ⟨n1, hn1'⟩ : ∃ n1, aa.length + 1 = n1 := ⟨_, rfl⟩
    rw [hn1'] at hown1 hcap1
    rw [hn1']
    obtain ⟨a1, ha1⟩ : ∃ a1, aa ++ [10] = a1 := ⟨_, rfl⟩
    have hl1 : a1.length = n1 := by rw [← ha1, ← hn1']; simp
    have hown1' : w3.ownsRow w1.heap.size 5 1 (.slice (some ⟨g1, 0, none⟩) n1 cap1) n1 (bytesOf a1) := by rw [← ha1]; simpa [bytesOf] using hown1
    have hB3 : Below w.heap.size w w3 := (hB2.alloc hB2.size _).grown hg1 (by have := hB2.size; simp; omega) (fun k e => by have := (HRow0.out.lt k e).1; omega)
    have HRow1 := Lib.hid hown1'
    rw [ha1] at HOa
    have hnn : n1 ≤ 501 := by omega
    have HN1 := Lib.hid hn1'
    have HA1 := Lib.hid ha1
    have HL1 := Lib.hid hl1
    have hs3 := hB3.size
    clear hown1 hown1' hn1' ha1 hl1 hg1 hn1
    have HLa := Lib.hid (lines_any (some ⟨g1, 0, none⟩) cap1 a1 w3 (bytes_own HRow1.out) HOa.out (by rw [HL1.out]; exact hcap1) (by rw [HL1.out]; unfold maxLen; omega))
    unfold LinesPost at HLa
    rw [HL1.out] at HLa
    generalize hEa : textE a1 = Ea at *
    generalize hPa : textP a1 = Pa at *
    have HEa := Lib.hid hEa
    have HPa := Lib.hid hPa
    clear hEa hPa
    refine HLa.out.mono ?_
    rintro e w4 ⟨vl, rfl, hownl, hB4⟩
    have HRow1' := Lib.hid (row_below HRow1.out hB4)
    have hs4 := hB4.size
    replace hB4 := Below.next hB3 hB4 (Nat.le_refl _)
    have HOl := Lib.hid hownl
    obtain ⟨Al, cl, el, _⟩ := hownl.read
    subst el
    clear hownl
    obtain ⟨W4, hW4⟩ : ∃ W4, w4.alloc (.cells #[.int .i64 Ea, .int .i64 Pa] 28) = W4 := ⟨_, rfl⟩
    have hB44 : Below w4.heap.size w4 W4 := by rw [← hW4]; exact (Below.refl _ _).alloc (Nat.le_refl _) _
    have hsW4 : W4.heap.size = w4.heap.size + 1 := by rw [← hW4]; simp
    have pF : Pair2 W4 w4.heap.size 28 (.int .i64 Ea) (.int .i64 Pa) := by rw [← hW4]; exact Pair2.new w4 _ _ _
    have hBW4 := hB4.trans (hB44.mono (by omega))
    have HLb := Lib.hid (lines_any Ab cb bb W4 (HAb.out.below (B := 0) hBW4) HOb.out hcb (by unfold maxLen; omega))
    unfold LinesPost at HLb
    generalize hEb : textE bb = Eb at *
    generalize hPb : textP bb = Pb at *
    have HEb := Lib.hid hEb
    have HPb := Lib.hid hPb
    clear hEb hPb
    go_wp2_with fail
    refine HLb.out.mono ?_
    rintro e w5 ⟨vm, rfl, hownm, hB5⟩
    have hs5 := hB5.size
    have HOm := Lib.hid hownm
    obtain ⟨Am, cm, em, _⟩ := hownm.read
    subst em
    clear hownm hW4
    obtain ⟨W5, hW5⟩ : ∃ W5, w5.alloc (.cells #[.int .i64 Eb, .int .i64 Pb] 28) = W5 := ⟨_, rfl⟩
    have hB55 : Below w5.heap.size w5 W5 := by rw [← hW5]; exact (Below.refl _ _).alloc (Nat.le_refl _) _
    have hsW5 : W5.heap.size = w5.heap.size + 1 := by rw [← hW5]; simp
    have pG : Pair2 W5 w5.heap.size 28 (.int .i64 Eb) (.int .i64 Pb) := by rw [← hW5]; exact Pair2.new w5 _ _ _
    have hB45 : Below W4.heap.size W4 W5 := hB5.trans (hB55.mono (by omega))
    have hB4w : Below w4.heap.size w4 W5 := hB44.trans (hB45.mono (by omega))
    have hBW5 := hBW4.trans (hB45.mono (by omega))
    have HOm5 := Lib.hid (HOm.out.below hB55)
    have HRow5 := Lib.hid (row_below HRow1'.out hB4w)
    have HOl5 := Lib.hid (HOl.out.below hB4w)
    have pF5 := pF.of (hB45.block _ (by omega))
    have HCp := Lib.hid (copy_any (some ⟨g1, 0, none⟩) cap1 a1 W5 (bytes_own HRow5.out) (by rw [HL1.out]; omega) (fun e => by cases e))
    unfold CopyPost at HCp
    rw [HL1.out] at HCp
    clear pF hB44 hB5 hB55 hB4w
    go_wp2_with fail
    refine HCp.out.mono ?_
    rintro e w6 ⟨g2, cap2, rfl, hown2, hB6⟩
    have HRow2 := Lib.hid hown2
    have hs6 := hB6.size
    have hBw6 := hBW5.trans (hB6.mono (by omega))
    have HSrc := Lib.hid (bytes_src2 (HAb.out.b.below hBw6))
    clear hown2 hW5
    go_wp2_with (at_builtin; refine wpList_append_src _ rfl _ _ 22 rfl W5.heap.size 5 i0 (.int .u8 0) 1 1 Try.underlying22 hi hz0 hz1 hz2 rfl (by decide) _ _ _ rfl HRow2.out Ab bb.length cb (bytesOf bb) rfl (by simp [bytesOf]) HSrc.out (fun e => ⟨by have := HAb.out; rw [e] at this; rw [bytes_none this]; rfl, HNb.out e⟩) (by intro u hu; simp [bytesOf] at hu; obtain ⟨x, _, rfl⟩ := hu; rfl) (by unfold maxLen; omega) (by omega) hs6 ?_; intro v7 w7 hown7 hg7 hn7; obtain ⟨g7, cap7, rfl⟩ := form4 hown7 hn7; have hcap7 := row_cap hown7)
    have hB57 : Below W5.heap.size W5 w7 := hB6.grown hg7 hs6 (fun k e => (HRow2.out.lt k e).1)
    have hs7 := hB57.size
    obtain ⟨ab, hab⟩ : ∃ ab, a1 ++ bb = ab := ⟨_, rfl⟩
    have hlab : ab.length = n1 + bb.length := by rw [← hab, List.length_append, HL1.out]
    have HRow7 : Hid (w7.ownsRow W5.heap.size 5 1 (.slice (some ⟨g7, 0, none⟩) (n1 + bb.length) cap7) (n1 + bb.length) (bytesOf ab)) := Lib.hid (by rw [← hab]; simpa [bytesOf] using hown7)
    have HOab : Hid (Octets ab) := Lib.hid (fun x hx => by
      rw [← hab] at hx
      rcases List.mem_append.1 hx with h | h
      · exact HOa.out x h
      · exact HOb.out x h)
    have HAB := Lib.hid hab
    have HLab := Lib.hid hlab
    have HLh := Lib.hid (lines_any (some ⟨g7, 0, none⟩) cap7 ab w7 (bytes_own HRow7.out) HOab.out (by rw [hlab]; exact hcap7) (by rw [hlab]; unfold maxLen; omega))
    unfold LinesPost at HLh
    rw [hlab] at HLh
    generalize hEh : textE ab = Eh at *
    generalize hPh : textP ab = Ph at *
    have HEh := Lib.hid hEh
    have HPh := Lib.hid hPh
    clear hEh hPh hown7 hg7 hn7 hab hlab hB6
    refine HLh.out.mono ?_
    rintro e w8 ⟨vh, rfl, hownh, hB8⟩
    have hs8 := hB8.size
    have HOh := Lib.hid hownh
    obtain ⟨Ah, ch, eh, _⟩ := hownh.read
    subst eh
    clear hownh
    obtain ⟨W8, hW8⟩ : ∃ W8, w8.alloc (.cells #[.int .i64 Eh, .int .i64 Ph] 28) = W8 := ⟨_, rfl⟩
    have hB88 : Below w8.heap.size w8 W8 := by rw [← hW8]; exact (Below.refl _ _).alloc (Nat.le_refl _) _
    have hsW8 : W8.heap.size = w8.heap.size + 1 := by rw [← hW8]; simp
    have pH : Pair2 W8 w8.heap.size 28 (.int .i64 Eh) (.int .i64 Ph) := by rw [← hW8]; exact Pair2.new w8 _ _ _
    have hB58 : Below W5.heap.size W5 W8 := (hB57.trans (hB8.mono hs7)).trans (hB88.mono (by omega))
    have hBW8 := hBW5.trans (hB58.mono (by omega))
    have HOh8 := Lib.hid (HOh.out.below hB88)
    have HOm8 := Lib.hid (HOm5.out.below hB58)
    have HOl8 := Lib.hid (HOl5.out.below hB58)
    have pF8 := pF5.of (hB58.block _ (by omega))
    have pG8 := pG.of (hB58.block _ (by omega))
    have f0 := pF8.c0
    have f1 := pF8.c1
    have g0' := pG8.c0
    have g1' := pG8.c1
    have e0 := pH.c0
    have e1 := pH.c1
    clear hB57 hB8 hB88 hB58 hB45 pF5 pG
    have hlen2 : ((aa ++ [10]) ++ bb).length ≤ 67108864 := by simp; omega
    have habF : ab = (aa ++ [10]) ++ bb := by rw [← HAB.out, ← HA1.out]
    cases hFa : textF a1 with
    | some fa =>
      obtain ⟨t1, t2, t3⟩ := text_fail hFa
      have hFh : textF ab = some fa := by rw [habF]; exact two_first hlen2 (by rw [HA1.out]; exact hFa)
      obtain ⟨u1, u2, u3⟩ := text_fail hFh
      have hne : ((Ea : Int) == 0) = false := by
        rw [← HEa.out, t2]
        obtain ⟨_, h45⟩ := fault_le (by rw [HL1.out]; omega) hFa
        exact beq_eq_false_iff_ne.2 (by omega)
      have hx1 : Eh = Ea := by rw [← HEh.out, ← HEa.out, u2, t2]
      have hx2 : Ph = Pa := by rw [← HPh.out, ← HPa.out, u3, t3]
      subst hx1 hx2
      have hul : (textL ab).length = 0 := by rw [u1]; rfl
      have k1 : (Eh == Eh) = true := by simp
      have k2 : (Ph == Ph) = true := by simp
      clear t1 t2 t3 hFh u1 u2 u3 habF hFa hlen2
      go_wp2
      go_ret
      exact ⟨rfl, hBW8⟩
    | none =>
      have hEa0 : Ea = 0 := by rw [← HEa.out, textE, hFa]
      have hPa0 : Pa = 0 := by rw [← HPa.out, textP, hFa]
      subst hEa0 hPa0
      cases hFb : textF bb with
      | some fb =>
        obtain ⟨t1, t2, t3⟩ := text_fail hFb
        have hFh : textF ab = some (fb.1, fb.2 + (aa.length + 1)) := by rw [habF]; exact two_second hlen2 (by rw [HA1.out]; exact hFa) hFb
        obtain ⟨u1, u2, u3⟩ := text_fail hFh
        obtain ⟨hfle, h45⟩ := fault_le (by omega) hFb
        have hne : ((Eb : Int) == 0) = false := by
          rw [← HEb.out, t2]
          exact beq_eq_false_iff_ne.2 (by omega)
        have hx1 : Eh = Eb := by rw [← HEh.out, ← HEb.out, u2, t2]
        have hx2 : Ph = Pb + n1 := by rw [← HPh.out, ← HPb.out, u3, t3, ← HN1.out]; simp
        have hPb1 : 0 ≤ Pb ∧ Pb ≤ 500 := by rw [← HPb.out, t3]; omega
        subst hx1 hx2
        have hul : (textL ab).length = 0 := by rw [u1]; rfl
        have k1 : (Eh == Eh) = true := by simp
        have k2 : (Pb + (n1 : Int) == Pb + (n1 : Int)) = true := by simp
        clear t1 t2 t3 hFh u1 u2 u3 habF hFa hFb hlen2
        go_wp2
        go_ret
        exact ⟨rfl, hBW8⟩
      | none =>
        have hEb0 : Eb = 0 := by rw [← HEb.out, textE, hFb]
        have hPb0 : Pb = 0 := by rw [← HPb.out, textP, hFb]
        subst hEb0 hPb0
        obtain ⟨hFh, hLh⟩ := two_both hlen2 (by rw [HA1.out]; exact hFa) hFb
        rw [← habF] at hFh hLh
        have hEh0 : Eh = 0 := by rw [← HEh.out, textE, hFh]
        have hPh0 : Ph = 0 := by rw [← HPh.out, textP, hFh]
        subst hEh0 hPh0
        rw [HA1.out, HN1.out] at hLh
        have HLh := Lib.hid hLh
        clear hFh hLh habF hFa hFb hlen2
        subst hW8
        clear hsW8
        go_wp2
        have hsW8 : (w8.alloc (.cells #[.int .i64 0, .int .i64 0] 28)).heap.size = w8.heap.size + 1 := by simp
        generalize w8.alloc (.cells #[.int .i64 0, .int .i64 0] 28) = W8 at *
        have hlocl : ∀ g, (Value.slice Al (textL a1).length cl).ownBlock = some g → g < w4.heap.size := by
          obtain ⟨zs, hzs, rL, _⟩ := HOl.out
          exact fun g hg => (rL.lt g hg).2
        have hI0 : TwoI w W8 w4.heap.size (textL a1) (.slice Al (textL a1).length cl) W8 :=
          ⟨HOl8.out.mono (by omega), fun g hg => .inl (hlocl g hg), fun _ _ _ => rfl, hBW8, Nat.le_refl _⟩
        have HI0 := Lib.hid hI0
        have hSb := text_small bb (by omega)
        have hSbl := hSb.1
        have HSb := Lib.hid hSb.2
        have hTa := (text_small a1 (by rw [HL1.out]; omega)).1
        obtain ⟨i1, ki, kz0, kz1, kz2⟩ := info_parts info_line
        obtain ⟨i2, li, lz0, lz1, lz2⟩ := info_parts info_word
        clear hI0 hlocl hSb
        go_loopw [6, 12] (fun s6 s12 wr => ∃ i : Nat, i ≤ (textL bb).length ∧ s12 = .int .i64 i ∧ TwoI w W8 w4.heap.size (textL a1 ++ ((textL bb).take i).map (shiftL n1)) s6 wr) (fun s6 s12 wr => (textL bb).length - (intOf s12).toNat)
        case atStart => exact ⟨0, Nat.zero_le _, rfl, by simpa using HI0.out⟩
        case round =>
          obtain ⟨i, hi', rfl, hI⟩ := hrel
          obtain ⟨Wo, rfl⟩ : ∃ Wo, Wo = wr := ⟨_, rfl⟩
          obtain ⟨A6, c6, e6, _⟩ := hI.own.read
          subst e6
          obtain ⟨n6, hn6⟩ : ∃ n6, (textL a1 ++ ((textL bb).take i).map (shiftL n1)).length = n6 := ⟨_, rfl⟩
          rw [hn6] at hI ⊢
          have hn6' : n6 = (textL a1).length + i := by rw [← hn6]; simp; omega
          have HN6 := Lib.hid hn6'
          have HN6e := Lib.hid hn6
          have hn6b : n6 ≤ 200000000 := by omega
          have HI := Lib.hid hI
          clear hI hn6 hn6'
          have hszI := HI.out.size
          by_cases hlt : i < (textL bb).length
          · have hRm := (HOm8.out.mid (fun B h1 h2 => HI.out.mid B (by omega) h2)).at
            obtain ⟨bm, offm, rfl, hbm, hcm⟩ := hRm (by omega)
            obtain ⟨Aw, cw, d1, d2, d3⟩ := hcm i hlt
            have hget : (textL bb)[i]?.getD (0, []) = (textL bb)[i] := by rw [List.getElem?_eq_getElem hlt]; rfl
            have hwl := HSb.out _ (List.getElem_mem hlt)
            rw [hget] at d1 d2 d3
            have hpl := text_places (List.getElem_mem hlt)
            have hok : (textL bb)[i].1 ≤ 501 := by have := hpl.1; omega
            have hpq := hpl.2
            have htk : (textL bb).take (i + 1) = (textL bb).take i ++ [(textL bb)[i]] := List.take_succ_eq_append_getElem hlt
            obtain ⟨x, hx⟩ : ∃ x, (textL bb)[i] = x := ⟨_, rfl⟩
            rw [hx] at d1 d2 d3 hwl hok htk hpq
            obtain ⟨o, ws⟩ := x
            dsimp only at d1 d2 d3 hwl hok hpq
            have HPq := Lib.hid hpq
            have HD3 := Lib.hid d3
            have HTk := Lib.hid htk
            clear hcm hget hx d3 htk hRm hpq hpl
            go_wp2
            go_loopw [14] (fun s14 wx => ∃ (k : Nat) (v : Value), k ≤ ws.length ∧ s14 = .int .i64 k ∧ Pair2 wx Wo.heap.size 34 (.int .i64 ((o : Int) + n1)) v ∧ wx.ownsRow Wo.heap.size 36 2 v k (wordCells ((ws.take k).map (shift n1))) ∧ Below Wo.heap.size Wo wx) (fun s14 wx => ws.length - (intOf s14).toNat)
            case atStart => exact ⟨0, .slice none 0 0, Nat.zero_le _, rfl, Pair2.new Wo _ _ _, World.ownsRow_nil _ _ _ _, (Below.refl _ _).alloc (Nat.le_refl _) _⟩
            case round =>
              obtain ⟨k, v, hk, rfl, hP, hrow, hBx⟩ := hrel
              have f1 := (hBx.cell (p := ⟨bm, offm + i * 2, none⟩) hbm).trans d1
              have f2 := (hBx.cell (p := ⟨bm, offm + i * 2 + 1, none⟩) hbm).trans d2
              have hsx := hBx.size
              have hPl := hP.lt
              by_cases hltk : k < ws.length
              · obtain ⟨bw, offw, rfl, hbw, hcw⟩ := HD3.out (by omega)
                obtain ⟨c1, c2⟩ := hcw k hltk
                have hgk : ws[k]?.getD (0, []) = ws[k] := by rw [List.getElem?_eq_getElem hltk]; rfl
                have hq1 := HPq.out _ (List.getElem_mem hltk)
                have htw : ws.take (k + 1) = ws.take k ++ [ws[k]] := List.take_succ_eq_append_getElem hltk
                rw [hgk] at c1 c2
                obtain ⟨q, hq⟩ : ∃ q, ws[k] = q := ⟨_, rfl⟩
                rw [hq] at c1 c2 hq1 htw
                obtain ⟨p, tx⟩ := q
                dsimp only at c1 c2 hq1
                replace c1 := (hBx.cell (p := ⟨bw, offw + k * 2, none⟩) hbw).trans c1
                replace c2 := (hBx.cell (p := ⟨bw, offw + k * 2 + 1, none⟩) hbw).trans c2
                have HTw := Lib.hid htw
                have p1 := hP.c1
                have z1 := hP.frozen 1
                have HP := Lib.hid hP
                have HRow := Lib.hid hrow
                have ng : ∀ B, B < Wo.heap.size → v.ownBlock ≠ some B := fun B hB e => by have := (HRow.out.lt B e).1; omega
                have nb : v.ownBlock ≠ some Wo.heap.size := fun e => (pair_far HP.out (by decide) HRow.out (World.grownBy.refl _ _)).2 e.symm
                have nm := ng bm hbm
                have nw := ng bw hbw
                have q1 : (0 : Int) ≤ (i : Int) := by omega
                have q2 : (i : Int) < ((textL bb).length : Int) := by omega
                have q3 : (0 : Int) ≤ (k : Int) := by omega
                have q4 : (k : Int) < (ws.length : Int) := by omega
                generalize hst : strOfNums tx = st at *
                have HSt := Lib.hid hst
                have hkm : k + 1 ≤ maxLen := by unfold maxLen; omega
                have ne1 := World.new_ne wr ⟨Wo.heap.size, 1, none⟩ p1
                have ne2 := World.new_ne wr ⟨bm, offm + i * 2 + 1, none⟩ f2
                have ne3 := World.new_ne wr ⟨bw, offw + k * 2, none⟩ c1
                have ne4 := World.new_ne wr ⟨bw, offw + k * 2 + 1, none⟩ c2
                clear hcw hgk htw hq hP hrow hst ng
                go_wp2_with fail
                refine wp_region_noPanic ?_
                refine wp_region_till 24 (fun w' => w'.cell? ⟨Wo.heap.size, 1, none⟩ = some v ∧ w'.cell? ⟨bm, offm + i * 2 + 1, none⟩ = some (.slice (some ⟨bw, offw, none⟩) ws.length cw) ∧ w'.cell? ⟨bw, offw + k * 2, none⟩ = some (.string st) ∧ w'.cell? ⟨bw, offw + k * 2 + 1, none⟩ = some (.int .i64 p)) (by kernel_rfl) (by kernel_rfl) (fun _ _ _ _ _ h => h) ⟨p1, f2, c1, c2⟩ ?_
                iterate 24
                  refine readsN.cons ?_ (by rfl) ?_ ?_
                  rotate_left
                  · intro w' hw'
                    try dsimp only at hw'
                    go_simp
                    try with_reducible rfl
                  simp only [Act.put, List.setIfInBounds_toArray, List.set_cons_zero, List.set_cons_succ]
                have hwr : IntKind.i64.wrap ((p : Int) + n1) = ((p + n1 : Nat) : Int) := by
                  rw [← Int.natCast_add]
                  have e : ((p + n1 : Nat) : Int) % 2 ^ 64 = (p + n1 : Nat) := Int.emod_eq_of_lt (by omega) (by omega)
                  simp only [IntKind.wrap, IntKind.bits, IntKind.signed, e]
                  rw [if_neg]
                  simp
                  omega
                have HWr := Lib.hid hwr
                have hBa : ∀ o, Below wr.heap.size wr (wr.drew.alloc o) := fun o => (Below.refl _ wr).drew.alloc (Nat.le_refl _) o
                have HBa := Lib.hid hBa
                have hbm' : bm < wr.heap.size := by omega
                have hbw' : bw < wr.heap.size := by omega
                clear hwr hBa
                refine readsN.done (.slice (some ⟨wr.heap.size, 0, none⟩) 1 1) (wr.drew.alloc (.cells #[.string st, .int .i64 (IntKind.i64.wrap ((p : Int) + n1))] 36)) (by rfl) (by go_simp) ⟨((HBa.out _).cell (p := ⟨Wo.heap.size, 1, none⟩) hPl).trans p1, ((HBa.out _).cell (p := ⟨bm, offm + i * 2 + 1, none⟩) hbm').trans f2, ((HBa.out _).cell (p := ⟨bw, offw + k * 2, none⟩) hbw').trans c1, ((HBa.out _).cell (p := ⟨bw, offw + k * 2 + 1, none⟩) hbw').trans c2⟩ ?_
                simp only [Act.put, List.setIfInBounds_toArray, List.set_cons_zero, List.set_cons_succ]
                refine wpList_append_lies _ (by rfl) _ _ _ (by rfl) Wo.heap.size 36 i2 _ 2 24 Try.underlying32 li lz0 lz1 lz2 rfl (by omega) v k _ (by rfl) (row_below HRow.out (HBa.out _)) ⟨wr.heap.size, 0, none⟩ 1 1 [.string st, .int .i64 (IntKind.i64.wrap ((p : Int) + n1))] (by rfl) (by rfl) (World.news_of_block (cs := #[.string st, .int .i64 (IntKind.i64.wrap ((p : Int) + n1))]) (t := 36) (fr := (0, 0)) (heap_alloc_new wr.drew _)) (by simp [Value.oneCell']) (by omega) hkm (by omega) (by simp; omega) (wr.heap.size + 1) (by simp) ?_
                intro gg cap w1' hown1 hgrow hat hlt1
                have zf : w1'.frozen? ⟨Wo.heap.size, 1, none⟩ = false := (hgrow.frozen_far _ (by simp; omega) (Ne.symm nb)).trans (((HBa.out _).frozen (p := ⟨Wo.heap.size, 1, none⟩) hPl).trans z1)
                have zc : w1'.cell? ⟨Wo.heap.size, 1, none⟩ = some v := (hgrow.cell_far _ (by simp; omega) (Ne.symm nb)).trans (((HBa.out _).cell (p := ⟨Wo.heap.size, 1, none⟩) hPl).trans p1)
                have hPw := (pair_far (HP.out.of ((HBa.out _).block _ hPl)) (by decide) (row_below HRow.out (HBa.out _)) hgrow).1
                have HPw := Lib.hid hPw
                have HG := Lib.hid hgrow
                have HOwn := Lib.hid hown1
                have hgn : gg ≠ Wo.heap.size := by
                  rcases hat with h | h
                  · intro e; exact nb (by rw [h, e])
                  · omega
                simp only [Act.put, List.setIfInBounds_toArray, List.set_cons_zero, List.set_cons_succ]
                clear hPw hgrow hown1 hat p1 f2 c1 c2 f1 ne1 ne2 ne3 ne4 q1 q2 q3 q4 z1
                go_wp2
                refine NoPanic.normal ?_
                go_wp2
                go_roundw
                case rel =>
                  refine ⟨k + 1, _, hltk, by go_num, pair_set1 HPw.out _, ?_, ((hBx.drew.alloc hsx _).grown HG.out (by simp; omega) (fun k e => (HRow.out.lt k e).1)).setCell (p := ⟨Wo.heap.size, 1, none⟩) (Nat.le_refl _) _⟩
                  refine ownsRow_setCell_other ?_ (by simp [Value.ownBlock]; exact hgn) _
                  rw [HTw.out, List.map_append, List.map_cons, List.map_nil, wordCells_snoc]
                  have h := HOwn.out
                  rw [HWr.out, ← HSt.out] at h
                  exact h
                case measure => simp [intOf]; omega
              · have hdk : decide (k < ws.length) = false := decide_eq_false hltk
                have hkl : k = ws.length := by omega
                subst hkl
                obtain ⟨A7, c7, e7⟩ := row_one hrow
                subst e7
                have hIr := HI.out.next hBx
                obtain ⟨zs, hzs, rL, rs⟩ := hIr.own
                have hzl : zs.length = n6 := by
                  have := congrArg List.length hzs
                  rw [HN6e.out, List.length_map] at this
                  exact this
                have HZ := Lib.hid hzs
                have HZl := Lib.hid hzl
                have HIr := Lib.hid hIr
                have HrL := Lib.hid rL
                have Hrs := Lib.hid rs
                have hz : wr.ownsRow w.heap.size 36 2 (.slice A7 ws.length c7) (ws.map (shift n1)).length (wordCells (ws.map (shift n1))) := by
                  have h := row_mono hrow HI.out.below.size
                  rw [List.take_length] at h
                  rw [List.length_map]; exact h
                have HZz := Lib.hid hz
                have p0 := hP.c0
                have p1 := hP.c1
                have hml : n6 + 1 ≤ maxLen := by unfold maxLen; omega
                have hsr := hIr.below.size
                have hrL2 : (wr.alloc (.cells #[.int .i64 ((o : Int) + n1), .slice A7 ws.length c7] 34)).ownsRow w.heap.size 34 2 (.slice A6 n6 c6) n6 (lineCells zs) := by
                  have h := rL.alloc (.cells #[.int .i64 ((o : Int) + n1), .slice A7 ws.length c7] 34)
                  rw [hzl] at h; exact h
                have HrL2 := Lib.hid hrL2
                clear hIr hzs hzl rL rs hz hrow hP hrL2
                go_wp2_with (at_builtin; refine wpList_append_lies _ rfl _ _ 25 rfl w.heap.size 34 i1 (.agg #[.int .i64 0, .slice none 0 0]) 2 32 Try.underlying25 ki kz0 kz1 kz2 rfl (by decide) _ _ _ rfl HrL2.out ⟨wr.heap.size, 0, none⟩ 1 1 [.int .i64 ((o : Int) + n1), .slice A7 ws.length c7] rfl rfl (cell_two_new _ _ _ _) (by simp [Value.oneCell']) (by omega) hml (by omega) (by simp; omega) (wr.heap.size + 1) (by simp) ?_; intro gg cap w1' hown1 hgrow hat hlt1)
                go_roundw
                case rel =>
                  have hIr := HIr.out
                  have hB1 := (hIr.below.alloc hsr (.cells #[.int .i64 ((o : Int) + n1), .slice A7 ws.length c7] 34)).grown hgrow (by simp; omega) (fun k e => (HrL.out.lt k e).1)
                  refine ⟨i + 1, hlt, by go_num, ?_, ?_, ?_, hB1, ?_⟩
                  · have hrow := HrL.out
                    have hown' : w1'.ownsRow w.heap.size 34 2 (.slice (some ⟨gg, 0, none⟩) (n6 + 1) cap) (zs.length + 1) (lineCells zs ++ [.int .i64 ((o + n1 : Nat) : Int), .slice A7 ws.length c7]) := by
                      rw [HZl.out, Int.natCast_add]; exact hown1
                    have h := lines_push (z := ((o + n1, ws.map (shift n1)), .slice A7 ws.length c7)) hrow Hrs.out HZz.out hown' hgrow
                    rw [List.map_append, HZ.out] at h
                    rw [HTk.out, List.map_append, ← List.append_assoc]
                    exact h
                  · intro g hg
                    obtain rfl : gg = g := by simpa [Value.ownBlock] using hg
                    rcases hat with h | h
                    · exact hIr.loc _ h
                    · right; have := hIr.size; omega
                  · intro B h1 h2
                    have hsz := hIr.size
                    refine (hgrow.block B (by simp; omega) ?_).trans ((Below.heap_alloc wr _ B (by omega)).trans (hIr.mid B h1 h2))
                    intro e
                    rcases hIr.loc B e.symm with h | h
                    · omega
                    · omega
                  · have := ((Below.refl 0 _).grown hgrow (Nat.zero_le _) (fun _ _ => Nat.zero_le _)).size
                    have hsz := hIr.size
                    simp at this
                    omega
                case measure => simp [intOf]; omega
          · have hdi : decide (i < (textL bb).length) = false := decide_eq_false hlt
            have hOl := HI.out.own
            rw [List.take_of_length_le (by omega), ← HLh.out] at hOl
            have hOh := HOh8.out.mid (W' := Wo) (fun B h1 h2 => HI.out.mid B (by omega) h2)
            have pHr := pH.of (W' := Wo) (HI.out.mid _ (by omega) (by omega))
            have x0 := pHr.c0
            have x1 := pHr.c1
            have hSab := text_small ab (by rw [HLab.out]; omega)
            have HOh2 := Lib.hid hOh
            have HOl2 := Lib.hid hOl
            have hlen6 : n6 = (textL ab).length := by rw [← HN6e.out, List.take_of_length_le (by omega), ← HLh.out]
            rw [hlen6]
            clear hOh hOl hlen6
            go_wp2_with fail
            refine (same_yes Ah A6 ch c6 (textL ab) _ Wo.heap.size HOh2.out.at HOl2.out.at (by omega) (fun x hx => by have := hSab.2 x hx; omega)).mono ?_
            rintro e w9 ⟨rfl, n9, rfl⟩
            go_wp2
            go_ret
            exact ⟨rfl, below_drewN HI.out.below n9⟩
end Go.Proofs.Ytmmehfpkcheaiaa
