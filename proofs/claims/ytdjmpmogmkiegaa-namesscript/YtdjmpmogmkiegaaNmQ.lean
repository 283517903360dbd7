/- NamesScript, walked. -/
import Derived.Test.YtdjmpmogmkiegaaNmP
namespace Go.Proofs.Ytdjmpmogmkiegaa
open Go.RowKit Go.Maps
set_option linter.unusedVariables false

/-- The two tables share no block. -/
def Sep (B M : Nat) (v : Value) (C : Nat) (q : Value) : Prop := ∀ g, footR C q g → ¬ foot B M v g

theorem sep_add {w : World} {lo B M C : Nat} {v v' q : Value} {ns : List ByteArray} (h : Sep B M v C q) (hR : RTab w lo C q ns) (hloc : v'.ownBlock = v.ownBlock ∨ ∃ g, v'.ownBlock = some g ∧ w.heap.size ≤ g) : Sep B M v' C q := by
  intro g hg hf
  have hlt := (hR.foot_lt g hg).2
  rcases hf with e | e | e
  · exact h g hg (.inl e)
  · exact h g hg (.inr (.inl e))
  · rcases hloc with e' | ⟨g', e', hge⟩
    · exact h g hg (.inr (.inr (e' ▸ e)))
    · rw [e'] at e
      have := Option.some.inj e
      omega
theorem sep_radd {w : World} {lo B M C : Nat} {v q q' : Value} {ns : List ByteArray} (h : Sep B M v C q) (hT : Tab w lo B M v ns) (hloc : q'.ownBlock = q.ownBlock ∨ ∃ g, q'.ownBlock = some g ∧ w.heap.size ≤ g) : Sep B M v C q' := by
  intro g hg hf
  have hlt := (hT.foot_lt g hf).2
  rcases hg with e | e
  · exact h g (.inl e) hf
  · rcases hloc with e' | ⟨g', e', hge⟩
    · exact h g (.inr (e' ▸ e)) hf
    · rw [e'] at e
      have := Option.some.inj e
      omega
theorem RTab.but {w w' : World} {lo B M C : Nat} {v q : Value} {ns : List ByteArray} (h : RTab w lo C q ns) (hb : But (foot B M v) w w') (hs : Sep B M v C q) : RTab w' lo C q ns :=
  h.kept fun k hk hf => hb.block k hk (hs k hf)
theorem Tab.but {w w' : World} {lo B M C : Nat} {v q : Value} {ns : List ByteArray} (h : Tab w lo B M v ns) (hb : But (footR C q) w w') (hs : Sep B M v C q) : Tab w' lo B M v ns :=
  h.kept fun k hk hf => hb.block k hk (fun hr => hs k hr hf)

set_option maxHeartbeats 4000000 in
set_option maxRecDepth 100000 in
theorem script_law (A : Option Addr) (c : Nat) (ss : List ByteArray) (s0 : ByteArray) (n : Int) (w : World) (hA : Strs w.heap.size w A ss) (hnil : A = none → c = 0) (hm : ss.length ≤ 140737488351232) (hz : ∀ s ∈ ss, s.size ≤ 140737488351232) (hs0 : s0.size ≤ maxLen) :
    Calls Try.prog 3 #[.slice A ss.length c, .string s0, .int .i64 n] w (Yes w) := by
  have HA := Lib.hid hA
  have HL := Lib.hid (long_any A c ss w hA hm hz)
  clear hA hz hnil
  go_enter Try.func3, Try.ntmps3
  go_wp2_with fail
  refine HL.out.mono ?_
  rintro e w1 ⟨rfl, rfl⟩
  clear HL
  cases hlong : longB ss with
  | true =>
    go_wp2_with fail
    refine (awake_yes _).mono ?_
    rintro e w1 ⟨rfl, hB⟩
    go_wp2
    go_ret
    exact ⟨rfl, hB⟩
  | false =>
    obtain ⟨hl, hs⟩ := long_no hlong
    have HS := Lib.hid hs
    clear hs
    by_cases h60 : 60 < s0.size
    · have k1 : decide ((60 : Int) < (s0.size : Int)) = true := decide_eq_true (by omega)
      go_wp2_with fail
      refine (awake_yes _).mono ?_
      rintro e w1 ⟨rfl, hB⟩
      go_wp2
      go_ret
      exact ⟨rfl, hB⟩
    · have k1 : decide ((60 : Int) < (s0.size : Int)) = false := decide_eq_false (by omega)
      go_wp2_with fail
      refine (new_any w).mono ?_
      rintro e w2 ⟨B, M, rfl, hT2, hB2⟩
      obtain ⟨w3, hw3⟩ : ∃ w3, w2.alloc (.cells #[.slice none 0 0] 29) = w3 := ⟨_, rfl⟩
      have hB3 : Below w2.heap.size w2 w3 := by rw [← hw3]; exact (Below.refl _ _).alloc (Nat.le_refl _) _
      have hBw3 := nxt hB2 hB3 hB2.size
      have HT3 := Lib.hid (hT2.below hB3)
      have HR3 : Hid (RTab w3 w.heap.size w2.heap.size (.slice none 0 0) []) := by
        refine Lib.hid ⟨?_, ?_, hB2.size, by simp [Value.ownBlock], World.ownsRow_nil _ _ _ _⟩
        · rw [← hw3]; simp
        · rw [← hw3]; simp [go_sem]
      have HSep3 : Hid (Sep B M (.slice none 0 0) w2.heap.size (.slice none 0 0)) := by
        refine Lib.hid fun g hg hf => ?_
        rcases hg with e | e
        · have := (hT2.foot_lt g hf).2; omega
        · simp [Value.ownBlock] at e
      obtain ⟨C, hC⟩ : ∃ C, w2.heap.size = C := ⟨_, rfl⟩
      rw [hC] at HR3 HSep3
      have hw0 := hBw3.size
      go_wp2_with fail
      refine (len_is (n := 0) w3 HT3.out rfl).mono ?_
      rintro e w4 ⟨rfl, rfl⟩
      clear hT2 hw3 hC hB3 hB2
      go_wp2
      go_loopw [9, 10, 11, 12, 13] (fun i u10 u11 u12 u13 wr => ∃ (k : Nat) (v q : Value), k ≤ ss.length ∧ i = .int .i64 k ∧ Tab wr w.heap.size B M v (allN (ss.take k)) ∧ RTab wr w.heap.size C q (allN (ss.take k)) ∧ Sep B M v C q ∧ Below w.heap.size w wr) (fun i u10 u11 u12 u13 wr => ss.length - (intOf i).toNat)
      case atStart => exact ⟨0, _, _, Nat.zero_le _, rfl, HT3.out, HR3.out, HSep3.out, hBw3⟩
      case round =>
        obtain ⟨k, v, q, hk, rfl, hT, hR, hSep, hB⟩ := hrel
        have HT := Lib.hid hT
        have HR := Lib.hid hR
        have HSep := Lib.hid hSep
        have hwr := hB.size
        clear hT hR hSep
        by_cases hlt : k < ss.length
        · have hAk := HA.out.below hB
          obtain ⟨b, off, rfl, hb, hc⟩ := hAk (by omega)
          have hck := hc k hlt
          have hsz : (ss[k]?.getD ⟨#[]⟩).size ≤ 60 := by
            rw [List.getElem?_eq_getElem hlt]; exact HS.out _ (List.getElem_mem hlt)
          have hst := allN_take hlt
          have hln : (allN (ss.take k)).length ≤ 80 := by
            have := allN_len (ss.take k)
            rw [List.length_take] at this
            omega
          obtain ⟨s, hs⟩ : ∃ s, ss[k]?.getD ⟨#[]⟩ = s := ⟨_, rfl⟩
          rw [hs] at hck hsz hst
          obtain ⟨ns, hns⟩ : ∃ ns, allN (ss.take k) = ns := ⟨_, rfl⟩
          rw [hns] at HT HR hst hln
          have HST := Lib.hid hst
          have q0 : (0 : Int) ≤ (k : Int) := by omega
          have q1 : (k : Int) < (ss.length : Int) := by omega
          have q2 : decide (k < ss.length) = true := decide_eq_true hlt
          clear hc hs hst hns hAk
          have hAdd := add_any s wr HT.out hwr (by omega) (by omega)
          unfold AddPost at hAdd
          have hRAdd := fun (W : World) (h : RTab W w.heap.size C q ns) (hW : w.heap.size ≤ W.heap.size) => radd_any s W h hW (by omega) (by omega)
          unfold RAddPost at hRAdd
          have hl2 := addN_len ns s
          obtain ⟨ns', hns'⟩ : ∃ ns', addN ns s = ns' := ⟨_, rfl⟩
          rw [hns'] at hAdd hRAdd HST hl2
          generalize addI ns s = ai at hAdd hRAdd
          generalize addE ns s = ae at hAdd hRAdd
          have m1 : ((ai : Int) != (ai : Int)) = false := by simp
          have m2 : (ae != ae) = false := by simp
          have m3 : ((ns'.length : Int) != (ns'.length : Int)) = false := by simp
          have HAdd := Lib.hid hAdd
          have HRAdd := Lib.hid hRAdd
          clear hns' hAdd hRAdd
          go_wp2_with fail
          refine HAdd.out.mono ?_
          rintro e w4 ⟨rfl, v', hT', hBut, hloc⟩
          have hB4 : Below w.heap.size wr w4 := hBut.below (fun j hj => (HT.out.foot_lt j hj).1) hwr
          have hck4 : w4.cell? ⟨b, off + k, none⟩ = some (.string s) := (hB4.cell (p := ⟨b, off + k, none⟩) hb).trans hck
          have HR4 := Lib.hid (HR.out.but hBut HSep.out)
          have HSep4 := Lib.hid (sep_add HSep.out HR.out hloc)
          have HT4 := Lib.hid hT'
          have hwr4 := Nat.le_trans hwr hB4.size
          clear hck hT' hBut hloc HAdd HT HR HSep
          go_wp2_with fail
          refine (HRAdd.out w4 HR4.out hwr4).mono ?_
          rintro e w5 ⟨rfl, q', hR', hBut5, hloc5⟩
          have hB5 : Below w.heap.size w4 w5 := hBut5.below (fun j hj => (HR4.out.foot_lt j hj).1) hwr4
          have hck5 : w5.cell? ⟨b, off + k, none⟩ = some (.string s) := (hB5.cell (p := ⟨b, off + k, none⟩) hb).trans hck4
          have HT5 := Lib.hid (HT4.out.but hBut5 HSep4.out)
          have HSep5 := Lib.hid (sep_radd HSep4.out HT4.out hloc5)
          have HR5 := Lib.hid hR'
          have hBw5 : Below w.heap.size w w5 := (hB.trans hB4).trans hB5
          have hbl : b < w5.heap.size := Nat.lt_of_lt_of_le hb hBw5.size
          obtain ⟨Aq, cq, hq⟩ := row_shape hR'.row
          subst hq
          have c05 := hR'.c0
          have hCl : C < w5.heap.size := lt_of_cell c05
          obtain ⟨ce, hce⟩ : ∃ ce, checkE s = ce := ⟨_, rfl⟩
          have hchk := fun W => check_is s ce W (by omega) hce
          have hrchk := fun W => rcheck_any s W (by omega)
          rw [hce] at hrchk
          have m4 : (ce != ce) = false := by simp
          clear hck4 hR' hBut5 hloc5 HRAdd HT4 HSep4 HR4 hce
          go_wp2
          go_region_held3 (fun w' => w'.cell? ⟨b, off + k, none⟩ = some (.string s) ∧ w'.cell? ⟨C, 0, none⟩ = some (.slice Aq ns'.length cq) ∧ Below w5.heap.size w5 w') (first | exact ⟨hck5, c05, (Below.refl _ w5).drew⟩ | exact ⟨(hB6.cell (p := ⟨b, off + k, none⟩) hbl).trans hck5, (hB6.cell (p := ⟨C, 0, none⟩) hCl).trans c05, (Below.refl _ w5).drew.trans hB6⟩ | go_keep) (first | (go_at_call 14; refine (hchk _).mono ?_; rintro e w6 ⟨rfl, hB6⟩) | (go_at_call 15; refine (hrchk _).mono ?_; rintro e w7 ⟨rfl, rfl⟩) | (go_at_call 11; refine (len_any _ (HT5.out.below (nxt ((Below.refl _ w5).drew) hB6 (Nat.le_refl _)))).mono ?_; rintro e w8 ⟨rfl, rfl⟩))
          have hB6' : Below w5.heap.size w5 w6 := ((Below.refl _ w5).drew).trans hB6
          go_wp2
          go_roundw
          case rel => exact ⟨k + 1, v', _, by omega, by go_num, by rw [HST.out]; exact HT5.out.below hB6', by rw [HST.out]; exact HR5.out.below hB6', HSep5.out, nxt hBw5 hB6' hBw5.size⟩
          case measure => simp [intOf]; omega
        · have q2 : decide (k < ss.length) = false := decide_eq_false hlt
          have htk : ss.take k = ss := List.take_of_length_le (by omega)
          rw [htk] at HT HR
          have hln : (allN ss).length ≤ 80 := by have := allN_len ss; omega
          obtain ⟨ns, hns⟩ : ∃ ns, allN ss = ns := ⟨_, rfl⟩
          rw [hns] at HT HR hln
          clear htk hns HSep hwr
          obtain ⟨xi, hxi⟩ : ∃ xi, ofI ns s0 = xi := ⟨_, rfl⟩
          obtain ⟨xe, hxe⟩ : ∃ xe, ofE ns s0 = xe := ⟨_, rfl⟩
          obtain ⟨yt, hyt⟩ : ∃ yt, nameT ns n = yt := ⟨_, rfl⟩
          obtain ⟨ye, hye⟩ : ∃ ye, nameE ns n = ye := ⟨_, rfl⟩
          have h1 := fun (W : World) (h : Tab W w.heap.size B M v ns) => of_any s0 W h hs0
          have h2 := fun (W : World) (h : RTab W w.heap.size C q ns) => rof_any s0 W h (by omega)
          have h3 := fun (W : World) (h : Tab W w.heap.size B M v ns) => name_any n W h
          have h4 := fun (W : World) (h : RTab W w.heap.size C q ns) => rname_any n W h
          rw [hxi, hxe] at h1 h2
          rw [hyt, hye] at h3 h4
          have H1 := Lib.hid h1
          have H2 := Lib.hid h2
          have H3 := Lib.hid h3
          have H4 := Lib.hid h4
          have m1 : ((xi : Int) == (xi : Int)) = true := by simp
          have m2 : (xe == xe) = true := by simp
          have m3 : (yt.toList == yt.toList) = true := by simp
          have m4 : (ye == ye) = true := by simp
          clear h1 h2 h3 h4 hxi hxe hyt hye
          go_wp2_with fail
          refine (H1.out wr HT.out).mono ?_
          rintro e w4 ⟨rfl, hB4⟩
          have HT4 := Lib.hid (HT.out.below hB4)
          have HR4 := Lib.hid (HR.out.below hB4)
          have hBw4 := nxt hB hB4 hB.size
          clear HT HR hB4
          go_wp2_with fail
          refine (H2.out w4 HR4.out).mono ?_
          rintro e w5 ⟨rfl, rfl⟩
          go_wp2_with fail
          refine (H3.out w4 HT4.out).mono ?_
          rintro e w5 ⟨rfl, hB5⟩
          have HT5 := Lib.hid (HT4.out.below hB5)
          have HR5 := Lib.hid (HR4.out.below hB5)
          have hBw5 := nxt hBw4 hB5 hBw4.size
          clear HT4 HR4 hB5
          go_wp2_with fail
          refine (H4.out w5 HR5.out).mono ?_
          rintro e w6 ⟨rfl, rfl⟩
          clear H1 H2 H3 H4
          go_wp2_with fail
          refine (order_any w5 HT5.out (by omega)).mono ?_
          rintro e w6 ⟨g, cg, o, rfl, ho, hrow, hB6⟩
          have HO := Lib.hid ho
          have hg5 : w5.heap.size ≤ g := (hrow.lt g rfl).1
          have HRow6 := Lib.hid hrow
          have HT6 := Lib.hid (HT5.out.below hB6)
          have HR6 := Lib.hid (HR5.out.below hB6)
          have hFt := HT5.out.foot_lt
          have hFr := HR5.out.foot_lt
          have HFt := Lib.hid hFt
          have HFr := Lib.hid hFr
          have hBw6 := nxt hBw5 hB6 hBw5.size
          have hlo : o.length = ns.length := ho.len
          have HLo := Lib.hid hlo
          clear ho hrow HT5 HR5 hFt hFr hlo
          go_wp2_with fail
          refine (rorder_any w6 HR6.out HO.out (by omega)).mono ?_
          rintro e w7 ⟨g7, c7, rfl, hrow7, hB7⟩
          have HN7 := Lib.hid (nums_own hrow7)
          have HRow7 := Lib.hid (row_below HRow6.out hB7)
          have HT7 := Lib.hid (HT6.out.below hB7)
          have HR7 := Lib.hid (HR6.out.below hB7)
          have hBw7 := nxt hBw6 hB7 hBw6.size
          clear hrow7 HRow6 HT6 HR6
          go_wp2_with fail
          refine (ints_same _ _ _ _ _ _ o w7 (nums_own HRow7.out) HN7.out (by rw [HLo.out]; omega) HLo.out HLo.out).mono ?_
          rintro e w8 ⟨rfl, z8, rfl⟩
          obtain ⟨w8, hw8⟩ : ∃ w8, w7.drewN z8 = w8 := ⟨_, rfl⟩
          rw [hw8]
          have hB8 : Below w7.heap.size w7 w8 := by rw [← hw8]; exact below_drewN (Below.refl _ _) z8
          have HRow8 := Lib.hid (row_below HRow7.out hB8)
          have HT8 := Lib.hid (HT7.out.below hB8)
          have HR8 := Lib.hid (HR7.out.below hB8)
          have hBw8 := nxt hBw7 hB8 hBw7.size
          clear hw8 HRow7 HT7 HR7 HN7
          go_wp2_with fail
          refine (over_any g cg ns.length _ _ w8 HRow8.out (by omega)).mono ?_
          rintro e w9 ⟨rfl, hg9⟩
          have HT9 := Lib.hid (HT8.out.kept (w' := w9) fun j hj hf => hg9.block j hj (fun e => by have := (HFt.out j hf).2; have := Option.some.inj e; omega))
          have HR9 := Lib.hid (HR8.out.kept (w' := w9) fun j hj hf => hg9.block j hj (fun e => by have := (HFr.out j hf).2; have := Option.some.inj e; omega))
          have hBw9 : Below w.heap.size w w9 := hBw8.grown hg9 hBw8.size (fun j e => by cases e; exact Nat.le_trans hBw5.size hg5)
          clear HT8 HR8 HRow8 hg9
          go_wp2_with fail
          refine (order_any w9 HT9.out (by omega)).mono ?_
          rintro e w10 ⟨g10, c10, o10, rfl, ho10, hrow10, hB10⟩
          have eo := ho10.one HO.out
          subst eo
          have HN10 := Lib.hid (nums_own hrow10)
          have HR10 := Lib.hid (HR9.out.below hB10)
          have hBw10 := nxt hBw9 hB10 hBw9.size
          clear ho10 hrow10 HT9 HR9 hB10
          go_wp2_with fail
          refine (rorder_any w10 HR10.out HO.out (by omega)).mono ?_
          rintro e w11 ⟨g11, c11, rfl, hrow11, hB11⟩
          have HN11 := Lib.hid (nums_own hrow11)
          have HN10' := Lib.hid (HN10.out.below hB11)
          have hBw11 := nxt hBw10 hB11 hBw10.size
          clear hrow11 HN10 HR10 hB11
          go_wp2_with fail
          refine (ints_same _ _ _ _ _ _ _ w11 HN10'.out HN11.out (by rw [HLo.out]; omega) HLo.out HLo.out).mono ?_
          rintro e w12 ⟨rfl, z12, rfl⟩
          have hBw12 := below_drewN hBw11 z12
          go_wp2_with fail
          refine (awake_yes _).mono ?_
          rintro e w13 ⟨rfl, hB13⟩
          go_wp2
          go_ret
          exact ⟨rfl, nxt hBw12 hB13 hBw12.size⟩
end Go.Proofs.Ytdjmpmogmkiegaa
