/- NamesBoth, walked. -/
import Derived.Test.YtdjmpmogmkiegaaNmL
import Derived.Test.YtdjmpmogmkiegaaNmX
import Derived.Deep.RegionHeld3
namespace Go.Proofs.Ytdjmpmogmkiegaa
open Go.RowKit Go.Maps
set_option linter.unusedVariables false

/-- The slice q's row is none of the table's blocks. -/
def Apart (B M : Nat) (v q : Value) : Prop := ∀ g, q.ownBlock = some g → ¬ foot B M v g

theorem apart_add {w : World} {B M : Nat} {v v' q : Value} (h : Apart B M v q) (hq : ∀ g, q.ownBlock = some g → g < w.heap.size) (hloc : v'.ownBlock = v.ownBlock ∨ ∃ g, v'.ownBlock = some g ∧ w.heap.size ≤ g) : Apart B M v' q := by
  intro g hg hf
  have hlt := hq g hg
  rcases hf with e | e | e
  · exact h g hg (.inl e)
  · exact h g hg (.inr (.inl e))
  · rcases hloc with e' | ⟨g', e', hge⟩
    · exact h g hg (.inr (.inr (e' ▸ e)))
    · rw [e'] at e
      have := Option.some.inj e
      omega
theorem apart_grow {W : World} {lo B M : Nat} {v q q' : Value} {ns : List ByteArray} (h : Apart B M v q) (hT : Tab W lo B M v ns) (hat : q'.ownBlock = q.ownBlock ∨ q'.ownBlock = some W.heap.size) : Apart B M v q' := by
  intro g hg hf
  rcases hat with e | e
  · exact h g (e ▸ hg) hf
  · rw [e] at hg
    have := Option.some.inj hg
    have := (hT.foot_lt g hf).2
    omega
theorem row_but {F : Nat → Prop} {w w' : World} {base n : Nat} {e : TypeId} {q : Value} {xs : List Value} (h : w.ownsRow base e 1 q n xs) (hb : But F w w') (hF : ∀ g, q.ownBlock = some g → ¬ F g) : w'.ownsRow base e 1 q n xs := by
  refine ⟨h.1, ?_⟩
  rcases h.2 with h' | ⟨g, cap, cur, e', hb', hg, r⟩
  · exact .inl h'
  · exact .inr ⟨g, cap, cur, e', hb', (hb.block g (Array.getElem?_eq_some_iff.1 hg).1 (hF g (by rw [e']; rfl))).trans hg, r⟩
theorem tab_grown {w w' : World} {lo B M : Nat} {v q : Value} {ns : List ByteArray} (h : Tab w lo B M v ns) (hg : w.grownBy w' q.ownBlock) (ha : Apart B M v q) : Tab w' lo B M v ns :=
  h.kept fun k hk hf => hg.block k hk (fun e => ha k e.symm hf)
theorem row_below {w w' : World} {base n : Nat} {e : TypeId} {q : Value} {xs : List Value} (h : w.ownsRow base e 1 q n xs) (hb : Below w.heap.size w w') : w'.ownsRow base e 1 q n xs :=
  row_but (F := fun _ => False) h ⟨hb.os, hb.tape, hb.output, hb.size, fun k hk _ => hb.block k hk⟩ (fun _ _ h => h)

theorem idx_of {ns : List ByteArray} (hn : ns.Nodup) {j : Nat} (hj : j < ns.length) : ofI ns (ns[j]?.getD ⟨#[]⟩) = j ∧ ofE ns (ns[j]?.getD ⟨#[]⟩) = 0 := by
  rw [List.getElem?_eq_getElem hj]
  have hm : ns[j] ∈ ns := List.getElem_mem hj
  have hc : ns.contains ns[j] = true := by simp
  refine ⟨?_, ofE_yes hc⟩
  show ofI ns ns[j] = j
  rw [ofI_yes hc]
  have hl := List.idxOf_lt_length_of_mem hm
  exact nodup_inj hn hl hj (List.getElem_idxOf hl)

set_option maxHeartbeats 4000000 in
set_option maxRecDepth 100000 in
theorem both_law (A : Option Addr) (c : Nat) (ss : List ByteArray) (w : World) (hA : Strs w.heap.size w A ss) (hnil : A = none → c = 0) (hm : ss.length ≤ 140737488351232) (hz : ∀ s ∈ ss, s.size ≤ 140737488351232) :
    Calls Try.prog 6 #[.slice A ss.length c] w (Yes w) := by
  have HA := Lib.hid hA
  have HZ := Lib.hid hz
  clear hA hz hnil
  go_enter Try.func6, Try.ntmps6
  go_wp2_with fail
  refine (known_yes w).mono ?_
  rintro e w1 ⟨rfl, hB1⟩
  go_wp2_with fail
  refine (new_any w1).mono ?_
  rintro e w2 ⟨B, M, rfl, hT2, hB2⟩
  have HT2 := Lib.hid hT2
  have hlo : w.heap.size ≤ w1.heap.size := hB1.size
  have hB2' := nxt hB1 hB2 hlo
  have hw2 : w1.heap.size ≤ w2.heap.size := hB2.size
  have HL := Lib.hid (long_any A c ss w2 ((HA.out.below hB2').mono hB2'.size) hm HZ.out)
  clear hT2 hB1 hB2
  go_wp2_with fail
  refine HL.out.mono ?_
  rintro e w3 ⟨rfl, rfl⟩
  clear HL
  cases hlong : longB ss with
  | true =>
    go_wp2
    go_ret
    exact ⟨rfl, hB2'⟩
  | false =>
    obtain ⟨hl, hs⟩ := long_no hlong
    have HS := Lib.hid hs
    clear hs HZ
    obtain ⟨i0, hi, hz0, hz1, hz2⟩ := info_parts info_str
    go_wp2
    go_loopw [5, 6, 7, 8] (fun s5 i u7 u8 wr => ∃ (k : Nat) (v q : Value), k ≤ ss.length ∧ i = .int .i64 k ∧ s5 = q ∧ Tab wr w1.heap.size B M v (allN (ss.take k)) ∧ wr.ownsRow w1.heap.size 9 1 q (allN (ss.take k)).length (texts (allN (ss.take k))) ∧ Apart B M v q ∧ Below w1.heap.size w2 wr) (fun s5 i u7 u8 wr => ss.length - (intOf i).toNat)
    case atStart => exact ⟨0, _, _, Nat.zero_le _, rfl, rfl, HT2.out, World.ownsRow_nil _ _ _ _, (fun g hg => by simp [Value.ownBlock] at hg), Below.refl _ _⟩
    case round =>
      obtain ⟨k, v, q, hk, rfl, rfl, hT, hR, hAp, hB⟩ := hrel
      have HT := Lib.hid hT
      have HR := Lib.hid hR
      have HAp := Lib.hid hAp
      have hwr : w1.heap.size ≤ wr.heap.size := Nat.le_trans hw2 hB.size
      have hBw : Below w.heap.size w wr := hB2'.trans (hB.mono hlo)
      clear hT hR hAp
      by_cases hlt : k < ss.length
      · have hAk := HA.out.below hBw
        obtain ⟨b, off, rfl, hb, hc⟩ := hAk (by omega)
        have hck := hc k hlt
        have hsz : (ss[k]?.getD ⟨#[]⟩).size ≤ 60 := by
          rw [List.getElem?_eq_getElem hlt]; exact HS.out _ (List.getElem_mem hlt)
        have hst := allN_take hlt
        have hln : (allN (ss.take k)).length ≤ 80 := by
          have := allN_len (ss.take k)
          rw [List.length_take] at this
          omega
        obtain ⟨s, hs⟩ : ∃ s, ss[k]?.getD ⟨#[]⟩ = s := ⟨_, rfl⟩
        rw [hs] at hck hsz hst
        obtain ⟨ns, hns⟩ : ∃ ns, allN (ss.take k) = ns := ⟨_, rfl⟩
        rw [hns] at HT HR hst hln
        have HST := Lib.hid hst
        have q0 : (0 : Int) ≤ (k : Int) := by omega
        have q1 : (k : Int) < (ss.length : Int) := by omega
        have q2 : decide (k < ss.length) = true := decide_eq_true hlt
        clear hc hs hst hns hAk
        have hAdd := add_any s wr HT.out hwr (by omega) (by omega)
        unfold AddPost at hAdd
        cases hname : nameB s with
        | false =>
          obtain ⟨e1, e2, e3⟩ := add_no (ns := ns) hname
          rw [e1, e2, e3] at hAdd
          rw [e3] at HST
          have HN := Lib.hid hname
          clear e1 e2 e3 hname
          have HAdd := Lib.hid hAdd
          clear hAdd
          go_wp2_with fail
          refine HAdd.out.mono ?_
          rintro e w4 ⟨rfl, v', hT', hBut, hloc⟩
          have hB4 : Below w1.heap.size wr w4 := hBut.below (fun j hj => (HT.out.foot_lt j hj).1) hwr
          have hck' : w4.cell? ⟨b, off + k, none⟩ = some (.string s) := (hB4.cell (p := ⟨b, off + k, none⟩) (Nat.lt_of_lt_of_le hb hlo)).trans hck
          have hbl : b < w4.heap.size := Nat.lt_of_lt_of_le hb (Nat.le_trans hlo (Nat.le_trans hwr hB4.size))
          have HR' := Lib.hid (row_but HR.out hBut HAp.out)
          have HAp' := Lib.hid (apart_add HAp.out (fun g hg => (HR.out.lt g hg).2) hloc)
          have HT' := Lib.hid hT'
          have hchk := fun W => check_is s 7 W (by omega) (checkE_no HN.out)
          clear hck hT' hBut hloc HAdd
          go_wp2
          refine wp_region_noPanic ?_
          refine wp_region_steps (List.replicate 25 true ++ false :: [true, true, true]) (fun w' => w'.cell? ⟨b, off + k, none⟩ = some (.string s)) (by kernel_rfl) (by kernel_rfl) (fun _ _ _ _ _ h => h) hck' ?_
          simp only [List.replicate, List.cons_append, List.nil_append]
          repeat
            first
              | (refine Steps.skip (by rfl) ?_; simp only [Act.put, List.setIfInBounds_toArray, List.set_cons_zero, List.set_cons_succ])
              | (refine Steps.take ?_ (by rfl) ?_ ?_; rotate_left; (intro w' hw'; (try dsimp only at hw'); go_simp; (try with_reducible rfl)); simp only [Act.put, List.setIfInBounds_toArray, List.set_cons_zero, List.set_cons_succ])
          refine Steps.call 14 #[.string s] (by rfl) (by go_simp) ?_
          refine (hchk _).mono ?_
          rintro e w5 ⟨rfl, hB5⟩
          refine ⟨_, rfl, (hB5.cell (p := ⟨b, off + k, none⟩) hbl).trans hck', ?_⟩
          simp only [Act.put, List.setIfInBounds_toArray, List.set_cons_zero, List.set_cons_succ]
          repeat
            first
              | (refine Steps.skip (by rfl) ?_; simp only [Act.put, List.setIfInBounds_toArray, List.set_cons_zero, List.set_cons_succ])
              | (refine Steps.take ?_ (by rfl) ?_ ?_; rotate_left; (intro w' hw'; (try dsimp only at hw'); go_simp; (try with_reducible rfl)); simp only [Act.put, List.setIfInBounds_toArray, List.set_cons_zero, List.set_cons_succ])
          refine Steps.done ?_
          refine NoPanic.normal ?_
          have hB5' : Below w4.heap.size w4 w5 := ((Below.refl _ w4).drew).trans hB5
          go_wp2
          go_roundw
          case rel => exact ⟨k + 1, v', _, by omega, by go_num, rfl, by rw [HST.out]; exact HT'.out.below hB5', by rw [HST.out]; exact row_below HR'.out hB5', HAp'.out, (hB.trans hB4).trans (hB5'.mono (Nat.le_trans hwr hB4.size))⟩
          case measure => simp [intOf]; omega
        | true =>
          cases hcon : ns.contains s with
          | true =>
            obtain ⟨e1, e2, e3⟩ := add_twice hname hcon
            rw [e1, e2, e3] at hAdd
            rw [e3] at HST
            have HI := Lib.hid (ofI_yes hcon)
            have HE := Lib.hid (ofE_yes hcon)
            have HC := Lib.hid hcon
            have HAdd := Lib.hid hAdd
            clear e1 e2 e3 hname hcon hAdd
            go_wp2_with fail
            refine HAdd.out.mono ?_
            rintro e w4 ⟨rfl, v', hT', hBut, hloc⟩
            have hB4 : Below w1.heap.size wr w4 := hBut.below (fun j hj => (HT.out.foot_lt j hj).1) hwr
            have hck' : w4.cell? ⟨b, off + k, none⟩ = some (.string s) := (hB4.cell (p := ⟨b, off + k, none⟩) (Nat.lt_of_lt_of_le hb hlo)).trans hck
            have hbl : b < w4.heap.size := Nat.lt_of_lt_of_le hb (Nat.le_trans hlo (Nat.le_trans hwr hB4.size))
            have HR' := Lib.hid (row_but HR.out hBut HAp.out)
            have HAp' := Lib.hid (apart_add HAp.out (fun g hg => (HR.out.lt g hg).2) hloc)
            have HT' := Lib.hid hT'
            have hd4 : Below w4.heap.size w4 w4.drew := (Below.refl _ w4).drew
            obtain ⟨Aq, cq, hq⟩ := row_shape HR.out
            subst hq
            have HPl := Lib.hid (place_any Aq cq ns s w4.drew (strs_own (row_below HR'.out hd4)) (by omega) HC.out)
            have HOf := Lib.hid (of_yes s (ns.idxOf s : Nat) 0 w4.drew (HT'.out.below hd4) (by unfold maxLen; omega) (by rw [HI.out]) HE.out)
            generalize ns.idxOf s = pl at HPl HOf
            clear hck hT' hBut hloc HAdd
            go_wp2
            refine wp_region_noPanic ?_
            refine wp_region_steps (List.replicate 13 true ++ false :: false :: List.replicate 14 true) (fun w' => w'.cell? ⟨b, off + k, none⟩ = some (.string s)) (by kernel_rfl) (by kernel_rfl) (fun _ _ _ _ _ h => h) hck' ?_
            simp only [List.replicate, List.cons_append, List.nil_append]
            repeat
              first
                | (refine Steps.skip (by rfl) ?_; simp only [Act.put, List.setIfInBounds_toArray, List.set_cons_zero, List.set_cons_succ])
                | (refine Steps.take ?_ (by rfl) ?_ ?_; rotate_left; (intro w' hw'; (try dsimp only at hw'); go_simp; (try with_reducible rfl)); simp only [Act.put, List.setIfInBounds_toArray, List.set_cons_zero, List.set_cons_succ])
            refine Steps.call 26 #[.slice Aq ns.length cq, .string s] (by rfl) (by go_simp) ?_
            refine HPl.out.mono ?_
            rintro e w5 ⟨rfl, rfl⟩
            refine ⟨_, rfl, hck', ?_⟩
            simp only [Act.put, List.setIfInBounds_toArray, List.set_cons_zero, List.set_cons_succ]
            refine Steps.call 25 #[.pointer (some ⟨B, 0, none⟩), .string s, .int .i64 pl, .int .i64 0] (by rfl) (by go_simp) ?_
            refine HOf.out.mono ?_
            rintro e w5 ⟨rfl, hB5⟩
            refine ⟨_, rfl, (hB5.cell (p := ⟨b, off + k, none⟩) hbl).trans hck', ?_⟩
            simp only [Act.put, List.setIfInBounds_toArray, List.set_cons_zero, List.set_cons_succ]
            repeat
              first
                | (refine Steps.skip (by rfl) ?_; simp only [Act.put, List.setIfInBounds_toArray, List.set_cons_zero, List.set_cons_succ])
                | (refine Steps.take ?_ (by rfl) ?_ ?_; rotate_left; (intro w' hw'; (try dsimp only at hw'); go_simp; (try with_reducible rfl)); simp only [Act.put, List.setIfInBounds_toArray, List.set_cons_zero, List.set_cons_succ])
            refine Steps.done ?_
            refine NoPanic.normal ?_
            have hB5' : Below w4.heap.size w4 w5 := hd4.trans hB5
            go_wp2
            go_roundw
            case rel => exact ⟨k + 1, v', _, by omega, by go_num, rfl, by rw [HST.out]; exact HT'.out.below hB5', by rw [HST.out]; exact row_below HR'.out hB5', HAp'.out, (hB.trans hB4).trans (hB5'.mono (Nat.le_trans hwr hB4.size))⟩
            case measure => simp [intOf]; omega
          | false =>
            obtain ⟨e1, e2, e3⟩ := add_new hname hcon
            rw [e1, e2, e3] at hAdd
            rw [e3] at HST
            have HN := Lib.hid hname
            have HAdd := Lib.hid hAdd
            clear e1 e2 e3 hname hcon hAdd
            obtain ⟨Aq, cq, hq⟩ := row_shape HR.out
            subst hq
            have qn : ((ns.length : Int) != (ns.length : Int)) = false := by simp
            go_wp2_with fail
            refine HAdd.out.mono ?_
            rintro e w4 ⟨rfl, v', hT', hBut, hloc⟩
            have hB4 : Below w1.heap.size wr w4 := hBut.below (fun j hj => (HT.out.foot_lt j hj).1) hwr
            have hck' : w4.cell? ⟨b, off + k, none⟩ = some (.string s) := (hB4.cell (p := ⟨b, off + k, none⟩) (Nat.lt_of_lt_of_le hb hlo)).trans hck
            have hbl : b < w4.heap.size := Nat.lt_of_lt_of_le hb (Nat.le_trans hlo (Nat.le_trans hwr hB4.size))
            have HR' := Lib.hid (row_but HR.out hBut HAp.out)
            have HAp' := Lib.hid (apart_add HAp.out (fun g hg => (HR.out.lt g hg).2) hloc)
            have HT' := Lib.hid hT'
            have hchk := check_is s 0 w4 (by omega) (checkE_yes HN.out)
            clear hck hT' hBut hloc HAdd
            go_wp2_with fail
            refine hchk.mono ?_
            rintro e w5 ⟨rfl, hB5⟩
            have hck5 : w5.cell? ⟨b, off + k, none⟩ = some (.string s) := (hB5.cell (p := ⟨b, off + k, none⟩) hbl).trans hck'
            have HT5 := Lib.hid (HT'.out.below hB5)
            have HR5 := Lib.hid (row_below HR'.out hB5)
            have hB05 : Below w1.heap.size w2 w5 := (hB.trans hB4).trans (hB5.mono (Nat.le_trans hwr hB4.size))
            have hw5 : w1.heap.size ≤ w5.heap.size := Nat.le_trans hw2 hB05.size
            clear hck' HT' HR' hB5 hchk
            go_wp2_with (at_builtin; refine wpList_append_own_at _ rfl _ _ 22 rfl w1.heap.size 9 i0 (.string ⟨#[]⟩) 1 16 Try.underlying22 hi hz0 hz1 hz2 rfl (by decide) _ _ _ rfl (HR5.out.alloc _) ⟨w5.heap.size, 0, none⟩ 1 1 [.string s] rfl rfl (cell_one_new _ _ _) (by intro u hu; simp at hu; subst hu; rfl) (by unfold maxLen; omega) (by omega) (by simp; omega) ?_; intro q6 w6 hown6 hg6 hnil6 hat6)
            have hBa : Below w5.heap.size w5 (w5.alloc (.cells #[.string s] 9)) := (Below.refl _ _).alloc (Nat.le_refl _) _
            have HTa := Lib.hid (HT5.out.below hBa)
            have HT6 := Lib.hid (tab_grown HTa.out hg6 HAp'.out)
            have HAp6 := Lib.hid (apart_grow HAp'.out HTa.out hat6)
            have hB6 : Below w1.heap.size w2 w6 := (hB05.alloc hw5 _).grown hg6 (by simp; omega) (fun j e => (HR5.out.lt j e).1)
            have HO6 := Lib.hid hown6
            clear hown6 hg6 hat6 hnil6 HT5 HTa hBa
            refine wp_region_noPanic ?_
            refine wp_region_steps (List.replicate 29 true) (fun w' => True) (by kernel_rfl) (by kernel_rfl) (fun _ _ _ _ _ h => h) trivial ?_
            simp only [List.replicate]
            repeat
              first
                | (refine Steps.skip (by rfl) ?_; simp only [Act.put, List.setIfInBounds_toArray, List.set_cons_zero, List.set_cons_succ])
                | (refine Steps.take ?_ (by rfl) ?_ ?_; rotate_left; (intro w' hw'; (try dsimp only at hw'); go_simp; (try with_reducible rfl)); simp only [Act.put, List.setIfInBounds_toArray, List.set_cons_zero, List.set_cons_succ])
            refine Steps.done ?_
            refine NoPanic.normal ?_
            have hd6 : Below w6.heap.size w6 w6.drew := (Below.refl _ w6).drew
            go_wp2
            go_roundw
            case rel =>
              refine ⟨k + 1, v', _, by omega, by go_num, rfl, by rw [HST.out]; exact HT6.out.below hd6, ?_, HAp6.out, hB6.drew⟩
              rw [HST.out, List.length_append]
              have e2 : texts (ns ++ [s]) = texts ns ++ [.string s] := by simp [texts]
              rw [e2]
              exact row_below HO6.out hd6
            case measure => simp [intOf]; omega
      · have q2 : decide (k < ss.length) = false := decide_eq_false hlt
        have htk : ss.take k = ss := List.take_of_length_le (by omega)
        rw [htk] at HT HR
        have hln : (allN ss).length ≤ 80 := by have := allN_len ss; omega
        obtain ⟨ns, hns⟩ : ∃ ns, allN ss = ns := ⟨_, rfl⟩
        rw [hns] at HT HR hln
        obtain ⟨Aq, cq, hq⟩ := row_shape HR.out
        subst hq
        obtain ⟨Wo, hWo⟩ : ∃ Wo, Wo = wr := ⟨_, rfl⟩
        subst hWo
        have qn : ((ns.length : Int) == (ns.length : Int)) = true := by simp
        clear htk hns hB hwr
        go_wp2
        go_loopw [9, 10, 11] (fun i u10 u11 wr => ∃ j : Nat, j ≤ ns.length ∧ i = .int .i64 j ∧ Below Wo.heap.size Wo wr) (fun i u10 u11 wr => ns.length - (intOf i).toNat)
        case atStart => exact ⟨0, Nat.zero_le _, rfl, Below.refl _ _⟩
        case round =>
          obtain ⟨j, hj, rfl, hB7⟩ := hrel
          by_cases hjl : j < ns.length
          · obtain ⟨b7, off7, rfl, hb7, hc7⟩ := (strs_own (row_below HR.out hB7)) (by omega)
            have hcj := hc7 j hjl
            have hnt : nameT ns (j : Nat) = ns[j]?.getD ⟨#[]⟩ ∧ nameE ns (j : Nat) = 0 := by rw [nameT, nameE, if_pos (by omega), if_pos (by omega)]; exact ⟨rfl, rfl⟩
            have hof := idx_of HT.out.nodup hjl
            have hsz7 : (ns[j]?.getD ⟨#[]⟩).size ≤ maxLen := by
              rw [List.getElem?_eq_getElem hjl]
              have := (name_size (HT.out.names _ (List.getElem_mem hjl))).2
              unfold maxLen
              exact Nat.le_trans this (by omega)
            generalize ns[j]?.getD ⟨#[]⟩ = s at hcj hnt hof hsz7
            have HNm := Lib.hid (name_is (j : Int) s 0 wr (HT.out.below hB7) hnt.1 hnt.2)
            have HOf := Lib.hid (fun (W : World) (hW : Below Wo.heap.size Wo W) => of_yes s (j : Int) 0 W (HT.out.below hW) hsz7 (by rw [hof.1]) hof.2)
            have m3 : (s.toList == s.toList) = true := by simp
            have r0 : (0 : Int) ≤ (j : Int) := by omega
            have r1 : (j : Int) < (ns.length : Int) := by omega
            have r2 : decide (j < ns.length) = true := decide_eq_true hjl
            clear hc7 hnt hof
            go_wp2_with fail
            refine HNm.out.mono ?_
            rintro e w8 ⟨rfl, hB8⟩
            have hB8' := nxt hB7 hB8 hB7.size
            have hcj' := (hB8.cell (p := ⟨b7, off7 + j, none⟩) hb7).trans hcj
            clear hcj
            go_wp2_with fail
            refine (HOf.out w8 hB8').mono ?_
            rintro e w9 ⟨rfl, hB9⟩
            have hB9' := nxt hB8' hB9 hB8'.size
            go_wp2
            go_roundw
            case rel => exact ⟨j + 1, by omega, by go_num, hB9'⟩
            case measure => simp [intOf]; omega
          · have r2 : decide (j < ns.length) = false := decide_eq_false hjl
            go_wp2_with fail
            refine (len_any wr (HT.out.below hB7)).mono ?_
            rintro e w8 ⟨rfl, rfl⟩
            go_wp2
            go_ret
            exact ⟨rfl, nxt hBw hB7 hBw.size⟩
end Go.Proofs.Ytdjmpmogmkiegaa
