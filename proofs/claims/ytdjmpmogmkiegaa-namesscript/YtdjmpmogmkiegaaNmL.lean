/- NamesOrder, walked. -/
import Derived.Test.YtdjmpmogmkiegaaNmK
namespace Go.Proofs.Ytdjmpmogmkiegaa
open Go.RowKit Go.Maps
set_option linter.unusedVariables false

theorem leq_str (t : TypeId) (a b : ByteArray) : binOp .leq t (.string a) (.string b) = pure (.bool (Op.bytesLess a.toList b.toList || a.toList == b.toList)) := by simp [binOp, Op.stringOp]

theorem row_shape {w : World} {base n : Nat} {e : TypeId} {v : Value} {xs : List Value} (h : w.ownsRow base e 1 v n xs) : ∃ A c, v = .slice A n c := by
  rcases h.2 with ⟨e', hn⟩ | ⟨g, cap, cur, e', _⟩
  · exact ⟨none, 0, by rw [e', hn]⟩
  · exact ⟨_, _, e'⟩

theorem mk_back (A : Option Addr) (c : Nat) (ss : List ByteArray) (w : World) (hA : Strs w.heap.size w A ss.reverse) (hm : ss.reverse.length ≤ 80) (hz : ∀ s ∈ ss.reverse, s.size ≤ 60) :
    Calls Try.prog 27 #[.slice A ss.length c] w (MadePost (allN ss.reverse) w) := by
  have := mk_any A c ss.reverse w hA hm hz
  rw [List.length_reverse] at this
  exact this
theorem len_is {lo B M n : Nat} {v : Value} {ns : List ByteArray} (w : World) (h : Tab w lo B M v ns) (hn : ns.length = n) : Calls Try.prog 11 #[.pointer (some ⟨B, 0, none⟩)] w fun e w' => e = .returned (.int .i64 n) ∧ w = w' := by
  rw [← hn]; exact len_any w h
def OrdPost (n : Nat) (ns : List ByteArray) (w : World) (e : Ending) (w' : World) : Prop :=
  ∃ A c o, e = .returned (.slice A n c) ∧ IsOrd ns o ∧ Nums w' A o ∧ Below w.heap.size w w'
theorem order_is {lo B M n : Nat} {v : Value} {ns : List ByteArray} (w : World) (h : Tab w lo B M v ns) (hn : ns.length = n) (hl : n ≤ 1000000) :
    Calls Try.prog 20 #[.pointer (some ⟨B, 0, none⟩)] w (OrdPost n ns w) := by
  subst hn
  refine (order_any w h hl).mono ?_
  rintro e w' ⟨g, c, o, rfl, ho, hr, hB⟩
  exact ⟨_, c, o, rfl, ho, nums_own hr, hB⟩

set_option maxHeartbeats 4000000 in
theorem order_law (A : Option Addr) (c : Nat) (ss : List ByteArray) (w : World) (hA : Strs w.heap.size w A ss) (hnil : A = none → c = 0) (hm : ss.length ≤ 140737488351232) (hz : ∀ s ∈ ss, s.size ≤ 140737488351232) :
    Calls Try.prog 7 #[.slice A ss.length c] w (Yes w) := by
  have HA := Lib.hid hA
  have HZ := Lib.hid hz
  clear hA hz hnil
  go_enter Try.func7, Try.ntmps7
  go_wp2_with fail
  refine (known_yes w).mono ?_
  rintro e w1 ⟨rfl, hB1⟩
  have HL := Lib.hid (long_any A c ss w1 ((HA.out.below hB1).mono hB1.size) hm HZ.out)
  go_wp2_with fail
  refine HL.out.mono ?_
  rintro e w2 ⟨rfl, rfl⟩
  clear HL
  cases hlong : longB ss with
  | true =>
    go_wp2
    go_ret
    exact ⟨rfl, hB1⟩
  | false =>
    obtain ⟨hl, hs⟩ := long_no hlong
    have HS := Lib.hid hs
    clear hs HZ
    obtain ⟨i0, hi, hz0, hz1, hz2⟩ := info_parts info_str
    have hw1 := hB1.size
    go_wp2
    go_loopw [4, 5] (fun s4 i wr => ∃ (z : Int) (q : Value), -1 ≤ z ∧ z < ss.length ∧ i = .int .i64 z ∧ s4 = q ∧ wr.ownsRow w.heap.size 9 1 q (ss.drop (z + 1).toNat).reverse.length (texts (ss.drop (z + 1).toNat).reverse) ∧ Below w.heap.size w wr) (fun s4 i wr => (intOf i + 1).toNat)
    case atStart =>
      refine ⟨(ss.length : Int) - 1, .slice none 0 0, by omega, by omega, rfl, rfl, ?_, hB1⟩
      rw [show ((ss.length : Int) - 1 + 1).toNat = ss.length by omega, List.drop_length]
      exact World.ownsRow_nil _ _ _ _
    case round =>
      obtain ⟨z, q, hz1', hz2', rfl, rfl, hrow, hB⟩ := hrel
      have HR := Lib.hid hrow
      have hwr := hB.size
      clear hrow
      by_cases hz : 0 ≤ z
      · obtain ⟨i, rfl⟩ : ∃ i : Nat, z = i := ⟨z.toNat, by omega⟩
        have hil : i < ss.length := by omega
        obtain ⟨b, off, rfl, hb, hc⟩ := HA.out.below hB (by omega)
        have hck := hc i hil
        have hst := back_step hil
        have e1 : ((i : Int) + 1).toNat = i + 1 := by omega
        rw [e1] at HR
        have hlen : (ss.drop (i + 1)).reverse.length ≤ 80 := by rw [List.length_reverse, List.length_drop]; omega
        obtain ⟨s, hs⟩ : ∃ s, ss[i]?.getD ⟨#[]⟩ = s := ⟨_, rfl⟩
        rw [hs] at hck hst
        have HST := Lib.hid hst
        obtain ⟨A', c', hq⟩ := row_shape HR.out
        subst hq
        obtain ⟨bs, hbs⟩ : ∃ bs, (ss.drop (i + 1)).reverse = bs := ⟨_, rfl⟩
        rw [hbs] at HR HST hlen ⊢
        have q0 : decide ((0 : Int) ≤ (i : Int)) = true := decide_eq_true (by omega)
        have q1 : (i : Int) < (ss.length : Int) := by omega
        have q2 : (0 : Int) ≤ (i : Int) := by omega
        clear hc hs hst hbs e1 hb
        go_wp2_with (at_builtin; refine wpList_append_own_at _ rfl _ _ 22 rfl w.heap.size 9 i0 (.string ⟨#[]⟩) 1 16 Try.underlying22 hi hz0 hz1 hz2 rfl (by decide) _ _ _ rfl (HR.out.alloc _) ⟨wr.heap.size, 0, none⟩ 1 1 [.string s] rfl rfl (cell_one_new _ _ _) (by intro u hu; simp at hu; subst hu; rfl) (by unfold maxLen; omega) (by omega) (by simp; omega) ?_; intro v5 w5 hown5 hg5 hnil5 hat5)
        refine ⟨⟨(i : Int) - 1, v5, by omega, by omega, rfl, rfl, ?_, ?_⟩, by simp [intOf]⟩
        · rw [show ((i : Int) - 1 + 1).toNat = i by omega, HST.out, List.length_append]
          have e2 : texts (bs ++ [s]) = texts bs ++ [.string s] := by simp [texts]
          rw [e2]
          exact hown5
        · exact (hB.alloc hwr _).grown hg5 (by simp; omega) (fun k e => ((HR.out.lt k e).1))
      · have hzm : z = -1 := by omega
        subst hzm
        have e1 : ((-1 : Int) + 1).toNat = 0 := by omega
        rw [e1, List.drop_zero] at HR
        have q0 : decide ((0 : Int) ≤ (-1 : Int)) = false := by decide
        obtain ⟨A', c', hq⟩ := row_shape HR.out
        subst hq
        have HM := Lib.hid (mk_any A c ss wr ((HA.out.below hB).mono hB.size) hl HS.out)
        have hrl : ss.reverse.length ≤ 80 := by rw [List.length_reverse]; exact hl
        have hrz : ∀ s ∈ ss.reverse, s.size ≤ 60 := fun s hs => HS.out s (List.mem_reverse.1 hs)
        have HSR := Lib.hid (strs_own HR.out)
        have HM2 := Lib.hid (fun (W : World) (hW : Below wr.heap.size wr W) => mk_back A' c' ss W ((HSR.out.below hW).mono hW.size) hrl hrz)
        clear hrz HSR HR e1 hz2' hz1' hz hrl
        go_wp2_with fail
        refine HM.out.mono ?_
        rintro e w3 ⟨Bt, Mt, vt, rfl, hTt, hB3⟩
        have HTt := Lib.hid hTt
        clear hTt
        go_wp2_with fail
        refine (HM2.out w3 hB3).mono ?_
        rintro e w4 ⟨Bu, Mu, vu, rfl, hTu, hB4⟩
        have HTu := Lib.hid hTu
        have HTt4 := Lib.hid (HTt.out.below hB4)
        have hBw4 := nxt (nxt hB hB3 hB.size) hB4 (Nat.le_trans hB.size hB3.size)
        obtain ⟨n, hn⟩ : ∃ n, (allN ss).length = n := ⟨_, rfl⟩
        have hn2 : (allN ss.reverse).length = n := (back_len ss).trans hn
        have hn80 : n ≤ 80 := by have := allN_len ss; omega
        have HN1 := Lib.hid hn
        have HN2 := Lib.hid hn2
        have qn : ((n : Int) != (n : Int)) = false := by simp
        clear hTu HTt HM HM2 hB3 hB4 hn hn2
        go_wp2_with fail
        refine (len_is w4 HTt4.out HN1.out).mono ?_
        rintro e w5 ⟨rfl, rfl⟩
        go_wp2_with fail
        refine (len_is w4 HTu.out HN2.out).mono ?_
        rintro e w5 ⟨rfl, rfl⟩
        go_wp2_with fail
        refine (order_is w4 HTt4.out HN1.out (by omega)).mono ?_
        rintro e w5 ⟨Aa, ca, oa, rfl, hoa, hNa, hB5⟩
        have HOa := Lib.hid hoa
        have HNa := Lib.hid hNa
        have HTt5 := Lib.hid (HTt4.out.below hB5)
        have HTu5 := Lib.hid (HTu.out.below hB5)
        have hBw5 := nxt hBw4 hB5 hBw4.size
        clear hoa hNa hB5 HTt4 HTu
        go_wp2_with fail
        refine (order_is w5 HTu5.out HN2.out (by omega)).mono ?_
        rintro e w6 ⟨Ab, cb, ob, rfl, hob, hNb, hB6⟩
        have HOb := Lib.hid hob
        have HNb := Lib.hid hNb
        have HNa6 := Lib.hid (HNa.out.below hB6)
        have HTt6 := Lib.hid (HTt5.out.below hB6)
        have HTu6 := Lib.hid (HTu5.out.below hB6)
        have hBw6 := nxt hBw5 hB6 hBw5.size
        have HSame := Lib.hid (ord_same HOa.out HOb.out (back_names ss))
        clear hob hNb hB6 HTt5 HTu5 HNa hBw5 hBw4
        go_wp2_with fail
        refine (len_is w6 HTt6.out HN1.out).mono ?_
        rintro e w7 ⟨rfl, rfl⟩
        go_wp2
        obtain ⟨Wo, rfl⟩ : ∃ Wo, Wo = wr := ⟨_, rfl⟩
        go_loopw [10, 11, 12, 13, 14, 15] (fun s10 i u12 u13 u14 u15 wr => ∃ k : Nat, k ≤ n ∧ i = .int .i64 k ∧ s10 = .string (lastT (allN ss) oa k) ∧ Below w6.heap.size w6 wr) (fun s10 i u12 u13 u14 u15 wr => n - (intOf i).toNat)
        case atStart => exact ⟨0, Nat.zero_le _, rfl, rfl, Below.refl _ _⟩
        case round =>
          obtain ⟨k, hk, rfl, rfl, hB7⟩ := hrel
          by_cases hlt : k < n
          · have hka : k < (allN ss).length := by rw [HN1.out]; exact hlt
            have hkb : k < (allN ss.reverse).length := by rw [HN2.out]; exact hlt
            have hla : oa.length = n := HOa.out.len.trans HN1.out
            have hlb : ob.length = n := HOb.out.len.trans HN2.out
            obtain ⟨ba, offa, rfl, hba, hca⟩ := HNa6.out.below hB7 (by omega)
            obtain ⟨bb, offb, rfl, hbb, hcb⟩ := HNb.out.below hB7 (by omega)
            have c1 := hca k (by omega)
            have c2 := hcb k (by omega)
            have hn1 := name_ord HOa.out hka
            have hn2 := name_ord HOb.out hkb
            rw [← HSame.out.2 k hka] at hn2
            have hll := last_less HOa.out HTt6.out.names hka
            have hsu : lastT (allN ss) oa (k + 1) = ordT (allN ss) oa k := lastT_succ k
            generalize oa[k]?.getD 0 = xa at c1 hn1
            generalize ob[k]?.getD 0 = xb at c2 hn2
            obtain ⟨S, hS⟩ : ∃ S, ordT (allN ss) oa k = S := ⟨_, rfl⟩
            rw [hS] at hn1 hn2 hll hsu
            generalize lastT (allN ss) oa k = L at hll ⊢
            have HN1' := Lib.hid (name_is (xa : Int) S 0 wr (HTt6.out.below hB7) hn1.1 hn1.2)
            have HN2' := Lib.hid (fun (W : World) (hW : Below w6.heap.size w6 W) => name_is (xb : Int) S 0 W (HTu6.out.below hW) hn2.1 hn2.2)
            have m1 := hll.1
            have m2 := hll.2
            have m3 : (S.toList == S.toList) = true := by simp
            have HSU := Lib.hid hsu
            have hleq := leq_str
            have q0 : (0 : Int) ≤ (k : Int) := by omega
            have q1 : (k : Int) < (n : Int) := by omega
            have q2 : decide (k < n) = true := decide_eq_true hlt
            clear hca hcb hn1 hn2 hll hsu hS hla hlb hka hkb
            go_wp2_with fail
            refine HN1'.out.mono ?_
            rintro e w8 ⟨rfl, hB8⟩
            have hB8' := nxt hB7 hB8 hB7.size
            have c2' := (hB8.cell (p := ⟨bb, offb + k, none⟩) hbb).trans c2
            clear c1 c2
            go_wp2_with fail
            refine (HN2'.out w8 hB8').mono ?_
            rintro e w9 ⟨rfl, hB9⟩
            have hB9' := nxt hB8' hB9 hB8'.size
            go_wp2
            exact ⟨⟨k + 1, by omega, by go_num, by rw [HSU.out], hB9'⟩, by simp [intOf]; omega⟩
          · have q2 : decide (k < n) = false := decide_eq_false hlt
            go_wp2
            go_ret
            exact ⟨rfl, nxt hBw6 hB7 hBw6.size⟩
end Go.Proofs.Ytdjmpmogmkiegaa
