/- The document's get, Decode. -/
import Derived.Test.YtbenfdbjpefegaaDoorStT
import Derived.Test.YtbenfdbjpefegaaDoorStG
namespace Go.Proofs.YtbenfdbjpefegaaDoor
open Go.RowKit Go.Maps
set_option linter.unusedVariables false

set_option maxHeartbeats 1000000 in
theorem rget_bytes (A : Option Addr) (c : Nat) (l : List Int) (p k : Nat) (pi ki : Int) (w : World) (hA : Bytes w A l) (ho : Octets l) (hk : k ≤ 8) (hi : p + k ≤ l.length) (hl : l.length ≤ 1000) (hpi : pi = p) (hki : ki = k) :
    Calls Tryd.prog 51 #[.slice A l.length c, .int .i64 pi, .int .i64 ki] w fun e w' => e = .returned (.int .i64 (numAt l p k)) ∧ w' = w := by
  subst hpi hki
  obtain ⟨L, hL⟩ : ∃ L, (l.drop p).take k = L := ⟨_, rfl⟩
  have hLl : L.length = k := by rw [← hL, List.length_take, List.length_drop]; omega
  have hLo : Octets L := by rw [← hL]; exact octets_take (octets_drop ho p) k
  have hLi : ∀ j, j < k → l[p + j]?.getD 0 = L[j]?.getD 0 := fun j hj => by rw [← hL, List.getElem?_take, if_pos hj, List.getElem?_drop]
  have hN : numAt l p k = wrap64 (unN L) := by unfold numAt; rw [hL]
  rw [hN]
  have HLI := Lib.hid hLi
  have HLO := Lib.hid hLo
  have HLL := Lib.hid hLl
  clear hN hL hLl hLo hLi ho
  go_enter Tryd.func51, Tryd.ntmps51
  go_wp2
  go_loopw [7, 8] (fun s7 i wr => ∃ (j : Nat), j ≤ k ∧ i = .int .i64 j ∧ s7 = .int .u64 (unN (L.take j)) ∧ wr = w) (fun s7 i wr => k - (intOf i).toNat)
  case atStart => exact ⟨0, Nat.zero_le _, rfl, by simp [unN], rfl⟩
  case round =>
    obtain ⟨j, hj, rfl, rfl, rfl⟩ := hrel
    by_cases hlt : j < k
    · obtain ⟨b, off, rfl, hb, hc⟩ := hA (by omega)
      obtain ⟨q, hq⟩ : ∃ q, q = p + j := ⟨_, rfl⟩
      have hck := hc q (by omega)
      rw [hq, HLI.out j hlt, ← hq] at hck
      have e1 : (p : Int) + (j : Int) = (q : Int) := by omega
      have hk0 : (0 : Int) ≤ (q : Int) := by omega
      have hk1 : (q : Int) < (l.length : Int) := by omega
      have hjl : j < L.length := by have := HLL.out; omega
      obtain ⟨x0, x1⟩ := octet_at HLO.out j hjl
      obtain ⟨m0, m1⟩ := un_step HLO.out (k := j) (by omega)
      have HS := Lib.hid (un_take hjl)
      obtain ⟨x, hx'⟩ : ∃ x, L[j]?.getD 0 = x := ⟨_, rfl⟩
      obtain ⟨m, hm'⟩ : ∃ m, unN (L.take j) = m := ⟨_, rfl⟩
      rw [hx'] at hck x0 x1 HS
      rw [hm'] at m0 m1 HS ⊢
      clear hc hx' hm' hq hjl
      go_wp2
      go_roundw
      case rel => exact ⟨j + 1, by omega, by go_num, by rw [HS.out], trivial⟩
      case measure => simp [intOf]; omega
    · have hkl : L.take j = L := List.take_of_length_le (by have := HLL.out; omega)
      rw [hkl]
      clear hkl
      go_wp2
      go_ret
      exact ⟨rfl, rfl⟩

theorem rdec_short (A : Option Addr) (c : Nat) (b : List Int) (w : World) (h : b.length < 13) :
    Calls Tryd.prog 28 #[.slice A b.length c] w (DecNo w) := by
  have q1 : decide ((b.length : Int) < 13) = true := decide_eq_true (by omega)
  go_enter Tryd.func28, Tryd.ntmps28
  go_wp2
  refine bodyPost_ret (v := .tuple #[stV 0 0 none 0 0, .int .i64 5]) (by simp [results, Tryd.f28, go_sem, stV]) rfl ?_
  exact ⟨rfl, alloc1 w _⟩
theorem numAt_one {b : List Int} (ho : Octets b) (h : 1 ≤ b.length) : numAt b 0 1 = b[0]?.getD 0 := by
  unfold numAt
  cases b with
  | nil => simp at h
  | cons x r =>
    have := ho x (by simp)
    simp [unN]
    exact wrap64_id (by omega) (by omega)

set_option maxRecDepth 100000 in
set_option maxHeartbeats 1500000 in
theorem rdec_long (A : Option Addr) (c : Nat) (b : List Int) (w : World) (hA : Bytes w A b) (ho : Octets b) (hl : b.length ≤ 1000) (h13 : 13 ≤ b.length) :
    Calls Tryd.prog 28 #[.slice A b.length c] w (DecPost b w) := by
  have q1 : decide ((b.length : Int) < 13) = false := decide_eq_false (by omega)
  have HG := fun W (hW : Below w.heap.size w W) (p k : Nat) (pi ki : Int) h1 h2 h3 h4 => rget_bytes A c b p k pi ki W (hA.below (B := 0) hW) ho h1 h2 hl h3 h4
  obtain ⟨bl, off, rfl, hb, hcb⟩ := hA (by omega)
  have hc0 := hcb 0 (by omega)
  rw [Nat.add_zero] at hc0
  have hx01 := octet_at ho 0 (by omega)
  have ht1 := numAt_one ho (by omega)
  have hz13 : (0 : Int) < (b.length : Int) := by omega
  have hz14 : 0 < b.length := by omega
  have hne : ¬ b = [] := fun e => by rw [e] at h13; simp at h13
  have hz15 : b.length ≠ 0 := by omega
  have hB0 : Below w.heap.size w (w.alloc (.cells #[.int .i64 0, .int .i64 0, .slice none 0 0] 24)) := alloc1 w _
  have HZ := Lib.hid (Holds.new w 24 #[.int .i64 0, .int .i64 0, .slice none 0 0])
  have hs0 : (w.alloc (.cells #[.int .i64 0, .int .i64 0, .slice none 0 0] 24)).heap.size = w.heap.size + 1 := by simp
  obtain ⟨i0, hi, hz0, hz1, hz2⟩ := info_parts info_int
  have HO := Lib.hid ho
  have h4 := numAt_four ho 9
  go_enter Tryd.func28, Tryd.ntmps28
  go_upto_region 3 with fail
  generalize w.alloc (.cells #[.int .i64 0, .int .i64 0, .slice none 0 0] 24) = W0 at *
  have hcx : W0.cell? ⟨bl, off, none⟩ = some (.int .u8 (b[0]?.getD 0)) := (hB0.cell (p := ⟨bl, off, none⟩) hb).trans hc0
  obtain ⟨t0, ht0⟩ : ∃ x, b[0]?.getD 0 = x := ⟨_, rfl⟩
  obtain ⟨n0, hn0⟩ : ∃ x, numAt b 1 8 = x := ⟨_, rfl⟩
  rw [ht0] at hcx hx01 ht1
  have hwr : IntKind.i64.wrap t0 = t0 := by rw [IntKind.wrap_i64]; omega
  have HN8 : ∀ W, Below W0.heap.size W0 W → Calls Tryd.prog 51 #[.slice (some ⟨bl, off, none⟩) b.length c, .int .i64 1, .int .i64 8] W fun e w' => e = .returned (.int .i64 n0) ∧ w' = W := fun W hW => hn0 ▸ HG W (nxt hB0 hW (by omega)) 1 8 1 8 (by omega) (by omega) rfl rfl
  have HT0 := Lib.hid (show decT b = t0 from ht1)
  have HN0 := Lib.hid (show decN b = n0 from hn0)
  have hbl0 : bl < W0.heap.size := by omega
  clear ht0 hn0 ht1 hc0 hcb
  go_cut [4] from 11 to 17 (fun s4 wx => s4 = .pointer (some ⟨w.heap.size + 1, 0, none⟩) ∧ wx = (W0.alloc (.cells #[.int .i64 t0, .int .i64 n0, .slice none 0 0] 24)).drew)
  case first =>
    have hD0 : Below W0.heap.size W0 W0.drew := (Below.refl _ W0).drew
    have hD1 : Below W0.heap.size W0 (W0.alloc (.cells #[.int .i64 0, .int .i64 0, .slice none 0 0] 24)).drew := ((Below.refl _ W0).alloc (Nat.le_refl _) _).drew
    go_region_held3 (fun w' => w'.cell? ⟨bl, off, none⟩ = some (.int .u8 t0)) (first | exact hcx | exact (hD1.cell (p := ⟨bl, off, none⟩) hbl0).trans hcx | go_keep) (first | (go_at_call 51; with_reducible refine Calls.mono (HN8 _ (by first | exact hD0 | exact hD1)) ?_; rintro e w6 ⟨rfl, rfl⟩))
    all_goals (go_wp2_with fail; go_meet; exact ⟨rfl, rfl⟩)
  case rest =>
    obtain ⟨rfl, rfl⟩ := hcut
    have HW1 := Lib.hid (show Holds (W0.alloc (.cells #[.int .i64 t0, .int .i64 n0, .slice none 0 0] 24)).drew (w.heap.size + 1) 24 #[.int .i64 t0, .int .i64 n0, .slice none 0 0] from by rw [← hs0]; exact Holds.new W0 24 #[.int .i64 t0, .int .i64 n0, .slice none 0 0])
    have hB1 : Below w.heap.size w (W0.alloc (.cells #[.int .i64 t0, .int .i64 n0, .slice none 0 0] 24)).drew := (nxt hB0 (alloc1 W0 _) (by omega)).drew
    have HZ1 := Lib.hid (HZ.out.below ((alloc1 W0 (.cells #[.int .i64 t0, .int .i64 n0, .slice none 0 0] 24)).drew) (by omega))
    have hs1 : (W0.alloc (.cells #[.int .i64 t0, .int .i64 n0, .slice none 0 0] 24)).drew.heap.size = w.heap.size + 2 := by simp; omega
    have HB1 := Lib.hid hB1
    have HGH := Lib.hid HG
    clear HN8 HZ hB0 hB1 HG hcx hA
    generalize (W0.alloc (.cells #[.int .i64 t0, .int .i64 n0, .slice none 0 0] 24)).drew = W1 at *
    obtain ⟨K, hK⟩ : ∃ K : Nat, numAt b 9 4 = (K : Int) := ⟨(numAt b 9 4).toNat, by omega⟩
    rw [hK] at h4
    have hg9 := HGH.out W1 HB1.out 9 4 9 4 (by omega) (by omega) rfl rfl
    rw [hK] at hg9
    have hmb : measB b = decide (b.length = 13 + 8 * K) := by
      unfold measB
      rw [hK, decide_eq_true h13]
      by_cases e : b.length = 13 + 8 * K
      · rw [decide_eq_true e, decide_eq_true (show (b.length : Int) - 13 = 8 * (K : Int) by omega)]; rfl
      · rw [decide_eq_false e, decide_eq_false (show ¬ ((b.length : Int) - 13 = 8 * (K : Int)) by omega)]; rfl
    clear hs0 hK
    have z0 := HZ1.out.c (j := 0) rfl
    have z1 := HZ1.out.c (j := 1) rfl
    have z2 := HZ1.out.c (j := 2) rfl
    have f0 := HZ1.out.frozen 0
    have f1 := HZ1.out.frozen 1
    have f2 := HZ1.out.frozen 2
    by_cases hbk : b.length = 13 + 8 * K
    · have q5 : ((b.length : Int) != 13 + 8 * (K : Int)) = false := by simp; omega
      rw [decide_eq_true hbk] at hmb
      have HM := Lib.hid hmb
      have HBK := Lib.hid hbk
      have hKb : K ≤ 1000 := by omega
      clear hmb hbk z0 z1 z2 f0 f1 f2
      go_wp2_with fail
      refine hg9.mono ?_
      rintro e w2 ⟨rfl, hw2⟩
      rw [hw2]
      clear hg9 hw2
      go_wp2_with fail
      go_loopw [6] (fun i wr => ∃ (k : Nat) (v : Value), k ≤ K ∧ i = .int .i64 k ∧ Holds wr (w.heap.size + 1) 24 #[.int .i64 t0, .int .i64 n0, v] ∧ wr.ownsRow W1.heap.size 3 1 v k (intsOf (decTo b k)) ∧ Only (w.heap.size + 1) W1 wr) (fun i wr => K - (intOf i).toNat)
      case atStart => exact ⟨0, .slice none 0 0, Nat.zero_le _, rfl, HW1.out, World.ownsRow_nil _ _ _ _, Only.of (Below.refl _ _) (Nat.le_refl _)⟩
      case round =>
        obtain ⟨k, v, hk, rfl, hH, hown, hO⟩ := hrel
        have HH := Lib.hid hH
        have HOWN := Lib.hid hown
        have HON := Lib.hid hO
        have hc2' := hH.c (j := 2) rfl
        by_cases hlt : k < K
        · have q2 : decide ((k : Int) < (K : Int)) = true := decide_eq_true (by omega)
          obtain ⟨k8, hk8⟩ : ∃ k8, k8 = 8 * k := ⟨_, rfl⟩
          obtain ⟨p, hp⟩ : ∃ p, p = 13 + 8 * k := ⟨_, rfl⟩
          have hw1 : IntKind.i64.wrap (8 * (k : Int)) = (k8 : Int) := by rw [hk8, IntKind.wrap_i64]; omega
          have hw2 : IntKind.i64.wrap (13 + (k8 : Int)) = (p : Int) := by rw [hk8, hp, IntKind.wrap_i64]; omega
          have hBw : Below w.heap.size w wr := nxt HB1.out (hO.below (lo := w.heap.size) (by omega) (by omega)) (Nat.le_refl _)
          have HNp := HGH.out wr.drew hBw.drew p 8 (p : Int) 8 (by omega) (by have := HBK.out; omega) rfl rfl
          obtain ⟨x, hx⟩ : ∃ x, numAt b p 8 = x := ⟨_, rfl⟩
          rw [hx] at HNp
          have HX := Lib.hid hx
          have HPP := Lib.hid hp
          have HDL := Lib.hid (decTo_succ b k)
          have hsw := hO.size
          have hk99 : k ≤ 1000 := by omega
          clear hx hH hown hO hp hk8
          go_wp2_with fail
          refine wp_region_noPanic ?_
          refine wp_region_heads [true, true, true, true, true, true, false, false] (fun w' => w'.cell? ⟨w.heap.size + 1, 2, none⟩ = some v) (by kernel_rfl) (by kernel_rfl) (fun _ _ _ _ _ h => h) hc2' ?_
          iterate 6
            refine Heads.take ?_ (by rfl) ?_ ?_
            rotate_left
            · intro w' hw'
              try dsimp only at hw'
              go_simp
              try with_reducible rfl
            simp only [Act.put, List.setIfInBounds_toArray, List.set_cons_zero, List.set_cons_succ]
          refine Heads.call 51 #[.slice (some ⟨bl, off, none⟩) b.length c, .int .i64 (p : Int), .int .i64 8] (by rfl) (by go_simp) ?_
          refine HNp.mono ?_
          rintro e w3 ⟨rfl, rfl⟩
          refine ⟨_, rfl, hc2', ?_⟩
          simp only [Act.put, List.setIfInBounds_toArray, List.set_cons_zero, List.set_cons_succ]
          refine Heads.make (.slice (some ⟨wr.heap.size, 0, none⟩) 1 1) (w1 := wr.drew.alloc (.cells #[.int .i64 x] 3)) (by rfl) (by go_simp) ?_ ?_
          · show ((wr.drew).alloc _).cell? _ = _
            rw [World.cell?_alloc_lt _ _ _ (show (w.heap.size + 1 : Nat) < wr.drew.heap.size from by simp; omega)]
            exact hc2'
          refine Heads.done ?_
          simp only [Act.put, List.setIfInBounds_toArray, List.set_cons_zero, List.set_cons_succ]
          have hnot := HH.out.not_row HOWN.out (by decide)
          have HNOT := Lib.hid hnot
          clear hnot hc2'
          go_wp2_with (at_builtin; refine wpList_append_own_at _ rfl _ _ 22 rfl W1.heap.size 3 i0 (.int .i64 0) 1 8 Tryd.underlying22 hi hz0 hz1 hz2 rfl (by decide) _ _ _ rfl (HOWN.out.drew.alloc _) ⟨wr.heap.size, 0, none⟩ 1 1 [.int .i64 x] rfl rfl (cell_one wr.drew _ _) (by intro u hu; simp at hu; subst hu; rfl) (by unfold maxLen; omega) (by omega) (by simp; omega) ?_; intro v5 w5 hown5 hg5 hnil5 hat5; obtain ⟨A5, c5, rfl⟩ := own_form hown5; have HH5 := (HH.out.of (W' := wr.drew) rfl |>.alloc (.cells #[.int .i64 x] 3)).kept hg5 HNOT.out; have c25 := HH5.c (j := 2) rfl; have f25 := HH5.frozen 2; have HHH5 := Lib.hid HH5; have HOWN5 := Lib.hid hown5; have HG5 := Lib.hid hg5; clear hown5 hg5 hnil5 hat5 HH5)
          refine NoPanic.normal ?_
          go_wp2
          go_roundw
          case rel =>
            have hrow : ∀ g, v.ownBlock = some g → W1.heap.size ≤ g := fun g e => (HOWN.out.lt g e).1
            have hO5 : Only (w.heap.size + 1) W1 w5 := HON.out.more HG5.out hrow
            have hset : Only (w.heap.size + 1) w5 (w5.setCell ⟨w.heap.size + 1, 2, none⟩ (.slice A5 (k + 1) c5)) := (Only.of (Below.refl _ _) (Nat.le_refl _)).set 2 _
            refine ⟨k + 1, .slice A5 (k + 1) c5, by omega, by go_num, HHH5.out.set 2 _, ?_, hO5.then hset⟩
            have h1 := HOWN5.out
            rw [intsOf_snoc, ← HX.out, HPP.out, ← HDL.out] at h1
            refine h1.kept hset.grown (.inr ?_)
            exact (HHH5.out.not_row h1 (by decide)).symm
          case measure => simp [intOf]; omega
        · have hkK : k = K := by omega
          have q2 : decide ((k : Int) < (K : Int)) = false := decide_eq_false (by omega)
          have hbk := HBK.out
          have hdl : decTo b k = decL b := by unfold decL; rw [show (b.length - 13) / 8 = k by omega]
          have hlen : (decL b).length = k := by rw [← hdl, decTo_len]
          rw [hdl] at hown
          obtain ⟨Av, cv, rfl⟩ := own_form hown
          have hints := own_ints hlen hown
          have HCK := rcheck_any t0 n0 Av cv (decL b) wr hints (by omega)
          rw [hlen] at HCK
          have hOb := hO.below (lo := W1.heap.size - 2) (by omega) (by omega)
          have hBw : Below w.heap.size w wr := nxt HB1.out hOb (by omega)
          have HZr := HZ1.out.of (hO.block w.heap.size (by omega) (by omega))
          have hr0 := hH.c (j := 0) rfl
          have hr1 := hH.c (j := 1) rfl
          have HDEC : decOk b = (checkE t0 n0 (decL b) == 0) := by unfold decOk; rw [HM.out]; rw [HT0.out, HN0.out]; rfl
          have HDEC' := Lib.hid HDEC
          have HLEN := Lib.hid hlen
          have HOWNL := Lib.hid hown
          have hzl : w.heap.size < wr.heap.size := HZr.lt
          have hHl := hH.lt
          have HHr := Lib.hid hH
          have HZZ := Lib.hid HZr
          have HTT := Lib.hid (show decT b = t0 from HT0.out)
          have HNN' := Lib.hid (show decN b = n0 from HN0.out)
          clear HDEC hlen hown hints hOb HZr hH hO hdl HT0 HN0 hkK hbk
          unfold stV at HCK
          obtain ⟨r, hr⟩ : ∃ r, checkE t0 n0 (decL b) = r := ⟨_, rfl⟩
          rw [hr] at HCK HDEC'
          clear hr
          cases hr0' : (r != 0)
          · have hre : (r == 0) = true := by simpa using hr0'
            rw [hre] at HDEC'
            go_wp2_with fail
            refine HCK.mono ?_
            rintro e w7 ⟨rfl, hB7⟩
            have HH7 := HHr.out.below hB7 hHl
            have HZ7 := HZZ.out.below hB7 hzl
            have q0 := HH7.c (j := 0) rfl
            have q1 := HH7.c (j := 1) rfl
            have q2 := HH7.c (j := 2) rfl
            have z0 := HZ7.c (j := 0) rfl
            have z1 := HZ7.c (j := 1) rfl
            have z2 := HZ7.c (j := 2) rfl
            have f0 := HZ7.frozen 0
            have f1 := HZ7.frozen 1
            have f2 := HZ7.frozen 2
            go_wp2
            have HZ8 := ((HZ7.set 0 (.int .i64 t0)).set 1 (.int .i64 n0)).set 2 (.slice Av k cv)
            have hO8 := ((((Only.of (Below.refl w7.heap.size w7) (Nat.le_refl _)).set (B := w.heap.size) 0 (.int .i64 t0)).set 1 (.int .i64 n0)).set 2 (.slice Av k cv))
            generalize ((w7.setCell ⟨w.heap.size, 0, none⟩ (.int .i64 t0)).setCell ⟨w.heap.size, 1, none⟩ (.int .i64 n0)).setCell ⟨w.heap.size, 2, none⟩ (.slice Av k cv) = W8 at *
            have y0 := HZ8.c (j := 0) rfl
            have y1 := HZ8.c (j := 1) rfl
            have y2 := HZ8.c (j := 2) rfl
            have hs7 := hB7.size
            refine bodyPost_ret (v := .tuple #[.agg #[.int .i64 t0, .int .i64 n0, (.slice Av k cv)], .int .i64 0]) (by simp [results, Tryd.f28, go_sem, y0, y1, y2]) rfl ?_
            refine .inl ⟨HDEC'.out, Av, cv, ?_, ?_, nxt (nxt hBw hB7 hBw.size) (hO8.below (lo := w.heap.size) (Nat.le_refl _) (by omega)) (Nat.le_refl _)⟩
            · rw [HTT.out, HNN'.out, HLEN.out]; rfl
            · unfold OwnInts
              rw [HLEN.out]
              have h1 := row_below HOWNL.out hB7
              exact row_more (h1.kept hO8.grown (.inr (HZ7.not_row h1 (by decide)).symm)) (by omega)
          · have hre : (r == 0) = false := by simpa using hr0'
            rw [hre] at HDEC'
            go_wp2_with fail
            refine HCK.mono ?_
            rintro e w7 ⟨rfl, hB7⟩
            have HZ7 := HZZ.out.below hB7 hzl
            have z0 := HZ7.c (j := 0) rfl
            have z1 := HZ7.c (j := 1) rfl
            have z2 := HZ7.c (j := 2) rfl
            have f0 := HZ7.frozen 0
            have f1 := HZ7.frozen 1
            have f2 := HZ7.frozen 2
            go_wp2
            have HZ8 := ((HZ7.set 0 (.int .i64 0)).set 1 (.int .i64 0)).set 2 (.slice none 0 0)
            have hO8 := ((((Only.of (Below.refl w7.heap.size w7) (Nat.le_refl _)).set (B := w.heap.size) 0 (.int .i64 0)).set 1 (.int .i64 0)).set 2 (.slice none 0 0))
            generalize ((w7.setCell ⟨w.heap.size, 0, none⟩ (.int .i64 0)).setCell ⟨w.heap.size, 1, none⟩ (.int .i64 0)).setCell ⟨w.heap.size, 2, none⟩ (.slice none 0 0) = W8 at *
            have y0 := HZ8.c (j := 0) rfl
            have y1 := HZ8.c (j := 1) rfl
            have y2 := HZ8.c (j := 2) rfl
            have hs7 := hB7.size
            refine bodyPost_ret (v := .tuple #[.agg #[.int .i64 0, .int .i64 0, (.slice none 0 0)], .int .i64 5]) (by simp [results, Tryd.f28, go_sem, y0, y1, y2]) rfl ?_
            exact .inr ⟨HDEC'.out, rfl, nxt (nxt hBw hB7 hBw.size) (hO8.below (lo := w.heap.size) (Nat.le_refl _) (by omega)) (Nat.le_refl _)⟩
    · have q5 : ((b.length : Int) != 13 + 8 * (K : Int)) = true := by rw [bne_iff_ne]; omega
      rw [decide_eq_false hbk] at hmb
      clear hbk
      go_wp2_with fail
      refine hg9.mono ?_
      rintro e w2 ⟨rfl, rfl⟩
      go_wp2
      have HZ8 := ((HZ1.out.set 0 (.int .i64 0)).set 1 (.int .i64 0)).set 2 (.slice none 0 0)
      have hO8 := ((((Only.of (Below.refl w2.heap.size w2) (Nat.le_refl _)).set (B := w.heap.size) 0 (.int .i64 0)).set 1 (.int .i64 0)).set 2 (.slice none 0 0))
      generalize ((w2.setCell ⟨w.heap.size, 0, none⟩ (.int .i64 0)).setCell ⟨w.heap.size, 1, none⟩ (.int .i64 0)).setCell ⟨w.heap.size, 2, none⟩ (.slice none 0 0) = W8 at *
      have y0 := HZ8.c (j := 0) rfl
      have y1 := HZ8.c (j := 1) rfl
      have y2 := HZ8.c (j := 2) rfl
      refine bodyPost_ret (v := .tuple #[.agg #[.int .i64 0, .int .i64 0, .slice none 0 0], .int .i64 5]) (by simp [results, Tryd.f28, go_sem, y0, y1, y2]) rfl ?_
      exact .inr ⟨by unfold decOk; rw [hmb]; rfl, rfl, nxt HB1.out (hO8.below (lo := w.heap.size) (Nat.le_refl _) (by omega)) (Nat.le_refl _)⟩
theorem rdec_any (A : Option Addr) (c : Nat) (b : List Int) (w : World) (hA : Bytes w A b) (ho : Octets b) (hl : b.length ≤ 1000) :
    Calls Tryd.prog 28 #[.slice A b.length c] w (DecPost b w) := by
  by_cases h : b.length < 13
  · refine (rdec_short A c b w h).mono ?_
    intro e w' hp
    exact .inr ⟨by unfold decOk measB; rw [decide_eq_false (show ¬ 13 ≤ b.length by omega)]; rfl, hp⟩
  · exact rdec_long A c b w hA ho hl (by omega)
end Go.Proofs.YtbenfdbjpefegaaDoor
