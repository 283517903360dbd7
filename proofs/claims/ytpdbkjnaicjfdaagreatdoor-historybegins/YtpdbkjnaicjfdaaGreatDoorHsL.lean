/- HistoryBegins. -/
import Derived.Test.YtpdbkjnaicjfdaaGreatDoorHsN
import Derived.Test.YtpdbkjnaicjfdaaGreatDoorHsPl
import Derived.Test.YtpdbkjnaicjfdaaGreatDoorHsX
import Derived.BigQuiet
namespace Go.Proofs.YtpdbkjnaicjfdaaGreatDoor
open Go.RowKit Go.Maps Go.BigFrame
set_option linter.unusedVariables false
set_option linter.unusedSimpArgs false
set_option maxRecDepth 100000

theorem evs_take {w : World} {A : Option Addr} {zs : List EvZ} (h : EvIn w A zs) (d : Nat) : EvIn w A (zs.take d) := by
  refine ⟨fun hl => ?_, fun z hz => h.nums z (List.mem_of_mem_take hz), fun z hz => h.len z (List.mem_of_mem_take hz), by have := h.many; rw [List.length_take]; omega⟩
  rw [List.length_take] at hl
  obtain ⟨b, off, e, hlt, hc⟩ := h.read (by omega)
  refine ⟨b, off, e, hlt, fun k hk j hj => ?_⟩
  rw [List.length_take] at hk
  rw [hc k (by omega) j hj, List.getElem?_take, if_pos (by omega)]
theorem below_al {w W : World} (h : Below w.heap.size w W) (o : Obj) : Below w.heap.size w (W.alloc o) := h.alloc h.size o

set_option maxHeartbeats 8000000 in
theorem begins_law (A : Option Addr) (c : Nat) (zs : List EvZ) (n : Int) (w : World) (hG : Gds w) (hA : ReadEvs w.heap.size w A zs) (hN : ReadNums w zs) (hm : zs.length ≤ maxLen) (hc : zs.length ≤ c) (h1 : -9223372036854775808 ≤ n) (h2 : n ≤ 9223372036854775807) :
    Calls Tryz.prog 7 #[.slice A zs.length c, .int .i64 n] w (Yes w) := by
  obtain ⟨hw, hk⟩ := hG
  have HKN := Lib.hid (hknown_any w hw hk)
  have HA := Lib.hid hA
  have HN := Lib.hid hN
  have HLG := Lib.hid (fun W (hB : Below w.heap.size w W) => long_any A c zs W ((HA.out.below hB).mono hB.size) hm)
  cases hlong : longB (zs.map Prod.fst) with
  | true =>
    rw [hlong] at HLG
    clear hlong hA hN hw hk hm
    go_enter Tryz.func7, Tryz.ntmps7
    go_wp2_with fail
    refine HKN.out.mono ?_
    rintro e w1 ⟨rfl, hB1⟩
    go_wp2_with fail
    refine (HLG.out _ hB1).mono ?_
    rintro e w2 ⟨rfl, hB2⟩
    go_wp2
    go_ret
    exact ⟨rfl, nxt hB1 hB2 hB1.size⟩
  | false =>
    obtain ⟨hE, h60⟩ := evs_in hA hN hlong
    rw [hlong] at HLG
    have HE := Lib.hid hE
    obtain ⟨d, hd, hP⟩ := pick_ex n ((zs.length : Int) + 1) h1 h2 (by omega) (by omega)
    have HP := Lib.hid hP
    have hdl : d ≤ zs.length := by omega
    have hbg := begins (l := zs.map Prod.fst) (n := d) (by rw [List.length_map]; exact hdl)
    obtain ⟨m, hmm⟩ : ∃ m, zs.length = m := ⟨_, rfl⟩
    have HMM := Lib.hid hmm
    have hdt : (zs.take d).length = d := by rw [List.length_take]; omega
    have HCK := Lib.hid (fun (k : Nat) (hkm : k ≤ zs.length) W (hB : Below w.heap.size w W) => (show Calls Tryz.prog 20 #[.slice A k c] W (fun e w' => e = .returned (.agg #[.int .i64 (layE ((zs.map Prod.fst).take k)), .int .i64 (layP ((zs.map Prod.fst).take k))]) ∧ Below w.heap.size w w' ∧ Below W.heap.size W w') from by
      have h := check_any A c (zs.take k) W (evs_take (HE.out.below hB) k)
      rw [List.length_take, Nat.min_eq_left hkm, List.map_take] at h
      exact h.mono (fun e w' h => ⟨h.1, nxt hB h.2 hB.size, h.2⟩)))
    have HL1 := Lib.hid (fun W (hB : Below w.heap.size w W) => lives_any A c zs W (HE.out.below hB))
    have HL2 := Lib.hid (fun W (hB : Below w.heap.size w W) => lives_any A c (zs.take d) W (evs_take (HE.out.below hB) d))
    rw [hdt, List.map_take] at HL2
    have HTA : (zs.map Prod.fst).take zs.length = zs.map Prod.fst := List.take_of_length_le (by rw [List.length_map]; exact Nat.le_refl _)
    have hA0 : A = none → d = 0 := fun e => by
      by_cases hz : 0 < zs.length
      · obtain ⟨b, off, e', _⟩ := hA hz
        rw [e] at e'; cases e'
      · omega
    have HF1 := Lib.hid (show (layX dk0 0 (zs.map Prod.fst)).2.1 = layE (zs.map Prod.fst) ∧ (layX dk0 0 (zs.map Prod.fst)).2.2 = layP (zs.map Prod.fst) ∧ (layX dk0 0 (zs.map Prod.fst)).1 = layD (zs.map Prod.fst) from ⟨rfl, rfl, rfl⟩)
    have HF2 := Lib.hid (show (layX dk0 0 ((zs.map Prod.fst).take d)).2.1 = layE ((zs.map Prod.fst).take d) ∧ (layX dk0 0 ((zs.map Prod.fst).take d)).2.2 = layP ((zs.map Prod.fst).take d) ∧ (layX dk0 0 ((zs.map Prod.fst).take d)).1 = layD ((zs.map Prod.fst).take d) from ⟨rfl, rfl, rfl⟩)
    unfold LivesPost at HL1 HL2
    unfold fltV at HL1 HL2
    rw [HF1.out.1, HF1.out.2.1, HF1.out.2.2] at HL1
    rw [HF2.out.1, HF2.out.2.1, HF2.out.2.2] at HL2
    have HE1 : layE (zs.map Prod.fst) = layE ((zs.map Prod.fst).take m) := by rw [← hmm, HTA]
    have HP1 : layP (zs.map Prod.fst) = layP ((zs.map Prod.fst).take m) := by rw [← hmm, HTA]
    rw [HE1, HP1] at HL1 hbg
    have hlk := lay_ok (zs.map Prod.fst) dk0 0 dk0_ok
    have hmany1 : (layD (zs.map Prod.fst)).trs.length ≤ 60 := by
      have k1 := hlk.1.many
      have k2 := hlk.2.1
      rw [List.length_map] at k2
      have k3 : dk0.evs = 0 := rfl
      unfold layD
      omega
    clear hlk
    have HMANY := Lib.hid hmany1
    clear hmany1
    generalize layD (zs.map Prod.fst) = d1 at *
    generalize layD ((zs.map Prod.fst).take d) = d2 at *
    obtain ⟨eF, heF⟩ : ∃ F : Nat → Int, ∀ k, layE ((zs.map Prod.fst).take k) = F k := ⟨fun k => layE ((zs.map Prod.fst).take k), fun _ => rfl⟩
    obtain ⟨pF, hpF⟩ : ∃ F : Nat → Int, ∀ k, layP ((zs.map Prod.fst).take k) = F k := ⟨fun k => layP ((zs.map Prod.fst).take k), fun _ => rfl⟩
    simp only [heF, hpF] at HCK HL1 HL2 hbg
    have HBG := Lib.hid hbg
    rw [hmm] at HCK HL1 HLG hdl HP h60 hc ⊢
    have hsl : ∀ W : World, True := fun _ => trivial
    clear hlong hA hN hw hk hm hE hP hbg hd h1 h2 hdt hmm HE1 HP1 HTA heF hpF HF1 HF2
    go_enter Tryz.func7, Tryz.ntmps7
    go_wp2_with fail
    refine HKN.out.mono ?_
    rintro e w1 ⟨rfl, hB1⟩
    go_wp2_with fail
    refine (HLG.out _ hB1).mono ?_
    rintro e w2 ⟨rfl, hB2⟩
    have hBB := nxt hB1 hB2 hB1.size
    go_wp2_with fail
    refine (HP.out _).mono ?_
    rintro e w3 ⟨rfl, rfl⟩
    go_wp2_with fail
    clear HKN HLG HP hB1 hB2
    go_cut [6, 7] from 22 to 27 (fun s6 s7 wx => ∃ b6 b7, s6 = .pointer (some ⟨b6, 0, none⟩) ∧ s7 = .pointer (some ⟨b7, 0, none⟩) ∧ Holds wx b6 29 #[.int .i64 (eF m), .int .i64 (pF m)] ∧ Holds wx b7 29 #[.int .i64 (eF d), .int .i64 (pF d)] ∧ Below w.heap.size w wx)
    case first =>
      clear HL1 HL2 HBG HA HN HE HMM hA0
      have hdc : d ≤ c := by omega
      refine wp_region_any (by kernel_rfl) ?_
      change wpAny _ _ _ _ _ _ _ (World.drew _)
      refine wpAny_take_at 22 (i := 0) (v := ?_) rfl rfl (by kernel_rfl) (by kernel_rfl) (by kernel_rfl) (fun _ _ _ h => h) (Or.inl ⟨by rfl, ?_⟩) ?_
      rotate_left
      · intro W
        go_simp
        (try rw [if_pos hdc])
        (try with_reducible rfl)
      simp only [Act.put, List.setIfInBounds_toArray, List.set_cons_zero, List.set_cons_succ]
      refine wpAny_take_at 24 (i := 2) (v := ?_) rfl rfl (by kernel_rfl) (by kernel_rfl) (by kernel_rfl) (fun _ _ _ h => h) (Or.inl ⟨by rfl, ?_⟩) ?_
      rotate_left
      · intro W
        go_simp
        (try rw [if_pos hdc])
        (try with_reducible rfl)
      simp only [Act.put, List.setIfInBounds_toArray, List.set_cons_zero, List.set_cons_succ]
      refine wpAny_take_at 25 (i := 3) (v := ?_) rfl rfl (by kernel_rfl) (by kernel_rfl) (by kernel_rfl) (fun _ _ _ h => h) (Or.inl ⟨by rfl, ?_⟩) ?_
      rotate_left
      · intro W
        go_simp
        (try rw [if_pos hdc])
        (try with_reducible rfl)
      simp only [Act.put, List.setIfInBounds_toArray, List.set_cons_zero, List.set_cons_succ]
      refine wpAny_take_at 26 (i := 4) (v := ?_) rfl rfl (by kernel_rfl) (by kernel_rfl) (by kernel_rfl) (fun _ _ _ h => h) (Or.inl ⟨by rfl, ?_⟩) ?_
      rotate_left
      · intro W
        go_simp
        (try rw [if_pos hdc])
        (try with_reducible rfl)
      simp only [Act.put, List.setIfInBounds_toArray, List.set_cons_zero, List.set_cons_succ]
      generalize ha : Act.mk _ _ = a0
      have hBd : Below w.heap.size w (World.drew _) := hBB.drew
      refine made_two (fun c1 c5 x6 x7 a u => ∃ t6 t7 t23 t27, a = (((a0.put (some 23) t23).put (some 27) t27).put (some 6) t6).put (some 7) t7 ∧ Below w.heap.size w u ∧ t23 = (if c1 = true then .agg #[.int .i64 (eF m), .int .i64 (pF m)] else undef) ∧ t27 = (if c5 = true then .agg #[.int .i64 (eF d), .int .i64 (pF d)] else undef) ∧
        (x6 = true → ∃ b, t6 = .pointer (some ⟨b, 0, none⟩) ∧ Holds u b 29 #[.int .i64 0, .int .i64 0] ∧ w.heap.size ≤ b) ∧ (x7 = true → ∃ b, t7 = .pointer (some ⟨b, 0, none⟩) ∧ Holds u b 29 #[.int .i64 0, .int .i64 0] ∧ w.heap.size ≤ b) ∧ (x6 = true → x7 = true → t6 ≠ t7))
        (by kernel_rfl) ?h1 ?h5 ?h6 ?h7 ?hend 4 false false false false _ _ rfl (by simp) ⟨undef, undef, undef, undef, by subst ha; rfl, hBd, rfl, rfl, fun e => (by cases e), fun e => (by cases e), fun e => (by cases e)⟩
      case h1 =>
        rintro x6 x7 a u K ⟨t6, t7, t23, t27, rfl, hBu, rfl, rfl, h6, h7, hne⟩ hn
        refine wpOp_step rfl (fun K' hK => ?_)
        subst ha
        simp only [Act.put, List.setIfInBounds_toArray, List.set_cons_zero, List.set_cons_succ]
        go_simp
        refine (HCK.out _ (Nat.le_refl m) _ hBu).mono ?_
        rintro e w4 ⟨rfl, hBc, hb⟩
        go_simp
        refine hK _ _ (hn _ _ ⟨t6, t7, _, _, by rfl, hBc, rfl, rfl, fun e => ?_, fun e => ?_, hne⟩)
        · obtain ⟨b, e1, e2, e3⟩ := h6 e
          exact ⟨b, e1, Holds.below e2 hb (Holds.lt e2), e3⟩
        · obtain ⟨b, e1, e2, e3⟩ := h7 e
          exact ⟨b, e1, Holds.below e2 hb (Holds.lt e2), e3⟩
      case h5 =>
        rintro x6 x7 a u K ⟨t6, t7, t23, t27, rfl, hBu, rfl, rfl, h6, h7, hne⟩ hn
        refine wpOp_step rfl (fun K' hK => ?_)
        subst ha
        simp only [Act.put, List.setIfInBounds_toArray, List.set_cons_zero, List.set_cons_succ]
        go_simp
        refine (HCK.out _ hdl _ hBu).mono ?_
        rintro e w4 ⟨rfl, hBc, hb⟩
        go_simp
        refine hK _ _ (hn _ _ ⟨t6, t7, _, _, by rfl, hBc, rfl, rfl, fun e => ?_, fun e => ?_, hne⟩)
        · obtain ⟨b, e1, e2, e3⟩ := h6 e
          exact ⟨b, e1, Holds.below e2 hb (Holds.lt e2), e3⟩
        · obtain ⟨b, e1, e2, e3⟩ := h7 e
          exact ⟨b, e1, Holds.below e2 hb (Holds.lt e2), e3⟩
      case h6 =>
        rintro c1 c5 x7 a u K ⟨t6, t7, t23, t27, rfl, hBu, rfl, rfl, h6, h7, hne⟩ hn
        refine wpOp_step rfl (fun K' hK => ?_)
        subst ha
        simp only [Act.put, List.setIfInBounds_toArray, List.set_cons_zero, List.set_cons_succ]
        go_simp
        refine hK _ _ (hn _ _ ⟨_, t7, _, _, by rfl, hBu.alloc hBu.size _, rfl, rfl, fun _ => ⟨u.heap.size, rfl, Holds.new u _ _, hBu.size⟩, fun e => ?_, fun _ e => ?_⟩)
        · obtain ⟨b, e1, e2, e3⟩ := h7 e
          exact ⟨b, e1, Holds.alloc e2 _, e3⟩
        · obtain ⟨b, rfl, e2, e3⟩ := h7 e
          have := Holds.lt e2
          intro h
          injection h with h
          injection h with h
          injection h with h
          omega
      case h7 =>
        rintro c1 c5 x6 a u K ⟨t6, t7, t23, t27, rfl, hBu, rfl, rfl, h6, h7, hne⟩ hn
        refine wpOp_step rfl (fun K' hK => ?_)
        subst ha
        simp only [Act.put, List.setIfInBounds_toArray, List.set_cons_zero, List.set_cons_succ]
        go_simp
        refine hK _ _ (hn _ _ ⟨t6, _, _, _, by rfl, hBu.alloc hBu.size _, rfl, rfl, fun e => ?_, fun _ => ⟨u.heap.size, rfl, Holds.new u _ _, hBu.size⟩, fun e _ => ?_⟩)
        · obtain ⟨b, e1, e2, e3⟩ := h6 e
          exact ⟨b, e1, Holds.alloc e2 _, e3⟩
        · obtain ⟨b, rfl, e2, e3⟩ := h6 e
          have := Holds.lt e2
          intro h
          injection h with h
          injection h with h
          injection h with h
          omega
      case hend =>
        rintro a u ⟨t6, t7, t23, t27, rfl, hBu, rfl, rfl, h6, h7, hne⟩
        obtain ⟨b6, rfl, k6, l6⟩ := h6 rfl
        obtain ⟨b7, rfl, k7, l7⟩ := h7 rfl
        have hbb : b6 ≠ b7 := fun e => hne rfl rfl (by rw [e])
        have c60 : u.cell? ⟨b6, 0, none⟩ = some (.int .i64 0) := Holds.c k6 (j := 0) rfl
        have c61 : u.cell? ⟨b6, 1, none⟩ = some (.int .i64 0) := Holds.c k6 (j := 1) rfl
        have f60 := Holds.frozen k6 0
        have f61 := Holds.frozen k6 1
        refine wpAny_all (rs := [8]) (by kernel_rfl) (by simp) (fun i hi => ?_)
        obtain rfl : i = 8 := by simpa using hi
        refine wpOp_step rfl (fun K' hK => ?_)
        subst ha
        simp only [Act.put, List.setIfInBounds_toArray, List.set_cons_zero, List.set_cons_succ]
        go_simp
        refine hK _ _ ?_
        have k6' := Holds.set (Holds.set k6 0 (.int .i64 (eF m))) 1 (.int .i64 (pF m))
        have k7' : Holds ((u.setCell ⟨b6, 0, none⟩ (.int .i64 (eF m))).setCell ⟨b6, 1, none⟩ (.int .i64 (pF m))) b7 29 #[.int .i64 0, .int .i64 0] := (Holds.of (Holds.of k7 (Below.heap_setCell _ _ _ _ (Ne.symm hbb))) (Below.heap_setCell _ _ _ _ (Ne.symm hbb)))
        have hBu' := (hBu.setCell (p := ⟨b6, 0, none⟩) l6 (.int .i64 (eF m))).setCell (p := ⟨b6, 1, none⟩) l6 (.int .i64 (pF m))
        generalize (u.setCell ⟨b6, 0, none⟩ (.int .i64 (eF m))).setCell ⟨b6, 1, none⟩ (.int .i64 (pF m)) = u2 at *
        have c70 : u2.cell? ⟨b7, 0, none⟩ = some (.int .i64 0) := Holds.c k7' (j := 0) rfl
        have c71 : u2.cell? ⟨b7, 1, none⟩ = some (.int .i64 0) := Holds.c k7' (j := 1) rfl
        have f70 := Holds.frozen k7' 0
        have f71 := Holds.frozen k7' 1
        refine wpAny_all (rs := [9]) (by kernel_rfl) (by simp) (fun i hi => ?_)
        obtain rfl : i = 9 := by simpa using hi
        refine wpOp_step rfl (fun K2 hK2 => ?_)
        go_simp
        refine hK2 _ _ ?_
        have k7'' := Holds.set (Holds.set k7' 0 (.int .i64 (eF d))) 1 (.int .i64 (pF d))
        have k6'' : Holds ((u2.setCell ⟨b7, 0, none⟩ (.int .i64 (eF d))).setCell ⟨b7, 1, none⟩ (.int .i64 (pF d))) b6 29 _ := (Holds.of (Holds.of k6' (Below.heap_setCell _ _ _ _ hbb)) (Below.heap_setCell _ _ _ _ hbb))
        have hBu'' := (hBu'.setCell (p := ⟨b7, 0, none⟩) l7 (.int .i64 (eF d))).setCell (p := ⟨b7, 1, none⟩) l7 (.int .i64 (pF d))
        refine wpAny_done (by kernel_rfl) ?_ _
        go_wp2_with fail
        go_meet
        exact ⟨b6, b7, rfl, rfl, k6'', k7'', hBu''⟩
    case rest =>
      obtain ⟨b6, b7, rfl, rfl, k6, k7, hBc⟩ := hcut
      have c60 : wc.cell? ⟨b6, 0, none⟩ = some (.int .i64 (eF m)) := Holds.c k6 (j := 0) rfl
      have c61 : wc.cell? ⟨b6, 1, none⟩ = some (.int .i64 (pF m)) := Holds.c k6 (j := 1) rfl
      have c70 : wc.cell? ⟨b7, 0, none⟩ = some (.int .i64 (eF d)) := Holds.c k7 (j := 0) rfl
      have c71 : wc.cell? ⟨b7, 1, none⟩ = some (.int .i64 (pF d)) := Holds.c k7 (j := 1) rfl
      have HK6 := Lib.hid k6
      have HK7 := Lib.hid k7
      have hdc : d ≤ c := by omega
      have hd0 : (0 : Int) ≤ (d : Int) := by omega
      have hd1 : (d : Int) ≤ (c : Int) := by omega
      obtain ⟨g1, g2, g3, g4⟩ := HBG.out
      clear HCK k6 k7
      by_cases hz : eF m = 0
      · have hz2 := g1 hz
        have HG4 := Lib.hid (g4 hz)
        clear g1 g2 g3 g4 HBG
        have HZ := Lib.hid hz
        have HZ2 := Lib.hid hz2
        have q1 : (eF m == 0) = true := by rw [hz]; rfl
        have q2 : (eF m != 0) = false := by rw [hz]; rfl
        have q3 : (eF d == 0) = true := by rw [hz2]; rfl
        have q4 : (eF d != 0) = false := by rw [hz2]; rfl
        clear hz hz2
        go_wp2_with fail
        refine (HL1.out _ hBc).mono ?_
        rintro e w4 ⟨v, rfl, hlf, hb4⟩
        rw [if_pos HZ.out] at hlf
        have hB4 := nxt hBc hb4 hBc.size
        have hb5 := alloc1 w4 (.cells #[.int .i64 (eF m), .int .i64 (pF m)] 29)
        have HX5 := Lib.hid (Holds.new w4 29 #[.int .i64 (eF m), .int .i64 (pF m)])
        have hB5 := nxt hB4 hb5 hB4.size
        have HLF := Lib.hid (hlf.below hb5)
        have HK6 := Lib.hid (Holds.below (Holds.below HK6.out hb4 (Holds.lt HK6.out)) hb5 (Nat.lt_of_lt_of_le (Holds.lt HK6.out) hb4.size))
        have HK7 := Lib.hid (Holds.below (Holds.below HK7.out hb4 (Holds.lt HK7.out)) hb5 (Nat.lt_of_lt_of_le (Holds.lt HK7.out) hb4.size))
        obtain ⟨A4, c4, rfl⟩ := lifes_shape hlf
        clear hlf HL1 c60 c61 c70 c71
        go_upto_region 9 with fail
        generalize hW5 : w4.alloc (.cells #[.int .i64 (eF m), .int .i64 (pF m)] 29) = W5 at *
        go_wp2_with fail
        refine (HL2.out _ hB5).mono ?_
        rintro e w6 ⟨v6, rfl, hlf6, hb6⟩
        rw [if_pos HZ2.out] at hlf6
        have hB6 := nxt hB5 hb6 hB5.size
        have hb7 := alloc1 w6 (.cells #[.int .i64 (eF d), .int .i64 (pF d)] 29)
        have HX7 := Lib.hid (Holds.new w6 29 #[.int .i64 (eF d), .int .i64 (pF d)])
        have hB7 := nxt hB6 hb7 hB6.size
        have HLF6 := Lib.hid (hlf6.below hb7)
        have HLF := Lib.hid ((HLF.out.below hb6).below hb7)
        have HX5 := Lib.hid (Holds.below (Holds.below HX5.out hb6 (Holds.lt HX5.out)) hb7 (Nat.lt_of_lt_of_le (Holds.lt HX5.out) hb6.size))
        have HK6 := Lib.hid (Holds.below (Holds.below HK6.out hb6 (Holds.lt HK6.out)) hb7 (Nat.lt_of_lt_of_le (Holds.lt HK6.out) hb6.size))
        have HK7 := Lib.hid (Holds.below (Holds.below HK7.out hb6 (Holds.lt HK7.out)) hb7 (Nat.lt_of_lt_of_le (Holds.lt HK7.out) hb6.size))
        obtain ⟨A6, c6, rfl⟩ := lifes_shape hlf6
        clear hlf6 HL2 hb4 hb6
        go_upto_region 10 with fail
        generalize hW7 : w6.alloc (.cells #[.int .i64 (eF d), .int .i64 (pF d)] 29) = W7 at *
        have c60 : W7.cell? ⟨b6, 0, none⟩ = some (.int .i64 (eF m)) := Holds.c HK6.out (j := 0) rfl
        have c61 : W7.cell? ⟨b6, 1, none⟩ = some (.int .i64 (pF m)) := Holds.c HK6.out (j := 1) rfl
        have c70 : W7.cell? ⟨b7, 0, none⟩ = some (.int .i64 (eF d)) := Holds.c HK7.out (j := 0) rfl
        have c71 : W7.cell? ⟨b7, 1, none⟩ = some (.int .i64 (pF d)) := Holds.c HK7.out (j := 1) rfl
        have d50 : W7.cell? ⟨w4.heap.size, 0, none⟩ = some (.int .i64 (eF m)) := Holds.c HX5.out (j := 0) rfl
        have d51 : W7.cell? ⟨w4.heap.size, 1, none⟩ = some (.int .i64 (pF m)) := Holds.c HX5.out (j := 1) rfl
        have d70 : W7.cell? ⟨w6.heap.size, 0, none⟩ = some (.int .i64 (eF d)) := Holds.c HX7.out (j := 0) rfl
        have d71 : W7.cell? ⟨w6.heap.size, 1, none⟩ = some (.int .i64 (pF d)) := Holds.c HX7.out (j := 1) rfl
        have hlen := HG4.out.len
        have hmany1 := HMANY.out
        obtain ⟨t1, ht1⟩ : ∃ t, d1.trs.length = t := ⟨_, rfl⟩
        obtain ⟨t2, ht2⟩ : ∃ t, d2.trs.length = t := ⟨_, rfl⟩
        have HT1 := Lib.hid ht1
        have HT2 := Lib.hid ht2
        have HR1 := Lib.hid (read_lfs HLF.out)
        have HR2 := Lib.hid (read_lfs HLF6.out)
        rw [ht1, ht2] at hlen ⊢
        rw [ht1] at hmany1
        clear ht1 ht2 HX5 HX7 HK6 HK7
        have hgl : decide (t1 < t2) = false := decide_eq_false (by omega)
        have hgi : decide ((t1 : Int) < (t2 : Int)) = false := decide_eq_false (by omega)
        go_wp2_with fail
        go_loopw [12] (fun i wl => ∃ (t : Nat), t ≤ t2 ∧ i = .int .i64 t ∧ Below W7.heap.size W7 wl) (fun i wl => t2 - (intOf i).toNat)
        case atStart => exact ⟨0, Nat.zero_le _, rfl, Below.refl _ _⟩
        case round =>
          obtain ⟨t, ht, rfl, hBl⟩ := hrel
          have hBy := nxt hB7 hBl hB7.size
          by_cases hlt2 : t < t2
          · have hs0 : (0 : Int) ≤ (t : Int) := by omega
            have hs1 : (t : Int) < (t1 : Int) := by omega
            have hs2 : (t : Int) < (t2 : Int) := by omega
            have hkd2 : decide (t < t2) = true := decide_eq_true hlt2
            have htw : IntKind.i64.wrap (t : Int) = (t : Int) := by rw [IntKind.wrap_i64]; omega
            obtain ⟨x, hx⟩ : ∃ x, d2.trs[t]? = some x := ⟨_, List.getElem?_eq_getElem (by rw [HT2.out]; exact hlt2)⟩
            obtain ⟨y, hy, l1, l2, l3, l4, l5⟩ := HG4.out.all t x hx
            obtain ⟨b8, off8, rfl, hb8, hc8⟩ := HR1.out (by rw [HT1.out]; omega)
            obtain ⟨b9, off9, rfl, hb9, hc9⟩ := HR2.out (by rw [HT2.out]; omega)
            obtain ⟨r0, r1, r2, r3, r4⟩ := hc8 t y hy
            obtain ⟨s0, s1, s2, s3, s4⟩ := hc9 t x hx
            clear hc8 hc9 hx hy
            obtain ⟨xn, xb, xe, xc, xo⟩ := x
            obtain ⟨yn, yb, ye, yc, yo⟩ := y
            dsimp only at r0 r1 r2 r3 r4 s0 s1 s2 s3 s4 l1 l2 l3 l4 l5
            have r0' := (hBl.cell (p := ⟨b8, _, none⟩) hb8).trans r0
            have r1' := (hBl.cell (p := ⟨b8, _, none⟩) hb8).trans r1
            have r2' := (hBl.cell (p := ⟨b8, _, none⟩) hb8).trans r2
            have r3' := (hBl.cell (p := ⟨b8, _, none⟩) hb8).trans r3
            have r4' := (hBl.cell (p := ⟨b8, _, none⟩) hb8).trans r4
            have s0' := (hBl.cell (p := ⟨b9, _, none⟩) hb9).trans s0
            have s1' := (hBl.cell (p := ⟨b9, _, none⟩) hb9).trans s1
            have s2' := (hBl.cell (p := ⟨b9, _, none⟩) hb9).trans s2
            have s3' := (hBl.cell (p := ⟨b9, _, none⟩) hb9).trans s3
            have s4' := (hBl.cell (p := ⟨b9, _, none⟩) hb9).trans s4
            clear r0 r1 r2 r3 r4 s0 s1 s2 s3 s4
            by_cases hxe : xe < 0
            · subst l1 l2
              have z1 : decide (yo < xo) = false := decide_eq_false (by omega)
              have z2 : decide (0 ≤ xe) = false := decide_eq_false (by omega)
              have z3 : decide (xe < 0) = true := decide_eq_true hxe
              by_cases hye : ye < 0
              · have z4 : decide (0 ≤ ye) = false := decide_eq_false (by omega)
                clear l3 l4 l5
                go_upto_region 17 with fail
                simp only [List.append_eq, List.cons_append, List.nil_append]
                go_big_quiet (fail)
                go_wp2
                go_roundw
                case rel => exact ⟨t + 1, by omega, by go_num, belowN hBl _⟩
                case measure => simp [intOf]; omega
              · have z4 : decide (0 ≤ ye) = true := decide_eq_true (by omega)
                have z5 : decide (ye < (d : Int)) = false := decide_eq_false (by have := l5 hxe (by omega); omega)
                clear l3 l4 l5
                go_upto_region 17 with fail
                simp only [List.append_eq, List.cons_append, List.nil_append]
                go_big_quiet (fail)
                go_wp2
                go_roundw
                case rel => exact ⟨t + 1, by omega, by go_num, belowN hBl _⟩
                case measure => simp [intOf]; omega
            · have e := l4 (by omega)
              injection e with e1 e2 e3 e4 e5
              subst e1 e2 e3 e4 e5
              have z1 : decide (xo < xo) = false := decide_eq_false (by omega)
              have z2 : decide (0 ≤ xe) = true := decide_eq_true (by omega)
              have z3 : decide (xe < 0) = false := decide_eq_false hxe
              clear l1 l2 l3 l4 l5
              go_upto_region 17 with fail
              simp only [List.append_eq, List.cons_append, List.nil_append]
              go_big_quiet (fail)
              go_wp2
              go_roundw
              case rel => exact ⟨t + 1, by omega, by go_num, belowN hBl _⟩
              case measure => simp [intOf]; omega
          · have hkd2 : decide (t < t2) = false := decide_eq_false hlt2
            go_wp2
            go_ret
            exact ⟨rfl, hBy⟩
      · have q1 : (eF m == 0) = false := beq_eq_false_iff_ne.2 hz
        have q2 : (eF m != 0) = true := by rw [bne_iff_ne]; exact hz
        have HZ := Lib.hid hz
        by_cases hp : pF m < d
        · obtain ⟨r1, r2⟩ := g2 hz hp
          clear g1 g2 g3 g4 HBG
          have q3 : decide ((d : Int) ≤ pF m) = false := decide_eq_false (by omega)
          have q4 : decide (pF m < (d : Int)) = true := decide_eq_true hp
          have HP := Lib.hid hp
          have R1 := Lib.hid r1
          have R2 := Lib.hid r2
          have q5 : (eF d == 0) = false := by rw [r1]; exact q1
          have q6 : (eF d != 0) = true := by rw [r1]; exact q2
          have q7 : (eF d == eF m) = true := by rw [r1, beq_self_eq_true]
          have q8 : (pF d == pF m) = true := by rw [r2, beq_self_eq_true]
          clear r1 r2 hz hp
          go_wp2_with fail
          refine (HL1.out _ hBc).mono ?_
          rintro e w4 ⟨v, rfl, hlf, hb4⟩
          rw [if_neg HZ.out] at hlf
          have hB4 := nxt hBc hb4 hBc.size
          have hb5 := alloc1 w4 (.cells #[.int .i64 (eF m), .int .i64 (pF m)] 29)
          have HX5 := Lib.hid (Holds.new w4 29 #[.int .i64 (eF m), .int .i64 (pF m)])
          have hB5 := nxt hB4 hb5 hB4.size
          have HLF := Lib.hid (hlf.below hb5)
          have HK6 := Lib.hid (Holds.below (Holds.below HK6.out hb4 (Holds.lt HK6.out)) hb5 (Nat.lt_of_lt_of_le (Holds.lt HK6.out) hb4.size))
          have HK7 := Lib.hid (Holds.below (Holds.below HK7.out hb4 (Holds.lt HK7.out)) hb5 (Nat.lt_of_lt_of_le (Holds.lt HK7.out) hb4.size))
          obtain ⟨A4, c4, rfl⟩ := lifes_shape hlf
          clear hlf HL1 c60 c61 c70 c71
          go_upto_region 9 with fail
          generalize hW5 : w4.alloc (.cells #[.int .i64 (eF m), .int .i64 (pF m)] 29) = W5 at *
          go_wp2_with fail
          refine (HL2.out _ hB5).mono ?_
          rintro e w6 ⟨v6, rfl, hlf6, hb6⟩
          rw [if_neg (by rw [R1.out]; exact HZ.out)] at hlf6
          have hB6 := nxt hB5 hb6 hB5.size
          have hb7 := alloc1 w6 (.cells #[.int .i64 (eF d), .int .i64 (pF d)] 29)
          have HX7 := Lib.hid (Holds.new w6 29 #[.int .i64 (eF d), .int .i64 (pF d)])
          have hB7 := nxt hB6 hb7 hB6.size
          have HLF6 := Lib.hid (hlf6.below hb7)
          have HLF := Lib.hid ((HLF.out.below hb6).below hb7)
          have HX5 := Lib.hid (Holds.below (Holds.below HX5.out hb6 (Holds.lt HX5.out)) hb7 (Nat.lt_of_lt_of_le (Holds.lt HX5.out) hb6.size))
          have HK6 := Lib.hid (Holds.below (Holds.below HK6.out hb6 (Holds.lt HK6.out)) hb7 (Nat.lt_of_lt_of_le (Holds.lt HK6.out) hb6.size))
          have HK7 := Lib.hid (Holds.below (Holds.below HK7.out hb6 (Holds.lt HK7.out)) hb7 (Nat.lt_of_lt_of_le (Holds.lt HK7.out) hb6.size))
          obtain ⟨A6, c6, rfl⟩ := lifes_shape hlf6
          clear hlf6 HL2 hb4 hb6
          go_upto_region 10 with fail
          generalize hW7 : w6.alloc (.cells #[.int .i64 (eF d), .int .i64 (pF d)] 29) = W7 at *
          have c60 : W7.cell? ⟨b6, 0, none⟩ = some (.int .i64 (eF m)) := Holds.c HK6.out (j := 0) rfl
          have c61 : W7.cell? ⟨b6, 1, none⟩ = some (.int .i64 (pF m)) := Holds.c HK6.out (j := 1) rfl
          have c70 : W7.cell? ⟨b7, 0, none⟩ = some (.int .i64 (eF d)) := Holds.c HK7.out (j := 0) rfl
          have c71 : W7.cell? ⟨b7, 1, none⟩ = some (.int .i64 (pF d)) := Holds.c HK7.out (j := 1) rfl
          have d50 : W7.cell? ⟨w4.heap.size, 0, none⟩ = some (.int .i64 (eF m)) := Holds.c HX5.out (j := 0) rfl
          have d51 : W7.cell? ⟨w4.heap.size, 1, none⟩ = some (.int .i64 (pF m)) := Holds.c HX5.out (j := 1) rfl
          have d70 : W7.cell? ⟨w6.heap.size, 0, none⟩ = some (.int .i64 (eF d)) := Holds.c HX7.out (j := 0) rfl
          have d71 : W7.cell? ⟨w6.heap.size, 1, none⟩ = some (.int .i64 (pF d)) := Holds.c HX7.out (j := 1) rfl
          clear HX5 HX7 HK6 HK7
          go_wp2
          all_goals (go_ret; exact ⟨rfl, hB7⟩)
        · have r1 := g3 hz (by omega)
          clear g1 g2 g3 g4 HBG
          have q3 : decide ((d : Int) ≤ pF m) = true := decide_eq_true (by omega)
          have q4 : decide (pF m < (d : Int)) = false := decide_eq_false hp
          have R1 := Lib.hid r1
          have q5 : (eF d == 0) = true := by rw [r1]; rfl
          have q6 : (eF d != 0) = false := by rw [r1]; rfl
          clear r1 hz hp
          go_wp2_with fail
          refine (HL1.out _ hBc).mono ?_
          rintro e w4 ⟨v, rfl, hlf, hb4⟩
          rw [if_neg HZ.out] at hlf
          have hB4 := nxt hBc hb4 hBc.size
          have hb5 := alloc1 w4 (.cells #[.int .i64 (eF m), .int .i64 (pF m)] 29)
          have HX5 := Lib.hid (Holds.new w4 29 #[.int .i64 (eF m), .int .i64 (pF m)])
          have hB5 := nxt hB4 hb5 hB4.size
          have HLF := Lib.hid (hlf.below hb5)
          have HK6 := Lib.hid (Holds.below (Holds.below HK6.out hb4 (Holds.lt HK6.out)) hb5 (Nat.lt_of_lt_of_le (Holds.lt HK6.out) hb4.size))
          have HK7 := Lib.hid (Holds.below (Holds.below HK7.out hb4 (Holds.lt HK7.out)) hb5 (Nat.lt_of_lt_of_le (Holds.lt HK7.out) hb4.size))
          obtain ⟨A4, c4, rfl⟩ := lifes_shape hlf
          clear hlf HL1 c60 c61 c70 c71
          go_upto_region 9 with fail
          generalize hW5 : w4.alloc (.cells #[.int .i64 (eF m), .int .i64 (pF m)] 29) = W5 at *
          go_wp2_with fail
          refine (HL2.out _ hB5).mono ?_
          rintro e w6 ⟨v6, rfl, hlf6, hb6⟩
          rw [if_pos R1.out] at hlf6
          have hB6 := nxt hB5 hb6 hB5.size
          have hb7 := alloc1 w6 (.cells #[.int .i64 (eF d), .int .i64 (pF d)] 29)
          have HX7 := Lib.hid (Holds.new w6 29 #[.int .i64 (eF d), .int .i64 (pF d)])
          have hB7 := nxt hB6 hb7 hB6.size
          have HLF6 := Lib.hid (hlf6.below hb7)
          have HLF := Lib.hid ((HLF.out.below hb6).below hb7)
          have HX5 := Lib.hid (Holds.below (Holds.below HX5.out hb6 (Holds.lt HX5.out)) hb7 (Nat.lt_of_lt_of_le (Holds.lt HX5.out) hb6.size))
          have HK6 := Lib.hid (Holds.below (Holds.below HK6.out hb6 (Holds.lt HK6.out)) hb7 (Nat.lt_of_lt_of_le (Holds.lt HK6.out) hb6.size))
          have HK7 := Lib.hid (Holds.below (Holds.below HK7.out hb6 (Holds.lt HK7.out)) hb7 (Nat.lt_of_lt_of_le (Holds.lt HK7.out) hb6.size))
          obtain ⟨A6, c6, rfl⟩ := lifes_shape hlf6
          clear hlf6 HL2 hb4 hb6
          go_upto_region 10 with fail
          generalize hW7 : w6.alloc (.cells #[.int .i64 (eF d), .int .i64 (pF d)] 29) = W7 at *
          have c60 : W7.cell? ⟨b6, 0, none⟩ = some (.int .i64 (eF m)) := Holds.c HK6.out (j := 0) rfl
          have c61 : W7.cell? ⟨b6, 1, none⟩ = some (.int .i64 (pF m)) := Holds.c HK6.out (j := 1) rfl
          have c70 : W7.cell? ⟨b7, 0, none⟩ = some (.int .i64 (eF d)) := Holds.c HK7.out (j := 0) rfl
          have c71 : W7.cell? ⟨b7, 1, none⟩ = some (.int .i64 (pF d)) := Holds.c HK7.out (j := 1) rfl
          have d50 : W7.cell? ⟨w4.heap.size, 0, none⟩ = some (.int .i64 (eF m)) := Holds.c HX5.out (j := 0) rfl
          have d51 : W7.cell? ⟨w4.heap.size, 1, none⟩ = some (.int .i64 (pF m)) := Holds.c HX5.out (j := 1) rfl
          have d70 : W7.cell? ⟨w6.heap.size, 0, none⟩ = some (.int .i64 (eF d)) := Holds.c HX7.out (j := 0) rfl
          have d71 : W7.cell? ⟨w6.heap.size, 1, none⟩ = some (.int .i64 (pF d)) := Holds.c HX7.out (j := 1) rfl
          clear HX5 HX7 HK6 HK7
          go_wp2
          all_goals (go_ret; exact ⟨rfl, hB7⟩)
end Go.Proofs.YtpdbkjnaicjfdaaGreatDoor
