/- against, take, Add. -/
import Derived.Test.YtpdbkjnaicjfdaaGreatDoorHsR1
import Derived.LoopN
import Derived.Test.YtpdbkjnaicjfdaaGreatDoorHsPl
namespace Go.Proofs.YtpdbkjnaicjfdaaGreatDoor
open Go.RowKit Go.Maps
set_option linter.unusedVariables false
set_option maxRecDepth 100000

set_option maxHeartbeats 4000000 in
theorem against_any {lo : Nat} {L : Lay} {d : Dk} (e : Ev) (A : Option Addr) (c : Nat) (w : World) (h : Dsk w lo L d) (hA : Ints w A e.st.2.2) (hlen : e.st.2.2.length ≤ 20000) (hnm : e.nm.size ≤ 8000) (hob : e.ob.size ≤ 8000) :
    Calls Tryz.prog 50 #[.pointer (some ⟨L.B, 0, none⟩), evV e A c] w (Says (.int .i64 (agE d e)) w) := by
  have H1 := fun W hW => askF_any L.B e A c W hW hlen hnm hob
  have H2 := fun W hW => askO_any (L := L) (d := d) (lo := lo) e A c W hW hnm hob
  have H3 := fun W hW => askB_any (L := L) (d := d) (lo := lo) e A c W hW hnm hob
  have H4 := fun W hW => askR_any (L := L) (d := d) (lo := lo) e A c W hW hnm hob
  have H5 := fun W hW => askP_any (L := L) (d := d) (lo := lo) e A c W hW hnm hob
  have HF := Lib.hid (show agE d e = thenE (evE e) (thenE (askO d e) (thenE (askB d e) (thenE (askR d e) (askP d e)))) from rfl)
  obtain ⟨F, hF⟩ : ∃ F, agE d e = F := ⟨_, rfl⟩
  rw [hF] at HF ⊢
  generalize evE e = r1 at *
  generalize askO d e = r2 at *
  generalize askB d e = r3 at *
  generalize askR d e = r4 at *
  generalize askP d e = r5 at *
  obtain ⟨kd, nm, ob, ⟨o1, o2, o3, o4, o5⟩, t, n, l⟩ := e
  have HA := Lib.hid hA
  have HD := Lib.hid h
  have hb1 := alloc1 w (.cells (evC ⟨kd, nm, ob, (o1, o2, o3, o4, o5), t, n, l⟩ A c) 55)
  unfold evV evC at *
  dsimp only at HA hb1 H1 H2 H3 H4 H5 ⊢
  clear hF h hA hlen hnm hob
  go_enter Tryz.func50, Tryz.ntmps50
  go_upto_region 1 with fail
  have HX := Lib.hid (Holds.new w 55 #[.int .i64 kd, .string nm, .string ob, .int .i64 o1, .int .i64 o2, .int .i64 o3, .int .i64 o4, .int .i64 o5, .int .i64 t, .int .i64 n, .slice A l.length c])
  have HD1 := Lib.hid (HD.out.below hb1)
  have HA1 := Lib.hid (HA.out.below hb1)
  generalize w.alloc (.cells #[.int .i64 kd, .string nm, .string ob, .int .i64 o1, .int .i64 o2, .int .i64 o3, .int .i64 o4, .int .i64 o5, .int .i64 t, .int .i64 n, .slice A l.length c] 55) = W1 at *
  have hl1 := HX.out.lt
  have hb2 := alloc1 W1 (.cells #[.func (.func 70) #[.pointer (some ⟨L.B, 0, none⟩)] #[], .func (.func 71) #[.pointer (some ⟨L.B, 0, none⟩)] #[], .func (.func 72) #[.pointer (some ⟨L.B, 0, none⟩)] #[], .func (.func 73) #[.pointer (some ⟨L.B, 0, none⟩)] #[], .func (.func 74) #[.pointer (some ⟨L.B, 0, none⟩)] #[]] 46)
  have HS2 := Lib.hid (Holds.new W1 46 #[.func (.func 70) #[.pointer (some ⟨L.B, 0, none⟩)] #[], .func (.func 71) #[.pointer (some ⟨L.B, 0, none⟩)] #[], .func (.func 72) #[.pointer (some ⟨L.B, 0, none⟩)] #[], .func (.func 73) #[.pointer (some ⟨L.B, 0, none⟩)] #[], .func (.func 74) #[.pointer (some ⟨L.B, 0, none⟩)] #[]])
  have HX2 := Lib.hid (HX.out.below hb2 hl1)
  have HD2 := Lib.hid (HD1.out.below hb2)
  have HA2 := Lib.hid (HA1.out.below hb2)
  have hBB := nxt hb1 hb2 hb1.size
  go_wp2_with fail
  generalize W1.alloc (.cells #[.func (.func 70) #[.pointer (some ⟨L.B, 0, none⟩)] #[], .func (.func 71) #[.pointer (some ⟨L.B, 0, none⟩)] #[], .func (.func 72) #[.pointer (some ⟨L.B, 0, none⟩)] #[], .func (.func 73) #[.pointer (some ⟨L.B, 0, none⟩)] #[], .func (.func 74) #[.pointer (some ⟨L.B, 0, none⟩)] #[]] 46) = W2 at *
  generalize W1.heap.size = z2 at *
  refine wp_loop_rounds 6 ?_
  rw [rounds_succ]
  obtain ⟨x0, x1, x2, x3, x4, x5, x6, x7, x8, x9, x10, y0⟩ := ev_cells HX2.out
  have s0 := HS2.out.c (j := 0) rfl
  have HK := H1 _ HA2.out
  by_cases hr : r1 = 0
  rotate_left
  · have hrr : (r1 == 0) = false := beq_eq_false_iff_ne.2 hr
    have e1 : F = r1 := by rw [HF.out]; simp [thenE, hr]
    subst e1
    clear HF hr
    go_wp2_with fail
    refine HK.mono ?_
    rintro e w1 ⟨rfl, hB⟩
    go_wp2
    go_ret
    exact ⟨rfl, nxt hBB hB hBB.size⟩
  subst hr
  have HF := Lib.hid (show F = _ from HF.out.trans rfl)
  go_wp2_with fail
  refine HK.mono ?_
  rintro e w1 ⟨rfl, hB⟩
  have hBB := nxt hBB hB hBB.size
  have HX2 := Lib.hid (HX2.out.below hB HX2.out.lt)
  have HS2 := Lib.hid (HS2.out.below hB HS2.out.lt)
  have HD2 := Lib.hid (HD2.out.below hB)
  have HA2 := Lib.hid (HA2.out.below hB)
  clear HK s0 x0 x1 x2 x3 x4 x5 x6 x7 x8 x9 x10 y0 hB
  go_wp2_with fail
  rw [rounds_succ]
  obtain ⟨x0, x1, x2, x3, x4, x5, x6, x7, x8, x9, x10, y0⟩ := ev_cells HX2.out
  have s0 := HS2.out.c (j := 1) rfl
  have HK := H2 _ HD2.out
  by_cases hr : r2 = 0
  rotate_left
  · have hrr : (r2 == 0) = false := beq_eq_false_iff_ne.2 hr
    have e1 : F = r2 := by rw [HF.out]; simp [thenE, hr]
    subst e1
    clear HF hr
    go_wp2_with fail
    refine HK.mono ?_
    rintro e w1 ⟨rfl, hB⟩
    go_wp2
    go_ret
    exact ⟨rfl, nxt hBB hB hBB.size⟩
  subst hr
  have HF := Lib.hid (show F = _ from HF.out.trans rfl)
  go_wp2_with fail
  refine HK.mono ?_
  rintro e w1 ⟨rfl, hB⟩
  have hBB := nxt hBB hB hBB.size
  have HX2 := Lib.hid (HX2.out.below hB HX2.out.lt)
  have HS2 := Lib.hid (HS2.out.below hB HS2.out.lt)
  have HD2 := Lib.hid (HD2.out.below hB)
  have HA2 := Lib.hid (HA2.out.below hB)
  clear HK s0 x0 x1 x2 x3 x4 x5 x6 x7 x8 x9 x10 y0 hB
  go_wp2_with fail
  rw [rounds_succ]
  obtain ⟨x0, x1, x2, x3, x4, x5, x6, x7, x8, x9, x10, y0⟩ := ev_cells HX2.out
  have s0 := HS2.out.c (j := 2) rfl
  have HK := H3 _ HD2.out
  by_cases hr : r3 = 0
  rotate_left
  · have hrr : (r3 == 0) = false := beq_eq_false_iff_ne.2 hr
    have e1 : F = r3 := by rw [HF.out]; simp [thenE, hr]
    subst e1
    clear HF hr
    go_wp2_with fail
    refine HK.mono ?_
    rintro e w1 ⟨rfl, hB⟩
    go_wp2
    go_ret
    exact ⟨rfl, nxt hBB hB hBB.size⟩
  subst hr
  have HF := Lib.hid (show F = _ from HF.out.trans rfl)
  go_wp2_with fail
  refine HK.mono ?_
  rintro e w1 ⟨rfl, hB⟩
  have hBB := nxt hBB hB hBB.size
  have HX2 := Lib.hid (HX2.out.below hB HX2.out.lt)
  have HS2 := Lib.hid (HS2.out.below hB HS2.out.lt)
  have HD2 := Lib.hid (HD2.out.below hB)
  have HA2 := Lib.hid (HA2.out.below hB)
  clear HK s0 x0 x1 x2 x3 x4 x5 x6 x7 x8 x9 x10 y0 hB
  go_wp2_with fail
  rw [rounds_succ]
  obtain ⟨x0, x1, x2, x3, x4, x5, x6, x7, x8, x9, x10, y0⟩ := ev_cells HX2.out
  have s0 := HS2.out.c (j := 3) rfl
  have HK := H4 _ HD2.out
  by_cases hr : r4 = 0
  rotate_left
  · have hrr : (r4 == 0) = false := beq_eq_false_iff_ne.2 hr
    have e1 : F = r4 := by rw [HF.out]; simp [thenE, hr]
    subst e1
    clear HF hr
    go_wp2_with fail
    refine HK.mono ?_
    rintro e w1 ⟨rfl, hB⟩
    go_wp2
    go_ret
    exact ⟨rfl, nxt hBB hB hBB.size⟩
  subst hr
  have HF := Lib.hid (show F = _ from HF.out.trans rfl)
  go_wp2_with fail
  refine HK.mono ?_
  rintro e w1 ⟨rfl, hB⟩
  have hBB := nxt hBB hB hBB.size
  have HX2 := Lib.hid (HX2.out.below hB HX2.out.lt)
  have HS2 := Lib.hid (HS2.out.below hB HS2.out.lt)
  have HD2 := Lib.hid (HD2.out.below hB)
  have HA2 := Lib.hid (HA2.out.below hB)
  clear HK s0 x0 x1 x2 x3 x4 x5 x6 x7 x8 x9 x10 y0 hB
  go_wp2_with fail
  rw [rounds_succ]
  obtain ⟨x0, x1, x2, x3, x4, x5, x6, x7, x8, x9, x10, y0⟩ := ev_cells HX2.out
  have s0 := HS2.out.c (j := 4) rfl
  have HK := H5 _ HD2.out
  by_cases hr : r5 = 0
  rotate_left
  · have hrr : (r5 == 0) = false := beq_eq_false_iff_ne.2 hr
    have e1 : F = r5 := by rw [HF.out]; simp [thenE]
    subst e1
    clear HF hr
    go_wp2_with fail
    refine HK.mono ?_
    rintro e w1 ⟨rfl, hB⟩
    go_wp2
    go_ret
    exact ⟨rfl, nxt hBB hB hBB.size⟩
  subst hr
  have HF := Lib.hid (show F = _ from HF.out.trans rfl)
  go_wp2_with fail
  refine HK.mono ?_
  rintro e w1 ⟨rfl, hB⟩
  have hBB := nxt hBB hB hBB.size
  have HX2 := Lib.hid (HX2.out.below hB HX2.out.lt)
  have HS2 := Lib.hid (HS2.out.below hB HS2.out.lt)
  have HD2 := Lib.hid (HD2.out.below hB)
  have HA2 := Lib.hid (HA2.out.below hB)
  clear HK s0 x0 x1 x2 x3 x4 x5 x6 x7 x8 x9 x10 y0 hB
  go_wp2_with fail
  rw [rounds_succ]
  have e1 : F = 0 := HF.out
  subst e1
  go_wp2
  go_ret
  exact ⟨rfl, hBB⟩
end Go.Proofs.YtpdbkjnaicjfdaaGreatDoor
namespace Go.Proofs.YtpdbkjnaicjfdaaGreatDoor
open Go.RowKit Go.Maps
set_option linter.unusedVariables false
set_option maxRecDepth 100000

def TookPost (lo : Nat) (L : Lay) (d' : Dk) (w : World) (e : Ending) (w' : World) : Prop :=
  e = .returned (.tuple #[]) ∧ ∃ L', Dsk w' lo L' d' ∧ L'.B = L.B ∧ But (foot L) w w' ∧ ∀ k, foot L' k → foot L k ∨ w.heap.size ≤ k
theorem only_set (w : World) (B off : Nat) (u : Value) : Only B w (w.setCell ⟨B, off, none⟩ u) := (Only.of (Below.refl w.heap.size w) (Nat.le_refl _)).set off u
theorem But.only {F : Nat → Prop} {w w' : World} {B : Nat} (h : Only B w w') (hB : F B) : But F w w' := ⟨h.os, h.tape, h.output, h.size, fun k hk hF => h.block k hk (fun e => hF (e ▸ hB))⟩
theorem up1 {n : Nat} (h : n < 100) : wrap64 ((n : Int) + 1) = ((n + 1 : Nat) : Int) := by unfold wrap64; omega

set_option maxHeartbeats 4000000 in
theorem take_ob {lo : Nat} {L : Lay} {d : Dk} (kd : Int) (nm ob : ByteArray) (o1 o2 o3 o4 o5 t n : Int) (l : List Int) (A : Option Addr) (c : Nat) (w : World) (h : Dsk w lo L d) (hfew : d.evs < 100) (hlo : lo ≤ w.heap.size) (hnm : nm.size ≤ 8000) (hag : agE d ⟨kd, nm, ob, (o1, o2, o3, o4, o5), t, n, l⟩ = 0) (hk : kd = 1) :
    Calls Tryz.prog 51 #[.pointer (some ⟨L.B, 0, none⟩), .agg #[.int .i64 kd, .string nm, .string ob, .int .i64 o1, .int .i64 o2, .int .i64 o3, .int .i64 o4, .int .i64 o5, .int .i64 t, .int .i64 n, .slice A l.length c]] w (TookPost lo L (takeD d ⟨kd, nm, ob, (o1, o2, o3, o4, o5), t, n, l⟩) w) := by
  have HOK := Lib.hid (h.ok.add hag)
  have HEV := Lib.hid (take_evs d ⟨kd, nm, ob, (o1, o2, o3, o4, o5), t, n, l⟩)
  have hb1 := alloc1 w (.cells #[.int .i64 kd, .string nm, .string ob, .int .i64 o1, .int .i64 o2, .int .i64 o3, .int .i64 o4, .int .i64 o5, .int .i64 t, .int .i64 n, .slice A l.length c] 55)
  have HX := Lib.hid (Holds.new w 55 #[.int .i64 kd, .string nm, .string ob, .int .i64 o1, .int .i64 o2, .int .i64 o3, .int .i64 o4, .int .i64 o5, .int .i64 t, .int .i64 n, .slice A l.length c])
  have HD1 := Lib.hid (h.below hb1)
  have HLT := Lib.hid h.lt
  have HT := Lib.hid (show takeD d ⟨kd, nm, ob, (o1, o2, o3, o4, o5), t, n, l⟩ = ⟨d.obs ++ [(nm, t)], d.trs, d.evs + 1, d.ops⟩ by unfold takeD; rw [if_pos hk])
  have hcon : (onm d).contains nm = false := by
    obtain ⟨_, h1⟩ := thenE_zero.1 hag
    obtain ⟨h2, _⟩ := thenE_zero.1 h1
    unfold askO at h2
    rw [if_neg (by simp [hk])] at h2
    by_cases k2 : d.obs.length < d.evs
    · rw [if_pos k2] at h2; cases h2
    · rw [if_neg k2] at h2
      cases k3 : (obAt d nm).isSome with
      | true => rw [show (obAt d (Ev.nm ⟨kd, nm, ob, (o1, o2, o3, o4, o5), t, n, l⟩)).isSome = (obAt d nm).isSome from rfl, k3] at h2; cases h2
      | false =>
        have := not_mem_find k3
        cases hc : (onm d).contains nm with
        | false => rfl
        | true => exact absurd (List.contains_iff_mem.1 hc) this
  have HCON := Lib.hid hcon
  rw [HT.out] at HOK HEV ⊢
  subst hk
  clear h hag hcon
  go_enter Tryz.func51, Tryz.ntmps51
  go_upto_region 1 with fail
  generalize w.alloc (.cells #[.int .i64 1, .string nm, .string ob, .int .i64 o1, .int .i64 o2, .int .i64 o3, .int .i64 o4, .int .i64 o5, .int .i64 t, .int .i64 n, .slice A l.length c] 55) = W1 at *
  have hl1 := HX.out.lt
  obtain ⟨x0, x1, x2, x3, x4, x5, x6, x7, x8, x9, x10, y0⟩ := ev_cells HX.out
  go_wp2_with fail
  refine (clone_any nm _ (by omega)).mono ?_
  rintro e w2 ⟨rfl, hb2⟩
  have HX2 := Lib.hid (HX.out.below hb2 hl1)
  have HD2 := Lib.hid (HD1.out.below hb2)
  have hbb := nxt hb1 hb2 hb1.size
  have hs2 := hb2.size
  have hs1 := hb1.size
  clear x0 x1 x2 x3 x4 x5 x6 x7 x8 x9 x10 y0
  go_wp2_with fail
  refine wp_region_noPanic ?_
  refine wp_region_heads [true, true, true, true, true, true, true, true, true] (fun W' => W'.cell? ⟨w.heap.size, 8, none⟩ = some (.int .i64 t)) (by kernel_rfl) (by kernel_rfl) (fun _ _ _ _ _ h => h) (show w2.drew.cell? _ = _ from HX2.out.c (j := 8) rfl) ?_
  iterate 9
    refine Heads.take ?_ (by rfl) ?_ ?_
    rotate_left
    · rintro w' hw0
      go_simp
      try with_reducible rfl
    simp only [Act.put, List.setIfInBounds_toArray, List.set_cons_zero, List.set_cons_succ]
  refine Heads.done ?_
  have HDd := Lib.hid (HD2.out.below ((Below.refl _ w2).drew))
  have HAd := fun hc => addR_O L.B w2.drew (deskC L d) HDd.out.box rfl rfl HDd.out.ob nm hc (by unfold maxLen; omega) (by have := HDd.out.ok.many; have := HDd.out.ob.nl; unfold onm at this; rw [List.length_map] at this; omega) (show lo ≤ w2.drew.heap.size from by show lo ≤ w2.heap.size; omega) nm t
  have HAdd := Lib.hid (HAd HCON.out)
  clear HAd
  go_wp2_with fail
  refine HAdd.out.mono ?_
  rintro e w3 ⟨rfl, v', hR3, hH3, hbut3, hloc3⟩
  have HD3 := Lib.hid (HDd.out.toDskB.addOb hR3 hH3 hbut3)
  have HB3 := Lib.hid hbut3
  have HL3 := Lib.hid hloc3
  have hs3 : w2.heap.size ≤ w3.heap.size := hbut3.size
  clear hR3 hH3 hbut3 hloc3
  go_wp2_with fail
  refine NoPanic.normal ?_
  have q5 : w3.cell? ⟨L.B, 5, none⟩ = some (.int .i64 d.evs) := HD3.out.box.c (j := 5) rfl
  have f5 : w3.frozen? ⟨L.B, 5, none⟩ = false := HD3.out.box.frozen 5
  have hu := up1 hfew
  go_wp2
  go_end0
  have hO := only_set w3 L.B 5 (.int .i64 ((d.evs : Int) + 1))
  have hbx := HD3.out.box.set 5 (.int .i64 ((d.evs : Int) + 1))
  have hD4 := HD3.out.counts (d.evs + 1) d.ops hO hbx
  refine ⟨rfl, _, ⟨hD4, HOK.out, by show d.evs + 1 ≤ 100; omega⟩, rfl, ?_, ?_⟩
  · have b1 : But (foot L) w w2.drew := but_of_below hbb.drew
    refine (b1.trans (HB3.out.wider ?_)).trans (But.only hO (.inl rfl))
    rintro i (rfl | rfl | e)
    · exact .inl rfl
    · exact .inr (.inl (.inl rfl))
    · exact .inr (.inl (.inr (.inl e)))
  · have hz : w.heap.size ≤ w2.drew.heap.size := hbb.drew.size
    rintro k (rfl | (rfl | e | e) | hf)
    · exact .inl (.inl rfl)
    · exact .inl (.inr (.inl (.inl rfl)))
    · rcases HL3.out with e' | ⟨g, e', hg⟩
      · exact .inl (.inr (.inl (.inr (.inl (e' ▸ e)))))
      · have eg : g = k := Option.some.inj (e'.symm.trans e)
        exact .inr (by omega)
    · rcases List.mem_append.1 e with e | e
      · exact .inl (.inr (.inl (.inr (.inr e))))
      · have : k = w2.drew.heap.size := by simpa using e
        exact .inr (by omega)
    · exact .inl (.inr (.inr hf))

set_option maxHeartbeats 4000000 in
theorem take_be {lo : Nat} {L : Lay} {d : Dk} (kd : Int) (nm ob : ByteArray) (o1 o2 o3 o4 o5 t n : Int) (l : List Int) (A : Option Addr) (c : Nat) (w : World) (h : Dsk w lo L d) (hfew : d.evs < 100) (hlo : lo ≤ w.heap.size) (hnm : nm.size ≤ 8000) (hag : agE d ⟨kd, nm, ob, (o1, o2, o3, o4, o5), t, n, l⟩ = 0) (hk : kd = 2) :
    Calls Tryz.prog 51 #[.pointer (some ⟨L.B, 0, none⟩), .agg #[.int .i64 kd, .string nm, .string ob, .int .i64 o1, .int .i64 o2, .int .i64 o3, .int .i64 o4, .int .i64 o5, .int .i64 t, .int .i64 n, .slice A l.length c]] w (TookPost lo L (takeD d ⟨kd, nm, ob, (o1, o2, o3, o4, o5), t, n, l⟩) w) := by
  have HOK := Lib.hid (h.ok.add hag)
  have HEV := Lib.hid (take_evs d ⟨kd, nm, ob, (o1, o2, o3, o4, o5), t, n, l⟩)
  have hb1 := alloc1 w (.cells #[.int .i64 kd, .string nm, .string ob, .int .i64 o1, .int .i64 o2, .int .i64 o3, .int .i64 o4, .int .i64 o5, .int .i64 t, .int .i64 n, .slice A l.length c] 55)
  have HX := Lib.hid (Holds.new w 55 #[.int .i64 kd, .string nm, .string ob, .int .i64 o1, .int .i64 o2, .int .i64 o3, .int .i64 o4, .int .i64 o5, .int .i64 t, .int .i64 n, .slice A l.length c])
  have HD1 := Lib.hid (h.below hb1)
  have HLT := Lib.hid h.lt
  have HT := Lib.hid (show takeD d ⟨kd, nm, ob, (o1, o2, o3, o4, o5), t, n, l⟩ = ⟨d.obs, d.trs ++ [⟨nm, d.evs, -1, false, 0⟩], d.evs + 1, d.ops⟩ by unfold takeD; rw [if_neg (by simp [hk]), if_pos hk])
  have hcon : (tnm d).contains nm = false := by
    obtain ⟨_, h1⟩ := thenE_zero.1 hag
    obtain ⟨_, h2⟩ := thenE_zero.1 h1
    obtain ⟨h2, _⟩ := thenE_zero.1 h2
    unfold askB at h2
    rw [if_neg (by simp [hk])] at h2
    cases k3 : (lfAt d nm).isSome with
    | true => rw [show (lfAt d (Ev.nm ⟨kd, nm, ob, (o1, o2, o3, o4, o5), t, n, l⟩)).isSome = (lfAt d nm).isSome from rfl, k3] at h2; cases h2
    | false =>
      have := not_mem_find k3
      cases hc : (tnm d).contains nm with
      | false => rfl
      | true => exact absurd (List.contains_iff_mem.1 hc) this
  have HCON := Lib.hid hcon
  rw [HT.out] at HOK HEV ⊢
  subst hk
  clear h hag hcon
  go_enter Tryz.func51, Tryz.ntmps51
  go_upto_region 1 with fail
  generalize w.alloc (.cells #[.int .i64 2, .string nm, .string ob, .int .i64 o1, .int .i64 o2, .int .i64 o3, .int .i64 o4, .int .i64 o5, .int .i64 t, .int .i64 n, .slice A l.length c] 55) = W1 at *
  have hl1 := HX.out.lt
  obtain ⟨x0, x1, x2, x3, x4, x5, x6, x7, x8, x9, x10, y0⟩ := ev_cells HX.out
  go_wp2_with fail
  refine (clone_any nm _ (by omega)).mono ?_
  rintro e w2 ⟨rfl, hb2⟩
  have HX2 := Lib.hid (HX.out.below hb2 hl1)
  have HD2 := Lib.hid (HD1.out.below hb2)
  have hbb := nxt hb1 hb2 hb1.size
  have hs2 := hb2.size
  have hs1 := hb1.size
  have c5 : w2.cell? ⟨L.B, 5, none⟩ = some (.int .i64 d.evs) := HD2.out.box.c (j := 5) rfl
  clear x0 x1 x2 x3 x4 x5 x6 x7 x8 x9 x10 y0
  go_wp2_with fail
  refine wp_region_noPanic ?_
  refine wp_region_heads [true, true, true, true, true, true, true, true, true, true] (fun W' => W'.cell? ⟨L.B, 5, none⟩ = some (.int .i64 d.evs)) (by kernel_rfl) (by kernel_rfl) (fun _ _ _ _ _ h => h) (show w2.drew.cell? _ = _ from c5) ?_
  iterate 10
    refine Heads.take ?_ (by rfl) ?_ ?_
    rotate_left
    · rintro w' hw0
      go_simp
      try with_reducible rfl
    simp only [Act.put, List.setIfInBounds_toArray, List.set_cons_zero, List.set_cons_succ]
  refine Heads.done ?_
  have HDd := Lib.hid (HD2.out.below ((Below.refl _ w2).drew))
  have HAd := fun hc => addR_L L.B w2.drew (deskC L d) HDd.out.box rfl rfl HDd.out.tr nm hc (by unfold maxLen; omega) (by have := HDd.out.ok.many; have := HDd.out.tr.nl; unfold tnm at this; rw [List.length_map] at this; omega) (show lo ≤ w2.drew.heap.size from by show lo ≤ w2.heap.size; omega) nm d.evs (-1) false 0
  have HAdd := Lib.hid (HAd HCON.out)
  clear HAd c5
  go_wp2_with fail
  refine HAdd.out.mono ?_
  rintro e w3 ⟨rfl, v', hR3, hH3, hbut3, hloc3⟩
  have HD3 := Lib.hid (HDd.out.toDskB.addLf (x := ⟨nm, d.evs, -1, false, 0⟩) hR3 hH3 hbut3)
  have HB3 := Lib.hid hbut3
  have HL3 := Lib.hid hloc3
  have hs3 : w2.heap.size ≤ w3.heap.size := hbut3.size
  clear hR3 hH3 hbut3 hloc3
  go_wp2_with fail
  refine NoPanic.normal ?_
  have q5 : w3.cell? ⟨L.B, 5, none⟩ = some (.int .i64 d.evs) := HD3.out.box.c (j := 5) rfl
  have f5 : w3.frozen? ⟨L.B, 5, none⟩ = false := HD3.out.box.frozen 5
  have hu := up1 hfew
  go_wp2
  go_end0
  have hO := only_set w3 L.B 5 (.int .i64 ((d.evs : Int) + 1))
  have hbx := HD3.out.box.set 5 (.int .i64 ((d.evs : Int) + 1))
  have hD4 := HD3.out.counts (d.evs + 1) d.ops hO hbx
  refine ⟨rfl, _, ⟨hD4, HOK.out, by show d.evs + 1 ≤ 100; omega⟩, rfl, ?_, ?_⟩
  · have b1 : But (foot L) w w2.drew := but_of_below hbb.drew
    refine (b1.trans (HB3.out.wider ?_)).trans (But.only hO (.inl rfl))
    rintro i (rfl | rfl | e)
    · exact .inl rfl
    · exact .inr (.inr (.inl rfl))
    · exact .inr (.inr (.inr (.inl e)))
  · have hz : w.heap.size ≤ w2.drew.heap.size := hbb.drew.size
    rintro k (rfl | hf | rfl | e | e)
    · exact .inl (.inl rfl)
    · exact .inl (.inr (.inl hf))
    · exact .inl (.inr (.inr (.inl rfl)))
    · rcases HL3.out with e' | ⟨g, e', hg⟩
      · exact .inl (.inr (.inr (.inr (.inl (e' ▸ e)))))
      · have eg : g = k := Option.some.inj (e'.symm.trans e)
        exact .inr (by omega)
    · rcases List.mem_append.1 e with e | e
      · exact .inl (.inr (.inr (.inr (.inr e))))
      · have : k = w2.drew.heap.size := by simpa using e
        exact .inr (by omega)
end Go.Proofs.YtpdbkjnaicjfdaaGreatDoor
namespace Go.Proofs.YtpdbkjnaicjfdaaGreatDoor
open Go.RowKit Go.Maps
set_option linter.unusedVariables false
set_option maxRecDepth 100000

set_option maxHeartbeats 4000000 in
theorem take_op {lo : Nat} {L : Lay} {d : Dk} (kd : Int) (nm ob : ByteArray) (o1 o2 o3 o4 o5 t n : Int) (l : List Int) (A : Option Addr) (c : Nat) (w : World) (h : Dsk w lo L d) (hfew : d.evs < 100) (hlo : lo ≤ w.heap.size) (hnm : nm.size ≤ 8000) (hag : agE d ⟨kd, nm, ob, (o1, o2, o3, o4, o5), t, n, l⟩ = 0) (hk : kd = 3) :
    Calls Tryz.prog 51 #[.pointer (some ⟨L.B, 0, none⟩), .agg #[.int .i64 kd, .string nm, .string ob, .int .i64 o1, .int .i64 o2, .int .i64 o3, .int .i64 o4, .int .i64 o5, .int .i64 t, .int .i64 n, .slice A l.length c]] w (TookPost lo L (takeD d ⟨kd, nm, ob, (o1, o2, o3, o4, o5), t, n, l⟩) w) := by
  have HOK := Lib.hid (h.ok.add hag)
  have HEV := Lib.hid (take_evs d ⟨kd, nm, ob, (o1, o2, o3, o4, o5), t, n, l⟩)
  have hb1 := alloc1 w (.cells #[.int .i64 kd, .string nm, .string ob, .int .i64 o1, .int .i64 o2, .int .i64 o3, .int .i64 o4, .int .i64 o5, .int .i64 t, .int .i64 n, .slice A l.length c] 55)
  have HX := Lib.hid (Holds.new w 55 #[.int .i64 kd, .string nm, .string ob, .int .i64 o1, .int .i64 o2, .int .i64 o3, .int .i64 o4, .int .i64 o5, .int .i64 t, .int .i64 n, .slice A l.length c])
  have HD1 := Lib.hid (h.below hb1)
  have HLT := Lib.hid h.lt
  obtain ⟨z, hz, hr⟩ := ask_run hag (by simp [hk]) (by simp [hk])
  have hlf : ∃ b, L.ls[(tnm d).idxOf nm]? = some b ∧ Holds (w.alloc (.cells #[.int .i64 kd, .string nm, .string ob, .int .i64 o1, .int .i64 o2, .int .i64 o3, .int .i64 o4, .int .i64 o5, .int .i64 t, .int .i64 n, .slice A l.length c] 55)) b tLf (lfC z) ∧ d.trs[(tnm d).idxOf nm]? = some z ∧ z.nm = nm := by
    rcases HD1.out.lfOf nm with ⟨h0, _⟩ | ⟨x, b, h0, h1, h2, h3, h4⟩
    · rw [show lfAt d nm = some z from hz] at h0; cases h0
    · rw [show lfAt d nm = some z from hz] at h0
      cases h0
      exact ⟨b, h1, h2, h3, h4⟩
  obtain ⟨b, hb, hHb, hzi, hzn⟩ := hlf
  have HHB := Lib.hid hHb
  have HB := Lib.hid hb
  have HZI := Lib.hid hzi
  have HZN := Lib.hid hzn
  have hbf : foot L b := .inr (.inr (.inr (.inr (List.mem_of_getElem? hb))))
  have HBF := Lib.hid hbf
  have hbB : b ≠ L.B := fun e => HD1.out.tr.apart HD1.out.box (by decide) (by decide) (e ▸ (.inr (.inr (List.mem_of_getElem? hb))))
  have hzo := h.ok.ops z (List.mem_of_getElem? hzi)
  have HT := Lib.hid (show takeD d ⟨kd, nm, ob, (o1, o2, o3, o4, o5), t, n, l⟩ = ⟨d.obs, d.trs.set ((tnm d).idxOf nm) ⟨z.nm, z.bg, z.en, z.cm, z.ops + 1⟩, d.evs + 1, d.ops + 1⟩ by
    unfold takeD
    rw [if_neg (by simp [hk]), if_neg (by simp [hk]), if_pos hk]
    show (⟨d.obs, turnLs d.evs 3 nm d.trs, d.evs + 1, d.ops + 1⟩ : Dk) = _
    rw [turns_at h.ok.trs hzi hzn]
    rfl)
  have hops := h.ok.few
  rw [HT.out] at HOK HEV ⊢
  subst hk
  clear h hag hz hHb hb hzi hzn hbf
  go_enter Tryz.func51, Tryz.ntmps51
  go_upto_region 1 with fail
  generalize w.alloc (.cells #[.int .i64 3, .string nm, .string ob, .int .i64 o1, .int .i64 o2, .int .i64 o3, .int .i64 o4, .int .i64 o5, .int .i64 t, .int .i64 n, .slice A l.length c] 55) = W1 at *
  have hl1 := HX.out.lt
  obtain ⟨x0, x1, x2, x3, x4, x5, x6, x7, x8, x9, x10, y0⟩ := ev_cells HX.out
  obtain ⟨zn, zb, ze, zc, zo⟩ := z
  dsimp only at hzo hr
  have c3 := (desk_cells HD1.out).2.2.2.1
  have HOf := of_L L.B W1.drew c3 (HD1.out.below ((Below.refl _ W1).drew)).tr nm (by unfold maxLen; omega)
  have hopl : d.ops < 100 := by omega
  have hzo1 : wrap64 (zo + 1) = zo + 1 := by unfold wrap64; omega
  have HZO := Lib.hid hzo1
  have HOP := Lib.hid (up1 hopl)
  have HU := Lib.hid (up1 hfew)
  clear hzo1
  simp only [HB.out, ptrO] at HOf
  have cE : W1.cell? ⟨b, 4, none⟩ = some (.int .i64 zo) := HHB.out.c (j := 4) rfl
  have fE : W1.frozen? ⟨b, 4, none⟩ = false := HHB.out.frozen 4
  have hO1 := only_set W1.drew b 4 (.int .i64 (zo + 1))
  have hH1 := Holds.set (W := W1.drew) (show Holds W1.drew b tLf _ from HHB.out) 4 (.int .i64 (zo + 1))
  have HD2 := Lib.hid ((HD1.out.below ((Below.refl _ W1).drew)).toDskB.setLf (x' := ⟨zn, zb, ze, zc, zo + 1⟩) HB.out HZI.out rfl hO1 hH1)
  go_wp2_with fail
  refine wp_region_noPanic ?_
  refine wp_region_heads [true, true, true, true, true, false, true, true, true, true, true, true] (fun W' => W'.cell? ⟨w.heap.size, 1, none⟩ = some (.string nm) ∧ W'.cell? ⟨b, 4, none⟩ = some (.int .i64 zo)) (by kernel_rfl) (by kernel_rfl) (fun _ _ _ _ _ h => h) ⟨x1, cE⟩ ?_
  iterate 5
    refine Heads.take ?_ (by rfl) ?_ ?_
    rotate_left
    · rintro w' ⟨hw0, hw1⟩
      go_simp
      try with_reducible rfl
    simp only [Act.put, List.setIfInBounds_toArray, List.set_cons_zero, List.set_cons_succ]
  refine Heads.call 53 #[.pointer (some ⟨L.B, 3, none⟩), .string nm] (by rfl) (by go_simp) ?_
  refine HOf.mono ?_
  rintro e w3 ⟨rfl, rfl⟩
  refine ⟨_, rfl, ⟨x1, cE⟩, ?_⟩
  simp only [Act.put, List.setIfInBounds_toArray, List.set_cons_zero, List.set_cons_succ]
  iterate 6
    refine Heads.take ?_ (by rfl) ?_ ?_
    rotate_left
    · rintro w' ⟨hw0, hw1⟩
      go_simp
      try with_reducible rfl
    simp only [Act.put, List.setIfInBounds_toArray, List.set_cons_zero, List.set_cons_succ]
  refine Heads.done ?_
  have cE' : W1.drew.cell? ⟨b, 4, none⟩ = some (.int .i64 zo) := cE
  have fE' : W1.drew.frozen? ⟨b, 4, none⟩ = false := fE
  have hvb : Below w.heap.size w W1.drew := hb1.drew
  generalize W1.drew = V at *
  clear hzo HOf
  go_wp2_with fail
  refine NoPanic.normal ?_
  rw [HZO.out]
  generalize V.setCell ⟨b, 4, none⟩ (.int .i64 (zo + 1)) = W2 at *
  have q6 : W2.cell? ⟨L.B, 6, none⟩ = some (.int .i64 d.ops) := HD2.out.box.c (j := 6) rfl
  have f6 : W2.frozen? ⟨L.B, 6, none⟩ = false := HD2.out.box.frozen 6
  clear x0 x1 x2 x3 x4 x5 x6 x7 x8 x9 x10 y0 cE fE cE' fE'
  have q5 : W2.cell? ⟨L.B, 5, none⟩ = some (.int .i64 d.evs) := HD2.out.box.c (j := 5) rfl
  have f5 : W2.frozen? ⟨L.B, 5, none⟩ = false := HD2.out.box.frozen 5
  go_wp2
  go_end0
  have hO3 := only_set W2 L.B 6 (.int .i64 ((d.ops : Int) + 1))
  have HD3 := Lib.hid (HD2.out.counts d.evs (d.ops + 1) hO3 (HD2.out.box.set 6 (.int .i64 ((d.ops : Int) + 1))))
  have hO4 := only_set (W2.setCell ⟨L.B, 6, none⟩ (.int .i64 ((d.ops : Int) + 1))) L.B 5 (.int .i64 ((d.evs : Int) + 1))
  have hD4 := HD3.out.counts (d.evs + 1) (d.ops + 1) hO4 (HD3.out.box.set 5 (.int .i64 ((d.evs : Int) + 1)))
  have hv : But (foot L) w V := but_of_below hvb
  refine ⟨rfl, L, ⟨hD4, HOK.out, by show d.evs + 1 ≤ 100; omega⟩, rfl, ((hv.trans (But.only hO1 HBF.out)).trans (But.only hO3 (.inl rfl))).trans (But.only hO4 (.inl rfl)), fun k hk => .inl hk⟩

set_option maxHeartbeats 4000000 in
theorem take_en4 {lo : Nat} {L : Lay} {d : Dk} (kd : Int) (nm ob : ByteArray) (o1 o2 o3 o4 o5 t n : Int) (l : List Int) (A : Option Addr) (c : Nat) (w : World) (h : Dsk w lo L d) (hfew : d.evs < 100) (hlo : lo ≤ w.heap.size) (hnm : nm.size ≤ 8000) (hag : agE d ⟨kd, nm, ob, (o1, o2, o3, o4, o5), t, n, l⟩ = 0) (hk : kd = 4) :
    Calls Tryz.prog 51 #[.pointer (some ⟨L.B, 0, none⟩), .agg #[.int .i64 kd, .string nm, .string ob, .int .i64 o1, .int .i64 o2, .int .i64 o3, .int .i64 o4, .int .i64 o5, .int .i64 t, .int .i64 n, .slice A l.length c]] w (TookPost lo L (takeD d ⟨kd, nm, ob, (o1, o2, o3, o4, o5), t, n, l⟩) w) := by
  have HOK := Lib.hid (h.ok.add hag)
  have HEV := Lib.hid (take_evs d ⟨kd, nm, ob, (o1, o2, o3, o4, o5), t, n, l⟩)
  have hb1 := alloc1 w (.cells #[.int .i64 kd, .string nm, .string ob, .int .i64 o1, .int .i64 o2, .int .i64 o3, .int .i64 o4, .int .i64 o5, .int .i64 t, .int .i64 n, .slice A l.length c] 55)
  have HX := Lib.hid (Holds.new w 55 #[.int .i64 kd, .string nm, .string ob, .int .i64 o1, .int .i64 o2, .int .i64 o3, .int .i64 o4, .int .i64 o5, .int .i64 t, .int .i64 n, .slice A l.length c])
  have HD1 := Lib.hid (h.below hb1)
  have HLT := Lib.hid h.lt
  obtain ⟨z, hz, hr⟩ := ask_run hag (by simp [hk]) (by simp [hk])
  have hlf : ∃ b, L.ls[(tnm d).idxOf nm]? = some b ∧ Holds (w.alloc (.cells #[.int .i64 kd, .string nm, .string ob, .int .i64 o1, .int .i64 o2, .int .i64 o3, .int .i64 o4, .int .i64 o5, .int .i64 t, .int .i64 n, .slice A l.length c] 55)) b tLf (lfC z) ∧ d.trs[(tnm d).idxOf nm]? = some z ∧ z.nm = nm := by
    rcases HD1.out.lfOf nm with ⟨h0, _⟩ | ⟨x, b, h0, h1, h2, h3, h4⟩
    · rw [show lfAt d nm = some z from hz] at h0; cases h0
    · rw [show lfAt d nm = some z from hz] at h0
      cases h0
      exact ⟨b, h1, h2, h3, h4⟩
  obtain ⟨b, hb, hHb, hzi, hzn⟩ := hlf
  have HHB := Lib.hid hHb
  have HB := Lib.hid hb
  have HZI := Lib.hid hzi
  have HZN := Lib.hid hzn
  have hbf : foot L b := .inr (.inr (.inr (.inr (List.mem_of_getElem? hb))))
  have HBF := Lib.hid hbf
  have hbB : b ≠ L.B := fun e => HD1.out.tr.apart HD1.out.box (by decide) (by decide) (e ▸ (.inr (.inr (List.mem_of_getElem? hb))))
  have hzo := h.ok.ops z (List.mem_of_getElem? hzi)
  have HT := Lib.hid (show takeD d ⟨kd, nm, ob, (o1, o2, o3, o4, o5), t, n, l⟩ = ⟨d.obs, d.trs.set ((tnm d).idxOf nm) ⟨z.nm, z.bg, d.evs, true, z.ops⟩, d.evs + 1, d.ops⟩ by
    unfold takeD
    rw [if_neg (by simp [hk]), if_neg (by simp [hk]), if_neg (by simp [hk])]
    show (⟨d.obs, turnLs d.evs kd nm d.trs, d.evs + 1, d.ops⟩ : Dk) = _
    rw [hk, turns_at h.ok.trs hzi hzn]
    rfl)
  rw [HT.out] at HOK HEV ⊢
  subst hk
  clear h hag hz hHb hb hzi hzn hbf
  go_enter Tryz.func51, Tryz.ntmps51
  go_upto_region 1 with fail
  generalize w.alloc (.cells #[.int .i64 4, .string nm, .string ob, .int .i64 o1, .int .i64 o2, .int .i64 o3, .int .i64 o4, .int .i64 o5, .int .i64 t, .int .i64 n, .slice A l.length c] 55) = W1 at *
  have hl1 := HX.out.lt
  obtain ⟨x0, x1, x2, x3, x4, x5, x6, x7, x8, x9, x10, y0⟩ := ev_cells HX.out
  obtain ⟨zn, zb, ze, zc, zo⟩ := z
  dsimp only at hzo hr
  have c3 := (desk_cells HD1.out).2.2.2.1
  have HOf := fun n => of_L L.B (W1.drewN n) c3 (HD1.out.drewN n).tr nm (by unfold maxLen; omega)
  simp only [HB.out, ptrO] at HOf
  go_wp2_with fail
  go_quiet ((go_at_call 53; exact Calls.quiet_of (same_q (HOf _))))
  rename_i nq
  have cB : (W1.drewN nq).cell? ⟨b, 2, none⟩ = some (.int .i64 ze) := HHB.out.c (j := 2) rfl
  have cC : (W1.drewN nq).cell? ⟨b, 3, none⟩ = some (.bool zc) := HHB.out.c (j := 3) rfl
  have fB : (W1.drewN nq).frozen? ⟨b, 2, none⟩ = false := HHB.out.frozen 2
  have fC : (W1.drewN nq).frozen? ⟨b, 3, none⟩ = false := HHB.out.frozen 3
  have z0 : (W1.drewN nq).cell? ⟨w.heap.size, 0, none⟩ = some (.int .i64 4) := x0
  have cV : (W1.drewN nq).cell? ⟨L.B, 5, none⟩ = some (.int .i64 d.evs) := HD1.out.box.c (j := 5) rfl
  have HHV := Lib.hid (show Holds (W1.drewN nq) b tLf _ from HHB.out)
  have HXV := Lib.hid (show Holds (W1.drewN nq) w.heap.size 55 _ from HX.out)
  have HDV := Lib.hid (HD1.out.drewN nq)
  have hvb : Below w.heap.size w (W1.drewN nq) := belowN hb1 nq
  clear x0 x1 x2 x3 x4 x5 x6 x7 x8 x9 x10 y0 c3 HOf hzo
  generalize W1.drewN nq = V at *
  go_wp2_with fail
  have hbw : b ≠ w.heap.size := fun e => by
    have h1 := (show Holds V b tLf _ from HHV.out)
    have h2 := (show Holds V w.heap.size 55 _ from HXV.out)
    rw [e] at h1
    have h3 := (show V.heap[w.heap.size]? = _ from h1).symm.trans (show V.heap[w.heap.size]? = _ from h2)
    exact absurd (show tLf = 55 from by injection h3 with h3; injection h3) (by decide)
  have cB : V.drew.cell? ⟨b, 2, none⟩ = some (.int .i64 ze) := cB
  have cC : V.drew.cell? ⟨b, 3, none⟩ = some (.bool zc) := cC
  have fB : V.drew.frozen? ⟨b, 2, none⟩ = false := fB
  have fC : V.drew.frozen? ⟨b, 3, none⟩ = false := fC
  have cV : V.drew.cell? ⟨L.B, 5, none⟩ = some (.int .i64 d.evs) := cV
  have z0 : V.drew.cell? ⟨w.heap.size, 0, none⟩ = some (.int .i64 4) := z0
  have HHV := Lib.hid (show Holds V.drew b tLf _ from HHV.out)
  have HDV := Lib.hid (HDV.out.below ((Below.refl _ V).drew))
  have hvb : Below w.heap.size w V.drew := hvb.drew
  refine wp_region_noPanic ?_
  refine wp_region_picked [(0, true), (1, true), (2, true), (3, true), (4, true), (5, true), (6, true), (7, true), (8, true), (9, true), (10, true), (11, false), (12, true), (13, true), (14, false)] (fun W' => W'.cell? ⟨L.B, 5, none⟩ = some (.int .i64 d.evs) ∧ W'.cell? ⟨w.heap.size, 0, none⟩ = some (.int .i64 4)) (by kernel_rfl) (by kernel_rfl) (fun _ _ _ _ _ h => h) ⟨cV, z0⟩ ?_
  generalize V.drew = U at *
  have hO1 := only_set U b 2 (.int .i64 d.evs)
  have hO2 := only_set (U.setCell ⟨b, 2, none⟩ (.int .i64 d.evs)) b 3 (.bool true)
  have HD2 := Lib.hid (HDV.out.toDskB.setLf (x' := ⟨zn, zb, d.evs, true, zo⟩) HB.out HZI.out rfl (hO1.then hO2) ((HHV.out.set 2 (.int .i64 d.evs)).set 3 (.bool true)))
  iterate 11
    refine Picked.take ?_ (by rfl) (by rfl) ?_ ?_
    rotate_left
    · rintro w' ⟨hw0, hw1⟩
      go_simp
      try with_reducible rfl
    simp only [Act.put, List.getElem_toArray, List.getElem_cons_zero, List.getElem_cons_succ, List.setIfInBounds_toArray, List.set_cons_zero, List.set_cons_succ]
  refine ⟨_, by rfl, by rfl, ?_⟩
  go_simp
  have hS2 : (U.setCell ⟨b, 2, none⟩ (.int .i64 d.evs)).cell? ⟨L.B, 5, none⟩ = some (.int .i64 d.evs) ∧ (U.setCell ⟨b, 2, none⟩ (.int .i64 d.evs)).cell? ⟨w.heap.size, 0, none⟩ = some (.int .i64 4) :=
    ⟨by rw [World.cell?_setCell_other _ _ _ _ (by intro e; exact hbB (show b = L.B from (congrArg Addr.block e)))]; exact cV, by rw [World.cell?_setCell_other _ _ _ _ (by intro e; exact hbw (show b = w.heap.size from (congrArg Addr.block e)))]; exact z0⟩
  have cC2 : (U.setCell ⟨b, 2, none⟩ (.int .i64 d.evs)).cell? ⟨b, 3, none⟩ = some (.bool zc) := by rw [World.cell?_setCell_other _ _ _ _ (by simp)]; exact cC
  have fC2 : (U.setCell ⟨b, 2, none⟩ (.int .i64 d.evs)).frozen? ⟨b, 3, none⟩ = false := by rw [World.frozen?_setCell]; exact fC
  try refine And.intro hS2 ?_
  have hS3 : ((U.setCell ⟨b, 2, none⟩ (.int .i64 d.evs)).setCell ⟨b, 3, none⟩ (.bool true)).cell? ⟨L.B, 5, none⟩ = some (.int .i64 d.evs) ∧ ((U.setCell ⟨b, 2, none⟩ (.int .i64 d.evs)).setCell ⟨b, 3, none⟩ (.bool true)).cell? ⟨w.heap.size, 0, none⟩ = some (.int .i64 4) :=
    ⟨by rw [World.cell?_setCell_other _ _ _ _ (by intro e; exact hbB (show b = L.B from (congrArg Addr.block e)))]; exact hS2.1, by rw [World.cell?_setCell_other _ _ _ _ (by intro e; exact hbw (show b = w.heap.size from (congrArg Addr.block e)))]; exact hS2.2⟩
  clear cB cC fB fC z0 cV hS2
  generalize hU2 : U.setCell ⟨b, 2, none⟩ (.int .i64 d.evs) = U2 at *
  iterate 2
    refine Picked.take ?_ (by rfl) (by rfl) ?_ ?_
    rotate_left
    · rintro w' ⟨hw0, hw1⟩
      go_simp
      try with_reducible rfl
    simp only [Act.put, List.getElem_toArray, List.getElem_cons_zero, List.getElem_cons_succ, List.setIfInBounds_toArray, List.set_cons_zero, List.set_cons_succ]
  refine ⟨_, by rfl, by rfl, ?_⟩
  go_simp
  try refine And.intro hS3 ?_
  clear hS3 cC2 fC2
  refine NoPanic.normal ?_
  generalize U2.setCell ⟨b, 3, none⟩ (.bool true) = W2 at *
  have q5 : W2.cell? ⟨L.B, 5, none⟩ = some (.int .i64 d.evs) := HD2.out.box.c (j := 5) rfl
  have f5 : W2.frozen? ⟨L.B, 5, none⟩ = false := HD2.out.box.frozen 5
  go_wp2
  go_end0
  have hO4 := only_set W2 L.B 5 (.int .i64 ((d.evs : Int) + 1))
  have hD4 := HD2.out.counts (d.evs + 1) d.ops hO4 (HD2.out.box.set 5 (.int .i64 ((d.evs : Int) + 1)))
  have hv : But (foot L) w U := but_of_below hvb
  refine ⟨rfl, L, ⟨hD4, HOK.out, by show d.evs + 1 ≤ 100; omega⟩, rfl, (hv.trans (But.only (hO1.then hO2) HBF.out)).trans (But.only hO4 (.inl rfl)), fun k hk => .inl hk⟩

set_option maxHeartbeats 4000000 in
theorem take_en5 {lo : Nat} {L : Lay} {d : Dk} (kd : Int) (nm ob : ByteArray) (o1 o2 o3 o4 o5 t n : Int) (l : List Int) (A : Option Addr) (c : Nat) (w : World) (h : Dsk w lo L d) (hfew : d.evs < 100) (hlo : lo ≤ w.heap.size) (hnm : nm.size ≤ 8000) (hag : agE d ⟨kd, nm, ob, (o1, o2, o3, o4, o5), t, n, l⟩ = 0) (hk : kd = 5) :
    Calls Tryz.prog 51 #[.pointer (some ⟨L.B, 0, none⟩), .agg #[.int .i64 kd, .string nm, .string ob, .int .i64 o1, .int .i64 o2, .int .i64 o3, .int .i64 o4, .int .i64 o5, .int .i64 t, .int .i64 n, .slice A l.length c]] w (TookPost lo L (takeD d ⟨kd, nm, ob, (o1, o2, o3, o4, o5), t, n, l⟩) w) := by
  have HOK := Lib.hid (h.ok.add hag)
  have HEV := Lib.hid (take_evs d ⟨kd, nm, ob, (o1, o2, o3, o4, o5), t, n, l⟩)
  have hb1 := alloc1 w (.cells #[.int .i64 kd, .string nm, .string ob, .int .i64 o1, .int .i64 o2, .int .i64 o3, .int .i64 o4, .int .i64 o5, .int .i64 t, .int .i64 n, .slice A l.length c] 55)
  have HX := Lib.hid (Holds.new w 55 #[.int .i64 kd, .string nm, .string ob, .int .i64 o1, .int .i64 o2, .int .i64 o3, .int .i64 o4, .int .i64 o5, .int .i64 t, .int .i64 n, .slice A l.length c])
  have HD1 := Lib.hid (h.below hb1)
  have HLT := Lib.hid h.lt
  obtain ⟨z, hz, hr⟩ := ask_run hag (by simp [hk]) (by simp [hk])
  have hlf : ∃ b, L.ls[(tnm d).idxOf nm]? = some b ∧ Holds (w.alloc (.cells #[.int .i64 kd, .string nm, .string ob, .int .i64 o1, .int .i64 o2, .int .i64 o3, .int .i64 o4, .int .i64 o5, .int .i64 t, .int .i64 n, .slice A l.length c] 55)) b tLf (lfC z) ∧ d.trs[(tnm d).idxOf nm]? = some z ∧ z.nm = nm := by
    rcases HD1.out.lfOf nm with ⟨h0, _⟩ | ⟨x, b, h0, h1, h2, h3, h4⟩
    · rw [show lfAt d nm = some z from hz] at h0; cases h0
    · rw [show lfAt d nm = some z from hz] at h0
      cases h0
      exact ⟨b, h1, h2, h3, h4⟩
  obtain ⟨b, hb, hHb, hzi, hzn⟩ := hlf
  have HHB := Lib.hid hHb
  have HB := Lib.hid hb
  have HZI := Lib.hid hzi
  have HZN := Lib.hid hzn
  have hbf : foot L b := .inr (.inr (.inr (.inr (List.mem_of_getElem? hb))))
  have HBF := Lib.hid hbf
  have hbB : b ≠ L.B := fun e => HD1.out.tr.apart HD1.out.box (by decide) (by decide) (e ▸ (.inr (.inr (List.mem_of_getElem? hb))))
  have hzo := h.ok.ops z (List.mem_of_getElem? hzi)
  have HT := Lib.hid (show takeD d ⟨kd, nm, ob, (o1, o2, o3, o4, o5), t, n, l⟩ = ⟨d.obs, d.trs.set ((tnm d).idxOf nm) ⟨z.nm, z.bg, d.evs, false, z.ops⟩, d.evs + 1, d.ops⟩ by
    unfold takeD
    rw [if_neg (by simp [hk]), if_neg (by simp [hk]), if_neg (by simp [hk])]
    show (⟨d.obs, turnLs d.evs kd nm d.trs, d.evs + 1, d.ops⟩ : Dk) = _
    rw [hk, turns_at h.ok.trs hzi hzn]
    rfl)
  rw [HT.out] at HOK HEV ⊢
  subst hk
  clear h hag hz hHb hb hzi hzn hbf
  go_enter Tryz.func51, Tryz.ntmps51
  go_upto_region 1 with fail
  generalize w.alloc (.cells #[.int .i64 5, .string nm, .string ob, .int .i64 o1, .int .i64 o2, .int .i64 o3, .int .i64 o4, .int .i64 o5, .int .i64 t, .int .i64 n, .slice A l.length c] 55) = W1 at *
  have hl1 := HX.out.lt
  obtain ⟨x0, x1, x2, x3, x4, x5, x6, x7, x8, x9, x10, y0⟩ := ev_cells HX.out
  obtain ⟨zn, zb, ze, zc, zo⟩ := z
  dsimp only at hzo hr
  have c3 := (desk_cells HD1.out).2.2.2.1
  have HOf := fun n => of_L L.B (W1.drewN n) c3 (HD1.out.drewN n).tr nm (by unfold maxLen; omega)
  simp only [HB.out, ptrO] at HOf
  go_wp2_with fail
  go_quiet ((go_at_call 53; exact Calls.quiet_of (same_q (HOf _))))
  rename_i nq
  have cB : (W1.drewN nq).cell? ⟨b, 2, none⟩ = some (.int .i64 ze) := HHB.out.c (j := 2) rfl
  have cC : (W1.drewN nq).cell? ⟨b, 3, none⟩ = some (.bool zc) := HHB.out.c (j := 3) rfl
  have fB : (W1.drewN nq).frozen? ⟨b, 2, none⟩ = false := HHB.out.frozen 2
  have fC : (W1.drewN nq).frozen? ⟨b, 3, none⟩ = false := HHB.out.frozen 3
  have z0 : (W1.drewN nq).cell? ⟨w.heap.size, 0, none⟩ = some (.int .i64 5) := x0
  have cV : (W1.drewN nq).cell? ⟨L.B, 5, none⟩ = some (.int .i64 d.evs) := HD1.out.box.c (j := 5) rfl
  have HHV := Lib.hid (show Holds (W1.drewN nq) b tLf _ from HHB.out)
  have HXV := Lib.hid (show Holds (W1.drewN nq) w.heap.size 55 _ from HX.out)
  have HDV := Lib.hid (HD1.out.drewN nq)
  have hvb : Below w.heap.size w (W1.drewN nq) := belowN hb1 nq
  clear x0 x1 x2 x3 x4 x5 x6 x7 x8 x9 x10 y0 c3 HOf hzo
  generalize W1.drewN nq = V at *
  go_wp2_with fail
  have hbw : b ≠ w.heap.size := fun e => by
    have h1 := (show Holds V b tLf _ from HHV.out)
    have h2 := (show Holds V w.heap.size 55 _ from HXV.out)
    rw [e] at h1
    have h3 := (show V.heap[w.heap.size]? = _ from h1).symm.trans (show V.heap[w.heap.size]? = _ from h2)
    exact absurd (show tLf = 55 from by injection h3 with h3; injection h3) (by decide)
  have cB : V.drew.cell? ⟨b, 2, none⟩ = some (.int .i64 ze) := cB
  have cC : V.drew.cell? ⟨b, 3, none⟩ = some (.bool zc) := cC
  have fB : V.drew.frozen? ⟨b, 2, none⟩ = false := fB
  have fC : V.drew.frozen? ⟨b, 3, none⟩ = false := fC
  have cV : V.drew.cell? ⟨L.B, 5, none⟩ = some (.int .i64 d.evs) := cV
  have z0 : V.drew.cell? ⟨w.heap.size, 0, none⟩ = some (.int .i64 5) := z0
  have HHV := Lib.hid (show Holds V.drew b tLf _ from HHV.out)
  have HDV := Lib.hid (HDV.out.below ((Below.refl _ V).drew))
  have hvb : Below w.heap.size w V.drew := hvb.drew
  refine wp_region_noPanic ?_
  refine wp_region_picked [(0, true), (1, true), (2, true), (3, true), (4, true), (5, true), (6, true), (7, true), (8, true), (9, true), (10, true), (11, false), (12, true), (13, true), (14, false)] (fun W' => W'.cell? ⟨L.B, 5, none⟩ = some (.int .i64 d.evs) ∧ W'.cell? ⟨w.heap.size, 0, none⟩ = some (.int .i64 5)) (by kernel_rfl) (by kernel_rfl) (fun _ _ _ _ _ h => h) ⟨cV, z0⟩ ?_
  generalize V.drew = U at *
  have hO1 := only_set U b 2 (.int .i64 d.evs)
  have hO2 := only_set (U.setCell ⟨b, 2, none⟩ (.int .i64 d.evs)) b 3 (.bool false)
  have HD2 := Lib.hid (HDV.out.toDskB.setLf (x' := ⟨zn, zb, d.evs, false, zo⟩) HB.out HZI.out rfl (hO1.then hO2) ((HHV.out.set 2 (.int .i64 d.evs)).set 3 (.bool false)))
  iterate 11
    refine Picked.take ?_ (by rfl) (by rfl) ?_ ?_
    rotate_left
    · rintro w' ⟨hw0, hw1⟩
      go_simp
      try with_reducible rfl
    simp only [Act.put, List.getElem_toArray, List.getElem_cons_zero, List.getElem_cons_succ, List.setIfInBounds_toArray, List.set_cons_zero, List.set_cons_succ]
  refine ⟨_, by rfl, by rfl, ?_⟩
  go_simp
  have hS2 : (U.setCell ⟨b, 2, none⟩ (.int .i64 d.evs)).cell? ⟨L.B, 5, none⟩ = some (.int .i64 d.evs) ∧ (U.setCell ⟨b, 2, none⟩ (.int .i64 d.evs)).cell? ⟨w.heap.size, 0, none⟩ = some (.int .i64 5) :=
    ⟨by rw [World.cell?_setCell_other _ _ _ _ (by intro e; exact hbB (show b = L.B from (congrArg Addr.block e)))]; exact cV, by rw [World.cell?_setCell_other _ _ _ _ (by intro e; exact hbw (show b = w.heap.size from (congrArg Addr.block e)))]; exact z0⟩
  have cC2 : (U.setCell ⟨b, 2, none⟩ (.int .i64 d.evs)).cell? ⟨b, 3, none⟩ = some (.bool zc) := by rw [World.cell?_setCell_other _ _ _ _ (by simp)]; exact cC
  have fC2 : (U.setCell ⟨b, 2, none⟩ (.int .i64 d.evs)).frozen? ⟨b, 3, none⟩ = false := by rw [World.frozen?_setCell]; exact fC
  try refine And.intro hS2 ?_
  have hS3 : ((U.setCell ⟨b, 2, none⟩ (.int .i64 d.evs)).setCell ⟨b, 3, none⟩ (.bool false)).cell? ⟨L.B, 5, none⟩ = some (.int .i64 d.evs) ∧ ((U.setCell ⟨b, 2, none⟩ (.int .i64 d.evs)).setCell ⟨b, 3, none⟩ (.bool false)).cell? ⟨w.heap.size, 0, none⟩ = some (.int .i64 5) :=
    ⟨by rw [World.cell?_setCell_other _ _ _ _ (by intro e; exact hbB (show b = L.B from (congrArg Addr.block e)))]; exact hS2.1, by rw [World.cell?_setCell_other _ _ _ _ (by intro e; exact hbw (show b = w.heap.size from (congrArg Addr.block e)))]; exact hS2.2⟩
  clear cB cC fB fC z0 cV hS2
  generalize hU2 : U.setCell ⟨b, 2, none⟩ (.int .i64 d.evs) = U2 at *
  iterate 2
    refine Picked.take ?_ (by rfl) (by rfl) ?_ ?_
    rotate_left
    · rintro w' ⟨hw0, hw1⟩
      go_simp
      try with_reducible rfl
    simp only [Act.put, List.getElem_toArray, List.getElem_cons_zero, List.getElem_cons_succ, List.setIfInBounds_toArray, List.set_cons_zero, List.set_cons_succ]
  refine ⟨_, by rfl, by rfl, ?_⟩
  go_simp
  try refine And.intro hS3 ?_
  clear hS3 cC2 fC2
  refine NoPanic.normal ?_
  generalize U2.setCell ⟨b, 3, none⟩ (.bool false) = W2 at *
  have q5 : W2.cell? ⟨L.B, 5, none⟩ = some (.int .i64 d.evs) := HD2.out.box.c (j := 5) rfl
  have f5 : W2.frozen? ⟨L.B, 5, none⟩ = false := HD2.out.box.frozen 5
  go_wp2
  go_end0
  have hO4 := only_set W2 L.B 5 (.int .i64 ((d.evs : Int) + 1))
  have hD4 := HD2.out.counts (d.evs + 1) d.ops hO4 (HD2.out.box.set 5 (.int .i64 ((d.evs : Int) + 1)))
  have hv : But (foot L) w U := but_of_below hvb
  refine ⟨rfl, L, ⟨hD4, HOK.out, by show d.evs + 1 ≤ 100; omega⟩, rfl, (hv.trans (But.only (hO1.then hO2) HBF.out)).trans (But.only hO4 (.inl rfl)), fun k hk => .inl hk⟩
end Go.Proofs.YtpdbkjnaicjfdaaGreatDoor
namespace Go.Proofs.YtpdbkjnaicjfdaaGreatDoor
open Go.RowKit Go.Maps
set_option linter.unusedVariables false
set_option maxRecDepth 100000

theorem dtake_any {lo : Nat} {L : Lay} {d : Dk} (e : Ev) (A : Option Addr) (c : Nat) (w : World) (h : Dsk w lo L d) (hfew : d.evs < 100) (hlo : lo ≤ w.heap.size) (hnm : e.nm.size ≤ 8000) (hag : agE d e = 0) :
    Calls Tryz.prog 51 #[.pointer (some ⟨L.B, 0, none⟩), evV e A c] w (TookPost lo L (takeD d e) w) := by
  obtain ⟨kd, nm, ob, ⟨o1, o2, o3, o4, o5⟩, t, n, l⟩ := e
  have hk := ev_kind (thenE_zero.1 hag).1
  dsimp only at hk hnm
  by_cases k1 : kd = 1
  · exact take_ob kd nm ob o1 o2 o3 o4 o5 t n l A c w h hfew hlo hnm hag k1
  · by_cases k2 : kd = 2
    · exact take_be kd nm ob o1 o2 o3 o4 o5 t n l A c w h hfew hlo hnm hag k2
    · by_cases k3 : kd = 3
      · exact take_op kd nm ob o1 o2 o3 o4 o5 t n l A c w h hfew hlo hnm hag k3
      · by_cases k4 : kd = 4
        · exact take_en4 kd nm ob o1 o2 o3 o4 o5 t n l A c w h hfew hlo hnm hag k4
        · exact take_en5 kd nm ob o1 o2 o3 o4 o5 t n l A c w h hfew hlo hnm hag (by omega)
def AddedPost (lo : Nat) (L : Lay) (d : Dk) (e : Ev) (w : World) (x : Ending) (w' : World) : Prop :=
  x = .returned (.int .i64 (agE d e)) ∧ ∃ L', Dsk w' lo L' (addD d e) ∧ L'.B = L.B ∧ But (foot L) w w' ∧ ∀ k, foot L' k → foot L k ∨ w.heap.size ≤ k

set_option maxHeartbeats 2000000 in
theorem dadd_any {lo : Nat} {L : Lay} {d : Dk} (e : Ev) (A : Option Addr) (c : Nat) (w : World) (h : Dsk w lo L d) (hfew : d.evs < 100) (hlo : lo ≤ w.heap.size) (hA : Ints w A e.st.2.2) (hlen : e.st.2.2.length ≤ 20000) (hnm : e.nm.size ≤ 8000) (hob : e.ob.size ≤ 8000) :
    Calls Tryz.prog 26 #[.pointer (some ⟨L.B, 0, none⟩), evV e A c] w (AddedPost lo L d e w) := by
  have HAG := fun W hW hI => against_any (lo := lo) (L := L) (d := d) e A c W hW hI hlen hnm hob
  have HTK := fun W hW hl => dtake_any (lo := lo) (L := L) (d := d) e A c W hW hfew hl hnm
  have HM := fun (W : World) (hW : Dsk W lo L d) => made_yes L.B W (desk_cells hW).1
  unfold AddedPost
  have HAD := Lib.hid (show addD d e = if agE d e = 0 then takeD d e else d from rfl)
  generalize addD d e = ad at *
  generalize hF : agE d e = F at *
  have HF := Lib.hid hF
  clear hF
  generalize takeD d e = td at *
  obtain ⟨kd, nm, ob, ⟨o1, o2, o3, o4, o5⟩, t, n, l⟩ := e
  have HA := Lib.hid hA
  have HD := Lib.hid h
  have hb1 := alloc1 w (.cells (evC ⟨kd, nm, ob, (o1, o2, o3, o4, o5), t, n, l⟩ A c) 55)
  unfold evV evC at *
  dsimp only at HA hb1 HAG HTK HF ⊢
  clear h hA hlen hnm hob
  go_enter Tryz.func26, Tryz.ntmps26
  go_upto_region 1 with fail
  have HX := Lib.hid (Holds.new w 55 #[.int .i64 kd, .string nm, .string ob, .int .i64 o1, .int .i64 o2, .int .i64 o3, .int .i64 o4, .int .i64 o5, .int .i64 t, .int .i64 n, .slice A l.length c])
  have HD1 := Lib.hid (HD.out.below hb1)
  have HA1 := Lib.hid (HA.out.below hb1)
  generalize w.alloc (.cells #[.int .i64 kd, .string nm, .string ob, .int .i64 o1, .int .i64 o2, .int .i64 o3, .int .i64 o4, .int .i64 o5, .int .i64 t, .int .i64 n, .slice A l.length c] 55) = W1 at *
  have hl1 := HX.out.lt
  obtain ⟨x0, x1, x2, x3, x4, x5, x6, x7, x8, x9, x10, y0⟩ := ev_cells HX.out
  go_wp2_with fail
  refine (HM _ HD1.out).mono ?_
  rintro e w1 ⟨rfl, rfl⟩
  go_wp2_with fail
  refine (HAG _ HD1.out HA1.out).mono ?_
  rintro e w2 ⟨rfl, hb2⟩
  have HX2 := Lib.hid (HX.out.below hb2 hl1)
  have HD2 := Lib.hid (HD1.out.below hb2)
  have hbb := nxt hb1 hb2 hb1.size
  have hs2 := hbb.size
  clear x0 x1 x2 x3 x4 x5 x6 x7 x8 x9 x10 y0
  obtain ⟨x0, x1, x2, x3, x4, x5, x6, x7, x8, x9, x10, y0⟩ := ev_cells HX2.out
  by_cases hz : F = 0
  · subst hz
    have e1 : ad = td := by rw [HAD.out, if_pos rfl]
    subst e1
    have HT := HTK w2 HD2.out (by omega) rfl
    go_wp2_with fail
    refine HT.mono ?_
    rintro e w3 ⟨rfl, L', hD3, hB3, hbut, hft⟩
    go_wp2
    go_ret
    exact ⟨rfl, L', hD3, hB3, (but_of_below hbb).trans hbut, fun k hk => (hft k hk).imp id (fun h => by omega)⟩
  · have hzz : (F == 0) = false := beq_eq_false_iff_ne.2 hz
    have e1 : ad = d := by rw [HAD.out, if_neg hz]
    subst e1
    clear hz
    go_wp2
    go_ret
    exact ⟨rfl, L, HD2.out, rfl, but_of_below hbb, fun k hk => .inl hk⟩
/-- A desk that is none. -/
theorem dadd_no (p : Option Addr) (h0 : ∀ w : World, (∀ b, p = some b → w.cell? b = some (.pointer none)) → Calls Tryz.prog 48 #[.pointer p] w (Made false w)) (e : Ev) (A : Option Addr) (c : Nat) (w : World) (hp : ∀ b, p = some b → w.cell? b = some (.pointer none)) :
    Calls Tryz.prog 26 #[.pointer p, evV e A c] w (Says (.int .i64 1) w) := by
  obtain ⟨kd, nm, ob, ⟨o1, o2, o3, o4, o5⟩, t, n, l⟩ := e
  have hb1 := alloc1 w (.cells (evC ⟨kd, nm, ob, (o1, o2, o3, o4, o5), t, n, l⟩ A c) 55)
  have H0 := h0 _ (fun b hb => (World.cell?_alloc_lt w (.cells (evC ⟨kd, nm, ob, (o1, o2, o3, o4, o5), t, n, l⟩ A c) 55) b (World.block_lt_of_cell? _ _ (hp b hb))).trans (hp b hb))
  unfold evV evC at *
  dsimp only at hb1 H0 ⊢
  clear hp h0
  go_enter Tryz.func26, Tryz.ntmps26
  go_wp2_with fail
  refine H0.mono ?_
  rintro e w1 ⟨rfl, rfl⟩
  go_wp2
  go_ret
  exact ⟨rfl, hb1⟩
end Go.Proofs.YtpdbkjnaicjfdaaGreatDoor
