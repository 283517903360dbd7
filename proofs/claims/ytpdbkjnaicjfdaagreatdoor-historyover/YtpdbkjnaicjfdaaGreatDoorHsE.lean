/- An event that may follow is taken. Written by wip/tools/gen_hse.py. -/
import Derived.Test.YtpdbkjnaicjfdaaGreatDoorHsC
import Derived.Test.YtpdbkjnaicjfdaaGreatDoorHsBg
namespace Go.Proofs.YtpdbkjnaicjfdaaGreatDoor
open Go.RowKit Go.Maps
set_option linter.unusedVariables false
set_option maxRecDepth 100000

def TookPost (lo : Nat) (L : Lay) (d' : Dk) (w : World) (e : Ending) (w' : World) : Prop :=
  e = .returned (.tuple #[]) ∧ ∃ L', Dsk w' lo L' d' ∧ L'.B = L.B ∧ But (foot L) w w' ∧ ∀ k, foot L' k → foot L k ∨ w.heap.size ≤ k
theorem only_set (w : World) (B off : Nat) (u : Value) : Only B w (w.setCell ⟨B, off, none⟩ u) := (Only.of (Below.refl w.heap.size w) (Nat.le_refl _)).set off u
theorem But.only {F : Nat → Prop} {w w' : World} {B : Nat} (h : Only B w w') (hB : F B) : But F w w' := ⟨h.os, h.tape, h.output, h.size, fun k hk hF => h.block k hk (fun e => hF (e ▸ hB))⟩
theorem up1 {n : Nat} (h : n < 100) : wrap64 ((n : Int) + 1) = ((n + 1 : Nat) : Int) := by unfold wrap64; omega

set_option maxHeartbeats 4000000 in
theorem take_ob {lo : Nat} {L : Lay} {d : Dk} (kd : Int) (nm ob : ByteArray) (o1 o2 o3 o4 o5 t n : Int) (l : List Int) (A : Option Addr) (c : Nat) (w : World) (h : Dsk w lo L d) (hfew : d.evs < 100) (hlo : lo ≤ w.heap.size) (hnm : nm.size ≤ 8000) (hag : agE d ⟨kd, nm, ob, (o1, o2, o3, o4, o5), t, n, l⟩ = 0) (hk : kd = 1) :
    Calls Tryz.prog 51 #[.pointer (some ⟨L.B, 0, none⟩), .agg #[.int .i64 kd, .string nm, .string ob, .int .i64 o1, .int .i64 o2, .int .i64 o3, .int .i64 o4, .int .i64 o5, .int .i64 t, .int .i64 n, .slice A l.length c]] w (TookPost lo L (takeD d ⟨kd, nm, ob, (o1, o2, o3, o4, o5), t, n, l⟩) w) := by
  have HOK := Lib.hid (h.ok.add hag)
  have HEV := Lib.hid (take_evs d ⟨kd, nm, ob, (o1, o2, o3, o4, o5), t, n, l⟩)
  have hb1 := alloc1 w (.cells #[.int .i64 kd, .string nm, .string ob, .int .i64 o1, .int .i64 o2, .int .i64 o3, .int .i64 o4, .int .i64 o5, .int .i64 t, .int .i64 n, .slice A l.length c] 55)
  have HX := Lib.hid (Holds.new w 55 #[.int .i64 kd, .string nm, .string ob, .int .i64 o1, .int .i64 o2, .int .i64 o3, .int .i64 o4, .int .i64 o5, .int .i64 t, .int .i64 n, .slice A l.length c])
  have HD1 := Lib.hid (h.below hb1)
  have HLT := Lib.hid h.lt
  have HT := Lib.hid (show takeD d ⟨kd, nm, ob, (o1, o2, o3, o4, o5), t, n, l⟩ = ⟨d.obs ++ [(nm, t)], d.trs, d.evs + 1, d.ops⟩ by unfold takeD; rw [if_pos hk])
  have hcon : (onm d).contains nm = false := by
    obtain ⟨_, h1⟩ := thenE_zero.1 hag
    obtain ⟨h2, _⟩ := thenE_zero.1 h1
    unfold askO at h2
    rw [if_neg (by simp [hk])] at h2
    by_cases k2 : d.obs.length < d.evs
    · rw [if_pos k2] at h2; cases h2
    · rw [if_neg k2] at h2
      cases k3 : (obAt d nm).isSome with
      | true => rw [show (obAt d (Ev.nm ⟨kd, nm, ob, (o1, o2, o3, o4, o5), t, n, l⟩)).isSome = (obAt d nm).isSome from rfl, k3] at h2; cases h2
      | false =>
        have := not_mem_find k3
        cases hc : (onm d).contains nm with
        | false => rfl
        | true => exact absurd (List.contains_iff_mem.1 hc) this
  have HCON := Lib.hid hcon
  rw [HT.out] at HOK HEV ⊢
  subst hk
  clear h hag hcon
  go_enter Tryz.func51, Tryz.ntmps51
  go_upto_region 1 with fail
  generalize w.alloc (.cells #[.int .i64 1, .string nm, .string ob, .int .i64 o1, .int .i64 o2, .int .i64 o3, .int .i64 o4, .int .i64 o5, .int .i64 t, .int .i64 n, .slice A l.length c] 55) = W1 at *
  have hl1 := HX.out.lt
  obtain ⟨x0, x1, x2, x3, x4, x5, x6, x7, x8, x9, x10, y0⟩ := ev_cells HX.out
  go_wp2_with fail
  refine (clone_any nm _ (by omega)).mono ?_
  rintro e w2 ⟨rfl, hb2⟩
  have HX2 := Lib.hid (HX.out.below hb2 hl1)
  have HD2 := Lib.hid (HD1.out.below hb2)
  have hbb := nxt hb1 hb2 hb1.size
  have hs2 := hb2.size
  have hs1 := hb1.size
  clear x0 x1 x2 x3 x4 x5 x6 x7 x8 x9 x10 y0
  go_wp2_with fail
  refine wp_region_noPanic ?_
  refine wp_region_heads [true, true, true, true, true, true, true, true, true] (fun W' => W'.cell? ⟨w.heap.size, 8, none⟩ = some (.int .i64 t)) (by kernel_rfl) (by kernel_rfl) (fun _ _ _ _ _ h => h) (show w2.drew.cell? _ = _ from HX2.out.c (j := 8) rfl) ?_
  iterate 9
    refine Heads.take ?_ (by rfl) ?_ ?_
    rotate_left
    · rintro w' hw0
      go_simp
      try with_reducible rfl
    simp only [Act.put, List.setIfInBounds_toArray, List.set_cons_zero, List.set_cons_succ]
  refine Heads.done ?_
  have HDd := Lib.hid (HD2.out.below ((Below.refl _ w2).drew))
  have HAd := fun hc => addR_O L.B w2.drew (deskC L d) HDd.out.box rfl rfl HDd.out.ob nm hc (by unfold maxLen; omega) (by have := HDd.out.ok.many; have := HDd.out.ob.nl; unfold onm at this; rw [List.length_map] at this; omega) (show lo ≤ w2.drew.heap.size from by show lo ≤ w2.heap.size; omega) nm t
  have HAdd := Lib.hid (HAd HCON.out)
  clear HAd
  go_wp2_with fail
  refine HAdd.out.mono ?_
  rintro e w3 ⟨rfl, v', hR3, hH3, hbut3, hloc3⟩
  have HD3 := Lib.hid (HDd.out.toDskB.addOb hR3 hH3 hbut3)
  have HB3 := Lib.hid hbut3
  have HL3 := Lib.hid hloc3
  have hs3 : w2.heap.size ≤ w3.heap.size := hbut3.size
  clear hR3 hH3 hbut3 hloc3
  go_wp2_with fail
  refine NoPanic.normal ?_
  have q5 : w3.cell? ⟨L.B, 5, none⟩ = some (.int .i64 d.evs) := HD3.out.box.c (j := 5) rfl
  have f5 : w3.frozen? ⟨L.B, 5, none⟩ = false := HD3.out.box.frozen 5
  have hu := up1 hfew
  go_wp2
  go_end0
  have hO := only_set w3 L.B 5 (.int .i64 ((d.evs : Int) + 1))
  have hbx := HD3.out.box.set 5 (.int .i64 ((d.evs : Int) + 1))
  have hD4 := HD3.out.counts (d.evs + 1) d.ops hO hbx
  refine ⟨rfl, _, ⟨hD4, HOK.out, by show d.evs + 1 ≤ 100; omega⟩, rfl, ?_, ?_⟩
  · have b1 : But (foot L) w w2.drew := but_of_below hbb.drew
    refine (b1.trans (HB3.out.wider ?_)).trans (But.only hO (.inl rfl))
    rintro i (rfl | rfl | e)
    · exact .inl rfl
    · exact .inr (.inl (.inl rfl))
    · exact .inr (.inl (.inr (.inl e)))
  · have hz : w.heap.size ≤ w2.drew.heap.size := hbb.drew.size
    rintro k (rfl | (rfl | e | e) | hf)
    · exact .inl (.inl rfl)
    · exact .inl (.inr (.inl (.inl rfl)))
    · rcases HL3.out with e' | ⟨g, e', hg⟩
      · exact .inl (.inr (.inl (.inr (.inl (e' ▸ e)))))
      · have eg : g = k := Option.some.inj (e'.symm.trans e)
        exact .inr (by omega)
    · rcases List.mem_append.1 e with e | e
      · exact .inl (.inr (.inl (.inr (.inr e))))
      · have : k = w2.drew.heap.size := by simpa using e
        exact .inr (by omega)
    · exact .inl (.inr (.inr hf))

set_option maxHeartbeats 4000000 in
theorem take_be {lo : Nat} {L : Lay} {d : Dk} (kd : Int) (nm ob : ByteArray) (o1 o2 o3 o4 o5 t n : Int) (l : List Int) (A : Option Addr) (c : Nat) (w : World) (h : Dsk w lo L d) (hfew : d.evs < 100) (hlo : lo ≤ w.heap.size) (hnm : nm.size ≤ 8000) (hag : agE d ⟨kd, nm, ob, (o1, o2, o3, o4, o5), t, n, l⟩ = 0) (hk : kd = 2) :
    Calls Tryz.prog 51 #[.pointer (some ⟨L.B, 0, none⟩), .agg #[.int .i64 kd, .string nm, .string ob, .int .i64 o1, .int .i64 o2, .int .i64 o3, .int .i64 o4, .int .i64 o5, .int .i64 t, .int .i64 n, .slice A l.length c]] w (TookPost lo L (takeD d ⟨kd, nm, ob, (o1, o2, o3, o4, o5), t, n, l⟩) w) := by
  have HOK := Lib.hid (h.ok.add hag)
  have HEV := Lib.hid (take_evs d ⟨kd, nm, ob, (o1, o2, o3, o4, o5), t, n, l⟩)
  have hb1 := alloc1 w (.cells #[.int .i64 kd, .string nm, .string ob, .int .i64 o1, .int .i64 o2, .int .i64 o3, .int .i64 o4, .int .i64 o5, .int .i64 t, .int .i64 n, .slice A l.length c] 55)
  have HX := Lib.hid (Holds.new w 55 #[.int .i64 kd, .string nm, .string ob, .int .i64 o1, .int .i64 o2, .int .i64 o3, .int .i64 o4, .int .i64 o5, .int .i64 t, .int .i64 n, .slice A l.length c])
  have HD1 := Lib.hid (h.below hb1)
  have HLT := Lib.hid h.lt
  have HT := Lib.hid (show takeD d ⟨kd, nm, ob, (o1, o2, o3, o4, o5), t, n, l⟩ = ⟨d.obs, d.trs ++ [⟨nm, d.evs, -1, false, 0⟩], d.evs + 1, d.ops⟩ by unfold takeD; rw [if_neg (by simp [hk]), if_pos hk])
  have hcon : (tnm d).contains nm = false := by
    obtain ⟨_, h1⟩ := thenE_zero.1 hag
    obtain ⟨_, h2⟩ := thenE_zero.1 h1
    obtain ⟨h2, _⟩ := thenE_zero.1 h2
    unfold askB at h2
    rw [if_neg (by simp [hk])] at h2
    cases k3 : (lfAt d nm).isSome with
    | true => rw [show (lfAt d (Ev.nm ⟨kd, nm, ob, (o1, o2, o3, o4, o5), t, n, l⟩)).isSome = (lfAt d nm).isSome from rfl, k3] at h2; cases h2
    | false =>
      have := not_mem_find k3
      cases hc : (tnm d).contains nm with
      | false => rfl
      | true => exact absurd (List.contains_iff_mem.1 hc) this
  have HCON := Lib.hid hcon
  rw [HT.out] at HOK HEV ⊢
  subst hk
  clear h hag hcon
  go_enter Tryz.func51, Tryz.ntmps51
  go_upto_region 1 with fail
  generalize w.alloc (.cells #[.int .i64 2, .string nm, .string ob, .int .i64 o1, .int .i64 o2, .int .i64 o3, .int .i64 o4, .int .i64 o5, .int .i64 t, .int .i64 n, .slice A l.length c] 55) = W1 at *
  have hl1 := HX.out.lt
  obtain ⟨x0, x1, x2, x3, x4, x5, x6, x7, x8, x9, x10, y0⟩ := ev_cells HX.out
  go_wp2_with fail
  refine (clone_any nm _ (by omega)).mono ?_
  rintro e w2 ⟨rfl, hb2⟩
  have HX2 := Lib.hid (HX.out.below hb2 hl1)
  have HD2 := Lib.hid (HD1.out.below hb2)
  have hbb := nxt hb1 hb2 hb1.size
  have hs2 := hb2.size
  have hs1 := hb1.size
  have c5 : w2.cell? ⟨L.B, 5, none⟩ = some (.int .i64 d.evs) := HD2.out.box.c (j := 5) rfl
  clear x0 x1 x2 x3 x4 x5 x6 x7 x8 x9 x10 y0
  go_wp2_with fail
  refine wp_region_noPanic ?_
  refine wp_region_heads [true, true, true, true, true, true, true, true, true, true] (fun W' => W'.cell? ⟨L.B, 5, none⟩ = some (.int .i64 d.evs)) (by kernel_rfl) (by kernel_rfl) (fun _ _ _ _ _ h => h) (show w2.drew.cell? _ = _ from c5) ?_
  iterate 10
    refine Heads.take ?_ (by rfl) ?_ ?_
    rotate_left
    · rintro w' hw0
      go_simp
      try with_reducible rfl
    simp only [Act.put, List.setIfInBounds_toArray, List.set_cons_zero, List.set_cons_succ]
  refine Heads.done ?_
  have HDd := Lib.hid (HD2.out.below ((Below.refl _ w2).drew))
  have HAd := fun hc => addR_L L.B w2.drew (deskC L d) HDd.out.box rfl rfl HDd.out.tr nm hc (by unfold maxLen; omega) (by have := HDd.out.ok.many; have := HDd.out.tr.nl; unfold tnm at this; rw [List.length_map] at this; omega) (show lo ≤ w2.drew.heap.size from by show lo ≤ w2.heap.size; omega) nm d.evs (-1) false 0
  have HAdd := Lib.hid (HAd HCON.out)
  clear HAd c5
  go_wp2_with fail
  refine HAdd.out.mono ?_
  rintro e w3 ⟨rfl, v', hR3, hH3, hbut3, hloc3⟩
  have HD3 := Lib.hid (HDd.out.toDskB.addLf (x := ⟨nm, d.evs, -1, false, 0⟩) hR3 hH3 hbut3)
  have HB3 := Lib.hid hbut3
  have HL3 := Lib.hid hloc3
  have hs3 : w2.heap.size ≤ w3.heap.size := hbut3.size
  clear hR3 hH3 hbut3 hloc3
  go_wp2_with fail
  refine NoPanic.normal ?_
  have q5 : w3.cell? ⟨L.B, 5, none⟩ = some (.int .i64 d.evs) := HD3.out.box.c (j := 5) rfl
  have f5 : w3.frozen? ⟨L.B, 5, none⟩ = false := HD3.out.box.frozen 5
  have hu := up1 hfew
  go_wp2
  go_end0
  have hO := only_set w3 L.B 5 (.int .i64 ((d.evs : Int) + 1))
  have hbx := HD3.out.box.set 5 (.int .i64 ((d.evs : Int) + 1))
  have hD4 := HD3.out.counts (d.evs + 1) d.ops hO hbx
  refine ⟨rfl, _, ⟨hD4, HOK.out, by show d.evs + 1 ≤ 100; omega⟩, rfl, ?_, ?_⟩
  · have b1 : But (foot L) w w2.drew := but_of_below hbb.drew
    refine (b1.trans (HB3.out.wider ?_)).trans (But.only hO (.inl rfl))
    rintro i (rfl | rfl | e)
    · exact .inl rfl
    · exact .inr (.inr (.inl rfl))
    · exact .inr (.inr (.inr (.inl e)))
  · have hz : w.heap.size ≤ w2.drew.heap.size := hbb.drew.size
    rintro k (rfl | hf | rfl | e | e)
    · exact .inl (.inl rfl)
    · exact .inl (.inr (.inl hf))
    · exact .inl (.inr (.inr (.inl rfl)))
    · rcases HL3.out with e' | ⟨g, e', hg⟩
      · exact .inl (.inr (.inr (.inr (.inl (e' ▸ e)))))
      · have eg : g = k := Option.some.inj (e'.symm.trans e)
        exact .inr (by omega)
    · rcases List.mem_append.1 e with e | e
      · exact .inl (.inr (.inr (.inr (.inr e))))
      · have : k = w2.drew.heap.size := by simpa using e
        exact .inr (by omega)
end Go.Proofs.YtpdbkjnaicjfdaaGreatDoor
