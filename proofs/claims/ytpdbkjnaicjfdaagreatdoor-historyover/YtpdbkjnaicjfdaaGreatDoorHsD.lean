/- Why an event may not follow: what the first asker says that says no. -/
import Derived.Test.YtpdbkjnaicjfdaaGreatDoorHsC
import Derived.LoopN
namespace Go.Proofs.YtpdbkjnaicjfdaaGreatDoor
open Go.RowKit Go.Maps
set_option linter.unusedVariables false
set_option maxRecDepth 100000

set_option maxHeartbeats 4000000 in
theorem against_any {lo : Nat} {L : Lay} {d : Dk} (e : Ev) (A : Option Addr) (c : Nat) (w : World) (h : Dsk w lo L d) (hA : Ints w A e.st.2.2) (hlen : e.st.2.2.length ≤ 20000) (hnm : e.nm.size ≤ 8000) (hob : e.ob.size ≤ 8000) :
    Calls Tryz.prog 50 #[.pointer (some ⟨L.B, 0, none⟩), evV e A c] w (Says (.int .i64 (agE d e)) w) := by
  have H1 := fun W hW => askF_any L.B e A c W hW hlen hnm hob
  have H2 := fun W hW => askO_any (L := L) (d := d) (lo := lo) e A c W hW hnm hob
  have H3 := fun W hW => askB_any (L := L) (d := d) (lo := lo) e A c W hW hnm hob
  have H4 := fun W hW => askR_any (L := L) (d := d) (lo := lo) e A c W hW hnm hob
  have H5 := fun W hW => askP_any (L := L) (d := d) (lo := lo) e A c W hW hnm hob
  have HF := Lib.hid (show agE d e = thenE (evE e) (thenE (askO d e) (thenE (askB d e) (thenE (askR d e) (askP d e)))) from rfl)
  obtain ⟨F, hF⟩ : ∃ F, agE d e = F := ⟨_, rfl⟩
  rw [hF] at HF ⊢
  generalize evE e = r1 at *
  generalize askO d e = r2 at *
  generalize askB d e = r3 at *
  generalize askR d e = r4 at *
  generalize askP d e = r5 at *
  obtain ⟨kd, nm, ob, ⟨o1, o2, o3, o4, o5⟩, t, n, l⟩ := e
  have HA := Lib.hid hA
  have HD := Lib.hid h
  have hb1 := alloc1 w (.cells (evC ⟨kd, nm, ob, (o1, o2, o3, o4, o5), t, n, l⟩ A c) 55)
  unfold evV evC at *
  dsimp only at HA hb1 H1 H2 H3 H4 H5 ⊢
  clear hF h hA hlen hnm hob
  go_enter Tryz.func50, Tryz.ntmps50
  go_upto_region 1 with fail
  have HX := Lib.hid (Holds.new w 55 #[.int .i64 kd, .string nm, .string ob, .int .i64 o1, .int .i64 o2, .int .i64 o3, .int .i64 o4, .int .i64 o5, .int .i64 t, .int .i64 n, .slice A l.length c])
  have HD1 := Lib.hid (HD.out.below hb1)
  have HA1 := Lib.hid (HA.out.below hb1)
  generalize w.alloc (.cells #[.int .i64 kd, .string nm, .string ob, .int .i64 o1, .int .i64 o2, .int .i64 o3, .int .i64 o4, .int .i64 o5, .int .i64 t, .int .i64 n, .slice A l.length c] 55) = W1 at *
  have hl1 := HX.out.lt
  have hb2 := alloc1 W1 (.cells #[.func (.func 70) #[.pointer (some ⟨L.B, 0, none⟩)] #[], .func (.func 71) #[.pointer (some ⟨L.B, 0, none⟩)] #[], .func (.func 72) #[.pointer (some ⟨L.B, 0, none⟩)] #[], .func (.func 73) #[.pointer (some ⟨L.B, 0, none⟩)] #[], .func (.func 74) #[.pointer (some ⟨L.B, 0, none⟩)] #[]] 46)
  have HS2 := Lib.hid (Holds.new W1 46 #[.func (.func 70) #[.pointer (some ⟨L.B, 0, none⟩)] #[], .func (.func 71) #[.pointer (some ⟨L.B, 0, none⟩)] #[], .func (.func 72) #[.pointer (some ⟨L.B, 0, none⟩)] #[], .func (.func 73) #[.pointer (some ⟨L.B, 0, none⟩)] #[], .func (.func 74) #[.pointer (some ⟨L.B, 0, none⟩)] #[]])
  have HX2 := Lib.hid (HX.out.below hb2 hl1)
  have HD2 := Lib.hid (HD1.out.below hb2)
  have HA2 := Lib.hid (HA1.out.below hb2)
  have hBB := nxt hb1 hb2 hb1.size
  go_wp2_with fail
  generalize W1.alloc (.cells #[.func (.func 70) #[.pointer (some ⟨L.B, 0, none⟩)] #[], .func (.func 71) #[.pointer (some ⟨L.B, 0, none⟩)] #[], .func (.func 72) #[.pointer (some ⟨L.B, 0, none⟩)] #[], .func (.func 73) #[.pointer (some ⟨L.B, 0, none⟩)] #[], .func (.func 74) #[.pointer (some ⟨L.B, 0, none⟩)] #[]] 46) = W2 at *
  generalize W1.heap.size = z2 at *
  refine wp_loop_rounds 6 ?_
  rw [rounds_succ]
  obtain ⟨x0, x1, x2, x3, x4, x5, x6, x7, x8, x9, x10, y0⟩ := ev_cells HX2.out
  have s0 := HS2.out.c (j := 0) rfl
  have HK := H1 _ HA2.out
  by_cases hr : r1 = 0
  rotate_left
  · have hrr : (r1 == 0) = false := beq_eq_false_iff_ne.2 hr
    have e1 : F = r1 := by rw [HF.out]; simp [thenE, hr]
    subst e1
    clear HF hr
    go_wp2_with fail
    refine HK.mono ?_
    rintro e w1 ⟨rfl, hB⟩
    go_wp2
    go_ret
    exact ⟨rfl, nxt hBB hB hBB.size⟩
  subst hr
  have HF := Lib.hid (show F = _ from HF.out.trans rfl)
  go_wp2_with fail
  refine HK.mono ?_
  rintro e w1 ⟨rfl, hB⟩
  have hBB := nxt hBB hB hBB.size
  have HX2 := Lib.hid (HX2.out.below hB HX2.out.lt)
  have HS2 := Lib.hid (HS2.out.below hB HS2.out.lt)
  have HD2 := Lib.hid (HD2.out.below hB)
  have HA2 := Lib.hid (HA2.out.below hB)
  clear HK s0 x0 x1 x2 x3 x4 x5 x6 x7 x8 x9 x10 y0 hB
  go_wp2_with fail
  rw [rounds_succ]
  obtain ⟨x0, x1, x2, x3, x4, x5, x6, x7, x8, x9, x10, y0⟩ := ev_cells HX2.out
  have s0 := HS2.out.c (j := 1) rfl
  have HK := H2 _ HD2.out
  by_cases hr : r2 = 0
  rotate_left
  · have hrr : (r2 == 0) = false := beq_eq_false_iff_ne.2 hr
    have e1 : F = r2 := by rw [HF.out]; simp [thenE, hr]
    subst e1
    clear HF hr
    go_wp2_with fail
    refine HK.mono ?_
    rintro e w1 ⟨rfl, hB⟩
    go_wp2
    go_ret
    exact ⟨rfl, nxt hBB hB hBB.size⟩
  subst hr
  have HF := Lib.hid (show F = _ from HF.out.trans rfl)
  go_wp2_with fail
  refine HK.mono ?_
  rintro e w1 ⟨rfl, hB⟩
  have hBB := nxt hBB hB hBB.size
  have HX2 := Lib.hid (HX2.out.below hB HX2.out.lt)
  have HS2 := Lib.hid (HS2.out.below hB HS2.out.lt)
  have HD2 := Lib.hid (HD2.out.below hB)
  have HA2 := Lib.hid (HA2.out.below hB)
  clear HK s0 x0 x1 x2 x3 x4 x5 x6 x7 x8 x9 x10 y0 hB
  go_wp2_with fail
  rw [rounds_succ]
  obtain ⟨x0, x1, x2, x3, x4, x5, x6, x7, x8, x9, x10, y0⟩ := ev_cells HX2.out
  have s0 := HS2.out.c (j := 2) rfl
  have HK := H3 _ HD2.out
  by_cases hr : r3 = 0
  rotate_left
  · have hrr : (r3 == 0) = false := beq_eq_false_iff_ne.2 hr
    have e1 : F = r3 := by rw [HF.out]; simp [thenE, hr]
    subst e1
    clear HF hr
    go_wp2_with fail
    refine HK.mono ?_
    rintro e w1 ⟨rfl, hB⟩
    go_wp2
    go_ret
    exact ⟨rfl, nxt hBB hB hBB.size⟩
  subst hr
  have HF := Lib.hid (show F = _ from HF.out.trans rfl)
  go_wp2_with fail
  refine HK.mono ?_
  rintro e w1 ⟨rfl, hB⟩
  have hBB := nxt hBB hB hBB.size
  have HX2 := Lib.hid (HX2.out.below hB HX2.out.lt)
  have HS2 := Lib.hid (HS2.out.below hB HS2.out.lt)
  have HD2 := Lib.hid (HD2.out.below hB)
  have HA2 := Lib.hid (HA2.out.below hB)
  clear HK s0 x0 x1 x2 x3 x4 x5 x6 x7 x8 x9 x10 y0 hB
  go_wp2_with fail
  rw [rounds_succ]
  obtain ⟨x0, x1, x2, x3, x4, x5, x6, x7, x8, x9, x10, y0⟩ := ev_cells HX2.out
  have s0 := HS2.out.c (j := 3) rfl
  have HK := H4 _ HD2.out
  by_cases hr : r4 = 0
  rotate_left
  · have hrr : (r4 == 0) = false := beq_eq_false_iff_ne.2 hr
    have e1 : F = r4 := by rw [HF.out]; simp [thenE, hr]
    subst e1
    clear HF hr
    go_wp2_with fail
    refine HK.mono ?_
    rintro e w1 ⟨rfl, hB⟩
    go_wp2
    go_ret
    exact ⟨rfl, nxt hBB hB hBB.size⟩
  subst hr
  have HF := Lib.hid (show F = _ from HF.out.trans rfl)
  go_wp2_with fail
  refine HK.mono ?_
  rintro e w1 ⟨rfl, hB⟩
  have hBB := nxt hBB hB hBB.size
  have HX2 := Lib.hid (HX2.out.below hB HX2.out.lt)
  have HS2 := Lib.hid (HS2.out.below hB HS2.out.lt)
  have HD2 := Lib.hid (HD2.out.below hB)
  have HA2 := Lib.hid (HA2.out.below hB)
  clear HK s0 x0 x1 x2 x3 x4 x5 x6 x7 x8 x9 x10 y0 hB
  go_wp2_with fail
  rw [rounds_succ]
  obtain ⟨x0, x1, x2, x3, x4, x5, x6, x7, x8, x9, x10, y0⟩ := ev_cells HX2.out
  have s0 := HS2.out.c (j := 4) rfl
  have HK := H5 _ HD2.out
  by_cases hr : r5 = 0
  rotate_left
  · have hrr : (r5 == 0) = false := beq_eq_false_iff_ne.2 hr
    have e1 : F = r5 := by rw [HF.out]; simp [thenE]
    subst e1
    clear HF hr
    go_wp2_with fail
    refine HK.mono ?_
    rintro e w1 ⟨rfl, hB⟩
    go_wp2
    go_ret
    exact ⟨rfl, nxt hBB hB hBB.size⟩
  subst hr
  have HF := Lib.hid (show F = _ from HF.out.trans rfl)
  go_wp2_with fail
  refine HK.mono ?_
  rintro e w1 ⟨rfl, hB⟩
  have hBB := nxt hBB hB hBB.size
  have HX2 := Lib.hid (HX2.out.below hB HX2.out.lt)
  have HS2 := Lib.hid (HS2.out.below hB HS2.out.lt)
  have HD2 := Lib.hid (HD2.out.below hB)
  have HA2 := Lib.hid (HA2.out.below hB)
  clear HK s0 x0 x1 x2 x3 x4 x5 x6 x7 x8 x9 x10 y0 hB
  go_wp2_with fail
  rw [rounds_succ]
  have e1 : F = 0 := HF.out
  subst e1
  go_wp2
  go_ret
  exact ⟨rfl, hBB⟩
end Go.Proofs.YtpdbkjnaicjfdaaGreatDoor
