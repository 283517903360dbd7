/- Contracts of the layer history: take, Add. -/
import Derived.Test.YtpdbkjnaicjfdaaGreatDoorHsD
import Derived.Test.YtpdbkjnaicjfdaaGreatDoorHsF
namespace Go.Proofs.YtpdbkjnaicjfdaaGreatDoor
open Go.RowKit Go.Maps
set_option linter.unusedVariables false
set_option maxRecDepth 100000

theorem dtake_any {lo : Nat} {L : Lay} {d : Dk} (e : Ev) (A : Option Addr) (c : Nat) (w : World) (h : Dsk w lo L d) (hfew : d.evs < 100) (hlo : lo ≤ w.heap.size) (hnm : e.nm.size ≤ 8000) (hag : agE d e = 0) :
    Calls Tryz.prog 51 #[.pointer (some ⟨L.B, 0, none⟩), evV e A c] w (TookPost lo L (takeD d e) w) := by
  obtain ⟨kd, nm, ob, ⟨o1, o2, o3, o4, o5⟩, t, n, l⟩ := e
  have hk := ev_kind (thenE_zero.1 hag).1
  dsimp only at hk hnm
  by_cases k1 : kd = 1
  · exact take_ob kd nm ob o1 o2 o3 o4 o5 t n l A c w h hfew hlo hnm hag k1
  · by_cases k2 : kd = 2
    · exact take_be kd nm ob o1 o2 o3 o4 o5 t n l A c w h hfew hlo hnm hag k2
    · by_cases k3 : kd = 3
      · exact take_op kd nm ob o1 o2 o3 o4 o5 t n l A c w h hfew hlo hnm hag k3
      · by_cases k4 : kd = 4
        · exact take_en4 kd nm ob o1 o2 o3 o4 o5 t n l A c w h hfew hlo hnm hag k4
        · exact take_en5 kd nm ob o1 o2 o3 o4 o5 t n l A c w h hfew hlo hnm hag (by omega)
def AddedPost (lo : Nat) (L : Lay) (d : Dk) (e : Ev) (w : World) (x : Ending) (w' : World) : Prop :=
  x = .returned (.int .i64 (agE d e)) ∧ ∃ L', Dsk w' lo L' (addD d e) ∧ L'.B = L.B ∧ But (foot L) w w' ∧ ∀ k, foot L' k → foot L k ∨ w.heap.size ≤ k

set_option maxHeartbeats 2000000 in
theorem dadd_any {lo : Nat} {L : Lay} {d : Dk} (e : Ev) (A : Option Addr) (c : Nat) (w : World) (h : Dsk w lo L d) (hfew : d.evs < 100) (hlo : lo ≤ w.heap.size) (hA : Ints w A e.st.2.2) (hlen : e.st.2.2.length ≤ 20000) (hnm : e.nm.size ≤ 8000) (hob : e.ob.size ≤ 8000) :
    Calls Tryz.prog 26 #[.pointer (some ⟨L.B, 0, none⟩), evV e A c] w (AddedPost lo L d e w) := by
  have HAG := fun W hW hI => against_any (lo := lo) (L := L) (d := d) e A c W hW hI hlen hnm hob
  have HTK := fun W hW hl => dtake_any (lo := lo) (L := L) (d := d) e A c W hW hfew hl hnm
  have HM := fun (W : World) (hW : Dsk W lo L d) => made_yes L.B W (desk_cells hW).1
  unfold AddedPost
  have HAD := Lib.hid (show addD d e = if agE d e = 0 then takeD d e else d from rfl)
  generalize addD d e = ad at *
  generalize hF : agE d e = F at *
  have HF := Lib.hid hF
  clear hF
  generalize takeD d e = td at *
  obtain ⟨kd, nm, ob, ⟨o1, o2, o3, o4, o5⟩, t, n, l⟩ := e
  have HA := Lib.hid hA
  have HD := Lib.hid h
  have hb1 := alloc1 w (.cells (evC ⟨kd, nm, ob, (o1, o2, o3, o4, o5), t, n, l⟩ A c) 55)
  unfold evV evC at *
  dsimp only at HA hb1 HAG HTK HF ⊢
  clear h hA hlen hnm hob
  go_enter Tryz.func26, Tryz.ntmps26
  go_upto_region 1 with fail
  have HX := Lib.hid (Holds.new w 55 #[.int .i64 kd, .string nm, .string ob, .int .i64 o1, .int .i64 o2, .int .i64 o3, .int .i64 o4, .int .i64 o5, .int .i64 t, .int .i64 n, .slice A l.length c])
  have HD1 := Lib.hid (HD.out.below hb1)
  have HA1 := Lib.hid (HA.out.below hb1)
  generalize w.alloc (.cells #[.int .i64 kd, .string nm, .string ob, .int .i64 o1, .int .i64 o2, .int .i64 o3, .int .i64 o4, .int .i64 o5, .int .i64 t, .int .i64 n, .slice A l.length c] 55) = W1 at *
  have hl1 := HX.out.lt
  obtain ⟨x0, x1, x2, x3, x4, x5, x6, x7, x8, x9, x10, y0⟩ := ev_cells HX.out
  go_wp2_with fail
  refine (HM _ HD1.out).mono ?_
  rintro e w1 ⟨rfl, rfl⟩
  go_wp2_with fail
  refine (HAG _ HD1.out HA1.out).mono ?_
  rintro e w2 ⟨rfl, hb2⟩
  have HX2 := Lib.hid (HX.out.below hb2 hl1)
  have HD2 := Lib.hid (HD1.out.below hb2)
  have hbb := nxt hb1 hb2 hb1.size
  have hs2 := hbb.size
  clear x0 x1 x2 x3 x4 x5 x6 x7 x8 x9 x10 y0
  obtain ⟨x0, x1, x2, x3, x4, x5, x6, x7, x8, x9, x10, y0⟩ := ev_cells HX2.out
  by_cases hz : F = 0
  · subst hz
    have e1 : ad = td := by rw [HAD.out, if_pos rfl]
    subst e1
    have HT := HTK w2 HD2.out (by omega) rfl
    go_wp2_with fail
    refine HT.mono ?_
    rintro e w3 ⟨rfl, L', hD3, hB3, hbut, hft⟩
    go_wp2
    go_ret
    exact ⟨rfl, L', hD3, hB3, (but_of_below hbb).trans hbut, fun k hk => (hft k hk).imp id (fun h => by omega)⟩
  · have hzz : (F == 0) = false := beq_eq_false_iff_ne.2 hz
    have e1 : ad = d := by rw [HAD.out, if_neg hz]
    subst e1
    clear hz
    go_wp2
    go_ret
    exact ⟨rfl, L, HD2.out, rfl, but_of_below hbb, fun k hk => .inl hk⟩
/-- A desk that is none. -/
theorem dadd_no (p : Option Addr) (h0 : ∀ w : World, (∀ b, p = some b → w.cell? b = some (.pointer none)) → Calls Tryz.prog 48 #[.pointer p] w (Made false w)) (e : Ev) (A : Option Addr) (c : Nat) (w : World) (hp : ∀ b, p = some b → w.cell? b = some (.pointer none)) :
    Calls Tryz.prog 26 #[.pointer p, evV e A c] w (Says (.int .i64 1) w) := by
  obtain ⟨kd, nm, ob, ⟨o1, o2, o3, o4, o5⟩, t, n, l⟩ := e
  have hb1 := alloc1 w (.cells (evC ⟨kd, nm, ob, (o1, o2, o3, o4, o5), t, n, l⟩ A c) 55)
  have H0 := h0 _ (fun b hb => (World.cell?_alloc_lt w (.cells (evC ⟨kd, nm, ob, (o1, o2, o3, o4, o5), t, n, l⟩ A c) 55) b (World.block_lt_of_cell? _ _ (hp b hb))).trans (hp b hb))
  unfold evV evC at *
  dsimp only at hb1 H0 ⊢
  clear hp h0
  go_enter Tryz.func26, Tryz.ntmps26
  go_wp2_with fail
  refine H0.mono ?_
  rintro e w1 ⟨rfl, rfl⟩
  go_wp2
  go_ret
  exact ⟨rfl, hb1⟩
end Go.Proofs.YtpdbkjnaicjfdaaGreatDoor
