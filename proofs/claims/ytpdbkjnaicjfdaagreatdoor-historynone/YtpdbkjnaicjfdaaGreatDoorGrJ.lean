/- Contracts of the layer grammar: Check, Line. -/
import Derived.Test.YtpdbkjnaicjfdaaGreatDoorGrI
import Derived.Test.YtpdbkjnaicjfdaaGreatDoorGrK
import Derived.Test.YtpdbkjnaicjfdaaGreatDoorGsr
namespace Go.Proofs.YtpdbkjnaicjfdaaGreatDoor
open Go.RowKit Go.Maps
set_option linter.unusedVariables false
set_option maxRecDepth 100000

set_option maxHeartbeats 4000000 in
theorem check_ev (e : Ev) (A : Option Addr) (c : Nat) (w : World) (hA : Ints w A e.st.2.2) (hlen : e.st.2.2.length ≤ 20000) (hnm : e.nm.size ≤ 8000) (hob : e.ob.size ≤ 8000) :
    Calls Tryz.prog 96 #[evV e A c] w (Says (.int .i64 (evE e)) w) := by
  obtain ⟨kd, nm, ob, ⟨o1, o2, o3, o4, o5⟩, t, n, l⟩ := e
  dsimp only at hA hlen hnm hob
  have HBR := fun W hA => bare_any ⟨kd, nm, ob, (o1, o2, o3, o4, o5), t, n, l⟩ A c W hA hlen
  unfold evV evC at *
  dsimp only at HBR ⊢
  have hB0 := alloc1 w (.cells #[.int .i64 kd, .string nm, .string ob, .int .i64 o1, .int .i64 o2, .int .i64 o3, .int .i64 o4, .int .i64 o5, .int .i64 t, .int .i64 n, .slice A l.length c] 55)
  have HX := Lib.hid (Holds.new w 55 #[.int .i64 kd, .string nm, .string ob, .int .i64 o1, .int .i64 o2, .int .i64 o3, .int .i64 o4, .int .i64 o5, .int .i64 t, .int .i64 n, .slice A l.length c])
  have HN := fun W => nm_check_any nm W hnm
  have HF := fun W hA => first_check t n A c l W hA hlen
  have HD := fun W => done_check ob (o1, o2, o3, o4, o5) W hob
  unfold stV at HF
  unfold opVT opV at HD
  dsimp only at HD
  have HA := Lib.hid hA
  have hx : evE ⟨kd, nm, ob, (o1, o2, o3, o4, o5), t, n, l⟩ = if kd < 1 ∨ 5 < kd then 6 else if bareB ⟨kd, nm, ob, (o1, o2, o3, o4, o5), t, n, l⟩ = false then 2 else if nm_checkE nm ≠ 0 then nm_checkE nm else if kd = 1 then firstE (t, n, l) else if kd = 3 then doneE ob (o1, o2, o3, o4, o5) else 0 := rfl
  obtain ⟨F, hF⟩ : ∃ F, evE ⟨kd, nm, ob, (o1, o2, o3, o4, o5), t, n, l⟩ = F := ⟨_, rfl⟩
  rw [hF] at hx ⊢
  generalize bareB ⟨kd, nm, ob, (o1, o2, o3, o4, o5), t, n, l⟩ = bb at *
  generalize nm_checkE nm = ne at *
  generalize firstE (t, n, l) = fe at *
  generalize doneE ob (o1, o2, o3, o4, o5) = de at *
  have HXF := Lib.hid hx
  clear hx hF hA hlen hnm hob
  go_enter Tryz.func96, Tryz.ntmps96
  go_upto_region 1 with fail
  generalize w.alloc (.cells #[.int .i64 kd, .string nm, .string ob, .int .i64 o1, .int .i64 o2, .int .i64 o3, .int .i64 o4, .int .i64 o5, .int .i64 t, .int .i64 n, .slice A l.length c] 55) = W0 at *
  obtain ⟨x0, x1, x2, x3, x4, x5, x6, x7, x8, x9, x10, y0⟩ := ev_cells HX.out
  by_cases hk : kd < 1 ∨ 5 < kd
  · have e1 : F = 6 := by rw [HXF.out, if_pos hk]
    subst e1
    by_cases hk1 : kd < 1
    · have k1 : decide (kd < 1) = true := decide_eq_true hk1
      go_wp2
      go_ret
      exact ⟨rfl, hB0⟩
    · have k1 : decide (kd < 1) = false := decide_eq_false hk1
      have hk5 : 5 < kd := by omega
      have k5 : decide (5 < kd) = true := decide_eq_true hk5
      go_wp2
      go_ret
      exact ⟨rfl, hB0⟩
  · have hk1 : ¬ kd < 1 := fun h => hk (.inl h)
    have hk5 : ¬ 5 < kd := fun h => hk (.inr h)
    have k1 : decide (kd < 1) = false := decide_eq_false hk1
    have k5 : decide (5 < kd) = false := decide_eq_false hk5
    have e1 : F = if bb = false then 2 else if ne ≠ 0 then ne else if kd = 1 then fe else if kd = 3 then de else 0 := by rw [HXF.out, if_neg hk]
    have E1 := Lib.hid e1
    clear e1 hk
    go_wp2_with fail
    refine (HBR _ (HA.out.below hB0)).mono ?_
    rintro e w1 ⟨rfl, hB1⟩
    have hB2 := nxt hB0 hB1 hB0.size
    have HX1 := Lib.hid (HX.out.below hB1 HX.out.lt)
    clear x0 x1 x2 x3 x4 x5 x6 x7 x8 x9 x10 y0
    obtain ⟨x0, x1, x2, x3, x4, x5, x6, x7, x8, x9, x10, y0⟩ := ev_cells HX1.out
    cases bb
    · have e2 : F = 2 := E1.out
      subst e2
      go_wp2
      go_ret
      exact ⟨rfl, hB2⟩
    · have e2 : F = if ne ≠ 0 then ne else if kd = 1 then fe else if kd = 3 then de else 0 := E1.out
      have E2 := Lib.hid e2
      clear e2
      go_wp2_with fail
      refine (HN _).mono ?_
      rintro e w3 ⟨rfl, hB3⟩
      have hB4 := nxt hB2 hB3 hB2.size
      have HX2 := Lib.hid (HX1.out.below hB3 HX1.out.lt)
      clear x0 x1 x2 x3 x4 x5 x6 x7 x8 x9 x10 y0
      obtain ⟨x0, x1, x2, x3, x4, x5, x6, x7, x8, x9, x10, y0⟩ := ev_cells HX2.out
      by_cases hne : ne = 0
      · subst hne
        have e3 : F = if kd = 1 then fe else if kd = 3 then de else 0 := by rw [E2.out, if_neg (by simp)]
        have E3 := Lib.hid e3
        clear e3
        by_cases h1 : kd = 1
        · subst h1
          have e4 : F = fe := by rw [E3.out, if_pos rfl]
          subst e4
          go_wp2_with fail
          refine (HF _ (HA.out.below hB4)).mono ?_
          rintro e w5 ⟨rfl, hB5⟩
          go_wp2
          go_ret
          exact ⟨rfl, nxt hB4 hB5 hB4.size⟩
        · have hb1 : (kd == 1) = false := by simpa using h1
          by_cases h3 : kd = 3
          · subst h3
            have e4 : F = de := by rw [E3.out, if_neg (by decide), if_pos rfl]
            subst e4
            go_wp2_with fail
            refine (HD _).mono ?_
            rintro e w5 ⟨rfl, hB5⟩
            go_wp2
            go_ret
            exact ⟨rfl, nxt hB4 hB5 hB4.size⟩
          · have hb3 : (kd == 3) = false := by simpa using h3
            have e4 : F = 0 := by rw [E3.out, if_neg h1, if_neg h3]
            subst e4
            go_wp2
            go_ret
            exact ⟨rfl, hB4⟩
      · have hnn : (ne != 0) = true := by rw [bne_iff_ne]; exact hne
        have e3 : F = ne := by rw [E2.out, if_pos hne]
        subst e3
        go_wp2
        go_ret
        exact ⟨rfl, hB4⟩
end Go.Proofs.YtpdbkjnaicjfdaaGreatDoor
