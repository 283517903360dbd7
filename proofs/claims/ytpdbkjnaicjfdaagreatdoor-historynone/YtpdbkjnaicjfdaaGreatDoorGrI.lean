/- Contracts of the layer grammar: bare, checkFirst, checkDone, Check. -/
import Derived.Test.YtpdbkjnaicjfdaaGreatDoorGrD
import Derived.Test.YtpdbkjnaicjfdaaGreatDoorGp
namespace Go.Proofs.YtpdbkjnaicjfdaaGreatDoor
open Go.RowKit Go.Maps
set_option linter.unusedVariables false
set_option maxRecDepth 100000

theorem sameOp_T (a1 a2 a3 a4 a5 b1 b2 b3 b4 b5 : Int) : sameOp a1 a2 a3 a4 a5 b1 b2 b3 b4 b5 = sameOpT (a1, a2, a3, a4, a5) (b1, b2, b3, b4, b5) := by simp [sameOp, sameOpT, Bool.and_assoc]

theorem ints_nil (w : World) (A : Option Addr) : Ints w A [] := fun h => absurd h (by simp)
theorem em_list : emB.toList = [] := by rw [Go.ByteArray.toList_eq]; rfl
theorem em_iff (s : ByteArray) : s.toList = [] ↔ s = emB := by
  rw [Go.ByteArray.toList_eq]
  constructor
  · intro h
    apply ByteArray.ext
    apply Array.ext'
    exact h
  · rintro rfl; rfl
theorem em_beq (s : ByteArray) : s.toList.isEmpty = (s == emB) := by
  rw [Bool.eq_iff_iff, List.isEmpty_iff, em_iff, beq_iff_eq]

set_option maxHeartbeats 4000000 in
theorem bare_any (e : Ev) (A : Option Addr) (c : Nat) (w : World) (hA : Ints w A e.st.2.2) (hlen : e.st.2.2.length ≤ 20000) :
    Calls Tryz.prog 110 #[evV e A c] w (Says (.bool (bareB e)) w) := by
  obtain ⟨kd, nm, ob, ⟨o1, o2, o3, o4, o5⟩, t, n, l⟩ := e
  dsimp only at hA hlen
  unfold evV evC
  dsimp only
  have hB0 := alloc1 w (.cells #[.int .i64 kd, .string nm, .string ob, .int .i64 o1, .int .i64 o2, .int .i64 o3, .int .i64 o4, .int .i64 o5, .int .i64 t, .int .i64 n, .slice A l.length c] 55)
  have HX := Lib.hid (Holds.new w 55 #[.int .i64 kd, .string nm, .string ob, .int .i64 o1, .int .i64 o2, .int .i64 o3, .int .i64 o4, .int .i64 o5, .int .i64 t, .int .i64 n, .slice A l.length c])
  have HS := Lib.hid (same_st t n 0 0 A none c 0 l [] _ (hA.below hB0) (ints_nil _ _) hlen)
  have heq := fun w => eql_op w o1 o2 o3 o4 o5 0 0 0 0 0
  rw [sameOp_T] at heq
  have hbare : bareB ⟨kd, nm, ob, (o1, o2, o3, o4, o5), t, n, l⟩ = (((kd == 1) || stzB (t, n, l)) && ((kd == 3) || ((ob == emB) && sameOpT (o1, o2, o3, o4, o5) (0, 0, 0, 0, 0)))) := rfl
  rw [hbare]
  have hst : sameB t n l 0 0 [] = stzB (t, n, l) := rfl
  rw [hst] at HS
  generalize stzB (t, n, l) = sb at *
  generalize sameOpT (o1, o2, o3, o4, o5) (0, 0, 0, 0, 0) = ob2 at *
  have hem := em_beq ob
  have hemi := em_iff ob
  obtain ⟨be, hbe⟩ : ∃ be, (ob == emB) = be := ⟨_, rfl⟩
  rw [hbe] at hem ⊢
  have hl : ob.toList = [] ∧ be = true ∨ ¬ ob.toList = [] ∧ be = false := by
    by_cases hh : ob = emB
    · exact .inl ⟨hemi.2 hh, by rw [← hbe]; simp [hh]⟩
    · exact .inr ⟨fun e => hh (hemi.1 e), by rw [← hbe]; simpa using hh⟩
  clear hem hemi hbe hbare hst
  go_enter Tryz.func110, Tryz.ntmps110
  go_upto_region 1 with fail
  generalize w.alloc (.cells #[.int .i64 kd, .string nm, .string ob, .int .i64 o1, .int .i64 o2, .int .i64 o3, .int .i64 o4, .int .i64 o5, .int .i64 t, .int .i64 n, .slice A l.length c] 55) = W0 at *
  obtain ⟨x0, x1, x2, x3, x4, x5, x6, x7, x8, x9, x10, y0⟩ := ev_cells HX.out
  cases hk1 : (kd == 1)
  · have k1 : (kd != 1) = true := by simp [bne, hk1]
    have HK1 := Lib.hid hk1
    clear hk1
    go_wp2_with fail
    refine HS.out.mono ?_
    rintro e w1 ⟨rfl, hB1⟩
    have HX1 := HX.out.below hB1 HX.out.lt
    have hB2 := nxt hB0 hB1 hB0.size
    clear x0 x1 x2 x3 x4 x5 x6 x7 x8 x9 x10 y0
    obtain ⟨x0, x1, x2, x3, x4, x5, x6, x7, x8, x9, x10, y0⟩ := ev_cells HX1
    clear HX1
    cases sb
    · go_wp2
      go_ret
      exact ⟨by rw [HK1.out]; rfl, hB2⟩
    · cases hk3 : (kd == 3)
      · rcases hl with ⟨h1, rfl⟩ | ⟨h1, rfl⟩
        · go_wp2
          go_ret
          exact ⟨by rw [HK1.out, hk3]; rfl, hB2⟩
        · go_wp2
          go_ret
          exact ⟨by rw [HK1.out, hk3]; rfl, hB2⟩
      · go_wp2
        go_ret
        exact ⟨by rw [HK1.out, hk3]; rfl, hB2⟩
  · have hkd : kd = 1 := by simpa using hk1
    subst hkd
    have k1 : ((1 : Int) != 1) = false := rfl
    have k3 : ((1 : Int) == 3) = false := rfl
    clear hk1
    rcases hl with ⟨h1, rfl⟩ | ⟨h1, rfl⟩
    · go_wp2
      go_ret
      exact ⟨rfl, hB0⟩
    · go_wp2
      go_ret
      exact ⟨rfl, hB0⟩

def StInts (w : World) (A : Option Addr) (s : StT) : Prop := Ints w A s.2.2
theorem first_check (t n : Int) (A : Option Addr) (c : Nat) (l : List Int) (w : World) (hA : Ints w A l) (hlen : l.length ≤ 20000) :
    Calls Tryz.prog 112 #[stV t n A l.length c] w (Says (.int .i64 (firstE (t, n, l))) w) := by
  have hB0 := alloc1 w (.cells #[.int .i64 t, .int .i64 n, .slice A l.length c] 53)
  have HX := Lib.hid (Holds.new w 53 #[.int .i64 t, .int .i64 n, .slice A l.length c])
  have HC := Lib.hid (st_check_any t n A c l _ (hA.below hB0) hlen)
  unfold stV at *
  have hf : firstE (t, n, l) = if st_checkE t n l ≠ 0 then st_checkE t n l else if 1000 < l.length then 4 else 0 := rfl
  obtain ⟨F, hF⟩ : ∃ F, firstE (t, n, l) = F := ⟨_, rfl⟩
  rw [hF] at hf ⊢
  generalize st_checkE t n l = er at *
  have HF := Lib.hid hf
  clear hf hF
  go_enter Tryz.func112, Tryz.ntmps112
  go_wp2_with fail
  generalize w.alloc (.cells #[.int .i64 t, .int .i64 n, .slice A l.length c] 53) = W0 at *
  refine HC.out.mono ?_
  rintro e w1 ⟨rfl, hB1⟩
  have HX1 := HX.out.below hB1 HX.out.lt
  have x0 := HX1.c (j := 0) rfl
  have x1 := HX1.c (j := 1) rfl
  have x2 := HX1.c (j := 2) rfl
  have hB2 := nxt hB0 hB1 hB0.size
  by_cases he : er = 0
  · subst he
    go_wp2_with fail
    refine (many_any t n A c l.length _).mono ?_
    rintro e w2 ⟨rfl, rfl⟩
    by_cases hm : 1000 < l.length
    · have hd : decide ((1000 : Int) < (l.length : Int)) = true := decide_eq_true (by omega)
      rw [hd]
      have e1 : F = 4 := by rw [HF.out, if_neg (by simp), if_pos hm]
      have E1 := Lib.hid e1
      clear e1
      go_wp2
      go_ret
      rw [E1.out]
      exact ⟨rfl, nxt hB2 (alloc1 _ _) hB2.size⟩
    · have hd : decide ((1000 : Int) < (l.length : Int)) = false := decide_eq_false (by omega)
      rw [hd]
      have e1 : F = 0 := by rw [HF.out, if_neg (by simp), if_neg hm]
      have E1 := Lib.hid e1
      clear e1
      go_wp2
      go_ret
      rw [E1.out]
      exact ⟨rfl, nxt hB2 (alloc1 _ _) hB2.size⟩
  · have hn : (er != 0) = true := by rw [bne_iff_ne]; exact he
    have e1 : F = er := by rw [HF.out, if_pos he]
    have E1 := Lib.hid e1
    clear e1
    go_wp2
    go_ret
    rw [E1.out]
    exact ⟨rfl, hB2⟩

theorem done_check (ob : ByteArray) (o : OpT) (w : World) (hs : ob.size ≤ 8000) :
    Calls Tryz.prog 113 #[.string ob, opVT o] w (Says (.int .i64 (doneE ob o)) w) := by
  obtain ⟨o1, o2, o3, o4, o5⟩ := o
  unfold opVT
  dsimp only
  have hB0 := alloc1 w (.cells #[.int .i64 o1, .int .i64 o2, .int .i64 o3, .int .i64 o4, .int .i64 o5] 50)
  have HX := Lib.hid (Holds.new w 50 #[.int .i64 o1, .int .i64 o2, .int .i64 o3, .int .i64 o4, .int .i64 o5])
  have HC := fun W => nm_check_any ob W hs
  have HO := fun W => op_check_any o1 o2 o3 o4 o5 W
  unfold opV at *
  have hf : doneE ob (o1, o2, o3, o4, o5) = if nm_checkE ob ≠ 0 then nm_checkE ob else checkP o1 o2 o3 o4 o5 := rfl
  obtain ⟨F, hF⟩ : ∃ F, doneE ob (o1, o2, o3, o4, o5) = F := ⟨_, rfl⟩
  rw [hF] at hf ⊢
  generalize nm_checkE ob = er at *
  generalize checkP o1 o2 o3 o4 o5 = ep at *
  have HF := Lib.hid hf
  clear hf hF
  go_enter Tryz.func113, Tryz.ntmps113
  go_wp2_with fail
  generalize w.alloc (.cells #[.int .i64 o1, .int .i64 o2, .int .i64 o3, .int .i64 o4, .int .i64 o5] 50) = W0 at *
  refine (HC _).mono ?_
  rintro e w1 ⟨rfl, hB1⟩
  have HX1 := HX.out.below hB1 HX.out.lt
  have x0 := HX1.c (j := 0) rfl
  have x1 := HX1.c (j := 1) rfl
  have x2 := HX1.c (j := 2) rfl
  have x3 := HX1.c (j := 3) rfl
  have x4 := HX1.c (j := 4) rfl
  have hB2 := nxt hB0 hB1 hB0.size
  by_cases he : er = 0
  · subst he
    have e1 : F = ep := by rw [HF.out, if_neg (by simp)]
    subst e1
    go_wp2_with fail
    refine (HO _).mono ?_
    rintro e w2 ⟨rfl, hB3⟩
    go_wp2
    go_ret
    exact ⟨rfl, nxt hB2 hB3 hB2.size⟩
  · have hn : (er != 0) = true := by rw [bne_iff_ne]; exact he
    have e1 : F = er := by rw [HF.out, if_pos he]
    subst e1
    go_wp2
    go_ret
    exact ⟨rfl, hB2⟩
end Go.Proofs.YtpdbkjnaicjfdaaGreatDoor
