/- SetHas. (Written by wip/tools/gen_seo.py.) -/
import Derived.Test.YtmhnnilfehankaaSeO
namespace Go.Proofs.Ytmhnnilfehankaa
open Go.RowKit Go.Maps
set_option linter.unusedVariables false

set_option maxHeartbeats 4000000 in
theorem has5t (A : Option Addr) (c : Nat) (l : List Int) (kind x o : Int) (m : List Int) (bo bh : Bool) (w : World) (hA : Ints w A l) (hl : l.length ≤ 60) (hm : m.length ≤ 100) (hrm : Rise m)
    (hkind : ∀ W : World, Calls Try.prog 28 #[.int .i64 kind, .int .i64 4] W fun e w' => e = .returned (.int .i64 2) ∧ w' = W)
    (HAP : ∀ A c W, Ints W A (risL l) → (risL l).length ≤ c → Calls Try.prog 10 #[stV 2 0 A (risL l).length c, .int .i64 5, .int .i64 x, .int .i64 0] W (SetPost 2 m 2 1 0 W))
    (h1 : isIn (risL l) x = true) (h2 : isIn m x = true) (h3 : isIn (risL l) o = bo) (h4 : isIn m o = bh) (h5 : (risL l == m) = true) (h6 : o ≠ x → bh = bo) :
    Calls Try.prog 6 #[.slice A l.length c, .int .i64 kind, .int .i64 x, .int .i64 o] w (Yes w) := by
  have hrl := ris_len l
  have hrr := ris_rise l
  have HRI := fun W (h : Below w.heap.size w W) => risen_any A c l W (hA.below h) (by omega)
  have F1 := fun W B d (h : Ints W B (risL l)) => xfind_any B d (risL l) x W h (by omega) hrr
  have F2 := fun W B d (h : Ints W B m) => xfind_any B d m x W h (by omega) hrm
  have F3 := fun W B d (h : Ints W B (risL l)) => xfind_any B d (risL l) o W h (by omega) hrr
  have F4 := fun W B d (h : Ints W B m) => xfind_any B d m o W h (by omega) hrm
  unfold foundV at F1 F2 F3 F4
  rw [h1] at F1
  rw [h2] at F2
  rw [h3] at F3
  rw [h4] at F4
  have HSA := fun W B d B' d' (h : Ints W B (risL l)) (h' : Ints W B' m) => samest_any 2 0 2 0 B B' d d' (risL l) m W h h' (by omega)
  rw [show sameB 2 0 (risL l) 2 0 m = true by unfold sameB; rw [h5]; rfl] at HSA
  have HCK := fun W B d (h : Ints W B m) => check_any 2 0 B d m W h (by omega)
  rw [show checkE 2 0 m = 0 by simp [checkE, fitsB, (rise_iff m).2 hrm]] at HCK
  unfold RowPost at HRI
  unfold SetPost at HAP
  unfold stV at *
  generalize low (risL l) x = n1 at *
  generalize low m x = n2 at *
  generalize low (risL l) o = n3 at *
  generalize low m o = n4 at *
  have hss : (risL l).length ≤ 60 := by omega
  have HM := Lib.hid hm
  generalize risL l = s at *
  have HB : Hid ((o != x) = true ∧ bh = bo ∨ (o != x) = false) := by
    by_cases e : o = x
    · exact .inr (by rw [e]; simp)
    · exact .inl ⟨by rw [bne_iff_ne]; exact e, h6 e⟩
  have hkb := known_bool bo
  skip
  clear hA hrr h1 h2 h3 h4 h5 h6 hrl hrm hm
  go_enter Try.func6, Try.ntmps6
  go_wp2_with fail
  refine (known_all _).mono ?_
  rintro e w1 ⟨rfl, hB1⟩
  go_wp2_with fail
  refine (HRI w1 hB1).mono ?_
  rintro e w2 ⟨S, cS, rfl, hS, hB2⟩
  have hfit := row_fit hS
  have IS2 := Lib.hid (own_ints rfl hS)
  have hC2 := onto hB1 hB2
  clear hS
  go_wp2_with fail
  refine (of_any _ _ _ _).mono ?_
  rintro e w3 ⟨rfl, hB3⟩
  unfold stV
  have hB3a := alloc1 w3 (.cells #[.int .i64 2, .int .i64 0, .slice S s.length cS] 24)
  have BS := Lib.hid (Holds.new w3 24 #[.int .i64 2, .int .i64 0, .slice S s.length cS])
  have IS3 := Lib.hid ((IS2.out.below hB3).below hB3a)
  have hC3 := onto (onto hC2 hB3) hB3a
  go_wp2_with fail
  generalize w3.alloc (.cells #[.int .i64 2, .int .i64 0, .slice S s.length cS] 24) = W3 at *
  refine (hkind W3).mono ?_
  rintro e w3' ⟨rfl, rfl⟩
  have q0 := BS.out.c (j := 0) rfl
  have q1 := BS.out.c (j := 1) rfl
  have q2 := BS.out.c (j := 2) rfl
  go_wp2_with fail
  refine (HAP S cS w3' IS3.out hfit).mono ?_
  rintro e w4 ⟨Y, cY, rfl, hY, hB4⟩
  unfold retV
  have hB4a : Below w4.heap.size w4 ((w4.alloc (.cells #[.int .i64 2, .int .i64 0, .slice Y m.length cY] 24)).alloc (.cells #[.int .i64 2, .int .i64 1] 28)) := (alloc1 w4 _).alloc (by simp) _
  have BY := Lib.hid ((Holds.new w4 24 #[.int .i64 2, .int .i64 0, .slice Y m.length cY]).alloc (.cells #[.int .i64 2, .int .i64 1] 28))
  have BR := Lib.hid (Holds.new (w4.alloc (.cells #[.int .i64 2, .int .i64 0, .slice Y m.length cY] 24)) 28 #[.int .i64 2, .int .i64 1])
  rw [World.size_alloc] at BR
  have BS4 := Lib.hid ((BS.out.below hB4 BS.out.lt).below hB4a (BS.out.below hB4 BS.out.lt).lt)
  have IS4 := Lib.hid ((IS3.out.below hB4).below hB4a)
  have IY4 := Lib.hid ((own_ints rfl hY).below hB4a)
  have hC4 := onto (onto hC3 hB4) hB4a
  clear hY q0 q1 q2 hB4 hB4a
  go_wp2_with fail
  generalize (w4.alloc (.cells #[.int .i64 2, .int .i64 0, .slice Y m.length cY] 24)).alloc (.cells #[.int .i64 2, .int .i64 1] 28) = W4 at *
  refine (HCK W4 Y cY IY4.out).mono ?_
  rintro e w5 ⟨rfl, hB5⟩
  have hC5 := onto hC4 hB5
  have hD5 := hB5
  have BS5 := BS4.out.below hD5 BS4.out.lt
  have BY5 := BY.out.below hD5 BY.out.lt
  have y50 := BY5.c (j := 0) rfl
  have s52 := BS5.c (j := 2) rfl
  clear BS5 BY5
  go_wp2_with fail
  refine (F1 w5 S cS (IS4.out.below hD5)).mono ?_
  rintro e w6 ⟨rfl, hB6⟩
  have hC6 := onto hC5 hB6
  have hD6 := onto hD5 hB6
  have BY6 := BY.out.below hD6 BY.out.lt
  have y62 := BY6.c (j := 2) rfl
  clear y50 s52 BY6
  go_wp2_with fail
  refine (F2 w6 Y cY (IY4.out.below hD6)).mono ?_
  rintro e w7 ⟨rfl, hB7⟩
  have hC7 := onto hC6 hB7
  have hD7 := onto hD6 hB7
  have BS7 := BS4.out.below hD7 BS4.out.lt
  have s72 := BS7.c (j := 2) rfl
  clear y62 BS7
  go_wp2_with fail
  refine (F3 w7 S cS (IS4.out.below hD7)).mono ?_
  rintro e w8 ⟨rfl, hB8⟩
  have hC8 := onto hC7 hB8
  have hD8 := onto hD7 hB8
  have BY8 := BY.out.below hD8 BY.out.lt
  have y82 := BY8.c (j := 2) rfl
  clear s72 BY8
  go_wp2_with fail
  refine (F4 w8 Y cY (IY4.out.below hD8)).mono ?_
  rintro e w9 ⟨rfl, hB9⟩
  have hC9 := onto hC8 hB9
  have hD9 := onto hD8 hB9
  have BS9 := BS4.out.below hD9 BS4.out.lt
  have BY9 := BY.out.below hD9 BY.out.lt
  have s90 := BS9.c (j := 0) rfl
  have s91 := BS9.c (j := 1) rfl
  have s92 := BS9.c (j := 2) rfl
  have y90 := BY9.c (j := 0) rfl
  have y91 := BY9.c (j := 1) rfl
  have y92 := BY9.c (j := 2) rfl
  clear y82 BS9 BY9
  have HS9 := HSA w9 S cS Y cY (IS4.out.below hD9) (IY4.out.below hD9)
  have BR9 := fun W (h : Below w9.heap.size w9 W) => BR.out.below (onto hD9 h) BR.out.lt
  have BS10 := fun W (h : Below w9.heap.size w9 W) => BS4.out.below (onto hD9 h) BS4.out.lt
  have HBR := Lib.hid BR9
  have HBS := Lib.hid BS10
  clear BR9 BS10
  rcases HB.out with ⟨hox, hbb⟩ | hox
  · subst hbb
    clear HB
    go_wp2_with fail
    refine HS9.mono ?_
    rintro e w10 ⟨rfl, hB10⟩
    have BR10 := HBR.out w10 hB10
    have BS10 := HBS.out w10 hB10
    have r101 := BR10.c (j := 1) rfl
    have s102 := BS10.c (j := 2) rfl
    clear s90 s91 s92 y90 y91 y92 HS9 BR10 BS10
    go_wp2
    go_ret
    exact ⟨rfl, onto hC9 hB10⟩
  · clear HB
    go_wp2_with fail
    refine HS9.mono ?_
    rintro e w10 ⟨rfl, hB10⟩
    have BR10 := HBR.out w10 hB10
    have BS10 := HBS.out w10 hB10
    have r101 := BR10.c (j := 1) rfl
    have s102 := BS10.c (j := 2) rfl
    clear s90 s91 s92 y90 y91 y92 HS9 BR10 BS10
    go_wp2
    go_ret
    exact ⟨rfl, onto hC9 hB10⟩
set_option maxHeartbeats 4000000 in
theorem has5f (A : Option Addr) (c : Nat) (l : List Int) (kind x o : Int) (m : List Int) (bo bh : Bool) (w : World) (hA : Ints w A l) (hl : l.length ≤ 60) (hm : m.length ≤ 100) (hrm : Rise m)
    (hkind : ∀ W : World, Calls Try.prog 28 #[.int .i64 kind, .int .i64 4] W fun e w' => e = .returned (.int .i64 2) ∧ w' = W)
    (HAP : ∀ A c W, Ints W A (risL l) → (risL l).length ≤ c → Calls Try.prog 10 #[stV 2 0 A (risL l).length c, .int .i64 5, .int .i64 x, .int .i64 0] W (SetPost 2 m 2 0 0 W))
    (h1 : isIn (risL l) x = false) (h2 : isIn m x = false) (h3 : isIn (risL l) o = bo) (h4 : isIn m o = bh) (h5 : (risL l == m) = true) (h6 : o ≠ x → bh = bo) :
    Calls Try.prog 6 #[.slice A l.length c, .int .i64 kind, .int .i64 x, .int .i64 o] w (Yes w) := by
  have hrl := ris_len l
  have hrr := ris_rise l
  have HRI := fun W (h : Below w.heap.size w W) => risen_any A c l W (hA.below h) (by omega)
  have F1 := fun W B d (h : Ints W B (risL l)) => xfind_any B d (risL l) x W h (by omega) hrr
  have F2 := fun W B d (h : Ints W B m) => xfind_any B d m x W h (by omega) hrm
  have F3 := fun W B d (h : Ints W B (risL l)) => xfind_any B d (risL l) o W h (by omega) hrr
  have F4 := fun W B d (h : Ints W B m) => xfind_any B d m o W h (by omega) hrm
  unfold foundV at F1 F2 F3 F4
  rw [h1] at F1
  rw [h2] at F2
  rw [h3] at F3
  rw [h4] at F4
  have HSA := fun W B d B' d' (h : Ints W B (risL l)) (h' : Ints W B' m) => samest_any 2 0 2 0 B B' d d' (risL l) m W h h' (by omega)
  rw [show sameB 2 0 (risL l) 2 0 m = true by unfold sameB; rw [h5]; rfl] at HSA
  have HCK := fun W B d (h : Ints W B m) => check_any 2 0 B d m W h (by omega)
  rw [show checkE 2 0 m = 0 by simp [checkE, fitsB, (rise_iff m).2 hrm]] at HCK
  unfold RowPost at HRI
  unfold SetPost at HAP
  unfold stV at *
  generalize low (risL l) x = n1 at *
  generalize low m x = n2 at *
  generalize low (risL l) o = n3 at *
  generalize low m o = n4 at *
  have hss : (risL l).length ≤ 60 := by omega
  have HM := Lib.hid hm
  generalize risL l = s at *
  have HB : Hid ((o != x) = true ∧ bh = bo ∨ (o != x) = false) := by
    by_cases e : o = x
    · exact .inr (by rw [e]; simp)
    · exact .inl ⟨by rw [bne_iff_ne]; exact e, h6 e⟩
  have hkb := known_bool bo
  skip
  clear hA hrr h1 h2 h3 h4 h5 h6 hrl hrm hm
  go_enter Try.func6, Try.ntmps6
  go_wp2_with fail
  refine (known_all _).mono ?_
  rintro e w1 ⟨rfl, hB1⟩
  go_wp2_with fail
  refine (HRI w1 hB1).mono ?_
  rintro e w2 ⟨S, cS, rfl, hS, hB2⟩
  have hfit := row_fit hS
  have IS2 := Lib.hid (own_ints rfl hS)
  have hC2 := onto hB1 hB2
  clear hS
  go_wp2_with fail
  refine (of_any _ _ _ _).mono ?_
  rintro e w3 ⟨rfl, hB3⟩
  unfold stV
  have hB3a := alloc1 w3 (.cells #[.int .i64 2, .int .i64 0, .slice S s.length cS] 24)
  have BS := Lib.hid (Holds.new w3 24 #[.int .i64 2, .int .i64 0, .slice S s.length cS])
  have IS3 := Lib.hid ((IS2.out.below hB3).below hB3a)
  have hC3 := onto (onto hC2 hB3) hB3a
  go_wp2_with fail
  generalize w3.alloc (.cells #[.int .i64 2, .int .i64 0, .slice S s.length cS] 24) = W3 at *
  refine (hkind W3).mono ?_
  rintro e w3' ⟨rfl, rfl⟩
  have q0 := BS.out.c (j := 0) rfl
  have q1 := BS.out.c (j := 1) rfl
  have q2 := BS.out.c (j := 2) rfl
  go_wp2_with fail
  refine (HAP S cS w3' IS3.out hfit).mono ?_
  rintro e w4 ⟨Y, cY, rfl, hY, hB4⟩
  unfold retV
  have hB4a : Below w4.heap.size w4 ((w4.alloc (.cells #[.int .i64 2, .int .i64 0, .slice Y m.length cY] 24)).alloc (.cells #[.int .i64 2, .int .i64 0] 28)) := (alloc1 w4 _).alloc (by simp) _
  have BY := Lib.hid ((Holds.new w4 24 #[.int .i64 2, .int .i64 0, .slice Y m.length cY]).alloc (.cells #[.int .i64 2, .int .i64 0] 28))
  have BR := Lib.hid (Holds.new (w4.alloc (.cells #[.int .i64 2, .int .i64 0, .slice Y m.length cY] 24)) 28 #[.int .i64 2, .int .i64 0])
  rw [World.size_alloc] at BR
  have BS4 := Lib.hid ((BS.out.below hB4 BS.out.lt).below hB4a (BS.out.below hB4 BS.out.lt).lt)
  have IS4 := Lib.hid ((IS3.out.below hB4).below hB4a)
  have IY4 := Lib.hid ((own_ints rfl hY).below hB4a)
  have hC4 := onto (onto hC3 hB4) hB4a
  clear hY q0 q1 q2 hB4 hB4a
  go_wp2_with fail
  generalize (w4.alloc (.cells #[.int .i64 2, .int .i64 0, .slice Y m.length cY] 24)).alloc (.cells #[.int .i64 2, .int .i64 0] 28) = W4 at *
  refine (HCK W4 Y cY IY4.out).mono ?_
  rintro e w5 ⟨rfl, hB5⟩
  have hC5 := onto hC4 hB5
  have hD5 := hB5
  have BS5 := BS4.out.below hD5 BS4.out.lt
  have BY5 := BY.out.below hD5 BY.out.lt
  have y50 := BY5.c (j := 0) rfl
  have s52 := BS5.c (j := 2) rfl
  clear BS5 BY5
  go_wp2_with fail
  refine (F1 w5 S cS (IS4.out.below hD5)).mono ?_
  rintro e w6 ⟨rfl, hB6⟩
  have hC6 := onto hC5 hB6
  have hD6 := onto hD5 hB6
  have BY6 := BY.out.below hD6 BY.out.lt
  have y62 := BY6.c (j := 2) rfl
  clear y50 s52 BY6
  go_wp2_with fail
  refine (F2 w6 Y cY (IY4.out.below hD6)).mono ?_
  rintro e w7 ⟨rfl, hB7⟩
  have hC7 := onto hC6 hB7
  have hD7 := onto hD6 hB7
  have BS7 := BS4.out.below hD7 BS4.out.lt
  have s72 := BS7.c (j := 2) rfl
  clear y62 BS7
  go_wp2_with fail
  refine (F3 w7 S cS (IS4.out.below hD7)).mono ?_
  rintro e w8 ⟨rfl, hB8⟩
  have hC8 := onto hC7 hB8
  have hD8 := onto hD7 hB8
  have BY8 := BY.out.below hD8 BY.out.lt
  have y82 := BY8.c (j := 2) rfl
  clear s72 BY8
  go_wp2_with fail
  refine (F4 w8 Y cY (IY4.out.below hD8)).mono ?_
  rintro e w9 ⟨rfl, hB9⟩
  have hC9 := onto hC8 hB9
  have hD9 := onto hD8 hB9
  have BS9 := BS4.out.below hD9 BS4.out.lt
  have BY9 := BY.out.below hD9 BY.out.lt
  have s90 := BS9.c (j := 0) rfl
  have s91 := BS9.c (j := 1) rfl
  have s92 := BS9.c (j := 2) rfl
  have y90 := BY9.c (j := 0) rfl
  have y91 := BY9.c (j := 1) rfl
  have y92 := BY9.c (j := 2) rfl
  clear y82 BS9 BY9
  have HS9 := HSA w9 S cS Y cY (IS4.out.below hD9) (IY4.out.below hD9)
  have BR9 := fun W (h : Below w9.heap.size w9 W) => BR.out.below (onto hD9 h) BR.out.lt
  have BS10 := fun W (h : Below w9.heap.size w9 W) => BS4.out.below (onto hD9 h) BS4.out.lt
  have HBR := Lib.hid BR9
  have HBS := Lib.hid BS10
  clear BR9 BS10
  rcases HB.out with ⟨hox, hbb⟩ | hox
  · subst hbb
    clear HB
    go_wp2_with fail
    refine HS9.mono ?_
    rintro e w10 ⟨rfl, hB10⟩
    have BR10 := HBR.out w10 hB10
    have BS10 := HBS.out w10 hB10
    have r101 := BR10.c (j := 1) rfl
    have s102 := BS10.c (j := 2) rfl
    clear s90 s91 s92 y90 y91 y92 HS9 BR10 BS10
    go_wp2
    go_ret
    exact ⟨rfl, onto hC9 hB10⟩
  · clear HB
    go_wp2_with fail
    refine HS9.mono ?_
    rintro e w10 ⟨rfl, hB10⟩
    have BR10 := HBR.out w10 hB10
    have BS10 := HBS.out w10 hB10
    have r101 := BR10.c (j := 1) rfl
    have s102 := BS10.c (j := 2) rfl
    clear s90 s91 s92 y90 y91 y92 HS9 BR10 BS10
    go_wp2
    go_ret
    exact ⟨rfl, onto hC9 hB10⟩
set_option maxHeartbeats 4000000 in
theorem has6t (A : Option Addr) (c : Nat) (l : List Int) (kind x o : Int) (m : List Int) (bo bh : Bool) (w : World) (hA : Ints w A l) (hl : l.length ≤ 60) (hm : m.length ≤ 100) (hrm : Rise m)
    (hkind : ∀ W : World, Calls Try.prog 28 #[.int .i64 kind, .int .i64 4] W fun e w' => e = .returned (.int .i64 3) ∧ w' = W)
    (HAP : ∀ A c W, Ints W A (risL l) → (risL l).length ≤ c → Calls Try.prog 10 #[stV 2 0 A (risL l).length c, .int .i64 6, .int .i64 0, .int .i64 0] W (SetPost 2 m 2 (risL l).length 0 W))
    (h1 : isIn (risL l) x = true) (h2 : isIn m x = true) (h3 : isIn (risL l) o = bo) (h4 : isIn m o = bh) (h5 : (risL l == m) = true) (h6 : o ≠ x → bh = bo) :
    Calls Try.prog 6 #[.slice A l.length c, .int .i64 kind, .int .i64 x, .int .i64 o] w (Yes w) := by
  have hrl := ris_len l
  have hrr := ris_rise l
  have HRI := fun W (h : Below w.heap.size w W) => risen_any A c l W (hA.below h) (by omega)
  have F1 := fun W B d (h : Ints W B (risL l)) => xfind_any B d (risL l) x W h (by omega) hrr
  have F2 := fun W B d (h : Ints W B m) => xfind_any B d m x W h (by omega) hrm
  have F3 := fun W B d (h : Ints W B (risL l)) => xfind_any B d (risL l) o W h (by omega) hrr
  have F4 := fun W B d (h : Ints W B m) => xfind_any B d m o W h (by omega) hrm
  unfold foundV at F1 F2 F3 F4
  rw [h1] at F1
  rw [h2] at F2
  rw [h3] at F3
  rw [h4] at F4
  have HSA := fun W B d B' d' (h : Ints W B (risL l)) (h' : Ints W B' m) => samest_any 2 0 2 0 B B' d d' (risL l) m W h h' (by omega)
  rw [show sameB 2 0 (risL l) 2 0 m = true by unfold sameB; rw [h5]; rfl] at HSA
  have HCK := fun W B d (h : Ints W B m) => check_any 2 0 B d m W h (by omega)
  rw [show checkE 2 0 m = 0 by simp [checkE, fitsB, (rise_iff m).2 hrm]] at HCK
  unfold RowPost at HRI
  unfold SetPost at HAP
  unfold stV at *
  generalize low (risL l) x = n1 at *
  generalize low m x = n2 at *
  generalize low (risL l) o = n3 at *
  generalize low m o = n4 at *
  have hss : (risL l).length ≤ 60 := by omega
  have HM := Lib.hid hm
  generalize risL l = s at *
  have HB : Hid ((o != x) = true ∧ bh = bo ∨ (o != x) = false) := by
    by_cases e : o = x
    · exact .inr (by rw [e]; simp)
    · exact .inl ⟨by rw [bne_iff_ne]; exact e, h6 e⟩
  have hkb := known_bool bo
  have hsl : ((s.length : Int) == (s.length : Int)) = true := by simp
  clear hA hrr h1 h2 h3 h4 h5 h6 hrl hrm hm
  go_enter Try.func6, Try.ntmps6
  go_wp2_with fail
  refine (known_all _).mono ?_
  rintro e w1 ⟨rfl, hB1⟩
  go_wp2_with fail
  refine (HRI w1 hB1).mono ?_
  rintro e w2 ⟨S, cS, rfl, hS, hB2⟩
  have hfit := row_fit hS
  have IS2 := Lib.hid (own_ints rfl hS)
  have hC2 := onto hB1 hB2
  clear hS
  go_wp2_with fail
  refine (of_any _ _ _ _).mono ?_
  rintro e w3 ⟨rfl, hB3⟩
  unfold stV
  have hB3a := alloc1 w3 (.cells #[.int .i64 2, .int .i64 0, .slice S s.length cS] 24)
  have BS := Lib.hid (Holds.new w3 24 #[.int .i64 2, .int .i64 0, .slice S s.length cS])
  have IS3 := Lib.hid ((IS2.out.below hB3).below hB3a)
  have hC3 := onto (onto hC2 hB3) hB3a
  go_wp2_with fail
  generalize w3.alloc (.cells #[.int .i64 2, .int .i64 0, .slice S s.length cS] 24) = W3 at *
  refine (hkind W3).mono ?_
  rintro e w3' ⟨rfl, rfl⟩
  have q0 := BS.out.c (j := 0) rfl
  have q1 := BS.out.c (j := 1) rfl
  have q2 := BS.out.c (j := 2) rfl
  go_wp2_with fail
  refine (HAP S cS w3' IS3.out hfit).mono ?_
  rintro e w4 ⟨Y, cY, rfl, hY, hB4⟩
  unfold retV
  have hB4a : Below w4.heap.size w4 ((w4.alloc (.cells #[.int .i64 2, .int .i64 0, .slice Y m.length cY] 24)).alloc (.cells #[.int .i64 2, .int .i64 s.length] 28)) := (alloc1 w4 _).alloc (by simp) _
  have BY := Lib.hid ((Holds.new w4 24 #[.int .i64 2, .int .i64 0, .slice Y m.length cY]).alloc (.cells #[.int .i64 2, .int .i64 s.length] 28))
  have BR := Lib.hid (Holds.new (w4.alloc (.cells #[.int .i64 2, .int .i64 0, .slice Y m.length cY] 24)) 28 #[.int .i64 2, .int .i64 s.length])
  rw [World.size_alloc] at BR
  have BS4 := Lib.hid ((BS.out.below hB4 BS.out.lt).below hB4a (BS.out.below hB4 BS.out.lt).lt)
  have IS4 := Lib.hid ((IS3.out.below hB4).below hB4a)
  have IY4 := Lib.hid ((own_ints rfl hY).below hB4a)
  have hC4 := onto (onto hC3 hB4) hB4a
  clear hY q0 q1 q2 hB4 hB4a
  go_wp2_with fail
  generalize (w4.alloc (.cells #[.int .i64 2, .int .i64 0, .slice Y m.length cY] 24)).alloc (.cells #[.int .i64 2, .int .i64 s.length] 28) = W4 at *
  refine (HCK W4 Y cY IY4.out).mono ?_
  rintro e w5 ⟨rfl, hB5⟩
  have hC5 := onto hC4 hB5
  have hD5 := hB5
  have BS5 := BS4.out.below hD5 BS4.out.lt
  have BY5 := BY.out.below hD5 BY.out.lt
  have y50 := BY5.c (j := 0) rfl
  have s52 := BS5.c (j := 2) rfl
  clear BS5 BY5
  go_wp2_with fail
  refine (F1 w5 S cS (IS4.out.below hD5)).mono ?_
  rintro e w6 ⟨rfl, hB6⟩
  have hC6 := onto hC5 hB6
  have hD6 := onto hD5 hB6
  have BY6 := BY.out.below hD6 BY.out.lt
  have y62 := BY6.c (j := 2) rfl
  clear y50 s52 BY6
  go_wp2_with fail
  refine (F2 w6 Y cY (IY4.out.below hD6)).mono ?_
  rintro e w7 ⟨rfl, hB7⟩
  have hC7 := onto hC6 hB7
  have hD7 := onto hD6 hB7
  have BS7 := BS4.out.below hD7 BS4.out.lt
  have s72 := BS7.c (j := 2) rfl
  clear y62 BS7
  go_wp2_with fail
  refine (F3 w7 S cS (IS4.out.below hD7)).mono ?_
  rintro e w8 ⟨rfl, hB8⟩
  have hC8 := onto hC7 hB8
  have hD8 := onto hD7 hB8
  have BY8 := BY.out.below hD8 BY.out.lt
  have y82 := BY8.c (j := 2) rfl
  clear s72 BY8
  go_wp2_with fail
  refine (F4 w8 Y cY (IY4.out.below hD8)).mono ?_
  rintro e w9 ⟨rfl, hB9⟩
  have hC9 := onto hC8 hB9
  have hD9 := onto hD8 hB9
  have BS9 := BS4.out.below hD9 BS4.out.lt
  have BY9 := BY.out.below hD9 BY.out.lt
  have s90 := BS9.c (j := 0) rfl
  have s91 := BS9.c (j := 1) rfl
  have s92 := BS9.c (j := 2) rfl
  have y90 := BY9.c (j := 0) rfl
  have y91 := BY9.c (j := 1) rfl
  have y92 := BY9.c (j := 2) rfl
  clear y82 BS9 BY9
  have HS9 := HSA w9 S cS Y cY (IS4.out.below hD9) (IY4.out.below hD9)
  have BR9 := fun W (h : Below w9.heap.size w9 W) => BR.out.below (onto hD9 h) BR.out.lt
  have BS10 := fun W (h : Below w9.heap.size w9 W) => BS4.out.below (onto hD9 h) BS4.out.lt
  have HBR := Lib.hid BR9
  have HBS := Lib.hid BS10
  clear BR9 BS10
  rcases HB.out with ⟨hox, hbb⟩ | hox
  · subst hbb
    clear HB
    go_wp2_with fail
    refine HS9.mono ?_
    rintro e w10 ⟨rfl, hB10⟩
    have BR10 := HBR.out w10 hB10
    have BS10 := HBS.out w10 hB10
    have r101 := BR10.c (j := 1) rfl
    have s102 := BS10.c (j := 2) rfl
    clear s90 s91 s92 y90 y91 y92 HS9 BR10 BS10
    go_wp2
    go_ret
    exact ⟨rfl, onto hC9 hB10⟩
  · clear HB
    go_wp2_with fail
    refine HS9.mono ?_
    rintro e w10 ⟨rfl, hB10⟩
    have BR10 := HBR.out w10 hB10
    have BS10 := HBS.out w10 hB10
    have r101 := BR10.c (j := 1) rfl
    have s102 := BS10.c (j := 2) rfl
    clear s90 s91 s92 y90 y91 y92 HS9 BR10 BS10
    go_wp2
    go_ret
    exact ⟨rfl, onto hC9 hB10⟩
set_option maxHeartbeats 4000000 in
theorem has6f (A : Option Addr) (c : Nat) (l : List Int) (kind x o : Int) (m : List Int) (bo bh : Bool) (w : World) (hA : Ints w A l) (hl : l.length ≤ 60) (hm : m.length ≤ 100) (hrm : Rise m)
    (hkind : ∀ W : World, Calls Try.prog 28 #[.int .i64 kind, .int .i64 4] W fun e w' => e = .returned (.int .i64 3) ∧ w' = W)
    (HAP : ∀ A c W, Ints W A (risL l) → (risL l).length ≤ c → Calls Try.prog 10 #[stV 2 0 A (risL l).length c, .int .i64 6, .int .i64 0, .int .i64 0] W (SetPost 2 m 2 (risL l).length 0 W))
    (h1 : isIn (risL l) x = false) (h2 : isIn m x = false) (h3 : isIn (risL l) o = bo) (h4 : isIn m o = bh) (h5 : (risL l == m) = true) (h6 : o ≠ x → bh = bo) :
    Calls Try.prog 6 #[.slice A l.length c, .int .i64 kind, .int .i64 x, .int .i64 o] w (Yes w) := by
  have hrl := ris_len l
  have hrr := ris_rise l
  have HRI := fun W (h : Below w.heap.size w W) => risen_any A c l W (hA.below h) (by omega)
  have F1 := fun W B d (h : Ints W B (risL l)) => xfind_any B d (risL l) x W h (by omega) hrr
  have F2 := fun W B d (h : Ints W B m) => xfind_any B d m x W h (by omega) hrm
  have F3 := fun W B d (h : Ints W B (risL l)) => xfind_any B d (risL l) o W h (by omega) hrr
  have F4 := fun W B d (h : Ints W B m) => xfind_any B d m o W h (by omega) hrm
  unfold foundV at F1 F2 F3 F4
  rw [h1] at F1
  rw [h2] at F2
  rw [h3] at F3
  rw [h4] at F4
  have HSA := fun W B d B' d' (h : Ints W B (risL l)) (h' : Ints W B' m) => samest_any 2 0 2 0 B B' d d' (risL l) m W h h' (by omega)
  rw [show sameB 2 0 (risL l) 2 0 m = true by unfold sameB; rw [h5]; rfl] at HSA
  have HCK := fun W B d (h : Ints W B m) => check_any 2 0 B d m W h (by omega)
  rw [show checkE 2 0 m = 0 by simp [checkE, fitsB, (rise_iff m).2 hrm]] at HCK
  unfold RowPost at HRI
  unfold SetPost at HAP
  unfold stV at *
  generalize low (risL l) x = n1 at *
  generalize low m x = n2 at *
  generalize low (risL l) o = n3 at *
  generalize low m o = n4 at *
  have hss : (risL l).length ≤ 60 := by omega
  have HM := Lib.hid hm
  generalize risL l = s at *
  have HB : Hid ((o != x) = true ∧ bh = bo ∨ (o != x) = false) := by
    by_cases e : o = x
    · exact .inr (by rw [e]; simp)
    · exact .inl ⟨by rw [bne_iff_ne]; exact e, h6 e⟩
  have hkb := known_bool bo
  have hsl : ((s.length : Int) == (s.length : Int)) = true := by simp
  clear hA hrr h1 h2 h3 h4 h5 h6 hrl hrm hm
  go_enter Try.func6, Try.ntmps6
  go_wp2_with fail
  refine (known_all _).mono ?_
  rintro e w1 ⟨rfl, hB1⟩
  go_wp2_with fail
  refine (HRI w1 hB1).mono ?_
  rintro e w2 ⟨S, cS, rfl, hS, hB2⟩
  have hfit := row_fit hS
  have IS2 := Lib.hid (own_ints rfl hS)
  have hC2 := onto hB1 hB2
  clear hS
  go_wp2_with fail
  refine (of_any _ _ _ _).mono ?_
  rintro e w3 ⟨rfl, hB3⟩
  unfold stV
  have hB3a := alloc1 w3 (.cells #[.int .i64 2, .int .i64 0, .slice S s.length cS] 24)
  have BS := Lib.hid (Holds.new w3 24 #[.int .i64 2, .int .i64 0, .slice S s.length cS])
  have IS3 := Lib.hid ((IS2.out.below hB3).below hB3a)
  have hC3 := onto (onto hC2 hB3) hB3a
  go_wp2_with fail
  generalize w3.alloc (.cells #[.int .i64 2, .int .i64 0, .slice S s.length cS] 24) = W3 at *
  refine (hkind W3).mono ?_
  rintro e w3' ⟨rfl, rfl⟩
  have q0 := BS.out.c (j := 0) rfl
  have q1 := BS.out.c (j := 1) rfl
  have q2 := BS.out.c (j := 2) rfl
  go_wp2_with fail
  refine (HAP S cS w3' IS3.out hfit).mono ?_
  rintro e w4 ⟨Y, cY, rfl, hY, hB4⟩
  unfold retV
  have hB4a : Below w4.heap.size w4 ((w4.alloc (.cells #[.int .i64 2, .int .i64 0, .slice Y m.length cY] 24)).alloc (.cells #[.int .i64 2, .int .i64 s.length] 28)) := (alloc1 w4 _).alloc (by simp) _
  have BY := Lib.hid ((Holds.new w4 24 #[.int .i64 2, .int .i64 0, .slice Y m.length cY]).alloc (.cells #[.int .i64 2, .int .i64 s.length] 28))
  have BR := Lib.hid (Holds.new (w4.alloc (.cells #[.int .i64 2, .int .i64 0, .slice Y m.length cY] 24)) 28 #[.int .i64 2, .int .i64 s.length])
  rw [World.size_alloc] at BR
  have BS4 := Lib.hid ((BS.out.below hB4 BS.out.lt).below hB4a (BS.out.below hB4 BS.out.lt).lt)
  have IS4 := Lib.hid ((IS3.out.below hB4).below hB4a)
  have IY4 := Lib.hid ((own_ints rfl hY).below hB4a)
  have hC4 := onto (onto hC3 hB4) hB4a
  clear hY q0 q1 q2 hB4 hB4a
  go_wp2_with fail
  generalize (w4.alloc (.cells #[.int .i64 2, .int .i64 0, .slice Y m.length cY] 24)).alloc (.cells #[.int .i64 2, .int .i64 s.length] 28) = W4 at *
  refine (HCK W4 Y cY IY4.out).mono ?_
  rintro e w5 ⟨rfl, hB5⟩
  have hC5 := onto hC4 hB5
  have hD5 := hB5
  have BS5 := BS4.out.below hD5 BS4.out.lt
  have BY5 := BY.out.below hD5 BY.out.lt
  have y50 := BY5.c (j := 0) rfl
  have s52 := BS5.c (j := 2) rfl
  clear BS5 BY5
  go_wp2_with fail
  refine (F1 w5 S cS (IS4.out.below hD5)).mono ?_
  rintro e w6 ⟨rfl, hB6⟩
  have hC6 := onto hC5 hB6
  have hD6 := onto hD5 hB6
  have BY6 := BY.out.below hD6 BY.out.lt
  have y62 := BY6.c (j := 2) rfl
  clear y50 s52 BY6
  go_wp2_with fail
  refine (F2 w6 Y cY (IY4.out.below hD6)).mono ?_
  rintro e w7 ⟨rfl, hB7⟩
  have hC7 := onto hC6 hB7
  have hD7 := onto hD6 hB7
  have BS7 := BS4.out.below hD7 BS4.out.lt
  have s72 := BS7.c (j := 2) rfl
  clear y62 BS7
  go_wp2_with fail
  refine (F3 w7 S cS (IS4.out.below hD7)).mono ?_
  rintro e w8 ⟨rfl, hB8⟩
  have hC8 := onto hC7 hB8
  have hD8 := onto hD7 hB8
  have BY8 := BY.out.below hD8 BY.out.lt
  have y82 := BY8.c (j := 2) rfl
  clear s72 BY8
  go_wp2_with fail
  refine (F4 w8 Y cY (IY4.out.below hD8)).mono ?_
  rintro e w9 ⟨rfl, hB9⟩
  have hC9 := onto hC8 hB9
  have hD9 := onto hD8 hB9
  have BS9 := BS4.out.below hD9 BS4.out.lt
  have BY9 := BY.out.below hD9 BY.out.lt
  have s90 := BS9.c (j := 0) rfl
  have s91 := BS9.c (j := 1) rfl
  have s92 := BS9.c (j := 2) rfl
  have y90 := BY9.c (j := 0) rfl
  have y91 := BY9.c (j := 1) rfl
  have y92 := BY9.c (j := 2) rfl
  clear y82 BS9 BY9
  have HS9 := HSA w9 S cS Y cY (IS4.out.below hD9) (IY4.out.below hD9)
  have BR9 := fun W (h : Below w9.heap.size w9 W) => BR.out.below (onto hD9 h) BR.out.lt
  have BS10 := fun W (h : Below w9.heap.size w9 W) => BS4.out.below (onto hD9 h) BS4.out.lt
  have HBR := Lib.hid BR9
  have HBS := Lib.hid BS10
  clear BR9 BS10
  rcases HB.out with ⟨hox, hbb⟩ | hox
  · subst hbb
    clear HB
    go_wp2_with fail
    refine HS9.mono ?_
    rintro e w10 ⟨rfl, hB10⟩
    have BR10 := HBR.out w10 hB10
    have BS10 := HBS.out w10 hB10
    have r101 := BR10.c (j := 1) rfl
    have s102 := BS10.c (j := 2) rfl
    clear s90 s91 s92 y90 y91 y92 HS9 BR10 BS10
    go_wp2
    go_ret
    exact ⟨rfl, onto hC9 hB10⟩
  · clear HB
    go_wp2_with fail
    refine HS9.mono ?_
    rintro e w10 ⟨rfl, hB10⟩
    have BR10 := HBR.out w10 hB10
    have BS10 := HBS.out w10 hB10
    have r101 := BR10.c (j := 1) rfl
    have s102 := BS10.c (j := 2) rfl
    clear s90 s91 s92 y90 y91 y92 HS9 BR10 BS10
    go_wp2
    go_ret
    exact ⟨rfl, onto hC9 hB10⟩

set_option maxHeartbeats 1000000 in
theorem has_law (A : Option Addr) (c : Nat) (l : List Int) (kind x o : Int) (w : World) (hA : Ints w A l) (hm : l.length ≤ maxLen) (hk1 : -9223372036854775808 ≤ kind) (hk2 : kind ≤ 9223372036854775807) :
    Calls Try.prog 6 #[.slice A l.length c, .int .i64 kind, .int .i64 x, .int .i64 o] w (Yes w) := by
  by_cases hl : 60 < l.length
  · unfold maxLen at hm
    go_enter Try.func6, Try.ntmps6
    go_wp2_with fail
    refine (known_all _).mono ?_
    rintro e w1 ⟨rfl, hB1⟩
    go_wp2
    go_ret
    exact ⟨rfl, hB1⟩
  · have hl : l.length ≤ 60 := by omega
    have hr := ris_rise l
    have hn := ris_len l
    obtain ⟨p1, p2⟩ := pick_bd kind 4 (by omega)
    have HPK : ∀ W : World, Calls Try.prog 28 #[.int .i64 kind, .int .i64 4] W fun e w' => e = .returned (.int .i64 (pick kind 4)) ∧ w' = W := fun W => pick_any kind 4 W hk1 hk2 (by omega) (by omega)
    have hw := with_le (risL l) x
    have ho := out_le hr x
    obtain e | e | e | e : pick kind 4 = 0 ∨ pick kind 4 = 1 ∨ pick kind 4 = 2 ∨ pick kind 4 = 3 := by omega
    · rw [e] at HPK
      cases hb : isIn (risL l) x with
      | true =>
        refine has3t A c l kind x o (risL l) _ _ w hA hl (by omega) hr HPK (fun A c W h hc => ?_) hb hb rfl rfl (by simp) (fun _ => rfl)
        have := sapply_insert A c (risL l) x W h (by omega) hc hr
        rwa [with_in hb, hb] at this
      | false =>
        refine has3f A c l kind x o (withL (risL l) x) _ _ w hA hl (by omega) (with_rise hr x) HPK (fun A c W h hc => ?_) hb (isIn_with _ _) rfl rfl (with_ne hb) (fun h => isIn_with_ne _ h)
        have := sapply_insert A c (risL l) x W h (by omega) hc hr
        rwa [hb] at this
    · rw [e] at HPK
      cases hb : isIn (risL l) x with
      | true =>
        refine has4t A c l kind x o (outL (risL l) x) _ _ w hA hl (by omega) (out_rise hr x) HPK (fun A c W h hc => ?_) hb (isIn_out hr _) rfl rfl (out_ne hr hb) (fun h => isIn_out_ne hr h)
        have := sapply_remove A c (risL l) x W h (by omega) hc hr
        rwa [hb] at this
      | false =>
        refine has4f A c l kind x o (risL l) _ _ w hA hl (by omega) hr HPK (fun A c W h hc => ?_) hb hb rfl rfl (by simp) (fun _ => rfl)
        have := sapply_remove A c (risL l) x W h (by omega) hc hr
        rwa [out_not hb, hb] at this
    · rw [e] at HPK
      cases hb : isIn (risL l) x with
      | true =>
        refine has5t A c l kind x o (risL l) _ _ w hA hl (by omega) hr HPK (fun A c W h hc => ?_) hb hb rfl rfl (by simp) (fun _ => rfl)
        have := sapply_has A c (risL l) x W h (by omega) hr
        rwa [hb] at this
      | false =>
        refine has5f A c l kind x o (risL l) _ _ w hA hl (by omega) hr HPK (fun A c W h hc => ?_) hb hb rfl rfl (by simp) (fun _ => rfl)
        have := sapply_has A c (risL l) x W h (by omega) hr
        rwa [hb] at this
    · rw [e] at HPK
      cases hb : isIn (risL l) x with
      | true => exact has6t A c l kind x o (risL l) _ _ w hA hl (by omega) hr HPK (fun A c W h hc => sapply_size A c (risL l) W h (by omega) hr) hb hb rfl rfl (by simp) (fun _ => rfl)
      | false => exact has6f A c l kind x o (risL l) _ _ w hA hl (by omega) hr HPK (fun A c W h hc => sapply_size A c (risL l) W h (by omega) hr) hb hb rfl rfl (by simp) (fun _ => rfl)
end Go.Proofs.Ytmhnnilfehankaa
