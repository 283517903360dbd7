/- OperationBack. -/
import Derived.Test.YtmpglmepmdpjoaaOpAd
import Derived.Test.YtmpglmepmdpjoaaOpRg
import Derived.Deep.RegionHeld3
import Derived.ArgAppend
namespace Go.Proofs.Ytmpglmepmdpjoaa
open Go.RowKit Go.Maps
set_option linter.unusedVariables false

theorem small_op {i : Nat} (hi : i < 15) {a b k n : Int} : ∀ s ∈ opW i a b k n, s.size ≤ maxLen := fun s hs => by
  have := (opW_mem hi hs).2
  unfold maxLen
  omega

theorem add_lit0 (b j : Nat) : (⟨b, 0, none⟩ : Addr).add j = ⟨b, j, none⟩ := by unfold Addr.add; split <;> simp_all
theorem exec_append {P : Program} {o : Oper} {a : Act} {w w' : World} {s x : Operand} {t : TypeId} {v u r : Value} (ho : o.op = .call { callee := .builtin .append, args := #[s, x], argTypes := #[t, t] }) (hs : a.eval s = v) (hx : a.eval x = u)
    (hr : (Builtin.append_ #[t, t] o.type #[v, u]).run P w = .ok r w') : (execOp a.eval o).run P w = .ok (.value r) w' := by
  unfold execOp
  simp only [ho, resolve, invoke, builtin, Sem.run_bind, Sem.run_pure, Result.andThen_ok, List.map_toArray, List.map_cons, List.map_nil, hs, hx, hr]

/-- A row of one's own may be read less far. -/
theorem row_less {W : World} {base : Nat} {e : TypeId} {g n m cap : Nat} {xs ys : List Value} (h : W.ownsRow base e 1 (.slice (some ⟨g, 0, none⟩) (n + m) cap) (n + m) (xs ++ ys)) (hx : xs.length = n) : W.ownsRow base e 1 (.slice (some ⟨g, 0, none⟩) n cap) n xs := by
  rcases h.2 with ⟨e0, _⟩ | ⟨g', cap', cur, e0, hb, hg, h1, h2, h3, h4⟩
  · cases e0
  · injection e0 with e1 e2 e3
    injection e1 with e1
    injection e1 with e1 _ _
    subst e1 e3
    refine ⟨by rw [hx, Nat.mul_one], .inr ⟨g, cap, cur, rfl, hb, hg, by omega, h2, h3, ?_⟩⟩
    have h5 := congrArg (List.take n) h4
    rw [Nat.mul_one, List.take_take, List.take_left' hx] at h5
    rw [Nat.mul_one, ← h5]
    congr 1
    omega

/-- append(l, s), where l is a row of one's own: l reads as it did. -/
theorem append_keeps (w : World) (ty : TypeId) (base : Nat) (g cap : Nat) (ss : List ByteArray) (s : ByteArray) (ad : Nat) (hrow : w.ownsRow base 9 1 (.slice (some ⟨g, 0, none⟩) ss.length cap) ss.length (texts ss)) (hm : ss.length ≤ 100) (hb : base ≤ w.heap.size)
    (hs : w.cell? ⟨ad, 0, none⟩ = some (.string s)) :
    ∃ A' c' w', (Builtin.append_ #[36, 36] ty #[.slice (some ⟨g, 0, none⟩) ss.length cap, .slice (some ⟨ad, 0, none⟩) 1 1]).run Try.prog w = .ok (.slice A' (ss.length + 1) c') w' ∧
      Strs w'.heap.size w' A' (ss ++ [s]) ∧ w'.ownsRow base 9 1 (.slice (some ⟨g, 0, none⟩) ss.length cap) ss.length (texts ss) ∧ Below base w w' := by
  obtain ⟨i0, hi, hz0, hz1, hz2⟩ := info_parts info_str
  have hnews : ∀ j u, [Value.string s][j]? = some u → w.cell? ((⟨ad, 0, none⟩ : Addr).add j) = some u := by
    intro j u hu
    match j with
    | 0 => simp at hu; subst hu; simpa [Addr.add] using hs
    | j + 1 => simp at hu
  have h1 : ∀ u ∈ [Value.string s], u.oneCell' = true := by intro u hu; simp at hu; subst hu; rfl
  have hlen : (ss ++ [s]).length = ss.length + 1 := by simp
  have htl : (texts ss).length = ss.length := by simp [texts]
  by_cases hroom : ss.length + 1 ≤ cap
  · obtain ⟨w', hr, ho, hg⟩ := run_append_fits (P := Try.prog) w base 36 ty 9 i0 1 Try.underlying36 hi hz1 g ss.length cap (texts ss) hrow ⟨ad, 0, none⟩ 1 1 [.string s] rfl hnews h1 hroom
    refine ⟨_, _, w', hr, ?_, row_less ho htl, ?_⟩
    · rw [← texts_snoc, ← hlen] at ho
      exact strs_of_row ho
    · exact (Below.refl _ _).grown hg hb (fun k e => by
        have := (hrow.lt k (by simpa [Value.ownBlock] using e)).1
        exact this)
  · obtain ⟨v', w', hr, ho, hg⟩ := run_append_arg_grows (P := Try.prog) w 36 ty 9 i0 (.string ⟨#[]⟩) 1 16 Try.underlying36 hi hz0 hz1 hz2 rfl (by decide) ⟨g, 0, none⟩ ss.length cap (texts ss) (by rw [htl, Nat.mul_one])
      (fun j u hj => by
        have hjl : j < ss.length := by
          rcases Nat.lt_or_ge j ss.length with h | h
          · exact h
          · rw [List.getElem?_eq_none (by omega)] at hj; cases hj
        rw [add_lit0, hrow.cellAt j (by omega), hj]) ⟨ad, 0, none⟩ 1 1 [.string s] rfl hnews (by omega) (by unfold maxLen; omega) (by omega)
    obtain ⟨A', c', rfl⟩ := row_one ho
    refine ⟨A', c', w', hr, ?_, hrow.kept hg (.inr (by simp [Value.ownBlock])), ?_⟩
    · rw [← texts_snoc, ← hlen] at ho
      exact strs_of_row ho
    · exact (Below.refl _ _).grown hg hb (fun k e => by cases e)

theorem strs_drop {B : Nat} {w : World} {A : Option Addr} {ss : List ByteArray} (h : Strs B w A ss) : Strs B w A ss.dropLast := fun hl => by
  rw [List.length_dropLast] at hl
  obtain ⟨b, off, e, hb, hc⟩ := h (by omega)
  refine ⟨b, off, e, hb, fun j hj => ?_⟩
  rw [List.length_dropLast] at hj
  rw [hc j (by omega), List.getElem?_dropLast, if_pos (by omega)]

set_option maxRecDepth 100000 in
set_option maxHeartbeats 8000000 in
theorem back_law (kd a b k n : Int) (w : World) (ha : I64 a) (hb : I64 b) (hn : I64 n) : Calls Try.prog 6 #[opV kd a b k n] w (Yes w) := by
  have HX := fun W => text_any kd a b k n W ha hb hn
  have HC := fun W => check_any kd a b k n W
  have HH := Holds.new w 25 #[.int .i64 kd, .int .i64 a, .int .i64 b, .int .i64 k, .int .i64 n]
  have hB0 : Below w.heap.size w (w.alloc (.cells #[.int .i64 kd, .int .i64 a, .int .i64 b, .int .i64 k, .int .i64 n] 25)) := (Below.refl _ _).alloc (Nat.le_refl _) _
  by_cases hz : checkP kd a b k n = 0
  · obtain ⟨i, ho⟩ : ∃ i, kindI kd = some i := by
      unfold checkP at hz
      cases h : kindI kd with
      | none => rw [h] at hz; exact absurd (show (6 : Int) = 0 from hz) (by decide)
      | some i => exact ⟨i, rfl⟩
    obtain ⟨hi, hkd⟩ := kindI_lt ho
    have hc0 : checkI i a b k n = 0 := by unfold checkP at hz; rw [ho] at hz; exact hz
    have htx : textS kd a b k n = strOfNums (jl (opW i a b k n)) := by rw [← hkd]; exact (text_told hi hc0).2.1
    obtain ⟨hr1, hr2, hr3⟩ := read_told hi ha hb hn hc0
    rw [hkd] at hr1
    obtain ⟨hj1, hj2⟩ := opW_join i hi a b k n
    have hlen := opW_len i a b k n
    have hsm := small_op hi (a := a) (b := b) (k := k) (n := n)
    have hpos : 2 ≤ (opW i a b k n).length := by rw [opW]; simp
    rw [htx, hz] at HX
    rw [hz] at HC
    obtain ⟨ss, hss⟩ : ∃ ss, opW i a b k n = ss := ⟨_, rfl⟩
    rw [hss] at HX hr1 hr2 hr3 hj1 hj2 hlen hsm hpos
    have HWd := Lib.hid (fun W => words_any ss W hj1 (by omega) (by omega))
    have HR1 := Lib.hid (fun (A c W) (h : Strs (World.heap W).size W A ss) => reads_any A c ss kd a b k n W h (by omega) hsm)
    rw [is_read hr1] at HR1
    have HR2 := Lib.hid (fun (A c W) (h : Strs (World.heap W).size W A (ss ++ [⟨#[49]⟩])) => reads_any A c (ss ++ [⟨#[49]⟩]) kd a b k n W h (by simp; omega) (fun s hs => by
      rcases List.mem_append.1 hs with h | h
      · exact hsm s h
      · obtain rfl : s = ⟨#[49]⟩ := by simpa using h
        unfold maxLen; decide))
    rw [not_read (hr2 ⟨#[49]⟩)] at HR2
    have HR3 := Lib.hid (fun (A c W) (h : Strs (World.heap W).size W A ss.dropLast) => reads_any A c ss.dropLast kd a b k n W h (by simp; omega) (fun s hs => hsm s (List.dropLast_subset _ hs)))
    rw [not_read hr3] at HR3
    unfold opV at *
    obtain ⟨tx, htx'⟩ : ∃ tx, strOfNums (jl ss) = tx := ⟨_, rfl⟩
    rw [htx'] at HX HWd
    have HHid := Lib.hid HH
    clear HH hr1 hr2 hr3 hj1 hj2 hsm hss htx htx' hc0 ho hkd hz hi
    obtain ⟨i0, hi, hz0, hz1, hz2⟩ := info_parts info_str
    go_enter Try.func6, Try.ntmps6
    go_wp2_with fail
    refine (known_yes _).mono ?_
    rintro e w1 ⟨rfl, hB1⟩
    have H1 := HHid.out.below hB1 (by simp)
    replace hB1 := nxt hB0 hB1 (by simp)
    have o0 := H1.c (j := 0) rfl
    have o1 := H1.c (j := 1) rfl
    have o2 := H1.c (j := 2) rfl
    have o3 := H1.c (j := 3) rfl
    have o4 := H1.c (j := 4) rfl
    go_wp2_with fail
    refine (HX _).mono ?_
    rintro e w2 ⟨rfl, hB2⟩
    have H2 := H1.below hB2 H1.lt
    replace hB2 := nxt hB1 hB2 hB1.size
    clear o0 o1 o2 o3 o4 H1 hB1 hB0 HHid
    have o0 := H2.c (j := 0) rfl
    have o1 := H2.c (j := 1) rfl
    have o2 := H2.c (j := 2) rfl
    have o3 := H2.c (j := 3) rfl
    have o4 := H2.c (j := 4) rfl
    go_wp2_with fail
    refine (HC _).mono ?_
    rintro e w3 ⟨rfl, hB3⟩
    have H3 := H2.below hB3 H2.lt
    replace hB3 := nxt hB2 hB3 hB2.size
    clear o0 o1 o2 o3 o4 H2 hB2
    go_wp2_with fail
    refine (HWd.out _).mono ?_
    rintro e w4 ⟨v4, rfl, hrow4, hB4⟩
    have H4 := H3.below hB4 H3.lt
    replace hB4' := nxt hB3 hB4 hB3.size
    obtain ⟨A4, c4, rfl⟩ := row_one hrow4
    have hlt4 := H4.lt
    have hlo : w.heap.size < w3.heap.size := H3.lt
    clear H3
    have o0 : w4.cell? ⟨w.heap.size, 0, none⟩ = some (.int .i64 kd) := H4.c (j := 0) rfl
    have o1 : w4.cell? ⟨w.heap.size, 1, none⟩ = some (.int .i64 a) := H4.c (j := 1) rfl
    have o2 : w4.cell? ⟨w.heap.size, 2, none⟩ = some (.int .i64 b) := H4.c (j := 2) rfl
    have o3 : w4.cell? ⟨w.heap.size, 3, none⟩ = some (.int .i64 k) := H4.c (j := 3) rfl
    have o4 : w4.cell? ⟨w.heap.size, 4, none⟩ = some (.int .i64 n) := H4.c (j := 4) rfl
    have hKS : ∀ w', Below w3.heap.size w4 w' → (w'.cell? ⟨w.heap.size, 0, none⟩ = some (.int .i64 kd) ∧ w'.cell? ⟨w.heap.size, 1, none⟩ = some (.int .i64 a) ∧ w'.cell? ⟨w.heap.size, 2, none⟩ = some (.int .i64 b) ∧ w'.cell? ⟨w.heap.size, 3, none⟩ = some (.int .i64 k) ∧ w'.cell? ⟨w.heap.size, 4, none⟩ = some (.int .i64 n)) := fun w' h => by
      have H := H4.below h hlo
      exact ⟨H.c (j := 0) rfl, H.c (j := 1) rfl, H.c (j := 2) rfl, H.c (j := 3) rfl, H.c (j := 4) rfl⟩
    have HKS := Lib.hid hKS
    obtain ⟨g, rfl⟩ : ∃ g, A4 = some ⟨g, 0, none⟩ := by
      rcases hrow4.2 with ⟨e, hn0⟩ | ⟨g, cap, cur, e, _⟩
      · omega
      · injection e with e1 _ _; exact ⟨g, e1⟩
    have hcap : ss.length ≤ c4 := by
      rcases hrow4.2 with ⟨e, hn0⟩ | ⟨g', cap, cur, e, _, _, h, _⟩
      · omega
      · injection e with _ _ e3; rw [e3]; exact h
    have hs34 := hB4.size
    have HROW := Lib.hid hrow4
    have d1 : decide ((0 : Int) < (ss.length : Int)) = true := decide_eq_true (by omega)
    have l0 : (0 : Int) ≤ (ss.length : Int) - 1 := by omega
    have l1 : (ss.length : Int) - 1 ≤ (c4 : Int) := by omega
    have l2 : (ss.length : Int) - 1 ≤ 100 := by omega
    have hdl : ss.dropLast.length = ss.length - 1 := by simp
    have hwrp : IntKind.i64.wrap ((ss.length : Int) - 1) = (ss.length : Int) - 1 := by
      have e : ((ss.length : Int) - 1) % 2 ^ 64 = (ss.length : Int) - 1 := Int.emod_eq_of_lt (by omega) (by omega)
      simp only [IntKind.wrap, IntKind.bits, IntKind.signed, e]
      rw [if_neg]
      simp
      omega
    clear hKS H4 hrow4
    go_wp2
    refine wp_region_noPanic ?_
    refine wp_region_alone (List.replicate 7 true ++ false :: (List.replicate 4 true ++ false :: false :: false :: (List.replicate 14 true ++ false :: [true, true, true]))) (fun w' => w'.cell? ⟨w.heap.size, 0, none⟩ = some (.int .i64 kd) ∧ w'.cell? ⟨w.heap.size, 1, none⟩ = some (.int .i64 a) ∧ w'.cell? ⟨w.heap.size, 2, none⟩ = some (.int .i64 b) ∧ w'.cell? ⟨w.heap.size, 3, none⟩ = some (.int .i64 k) ∧ w'.cell? ⟨w.heap.size, 4, none⟩ = some (.int .i64 n)) (by kernel_rfl) (by kernel_rfl) (fun _ _ _ _ _ h => h) ⟨o0, o1, o2, o3, o4⟩ ?_
    simp only [List.replicate, List.cons_append, List.nil_append]
    iterate 7
      refine Alone.take ?_ (by rfl) ?_ ?_
      rotate_left
      · intro w' hw'
        try dsimp only at hw'
        go_simp
        try with_reducible rfl
      simp only [Act.put, List.setIfInBounds_toArray, List.set_cons_zero, List.set_cons_succ]
    refine Alone.call 27 #[.agg #[.int .i64 kd, .int .i64 a, .int .i64 b, .int .i64 k, .int .i64 n], .slice (some ⟨g, 0, none⟩) ss.length c4] (by rfl) (by go_simp) ?_
    have hBd : Below w3.heap.size w4 w4.drew := (Below.refl _ w4).drew
    refine (HR1.out _ _ _ (strs_of_row HROW.out.drew)).mono ?_
    rintro e w5 ⟨rfl, hB5⟩
    have hB45 : Below w4.heap.size w4 w5 := Below.trans (Below.refl _ w4).drew hB5
    have hB45' := hB45.mono hs34
    have hrow5 := row_below HROW.out hB45
    have hs5 := hB45.size
    refine ⟨_, rfl, HKS.out _ hB45', ?_⟩
    simp only [Act.put, List.setIfInBounds_toArray, List.set_cons_zero, List.set_cons_succ]
    iterate 4
      refine Alone.take ?_ (by rfl) ?_ ?_
      rotate_left
      · intro w' hw'
        try dsimp only at hw'
        go_simp
        try with_reducible rfl
      simp only [Act.put, List.setIfInBounds_toArray, List.set_cons_zero, List.set_cons_succ]
    have hB5a : Below w3.heap.size w4 (w5.alloc (.cells #[.string ⟨#[49]⟩] 9)) := hB45'.alloc (by omega) _
    refine Alone.make (.slice (some ⟨w5.heap.size, 0, none⟩) 1 1) (w1 := w5.alloc (.cells #[.string ⟨#[49]⟩] 9)) (by rfl) (by go_simp) (HKS.out _ hB5a) ?_
    simp only [Act.put, List.setIfInBounds_toArray, List.set_cons_zero, List.set_cons_succ]
    obtain ⟨A6, c6, w6, hrun, hS6, hrow6, hB6⟩ := append_keeps (w5.alloc (.cells #[.string ⟨#[49]⟩] 9)) 36 w3.heap.size g c4 ss ⟨#[49]⟩ w5.heap.size (hrow5.alloc _) (by omega) (by simp; omega) (by simp [World.cell?_alloc_new])
    have hB46 := hB5a.trans hB6
    have HR2' := HR2.out A6 c6 w6 hS6
    rw [List.length_append, show [(⟨#[49]⟩ : ByteArray)].length = 1 from rfl] at HR2'
    have hs6 := hB46.size
    refine Alone.make (.slice A6 (ss.length + 1) c6) (w1 := w6) (by rfl) (exec_append rfl rfl rfl hrun) (HKS.out _ hB46) ?_
    simp only [Act.put, List.setIfInBounds_toArray, List.set_cons_zero, List.set_cons_succ]
    refine Alone.call 27 #[.agg #[.int .i64 kd, .int .i64 a, .int .i64 b, .int .i64 k, .int .i64 n], .slice A6 (ss.length + 1) c6] (by rfl) (by go_simp) ?_
    refine HR2'.mono ?_
    rintro e w7 ⟨rfl, hB7⟩
    have hrow7 := row_below hrow6 hB7
    have hB47 := nxt hB46 hB7 (by omega)
    have hs7 := hB47.size
    clear hrun HR2' hrow6 hrow5
    refine ⟨_, rfl, HKS.out _ hB47, ?_⟩
    simp only [Act.put, List.setIfInBounds_toArray, List.set_cons_zero, List.set_cons_succ]
    have HROW7 := Lib.hid hrow7
    clear hrow7
    iterate 5
      refine Alone.take ?_ (by rfl) ?_ ?_
      rotate_left
      · intro w' hw'
        try dsimp only at hw'
        go_simp
        try with_reducible rfl
      simp only [Act.put, List.setIfInBounds_toArray, List.set_cons_zero, List.set_cons_succ]
    refine Alone.take (.bool true) (by rfl) ?_ ?_
    · intro w' hw'
      try dsimp only at hw'
      go_simp
      omega
    simp only [Act.put, List.setIfInBounds_toArray, List.set_cons_zero, List.set_cons_succ]
    iterate 6
      refine Alone.take ?_ (by rfl) ?_ ?_
      rotate_left
      · intro w' hw'
        try dsimp only at hw'
        go_simp
        try with_reducible rfl
      simp only [Act.put, List.setIfInBounds_toArray, List.set_cons_zero, List.set_cons_succ]
    refine Alone.take (.int .i64 ((ss.length : Int) - 1)) (by rfl) ?_ ?_
    · intro w' hw'
      try dsimp only at hw'
      go_simp
    simp only [Act.put, List.setIfInBounds_toArray, List.set_cons_zero, List.set_cons_succ]
    refine Alone.take (.slice (some ⟨g, 0, none⟩) (ss.length - 1) c4) (by rfl) ?_ ?_
    · intro w' hw'
      try dsimp only at hw'
      go_simp
      intro h
      omega
    simp only [Act.put, List.setIfInBounds_toArray, List.set_cons_zero, List.set_cons_succ]
    have HR3' := HR3.out (some ⟨g, 0, none⟩) c4 w7 (strs_drop (strs_of_row HROW7.out))
    rw [hdl] at HR3'
    refine Alone.call 27 #[.agg #[.int .i64 kd, .int .i64 a, .int .i64 b, .int .i64 k, .int .i64 n], .slice (some ⟨g, 0, none⟩) (ss.length - 1) c4] (by rfl) (by go_simp) ?_
    refine HR3'.mono ?_
    rintro e w8 ⟨rfl, hB8⟩
    have hB48 := nxt hB47 hB8 (by omega)
    refine ⟨_, rfl, HKS.out _ hB48, ?_⟩
    simp only [Act.put, List.setIfInBounds_toArray, List.set_cons_zero, List.set_cons_succ]
    iterate 3
      refine Alone.take ?_ (by rfl) ?_ ?_
      rotate_left
      · intro w' hw'
        try dsimp only at hw'
        go_simp
        try with_reducible rfl
      simp only [Act.put, List.setIfInBounds_toArray, List.set_cons_zero, List.set_cons_succ]
    refine Alone.done ?_
    refine NoPanic.normal ?_
    go_wp2
    go_ret
    exact ⟨rfl, nxt hB4' hB48 (by omega)⟩
  · have hb' : (checkP kd a b k n != 0) = true := by rw [bne_iff_ne]; exact hz
    have HT : Hid (textS kd a b k n = ⟨#[]⟩) := Lib.hid (by
      unfold textS
      unfold checkP at hz
      cases h : kindI kd with
      | none => rfl
      | some i =>
        rw [h] at hz
        simp only
        rw [if_neg hz])
    rw [HT.out] at HX
    generalize checkP kd a b k n = ck at *
    have hcc : (ck != ck) = false := by simp
    unfold opV at *
    have HHid := Lib.hid HH
    clear HH HT
    go_enter Try.func6, Try.ntmps6
    go_wp2_with fail
    refine (known_yes _).mono ?_
    rintro e w1 ⟨rfl, hB1⟩
    have H1 := HHid.out.below hB1 (by simp)
    replace hB1 := nxt hB0 hB1 (by simp)
    have o0 := H1.c (j := 0) rfl
    have o1 := H1.c (j := 1) rfl
    have o2 := H1.c (j := 2) rfl
    have o3 := H1.c (j := 3) rfl
    have o4 := H1.c (j := 4) rfl
    go_wp2_with fail
    refine (HX _).mono ?_
    rintro e w2 ⟨rfl, hB2⟩
    have H2 := H1.below hB2 H1.lt
    replace hB2 := nxt hB1 hB2 hB1.size
    clear o0 o1 o2 o3 o4 H1
    have o0 := H2.c (j := 0) rfl
    have o1 := H2.c (j := 1) rfl
    have o2 := H2.c (j := 2) rfl
    have o3 := H2.c (j := 3) rfl
    have o4 := H2.c (j := 4) rfl
    go_wp2_with fail
    refine (HC _).mono ?_
    rintro e w3 ⟨rfl, hB3⟩
    go_wp2
    go_ret
    exact ⟨rfl, nxt hB2 hB3 hB2.size⟩
end Go.Proofs.Ytmpglmepmdpjoaa
