/- The document's table: Of, Name, Add. -/
import Derived.Test.YtdjmpmogmkiegaaNmN
namespace Go.Proofs.Ytdjmpmogmkiegaa
open Go.RowKit Go.Maps
set_option linter.unusedVariables false

/-- Block C is the document's table with the names ns, in the slice q. -/
structure RTab (w : World) (lo C : Nat) (q : Value) (ns : List ByteArray) : Prop where
  c0 : w.cell? ⟨C, 0, none⟩ = some q
  f0 : w.frozen? ⟨C, 0, none⟩ = false
  hC : lo ≤ C
  hqC : q.ownBlock ≠ some C
  row : w.ownsRow lo 9 1 q ns.length (texts ns)

def footR (C : Nat) (q : Value) (k : Nat) : Prop := k = C ∨ q.ownBlock = some k

theorem RTab.kept {w w' : World} {lo C : Nat} {q : Value} {ns : List ByteArray} (h : RTab w lo C q ns) (hk : ∀ k, k < w.heap.size → footR C q k → w'.heap[k]? = w.heap[k]?) : RTab w' lo C q ns := by
  have eC : w'.heap[C]? = w.heap[C]? := hk C (lt_of_cell h.c0) (.inl rfl)
  refine ⟨(World.cell?_of_block (a := ⟨C, 0, none⟩) eC).trans h.c0, (World.frozen?_of_block (a := ⟨C, 0, none⟩) eC).trans h.f0, h.hC, h.hqC, h.row.1, ?_⟩
  rcases h.row.2 with hn | ⟨g, cap, cur, e, hb, hg, rest⟩
  · exact .inl hn
  · exact .inr ⟨g, cap, cur, e, hb, (hk g (Array.getElem?_eq_some_iff.1 hg).1 (.inr (by rw [e]; rfl))).trans hg, rest⟩
theorem RTab.below {w w' : World} {lo C : Nat} {q : Value} {ns : List ByteArray} (h : RTab w lo C q ns) (hk : Below w.heap.size w w') : RTab w' lo C q ns := h.kept fun k hl _ => hk.block k hl
theorem RTab.foot_lt {w : World} {lo C : Nat} {q : Value} {ns : List ByteArray} (h : RTab w lo C q ns) : ∀ k, footR C q k → lo ≤ k ∧ k < w.heap.size := by
  rintro k (rfl | e)
  · exact ⟨h.hC, lt_of_cell h.c0⟩
  · exact h.row.lt k e

set_option maxHeartbeats 1000000 in
theorem rof_any {lo C : Nat} {q : Value} {ns : List ByteArray} (s : ByteArray) (w : World) (h : RTab w lo C q ns) (hm : ns.length ≤ 1000000) :
    Calls Try.prog 17 #[.pointer (some ⟨C, 0, none⟩), .string s] w fun e w' => e = .returned (.tuple #[.int .i64 (ofI ns s), .int .i64 (ofE ns s)]) ∧ w = w' := by
  obtain ⟨A, c, rfl⟩ := row_shape h.row
  have HA := Lib.hid (strs_own h.row)
  have c0 := h.c0
  clear h
  go_enter Try.func17, Try.ntmps17
  go_wp2
  go_loop [6] (fun i => ∃ k : Nat, k ≤ ns.length ∧ i = .int .i64 k ∧ ∀ j, j < ns.length → j < k → ns[j]?.getD ⟨#[]⟩ ≠ s) (fun i => ns.length - (intOf i).toNat)
  case atStart => exact ⟨0, Nat.zero_le _, rfl, fun j _ hj => absurd hj (by omega)⟩
  case round =>
    obtain ⟨k, hk, rfl, hq⟩ := hrel
    have HQ := Lib.hid hq
    clear hq
    by_cases hlt : k < ns.length
    · obtain ⟨b, off, rfl, hb, hc⟩ := HA.out (by omega)
      have hck := hc k hlt
      obtain ⟨t, ht⟩ : ∃ t, ns[k]?.getD ⟨#[]⟩ = t := ⟨_, rfl⟩
      rw [ht] at hck
      have HT := Lib.hid ht
      have q0 : (0 : Int) ≤ (k : Int) := by omega
      have q1 : (k : Int) < (ns.length : Int) := by omega
      have q2 : decide (k < ns.length) = true := decide_eq_true hlt
      clear hc ht
      by_cases e : t = s
      · have q3 : (t.toList == s.toList) = true := by rw [e]; simp
        have hi := idx_here hlt HQ.out (HT.out.trans e)
        have hcon : ns.contains s = true := by
          have hm : s ∈ ns := by
            have := HT.out
            rw [List.getElem?_eq_getElem hlt] at this
            simp only [Option.getD_some] at this
            rw [← e, ← this]; exact List.getElem_mem hlt
          simpa using hm
        have HI := Lib.hid ((ofI_yes hcon).trans hi)
        have HE := Lib.hid (ofE_yes hcon)
        clear hi e hcon
        go_wp2
        go_ret2
        exact ⟨by rw [HI.out, HE.out]; rfl, rfl⟩
      · have q3 : (t.toList == s.toList) = false := by
          apply beq_eq_false_iff_ne.2
          intro h
          rw [ByteArray.toList_eq, ByteArray.toList_eq] at h
          exact e (ByteArray.ext (Array.ext' h))
        go_wp2
        go_round
        case rel =>
          refine ⟨k + 1, by omega, by go_num, fun j hj hjk => ?_⟩
          by_cases e' : j = k
          · subst e'; rw [HT.out]; exact e
          · exact HQ.out j hj (by omega)
        case measure => simp [intOf]; omega
    · have q2 : decide (k < ns.length) = false := decide_eq_false hlt
      have hcon : ns.contains s = false := by
        apply Bool.eq_false_iff.2
        intro hcn
        have hmem : s ∈ ns := by simpa using hcn
        have hl := List.idxOf_lt_length_of_mem hmem
        have := HQ.out _ hl (by omega)
        rw [List.getElem?_eq_getElem hl, List.getElem_idxOf] at this
        exact this rfl
      have HI := Lib.hid (ofI_no hcon)
      have HE := Lib.hid (ofE_no hcon)
      clear hcon
      go_wp2
      go_ret2
      exact ⟨by rw [HI.out, HE.out]; rfl, rfl⟩

set_option maxHeartbeats 1000000 in
theorem rname_any {lo C : Nat} {q : Value} {ns : List ByteArray} (n : Int) (w : World) (h : RTab w lo C q ns) :
    Calls Try.prog 19 #[.pointer (some ⟨C, 0, none⟩), .int .i64 n] w fun e w' => e = .returned (.tuple #[.string (nameT ns n), .int .i64 (nameE ns n)]) ∧ w = w' := by
  obtain ⟨A, c, rfl⟩ := row_shape h.row
  have c0 := h.c0
  by_cases h1 : n < 0
  · have ht : nameT ns n = ⟨#[]⟩ ∧ nameE ns n = 3 := by rw [nameT, nameE, if_neg (by omega), if_neg (by omega)]; exact ⟨rfl, rfl⟩
    have HT := Lib.hid ht
    have k1 : decide (n < 0) = true := decide_eq_true h1
    clear h ht
    go_enter Try.func19, Try.ntmps19
    go_wp2
    go_ret2
    exact ⟨by rw [HT.out.1, HT.out.2]; rfl, rfl⟩
  · by_cases h2 : n < ns.length
    · obtain ⟨j, rfl⟩ : ∃ j : Nat, n = j := ⟨n.toNat, by omega⟩
      have hj : j < ns.length := by omega
      obtain ⟨g, rfl, hg, _, hc⟩ := row_at h.row j hj
      have hcj := hc j hj
      have ht : nameT ns j = ns[j]?.getD ⟨#[]⟩ ∧ nameE ns j = 0 := by rw [nameT, nameE, if_pos (by omega), if_pos (by omega)]; exact ⟨rfl, rfl⟩
      generalize ns[j]?.getD ⟨#[]⟩ = s at hcj ht
      have HT := Lib.hid ht
      have k1 : decide ((j : Int) < 0) = false := decide_eq_false h1
      have k2 : decide (ns.length ≤ j) = false := decide_eq_false (by omega)
      have k3 : (0 : Int) ≤ (j : Int) := by omega
      have k4 : (j : Int) < (ns.length : Int) := by omega
      clear h ht hc
      go_enter Try.func19, Try.ntmps19
      go_wp2
      go_ret2
      exact ⟨by rw [HT.out.1, HT.out.2]; rfl, rfl⟩
    · have ht : nameT ns n = ⟨#[]⟩ ∧ nameE ns n = 3 := by rw [nameT, nameE, if_neg (by omega), if_neg (by omega)]; exact ⟨rfl, rfl⟩
      have HT := Lib.hid ht
      have k1 : decide (n < 0) = false := decide_eq_false h1
      have k2 : decide ((ns.length : Int) ≤ n) = true := decide_eq_true (by omega)
      clear h ht
      go_enter Try.func19, Try.ntmps19
      go_wp2
      go_ret2
      exact ⟨by rw [HT.out.1, HT.out.2]; rfl, rfl⟩

def RAddPost (lo C : Nat) (q : Value) (ns : List ByteArray) (s : ByteArray) (w : World) (e : Ending) (w' : World) : Prop :=
  e = .returned (.tuple #[.int .i64 (addI ns s), .int .i64 (addE ns s)]) ∧ ∃ q', RTab w' lo C q' (addN ns s) ∧ But (footR C q) w w' ∧ (q'.ownBlock = q.ownBlock ∨ ∃ g, q'.ownBlock = some g ∧ w.heap.size ≤ g)

theorem rtab_added {w w5 : World} {lo C : Nat} {q q' : Value} {ns : List ByteArray} {s : ByteArray} (h : RTab w lo C q ns)
    (hr : w5.ownsRow lo 9 1 q' (ns.length + 1) (texts ns ++ [.string s])) (hg5 : (w.alloc (.cells #[.string s] 9)).grownBy w5 q.ownBlock) (hat : q'.ownBlock = q.ownBlock ∨ q'.ownBlock = some (w.alloc (.cells #[.string s] 9)).heap.size) :
    RTab (w5.setCell ⟨C, 0, none⟩ q') lo C q' (ns ++ [s]) ∧ But (footR C q) w (w5.setCell ⟨C, 0, none⟩ q') ∧ (q'.ownBlock = q.ownBlock ∨ ∃ g, q'.ownBlock = some g ∧ w.heap.size ≤ g) ∧
      w5.cell? ⟨C, 0, none⟩ = some q ∧ w5.frozen? ⟨C, 0, none⟩ = false := by
  have hsz : (w.alloc (.cells #[.string s] 9)).heap.size = w.heap.size + 1 := by simp
  have hCl : C < w.heap.size := lt_of_cell h.c0
  have eA : ∀ k, k < w.heap.size → (w.alloc (.cells #[.string s] 9)).heap[k]? = w.heap[k]? := fun k hk => Below.heap_alloc _ _ _ hk
  have eC5 : w5.heap[C]? = w.heap[C]? := by
    rw [hg5.block C (by omega) (fun e => h.hqC e.symm), eA C hCl]
  have c0 : w5.cell? ⟨C, 0, none⟩ = some q := (World.cell?_of_block (a := ⟨C, 0, none⟩) eC5).trans h.c0
  have f0 : w5.frozen? ⟨C, 0, none⟩ = false := (World.frozen?_of_block (a := ⟨C, 0, none⟩) eC5).trans h.f0
  have hqC : q'.ownBlock ≠ some C := by
    rcases hat with e | e
    · rw [e]; exact h.hqC
    · rw [e]; intro e'; have := Option.some.inj e'; omega
  refine ⟨⟨World.cell?_setCell_same _ _ _ c0, by rw [World.frozen?_setCell]; exact f0, h.hC, hqC, ?_⟩, ?_, hat.imp id (fun e => ⟨_, e, by omega⟩), c0, f0⟩
  · have e1 : texts (ns ++ [s]) = texts ns ++ [.string s] := by simp [texts]
    rw [e1, List.length_append]
    exact ownsRow_setCell_other hr hqC _
  · have hb : But (footR C q) w (w.alloc (.cells #[.string s] 9)) := but_of_below ((Below.refl _ _).alloc (Nat.le_refl _) _)
    exact (hb.trans (but_of_grown hg5 (fun k e => .inr e))).trans (but_setCell _ _ _ (.inl rfl))

set_option maxHeartbeats 1000000 in
theorem radd_any {lo C : Nat} {q : Value} {ns : List ByteArray} (s : ByteArray) (w : World) (h : RTab w lo C q ns) (hlo : lo ≤ w.heap.size) (hn : ns.length ≤ 1000) (hs : s.size ≤ 1000) :
    Calls Try.prog 13 #[.pointer (some ⟨C, 0, none⟩), .string s] w (RAddPost lo C q ns s w) := by
  have hck := rcheck_any s w hs
  have hof := rof_any s w h (by omega)
  have HT := Lib.hid h
  cases hname : nameB s with
  | false =>
    rw [checkE_no hname] at hck
    have HA := Lib.hid (add_no (ns := ns) hname)
    clear hname h hof
    go_enter Try.func13, Try.ntmps13
    go_wp2_with fail
    refine hck.mono ?_
    rintro e w1 ⟨rfl, rfl⟩
    go_wp2
    go_ret2
    exact ⟨by rw [HA.out.1, HA.out.2.1]; rfl, q, by rw [HA.out.2.2]; exact HT.out, But.refl _ _, .inl rfl⟩
  | true =>
    rw [checkE_yes hname] at hck
    cases hc : ns.contains s with
    | true =>
      rw [ofE_yes hc] at hof
      have HA := Lib.hid (add_twice hname hc)
      clear hname h hc
      go_enter Try.func13, Try.ntmps13
      go_wp2_with fail
      refine hck.mono ?_
      rintro e w1 ⟨rfl, rfl⟩
      go_wp2_with fail
      refine hof.mono ?_
      rintro e w1 ⟨rfl, rfl⟩
      go_wp2
      go_ret2
      exact ⟨by rw [HA.out.1, HA.out.2.1]; rfl, q, by rw [HA.out.2.2]; exact HT.out, But.refl _ _, .inl rfl⟩
    | false =>
      rw [ofE_no hc] at hof
      have HA := Lib.hid (add_new hname hc)
      obtain ⟨A, c, hq⟩ := row_shape h.row
      subst hq
      have c0 := h.c0
      have k1 : decide ((5000 : Int) ≤ (ns.length : Int)) = false := decide_eq_false (by omega)
      obtain ⟨i0, hi, hz0, hz1, hz2⟩ := info_parts info_str
      clear hname h hc
      go_enter Try.func13, Try.ntmps13
      go_wp2_with fail
      refine hck.mono ?_
      rintro e w1 ⟨rfl, rfl⟩
      go_wp2_with fail
      refine hof.mono ?_
      rintro e w1 ⟨rfl, rfl⟩
      go_wp2_with (at_builtin; refine wpList_append_own_at _ rfl _ _ 22 rfl lo 9 i0 (.string ⟨#[]⟩) 1 16 Try.underlying22 hi hz0 hz1 hz2 rfl (by decide) _ _ _ rfl (HT.out.row.alloc _) ⟨w.heap.size, 0, none⟩ 1 1 [.string s] rfl rfl (cell_one_new _ _ _) (by intro u hu; simp at hu; subst hu; rfl) (by unfold maxLen; omega) (by omega) (by simp; omega) ?_; intro v5 w5 hown5 hg5 hnil5 hat5; have HTA := Lib.hid (rtab_added HT.out hown5 hg5 hat5); have c25 := HTA.out.2.2.2.1; have f25 := HTA.out.2.2.2.2; obtain ⟨g5, cap5, rfl⟩ := form1 hown5 hnil5)
      go_ret2
      obtain ⟨hTf, hButf, hlocf, _⟩ := HTA.out
      exact ⟨by rw [HA.out.1, HA.out.2.1]; rfl, _, by rw [HA.out.2.2]; exact hTf, hButf, hlocf⟩
end Go.Proofs.Ytdjmpmogmkiegaa
