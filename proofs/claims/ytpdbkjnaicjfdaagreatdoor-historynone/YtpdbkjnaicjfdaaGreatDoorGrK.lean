/- Contracts of the layer grammar: the map from words to the ways in which lines are read. -/
import Derived.Test.YtpdbkjnaicjfdaaGreatDoorGrKw
import Derived.Test.YtpdbkjnaicjfdaaGreatDoorGrRg
import Derived.Maps.OwnSet
import Derived.StringKeys
import Derived.LaidEql
namespace Go.Proofs.YtpdbkjnaicjfdaaGreatDoor
open Go.RowKit Go.Maps
set_option linter.unusedVariables false

/-- The kinds' words lie where the program's text lays them. -/
def KWds (w : World) : Prop := ∀ i, i < 6 → w.cell? ⟨0, i, none⟩ = some (.string (kwB i))
theorem KWds.pos {w : World} (h : KWds w) : 0 < w.heap.size := World.block_lt_of_cell? w _ (h 0 (by omega))
theorem KWds.below {w w' : World} {n : Nat} (h : KWds w) (hb : Below n w w') (hn : 0 < n) : KWds w' := fun i hi => (hb.cell (p := ⟨0, i, none⟩) hn).trans (h i hi)
theorem KWds.on {w w' : World} (h : KWds w) (hb : Below w.heap.size w w') : KWds w' := h.below hb h.pos

/-- Which function reads a line of a kind. -/
def kfN : Nat → Nat
  | 1 => 82
  | 2 => 83
  | 3 => 84
  | 4 => 85
  | 5 => 86
  | _ => 0
def kfV (R k : Nat) : Value := .func (.func (kfN k)) #[.pointer (some ⟨R, 0, none⟩)] #[]

/-- How an element of the map reads: by the function's number. -/
def kfElem (R : Nat) : Value → Option (DataW Unit × List MemPlace)
  | .nilFunc => some (.lit (.int .i64 0), [])
  | .func (.func f) first cap => match first.toList, cap.toList with
    | [.pointer (some a)], [] => if a = ⟨R, 0, none⟩ then some (.lit (.int .i64 (f : Int)), []) else none
    | _, _ => none
  | _ => none
theorem kfElem_mk (R k : Nat) : kfElem R (kfV R k) = some (.lit (.int .i64 (kfN k : Int)), []) := by unfold kfElem kfV; simp
theorem kfElem_inv {R f : Nat} {v : Value} {ps : List MemPlace} (hf : 0 < f) (h : kfElem R v = some (.lit (.int .i64 (f : Int)), ps)) : v = .func (.func f) #[.pointer (some ⟨R, 0, none⟩)] #[] := by
  unfold kfElem at h
  split at h
  · injection h with h3; injection h3 with h4 _; injection h4 with h5; injection h5 with _ h6; omega
  · rename_i g first cap
    split at h
    · rename_i a e1 e2
      split at h
      · rename_i ha
        subst ha
        injection h with h3
        injection h3 with h4 _
        injection h4 with h5
        injection h5 with _ h6
        obtain rfl : g = f := Int.ofNat.inj h6
        congr 1
        · apply Array.ext'; rw [e1]
        · apply Array.ext'; rw [e2]
      · cases h
    · cases h
  · cases h

theorem keyLaw : Keyed Tryz.prog 9 := string_keyed Tryz.underlying9
theorem zeroKf (w : World) : (zeroValue 146).run Tryz.prog w = .ok .nilFunc w := by kernel_rfl
theorem keyName {s : ByteArray} (h : s.size ≤ maxLen) : keyOf Tryz.prog 9 (.string s) = some (.string s.data.toList) := Go.WideMaps.keyOf_string_mk Tryz.underlying9 h
def key (s : ByteArray) : Lit := .string s.data.toList
theorem key_inj {s t : ByteArray} (h : key s = key t) : s = t := by
  apply ByteArray.ext
  apply Array.ext'
  exact Lit.string.inj h

/-- The kinds that stand in the map. -/
def KeepsK (D : DataW Unit) (on : Nat → Bool) : Prop :=
  (∀ s, Maps.has D (key s) = ((1 ≤ kwI s) && on (kwI s))) ∧ ∀ k, 1 ≤ k → k ≤ 5 → on k = true → ∀ z, D.atKey (key (kwB k)) z = .lit (.int .i64 (kfN k : Int))
theorem keepsK_nil : KeepsK (.map []) (fun _ => false) := ⟨fun s => by simp [Maps.has], fun k _ _ h => by cases h⟩
theorem keepsK_add {D : DataW Unit} {on : Nat → Bool} {k : Nat} (h1 : 1 ≤ k) (h5 : k ≤ 5) (h : KeepsK D on) (hD : IsMap D) : KeepsK (D.put (key (kwB k)) (.lit (.int .i64 (kfN k : Int)))) (fun j => on j || j == k) := by
  refine ⟨fun s => ?_, fun j j1 j5 hj z => ?_⟩
  · by_cases e : s = kwB k
    · subst e
      rw [has_put_same hD (by simp [WideAt.IsKeyLit, key]), kwI_kw k h1 h5]
      simp [h1]
    · rw [has_put_other (fun e' => e (key_inj e')), h.1 s]
      have hk : (kwI s == k) = false := by
        rw [beq_eq_false_iff_ne]
        intro e'
        exact e (kwI_of e' h1).2
      simp only [hk, Bool.or_false]
  · by_cases e : j = k
    · subst e
      exact atKey_put_same hD (by simp [WideAt.IsKeyLit, key]) _ _
    · have hne : kwB j ≠ kwB k := fun e' => e (by have := congrArg kwI e'; rwa [kwI_kw j j1 j5, kwI_kw k h1 h5] at this)
      rw [atKey_put_other (fun e' => hne (key_inj e'))]
      have hk : (j == k) = false := beq_eq_false_iff_ne.2 e
      simp only [hk, Bool.or_false] at hj
      exact h.2 j j1 j5 hj z

/-- Block M is the map, of the reader in block R. -/
def KMap (w : World) (M R : Nat) : Prop := ∃ D, w.ownsMap Tryz.prog 9 (kfElem R) M 5 D ∧ KeepsK D (fun _ => true)
theorem KMap.lt {w : World} {M R : Nat} (h : KMap w M R) : M < w.heap.size := by
  obtain ⟨D, h, _⟩ := h
  exact h.lt
theorem KMap.of {w w' : World} {M R : Nat} (h : KMap w M R) (e : w'.heap[M]? = w.heap[M]?) : KMap w' M R := by
  obtain ⟨D, ⟨es, clock, hb, r⟩, hD⟩ := h
  exact ⟨D, ⟨es, clock, e.trans hb, r⟩, hD⟩
theorem KMap.below {w w' : World} {M R : Nat} (h : KMap w M R) (hb : Below w.heap.size w w') : KMap w' M R := h.of (hb.block M h.lt)

def KindsPost (R : Nat) (w : World) (e : Ending) (w' : World) : Prop := ∃ M, e = .returned (.map (some M)) ∧ w.heap.size ≤ M ∧ KMap w' M R ∧ Below w.heap.size w w'

/-- While some of the words are not yet in the map. -/
def KJ (M R : Nat) (w0 : World) (rem : List Nat) (w : World) : Prop := rem.Nodup ∧ (∀ x ∈ rem, x ∈ [5, 10, 15, 20, 25]) ∧ ∃ D n, n + rem.length = 5 ∧ w.ownsMap Tryz.prog 9 (kfElem R) M n D ∧ KeepsK D (fun k => !(rem.contains (5 * k))) ∧ Below w0.heap.size w0 w ∧ w0.heap.size ≤ M

theorem exec_ins {a : Act} {o : Oper} {w w' : World} (t : TypeId) (m k x : Operand) (vm vk vx : Value) (ho : o.op = .insert t m k x) (hm : a.eval m = vm) (hk : a.eval k = vk) (hx : a.eval x = vx) (hr : (Instr.mapUpdate t vm vk vx).run Tryz.prog w = .ok () w') : (execOp a.eval o).run Tryz.prog w = .ok .skip w' := by
  unfold execOp
  simp only [ho, hm, hk, hx, Sem.run_bind, Sem.run_pure, Result.andThen_ok, hr]

theorem words_at (k : Nat) (h : k < 6) (w : World) (hw : KWds w) : w.cell? ⟨0, k, none⟩ = some (.string (kwB k)) := hw k h
theorem kwB_size (k : Nat) : (kwB k).size ≤ maxLen := by unfold kwB maxLen; split <;> decide

theorem kj_step {M R : Nat} {w0 w : World} {rem : List Nat} {k : Nat} (h1 : 1 ≤ k) (h5 : k ≤ 5) (hk : 5 * k ∈ rem) (h : KJ M R w0 rem w) :
    ∃ w', (Instr.mapUpdate 118 (.map (some M)) (.string (kwB k)) (kfV R k)).run Tryz.prog w = .ok () w' ∧ KJ M R w0 (rem.erase (5 * k)) w' ∧ w.grownBy w' (some M) := by
  obtain ⟨hn, hin, D, n, hl, hown, hD, hB, hM⟩ := h
  obtain ⟨w', hrun, hown', hg⟩ := hown.update keyLaw Tryz.underlying118 (by unfold maxLen; omega) (keyName (kwB_size k)) (kfElem_mk R k)
  refine ⟨w', hrun, ⟨hn.erase _, fun x hx => hin x (List.mem_of_mem_erase hx), _, n + 1, ?_, hown', ?_, hB.grown hg hB.size (fun r e => by cases e; exact hM), hM⟩, hg⟩
  · rw [List.length_erase_of_mem hk]
    have := List.length_pos_of_mem hk
    omega
  · have := keepsK_add h1 h5 hD hown.isMap
    refine ⟨fun s => ?_, fun j j1 j5 hj z => ?_⟩
    · refine (this.1 s).trans (congrArg (fun b => decide (1 ≤ kwI s) && b) ?_)
      show (!rem.contains (5 * kwI s) || kwI s == k) = !(rem.erase (5 * k)).contains (5 * kwI s)
      by_cases e : kwI s = k
      · have : ¬ (5 * k) ∈ rem.erase (5 * k) := fun hm => hn.not_mem_erase hm
        simp [e, this]
      · have e2 : (kwI s == k) = false := beq_eq_false_iff_ne.2 e
        have e3 : (rem.erase (5 * k)).contains (5 * kwI s) = rem.contains (5 * kwI s) := by
          rw [Bool.eq_iff_iff, List.contains_iff_mem, List.contains_iff_mem]
          exact List.mem_erase_of_ne (by omega)
        rw [e3, e2, Bool.or_false]
    · refine this.2 j j1 j5 ?_ z
      by_cases e : j = k
      · subst e; simp
      · have e3 : (rem.erase (5 * k)).contains (5 * j) = rem.contains (5 * j) := by
          rw [Bool.eq_iff_iff, List.contains_iff_mem, List.contains_iff_mem]
          exact List.mem_erase_of_ne (by omega)
        simp only [e3] at hj
        simp only [hj, Bool.true_or]
theorem kj_done {M R : Nat} {w0 w : World} (h : KJ M R w0 [] w) : KMap w M R ∧ Below w0.heap.size w0 w := by
  obtain ⟨_, _, D, n, hl, hown, hD, hB, hM⟩ := h
  simp at hl
  subst hl
  exact ⟨⟨D, hown, hD⟩, hB⟩

set_option maxRecDepth 100000 in
set_option maxHeartbeats 2000000 in
theorem kinds_any (R : Nat) (w : World) (hw : KWds w) :
    Calls Tryz.prog 59 #[.pointer (some ⟨R, 0, none⟩)] w (KindsPost R w) := by
  have hmm := @run_makeMap Tryz.prog
  have hpos := hw.pos
  go_enter Tryz.func59, Tryz.ntmps59
  go_wp2_with fail
  refine wp_region_noPanic ?_
  refine wp_region_bag [(1, true), (2, true), (3, true), (4, true), (6, true), (7, true), (8, true), (9, true), (11, true), (12, true), (13, true), (14, true), (16, true), (17, true), (18, true), (19, true), (21, true), (22, true), (23, true), (24, true), (0, false)] [5, 10, 15, 20, 25] [(26, true), (27, true)] (fun W' => KWds W') (by kernel_rfl) (by kernel_rfl) (fun _ _ _ _ _ h => h) hw ?_
  iterate 20
    refine PickedC.take ?_ (by rfl) (by rfl) ?_ ?_
    rotate_left
    · intro w' hw'
      have c1 := hw' 1 (by omega)
      have c2 := hw' 2 (by omega)
      have c3 := hw' 3 (by omega)
      have c4 := hw' 4 (by omega)
      have c5 := hw' 5 (by omega)
      go_simp
      try with_reducible rfl
    simp only [Act.put, List.getElem_toArray, List.getElem_cons_zero, List.getElem_cons_succ, List.setIfInBounds_toArray, List.set_cons_zero, List.set_cons_succ]
  have hB1 : Below w.heap.size w (w.drew.alloc (.map #[] 0)) := (Below.refl _ w).drew.alloc (Nat.le_refl _) _
  refine PickedC.make (w1 := w.drew.alloc (.map #[] 0)) (.map (some w.heap.size)) (by rfl) (by rfl) ?_ (hw.on hB1) ?_
  · have := hmm 118 w.drew
    go_simp
  simp only [Act.put, List.getElem_toArray, List.getElem_cons_zero, List.setIfInBounds_toArray, List.set_cons_zero, List.set_cons_succ]
  refine ⟨KJ w.heap.size R w, ?_, ?_, ?_⟩
  · exact ⟨by decide, fun x hx => hx, .map [], 0, rfl, World.ownsMap_made w.drew Tryz.prog 9 (kfElem R), ⟨fun s => by
      rw [keepsK_nil.1 s]
      by_cases h0 : 1 ≤ kwI s
      · have h5 := (kwI_of (s := s) rfl h0).1
        have : kwI s = 1 ∨ kwI s = 2 ∨ kwI s = 3 ∨ kwI s = 4 ∨ kwI s = 5 := by omega
        rcases this with e | e | e | e | e <;> rw [e] <;> rfl
      · simp [h0], fun k k1 k5 hk => by
      have : k = 1 ∨ k = 2 ∨ k = 3 ∨ k = 4 ∨ k = 5 := by omega
      rcases this with rfl | rfl | rfl | rfl | rfl <;> simp at hk⟩, hB1, Nat.le_refl _⟩
  · intro rem k W hk hJ hS
    have hin := hJ.2.1 k hk
    have fin : ∀ j, 1 ≤ j → j ≤ 5 → 5 * j = k → ∃ W', (Instr.mapUpdate 118 (.map (some w.heap.size)) (.string (kwB j)) (kfV R j)).run Tryz.prog W = .ok () W' ∧ KWds W' ∧ KJ w.heap.size R w (rem.erase k) W' := by
      intro j j1 j5 e
      subst e
      obtain ⟨W', h1, h2, h3⟩ := kj_step j1 j5 hk hJ
      have h4 := h2
      obtain ⟨_, _, _, _, _, _, _, hB', _⟩ := h4
      exact ⟨W', h1, hw.on hB', h2⟩
    simp only [List.mem_cons, List.not_mem_nil, or_false] at hin
    rcases hin with rfl | rfl | rfl | rfl | rfl
    · obtain ⟨W', h1, h2, h3⟩ := fin 1 (by omega) (by omega) rfl
      exact ⟨_, rfl, by rfl, bag_run (exec_ins _ _ _ _ (.map (some w.heap.size)) (.string (kwB 1)) (kfV R 1) rfl rfl rfl rfl h1) rfl ⟨h2, rfl, h3⟩⟩
    · obtain ⟨W', h1, h2, h3⟩ := fin 2 (by omega) (by omega) rfl
      exact ⟨_, rfl, by rfl, bag_run (exec_ins _ _ _ _ (.map (some w.heap.size)) (.string (kwB 2)) (kfV R 2) rfl rfl rfl rfl h1) rfl ⟨h2, rfl, h3⟩⟩
    · obtain ⟨W', h1, h2, h3⟩ := fin 3 (by omega) (by omega) rfl
      exact ⟨_, rfl, by rfl, bag_run (exec_ins _ _ _ _ (.map (some w.heap.size)) (.string (kwB 3)) (kfV R 3) rfl rfl rfl rfl h1) rfl ⟨h2, rfl, h3⟩⟩
    · obtain ⟨W', h1, h2, h3⟩ := fin 4 (by omega) (by omega) rfl
      exact ⟨_, rfl, by rfl, bag_run (exec_ins _ _ _ _ (.map (some w.heap.size)) (.string (kwB 4)) (kfV R 4) rfl rfl rfl rfl h1) rfl ⟨h2, rfl, h3⟩⟩
    · obtain ⟨W', h1, h2, h3⟩ := fin 5 (by omega) (by omega) rfl
      exact ⟨_, rfl, by rfl, bag_run (exec_ins _ _ _ _ (.map (some w.heap.size)) (.string (kwB 5)) (kfV R 5) rfl rfl rfl rfl h1) rfl ⟨h2, rfl, h3⟩⟩
  · intro W hJ hS
    obtain ⟨hKM, hB⟩ := kj_done hJ
    iterate 2
      refine Picked.take ?_ (by rfl) (by rfl) ?_ ?_
      rotate_left
      · intro w' hw'
        go_simp
        try with_reducible rfl
      simp only [Act.put, List.getElem_toArray, List.getElem_cons_zero, List.getElem_cons_succ, List.setIfInBounds_toArray, List.set_cons_zero, List.set_cons_succ]
    refine NoPanic.normal ?_
    go_wp2
    go_ret
    exact ⟨_, rfl, Nat.le_refl _, hKM, hB⟩
end Go.Proofs.YtpdbkjnaicjfdaaGreatDoor
