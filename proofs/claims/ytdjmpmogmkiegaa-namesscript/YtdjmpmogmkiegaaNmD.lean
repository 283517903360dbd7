/- Contracts of the layer names: Add. -/
import Derived.Test.YtdjmpmogmkiegaaNmC
import Derived.Deep.RegionHeld3
import Derived.OneCell
namespace Go.Proofs.Ytdjmpmogmkiegaa
open Go.RowKit Go.Maps
set_option linter.unusedVariables false

/-- What Add answers, and leaves (of a table that is not full). -/
def addE (ns : List ByteArray) (s : ByteArray) : Int := if nameB s then (if ns.contains s then 10 else 0) else 7
def addI (ns : List ByteArray) (s : ByteArray) : Nat := if addE ns s = 0 then ns.length else 0
def addN (ns : List ByteArray) (s : ByteArray) : List ByteArray := if addE ns s = 0 then ns ++ [s] else ns

theorem add_no {ns : List ByteArray} {s : ByteArray} (h : nameB s = false) : addE ns s = 7 ∧ addI ns s = 0 ∧ addN ns s = ns := by
  have e : addE ns s = 7 := by rw [addE, h]; rfl
  exact ⟨e, by rw [addI, e]; rfl, by rw [addN, e]; rfl⟩
theorem add_twice {ns : List ByteArray} {s : ByteArray} (h : nameB s = true) (hc : ns.contains s = true) : addE ns s = 10 ∧ addI ns s = 0 ∧ addN ns s = ns := by
  have e : addE ns s = 10 := by rw [addE, h, hc]; rfl
  exact ⟨e, by rw [addI, e]; rfl, by rw [addN, e]; rfl⟩
theorem add_new {ns : List ByteArray} {s : ByteArray} (h : nameB s = true) (hc : ns.contains s = false) : addE ns s = 0 ∧ addI ns s = ns.length ∧ addN ns s = ns ++ [s] := by
  have e : addE ns s = 0 := by rw [addE, h, hc]; rfl
  exact ⟨e, by rw [addI, e]; rfl, by rw [addN, e]; rfl⟩

def AddPost (lo B M : Nat) (v : Value) (ns : List ByteArray) (s : ByteArray) (w : World) (e : Ending) (w' : World) : Prop :=
  e = .returned (.tuple #[.int .i64 (addI ns s), .int .i64 (addE ns s)]) ∧ ∃ v', Tab w' lo B M v' (addN ns s) ∧ But (foot B M v) w w' ∧ (v'.ownBlock = v.ownBlock ∨ ∃ g, v'.ownBlock = some g ∧ w.heap.size ≤ g)

theorem info_parts {P : Program} {t : TypeId} {z : Option Value} {n b : Nat} (h : (P.info? t).map (fun i => (i.zero, i.size, i.bytes)) = some (z, n, b)) : ∃ i, P.info? t = some i ∧ i.zero = z ∧ i.size = n ∧ i.bytes = b := by
  cases hi : P.info? t with
  | none => rw [hi] at h; cases h
  | some i =>
    rw [hi] at h
    simp only [Option.map_some, Option.some.injEq, Prod.mk.injEq] at h
    exact ⟨i, rfl, h.1, h.2.1, h.2.2⟩
theorem info_str : (Try.prog.info? 9).map (fun i => (i.zero, i.size, i.bytes)) = some (some (.string ⟨#[]⟩), 1, 16) := by kernel_rfl

theorem keeps_add {D : DataW Unit} {ns : List ByteArray} {s : ByteArray} (h : Keeps D ns) (hD : IsMap D) (hc : ns.contains s = false) : Keeps (D.put (key s) (.lit (.int .i64 ns.length))) (ns ++ [s]) := by
  refine ⟨fun t => ?_, fun i t hi z => ?_⟩
  · by_cases e : t = s
    · subst e
      rw [has_put_same hD (by simp [WideAt.IsKeyLit, key])]
      simp
    · rw [has_put_other (fun e' => e (key_inj e')), h.1 t]
      simp [e]
  · rcases Nat.lt_or_ge i ns.length with hl | hl
    · rw [List.getElem?_append_left hl] at hi
      have hm : t ∈ ns := List.mem_of_getElem? hi
      have hne : t ≠ s := fun e => by
        subst e
        have : ns.contains t = true := by simpa using hm
        rw [this] at hc; cases hc
      rw [atKey_put_other (fun e' => hne (key_inj e'))]
      exact h.2 i t hi z
    · rw [List.getElem?_append_right hl] at hi
      have h0 : i - ns.length = 0 := by
        rcases Nat.eq_zero_or_pos (i - ns.length) with h0 | h0
        · exact h0
        · rw [List.getElem?_eq_none (by simp; omega)] at hi; cases hi
      rw [h0] at hi
      have hs : s = t := by simpa using hi
      subst hs
      have hi' : i = ns.length := by omega
      subst hi'
      exact atKey_put_same hD (by simp [WideAt.IsKeyLit, key]) _ _

theorem Tab.nodup_add {w : World} {lo B M : Nat} {v : Value} {ns : List ByteArray} {s : ByteArray} (h : Tab w lo B M v ns) (hc : ns.contains s = false) : (ns ++ [s]).Nodup := by
  rw [List.nodup_append]
  refine ⟨h.nodup, by simp, fun a ha b hb e => ?_⟩
  have hb' : b = s := by simpa using hb
  subst hb'
  subst e
  have : ns.contains a = true := by simpa using ha
  rw [this] at hc; cases hc

/-- The world behind Add's three steps: the map's store, the append, the store of the slice. -/
theorem tab_added {w3 w4 w5 : World} {lo B M : Nat} {v v' : Value} {ns : List ByteArray} {s : ByteArray} (h : Tab w3 lo B M v ns) (hname : nameB s = true) (hc : ns.contains s = false)
    (hm : ∃ D, w4.ownsMap Try.prog 9 entElem M (ns.length + 1) D ∧ Keeps D (ns ++ [s])) (hg4 : w3.grownBy w4 (some M))
    (hr : w5.ownsRow lo 9 1 v' (ns.length + 1) (texts ns ++ [.string s])) (hg5 : (w4.alloc (.cells #[.string s] 9)).grownBy w5 v.ownBlock) (hat : v'.ownBlock = v.ownBlock ∨ v'.ownBlock = some (w4.alloc (.cells #[.string s] 9)).heap.size) :
    Tab (w5.setCell ⟨B, 2, none⟩ v') lo B M v' (ns ++ [s]) ∧ But (foot B M v) w3 (w5.setCell ⟨B, 2, none⟩ v') ∧ (v'.ownBlock = v.ownBlock ∨ ∃ g, v'.ownBlock = some g ∧ w3.heap.size ≤ g) ∧
      w4.cell? ⟨B, 2, none⟩ = some v ∧ w5.cell? ⟨B, 2, none⟩ = some v ∧ w5.frozen? ⟨B, 2, none⟩ = false := by
  have hsz : (w4.alloc (.cells #[.string s] 9)).heap.size = w4.heap.size + 1 := by simp
  have hBl : B < w3.heap.size := lt_of_cell h.c0
  have hMl := (h.foot_lt M (.inr (.inl rfl))).2
  have h34 := hg4.size
  have eB4 : w4.heap[B]? = w3.heap[B]? := hg4.block B hBl (fun e => h.hBM (Option.some.inj e))
  have eA : ∀ k, k < w4.heap.size → (w4.alloc (.cells #[.string s] 9)).heap[k]? = w4.heap[k]? := fun k hk => Below.heap_alloc _ _ _ hk
  have eB5 : w5.heap[B]? = w3.heap[B]? := by
    rw [hg5.block B (by omega) (fun e => h.hvB e.symm), eA B (by omega), eB4]
  have eM5 : w5.heap[M]? = w4.heap[M]? := by
    rw [hg5.block M (by omega) (fun e => h.hvM e.symm), eA M (by omega)]
  have c (j : Nat) : w5.cell? ⟨B, j, none⟩ = w3.cell? ⟨B, j, none⟩ := World.cell?_of_block (a := ⟨B, j, none⟩) eB5
  have f2 : w5.frozen? ⟨B, 2, none⟩ = false := (World.frozen?_of_block (a := ⟨B, 2, none⟩) eB5).trans h.f2
  have hloc : v'.ownBlock = v.ownBlock ∨ ∃ g, v'.ownBlock = some g ∧ w3.heap.size ≤ g := hat.imp id (fun e => ⟨_, e, by omega⟩)
  have hvB : v'.ownBlock ≠ some B := by
    rcases hat with e | e
    · rw [e]; exact h.hvB
    · rw [e]; intro e'; have := Option.some.inj e'; omega
  have hvM : v'.ownBlock ≠ some M := by
    rcases hat with e | e
    · rw [e]; exact h.hvM
    · rw [e]; intro e'; have := Option.some.inj e'; omega
  refine ⟨⟨?_, ?_, ?_, ?_, h.hB, h.hM, h.hBM, hvB, hvM, ?_, ?_, h.nodup_add hc, ?_⟩, ?_, hloc, ?_, ?_, f2⟩
  · rw [World.cell?_setCell_other _ _ _ _ (by simp), c 0]; exact h.c0
  · rw [World.cell?_setCell_other _ _ _ _ (by simp), c 1]; exact h.c1
  · exact World.cell?_setCell_same _ _ _ ((c 2).trans h.c2)
  · rw [World.frozen?_setCell]; exact f2
  · have e1 : texts (ns ++ [s]) = texts ns ++ [.string s] := by simp [texts]
    rw [e1, List.length_append]
    exact ownsRow_setCell_other hr hvB _
  · obtain ⟨D, hD, hK⟩ := hm
    refine ⟨D, ?_, hK⟩
    rw [List.length_append]
    obtain ⟨es, clock, hb, r⟩ := hD
    exact ⟨es, clock, by rw [Below.heap_setCell _ _ _ _ (fun e => h.hBM e.symm), eM5]; exact hb, r⟩
  · intro t ht
    rcases List.mem_append.1 ht with ht | ht
    · exact h.names t ht
    · have : t = s := by simpa using ht
      subst this; exact hname
  · refine (But.trans (but_of_grown hg4 (fun k e => .inr (.inl (Option.some.inj e).symm))) ?_).trans (but_setCell _ _ _ (.inl rfl))
    have hb : But (foot B M v) w4 (w4.alloc (.cells #[.string s] 9)) := but_of_below ((Below.refl _ _).alloc (Nat.le_refl _) _)
    exact hb.trans (but_of_grown hg5 (fun k e => .inr (.inr e)))
  · rw [World.cell?_of_block (a := ⟨B, 2, none⟩) eB4]; exact h.c2
  · rw [c 2]; exact h.c2

theorem tab_c2 {w3 w4 : World} {lo B M : Nat} {v : Value} {ns : List ByteArray} (h : Tab w3 lo B M v ns) (hg4 : w3.grownBy w4 (some M)) : w4.cell? ⟨B, 2, none⟩ = some v :=
  hg4.cell h.c2 (fun e => h.hBM (Option.some.inj e))
theorem tab_row {w3 w4 : World} {lo B M : Nat} {v : Value} {ns : List ByteArray} (h : Tab w3 lo B M v ns) (hg4 : w3.grownBy w4 (some M)) : w4.ownsRow lo 9 1 v ns.length (texts ns) :=
  h.row.kept hg4 (.inr h.hvM)
theorem map_added {w4 : World} {M : Nat} {D : DataW Unit} {ns : List ByteArray} {s : ByteArray} (hK : Keeps D ns) (hD : IsMap D) (hc : ns.contains s = false) (h : w4.ownsMap Try.prog 9 entElem M (ns.length + 1) (D.put (key s) (.lit (.int .i64 ns.length)))) :
    ∃ D, w4.ownsMap Try.prog 9 entElem M (ns.length + 1) D ∧ Keeps D (ns ++ [s]) := ⟨_, h, keeps_add hK hD hc⟩
theorem form1 {w : World} {base m : Nat} {e : TypeId} {v v0 : Value} {xs : List Value} (h : w.ownsRow base e 1 v m xs) (hn : v = .slice none 0 0 ↔ v0 = .slice none 0 0 ∧ 1 = 0) : ∃ g cap, v = .slice (some ⟨g, 0, none⟩) m cap := by
  rcases h.2 with ⟨e', _⟩ | ⟨g', cap', cur, e', _⟩
  · have := (hn.1 e').2; cases this
  · exact ⟨g', cap', e'⟩

set_option maxHeartbeats 2000000 in
theorem add_any {lo B M : Nat} {v : Value} {ns : List ByteArray} (s : ByteArray) (w : World) (h : Tab w lo B M v ns) (hlo : lo ≤ w.heap.size) (hn : ns.length ≤ 1000) (hs : s.size ≤ 1000) :
    Calls Try.prog 12 #[.pointer (some ⟨B, 0, none⟩), .string s] w (AddPost lo B M v ns s w) := by
  have h0 := made_yes B w h.c0
  have hck := check_any s w hs
  have HT := Lib.hid h
  cases hname : nameB s with
  | false =>
    rw [checkE_no hname] at hck
    have HA := Lib.hid (add_no (ns := ns) hname)
    clear hname h
    go_enter Try.func12, Try.ntmps12
    go_wp2_with fail
    refine h0.mono ?_
    rintro e w1 ⟨rfl, rfl⟩
    go_wp2_with fail
    refine hck.mono ?_
    rintro e w1 ⟨rfl, hB⟩
    go_wp2
    go_ret2
    exact ⟨by rw [HA.out.1, HA.out.2.1]; rfl, v, by rw [HA.out.2.2]; exact HT.out.below hB, but_of_below hB, .inl rfl⟩
  | true =>
    rw [checkE_yes hname] at hck
    cases hc : ns.contains s with
    | true =>
      have HA := Lib.hid (add_twice hname hc)
      have HC := Lib.hid hc
      have hsm : s.size ≤ maxLen := by unfold maxLen; omega
      clear hname h hc
      go_enter Try.func12, Try.ntmps12
      go_wp2_with fail
      refine h0.mono ?_
      rintro e w1 ⟨rfl, rfl⟩
      go_wp2_with fail
      refine hck.mono ?_
      rintro e w1 ⟨rfl, hB⟩
      have hT1 := HT.out.below hB
      have c1 := hT1.c1
      have HM := Lib.hid hT1.map
      have HT1 := Lib.hid hT1
      clear hT1
      go_wp2_with (at_lookup; refine wpList_lookup_ent _ rfl _ _ 42 rfl Try.underlying42 M ns rfl HM.out s rfl hsm ?_; rw [HC.out])
      go_ret2
      exact ⟨by rw [HA.out.1, HA.out.2.1]; rfl, v, by rw [HA.out.2.2]; exact HT1.out.below ((Below.refl _ _).alloc (Nat.le_refl _) _), but_of_below (hB.alloc hB.size _), .inl rfl⟩
    | false =>
      have HA := Lib.hid (add_new hname hc)
      have HC := Lib.hid hc
      have HN := Lib.hid hname
      have hsm : s.size ≤ maxLen := by unfold maxLen; omega
      have hcl := fun W => clone_any s W (by omega)
      obtain ⟨A, c, hv⟩ := h.shape
      subst hv
      have k1 : decide ((5000 : Int) ≤ (ns.length : Int)) = false := decide_eq_false (by omega)
      clear hname h hc
      go_enter Try.func12, Try.ntmps12
      go_wp2_with fail
      refine h0.mono ?_
      rintro e w1 ⟨rfl, rfl⟩
      go_wp2_with fail
      refine hck.mono ?_
      rintro e w1 ⟨rfl, hB⟩
      have hT1 := HT.out.below hB
      have c1 := hT1.c1
      have c2 := hT1.c2
      have HM := Lib.hid hT1.map
      have HT1 := Lib.hid hT1
      clear hT1
      have hca : ∀ o, (w1.alloc o).cell? ⟨B, 2, none⟩ = some (.slice A ns.length c) := fun o => (World.cell?_alloc_lt w1 o ⟨B, 2, none⟩ (lt_of_cell c2)).trans c2
      go_wp2_with (at_lookup; refine wpList_lookup_ent _ rfl _ _ 42 rfl Try.underlying42 M ns rfl HM.out s rfl hsm ?_; rw [HC.out])
      obtain ⟨W2, hW2⟩ : ∃ W2, w1.alloc (Obj.cells #[Value.int IntKind.i64 (ofI ns s)] 51) = W2 := ⟨_, rfl⟩
      have hB2 : Below w1.heap.size w1 W2 := by rw [← hW2]; exact (Below.refl _ _).alloc (Nat.le_refl _) _
      have hT2 := HT1.out.below hB2
      have c2' := hT2.c2
      have hBl2 : B < W2.heap.size := lt_of_cell c2'
      have HT2 := Lib.hid hT2
      rw [hW2]
      clear hW2 hT2 c1 c2 HM HT1 HT hca h0 hck
      go_region_held3 (fun w' => w'.cell? ⟨B, 2, none⟩ = some (.slice A ns.length c)) (first | exact (hB3.cell (p := ⟨B, 2, none⟩) hBl2).trans c2' | go_keep) (first | (go_at_call 29; refine (hcl _).mono ?_; rintro e w3 ⟨rfl, hB3⟩))
      have hB3' : Below W2.heap.size W2 w3 := ((Below.refl _ W2).drew).trans hB3
      have hBf : Below w.heap.size w w3 := nxt (nxt hB hB2 hB.size) hB3' (Nat.le_trans hB.size hB2.size)
      have hT3 := HT2.out.below hB3'
      have c1 := hT3.c1
      obtain ⟨D, hD, hKp⟩ := hT3.map
      have HT3 := Lib.hid hT3
      have HD := Lib.hid hD
      have HK := Lib.hid hKp
      clear hT3 hD hKp HT2 c2' hBl2 hB2 hB3 hB3' hB hcl
      obtain ⟨i0, hi, hz0, hz1, hz2⟩ := info_parts info_str
      go_wp2_with (first
        | (at_mapUpdate; refine wpList_mapUpdate_own _ rfl _ _ _ 42 rfl 9 51 keyLaw Try.underlying42 entElem M ns.length D rfl HD.out (by unfold maxLen; omega) _ _ (key s) rfl rfl (keyName hsm) (.lit (.int .i64 ns.length)) [] (entElem_mk _) ?_; intro w4 hown4 hg4; have c24 := tab_c2 HT3.out hg4; have HM4 := Lib.hid (map_added HK.out HD.out.isMap HC.out hown4); have hrow4 := tab_row HT3.out hg4; have h34 := hg4.size; clear hown4)
        | (at_builtin; refine wpList_append_own_at _ rfl _ _ 22 rfl lo 9 i0 (.string ⟨#[]⟩) 1 16 Try.underlying22 hi hz0 hz1 hz2 rfl (by decide) _ _ _ rfl (hrow4.alloc _) ⟨w4.heap.size, 0, none⟩ 1 1 [.string s] rfl rfl (cell_one_new _ _ _) (by intro u hu; simp at hu; subst hu; rfl) (by unfold maxLen; omega) (by omega) (by simp; have := hBf.size; omega) ?_; intro v5 w5 hown5 hg5 hnil5 hat5; have HTA := Lib.hid (tab_added HT3.out HN.out HC.out HM4.out hg4 hown5 hg5 hat5); have c25 := HTA.out.2.2.2.2.1; have f25 := HTA.out.2.2.2.2.2; obtain ⟨g5, cap5, rfl⟩ := form1 hown5 hnil5))
      go_ret2
      obtain ⟨hTf, hButf, hlocf, _⟩ := HTA.out
      exact ⟨by rw [HA.out.1, HA.out.2.1]; rfl, _, by rw [HA.out.2.2]; exact hTf, (but_of_below hBf).trans hButf, hlocf.imp id (fun ⟨g, e, hg⟩ => ⟨g, e, Nat.le_trans hBf.size hg⟩)⟩
end Go.Proofs.Ytdjmpmogmkiegaa
