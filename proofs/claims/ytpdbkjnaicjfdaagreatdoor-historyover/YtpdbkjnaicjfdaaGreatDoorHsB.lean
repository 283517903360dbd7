/- Desks, as the world has them; New, made. -/
import Derived.Test.YtpdbkjnaicjfdaaGreatDoorHsPlain
import Derived.Test.YtpdbkjnaicjfdaaGreatDoorHsA
import Derived.Test.YtpdbkjnaicjfdaaGreatDoorGs
namespace Go.Proofs.YtpdbkjnaicjfdaaGreatDoor
open Go.RowKit Go.Maps
set_option linter.unusedVariables false
set_option maxRecDepth 100000

/-- Where a desk lies: its box, its two maps, its two orders, its things' boxes. -/
structure Lay where
  B : Nat
  M1 : Nat
  M2 : Nat
  v1 : Value
  v2 : Value
  bs : List Nat
  ls : List Nat
def foot (L : Lay) (k : Nat) : Prop := k = L.B ∨ regF L.M1 L.v1 L.bs k ∨ regF L.M2 L.v2 L.ls k
def deskC (L : Lay) (d : Dk) : Array Value := #[.pointer (some ⟨L.B, 0, none⟩), .map (some L.M1), L.v1, .map (some L.M2), L.v2, .int .i64 d.evs, .int .i64 d.ops]
def obC (x : Ob) : Array Value := #[.string x.1, .int .i64 x.2]
def lfC (x : Lf) : Array Value := #[.string x.nm, .int .i64 x.bg, .int .i64 x.en, .bool x.cm, .int .i64 x.ops]
structure DskB (w : World) (lo : Nat) (L : Lay) (d : Dk) : Prop where
  box : Holds w L.B tDk (deskC L d)
  hB : lo ≤ L.B
  ob : Reg w lo pOb tOb L.M1 L.v1 (onm d) L.bs (d.obs.map obC)
  tr : Reg w lo pLf tLf L.M2 L.v2 (tnm d) L.ls (d.trs.map lfC)
  hM : L.M1 ≠ L.M2
structure Dsk (w : World) (lo : Nat) (L : Lay) (d : Dk) : Prop extends DskB w lo L d where
  ok : DkOk d
  few : d.evs ≤ 100
theorem DskB.kept {w w' : World} {lo : Nat} {L : Lay} {d : Dk} (h : DskB w lo L d) (hk : ∀ k, k < w.heap.size → foot L k → w'.heap[k]? = w.heap[k]?) : DskB w' lo L d :=
  ⟨h.box.of (hk _ h.box.lt (.inl rfl)), h.hB, h.ob.kept (fun k hl hf => hk k hl (.inr (.inl hf))), h.tr.kept (fun k hl hf => hk k hl (.inr (.inr hf))), h.hM⟩
theorem DskB.below {w w' : World} {lo : Nat} {L : Lay} {d : Dk} (h : DskB w lo L d) (hk : Below w.heap.size w w') : DskB w' lo L d := h.kept fun k hl _ => hk.block k hl
theorem Dsk.kept {w w' : World} {lo : Nat} {L : Lay} {d : Dk} (h : Dsk w lo L d) (hk : ∀ k, k < w.heap.size → foot L k → w'.heap[k]? = w.heap[k]?) : Dsk w' lo L d := ⟨h.toDskB.kept hk, h.ok, h.few⟩
theorem Dsk.below {w w' : World} {lo : Nat} {L : Lay} {d : Dk} (h : Dsk w lo L d) (hk : Below w.heap.size w w') : Dsk w' lo L d := h.kept fun k hl _ => hk.block k hl
theorem Dsk.lt {w : World} {lo : Nat} {L : Lay} {d : Dk} (h : Dsk w lo L d) : ∀ k, foot L k → lo ≤ k ∧ k < w.heap.size := by
  rintro k (rfl | hf | hf)
  · exact ⟨h.hB, h.box.lt⟩
  · exact h.ob.lt k hf
  · exact h.tr.lt k hf
theorem Reg.mono {w : World} {lo lo' : Nat} {pt tt : TypeId} {M : Nat} {v : Value} {ns : List ByteArray} {bs : List Nat} {cs : List (Array Value)} (h : Reg w lo pt tt M v ns bs cs) (hl : lo' ≤ lo) : Reg w lo' pt tt M v ns bs cs :=
  ⟨row_mono h.row hl, h.map, Nat.le_trans hl h.hM, h.nl, h.cl, h.nd, h.bd, fun i b c hb hc => ⟨Nat.le_trans hl (h.box i b c hb hc).1, (h.box i b c hb hc).2⟩⟩
theorem Dsk.mono {w : World} {lo lo' : Nat} {L : Lay} {d : Dk} (h : Dsk w lo L d) (hl : lo' ≤ lo) : Dsk w lo' L d :=
  ⟨⟨h.box, Nat.le_trans hl h.hB, h.ob.mono hl, h.tr.mono hl, h.hM⟩, h.ok, h.few⟩
theorem desk_cells {w : World} {lo : Nat} {L : Lay} {d : Dk} (h : Dsk w lo L d) :
    w.cell? ⟨L.B, 0, none⟩ = some (.pointer (some ⟨L.B, 0, none⟩)) ∧ w.cell? ⟨L.B, 1, none⟩ = some (.map (some L.M1)) ∧ w.cell? ⟨L.B, 2, none⟩ = some L.v1 ∧ w.cell? ⟨L.B, 3, none⟩ = some (.map (some L.M2)) ∧
    w.cell? ⟨L.B, 4, none⟩ = some L.v2 ∧ w.cell? ⟨L.B, 5, none⟩ = some (.int .i64 d.evs) ∧ w.cell? ⟨L.B, 6, none⟩ = some (.int .i64 d.ops) ∧ ∀ j, w.frozen? ⟨L.B, j, none⟩ = false :=
  ⟨h.box.c rfl, h.box.c rfl, h.box.c rfl, h.box.c rfl, h.box.c rfl, h.box.c rfl, h.box.c rfl, fun j => h.box.frozen j⟩

/-- The object, the life of a name, where it lies. -/
theorem Dsk.obOf {w : World} {lo : Nat} {L : Lay} {d : Dk} (h : Dsk w lo L d) (s : ByteArray) : (obAt d s = none ∧ L.bs[(onm d).idxOf s]? = none) ∨ ∃ x b, obAt d s = some x ∧ L.bs[(onm d).idxOf s]? = some b ∧ Holds w b tOb (obC x) ∧ (onm d)[(onm d).idxOf s]? = some x.1 := by
  have e : obAt d s = d.obs[(onm d).idxOf s]? := find_idx Prod.fst s d.obs
  have hl : d.obs.length = L.bs.length := by have := h.ob.nl; unfold onm at this; rwa [List.length_map] at this
  rcases Nat.lt_or_ge ((onm d).idxOf s) d.obs.length with k | k
  · refine .inr ⟨d.obs[(onm d).idxOf s], L.bs[(onm d).idxOf s]'(by omega), by rw [e]; exact List.getElem?_eq_getElem k, List.getElem?_eq_getElem _, ?_, ?_⟩
    · exact (h.ob.box _ _ (obC d.obs[(onm d).idxOf s]) (List.getElem?_eq_getElem (by omega)) (by rw [List.getElem?_map, List.getElem?_eq_getElem k]; rfl)).2
    · conv => lhs; arg 1; unfold onm
      rw [List.getElem?_map, List.getElem?_eq_getElem k]; rfl
  · exact .inl ⟨by rw [e]; exact List.getElem?_eq_none k, List.getElem?_eq_none (by omega)⟩
theorem Dsk.lfOf {w : World} {lo : Nat} {L : Lay} {d : Dk} (h : Dsk w lo L d) (s : ByteArray) : (lfAt d s = none ∧ L.ls[(tnm d).idxOf s]? = none) ∨ ∃ x b, lfAt d s = some x ∧ L.ls[(tnm d).idxOf s]? = some b ∧ Holds w b tLf (lfC x) ∧ d.trs[(tnm d).idxOf s]? = some x ∧ x.nm = s := by
  have e : lfAt d s = d.trs[(tnm d).idxOf s]? := find_idx Lf.nm s d.trs
  have hl : d.trs.length = L.ls.length := by have := h.tr.nl; unfold tnm at this; rwa [List.length_map] at this
  rcases Nat.lt_or_ge ((tnm d).idxOf s) d.trs.length with k | k
  · refine .inr ⟨d.trs[(tnm d).idxOf s], L.ls[(tnm d).idxOf s]'(by omega), by rw [e]; exact List.getElem?_eq_getElem k, List.getElem?_eq_getElem _, ?_, List.getElem?_eq_getElem k, ?_⟩
    · exact (h.tr.box _ _ (lfC d.trs[(tnm d).idxOf s]) (List.getElem?_eq_getElem (by omega)) (by rw [List.getElem?_map, List.getElem?_eq_getElem k]; rfl)).2
    · have h2 : lfAt d s = some d.trs[(tnm d).idxOf s] := by rw [e]; exact List.getElem?_eq_getElem k
      have := List.find?_some h2
      simpa using this
  · exact .inl ⟨by rw [e]; exact List.getElem?_eq_none k, List.getElem?_eq_none (by omega)⟩

/-- What a registry's blocks are. -/
theorem Reg.kind {w : World} {lo : Nat} {pt tt : TypeId} {M : Nat} {v : Value} {ns : List ByteArray} {bs : List Nat} {cs : List (Array Value)} (h : Reg w lo pt tt M v ns bs cs) {k : Nat} (hf : regF M v bs k) :
    (k = M ∧ ∃ es clock, w.heap[k]? = some (.map es clock)) ∨ ∃ cs t m, w.heap[k]? = some (.cells cs t m) ∧ (t = pt ∨ t = tt) := by
  rcases hf with rfl | e | hk
  · exact .inl ⟨rfl, h.mapAt⟩
  · rcases h.row.2 with ⟨e', _⟩ | ⟨g, cap, cur, e', _, hg, _⟩
    · rw [e'] at e; cases e
    · rw [e'] at e
      have : g = k := Option.some.inj e
      subst this
      exact .inr ⟨_, _, _, hg, .inl rfl⟩
  · obtain ⟨i, c, _, _, _, hH⟩ := h.boxB hk
    exact .inr ⟨_, _, _, hH, .inr rfl⟩
theorem Reg.disj {w : World} {lo : Nat} {pt tt : TypeId} {M : Nat} {v : Value} {ns : List ByteArray} {bs : List Nat} {cs : List (Array Value)} (h : Reg w lo pt tt M v ns bs cs)
    {lo' : Nat} {pt' tt' : TypeId} {M' : Nat} {v' : Value} {ns' : List ByteArray} {bs' : List Nat} {cs' : List (Array Value)} (h' : Reg w lo' pt' tt' M' v' ns' bs' cs') (hM : M ≠ M') (h1 : pt ≠ pt') (h2 : pt ≠ tt') (h3 : tt ≠ pt') (h4 : tt ≠ tt') {k : Nat} (hf : regF M v bs k) : ¬ regF M' v' bs' k := by
  intro hf'
  rcases h.kind hf with ⟨e, es, clock, hm⟩ | ⟨cs1, t, m, hc, ht⟩
  · rcases h'.kind hf' with ⟨e', _⟩ | ⟨cs2, t2, m2, hc2, _⟩
    · exact hM (e.symm.trans e')
    · rw [hm] at hc2; cases hc2
  · rcases h'.kind hf' with ⟨_, es, clock, hm⟩ | ⟨cs2, t2, m2, hc2, ht2⟩
    · rw [hm] at hc; cases hc
    · rw [hc] at hc2
      have e : t = t2 := by injection hc2 with hc2; injection hc2
      subst e
      rcases ht with rfl | rfl <;> rcases ht2 with e | e
      · exact h1 e
      · exact h2 e
      · exact h3 e
      · exact h4 e
/-- An object more. -/
theorem DskB.addOb {w w' : World} {lo : Nat} {L : Lay} {d : Dk} (h : DskB w lo L d) {nm : ByteArray} {kd : Int} {v' : Value} {b : Nat} (hr : Reg w' lo pOb tOb L.M1 v' (onm d ++ [nm]) (L.bs ++ [b]) (d.obs.map obC ++ [#[.string nm, .int .i64 kd]]))
    (hH : Holds w' L.B tDk ((deskC L d).setIfInBounds 2 v')) (hbut : But (fun k => k = L.B ∨ k = L.M1 ∨ L.v1.ownBlock = some k) w w') : DskB w' lo ⟨L.B, L.M1, L.M2, v', L.v2, L.bs ++ [b], L.ls⟩ ⟨d.obs ++ [(nm, kd)], d.trs, d.evs, d.ops⟩ := by
  refine ⟨hH, h.hB, ?_, ?_, h.hM⟩
  · have e1 : onm ⟨d.obs ++ [(nm, kd)], d.trs, d.evs, d.ops⟩ = onm d ++ [nm] := by unfold onm; rw [List.map_append]; rfl
    have e2 : (d.obs ++ [(nm, kd)]).map obC = d.obs.map obC ++ [#[.string nm, .int .i64 kd]] := by rw [List.map_append]; rfl
    rw [e1]
    show Reg w' lo pOb tOb L.M1 v' (onm d ++ [nm]) (L.bs ++ [b]) ((d.obs ++ [(nm, kd)]).map obC)
    rw [e2]; exact hr
  · refine h.tr.kept fun k hl hf => hbut.block k hl ?_
    rintro (rfl | rfl | e)
    · exact h.tr.apart h.box (by decide) (by decide) hf
    · exact h.tr.disj h.ob (fun e => h.hM e.symm) (by decide) (by decide) (by decide) (by decide) hf (.inl rfl)
    · exact h.tr.disj h.ob (fun e => h.hM e.symm) (by decide) (by decide) (by decide) (by decide) hf (.inr (.inl e))
theorem DskB.addLf {w w' : World} {lo : Nat} {L : Lay} {d : Dk} (h : DskB w lo L d) {x : Lf} {v' : Value} {b : Nat} (hr : Reg w' lo pLf tLf L.M2 v' (tnm d ++ [x.nm]) (L.ls ++ [b]) (d.trs.map lfC ++ [lfC x]))
    (hH : Holds w' L.B tDk ((deskC L d).setIfInBounds 4 v')) (hbut : But (fun k => k = L.B ∨ k = L.M2 ∨ L.v2.ownBlock = some k) w w') : DskB w' lo ⟨L.B, L.M1, L.M2, L.v1, v', L.bs, L.ls ++ [b]⟩ ⟨d.obs, d.trs ++ [x], d.evs, d.ops⟩ := by
  refine ⟨hH, h.hB, ?_, ?_, h.hM⟩
  · refine h.ob.kept fun k hl hf => hbut.block k hl ?_
    rintro (rfl | rfl | e)
    · exact h.ob.apart h.box (by decide) (by decide) hf
    · exact h.ob.disj h.tr h.hM (by decide) (by decide) (by decide) (by decide) hf (.inl rfl)
    · exact h.ob.disj h.tr h.hM (by decide) (by decide) (by decide) (by decide) hf (.inr (.inl e))
  · have e1 : tnm ⟨d.obs, d.trs ++ [x], d.evs, d.ops⟩ = tnm d ++ [x.nm] := by unfold tnm; rw [List.map_append]; rfl
    have e2 : (d.trs ++ [x]).map lfC = d.trs.map lfC ++ [lfC x] := by rw [List.map_append]; rfl
    rw [e1]
    show Reg w' lo pLf tLf L.M2 v' (tnm d ++ [x.nm]) (L.ls ++ [b]) ((d.trs ++ [x]).map lfC)
    rw [e2]; exact hr
/-- A life turns. -/
theorem DskB.setLf {w w' : World} {lo : Nat} {L : Lay} {d : Dk} (h : DskB w lo L d) {i b : Nat} {x x' : Lf} (hb : L.ls[i]? = some b) (hx : d.trs[i]? = some x) (hn : x'.nm = x.nm) (hO : Only b w w') (hH : Holds w' b tLf (lfC x')) : DskB w' lo L ⟨d.obs, d.trs.set i x', d.evs, d.ops⟩ := by
  have hc : (d.trs.map lfC)[i]? = some (lfC x) := by rw [List.getElem?_map, hx]; rfl
  obtain ⟨_, hHb⟩ := h.tr.box i b _ hb hc
  have hbm : regF L.M2 L.v2 L.ls b := .inr (.inr (List.mem_of_getElem? hb))
  refine ⟨?_, h.hB, ?_, ?_, h.hM⟩
  · refine h.box.of (hO.block _ h.box.lt (fun e => ?_))
    exact h.tr.apart h.box (by decide) (by decide) (e ▸ hbm)
  · refine h.ob.kept fun k hl hf => hO.block k hl (fun e => ?_)
    exact h.ob.disj h.tr h.hM (by decide) (by decide) (by decide) (by decide) hf (e ▸ hbm)
  · have e1 : tnm ⟨d.obs, d.trs.set i x', d.evs, d.ops⟩ = tnm d := by
      unfold tnm
      apply List.ext_getElem?
      intro j
      show ((d.trs.set i x').map Lf.nm)[j]? = _
      rw [List.getElem?_map, List.getElem?_map, List.getElem?_set]
      by_cases e : i = j
      · subst e
        rw [if_pos rfl, if_pos (List.getElem?_eq_some_iff.1 hx).1, hx]; simp [hn]
      · rw [if_neg e]
    have e2 : (d.trs.set i x').map lfC = (d.trs.map lfC).set i (lfC x') := List.map_set
    rw [e1]
    show Reg w' lo pLf tLf L.M2 L.v2 (tnm d) L.ls ((d.trs.set i x').map lfC)
    rw [e2]
    exact h.tr.set (by decide) hb hc hO hH
/-- The counters turn. -/
theorem DskB.counts {w w' : World} {lo : Nat} {L : Lay} {d : Dk} (h : DskB w lo L d) (n m : Nat) (hO : Only L.B w w') (hH : Holds w' L.B tDk (deskC L ⟨d.obs, d.trs, n, m⟩)) : DskB w' lo L ⟨d.obs, d.trs, n, m⟩ := by
  refine ⟨hH, h.hB, ?_, ?_, h.hM⟩
  · exact h.ob.kept fun k hl hf => hO.block k hl (fun e => h.ob.apart h.box (by decide) (by decide) (e ▸ hf))
  · exact h.tr.kept fun k hl hf => hO.block k hl (fun e => h.tr.apart h.box (by decide) (by decide) (e ▸ hf))
def NewPost (w : World) (e : Ending) (w' : World) : Prop := ∃ L, e = .returned (.pointer (some ⟨L.B, 0, none⟩)) ∧ Dsk w' w.heap.size L dk0 ∧ Below w.heap.size w w'
set_option maxHeartbeats 1000000 in
theorem new_any (w : World) : Calls Tryz.prog 23 #[] w (NewPost w) := by
  have HO := fun W => open_O W
  have HL := fun W => open_L W
  unfold OpenPost at HO HL
  go_enter Tryz.func23, Tryz.ntmps23
  go_wp2_with fail
  refine (HO _).mono ?_
  rintro e w1 ⟨M1, rfl, hR1, hB1⟩
  go_wp2_with fail
  refine (HL _).mono ?_
  rintro e w2 ⟨M2, rfl, hR2, hB2⟩
  have HR1 := Lib.hid (hR1.below hB2)
  have HR2 := Lib.hid hR2
  have hM1 := (hR1.lt M1 (.inl rfl)).2
  have hM2 := hR2.hM
  clear hR1 hR2
  go_wp2
  go_ret
  have hB3 := hB1.trans (hB2.mono hB1.size)
  have hs : w.heap.size ≤ w2.heap.size := hB3.size
  refine ⟨⟨w2.heap.size, M1, M2, .slice none 0 0, .slice none 0 0, [], []⟩, rfl, ⟨⟨Holds.new w2 tDk _, hs, HR1.out.below ((Below.refl _ _).alloc (Nat.le_refl _) _), (HR2.out.mono hB1.size).below ((Below.refl _ _).alloc (Nat.le_refl _) _), by show M1 ≠ M2; omega⟩, dk0_ok, by decide⟩, ?_⟩
  exact hB3.alloc hs _

theorem eql_same (w : World) (a : Addr) : (binOp .eql 39 (.pointer (some a)) (.pointer (some a))).run Tryz.prog w = .ok (.bool true) w := by
  have hz : (Go.sizeOf 71).run Tryz.prog w = .ok 7 w := by kernel_rfl
  have hu : (underlying 39).run Tryz.prog w = .ok (.pointer 71) w := run_underlying Tryz.underlying39 w
  have h1 : (Op.equalIn (9999 + 1) 39 (.pointer (some a)) (.pointer (some a))).run Tryz.prog w = .ok true w := by
    rw [Op.equalIn]
    simp [hu, hz, run_sameAddr_same]
  have h2 : (Op.equal 39 (.pointer (some a)) (.pointer (some a))).run Tryz.prog w = .ok true w := h1
  simp only [binOp]
  simp [h2]
theorem eql_none (w : World) (a : Addr) : (binOp .eql 39 (.pointer none) (.pointer (some a))).run Tryz.prog w = .ok (.bool false) w := by
  have hu : (underlying 39).run Tryz.prog w = .ok (.pointer 71) w := run_underlying Tryz.underlying39 w
  have h1 : (Op.equalIn (9999 + 1) 39 (.pointer none) (.pointer (some a))).run Tryz.prog w = .ok false w := by
    rw [Op.equalIn]
    simp [hu]
  have h2 : (Op.equal 39 (.pointer none) (.pointer (some a))).run Tryz.prog w = .ok false w := h1
  simp only [binOp]
  simp [h2]
def Made (b : Bool) (w : World) (e : Ending) (w' : World) : Prop := e = .returned (.bool b) ∧ w = w'
theorem made_yes (B : Nat) (w : World) (h : w.cell? ⟨B, 0, none⟩ = some (.pointer (some ⟨B, 0, none⟩))) : Calls Tryz.prog 48 #[.pointer (some ⟨B, 0, none⟩)] w (Made true w) := by
  have he := eql_same
  go_enter Tryz.func48, Tryz.ntmps48
  go_wp2
  go_ret
  exact ⟨rfl, rfl⟩
theorem made_nil (w : World) : Calls Tryz.prog 48 #[.pointer none] w (Made false w) := by
  go_enter Tryz.func48, Tryz.ntmps48
  go_wp2
  go_ret
  exact ⟨rfl, rfl⟩
theorem made_no (B : Nat) (w : World) (h : w.cell? ⟨B, 0, none⟩ = some (.pointer none)) : Calls Tryz.prog 48 #[.pointer (some ⟨B, 0, none⟩)] w (Made false w) := by
  have he := eql_none
  go_enter Tryz.func48, Tryz.ntmps48
  go_wp2
  go_ret
  exact ⟨rfl, rfl⟩
theorem len_any {lo : Nat} {L : Lay} {d : Dk} (w : World) (h : Dsk w lo L d) : Calls Tryz.prog 24 #[.pointer (some ⟨L.B, 0, none⟩)] w fun e w' => e = .returned (.int .i64 d.evs) ∧ w = w' := by
  obtain ⟨c0, c1, c2, c3, c4, c5, c6, fz⟩ := desk_cells h
  have h0 := made_yes L.B w c0
  clear h
  go_enter Tryz.func24, Tryz.ntmps24
  go_wp2_with fail
  refine h0.mono ?_
  rintro e w1 ⟨rfl, rfl⟩
  go_wp2
  go_ret
  exact ⟨rfl, rfl⟩
theorem len_no (p : Option Addr) (w : World) (h0 : Calls Tryz.prog 48 #[.pointer p] w (Made false w)) : Calls Tryz.prog 24 #[.pointer p] w fun e w' => e = .returned (.int .i64 0) ∧ w = w' := by
  go_enter Tryz.func24, Tryz.ntmps24
  go_wp2_with fail
  refine h0.mono ?_
  rintro e w1 ⟨rfl, rfl⟩
  go_wp2
  go_ret
  exact ⟨rfl, rfl⟩
end Go.Proofs.YtpdbkjnaicjfdaaGreatDoor
