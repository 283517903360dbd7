/- A registry's calls: open, of, count, add. Written by wip/tools/gen_hsa.py. -/
import Derived.Test.YtpdbkjnaicjfdaaGreatDoorHsReg
import Derived.Deep.Cut
namespace Go.Proofs.YtpdbkjnaicjfdaaGreatDoor
open Go.RowKit Go.Maps
set_option linter.unusedVariables false

abbrev tOb : TypeId := 91
abbrev tLf : TypeId := 58
abbrev pOb : TypeId := 95
abbrev pLf : TypeId := 89
abbrev tDk : TypeId := 71
theorem info_pOb : (Tryz.prog.info? 95).map (fun i => (i.zero, i.size, i.bytes)) = some (some (.pointer none), 1, 8) := by kernel_rfl
theorem info_pLf : (Tryz.prog.info? 89).map (fun i => (i.zero, i.size, i.bytes)) = some (some (.pointer none), 1, 8) := by kernel_rfl
theorem zero_pOb (w : World) : (zeroValue 95).run Tryz.prog w = .ok (.pointer none) w := by kernel_rfl
theorem zero_pLf (w : World) : (zeroValue 89).run Tryz.prog w = .ok (.pointer none) w := by kernel_rfl
def AddRPost (lo : Nat) (pt tt : TypeId) (M : Nat) (v : Value) (ns : List ByteArray) (bs : List Nat) (cs : List (Array Value)) (B off : Nat) (dc : Array Value) (s : ByteArray) (c : Array Value) (w : World) (e : Ending) (w' : World) : Prop :=
  e = .returned (.tuple #[]) ∧ ∃ v', Reg w' lo pt tt M v' (ns ++ [s]) (bs ++ [w.heap.size]) (cs ++ [c]) ∧ Holds w' B tDk (dc.setIfInBounds off v') ∧ But (fun k => k = B ∨ k = M ∨ v.ownBlock = some k) w w' ∧ (v'.ownBlock = v.ownBlock ∨ ∃ g, v'.ownBlock = some g ∧ w.heap.size ≤ g)
def OpenPost (pt tt : TypeId) (w : World) (e : Ending) (w' : World) : Prop := ∃ M, e = .returned (.agg #[.map (some M), .slice none 0 0]) ∧ Reg w' w.heap.size pt tt M (.slice none 0 0) [] [] [] ∧ Below w.heap.size w w'
theorem reg_row {w4 w1 : World} {lo : Nat} {pt tt : TypeId} {M : Nat} {v : Value} {ns : List ByteArray} {bs : List Nat} {cs : List (Array Value)} (h : Reg w1 lo pt tt M v ns bs cs) (hg4 : w1.grownBy w4 (some M)) : w4.ownsRow lo pt 1 v bs.length (bs.map fun b => ptrO (some b)) := by
  refine h.row.kept hg4 (.inr (fun e => ?_))
  obtain ⟨es, clock, hmm⟩ := h.mapAt
  rcases h.row.2 with ⟨e', _⟩ | ⟨g, cap, cur, e', _, hg, _⟩
  · rw [e'] at e; cases e
  · rw [e'] at e
    have : g = M := Option.some.inj e
    subst this
    rw [hg] at hmm; cases hmm
theorem map_added {w4 : World} {M : Nat} {D : DataW Unit} {ns : List ByteArray} {bs : List Nat} {s : ByteArray} {b : Nat} (hK : Keeps D ns bs) (hl : ns.length = bs.length) (hD : IsMap D) (hc : ns.contains s = false) (h : w4.ownsMap Tryz.prog 9 pElem M (bs.length + 1) (D.put (key s) (.lit (.int .i64 b)))) :
    ∃ D, w4.ownsMap Tryz.prog 9 pElem M (bs.length + 1) D ∧ Keeps D (ns ++ [s]) (bs ++ [b]) := ⟨_, h, keeps_add hK hl hD hc⟩
theorem form1 {w : World} {base m : Nat} {e : TypeId} {v v0 : Value} {xs : List Value} (h : w.ownsRow base e 1 v m xs) (hn : v = .slice none 0 0 ↔ v0 = .slice none 0 0 ∧ 1 = 0) : ∃ g cap, v = .slice (some ⟨g, 0, none⟩) m cap := by
  rcases h.2 with ⟨e', _⟩ | ⟨g', cap', cur, e', _⟩
  · have := (hn.1 e').2; cases this
  · exact ⟨g', cap', e'⟩

set_option maxHeartbeats 1000000 in
theorem open_O (w : World) : Calls Tryz.prog 46 #[] w (OpenPost pOb tOb w) := by
  have hmm := @run_makeMap Tryz.prog
  go_enter Tryz.func46, Tryz.ntmps46
  go_wp2
  refine bodyPost_ret (v := .agg #[.map (some (w.heap.size + 1)), .slice none 0 0]) (by simp [results, Tryz.f46, go_sem]) rfl ?_
  refine ⟨w.heap.size + 1, rfl, Reg.new _ _ _ _ _ (by omega) ?_, ?_⟩
  · have h := World.ownsMap_made (w.alloc (.cells #[.map (some (w.heap.size + 1)), .slice none 0 0] 65)) Tryz.prog 9 pElem
    rw [World.size_alloc] at h
    exact h
  · exact ((Below.refl _ w).alloc (Nat.le_refl _) _).alloc (by simp) _

theorem of_O {lo M : Nat} {v : Value} {ns : List ByteArray} {bs : List Nat} {cs : List (Array Value)} (B : Nat) (w : World) (hc : w.cell? ⟨B, 1, none⟩ = some (.map (some M))) (h : Reg w lo pOb tOb M v ns bs cs) (s : ByteArray) (hs : s.size ≤ maxLen) :
    Calls Tryz.prog 97 #[.pointer (some ⟨B, 1, none⟩), .string s] w fun e w' => e = .returned (ptrO bs[ns.idxOf s]?) ∧ w = w' := by
  have HR := Lib.hid h
  clear h
  obtain ⟨p, hp⟩ : ∃ p, ptrO bs[ns.idxOf s]? = p := ⟨_, rfl⟩
  have HP := Lib.hid hp
  go_enter Tryz.func97, Tryz.ntmps97
  go_wp2_with (at_lookup; refine wpList_lookup_reg _ rfl _ _ 62 pOb rfl Tryz.underlying62 zero_pOb M ns bs rfl HR.out s rfl hs ?_; rw [HP.out])
  go_ret
  rw [HP.out]
  exact ⟨rfl, rfl⟩

theorem count_O (B : Nat) (w : World) (A : Option Addr) (n c : Nat) (h : w.cell? ⟨B, 2, none⟩ = some (.slice A n c)) :
    Calls Tryz.prog 42 #[.pointer (some ⟨B, 1, none⟩)] w fun e w' => e = .returned (.int .i64 n) ∧ w = w' := by
  go_enter Tryz.func42, Tryz.ntmps42
  go_wp2
  go_ret
  exact ⟨rfl, rfl⟩

set_option maxHeartbeats 2000000 in
theorem addR_O {lo M : Nat} {v : Value} {ns : List ByteArray} {bs : List Nat} {cs : List (Array Value)} (B : Nat) (w : World) (dc : Array Value) (hD : Holds w B tDk dc) (hm : dc[1]? = some (.map (some M))) (hv : dc[2]? = some v) (h : Reg w lo pOb tOb M v ns bs cs)
    (s : ByteArray) (hc : ns.contains s = false) (hs : s.size ≤ maxLen) (hn : bs.length ≤ 1000) (hlo : lo ≤ w.heap.size) (nm : ByteArray) (kd : Int) :
    Calls Tryz.prog 75 #[.pointer (some ⟨B, 1, none⟩), .string s, .agg #[.string nm, .int .i64 kd]] w (AddRPost lo pOb tOb M v ns bs cs B 2 dc s #[.string nm, .int .i64 kd] w) := by
  obtain ⟨A0, c0, hv0⟩ := h.shape
  subst hv0
  obtain ⟨i0, hi, hz0, hz1, hz2⟩ := info_parts info_pOb
  have hBl := hD.lt
  have hbn : w.heap.size ∉ bs := fun k => by have := (h.lt _ (.inr (.inr k))).2; omega
  have HBN := Lib.hid hbn
  have hb1 : Below w.heap.size w (w.alloc (.cells #[.string nm, .int .i64 kd] tOb)) := (Below.refl _ _).alloc (Nat.le_refl _) _
  have HR1 := Lib.hid (h.below hb1)
  have HX1 := Lib.hid (Holds.new w tOb #[.string nm, .int .i64 kd])
  have HD1 := Lib.hid (hD.alloc (.cells #[.string nm, .int .i64 kd] tOb))
  have HM := Lib.hid hm
  have HV := Lib.hid hv
  have HC := Lib.hid hc
  have hs1 : (w.alloc (.cells #[.string nm, .int .i64 kd] tOb)).heap.size = w.heap.size + 1 := by simp
  clear hm hv h hc hbn hD
  go_enter Tryz.func75, Tryz.ntmps75
  go_upto_region 1 with fail
  generalize w.alloc (.cells #[.string nm, .int .i64 kd] tOb) = W1 at *
  have c1 := HD1.out.c HM.out
  have c2 := HD1.out.c HV.out
  obtain ⟨D, hDD, hKp⟩ := HR1.out.map
  have HDD := Lib.hid hDD
  have HK := Lib.hid hKp
  clear hDD hKp
  go_wp2_with (first
    | (at_mapUpdate; refine wpList_mapUpdate_own _ rfl _ _ _ 62 rfl 9 pOb keyLaw Tryz.underlying62 pElem M bs.length D rfl HDD.out (by unfold maxLen; omega) _ _ (key s) rfl rfl (keyName hs) (.lit (.int .i64 w.heap.size)) [] (pElem_some _) ?_; intro w4 hown4 hg4; have c24 := hg4.cell c2 (fun e => HR1.out.apart HD1.out (by decide) (by decide) (.inl (Option.some.inj e))); have HM4 := Lib.hid (map_added HK.out HR1.out.nl HDD.out.isMap HC.out hown4); have hrow4 := reg_row HR1.out hg4; have h34 := hg4.size; clear hown4)
    | (at_builtin; refine wpList_append_own_at _ rfl _ _ 63 rfl lo pOb i0 (.pointer none) 1 8 Tryz.underlying63 hi hz0 hz1 hz2 rfl (by decide) _ _ _ rfl (hrow4.alloc _) ⟨w4.heap.size, 0, none⟩ 1 1 [ptrO (some w.heap.size)] rfl rfl (cell_one_new _ _ _) (by intro u hu; simp at hu; subst hu; rfl) (by unfold maxLen; omega) (by omega) (by simp; omega) ?_; intro v5 w5 hown5 hg5 hnil5 hat5; have HTA := Lib.hid (reg_added (off := 2) HR1.out HX1.out HBN.out hlo HD1.out (by decide) (by decide) (by decide) HV.out HC.out HM4.out hg4 hown5 hg5 hat5); have c25 := HTA.out.2.2.2.2.1; have f25 := HTA.out.2.2.2.2.2; obtain ⟨g5, cap5, rfl⟩ := form1 hown5 hnil5))
  go_end0
  obtain ⟨hTf, hHf, hButf, hlocf, _⟩ := HTA.out
  exact ⟨rfl, _, hTf, hHf, (but_of_below hb1).trans hButf, hlocf.imp id (fun ⟨g, e, hg⟩ => ⟨g, e, by omega⟩)⟩

set_option maxHeartbeats 1000000 in
theorem open_L (w : World) : Calls Tryz.prog 47 #[] w (OpenPost pLf tLf w) := by
  have hmm := @run_makeMap Tryz.prog
  go_enter Tryz.func47, Tryz.ntmps47
  go_wp2
  refine bodyPost_ret (v := .agg #[.map (some (w.heap.size + 1)), .slice none 0 0]) (by simp [results, Tryz.f47, go_sem]) rfl ?_
  refine ⟨w.heap.size + 1, rfl, Reg.new _ _ _ _ _ (by omega) ?_, ?_⟩
  · have h := World.ownsMap_made (w.alloc (.cells #[.map (some (w.heap.size + 1)), .slice none 0 0] 69)) Tryz.prog 9 pElem
    rw [World.size_alloc] at h
    exact h
  · exact ((Below.refl _ w).alloc (Nat.le_refl _) _).alloc (by simp) _

theorem of_L {lo M : Nat} {v : Value} {ns : List ByteArray} {bs : List Nat} {cs : List (Array Value)} (B : Nat) (w : World) (hc : w.cell? ⟨B, 3, none⟩ = some (.map (some M))) (h : Reg w lo pLf tLf M v ns bs cs) (s : ByteArray) (hs : s.size ≤ maxLen) :
    Calls Tryz.prog 53 #[.pointer (some ⟨B, 3, none⟩), .string s] w fun e w' => e = .returned (ptrO bs[ns.idxOf s]?) ∧ w = w' := by
  have HR := Lib.hid h
  clear h
  obtain ⟨p, hp⟩ : ∃ p, ptrO bs[ns.idxOf s]? = p := ⟨_, rfl⟩
  have HP := Lib.hid hp
  go_enter Tryz.func53, Tryz.ntmps53
  go_wp2_with (at_lookup; refine wpList_lookup_reg _ rfl _ _ 66 pLf rfl Tryz.underlying66 zero_pLf M ns bs rfl HR.out s rfl hs ?_; rw [HP.out])
  go_ret
  rw [HP.out]
  exact ⟨rfl, rfl⟩

theorem count_L (B : Nat) (w : World) (A : Option Addr) (n c : Nat) (h : w.cell? ⟨B, 4, none⟩ = some (.slice A n c)) :
    Calls Tryz.prog 40 #[.pointer (some ⟨B, 3, none⟩)] w fun e w' => e = .returned (.int .i64 n) ∧ w = w' := by
  go_enter Tryz.func40, Tryz.ntmps40
  go_wp2
  go_ret
  exact ⟨rfl, rfl⟩

set_option maxHeartbeats 2000000 in
theorem addR_L {lo M : Nat} {v : Value} {ns : List ByteArray} {bs : List Nat} {cs : List (Array Value)} (B : Nat) (w : World) (dc : Array Value) (hD : Holds w B tDk dc) (hm : dc[3]? = some (.map (some M))) (hv : dc[4]? = some v) (h : Reg w lo pLf tLf M v ns bs cs)
    (s : ByteArray) (hc : ns.contains s = false) (hs : s.size ≤ maxLen) (hn : bs.length ≤ 1000) (hlo : lo ≤ w.heap.size) (nm : ByteArray) (bg en : Int) (cm : Bool) (ops : Int) :
    Calls Tryz.prog 76 #[.pointer (some ⟨B, 3, none⟩), .string s, .agg #[.string nm, .int .i64 bg, .int .i64 en, .bool cm, .int .i64 ops]] w (AddRPost lo pLf tLf M v ns bs cs B 4 dc s #[.string nm, .int .i64 bg, .int .i64 en, .bool cm, .int .i64 ops] w) := by
  obtain ⟨A0, c0, hv0⟩ := h.shape
  subst hv0
  obtain ⟨i0, hi, hz0, hz1, hz2⟩ := info_parts info_pLf
  have hBl := hD.lt
  have hbn : w.heap.size ∉ bs := fun k => by have := (h.lt _ (.inr (.inr k))).2; omega
  have HBN := Lib.hid hbn
  have hb1 : Below w.heap.size w (w.alloc (.cells #[.string nm, .int .i64 bg, .int .i64 en, .bool cm, .int .i64 ops] tLf)) := (Below.refl _ _).alloc (Nat.le_refl _) _
  have HR1 := Lib.hid (h.below hb1)
  have HX1 := Lib.hid (Holds.new w tLf #[.string nm, .int .i64 bg, .int .i64 en, .bool cm, .int .i64 ops])
  have HD1 := Lib.hid (hD.alloc (.cells #[.string nm, .int .i64 bg, .int .i64 en, .bool cm, .int .i64 ops] tLf))
  have HM := Lib.hid hm
  have HV := Lib.hid hv
  have HC := Lib.hid hc
  have hs1 : (w.alloc (.cells #[.string nm, .int .i64 bg, .int .i64 en, .bool cm, .int .i64 ops] tLf)).heap.size = w.heap.size + 1 := by simp
  clear hm hv h hc hbn hD
  go_enter Tryz.func76, Tryz.ntmps76
  go_upto_region 1 with fail
  generalize w.alloc (.cells #[.string nm, .int .i64 bg, .int .i64 en, .bool cm, .int .i64 ops] tLf) = W1 at *
  have c1 := HD1.out.c HM.out
  have c2 := HD1.out.c HV.out
  obtain ⟨D, hDD, hKp⟩ := HR1.out.map
  have HDD := Lib.hid hDD
  have HK := Lib.hid hKp
  clear hDD hKp
  go_wp2_with (first
    | (at_mapUpdate; refine wpList_mapUpdate_own _ rfl _ _ _ 66 rfl 9 pLf keyLaw Tryz.underlying66 pElem M bs.length D rfl HDD.out (by unfold maxLen; omega) _ _ (key s) rfl rfl (keyName hs) (.lit (.int .i64 w.heap.size)) [] (pElem_some _) ?_; intro w4 hown4 hg4; have c24 := hg4.cell c2 (fun e => HR1.out.apart HD1.out (by decide) (by decide) (.inl (Option.some.inj e))); have HM4 := Lib.hid (map_added HK.out HR1.out.nl HDD.out.isMap HC.out hown4); have hrow4 := reg_row HR1.out hg4; have h34 := hg4.size; clear hown4)
    | (at_builtin; refine wpList_append_own_at _ rfl _ _ 67 rfl lo pLf i0 (.pointer none) 1 8 Tryz.underlying67 hi hz0 hz1 hz2 rfl (by decide) _ _ _ rfl (hrow4.alloc _) ⟨w4.heap.size, 0, none⟩ 1 1 [ptrO (some w.heap.size)] rfl rfl (cell_one_new _ _ _) (by intro u hu; simp at hu; subst hu; rfl) (by unfold maxLen; omega) (by omega) (by simp; omega) ?_; intro v5 w5 hown5 hg5 hnil5 hat5; have HTA := Lib.hid (reg_added (off := 4) HR1.out HX1.out HBN.out hlo HD1.out (by decide) (by decide) (by decide) HV.out HC.out HM4.out hg4 hown5 hg5 hat5); have c25 := HTA.out.2.2.2.2.1; have f25 := HTA.out.2.2.2.2.2; obtain ⟨g5, cap5, rfl⟩ := form1 hown5 hnil5))
  go_end0
  obtain ⟨hTf, hHf, hButf, hlocf, _⟩ := HTA.out
  exact ⟨rfl, _, hTf, hHf, (but_of_below hb1).trans hButf, hlocf.imp id (fun ⟨g, e, hg⟩ => ⟨g, e, by omega⟩)⟩
end Go.Proofs.YtpdbkjnaicjfdaaGreatDoor
