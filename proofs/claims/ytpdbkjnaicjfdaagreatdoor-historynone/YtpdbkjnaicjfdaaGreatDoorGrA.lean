/- Contracts of the layer grammar: the reader; place, stop, word, name, named. -/
import Derived.Test.YtpdbkjnaicjfdaaGreatDoorGrPlain
import Derived.Test.YtpdbkjnaicjfdaaGreatDoorGrRg
namespace Go.Proofs.YtpdbkjnaicjfdaaGreatDoor
open Go.RowKit
set_option linter.unusedVariables false
set_option maxRecDepth 100000

/-- A fault is thrown. -/
def Thrown (f : Int × Int) (w : World) (e : Ending) (w' : World) : Prop :=
  e = .panicked [{ v := .iface 112 (.agg #[.int .i64 f.1, .int .i64 f.2]), recovered := false }] ∧ Below w.heap.size w w'
/-- What is answered, or thrown. -/
def RxPost {α : Type} (x : Rx α) (K : α → Ending → World → Prop) (w : World) (e : Ending) (w' : World) : Prop :=
  match x with
  | .error f => Thrown f w e w'
  | .ok a => K a e w'

/-- Words that a line may have. -/
structure Fine (ws : List Wd) : Prop where
  pos : 0 < ws.length
  few : ws.length ≤ 8000
  at' : ∀ x ∈ ws, x.1 + x.2.length ≤ 100000000
  size : ∀ x ∈ ws, x.2.length ≤ 8000

/-- Block R is a reader at a line. -/
structure Rdr (w : World) (R : Nat) (AT : Option Addr) (cT : Nat) (bs : List Int) (ws : List Wd) : Prop where
  box : ∃ AW cW, Holds w R 117 #[.slice AT bs.length cT, .slice AW ws.length cW] ∧ ReadWords w.heap.size w AW ws
  text : Bytes w AT bs
  fine : Fine ws
  room : ∃ AW cW, Holds w R 117 #[.slice AT bs.length cT, .slice AW ws.length cW] ∧ ws.length ≤ cW
theorem Rdr.lt {w : World} {R : Nat} {AT : Option Addr} {cT : Nat} {bs : List Int} {ws : List Wd} (h : Rdr w R AT cT bs ws) : R < w.heap.size := by
  obtain ⟨_, _, h1, _⟩ := h.box
  exact h1.lt
theorem Rdr.below {w w' : World} {R : Nat} {AT : Option Addr} {cT : Nat} {bs : List Int} {ws : List Wd} (h : Rdr w R AT cT bs ws) (hb : Below w.heap.size w w') : Rdr w' R AT cT bs ws := by
  obtain ⟨AW, cW, h1, h2⟩ := h.box
  obtain ⟨AV, cV, h3, h4⟩ := h.room
  exact ⟨⟨AW, cW, h1.below hb h1.lt, (h2.below hb).mono hb.size⟩, h.text.below (B := 0) hb, h.fine, AV, cV, h3.below hb h3.lt, h4⟩
theorem Rdr.cap {w : World} {R : Nat} {AT AW : Option Addr} {cT cW : Nat} {bs : List Int} {ws : List Wd} (h : Rdr w R AT cT bs ws) (hb : Holds w R 117 #[.slice AT bs.length cT, .slice AW ws.length cW]) : ws.length ≤ cW := by
  obtain ⟨AV, cV, h3, h4⟩ := h.room
  have e := (show w.heap[R]? = _ from hb).symm.trans h3
  simp only [Option.some.injEq, Obj.cells.injEq, and_true] at e
  have e2 := congrArg (fun a : Array Value => a[1]?) e
  simp at e2
  omega

theorem wd_mem {ws : List Wd} {i : Nat} (h : i < ws.length) : (ws[i]?.getD (0, [])) ∈ ws := by rw [List.getElem?_eq_getElem h]; exact List.getElem_mem h
theorem wdS_size {ws : List Wd} {i : Nat} (h : Fine ws) : (wdS ws i).size ≤ 8000 := by
  unfold wdS
  rw [strOfNums_size]
  by_cases hi : i < ws.length
  · exact h.size _ (wd_mem hi)
  · rw [List.getElem?_eq_none (by omega)]; simp
theorem place_le {ws : List Wd} (h : Fine ws) (n : Nat) : placeP ws n ≤ 100000000 := by
  have hp := h.pos
  unfold placeP endP wdP
  split
  · rename_i hn
    have := h.at' _ (wd_mem hn); omega
  · exact h.at' _ (wd_mem (show ws.length - 1 < ws.length by omega))

set_option maxRecDepth 100000 in
set_option maxHeartbeats 1000000 in
theorem place_any (R : Nat) (AT : Option Addr) (cT : Nat) (bs : List Int) (ws : List Wd) (n : Nat) (w : World) (h : Rdr w R AT cT bs ws) :
    Calls Tryz.prog 106 #[.pointer (some ⟨R, 0, none⟩), .int .i64 n] w (Says (.int .i64 (placeP ws n)) w) := by
  obtain ⟨AW, cW, hbox, hrd⟩ := h.box
  have c1 : w.cell? ⟨R, 1, none⟩ = some (.slice AW ws.length cW) := hbox.c (j := 1) rfl
  have hlt := hbox.lt
  have hf := h.fine
  have hpos := hf.pos
  have hfew := hf.few
  obtain ⟨b, off, rfl, hb, hc⟩ := hrd hpos
  by_cases hn : n < ws.length
  · have e1 := (hc n hn).2
    have k1 : decide (n < ws.length) = true := decide_eq_true hn
    have k2 : (0 : Int) ≤ (n : Int) := by omega
    have k3 : (n : Int) < (ws.length : Int) := by omega
    have e2 : placeP ws n = wdP ws n := by unfold placeP; rw [if_pos hn]
    have HE := Lib.hid e2
    unfold wdP at HE
    generalize (ws[n]?.getD (0, [])).1 = p at *
    clear hrd hc h e2
    go_enter Tryz.func106, Tryz.ntmps106
    go_wp2
    go_ret
    rw [HE.out]
    exact ⟨rfl, Below.refl _ _⟩
  · obtain ⟨m, hm⟩ : ∃ m, ws.length = m + 1 := ⟨ws.length - 1, by omega⟩
    have e0 := hc m (by omega)
    have k1 : decide (n < ws.length) = false := decide_eq_false hn
    have k2 : (ws.length : Int) - 1 = (m : Int) := by omega
    have hat := hf.at' _ (wd_mem (show m < ws.length by omega))
    have e2 : placeP ws n = (ws[m]?.getD (0, [])).1 + (ws[m]?.getD (0, [])).2.length := by
      unfold placeP endP wdP; rw [if_neg hn, hm]; rfl
    have HE := Lib.hid e2
    have hsz : (strOfNums (ws[m]?.getD (0, [])).2).size = (ws[m]?.getD (0, [])).2.length := strOfNums_size _
    obtain ⟨e3, e4⟩ := e0
    generalize hp : (ws[m]?.getD (0, [])).1 = p at *
    generalize hs : strOfNums (ws[m]?.getD (0, [])).2 = s at *
    have k3 : (m : Int) < (ws.length : Int) := by omega
    have k4 : (0 : Int) ≤ (m : Int) := by omega
    have k5 : ((p : Int) + (s.size : Int)) = ((placeP ws n : Nat) : Int) := by rw [HE.out, hsz]; omega
    have k6 : placeP ws n ≤ 100000000 := place_le hf n
    have hwm : IntKind.i64.wrap (m : Int) = (m : Int) := by rw [IntKind.wrap_i64]; omega
    have k7 : (placeP ws n : Int) ≤ 100000000 := by omega
    clear hrd hc h e2 hm hpos hf hat hsz hs hp k6
    generalize (placeP ws n : Int) = q at *
    generalize ws.length = L at *
    clear HE
    go_enter Tryz.func106, Tryz.ntmps106
    go_wp2
    refine wp_region_noPanic ?_
    refine wp_region_picked [(0, true), (1, true), (2, true), (3, true), (4, true), (5, true), (6, true), (7, true), (8, true), (9, true), (10, true), (11, true), (12, false), (13, false)] (fun W' => Below w.heap.size w W') (by kernel_rfl) (by kernel_rfl) (fun _ _ _ _ _ h => h) (Below.refl _ w).drew ?_
    iterate 12
      refine Picked.take ?_ (by rfl) (by rfl) ?_ ?_
      rotate_left
      · intro w' hw'
        have f1 := (hw'.cell (p := ⟨R, 1, none⟩) hlt).trans c1
        have f2 := (hw'.cell (p := ⟨b, off + m * 2, none⟩) hb).trans e3
        have f3 := (hw'.cell (p := ⟨b, off + m * 2 + 1, none⟩) hb).trans e4
        go_simp
        try with_reducible rfl
      simp only [Act.put, List.getElem_toArray, List.getElem_cons_zero, List.getElem_cons_succ, List.setIfInBounds_toArray, List.set_cons_zero, List.set_cons_succ]
    refine ⟨_, by rfl, by rfl, ?_⟩
    go_simp
    refine ⟨(Below.refl _ w).drew.alloc (Nat.le_refl _) _, ?_⟩
    refine ⟨_, by rfl, by rfl, ?_⟩
    go_simp
    refine ⟨((Below.refl _ w).alloc (Nat.le_refl _) _).drew, NoPanic.normal ?_⟩
    go_wp2
    go_ret
    exact ⟨rfl, ((Below.refl _ w).alloc (Nat.le_refl _) _).drew⟩

theorem stop_any (R : Nat) (AT : Option Addr) (cT : Nat) (bs : List Int) (ws : List Wd) (err : Int) (n : Nat) (w : World) (h : Rdr w R AT cT bs ws) :
    Calls Tryz.prog 88 #[.pointer (some ⟨R, 0, none⟩), .int .i64 err, .int .i64 n] w (Thrown (err, (placeP ws n : Int)) w) := by
  have HP := place_any R AT cT bs ws n w h
  go_enter Tryz.func88, Tryz.ntmps88
  go_wp2_with fail
  refine HP.mono ?_
  rintro e w1 ⟨rfl, hB⟩
  go_wp2
  exact ⟨rfl, rfl, hB⟩

def WdPost (s : ByteArray) (w : World) (e : Ending) (w' : World) : Prop := e = .returned (.string s) ∧ Below w.heap.size w w'
theorem rx_error {α : Type} {x : Rx α} {K : α → Ending → World → Prop} {f : Int × Int} {w w1 w2 : World} {e : Ending} (hx : x = .error f) (hB : Below w.heap.size w w1) (h : Thrown f w1 e w2) : RxPost x K w e w2 := by
  subst hx
  exact ⟨h.1, nxt hB h.2 hB.size⟩

set_option maxHeartbeats 1000000 in
theorem word_any (R : Nat) (AT : Option Addr) (cT : Nat) (bs : List Int) (ws : List Wd) (n : Nat) (w : World) (h : Rdr w R AT cT bs ws) :
    Calls Tryz.prog 87 #[.pointer (some ⟨R, 0, none⟩), .int .i64 n] w (RxPost (wordX ws n) (fun s => WdPost s w) w) := by
  obtain ⟨AW, cW, hbox, hrd⟩ := h.box
  have c1 : w.cell? ⟨R, 1, none⟩ = some (.slice AW ws.length cW) := hbox.c (j := 1) rfl
  by_cases hn : n < ws.length
  · obtain ⟨b, off, rfl, hb, hc⟩ := hrd h.fine.pos
    have e1 := (hc n hn).1
    have e2 : wordX ws n = .ok (strOfNums (ws[n]?.getD (0, [])).2) := by unfold wordX; rw [if_neg (by omega)]; rfl
    rw [e2]
    generalize strOfNums (ws[n]?.getD (0, [])).2 = s at *
    have k1 : ¬ ws.length ≤ n := by omega
    have k2 : (0 : Int) ≤ (n : Int) := by omega
    have k3 : (n : Int) < (ws.length : Int) := by omega
    have k4 : ¬ (ws.length : Int) ≤ (n : Int) := by omega
    clear hrd hc h e2 hbox
    go_enter Tryz.func87, Tryz.ntmps87
    go_wp2
    go_ret
    exact ⟨rfl, Below.refl _ _⟩
  · have e2 : wordX ws n = (.error (5, (placeP ws n : Int)) : Rx ByteArray) := by unfold wordX; rw [if_pos (by omega)]; rfl
    rw [e2]
    have HS := stop_any R AT cT bs ws 5 n w h
    have k1 : ws.length ≤ n := by omega
    have k4 : (ws.length : Int) ≤ (n : Int) := by omega
    clear hrd h e2 hbox
    go_enter Tryz.func87, Tryz.ntmps87
    go_wp2_with fail
    refine HS.mono ?_
    rintro e w1 ⟨rfl, hB⟩
    go_wp2
    exact ⟨rfl, rfl, hB⟩

set_option maxHeartbeats 1000000 in
theorem name_any (R : Nat) (AT : Option Addr) (cT : Nat) (bs : List Int) (ws : List Wd) (n : Nat) (w : World) (h : Rdr w R AT cT bs ws) :
    Calls Tryz.prog 102 #[.pointer (some ⟨R, 0, none⟩), .int .i64 n] w (RxPost (nameX ws n) (fun s => WdPost s w) w) := by
  have HW := word_any R AT cT bs ws n w h
  have hx : nameX ws n = match wordX ws n with | .error f => .error f | .ok s => if nm_checkE s = 0 then .ok s else stopX ws (nm_checkE s) n := rfl
  have hsz : ∀ s, wordX ws n = .ok s → s.size ≤ 8000 := by
    intro s hs
    unfold wordX at hs
    split at hs
    · cases hs
    · cases hs; exact wdS_size h.fine
  cases hw : wordX ws n with
  | error f =>
    rw [hw] at HW hx
    rw [hx]
    clear hsz
    go_enter Tryz.func102, Tryz.ntmps102
    go_wp2_with fail
    refine HW.mono ?_
    rintro e w1 ⟨rfl, hB⟩
    go_wp2
    exact ⟨rfl, rfl, hB⟩
  | ok s =>
    rw [hw] at HW hx
    have hs := hsz s hw
    have HC := fun W => nm_check_any s W hs
    have HST := fun W (hB : Below w.heap.size w W) => stop_any R AT cT bs ws (nm_checkE s) n W (h.below hB)
    by_cases hE : nm_checkE s = 0
    · have hx2 : nameX ws n = .ok s := hx.trans (if_pos hE)
      rw [hx2]
      rw [hE] at HC
      clear hx hx2 HST
      go_enter Tryz.func102, Tryz.ntmps102
      go_wp2_with fail
      refine HW.mono ?_
      rintro e w1 ⟨rfl, hB⟩
      go_wp2_with fail
      refine (HC w1).mono ?_
      rintro e w2 ⟨rfl, hB2⟩
      go_wp2
      go_ret
      exact ⟨rfl, nxt hB hB2 hB.size⟩
    · have hx2 : nameX ws n = .error (nm_checkE s, (placeP ws n : Int)) := hx.trans (if_neg hE)
      rw [hx2]
      generalize nm_checkE s = er at *
      have hb : (er != 0) = true := by rw [bne_iff_ne]; exact hE
      clear hx hx2
      go_enter Tryz.func102, Tryz.ntmps102
      go_wp2_with fail
      refine HW.mono ?_
      rintro e w1 ⟨rfl, hB⟩
      go_wp2_with fail
      refine (HC w1).mono ?_
      rintro e w2 ⟨rfl, hB2⟩
      have hB3 := nxt hB hB2 hB.size
      go_wp2_with fail
      refine (HST w2 hB3).mono ?_
      rintro e w3 ⟨rfl, hB4⟩
      go_wp2
      exact ⟨rfl, rfl, nxt hB3 hB4 hB3.size⟩
end Go.Proofs.YtpdbkjnaicjfdaaGreatDoor
