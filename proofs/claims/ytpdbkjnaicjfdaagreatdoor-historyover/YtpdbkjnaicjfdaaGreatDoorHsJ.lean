/- Contracts of the layer history: Check, Lives. -/
import Derived.Test.YtpdbkjnaicjfdaaGreatDoorHsI
import Derived.Test.YtpdbkjnaicjfdaaGreatDoorHsRg
namespace Go.Proofs.YtpdbkjnaicjfdaaGreatDoor
open Go.RowKit Go.Shelf Go.Maps
set_option linter.unusedVariables false
set_option maxRecDepth 100000

attribute [local go_sem] Oper.semAt_some

theorem own_not {W : World} {base : Nat} {e : TypeId} {size : Nat} {v : Value} {n : Nat} {xs : List Value} (h : W.ownsRow base e size v n xs) {D : Nat} {o : Obj} (hD : W.heap[D]? = some o) (hc : o.isCells = false) : v.ownBlock = none ∨ v.ownBlock ≠ some D := by
  rcases h.2 with ⟨rfl, _⟩ | ⟨g, cap, cur, rfl, _, hg, _⟩
  · exact .inl rfl
  · refine .inr (fun e => ?_)
    cases (Option.some.inj e : g = D)
    rw [hg] at hD; cases hD; cases hc
/-- Events that history reads. -/
structure EvIn (w : World) (A : Option Addr) (zs : List EvZ) : Prop where
  read : ReadEvs w.heap.size w A zs
  nums : ReadNums w zs
  len : ∀ z ∈ zs, z.1.st.2.2.length ≤ 20000 ∧ z.1.nm.size ≤ 8000 ∧ z.1.ob.size ≤ 8000
  many : zs.length ≤ 90
theorem EvIn.below {w w' : World} {A : Option Addr} {zs : List EvZ} (h : EvIn w A zs) (hb : Below w.heap.size w w') : EvIn w' A zs := ⟨(h.read.below hb).mono hb.size, h.nums.below hb, h.len, h.many⟩
def fltV (x : Dk × Int × Int) : Value := .agg #[.int .i64 x.2.1, .int .i64 x.2.2]

set_option maxHeartbeats 2000000 in
theorem check_any (A : Option Addr) (c : Nat) (zs : List EvZ) (w : World) (hE : EvIn w A zs) :
    Calls Tryz.prog 20 #[.slice A zs.length c] w (Says (fltV (layX dk0 0 (zs.map Prod.fst))) w) := by
  have hb0 := alloc1 w (.cells #[.int .i64 0, .int .i64 0] 29)
  have HF0 := Lib.hid (Holds.new w 29 #[.int .i64 0, .int .i64 0])
  have hE1 := hE.below hb0
  have HL := Lib.hid (lay_any A c zs _ hE1.read hE1.nums hE1.len hE1.many)
  unfold LayPost at HL
  generalize layX dk0 0 (zs.map Prod.fst) = X at *
  obtain ⟨d, er, p⟩ := X
  unfold fltV
  dsimp only at HL ⊢
  clear hE hE1
  go_enter Tryz.func20, Tryz.ntmps20
  go_upto_region 1 with fail
  generalize w.alloc (.cells #[.int .i64 0, .int .i64 0] 29) = W0 at *
  go_wp2_with fail
  refine HL.out.mono ?_
  rintro e w1 ⟨L, rfl, hD, hb1⟩
  have hbb := nxt hb0 hb1 hb0.size
  have hb2 := alloc1 w1 (.cells #[.int .i64 er, .int .i64 p] 29)
  have HX := Lib.hid (Holds.new w1 29 #[.int .i64 er, .int .i64 p])
  have HF2 := Lib.hid ((HF0.out.below hb1 HF0.out.lt).alloc (.cells #[.int .i64 er, .int .i64 p] 29))
  have hb3 := nxt hbb hb2 hbb.size
  clear hD
  go_upto_region 2 with fail
  generalize w1.alloc (.cells #[.int .i64 er, .int .i64 p] 29) = W2 at *
  have x0 : W2.cell? ⟨w1.heap.size, 0, none⟩ = some (.int .i64 er) := HX.out.c (j := 0) rfl
  have x1 : W2.cell? ⟨w1.heap.size, 1, none⟩ = some (.int .i64 p) := HX.out.c (j := 1) rfl
  have f0 : W2.cell? ⟨w.heap.size, 0, none⟩ = some (.int .i64 0) := HF2.out.c (j := 0) rfl
  have f1 : W2.cell? ⟨w.heap.size, 1, none⟩ = some (.int .i64 0) := HF2.out.c (j := 1) rfl
  have fz := HF2.out.frozen
  have g2 := (HF2.out.set 0 (.int .i64 er)).set 1 (.int .i64 p)
  have hB9 := (hb3.setCell (p := ⟨w.heap.size, 0, none⟩) (Nat.le_refl _) (.int .i64 er)).setCell (p := ⟨w.heap.size, 1, none⟩) (Nat.le_refl _) (.int .i64 p)
  go_wp2
  have k0 : ((W2.setCell ⟨w.heap.size, 0, none⟩ (.int .i64 er)).setCell ⟨w.heap.size, 1, none⟩ (.int .i64 p)).cell? ⟨w.heap.size, 0, none⟩ = some (.int .i64 er) := g2.c (j := 0) rfl
  have k1 : ((W2.setCell ⟨w.heap.size, 0, none⟩ (.int .i64 er)).setCell ⟨w.heap.size, 1, none⟩ (.int .i64 p)).cell? ⟨w.heap.size, 1, none⟩ = some (.int .i64 p) := g2.c (j := 1) rfl
  clear f0 f1 x0 x1
  generalize (W2.setCell ⟨w.heap.size, 0, none⟩ (.int .i64 er)).setCell ⟨w.heap.size, 1, none⟩ (.int .i64 p) = W9 at *
  refine bodyPost_ret (v := .agg #[.int .i64 er, .int .i64 p]) (by simp [results, Tryz.f20, go_sem, k0, k1]) rfl ?_
  exact ⟨rfl, hB9⟩

def OwnLifes (W : World) (base : Nat) (v : Value) (xs : List Lf) : Prop := W.ownsRow base 58 5 v xs.length (xs.flatMap fun x => (lfC x).toList)
def LivesPost (X : Dk × Int × Int) (w : World) (e : Ending) (w' : World) : Prop :=
  ∃ v, e = .returned (.tuple #[v, fltV X]) ∧ OwnLifes w' w.heap.size v (if X.2.1 = 0 then X.1.trs else []) ∧ Below w.heap.size w w'
theorem info_lf : (Tryz.prog.info? 58).map (fun i => (i.zero, i.size, i.bytes)) = some (some (.agg #[.string ⟨#[]⟩, .int .i64 0, .int .i64 0, .bool false, .int .i64 0]), 5, 48) := by kernel_rfl

set_option maxHeartbeats 4000000 in
theorem lives_no (A : Option Addr) (c : Nat) (n : Nat) (w : World) (d : Dk) (er p : Int) (hz : er ≠ 0)
    (HL : Calls Tryz.prog 39 #[.slice A n c] (w.alloc (.cells #[.int .i64 0, .int .i64 0] 29)) (LayPost (d, er, p) (w.alloc (.cells #[.int .i64 0, .int .i64 0] 29)))) :
    Calls Tryz.prog 14 #[.slice A n c] w (LivesPost (d, er, p) w) := by
  have hb0 := alloc1 w (.cells #[.int .i64 0, .int .i64 0] 29)
  have HF0 := Lib.hid (Holds.new w 29 #[.int .i64 0, .int .i64 0])
  unfold LivesPost fltV
  unfold LayPost at HL
  dsimp only at HL ⊢
  rw [if_neg hz]
  have hzz : (er == 0) = false := beq_eq_false_iff_ne.2 hz
  clear hz
  go_enter Tryz.func14, Tryz.ntmps14
  go_upto_region 1 with fail
  generalize w.alloc (.cells #[.int .i64 0, .int .i64 0] 29) = W0 at *
  go_wp2_with fail
  refine HL.mono ?_
  rintro e w1 ⟨L, rfl, hD, hb1⟩
  have hbb := nxt hb0 hb1 hb0.size
  have hb2 := alloc1 w1 (.cells #[.int .i64 er, .int .i64 p] 29)
  have HX := Lib.hid (Holds.new w1 29 #[.int .i64 er, .int .i64 p])
  have HF2 := Lib.hid ((HF0.out.below hb1 HF0.out.lt).alloc (.cells #[.int .i64 er, .int .i64 p] 29))
  have hb3 := nxt hbb hb2 hbb.size
  clear hD
  go_upto_region 2 with fail
  generalize w1.alloc (.cells #[.int .i64 er, .int .i64 p] 29) = W2 at *
  have x0 : W2.cell? ⟨w1.heap.size, 0, none⟩ = some (.int .i64 er) := HX.out.c (j := 0) rfl
  have x1 : W2.cell? ⟨w1.heap.size, 1, none⟩ = some (.int .i64 p) := HX.out.c (j := 1) rfl
  have f0 : W2.cell? ⟨w.heap.size, 0, none⟩ = some (.int .i64 0) := HF2.out.c (j := 0) rfl
  have f1 : W2.cell? ⟨w.heap.size, 1, none⟩ = some (.int .i64 0) := HF2.out.c (j := 1) rfl
  have fz := HF2.out.frozen
  have hne : ¬ w.heap.size = w1.heap.size := by have := hbb.size; have := HF0.out.lt; have := hb1.size; omega
  have g2 := (HF2.out.set 0 (.int .i64 er)).set 1 (.int .i64 p)
  have hB9 := (hb3.setCell (p := ⟨w.heap.size, 0, none⟩) (Nat.le_refl _) (.int .i64 er)).setCell (p := ⟨w.heap.size, 1, none⟩) (Nat.le_refl _) (.int .i64 p)
  go_wp2_with fail
  go_region
  go_wp2
  have k0 : ((W2.setCell ⟨w.heap.size, 0, none⟩ (.int .i64 er)).setCell ⟨w.heap.size, 1, none⟩ (.int .i64 p)).drew.cell? ⟨w.heap.size, 0, none⟩ = some (.int .i64 er) := g2.c (j := 0) rfl
  have k1 : ((W2.setCell ⟨w.heap.size, 0, none⟩ (.int .i64 er)).setCell ⟨w.heap.size, 1, none⟩ (.int .i64 p)).drew.cell? ⟨w.heap.size, 1, none⟩ = some (.int .i64 p) := g2.c (j := 1) rfl
  have hBd := hB9.drew
  clear f0 f1 x0 x1 g2 hB9
  generalize ((W2.setCell ⟨w.heap.size, 0, none⟩ (.int .i64 er)).setCell ⟨w.heap.size, 1, none⟩ (.int .i64 p)).drew = W9 at *
  refine bodyPost_ret (v := .tuple #[.slice none 0 0, .agg #[.int .i64 er, .int .i64 p]]) (by simp [results, Tryz.f14, go_sem, k0, k1]) rfl ?_
  exact ⟨_, rfl, World.ownsRow_nil _ _ _ _, hBd⟩

set_option maxHeartbeats 4000000 in
theorem lives_yes (A : Option Addr) (c : Nat) (n : Nat) (w : World) (d : Dk) (p : Int)
    (HL : Calls Tryz.prog 39 #[.slice A n c] (w.alloc (.cells #[.int .i64 0, .int .i64 0] 29)) (LayPost (d, 0, p) (w.alloc (.cells #[.int .i64 0, .int .i64 0] 29)))) (hp : p = 0) :
    Calls Tryz.prog 14 #[.slice A n c] w (LivesPost (d, 0, p) w) := by
  subst hp
  obtain ⟨i0, hi, hz0, hz1, hz2⟩ := info_parts info_lf
  have hb0 := alloc1 w (.cells #[.int .i64 0, .int .i64 0] 29)
  have HF0 := Lib.hid (Holds.new w 29 #[.int .i64 0, .int .i64 0])
  unfold LivesPost fltV
  unfold LayPost at HL
  dsimp only at HL ⊢
  rw [if_pos rfl]
  refine (callsIn_wide (n := 6)).1 ?_
  refine callsIn_of_wp_marks Tryz.func14 rfl trivial ?_ rfl
  simp only [Tryz.ntmps14, List.size_toArray, List.length_cons, List.length_nil, Nat.reduceAdd, Nat.reduceSub, Array.replicate_succ, Array.replicate_zero, List.push_toArray, List.append_toArray, List.nil_append, List.cons_append]
  gi_wp2_with (refine ⟨trivial, ?_⟩; gi_at_call 39; refine (callsIn_wide.2 HL).mono ?_; rintro e w1 ⟨L, rfl, hD, hb1⟩)
  have hbb := nxt hb0 hb1 hb0.size
  have hs0 : (w.alloc (.cells #[.int .i64 0, .int .i64 0] 29)).heap.size = w.heap.size + 1 := by simp
  have hs1 := hb1.size
  have hb2 := alloc1 w1 (.cells #[.int .i64 0, .int .i64 0] 29)
  have HF2 := Lib.hid ((HF0.out.below hb1 HF0.out.lt).alloc (.cells #[.int .i64 0, .int .i64 0] 29))
  have hb3 := nxt hbb hb2 hbb.size
  have HD2 := Lib.hid (hD.below hb2)
  have hs2 : w1.heap.size < (w1.alloc (.cells #[.int .i64 0, .int .i64 0] 29)).heap.size := by simp
  clear hD HL HF0
  generalize w.alloc (.cells #[.int .i64 0, .int .i64 0] 29) = W0 at *
  generalize w1.alloc (.cells #[.int .i64 0, .int .i64 0] 29) = W2 at *
  obtain ⟨A1, k1, hv1⟩ := HD2.out.tr.shape
  have hl : d.trs.length = L.ls.length := by have := HD2.out.tr.nl; unfold tnm at this; rwa [List.length_map] at this
  have hmany := HD2.out.ok.many
  have hfew := HD2.out.few
  have c4 : W2.cell? ⟨L.B, 4, none⟩ = some (.slice A1 L.ls.length k1) := hv1 ▸ (desk_cells HD2.out).2.2.2.2.1
  have hBlt : L.B < W2.heap.size := HD2.out.box.lt
  have hBw : w.heap.size < L.B := by have := HD2.out.hB; omega
  refine ⟨trivial, ?_⟩
  refine (callsIn_wide.2 (count_L L.B W2 A1 L.ls.length k1 c4)).mono ?_
  rintro e w2 ⟨rfl, rfl⟩
  gi_wp2_with (gi_at_make; refine wpListIn_make_own _ rfl _ _ 26 rfl W2.heap.size 58 i0 (.agg #[.string ⟨#[]⟩, .int .i64 0, .int .i64 0, .bool false, .int .i64 0]) 5 Tryz.underlying26 hi hz0 hz1 .i64 .i64 _ L.ls.length rfl rfl rfl (by rw [hz2]; omega) (by unfold maxLen; omega) (Nat.le_refl _) ?_; intro w3 hown3 hg3)
  have hb4 := (Below.refl W2.heap.size W2).grown hg3 (Nat.le_refl _) (fun k e => by cases e)
  have hs3 := hb4.size
  refine ⟨trivial, ?_⟩
  refine (all_L_in Fence.wide _ trivial rfl L.B _).mono ?_
  rintro e w' ⟨rfl, rfl⟩
  have bO := Boxed.new w3 26 (.slice (some ⟨W2.heap.size, 0, none⟩) 0 L.ls.length)
  have HO := Lib.hid (hown3.alloc (.cells #[.slice (some ⟨W2.heap.size, 0, none⟩) 0 L.ls.length] 26))
  have hb5 := hb4.alloc hs3 (.cells #[.slice (some ⟨W2.heap.size, 0, none⟩) 0 L.ls.length] 26)
  have hs5 : w3.heap.size < (w3.alloc (.cells #[.slice (some ⟨W2.heap.size, 0, none⟩) 0 L.ls.length] 26)).heap.size := by simp
  generalize w3.alloc (.cells #[.slice (some ⟨W2.heap.size, 0, none⟩) 0 L.ls.length] 26) = W5 at *
  have bR := Boxed.new W5 124 (.pointer (some ⟨L.B, 3, none⟩))
  have hb6 := hb5.alloc (by omega) (.cells #[.pointer (some ⟨L.B, 3, none⟩)] 124)
  have bO6 := bO.alloc (.cells #[.pointer (some ⟨L.B, 3, none⟩)] 124)
  have hO6 := HO.out.alloc (.cells #[.pointer (some ⟨L.B, 3, none⟩)] 124)
  have hps : (d.trs.zip L.ls).attach.length = L.ls.length := by rw [List.length_attach, List.length_zip]; omega
  have hpf : (d.trs.zip L.ls).attach.map (fun x => x.1.2) = L.ls := by
    rw [show (fun x : {p // p ∈ d.trs.zip L.ls} => x.1.2) = Prod.snd ∘ Subtype.val from rfl, ← List.map_map, List.attach_map_subtype_val, List.map_snd_zip]
    omega
  have hmem : ∀ x : {p // p ∈ d.trs.zip L.ls}, Holds W2 x.1.2 tLf (lfC x.1.1) := fun x => by
    obtain ⟨j, hj, e⟩ := List.getElem_of_mem x.2
    rw [List.getElem_zip] at e
    have h1 : d.trs[j]? = some x.1.1 := by rw [← e]; exact List.getElem?_eq_getElem _
    have h2 : L.ls[j]? = some x.1.2 := by rw [← e]; exact List.getElem?_eq_getElem _
    exact (HD2.out.tr.box j x.1.2 (lfC x.1.1) h2 (by rw [List.getElem?_map, h1]; rfl)).2
  have HMEM := Lib.hid hmem
  have hptr := reg_ptrs (hv1 ▸ HD2.out.tr)
  have hfe : (d.trs.zip L.ls).attach.map (fun x => x.1.1) = d.trs := by
    rw [show (fun x : {p // p ∈ d.trs.zip L.ls} => x.1.1) = Prod.fst ∘ Subtype.val from rfl, ← List.map_map, List.attach_map_subtype_val, List.map_fst_zip]
    omega
  have hfl : (d.trs.zip L.ls).attach.flatMap (fun x => (lfC x.1.1).toList) = d.trs.flatMap (fun x => (lfC x).toList) := by
    conv => rhs; rw [← hfe, List.flatMap_map]
  have HFL := Lib.hid hfl
  clear hmem hfl hfe
  generalize hps2 : (d.trs.zip L.ls).attach = ps at *
  gi_wp2_with fail
  refine wpIn_rangeFunc_ownG rfl (by omega) (gf := 62) (lb := #[.pointer (some ⟨W5.heap.size, 0, none⟩)]) rfl trivial (enters_of Tryz.func62 (by kernel_rfl) rfl)
    (all_L_stops (fun x : {p // p ∈ d.trs.zip L.ls} => x.1.2) 5 (by omega) W5.heap.size L.B W2.heap.size A1 k1 ps (by rw [hps]; unfold maxLen; omega) _ (by simp) (by simp; omega) (by simp; omega) bR.cell (by rw [hps]; exact (hb6.cell (p := ⟨L.B, 4, none⟩) hBlt).trans c4) (by rw [hpf]; exact hptr.below hb6)) belowK_t (belowK_b (by simp; omega)) (Below.refl _ _) (fun _ => rfl)
    (fun pre W => (∃ v, Boxed W w3.heap.size 26 v ∧ W.ownsRow W2.heap.size 58 5 v pre.length (pre.flatMap fun x => (lfC x.1.1).toList) ∧ True) ∧ Below W2.heap.size W2 W)
    (fun _ _ _ => False)
    (OwnFrom.and (Own.from (holdsRow_own W2.heap.size w3.heap.size 26 58 5 (fun pre : List {p // p ∈ d.trs.zip L.ls} => pre.length) (fun pre => pre.flatMap fun x => (lfC x.1.1).toList) (fun pre v => True)) _) (ownFrom_below (Nat.le_refl _) (by simp; omega)))
    (fun _ _ _ _ _ hs _ _ => hs)
    ⟨⟨_, bO6, hO6, trivial⟩, hb6⟩
    (fun x => { tmps := #[.slice A n c, undef, .slice none 0 0, .pointer (some ⟨w.heap.size, 0, none⟩), .pointer (some ⟨L.B, 0, none⟩), .pointer (some ⟨w1.heap.size, 0, none⟩), .pointer (some ⟨w3.heap.size, 0, none⟩), .pointer (some ⟨x.1.2, 0, none⟩), .tuple #[.pointer (some ⟨L.B, 0, none⟩), .agg #[.int .i64 0, .int .i64 0]], .slice A n c, .tuple #[.pointer (some ⟨L.B, 0, none⟩), .agg #[.int .i64 0, .int .i64 0]], .pointer (some ⟨L.B, 0, none⟩), .agg #[.int .i64 0, .int .i64 0], .pointer (some ⟨w1.heap.size, 0, none⟩), .int .i64 0, .bool false, undef, .pointer (some ⟨L.B, 0, none⟩), .pointer (some ⟨L.B, 0, none⟩), .pointer (some ⟨L.B, 3, none⟩), .int .i64 L.ls.length, .slice (some ⟨W2.heap.size, 0, none⟩) 0 L.ls.length, .pointer (some ⟨L.B, 0, none⟩), .pointer (some ⟨L.B, 0, none⟩), .pointer (some ⟨L.B, 3, none⟩), .func (.func 62) #[] #[.pointer (some ⟨W5.heap.size, 0, none⟩)], .pointer (some ⟨x.1.2, 0, none⟩), undef, undef, undef, undef, undef, undef, undef, undef], defers := [] }) ?assign ?body ?done ?stop
  case assign =>
    intro l x W K hK
    gi_wp2
    exact hK
  case body =>
    rintro lp pre x W ⟨⟨v, hv, hrow, _⟩, hB⟩ hlt
    have hx := (HMEM.out x).below hB (HMEM.out x).lt
    obtain ⟨⟨⟨xn, xb, xe, xc, xo⟩, bx⟩, hxm⟩ := x
    dsimp only at hx
    have c0 := hv.cell
    have r0 : W.cell? ⟨bx, 0, none⟩ = some (.string xn) := hx.c (j := 0) rfl
    have r1 : W.cell? ⟨bx, 1, none⟩ = some (.int .i64 xb) := hx.c (j := 1) rfl
    have r2 : W.cell? ⟨bx, 2, none⟩ = some (.int .i64 xe) := hx.c (j := 2) rfl
    have r3 : W.cell? ⟨bx, 3, none⟩ = some (.bool xc) := hx.c (j := 3) rfl
    have r4 : W.cell? ⟨bx, 4, none⟩ = some (.int .i64 xo) := hx.c (j := 4) rfl
    have hlp : pre.length ≤ 100 := by have : ps.length ≤ 100 := by rw [hps]; omega
                                      omega
    have hws := hB.size
    have hlW := hv.lt
    have hlb := hx.lt
    gi_wp2_with fail
    refine wpIn_region_heads [true, true, true, true, false] (fun W' => W'.cell? ⟨w3.heap.size, 0, none⟩ = some v ∧ W'.cell? ⟨bx, 0, none⟩ = some (.string xn) ∧ W'.cell? ⟨bx, 1, none⟩ = some (.int .i64 xb) ∧ W'.cell? ⟨bx, 2, none⟩ = some (.int .i64 xe) ∧ W'.cell? ⟨bx, 3, none⟩ = some (.bool xc) ∧ W'.cell? ⟨bx, 4, none⟩ = some (.int .i64 xo)) (by kernel_rfl) (by kernel_rfl) (by kernel_rfl) ⟨c0, r0, r1, r2, r3, r4⟩ ?_
    iterate 4
      refine Heads.take ?_ (by rfl) ?_ ?_
      rotate_left
      · rintro w' ⟨q0, q1, q2, q3, q4, q5⟩
        go_simp
        try with_reducible rfl
      simp only [Act.put, List.setIfInBounds_toArray, List.set_cons_zero, List.set_cons_succ]
    refine Heads.make (.slice (some ⟨W.heap.size, 0, none⟩) 1 1) (w1 := W.drew.alloc (.cells (lfC ⟨xn, xb, xe, xc, xo⟩) 58)) (by rfl) (by unfold lfC; go_simp) ?_ ?_
    · have hal : ∀ p u, W.cell? p = some u → (W.drew.alloc (.cells (lfC ⟨xn, xb, xe, xc, xo⟩) 58)).cell? p = some u := fun p u hp => (World.cell?_alloc_lt _ _ _ (World.block_lt_of_cell? W.drew p hp)).trans hp
      exact ⟨hal _ _ c0, hal _ _ r0, hal _ _ r1, hal _ _ r2, hal _ _ r3, hal _ _ r4⟩
    refine Heads.done ?_
    simp only [Act.put, List.setIfInBounds_toArray, List.set_cons_zero, List.set_cons_succ]
    have hrow' := hrow.alloc (.cells (lfC ⟨xn, xb, xe, xc, xo⟩) 58)
    clear c0 r0 r1 r2 r3 r4
    go_wp2_with (at_builtin; refine wpList_append_own _ rfl _ _ 26 rfl W2.heap.size 58 i0 (.agg #[.string ⟨#[]⟩, .int .i64 0, .int .i64 0, .bool false, .int .i64 0]) 5 48 Tryz.underlying26 hi hz0 hz1 hz2 rfl (by decide) v _ _ rfl (show (W.drew.alloc _).ownsRow _ _ _ _ _ _ from hrow') ⟨W.heap.size, 0, none⟩ 1 1 [.string xn, .int .i64 xb, .int .i64 xe, .bool xc, .int .i64 xo] rfl rfl (cell_new_any W.drew 58 (lfC ⟨xn, xb, xe, xc, xo⟩)) (by intro u hu; simp at hu; rcases hu with rfl | rfl | rfl | rfl | rfl <;> rfl) (by unfold maxLen; omega) (by omega) (by simp; omega) ?_; intro v' w4 hown4 hg4 _; obtain ⟨g', cap', rfl⟩ := ownsRow_succ hown4; obtain ⟨hv1, hv2, hr2, hk2, hb2⟩ := Boxed.appended (W := W.drew) (show Boxed W.drew _ _ _ from hv) (by decide) (show W.drew.ownsRow _ _ _ _ _ _ from hrow) hws (by omega) hown4 hg4; have hc1 := hv1.cell; have hf1 := hv1.frozen)
    have hbw := (Below.refl W2.heap.size W).drew.trans hb2
    exact Norm.normal ⟨((KeepsOthers.drew W).trans hk2).from _, hbw, ⟨_, hv2, by simpa [lfC] using hr2, trivial⟩, hB.trans hbw⟩
  case done =>
    rintro D ys W hD rfl ⟨⟨v, hv, hrow, _⟩, hB⟩ hK
    have c0 := hv.cell
    have HF9 := HF2.out.below hB (by omega)
    have f0 : W.cell? ⟨w.heap.size, 0, none⟩ = some (.int .i64 0) := HF9.c (j := 0) rfl
    have f1 : W.cell? ⟨w.heap.size, 1, none⟩ = some (.int .i64 0) := HF9.c (j := 1) rfl
    have fz := HF9.frozen
    have g2 := (HF9.set 0 (.int .i64 0)).set 1 (.int .i64 0)
    have hO := (only_set W w.heap.size 0 (.int .i64 0)).then (only_set (W.setCell ⟨w.heap.size, 0, none⟩ (.int .i64 0)) w.heap.size 1 (.int .i64 0))
    have hDl := (Array.getElem?_eq_some_iff.1 hK).1
    have hDw : D ≠ w.heap.size := fun e => by rw [e] at hK; rw [show W.heap[w.heap.size]? = _ from HF9] at hK; cases hK
    gi_wp2
    generalize (W.setCell ⟨w.heap.size, 0, none⟩ (.int .i64 0)).setCell ⟨w.heap.size, 1, none⟩ (.int .i64 0) = W9 at *
    have hK9 := (hO.block D hDl hDw).trans hK
    refine ⟨by simp, .inl ⟨_, _, rfl, run_takeDeferred hK9, ?_⟩⟩
    refine ⟨.tuple #[v, .agg #[.int .i64 0, .int .i64 0]], ?_, v, rfl, ?_, ?_⟩
    · have h9 : Holds (W9.putObj D (.deferred none)) w.heap.size 29 _ := g2.of (World.putObj_heap_other (fun e => hDw e.symm))
      have k0 : (W9.putObj D (.deferred none)).cell? ⟨w.heap.size, 0, none⟩ = some (.int .i64 0) := h9.c (j := 0) rfl
      have k1 : (W9.putObj D (.deferred none)).cell? ⟨w.heap.size, 1, none⟩ = some (.int .i64 0) := h9.c (j := 1) rfl
      simp [results, Tryz.f14, go_sem, k0, k1]
    · have h1 : W9.ownsRow W2.heap.size 58 5 v d.trs.length (d.trs.flatMap fun x => (lfC x).toList) := by
        have e1 : ys.length = d.trs.length := by rw [hps, hl]
        rw [HFL.out, e1] at hrow
        exact hrow.kept hO.grown (.inr (fun e => by have := (hrow.lt _ e).1; omega))
      have h2 := row_mono (h1.kept (grownBy_putObj' W9 D (.deferred none)) (own_not h1 hK9 rfl)) (show w.heap.size ≤ W2.heap.size by omega)
      exact h2
    · have hz := hB.size
      have hD2 : W2.heap.size ≤ D := by simp at hD; omega
      have b1 : Below w.heap.size w W9 := (hb3.trans (hB.mono (by omega))).trans (hO.below (lo := w.heap.size) (Nat.le_refl _) (by omega))
      exact ⟨b1.os, b1.tape, b1.output, by have := b1.size; simpa using this, fun k hk => (World.putObj_heap_other (by omega)).trans (b1.block k hk)⟩
  case stop =>
    rintro D c pre W _ _ h _
    exact h.elim
theorem lives_any (A : Option Addr) (c : Nat) (zs : List EvZ) (w : World) (hE : EvIn w A zs) :
    Calls Tryz.prog 14 #[.slice A zs.length c] w (LivesPost (layX dk0 0 (zs.map Prod.fst)) w) := by
  have hb0 := alloc1 w (.cells #[.int .i64 0, .int .i64 0] 29)
  have hE1 := hE.below hb0
  have HL := lay_any A c zs _ hE1.read hE1.nums hE1.len hE1.many
  have hf := lay_fine (zs.map Prod.fst) dk0 0
  generalize layX dk0 0 (zs.map Prod.fst) = X at *
  obtain ⟨d, er, p⟩ := X
  by_cases hz : er = 0
  · subst hz
    exact lives_yes A c zs.length w d p HL (hf rfl)
  · exact lives_no A c zs.length w d er p hz HL
end Go.Proofs.YtpdbkjnaicjfdaaGreatDoor
