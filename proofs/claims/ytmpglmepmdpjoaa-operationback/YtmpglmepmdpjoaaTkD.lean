/- Lines. -/
import Derived.Test.YtmpglmepmdpjoaaOpBase
import Derived.Test.YtmpglmepmdpjoaaTkC
import Derived.WalkMore
import Derived.ControlIn
namespace Go.Proofs.Ytmpglmepmdpjoaa
open Go.RowKit Go.Shelf
set_option linter.unusedVariables false

attribute [local go_sem] Oper.semAt_some

theorem wpIn_scope_wide {n : Nat} {P : Program} {c : Code} {Q : Exit → Act → World → Prop} {a : Act} {w : World} (h : c.wpIn Fence.wide n P (Exit.noGoto Q) a w) : (Code.scope c).wpIn Fence.wide n P Q a w :=
  wpIn_wide.2 (wp_scope_straight ((wpIn_wide (n := n)).1 h))

theorem info_word : (Try.prog.info? 90).map (fun i => (i.zero, i.size, i.bytes)) = some (some (.agg #[.string ⟨#[]⟩, .int .i64 0]), 2, 24) := by kernel_rfl
theorem info_line : (Try.prog.info? 88).map (fun i => (i.zero, i.size, i.bytes)) = some (some (.agg #[.int .i64 0, .slice none 0 0]), 2, 32) := by kernel_rfl

def LinesPost (bs : List Int) (w : World) (e : Ending) (w' : World) : Prop :=
  ∃ v, e = .returned (.tuple #[v, .agg #[.int .i64 (textE bs), .int .i64 (textP bs)]]) ∧ OwnLines w' w.heap.size v (textL bs) ∧ Below w.heap.size w w'

/-- Between two lines. -/
structure OutI (s : Nat) (w : World) (xs : List Wd) (W : World) : Prop where
  box : ∃ v, Boxed W (s + 1) 80 v ∧ OwnLines W s v (xs.filterMap lineL)
  fault : Pair2 W (s + 1 + 1) 82 (.int .i64 0) (.int .i64 0)
  res : Pair2 W s 82 (.int .i64 0) (.int .i64 0)
  below : Below s w W
  fine : xs.findSome? lineF = none
  big : s + 5 ≤ W.heap.size
  cb1 : ∃ u, Boxed W (s + 1 + 1 + 1) 85 u
  cb2 : ∃ u, Boxed W (s + 1 + 1 + 1 + 1) 5 u

/-- A line has a fault. -/
structure OutX (s : Nat) (w : World) (xs : List Wd) (W : World) : Prop where
  fault : ∃ f : Nat × Nat, xs.findSome? lineF = some f ∧ Pair2 W (s + 1 + 1) 82 (.int .i64 f.1) (.int .i64 f.2)
  res : Pair2 W s 82 (.int .i64 0) (.int .i64 0)
  below : Below s w W

theorem pair_kept {X Y : World} {B : Nat} {t : TypeId} {a b : Value} {row : Option Nat} (h : Pair2 X B t a b) (hg : X.grownBy Y row) (hr : ∀ r, row = some r → ∃ o : Obj, X.heap[r]? = some o ∧ o.isCells = false) : Pair2 Y B t a b :=
  pair2_own B t (fun (_ : Unit) => a) (fun _ => b) () X Y row h hg hr
theorem box_kept {X Y : World} {B : Nat} {t : TypeId} {a : Value} {row : Option Nat} (h : Boxed X B t a) (hg : X.grownBy Y row) (hr : ∀ r, row = some r → ∃ o : Obj, X.heap[r]? = some o ∧ o.isCells = false) : Boxed Y B t a :=
  boxed_own B t (fun (_ : Unit) => a) () X Y row h hg hr
theorem lines_kept {X Y : World} {base : Nat} {v : Value} {ls : List Ln} {row : Option Nat} (h : OwnLines X base v ls) (hg : X.grownBy Y row) (hr : ∀ r, row = some r → ∃ o : Obj, X.heap[r]? = some o ∧ o.isCells = false) : OwnLines Y base v ls :=
  h.kept hg fun r e => by
    obtain ⟨o, ho, hc⟩ := hr r e
    exact ⟨o, ho, fun cs => ⟨fun e => (by subst e; cases hc), fun e => (by subst e; cases hc)⟩⟩
theorem row_kept {X Y : World} {base : Nat} {e : TypeId} {size n : Nat} {v : Value} {xs : List Value} {row : Option Nat} (h : X.ownsRow base e size v n xs) (hg : X.grownBy Y row) (hr : ∀ r, row = some r → ∃ o : Obj, X.heap[r]? = some o ∧ o.isCells = false) : Y.ownsRow base e size v n xs := by
  refine h.kept hg ?_
  rcases h.2 with ⟨rfl, _⟩ | ⟨g, cap, cur, rfl, _, hgb, _⟩
  · exact .inl rfl
  · refine .inr fun e => ?_
    obtain ⟨o, ho, hc⟩ := hr g (by simpa [Value.ownBlock] using e.symm)
    rw [hgb] at ho; cases ho; cases hc
theorem below_kept {X Y w : World} {s : Nat} {row : Option Nat} (h : Below s w X) (hs : s ≤ w.heap.size) (hg : X.grownBy Y row) (hr : ∀ r, row = some r → s ≤ r) : Below s w Y :=
  h.grown hg (Nat.le_trans hs h.size) hr

theorem OutI.kept {s B : Nat} {w : World} {xs : List Wd} {X Y : World} {row : Option Nat} (hs : s ≤ w.heap.size) (hB : s ≤ B) (h : OutI s w xs X) (hg : X.grownBy Y row) (hr : ∀ r, row = some r → B ≤ r ∧ ∃ o : Obj, X.heap[r]? = some o ∧ o.isCells = false) : OutI s w xs Y := by
  obtain ⟨v, h1, h2⟩ := h.box
  have hr2 := fun r e => (hr r e).2
  exact ⟨⟨v, box_kept h1 hg hr2, lines_kept h2 hg hr2⟩, pair_kept h.fault hg hr2, pair_kept h.res hg hr2, below_kept h.below hs hg (fun r e => Nat.le_trans hB (hr r e).1), h.fine, Nat.le_trans h.big hg.size, h.cb1.imp fun _ h => box_kept h hg hr2, h.cb2.imp fun _ h => box_kept h hg hr2⟩
theorem OutX.kept {s B : Nat} {w : World} {xs : List Wd} {X Y : World} {row : Option Nat} (hs : s ≤ w.heap.size) (hB : s ≤ B) (h : OutX s w xs X) (hg : X.grownBy Y row) (hr : ∀ r, row = some r → B ≤ r ∧ ∃ o : Obj, X.heap[r]? = some o ∧ o.isCells = false) : OutX s w xs Y := by
  obtain ⟨f, h1, h2⟩ := h.fault
  have hr2 := fun r e => (hr r e).2
  exact ⟨⟨f, h1, pair_kept h2 hg hr2⟩, pair_kept h.res hg hr2, below_kept h.below hs hg (fun r e => Nat.le_trans hB (hr r e).1)⟩

/-- Between two words of a line that begins at o; the round began at W. -/
structure InI (B0 o : Nat) (W : World) (xs : List Wd) (W' : World) : Prop where
  box : ∃ v, Boxed W' W.heap.size 86 v ∧ W'.ownsRow W.heap.size 90 2 v xs.length (wordCells (xs.map (shift o)))
  below : Below W.heap.size W W'
  keeps : KeepsFrom B0 W W'
  fine : (xs.map (shift o)).findSome? wordF = none
  cb1 : ∃ u, Boxed W' (W.heap.size + 1) 85 u
  cb2 : ∃ u, Boxed W' (W.heap.size + 1 + 1) 5 u

/-- A word has a fault. -/
structure InX (s B0 o : Nat) (W : World) (xs : List Wd) (W' : World) : Prop where
  fault : ∃ f : Nat × Nat, (xs.map (shift o)).findSome? wordF = some f ∧ Pair2 W' (s + 1 + 1) 82 (.int .i64 f.1) (.int .i64 f.2)
  res : W'.heap[s]? = W.heap[s]?
  below : Below s W W'
  keeps : KeepsFrom B0 W W'

theorem keeps_kept {X Y W : World} {B0 : Nat} {row : Option Nat} (h : KeepsFrom B0 W X) (hg : X.grownBy Y row) (hr : ∀ r, row = some r → W.heap.size ≤ r ∧ ∃ o : Obj, X.heap[r]? = some o ∧ o.isCells = false) : KeepsFrom B0 W Y :=
  ownFrom_keepsFrom (β := Unit) (Nat.le_refl _) () X Y row h hg hr

theorem InI.kept {B0 o B : Nat} {W : World} {xs : List Wd} {X Y : World} {row : Option Nat} (hB : W.heap.size ≤ B) (h : InI B0 o W xs X) (hg : X.grownBy Y row) (hr : ∀ r, row = some r → B ≤ r ∧ ∃ o : Obj, X.heap[r]? = some o ∧ o.isCells = false) : InI B0 o W xs Y := by
  obtain ⟨v, h1, h2⟩ := h.box
  have hr2 := fun r e => (hr r e).2
  have hr3 := fun r e => Nat.le_trans hB (hr r e).1
  exact ⟨⟨v, box_kept h1 hg hr2, row_kept h2 hg hr2⟩, below_kept h.below (Nat.le_refl _) hg hr3, keeps_kept h.keeps hg (fun r e => ⟨hr3 r e, hr2 r e⟩), h.fine, h.cb1.imp fun _ h => box_kept h hg hr2, h.cb2.imp fun _ h => box_kept h hg hr2⟩
theorem InX.kept {s B0 o B : Nat} {W : World} {xs : List Wd} {X Y : World} {row : Option Nat} (hs : s < W.heap.size) (hB : W.heap.size ≤ B) (h : InX s B0 o W xs X) (hg : X.grownBy Y row) (hr : ∀ r, row = some r → B ≤ r ∧ ∃ o : Obj, X.heap[r]? = some o ∧ o.isCells = false) : InX s B0 o W xs Y := by
  obtain ⟨f, h1, h2⟩ := h.fault
  have hr2 := fun r e => (hr r e).2
  have hr3 := fun r e => Nat.le_trans hB (hr r e).1
  have := h.below.size
  exact ⟨⟨f, h1, pair_kept h2 hg hr2⟩, (hg.block s (by omega) (fun e => by have := hr3 s e.symm; omega)).trans h.res, below_kept h.below (by omega) hg (fun r e => by have := hr3 r e; omega), keeps_kept h.keeps hg (fun r e => ⟨hr3 r e, hr2 r e⟩)⟩

theorem grown_box {W w1 : World} {B B' : Nat} {t e : TypeId} {u v z : Value} {n k size : Nat} {xs : List Value} {tmp : Obj} (h : Boxed W B t u) (hte : t ≠ e) (hr : W.ownsRow n e size v k xs) (hg : (W.alloc tmp).grownBy w1 v.ownBlock) (hne : B ≠ B') : (w1.setCell ⟨B', 0, none⟩ z).heap[B]? = W.heap[B]? := by
  rw [Below.heap_setCell _ _ _ _ hne, hg.block B (by have := h.lt; simp; omega) (h.not_row hte hr)]
  exact Below.heap_alloc W tmp B h.lt

theorem grown_pair {W w1 : World} {B B' : Nat} {t e : TypeId} {a b v z : Value} {n k size : Nat} {xs : List Value} {tmp : Obj} (h : Pair2 W B t a b) (hte : t ≠ e) (hr : W.ownsRow n e size v k xs) (hg : (W.alloc tmp).grownBy w1 v.ownBlock) (hne : B ≠ B') : (w1.setCell ⟨B', 0, none⟩ z).heap[B]? = W.heap[B]? := by
  rw [Below.heap_setCell _ _ _ _ hne, hg.block B (by have := h.lt; simp; omega) ?_]
  · exact Below.heap_alloc W tmp B h.lt
  · rcases hr.2 with ⟨rfl, _⟩ | ⟨g, cap, cur, rfl, _, hgb, _⟩
    · simp [Value.ownBlock]
    · intro e'
      obtain rfl : B = g := by simpa [Value.ownBlock] using e'
      have := (show W.heap[B]? = _ from h).symm.trans hgb
      simp at this
      exact hte this.2

theorem text_none {bs : List Int} (hm : bs.length ≤ 67108864) (h : (cuts 10 0 bs).findSome? lineF = none) : textF bs = none := by unfold textF; rw [if_neg (by omega), h]
theorem text_some {bs : List Int} {f : Nat × Nat} (hm : bs.length ≤ 67108864) (h : (cuts 10 0 bs).findSome? lineF = some f) : textF bs = some f := by unfold textF; rw [if_neg (by omega), h]

set_option maxRecDepth 100000 in
set_option maxHeartbeats 2000000 in
theorem lines_main (A : Option Addr) (c : Nat) (bs : List Int) (w : World) (hA : Bytes w A bs) (ho : Octets bs) (hc : bs.length ≤ c) (hm : bs.length ≤ 67108864) :
    Calls Try.prog 44 #[.slice A bs.length c] w (LinesPost bs w) := by
  obtain ⟨i0, hi, hz0, hz1, hz2⟩ := info_parts info_word
  obtain ⟨i1, ki, kz0, kz1, kz2⟩ := info_parts info_line
  have hd0 : decide (67108864 < (bs.length : Int)) = false := decide_eq_false (by omega)
  refine (callsIn_wide (n := 8)).1 ?_
  refine callsIn_of_wp_marks Try.func44 rfl trivial ?_ rfl
  simp only [Try.ntmps44, List.size_toArray, List.length_cons, List.length_nil, Nat.reduceAdd, Nat.reduceSub, Array.replicate_succ, Array.replicate_zero, List.push_toArray, List.append_toArray, List.nil_append, List.cons_append]
  gi_wp2
  refine wpIn_scope_wide ?_
  gi_wp2
  refine wpIn_label ?_
  gi_wp2_with (refine ⟨trivial, ?_⟩; gi_at_call 57; refine (cut_in Fence.wide _ trivial rfl _ _ _ _ _).mono ?_; rintro e w' ⟨rfl, rfl⟩)
  obtain ⟨W0, hW0⟩ : ∃ W0, ((((w.alloc (.cells #[.int .i64 0, .int .i64 0] 82)).alloc (.cells #[.slice none 0 0] 80)).alloc (.cells #[.int .i64 0, .int .i64 0] 82)).alloc (.cells #[.slice A bs.length c] 85)).alloc (.cells #[.int .u8 10] 5) = W0 := ⟨_, rfl⟩
  have hsz : W0.heap.size = w.heap.size + 5 := by rw [← hW0]; simp
  have bR : Pair2 W0 w.heap.size 82 (.int .i64 0) (.int .i64 0) := by
    rw [← hW0]; exact ((((Pair2.new w _ _ _).alloc _).alloc _).alloc _).alloc _
  have bL : Boxed W0 (w.heap.size + 1) 80 (.slice none 0 0) := by
    rw [← hW0]; have := (((Boxed.new (w.alloc (.cells #[.int .i64 0, .int .i64 0] 82)) 80 (.slice none 0 0)).alloc (.cells #[.int .i64 0, .int .i64 0] 82)).alloc (.cells #[.slice A bs.length c] 85)).alloc (.cells #[.int .u8 10] 5); rwa [World.size_alloc] at this
  have bF : Pair2 W0 (w.heap.size + 1 + 1) 82 (.int .i64 0) (.int .i64 0) := by
    rw [← hW0]; have := ((Pair2.new ((w.alloc (.cells #[.int .i64 0, .int .i64 0] 82)).alloc (.cells #[.slice none 0 0] 80)) 82 (.int .i64 0) (.int .i64 0)).alloc (.cells #[.slice A bs.length c] 85)).alloc (.cells #[.int .u8 10] 5); rwa [World.size_alloc, World.size_alloc] at this
  have bB : Boxed W0 (w.heap.size + 1 + 1 + 1) 85 (.slice A bs.length c) := by
    rw [← hW0]; have := (Boxed.new (((w.alloc (.cells #[.int .i64 0, .int .i64 0] 82)).alloc (.cells #[.slice none 0 0] 80)).alloc (.cells #[.int .i64 0, .int .i64 0] 82)) 85 (.slice A bs.length c)).alloc (.cells #[.int .u8 10] 5); rwa [World.size_alloc, World.size_alloc, World.size_alloc] at this
  have bS : Boxed W0 (w.heap.size + 1 + 1 + 1 + 1) 5 (.int .u8 10) := by
    rw [← hW0]; have := Boxed.new ((((w.alloc (.cells #[.int .i64 0, .int .i64 0] 82)).alloc (.cells #[.slice none 0 0] 80)).alloc (.cells #[.int .i64 0, .int .i64 0] 82)).alloc (.cells #[.slice A bs.length c] 85)) 5 (.int .u8 10); rwa [World.size_alloc, World.size_alloc, World.size_alloc, World.size_alloc] at this
  have hB0 : Below w.heap.size w W0 := by
    rw [← hW0]; exact (((((Below.refl _ w).alloc (Nat.le_refl _) _).alloc (by simp) _).alloc (by simp; omega) _).alloc (by simp; omega) _).alloc (by simp; omega) _
  rw [hW0]
  clear hW0
  have hml : bs.length ≤ maxLen := by unfold maxLen; omega
  refine wpIn_rangeFunc_ownH rfl (by omega) (gf := 71) (lb := #[.pointer (some ⟨w.heap.size + 1 + 1 + 1, 0, none⟩), .pointer (some ⟨w.heap.size + 1 + 1 + 1 + 1, 0, none⟩)]) rfl trivial (enters_of Try.func71 (by kernel_rfl) rfl)
    (cut_stops Fence.wide 7 trivial rfl (by omega) (w.heap.size + 1 + 1 + 1) (w.heap.size + 1 + 1 + 1 + 1) w.heap.size A c bs 10 hc hml W0 (by omega) (by omega) (by omega) bB.cell bS.cell (hA.b.below hB0)) KeptB.trans (KeptB.put (by omega) (by omega) (by omega)) (Below.refl _ _) (fun _ => rfl)
    (fun pre W => OutI w.heap.size w (pre.map Piece.pr) W)
    (fun cd pre W => cd = .exit 0 ∧ OutX w.heap.size w (pre.map Piece.pr) W)
    (fun pre X Y row hs hg hr => hs.kept (Nat.le_refl _) (by omega) hg hr)
    (fun cd pre X Y row hs hg hr => ⟨hs.1, hs.2.kept (Nat.le_refl _) (by omega) hg hr⟩)
    ⟨⟨_, bL, OwnLines.nil _ _⟩, bF, bR, hB0, rfl, by omega, ⟨_, bB⟩, ⟨_, bS⟩⟩
    (fun x a' W => ∃ Bx, w.heap.size + 4 < Bx ∧ Boxed W Bx 3 (.int .i64 x.f) ∧ a' = { tmps := #[.slice A bs.length c, undef, .slice none 0 0, .pointer (some ⟨w.heap.size, 0, none⟩), .pointer (some ⟨w.heap.size + 1, 0, none⟩), .pointer (some ⟨w.heap.size + 1 + 1, 0, none⟩), .pointer (some ⟨Bx, 0, none⟩), .slice x.a x.p.length x.k, undef, undef, undef, undef, .slice A bs.length c, .int .i64 bs.length, .bool false, undef, .slice A bs.length c, .func (.func 71) #[] #[.pointer (some ⟨w.heap.size + 1 + 1 + 1, 0, none⟩), .pointer (some ⟨w.heap.size + 1 + 1 + 1 + 1, 0, none⟩)], .int .i64 x.f, .slice x.a x.p.length x.k, undef, undef, undef, undef, undef, undef, undef, undef, undef, undef, undef, undef, undef, undef, undef, undef, undef, undef, undef, undef, undef, undef, undef, undef, undef, undef, undef, undef, undef, undef, undef, undef, undef, undef, undef, undef, undef, undef, undef, undef, undef, undef], defers := [] })
    (fun x a' _ X Y row hs hg hr => by obtain ⟨Bx, h1, h2, h3⟩ := hs; exact ⟨Bx, h1, box_kept h2 hg (fun r e => (hr r e).2), h3⟩)
    ?assign ?body ?done ?stop
  case assign =>
    rintro l pre x W K hI hK
    dsimp only [Piece.enc]
    gi_wp2
    have hbig := hI.big
    obtain ⟨v, b1, b2⟩ := hI.box
    exact hK _ _ ((KeepsOthers.alloc _ _).from _) (KeptB.alloc _ _ _ W _ (by omega) (by omega) (by omega)) ⟨⟨v, b1.alloc _, b2.below ((Below.refl _ W).alloc (Nat.le_refl _) _)⟩, hI.fault.alloc _, hI.res.alloc _, hI.below.alloc (by omega) _, hI.fine, by simp; omega, hI.cb1.imp fun _ h => h.alloc _, hI.cb2.imp fun _ h => h.alloc _⟩ ⟨W.heap.size, by omega, Boxed.new W _ _, rfl⟩
  case body =>
    rintro l pre x a' W hl ⟨r, hr⟩ hI ⟨Bx, hBx, bX, rfl⟩ hlt
    have hbig := hI.big
    have cX := bX.cell
    have hplen := x.len
    have hbx : BytesB w.heap.size W x.a x.p := x.bytes (hA.b.below hI.below)
    have hox := x.octets ho
    have hpm : x.p.length ≤ maxLen := by omega
    have HB := Lib.hid hbx
    have HO := Lib.hid hox
    clear hbx hox
    by_cases h65 : 65536 < x.p.length
    · have hd : decide (65536 < (x.p.length : Int)) = true := decide_eq_true (by omega)
      have f0 := hI.fault.c0
      have f1 := hI.fault.c1
      have g0 := hI.fault.frozen 0
      have g1 := hI.fault.frozen 1
      gi_wp2
      refine ⟨((KeepsOthers.setCell _ _ _).trans (KeepsOthers.setCell _ _ _)).from _, rfl, ⟨(4, x.f), ?_, hI.fault.set _ _⟩, (hI.res.other _ (by simp; omega) _).other _ (by simp; omega) _, (hI.below.setCell (by simp; omega) _).setCell (by simp; omega) _⟩
      rw [List.map_append, List.map_cons, List.map_nil, find_snoc hI.fine]
      exact lineF_long h65
    · have hd : decide (65536 < (x.p.length : Int)) = false := decide_eq_false (by omega)
      have h1' : 1 ≤ 8 - 1 - 1 := by omega
      cases hov : over x.p with
      | true =>
        have HV := Lib.hid hov
        clear hov
        gi_wp2_with (refine ⟨trivial, ?_⟩; gi_at_call 58; refine (CallsIn.inRound l (callsIn_wide.2 (over_any x.a x.k x.p _ _ HB.out hpm))).mono ?_; rw [HV.out]; rintro e w' ⟨rfl, rfl⟩)
        refine ⟨KeepsFrom.refl _ _, KeptB.refl _ _ _ _, ?_⟩
        obtain ⟨v, b1, b2⟩ := hI.box
        refine ⟨⟨v, b1, ?_⟩, hI.fault, hI.res, hI.below, ?_, hI.big, hI.cb1, hI.cb2⟩
        · rw [List.map_append, List.map_cons, List.map_nil, keep_snoc, lineL_over HV.out]; simpa using b2
        · rw [List.map_append, List.map_cons, List.map_nil, find_snoc hI.fine]; exact lineF_over h65 HV.out
      | false =>
        have HV := Lib.hid hov
        clear hov
        gi_wp2_with (refine ⟨trivial, ?_⟩; first
          | (gi_at_call 58; refine (CallsIn.inRound l (callsIn_wide.2 (over_any x.a x.k x.p _ _ HB.out hpm))).mono ?_; rw [HV.out]; rintro e w' ⟨rfl, rfl⟩)
          | (gi_at_call 57; refine (CallsIn.inRound l (cut_in Fence.wide _ trivial rfl _ _ _ _ _)).mono ?_; rintro e w' ⟨rfl, rfl⟩))
        have bN1 : Boxed (((W.alloc (.cells #[.slice none 0 0] 86)).alloc (.cells #[.slice x.a x.p.length x.k] 85)).alloc (.cells #[.int .u8 32] 5)) W.heap.size 86 (.slice none 0 0) := ((Boxed.new W _ _).alloc _).alloc _
        have bN2 : Boxed (((W.alloc (.cells #[.slice none 0 0] 86)).alloc (.cells #[.slice x.a x.p.length x.k] 85)).alloc (.cells #[.int .u8 32] 5)) (W.heap.size + 1) 85 (.slice x.a x.p.length x.k) := by
          have := (Boxed.new (W.alloc (.cells #[.slice none 0 0] 86)) 85 (.slice x.a x.p.length x.k)).alloc (.cells #[.int .u8 32] 5); rwa [World.size_alloc] at this
        have bN3 : Boxed (((W.alloc (.cells #[.slice none 0 0] 86)).alloc (.cells #[.slice x.a x.p.length x.k] 85)).alloc (.cells #[.int .u8 32] 5)) (W.heap.size + 1 + 1) 5 (.int .u8 32) := by
          have := Boxed.new ((W.alloc (.cells #[.slice none 0 0] 86)).alloc (.cells #[.slice x.a x.p.length x.k] 85)) 5 (.int .u8 32); rwa [World.size_alloc, World.size_alloc] at this
        have hBW : Below W.heap.size W (((W.alloc (.cells #[.slice none 0 0] 86)).alloc (.cells #[.slice x.a x.p.length x.k] 85)).alloc (.cells #[.int .u8 32] 5)) := (((Below.refl _ W).alloc (Nat.le_refl _) _).alloc (by simp) _).alloc (by simp; omega) _
        have hKW : KeepsFrom W0.heap.size W (((W.alloc (.cells #[.slice none 0 0] 86)).alloc (.cells #[.slice x.a x.p.length x.k] 85)).alloc (.cells #[.int .u8 32] 5)) := (((KeepsOthers.alloc _ _).trans (KeepsOthers.alloc _ _)).trans (KeepsOthers.alloc _ _)).from _
        have hszW : (((W.alloc (.cells #[.slice none 0 0] 86)).alloc (.cells #[.slice x.a x.p.length x.k] 85)).alloc (.cells #[.int .u8 32] 5)).heap.size = W.heap.size + 3 := by simp
        obtain ⟨W1, hW1⟩ : ∃ W1, ((W.alloc (.cells #[.slice none 0 0] 86)).alloc (.cells #[.slice x.a x.p.length x.k] 85)).alloc (.cells #[.int .u8 32] 5) = W1 := ⟨_, rfl⟩
        rw [hW1] at bN1 bN2 bN3 hBW hKW hszW ⊢
        clear hW1
        have hr' : W1.heap[l]? = some (.loop r) := (hBW.block l (Array.getElem?_eq_some_iff.1 hr).1).trans hr
        have hBx2 : Bx < W.heap.size := bX.lt
        refine wpIn_rangeFunc_ownN (l₀ := l) (r₀ := r) rfl hr' h1' (gf := 71) (lb := #[.pointer (some ⟨W.heap.size + 1, 0, none⟩), .pointer (some ⟨W.heap.size + 1 + 1, 0, none⟩)]) rfl trivial (enters_of Try.func71 (by kernel_rfl) rfl)
          ((cut_stops Fence.wide (8 - 1 - 1 - 1) trivial rfl (by omega) (W.heap.size + 1) (W.heap.size + 1 + 1) w.heap.size x.a x.k x.p 32 x.cap hpm W1 (by omega) (by omega) (by omega) bN2.cell bN3.cell (HB.out.below (hBW.mono (by omega)))).inRound l) KeptB.trans (KeptB.put (by omega) (by omega) (by omega)) (Below.refl _ _) (fun _ => rfl)
          (fun pre' W' => InI W0.heap.size x.f W (pre'.map Piece.pr) W')
          (fun cd pre' W' => cd = .exit 0 ∧ InX w.heap.size W0.heap.size x.f W (pre'.map Piece.pr) W')
          (fun pre' X Y row hs hg hr => hs.kept (by omega) hg hr)
          (fun cd pre' X Y row hs hg hr => ⟨hs.1, hs.2.kept (by omega) (by omega) hg hr⟩)
          ⟨⟨_, bN1, World.ownsRow_nil _ _ _ _⟩, hBW, hKW, rfl, ⟨_, bN2⟩, ⟨_, bN3⟩⟩
          (fun y a'' _ => a'' = { tmps := #[.slice A bs.length c, undef, .slice none 0 0, .pointer (some ⟨w.heap.size, 0, none⟩), .pointer (some ⟨w.heap.size + 1, 0, none⟩), .pointer (some ⟨w.heap.size + 1 + 1, 0, none⟩), .pointer (some ⟨Bx, 0, none⟩), .slice x.a x.p.length x.k, .pointer (some ⟨W.heap.size, 0, none⟩), .int .i64 y.f, .slice y.a y.p.length y.k, undef, .slice A bs.length c, .int .i64 bs.length, .bool false, undef, .slice A bs.length c, .func (.func 71) #[] #[.pointer (some ⟨w.heap.size + 1 + 1 + 1, 0, none⟩), .pointer (some ⟨w.heap.size + 1 + 1 + 1 + 1, 0, none⟩)], .int .i64 x.f, .slice x.a x.p.length x.k, .slice x.a x.p.length x.k, .int .i64 x.p.length, .bool false, undef, undef, .slice x.a x.p.length x.k, .bool false, .slice x.a x.p.length x.k, .func (.func 71) #[] #[.pointer (some ⟨W.heap.size + 1, 0, none⟩), .pointer (some ⟨W.heap.size + 1 + 1, 0, none⟩)], .int .i64 y.f, .slice y.a y.p.length y.k, undef, undef, undef, undef, undef, undef, undef, undef, undef, undef, undef, undef, undef, undef, undef, undef, undef, undef, undef, undef, undef, undef, undef, undef, undef, undef, undef, undef, undef, undef, undef], defers := [] })
          (fun _ _ _ _ _ _ hs _ _ => hs)
          ?assign2 ?body2 ?done2 ?stop2
        case assign2 =>
          rintro l2 pre' y W' K hI2 hK
          dsimp only [Piece.enc]
          gi_wp2
          exact hK _ _ (KeepsFrom.refl _ _) (KeptB.refl _ _ _ _) hI2 rfl
        case body2 =>
          rintro l2 pre' y a'' W' _ _ hI2 rfl hlt2
          obtain ⟨v, bW, rW⟩ := hI2.box
          have cX2 : W'.cell? ⟨Bx, 0, none⟩ = some (.int .i64 x.f) := (hI2.below.cell (p := ⟨Bx, 0, none⟩) hBx2).trans cX
          have hylen := y.len
          have hby : BytesB w.heap.size W' y.a y.p := y.bytes (HB.out.below (hI2.below.mono (by omega)))
          have hoy := y.octets HO.out
          have hym : y.p.length ≤ maxLen := by omega
          have HBy := Lib.hid hby
          have HOy := Lib.hid hoy
          clear hby hoy
          cases hfw : fw y.p with
          | some k =>
            have hk := fw_lt hfw
            have HF := Lib.hid hfw
            have HFI := Lib.hid (fwI_some hfw)
            have fP : Pair2 W' (w.heap.size + 1 + 1) 82 (.int .i64 0) (.int .i64 0) := hI.fault.of (hI2.below.block _ (by omega))
            have f0 := fP.c0
            have f1 := fP.c1
            have g0 := fP.frozen 0
            have g1 := fP.frozen 1
            have hge : decide ((0 : Int) ≤ (k : Int)) = true := decide_eq_true (by omega)
            have hm1 : x.f + y.f + k ≤ 67108864 := by omega
            clear hfw
            gi_wp2_with (refine ⟨trivial, ?_⟩; gi_at_call 59; refine (CallsIn.inRound l2 (callsIn_wide.2 (wrong_any y.a y.k y.p _ _ HBy.out HOy.out hym))).mono ?_; rw [HFI.out]; rintro e w' ⟨rfl, rfl⟩)
            refine ⟨((KeepsOthers.setCell _ _ _).trans (KeepsOthers.setCell _ _ _)).from _, rfl, ⟨(5, y.f + x.f + k), ?_, ?_⟩, ?_, ?_, hI2.keeps.trans (((KeepsOthers.setCell _ _ _).trans (KeepsOthers.setCell _ _ _)).from _)⟩
            · rw [List.map_append, List.map_cons, List.map_nil, List.map_append, List.map_cons, List.map_nil, find_snoc hI2.fine]
              exact wordF_some (x := shift x.f y.pr) HF.out
            · have := fP.set (.int .i64 5) (.int .i64 ((x.f : Int) + y.f + k))
              rw [show (((5, y.f + x.f + k) : Nat × Nat).2 : Int) = (x.f : Int) + y.f + k by simp; omega]
              exact this
            · rw [Below.heap_setCell _ _ _ _ (by simp; omega), Below.heap_setCell _ _ _ _ (by simp; omega)]
              exact hI2.below.block _ (by omega)
            · exact ((hI2.below.mono (by omega)).setCell (p := ⟨w.heap.size + 1 + 1, 0, none⟩) (by simp; omega) _).setCell (p := ⟨w.heap.size + 1 + 1, 1, none⟩) (by simp; omega) _
          | none =>
            have HF := Lib.hid hfw
            have HFI := Lib.hid (fwI_none hfw)
            have hcv := conv_some _ W' y.a y.k y.p HBy.out (fw_none_inv hfw).1
            have cW := bW.cell
            have hm1 : x.f + y.f ≤ 67108864 := by omega
            clear hfw
            have hpl : pre'.length ≤ x.p.length + 1 := by have := cuts_len 32 x.p 0; omega
            rw [List.length_map] at rW
            have hwb := hI2.below.size
            have hml2 : pre'.length + 1 ≤ maxLen := by unfold maxLen; omega
            gi_wp2_with (first
              | (gi_at_builtin; refine wpListIn_append_own _ rfl _ _ 86 rfl W.heap.size 90 i0 (.agg #[.string ⟨#[]⟩, .int .i64 0]) 2 24 Try.underlying86 hi hz0 hz1 hz2 rfl (by decide) _ _ _ rfl (rW.alloc _) ⟨W'.heap.size, 0, none⟩ 1 1 [.string (strOfNums y.p), .int .i64 ((x.f : Int) + y.f)] rfl rfl (cell_two_new _ _ _ _) (by simp [Value.oneCell']) hml2 (by omega) (by simp; omega) ?_; intro v' w1 hown' hgrow _; obtain ⟨g', cap', rfl⟩ := ownsRow_succ hown'; obtain ⟨hv1, hv2, hr2, hk2, hb2⟩ := bW.appended (by decide) rW hwb (Nat.le_refl _) hown' hgrow; have hc1 := hv1.cell; have hf1 := hv1.frozen)
              | (refine ⟨trivial, ?_⟩; gi_at_call 59; refine (CallsIn.inRound l2 (callsIn_wide.2 (wrong_any y.a y.k y.p _ _ HBy.out HOy.out hym))).mono ?_; rw [HFI.out]; rintro e w' ⟨rfl, rfl⟩))
            obtain ⟨u1, hu1⟩ := hI2.cb1
            obtain ⟨u2, hu2⟩ := hI2.cb2
            have e1 := grown_box (z := .slice (some ⟨g', 0, none⟩) (pre'.length + 1) cap') (B' := W.heap.size) hu1 (by decide) rW hgrow (by omega)
            have e2 := grown_box (z := .slice (some ⟨g', 0, none⟩) (pre'.length + 1) cap') (B' := W.heap.size) hu2 (by decide) rW hgrow (by omega)
            refine ⟨hk2.from _, ⟨hb2.mono (by omega), e1, e2⟩, ⟨_, hv2, ?_⟩, hI2.below.trans hb2, hI2.keeps.trans (hk2.from _), ?_, ⟨_, boxed_of hu1 e1⟩, ⟨_, boxed_of hu2 e2⟩⟩
            · rw [List.map_append, List.map_cons, List.map_nil, List.map_append, List.map_cons, List.map_nil, wordCells_snoc, List.length_append, List.length_map]
              have e3 : (((shift x.f y.pr).1 : Nat) : Int) = (x.f : Int) + y.f := by simp [shift, Piece.pr]; omega
              rw [e3]; exact hr2
            · rw [List.map_append, List.map_cons, List.map_nil, List.map_append, List.map_cons, List.map_nil, find_snoc hI2.fine]
              exact wordF_none (x := shift x.f y.pr) HF.out
        case done2 =>
          rintro ys W' hys hI2
          obtain ⟨v2, bW, rW⟩ := hI2.box
          have hfine := hI2.fine
          rw [hys] at rW hfine
          have HFine := Lib.hid hfine
          obtain ⟨m, hm'⟩ : ∃ m, (cuts 32 0 x.p).length = m := ⟨_, rfl⟩
          rw [hm'] at rW
          have HM := Lib.hid hm'
          clear hm' hfine hys
          have cX2 : W'.cell? ⟨Bx, 0, none⟩ = some (.int .i64 x.f) := (hI2.below.cell (p := ⟨Bx, 0, none⟩) hBx2).trans cX
          obtain ⟨v, b1, b2⟩ := hI.box
          replace b1 : Boxed W' (w.heap.size + 1) 80 v := boxed_of b1 (hI2.below.block _ (by omega))
          replace b2 := b2.below hI2.below
          obtain ⟨zs, hzs, rL, rs⟩ := b2
          obtain ⟨A2, c2, rfl⟩ := row_one rW
          have cL := b1.cell
          have cW := bW.cell
          have hzl : zs.length + 1 ≤ 67108866 := by
            have h1 := congrArg List.length hzs
            have h2 := List.length_filterMap_le lineL (pre.map Piece.pr)
            have h3 := cuts_len 10 bs 0
            rw [List.length_map] at h1 h2
            omega
          have HZS := Lib.hid hzs
          clear hzs
          have hml2 : zs.length + 1 ≤ maxLen := by unfold maxLen; omega
          have hwb := hI2.below.size
          gi_wp2_with (gi_at_builtin; refine wpListIn_append_own _ rfl _ _ 80 rfl w.heap.size 88 i1 (.agg #[.int .i64 0, .slice none 0 0]) 2 32 Try.underlying80 ki kz0 kz1 kz2 rfl (by decide) _ _ _ rfl (rL.alloc _) ⟨W'.heap.size, 0, none⟩ 1 1 [.int .i64 x.f, .slice A2 m c2] rfl rfl (cell_two_new _ _ _ _) (by simp [Value.oneCell']) hml2 (by omega) (by simp; omega) ?_; intro v' w1 hown' hgrow _; obtain ⟨g', cap', rfl⟩ := ownsRow_succ hown'; obtain ⟨hv1, hv2, hr2, hk2, hb2⟩ := b1.appended (by decide) rL (by omega) (by omega) hown' hgrow; have hc1 := hv1.cell; have hf1 := hv1.frozen)
          obtain ⟨u1, hu1⟩ := hI.cb1
          obtain ⟨u2, hu2⟩ := hI.cb2
          replace hu1 := boxed_of hu1 (hI2.below.block _ (by omega))
          replace hu2 := boxed_of hu2 (hI2.below.block _ (by omega))
          have hfa := hI.fault.of (hI2.below.block _ (by omega))
          have hre := hI.res.of (hI2.below.block _ (by omega))
          have e1 := grown_box (z := .slice (some ⟨g', 0, none⟩) (zs.length + 1) cap') (B' := w.heap.size + 1) hu1 (by decide) rL hgrow (by omega)
          have e2 := grown_box (z := .slice (some ⟨g', 0, none⟩) (zs.length + 1) cap') (B' := w.heap.size + 1) hu2 (by decide) rL hgrow (by omega)
          have e3 := grown_pair (z := .slice (some ⟨g', 0, none⟩) (zs.length + 1) cap') (B' := w.heap.size + 1) hfa (by decide) rL hgrow (by omega)
          have e4 := grown_pair (z := .slice (some ⟨g', 0, none⟩) (zs.length + 1) cap') (B' := w.heap.size + 1) hre (by decide) rL hgrow (by omega)
          have hz : W'.ownsRow w.heap.size 90 2 (.slice A2 m c2) (cuts 32 x.f x.p).length (wordCells (cuts 32 x.f x.p)) := by
            rw [cuts_at 32 x.f, List.length_map, HM.out]
            exact row_mono rW (by omega)
          have hBW2 : Below w.heap.size W (w1.setCell ⟨w.heap.size + 1, 0, none⟩ (.slice (some ⟨g', 0, none⟩) (zs.length + 1) cap')) := (hI2.below.mono (by omega)).trans hb2
          refine ⟨hI2.keeps.trans (hk2.from _), ⟨hBW2, e1.trans (hI2.below.block _ (by omega)), e2.trans (hI2.below.block _ (by omega))⟩, ⟨_, hv2, ?_⟩, hfa.of e3, hre.of e4, hI.below.trans hBW2, ?_, Nat.le_trans hbig (Nat.le_trans hwb hb2.size), ⟨_, boxed_of hu1 e1⟩, ⟨_, boxed_of hu2 e2⟩⟩
          · have := lines_appended (z := ((x.f, cuts 32 x.f x.p), .slice A2 m c2)) b1 rL rs hz hown' hgrow
            rw [List.map_append, HZS.out] at this
            rw [List.map_append, List.map_cons, List.map_nil, keep_snoc, lineL_words (x := x.pr) HV.out]
            exact this
          · rw [List.map_append, List.map_cons, List.map_nil, find_snoc hI.fine, lineF_words (x := x.pr) h65 HV.out]
            show (cuts 32 x.f x.p).findSome? wordF = none
            rw [cuts_at]; exact HFine.out
        case stop2 =>
          rintro cd pre' W' hpre ⟨rfl, hX⟩
          have HPre := Lib.hid hpre
          clear hpre
          gi_wp2
          obtain ⟨f, hf, fP⟩ := hX.fault
          refine ⟨hX.keeps, rfl, ⟨f, ?_, fP⟩, hI.res.of hX.res, hI.below.trans hX.below⟩
          rw [List.map_append, List.map_cons, List.map_nil, find_snoc hI.fine, lineF_words (x := x.pr) h65 HV.out]
          show (cuts 32 x.f x.p).findSome? wordF = some f
          rw [cuts_at]
          exact find_prefix (HPre.out.map _) hf
  case done =>
    rintro D ys W hD hys hI hK
    obtain ⟨v, b1, b2⟩ := hI.box
    have hfine := hI.fine
    rw [hys] at hfine b2
    have HF := Lib.hid (text_none hm hfine)
    have HO := Lib.hid b2
    clear hys hfine b2
    obtain ⟨zs, hzs, rL, rs⟩ := HO.out
    have HZ := Lib.hid hzs
    clear hzs
    obtain ⟨A2, c2, rfl⟩ := row_one rL
    have cL := b1.cell
    have f0 := hI.fault.c0
    have f1 := hI.fault.c1
    have r0 := hI.res.c0
    have r1 := hI.res.c1
    have q0 := hI.res.frozen 0
    have q1 := hI.res.frozen 1
    gi_wp2
    rw [Exit.noGoto_ret]
    have hKO : KeepsOthers W ((W.setCell ⟨w.heap.size, 0, none⟩ (.int .i64 0)).setCell ⟨w.heap.size, 1, none⟩ (.int .i64 0)) := (KeepsOthers.setCell _ _ _).trans (KeepsOthers.setCell _ _ _)
    have hK' := hKO.same D _ hK rfl
    have hP := hI.res.set (.int .i64 0) (.int .i64 0)
    refine ⟨by simp, .inl ⟨_, _, rfl, run_takeDeferred hK', ?_⟩⟩
    have hBe : Below w.heap.size w (((W.setCell ⟨w.heap.size, 0, none⟩ (.int .i64 0)).setCell ⟨w.heap.size, 1, none⟩ (.int .i64 0)).putObj D (.deferred none)) :=
      ((hI.below.setCell (p := ⟨w.heap.size, 0, none⟩) (Nat.le_refl _) _).setCell (p := ⟨w.heap.size, 1, none⟩) (Nat.le_refl _) _).trans (belowK_b (w := w) (Nat.le_refl _) _ D _ _ (by omega) hK' rfl rfl)
    have hP2 : Pair2 (((W.setCell ⟨w.heap.size, 0, none⟩ (.int .i64 0)).setCell ⟨w.heap.size, 1, none⟩ (.int .i64 0)).putObj D (.deferred none)) w.heap.size 82 (.int .i64 0) (.int .i64 0) := hP.of (World.putObj_heap_other (by omega))
    have p0 := hP2.c0
    have p1 := hP2.c1
    refine ⟨.tuple #[.slice A2 zs.length c2, .agg #[.int .i64 0, .int .i64 0]], by simp [results, Try.f44, go_sem, p0, p1], .slice A2 zs.length c2, ?_, ?_, hBe⟩
    · rw [textE, textP, HF.out]
    · rw [textL, if_pos HF.out]
      have hset : ∀ (X : World) (j : Nat) (u : Value), OwnLines X w.heap.size (.slice A2 zs.length c2) ((cuts 10 0 bs).filterMap lineL) → (∃ a b, Pair2 X w.heap.size 82 a b) → OwnLines (X.setCell ⟨w.heap.size, j, none⟩ u) w.heap.size (.slice A2 zs.length c2) ((cuts 10 0 bs).filterMap lineL) := by
        rintro X j u hX ⟨a, b, hab⟩
        refine hX.kept (row := some w.heap.size) ⟨rfl, rfl, rfl, by simp [World.setCell], fun k _ hk => Below.heap_setCell _ _ _ k (fun e => hk (by rw [e]))⟩ fun r e => ?_
        cases e
        exact ⟨_, hab, fun cs => ⟨by simp, by simp⟩⟩
      have h1 := hset W 0 (.int .i64 0) HO.out ⟨_, _, hI.res⟩
      have h2 := hset _ 1 (.int .i64 0) h1 ⟨.int .i64 0, .int .i64 0, heap_setCell_same W w.heap.size 0 #[.int .i64 0, .int .i64 0] _ _ hI.res⟩
      exact lines_kept h2 (grownBy_putObj' _ D (.deferred none)) (fun r e => by cases e; exact ⟨_, hK', rfl⟩)
  case stop =>
    rintro D cd pre W hD hpre ⟨rfl, hX⟩ hK
    obtain ⟨f, hf, fP⟩ := hX.fault
    have HF := Lib.hid (text_some hm (find_prefix hpre hf))
    obtain ⟨fx, _, hfx⟩ := find_one hf
    have h45 := lineF_not hfx
    have hne : ((f.1 : Int) == 0) = false := beq_eq_false_iff_ne.2 (by omega)
    have f0 := fP.c0
    have f1 := fP.c1
    have r0 := hX.res.c0
    have r1 := hX.res.c1
    have q0 := hX.res.frozen 0
    have q1 := hX.res.frozen 1
    clear hf hfx hpre
    gi_wp2
    gi_region
    gi_wp2
    rw [Exit.noGoto_ret]
    have hKO : KeepsOthers W ((W.setCell ⟨w.heap.size, 0, none⟩ (.int .i64 f.1)).setCell ⟨w.heap.size, 1, none⟩ (.int .i64 f.2)).drew := ((KeepsOthers.setCell _ _ _).trans (KeepsOthers.setCell _ _ _)).trans (KeepsOthers.drew _)
    have hK' := hKO.same D _ hK rfl
    have hP := hX.res.set (.int .i64 f.1) (.int .i64 f.2)
    refine ⟨by simp, .inl ⟨_, _, rfl, run_takeDeferred hK', ?_⟩⟩
    have hBe : Below w.heap.size w (((W.setCell ⟨w.heap.size, 0, none⟩ (.int .i64 f.1)).setCell ⟨w.heap.size, 1, none⟩ (.int .i64 f.2)).drew.putObj D (.deferred none)) :=
      (((hX.below.setCell (p := ⟨w.heap.size, 0, none⟩) (Nat.le_refl _) _).setCell (p := ⟨w.heap.size, 1, none⟩) (Nat.le_refl _) _).drew).trans (belowK_b (w := w) (Nat.le_refl _) _ D _ _ (by omega) hK' rfl rfl)
    have hP2 : Pair2 (((W.setCell ⟨w.heap.size, 0, none⟩ (.int .i64 f.1)).setCell ⟨w.heap.size, 1, none⟩ (.int .i64 f.2)).drew.putObj D (.deferred none)) w.heap.size 82 (.int .i64 f.1) (.int .i64 f.2) := Pair2.of (W := ((W.setCell ⟨w.heap.size, 0, none⟩ (.int .i64 f.1)).setCell ⟨w.heap.size, 1, none⟩ (.int .i64 f.2)).drew) hP (World.putObj_heap_other (by omega))
    have p0 := hP2.c0
    have p1 := hP2.c1
    refine ⟨.tuple #[.slice none 0 0, .agg #[.int .i64 f.1, .int .i64 f.2]], by simp [results, Try.f44, go_sem, p0, p1], .slice none 0 0, ?_, ?_, hBe⟩
    · rw [textE, textP, HF.out]
    · rw [textL, if_neg (by rw [HF.out]; simp)]
      exact OwnLines.nil _ _

set_option maxHeartbeats 1000000 in
theorem lines_long (A : Option Addr) (c : Nat) (bs : List Int) (w : World) (hm : 67108864 < bs.length) (hx : bs.length ≤ maxLen) :
    Calls Try.prog 44 #[.slice A bs.length c] w (LinesPost bs w) := by
  have hd0 : decide (67108864 < (bs.length : Int)) = true := decide_eq_true (by omega)
  have HF : Hid (textF bs = some (4, 67108864)) := Lib.hid (by unfold textF; rw [if_pos hm])
  unfold maxLen at hx
  go_enter Try.func44, Try.ntmps44
  go_wp2
  go_step3
  go_wp2
  rw [Exit.noGoto_ret]
  refine bodyPost_ret (v := .tuple #[.slice none 0 0, .agg #[.int .i64 4, .int .i64 67108864]]) (by simp [results, Try.f44, go_sem]) rfl ?_
  refine ⟨.slice none 0 0, ?_, ?_, ?_⟩
  · rw [textE, textP, HF.out]; rfl
  · rw [textL, if_neg (by rw [HF.out]; simp)]
    exact OwnLines.nil _ _
  · exact (Below.refl _ w).alloc (Nat.le_refl _) _

/-- Lines, at every text. -/
theorem lines_any (A : Option Addr) (c : Nat) (bs : List Int) (w : World) (hA : Bytes w A bs) (ho : Octets bs) (hc : bs.length ≤ c) (hm : bs.length ≤ maxLen) :
    Calls Try.prog 44 #[.slice A bs.length c] w (LinesPost bs w) := by
  by_cases h : bs.length ≤ 67108864
  · exact lines_main A c bs w hA ho hc h
  · exact lines_long A c bs w (by omega) hm
end Go.Proofs.Ytmpglmepmdpjoaa
