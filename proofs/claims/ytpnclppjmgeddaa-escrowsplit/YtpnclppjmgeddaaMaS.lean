/- What the machines of sets, maps and queues share: appends of numbers onto a row of the call's own, what Apply tells, rows kept. (Drawn out of SeC, SeE, SeG, SeI, SeJ, SeQ.) -/
import Derived.Test.YtpnclppjmgeddaaOpBase
import Derived.Test.YtpnclppjmgeddaaCnA
import Derived.Test.YtpnclppjmgeddaaSePk
import Derived.Test.YtpnclppjmgeddaaMaP
import Derived.Test.YtpnclppjmgeddaaMaO
import Derived.Maps.AppendAt
namespace Go.Proofs.Ytpnclppjmgeddaa
open Go.RowKit Go.Maps
set_option linter.unusedVariables false

theorem ints_src {w : World} {A : Option Addr} {l : List Int} (hA : Ints w A l) : ∀ ad, A = some ad → ∀ j u, (intsOf l)[j]? = some u → w.cell? (ad.add j) = some u := by
  intro ad e j u hu
  subst e
  have hj : j < l.length := by
    rcases Nat.lt_or_ge j l.length with h | h
    · exact h
    · rw [List.getElem?_eq_none (by simp [intsOf]; omega)] at hu; cases hu
  obtain ⟨b, off, e, hb, hc⟩ := hA (by omega)
  injection e with e
  subst e
  rw [add_plain', hc j hj]
  simp [intsOf, List.getElem?_eq_getElem hj] at hu ⊢
  exact hu
theorem ints_none {w : World} {l : List Int} (hA : Ints w none l) : l = [] := by
  cases l with
  | nil => rfl
  | cons x r => obtain ⟨b, off, e, _⟩ := hA (by simp); cases e
/-- 'append(x, y...)' onto a row of the call's own, y whatever numbers. -/
theorem app_run (w : World) (base : Nat) (t ty : TypeId) (ht : Try.prog.underlying t = some (.slice 3)) (v : Value) (n : Nat) (xs : List Value) (hown : w.ownsRow base 3 1 v n xs) (A : Option Addr) (m c : Nat) (l : List Int) (hl : l.length = m) (hA : Ints w A l) (hn : n ≤ 100000) (hm : m ≤ 100000) (hb : base ≤ w.heap.size) :
    ∃ v' w', (Builtin.append_ #[t, t] ty #[v, .slice A m c]).run Try.prog w = .ok v' w' ∧ w'.ownsRow base 3 1 v' (n + m) (xs ++ intsOf l) ∧ w.grownBy w' v.ownBlock ∧ (v' = .slice none 0 0 → v = .slice none 0 0) := by
  obtain ⟨i0, hi, hz0, hz1, hz2⟩ := info_parts info_int
  cases A with
  | none =>
    obtain rfl := ints_none hA
    obtain rfl : m = 0 := by simpa using hl.symm
    refine ⟨v, w, ?_, by simpa [intsOf] using hown, World.grownBy.refl _ _, id⟩
    rcases hown.2 with ⟨rfl, rfl⟩ | ⟨g, cap, cur, rfl, _, _, hnc, _⟩
    · simp [Builtin.append_, run_underlying ht, sizeOf, typeInfo, hi, Builtin.lenOf, Builtin.firstCells]
    · simp [Builtin.append_, run_underlying ht, sizeOf, typeInfo, hi, Builtin.lenOf, Builtin.firstCells, hnc, storeCells]
  | some ad =>
    obtain ⟨v', w', h1, h2, h3, h4, h5⟩ := run_append_own_at (P := Try.prog) w base t ty 3 i0 (.int .i64 0) 1 8 ht hi hz0 hz1 hz2 rfl (by decide) v n xs hown ad m c (intsOf l) (by simp [intsOf, hl]) (ints_src hA ad rfl) (by intro u hu; simp [intsOf] at hu; obtain ⟨x, _, rfl⟩ := hu; rfl) (by simp only [maxLen]; omega) (by omega) hb
    exact ⟨v', w', h1, h2, h3, fun e => (h4.1 e).1⟩
theorem wpList_app (w : World) {ops : Array Oper} {rest : List Oper} {o : Oper} {a : Act} {Q : Exit → Act → World → Prop} (hgd : o.guard = none) (s x : Operand) (t : TypeId)
    (ho : o.op = .call { callee := .builtin .append, args := #[s, x], argTypes := #[t, t] })
    (base : Nat) (ht : Try.prog.underlying t = some (.slice 3)) (v : Value) (n : Nat) (xs : List Value) (hs : a.eval s = v) (hown : w.ownsRow base 3 1 v n xs)
    (A : Option Addr) (m c : Nat) (l : List Int) (hx : a.eval x = .slice A m c) (hl : l.length = m) (hA : Ints w A l) (hn : n ≤ 100000) (hm : m ≤ 100000) (hb : base ≤ w.heap.size)
    (h : ∀ v' w', w'.ownsRow base 3 1 v' (n + m) (xs ++ intsOf l) → w.grownBy w' v.ownBlock → (v' = .slice none 0 0 → v = .slice none 0 0) → wpList Try.prog ops Q rest (a.put o.dst v') w') : wpList Try.prog ops Q (o :: rest) a w := by
  obtain ⟨v', w', hr, h2, h3, h4⟩ := app_run w base t o.type ht v n xs hown A m c l hl hA hn hm hb
  refine wpList_plain hgd fun _ hK => ?_
  unfold Oper.wp execOp
  simp only [ho, resolve, invoke, builtin, Sem.run_bind, Sem.run_pure, Result.andThen_ok, List.map_toArray, List.map_cons, List.map_nil, hs, hx, hr]
  exact hK _ _ (h v' w' h2 h3 h4)
theorem form4 {w : World} {base g n cap m : Nat} {e : TypeId} {v : Value} {xs : List Value} (h : w.ownsRow base e 1 v m xs) (hn : v = .slice none 0 0 → Value.slice (some ⟨g, 0, none⟩) n cap = .slice none 0 0) : ∃ g' cap', v = .slice (some ⟨g', 0, none⟩) m cap' := by
  rcases h.2 with ⟨e', _⟩ | ⟨g', cap', cur, e', _⟩
  · have := hn e'
    cases this
  · exact ⟨g', cap', e'⟩
theorem grown_below {w w' : World} {base g n cap : Nat} {e : TypeId} {xs : List Value} (hg : w.grownBy w' (Value.ownBlock (.slice (some ⟨g, 0, none⟩) n cap))) (h : w.ownsRow base e 1 (.slice (some ⟨g, 0, none⟩) n cap) n xs) (hb : base ≤ w.heap.size) : Below base w w' :=
  (Below.refl base w).grown hg hb (fun k e => by cases e; exact (h.lt g rfl).1)
theorem info8 {i : TypeInfo} (h : i.bytes = 8) (n : Nat) (hn : n ≤ 1000) : i.bytes * n ≤ 281474976710656 := by rw [h]; omega
/-- What Apply tells: the state then (a list of its own), what is returned, the error. -/
def SetPost (t : Int) (m : List Int) (k r er : Int) (w : World) (e : Ending) (w' : World) : Prop :=
  ∃ A c, e = .returned (.tuple #[stV t 0 A m.length c, retV k r, .int .i64 er]) ∧ w'.ownsRow w.heap.size 3 1 (.slice A m.length c) m.length (intsOf m) ∧ Below w.heap.size w w'
theorem set_none (w w' : World) (er : Int) (hB : Below w.heap.size w w') : SetPost 0 [] 0 0 er w (.returned (ansV 0 0 0 0 er)) w' := ⟨none, 0, rfl, World.ownsRow_nil _ _ _ _, hB⟩
theorem row_mid {W W' : World} {base : Nat} {e : TypeId} {size : Nat} {v : Value} {n : Nat} {xs : List Value} (h : W.ownsRow base e size v n xs) (hM : ∀ B, base ≤ B → B < W.heap.size → W'.heap[B]? = W.heap[B]?) : W'.ownsRow base e size v n xs := by
  refine ⟨h.1, ?_⟩
  rcases h.2 with h' | ⟨g, cap, cur, h1, h2, h3, h4⟩
  · exact .inl h'
  · exact .inr ⟨g, cap, cur, h1, h2, (hM g h2 (Array.getElem?_eq_some_iff.1 h3).1).trans h3, h4⟩
theorem filled_far (w : World) (Z : Nat) (t n : Int) (v : Value) (k r : Int) (B : Nat) (hB : Z + 1 < B) : (filled w Z t n v k r).heap[B]? = w.heap[B]? := by
  have e0 : ∀ (W : World) off u, (W.setCell ⟨Z, off, none⟩ u).heap[B]? = W.heap[B]? := fun W off u => Below.heap_setCell _ _ _ _ (show B ≠ Z by omega)
  have e1 : ∀ (W : World) off u, (W.setCell ⟨Z + 1, off, none⟩ u).heap[B]? = W.heap[B]? := fun W off u => Below.heap_setCell _ _ _ _ (show B ≠ Z + 1 by omega)
  exact (((((e1 _ _ _).trans (e1 _ _ _)).trans (e0 _ _ _)).trans (e0 _ _ _)).trans (e0 _ _ _))
theorem onto {a b c : World} (h : Below a.heap.size a b) (k : Below b.heap.size b c) : Below a.heap.size a c := nxt h k h.size
/-- A list of its own, or nil. -/
def RowPost (m : List Int) (w : World) (e : Ending) (w' : World) : Prop :=
  ∃ A c, e = .returned (.slice A m.length c) ∧ w'.ownsRow w.heap.size 3 1 (.slice A m.length c) m.length (intsOf m) ∧ Below w.heap.size w w'
theorem row_shape {W : World} {b : Nat} {v : Value} {n : Nat} {xs : List Value} (h : W.ownsRow b 3 1 v n xs) : ∃ A c, v = .slice A n c ∧ n ≤ c := by
  rcases h.2 with ⟨rfl, rfl⟩ | ⟨g, cap, cur, rfl, _, _, h1, _⟩
  · exact ⟨none, 0, rfl, Nat.le_refl _⟩
  · exact ⟨_, cap, rfl, h1⟩
theorem row_fit {W : World} {b : Nat} {A : Option Addr} {c n : Nat} {xs : List Value} (h : W.ownsRow b 3 1 (.slice A n c) n xs) : n ≤ c := by
  obtain ⟨A', c', e, h'⟩ := row_shape h
  injection e with e1 e2 e3
  omega
theorem row_ends {w W : World} {m : List Int} {n : Nat} {v : Value} (h : W.ownsRow w.heap.size 3 1 v n (intsOf m)) (hB : Below w.heap.size w W) : RowPost m w (.returned v) W := by
  have hn : n = m.length := by have := h.1; simp [intsOf] at this; omega
  subst hn
  obtain ⟨A, c, rfl, _⟩ := row_shape h
  exact ⟨A, c, rfl, h, hB⟩
/-- A number put behind a row of the call's own. -/
theorem row_put {w W w3 : World} {v v3 : Value} {n : Nat} {o : List Int} {y : Int} (ho : W.ownsRow w.heap.size 3 1 v n (intsOf o)) (hB : Below w.heap.size w W) (h3 : w3.ownsRow w.heap.size 3 1 v3 (n + 1) (intsOf o ++ intsOf [y])) (hg : (W.alloc (.cells #[.int .i64 y] 3)).grownBy w3 v.ownBlock) :
    w3.ownsRow w.heap.size 3 1 v3 (n + 1) (intsOf (o ++ [y])) ∧ Below w.heap.size w w3 := by
  refine ⟨by rw [show intsOf (o ++ [y]) = intsOf o ++ intsOf [y] by simp [intsOf]]; exact h3, ?_⟩
  have h1 := hB.alloc hB.size (.cells #[.int .i64 y] 3)
  exact h1.grown hg h1.size (fun k e => (ho.lt k e).1)
theorem row_n {W : World} {b n : Nat} {v : Value} {o : List Int} (h : W.ownsRow b 3 1 v n (intsOf o)) : n = o.length := by
  have := h.1; simp [intsOf] at this; omega
theorem room3 {w W : World} (h : Below w.heap.size w W) (o : Obj) : w.heap.size ≤ (W.alloc o).heap.size := by have := h.size; simp; omega
theorem gro_alloc {a w : World} (h : Below a.heap.size a w) (o : Obj) : Below a.heap.size a (w.alloc o) := h.alloc h.size o
theorem gro_set {a w : World} (h : Below a.heap.size a w) {b : Nat} (off : Nat) (u : Value) (hb : a.heap.size ≤ b) : Below a.heap.size a (w.setCell ⟨b, off, none⟩ u) := h.setCell (p := ⟨b, off, none⟩) hb u
theorem set_other {W : World} {B b : Nat} {t : TypeId} {cs : Array Value} (h : Holds W B t cs) (off : Nat) (u : Value) (hne : B ≠ b) : Holds (W.setCell ⟨b, off, none⟩ u) B t cs := h.of (Below.heap_setCell _ _ _ _ hne)
theorem set_three {W : World} {B : Nat} {t : TypeId} {a b c a' b' c' : Value} (h : Holds W B t #[a, b, c]) : Holds (((W.setCell ⟨B, 0, none⟩ a').setCell ⟨B, 1, none⟩ b').setCell ⟨B, 2, none⟩ c') B t #[a', b', c'] := ((h.set 0 a').set 1 b').set 2 c'
theorem set_two {W : World} {B : Nat} {t : TypeId} {a b a' b' : Value} (h : Holds W B t #[a, b]) : Holds ((W.setCell ⟨B, 0, none⟩ a').setCell ⟨B, 1, none⟩ b') B t #[a', b'] := (h.set 0 a').set 1 b'
theorem row_set {W : World} {base : Nat} {e : TypeId} {size : Nat} {v : Value} {n : Nat} {xs : List Value} (h : W.ownsRow base e size v n xs) (b off : Nat) (u : Value) (hne : ∀ g, v.ownBlock = some g → g ≠ b) : (W.setCell ⟨b, off, none⟩ u).ownsRow base e size v n xs := by
  refine h.kept (row := some b) ⟨rfl, rfl, rfl, by simp [World.setCell], fun k _ hk => Below.heap_setCell _ _ _ _ (fun e => hk (by rw [e]))⟩ ?_
  rcases h.2 with ⟨rfl, _⟩ | ⟨g, cap, cur, rfl, _⟩
  · exact .inl rfl
  · refine .inr ?_
    intro e
    exact hne g rfl (Option.some.inj e)
theorem new_second (w : World) (o : Obj) (t : TypeId) (cs : Array Value) : Holds ((w.alloc o).alloc (.cells cs t)) (w.heap.size + 1) t cs := by
  have := Holds.new (w.alloc o) t cs
  rwa [World.size_alloc] at this
theorem cell_cells {W : World} {p : Addr} {v : Value} (h : W.cell? p = some v) : ∃ o : Obj, W.heap[p.block]? = some o ∧ o.isCells = true := by
  unfold World.cell? at h
  split at h
  · next cs t fr hb => exact ⟨_, hb, rfl⟩
  · cases h
end Go.Proofs.Ytpnclppjmgeddaa
