/- CopyBytes. -/
import Derived.Test.YtmmehfpkcheaiaaTkV
namespace Go.Proofs.Ytmmehfpkcheaiaa
open Go.RowKit
set_option linter.unusedVariables false

def CopyPost (bs : List Int) (w : World) (e : Ending) (w' : World) : Prop :=
  ∃ g cap, e = .returned (.slice (some ⟨g, 0, none⟩) bs.length cap) ∧ w'.ownsRow w.heap.size 5 1 (.slice (some ⟨g, 0, none⟩) bs.length cap) bs.length (bytesOf bs) ∧ Below w.heap.size w w'

set_option maxHeartbeats 1000000 in
theorem copy_any (A : Option Addr) (c : Nat) (bs : List Int) (w : World) (hA : Bytes w A bs) (hm : bs.length ≤ 1000000000) (hnil : A = none → c = 0) :
    Calls Try.prog 20 #[.slice A bs.length c] w (CopyPost bs w) := by
  obtain ⟨i0, hi, hz0, hz1, hz2⟩ := info_parts info_u8
  have hrow := World.ownsRow_lit (base := w.heap.size) (e := 5) (size := 1) w #[] 0 (Nat.le_refl _) (Nat.zero_le _) rfl
  cases A with
  | none =>
    obtain rfl := bytes_none hA
    obtain rfl : c = 0 := hnil rfl
    go_enter Try.func20, Try.ntmps20
    go_wp2
    go_ret
    exact ⟨w.heap.size, 0, rfl, hrow, (Below.refl _ _).alloc (Nat.le_refl _) _⟩
  | some ad =>
    have HS := Lib.hid (bytes_src hA)
    have HRow := Lib.hid hrow
    clear hA hrow hnil
    go_enter Try.func20, Try.ntmps20
    go_wp2_with (at_builtin; refine wpList_append_own_at _ rfl _ _ 22 rfl w.heap.size 5 i0 (.int .u8 0) 1 1 Try.underlying22 hi hz0 hz1 hz2 rfl (by decide) _ _ _ rfl HRow.out ad bs.length c (bytesOf bs) rfl (by simp [bytesOf]) HS.out (by intro u hu; simp [bytesOf] at hu; obtain ⟨x, _, rfl⟩ := hu; rfl) (by simp only [maxLen]; omega) (by omega) (by simp) ?_; intro v0 w0 hown0 hg0 hnil0 hat0; rw [Nat.zero_add] at hown0; obtain ⟨g0, cap0, rfl⟩ := form3 hown0 hnil0)
    go_ret
    exact ⟨g0, cap0, rfl, by simpa using hown0, ((Below.refl _ w).alloc (Nat.le_refl _) _).grown hg0 (by simp) (fun k e => by cases e; exact Nat.le_refl _)⟩

theorem bytes_own {W : World} {base g n cap : Nat} {l : List Int} (h : W.ownsRow base 5 1 (.slice (some ⟨g, 0, none⟩) n cap) n (bytesOf l)) : Bytes W (some ⟨g, 0, none⟩) l := by
  have hl : l.length = n := by have := h.1; simpa [bytesOf] using this
  have h1 := bytes_row h 0 n (by omega)
  rw [List.drop_zero, List.take_of_length_le (by omega)] at h1
  exact h1

theorem row_mid {W W' : World} {base : Nat} {e : TypeId} {size : Nat} {v : Value} {n : Nat} {xs : List Value} (h : W.ownsRow base e size v n xs) (hM : ∀ B, base ≤ B → B < W.heap.size → W'.heap[B]? = W.heap[B]?) : W'.ownsRow base e size v n xs := by
  refine ⟨h.1, ?_⟩
  rcases h.2 with h' | ⟨g, cap, cur, h1, h2, h3, h4⟩
  · exact .inl h'
  · exact .inr ⟨g, cap, cur, h1, h2, (hM g h2 (Array.getElem?_eq_some_iff.1 h3).1).trans h3, h4⟩

theorem OwnLines.mid {W W' : World} {base : Nat} {v : Value} {ls : List Ln} (h : OwnLines W base v ls) (hM : ∀ B, base ≤ B → B < W.heap.size → W'.heap[B]? = W.heap[B]?) : OwnLines W' base v ls := by
  obtain ⟨zs, h1, h2, h3⟩ := h
  exact ⟨zs, h1, row_mid h2 hM, fun z hz => row_mid (h3 z hz) hM⟩

/-- 'append(x, y...)' onto a row of its own, y whatever slice. -/
theorem wpList_append_src {P : Program} (w : World) {ops : Array Oper} {rest : List Oper} {o : Oper} {a : Act} {Q : Exit → Act → World → Prop} (hgd : o.guard = none) (s x : Operand) (t : TypeId)
    (ho : o.op = .call { callee := .builtin .append, args := #[s, x], argTypes := #[t, t] })
    (base : Nat) (e : TypeId) (i : TypeInfo) (z : Value) (size bytes : Nat) (ht : P.underlying t = some (.slice e)) (hi : P.info? e = some i) (hz : i.zero = some z)
    (hsize : i.size = size) (hby : i.bytes = bytes) (hzs : z.cells.size = size) (hsz : 0 < size)
    (v : Value) (n : Nat) (xs : List Value) (hs : a.eval s = v) (hown : w.ownsRow base e size v n xs)
    (A : Option Addr) (m c : Nat) (news : List Value) (hx : a.eval x = .slice A m c) (hl : news.length = m * size) (hsrc : ∀ ad, A = some ad → ∀ j u, news[j]? = some u → w.cell? (ad.add j) = some u) (hnil : A = none → m = 0 ∧ c = 0) (h1 : ∀ u ∈ news, u.oneCell' = true)
    (h63 : n + m ≤ maxLen) (hbytes : (n + m) * bytes ≤ 140737488355328) (hbase : base ≤ w.heap.size)
    (h : ∀ v' w', w'.ownsRow base e size v' (n + m) (xs ++ news) → w.grownBy w' v.ownBlock → (v' = .slice none 0 0 → v = .slice none 0 0) → wpList P ops Q rest (a.put o.dst v') w') : wpList P ops Q (o :: rest) a w := by
  cases A with
  | none =>
    obtain ⟨rfl, rfl⟩ := hnil rfl
    obtain rfl : news = [] := List.eq_nil_of_length_eq_zero (by simpa using hl)
    refine wpList_plain hgd fun _ hK => ?_
    have hr := run_append_owned_none (P := P) w base t o.type e i size ht hi v n xs hown
    unfold Oper.wp execOp
    simp only [ho, resolve, invoke, builtin, Sem.run_bind, Sem.run_pure, Result.andThen_ok, List.map_toArray, List.map_cons, List.map_nil, hs, hx, hr]
    exact hK _ _ (h v w (by simpa using hown) (World.grownBy.refl _ _) id)
  | some ad =>
    exact wpList_append_own w hgd s x t ho base e i z size bytes ht hi hz hsize hby hzs hsz v n xs hs hown ad m c news hx hl (hsrc ad rfl) h1 h63 hbytes hbase fun v' w' h2 h3 h4 => h v' w' h2 h3 (fun e => (h4.1 e).1)

theorem form4 {w : World} {base g n cap m : Nat} {e : TypeId} {v : Value} {xs : List Value} (h : w.ownsRow base e 1 v m xs) (hn : v = .slice none 0 0 → Value.slice (some ⟨g, 0, none⟩) n cap = .slice none 0 0) : ∃ g' cap', v = .slice (some ⟨g', 0, none⟩) m cap' := by
  rcases h.2 with ⟨e', _⟩ | ⟨g', cap', cur, e', _⟩
  · have := hn e'
    cases this
  · exact ⟨g', cap', e'⟩

theorem bytes_src2 {B : Nat} {w : World} {A : Option Addr} {bs : List Int} (hA : BytesB B w A bs) : ∀ ad, A = some ad → ∀ j u, (bytesOf bs)[j]? = some u → w.cell? (ad.add j) = some u := by
  intro ad e0 j u hu
  have hj : j < bs.length := by
    rcases Nat.lt_or_ge j bs.length with h | h
    · exact h
    · rw [List.getElem?_eq_none (by simp [bytesOf]; omega)] at hu; cases hu
  obtain ⟨b, off, e, hb, hc⟩ := hA (by omega)
  rw [e] at e0
  injection e0 with e0
  subst e0
  rw [add_flat, hc j hj]
  simp [bytesOf, List.getElem?_eq_getElem hj] at hu ⊢
  exact hu
end Go.Proofs.Ytmmehfpkcheaiaa
