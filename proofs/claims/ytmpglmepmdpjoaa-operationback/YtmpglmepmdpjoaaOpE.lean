/- Text. -/
import Derived.Test.YtmpglmepmdpjoaaOpD
namespace Go.Proofs.Ytmpglmepmdpjoaa
open Go.RowKit Go.Maps
set_option linter.unusedVariables false

theorem Holds.not_row {W : World} {B : Nat} {t : TypeId} {cs : Array Value} (h : Holds W B t cs) {base : Nat} {e : TypeId} {size : Nat} {v : Value} {n : Nat} {xs : List Value} (hr : W.ownsRow base e size v n xs) (hne : t ≠ e) : some B ≠ v.ownBlock := by
  rcases hr.2 with ⟨rfl, _⟩ | ⟨g, cap, cur, rfl, _, hg, _⟩
  · simp [Value.ownBlock]
  · intro eq
    obtain rfl : B = g := by simpa [Value.ownBlock] using eq
    rw [show W.heap[B]? = _ from h] at hg
    simp at hg
    exact hne hg.2
theorem Holds.kept {W W' : World} {B : Nat} {t : TypeId} {cs : Array Value} (h : Holds W B t cs) {row : Option Nat} (hg : W.grownBy W' row) (hne : some B ≠ row) : Holds W' B t cs := h.of (hg.block B h.lt hne)

def texts (ss : List ByteArray) : List Value := ss.map Value.string
theorem texts_snoc (ss : List ByteArray) (s : ByteArray) : texts (ss ++ [s]) = texts ss ++ [.string s] := by simp [texts]
theorem info_str : (Try.prog.info? 9).map (fun i => (i.zero, i.size, i.bytes)) = some (some (.string ⟨#[]⟩), 1, 16) := by kernel_rfl

theorem returned_any (k n : Int) (w : World) (hn : I64 n) : Calls Try.prog 37 #[retV k n] w (Says (.string (retB k n)) w) := by
  have HP := Lib.hid (fun W => put_any n W hn.1 hn.2)
  have HR : Hid (retB k n = if k == 0 then okB else if k == 1 then noneB else putB n) := Lib.hid rfl
  generalize retB k n = r at HR
  unfold retV
  cases h0 : (k == 0) with
  | true =>
    obtain rfl : k = 0 := by simpa using h0
    go_enter Try.func37, Try.ntmps37
    go_wp2
    go_ret
    exact ⟨by rw [HR.out]; rfl, (Below.refl _ _).alloc (Nat.le_refl _) _⟩
  | false =>
    cases h1 : (k == 1) with
    | true =>
      obtain rfl : k = 1 := by simpa using h1
      go_enter Try.func37, Try.ntmps37
      go_wp2
      go_ret
      exact ⟨by rw [HR.out]; rfl, (Below.refl _ _).alloc (Nat.le_refl _) _⟩
    | false =>
      go_enter Try.func37, Try.ntmps37
      go_wp2_with fail
      refine (HP.out _).mono ?_
      rintro e w1 ⟨rfl, hB1⟩
      go_wp2
      go_ret
      exact ⟨by rw [HR.out, h0, h1]; rfl, nxt ((Below.refl _ _).alloc (Nat.le_refl _) _) hB1 (by simp)⟩
end Go.Proofs.Ytmpglmepmdpjoaa
