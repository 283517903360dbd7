/- OverState of the call's own list: just that list's block changes. -/
import Derived.Test.YtmclpganipfadaaGreatDoorMcK
import Derived.Test.YtmclpganipfadaaGreatDoorMcY
namespace Go.Proofs.YtmclpganipfadaaGreatDoor
open Go.RowKit Go.Maps
set_option linter.unusedVariables false

theorem overints_blk (A : Option Addr) (c n lo : Nat) (xs : List Value) (w : World) (h : w.ownsRow lo 3 1 (.slice A n c) n xs) (hn : n ≤ 1001) :
    Calls Tryz.prog 31 #[.slice A n c] w fun e w' => e = .returned (.tuple #[]) ∧ w.grownBy w' (Value.slice A n c).ownBlock := by
  rcases h.2 with ⟨e1, e2⟩ | ⟨g, cap', cur, e1, hg, _⟩
  · injection e1 with e3 e4 e5
    subst e3 e4 e5
    refine (overnil_any w).mono ?_
    rintro e w' ⟨rfl, rfl⟩
    exact ⟨rfl, World.grownBy.refl _ _⟩
  · injection e1 with e3 e4 e5
    subst e3
    exact overrow_any g c n lo _ _ h hn
/-- Just the list's own block may have changed. -/
theorem overstate_blk (t n : Int) (A : Option Addr) (c k lo : Nat) (xs : List Value) (w : World) (h : w.ownsRow lo 3 1 (.slice A k c) k xs) (hk : k ≤ 1001) :
    Calls Tryz.prog 14 #[.agg #[.int .i64 t, .int .i64 n, .slice A k c]] w fun e w' => e = .returned (.tuple #[]) ∧ (w.alloc (.cells #[.int .i64 t, .int .i64 n, .slice A k c] 24)).grownBy w' (Value.slice A k c).ownBlock := by
  have H := overints_blk A c k lo xs _ (row_below h (alloc1 w (.cells #[.int .i64 t, .int .i64 n, .slice A k c] 24))) hk
  clear h
  go_enter Tryz.func14, Tryz.ntmps14
  go_wp2_with fail
  refine H.mono ?_
  rintro e w1 ⟨rfl, hg⟩
  go_wp2
  go_end0
  exact ⟨rfl, hg⟩
theorem row_apart {W w' : World} {base base' n m : Nat} {v u : Value} {xs ys : List Value} (h : W.ownsRow base 3 1 v n xs) (ho : W.ownsRow base' 3 1 u m ys) (hg : W.grownBy w' u.ownBlock) (hlt : ∀ g, u.ownBlock = some g → g < base) : w'.ownsRow base 3 1 v n xs :=
  row_mid h fun B hB hs => hg.block B hs (fun e => by have := hlt B e.symm; omega)
end Go.Proofs.YtmclpganipfadaaGreatDoor
