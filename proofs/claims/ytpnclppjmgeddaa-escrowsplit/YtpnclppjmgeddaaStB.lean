/- Contracts of the layer state: Check, Word, Empty, Same. -/
import Derived.Test.YtpnclppjmgeddaaOpBase
import Derived.Test.YtpnclppjmgeddaaStA
import Derived.Shelf.Abstract
namespace Go.Proofs.Ytpnclppjmgeddaa
open Go.RowKit Go.Maps
set_option linter.unusedVariables false

/-- The words lie where the program's text lays them. -/
def Wds (w : World) : Prop := ∀ i, i < 6 → w.cell? ⟨0, i, none⟩ = some (.string (wordB i))
theorem Wds.pos {w : World} (h : Wds w) : 0 < w.heap.size := by
  have := h 0 (by omega)
  rcases Nat.eq_zero_or_pos w.heap.size with e | e
  · unfold World.cell? at this
    rw [Array.getElem?_eq_none (by omega)] at this
    cases this
  · exact e
theorem Wds.below {w w' : World} {n : Nat} (h : Wds w) (hb : Below n w w') (hn : 0 < n) : Wds w' := fun i hi => (hb.cell (p := ⟨0, i, none⟩) hn).trans (h i hi)
theorem Wds.on {w w' : World} (h : Wds w) (hb : Below w.heap.size w w') : Wds w' := h.below hb h.pos

theorem type_yes {t : Int} (h : ¬ (t < 1 ∨ 5 < t)) : knownB t = true := by simp [knownB]; omega
theorem type_no {t : Int} (h : t < 1 ∨ 5 < t) : knownB t = false := by simp [knownB]; omega

theorem check_none (t n : Int) (A : Option Addr) (c : Nat) (l : List Int) (w : World) (h : t < 1 ∨ 5 < t) : Calls Try.prog 25 #[stV t n A l.length c] w (Says (.int .i64 8) w) := by
  have hk := type_no h
  clear h
  unfold stV
  go_enter Try.func25, Try.ntmps25
  go_wp2_with fail
  refine (known_any _ _).mono ?_
  rintro e w1 ⟨rfl, rfl⟩
  rw [hk]
  go_wp2
  go_ret
  exact ⟨rfl, alloc1 w _⟩

theorem ints_cell {w : World} {x : Int} {W : World} {B : Nat} (h : W.cell? ⟨B, 0, none⟩ = some (.int .i64 x)) (hB : Below W.heap.size W w) (hl : B < W.heap.size) : w.cell? ⟨B, 0, none⟩ = some (.int .i64 x) := (hB.cell (p := ⟨B, 0, none⟩) hl).trans h

set_option maxHeartbeats 1000000 in
theorem check_with (t n : Int) (A : Option Addr) (k c : Nat) (w : World) (g : Nat) (b : Bool) (r : Int) (hk : knownB t = true)
    (hix : ∀ W : World, (Instr.index 63 askedV (.int .i64 t)).run Try.prog W = .ok (.func (.func g) #[] #[]) W)
    (eg : ∀ args w, (callFunc g args).run Try.prog w = .ok (.enter g args) w) (H : ∀ W, Below w.heap.size w W → Calls Try.prog g #[stV t n A k c] W (Says (.bool b) W)) (hr : r = if b = true then 0 else 5) :
    Calls Try.prog 25 #[stV t n A k c] w (Says (.int .i64 r) w) := by
  unfold stV at *
  obtain ⟨va, hva⟩ : ∃ va, askedV = va := ⟨_, rfl⟩
  rw [hva] at hix
  have HA : ∀ W : World, Calls Try.prog 38 #[] W (Says va W) := fun W => hva ▸ asked_any W
  have HR := Lib.hid hr
  clear hva hr
  go_enter Try.func25, Try.ntmps25
  go_wp2_with fail
  refine (known_any _ _).mono ?_
  rintro e w1 ⟨rfl, rfl⟩
  rw [hk]
  have HW := Lib.hid (Holds.new w 24 #[.int .i64 t, .int .i64 n, .slice A k c])
  have hB0 : Below w.heap.size w (w.alloc (.cells #[.int .i64 t, .int .i64 n, .slice A k c] 24)) := alloc1 w _
  have hlt0 : w.heap.size < (w.alloc (.cells #[.int .i64 t, .int .i64 n, .slice A k c] 24)).heap.size := by simp
  go_wp2_with fail
  generalize w.alloc (.cells #[.int .i64 t, .int .i64 n, .slice A k c] 24) = W0 at *
  have c0 := HW.out.c (j := 0) rfl
  go_region_held3 (fun w' => w'.cell? ⟨w.heap.size, 0, none⟩ = some (.int .i64 t) ∧ Below W0.heap.size W0 w') (first | exact ⟨c0, (Below.refl _ W0).drew⟩ | exact ⟨(hB6.cell (p := ⟨w.heap.size, 0, none⟩) hlt0).trans c0, (Below.refl _ W0).drew.trans hB6⟩ | go_keep) (first | (go_at_call 38; refine (HA _).mono ?_; rintro e w6 ⟨rfl, hB6⟩))
  have hB6' : Below W0.heap.size W0 w6 := ((Below.refl _ W0).drew).trans hB6
  have HW6 := HW.out.below hB6' hlt0
  have c06 := HW6.c (j := 0) rfl
  have c16 := HW6.c (j := 1) rfl
  have c26 := HW6.c (j := 2) rfl
  have hB : Below w.heap.size w w6 := nxt hB0 hB6' (by omega)
  cases b
  · go_wp2_with fail
    refine (H w6 hB).mono ?_
    rintro e w7 ⟨rfl, hB7⟩
    go_wp2
    go_ret
    exact ⟨ret_int HR.out.symm, nxt hB hB7 hB.size⟩
  · go_wp2_with fail
    refine (H w6 hB).mono ?_
    rintro e w7 ⟨rfl, hB7⟩
    go_wp2
    go_ret
    exact ⟨ret_int HR.out.symm, nxt hB hB7 hB.size⟩

theorem check_any (t n : Int) (A : Option Addr) (c : Nat) (l : List Int) (w : World) (hA : Ints w A l) (hlen : l.length ≤ 1000) :
    Calls Try.prog 25 #[stV t n A l.length c] w (Says (.int .i64 (checkE t n l)) w) := by
  by_cases h : t < 1 ∨ 5 < t
  · rw [check_type h]; exact check_none t n A c l w h
  · have hk := type_yes h
    have hc := check_in (n := n) (l := l) h
    obtain rfl | rfl | rfl | rfl | rfl : t = 1 ∨ t = 2 ∨ t = 3 ∨ t = 4 ∨ t = 5 := by omega
    · exact check_with _ n A _ c w 46 _ _ hk (fun W => by kernel_rfl) (Go.Proofs.enters_of Try.func46 (by kernel_rfl) rfl) (fun W hB => fit1 _ n A c l W) hc
    · exact check_with _ n A _ c w 47 _ _ hk (fun W => by kernel_rfl) (Go.Proofs.enters_of Try.func47 (by kernel_rfl) rfl) (fun W hB => fit2 _ n A c l W (hA.below hB) hlen) hc
    · exact check_with _ n A _ c w 48 _ _ hk (fun W => by kernel_rfl) (Go.Proofs.enters_of Try.func48 (by kernel_rfl) rfl) (fun W hB => fit3 _ n A c l W (hA.below hB) hlen) hc
    · exact check_with _ n A _ c w 49 _ _ hk (fun W => by kernel_rfl) (Go.Proofs.enters_of Try.func49 (by kernel_rfl) rfl) (fun W hB => fit4 _ n A c l W) hc
    · exact check_with _ n A _ c w 50 _ _ hk (fun W => by kernel_rfl) (Go.Proofs.enters_of Try.func50 (by kernel_rfl) rfl) (fun W hB => fit5 _ n A c l W) hc
end Go.Proofs.Ytpnclppjmgeddaa
