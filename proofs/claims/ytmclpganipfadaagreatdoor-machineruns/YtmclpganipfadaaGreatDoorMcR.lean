/- What the document's five layers' Apply tell of any state: the machine's one answer; the list is only read. -/
import Derived.Test.YtmclpganipfadaaGreatDoorMcA
namespace Go.Proofs.YtmclpganipfadaaGreatDoor
open Go.RowKit Go.Maps
set_option linter.unusedVariables false

/-- What the document's Apply tells: a list that is only read. -/
def RPost (p : Ans) (w : World) (e : Ending) (w' : World) : Prop :=
  ∃ A c, e = .returned (.tuple #[stV p.t p.n A p.l.length c, retV p.k p.r, .int .i64 p.e]) ∧ RowT w' A p.l ∧ Below w.heap.size w w'
theorem rowT_nil (w : World) (A : Option Addr) : RowT w A [] := fun h => absurd h (Nat.lt_irrefl 0)
theorem rp_says {p : Ans} (hl : p.l = []) {w w' : World} {e : Ending} (h : Says (ansV p.t p.n p.k p.r p.e) w e w') : RPost p w e w' := by
  obtain ⟨rfl, hB⟩ := h
  exact ⟨none, 0, by rw [hl]; rfl, by rw [hl]; exact rowT_nil _ _, hB⟩
theorem rp_set {p : Ans} (hn : p.n = 0) {w w' : World} {e : Ending} (h : SetPost p.t p.l p.k p.r p.e w e w') : RPost p w e w' := by
  obtain ⟨A, c, rfl, h1, hB⟩ := h
  exact ⟨A, c, by rw [hn], rowT_own rfl h1, hB⟩
theorem rp_read {p : Ans} (hn : p.n = 0) {w w' : World} {e : Ending} (h : ReadPost p.t p.l p.k p.r p.e w e w') : RPost p w e w' := by
  obtain ⟨A, c, rfl, h1, hB⟩ := h
  exact ⟨A, c, by rw [hn], h1, hB⟩

theorem rmcnt_any (n : Int) (A : Option Addr) (c : Nat) (l : List Int) (kd a b : Int) (w : World) (hA : Ints w A l) (hlen : l.length ≤ 800) :
    Calls Tryz.prog 25 #[stV 1 n A l.length c, .int .i64 kd, .int .i64 a, .int .i64 b] w (RPost (cntA n l kd a b) w) := by
  unfold cntA
  cases l with
  | cons x xs =>
    rw [if_neg (by simp)]
    exact (rapply_form n A c _ kd a b w hA (by omega) (by simp)).mono fun e w' h => rp_says rfl h
  | nil =>
    rw [if_pos rfl]
    by_cases h1 : kd = 1
    · subst h1
      rw [if_pos rfl]
      by_cases hb : b = 0
      · subst hb
        rw [if_pos rfl]
        exact (rapply_add n A c a w).mono fun e w' h => rp_says rfl h
      · rw [if_neg hb]
        exact (rapply_add_no n A c a b w hb).mono fun e w' h => rp_says rfl h
    · rw [if_neg h1]
      by_cases h2 : kd = 2
      · subst h2
        rw [if_pos rfl]
        by_cases h : a = 0 ∧ b = 0
        · obtain ⟨rfl, rfl⟩ := h
          rw [if_pos ⟨rfl, rfl⟩]
          exact (rapply_read n A c w).mono fun e w' h => rp_says rfl h
        · rw [if_neg h]
          by_cases hb : b = 0
          · subst hb
            exact (rapply_read_no2 n A c a w (fun e => h ⟨e, rfl⟩)).mono fun e w' h => rp_says rfl h
          · exact (rapply_read_no n A c a b w hb).mono fun e w' h => rp_says rfl h
      · rw [if_neg h2]
        exact (rapply_word n A c kd a b w h1 h2).mono fun e w' h => rp_says rfl h
theorem rmset_any (n : Int) (A : Option Addr) (c : Nat) (l : List Int) (kd a b : Int) (w : World) (hA : Ints w A l) (hlen : l.length ≤ 800) :
    Calls Tryz.prog 26 #[stV 2 n A l.length c, .int .i64 kd, .int .i64 a, .int .i64 b] w (RPost (setA n l kd a b) w) := by
  unfold setA
  by_cases hf : n = 0 ∧ riseB 1 l = true
  · rw [if_pos hf]
    obtain ⟨rfl, hr'⟩ := hf
    have hr := (rise_iff l).1 hr'
    by_cases hk : kd < 3 ∨ 6 < kd
    · rw [if_pos hk]
      rcases hk with h | h
      · exact (rsapply_word A c l kd a b w hA (by omega) hr h).mono fun e w' h => rp_set rfl h
      · exact (rsapply_word2 A c l kd a b w hA (by omega) hr h).mono fun e w' h => rp_set rfl h
    · rw [if_neg hk]
      by_cases hb : b ≠ 0 ∨ (kd = 6 ∧ a ≠ 0)
      · rw [if_pos hb]
        by_cases hb0 : b = 0
        · subst hb0
          obtain ⟨rfl, ha⟩ : kd = 6 ∧ a ≠ 0 := by omega
          exact (rsapply_arg2 A c l a w hA (by omega) hr ha).mono fun e w' h => rp_set rfl h
        · exact (rsapply_arg A c l kd a b w hA (by omega) hr (by omega) (by omega) hb0).mono fun e w' h => rp_set rfl h
      · rw [if_neg hb]
        obtain rfl : b = 0 := by omega
        obtain rfl | rfl | rfl | rfl : kd = 3 ∨ kd = 4 ∨ kd = 5 ∨ kd = 6 := by omega
        · rw [if_pos rfl]
          exact (rsapply_insert A c l a w hA (by omega) hr).mono fun e w' h => rp_set rfl h
        · rw [if_neg (by decide), if_pos rfl]
          exact (rsapply_remove A c l a w hA (by omega) hr).mono fun e w' h => rp_set rfl h
        · rw [if_neg (by decide), if_neg (by decide), if_pos rfl]
          exact (rsapply_has A c l a w hA (by omega) hr).mono fun e w' h => rp_set rfl h
        · rw [if_neg (by decide), if_neg (by decide), if_neg (by decide)]
          obtain rfl : a = 0 := by omega
          exact (rsapply_size A c l w hA (by omega) hr).mono fun e w' h => rp_set rfl h
  · rw [if_neg hf]
    exact (rsapply_form n A c l kd a b w hA (by omega) (fun h => hf ⟨h.1, (rise_iff l).2 h.2⟩)).mono fun e w' h => rp_set rfl h
theorem rmmap_any (n : Int) (A : Option Addr) (c : Nat) (l : List Int) (kd a b : Int) (w : World) (hA : Ints w A l) (hlen : l.length ≤ 800) :
    Calls Tryz.prog 27 #[stV 3 n A l.length c, .int .i64 kd, .int .i64 a, .int .i64 b] w (RPost (mapA n l kd a b) w) := by
  unfold mapA
  by_cases hf : n = 0 ∧ l.length % 2 = 0 ∧ riseB 2 l = true
  · rw [if_pos hf]
    obtain ⟨rfl, hr'⟩ := hf
    have hr := (krise_iff l).1 hr'
    by_cases hk : kd < 7 ∨ 9 < kd
    · rw [if_pos hk]
      rcases hk with h | h
      · exact (rmapply_word A c l kd a b w hA (by omega) hr h).mono fun e w' h => rp_set rfl h
      · exact (rmapply_word2 A c l kd a b w hA (by omega) hr h).mono fun e w' h => rp_set rfl h
    · rw [if_neg hk]
      by_cases h7 : kd = 7
      · subst h7
        rw [if_pos rfl]
        exact (rmapply_put A c l a b w hA (by omega) hr).mono fun e w' h => rp_set rfl h
      · rw [if_neg h7]
        by_cases hb : b ≠ 0
        · rw [if_pos hb]
          exact (rmapply_arg A c l kd a b w hA (by omega) hr (by omega) (by omega) hb).mono fun e w' h => rp_set rfl h
        · rw [if_neg hb]
          obtain rfl : b = 0 := by omega
          obtain rfl | rfl : kd = 8 ∨ kd = 9 := by omega
          · rw [if_pos rfl]
            exact (rmapply_get A c l a w hA (by omega) hr).mono fun e w' h => rp_set rfl h
          · rw [if_neg (by decide)]
            exact (rmapply_del A c l a w hA (by omega) hr).mono fun e w' h => rp_set rfl h
  · rw [if_neg hf]
    exact (rmapply_form n A c l kd a b w hA (by omega) (fun h => hf ⟨h.1, (krise_iff l).2 h.2⟩)).mono fun e w' h => rp_set rfl h
theorem rmfif_any (n : Int) (A : Option Addr) (c : Nat) (l : List Int) (kd a b : Int) (w : World) (hA : Ints w A l) (hlen : l.length ≤ 800) :
    Calls Tryz.prog 28 #[stV 4 n A l.length c, .int .i64 kd, .int .i64 a, .int .i64 b] w (RPost (fifA n l kd a b) w) := by
  unfold fifA
  by_cases hf : n = 0
  · rw [if_pos hf]
    subst hf
    by_cases hk : kd < 10 ∨ 12 < kd
    · rw [if_pos hk]
      rcases hk with h | h
      · exact (rfapply_word A c l kd a b w hA (by omega) h).mono fun e w' h => rp_read rfl h
      · exact (rfapply_word2 A c l kd a b w hA (by omega) h).mono fun e w' h => rp_read rfl h
    · rw [if_neg hk]
      by_cases hb : b ≠ 0 ∨ (kd ≠ 10 ∧ a ≠ 0)
      · rw [if_pos hb]
        by_cases hb0 : b = 0
        · exact (rfapply_arg2 A c l kd a b w hA (by omega) (by omega) (by omega) (by omega) hb0).mono fun e w' h => rp_read rfl h
        · exact (rfapply_arg A c l kd a b w hA (by omega) (by omega) (by omega) hb0).mono fun e w' h => rp_read rfl h
      · rw [if_neg hb]
        obtain rfl : b = 0 := by omega
        obtain rfl | rfl | rfl : kd = 10 ∨ kd = 11 ∨ kd = 12 := by omega
        · exact (rfapply_enq A c l a w hA (by omega)).mono fun e w' h => rp_read rfl h
        · obtain rfl : a = 0 := by omega
          cases l with
          | nil => exact (rfapply_none A c w hA).mono fun e w' h => rp_read rfl h
          | cons x xs => exact (rfapply_deq A c (x :: xs) x w hA (by omega) rfl).mono fun e w' h => rp_read rfl h
        · obtain rfl : a = 0 := by omega
          exact (rfapply_len A c l w hA (by omega)).mono fun e w' h => rp_read rfl h
  · rw [if_neg hf]
    exact (rfapply_form n A c l kd a b w hA (by omega) hf).mono fun e w' h => rp_read rfl h
theorem rmacc_any (n : Int) (A : Option Addr) (c : Nat) (l : List Int) (kd a b : Int) (w : World) (hA : Ints w A l) (hlen : l.length ≤ 800) :
    Calls Tryz.prog 29 #[stV 5 n A l.length c, .int .i64 kd, .int .i64 a, .int .i64 b] w (RPost (accA n l kd a b) w) := by
  obtain ⟨h1, h2⟩ := escA_acc n l kd a b
  refine (rapply_any 5 n A c l kd a b w hA (by omega)).mono fun e w' h => rp_says h2 ?_
  rw [h1] at h
  exact h
end Go.Proofs.YtmclpganipfadaaGreatDoor
