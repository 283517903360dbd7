/- EscrowSplit: its eighteen ways together. -/
import Derived.Test.YtpnclppjmgeddaaEsO
namespace Go.Proofs.Ytpnclppjmgeddaa
open Go.RowKit Go.Maps
set_option linter.unusedVariables false

def AppIs (n kd a t r : Int) : Prop := ∀ W, Calls Try.prog 11 #[.agg #[.int .i64 5, .int .i64 n, .slice none 0 0], .int .i64 kd, .int .i64 a, .int .i64 0] W (Says (.tuple #[.agg #[.int .i64 5, .int .i64 t, .slice none 0 0], .agg #[.int .i64 2, .int .i64 r], .int .i64 0]) W)
def DoesIs (n kd a t r : Int) : Prop := ∀ W, Calls Try.prog 18 #[.int .i64 n, .int .i64 kd, .int .i64 a, .int .i64 t, .int .i64 r] W (Yes W)
theorem app_is {n kd a : Int} (hn : 0 ≤ n ∧ n ≤ 4611686018427387904) (ha : 0 ≤ a ∧ a ≤ 4611686018427387904) (hk : kd = 13 ∨ kd = 14) : AppIs n kd a (eThen kd n a) (eRet kd n a) := by
  intro W
  refine es_yes ((money_iff n).2 hn) ?_ ?_ (by constructor <;> omega) W
  · rcases hk with rfl | rfl <;> rfl
  · rcases hk with rfl | rfl <;> exact (money_iff a).2 ha
theorem does_is {n kd a t r : Int} (hn : 0 ≤ n ∧ n ≤ 4611686018427387904) (ha : 0 ≤ a ∧ a ≤ 4611686018427387904) (hk : kd = 13 ∨ kd = 14) (ht : eThen kd n a = t) (hr : eRet kd n a = r) : DoesIs n kd a t r := by
  intro W
  have := app_is hn ha hk
  rw [ht, hr] at this
  exact does_yes n kd a t r W this
theorem then_bd {kd n a : Int} (hn : 0 ≤ n ∧ n ≤ 4611686018427387904) (ha : 0 ≤ a ∧ a ≤ 4611686018427387904) (hk : kd = 13 ∨ kd = 14) : 0 ≤ eThen kd n a ∧ eThen kd n a ≤ 4611686018427387904 :=
  (money_iff _).1 (then_money ((money_iff n).2 hn) (by rcases hk with rfl | rfl <;> exact (money_iff a).2 ha))
theorem put_one {n a : Int} (h : eRet 13 n a = 1) : a ≤ 4611686018427387904 - n ∧ eThen 13 n a = n + a := by
  by_cases e : a ≤ 4611686018427387904 - n
  · simp [eThen, e]
  · simp [eRet, e] at h
theorem take_one {n a : Int} (h : eRet 14 n a = 1) : a ≤ n ∧ eThen 14 n a = n - a := by
  by_cases e : a ≤ n
  · simp [eThen, e]
  · simp [eRet, e] at h
theorem put_ways {n a b : Int} (hn : 0 ≤ n ∧ n ≤ 4611686018427387904) (ha : 0 ≤ a ∧ a ≤ 4611686018427387904) (hb : 0 ≤ b ∧ b ≤ 4611686018427387904) :
    (∃ s t, AppIs n 13 a s 1 ∧ AppIs s 13 b t 1 ∧ DoesIs n 13 (wrap64 (a + b)) t 1) ∨ (∃ s t r q, r ≠ 1 ∧ AppIs n 13 a s r ∧ AppIs s 13 b t q) ∨ (∃ s t q, q ≠ 1 ∧ AppIs n 13 a s 1 ∧ AppIs s 13 b t q) := by
  have A1 := app_is hn ha (.inl rfl)
  have hs := then_bd hn ha (.inl rfl)
  have A2 := app_is hs hb (.inl rfl)
  by_cases hr : eRet 13 n a = 1
  · by_cases hq : eRet 13 (eThen 13 n a) b = 1
    · obtain ⟨h1, e1⟩ := put_one hr
      obtain ⟨h2, e2⟩ := put_one hq
      refine .inl ⟨eThen 13 n a, eThen 13 (eThen 13 n a) b, hr ▸ A1, hq ▸ A2, ?_⟩
      rw [iwrap (by omega) (by omega)]
      refine does_is hn ⟨by omega, by omega⟩ (.inl rfl) ?_ ?_
      · rw [e2, e1]; unfold eThen; rw [if_pos rfl, if_pos (by omega)]; omega
      · unfold eRet; rw [if_pos rfl, if_pos (by omega)]
    · exact .inr (.inr ⟨_, _, _, hq, hr ▸ A1, A2⟩)
  · exact .inr (.inl ⟨_, _, _, _, hr, A1, A2⟩)
theorem take_ways {n a b : Int} (hn : 0 ≤ n ∧ n ≤ 4611686018427387904) (ha : 0 ≤ a ∧ a ≤ 4611686018427387904) (hb : 0 ≤ b ∧ b ≤ 4611686018427387904) :
    (∃ s t, AppIs n 14 a s 1 ∧ AppIs s 14 b t 1 ∧ DoesIs n 14 (wrap64 (a + b)) t 1) ∨ (∃ s t r q, r ≠ 1 ∧ AppIs n 14 a s r ∧ AppIs s 14 b t q) ∨ (∃ s t q, q ≠ 1 ∧ AppIs n 14 a s 1 ∧ AppIs s 14 b t q) := by
  have A1 := app_is hn ha (.inr rfl)
  have hs := then_bd hn ha (.inr rfl)
  have A2 := app_is hs hb (.inr rfl)
  by_cases hr : eRet 14 n a = 1
  · by_cases hq : eRet 14 (eThen 14 n a) b = 1
    · obtain ⟨h1, e1⟩ := take_one hr
      obtain ⟨h2, e2⟩ := take_one hq
      refine .inl ⟨eThen 14 n a, eThen 14 (eThen 14 n a) b, hr ▸ A1, hq ▸ A2, ?_⟩
      rw [iwrap (by omega) (by omega)]
      refine does_is hn ⟨by omega, by omega⟩ (.inr rfl) ?_ ?_
      · rw [e2, e1]; unfold eThen; rw [if_neg (by omega), if_pos rfl, if_pos (by omega)]; omega
      · unfold eRet; rw [if_neg (by omega), if_pos rfl, if_pos (by omega)]
    · exact .inr (.inr ⟨_, _, _, hq, hr ▸ A1, A2⟩)
  · exact .inr (.inl ⟨_, _, _, _, hr, A1, A2⟩)

set_option maxHeartbeats 1000000 in
theorem split_law (n0 a0 b0 : Int) (w : World) (hn : Small n0) (ha : Small a0) (hb : Small b0) :
    Calls Try.prog 8 #[.int .i64 n0, .int .i64 a0, .int .i64 b0] w (Yes w) := by
  have HN := fun W => money_any n0 W hn
  have HA := fun W => money_any a0 W ha
  have HB := fun W => money_any b0 W hb
  have bn := cash_bd n0
  have ba := cash_bd a0
  have bb := cash_bd b0
  have hm : roomN (cash n0) = 4611686018427387904 - cash n0 := room_yes (cash_money n0)
  have HM := fun W => room_lit hm (by constructor <;> omega) (W := W)
  generalize cash n0 = n at *
  generalize cash a0 = a at *
  generalize cash b0 = b at *
  have D1 : DoesIs n 13 (4611686018427387904 - n) 4611686018427387904 1 := does_is bn ⟨by omega, by omega⟩ (.inl rfl) (by unfold eThen; rw [if_pos rfl, if_pos (by omega)]; omega) (by unfold eRet; rw [if_pos rfl, if_pos (by omega)])
  by_cases h0 : 0 < n
  · have D2 : DoesIs n 13 (wrap64 (4611686018427387904 - n + 1)) n 0 := by
      rw [iwrap (by omega) (by omega)]
      exact does_is bn ⟨by omega, by omega⟩ (.inl rfl) (by unfold eThen; rw [if_pos rfl, if_neg (by omega)]) (by unfold eRet; rw [if_pos rfl, if_neg (by omega)])
    have hd : decide (4611686018427387904 - n < 4611686018427387904) = true := decide_eq_true (by omega)
    rcases put_ways bn ba bb with ⟨s, t, A1, A2, D3⟩ | ⟨s, t, r, q, hr, A1, A2⟩ | ⟨s, t, q, hq, A1, A2⟩
    · rcases take_ways bn ba bb with ⟨u, v, A3, A4, D4⟩ | ⟨u, v, p, o, hp, A3, A4⟩ | ⟨u, v, o, ho, A3, A4⟩
      · exact split_room_both_both n0 a0 b0 n a b _ s t u v w HN HA HB HM D1 A1 A2 A3 A4 hd D2 D3 D4
      · exact split_room_both_first n0 a0 b0 n a b _ s t u v p o w hp HN HA HB HM D1 A1 A2 A3 A4 hd D2 D3
      · exact split_room_both_second n0 a0 b0 n a b _ s t u v o w ho HN HA HB HM D1 A1 A2 A3 A4 hd D2 D3
    · rcases take_ways bn ba bb with ⟨u, v, A3, A4, D4⟩ | ⟨u, v, p, o, hp, A3, A4⟩ | ⟨u, v, o, ho, A3, A4⟩
      · exact split_room_first_both n0 a0 b0 n a b _ s t u v r q w hr HN HA HB HM D1 A1 A2 A3 A4 hd D2 D4
      · exact split_room_first_first n0 a0 b0 n a b _ s t u v r q p o w hr hp HN HA HB HM D1 A1 A2 A3 A4 hd D2
      · exact split_room_first_second n0 a0 b0 n a b _ s t u v r q o w hr ho HN HA HB HM D1 A1 A2 A3 A4 hd D2
    · rcases take_ways bn ba bb with ⟨u, v, A3, A4, D4⟩ | ⟨u, v, p, o, hp, A3, A4⟩ | ⟨u, v, o, ho, A3, A4⟩
      · exact split_room_second_both n0 a0 b0 n a b _ s t u v q w hq HN HA HB HM D1 A1 A2 A3 A4 hd D2 D4
      · exact split_room_second_first n0 a0 b0 n a b _ s t u v q p o w hq hp HN HA HB HM D1 A1 A2 A3 A4 hd D2
      · exact split_room_second_second n0 a0 b0 n a b _ s t u v q o w hq ho HN HA HB HM D1 A1 A2 A3 A4 hd D2
  · have hd : decide (4611686018427387904 - n < 4611686018427387904) = false := decide_eq_false (by omega)
    rcases put_ways bn ba bb with ⟨s, t, A1, A2, D3⟩ | ⟨s, t, r, q, hr, A1, A2⟩ | ⟨s, t, q, hq, A1, A2⟩
    · rcases take_ways bn ba bb with ⟨u, v, A3, A4, D4⟩ | ⟨u, v, p, o, hp, A3, A4⟩ | ⟨u, v, o, ho, A3, A4⟩
      · exact split_none_both_both n0 a0 b0 n a b _ s t u v w HN HA HB HM D1 A1 A2 A3 A4 hd D3 D4
      · exact split_none_both_first n0 a0 b0 n a b _ s t u v p o w hp HN HA HB HM D1 A1 A2 A3 A4 hd D3
      · exact split_none_both_second n0 a0 b0 n a b _ s t u v o w ho HN HA HB HM D1 A1 A2 A3 A4 hd D3
    · rcases take_ways bn ba bb with ⟨u, v, A3, A4, D4⟩ | ⟨u, v, p, o, hp, A3, A4⟩ | ⟨u, v, o, ho, A3, A4⟩
      · exact split_none_first_both n0 a0 b0 n a b _ s t u v r q w hr HN HA HB HM D1 A1 A2 A3 A4 hd D4
      · exact split_none_first_first n0 a0 b0 n a b _ s t u v r q p o w hr hp HN HA HB HM D1 A1 A2 A3 A4 hd
      · exact split_none_first_second n0 a0 b0 n a b _ s t u v r q o w hr ho HN HA HB HM D1 A1 A2 A3 A4 hd
    · rcases take_ways bn ba bb with ⟨u, v, A3, A4, D4⟩ | ⟨u, v, p, o, hp, A3, A4⟩ | ⟨u, v, o, ho, A3, A4⟩
      · exact split_none_second_both n0 a0 b0 n a b _ s t u v q w hq HN HA HB HM D1 A1 A2 A3 A4 hd D4
      · exact split_none_second_first n0 a0 b0 n a b _ s t u v q p o w hq hp HN HA HB HM D1 A1 A2 A3 A4 hd
      · exact split_none_second_second n0 a0 b0 n a b _ s t u v q o w hq ho HN HA HB HM D1 A1 A2 A3 A4 hd
end Go.Proofs.Ytpnclppjmgeddaa
