/- The contracts of the document's answer for layer 2: comparisons, counts of bits, turns, divisions, sums. -/
import Derived.Test.YtmikhbpffmojhaaDoorRefA
set_option linter.unusedVariables false
namespace Go.Proofs.YtmikhbpffmojhaaDoor.nm
open Go.RowKit

set_option maxRecDepth 100000 in
set_option maxHeartbeats 4000000 in
theorem compare_any (k a b d : Int) (w : World) (hk : 0 ≤ k ∧ k ≤ 9) (hd : d = 32 ∨ d = 64) (ha0 : 0 ≤ a) (ha : a < 18446744073709551616) (hb0 : 0 ≤ b) (hb : b < 18446744073709551616) :
    Calls Tryd.prog 38 #[.int .i64 k, .int .u64 a, .int .u64 b, .int .i64 d] w fun e w' => e = .returned (.int .u64 (raw2 (70 + k) d.toNat a b)) ∧ Below w.heap.size w w' := by
  have HS := Lib.hid (fun n w' h0 h1 => refSigned_any d n w' (by omega) h0 h1)
  have HB := Lib.hid (fun b w' => bool1_any b w')
  have hk' : k = 0 ∨ k = 1 ∨ k = 2 ∨ k = 3 ∨ k = 4 ∨ k = 5 ∨ k = 6 ∨ k = 7 ∨ k = 8 ∨ k = 9 := by omega
  clear hk
  rcases hk' with rfl | rfl | rfl | rfl | rfl | rfl | rfl | rfl | rfl | rfl
  · show Calls _ _ _ _ fun e w' => e = .returned (.int .u64 (b2i (decide (a = b)))) ∧ _
    go_enter Tryd.func38, Tryd.ntmps38
    go_wp2_with (first
      | (go_at_call 42; refine (HS.out _ _ (by assumption) (by assumption)).mono ?_; rintro e w' ⟨rfl, rfl⟩)
      | (go_at_call 37; refine (HB.out _ _).mono ?_; rintro e w' ⟨rfl, rfl⟩))
    go_ret
    refine ⟨ret_int (congrArg b2i ?_), made_below _ _⟩
    by_cases h : a = b <;> simp [h]
  · show Calls _ _ _ _ fun e w' => e = .returned (.int .u64 (b2i (!decide (a = b)))) ∧ _
    go_enter Tryd.func38, Tryd.ntmps38
    go_wp2_with (first
      | (go_at_call 42; refine (HS.out _ _ (by assumption) (by assumption)).mono ?_; rintro e w' ⟨rfl, rfl⟩)
      | (go_at_call 37; refine (HB.out _ _).mono ?_; rintro e w' ⟨rfl, rfl⟩))
    go_ret
    refine ⟨ret_int (congrArg b2i ?_), made_below _ _⟩
    by_cases h : a = b <;> simp [h]
  · show Calls _ _ _ _ fun e w' => e = .returned (.int .u64 (b2i (decide (sgn d.toNat a < sgn d.toNat b)))) ∧ _
    go_enter Tryd.func38, Tryd.ntmps38
    go_wp2_with (first
      | (go_at_call 42; refine (HS.out _ _ (by assumption) (by assumption)).mono ?_; rintro e w' ⟨rfl, rfl⟩)
      | (go_at_call 37; refine (HB.out _ _).mono ?_; rintro e w' ⟨rfl, rfl⟩))
    go_ret
    refine ⟨ret_int (congrArg b2i ?_), made_below _ _⟩
    rfl
  · show Calls _ _ _ _ fun e w' => e = .returned (.int .u64 (b2i (decide (a < b)))) ∧ _
    go_enter Tryd.func38, Tryd.ntmps38
    go_wp2_with (first
      | (go_at_call 42; refine (HS.out _ _ (by assumption) (by assumption)).mono ?_; rintro e w' ⟨rfl, rfl⟩)
      | (go_at_call 37; refine (HB.out _ _).mono ?_; rintro e w' ⟨rfl, rfl⟩))
    go_ret
    refine ⟨ret_int (congrArg b2i ?_), made_below _ _⟩
    rfl
  · show Calls _ _ _ _ fun e w' => e = .returned (.int .u64 (b2i (decide (sgn d.toNat a > sgn d.toNat b)))) ∧ _
    go_enter Tryd.func38, Tryd.ntmps38
    go_wp2_with (first
      | (go_at_call 42; refine (HS.out _ _ (by assumption) (by assumption)).mono ?_; rintro e w' ⟨rfl, rfl⟩)
      | (go_at_call 37; refine (HB.out _ _).mono ?_; rintro e w' ⟨rfl, rfl⟩))
    go_ret
    refine ⟨ret_int (congrArg b2i ?_), made_below _ _⟩
    rfl
  · show Calls _ _ _ _ fun e w' => e = .returned (.int .u64 (b2i (decide (a > b)))) ∧ _
    go_enter Tryd.func38, Tryd.ntmps38
    go_wp2_with (first
      | (go_at_call 42; refine (HS.out _ _ (by assumption) (by assumption)).mono ?_; rintro e w' ⟨rfl, rfl⟩)
      | (go_at_call 37; refine (HB.out _ _).mono ?_; rintro e w' ⟨rfl, rfl⟩))
    go_ret
    refine ⟨ret_int (congrArg b2i ?_), made_below _ _⟩
    rfl
  · show Calls _ _ _ _ fun e w' => e = .returned (.int .u64 (b2i (decide (sgn d.toNat a ≤ sgn d.toNat b)))) ∧ _
    go_enter Tryd.func38, Tryd.ntmps38
    go_wp2_with (first
      | (go_at_call 42; refine (HS.out _ _ (by assumption) (by assumption)).mono ?_; rintro e w' ⟨rfl, rfl⟩)
      | (go_at_call 37; refine (HB.out _ _).mono ?_; rintro e w' ⟨rfl, rfl⟩))
    go_ret
    refine ⟨ret_int (congrArg b2i ?_), made_below _ _⟩
    rfl
  · show Calls _ _ _ _ fun e w' => e = .returned (.int .u64 (b2i (decide (a ≤ b)))) ∧ _
    go_enter Tryd.func38, Tryd.ntmps38
    go_wp2_with (first
      | (go_at_call 42; refine (HS.out _ _ (by assumption) (by assumption)).mono ?_; rintro e w' ⟨rfl, rfl⟩)
      | (go_at_call 37; refine (HB.out _ _).mono ?_; rintro e w' ⟨rfl, rfl⟩))
    go_ret
    refine ⟨ret_int (congrArg b2i ?_), made_below _ _⟩
    rfl
  · show Calls _ _ _ _ fun e w' => e = .returned (.int .u64 (b2i (decide (sgn d.toNat a ≥ sgn d.toNat b)))) ∧ _
    go_enter Tryd.func38, Tryd.ntmps38
    go_wp2_with (first
      | (go_at_call 42; refine (HS.out _ _ (by assumption) (by assumption)).mono ?_; rintro e w' ⟨rfl, rfl⟩)
      | (go_at_call 37; refine (HB.out _ _).mono ?_; rintro e w' ⟨rfl, rfl⟩))
    go_ret
    refine ⟨ret_int (congrArg b2i ?_), made_below _ _⟩
    rfl
  · show Calls _ _ _ _ fun e w' => e = .returned (.int .u64 (b2i (decide (a ≥ b)))) ∧ _
    go_enter Tryd.func38, Tryd.ntmps38
    go_wp2_with (first
      | (go_at_call 42; refine (HS.out _ _ (by assumption) (by assumption)).mono ?_; rintro e w' ⟨rfl, rfl⟩)
      | (go_at_call 37; refine (HB.out _ _).mono ?_; rintro e w' ⟨rfl, rfl⟩))
    go_ret
    refine ⟨ret_int (congrArg b2i ?_), made_below _ _⟩
    rfl

theorem pop_zero : ∀ k, pop k 0 = 0
  | 0 => rfl
  | k + 1 => by rw [pop, Nat.zero_div, pop_zero k]
theorem pop_all {d a : Nat} (hd : d ≤ 64) (ha : a < 2 ^ d) : pop d a = pop 64 a := by
  have := pop_add d (64 - d) a
  rw [Nat.div_eq_of_lt ha, pop_zero, show d + (64 - d) = 64 from by omega] at this
  omega

end Go.Proofs.YtmikhbpffmojhaaDoor.nm
