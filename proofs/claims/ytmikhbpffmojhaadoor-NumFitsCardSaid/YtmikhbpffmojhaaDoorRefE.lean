/- The contract of the document's answer for layer 2 where an operator is of two numbers of 32 bits, from the sum on. -/
import Derived.Test.YtmikhbpffmojhaaDoorRefD
set_option linter.unusedVariables false
namespace Go.Proofs.YtmikhbpffmojhaaDoor.nm
open Go.RowKit

theorem wr_range (x : Int) : 0 ≤ IntKind.u64.wrap x ∧ IntKind.u64.wrap x < 18446744073709551616 := by rw [IntKind.wrap_u64]; omega
theorem ans2_no {k : Int} {d : Nat} {a b : Int} (h : k < 109 ∨ 112 < k) : ans2 k d a b = (raw2 k d a b % 2 ^ d, 0) := by
  have t : trapOf k d a b = 0 := by unfold trapOf; rw [if_neg (by omega)]
  unfold ans2; rw [t, if_pos rfl]
theorem pw32 : (2 : Int) ^ 32 = 4294967296 := rfl
theorem pw64 : (2 : Int) ^ 64 = 18446744073709551616 := rfl

set_option maxRecDepth 100000 in
set_option maxHeartbeats 1000000 in
theorem whole_32_0 (a b : Nat) (w : World) (ha : a < 4294967296) (hb : b < 4294967296) :
    Same2 40 #[.int .i64 0, .int .u64 a, .int .u64 b, .int .i64 32] w (ans2 106 32 a b) := by
  unfold Same2
  have ha0 : (0 : Int) ≤ a := by omega
  have hb0 : (0 : Int) ≤ b := by omega
  have ha' : (a : Int) < 18446744073709551616 := by omega
  have hb' : (b : Int) < 18446744073709551616 := by omega
  have hk0 : (0 : Int) ≤ (b : Int) % 32 ∧ (b : Int) % 32 < 32 := by omega
  have HLo : Hid (∀ n w', 0 ≤ n → n < 18446744073709551616 → Same 41 #[.int .u64 n, .int .i64 32] w' (.int .u64 (n % 4294967296))) := Lib.hid (fun n w' h0 h1 => refLow_any 32 n w' (by decide) h0 h1)
  have e : ans2 106 32 a b = (IntKind.u64.wrap ((a : Int) + b) % 4294967296, 0) := by
    rw [ans2_no (by decide), pw32, IntKind.wrap_u64]
    rfl
  rw [e]
  clear e ha hb
  go_enter Tryd.func40, Tryd.ntmps40
  go_wp2_with (first
    | (go_at_call 41; refine (HLo.out _ _ (wr_range _).1 (wr_range _).2).mono ?_; rintro e w' ⟨rfl, rfl⟩))
  go_ret2
  exact ⟨rfl, rfl⟩

set_option maxRecDepth 100000 in
set_option maxHeartbeats 1000000 in
theorem whole_32_1 (a b : Nat) (w : World) (ha : a < 4294967296) (hb : b < 4294967296) :
    Same2 40 #[.int .i64 1, .int .u64 a, .int .u64 b, .int .i64 32] w (ans2 107 32 a b) := by
  unfold Same2
  have ha0 : (0 : Int) ≤ a := by omega
  have hb0 : (0 : Int) ≤ b := by omega
  have ha' : (a : Int) < 18446744073709551616 := by omega
  have hb' : (b : Int) < 18446744073709551616 := by omega
  have hk0 : (0 : Int) ≤ (b : Int) % 32 ∧ (b : Int) % 32 < 32 := by omega
  have HLo : Hid (∀ n w', 0 ≤ n → n < 18446744073709551616 → Same 41 #[.int .u64 n, .int .i64 32] w' (.int .u64 (n % 4294967296))) := Lib.hid (fun n w' h0 h1 => refLow_any 32 n w' (by decide) h0 h1)
  have e : ans2 107 32 a b = (IntKind.u64.wrap ((a : Int) - b) % 4294967296, 0) := by
    rw [ans2_no (by decide), pw32, IntKind.wrap_u64]
    rfl
  rw [e]
  clear e ha hb
  go_enter Tryd.func40, Tryd.ntmps40
  go_wp2_with (first
    | (go_at_call 41; refine (HLo.out _ _ (wr_range _).1 (wr_range _).2).mono ?_; rintro e w' ⟨rfl, rfl⟩))
  go_ret2
  exact ⟨rfl, rfl⟩

set_option maxRecDepth 100000 in
set_option maxHeartbeats 1000000 in
theorem whole_32_2 (a b : Nat) (w : World) (ha : a < 4294967296) (hb : b < 4294967296) :
    Same2 40 #[.int .i64 2, .int .u64 a, .int .u64 b, .int .i64 32] w (ans2 108 32 a b) := by
  unfold Same2
  have ha0 : (0 : Int) ≤ a := by omega
  have hb0 : (0 : Int) ≤ b := by omega
  have ha' : (a : Int) < 18446744073709551616 := by omega
  have hb' : (b : Int) < 18446744073709551616 := by omega
  have hk0 : (0 : Int) ≤ (b : Int) % 32 ∧ (b : Int) % 32 < 32 := by omega
  have HLo : Hid (∀ n w', 0 ≤ n → n < 18446744073709551616 → Same 41 #[.int .u64 n, .int .i64 32] w' (.int .u64 (n % 4294967296))) := Lib.hid (fun n w' h0 h1 => refLow_any 32 n w' (by decide) h0 h1)
  have e : ans2 108 32 a b = (IntKind.u64.wrap ((a : Int) * b) % 4294967296, 0) := by
    rw [ans2_no (by decide), pw32, IntKind.wrap_u64]
    rfl
  rw [e]
  clear e ha hb
  go_enter Tryd.func40, Tryd.ntmps40
  go_wp2_with (first
    | (go_at_call 41; refine (HLo.out _ _ (wr_range _).1 (wr_range _).2).mono ?_; rintro e w' ⟨rfl, rfl⟩))
  go_ret2
  exact ⟨rfl, rfl⟩

set_option maxRecDepth 100000 in
set_option maxHeartbeats 1000000 in
theorem whole_32_3 (a b : Nat) (w : World) (ha : a < 4294967296) (hb : b < 4294967296) :
    Same2 40 #[.int .i64 3, .int .u64 a, .int .u64 b, .int .i64 32] w (ans2 109 32 a b) := by
  unfold Same2
  have ha0 : (0 : Int) ≤ a := by omega
  have hb0 : (0 : Int) ≤ b := by omega
  have ha' : (a : Int) < 18446744073709551616 := by omega
  have hb' : (b : Int) < 18446744073709551616 := by omega
  have hk0 : (0 : Int) ≤ (b : Int) % 32 ∧ (b : Int) % 32 < 32 := by omega
  have HD := Lib.hid (divide_32 0 a b w (by decide) ha0 (by omega) hb0 (by omega))
  rw [show (109 : Int) + 0 = 109 from rfl] at HD
  generalize ans2 109 32 a b = x at HD
  clear ha hb
  go_enter Tryd.func40, Tryd.ntmps40
  go_wp2_with (first
    | (go_at_call 53; refine HD.out.mono ?_; rintro e w' ⟨rfl, rfl⟩))
  go_ret2
  exact ⟨rfl, rfl⟩

set_option maxRecDepth 100000 in
set_option maxHeartbeats 1000000 in
theorem whole_32_4 (a b : Nat) (w : World) (ha : a < 4294967296) (hb : b < 4294967296) :
    Same2 40 #[.int .i64 4, .int .u64 a, .int .u64 b, .int .i64 32] w (ans2 110 32 a b) := by
  unfold Same2
  have ha0 : (0 : Int) ≤ a := by omega
  have hb0 : (0 : Int) ≤ b := by omega
  have ha' : (a : Int) < 18446744073709551616 := by omega
  have hb' : (b : Int) < 18446744073709551616 := by omega
  have hk0 : (0 : Int) ≤ (b : Int) % 32 ∧ (b : Int) % 32 < 32 := by omega
  have HD := Lib.hid (divide_32 1 a b w (by decide) ha0 (by omega) hb0 (by omega))
  rw [show (109 : Int) + 1 = 110 from rfl] at HD
  generalize ans2 110 32 a b = x at HD
  clear ha hb
  go_enter Tryd.func40, Tryd.ntmps40
  go_wp2_with (first
    | (go_at_call 53; refine HD.out.mono ?_; rintro e w' ⟨rfl, rfl⟩))
  go_ret2
  exact ⟨rfl, rfl⟩

set_option maxRecDepth 100000 in
set_option maxHeartbeats 1000000 in
theorem whole_32_5 (a b : Nat) (w : World) (ha : a < 4294967296) (hb : b < 4294967296) :
    Same2 40 #[.int .i64 5, .int .u64 a, .int .u64 b, .int .i64 32] w (ans2 111 32 a b) := by
  unfold Same2
  have ha0 : (0 : Int) ≤ a := by omega
  have hb0 : (0 : Int) ≤ b := by omega
  have ha' : (a : Int) < 18446744073709551616 := by omega
  have hb' : (b : Int) < 18446744073709551616 := by omega
  have hk0 : (0 : Int) ≤ (b : Int) % 32 ∧ (b : Int) % 32 < 32 := by omega
  have HD := Lib.hid (divide_32 2 a b w (by decide) ha0 (by omega) hb0 (by omega))
  rw [show (109 : Int) + 2 = 111 from rfl] at HD
  generalize ans2 111 32 a b = x at HD
  clear ha hb
  go_enter Tryd.func40, Tryd.ntmps40
  go_wp2_with (first
    | (go_at_call 53; refine HD.out.mono ?_; rintro e w' ⟨rfl, rfl⟩))
  go_ret2
  exact ⟨rfl, rfl⟩

set_option maxRecDepth 100000 in
set_option maxHeartbeats 1000000 in
theorem whole_32_6 (a b : Nat) (w : World) (ha : a < 4294967296) (hb : b < 4294967296) :
    Same2 40 #[.int .i64 6, .int .u64 a, .int .u64 b, .int .i64 32] w (ans2 112 32 a b) := by
  unfold Same2
  have ha0 : (0 : Int) ≤ a := by omega
  have hb0 : (0 : Int) ≤ b := by omega
  have ha' : (a : Int) < 18446744073709551616 := by omega
  have hb' : (b : Int) < 18446744073709551616 := by omega
  have hk0 : (0 : Int) ≤ (b : Int) % 32 ∧ (b : Int) % 32 < 32 := by omega
  have HD := Lib.hid (divide_32 3 a b w (by decide) ha0 (by omega) hb0 (by omega))
  rw [show (109 : Int) + 3 = 112 from rfl] at HD
  generalize ans2 112 32 a b = x at HD
  clear ha hb
  go_enter Tryd.func40, Tryd.ntmps40
  go_wp2_with (first
    | (go_at_call 53; refine HD.out.mono ?_; rintro e w' ⟨rfl, rfl⟩))
  go_ret2
  exact ⟨rfl, rfl⟩

set_option maxRecDepth 100000 in
set_option maxHeartbeats 1000000 in
theorem whole_32_7 (a b : Nat) (w : World) (ha : a < 4294967296) (hb : b < 4294967296) :
    Same2 40 #[.int .i64 7, .int .u64 a, .int .u64 b, .int .i64 32] w (ans2 113 32 a b) := by
  unfold Same2
  have ha0 : (0 : Int) ≤ a := by omega
  have hb0 : (0 : Int) ≤ b := by omega
  have ha' : (a : Int) < 18446744073709551616 := by omega
  have hb' : (b : Int) < 18446744073709551616 := by omega
  have hk0 : (0 : Int) ≤ (b : Int) % 32 ∧ (b : Int) % 32 < 32 := by omega
  have e : ans2 113 32 a b = (bits .and .u64 (a : Int) b, 0) := by
    rw [ans2_no (by decide), pw32]
    show (((a &&& b : Nat) : Int) % 4294967296, (0 : Int)) = _
    have := @Nat.and_le_left a b
    rw [Int.emod_eq_of_lt (by omega) (by omega), u64_and_nat _ _ (by omega) (by omega)]
  rw [e]
  clear e ha hb
  go_enter Tryd.func40, Tryd.ntmps40
  go_wp2
  go_ret2
  exact ⟨rfl, rfl⟩

set_option maxRecDepth 100000 in
set_option maxHeartbeats 1000000 in
theorem whole_32_8 (a b : Nat) (w : World) (ha : a < 4294967296) (hb : b < 4294967296) :
    Same2 40 #[.int .i64 8, .int .u64 a, .int .u64 b, .int .i64 32] w (ans2 114 32 a b) := by
  unfold Same2
  have ha0 : (0 : Int) ≤ a := by omega
  have hb0 : (0 : Int) ≤ b := by omega
  have ha' : (a : Int) < 18446744073709551616 := by omega
  have hb' : (b : Int) < 18446744073709551616 := by omega
  have hk0 : (0 : Int) ≤ (b : Int) % 32 ∧ (b : Int) % 32 < 32 := by omega
  have e : ans2 114 32 a b = (bits .or .u64 (a : Int) b, 0) := by
    rw [ans2_no (by decide), pw32]
    show (((a ||| b : Nat) : Int) % 4294967296, (0 : Int)) = _
    have : a ||| b < 2 ^ 32 := Nat.or_lt_two_pow ha hb
    rw [Int.emod_eq_of_lt (by omega) (by omega), u64_or_nat _ _ (by omega) (by omega)]
  rw [e]
  clear e ha hb
  go_enter Tryd.func40, Tryd.ntmps40
  go_wp2
  go_ret2
  exact ⟨rfl, rfl⟩

set_option maxRecDepth 100000 in
set_option maxHeartbeats 1000000 in
theorem whole_32_9 (a b : Nat) (w : World) (ha : a < 4294967296) (hb : b < 4294967296) :
    Same2 40 #[.int .i64 9, .int .u64 a, .int .u64 b, .int .i64 32] w (ans2 115 32 a b) := by
  unfold Same2
  have ha0 : (0 : Int) ≤ a := by omega
  have hb0 : (0 : Int) ≤ b := by omega
  have ha' : (a : Int) < 18446744073709551616 := by omega
  have hb' : (b : Int) < 18446744073709551616 := by omega
  have hk0 : (0 : Int) ≤ (b : Int) % 32 ∧ (b : Int) % 32 < 32 := by omega
  have e : ans2 115 32 a b = (bits .xor .u64 (a : Int) b, 0) := by
    rw [ans2_no (by decide), pw32]
    show (((a ^^^ b : Nat) : Int) % 4294967296, (0 : Int)) = _
    have : a ^^^ b < 2 ^ 32 := Nat.xor_lt_two_pow ha hb
    rw [Int.emod_eq_of_lt (by omega) (by omega), u64_xor_nat _ _ (by omega) (by omega)]
  rw [e]
  clear e ha hb
  go_enter Tryd.func40, Tryd.ntmps40
  go_wp2
  go_ret2
  exact ⟨rfl, rfl⟩

set_option maxRecDepth 100000 in
set_option maxHeartbeats 1000000 in
theorem whole_32_10 (a b : Nat) (w : World) (ha : a < 4294967296) (hb : b < 4294967296) :
    Same2 40 #[.int .i64 10, .int .u64 a, .int .u64 b, .int .i64 32] w (ans2 116 32 a b) := by
  unfold Same2
  have ha0 : (0 : Int) ≤ a := by omega
  have hb0 : (0 : Int) ≤ b := by omega
  have ha' : (a : Int) < 18446744073709551616 := by omega
  have hb' : (b : Int) < 18446744073709551616 := by omega
  have hk0 : (0 : Int) ≤ (b : Int) % 32 ∧ (b : Int) % 32 < 32 := by omega
  have HLo : Hid (∀ n w', 0 ≤ n → n < 18446744073709551616 → Same 41 #[.int .u64 n, .int .i64 32] w' (.int .u64 (n % 4294967296))) := Lib.hid (fun n w' h0 h1 => refLow_any 32 n w' (by decide) h0 h1)
  have e : ans2 116 32 a b = (IntKind.u64.wrap ((a : Int) * 2 ^ ((b : Int) % 32).toNat) % 4294967296, 0) := by
    rw [ans2_no (by decide), pw32, IntKind.wrap_u64]
    rfl
  rw [e]
  clear e ha hb
  go_enter Tryd.func40, Tryd.ntmps40
  go_wp2_with (first
    | (go_at_call 41; refine (HLo.out _ _ (wr_range _).1 (wr_range _).2).mono ?_; rintro e w' ⟨rfl, rfl⟩))
  go_ret2
  exact ⟨rfl, rfl⟩

set_option maxRecDepth 100000 in
set_option maxHeartbeats 1000000 in
theorem whole_32_11 (a b : Nat) (w : World) (ha : a < 4294967296) (hb : b < 4294967296) :
    Same2 40 #[.int .i64 11, .int .u64 a, .int .u64 b, .int .i64 32] w (ans2 117 32 a b) := by
  unfold Same2
  have ha0 : (0 : Int) ≤ a := by omega
  have hb0 : (0 : Int) ≤ b := by omega
  have ha' : (a : Int) < 18446744073709551616 := by omega
  have hb' : (b : Int) < 18446744073709551616 := by omega
  have hk0 : (0 : Int) ≤ (b : Int) % 32 ∧ (b : Int) % 32 < 32 := by omega
  have HLo : Hid (∀ n w', 0 ≤ n → n < 18446744073709551616 → Same 41 #[.int .u64 n, .int .i64 32] w' (.int .u64 (n % 4294967296))) := Lib.hid (fun n w' h0 h1 => refLow_any 32 n w' (by decide) h0 h1)
  have e : ans2 117 32 a b = (IntKind.u64.wrap (sgn 32 a / 2 ^ ((b : Int) % 32).toNat) % 4294967296, 0) := by
    have e2 : raw2 117 32 (a : Int) (b : Int) = sgn 32 a / 2 ^ ((b : Int) % ((32 : Nat) : Int)).toNat % 18446744073709551616 := by simp only [raw2]
    rw [ans2_no (by decide), pw32, IntKind.wrap_u64, e2, show ((32 : Nat) : Int) = 32 from rfl]
  have HS : Hid (∀ w', Same 42 #[.int .u64 a, .int .i64 32] w' (.int .i64 (sgn 32 a))) := Lib.hid (fun w' => refSigned_any 32 a w' (by decide) ha0 ha')
  rw [e]
  clear e ha hb
  go_enter Tryd.func40, Tryd.ntmps40
  go_wp2_with (first
    | (go_at_call 41; refine (HLo.out _ _ (wr_range _).1 (wr_range _).2).mono ?_; rintro e w' ⟨rfl, rfl⟩)
    | (go_at_call 42; refine (HS.out _).mono ?_; rintro e w' ⟨rfl, rfl⟩))
  go_ret2
  exact ⟨rfl, rfl⟩

set_option maxRecDepth 100000 in
set_option maxHeartbeats 1000000 in
theorem whole_32_12 (a b : Nat) (w : World) (ha : a < 4294967296) (hb : b < 4294967296) :
    Same2 40 #[.int .i64 12, .int .u64 a, .int .u64 b, .int .i64 32] w (ans2 118 32 a b) := by
  unfold Same2
  have ha0 : (0 : Int) ≤ a := by omega
  have hb0 : (0 : Int) ≤ b := by omega
  have ha' : (a : Int) < 18446744073709551616 := by omega
  have hb' : (b : Int) < 18446744073709551616 := by omega
  have hk0 : (0 : Int) ≤ (b : Int) % 32 ∧ (b : Int) % 32 < 32 := by omega
  have e : ans2 118 32 a b = ((a : Int) / 2 ^ ((b : Int) % 32).toNat, 0) := by
    rw [ans2_no (by decide), pw32]
    have h2 : (a : Int) / 2 ^ ((b : Int) % 32).toNat ≤ a := Int.ediv_le_self _ ha0
    have h3 := (div_range ((b : Int) % 32).toNat ha0 ha').1
    show ((a : Int) / 2 ^ ((b : Int) % 32).toNat % 4294967296, (0 : Int)) = _
    rw [Int.emod_eq_of_lt h3 (by omega)]
  rw [e]
  clear e ha hb
  go_enter Tryd.func40, Tryd.ntmps40
  go_wp2
  go_ret2
  exact ⟨rfl, rfl⟩

set_option maxRecDepth 100000 in
set_option maxHeartbeats 1000000 in
theorem whole_32_13 (a b : Nat) (w : World) (ha : a < 4294967296) (hb : b < 4294967296) :
    Same2 40 #[.int .i64 13, .int .u64 a, .int .u64 b, .int .i64 32] w (ans2 119 32 a b) := by
  unfold Same2
  have ha0 : (0 : Int) ≤ a := by omega
  have hb0 : (0 : Int) ≤ b := by omega
  have ha' : (a : Int) < 18446744073709551616 := by omega
  have hb' : (b : Int) < 18446744073709551616 := by omega
  have hk0 : (0 : Int) ≤ (b : Int) % 32 ∧ (b : Int) % 32 < 32 := by omega
  have e : ans2 119 32 a b = ((rot 32 a (b % 32) : Int), 0) := by
    rw [ans2_no (by decide)]
    show (turnRaw 32 a ((b : Int) % 32).toNat % 2 ^ 32, (0 : Int)) = _
    rw [show ((b : Int) % 32).toNat = b % 32 from by omega, turnRaw_mod 32 a (b % 32) (by decide) ha (by omega)]
  have HT : Hid (Same 52 #[.int .u64 a, .int .i64 ((b : Int) % 32), .int .i64 32] w (.int .u64 (rot 32 a (b % 32) : Int))) := Lib.hid (by
    have := turned_any a (b % 32) 32 w (by decide) ha (by omega)
    rwa [show ((b % 32 : Nat) : Int) = ((b : Int) % 32) from by omega] at this)
  rw [e]
  clear e ha hb
  go_enter Tryd.func40, Tryd.ntmps40
  go_wp2_with (first
    | (go_at_call 52; refine HT.out.mono ?_; rintro e w' ⟨rfl, rfl⟩))
  go_ret2
  exact ⟨rfl, rfl⟩

set_option maxRecDepth 100000 in
set_option maxHeartbeats 1000000 in
theorem whole_32_14 (a b : Nat) (w : World) (ha : a < 4294967296) (hb : b < 4294967296) :
    Same2 40 #[.int .i64 14, .int .u64 a, .int .u64 b, .int .i64 32] w (ans2 120 32 a b) := by
  unfold Same2
  have ha0 : (0 : Int) ≤ a := by omega
  have hb0 : (0 : Int) ≤ b := by omega
  have ha' : (a : Int) < 18446744073709551616 := by omega
  have hb' : (b : Int) < 18446744073709551616 := by omega
  have hk0 : (0 : Int) ≤ (b : Int) % 32 ∧ (b : Int) % 32 < 32 := by omega
  have e : ans2 120 32 a b = ((rot 32 a (32 - b % 32) : Int), 0) := by
    rw [ans2_no (by decide)]
    show (turnRaw 32 a (32 - ((b : Int) % 32).toNat) % 2 ^ 32, (0 : Int)) = _
    rw [show ((b : Int) % 32).toNat = b % 32 from by omega, turnRaw_mod 32 a (32 - b % 32) (by decide) ha (by omega)]
  have HT : Hid (Same 52 #[.int .u64 a, .int .i64 (32 - (b : Int) % 32), .int .i64 32] w (.int .u64 (rot 32 a (32 - b % 32) : Int))) := Lib.hid (by
    have := turned_any a (32 - b % 32) 32 w (by decide) ha (by omega)
    rwa [show ((32 - b % 32 : Nat) : Int) = (32 - (b : Int) % 32) from by omega] at this)
  rw [e]
  clear e ha hb
  go_enter Tryd.func40, Tryd.ntmps40
  go_wp2_with (first
    | (go_at_call 52; refine HT.out.mono ?_; rintro e w' ⟨rfl, rfl⟩))
  go_ret2
  exact ⟨rfl, rfl⟩

theorem whole_32 (k : Int) (a b : Nat) (w : World) (hk : 0 ≤ k ∧ k ≤ 14) (ha : a < 4294967296) (hb : b < 4294967296) :
    Same2 40 #[.int .i64 k, .int .u64 a, .int .u64 b, .int .i64 32] w (ans2 (106 + k) 32 a b) := by
  have hk' : k = 0 ∨ k = 1 ∨ k = 2 ∨ k = 3 ∨ k = 4 ∨ k = 5 ∨ k = 6 ∨ k = 7 ∨ k = 8 ∨ k = 9 ∨ k = 10 ∨ k = 11 ∨ k = 12 ∨ k = 13 ∨ k = 14 := by omega
  rcases hk' with rfl | rfl | rfl | rfl | rfl | rfl | rfl | rfl | rfl | rfl | rfl | rfl | rfl | rfl | rfl
  · exact whole_32_0 a b w ha hb
  · exact whole_32_1 a b w ha hb
  · exact whole_32_2 a b w ha hb
  · exact whole_32_3 a b w ha hb
  · exact whole_32_4 a b w ha hb
  · exact whole_32_5 a b w ha hb
  · exact whole_32_6 a b w ha hb
  · exact whole_32_7 a b w ha hb
  · exact whole_32_8 a b w ha hb
  · exact whole_32_9 a b w ha hb
  · exact whole_32_10 a b w ha hb
  · exact whole_32_11 a b w ha hb
  · exact whole_32_12 a b w ha hb
  · exact whole_32_13 a b w ha hb
  · exact whole_32_14 a b w ha hb

end Go.Proofs.YtmikhbpffmojhaaDoor.nm
