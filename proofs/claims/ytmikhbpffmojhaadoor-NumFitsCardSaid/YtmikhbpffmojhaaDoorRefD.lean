/- The contracts of the document's answer for layer 2: divisions, and whatever is of two numbers. -/
import Derived.Test.YtmikhbpffmojhaaDoorRefC
import Derived.Test.YtmikhbpffmojhaaDoorRestMath
set_option linter.unusedVariables false
namespace Go.Proofs.YtmikhbpffmojhaaDoor.nm
open Go.RowKit

/-- what an operator of two numbers answers, in d bits, and its fault's number -/
def ans2 (k : Int) (d : Nat) (a b : Int) : Int × Int := if trapOf k d a b = 0 then (raw2 k d a b % 2 ^ d, 0) else (0, trapOf k d a b)

/-- a call that answers a number and a fault's number, and leaves the world as it is -/
def Same2 (f : FuncId) (args : Array Value) (w : World) (p : Int × Int) : Prop :=
  Calls Tryd.prog f args w fun e w' => e = .returned (.tuple #[.int .u64 p.1, .int .i64 p.2]) ∧ w = w'

theorem sgn_least {d : Int} (hd : d = 32 ∨ d = 64) : sgn d.toNat (2 ^ (d.toNat - 1)) = -(2 ^ (d.toNat - 1)) := by
  rcases hd with rfl | rfl <;> decide +kernel
/-- signed, a number is the least, and another -1, just where they are so as they stand -/
theorem sgn_pair {d a b : Int} (hd : d = 32 ∨ d = 64) (ha0 : 0 ≤ a) (ha : a < 2 ^ d.toNat) (hb0 : 0 ≤ b) (hb : b < 2 ^ d.toNat) :
    (sgn d.toNat b = -1 ↔ b = 2 ^ d.toNat - 1) ∧ (sgn d.toNat a = -(2 ^ (d.toNat - 1)) ↔ a = 2 ^ (d.toNat - 1)) := by
  rcases hd with rfl | rfl
  · have e : (2 : Int) ^ (32 : Int).toNat = 4294967296 := rfl
    have e2 : (2 : Int) ^ ((32 : Int).toNat - 1) = 2147483648 := rfl
    rw [e] at ha hb ⊢
    rw [e2, show (32 : Int).toNat = 32 from rfl, sgn_32, sgn_32]
    constructor
    · split <;> omega
    · split <;> omega
  · have e : (2 : Int) ^ (64 : Int).toNat = 18446744073709551616 := rfl
    have e2 : (2 : Int) ^ ((64 : Int).toNat - 1) = 9223372036854775808 := rfl
    rw [e] at ha hb ⊢
    rw [e2, show (64 : Int).toNat = 64 from rfl, sgn_64, sgn_64]
    constructor
    · split <;> omega
    · split <;> omega

set_option maxRecDepth 100000 in
set_option maxHeartbeats 2000000 in
theorem divide_32 (k a b : Int) (w : World) (hk : k = 0 ∨ k = 1 ∨ k = 2 ∨ k = 3) (ha0 : 0 ≤ a) (ha : a < 4294967296) (hb0 : 0 ≤ b) (hb : b < 4294967296) :
    Same2 53 #[.int .i64 k, .int .u64 a, .int .u64 b, .int .i64 32] w (ans2 (109 + k) 32 a b) := by
  unfold Same2
  have ha' : a < 18446744073709551616 := by omega
  have hb' : b < 18446744073709551616 := by omega
  obtain ⟨p1, p2⟩ := sgn_pair (d := 32) (by decide) ha0 ha hb0 hb
  have HS : Hid (∀ n w', 0 ≤ n → n < 18446744073709551616 → Same 42 #[.int .u64 n, .int .i64 32] w' (.int .i64 (sgn 32 n))) := Lib.hid (fun n w' h0 h1 => refSigned_any 32 n w' (by decide) h0 h1)
  have HLo : Hid (∀ n w', 0 ≤ n → n < 18446744073709551616 → Same 41 #[.int .u64 n, .int .i64 32] w' (.int .u64 (n % 4294967296))) := Lib.hid (fun n w' h0 h1 => refLow_any 32 n w' (by decide) h0 h1)
  have hL : sgn 32 2147483648 = -2147483648 := by decide +kernel
  have q1 : sgn 32 b = -1 ↔ b = 4294967295 := p1
  have q2 : sgn 32 a = -2147483648 ↔ a = 2147483648 := p2
  clear p1 p2
  by_cases hz : b = 0
  · subst hz
    have e : ans2 (109 + k) 32 a 0 = (0, 33) := by
      unfold ans2 trapOf
      rw [if_pos (show 109 ≤ 109 + k ∧ 109 + k ≤ 112 by omega), if_pos rfl, if_neg (by decide)]
    rw [e]
    clear ha hb hk q1 q2 hL e
    go_enter Tryd.func53, Tryd.ntmps53
    go_wp2_with (go_at_call 42; refine (HS.out _ _ (by assumption) (by assumption)).mono ?_; rintro e w' ⟨rfl, rfl⟩)
    go_ret2
    exact ⟨rfl, rfl⟩
  · have hzb : (b == 0) = false := by simp [hz]
    have hbs : sgn 32 b ≠ 0 := sgn_ne (d := 32) (by decide) hb0 hb hz
    have hbsb : (sgn 32 b == 0) = false := by simp [hbs]
    have hq : IntKind.u64.wrap (wrap64 ((sgn 32 a).tdiv (sgn 32 b))) = (sgn 32 a).tdiv (sgn 32 b) % 18446744073709551616 := by
      generalize (sgn 32 a).tdiv (sgn 32 b) = t
      rw [IntKind.wrap_u64]; unfold wrap64; omega
    have hr : IntKind.u64.wrap ((sgn 32 a).tmod (sgn 32 b)) = (sgn 32 a).tmod (sgn 32 b) % 18446744073709551616 := IntKind.wrap_u64 _
    have hqr := mod_range ((sgn 32 a).tdiv (sgn 32 b))
    have hrr := mod_range ((sgn 32 a).tmod (sgn 32 b))
    have hab : 0 ≤ a / b ∧ a / b ≤ a := ⟨Int.ediv_nonneg ha0 hb0, Int.ediv_le_self _ ha0⟩
    have hmb : 0 ≤ a % b ∧ a % b < b := ⟨Int.emod_nonneg _ hz, Int.emod_lt_of_pos _ (by omega)⟩
    have tA : ∀ j, 0 < j → j ≤ 3 → trapOf (109 + j) 32 a b = 0 := fun j h1 h2 => by rw [trap_0 (by omega) (by omega), if_neg hz]
    have tB : trapOf (109 + 0) 32 a b = if a = 2147483648 ∧ b = 4294967296 - 1 then 34 else 0 := by rw [show (109 : Int) + 0 = 109 from rfl, trap_s 2147483648 4294967296 rfl rfl, if_neg hz]
    by_cases hy : b = 4294967295
    · have c1 : (sgn 32 b == -1) = true := by rw [q1.2 hy]; rfl
      by_cases hx : a = 2147483648
      · have c2 : (sgn 32 a == sgn 32 2147483648) = true := by rw [hL, q2.2 hx]; rfl
        have e0 : ans2 (109 + 0) 32 a b = (0, 34) := by
          have tC : trapOf (109 + 0) 32 a b = 34 := by rw [tB, if_pos ⟨hx, hy⟩]
          unfold ans2; rw [tC, if_neg (by decide)]
        have e1 : ans2 (109 + 1) 32 a b = (a / b, 0) := by
          unfold ans2; rw [tA 1 (by decide) (by decide), if_pos rfl]
          show (a / b % 4294967296, (0 : Int)) = _
          rw [Int.emod_eq_of_lt hab.1 (by omega)]
        have e2 : ans2 (109 + 2) 32 a b = (0, 0) := by
          unfold ans2; rw [tA 2 (by decide) (by decide), if_pos rfl, hx, hy]; decide +kernel
        have e3 : ans2 (109 + 3) 32 a b = (a % b, 0) := by
          unfold ans2; rw [tA 3 (by decide) (by decide), if_pos rfl]
          show (a % b % 4294967296, (0 : Int)) = _
          rw [Int.emod_eq_of_lt hmb.1 (by omega)]
        clear tA tB q1 q2 hx hL hy ha hb hab hmb
        rcases hk with rfl | rfl | rfl | rfl
        · rw [e0]
          clear e0 e1 e2 e3
          go_enter Tryd.func53, Tryd.ntmps53
          go_wp2_with (first
            | (go_at_call 42; refine (HS.out _ _ (by first | assumption | decide) (by first | assumption | decide)).mono ?_; rintro e w' ⟨rfl, rfl⟩)
            | (go_at_call 41; refine (HLo.out _ _ (by first | exact hqr.1 | exact hrr.1) (by first | exact hqr.2 | exact hrr.2)).mono ?_; rintro e w' ⟨rfl, rfl⟩))
          go_ret2
          exact ⟨rfl, rfl⟩
        · rw [e1]
          clear e0 e1 e2 e3
          go_enter Tryd.func53, Tryd.ntmps53
          go_wp2_with (first
            | (go_at_call 42; refine (HS.out _ _ (by first | assumption | decide) (by first | assumption | decide)).mono ?_; rintro e w' ⟨rfl, rfl⟩)
            | (go_at_call 41; refine (HLo.out _ _ (by first | exact hqr.1 | exact hrr.1) (by first | exact hqr.2 | exact hrr.2)).mono ?_; rintro e w' ⟨rfl, rfl⟩))
          go_ret2
          exact ⟨rfl, rfl⟩
        · rw [e2]
          clear e0 e1 e2 e3
          go_enter Tryd.func53, Tryd.ntmps53
          go_wp2_with (first
            | (go_at_call 42; refine (HS.out _ _ (by first | assumption | decide) (by first | assumption | decide)).mono ?_; rintro e w' ⟨rfl, rfl⟩)
            | (go_at_call 41; refine (HLo.out _ _ (by first | exact hqr.1 | exact hrr.1) (by first | exact hqr.2 | exact hrr.2)).mono ?_; rintro e w' ⟨rfl, rfl⟩))
          go_ret2
          exact ⟨rfl, rfl⟩
        · rw [e3]
          clear e0 e1 e2 e3
          go_enter Tryd.func53, Tryd.ntmps53
          go_wp2_with (first
            | (go_at_call 42; refine (HS.out _ _ (by first | assumption | decide) (by first | assumption | decide)).mono ?_; rintro e w' ⟨rfl, rfl⟩)
            | (go_at_call 41; refine (HLo.out _ _ (by first | exact hqr.1 | exact hrr.1) (by first | exact hqr.2 | exact hrr.2)).mono ?_; rintro e w' ⟨rfl, rfl⟩))
          go_ret2
          exact ⟨rfl, rfl⟩
      · have c2 : (sgn 32 a == sgn 32 2147483648) = false := by rw [hL]; simp; exact fun h => hx (q2.1 h)
        have e0 : ans2 (109 + 0) 32 a b = ((sgn 32 a).tdiv (sgn 32 b) % 4294967296, 0) := by
          have tC : trapOf (109 + 0) 32 a b = 0 := by rw [tB, if_neg (fun h => hx h.1)]
          unfold ans2; rw [tC, if_pos rfl]; exact congrArg (fun z => (z, (0 : Int))) (Int.emod_emod_of_dvd _ d32)
        have e1 : ans2 (109 + 1) 32 a b = (a / b, 0) := by
          unfold ans2; rw [tA 1 (by decide) (by decide), if_pos rfl]
          show (a / b % 4294967296, (0 : Int)) = _
          rw [Int.emod_eq_of_lt hab.1 (by omega)]
        have e2 : ans2 (109 + 2) 32 a b = ((sgn 32 a).tmod (sgn 32 b) % 4294967296, 0) := by
          unfold ans2; rw [tA 2 (by decide) (by decide), if_pos rfl]; exact congrArg (fun z => (z, (0 : Int))) (Int.emod_emod_of_dvd _ d32)
        have e3 : ans2 (109 + 3) 32 a b = (a % b, 0) := by
          unfold ans2; rw [tA 3 (by decide) (by decide), if_pos rfl]
          show (a % b % 4294967296, (0 : Int)) = _
          rw [Int.emod_eq_of_lt hmb.1 (by omega)]
        clear tA tB q1 q2 hx hL hy ha hb hab hmb
        rcases hk with rfl | rfl | rfl | rfl
        · rw [e0]
          clear e0 e1 e2 e3
          go_enter Tryd.func53, Tryd.ntmps53
          go_wp2_with (first
            | (go_at_call 42; refine (HS.out _ _ (by first | assumption | decide) (by first | assumption | decide)).mono ?_; rintro e w' ⟨rfl, rfl⟩)
            | (go_at_call 41; refine (HLo.out _ _ (by first | exact hqr.1 | exact hrr.1) (by first | exact hqr.2 | exact hrr.2)).mono ?_; rintro e w' ⟨rfl, rfl⟩))
          go_ret2
          exact ⟨rfl, rfl⟩
        · rw [e1]
          clear e0 e1 e2 e3
          go_enter Tryd.func53, Tryd.ntmps53
          go_wp2_with (first
            | (go_at_call 42; refine (HS.out _ _ (by first | assumption | decide) (by first | assumption | decide)).mono ?_; rintro e w' ⟨rfl, rfl⟩)
            | (go_at_call 41; refine (HLo.out _ _ (by first | exact hqr.1 | exact hrr.1) (by first | exact hqr.2 | exact hrr.2)).mono ?_; rintro e w' ⟨rfl, rfl⟩))
          go_ret2
          exact ⟨rfl, rfl⟩
        · rw [e2]
          clear e0 e1 e2 e3
          go_enter Tryd.func53, Tryd.ntmps53
          go_wp2_with (first
            | (go_at_call 42; refine (HS.out _ _ (by first | assumption | decide) (by first | assumption | decide)).mono ?_; rintro e w' ⟨rfl, rfl⟩)
            | (go_at_call 41; refine (HLo.out _ _ (by first | exact hqr.1 | exact hrr.1) (by first | exact hqr.2 | exact hrr.2)).mono ?_; rintro e w' ⟨rfl, rfl⟩))
          go_ret2
          exact ⟨rfl, rfl⟩
        · rw [e3]
          clear e0 e1 e2 e3
          go_enter Tryd.func53, Tryd.ntmps53
          go_wp2_with (first
            | (go_at_call 42; refine (HS.out _ _ (by first | assumption | decide) (by first | assumption | decide)).mono ?_; rintro e w' ⟨rfl, rfl⟩)
            | (go_at_call 41; refine (HLo.out _ _ (by first | exact hqr.1 | exact hrr.1) (by first | exact hqr.2 | exact hrr.2)).mono ?_; rintro e w' ⟨rfl, rfl⟩))
          go_ret2
          exact ⟨rfl, rfl⟩
    · have c1 : (sgn 32 b == -1) = false := by simp; exact fun h => hy (q1.1 h)
      have e0 : ans2 (109 + 0) 32 a b = ((sgn 32 a).tdiv (sgn 32 b) % 4294967296, 0) := by
        have tC : trapOf (109 + 0) 32 a b = 0 := by rw [tB, if_neg (fun h => hy h.2)]
        unfold ans2; rw [tC, if_pos rfl]; exact congrArg (fun z => (z, (0 : Int))) (Int.emod_emod_of_dvd _ d32)
      have e1 : ans2 (109 + 1) 32 a b = (a / b, 0) := by
        unfold ans2; rw [tA 1 (by decide) (by decide), if_pos rfl]
        show (a / b % 4294967296, (0 : Int)) = _
        rw [Int.emod_eq_of_lt hab.1 (by omega)]
      have e2 : ans2 (109 + 2) 32 a b = ((sgn 32 a).tmod (sgn 32 b) % 4294967296, 0) := by
        unfold ans2; rw [tA 2 (by decide) (by decide), if_pos rfl]; exact congrArg (fun z => (z, (0 : Int))) (Int.emod_emod_of_dvd _ d32)
      have e3 : ans2 (109 + 3) 32 a b = (a % b, 0) := by
        unfold ans2; rw [tA 3 (by decide) (by decide), if_pos rfl]
        show (a % b % 4294967296, (0 : Int)) = _
        rw [Int.emod_eq_of_lt hmb.1 (by omega)]
      clear tA tB q1 q2 hL hy ha hb hab hmb
      rcases hk with rfl | rfl | rfl | rfl
      · rw [e0]
        clear e0 e1 e2 e3
        go_enter Tryd.func53, Tryd.ntmps53
        go_wp2_with (first
          | (go_at_call 42; refine (HS.out _ _ (by first | assumption | decide) (by first | assumption | decide)).mono ?_; rintro e w' ⟨rfl, rfl⟩)
          | (go_at_call 41; refine (HLo.out _ _ (by first | exact hqr.1 | exact hrr.1) (by first | exact hqr.2 | exact hrr.2)).mono ?_; rintro e w' ⟨rfl, rfl⟩))
        go_ret2
        exact ⟨rfl, rfl⟩
      · rw [e1]
        clear e0 e1 e2 e3
        go_enter Tryd.func53, Tryd.ntmps53
        go_wp2_with (first
          | (go_at_call 42; refine (HS.out _ _ (by first | assumption | decide) (by first | assumption | decide)).mono ?_; rintro e w' ⟨rfl, rfl⟩)
          | (go_at_call 41; refine (HLo.out _ _ (by first | exact hqr.1 | exact hrr.1) (by first | exact hqr.2 | exact hrr.2)).mono ?_; rintro e w' ⟨rfl, rfl⟩))
        go_ret2
        exact ⟨rfl, rfl⟩
      · rw [e2]
        clear e0 e1 e2 e3
        go_enter Tryd.func53, Tryd.ntmps53
        go_wp2_with (first
          | (go_at_call 42; refine (HS.out _ _ (by first | assumption | decide) (by first | assumption | decide)).mono ?_; rintro e w' ⟨rfl, rfl⟩)
          | (go_at_call 41; refine (HLo.out _ _ (by first | exact hqr.1 | exact hrr.1) (by first | exact hqr.2 | exact hrr.2)).mono ?_; rintro e w' ⟨rfl, rfl⟩))
        go_ret2
        exact ⟨rfl, rfl⟩
      · rw [e3]
        clear e0 e1 e2 e3
        go_enter Tryd.func53, Tryd.ntmps53
        go_wp2_with (first
          | (go_at_call 42; refine (HS.out _ _ (by first | assumption | decide) (by first | assumption | decide)).mono ?_; rintro e w' ⟨rfl, rfl⟩)
          | (go_at_call 41; refine (HLo.out _ _ (by first | exact hqr.1 | exact hrr.1) (by first | exact hqr.2 | exact hrr.2)).mono ?_; rintro e w' ⟨rfl, rfl⟩))
        go_ret2
        exact ⟨rfl, rfl⟩
set_option maxRecDepth 100000 in
set_option maxHeartbeats 2000000 in
theorem divide_64 (k a b : Int) (w : World) (hk : k = 0 ∨ k = 1 ∨ k = 2 ∨ k = 3) (ha0 : 0 ≤ a) (ha : a < 18446744073709551616) (hb0 : 0 ≤ b) (hb : b < 18446744073709551616) :
    Same2 53 #[.int .i64 k, .int .u64 a, .int .u64 b, .int .i64 64] w (ans2 (109 + k) 64 a b) := by
  unfold Same2
  have ha' : a < 18446744073709551616 := by omega
  have hb' : b < 18446744073709551616 := by omega
  obtain ⟨p1, p2⟩ := sgn_pair (d := 64) (by decide) ha0 ha hb0 hb
  have HS : Hid (∀ n w', 0 ≤ n → n < 18446744073709551616 → Same 42 #[.int .u64 n, .int .i64 64] w' (.int .i64 (sgn 64 n))) := Lib.hid (fun n w' h0 h1 => refSigned_any 64 n w' (by decide) h0 h1)
  have HLo : Hid (∀ n w', 0 ≤ n → n < 18446744073709551616 → Same 41 #[.int .u64 n, .int .i64 64] w' (.int .u64 (n % 18446744073709551616))) := Lib.hid (fun n w' h0 h1 => refLow_any 64 n w' (by decide) h0 h1)
  have hL : sgn 64 9223372036854775808 = -9223372036854775808 := by decide +kernel
  have q1 : sgn 64 b = -1 ↔ b = 18446744073709551615 := p1
  have q2 : sgn 64 a = -9223372036854775808 ↔ a = 9223372036854775808 := p2
  clear p1 p2
  by_cases hz : b = 0
  · subst hz
    have e : ans2 (109 + k) 64 a 0 = (0, 33) := by
      unfold ans2 trapOf
      rw [if_pos (show 109 ≤ 109 + k ∧ 109 + k ≤ 112 by omega), if_pos rfl, if_neg (by decide)]
    rw [e]
    clear ha hb hk q1 q2 hL e
    go_enter Tryd.func53, Tryd.ntmps53
    go_wp2_with (go_at_call 42; refine (HS.out _ _ (by assumption) (by assumption)).mono ?_; rintro e w' ⟨rfl, rfl⟩)
    go_ret2
    exact ⟨rfl, rfl⟩
  · have hzb : (b == 0) = false := by simp [hz]
    have hbs : sgn 64 b ≠ 0 := sgn_ne (d := 64) (by decide) hb0 hb hz
    have hbsb : (sgn 64 b == 0) = false := by simp [hbs]
    have hq : IntKind.u64.wrap (wrap64 ((sgn 64 a).tdiv (sgn 64 b))) = (sgn 64 a).tdiv (sgn 64 b) % 18446744073709551616 := by
      generalize (sgn 64 a).tdiv (sgn 64 b) = t
      rw [IntKind.wrap_u64]; unfold wrap64; omega
    have hr : IntKind.u64.wrap ((sgn 64 a).tmod (sgn 64 b)) = (sgn 64 a).tmod (sgn 64 b) % 18446744073709551616 := IntKind.wrap_u64 _
    have hqr := mod_range ((sgn 64 a).tdiv (sgn 64 b))
    have hrr := mod_range ((sgn 64 a).tmod (sgn 64 b))
    have hab : 0 ≤ a / b ∧ a / b ≤ a := ⟨Int.ediv_nonneg ha0 hb0, Int.ediv_le_self _ ha0⟩
    have hmb : 0 ≤ a % b ∧ a % b < b := ⟨Int.emod_nonneg _ hz, Int.emod_lt_of_pos _ (by omega)⟩
    have tA : ∀ j, 0 < j → j ≤ 3 → trapOf (109 + j) 64 a b = 0 := fun j h1 h2 => by rw [trap_0 (by omega) (by omega), if_neg hz]
    have tB : trapOf (109 + 0) 64 a b = if a = 9223372036854775808 ∧ b = 18446744073709551616 - 1 then 34 else 0 := by rw [show (109 : Int) + 0 = 109 from rfl, trap_s 9223372036854775808 18446744073709551616 rfl rfl, if_neg hz]
    by_cases hy : b = 18446744073709551615
    · have c1 : (sgn 64 b == -1) = true := by rw [q1.2 hy]; rfl
      by_cases hx : a = 9223372036854775808
      · have c2 : (sgn 64 a == sgn 64 9223372036854775808) = true := by rw [hL, q2.2 hx]; rfl
        have e0 : ans2 (109 + 0) 64 a b = (0, 34) := by
          have tC : trapOf (109 + 0) 64 a b = 34 := by rw [tB, if_pos ⟨hx, hy⟩]
          unfold ans2; rw [tC, if_neg (by decide)]
        have e1 : ans2 (109 + 1) 64 a b = (a / b, 0) := by
          unfold ans2; rw [tA 1 (by decide) (by decide), if_pos rfl]
          show (a / b % 18446744073709551616, (0 : Int)) = _
          rw [Int.emod_eq_of_lt hab.1 (by omega)]
        have e2 : ans2 (109 + 2) 64 a b = (0, 0) := by
          unfold ans2; rw [tA 2 (by decide) (by decide), if_pos rfl, hx, hy]; decide +kernel
        have e3 : ans2 (109 + 3) 64 a b = (a % b, 0) := by
          unfold ans2; rw [tA 3 (by decide) (by decide), if_pos rfl]
          show (a % b % 18446744073709551616, (0 : Int)) = _
          rw [Int.emod_eq_of_lt hmb.1 (by omega)]
        clear tA tB q1 q2 hx hL hy ha hb hab hmb
        rcases hk with rfl | rfl | rfl | rfl
        · rw [e0]
          clear e0 e1 e2 e3
          go_enter Tryd.func53, Tryd.ntmps53
          go_wp2_with (first
            | (go_at_call 42; refine (HS.out _ _ (by first | assumption | decide) (by first | assumption | decide)).mono ?_; rintro e w' ⟨rfl, rfl⟩)
            | (go_at_call 41; refine (HLo.out _ _ (by first | exact hqr.1 | exact hrr.1) (by first | exact hqr.2 | exact hrr.2)).mono ?_; rintro e w' ⟨rfl, rfl⟩))
          go_ret2
          exact ⟨rfl, rfl⟩
        · rw [e1]
          clear e0 e1 e2 e3
          go_enter Tryd.func53, Tryd.ntmps53
          go_wp2_with (first
            | (go_at_call 42; refine (HS.out _ _ (by first | assumption | decide) (by first | assumption | decide)).mono ?_; rintro e w' ⟨rfl, rfl⟩)
            | (go_at_call 41; refine (HLo.out _ _ (by first | exact hqr.1 | exact hrr.1) (by first | exact hqr.2 | exact hrr.2)).mono ?_; rintro e w' ⟨rfl, rfl⟩))
          go_ret2
          exact ⟨rfl, rfl⟩
        · rw [e2]
          clear e0 e1 e2 e3
          go_enter Tryd.func53, Tryd.ntmps53
          go_wp2_with (first
            | (go_at_call 42; refine (HS.out _ _ (by first | assumption | decide) (by first | assumption | decide)).mono ?_; rintro e w' ⟨rfl, rfl⟩)
            | (go_at_call 41; refine (HLo.out _ _ (by first | exact hqr.1 | exact hrr.1) (by first | exact hqr.2 | exact hrr.2)).mono ?_; rintro e w' ⟨rfl, rfl⟩))
          go_ret2
          exact ⟨rfl, rfl⟩
        · rw [e3]
          clear e0 e1 e2 e3
          go_enter Tryd.func53, Tryd.ntmps53
          go_wp2_with (first
            | (go_at_call 42; refine (HS.out _ _ (by first | assumption | decide) (by first | assumption | decide)).mono ?_; rintro e w' ⟨rfl, rfl⟩)
            | (go_at_call 41; refine (HLo.out _ _ (by first | exact hqr.1 | exact hrr.1) (by first | exact hqr.2 | exact hrr.2)).mono ?_; rintro e w' ⟨rfl, rfl⟩))
          go_ret2
          exact ⟨rfl, rfl⟩
      · have c2 : (sgn 64 a == sgn 64 9223372036854775808) = false := by rw [hL]; simp; exact fun h => hx (q2.1 h)
        have e0 : ans2 (109 + 0) 64 a b = ((sgn 64 a).tdiv (sgn 64 b) % 18446744073709551616, 0) := by
          have tC : trapOf (109 + 0) 64 a b = 0 := by rw [tB, if_neg (fun h => hx h.1)]
          unfold ans2; rw [tC, if_pos rfl]; exact congrArg (fun z => (z, (0 : Int))) (Int.emod_emod_of_dvd _ (Int.dvd_refl _))
        have e1 : ans2 (109 + 1) 64 a b = (a / b, 0) := by
          unfold ans2; rw [tA 1 (by decide) (by decide), if_pos rfl]
          show (a / b % 18446744073709551616, (0 : Int)) = _
          rw [Int.emod_eq_of_lt hab.1 (by omega)]
        have e2 : ans2 (109 + 2) 64 a b = ((sgn 64 a).tmod (sgn 64 b) % 18446744073709551616, 0) := by
          unfold ans2; rw [tA 2 (by decide) (by decide), if_pos rfl]; exact congrArg (fun z => (z, (0 : Int))) (Int.emod_emod_of_dvd _ (Int.dvd_refl _))
        have e3 : ans2 (109 + 3) 64 a b = (a % b, 0) := by
          unfold ans2; rw [tA 3 (by decide) (by decide), if_pos rfl]
          show (a % b % 18446744073709551616, (0 : Int)) = _
          rw [Int.emod_eq_of_lt hmb.1 (by omega)]
        clear tA tB q1 q2 hx hL hy ha hb hab hmb
        rcases hk with rfl | rfl | rfl | rfl
        · rw [e0]
          clear e0 e1 e2 e3
          go_enter Tryd.func53, Tryd.ntmps53
          go_wp2_with (first
            | (go_at_call 42; refine (HS.out _ _ (by first | assumption | decide) (by first | assumption | decide)).mono ?_; rintro e w' ⟨rfl, rfl⟩)
            | (go_at_call 41; refine (HLo.out _ _ (by first | exact hqr.1 | exact hrr.1) (by first | exact hqr.2 | exact hrr.2)).mono ?_; rintro e w' ⟨rfl, rfl⟩))
          go_ret2
          exact ⟨rfl, rfl⟩
        · rw [e1]
          clear e0 e1 e2 e3
          go_enter Tryd.func53, Tryd.ntmps53
          go_wp2_with (first
            | (go_at_call 42; refine (HS.out _ _ (by first | assumption | decide) (by first | assumption | decide)).mono ?_; rintro e w' ⟨rfl, rfl⟩)
            | (go_at_call 41; refine (HLo.out _ _ (by first | exact hqr.1 | exact hrr.1) (by first | exact hqr.2 | exact hrr.2)).mono ?_; rintro e w' ⟨rfl, rfl⟩))
          go_ret2
          exact ⟨rfl, rfl⟩
        · rw [e2]
          clear e0 e1 e2 e3
          go_enter Tryd.func53, Tryd.ntmps53
          go_wp2_with (first
            | (go_at_call 42; refine (HS.out _ _ (by first | assumption | decide) (by first | assumption | decide)).mono ?_; rintro e w' ⟨rfl, rfl⟩)
            | (go_at_call 41; refine (HLo.out _ _ (by first | exact hqr.1 | exact hrr.1) (by first | exact hqr.2 | exact hrr.2)).mono ?_; rintro e w' ⟨rfl, rfl⟩))
          go_ret2
          exact ⟨rfl, rfl⟩
        · rw [e3]
          clear e0 e1 e2 e3
          go_enter Tryd.func53, Tryd.ntmps53
          go_wp2_with (first
            | (go_at_call 42; refine (HS.out _ _ (by first | assumption | decide) (by first | assumption | decide)).mono ?_; rintro e w' ⟨rfl, rfl⟩)
            | (go_at_call 41; refine (HLo.out _ _ (by first | exact hqr.1 | exact hrr.1) (by first | exact hqr.2 | exact hrr.2)).mono ?_; rintro e w' ⟨rfl, rfl⟩))
          go_ret2
          exact ⟨rfl, rfl⟩
    · have c1 : (sgn 64 b == -1) = false := by simp; exact fun h => hy (q1.1 h)
      have e0 : ans2 (109 + 0) 64 a b = ((sgn 64 a).tdiv (sgn 64 b) % 18446744073709551616, 0) := by
        have tC : trapOf (109 + 0) 64 a b = 0 := by rw [tB, if_neg (fun h => hy h.2)]
        unfold ans2; rw [tC, if_pos rfl]; exact congrArg (fun z => (z, (0 : Int))) (Int.emod_emod_of_dvd _ (Int.dvd_refl _))
      have e1 : ans2 (109 + 1) 64 a b = (a / b, 0) := by
        unfold ans2; rw [tA 1 (by decide) (by decide), if_pos rfl]
        show (a / b % 18446744073709551616, (0 : Int)) = _
        rw [Int.emod_eq_of_lt hab.1 (by omega)]
      have e2 : ans2 (109 + 2) 64 a b = ((sgn 64 a).tmod (sgn 64 b) % 18446744073709551616, 0) := by
        unfold ans2; rw [tA 2 (by decide) (by decide), if_pos rfl]; exact congrArg (fun z => (z, (0 : Int))) (Int.emod_emod_of_dvd _ (Int.dvd_refl _))
      have e3 : ans2 (109 + 3) 64 a b = (a % b, 0) := by
        unfold ans2; rw [tA 3 (by decide) (by decide), if_pos rfl]
        show (a % b % 18446744073709551616, (0 : Int)) = _
        rw [Int.emod_eq_of_lt hmb.1 (by omega)]
      clear tA tB q1 q2 hL hy ha hb hab hmb
      rcases hk with rfl | rfl | rfl | rfl
      · rw [e0]
        clear e0 e1 e2 e3
        go_enter Tryd.func53, Tryd.ntmps53
        go_wp2_with (first
          | (go_at_call 42; refine (HS.out _ _ (by first | assumption | decide) (by first | assumption | decide)).mono ?_; rintro e w' ⟨rfl, rfl⟩)
          | (go_at_call 41; refine (HLo.out _ _ (by first | exact hqr.1 | exact hrr.1) (by first | exact hqr.2 | exact hrr.2)).mono ?_; rintro e w' ⟨rfl, rfl⟩))
        go_ret2
        exact ⟨rfl, rfl⟩
      · rw [e1]
        clear e0 e1 e2 e3
        go_enter Tryd.func53, Tryd.ntmps53
        go_wp2_with (first
          | (go_at_call 42; refine (HS.out _ _ (by first | assumption | decide) (by first | assumption | decide)).mono ?_; rintro e w' ⟨rfl, rfl⟩)
          | (go_at_call 41; refine (HLo.out _ _ (by first | exact hqr.1 | exact hrr.1) (by first | exact hqr.2 | exact hrr.2)).mono ?_; rintro e w' ⟨rfl, rfl⟩))
        go_ret2
        exact ⟨rfl, rfl⟩
      · rw [e2]
        clear e0 e1 e2 e3
        go_enter Tryd.func53, Tryd.ntmps53
        go_wp2_with (first
          | (go_at_call 42; refine (HS.out _ _ (by first | assumption | decide) (by first | assumption | decide)).mono ?_; rintro e w' ⟨rfl, rfl⟩)
          | (go_at_call 41; refine (HLo.out _ _ (by first | exact hqr.1 | exact hrr.1) (by first | exact hqr.2 | exact hrr.2)).mono ?_; rintro e w' ⟨rfl, rfl⟩))
        go_ret2
        exact ⟨rfl, rfl⟩
      · rw [e3]
        clear e0 e1 e2 e3
        go_enter Tryd.func53, Tryd.ntmps53
        go_wp2_with (first
          | (go_at_call 42; refine (HS.out _ _ (by first | assumption | decide) (by first | assumption | decide)).mono ?_; rintro e w' ⟨rfl, rfl⟩)
          | (go_at_call 41; refine (HLo.out _ _ (by first | exact hqr.1 | exact hrr.1) (by first | exact hqr.2 | exact hrr.2)).mono ?_; rintro e w' ⟨rfl, rfl⟩))
        go_ret2
        exact ⟨rfl, rfl⟩

end Go.Proofs.YtmikhbpffmojhaaDoor.nm
