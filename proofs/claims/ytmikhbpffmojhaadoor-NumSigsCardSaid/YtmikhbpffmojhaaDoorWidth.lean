/- The contracts of package num's widths: what is left in so many bits, with and without a sign; how far a shift goes. -/
import Derived.Test.YtmikhbpffmojhaaDoorRows
import Derived.Test.YtmikhbpffmojhaaDoorMath
import Derived.WalkKit
import Derived.WalkSpells
import Derived.WalkLawsBesides
import Derived.Lib.Hide
import Derived.Deep.QuietTactic
import Derived.BigQuiet
import Derived.Laws.BitsAllLaws
namespace Go.Proofs.YtmikhbpffmojhaaDoor.nm
open Go.RowKit

/-- a call that answers v and turns nothing (it may draw) -/
def Tells (f : FuncId) (args : Array Value) (w : World) (v : Value) : Prop :=
  Calls Tryd.prog f args w fun e w' => e = .returned v ∧ ∃ m, w' = w.drewN m

theorem ret_int {k : IntKind} {a b : Int} (h : a = b) : Ending.returned (.int k a) = .returned (.int k b) := by rw [h]

theorem spare_any (d : Int) (w : World) (hd : 0 ≤ d) (hd' : d ≤ 64) : Tells 43 #[.int .i64 d] w (.int .i64 (64 - d)) := by
  unfold Tells
  go_enter Tryd.func43, Tryd.ntmps43
  go_wp2
  go_ret
  exact ⟨rfl, 0, rfl⟩

theorem widthOf_any (t : Int) (w : World) : Tells 31 #[.int .i64 t] w (.int .i64 (if t = 127 then 32 else 64)) := by
  unfold Tells
  by_cases h : t = 127
  · subst h
    go_enter Tryd.func31, Tryd.ntmps31
    go_wp2
    go_ret
    exact ⟨rfl, 0, rfl⟩
  · have hb : (t == 127) = false := by simp [h]
    rw [if_neg h]
    clear h
    go_enter Tryd.func31, Tryd.ntmps31
    go_wp2
    go_ret
    exact ⟨rfl, 0, rfl⟩

theorem cut_any (d n : Int) (w : World) (hd : d = 32 ∨ d = 64) (h0 : 0 ≤ n) (h1 : n < 18446744073709551616) :
    Tells 32 #[.int .i64 d, .int .u64 n] w (.int .u64 (n % 2 ^ d.toNat)) := by
  unfold Tells
  rcases hd with rfl | rfl
  all_goals
    go_enter Tryd.func32, Tryd.ntmps32
    go_wp2
    go_quiet ((go_at_call 43; exact Calls.quiet_of (spare_any _ _ (by decide) (by decide))))
    go_wp2
    go_ret
    refine ⟨ret_int ?_, nq, rfl⟩
  · show IntKind.u64.wrap (n * 4294967296) / 4294967296 = n % 4294967296
    simp only [IntKind.wrap_u64]
    omega
  · show n = n % 18446744073709551616
    omega

/-- a number's low b bits with a sign -/
def sgn (b : Nat) (n : Int) : Int := if n % 2 ^ b * 2 < 2 ^ b then n % 2 ^ b else n % 2 ^ b - 2 ^ b
theorem sgn_8 (n : Int) : sgn 8 n = if n % 256 < 128 then n % 256 else n % 256 - 256 := by
  show (if n % 256 * 2 < 256 then n % 256 else n % 256 - 256) = _
  split <;> split <;> omega
theorem sgn_16 (n : Int) : sgn 16 n = if n % 65536 < 32768 then n % 65536 else n % 65536 - 65536 := by
  show (if n % 65536 * 2 < 65536 then n % 65536 else n % 65536 - 65536) = _
  split <;> split <;> omega
theorem sgn_32 (n : Int) : sgn 32 n = if n % 4294967296 < 2147483648 then n % 4294967296 else n % 4294967296 - 4294967296 := by
  show (if n % 4294967296 * 2 < 4294967296 then n % 4294967296 else n % 4294967296 - 4294967296) = _
  split <;> split <;> omega
theorem sgn_64 (n : Int) : sgn 64 n = if n % 18446744073709551616 < 9223372036854775808 then n % 18446744073709551616 else n % 18446744073709551616 - 18446744073709551616 := by
  show (if n % 18446744073709551616 * 2 < 18446744073709551616 then n % 18446744073709551616 else n % 18446744073709551616 - 18446744073709551616) = _
  split <;> split <;> omega

theorem signed_any (d n : Int) (w : World) (hd : d = 8 ∨ d = 16 ∨ d = 32 ∨ d = 64) (h0 : 0 ≤ n) (h1 : n < 18446744073709551616) :
    Tells 64 #[.int .i64 d, .int .u64 n] w (.int .i64 (sgn d.toNat n)) := by
  unfold Tells
  rcases hd with rfl | rfl | rfl | rfl
  all_goals
    go_enter Tryd.func64, Tryd.ntmps64
    go_wp2
    go_quiet ((go_at_call 43; exact Calls.quiet_of (spare_any _ _ (by decide) (by decide))))
    go_wp2
    go_ret
    refine ⟨ret_int ?_, nq, rfl⟩
  · rw [show sgn (Int.toNat 8) n = _ from sgn_8 n]; simp only [IntKind.wrap_u64]; unfold wrap64; split <;> omega
  · rw [show sgn (Int.toNat 16) n = _ from sgn_16 n]; simp only [IntKind.wrap_u64]; unfold wrap64; split <;> omega
  · rw [show sgn (Int.toNat 32) n = _ from sgn_32 n]; simp only [IntKind.wrap_u64]; unfold wrap64; split <;> omega
  · rw [show sgn (Int.toNat 64) n = _ from sgn_64 n]; unfold wrap64; split <;> omega

theorem least_any (d : Int) (w : World) (hd : d = 32 ∨ d = 64) : Tells 46 #[.int .i64 d] w (.int .u64 (2 ^ (d.toNat - 1))) := by
  unfold Tells
  rcases hd with rfl | rfl
  all_goals
    go_enter Tryd.func46, Tryd.ntmps46
    go_wp2
    go_ret
    exact ⟨rfl, 0, rfl⟩

theorem most_any (d : Int) (w : World) (hd : d = 32 ∨ d = 64) : Tells 47 #[.int .i64 d] w (.int .u64 (2 ^ d.toNat - 1)) := by
  unfold Tells
  have H := Lib.hid (fun w' => cut_any d 18446744073709551615 w' hd (by decide) (by decide))
  have e : (18446744073709551615 : Int) % 2 ^ d.toNat = 2 ^ d.toNat - 1 := by rcases hd with rfl | rfl <;> decide
  rw [e] at H
  go_enter Tryd.func47, Tryd.ntmps47
  go_wp2_with (go_at_call 32; refine (H.out _).mono ?_; rintro e w' ⟨rfl, m, rfl⟩)
  go_ret
  exact ⟨rfl, m, rfl⟩

theorem far_any (d n : Int) (w : World) (hd : d = 32 ∨ d = 64) (h0 : 0 ≤ n) (h1 : n < 18446744073709551616) :
    Tells 84 #[.int .i64 d, .int .u64 n] w (.int .i64 (n % d)) := by
  unfold Tells
  rcases hd with rfl | rfl
  all_goals
    go_enter Tryd.func84, Tryd.ntmps84
    go_wp2
    go_ret
    exact ⟨ret_int rfl, 0, rfl⟩

/-- what a turn leaves, bits above the width among it -/
def turnRaw (d : Nat) (a : Int) (k : Nat) : Int := ((a.toNat * 2 ^ k % 2 ^ 64 ||| a.toNat / 2 ^ (d - k) : Nat) : Int)

theorem turn_any (d a k : Int) (w : World) (hd : d = 32 ∨ d = 64) (h0 : 0 ≤ a) (h1 : a < 18446744073709551616) (hk : 0 ≤ k) (hk' : k ≤ d) :
    Tells 88 #[.int .i64 d, .int .u64 a, .int .i64 k] w (.int .u64 (turnRaw d.toNat a k.toNat)) := by
  unfold Tells
  have hd1 : 0 ≤ d - k := by omega
  have hd2 : 0 ≤ d ∧ d ≤ 64 := by omega
  go_enter Tryd.func88, Tryd.ntmps88
  go_wp2
  go_quiet (fail)
  go_wp2
  go_ret
  refine ⟨ret_int ?_, nq, rfl⟩
  obtain ⟨x, rfl⟩ : ∃ x : Nat, a = x := ⟨a.toNat, by omega⟩
  have e1 : IntKind.u64.wrap ((x : Int) * 2 ^ k.toNat) = ((x * 2 ^ k.toNat % 2 ^ 64 : Nat) : Int) := by
    have h' : ((2 ^ 64 : Nat) : Int) = 18446744073709551616 := by decide
    rw [IntKind.wrap_u64, Int.natCast_emod, h', Int.natCast_mul, Int.natCast_pow]; rfl
  have e2 : (x : Int) / 2 ^ (d - k).toNat = ((x / 2 ^ (d.toNat - k.toNat) : Nat) : Int) := by
    rw [show (d - k).toNat = d.toNat - k.toNat from by omega, Int.natCast_ediv, Int.natCast_pow]; rfl
  rw [e1, e2, u64_or_nat _ _ (Nat.mod_lt _ (by decide)) (Nat.lt_of_le_of_lt (Nat.div_le_self _ _) (by omega))]
  rfl

def b2i (b : Bool) : Int := if b then 1 else 0
theorem truth_any (b : Bool) (w : World) : Tells 55 #[.bool b] w (.int .u64 (b2i b)) := by
  unfold Tells
  cases b
  all_goals
    go_enter Tryd.func55, Tryd.ntmps55
    go_wp2
    go_ret
    exact ⟨rfl, 0, rfl⟩

theorem divides_any (l : Int) (w : World) : Tells 28 #[.int .i64 l] w (.bool (decide (109 ≤ l) && decide (l ≤ 112))) := by
  unfold Tells
  go_enter Tryd.func28, Tryd.ntmps28
  go_wp2
  all_goals go_ret
  all_goals refine ⟨congrArg Ending.returned (congrArg Value.bool ?_), 0, rfl⟩
  · rename_i h; simp [h]
  · rename_i h; rw [show decide (109 ≤ l) = false from decide_eq_false (by omega)]; rfl

end Go.Proofs.YtmikhbpffmojhaaDoor.nm
