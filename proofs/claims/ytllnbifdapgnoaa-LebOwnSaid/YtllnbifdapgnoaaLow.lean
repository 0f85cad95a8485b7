/- The callees' contracts of package leb: low, for numbers without and with a sign. -/
import Derived.Test.YtllnbifdapgnoaaRows
import Derived.Test.YtllnbifdapgnoaaMath
import Derived.WalkKit
import Derived.WalkSpells
import Derived.WalkLawsBesides
namespace Go.Proofs.Ytllnbifdapgnoaa.lb
open Go.RowKit
theorem ret_int {k : IntKind} {a b : Int} (h : a = b) : Ending.returned (.int k a) = .returned (.int k b) := by rw [h]
theorem b8_and127 (x : Int) (h0 : 0 ≤ x) (h : x < 256) : bits .and .u8 x 127 = x % 128 := by
  rw [u8_and x 127 h0 h (by decide) (by decide)]; exact and_127 x h0
theorem b8_or128 (x : Int) (h0 : 0 ≤ x) (h : x < 256) : bits .or .u8 x 128 = x % 128 + 128 := by
  rw [u8_or x 128 h0 h (by decide) (by decide)]; exact or_128 x h0 h
theorem b8_and128 (x : Int) (h0 : 0 ≤ x) (h : x < 256) : bits .and .u8 x 128 = if x < 128 then 0 else 128 := by
  rw [u8_and x 128 h0 h (by decide) (by decide)]; exact and_128 x h0 h
theorem wrap_u64 (n : Int) : IntKind.u64.wrap n = n % 2 ^ 64 := rfl

set_option maxHeartbeats 400000 in
theorem lowU_any (n b : Int) (w : World) (hb : 0 ≤ b) (hb' : b ≤ 64) :
    Calls Try.prog 27 #[.int .u64 n, .int .i64 b] w fun e w' => e = .returned (.int .u64 (n % 2 ^ b.toNat)) ∧ w = w' := by
  go_enter Try.func27, Try.ntmps27
  go_wp2
  go_ret
  refine ⟨ret_int ?_, rfl⟩
  rw [show (64 - b).toNat = 64 - b.toNat from by omega, wrap_u64]
  exact low_u n b.toNat (by omega)
set_option maxHeartbeats 400000 in
theorem lowS_any (n b : Int) (w : World) (hb : 1 ≤ b) (hb' : b ≤ 64) :
    Calls Try.prog 28 #[.int .i64 n, .int .i64 b] w fun e w' => e = .returned (.int .i64 (Int.bmod n (2 ^ b.toNat))) ∧ w = w' := by
  go_enter Try.func28, Try.ntmps28
  go_wp2
  go_ret
  refine ⟨ret_int ?_, rfl⟩
  rw [show (64 - b).toNat = 64 - b.toNat from by omega, wrap64_bmod]
  exact low_s n b.toNat (by omega) (by omega)
end Go.Proofs.Ytllnbifdapgnoaa.lb
