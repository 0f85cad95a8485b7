/- How many bits a number of 64 bits has: the library's own function walked. -/
import Derived.Test.YtmikhbpffmojhaaDoorRows
import Derived.Lib.Strings
import Derived.Lib.Slices
import Derived.Lib.Small
import Derived.Lib.Walk
import Derived.Lib.BitFns
namespace Go.Proofs.YtmikhbpffmojhaaDoor.nm

theorem top_of (x q : Int) (k : Nat) (hk : k ≤ 56) (h1 : 2 ^ k ≤ x.toNat) (h2 : x.toNat < 2 ^ 64) (hq0 : 0 ≤ q) (hq : q ≤ 255) (hqx : q.toNat = x.toNat / 2 ^ k) :
    ((k : Int) + ((Lib.len8 (q % 256) + 9223372036854775808) % 18446744073709551616 - 9223372036854775808) + 9223372036854775808) % 18446744073709551616 - 9223372036854775808 = (Lib.bitLen x.toNat : Int) := by
  have l := Lib.bitLen_le8' q hq0 hq
  rw [show q % 256 = q from by omega, Lib.len8_int q hq0 hq, Lib.bitLen_shift k x.toNat h1 h2, ← hqx]
  omega

set_option maxHeartbeats 4000000 in
set_option maxRecDepth 100000 in
theorem len64_walk (x : Int) (w : World) (h0 : 0 ≤ x) (h1 : x ≤ 18446744073709551615) :
    Calls Tryd.prog 90 #[.int .u64 x] w fun e w' => e = .returned (.int .i64 (Lib.bitLen x.toNat)) ∧ w' = w := by
  go_enter Tryd.func90, Tryd.ntmps90
  go_wp2
  all_goals (go_ret; refine ⟨congrArg Ending.returned (congrArg (Value.int IntKind.i64) ?_), rfl⟩)
  · exact top_of x (x / 4294967296 / 65536 / 256) 56 (by decide) (by omega) (by omega) (by omega) (by omega) (by omega)
  · exact top_of x (x / 4294967296 / 65536) 48 (by decide) (by omega) (by omega) (by omega) (by omega) (by omega)
  · exact top_of x (x / 4294967296 / 256) 40 (by decide) (by omega) (by omega) (by omega) (by omega) (by omega)
  · exact top_of x (x / 4294967296) 32 (by decide) (by omega) (by omega) (by omega) (by omega) (by omega)
  · exact top_of x (x / 65536 / 256) 24 (by decide) (by omega) (by omega) (by omega) (by omega) (by omega)
  · exact top_of x (x / 65536) 16 (by decide) (by omega) (by omega) (by omega) (by omega) (by omega)
  · exact top_of x (x / 256) 8 (by decide) (by omega) (by omega) (by omega) (by omega) (by omega)
  · rw [show x % 256 = x from by omega]; exact Lib.len8_int x h0 (by omega)
end Go.Proofs.YtmikhbpffmojhaaDoor.nm
