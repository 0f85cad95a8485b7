/- What the operators leave is a number of 64 bits. -/
import Derived.Test.YtmikhbpffmojhaaDoorSem
set_option linter.unusedVariables false
namespace Go.Proofs.YtmikhbpffmojhaaDoor.nm

theorem b2i_range (b : Bool) : 0 ≤ b2i b ∧ b2i b < 18446744073709551616 := by cases b <;> decide
theorem mod_range (x : Int) : 0 ≤ x % 18446744073709551616 ∧ x % 18446744073709551616 < 18446744073709551616 := by omega
theorem nat_range {n : Nat} (h : n < 2 ^ 64) : 0 ≤ (n : Int) ∧ (n : Int) < 18446744073709551616 := by omega
theorem div_range {a : Int} (k : Nat) (h0 : 0 ≤ a) (h : a < 18446744073709551616) : 0 ≤ a / 2 ^ k ∧ a / 2 ^ k < 18446744073709551616 := by
  have hp : (0 : Int) < 2 ^ k := Int.pow_pos (by decide)
  have h1 : a / 2 ^ k ≤ a := Int.ediv_le_self _ h0
  exact ⟨Int.ediv_nonneg h0 (Int.le_of_lt hp), by omega⟩
theorem turn_range (d : Nat) (a : Int) (k : Nat) (h0 : 0 ≤ a) (h : a < 18446744073709551616) : 0 ≤ turnRaw d a k ∧ turnRaw d a k < 18446744073709551616 := by
  unfold turnRaw
  exact nat_range (Nat.or_lt_two_pow (Nat.mod_lt _ (by decide)) (Nat.lt_of_le_of_lt (Nat.div_le_self _ _) (by omega)))

theorem raw2_range (k : Int) (d : Nat) (a b : Int) (hk : 70 ≤ k ∧ k ≤ 79 ∨ 106 ≤ k ∧ k ≤ 120) (ha0 : 0 ≤ a) (ha : a < 18446744073709551616) (hb0 : 0 ≤ b) (hb : b < 18446744073709551616) :
    0 ≤ raw2 k d a b ∧ raw2 k d a b < 18446744073709551616 := by
  have hk' : k = 70 ∨ k = 71 ∨ k = 72 ∨ k = 73 ∨ k = 74 ∨ k = 75 ∨ k = 76 ∨ k = 77 ∨ k = 78 ∨ k = 79 ∨ k = 106 ∨ k = 107 ∨ k = 108 ∨ k = 109 ∨ k = 110 ∨ k = 111 ∨ k = 112 ∨ k = 113 ∨ k = 114 ∨ k = 115 ∨ k = 116 ∨ k = 117 ∨ k = 118 ∨ k = 119 ∨ k = 120 := by omega
  clear hk
  rcases hk' with rfl | rfl | rfl | rfl | rfl | rfl | rfl | rfl | rfl | rfl | rfl | rfl | rfl | rfl | rfl | rfl | rfl | rfl | rfl | rfl | rfl | rfl | rfl | rfl | rfl
  · exact b2i_range _
  · exact b2i_range _
  · exact b2i_range _
  · exact b2i_range _
  · exact b2i_range _
  · exact b2i_range _
  · exact b2i_range _
  · exact b2i_range _
  · exact b2i_range _
  · exact b2i_range _
  · exact mod_range _
  · exact mod_range _
  · exact mod_range _
  · exact mod_range _
  · show 0 ≤ a / b ∧ a / b < _
    have h1 : a / b ≤ a := Int.ediv_le_self _ ha0
    exact ⟨Int.ediv_nonneg ha0 hb0, by omega⟩
  · exact mod_range _
  · show 0 ≤ a % b ∧ a % b < _
    by_cases h : b = 0
    · subst h; rw [Int.emod_zero]; omega
    · have h1 := Int.emod_nonneg a h
      have h2 := Int.emod_lt_of_pos a (show 0 < b by omega)
      omega
  · exact nat_range (Nat.lt_of_le_of_lt Nat.and_le_left (by omega))
  · exact nat_range (Nat.or_lt_two_pow (by omega) (by omega))
  · exact nat_range (Nat.xor_lt_two_pow (by omega) (by omega))
  · exact mod_range _
  · exact mod_range _
  · exact div_range _ ha0 ha
  · exact turn_range _ _ _ ha0 ha
  · exact turn_range _ _ _ ha0 ha

theorem raw1_range (k : Int) (d : Nat) (a : Int) (hk : k = 69 ∨ k = 103 ∨ k = 104 ∨ k = 105 ∨ k = 167 ∨ k = 172 ∨ k = 173 ∨ k = 192 ∨ k = 193 ∨ k = 194) (hd : d = 32 ∨ d = 64) (ha0 : 0 ≤ a) (ha : a < 2 ^ d) :
    0 ≤ raw1 k d a ∧ raw1 k d a < 18446744073709551616 := by
  have ha' : a < 18446744073709551616 := by
    rcases hd with rfl | rfl
    · have e : (2 : Int) ^ 32 = 4294967296 := rfl
      omega
    · have e : (2 : Int) ^ 64 = 18446744073709551616 := rfl
      omega
  have hp : ((2 ^ d : Nat) : Int) = 2 ^ d := Int.natCast_pow 2 _
  rcases hk with rfl | rfl | rfl | rfl | rfl | rfl | rfl | rfl | rfl | rfl
  · show 0 ≤ (if a = 0 then (1 : Int) else 0) ∧ (if a = 0 then (1 : Int) else 0) < _
    split <;> decide
  · have hl := Lib.bitLen_le a.toNat d (by omega) (by omega)
    show 0 ≤ (d : Int) - (Lib.bitLen a.toNat : Int) ∧ (d : Int) - (Lib.bitLen a.toNat : Int) < _
    omega
  · show 0 ≤ (if a = 0 then (d : Int) else (tz 64 a.toNat : Int)) ∧ (if a = 0 then (d : Int) else (tz 64 a.toNat : Int)) < _
    by_cases h : a = 0
    · rw [if_pos h]; omega
    · have := tz_lt 64 d a.toNat (by omega) (by rw [Nat.mod_eq_of_lt (by omega)]; omega)
      rw [if_neg h]; omega
  · have := pop_le 64 a.toNat
    show 0 ≤ (pop 64 a.toNat : Int) ∧ (pop 64 a.toNat : Int) < _
    omega
  · exact ⟨ha0, ha'⟩
  · exact mod_range _
  · exact ⟨ha0, ha'⟩
  · exact mod_range _
  · exact mod_range _
  · exact mod_range _

end Go.Proofs.YtmikhbpffmojhaaDoor.nm
