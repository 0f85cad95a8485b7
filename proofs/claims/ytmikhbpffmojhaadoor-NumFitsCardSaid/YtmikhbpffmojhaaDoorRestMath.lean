/- A quotient, times the divisor, and the rest are the number: of what num.Eval answers. -/
import Derived.Test.YtmikhbpffmojhaaDoorEvs
set_option linter.unusedVariables false
namespace Go.Proofs.YtmikhbpffmojhaaDoor.nm

/-- what the four operators of one type and one way of dividing answer of u and v -/
def Rest (x0 x1 x2 x3 u v : Int) : Prop :=
  ∃ q e r f, ev x0 [u, v] = (q, e) ∧ ev x1 [u, v] = (r, f) ∧
    ((e ≠ 0 ∧ v = 0 ∧ f = 33) ∨ (e = 34 ∧ v ≠ 0 ∧ f = 0 ∧ r = 0) ∨
      (e = 0 ∧ f = 0 ∧ (0 ≤ q ∧ q < 18446744073709551616) ∧ (0 ≤ r ∧ r < 18446744073709551616) ∧ ∃ p, (0 ≤ p ∧ p < 18446744073709551616) ∧ ev x2 [q, v] = (p, 0) ∧ ev x3 [p, r] = (u, 0)))

/-- the sum, going round -/
theorem rest_sum (M x y u v : Int) (hM : M ∣ 18446744073709551616) (hx : x % M = u) (hy : y % M = v % M) :
    (x.tdiv y % 18446744073709551616 % M * v % 18446744073709551616 % M + x.tmod y % 18446744073709551616 % M) % 18446744073709551616 % M = u := by
  rw [Int.emod_emod_of_dvd _ hM, Int.emod_emod_of_dvd _ hM, Int.emod_emod_of_dvd _ hM, Int.emod_emod_of_dvd _ hM]
  have e1 : x.tdiv y % M * v % M = x.tdiv y * y % M := by
    rw [Int.mul_emod, Int.emod_emod_of_dvd _ (Int.dvd_refl M), ← hy, ← Int.mul_emod]
  rw [e1, ← Int.add_emod, Int.mul_comm, Int.mul_tdiv_add_tmod, hx]

theorem sgn32_mod (n : Int) : sgn 32 n % 4294967296 = n % 4294967296 := by rw [sgn_32]; split <;> omega
theorem sgn64_mod (n : Int) : sgn 64 n % 18446744073709551616 = n % 18446744073709551616 := by rw [sgn_64]; split <;> omega
theorem d32 : (4294967296 : Int) ∣ 18446744073709551616 := ⟨4294967296, by decide⟩
theorem m32 (x : Int) : 0 ≤ x % 4294967296 ∧ x % 4294967296 < 4294967296 := by omega

theorem trap_s {W : Nat} {u v : Int} (L M : Int) (hL : (2 : Int) ^ (W - 1) = L) (hM : (2 : Int) ^ W = M) : trapOf 109 W u v = if v = 0 then 33 else if u = L ∧ v = M - 1 then 34 else 0 := by
  unfold trapOf
  rw [if_pos (by decide), hL, hM]
  by_cases h : v = 0
  · rw [if_pos h, if_pos h]
  · rw [if_neg h, if_neg h]
    by_cases h2 : u = L ∧ v = M - 1
    · rw [if_pos h2, if_pos ⟨rfl, h2⟩]
    · rw [if_neg h2, if_neg (fun h => h2 h.2)]
theorem trap_0 {k : Int} {W : Nat} {u v : Int} (hk : 109 < k) (hk' : k ≤ 112) : trapOf k W u v = if v = 0 then 33 else 0 := by
  unfold trapOf
  rw [if_pos ⟨by omega, hk'⟩]
  by_cases h : v = 0
  · rw [if_pos h, if_pos h]
  · rw [if_neg h, if_neg h, if_neg (by omega)]
theorem trap_no {k : Int} {W : Nat} {u v : Int} (hk : k < 109) : trapOf k W u v = 0 := by
  unfold trapOf
  rw [if_neg (by omega)]

/-- signed, of 32 bits -/
theorem rest32s (u v : Int) (hu : 0 ≤ u ∧ u < 4294967296) (hv : 0 ≤ v ∧ v < 4294967296) : Rest 109 111 108 106 u v := by
  have e0 := ev32 (op := 109) u v (by decide) (by decide) hu.2 hv.2
  have e1 := ev32 (op := 111) u v (by decide) (by decide) hu.2 hv.2
  rw [trap_s 2147483648 4294967296 rfl rfl] at e0
  rw [trap_0 (by decide) (by decide)] at e1
  by_cases hz : v = 0
  · rw [if_pos hz, if_neg (by decide)] at e0
    rw [if_pos hz, if_neg (by decide)] at e1
    exact ⟨_, _, _, _, e0, e1, .inl ⟨by decide, hz, rfl⟩⟩
  · rw [if_neg hz] at e0
    rw [if_neg hz, if_pos rfl] at e1
    by_cases ho : u = 2147483648 ∧ v = 4294967296 - 1
    · rw [if_pos ho, if_neg (by decide)] at e0
      refine ⟨_, _, _, _, e0, e1, .inr (.inl ⟨rfl, hz, rfl, ?_⟩)⟩
      rw [ho.1, ho.2]; decide +kernel
    · rw [if_neg ho, if_pos rfl] at e0
      have hq := m32 (raw2 109 32 u v)
      have hr := m32 (raw2 111 32 u v)
      have hp := m32 (raw2 108 32 (raw2 109 32 u v % 4294967296) v)
      have e2 := ev32 (op := 108) (raw2 109 32 u v % 4294967296) v (by decide) (by decide) hq.2 hv.2
      rw [trap_no (by decide), if_pos rfl] at e2
      have e3 := ev32 (op := 106) (raw2 108 32 (raw2 109 32 u v % 4294967296) v % 4294967296) (raw2 111 32 u v % 4294967296) (by decide) (by decide) hp.2 hr.2
      rw [trap_no (by decide), if_pos rfl] at e3
      have key := rest_sum 4294967296 (sgn 32 u) (sgn 32 v) u v d32 (by rw [sgn32_mod]; omega) (sgn32_mod v)
      exact ⟨_, _, _, _, e0, e1, .inr (.inr ⟨rfl, rfl, by omega, by omega, _, by omega, e2, e3.trans (congrArg (fun z => (z, (0 : Int))) key)⟩)⟩

/-- without a sign, of 32 bits -/
theorem rest32u (u v : Int) (hu : 0 ≤ u ∧ u < 4294967296) (hv : 0 ≤ v ∧ v < 4294967296) : Rest 110 112 108 106 u v := by
  have e0 := ev32 (op := 110) u v (by decide) (by decide) hu.2 hv.2
  have e1 := ev32 (op := 112) u v (by decide) (by decide) hu.2 hv.2
  rw [trap_0 (by decide) (by decide)] at e0 e1
  by_cases hz : v = 0
  · rw [if_pos hz, if_neg (by decide)] at e0 e1
    exact ⟨_, _, _, _, e0, e1, .inl ⟨by decide, hz, rfl⟩⟩
  · rw [if_neg hz, if_pos rfl] at e0 e1
    have hq := m32 (raw2 110 32 u v)
    have hr := m32 (raw2 112 32 u v)
    have hp := m32 (raw2 108 32 (raw2 110 32 u v % 4294967296) v)
    have e2 := ev32 (op := 108) (raw2 110 32 u v % 4294967296) v (by decide) (by decide) hq.2 hv.2
    rw [trap_no (by decide), if_pos rfl] at e2
    have e3 := ev32 (op := 106) (raw2 108 32 (raw2 110 32 u v % 4294967296) v % 4294967296) (raw2 112 32 u v % 4294967296) (by decide) (by decide) hp.2 hr.2
    rw [trap_no (by decide), if_pos rfl] at e3
    have key := rest_sum 4294967296 u v u v d32 (by omega) rfl
    have k1 : u / v % 4294967296 = u.tdiv v % 18446744073709551616 % 4294967296 := by rw [Int.emod_emod_of_dvd _ d32, Int.tdiv_eq_ediv_of_nonneg hu.1]
    have k2 : u % v % 4294967296 = u.tmod v % 18446744073709551616 % 4294967296 := by rw [Int.emod_emod_of_dvd _ d32, Int.tmod_eq_emod_of_nonneg hu.1]
    rw [← k1, ← k2] at key
    exact ⟨_, _, _, _, e0, e1, .inr (.inr ⟨rfl, rfl, by omega, by omega, _, by omega, e2, e3.trans (congrArg (fun z => (z, (0 : Int))) key)⟩)⟩

theorem m64 (x : Int) : 0 ≤ x % 18446744073709551616 ∧ x % 18446744073709551616 < 18446744073709551616 := by omega
theorem rest64s (u v : Int) (hu : 0 ≤ u ∧ u < 18446744073709551616) (hv : 0 ≤ v ∧ v < 18446744073709551616) : Rest 127 129 126 124 u v := by
  have e0 := ev64 (op := 127) (k := 109) u v (by decide) (by decide) rfl
  have e1 := ev64 (op := 129) (k := 111) u v (by decide) (by decide) rfl
  rw [trap_s 9223372036854775808 18446744073709551616 rfl rfl] at e0
  rw [trap_0 (by decide) (by decide)] at e1
  by_cases hz : v = 0
  · rw [if_pos hz, if_neg (by decide)] at e0
    rw [if_pos hz, if_neg (by decide)] at e1
    exact ⟨_, _, _, _, e0, e1, .inl ⟨by decide, hz, rfl⟩⟩
  · rw [if_neg hz] at e0
    rw [if_neg hz, if_pos rfl] at e1
    by_cases ho : u = 9223372036854775808 ∧ v = 18446744073709551616 - 1
    · rw [if_pos ho, if_neg (by decide)] at e0
      refine ⟨_, _, _, _, e0, e1, .inr (.inl ⟨rfl, hz, rfl, ?_⟩)⟩
      rw [ho.1, ho.2]; decide +kernel
    · rw [if_neg ho, if_pos rfl] at e0
      have hq := m64 (raw2 109 64 u v)
      have hr := m64 (raw2 111 64 u v)
      have hp := m64 (raw2 108 64 (raw2 109 64 u v % 18446744073709551616) v)
      have e2 := ev64 (op := 126) (k := 108) (raw2 109 64 u v % 18446744073709551616) v (by decide) (by decide) rfl
      rw [trap_no (by decide), if_pos rfl] at e2
      have e3 := ev64 (op := 124) (k := 106) (raw2 108 64 (raw2 109 64 u v % 18446744073709551616) v % 18446744073709551616) (raw2 111 64 u v % 18446744073709551616) (by decide) (by decide) rfl
      rw [trap_no (by decide), if_pos rfl] at e3
      have key := rest_sum 18446744073709551616 (sgn 64 u) (sgn 64 v) u v (Int.dvd_refl _) (by rw [sgn64_mod]; omega) (sgn64_mod v)
      exact ⟨_, _, _, _, e0, e1, .inr (.inr ⟨rfl, rfl, hq, hr, _, hp, e2, e3.trans (congrArg (fun z => (z, (0 : Int))) key)⟩)⟩
theorem rest64u (u v : Int) (hu : 0 ≤ u ∧ u < 18446744073709551616) (hv : 0 ≤ v ∧ v < 18446744073709551616) : Rest 128 130 126 124 u v := by
  have e0 := ev64 (op := 128) (k := 110) u v (by decide) (by decide) rfl
  have e1 := ev64 (op := 130) (k := 112) u v (by decide) (by decide) rfl
  rw [trap_0 (by decide) (by decide)] at e0 e1
  by_cases hz : v = 0
  · rw [if_pos hz, if_neg (by decide)] at e0 e1
    exact ⟨_, _, _, _, e0, e1, .inl ⟨by decide, hz, rfl⟩⟩
  · rw [if_neg hz, if_pos rfl] at e0 e1
    have hq := m64 (raw2 110 64 u v)
    have hr := m64 (raw2 112 64 u v)
    have hp := m64 (raw2 108 64 (raw2 110 64 u v % 18446744073709551616) v)
    have e2 := ev64 (op := 126) (k := 108) (raw2 110 64 u v % 18446744073709551616) v (by decide) (by decide) rfl
    rw [trap_no (by decide), if_pos rfl] at e2
    have e3 := ev64 (op := 124) (k := 106) (raw2 108 64 (raw2 110 64 u v % 18446744073709551616) v % 18446744073709551616) (raw2 112 64 u v % 18446744073709551616) (by decide) (by decide) rfl
    rw [trap_no (by decide), if_pos rfl] at e3
    have key := rest_sum 18446744073709551616 u v u v (Int.dvd_refl _) (by omega) rfl
    have k1 : u / v % 18446744073709551616 = u.tdiv v % 18446744073709551616 % 18446744073709551616 := by rw [Int.emod_emod_of_dvd _ (Int.dvd_refl _), Int.tdiv_eq_ediv_of_nonneg hu.1]
    have k2 : u % v % 18446744073709551616 = u.tmod v % 18446744073709551616 % 18446744073709551616 := by rw [Int.emod_emod_of_dvd _ (Int.dvd_refl _), Int.tmod_eq_emod_of_nonneg hu.1]
    rw [← k1, ← k2] at key
    exact ⟨_, _, _, _, e0, e1, .inr (.inr ⟨rfl, rfl, hq, hr, _, hp, e2, e3.trans (congrArg (fun z => (z, (0 : Int))) key)⟩)⟩

end Go.Proofs.YtmikhbpffmojhaaDoor.nm
