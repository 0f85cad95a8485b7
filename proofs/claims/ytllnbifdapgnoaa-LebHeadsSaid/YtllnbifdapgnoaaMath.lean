/- Plain mathematics of numbers in groups of seven bits: lists of bytes as integers, nothing of the program. -/
import Derived.WalkKit
namespace Go.Proofs.Ytllnbifdapgnoaa.lb

/-- shift up and down again, without a sign: the low bits -/
theorem low_u (n : Int) (b : Nat) (hb : b ≤ 64) : n * 2 ^ (64 - b) % 2 ^ 64 / 2 ^ (64 - b) = n % 2 ^ b := by
  have e : (2:Int)^64 = 2^(64-b) * 2^b := by rw [← Int.pow_add]; congr 1; omega
  have hp : (0:Int) < 2^(64-b) := Int.pow_pos (by decide)
  rw [e, Int.mul_comm n, Int.mul_emod_mul_of_pos _ _ hp, Int.mul_ediv_cancel_left _ (Int.ne_of_gt hp)]

theorem bmod_shift (n : Int) (h s : Nat) (hs : 0 < s) : Int.bmod (n * s) (2 * h * s) / s = Int.bmod n (2 * h) := by
  have hp : (0:Int) < s := by omega
  have key : n * s % ((2 * h * s : Nat) : Int) = (n % ((2 * h : Nat) : Int)) * s := by
    rw [Int.mul_comm n, Int.natCast_mul (2 * h) s, Int.mul_comm (((2 * h : Nat) : Int)), Int.mul_emod_mul_of_pos _ _ hp, Int.mul_comm]
  have h1 : (((2 * h * s : Nat) : Int) + 1) / 2 = h * s := by
    have : ((2 * h * s : Nat) : Int) = 2 * ((h:Int) * s) := by push_cast; rw [Int.mul_assoc]
    rw [this]; omega
  have h2 : (((2 * h : Nat) : Int) + 1) / 2 = h := by omega
  unfold Int.bmod
  simp only [key, h1, h2]
  by_cases hc : n % ((2 * h : Nat) : Int) < h
  · rw [if_pos (Int.mul_lt_mul_of_pos_right hc hp), if_pos hc, Int.mul_ediv_cancel _ (Int.ne_of_gt hp)]
  · rw [if_neg (by intro h'; exact hc (Int.lt_of_mul_lt_mul_right h' (Int.le_of_lt hp))), if_neg hc, Int.natCast_mul (2 * h) s, ← Int.sub_mul, Int.mul_ediv_cancel _ (Int.ne_of_gt hp)]

theorem low_s (n : Int) (b : Nat) (h1 : 1 ≤ b) (hb : b ≤ 64) : Int.bmod (n * 2 ^ (64 - b)) (2 ^ 64) / 2 ^ (64 - b) = Int.bmod n (2 ^ b) := by
  have e : (2:Nat)^64 = 2 * 2^(b-1) * 2^(64-b) := by
    rw [← Nat.pow_succ', ← Nat.pow_add]; congr 1; omega
  have e2 : (2:Nat)^b = 2 * 2^(b-1) := by rw [← Nat.pow_succ']; congr 1; omega
  have := bmod_shift n (2^(b-1)) (2^(64-b)) (Nat.pow_pos (by decide))
  rw [← e, ← e2] at this
  rw [← this]; push_cast; rfl

open Go.RowKit in
theorem wrap64_bmod (x : Int) : wrap64 x = Int.bmod x (2^64) := by
  have h' : ((2^64 : Nat) : Int) = 18446744073709551616 := by decide
  unfold wrap64 Int.bmod
  simp only [h']
  split <;> omega

/-- the bytes of a number without a sign -/
def encU (n : Int) : List Int := if n < 128 then [n] else (n % 128 + 128) :: encU (n / 128)
termination_by n.toNat
decreasing_by omega

theorem encU_lt {n : Int} (h : n < 128) : encU n = [n] := by rw [encU, if_pos h]
theorem encU_ge {n : Int} (h : 128 ≤ n) : encU n = (n % 128 + 128) :: encU (n / 128) := by rw [encU, if_neg (by omega)]

/-- the bytes of a number with a sign -/
def encS (n : Int) : List Int := if -64 ≤ n ∧ n < 64 then [n % 128] else (n % 128 + 128) :: encS (n / 128)
termination_by n.natAbs
decreasing_by omega

theorem encS_in {n : Int} (h : -64 ≤ n) (h' : n < 64) : encS n = [n % 128] := by rw [encS, if_pos ⟨h, h'⟩]
theorem encS_out {n : Int} (h : ¬ (-64 ≤ n ∧ n < 64)) : encS n = (n % 128 + 128) :: encS (n / 128) := by rw [encS, if_neg h]

/-- what groups are, one above the other -/
def valB : List Int → Int
  | [] => 0
  | c :: r => c % 128 + 128 * valB r

def Marked (p : List Int) : Prop := ∀ x ∈ p, 128 ≤ x ∧ x < 256

theorem Marked.nil : Marked [] := fun _ h => by cases h
theorem Marked.cons {c : Int} {p : List Int} (h : 128 ≤ c) (h' : c < 256) (hp : Marked p) : Marked (c :: p) := by
  intro x hx; rcases List.mem_cons.1 hx with rfl | hx
  · exact ⟨h, h'⟩
  · exact hp x hx

/-- what encU says: marked bytes, one without a mark, the value, how many. -/
theorem encU_form (k : Nat) : ∀ n : Int, 0 ≤ n → n < 128 ^ k * 128 → ∃ p c, encU n = p ++ [c] ∧ Marked p ∧ 0 ≤ c ∧ c < 128 ∧ valB (p ++ [c]) = n ∧ p.length ≤ k ∧ (p.length = k → c * 128 ^ k ≤ n) := by
  induction k with
  | zero =>
    intro n h0 h1
    have h1 : n < 128 := by simpa using h1
    refine ⟨[], n, by rw [encU_lt h1]; rfl, Marked.nil, h0, h1, ?_, Nat.le_refl _, fun _ => by simp⟩
    simp [valB]; omega
  | succ k ih =>
    intro n h0 h1
    by_cases h : n < 128
    · refine ⟨[], n, by rw [encU_lt h]; rfl, Marked.nil, h0, h, ?_, by simp, fun h => by simp at h⟩
      simp [valB]; omega
    · obtain ⟨p, c, he, hm, hc0, hc1, hv, hl, hk⟩ := ih (n / 128) (by omega) (by rw [Int.pow_succ] at h1; omega)
      refine ⟨(n % 128 + 128) :: p, c, by rw [encU_ge (by omega), he]; rfl, hm.cons (by omega) (by omega), hc0, hc1, ?_, by simp; omega, ?_⟩
      · simp only [List.cons_append, valB, hv]; omega
      · intro hp
        have := hk (by simpa using hp)
        rw [Int.pow_succ, ← Int.mul_assoc]
        generalize c * 128 ^ k = t at *
        omega

theorem encU_form64 (n : Int) (h0 : 0 ≤ n) (h1 : n < 18446744073709551616) : ∃ p c, encU n = p ++ [c] ∧ Marked p ∧ 0 ≤ c ∧ c < 128 ∧ valB (p ++ [c]) = n ∧ p.length ≤ 9 ∧ (p.length = 9 → c < 2) := by
  obtain ⟨p, c, he, hm, hc0, hc1, hv, hl, hk⟩ := encU_form 9 n h0 (by omega)
  exact ⟨p, c, he, hm, hc0, hc1, hv, hl, fun h => by have := hk h; omega⟩

theorem encU_len {n : Int} (h0 : 0 ≤ n) (h1 : n < 18446744073709551616) : (encU n).length ≤ 10 := by
  obtain ⟨p, c, he, _, _, _, _, hl, _⟩ := encU_form64 n h0 h1
  rw [he]; simp; omega
theorem encU_pos (n : Int) : 1 ≤ (encU n).length := by rw [encU]; split <;> simp

theorem encU_form32 (n : Int) (h0 : 0 ≤ n) (h1 : n < 4294967296) : ∃ p c, encU n = p ++ [c] ∧ Marked p ∧ 0 ≤ c ∧ c < 128 ∧ valB (p ++ [c]) = n ∧ p.length ≤ 4 ∧ (p.length = 4 → c < 16) := by
  obtain ⟨p, c, he, hm, hc0, hc1, hv, hl, hk⟩ := encU_form 4 n h0 (by omega)
  exact ⟨p, c, he, hm, hc0, hc1, hv, hl, fun h => by have := hk h; omega⟩

/-- the value with a sign: of bytes whose last is c -/
def valS (p : List Int) (c : Int) : Int := valB (p ++ [c]) - (if 64 ≤ c then 128 ^ (p.length + 1) else 0)

theorem valS_cons (a : Int) (p : List Int) (c : Int) : valS (a :: p) c = a % 128 + 128 * valS p c := by
  unfold valS
  simp only [List.cons_append, valB, List.length_cons]
  split
  · rw [Int.pow_succ 128 (p.length + 1)]; generalize (128:Int)^(p.length+1) = t; omega
  · omega

theorem encS_form (k : Nat) : ∀ n : Int, -(128 ^ k * 64) ≤ n → n < 128 ^ k * 64 → ∃ p c, encS n = p ++ [c] ∧ Marked p ∧ 0 ≤ c ∧ c < 128 ∧ valS p c = n ∧ p.length ≤ k ∧ (p.length = k → (if 64 ≤ c then c - 128 else c) * 128 ^ k ≤ n ∧ n < ((if 64 ≤ c then c - 128 else c) + 1) * 128 ^ k) := by
  induction k with
  | zero =>
    intro n h0 h1
    have h0 : -64 ≤ n := by simpa using h0
    have h1 : n < 64 := by simpa using h1
    refine ⟨[], n % 128, by rw [encS_in h0 h1]; rfl, Marked.nil, by omega, by omega, ?_, Nat.le_refl _, fun _ => ?_⟩
    · simp [valS, valB]; split <;> omega
    · simp only [Int.pow_zero, Int.mul_one]; split <;> omega
  | succ k ih =>
    intro n h0 h1
    by_cases h : -64 ≤ n ∧ n < 64
    · refine ⟨[], n % 128, by rw [encS_in h.1 h.2]; rfl, Marked.nil, by omega, by omega, ?_, by simp, fun h => by simp at h⟩
      simp [valS, valB]; split <;> omega
    · obtain ⟨p, c, he, hm, hc0, hc1, hv, hl, hk⟩ := ih (n / 128) (by rw [Int.pow_succ] at h0; generalize (128:Int)^k = t at *; omega) (by rw [Int.pow_succ] at h1; generalize (128:Int)^k = t at *; omega)
      refine ⟨(n % 128 + 128) :: p, c, by rw [encS_out h, he]; rfl, hm.cons (by omega) (by omega), hc0, hc1, ?_, by simp; omega, ?_⟩
      · rw [valS_cons, hv]; omega
      · intro hp
        have := hk (by simpa using hp)
        rw [Int.pow_succ, ← Int.mul_assoc, ← Int.mul_assoc]
        generalize (if 64 ≤ c then c - 128 else c) * 128 ^ k = t at *
        generalize ((if 64 ≤ c then c - 128 else c) + 1) * 128 ^ k = t' at *
        omega

theorem encS_form64 (n : Int) (h0 : -9223372036854775808 ≤ n) (h1 : n < 9223372036854775808) : ∃ p c, encS n = p ++ [c] ∧ Marked p ∧ 0 ≤ c ∧ c < 128 ∧ valS p c = n ∧ p.length ≤ 9 ∧ (p.length = 9 → c = 0 ∨ c = 127) := by
  obtain ⟨p, c, he, hm, hc0, hc1, hv, hl, hk⟩ := encS_form 9 n (by omega) (by omega)
  refine ⟨p, c, he, hm, hc0, hc1, hv, hl, fun h => ?_⟩
  have := hk h
  split at this <;> omega

theorem encS_len {n : Int} (h0 : -9223372036854775808 ≤ n) (h1 : n < 9223372036854775808) : (encS n).length ≤ 10 := by
  obtain ⟨p, c, he, _, _, _, _, hl, _⟩ := encS_form64 n h0 h1
  rw [he]; simp; omega
theorem encS_pos (n : Int) : 1 ≤ (encS n).length := by rw [encS]; split <;> simp

theorem encS_form32 (n : Int) (h0 : -2147483648 ≤ n) (h1 : n < 2147483648) : ∃ p c, encS n = p ++ [c] ∧ Marked p ∧ 0 ≤ c ∧ c < 128 ∧ valS p c = n ∧ p.length ≤ 4 ∧ (p.length = 4 → c < 8 ∨ 120 ≤ c) := by
  obtain ⟨p, c, he, hm, hc0, hc1, hv, hl, hk⟩ := encS_form 4 n (by omega) (by omega)
  refine ⟨p, c, he, hm, hc0, hc1, hv, hl, fun h => ?_⟩
  have := hk h
  split at this <;> omega

theorem valB_bd : ∀ p : List Int, 0 ≤ valB p ∧ valB p < 128 ^ p.length
  | [] => by simp [valB]
  | c :: r => by
    have := valB_bd r
    simp only [valB, List.length_cons, Int.pow_succ]
    generalize (128:Int)^r.length = t at *
    omega

theorem valB_snoc : ∀ (p : List Int) (c : Int), valB (p ++ [c]) = valB p + c % 128 * 128 ^ p.length
  | [], c => by simp [valB]
  | a :: r, c => by
    simp only [List.cons_append, valB, valB_snoc r c, List.length_cons, Int.pow_succ]
    rw [Int.mul_add, ← Int.mul_assoc (c % 128), Int.mul_comm 128 (c % 128 * 128 ^ r.length)]
    omega

set_option maxRecDepth 10000 in
/-- bytes without a mark -/
theorem or_128 (x : Int) (h0 : 0 ≤ x) (h : x < 256) : ((x.toNat ||| 128 : Nat) : Int) = x % 128 + 128 := by
  obtain ⟨n, rfl⟩ := Int.eq_ofNat_of_zero_le h0
  have hn : n < 256 := by omega
  have : ∀ n : Fin 256, n.val ||| 128 = n.val % 128 + 128 := by decide
  have := this ⟨n, hn⟩
  simp only at this
  rw [Int.toNat_natCast, this]; omega
theorem and_127 (x : Int) (h0 : 0 ≤ x) : ((x.toNat &&& 127 : Nat) : Int) = x % 128 := by
  obtain ⟨n, rfl⟩ := Int.eq_ofNat_of_zero_le h0
  have := Nat.and_two_pow_sub_one_eq_mod n 7
  rw [Int.toNat_natCast]
  have h2 : (2:Nat)^7 - 1 = 127 := rfl
  rw [h2] at this
  rw [this]; omega
set_option maxRecDepth 10000 in
theorem and_128 (x : Int) (h0 : 0 ≤ x) (h : x < 256) : ((x.toNat &&& 128 : Nat) : Int) = if x < 128 then 0 else 128 := by
  obtain ⟨n, rfl⟩ := Int.eq_ofNat_of_zero_le h0
  have hn : n < 256 := by omega
  have : ∀ n : Fin 256, n.val &&& 128 = if n.val < 128 then 0 else 128 := by decide
  have := this ⟨n, hn⟩
  simp only at this
  rw [Int.toNat_natCast, this]
  split <;> split <;> omega
/-- a group above what stands below it -/
theorem or_add (a b : Int) (k : Nat) (h0 : 0 ≤ a) (h : a < 2 ^ k) (hb : 0 ≤ b) : ((a.toNat ||| (b * 2 ^ k).toNat : Nat) : Int) = a + b * 2 ^ k := by
  obtain ⟨n, rfl⟩ := Int.eq_ofNat_of_zero_le h0
  obtain ⟨m, rfl⟩ := Int.eq_ofNat_of_zero_le hb
  have hn : n < 2 ^ k := by exact_mod_cast h
  have e : ((m : Int) * 2 ^ k).toNat = m * 2 ^ k := by
    have : ((m : Int) * 2 ^ k) = ((m * 2 ^ k : Nat) : Int) := by push_cast; rfl
    rw [this, Int.toNat_natCast]
  rw [e, Int.toNat_natCast]
  have := Nat.two_pow_add_eq_or_of_lt hn m
  rw [Nat.or_comm, Nat.mul_comm m, ← this]; push_cast; rw [Int.mul_comm]; omega
theorem bmod7 (m : Int) : Int.bmod m 128 = m ↔ -64 ≤ m ∧ m < 64 := by
  unfold Int.bmod; simp only []
  have h : ((128 : Nat) : Int) = 128 := rfl
  rw [h]
  split <;> omega
end Go.Proofs.Ytllnbifdapgnoaa.lb
