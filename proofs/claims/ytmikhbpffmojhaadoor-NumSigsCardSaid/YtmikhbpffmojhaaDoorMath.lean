/- Plain mathematics of numbers of 32 and 64 bits: counts of bits, turns, signs; nothing of the program. -/
import Derived.WalkKit
import Derived.Lib.BitFns
import Derived.Laws.MathBits
namespace Go.Proofs.YtmikhbpffmojhaaDoor.nm

/-- how many of the low k bits are 1 -/
def pop : Nat → Nat → Nat
  | 0, _ => 0
  | k + 1, x => x % 2 + pop k (x / 2)

theorem pop_snoc : ∀ (k x : Nat), pop (k + 1) x = pop k x + x / 2 ^ k % 2
  | 0, x => by simp [pop]
  | k + 1, x => by
    rw [pop, pop_snoc k (x / 2), pop, Nat.div_div_eq_div_mul, show 2 * 2 ^ k = 2 ^ (k + 1) from (Nat.pow_succ' ..).symm]; omega
theorem pop_add : ∀ (j k x : Nat), pop (j + k) x = pop j x + pop k (x / 2 ^ j)
  | 0, k, x => by simp [pop]
  | j + 1, k, x => by
    rw [show j + 1 + k = (j + k) + 1 from by omega, pop, pop_add j k (x / 2), pop, Nat.div_div_eq_div_mul, show 2 * 2 ^ j = 2 ^ (j + 1) from (Nat.pow_succ' ..).symm]; omega
theorem pop_mod : ∀ (k x : Nat), pop k (x % 2 ^ k) = pop k x
  | 0, x => rfl
  | k + 1, x => by
    have h1 : x % 2 ^ (k + 1) % 2 = x % 2 := Nat.mod_mod_of_dvd _ ⟨2 ^ k, by rw [Nat.pow_succ']⟩
    have h2 : x % 2 ^ (k + 1) / 2 = x / 2 % 2 ^ k := by rw [Nat.pow_succ', Nat.mod_mul_right_div_self]
    rw [pop, pop, h1, h2, pop_mod k]
theorem pop_le : ∀ (k x : Nat), pop k x ≤ k
  | 0, _ => Nat.le_refl _
  | k + 1, x => by have := pop_le k (x / 2); rw [pop]; omega

/-- n bytes that are each c -/
def ones : Nat → Nat → Nat
  | 0, _ => 0
  | n + 1, c => c + 256 * ones n c

theorem and_split (l c h M : Nat) (hl : l < 256) (hc : c < 256) : (l + 256 * h) &&& (c + 256 * M) = (l &&& c) + 256 * (h &&& M) := by
  have hlc : l &&& c < 2 ^ 8 := Nat.lt_of_le_of_lt Nat.and_le_left hl
  apply Nat.eq_of_testBit_eq
  intro i
  rw [Nat.add_comm l, Nat.add_comm c, Nat.add_comm (l &&& c), Nat.testBit_and, show (256 : Nat) = 2 ^ 8 from rfl, Nat.testBit_two_pow_mul_add _ hl, Nat.testBit_two_pow_mul_add _ hc, Nat.testBit_two_pow_mul_add _ hlc]
  split <;> simp

def b1 (l : Nat) : Nat := (l / 2 &&& 85) + (l &&& 85)
def b2 (l : Nat) : Nat := (l / 4 &&& 51) + (l &&& 51)
def s1 (n x : Nat) : Nat := (x / 2 &&& ones n 85) + (x &&& ones n 85)
def s2 (n x : Nat) : Nat := (x / 4 &&& ones n 51) + (x &&& ones n 51)
def s3 (n x : Nat) : Nat := (x / 16 + x) &&& ones n 15

theorem byte1 : ∀ l : Fin 256, ∀ r : Fin 2, (l.val / 2 + 128 * r.val) &&& 85 = l.val / 2 &&& 85 := by decide +kernel
theorem byte2 : ∀ l : Fin 256, ∀ r : Fin 4, (l.val / 4 + 64 * r.val) &&& 51 = l.val / 4 &&& 51 := by decide +kernel
theorem byte3 : ∀ l : Fin 256, b1 l.val < 256 ∧ b2 (b1 l.val) ≤ 68 ∧ b2 (b1 l.val) % 16 ≤ 4 ∧ (b2 (b1 l.val) / 16 + b2 (b1 l.val)) % 16 = pop 8 l.val := by decide +kernel

theorem s1_step (n x : Nat) : s1 (n + 1) x = b1 (x % 256) + 256 * s1 n (x / 256) := by
  have h1 : x / 2 = (x % 256 / 2 + 128 * (x / 256 % 2)) + 256 * (x / 256 / 2) := by omega
  have h2 : x = x % 256 + 256 * (x / 256) := by omega
  have e := byte1 ⟨x % 256, by omega⟩ ⟨x / 256 % 2, by omega⟩
  simp only at e
  have e1 : x / 2 &&& ones (n + 1) 85 = (x % 256 / 2 &&& 85) + 256 * (x / 256 / 2 &&& ones n 85) := by
    rw [h1, ones, and_split _ _ _ _ (by omega) (by decide), e]
  have e2 : x &&& ones (n + 1) 85 = (x % 256 &&& 85) + 256 * (x / 256 &&& ones n 85) := by
    conv => lhs; rw [h2]
    rw [ones, and_split _ _ _ _ (by omega) (by decide)]
  rw [s1, e1, e2, b1, s1]; omega
theorem s2_step (n x : Nat) : s2 (n + 1) x = b2 (x % 256) + 256 * s2 n (x / 256) := by
  have h1 : x / 4 = (x % 256 / 4 + 64 * (x / 256 % 4)) + 256 * (x / 256 / 4) := by omega
  have h2 : x = x % 256 + 256 * (x / 256) := by omega
  have e := byte2 ⟨x % 256, by omega⟩ ⟨x / 256 % 4, by omega⟩
  simp only at e
  have e1 : x / 4 &&& ones (n + 1) 51 = (x % 256 / 4 &&& 51) + 256 * (x / 256 / 4 &&& ones n 51) := by
    rw [h1, ones, and_split _ _ _ _ (by omega) (by decide), e]
  have e2 : x &&& ones (n + 1) 51 = (x % 256 &&& 51) + 256 * (x / 256 &&& ones n 51) := by
    conv => lhs; rw [h2]
    rw [ones, and_split _ _ _ _ (by omega) (by decide)]
  rw [s2, e1, e2, b2, s2]; omega
theorem s21_step (n x : Nat) : s2 (n + 1) (s1 (n + 1) x) = b2 (b1 (x % 256)) + 256 * s2 n (s1 n (x / 256)) := by
  have := (byte3 ⟨x % 256, by omega⟩).1
  simp only at this
  rw [s2_step, s1_step, show (b1 (x % 256) + 256 * s1 n (x / 256)) % 256 = b1 (x % 256) from by omega, show (b1 (x % 256) + 256 * s1 n (x / 256)) / 256 = s1 n (x / 256) from by omega]
theorem s21_low (n x : Nat) : s2 n (s1 n x) % 16 ≤ 4 := by
  cases n with
  | zero => simp [s2, s1, ones]
  | succ n =>
    rw [s21_step]
    have := (byte3 ⟨x % 256, by omega⟩).2.2.1
    simp only at this
    omega
theorem and15 (x : Nat) : x &&& 15 = x % 16 := Nat.and_two_pow_sub_one_eq_mod x 4
theorem swar_step (n x : Nat) : s3 (n + 1) (s2 (n + 1) (s1 (n + 1) x)) = pop 8 (x % 256) + 256 * s3 n (s2 n (s1 n (x / 256))) := by
  have hl := s21_low n (x / 256)
  have hb := byte3 ⟨x % 256, by omega⟩
  simp only at hb
  obtain ⟨_, hb1, _, hb2⟩ := hb
  rw [s21_step]
  generalize hh : s2 n (s1 n (x / 256)) = h at hl ⊢
  generalize b2 (b1 (x % 256)) = l at hb1 hb2 ⊢
  have e : (l + 256 * h) / 16 + (l + 256 * h) = (l / 16 + l + 16 * (h % 16)) + 256 * (h / 16 + h) := by omega
  rw [s3, e, ones, and_split _ _ _ _ (by omega) (by decide), and15, ← hb2, s3]
  omega

/-- what the three masked steps leave: each byte's count of 1 bits in that byte -/
theorem swar (x : Nat) : ∃ c0 c1 c2 c3 c4 c5 c6 c7 : Nat, c0 ≤ 8 ∧ c1 ≤ 8 ∧ c2 ≤ 8 ∧ c3 ≤ 8 ∧ c4 ≤ 8 ∧ c5 ≤ 8 ∧ c6 ≤ 8 ∧ c7 ≤ 8 ∧
    pop 64 x = c0 + c1 + c2 + c3 + c4 + c5 + c6 + c7 ∧
    s3 8 (s2 8 (s1 8 x)) = c0 + 256 * (c1 + 256 * (c2 + 256 * (c3 + 256 * (c4 + 256 * (c5 + 256 * (c6 + 256 * c7)))))) := by
  have hp : ∀ k y, pop (8 + k) y = pop 8 (y % 256) + pop k (y / 256) := fun k y => by
    rw [pop_add, show (256 : Nat) = 2 ^ 8 from rfl, pop_mod]
  have z : ∀ y, s3 0 (s2 0 (s1 0 y)) = 0 := fun y => by simp [s3, ones]
  refine ⟨_, _, _, _, _, _, _, _, pop_le 8 (x % 256), pop_le 8 (x / 256 % 256), pop_le 8 (x / 256 / 256 % 256), pop_le 8 (x / 256 / 256 / 256 % 256), pop_le 8 (x / 256 / 256 / 256 / 256 % 256),
    pop_le 8 (x / 256 / 256 / 256 / 256 / 256 % 256), pop_le 8 (x / 256 / 256 / 256 / 256 / 256 / 256 % 256), pop_le 8 (x / 256 / 256 / 256 / 256 / 256 / 256 / 256 % 256), ?_, ?_⟩
  · rw [show (64 : Nat) = 8 + (8 + (8 + (8 + (8 + (8 + (8 + (8 + 0))))))) from rfl, hp, hp, hp, hp, hp, hp, hp, hp]
    simp only [pop]; omega
  · rw [swar_step, swar_step, swar_step, swar_step, swar_step, swar_step, swar_step, swar_step, z, Nat.mul_zero, Nat.add_zero]

/-- the place of the lowest 1 bit, k at most -/
def tz : Nat → Nat → Nat
  | 0, _ => 0
  | k + 1, x => if x % 2 = 1 then 0 else 1 + tz k (x / 2)

theorem tz_unique : ∀ (k i x : Nat), i < k → x % 2 ^ i = 0 → x / 2 ^ i % 2 = 1 → tz k x = i
  | 0, _, _, h, _, _ => absurd h (Nat.not_lt_zero _)
  | k + 1, 0, x, _, _, h => by rw [tz, if_pos (by simpa using h)]
  | k + 1, i + 1, x, h, h1, h2 => by
    have e : x % 2 ^ (i + 1) = x % 2 + 2 * (x / 2 % 2 ^ i) := by rw [Nat.pow_succ', Nat.mod_mul]
    rw [e] at h1
    rw [Nat.pow_succ', ← Nat.div_div_eq_div_mul] at h2
    rw [tz, if_neg (by omega), tz_unique k i (x / 2) (by omega) (by omega) h2]; omega
theorem tz_lt : ∀ (k i x : Nat), i ≤ k → x % 2 ^ i ≠ 0 → tz k x < i
  | _, 0, x, _, h => by simp [Nat.mod_one] at h
  | 0, i + 1, _, h, _ => by omega
  | k + 1, i + 1, x, h, h1 => by
    have e : x % 2 ^ (i + 1) = x % 2 + 2 * (x / 2 % 2 ^ i) := by rw [Nat.pow_succ', Nat.mod_mul]
    rw [e] at h1
    rw [tz]
    split
    · omega
    · have := tz_lt k i (x / 2) (by omega) (by omega); omega
theorem tz_form : ∀ (k x : Nat), x % 2 ^ k ≠ 0 → ∃ m, x = 2 ^ tz k x * (2 * m + 1)
  | 0, x, h => by simp [Nat.mod_one] at h
  | k + 1, x, h => by
    rw [tz]
    split
    · exact ⟨x / 2, by simp; omega⟩
    · have e : x % 2 ^ (k + 1) = x % 2 + 2 * (x / 2 % 2 ^ k) := by rw [Nat.pow_succ', Nat.mod_mul]
      obtain ⟨m, hm⟩ := tz_form k (x / 2) (by omega)
      exact ⟨m, by rw [Nat.add_comm 1, Nat.pow_succ', Nat.mul_assoc, ← hm]; omega⟩

theorem and_neg (x : Nat) (h0 : 0 < x) (h : x < 2 ^ 64) : x &&& (2 ^ 64 - x) = 2 ^ tz 64 x := by
  have hx : x % 2 ^ 64 ≠ 0 := by rw [Nat.mod_eq_of_lt h]; omega
  have hk := tz_lt 64 64 x (Nat.le_refl _) hx
  obtain ⟨m, hm⟩ := tz_form 64 x hx
  generalize tz 64 x = k at hm hk ⊢
  have hp : 0 < 2 ^ k := Nat.two_pow_pos k
  have e1 : x = 2 ^ k * (2 * m + 1) + 0 := by omega
  have e2 : x - 1 = 2 ^ k * (2 * m) + (2 ^ k - 1) := by rw [hm, Nat.mul_add]; omega
  apply Nat.eq_of_testBit_eq
  intro i
  rw [Nat.testBit_and, show 2 ^ 64 - x = 2 ^ 64 - ((x - 1) + 1) from by omega, Nat.testBit_two_pow_sub_succ (by omega), Nat.testBit_two_pow]
  conv => lhs; lhs; rw [e1]
  rw [e2, Nat.testBit_two_pow_mul_add _ hp, Nat.testBit_two_pow_mul_add _ (by omega)]
  by_cases hi : i < k
  · simp [hi]; omega
  · obtain ⟨j, rfl⟩ : ∃ j, i = k + j := ⟨i - k, by omega⟩
    rw [if_neg hi, if_neg hi, show k + j - k = j from by omega]
    cases j with
    | zero => simp [hk]
    | succ j => simp [Nat.testBit_succ, show (2 * m + 1) / 2 = m from by omega]; intro h1 _; exact h1

/-- the table of the library -/
def tabL : List Int := [0, 1, 56, 2, 57, 49, 28, 3, 61, 58, 42, 50, 38, 29, 17, 4, 62, 47, 59, 36, 45, 43, 51, 22, 53, 39, 33, 30, 24, 18, 12, 5, 63, 55, 48, 27, 60, 41, 37, 16, 46, 35, 44, 21, 52, 32, 23, 11, 54, 26, 40, 15, 34, 20, 31, 10, 25, 14, 19, 9, 13, 8, 7, 6]
theorem tab_at : ∀ k : Fin 64, tabL.getD (2 ^ k.val * 285870213051353865 % 2 ^ 64 / 2 ^ 58) 0 = k.val := by decide +kernel

/-- how many bits a number has -/
theorem bl_unique (y i : Nat) (h1 : 2 ^ i ≤ y) (h2 : y < 2 ^ (i + 1)) (h3 : i < 64) : Lib.bitLen y = i + 1 := by
  have key : ∀ (f i y : Nat), i < f → 2 ^ i ≤ y → y < 2 ^ (i + 1) → Lib.bitLenAux f y = i + 1 := by
    intro f
    induction f with
    | zero => intro i y h; omega
    | succ f ih =>
      intro i y h h1 h2
      have hp : 0 < 2 ^ i := Nat.two_pow_pos i
      rw [Lib.bitLenAux, if_neg (by omega)]
      cases i with
      | zero =>
        have : y = 1 := by simp at h1 h2; omega
        subst this
        cases f <;> simp [Lib.bitLenAux]
      | succ i =>
        rw [Nat.pow_succ'] at h1 h2
        rw [ih i (y / 2) (by omega) (by omega) (by omega)]; omega
  exact key 64 i y h3 h1 h2
theorem bl_zero : Lib.bitLen 0 = 0 := by decide

/-- a loop over the low bits, from the lowest on: the highest place seen, the lowest, how many -/
def frst (w x : Nat) : Nat → Nat
  | 0 => w
  | i + 1 => if x / 2 ^ i % 2 = 1 then w - 1 - i else frst w x i
def last (w x : Nat) : Nat → Nat
  | 0 => w
  | i + 1 => if x / 2 ^ i % 2 = 1 then (if last w x i = w then i else last w x i) else last w x i

theorem mod_succ (x i : Nat) : x % 2 ^ (i + 1) = x % 2 ^ i + 2 ^ i * (x / 2 ^ i % 2) := by rw [Nat.pow_succ, Nat.mod_mul]

theorem frst_eq (w x : Nat) (hw : w ≤ 64) : ∀ i, i ≤ w → frst w x i = w - Lib.bitLen (x % 2 ^ i)
  | 0, _ => by simp [frst, Nat.mod_one, bl_zero]
  | i + 1, h => by
    have hm := Nat.mod_lt x (Nat.two_pow_pos i)
    have ih := frst_eq w x hw i (by omega)
    rw [frst, mod_succ]
    rcases Nat.mod_two_eq_zero_or_one (x / 2 ^ i) with e | e
    · rw [e, if_neg (by decide), Nat.mul_zero, Nat.add_zero]; exact ih
    · rw [e, if_pos rfl, Nat.mul_one, bl_unique _ i (by omega) (by rw [Nat.pow_succ']; omega) (by omega)]; omega
theorem last_eq (w x : Nat) (hw : w ≤ 64) : ∀ i, i ≤ w → last w x i = if x % 2 ^ i = 0 then w else tz 64 x
  | 0, _ => by simp [last, Nat.mod_one]
  | i + 1, h => by
    have hp := Nat.two_pow_pos i
    have ih := last_eq w x hw i (by omega)
    rw [last, mod_succ, ih]
    rcases Nat.mod_two_eq_zero_or_one (x / 2 ^ i) with e | e
    · rw [e, if_neg (by decide), Nat.mul_zero, Nat.add_zero]
    · rw [e, if_pos rfl, Nat.mul_one, if_neg (show ¬ x % 2 ^ i + 2 ^ i = 0 by omega)]
      by_cases hz : x % 2 ^ i = 0
      · rw [if_pos hz, if_pos rfl, tz_unique 64 i x (by omega) hz e]
      · have := tz_lt 64 i x (by omega) hz
        rw [if_neg hz, if_neg (by omega)]

/-- a number of w bits turned left by k -/
def rot (w a k : Nat) : Nat := a * 2 ^ k % 2 ^ w + a / 2 ^ (w - k)

theorem rot_zero (w a : Nat) (h : a < 2 ^ w) : rot w a 0 = a := by
  simp [rot, Nat.mod_eq_of_lt h, Nat.div_eq_of_lt h]
theorem rot_all (w a : Nat) : rot w a w = a := by
  simp [rot]
/-- the parts of a number that is turned -/
theorem rot_parts (k m h l : Nat) (hl : l < 2 ^ m) : rot (k + m) (h * 2 ^ m + l) k = l * 2 ^ k + h := by
  have e1 : (h * 2 ^ m + l) / 2 ^ m = h := by
    rw [Nat.mul_comm, Nat.mul_add_div (Nat.two_pow_pos m), Nat.div_eq_of_lt hl]; omega
  have e2 : (h * 2 ^ m + l) % 2 ^ m = l := by
    rw [Nat.mul_comm, Nat.mul_add_mod, Nat.mod_eq_of_lt hl]
  rw [rot, Nat.pow_add, Nat.mul_comm (2 ^ k), Nat.mul_mod_mul_right, e2, show k + m - k = m from by omega, e1]
theorem rot_lt (w a k : Nat) (h : a < 2 ^ w) (hk : k ≤ w) : rot w a k < 2 ^ w := by
  obtain ⟨m, rfl⟩ : ∃ m, w = k + m := ⟨w - k, by omega⟩
  have h1 : a / 2 ^ m < 2 ^ k := Nat.div_lt_of_lt_mul (by rw [← Nat.pow_add, Nat.add_comm m k]; exact h)
  have h2 := Nat.mod_lt a (Nat.two_pow_pos m)
  have e := rot_parts k m (a / 2 ^ m) (a % 2 ^ m) h2
  rw [Nat.div_add_mod' a (2 ^ m)] at e
  rw [e]
  have : (a % 2 ^ m + 1) * 2 ^ k ≤ 2 ^ m * 2 ^ k := Nat.mul_le_mul_right _ h2
  rw [Nat.add_mul] at this
  rw [Nat.pow_add, Nat.mul_comm (2 ^ k)]; omega
/-- turned once more -/
theorem rot_step (w a k : Nat) (h : a < 2 ^ w) (hk : k < w) : rot w a (k + 1) = rot w a k * 2 % 2 ^ w + rot w a k / 2 ^ (w - 1) := by
  obtain ⟨m, rfl⟩ : ∃ m, w = k + 1 + m := ⟨w - k - 1, by omega⟩
  have hm := Nat.two_pow_pos m
  have hkp := Nat.two_pow_pos k
  have ht : a / 2 ^ m < 2 ^ (k + 1) := Nat.div_lt_of_lt_mul (by rw [← Nat.pow_add, Nat.add_comm m]; exact h)
  have hl := Nat.mod_lt a hm
  have ea : a = a / 2 ^ m * 2 ^ m + a % 2 ^ m := (Nat.div_add_mod' a (2 ^ m)).symm
  generalize a / 2 ^ m = t at ht ea
  generalize a % 2 ^ m = l at hl ea
  subst ea
  rw [rot_parts (k + 1) m t l hl]
  rw [Nat.pow_succ] at ht
  have e1 : t * 2 ^ m + l = t / 2 * 2 ^ (m + 1) + (t % 2 * 2 ^ m + l) := by
    have : t = t / 2 * 2 + t % 2 := (Nat.div_add_mod' t 2).symm
    conv => lhs; rw [this]
    rw [Nat.add_mul, Nat.pow_succ, Nat.mul_assoc, Nat.mul_comm 2]; omega
  have e2 : t % 2 * 2 ^ m + l < 2 ^ (m + 1) := by
    rcases Nat.mod_two_eq_zero_or_one t with e | e <;> rw [e, Nat.pow_succ] <;> omega
  rw [e1, show k + 1 + m = k + (m + 1) from by omega, rot_parts k (m + 1) _ _ e2, show k + (m + 1) - 1 = m + k from by omega]
  have hlk : l * 2 ^ k + t / 2 < 2 ^ (m + k) := by
    have : (l + 1) * 2 ^ k ≤ 2 ^ m * 2 ^ k := Nat.mul_le_mul_right _ hl
    rw [Nat.add_mul] at this
    rw [Nat.pow_add]; omega
  have e3 : (t % 2 * 2 ^ m + l) * 2 ^ k + t / 2 = 2 ^ (m + k) * (t % 2) + (l * 2 ^ k + t / 2) := by
    rw [Nat.add_mul, Nat.pow_add, Nat.mul_assoc (t % 2), Nat.mul_comm (t % 2)]; omega
  have e4 : (2 ^ (m + k) * (t % 2) + (l * 2 ^ k + t / 2)) * 2 = 2 ^ (k + (m + 1)) * (t % 2) + (l * 2 ^ k + t / 2) * 2 := by
    rw [Nat.add_mul, show k + (m + 1) = m + k + 1 from by omega, Nat.pow_succ 2 (m + k), Nat.mul_assoc, Nat.mul_assoc, Nat.mul_comm (t % 2)]
  rw [e3, e4, Nat.mul_add_mod, Nat.mul_add_div (Nat.two_pow_pos _), Nat.div_eq_of_lt hlk, Nat.mod_eq_of_lt (by rw [show k + (m + 1) = m + k + 1 from by omega, Nat.pow_succ]; omega), Nat.pow_succ]
  have : l * (2 ^ k * 2) = l * 2 ^ k * 2 := (Nat.mul_assoc ..).symm
  omega
theorem rot_back (w a k : Nat) (h : a < 2 ^ w) (hk : k ≤ w) : rot w (rot w a k) (w - k) = a := by
  obtain ⟨m, rfl⟩ : ∃ m, w = k + m := ⟨w - k, by omega⟩
  have h1 : a / 2 ^ m < 2 ^ k := Nat.div_lt_of_lt_mul (by rw [← Nat.pow_add, Nat.add_comm m k]; exact h)
  have h2 := Nat.mod_lt a (Nat.two_pow_pos m)
  have ea : a = a / 2 ^ m * 2 ^ m + a % 2 ^ m := (Nat.div_add_mod' a (2 ^ m)).symm
  generalize a / 2 ^ m = t at h1 ea
  generalize a % 2 ^ m = l at h2 ea
  subst ea
  rw [rot_parts k m t l h2, show k + m - k = m from by omega, Nat.add_comm k m, rot_parts m k l t h1]
theorem rot_pop (w a : Nat) (h : a < 2 ^ w) : ∀ k, k ≤ w → pop w (rot w a k) = pop w a
  | 0, _ => by rw [rot_zero w a h]
  | k + 1, hk => by
    obtain ⟨v, rfl⟩ : ∃ v, w = v + 1 := ⟨w - 1, by omega⟩
    have ih := rot_pop (v + 1) a h k (by omega)
    have hr := rot_lt (v + 1) a k h (by omega)
    rw [rot_step (v + 1) a k h (by omega), ← ih]
    generalize rot (v + 1) a k = r at hr
    have hd : r / 2 ^ v < 2 := Nat.div_lt_of_lt_mul (by rw [← Nat.pow_succ]; exact hr)
    have e1 : r * 2 % 2 ^ (v + 1) = 2 * (r % 2 ^ v) := by rw [Nat.pow_succ, Nat.mul_mod_mul_right]; omega
    have hpm := pop_mod v r
    rw [e1, show v + 1 - 1 = v from rfl, pop_snoc v r, Nat.mod_eq_of_lt hd, pop]
    generalize r / 2 ^ v = d at hd
    generalize r % 2 ^ v = l at hpm
    rw [show (2 * l + d) / 2 = l from by omega, hpm]
    omega

end Go.Proofs.YtmikhbpffmojhaaDoor.nm
