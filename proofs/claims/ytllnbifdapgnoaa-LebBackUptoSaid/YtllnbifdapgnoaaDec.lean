/- What any bytes are read as, from a place on: plain mathematics. -/
import Derived.Test.YtllnbifdapgnoaaMath
namespace Go.Proofs.Ytllnbifdapgnoaa.lb

/-- how many marked bytes stand at a place -/
def mk (l : List Int) (a : Nat) : Nat := ((l.drop a).takeWhile (fun x => decide (128 ≤ x))).length

theorem takeWhile_spec (p : Int → Bool) : ∀ l : List Int, (l.takeWhile p).length ≤ l.length ∧ (∀ j, j < (l.takeWhile p).length → p (l.getD j 0) = true) ∧ ((l.takeWhile p).length < l.length → p (l.getD (l.takeWhile p).length 0) = false)
  | [] => by simp
  | c :: r => by
    obtain ⟨h1, h2, h3⟩ := takeWhile_spec p r
    rw [List.takeWhile_cons]
    cases hc : p c with
    | false => simp [hc]
    | true =>
      simp only [if_true, List.length_cons]
      refine ⟨by omega, fun j hj => ?_, fun hj => ?_⟩
      · cases j with
        | zero => simpa using hc
        | succ j => have := h2 j (by omega); simpa using this
      · have := h3 (by omega); simpa using this

theorem getD_drop (l : List Int) (a j : Nat) : (l.drop a).getD j 0 = l.getD (a + j) 0 := by simp [List.getD_eq_getElem?_getD]

theorem mk_spec (l : List Int) (a : Nat) (ha : a ≤ l.length) : a + mk l a ≤ l.length ∧ (∀ j, j < mk l a → 128 ≤ l.getD (a + j) 0) ∧ (a + mk l a < l.length → l.getD (a + mk l a) 0 < 128) := by
  obtain ⟨h1, h2, h3⟩ := takeWhile_spec (fun x => decide (128 ≤ x)) (l.drop a)
  rw [List.length_drop] at h1 h3
  unfold mk
  refine ⟨by omega, fun j hj => ?_, fun hj => ?_⟩
  · have := h2 j hj; rw [getD_drop] at this; simpa using this
  · have := h3 (by omega); rw [getD_drop] at this; simpa using this

/-- so many bytes from a place on, as groups -/
def vj (l : List Int) (a j : Nat) : Int := valB ((l.drop a).take j)

theorem vj_zero (l : List Int) (a : Nat) : vj l a 0 = 0 := rfl
theorem vj_succ (l : List Int) (a j : Nat) (h : a + j < l.length) : vj l a (j + 1) = vj l a j + l.getD (a + j) 0 % 128 * 2 ^ (7 * j) := by
  unfold vj
  have hl : j < (l.drop a).length := by rw [List.length_drop]; omega
  rw [List.take_succ_eq_append_getElem hl, valB_snoc, List.length_take, Nat.min_eq_left (by omega)]
  have : (l.drop a)[j] = l.getD (a + j) 0 := by
    rw [← getD_drop, List.getD_eq_getElem?_getD, List.getElem?_eq_getElem hl]; rfl
  rw [this, Int.pow_mul]; rfl
theorem vj_bd (l : List Int) (a j : Nat) : 0 ≤ vj l a j ∧ vj l a j < 2 ^ (7 * j) := by
  have h := valB_bd ((l.drop a).take j)
  refine ⟨h.1, Int.lt_of_lt_of_le h.2 ?_⟩
  rw [Int.pow_mul]
  have : ((l.drop a).take j).length ≤ j := List.length_take_le _ _
  have := Nat.pow_le_pow_right (n := 128) (by decide) this
  exact_mod_cast this
/-- what is read without a sign: number, place, fault; k groups at most, the last one below lim -/
def decU (l : List Int) (a k : Nat) (lim : Int) : Int × Int × Int × Int :=
  if k ≤ mk l a then (0, 0, 3, ((a + (k - 1) : Nat) : Int))
  else if a + mk l a = l.length then (0, 0, 4, (l.length : Int))
  else if mk l a + 1 = k ∧ lim ≤ l.getD (a + mk l a) 0 then (0, 0, 3, ((a + mk l a : Nat) : Int))
  else (vj l a (mk l a + 1), ((a + mk l a + 1 : Nat) : Int), 0, 0)

theorem decU_leb (l : List Int) (a k : Nat) (lim : Int) : k ≤ mk l a → decU l a k lim = (0, 0, 3, ((a + (k - 1) : Nat) : Int)) := fun h => by rw [decU, if_pos h]
theorem decU_end (l : List Int) (a k : Nat) (lim : Int) : mk l a < k → a + mk l a = l.length → decU l a k lim = (0, 0, 4, (l.length : Int)) := fun h h' => by rw [decU, if_neg (by omega), if_pos h']
theorem decU_room (l : List Int) (a k : Nat) (lim : Int) : mk l a + 1 = k → a + mk l a < l.length → lim ≤ l.getD (a + mk l a) 0 → decU l a k lim = (0, 0, 3, ((a + mk l a : Nat) : Int)) := fun h h' h'' => by
  rw [decU, if_neg (by omega), if_neg (by omega), if_pos ⟨h, h''⟩]
theorem decU_ok (l : List Int) (a k : Nat) (lim : Int) : mk l a < k → a + mk l a < l.length → (mk l a + 1 = k → l.getD (a + mk l a) 0 < lim) → decU l a k lim = (vj l a (mk l a + 1), ((a + mk l a + 1 : Nat) : Int), 0, 0) := fun h h' h'' => by
  rw [decU, if_neg (by omega), if_neg (by omega), if_neg (by intro ⟨h1, h2⟩; have := h'' h1; omega)]

/-- where a reading stands: i bytes on, hh bits and t of them -/
def St (l : List Int) (a j i : Nat) (hh t : Int) : Prop := i = a + j ∧ hh = 7 * (j : Int) ∧ t = vj l a j

theorem St.zero (l : List Int) (a : Nat) : St l a 0 a 0 0 := ⟨rfl, rfl, rfl⟩
theorem St.succ {l : List Int} {a j i : Nat} {hh t c : Int} (h : St l a j i hh t) (hi : i < l.length) (hc : c = l.getD i 0) : St l a (j + 1) (i + 1) (hh + 7) (t + c % 128 * 2 ^ hh.toNat) := by
  obtain ⟨rfl, rfl, rfl⟩ := h
  refine ⟨by omega, by omega, ?_⟩
  rw [vj_succ l a j hi, hc, show (7 * (j : Int)).toNat = 7 * j from by omega]
theorem St.bd {l : List Int} {a j i : Nat} {hh t : Int} (h : St l a j i hh t) : 0 ≤ t ∧ t < 2 ^ hh.toNat := by
  obtain ⟨rfl, rfl, rfl⟩ := h
  rw [show (7 * (j : Int)).toNat = 7 * j from by omega]
  exact vj_bd l a j

theorem pow_le {a b : Nat} (h : a ≤ b) : (2 : Int) ^ a ≤ 2 ^ b := by
  have := Nat.pow_le_pow_right (n := 2) (by decide) h
  exact_mod_cast this

/-- the bounds of a step -/
theorem St.step {l : List Int} {a j i : Nat} {hh t c : Int} (h : St l a j i hh t) (hi : i < l.length) (hc : c = l.getD i 0) (h0 : 0 ≤ hh) (h56 : hh ≤ 56) :
    0 ≤ t + c % 128 * 2 ^ hh.toNat ∧ t + c % 128 * 2 ^ hh.toNat < 2 ^ (hh + 7).toNat ∧ t + c % 128 * 2 ^ hh.toNat < 9223372036854775808 ∧ 0 ≤ c % 128 * 2 ^ hh.toNat ∧ c % 128 * 2 ^ hh.toNat < 9223372036854775808 := by
  have h1 := (h.succ hi hc).bd
  have h2 := h.bd
  have h3 : (2:Int) ^ (hh + 7).toNat ≤ 2 ^ 63 := pow_le (by omega)
  have h4 : 0 ≤ c % 128 * 2 ^ hh.toNat := Int.mul_nonneg (by omega) (Int.le_of_lt (Int.pow_pos (by decide)))
  have h5 : (2:Int)^63 = 9223372036854775808 := rfl
  rw [h5] at h3
  refine ⟨h1.1, h1.2, by omega, h4, by omega⟩

theorem decU_fin_end {l : List Int} {a j i k m : Nat} {hh t lim : Int} (h : St l a j i hh t) (hm : m = mk l a) (hi : i ≤ a + m) (hm1 : a + m ≤ l.length) (he : i = l.length) (hk : hh ≤ 7 * (k : Int) - 7) : decU l a k lim = (0, 0, 4, (i : Int)) := by
  obtain ⟨rfl, rfl, rfl⟩ := h
  subst hm
  rw [decU_end l a k lim (by omega) (by omega), he]
theorem decU_fin_ok {l : List Int} {a j i k m : Nat} {hh t lim c : Int} (h : St l a j i hh t) (hm : m = mk l a) (hi : i ≤ a + m) (hi' : i < l.length) (hc : c = l.getD i 0) (hc1 : c < 128) (hk : hh ≤ 7 * (k : Int) - 7) (hl : hh = 7 * (k : Int) - 7 → c < lim)
    (m2 : ∀ j, j < mk l a → 128 ≤ l.getD (a + j) 0) : decU l a k lim = (t + c % 128 * 2 ^ hh.toNat, (i : Int) + 1, 0, 0) := by
  have hs := (h.succ hi' hc).2.2
  obtain ⟨rfl, rfl, rfl⟩ := h
  subst hm
  have hj : j = mk l a := by
    by_cases hj : j < mk l a
    · have := m2 j hj; omega
    · omega
  rw [hs, decU_ok l a k lim (by omega) (by omega) (fun h => by rw [← hj, ← hc]; exact hl (by omega)), hj]
  rfl
theorem decU_fin_leb {l : List Int} {a j i k m : Nat} {hh t lim c : Int} (h : St l a j i hh t) (hm : m = mk l a) (hi : i ≤ a + m) (hi' : i < l.length) (hc : c = l.getD i 0) (hk : hh = 7 * (k : Int) - 7) (hl : lim ≤ c) : decU l a k lim = (0, 0, 3, (i : Int)) := by
  obtain ⟨rfl, rfl, rfl⟩ := h
  subst hm
  by_cases hj : j = mk l a
  · rw [decU_room l a k lim (by omega) (by omega) (by rw [← hj, ← hc]; exact hl), ← hj]
  · rw [decU_leb l a k lim (by omega), show a + (k - 1) = a + j from by omega]
theorem St.on {l : List Int} {a j i m : Nat} {hh t c : Int} (h : St l a j i hh t) (hm : m = mk l a) (hi : i ≤ a + m) (hi' : i < l.length) (hc : c = l.getD i 0) (hc1 : ¬ c < 128) (m3 : a + mk l a < l.length → l.getD (a + mk l a) 0 < 128) : i + 1 ≤ a + m := by
  obtain ⟨rfl, rfl, rfl⟩ := h
  subst hm
  by_cases hj : j = mk l a
  · rw [hj] at hc hi'; have := m3 hi'; omega
  · omega

/-- so many bytes from a place on, as groups of a number with a sign -/
def svj (l : List Int) (a n : Nat) : Int := vj l a n - (if 64 ≤ l.getD (a + n - 1) 0 % 128 then 2 ^ (7 * n) else 0)

def decS (l : List Int) (a k : Nat) (good : Int → Bool) : Int × Int × Int × Int :=
  if k ≤ mk l a then (0, 0, 3, ((a + (k - 1) : Nat) : Int))
  else if a + mk l a = l.length then (0, 0, 4, (l.length : Int))
  else if mk l a + 1 = k ∧ good (l.getD (a + mk l a) 0) = false then (0, 0, 3, ((a + mk l a : Nat) : Int))
  else (svj l a (mk l a + 1), ((a + mk l a + 1 : Nat) : Int), 0, 0)

theorem decS_leb (l : List Int) (a k : Nat) (good : Int → Bool) : k ≤ mk l a → decS l a k good = (0, 0, 3, ((a + (k - 1) : Nat) : Int)) := fun h => by rw [decS, if_pos h]
theorem decS_end (l : List Int) (a k : Nat) (good : Int → Bool) : mk l a < k → a + mk l a = l.length → decS l a k good = (0, 0, 4, (l.length : Int)) := fun h h' => by rw [decS, if_neg (by omega), if_pos h']
theorem decS_room (l : List Int) (a k : Nat) (good : Int → Bool) : mk l a + 1 = k → a + mk l a < l.length → good (l.getD (a + mk l a) 0) = false → decS l a k good = (0, 0, 3, ((a + mk l a : Nat) : Int)) := fun h h' h'' => by
  rw [decS, if_neg (by omega), if_neg (by omega), if_pos ⟨h, h''⟩]
theorem decS_ok (l : List Int) (a k : Nat) (good : Int → Bool) : mk l a < k → a + mk l a < l.length → (mk l a + 1 = k → good (l.getD (a + mk l a) 0) = true) → decS l a k good = (svj l a (mk l a + 1), ((a + mk l a + 1 : Nat) : Int), 0, 0) := fun h h' h'' => by
  rw [decS, if_neg (by omega), if_neg (by omega), if_neg (by intro ⟨h1, h2⟩; rw [h'' h1] at h2; cases h2)]

/-- the value with a sign, of what has been read and one group more -/
def sgn (t c hh : Int) : Int := t + c % 128 * 2 ^ hh.toNat - (if 64 ≤ c % 128 then 128 * 2 ^ hh.toNat else 0)

theorem St.sgn_eq {l : List Int} {a j i : Nat} {hh t c : Int} (h : St l a j i hh t) (hi : i < l.length) (hc : c = l.getD i 0) : svj l a (j + 1) = sgn t c hh := by
  have hs := (h.succ hi hc).2.2
  obtain ⟨rfl, rfl, rfl⟩ := h
  unfold svj sgn
  rw [hs, show a + (j + 1) - 1 = a + j from by omega, ← hc, show 7 * (j + 1) = 7 * j + 7 from by omega, Int.pow_add, show (7 * (j : Int)).toNat = 7 * j from by omega, Int.mul_comm (2 ^ (7 * j))]
  rfl

theorem decS_fin_end {l : List Int} {a j i k m : Nat} {hh t : Int} {good : Int → Bool} (h : St l a j i hh t) (hm : m = mk l a) (hi : i ≤ a + m) (hm1 : a + m ≤ l.length) (he : i = l.length) (hk : hh ≤ 7 * (k : Int) - 7) : decS l a k good = (0, 0, 4, (i : Int)) := by
  obtain ⟨rfl, rfl, rfl⟩ := h
  subst hm
  rw [decS_end l a k good (by omega) (by omega), he]
theorem decS_fin_ok {l : List Int} {a j i k m : Nat} {hh t c : Int} {good : Int → Bool} (h : St l a j i hh t) (hm : m = mk l a) (hi : i ≤ a + m) (hi' : i < l.length) (hc : c = l.getD i 0) (hc1 : c < 128) (hk : hh ≤ 7 * (k : Int) - 7) (hl : hh = 7 * (k : Int) - 7 → good c = true)
    (m2 : ∀ j, j < mk l a → 128 ≤ l.getD (a + j) 0) : decS l a k good = (sgn t c hh, (i : Int) + 1, 0, 0) := by
  rw [← h.sgn_eq hi' hc]
  obtain ⟨rfl, rfl, rfl⟩ := h
  subst hm
  have hj : j = mk l a := by
    by_cases hj : j < mk l a
    · have := m2 j hj; omega
    · omega
  rw [decS_ok l a k good (by omega) (by omega) (fun h => by rw [← hj, ← hc]; exact hl (by omega)), hj]
  rfl
theorem decS_fin_leb {l : List Int} {a j i k m : Nat} {hh t c : Int} {good : Int → Bool} (h : St l a j i hh t) (hm : m = mk l a) (hi : i ≤ a + m) (hi' : i < l.length) (hc : c = l.getD i 0) (hk : hh = 7 * (k : Int) - 7) (hl : good c = false) : decS l a k good = (0, 0, 3, (i : Int)) := by
  obtain ⟨rfl, rfl, rfl⟩ := h
  subst hm
  by_cases hj : j = mk l a
  · rw [decS_room l a k good (by omega) (by omega) (by rw [← hj, ← hc]; exact hl), ← hj]
  · rw [decS_leb l a k good (by omega), show a + (k - 1) = a + j from by omega]

/-- the low bits of what has been read, with their sign -/
theorem bmod_sgn (t c : Int) (n : Nat) (h0 : 0 ≤ t) (h1 : t < 2 ^ n) : Int.bmod (t + c % 128 * 2 ^ n) (2 ^ (n + 7)) = t + c % 128 * 2 ^ n - (if 64 ≤ c % 128 then 128 * 2 ^ n else 0) := by
  have e : ((2 ^ (n + 7) : Nat) : Int) = 128 * 2 ^ n := by rw [Nat.pow_add]; push_cast; rw [Int.mul_comm]
  have hp : (0 : Int) < 2 ^ n := Int.pow_pos (by decide)
  generalize (2 : Int) ^ n = p at *
  obtain ⟨g, hg⟩ : ∃ g, g = c % 128 := ⟨_, rfl⟩
  have g0 : 0 ≤ g := by omega
  have g1 : g ≤ 127 := by omega
  rw [← hg]
  have u0 : 0 ≤ g * p := Int.mul_nonneg g0 (Int.le_of_lt hp)
  have u1 : g * p ≤ 127 * p := Int.mul_le_mul_of_nonneg_right g1 (Int.le_of_lt hp)
  have hmod : (t + g * p) % (128 * p) = t + g * p := Int.emod_eq_of_lt (by omega) (by omega)
  unfold Int.bmod
  simp only [e, hmod]
  by_cases hc : 64 ≤ g
  · have := Int.mul_le_mul_of_nonneg_right hc (Int.le_of_lt hp)
    rw [if_pos hc, if_neg (by omega)]
  · have := Int.mul_le_mul_of_nonneg_right (show g ≤ 63 by omega) (Int.le_of_lt hp)
    rw [if_neg hc, if_pos (by omega)]; omega

theorem bmod_sgn' (t c hh : Int) (hh0 : 0 ≤ hh) (h0 : 0 ≤ t) (h1 : t < 2 ^ hh.toNat) : Int.bmod (t + c % 128 * 2 ^ hh.toNat) (2 ^ (hh + 7).toNat) = sgn t c hh := by
  rw [show (hh + 7).toNat = hh.toNat + 7 from by omega]
  exact bmod_sgn t c hh.toNat h0 h1

open Go.RowKit

def good32 (c : Int) : Bool := decide (c < 8) || (decide (120 ≤ c) && decide (c < 128))
def good64 (c : Int) : Bool := decide (c = 0) || decide (c = 127)
theorem good32_eq (c : Int) (h0 : 0 ≤ c) (h1 : c < 128) : good32 c = (Int.bmod c 128 == Int.bmod c (2 ^ (4 : Int).toNat)) := by
  have e : (2 ^ (4 : Int).toNat : Nat) = 16 := rfl
  rw [e, Bool.eq_iff_iff, beq_iff_eq]
  unfold good32 Int.bmod
  simp only [Bool.or_eq_true, Bool.and_eq_true, decide_eq_true_eq]
  omega
theorem good64_eq (c : Int) (h0 : 0 ≤ c) (h1 : c < 128) : good64 c = (Int.bmod c 128 == Int.bmod c (2 ^ (1 : Int).toNat)) := by
  have e : (2 ^ (1 : Int).toNat : Nat) = 2 := rfl
  rw [e, Bool.eq_iff_iff, beq_iff_eq]
  unfold good64 Int.bmod
  simp only [Bool.or_eq_true, decide_eq_true_eq]
  omega

theorem bits_or_i64 (a b : Int) (ha0 : 0 ≤ a) (ha : a < 9223372036854775808) (hb0 : 0 ≤ b) (hb : b < 9223372036854775808) : bits .or .i64 a b = ((a.toNat ||| b.toNat : Nat) : Int) := by
  obtain ⟨a, rfl⟩ := Int.eq_ofNat_of_zero_le ha0
  obtain ⟨b, rfl⟩ := Int.eq_ofNat_of_zero_le hb0
  have hx : a ||| b < 2 ^ 63 := Nat.or_lt_two_pow (by omega) (by omega)
  have h1 : (BitVec.ofInt 64 (a : Int)).toNat = a := by
    rw [BitVec.ofInt_natCast, BitVec.toNat_ofNat]; exact Nat.mod_eq_of_lt (by omega)
  have h2 : (BitVec.ofInt 64 (b : Int)).toNat = b := by
    rw [BitVec.ofInt_natCast, BitVec.toNat_ofNat]; exact Nat.mod_eq_of_lt (by omega)
  show IntKind.i64.wrap ((BitVec.ofInt 64 (a : Int) ||| BitVec.ofInt 64 (b : Int)).toNat : Int) = _
  rw [BitVec.toNat_or, h1, h2, IntKind.wrap_i64, Int.toNat_natCast, Int.toNat_natCast]
  omega

theorem bits_or_i64_top (a : Int) (ha0 : 0 ≤ a) (ha : a < 9223372036854775808) : bits .or .i64 a (-9223372036854775808) = a - 9223372036854775808 := by
  obtain ⟨a, rfl⟩ := Int.eq_ofNat_of_zero_le ha0
  have h1 : (BitVec.ofInt 64 (a : Int)).toNat = a := by
    rw [BitVec.ofInt_natCast, BitVec.toNat_ofNat]; exact Nat.mod_eq_of_lt (by omega)
  have h2 : (BitVec.ofInt 64 (-9223372036854775808)).toNat = 2 ^ 63 * 1 := by decide
  show IntKind.i64.wrap ((BitVec.ofInt 64 (a : Int) ||| BitVec.ofInt 64 (-9223372036854775808)).toNat : Int) = _
  rw [BitVec.toNat_or, h1, h2, Nat.or_comm, ← Nat.two_pow_add_eq_or_of_lt (by omega) 1, IntKind.wrap_i64]
  omega
end Go.Proofs.Ytllnbifdapgnoaa.lb
