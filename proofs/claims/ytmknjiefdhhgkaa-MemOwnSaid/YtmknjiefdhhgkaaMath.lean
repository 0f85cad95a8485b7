/- Plain mathematics of memories: numbers in bytes, the lowest first; signs; bytes that are written over; nothing of the program. -/
import Derived.WalkKit
import Derived.Laws.BitsAllLaws
namespace Go.Proofs.Ytmknjiefdhhgkaa.mm

/-- the number that bytes say, the lowest first -/
def leN : List Int → Int
  | [] => 0
  | b :: r => b + 256 * leN r
/-- the k low bytes of a number -/
def leB : Nat → Int → List Int
  | 0, _ => []
  | k + 1, n => n % 256 :: leB k (n / 256)

def Bs (l : List Int) : Prop := ∀ x ∈ l, 0 ≤ x ∧ x < 256

theorem leB_length : ∀ (k : Nat) (n : Int), (leB k n).length = k
  | 0, _ => rfl
  | k + 1, n => by rw [leB, List.length_cons, leB_length k]
theorem leB_bs : ∀ (k : Nat) (n : Int), Bs (leB k n)
  | 0, _ => by intro x hx; cases hx
  | k + 1, n => by
    intro x hx
    rcases List.mem_cons.1 hx with rfl | h
    · omega
    · exact leB_bs k _ x h
theorem div_256 (n p : Int) : n / 256 / p = n / (256 * p) := Int.ediv_ediv_of_nonneg (by decide)
theorem leN_leB : ∀ (k : Nat) (n : Int), leN (leB k n) = n % 256 ^ k
  | 0, n => by simp [leB, leN]
  | k + 1, n => by
    rw [leB, leN, leN_leB k, Int.pow_succ', Int.emod_def n (256 * 256 ^ k), Int.emod_def (n / 256), ← div_256, Int.mul_sub, Int.mul_assoc]; omega
theorem leN_bd : ∀ {l : List Int}, Bs l → 0 ≤ leN l ∧ leN l < 256 ^ l.length
  | [], _ => by simp [leN]
  | b :: r, h => by
    have hb := h b (List.mem_cons_self ..)
    have hr := leN_bd (l := r) (fun x hx => h x (List.mem_cons_of_mem _ hx))
    rw [leN, List.length_cons, Int.pow_succ']; omega
theorem leN_snoc : ∀ (l : List Int) (b : Int), leN (l ++ [b]) = leN l + 256 ^ l.length * b
  | [], b => by simp [leN]
  | c :: r, b => by
    rw [List.cons_append, leN, leN_snoc r b, leN, List.length_cons, Int.pow_succ', Int.mul_assoc]; omega
theorem Bs.drop {l : List Int} (h : Bs l) (k : Nat) : Bs (l.drop k) := fun x hx => h x (List.mem_of_mem_drop hx)
theorem Bs.take {l : List Int} (h : Bs l) (k : Nat) : Bs (l.take k) := fun x hx => h x (List.mem_of_mem_take hx)
theorem Bs.append {a b : List Int} (h : Bs a) (h' : Bs b) : Bs (a ++ b) := fun x hx => (List.mem_append.1 hx).elim (h x) (h' x)
theorem Bs.getD {l : List Int} (h : Bs l) (k : Nat) : 0 ≤ l.getD k 0 ∧ l.getD k 0 < 256 := by
  rw [List.getD_eq_getElem?_getD]
  cases e : l[k]? with
  | none => simp
  | some x => exact h x (List.mem_of_getElem? e)
theorem Bs.set {l : List Int} (h : Bs l) (k : Nat) (v : Int) (hv : 0 ≤ v ∧ v < 256) : Bs (l.set k v) := fun x hx => by
  rcases List.mem_or_eq_of_mem_set hx with h' | rfl
  · exact h x h'
  · exact hv
theorem Bs.zeros (k : Nat) : Bs (List.replicate k 0) := fun x hx => by have := (List.mem_replicate.1 hx).2; omega
theorem Bs.flip {l : List Int} (h : Bs l) : Bs l := h

/-- the places of n bytes from the last one on: k of them -/
def down (n : Nat) : Nat → List Nat
  | 0 => []
  | k + 1 => down n k ++ [n - k - 1]
theorem down_length (n : Nat) : ∀ k, (down n k).length = k
  | 0 => rfl
  | k + 1 => by rw [down, List.length_append, down_length n k]; rfl
theorem mem_down (n : Nat) : ∀ (k i : Nat), k ≤ n → (i ∈ down n k ↔ n - k ≤ i ∧ i < n)
  | 0, i, _ => by simp [down]
  | k + 1, i, h => by
    rw [down, List.mem_append, mem_down n k i (by omega), List.mem_singleton]; omega

/-- a number read a byte behind the other one -/
def accN (l : List Int) (pre : List Nat) : Int := pre.foldl (fun n x => (n * 256 + l.getD x 0) % 18446744073709551616) 0
theorem accN_snoc (l : List Int) (pre : List Nat) (x : Nat) : accN l (pre ++ [x]) = (accN l pre * 256 + l.getD x 0) % 18446744073709551616 := by simp [accN]
theorem pow_le8 {k : Nat} (h : k ≤ 8) : (256 : Int) ^ k ≤ 18446744073709551616 := by
  have : k = 0 ∨ k = 1 ∨ k = 2 ∨ k = 3 ∨ k = 4 ∨ k = 5 ∨ k = 6 ∨ k = 7 ∨ k = 8 := by omega
  rcases this with rfl | rfl | rfl | rfl | rfl | rfl | rfl | rfl | rfl <;> decide
theorem accN_bd (l : List Int) (pre : List Nat) : 0 ≤ accN l pre ∧ accN l pre < 18446744073709551616 := by
  rcases List.eq_nil_or_concat pre with rfl | ⟨r, x, rfl⟩
  · simp [accN]
  · rw [List.concat_eq_append, accN_snoc]; omega
theorem accN_down {l : List Int} (hb : Bs l) (h8 : l.length ≤ 8) : ∀ k, k ≤ l.length → accN l (down l.length k) = leN (l.drop (l.length - k))
  | 0, _ => by rw [Nat.sub_zero, List.drop_length]; rfl
  | k + 1, h => by
    rw [down, accN_snoc, accN_down hb h8 k (by omega)]
    have e : l.drop (l.length - (k + 1)) = l.getD (l.length - k - 1) 0 :: l.drop (l.length - k) := by
      have hlt : l.length - k - 1 < l.length := by omega
      rw [show l.length - (k + 1) = l.length - k - 1 from by omega, List.drop_eq_getElem_cons hlt, List.getD_eq_getElem?_getD, List.getElem?_eq_getElem hlt, show l.length - k - 1 + 1 = l.length - k from by omega]; rfl
    have hd := leN_bd (hb.drop (l.length - (k + 1)))
    have hp : (256 : Int) ^ (l.drop (l.length - (k + 1))).length ≤ 18446744073709551616 := pow_le8 (by rw [List.length_drop]; omega)
    rw [e, leN] at hd
    rw [e, leN]
    rw [e] at hp
    omega
theorem accN_all {l : List Int} (hb : Bs l) (h8 : l.length ≤ 8) : accN l (down l.length l.length) = leN l := by
  rw [accN_down hb h8 _ (Nat.le_refl _), Nat.sub_self, List.drop_zero]

/-- bytes with some of a number's written over them, from a place on -/
def setN (n : Int) (o : Nat) (xs : List Int) (pre : List Nat) : List Int := pre.foldl (fun xs x => xs.set (o + x) (n / 256 ^ x % 256)) xs
theorem setN_snoc (n : Int) (o : Nat) (xs : List Int) (pre : List Nat) (x : Nat) : setN n o xs (pre ++ [x]) = (setN n o xs pre).set (o + x) (n / 256 ^ x % 256) := by simp [setN]
theorem setN_length (n : Int) (o : Nat) : ∀ (pre : List Nat) (xs : List Int), (setN n o xs pre).length = xs.length
  | [], _ => rfl
  | x :: r, xs => by rw [setN, List.foldl_cons]; exact (setN_length n o r _).trans (List.length_set ..)
theorem setN_at (n : Int) (o i : Nat) : ∀ (pre : List Nat) (xs : List Int), i < xs.length → (setN n o xs pre)[i]? = if o ≤ i ∧ i - o ∈ pre then some (n / 256 ^ (i - o) % 256) else xs[i]?
  | [], xs, _ => by simp [setN]
  | x :: r, xs, h => by
    have ih := setN_at n o i r (xs.set (o + x) (n / 256 ^ x % 256)) (by rw [List.length_set]; exact h)
    rw [setN, List.foldl_cons]
    refine ih.trans ?_
    by_cases h1 : o ≤ i ∧ i - o ∈ r
    · rw [if_pos h1, if_pos ⟨h1.1, List.mem_cons_of_mem _ h1.2⟩]
    · rw [if_neg h1, List.getElem?_set]
      by_cases h2 : o + x = i
      · subst h2
        rw [if_pos rfl, if_pos h, if_pos ⟨by omega, by rw [Nat.add_sub_cancel_left]; exact List.mem_cons_self ..⟩, Nat.add_sub_cancel_left]
      · rw [if_neg h2, if_neg]
        rintro ⟨h3, h4⟩
        rcases List.mem_cons.1 h4 with h5 | h5
        · omega
        · exact h1 ⟨h3, h5⟩

/-- bytes with the k low ones of a number at a place -/
def wrB (l : List Int) (p k : Nat) (n : Int) : List Int := l.take p ++ leB k n ++ l.drop (p + k)
theorem leB_at : ∀ (k : Nat) (n : Int) (i : Nat), i < k → (leB k n)[i]? = some (n / 256 ^ i % 256)
  | 0, _, _, h => by omega
  | k + 1, n, 0, _ => by simp [leB]
  | k + 1, n, i + 1, h => by
    rw [leB, List.getElem?_cons_succ, leB_at k _ i (by omega), Int.pow_succ', div_256]
theorem wrB_length {l : List Int} {p k : Nat} {n : Int} (h : p + k ≤ l.length) : (wrB l p k n).length = l.length := by
  simp [wrB, leB_length]; omega
theorem wrB_in {l : List Int} {p k : Nat} {n : Int} (h : p + k ≤ l.length) {i : Nat} (h1 : p ≤ i) (h2 : i < p + k) : (wrB l p k n)[i]? = some (n / 256 ^ (i - p) % 256) := by
  have hp : (l.take p).length = p := by rw [List.length_take]; omega
  rw [wrB, List.append_assoc, List.getElem?_append_right (by omega), hp, List.getElem?_append_left (by rw [leB_length]; omega), leB_at k n _ (by omega)]
theorem wrB_out {l : List Int} {p k : Nat} {n : Int} (h : p + k ≤ l.length) {i : Nat} (h1 : i < p ∨ p + k ≤ i) : (wrB l p k n)[i]? = l[i]? := by
  have hp : (l.take p).length = p := by rw [List.length_take]; omega
  rcases h1 with h1 | h1
  · rw [wrB, List.append_assoc, List.getElem?_append_left (by omega), List.getElem?_take, if_pos h1]
  · have e1 : (l.take p).length + (leB k n).length ≤ i := by rw [hp, leB_length]; exact h1
    rw [wrB, List.getElem?_append_right (by rw [List.length_append]; exact e1), List.getElem?_drop, List.length_append, hp, leB_length]
    congr 1; omega
theorem setN_wrB {n : Int} {l : List Int} {p k : Nat} {pre : List Nat} (h : p + k ≤ l.length) (hp : ∀ i, i ∈ pre ↔ i < k) : setN n p l pre = wrB l p k n := by
  apply List.ext_getElem?
  intro i
  by_cases hi : i < l.length
  · rw [setN_at n p i pre l hi]
    by_cases h1 : p ≤ i ∧ i - p ∈ pre
    · have := (hp _).1 h1.2
      rw [if_pos h1, wrB_in h h1.1 (by omega)]
    · rw [if_neg h1, wrB_out h]
      by_cases h2 : p ≤ i
      · right
        have : ¬ (i - p < k) := fun h3 => h1 ⟨h2, (hp _).2 h3⟩
        omega
      · left; omega
  · rw [List.getElem?_eq_none (by rw [setN_length]; omega), List.getElem?_eq_none (by rw [wrB_length h]; omega)]
theorem wrB_bs {l : List Int} (h : Bs l) (p k : Nat) (n : Int) : Bs (wrB l p k n) := (((h.take p).append (leB_bs k n)).append (h.drop (p + k)))
theorem wrB_read {l : List Int} {p k : Nat} {n : Int} (h : p + k ≤ l.length) : ((wrB l p k n).drop p).take k = leB k n := by
  have hp : (l.take p).length = p := by rw [List.length_take]; omega
  rw [wrB, List.append_assoc, List.drop_append_of_le_length (by omega), List.drop_eq_nil_of_le (by omega), List.nil_append, List.take_append_of_le_length (by rw [leB_length]; omega), List.take_of_length_le (by rw [leB_length]; omega)]

/-- the sign of a number of k bytes, carried up to 64 bits -/
def sgn (k : Nat) (n : Int) : Int := if n < 256 ^ k / 2 then n else n + (18446744073709551616 - 256 ^ k)
/-- what an access of k bytes reads, its bytes being l -/
def readV (kind : Int) (sg : Bool) (l : List Int) : Int :=
  let n := if sg then sgn l.length (leN l) else leN l
  if kind = 127 then n % 4294967296 else n

theorem or_low (k x b : Nat) (hx : x < 256 ^ k) : x ||| b * 256 ^ k = x + b * 256 ^ k := by
  have e : 256 ^ k = 2 ^ (8 * k) := by rw [Nat.pow_mul]
  rw [e] at hx ⊢
  rw [Nat.or_comm, Nat.mul_comm b, ← Nat.two_pow_add_eq_or_of_lt hx, Nat.add_comm]
end Go.Proofs.Ytmknjiefdhhgkaa.mm
