/- Put together by program: LbMath LbLow WInts LbBytes WGh LbDec LbRead. -/
import Derived.WalkKit
import Derived.Test.YtgcmdnkmnghhaaaGreatDoorRows
import Derived.WalkSpells
import Derived.WalkLawsBesides
import Derived.Lib.Hide
import Derived.Laws.CopyOwn
import Derived.Laws.AppendOwnNone
import Derived.Deep.QuietTactic
import Derived.BigQuiet
/- Plain mathematics of numbers in groups of seven bits: lists of bytes as integers, nothing of the program. -/
namespace Go.Proofs.YtgcmdnkmnghhaaaGreatDoor.lb

/-- shift up and down again, without a sign: the low bits -/
theorem low_u (n : Int) (b : Nat) (hb : b ≤ 64) : n * 2 ^ (64 - b) % 2 ^ 64 / 2 ^ (64 - b) = n % 2 ^ b := by
  have e : (2:Int)^64 = 2^(64-b) * 2^b := by rw [← Int.pow_add]; congr 1; omega
  have hp : (0:Int) < 2^(64-b) := Int.pow_pos (by decide)
  rw [e, Int.mul_comm n, Int.mul_emod_mul_of_pos _ _ hp, Int.mul_ediv_cancel_left _ (Int.ne_of_gt hp)]

theorem bmod_shift (n : Int) (h s : Nat) (hs : 0 < s) : Int.bmod (n * s) (2 * h * s) / s = Int.bmod n (2 * h) := by
  have hp : (0:Int) < s := by omega
  have key : n * s % ((2 * h * s : Nat) : Int) = (n % ((2 * h : Nat) : Int)) * s := by
    rw [Int.mul_comm n, Int.natCast_mul (2 * h) s, Int.mul_comm (((2 * h : Nat) : Int)), Int.mul_emod_mul_of_pos _ _ hp, Int.mul_comm]
  have h1 : (((2 * h * s : Nat) : Int) + 1) / 2 = h * s := by
    have : ((2 * h * s : Nat) : Int) = 2 * ((h:Int) * s) := by push_cast; rw [Int.mul_assoc]
    rw [this]; omega
  have h2 : (((2 * h : Nat) : Int) + 1) / 2 = h := by omega
  unfold Int.bmod
  simp only [key, h1, h2]
  by_cases hc : n % ((2 * h : Nat) : Int) < h
  · rw [if_pos (Int.mul_lt_mul_of_pos_right hc hp), if_pos hc, Int.mul_ediv_cancel _ (Int.ne_of_gt hp)]
  · rw [if_neg (by intro h'; exact hc (Int.lt_of_mul_lt_mul_right h' (Int.le_of_lt hp))), if_neg hc, Int.natCast_mul (2 * h) s, ← Int.sub_mul, Int.mul_ediv_cancel _ (Int.ne_of_gt hp)]

theorem low_s (n : Int) (b : Nat) (h1 : 1 ≤ b) (hb : b ≤ 64) : Int.bmod (n * 2 ^ (64 - b)) (2 ^ 64) / 2 ^ (64 - b) = Int.bmod n (2 ^ b) := by
  have e : (2:Nat)^64 = 2 * 2^(b-1) * 2^(64-b) := by
    rw [← Nat.pow_succ', ← Nat.pow_add]; congr 1; omega
  have e2 : (2:Nat)^b = 2 * 2^(b-1) := by rw [← Nat.pow_succ']; congr 1; omega
  have := bmod_shift n (2^(b-1)) (2^(64-b)) (Nat.pow_pos (by decide))
  rw [← e, ← e2] at this
  rw [← this]; push_cast; rfl

open Go.RowKit in
theorem wrap64_bmod (x : Int) : wrap64 x = Int.bmod x (2^64) := by
  have h' : ((2^64 : Nat) : Int) = 18446744073709551616 := by decide
  unfold wrap64 Int.bmod
  simp only [h']
  split <;> omega

/-- the bytes of a number without a sign -/
def encU (n : Int) : List Int := if n < 128 then [n] else (n % 128 + 128) :: encU (n / 128)
termination_by n.toNat
decreasing_by omega

theorem encU_lt {n : Int} (h : n < 128) : encU n = [n] := by rw [encU, if_pos h]
theorem encU_ge {n : Int} (h : 128 ≤ n) : encU n = (n % 128 + 128) :: encU (n / 128) := by rw [encU, if_neg (by omega)]

/-- the bytes of a number with a sign -/
def encS (n : Int) : List Int := if -64 ≤ n ∧ n < 64 then [n % 128] else (n % 128 + 128) :: encS (n / 128)
termination_by n.natAbs
decreasing_by omega

theorem encS_in {n : Int} (h : -64 ≤ n) (h' : n < 64) : encS n = [n % 128] := by rw [encS, if_pos ⟨h, h'⟩]
theorem encS_out {n : Int} (h : ¬ (-64 ≤ n ∧ n < 64)) : encS n = (n % 128 + 128) :: encS (n / 128) := by rw [encS, if_neg h]

/-- what groups are, one above the other -/
def valB : List Int → Int
  | [] => 0
  | c :: r => c % 128 + 128 * valB r

def Marked (p : List Int) : Prop := ∀ x ∈ p, 128 ≤ x ∧ x < 256

theorem Marked.nil : Marked [] := fun _ h => by cases h
theorem Marked.cons {c : Int} {p : List Int} (h : 128 ≤ c) (h' : c < 256) (hp : Marked p) : Marked (c :: p) := by
  intro x hx; rcases List.mem_cons.1 hx with rfl | hx
  · exact ⟨h, h'⟩
  · exact hp x hx

/-- what encU says: marked bytes, one without a mark, the value, how many. -/
theorem encU_form (k : Nat) : ∀ n : Int, 0 ≤ n → n < 128 ^ k * 128 → ∃ p c, encU n = p ++ [c] ∧ Marked p ∧ 0 ≤ c ∧ c < 128 ∧ valB (p ++ [c]) = n ∧ p.length ≤ k ∧ (p.length = k → c * 128 ^ k ≤ n) := by
  induction k with
  | zero =>
    intro n h0 h1
    have h1 : n < 128 := by simpa using h1
    refine ⟨[], n, by rw [encU_lt h1]; rfl, Marked.nil, h0, h1, ?_, Nat.le_refl _, fun _ => by simp⟩
    simp [valB]; omega
  | succ k ih =>
    intro n h0 h1
    by_cases h : n < 128
    · refine ⟨[], n, by rw [encU_lt h]; rfl, Marked.nil, h0, h, ?_, by simp, fun h => by simp at h⟩
      simp [valB]; omega
    · obtain ⟨p, c, he, hm, hc0, hc1, hv, hl, hk⟩ := ih (n / 128) (by omega) (by rw [Int.pow_succ] at h1; omega)
      refine ⟨(n % 128 + 128) :: p, c, by rw [encU_ge (by omega), he]; rfl, hm.cons (by omega) (by omega), hc0, hc1, ?_, by simp; omega, ?_⟩
      · simp only [List.cons_append, valB, hv]; omega
      · intro hp
        have := hk (by simpa using hp)
        rw [Int.pow_succ, ← Int.mul_assoc]
        generalize c * 128 ^ k = t at *
        omega

theorem encU_form64 (n : Int) (h0 : 0 ≤ n) (h1 : n < 18446744073709551616) : ∃ p c, encU n = p ++ [c] ∧ Marked p ∧ 0 ≤ c ∧ c < 128 ∧ valB (p ++ [c]) = n ∧ p.length ≤ 9 ∧ (p.length = 9 → c < 2) := by
  obtain ⟨p, c, he, hm, hc0, hc1, hv, hl, hk⟩ := encU_form 9 n h0 (by omega)
  exact ⟨p, c, he, hm, hc0, hc1, hv, hl, fun h => by have := hk h; omega⟩

theorem encU_len {n : Int} (h0 : 0 ≤ n) (h1 : n < 18446744073709551616) : (encU n).length ≤ 10 := by
  obtain ⟨p, c, he, _, _, _, _, hl, _⟩ := encU_form64 n h0 h1
  rw [he]; simp; omega
theorem encU_pos (n : Int) : 1 ≤ (encU n).length := by rw [encU]; split <;> simp

theorem encU_form32 (n : Int) (h0 : 0 ≤ n) (h1 : n < 4294967296) : ∃ p c, encU n = p ++ [c] ∧ Marked p ∧ 0 ≤ c ∧ c < 128 ∧ valB (p ++ [c]) = n ∧ p.length ≤ 4 ∧ (p.length = 4 → c < 16) := by
  obtain ⟨p, c, he, hm, hc0, hc1, hv, hl, hk⟩ := encU_form 4 n h0 (by omega)
  exact ⟨p, c, he, hm, hc0, hc1, hv, hl, fun h => by have := hk h; omega⟩

/-- the value with a sign: of bytes whose last is c -/
def valS (p : List Int) (c : Int) : Int := valB (p ++ [c]) - (if 64 ≤ c then 128 ^ (p.length + 1) else 0)

theorem valS_cons (a : Int) (p : List Int) (c : Int) : valS (a :: p) c = a % 128 + 128 * valS p c := by
  unfold valS
  simp only [List.cons_append, valB, List.length_cons]
  split
  · rw [Int.pow_succ 128 (p.length + 1)]; generalize (128:Int)^(p.length+1) = t; omega
  · omega

theorem encS_form (k : Nat) : ∀ n : Int, -(128 ^ k * 64) ≤ n → n < 128 ^ k * 64 → ∃ p c, encS n = p ++ [c] ∧ Marked p ∧ 0 ≤ c ∧ c < 128 ∧ valS p c = n ∧ p.length ≤ k ∧ (p.length = k → (if 64 ≤ c then c - 128 else c) * 128 ^ k ≤ n ∧ n < ((if 64 ≤ c then c - 128 else c) + 1) * 128 ^ k) := by
  induction k with
  | zero =>
    intro n h0 h1
    have h0 : -64 ≤ n := by simpa using h0
    have h1 : n < 64 := by simpa using h1
    refine ⟨[], n % 128, by rw [encS_in h0 h1]; rfl, Marked.nil, by omega, by omega, ?_, Nat.le_refl _, fun _ => ?_⟩
    · simp [valS, valB]; split <;> omega
    · simp only [Int.pow_zero, Int.mul_one]; split <;> omega
  | succ k ih =>
    intro n h0 h1
    by_cases h : -64 ≤ n ∧ n < 64
    · refine ⟨[], n % 128, by rw [encS_in h.1 h.2]; rfl, Marked.nil, by omega, by omega, ?_, by simp, fun h => by simp at h⟩
      simp [valS, valB]; split <;> omega
    · obtain ⟨p, c, he, hm, hc0, hc1, hv, hl, hk⟩ := ih (n / 128) (by rw [Int.pow_succ] at h0; generalize (128:Int)^k = t at *; omega) (by rw [Int.pow_succ] at h1; generalize (128:Int)^k = t at *; omega)
      refine ⟨(n % 128 + 128) :: p, c, by rw [encS_out h, he]; rfl, hm.cons (by omega) (by omega), hc0, hc1, ?_, by simp; omega, ?_⟩
      · rw [valS_cons, hv]; omega
      · intro hp
        have := hk (by simpa using hp)
        rw [Int.pow_succ, ← Int.mul_assoc, ← Int.mul_assoc]
        generalize (if 64 ≤ c then c - 128 else c) * 128 ^ k = t at *
        generalize ((if 64 ≤ c then c - 128 else c) + 1) * 128 ^ k = t' at *
        omega

theorem encS_form64 (n : Int) (h0 : -9223372036854775808 ≤ n) (h1 : n < 9223372036854775808) : ∃ p c, encS n = p ++ [c] ∧ Marked p ∧ 0 ≤ c ∧ c < 128 ∧ valS p c = n ∧ p.length ≤ 9 ∧ (p.length = 9 → c = 0 ∨ c = 127) := by
  obtain ⟨p, c, he, hm, hc0, hc1, hv, hl, hk⟩ := encS_form 9 n (by omega) (by omega)
  refine ⟨p, c, he, hm, hc0, hc1, hv, hl, fun h => ?_⟩
  have := hk h
  split at this <;> omega

theorem encS_len {n : Int} (h0 : -9223372036854775808 ≤ n) (h1 : n < 9223372036854775808) : (encS n).length ≤ 10 := by
  obtain ⟨p, c, he, _, _, _, _, hl, _⟩ := encS_form64 n h0 h1
  rw [he]; simp; omega
theorem encS_pos (n : Int) : 1 ≤ (encS n).length := by rw [encS]; split <;> simp

theorem encS_form32 (n : Int) (h0 : -2147483648 ≤ n) (h1 : n < 2147483648) : ∃ p c, encS n = p ++ [c] ∧ Marked p ∧ 0 ≤ c ∧ c < 128 ∧ valS p c = n ∧ p.length ≤ 4 ∧ (p.length = 4 → c < 8 ∨ 120 ≤ c) := by
  obtain ⟨p, c, he, hm, hc0, hc1, hv, hl, hk⟩ := encS_form 4 n (by omega) (by omega)
  refine ⟨p, c, he, hm, hc0, hc1, hv, hl, fun h => ?_⟩
  have := hk h
  split at this <;> omega

theorem valB_bd : ∀ p : List Int, 0 ≤ valB p ∧ valB p < 128 ^ p.length
  | [] => by simp [valB]
  | c :: r => by
    have := valB_bd r
    simp only [valB, List.length_cons, Int.pow_succ]
    generalize (128:Int)^r.length = t at *
    omega

theorem valB_snoc : ∀ (p : List Int) (c : Int), valB (p ++ [c]) = valB p + c % 128 * 128 ^ p.length
  | [], c => by simp [valB]
  | a :: r, c => by
    simp only [List.cons_append, valB, valB_snoc r c, List.length_cons, Int.pow_succ]
    rw [Int.mul_add, ← Int.mul_assoc (c % 128), Int.mul_comm 128 (c % 128 * 128 ^ r.length)]
    omega

set_option maxRecDepth 10000 in
/-- bytes without a mark -/
theorem or_128 (x : Int) (h0 : 0 ≤ x) (h : x < 256) : ((x.toNat ||| 128 : Nat) : Int) = x % 128 + 128 := by
  obtain ⟨n, rfl⟩ := Int.eq_ofNat_of_zero_le h0
  have hn : n < 256 := by omega
  have : ∀ n : Fin 256, n.val ||| 128 = n.val % 128 + 128 := by decide
  have := this ⟨n, hn⟩
  simp only at this
  rw [Int.toNat_natCast, this]; omega
theorem and_127 (x : Int) (h0 : 0 ≤ x) : ((x.toNat &&& 127 : Nat) : Int) = x % 128 := by
  obtain ⟨n, rfl⟩ := Int.eq_ofNat_of_zero_le h0
  have := Nat.and_two_pow_sub_one_eq_mod n 7
  rw [Int.toNat_natCast]
  have h2 : (2:Nat)^7 - 1 = 127 := rfl
  rw [h2] at this
  rw [this]; omega
set_option maxRecDepth 10000 in
theorem and_128 (x : Int) (h0 : 0 ≤ x) (h : x < 256) : ((x.toNat &&& 128 : Nat) : Int) = if x < 128 then 0 else 128 := by
  obtain ⟨n, rfl⟩ := Int.eq_ofNat_of_zero_le h0
  have hn : n < 256 := by omega
  have : ∀ n : Fin 256, n.val &&& 128 = if n.val < 128 then 0 else 128 := by decide
  have := this ⟨n, hn⟩
  simp only at this
  rw [Int.toNat_natCast, this]
  split <;> split <;> omega
/-- a group above what stands below it -/
theorem or_add (a b : Int) (k : Nat) (h0 : 0 ≤ a) (h : a < 2 ^ k) (hb : 0 ≤ b) : ((a.toNat ||| (b * 2 ^ k).toNat : Nat) : Int) = a + b * 2 ^ k := by
  obtain ⟨n, rfl⟩ := Int.eq_ofNat_of_zero_le h0
  obtain ⟨m, rfl⟩ := Int.eq_ofNat_of_zero_le hb
  have hn : n < 2 ^ k := by exact_mod_cast h
  have e : ((m : Int) * 2 ^ k).toNat = m * 2 ^ k := by
    have : ((m : Int) * 2 ^ k) = ((m * 2 ^ k : Nat) : Int) := by push_cast; rfl
    rw [this, Int.toNat_natCast]
  rw [e, Int.toNat_natCast]
  have := Nat.two_pow_add_eq_or_of_lt hn m
  rw [Nat.or_comm, Nat.mul_comm m, ← this]; push_cast; rw [Int.mul_comm]; omega
theorem bmod7 (m : Int) : Int.bmod m 128 = m ↔ -64 ≤ m ∧ m < 64 := by
  unfold Int.bmod; simp only []
  have h : ((128 : Nat) : Int) = 128 := rfl
  rw [h]
  split <;> omega
end Go.Proofs.YtgcmdnkmnghhaaaGreatDoor.lb

/- The callees' contracts of package leb: low, for numbers without and with a sign. -/
namespace Go.Proofs.YtgcmdnkmnghhaaaGreatDoor.lb
open Go.RowKit
theorem ret_int {k : IntKind} {a b : Int} (h : a = b) : Ending.returned (.int k a) = .returned (.int k b) := by rw [h]
theorem b8_and127 (x : Int) (h0 : 0 ≤ x) (h : x < 256) : bits .and .u8 x 127 = x % 128 := by
  rw [u8_and x 127 h0 h (by decide) (by decide)]; exact and_127 x h0
theorem b8_or128 (x : Int) (h0 : 0 ≤ x) (h : x < 256) : bits .or .u8 x 128 = x % 128 + 128 := by
  rw [u8_or x 128 h0 h (by decide) (by decide)]; exact or_128 x h0 h
theorem b8_and128 (x : Int) (h0 : 0 ≤ x) (h : x < 256) : bits .and .u8 x 128 = if x < 128 then 0 else 128 := by
  rw [u8_and x 128 h0 h (by decide) (by decide)]; exact and_128 x h0 h
theorem wrap_u64 (n : Int) : IntKind.u64.wrap n = n % 2 ^ 64 := rfl

set_option maxHeartbeats 400000 in
theorem lowU_any (n b : Int) (w : World) (hb : 0 ≤ b) (hb' : b ≤ 64) :
    Calls Tryz.prog 231 #[.int .u64 n, .int .i64 b] w fun e w' => e = .returned (.int .u64 (n % 2 ^ b.toNat)) ∧ w = w' := by
  go_enter Tryz.func231, Tryz.ntmps231
  go_wp2
  go_ret
  refine ⟨ret_int ?_, rfl⟩
  rw [show (64 - b).toNat = 64 - b.toNat from by omega, wrap_u64]
  exact low_u n b.toNat (by omega)
set_option maxHeartbeats 400000 in
theorem lowS_any (n b : Int) (w : World) (hb : 1 ≤ b) (hb' : b ≤ 64) :
    Calls Tryz.prog 243 #[.int .i64 n, .int .i64 b] w fun e w' => e = .returned (.int .i64 (Int.bmod n (2 ^ b.toNat))) ∧ w = w' := by
  go_enter Tryz.func243, Tryz.ntmps243
  go_wp2
  go_ret
  refine ⟨ret_int ?_, rfl⟩
  rw [show (64 - b).toNat = 64 - b.toNat from by omega, wrap64_bmod]
  exact low_s n b.toNat (by omega) (by omega)
end Go.Proofs.YtgcmdnkmnghhaaaGreatDoor.lb

/- Slices of bytes: what reads as bytes (Rd), what the call owns (Own), appends of one byte and of many, a make with a copy. -/
namespace Go.Proofs.YtgcmdnkmnghhaaaGreatDoor.wi
open Go.RowKit

theorem info5 : (Tryz.prog.info? 3).map (fun i => (i.zero, i.size, i.bytes)) = some (some (.int .i64 0), 1, 8) := by kernel_rfl
theorem size5 : (Tryz.prog.info? 3).map (·.size) = some 1 := by kernel_rfl

/-- v is a slice that reads as the bytes l -/
def Rd (w : World) (v : Value) (l : List Int) : Prop :=
  ∃ ao cap, v = .slice ao l.length cap ∧ l.length ≤ cap ∧ (ao = none → cap = 0) ∧ (l = [] ∨ ∃ b off, ao = some ⟨b, off, none⟩ ∧ ∀ k, k < l.length → w.cell? ⟨b, off + k, none⟩ = some (.int .i64 (l.getD k 0)))

/-- v is the call's own row, of a block from B on, whose first cells are the bytes xs -/
def Own (w : World) (B : Nat) (v : Value) (xs : List Int) : Prop := w.ownsRow B 3 1 v xs.length (xs.map (.int .i64))

theorem add_lit (b o j : Nat) : (⟨b, o, none⟩ : Addr).add j = ⟨b, o + j, none⟩ := by unfold Addr.add; split <;> simp_all

theorem map_get {l : List Int} {k : Nat} {u : Value} (h : (l.map (Value.int .i64))[k]? = some u) : k < l.length ∧ u = .int .i64 (l.getD k 0) := by
  rw [List.getElem?_map] at h
  obtain ⟨x, hx, rfl⟩ := Option.map_eq_some_iff.1 h
  obtain ⟨hk, rfl⟩ := List.getElem?_eq_some_iff.1 hx
  exact ⟨hk, by rw [List.getD_eq_getElem?_getD, List.getElem?_eq_getElem hk]; rfl⟩

theorem get_map {l : List Int} {k : Nat} (h : k < l.length) : (l.map (Value.int .i64))[k]? = some (.int .i64 (l.getD k 0)) := by
  rw [List.getElem?_map, List.getElem?_eq_getElem h, List.getD_eq_getElem?_getD, List.getElem?_eq_getElem h]; rfl

theorem Rd.nil (w : World) : Rd w (.slice none 0 0) [] := ⟨none, 0, rfl, Nat.le_refl _, fun _ => rfl, .inl rfl⟩

theorem Rd.data {w : World} {v : Value} {l : List Int} (h : Rd w v l) : ∃ ao cap, v = .slice ao l.length cap ∧ l.length ≤ cap ∧ (ao = none → cap = 0) ∧ ∀ j u, (l.map (Value.int .i64))[j]? = some u → ∃ ad, ao = some ad ∧ w.cell? (ad.add j) = some u := by
  obtain ⟨ao, cap, rfl, hc, hz, h⟩ := h
  refine ⟨ao, cap, rfl, hc, hz, fun j u hu => ?_⟩
  obtain ⟨hj, rfl⟩ := map_get hu
  rcases h with rfl | ⟨b, off, rfl, h⟩
  · simp at hj
  · exact ⟨_, rfl, by rw [add_lit]; exact h j hj⟩

/-- what reads goes on reading where nothing below a number has turned, and its block lies there -/
theorem Rd.lift {w w' : World} {v : Value} {l : List Int} (h : Rd w v l) (hb : Below w.heap.size w w') : Rd w' v l := by
  obtain ⟨ao, cap, rfl, hc, hz, h⟩ := h
  refine ⟨ao, cap, rfl, hc, hz, ?_⟩
  rcases h with rfl | ⟨b, off, rfl, h⟩
  · exact .inl rfl
  · refine .inr ⟨b, off, rfl, fun k hk => ?_⟩
    have := World.block_lt_of_cell? w _ (h k hk)
    rw [hb.cell (p := ⟨b, off + k, none⟩) this]
    exact h k hk
theorem Rd.alloc {w : World} {v : Value} {l : List Int} (h : Rd w v l) (o : Obj) : Rd (w.alloc o) v l := h.lift ((Below.refl _ _).alloc (Nat.le_refl _) _)
theorem Rd.drew {w : World} {v : Value} {l : List Int} (h : Rd w v l) : Rd w.drew v l := h.lift (Below.refl _ _).drew

theorem Own.rd {w : World} {B : Nat} {v : Value} {xs : List Int} (h : Own w B v xs) : Rd w v xs := by
  rcases h.2 with ⟨rfl, hn⟩ | ⟨g, cap, cur, rfl, hb, hg, hn, hm, hs, ht⟩
  · have : xs = [] := List.eq_nil_of_length_eq_zero hn
    subst this; exact Rd.nil w
  · refine ⟨_, cap, rfl, hn, (fun h => by cases h), .inr ⟨g, 0, rfl, fun k hk => ?_⟩⟩
    have := World.ownsRow.cells h (g := g) rfl k _ (get_map hk)
    rwa [add_lit] at this

theorem Own.lt {w : World} {B : Nat} {v : Value} {xs : List Int} (h : Own w B v xs) : ∀ k, v.ownBlock = some k → B ≤ k ∧ k < w.heap.size := World.ownsRow.lt h
theorem Own.alloc {w : World} {B : Nat} {v : Value} {xs : List Int} (h : Own w B v xs) (o : Obj) : Own (w.alloc o) B v xs := World.ownsRow.alloc h o
theorem Own.drew {w : World} {B : Nat} {v : Value} {xs : List Int} (h : Own w B v xs) : Own w.drew B v xs := World.ownsRow.drew h
theorem Own.lift {w w' : World} {B : Nat} {v : Value} {xs : List Int} (h : Own w B v xs) (hb : Below w.heap.size w w') : Own w' B v xs :=
  World.ownsRow.kept h (row := none) ⟨hb.os, hb.tape, hb.output, hb.size, fun k hk _ => hb.block k hk⟩ (by cases v.ownBlock <;> simp)
theorem Own.mono {w : World} {B B' : Nat} {v : Value} {xs : List Int} (h : Own w B v xs) (hB : B' ≤ B) : Own w B' v xs := by
  refine ⟨h.1, ?_⟩
  rcases h.2 with h | ⟨g, cap, cur, rfl, hb, r⟩
  · exact .inl h
  · exact .inr ⟨g, cap, cur, rfl, by omega, r⟩
theorem Own.nil (w : World) (B : Nat) : Own w B (.slice none 0 0) [] := World.ownsRow_nil w B _ _

/-- what a make and a copy leave: a row of the call's own with room behind it -/
theorem own_copied {w2 : World} {B g n m : Nat} {zs : List Value} {l : List Int} (hB : B ≤ g) (hn : l.length = n) (hz : zs.length = n + m) (hm : n + m ≤ maxLen)
    (hg : w2.heap[g]? = some (.cells (splice zs 0 (l.map (.int .i64))).toArray 3 (0, 0))) : Own w2 B (.slice (some ⟨g, 0, none⟩) n (n + m)) l := by
  subst hn
  refine ⟨by simp, .inr ⟨g, l.length + m, _, rfl, hB, hg, by omega, hm, ?_, ?_⟩⟩
  · have := length_splice zs 0 (l.map (.int .i64)) (by simp; omega)
    simp [this, hz]
  · have : (l.map (Value.int .i64)).length = l.length := List.length_map _
    rw [Nat.mul_one, ← this]; simp [splice]

section
variable {ops : Array Oper} {rest : List Oper} {o : Oper} {a : Act} {Q : Exit → Act → World → Prop} {w w0 : World} {B : Nat} {xs : List Int}

/-- append of one byte onto a row of the call's own -/
theorem wpList_append_byte (s x : Operand) (hgd : o.guard = none) (ho : o.op = .call { callee := .builtin .append, args := #[s, x], argTypes := #[37, 37] })
    {v : Value} (hs : a.eval s = v) (hown : Own w B v xs) (c : Int) (hx : a.eval x = .slice (some ⟨w.heap.size, 0, none⟩) 1 1) (hl : xs.length + 1 ≤ 4398046511104) (hB : B ≤ w.heap.size) (hb : Below B w0 w)
    (h : ∀ v' w', Own w' B v' (xs ++ [c]) → Below B w0 w' → wpList Tryz.prog ops Q rest (a.put o.dst v') w') : wpList Tryz.prog ops Q (o :: rest) a (w.alloc (.cells #[.int .i64 c] 3)) := by
  obtain ⟨i0, hi, hz0, hz1, hz2⟩ := info_parts info5
  refine wpList_append_own _ hgd s x 37 ho B 3 i0 (.int .i64 0) 1 8 Tryz.underlying37 hi hz0 hz1 hz2 rfl (by decide) v xs.length (xs.map (.int .i64)) hs (World.ownsRow.alloc hown _) ⟨w.heap.size, 0, none⟩ 1 1 [.int .i64 c] hx rfl ?_ ?_ (by unfold maxLen; omega) (by omega) (by simp; omega) ?_
  · intro j u hj
    match j, hj with
    | 0, hj => simp at hj; subst hj; simp [Addr.add]
  · intro u hu; simp at hu; subst hu; rfl
  · intro v' w' h1 h2 _
    refine h v' w' ?_ ?_
    · unfold Own; rw [List.map_append, List.length_append]; exact h1
    · exact (hb.alloc hB _).grown h2 (by simp; omega) (fun k hk => (hown.lt k hk).1)

/-- append of one byte onto a row of the call's own, where the byte's block is told by another term -/
theorem wpList_append_byte_at (s x : Operand) (hgd : o.guard = none) (ho : o.op = .call { callee := .builtin .append, args := #[s, x], argTypes := #[37, 37] })
    {v : Value} (hs : a.eval s = v) (hown : Own w B v xs) (c : Int) {g : Nat} (hx : a.eval x = .slice (some ⟨g, 0, none⟩) 1 1) (hg : g = w.heap.size) (hl : xs.length + 1 ≤ 4398046511104) (hB : B ≤ w.heap.size) (hb : Below B w0 w)
    (h : ∀ v' w', Own w' B v' (xs ++ [c]) → Below B w0 w' → wpList Tryz.prog ops Q rest (a.put o.dst v') w') : wpList Tryz.prog ops Q (o :: rest) a (w.alloc (.cells #[.int .i64 c] 3)) := by
  subst hg
  obtain ⟨i0, hi, hz0, hz1, hz2⟩ := info_parts info5
  refine wpList_append_own _ hgd s x 37 ho B 3 i0 (.int .i64 0) 1 8 Tryz.underlying37 hi hz0 hz1 hz2 rfl (by decide) v xs.length (xs.map (.int .i64)) hs (World.ownsRow.alloc hown _) ⟨w.heap.size, 0, none⟩ 1 1 [.int .i64 c] hx rfl ?_ ?_ (by unfold maxLen; omega) (by omega) (by simp; omega) ?_
  · intro j u hj
    match j, hj with
    | 0, hj => simp at hj; subst hj; simp [Addr.add]
  · intro u hu; simp at hu; subst hu; rfl
  · intro v' w' h1 h2 _
    refine h v' w' ?_ ?_
    · unfold Own; rw [List.map_append, List.length_append]; exact h1
    · exact (hb.alloc hB _).grown h2 (by simp; omega) (fun k hk => (hown.lt k hk).1)

/-- append of all bytes that a slice reads as, onto a row of the call's own -/
theorem wpList_append_bytes (s x : Operand) (hgd : o.guard = none) (ho : o.op = .call { callee := .builtin .append, args := #[s, x], argTypes := #[37, 37] })
    {v u : Value} (hs : a.eval s = v) (hown : Own w B v xs) {ys : List Int} (hx : a.eval x = u) (hrd : Rd w u ys) (hl : xs.length + ys.length ≤ 4398046511104) (hB : B ≤ w.heap.size) (hb : Below B w0 w)
    (h : ∀ v' w', Own w' B v' (xs ++ ys) → Below B w0 w' → wpList Tryz.prog ops Q rest (a.put o.dst v') w') : wpList Tryz.prog ops Q (o :: rest) a w := by
  obtain ⟨i0, hi, hz0, hz1, hz2⟩ := info_parts info5
  obtain ⟨ao, cap, rfl, hcap, hz, hd⟩ := hrd.data
  have fin : ∀ v' w', w'.ownsRow B 3 1 v' (xs.length + ys.length) (xs.map (Value.int .i64) ++ ys.map (.int .i64)) → w.grownBy w' v.ownBlock → wpList Tryz.prog ops Q rest (a.put o.dst v') w' := by
    intro v' w' h1 h2
    refine h v' w' ?_ ?_
    · unfold Own; rw [List.map_append, List.length_append]; exact h1
    · exact hb.grown h2 hB (fun k hk => (hown.lt k hk).1)
  cases ao with
  | some ad =>
    refine wpList_append_own _ hgd s x 37 ho B 3 i0 (.int .i64 0) 1 8 Tryz.underlying37 hi hz0 hz1 hz2 rfl (by decide) v xs.length (xs.map (.int .i64)) hs hown ad ys.length cap (ys.map (.int .i64)) hx (by simp) ?_ (ints_oneCell _ _) (by unfold maxLen; omega) (by omega) hB ?_
    · intro j u hu
      obtain ⟨ad', he, hc⟩ := hd j u hu
      cases he; exact hc
    · intro v' w' h1 h2 _; exact fin v' w' h1 h2
  | none =>
    have hys : ys = [] := by
      cases ys with
      | nil => rfl
      | cons y r => obtain ⟨_, he, _⟩ := hd 0 (.int .i64 y) rfl; cases he
    subst hys
    obtain rfl : cap = 0 := hz rfl
    refine wpList_append_own_none hgd s x 37 ho B 3 i0 1 Tryz.underlying37 hi v xs.length (xs.map (.int .i64)) hs hown hx ?_
    exact h v w (by rw [List.append_nil]; exact hown) hb
end
end Go.Proofs.YtgcmdnkmnghhaaaGreatDoor.wi

/- Slices of bytes: what reads as bytes (Rd), what the call owns (Own), appends of one byte and of many, a make with a copy. -/
namespace Go.Proofs.YtgcmdnkmnghhaaaGreatDoor.lb
open Go.RowKit

theorem info5 : (Tryz.prog.info? 5).map (fun i => (i.zero, i.size, i.bytes)) = some (some (.int .u8 0), 1, 1) := by kernel_rfl
theorem size5 : (Tryz.prog.info? 5).map (·.size) = some 1 := by kernel_rfl

/-- v is a slice that reads as the bytes l -/
def Rd (w : World) (v : Value) (l : List Int) : Prop :=
  ∃ ao cap, v = .slice ao l.length cap ∧ l.length ≤ cap ∧ (ao = none → cap = 0) ∧ (l = [] ∨ ∃ b off, ao = some ⟨b, off, none⟩ ∧ ∀ k, k < l.length → w.cell? ⟨b, off + k, none⟩ = some (.int .u8 (l.getD k 0)))

/-- v is the call's own row, of a block from B on, whose first cells are the bytes xs -/
def Own (w : World) (B : Nat) (v : Value) (xs : List Int) : Prop := w.ownsRow B 5 1 v xs.length (xs.map (.int .u8))

theorem add_lit (b o j : Nat) : (⟨b, o, none⟩ : Addr).add j = ⟨b, o + j, none⟩ := by unfold Addr.add; split <;> simp_all

theorem map_get {l : List Int} {k : Nat} {u : Value} (h : (l.map (Value.int .u8))[k]? = some u) : k < l.length ∧ u = .int .u8 (l.getD k 0) := by
  rw [List.getElem?_map] at h
  obtain ⟨x, hx, rfl⟩ := Option.map_eq_some_iff.1 h
  obtain ⟨hk, rfl⟩ := List.getElem?_eq_some_iff.1 hx
  exact ⟨hk, by rw [List.getD_eq_getElem?_getD, List.getElem?_eq_getElem hk]; rfl⟩

theorem get_map {l : List Int} {k : Nat} (h : k < l.length) : (l.map (Value.int .u8))[k]? = some (.int .u8 (l.getD k 0)) := by
  rw [List.getElem?_map, List.getElem?_eq_getElem h, List.getD_eq_getElem?_getD, List.getElem?_eq_getElem h]; rfl

theorem Rd.nil (w : World) : Rd w (.slice none 0 0) [] := ⟨none, 0, rfl, Nat.le_refl _, fun _ => rfl, .inl rfl⟩

theorem Rd.data {w : World} {v : Value} {l : List Int} (h : Rd w v l) : ∃ ao cap, v = .slice ao l.length cap ∧ l.length ≤ cap ∧ (ao = none → cap = 0) ∧ ∀ j u, (l.map (Value.int .u8))[j]? = some u → ∃ ad, ao = some ad ∧ w.cell? (ad.add j) = some u := by
  obtain ⟨ao, cap, rfl, hc, hz, h⟩ := h
  refine ⟨ao, cap, rfl, hc, hz, fun j u hu => ?_⟩
  obtain ⟨hj, rfl⟩ := map_get hu
  rcases h with rfl | ⟨b, off, rfl, h⟩
  · simp at hj
  · exact ⟨_, rfl, by rw [add_lit]; exact h j hj⟩

/-- what reads goes on reading where nothing below a number has turned, and its block lies there -/
theorem Rd.lift {w w' : World} {v : Value} {l : List Int} (h : Rd w v l) (hb : Below w.heap.size w w') : Rd w' v l := by
  obtain ⟨ao, cap, rfl, hc, hz, h⟩ := h
  refine ⟨ao, cap, rfl, hc, hz, ?_⟩
  rcases h with rfl | ⟨b, off, rfl, h⟩
  · exact .inl rfl
  · refine .inr ⟨b, off, rfl, fun k hk => ?_⟩
    have := World.block_lt_of_cell? w _ (h k hk)
    rw [hb.cell (p := ⟨b, off + k, none⟩) this]
    exact h k hk
theorem Rd.alloc {w : World} {v : Value} {l : List Int} (h : Rd w v l) (o : Obj) : Rd (w.alloc o) v l := h.lift ((Below.refl _ _).alloc (Nat.le_refl _) _)
theorem Rd.drew {w : World} {v : Value} {l : List Int} (h : Rd w v l) : Rd w.drew v l := h.lift (Below.refl _ _).drew

theorem Own.rd {w : World} {B : Nat} {v : Value} {xs : List Int} (h : Own w B v xs) : Rd w v xs := by
  rcases h.2 with ⟨rfl, hn⟩ | ⟨g, cap, cur, rfl, hb, hg, hn, hm, hs, ht⟩
  · have : xs = [] := List.eq_nil_of_length_eq_zero hn
    subst this; exact Rd.nil w
  · refine ⟨_, cap, rfl, hn, (fun h => by cases h), .inr ⟨g, 0, rfl, fun k hk => ?_⟩⟩
    have := World.ownsRow.cells h (g := g) rfl k _ (get_map hk)
    rwa [add_lit] at this

theorem Own.lt {w : World} {B : Nat} {v : Value} {xs : List Int} (h : Own w B v xs) : ∀ k, v.ownBlock = some k → B ≤ k ∧ k < w.heap.size := World.ownsRow.lt h
theorem Own.alloc {w : World} {B : Nat} {v : Value} {xs : List Int} (h : Own w B v xs) (o : Obj) : Own (w.alloc o) B v xs := World.ownsRow.alloc h o
theorem Own.drew {w : World} {B : Nat} {v : Value} {xs : List Int} (h : Own w B v xs) : Own w.drew B v xs := World.ownsRow.drew h
theorem Own.lift {w w' : World} {B : Nat} {v : Value} {xs : List Int} (h : Own w B v xs) (hb : Below w.heap.size w w') : Own w' B v xs :=
  World.ownsRow.kept h (row := none) ⟨hb.os, hb.tape, hb.output, hb.size, fun k hk _ => hb.block k hk⟩ (by cases v.ownBlock <;> simp)
theorem Own.mono {w : World} {B B' : Nat} {v : Value} {xs : List Int} (h : Own w B v xs) (hB : B' ≤ B) : Own w B' v xs := by
  refine ⟨h.1, ?_⟩
  rcases h.2 with h | ⟨g, cap, cur, rfl, hb, r⟩
  · exact .inl h
  · exact .inr ⟨g, cap, cur, rfl, by omega, r⟩
theorem Own.nil (w : World) (B : Nat) : Own w B (.slice none 0 0) [] := World.ownsRow_nil w B _ _

/-- what a make and a copy leave: a row of the call's own with room behind it -/
theorem own_copied {w2 : World} {B g n m : Nat} {zs : List Value} {l : List Int} (hB : B ≤ g) (hn : l.length = n) (hz : zs.length = n + m) (hm : n + m ≤ maxLen)
    (hg : w2.heap[g]? = some (.cells (splice zs 0 (l.map (.int .u8))).toArray 5 (0, 0))) : Own w2 B (.slice (some ⟨g, 0, none⟩) n (n + m)) l := by
  subst hn
  refine ⟨by simp, .inr ⟨g, l.length + m, _, rfl, hB, hg, by omega, hm, ?_, ?_⟩⟩
  · have := length_splice zs 0 (l.map (.int .u8)) (by simp; omega)
    simp [this, hz]
  · have : (l.map (Value.int .u8)).length = l.length := List.length_map _
    rw [Nat.mul_one, ← this]; simp [splice]

section
variable {ops : Array Oper} {rest : List Oper} {o : Oper} {a : Act} {Q : Exit → Act → World → Prop} {w w0 : World} {B : Nat} {xs : List Int}

/-- append of one byte onto a row of the call's own -/
theorem wpList_append_byte (s x : Operand) (hgd : o.guard = none) (ho : o.op = .call { callee := .builtin .append, args := #[s, x], argTypes := #[22, 22] })
    {v : Value} (hs : a.eval s = v) (hown : Own w B v xs) (c : Int) (hx : a.eval x = .slice (some ⟨w.heap.size, 0, none⟩) 1 1) (hl : xs.length + 1 ≤ 140737488355328) (hB : B ≤ w.heap.size) (hb : Below B w0 w)
    (h : ∀ v' w', Own w' B v' (xs ++ [c]) → Below B w0 w' → wpList Tryz.prog ops Q rest (a.put o.dst v') w') : wpList Tryz.prog ops Q (o :: rest) a (w.alloc (.cells #[.int .u8 c] 5)) := by
  obtain ⟨i0, hi, hz0, hz1, hz2⟩ := info_parts info5
  refine wpList_append_own _ hgd s x 22 ho B 5 i0 (.int .u8 0) 1 1 Tryz.underlying22 hi hz0 hz1 hz2 rfl (by decide) v xs.length (xs.map (.int .u8)) hs (World.ownsRow.alloc hown _) ⟨w.heap.size, 0, none⟩ 1 1 [.int .u8 c] hx rfl ?_ ?_ (by unfold maxLen; omega) (by omega) (by simp; omega) ?_
  · intro j u hj
    match j, hj with
    | 0, hj => simp at hj; subst hj; simp [Addr.add]
  · intro u hu; simp at hu; subst hu; rfl
  · intro v' w' h1 h2 _
    refine h v' w' ?_ ?_
    · unfold Own; rw [List.map_append, List.length_append]; exact h1
    · exact (hb.alloc hB _).grown h2 (by simp; omega) (fun k hk => (hown.lt k hk).1)

/-- append of one byte onto a row of the call's own, where the byte's block is told by another term -/
theorem wpList_append_byte_at (s x : Operand) (hgd : o.guard = none) (ho : o.op = .call { callee := .builtin .append, args := #[s, x], argTypes := #[22, 22] })
    {v : Value} (hs : a.eval s = v) (hown : Own w B v xs) (c : Int) {g : Nat} (hx : a.eval x = .slice (some ⟨g, 0, none⟩) 1 1) (hg : g = w.heap.size) (hl : xs.length + 1 ≤ 140737488355328) (hB : B ≤ w.heap.size) (hb : Below B w0 w)
    (h : ∀ v' w', Own w' B v' (xs ++ [c]) → Below B w0 w' → wpList Tryz.prog ops Q rest (a.put o.dst v') w') : wpList Tryz.prog ops Q (o :: rest) a (w.alloc (.cells #[.int .u8 c] 5)) := by
  subst hg
  obtain ⟨i0, hi, hz0, hz1, hz2⟩ := info_parts info5
  refine wpList_append_own _ hgd s x 22 ho B 5 i0 (.int .u8 0) 1 1 Tryz.underlying22 hi hz0 hz1 hz2 rfl (by decide) v xs.length (xs.map (.int .u8)) hs (World.ownsRow.alloc hown _) ⟨w.heap.size, 0, none⟩ 1 1 [.int .u8 c] hx rfl ?_ ?_ (by unfold maxLen; omega) (by omega) (by simp; omega) ?_
  · intro j u hj
    match j, hj with
    | 0, hj => simp at hj; subst hj; simp [Addr.add]
  · intro u hu; simp at hu; subst hu; rfl
  · intro v' w' h1 h2 _
    refine h v' w' ?_ ?_
    · unfold Own; rw [List.map_append, List.length_append]; exact h1
    · exact (hb.alloc hB _).grown h2 (by simp; omega) (fun k hk => (hown.lt k hk).1)

/-- append of all bytes that a slice reads as, onto a row of the call's own -/
theorem wpList_append_bytes (s x : Operand) (hgd : o.guard = none) (ho : o.op = .call { callee := .builtin .append, args := #[s, x], argTypes := #[22, 22] })
    {v u : Value} (hs : a.eval s = v) (hown : Own w B v xs) {ys : List Int} (hx : a.eval x = u) (hrd : Rd w u ys) (hl : xs.length + ys.length ≤ 140737488355328) (hB : B ≤ w.heap.size) (hb : Below B w0 w)
    (h : ∀ v' w', Own w' B v' (xs ++ ys) → Below B w0 w' → wpList Tryz.prog ops Q rest (a.put o.dst v') w') : wpList Tryz.prog ops Q (o :: rest) a w := by
  obtain ⟨i0, hi, hz0, hz1, hz2⟩ := info_parts info5
  obtain ⟨ao, cap, rfl, hcap, hz, hd⟩ := hrd.data
  have fin : ∀ v' w', w'.ownsRow B 5 1 v' (xs.length + ys.length) (xs.map (Value.int .u8) ++ ys.map (.int .u8)) → w.grownBy w' v.ownBlock → wpList Tryz.prog ops Q rest (a.put o.dst v') w' := by
    intro v' w' h1 h2
    refine h v' w' ?_ ?_
    · unfold Own; rw [List.map_append, List.length_append]; exact h1
    · exact hb.grown h2 hB (fun k hk => (hown.lt k hk).1)
  cases ao with
  | some ad =>
    refine wpList_append_own _ hgd s x 22 ho B 5 i0 (.int .u8 0) 1 1 Tryz.underlying22 hi hz0 hz1 hz2 rfl (by decide) v xs.length (xs.map (.int .u8)) hs hown ad ys.length cap (ys.map (.int .u8)) hx (by simp) ?_ (ints_oneCell _ _) (by unfold maxLen; omega) (by omega) hB ?_
    · intro j u hu
      obtain ⟨ad', he, hc⟩ := hd j u hu
      cases he; exact hc
    · intro v' w' h1 h2 _; exact fin v' w' h1 h2
  | none =>
    have hys : ys = [] := by
      cases ys with
      | nil => rfl
      | cons y r => obtain ⟨_, he, _⟩ := hd 0 (.int .u8 y) rfl; cases he
    subst hys
    obtain rfl : cap = 0 := hz rfl
    refine wpList_append_own_none hgd s x 22 ho B 5 i0 1 Tryz.underlying22 hi v xs.length (xs.map (.int .u8)) hs hown hx ?_
    exact h v w (by rw [List.append_nil]; exact hown) hb
end
end Go.Proofs.YtgcmdnkmnghhaaaGreatDoor.lb

/- Worlds that differ in some blocks alone (Keep); what a call's answer holds, as a ghost (Gh). -/
set_option linter.unusedVariables false
namespace Go.Proofs.YtgcmdnkmnghhaaaGreatDoor.wm
open Go.RowKit

/-- nothing that was there has turned but the blocks of S -/
structure Keep (S : Nat → Prop) (w w' : World) : Prop where
  os : w'.os = w.os
  tape : w'.tape = w.tape
  output : w'.output = w.output
  size : w.heap.size ≤ w'.heap.size
  block : ∀ k, k < w.heap.size → ¬ S k → w'.heap[k]? = w.heap[k]?

theorem Keep.refl (S : Nat → Prop) (w : World) : Keep S w w := ⟨rfl, rfl, rfl, Nat.le_refl _, fun _ _ _ => rfl⟩
theorem Keep.trans {S : Nat → Prop} {a b c : World} (h : Keep S a b) (k : Keep S b c) : Keep S a c :=
  ⟨k.os.trans h.os, k.tape.trans h.tape, k.output.trans h.output, Nat.le_trans h.size k.size, fun i hi hs => (k.block i (Nat.lt_of_lt_of_le hi h.size) hs).trans (h.block i hi hs)⟩
theorem Keep.mono {S S' : Nat → Prop} {a b : World} (h : Keep S a b) (hs : ∀ k, k < a.heap.size → S k → S' k) : Keep S' a b :=
  ⟨h.os, h.tape, h.output, h.size, fun i hi hn => h.block i hi (fun x => hn (hs i hi x))⟩
theorem Keep.of {S : Nat → Prop} {a b : World} (h : Below a.heap.size a b) : Keep S a b := ⟨h.os, h.tape, h.output, h.size, fun i hi _ => h.block i hi⟩
/-- a step that turns only blocks that were not there -/
theorem Keep.new {S S' : Nat → Prop} {a b c : World} (h : Keep S a b) (k : Keep S' b c) (hs : ∀ i, i < a.heap.size → S' i → S i) : Keep S a c :=
  ⟨k.os.trans h.os, k.tape.trans h.tape, k.output.trans h.output, Nat.le_trans h.size k.size, fun i hi hn => (k.block i (Nat.lt_of_lt_of_le hi h.size) (fun x => hn (hs i hi x))).trans (h.block i hi hn)⟩
theorem Keep.below {S : Nat → Prop} {a b : World} (h : Keep S a b) (hs : ∀ k, k < a.heap.size → ¬ S k) : Below a.heap.size a b := ⟨h.os, h.tape, h.output, h.size, fun i hi => h.block i hi (hs i hi)⟩
/-- below a number under all of S nothing has turned -/
theorem Keep.low {S : Nat → Prop} {B : Nat} {w0 a b : World} (h : Keep S a b) (hb : Below B w0 a) (hB : B ≤ w0.heap.size) (hs : ∀ k, S k → B ≤ k) : Below B w0 b :=
  ⟨h.os.trans hb.os, h.tape.trans hb.tape, h.output.trans hb.output, Nat.le_trans hb.size h.size, fun i hi => (h.block i (by have := hb.size; omega) (fun x => by have := hs i x; omega)).trans (hb.block i hi)⟩
theorem Keep.set {S : Nat → Prop} {a b : World} (h : Keep S a b) {p : Addr} (hp : S p.block ∨ a.heap.size ≤ p.block) (u : Value) : Keep S a (b.setCell p u) :=
  ⟨h.os, h.tape, h.output, Nat.le_trans h.size (by simp [World.setCell]), fun i hi hn => (Below.heap_setCell _ _ _ _ (by
    rcases hp with hp | hp
    · exact fun e => hn (e ▸ hp)
    · omega)).trans (h.block i hi hn)⟩
theorem Keep.alloc {S : Nat → Prop} {a b : World} (h : Keep S a b) (o : Obj) : Keep S a (b.alloc o) := h.trans (.of ((Below.refl _ _).alloc (Nat.le_refl _) o))
theorem Keep.drew {S : Nat → Prop} {a b : World} (h : Keep S a b) : Keep S a b.drew := h.trans (.of (Below.refl _ _).drew)

theorem bnext {w wa wb : World} (h : Below w.heap.size w wa) (hb : Below wa.heap.size wa wb) : Below w.heap.size w wb := h.trans (hb.mono h.size)
theorem bnextA {w wa : World} (h : Below w.heap.size w wa) (o : Obj) : Below w.heap.size w (wa.alloc o) := h.alloc h.size o
theorem belowN {B : Nat} (w : World) (n : Nat) : Below B w (w.drewN n) := ⟨rfl, rfl, rfl, Nat.le_refl _, fun _ _ => rfl⟩
theorem Keep.drewN {S : Nat → Prop} {a b : World} (h : Keep S a b) (n : Nat) : Keep S a (b.drewN n) := h.trans (.of (belowN _ n))

/-- what an answer holds: a scalar, a row of rows of cells, a struct -/
inductive Gh where
  | val (v : Value)
  | row (size : Nat) (es : List Gh)
  | agg (ps : List Gh)

mutual
/-- these cells hold it, with all blocks from B on -/
def Gh.holds (B : Nat) (w : World) : Gh → List Value → Prop
  | .val v, cs => cs = [v]
  | .row n es, cs => ∃ ao cap, cs = [.slice ao es.length cap] ∧ es.length ≤ cap ∧ (ao = none → cap = 0) ∧ (es = [] ∨ ∃ b off, ao = some ⟨b, off, none⟩ ∧ B ≤ b ∧ Gh.rows B w b n off es)
  | .agg ps, cs => Gh.all B w ps cs
def Gh.all (B : Nat) (w : World) : List Gh → List Value → Prop
  | [], cs => cs = []
  | p :: ps, cs => ∃ c1 c2, cs = c1 ++ c2 ∧ p.holds B w c1 ∧ Gh.all B w ps c2
def Gh.rows (B : Nat) (w : World) (b n : Nat) : Nat → List Gh → Prop
  | _, [] => True
  | off, e :: es => (∃ cs, cs.length = n ∧ (∀ j v, cs[j]? = some v → w.cell? ⟨b, off + j, none⟩ = some v) ∧ e.holds B w cs) ∧ Gh.rows B w b n (off + n) es
end

/-- what reads from B on goes on reading -/
def Same (B : Nat) (w w' : World) : Prop := ∀ k, B ≤ k → k < w.heap.size → w'.heap[k]? = w.heap[k]?

theorem Same.cell {B : Nat} {w w' : World} (h : Same B w w') {p : Addr} {v : Value} (hp : B ≤ p.block) (hv : w.cell? p = some v) : w'.cell? p = some v := by
  have hl := World.block_lt_of_cell? w _ hv
  rw [World.cell?_of_block (w := w) (h p.block hp hl)]; exact hv

mutual
theorem Gh.holds_keep {B B' : Nat} {w w' : World} (hB : B' ≤ B) (h : Same B w w') : ∀ (g : Gh) (cs : List Value), g.holds B w cs → g.holds B' w' cs
  | .val v, cs, k => k
  | .row n es, cs, k => by
    obtain ⟨ao, cap, h1, h2, h3, h4⟩ := k
    refine ⟨ao, cap, h1, h2, h3, ?_⟩
    rcases h4 with h4 | ⟨b, off, e, hb, hr⟩
    · exact .inl h4
    · exact .inr ⟨b, off, e, by omega, Gh.rows_keep hB h es b n off (fun o v _ _ hv => h.cell hb hv) hr⟩
  | .agg ps, cs, k => Gh.all_keep hB h ps cs k
theorem Gh.all_keep {B B' : Nat} {w w' : World} (hB : B' ≤ B) (h : Same B w w') : ∀ (ps : List Gh) (cs : List Value), Gh.all B w ps cs → Gh.all B' w' ps cs
  | [], cs, k => k
  | p :: ps, cs, k => by
    obtain ⟨c1, c2, e, k1, k2⟩ := k
    exact ⟨c1, c2, e, Gh.holds_keep hB h p c1 k1, Gh.all_keep hB h ps c2 k2⟩
theorem Gh.rows_keep {B B' : Nat} {w w' : World} (hB : B' ≤ B) (h : Same B w w') : ∀ (es : List Gh) (b n off : Nat), (∀ o v, off ≤ o → o < off + n * es.length → w.cell? ⟨b, o, none⟩ = some v → w'.cell? ⟨b, o, none⟩ = some v) → Gh.rows B w b n off es → Gh.rows B' w' b n off es
  | [], b, n, off, _, k => trivial
  | e :: es, b, n, off, hb, k => by
    obtain ⟨⟨cs, k1, k2, k3⟩, k4⟩ := k
    have hm : n * (es.length + 1) = n * es.length + n := Nat.mul_succ _ _
    refine ⟨⟨cs, k1, fun j v hj => hb _ _ (by omega) ?_ (k2 j v hj), Gh.holds_keep hB h e cs k3⟩, Gh.rows_keep hB h es b n (off + n) (fun o v h1 h2 => hb o v (by omega) (by rw [List.length_cons, hm]; omega)) k4⟩
    have := (List.getElem?_eq_some_iff.1 hj).1
    rw [List.length_cons, hm]; omega
end

theorem Gh.rows_snoc {B : Nat} {w : World} {b n : Nat} : ∀ (es : List Gh) (off : Nat) (e : Gh) (cs : List Value), Gh.rows B w b n off es → cs.length = n → (∀ j v, cs[j]? = some v → w.cell? ⟨b, off + n * es.length + j, none⟩ = some v) → e.holds B w cs → Gh.rows B w b n off (es ++ [e])
  | [], off, e, cs, _, h1, h2, h3 => ⟨⟨cs, h1, fun j v hj => by have := h2 j v hj; simpa using this, h3⟩, trivial⟩
  | x :: es, off, e, cs, h, h1, h2, h3 => by
    refine ⟨h.1, Gh.rows_snoc es (off + n) e cs h.2 h1 (fun j v hj => ?_) h3⟩
    have := h2 j v hj
    rw [List.length_cons, Nat.mul_succ] at this
    rw [show off + n + n * es.length + j = off + (n * es.length + n) + j by omega]
    exact this

theorem Same.rfl {B : Nat} {w : World} : Same B w w := fun _ _ _ => _root_.rfl

/-- block g is a row of so many cells -/
def Row (t : TypeId) (w : World) (g n : Nat) : Prop := ∃ (cs : Array Value), w.heap[g]? = some (.cells cs t (0, 0)) ∧ cs.size = n
theorem Row.lt {t : TypeId} {w : World} {g n : Nat} (h : Row t w g n) : g < w.heap.size := by obtain ⟨cs, h, _⟩ := h; exact (Array.getElem?_eq_some_iff.1 h).1
theorem Row.some {t : TypeId} {w : World} {g n : Nat} (h : Row t w g n) {k : Nat} (hk : k < n) : ∃ u, w.cell? ⟨g, k, none⟩ = some u := by
  obtain ⟨cs, h, hn⟩ := h
  refine ⟨cs[k], ?_⟩
  simp [World.cell?, h]
theorem Row.fz {t : TypeId} {w : World} {g n : Nat} (h : Row t w g n) (k : Nat) : w.frozen? ⟨g, k, none⟩ = false := by
  obtain ⟨cs, h, hn⟩ := h
  simp [World.frozen?, h]
theorem Row.keep {t : TypeId} {S : Nat → Prop} {w w' : World} {g n : Nat} (h : Row t w g n) (k : Keep S w w') (hs : ¬ S g) : Row t w' g n := by
  have hl := h.lt
  obtain ⟨cs, h, hn⟩ := h
  exact ⟨cs, (k.block g hl hs).trans h, hn⟩
theorem Row.set {t : TypeId} {w : World} {g n : Nat} (h : Row t w g n) (k : Nat) (u : Value) : Row t (w.setCell ⟨g, k, none⟩ u) g n := by
  obtain ⟨cs, h, hn⟩ := h
  refine ⟨cs.setIfInBounds k u, ?_, by simpa using hn⟩
  simp [World.setCell, Array.getElem?_modify, h]
theorem Row.new (w : World) (cs : Array Value) (t : TypeId) : Row t (w.alloc (.cells cs t)) w.heap.size cs.size := ⟨cs, heap_alloc_new w _, rfl⟩

/-- one cell that holds it -/
def Gh.is (B : Nat) (w : World) (g : Gh) (v : Value) : Prop := g.holds B w [v]
/-- a struct's value that holds it -/
def Gh.isAgg (B : Nat) (w : World) (ps : List Gh) (v : Value) : Prop := ∃ cs, v = .agg cs ∧ Gh.all B w ps cs.toList

theorem Same.of {B : Nat} {w w' : World} (h : Below w.heap.size w w') : Same B w w' := fun k _ hk => h.block k hk
theorem Same.keep {B : Nat} {S : Nat → Prop} {w w' : World} (h : Keep S w w') (hs : ∀ k, B ≤ k → k < w.heap.size → ¬ S k) : Same B w w' := fun k h1 h2 => h.block k h2 (hs k h1 h2)
theorem Gh.is.keep {B B' : Nat} {w w' : World} {g : Gh} {v : Value} (k : g.is B w v) (hB : B' ≤ B) (h : Same B w w') : g.is B' w' v := Gh.holds_keep hB h g [v] k
theorem Gh.isAgg.keep {B B' : Nat} {w w' : World} {ps : List Gh} {v : Value} (k : Gh.isAgg B w ps v) (hB : B' ≤ B) (h : Same B w w') : Gh.isAgg B' w' ps v := by
  obtain ⟨cs, e, k⟩ := k
  exact ⟨cs, e, Gh.all_keep hB h ps _ k⟩

/-- an answer of one cell, of two, of three, of nine -/
def VA1 {α : Type} (gh : α → Gh) (B : Nat) : World → Value → α → Prop := fun w v a => (gh a).holds B w [v]
def VA2 {α : Type} (gh : α → Gh) (B : Nat) : World → Value → α → Prop := fun w v a => ∃ c0 c1, v = .agg #[c0, c1] ∧ (gh a).holds B w [c0, c1]
def VA3 {α : Type} (gh : α → Gh) (B : Nat) : World → Value → α → Prop := fun w v a => ∃ c0 c1 c2, v = .agg #[c0, c1, c2] ∧ (gh a).holds B w [c0, c1, c2]
/-- an answer that is a row -/
def VR {α : Type} (k : Nat) (gh : α → Gh) (B : Nat) : World → Value → List α → Prop := fun w v xs => (Gh.row k (xs.map gh)).is B w v

/-- whole numbers -/
def gI (n : Int) : Gh := .val (.int .i64 n)
def gIs (l : List Int) : Gh := .row 1 (l.map gI)
/-- bytes -/
def gB (n : Int) : Gh := .val (.int .u8 n)
def gBs (l : List Int) : Gh := .row 1 (l.map gB)

/-- the slice v reads as the numbers l, of kind q -/
def RdK (q : IntKind) (w : World) (v : Value) (l : List Int) : Prop :=
  ∃ ao cap, v = .slice ao l.length cap ∧ l.length ≤ cap ∧ (ao = none → cap = 0) ∧ (l = [] ∨ ∃ b off, ao = some ⟨b, off, none⟩ ∧ ∀ k, k < l.length → w.cell? ⟨b, off + k, none⟩ = some (.int q (l.getD k 0)))

theorem rows_ints {B b : Nat} {w : World} (q : IntKind) : ∀ (l : List Int) (off : Nat), Gh.rows B w b 1 off (l.map fun n => Gh.val (.int q n)) ↔ ∀ k, k < l.length → w.cell? ⟨b, off + k, none⟩ = some (.int q (l.getD k 0))
  | [], off => by simp [Gh.rows]
  | n :: l, off => by
    simp only [List.map_cons, Gh.rows, rows_ints q l (off + 1)]
    constructor
    · rintro ⟨⟨cs, h1, h2, h3⟩, h4⟩ k hk
      rw [Gh.holds] at h3
      subst h3
      cases k with
      | zero => exact h2 0 _ rfl
      | succ k => have := h4 k (by simpa using hk); simpa [Nat.add_assoc, Nat.add_comm 1 k] using this
    · intro h
      refine ⟨⟨[.int q n], rfl, fun j v hj => ?_, rfl⟩, fun k hk => ?_⟩
      · match j, hj with
        | 0, hj => simp at hj; subst hj; exact h 0 (by simp)
      · have := h (k + 1) (by simpa using hk)
        simpa [Nat.add_assoc, Nat.add_comm 1 k] using this

theorem ints_rd {B : Nat} {w : World} {v : Value} {l : List Int} (q : IntKind) (h : (Gh.row 1 (l.map fun n => Gh.val (.int q n))).is B w v) : RdK q w v l := by
  obtain ⟨ao, cap, h1, h2, h3, h4⟩ := h
  simp only [List.length_map] at h1 h2
  refine ⟨ao, cap, by simpa using h1, h2, h3, ?_⟩
  rcases h4 with h4 | ⟨b, off, e, hb, hr⟩
  · exact .inl (by simpa using h4)
  · exact .inr ⟨b, off, e, (rows_ints q l off).1 hr⟩
theorem ints_of_rd {B : Nat} {w : World} {v : Value} {l : List Int} (q : IntKind) (h : RdK q w v l) (hb : ∀ b off, v = .slice (some ⟨b, off, none⟩) l.length (match v with | .slice _ _ c => c | _ => 0) → B ≤ b) : (Gh.row 1 (l.map fun n => Gh.val (.int q n))).is B w v := by
  obtain ⟨ao, cap, rfl, h2, h3, h4⟩ := h
  refine ⟨ao, cap, by simp, by simpa using h2, h3, ?_⟩
  rcases h4 with h4 | ⟨b, off, rfl, hr⟩
  · exact .inl (by simp [h4])
  · exact .inr ⟨b, off, rfl, hb b off rfl, (rows_ints q l off).2 hr⟩
end Go.Proofs.YtgcmdnkmnghhaaaGreatDoor.wm

/- What any bytes are read as, from a place on: plain mathematics. -/
namespace Go.Proofs.YtgcmdnkmnghhaaaGreatDoor.lb

/-- how many marked bytes stand at a place -/
def mk (l : List Int) (a : Nat) : Nat := ((l.drop a).takeWhile (fun x => decide (128 ≤ x))).length

theorem takeWhile_spec (p : Int → Bool) : ∀ l : List Int, (l.takeWhile p).length ≤ l.length ∧ (∀ j, j < (l.takeWhile p).length → p (l.getD j 0) = true) ∧ ((l.takeWhile p).length < l.length → p (l.getD (l.takeWhile p).length 0) = false)
  | [] => by simp
  | c :: r => by
    obtain ⟨h1, h2, h3⟩ := takeWhile_spec p r
    rw [List.takeWhile_cons]
    cases hc : p c with
    | false => simp [hc]
    | true =>
      simp only [if_true, List.length_cons]
      refine ⟨by omega, fun j hj => ?_, fun hj => ?_⟩
      · cases j with
        | zero => simpa using hc
        | succ j => have := h2 j (by omega); simpa using this
      · have := h3 (by omega); simpa using this

theorem getD_drop (l : List Int) (a j : Nat) : (l.drop a).getD j 0 = l.getD (a + j) 0 := by simp [List.getD_eq_getElem?_getD]

theorem mk_spec (l : List Int) (a : Nat) (ha : a ≤ l.length) : a + mk l a ≤ l.length ∧ (∀ j, j < mk l a → 128 ≤ l.getD (a + j) 0) ∧ (a + mk l a < l.length → l.getD (a + mk l a) 0 < 128) := by
  obtain ⟨h1, h2, h3⟩ := takeWhile_spec (fun x => decide (128 ≤ x)) (l.drop a)
  rw [List.length_drop] at h1 h3
  unfold mk
  refine ⟨by omega, fun j hj => ?_, fun hj => ?_⟩
  · have := h2 j hj; rw [getD_drop] at this; simpa using this
  · have := h3 (by omega); rw [getD_drop] at this; simpa using this

/-- so many bytes from a place on, as groups -/
def vj (l : List Int) (a j : Nat) : Int := valB ((l.drop a).take j)

theorem vj_zero (l : List Int) (a : Nat) : vj l a 0 = 0 := rfl
theorem vj_succ (l : List Int) (a j : Nat) (h : a + j < l.length) : vj l a (j + 1) = vj l a j + l.getD (a + j) 0 % 128 * 2 ^ (7 * j) := by
  unfold vj
  have hl : j < (l.drop a).length := by rw [List.length_drop]; omega
  rw [List.take_succ_eq_append_getElem hl, valB_snoc, List.length_take, Nat.min_eq_left (by omega)]
  have : (l.drop a)[j] = l.getD (a + j) 0 := by
    rw [← getD_drop, List.getD_eq_getElem?_getD, List.getElem?_eq_getElem hl]; rfl
  rw [this, Int.pow_mul]; rfl
theorem vj_bd (l : List Int) (a j : Nat) : 0 ≤ vj l a j ∧ vj l a j < 2 ^ (7 * j) := by
  have h := valB_bd ((l.drop a).take j)
  refine ⟨h.1, Int.lt_of_lt_of_le h.2 ?_⟩
  rw [Int.pow_mul]
  have : ((l.drop a).take j).length ≤ j := List.length_take_le _ _
  have := Nat.pow_le_pow_right (n := 128) (by decide) this
  exact_mod_cast this
/-- what is read without a sign: number, place, fault; k groups at most, the last one below lim -/
def decU (l : List Int) (a k : Nat) (lim : Int) : Int × Int × Int × Int :=
  if k ≤ mk l a then (0, 0, 3, ((a + (k - 1) : Nat) : Int))
  else if a + mk l a = l.length then (0, 0, 4, (l.length : Int))
  else if mk l a + 1 = k ∧ lim ≤ l.getD (a + mk l a) 0 then (0, 0, 3, ((a + mk l a : Nat) : Int))
  else (vj l a (mk l a + 1), ((a + mk l a + 1 : Nat) : Int), 0, 0)

theorem decU_leb (l : List Int) (a k : Nat) (lim : Int) : k ≤ mk l a → decU l a k lim = (0, 0, 3, ((a + (k - 1) : Nat) : Int)) := fun h => by rw [decU, if_pos h]
theorem decU_end (l : List Int) (a k : Nat) (lim : Int) : mk l a < k → a + mk l a = l.length → decU l a k lim = (0, 0, 4, (l.length : Int)) := fun h h' => by rw [decU, if_neg (by omega), if_pos h']
theorem decU_room (l : List Int) (a k : Nat) (lim : Int) : mk l a + 1 = k → a + mk l a < l.length → lim ≤ l.getD (a + mk l a) 0 → decU l a k lim = (0, 0, 3, ((a + mk l a : Nat) : Int)) := fun h h' h'' => by
  rw [decU, if_neg (by omega), if_neg (by omega), if_pos ⟨h, h''⟩]
theorem decU_ok (l : List Int) (a k : Nat) (lim : Int) : mk l a < k → a + mk l a < l.length → (mk l a + 1 = k → l.getD (a + mk l a) 0 < lim) → decU l a k lim = (vj l a (mk l a + 1), ((a + mk l a + 1 : Nat) : Int), 0, 0) := fun h h' h'' => by
  rw [decU, if_neg (by omega), if_neg (by omega), if_neg (by intro ⟨h1, h2⟩; have := h'' h1; omega)]

/-- where a reading stands: i bytes on, hh bits and t of them -/
def St (l : List Int) (a j i : Nat) (hh t : Int) : Prop := i = a + j ∧ hh = 7 * (j : Int) ∧ t = vj l a j

theorem St.zero (l : List Int) (a : Nat) : St l a 0 a 0 0 := ⟨rfl, rfl, rfl⟩
theorem St.succ {l : List Int} {a j i : Nat} {hh t c : Int} (h : St l a j i hh t) (hi : i < l.length) (hc : c = l.getD i 0) : St l a (j + 1) (i + 1) (hh + 7) (t + c % 128 * 2 ^ hh.toNat) := by
  obtain ⟨rfl, rfl, rfl⟩ := h
  refine ⟨by omega, by omega, ?_⟩
  rw [vj_succ l a j hi, hc, show (7 * (j : Int)).toNat = 7 * j from by omega]
theorem St.bd {l : List Int} {a j i : Nat} {hh t : Int} (h : St l a j i hh t) : 0 ≤ t ∧ t < 2 ^ hh.toNat := by
  obtain ⟨rfl, rfl, rfl⟩ := h
  rw [show (7 * (j : Int)).toNat = 7 * j from by omega]
  exact vj_bd l a j

theorem pow_le {a b : Nat} (h : a ≤ b) : (2 : Int) ^ a ≤ 2 ^ b := by
  have := Nat.pow_le_pow_right (n := 2) (by decide) h
  exact_mod_cast this

/-- the bounds of a step -/
theorem St.step {l : List Int} {a j i : Nat} {hh t c : Int} (h : St l a j i hh t) (hi : i < l.length) (hc : c = l.getD i 0) (h0 : 0 ≤ hh) (h56 : hh ≤ 56) :
    0 ≤ t + c % 128 * 2 ^ hh.toNat ∧ t + c % 128 * 2 ^ hh.toNat < 2 ^ (hh + 7).toNat ∧ t + c % 128 * 2 ^ hh.toNat < 9223372036854775808 ∧ 0 ≤ c % 128 * 2 ^ hh.toNat ∧ c % 128 * 2 ^ hh.toNat < 9223372036854775808 := by
  have h1 := (h.succ hi hc).bd
  have h2 := h.bd
  have h3 : (2:Int) ^ (hh + 7).toNat ≤ 2 ^ 63 := pow_le (by omega)
  have h4 : 0 ≤ c % 128 * 2 ^ hh.toNat := Int.mul_nonneg (by omega) (Int.le_of_lt (Int.pow_pos (by decide)))
  have h5 : (2:Int)^63 = 9223372036854775808 := rfl
  rw [h5] at h3
  refine ⟨h1.1, h1.2, by omega, h4, by omega⟩

theorem decU_fin_end {l : List Int} {a j i k m : Nat} {hh t lim : Int} (h : St l a j i hh t) (hm : m = mk l a) (hi : i ≤ a + m) (hm1 : a + m ≤ l.length) (he : i = l.length) (hk : hh ≤ 7 * (k : Int) - 7) : decU l a k lim = (0, 0, 4, (i : Int)) := by
  obtain ⟨rfl, rfl, rfl⟩ := h
  subst hm
  rw [decU_end l a k lim (by omega) (by omega), he]
theorem decU_fin_ok {l : List Int} {a j i k m : Nat} {hh t lim c : Int} (h : St l a j i hh t) (hm : m = mk l a) (hi : i ≤ a + m) (hi' : i < l.length) (hc : c = l.getD i 0) (hc1 : c < 128) (hk : hh ≤ 7 * (k : Int) - 7) (hl : hh = 7 * (k : Int) - 7 → c < lim)
    (m2 : ∀ j, j < mk l a → 128 ≤ l.getD (a + j) 0) : decU l a k lim = (t + c % 128 * 2 ^ hh.toNat, (i : Int) + 1, 0, 0) := by
  have hs := (h.succ hi' hc).2.2
  obtain ⟨rfl, rfl, rfl⟩ := h
  subst hm
  have hj : j = mk l a := by
    by_cases hj : j < mk l a
    · have := m2 j hj; omega
    · omega
  rw [hs, decU_ok l a k lim (by omega) (by omega) (fun h => by rw [← hj, ← hc]; exact hl (by omega)), hj]
  rfl
theorem decU_fin_leb {l : List Int} {a j i k m : Nat} {hh t lim c : Int} (h : St l a j i hh t) (hm : m = mk l a) (hi : i ≤ a + m) (hi' : i < l.length) (hc : c = l.getD i 0) (hk : hh = 7 * (k : Int) - 7) (hl : lim ≤ c) : decU l a k lim = (0, 0, 3, (i : Int)) := by
  obtain ⟨rfl, rfl, rfl⟩ := h
  subst hm
  by_cases hj : j = mk l a
  · rw [decU_room l a k lim (by omega) (by omega) (by rw [← hj, ← hc]; exact hl), ← hj]
  · rw [decU_leb l a k lim (by omega), show a + (k - 1) = a + j from by omega]
theorem St.on {l : List Int} {a j i m : Nat} {hh t c : Int} (h : St l a j i hh t) (hm : m = mk l a) (hi : i ≤ a + m) (hi' : i < l.length) (hc : c = l.getD i 0) (hc1 : ¬ c < 128) (m3 : a + mk l a < l.length → l.getD (a + mk l a) 0 < 128) : i + 1 ≤ a + m := by
  obtain ⟨rfl, rfl, rfl⟩ := h
  subst hm
  by_cases hj : j = mk l a
  · rw [hj] at hc hi'; have := m3 hi'; omega
  · omega

/-- so many bytes from a place on, as groups of a number with a sign -/
def svj (l : List Int) (a n : Nat) : Int := vj l a n - (if 64 ≤ l.getD (a + n - 1) 0 % 128 then 2 ^ (7 * n) else 0)

def decS (l : List Int) (a k : Nat) (good : Int → Bool) : Int × Int × Int × Int :=
  if k ≤ mk l a then (0, 0, 3, ((a + (k - 1) : Nat) : Int))
  else if a + mk l a = l.length then (0, 0, 4, (l.length : Int))
  else if mk l a + 1 = k ∧ good (l.getD (a + mk l a) 0) = false then (0, 0, 3, ((a + mk l a : Nat) : Int))
  else (svj l a (mk l a + 1), ((a + mk l a + 1 : Nat) : Int), 0, 0)

theorem decS_leb (l : List Int) (a k : Nat) (good : Int → Bool) : k ≤ mk l a → decS l a k good = (0, 0, 3, ((a + (k - 1) : Nat) : Int)) := fun h => by rw [decS, if_pos h]
theorem decS_end (l : List Int) (a k : Nat) (good : Int → Bool) : mk l a < k → a + mk l a = l.length → decS l a k good = (0, 0, 4, (l.length : Int)) := fun h h' => by rw [decS, if_neg (by omega), if_pos h']
theorem decS_room (l : List Int) (a k : Nat) (good : Int → Bool) : mk l a + 1 = k → a + mk l a < l.length → good (l.getD (a + mk l a) 0) = false → decS l a k good = (0, 0, 3, ((a + mk l a : Nat) : Int)) := fun h h' h'' => by
  rw [decS, if_neg (by omega), if_neg (by omega), if_pos ⟨h, h''⟩]
theorem decS_ok (l : List Int) (a k : Nat) (good : Int → Bool) : mk l a < k → a + mk l a < l.length → (mk l a + 1 = k → good (l.getD (a + mk l a) 0) = true) → decS l a k good = (svj l a (mk l a + 1), ((a + mk l a + 1 : Nat) : Int), 0, 0) := fun h h' h'' => by
  rw [decS, if_neg (by omega), if_neg (by omega), if_neg (by intro ⟨h1, h2⟩; rw [h'' h1] at h2; cases h2)]

/-- the value with a sign, of what has been read and one group more -/
def sgn (t c hh : Int) : Int := t + c % 128 * 2 ^ hh.toNat - (if 64 ≤ c % 128 then 128 * 2 ^ hh.toNat else 0)

theorem St.sgn_eq {l : List Int} {a j i : Nat} {hh t c : Int} (h : St l a j i hh t) (hi : i < l.length) (hc : c = l.getD i 0) : svj l a (j + 1) = sgn t c hh := by
  have hs := (h.succ hi hc).2.2
  obtain ⟨rfl, rfl, rfl⟩ := h
  unfold svj sgn
  rw [hs, show a + (j + 1) - 1 = a + j from by omega, ← hc, show 7 * (j + 1) = 7 * j + 7 from by omega, Int.pow_add, show (7 * (j : Int)).toNat = 7 * j from by omega, Int.mul_comm (2 ^ (7 * j))]
  rfl

theorem decS_fin_end {l : List Int} {a j i k m : Nat} {hh t : Int} {good : Int → Bool} (h : St l a j i hh t) (hm : m = mk l a) (hi : i ≤ a + m) (hm1 : a + m ≤ l.length) (he : i = l.length) (hk : hh ≤ 7 * (k : Int) - 7) : decS l a k good = (0, 0, 4, (i : Int)) := by
  obtain ⟨rfl, rfl, rfl⟩ := h
  subst hm
  rw [decS_end l a k good (by omega) (by omega), he]
theorem decS_fin_ok {l : List Int} {a j i k m : Nat} {hh t c : Int} {good : Int → Bool} (h : St l a j i hh t) (hm : m = mk l a) (hi : i ≤ a + m) (hi' : i < l.length) (hc : c = l.getD i 0) (hc1 : c < 128) (hk : hh ≤ 7 * (k : Int) - 7) (hl : hh = 7 * (k : Int) - 7 → good c = true)
    (m2 : ∀ j, j < mk l a → 128 ≤ l.getD (a + j) 0) : decS l a k good = (sgn t c hh, (i : Int) + 1, 0, 0) := by
  rw [← h.sgn_eq hi' hc]
  obtain ⟨rfl, rfl, rfl⟩ := h
  subst hm
  have hj : j = mk l a := by
    by_cases hj : j < mk l a
    · have := m2 j hj; omega
    · omega
  rw [decS_ok l a k good (by omega) (by omega) (fun h => by rw [← hj, ← hc]; exact hl (by omega)), hj]
  rfl
theorem decS_fin_leb {l : List Int} {a j i k m : Nat} {hh t c : Int} {good : Int → Bool} (h : St l a j i hh t) (hm : m = mk l a) (hi : i ≤ a + m) (hi' : i < l.length) (hc : c = l.getD i 0) (hk : hh = 7 * (k : Int) - 7) (hl : good c = false) : decS l a k good = (0, 0, 3, (i : Int)) := by
  obtain ⟨rfl, rfl, rfl⟩ := h
  subst hm
  by_cases hj : j = mk l a
  · rw [decS_room l a k good (by omega) (by omega) (by rw [← hj, ← hc]; exact hl), ← hj]
  · rw [decS_leb l a k good (by omega), show a + (k - 1) = a + j from by omega]

/-- the low bits of what has been read, with their sign -/
theorem bmod_sgn (t c : Int) (n : Nat) (h0 : 0 ≤ t) (h1 : t < 2 ^ n) : Int.bmod (t + c % 128 * 2 ^ n) (2 ^ (n + 7)) = t + c % 128 * 2 ^ n - (if 64 ≤ c % 128 then 128 * 2 ^ n else 0) := by
  have e : ((2 ^ (n + 7) : Nat) : Int) = 128 * 2 ^ n := by rw [Nat.pow_add]; push_cast; rw [Int.mul_comm]
  have hp : (0 : Int) < 2 ^ n := Int.pow_pos (by decide)
  generalize (2 : Int) ^ n = p at *
  obtain ⟨g, hg⟩ : ∃ g, g = c % 128 := ⟨_, rfl⟩
  have g0 : 0 ≤ g := by omega
  have g1 : g ≤ 127 := by omega
  rw [← hg]
  have u0 : 0 ≤ g * p := Int.mul_nonneg g0 (Int.le_of_lt hp)
  have u1 : g * p ≤ 127 * p := Int.mul_le_mul_of_nonneg_right g1 (Int.le_of_lt hp)
  have hmod : (t + g * p) % (128 * p) = t + g * p := Int.emod_eq_of_lt (by omega) (by omega)
  unfold Int.bmod
  simp only [e, hmod]
  by_cases hc : 64 ≤ g
  · have := Int.mul_le_mul_of_nonneg_right hc (Int.le_of_lt hp)
    rw [if_pos hc, if_neg (by omega)]
  · have := Int.mul_le_mul_of_nonneg_right (show g ≤ 63 by omega) (Int.le_of_lt hp)
    rw [if_neg hc, if_pos (by omega)]; omega

theorem bmod_sgn' (t c hh : Int) (hh0 : 0 ≤ hh) (h0 : 0 ≤ t) (h1 : t < 2 ^ hh.toNat) : Int.bmod (t + c % 128 * 2 ^ hh.toNat) (2 ^ (hh + 7).toNat) = sgn t c hh := by
  rw [show (hh + 7).toNat = hh.toNat + 7 from by omega]
  exact bmod_sgn t c hh.toNat h0 h1

open Go.RowKit

def good32 (c : Int) : Bool := decide (c < 8) || (decide (120 ≤ c) && decide (c < 128))
def good64 (c : Int) : Bool := decide (c = 0) || decide (c = 127)
theorem good32_eq (c : Int) (h0 : 0 ≤ c) (h1 : c < 128) : good32 c = (Int.bmod c 128 == Int.bmod c (2 ^ (4 : Int).toNat)) := by
  have e : (2 ^ (4 : Int).toNat : Nat) = 16 := rfl
  rw [e, Bool.eq_iff_iff, beq_iff_eq]
  unfold good32 Int.bmod
  simp only [Bool.or_eq_true, Bool.and_eq_true, decide_eq_true_eq]
  omega
theorem good64_eq (c : Int) (h0 : 0 ≤ c) (h1 : c < 128) : good64 c = (Int.bmod c 128 == Int.bmod c (2 ^ (1 : Int).toNat)) := by
  have e : (2 ^ (1 : Int).toNat : Nat) = 2 := rfl
  rw [e, Bool.eq_iff_iff, beq_iff_eq]
  unfold good64 Int.bmod
  simp only [Bool.or_eq_true, decide_eq_true_eq]
  omega

theorem bits_or_i64 (a b : Int) (ha0 : 0 ≤ a) (ha : a < 9223372036854775808) (hb0 : 0 ≤ b) (hb : b < 9223372036854775808) : bits .or .i64 a b = ((a.toNat ||| b.toNat : Nat) : Int) := by
  obtain ⟨a, rfl⟩ := Int.eq_ofNat_of_zero_le ha0
  obtain ⟨b, rfl⟩ := Int.eq_ofNat_of_zero_le hb0
  have hx : a ||| b < 2 ^ 63 := Nat.or_lt_two_pow (by omega) (by omega)
  have h1 : (BitVec.ofInt 64 (a : Int)).toNat = a := by
    rw [BitVec.ofInt_natCast, BitVec.toNat_ofNat]; exact Nat.mod_eq_of_lt (by omega)
  have h2 : (BitVec.ofInt 64 (b : Int)).toNat = b := by
    rw [BitVec.ofInt_natCast, BitVec.toNat_ofNat]; exact Nat.mod_eq_of_lt (by omega)
  show IntKind.i64.wrap ((BitVec.ofInt 64 (a : Int) ||| BitVec.ofInt 64 (b : Int)).toNat : Int) = _
  rw [BitVec.toNat_or, h1, h2, IntKind.wrap_i64, Int.toNat_natCast, Int.toNat_natCast]
  omega

theorem bits_or_i64_top (a : Int) (ha0 : 0 ≤ a) (ha : a < 9223372036854775808) : bits .or .i64 a (-9223372036854775808) = a - 9223372036854775808 := by
  obtain ⟨a, rfl⟩ := Int.eq_ofNat_of_zero_le ha0
  have h1 : (BitVec.ofInt 64 (a : Int)).toNat = a := by
    rw [BitVec.ofInt_natCast, BitVec.toNat_ofNat]; exact Nat.mod_eq_of_lt (by omega)
  have h2 : (BitVec.ofInt 64 (-9223372036854775808)).toNat = 2 ^ 63 * 1 := by decide
  show IntKind.i64.wrap ((BitVec.ofInt 64 (a : Int) ||| BitVec.ofInt 64 (-9223372036854775808)).toNat : Int) = _
  rw [BitVec.toNat_or, h1, h2, Nat.or_comm, ← Nat.two_pow_add_eq_or_of_lt (by omega) 1, IntKind.wrap_i64]
  omega
end Go.Proofs.YtgcmdnkmnghhaaaGreatDoor.lb

/- The contracts of leb.fitsLast and leb.read: what is read of any bytes. -/
namespace Go.Proofs.YtgcmdnkmnghhaaaGreatDoor.lb
open Go.RowKit

set_option maxHeartbeats 400000 in
theorem fitsU_any (c r : Int) (w : World) (h0 : 0 ≤ c) (h1 : c < 256) (hr : 1 ≤ r) (hr' : r ≤ 6) (ok : Bool) (hok : ok = decide (c < 2 ^ r.toNat)) :
    Calls Tryz.prog 234 #[.int .u8 c, .int .i64 r] w fun e w' => e = .returned (.bool ok) ∧ w = w' := by
  have hp : (2:Int) ^ r.toNat ≤ 64 := by
    have : r.toNat = 1 ∨ r.toNat = 2 ∨ r.toNat = 3 ∨ r.toNat = 4 ∨ r.toNat = 5 ∨ r.toNat = 6 := by omega
    rcases this with h | h | h | h | h | h <;> rw [h] <;> decide
  have hb := b8_and128 c h0 h1
  by_cases hc : c < 128
  · rw [if_pos hc] at hb
    have Hok : Hid (ok = (c % 128 == c % 2 ^ r.toNat)) := by
      show _ = _
      rw [hok, Bool.eq_iff_iff, decide_eq_true_eq, beq_iff_eq]
      have := Int.emod_lt_of_pos c (show (0:Int) < 2 ^ r.toNat from Int.pow_pos (by decide))
      have := Int.emod_nonneg c (show (2:Int) ^ r.toNat ≠ 0 from Int.ne_of_gt (Int.pow_pos (by decide)))
      rw [Int.emod_eq_of_lt h0 hc]
      constructor
      · intro h; exact (Int.emod_eq_of_lt h0 h).symm
      · intro h; omega
    clear hok hp
    go_enter Tryz.func234, Tryz.ntmps234
    go_wp2_with (go_at_call 231; refine (lowU_any _ _ _ (by omega) (by omega)).mono ?_; rintro e w' ⟨rfl, rfl⟩)
    go_ret
    exact ⟨by rw [Hok.out]; rfl, rfl⟩
  · rw [if_neg hc] at hb
    obtain rfl : ok = false := by rw [hok]; simp; omega
    clear hok hp
    go_enter Tryz.func234, Tryz.ntmps234
    go_wp2
    go_ret
    exact ⟨rfl, rfl⟩

/-- the results of a reading: number, place, fault -/
def res (kind : IntKind) (r : Int × Int × Int × Int) : Ending := .returned (.tuple #[.int kind r.1, .int .i64 r.2.1, .agg #[.int .i64 r.2.2.1, .int .i64 r.2.2.2, .int .i64 0]])

set_option maxHeartbeats 2000000 in
theorem readU_32 (v : Value) (l : List Int) (a : Nat) (w : World) (hv : Rd w v l) (hr : ∀ x ∈ l, 0 ≤ x ∧ x < 256) (hl : l.length ≤ 281474976710656) (ha : a ≤ l.length) :
    Calls Tryz.prog 218 #[v, .int .i64 a, .int .i64 32] w fun e w' => e = res .u64 (decU l a 5 16) ∧ Below w.heap.size w w' := by
  obtain ⟨ao, cap, rfl, hcap, _, hcells⟩ := hv
  obtain ⟨m1, m2, m3⟩ := mk_spec l a ha
  obtain ⟨m, hm⟩ : ∃ m, m = mk l a := ⟨_, rfl⟩
  rw [← hm] at m1
  have Hm := Lib.hid hm
  have Hcells := Lib.hid hcells
  have M2 := Lib.hid m2
  have M3 := Lib.hid m3
  have Hr := Lib.hid hr
  clear hcells m2 m3 hr hm
  have ha0 : decide ((a : Int) < 0) = false := by rw [decide_eq_false_iff_not]; omega
  have ha1 : decide (l.length < a) = false := by rw [decide_eq_false_iff_not]; omega
  go_enter Tryz.func218, Tryz.ntmps218
  go_wp2
  go_loop [1, 9, 10] (fun x n h => ∃ (i j : Nat) (t hh : Int), St l a j i hh t ∧ i ≤ a + m ∧ hh ≤ 28 ∧ 0 ≤ hh ∧ 0 ≤ t ∧ t < 18446744073709551616 ∧ x = .int .i64 i ∧ n = .int .u64 t ∧ h = .int .i64 hh) (fun _ _ h => (70 - intOf h).toNat)
  case atStart => exact ⟨a, 0, 0, 0, St.zero l a, by omega, by omega, by omega, by omega, by omega, rfl, rfl, rfl⟩
  case round =>
    obtain ⟨i, j, t, hh, HE, hi, hh1, hh0, ht0, ht1, rfl, rfl, rfl⟩ := hrel
    by_cases hc : i = l.length
    · have hq : ((i : Int) == (l.length : Int)) = true := by rw [beq_iff_eq]; omega
      have HD := Lib.hid (decU_fin_end (k := 5) (lim := 16) HE Hm.out hi m1 hc (by omega))
      clear hc
      go_wp2
      exact bodyPost_ret (v := .tuple #[.int .u64 0, .int .i64 0, .agg #[.int .i64 4, .int .i64 i, .int .i64 0]]) (by simp [results, Tryz.results218, go_sem]) rfl ⟨by rw [HD.out]; rfl, (Below.refl _ _).alloc (Nat.le_refl _) _⟩
    · have hlt : i < l.length := by omega
      have hq : ((i : Int) == (l.length : Int)) = false := by rw [beq_eq_false_iff_ne]; omega
      clear hc
      obtain ⟨b, off, rfl, hcell⟩ : ∃ b off, ao = some ⟨b, off, none⟩ ∧ w.cell? ⟨b, off + i, none⟩ = some (.int .u8 (l.getD i 0)) := by
        rcases Hcells.out with h | ⟨b, off, rfl, h⟩
        · subst h; simp at hlt
        · exact ⟨b, off, rfl, h i hlt⟩
      have hbs := World.block_lt_of_cell? w _ hcell
      obtain ⟨c, hcc⟩ : ∃ c, c = l.getD i 0 := ⟨_, rfl⟩
      rw [← hcc] at hcell
      have hc0 : 0 ≤ c ∧ c < 256 := by
        rw [hcc, List.getD_eq_getElem?_getD, List.getElem?_eq_getElem hlt]; exact Hr.out _ (List.getElem_mem hlt)
      obtain ⟨hc0, hc1⟩ := hc0
      have hb7 := b8_and127 c hc0 hc1
      have hb := b8_and128 c hc0 hc1
      obtain ⟨t', ht'⟩ : ∃ t', t' = t + c % 128 * 2 ^ hh.toNat := ⟨_, rfl⟩
      have HS := HE.succ hlt hcc
      have HB := HE.bd
      have Hon := fun h => HE.on Hm.out hi hlt hcc h M3.out
      have Hcc := Lib.hid hcc
      have HT := Lib.hid ht'
      have HON := Lib.hid Hon
      rw [← ht'] at HS
      clear hcc ht' Hon
      by_cases hj : hh ≤ 21
      · have hst := HE.step hlt Hcc.out hh0 (by omega)
        rw [← HT.out] at hst
        obtain ⟨hs0, hs1, hs2, hs3, hs4⟩ := hst
        have hor : bits BinOp.or IntKind.u64 t (IntKind.u64.wrap (c % 128 * 2 ^ hh.toNat)) = t' := by
          rw [wrap_u64, Int.emod_eq_of_lt hs3 (by omega), u64_or t _ ht0 ht1 hs3 (by omega), or_add _ _ _ ht0 HB.2 (by omega), ← HT.out]
        have HM : Hid (t' % 2 ^ (hh + 7).toNat = t') := Int.emod_eq_of_lt hs0 hs1
        have ht'1 : t' < 18446744073709551616 := by omega
        clear HB hs1 hs3 hs4
        by_cases hm : c < 128
        · rw [if_pos hm] at hb
          have HD := Lib.hid (decU_fin_ok (k := 5) (lim := 16) HE Hm.out hi hlt Hcc.out hm (by omega) (by omega) M2.out)
          rw [← HT.out] at HD
          go_wp2_with (go_at_call 231; refine (lowU_any _ _ _ (by omega) (by omega)).mono ?_; rintro e w' ⟨rfl, rfl⟩)
          exact bodyPost_ret (v := .tuple #[.int .u64 (t' % 2 ^ (hh + 7).toNat), .int .i64 (i + 1), .agg #[.int .i64 0, .int .i64 0, .int .i64 0]]) (by simp [results, Tryz.results218, go_sem]) rfl ⟨by rw [HD.out, HM.out]; rfl, (Below.refl _ _).alloc (Nat.le_refl _) _⟩
        · rw [if_neg hm] at hb
          have hon := HON.out hm
          clear HM
          go_wp2
          go_round
          case rel => exact ⟨i + 1, j + 1, t', hh + 7, HS, hon, by omega, by omega, hs0, ht'1, by go_num, rfl, rfl⟩
          case measure => simp [intOf]; omega
      · have Hlast : Hid (hh = 28) := by
          show _ = _
          have := HE.2.1
          omega
        by_cases hfit : c < 16
        · have hfb : true = decide (c < 2 ^ (4 : Int).toNat) := by simp; omega
          have hm : c < 128 := by omega
          rw [if_pos hm] at hb
          have HD := Lib.hid (decU_fin_ok (k := 5) (lim := 16) HE Hm.out hi hlt Hcc.out hm (by omega) (fun _ => hfit) M2.out)
          rw [← HT.out] at HD
          have hpn : (2 : Int) ^ (28 : Nat) = 268435456 := rfl
          have hp : (2 : Int) ^ hh.toNat = 268435456 := by rw [Hlast.out]; exact hpn
          have hB2 := HB.2
          rw [hp] at hB2
          have hcm : c % 128 = c := Int.emod_eq_of_lt hc0 hm
          have HT2 : Hid (t' = t + c * 268435456) := by show _ = _; rw [HT.out, hp, hcm]
          have hor : bits BinOp.or IntKind.u64 t (c % 128 * 268435456) = t' := by
            rw [hcm, u64_or t _ ht0 ht1 (by omega) (by omega), HT2.out]
            have h := or_add t c 28 ht0 (by rw [hpn]; exact hB2) hc0
            rw [hpn] at h
            exact h
          have ht'0 : 0 ≤ t' := by have := HT2.out; omega
          have ht'1 : t' < 18446744073709551616 := by have := HT2.out; omega
          have ht'2 : t' < 34359738368 := by have := HT2.out; omega
          have HM : Hid (t' % 34359738368 = t') := Int.emod_eq_of_lt ht'0 ht'2
          have Hfb := Lib.hid hfb
          clear hpn hp hB2 hcm HT HT2 HB ht'2 hfb
          obtain rfl := Hlast.out
          go_wp2_with (first
            | (go_at_call 231; refine (lowU_any _ _ _ (by omega) (by omega)).mono ?_; rintro e w' ⟨rfl, rfl⟩)
            | (go_at_call 234; refine (fitsU_any _ _ _ (by omega) (by omega) (by omega) (by omega) true Hfb.out).mono ?_; rintro e w' ⟨rfl, rfl⟩))
          exact bodyPost_ret (v := .tuple #[.int .u64 (t' % 34359738368), .int .i64 (i + 1), .agg #[.int .i64 0, .int .i64 0, .int .i64 0]]) (by simp [results, Tryz.results218, go_sem]) rfl ⟨by rw [HD.out, HM.out]; rfl, (Below.refl _ _).alloc (Nat.le_refl _) _⟩
        · have hfb : false = decide (c < 2 ^ (4 : Int).toNat) := by simp; omega
          have HD := Lib.hid (decU_fin_leb (k := 5) (lim := 16) HE Hm.out hi hlt Hcc.out (by have := Hlast.out; omega) (by omega))
          have Hfb := Lib.hid hfb
          clear hfb
          obtain rfl := Hlast.out
          go_wp2_with (go_at_call 234; refine (fitsU_any _ _ _ (by omega) (by omega) (by omega) (by omega) false Hfb.out).mono ?_; rintro e w' ⟨rfl, rfl⟩)
          exact bodyPost_ret (v := .tuple #[.int .u64 0, .int .i64 0, .agg #[.int .i64 3, .int .i64 i, .int .i64 0]]) (by simp [results, Tryz.results218, go_sem]) rfl ⟨by rw [HD.out]; rfl, (Below.refl _ _).alloc (Nat.le_refl _) _⟩

set_option maxHeartbeats 2000000 in
theorem readU_64 (v : Value) (l : List Int) (a : Nat) (w : World) (hv : Rd w v l) (hr : ∀ x ∈ l, 0 ≤ x ∧ x < 256) (hl : l.length ≤ 281474976710656) (ha : a ≤ l.length) :
    Calls Tryz.prog 218 #[v, .int .i64 a, .int .i64 64] w fun e w' => e = res .u64 (decU l a 10 2) ∧ Below w.heap.size w w' := by
  obtain ⟨ao, cap, rfl, hcap, _, hcells⟩ := hv
  obtain ⟨m1, m2, m3⟩ := mk_spec l a ha
  obtain ⟨m, hm⟩ : ∃ m, m = mk l a := ⟨_, rfl⟩
  rw [← hm] at m1
  have Hm := Lib.hid hm
  have Hcells := Lib.hid hcells
  have M2 := Lib.hid m2
  have M3 := Lib.hid m3
  have Hr := Lib.hid hr
  clear hcells m2 m3 hr hm
  have ha0 : decide ((a : Int) < 0) = false := by rw [decide_eq_false_iff_not]; omega
  have ha1 : decide (l.length < a) = false := by rw [decide_eq_false_iff_not]; omega
  go_enter Tryz.func218, Tryz.ntmps218
  go_wp2
  go_loop [1, 9, 10] (fun x n h => ∃ (i j : Nat) (t hh : Int), St l a j i hh t ∧ i ≤ a + m ∧ hh ≤ 63 ∧ 0 ≤ hh ∧ 0 ≤ t ∧ t < 18446744073709551616 ∧ x = .int .i64 i ∧ n = .int .u64 t ∧ h = .int .i64 hh) (fun _ _ h => (70 - intOf h).toNat)
  case atStart => exact ⟨a, 0, 0, 0, St.zero l a, by omega, by omega, by omega, by omega, by omega, rfl, rfl, rfl⟩
  case round =>
    obtain ⟨i, j, t, hh, HE, hi, hh1, hh0, ht0, ht1, rfl, rfl, rfl⟩ := hrel
    by_cases hc : i = l.length
    · have hq : ((i : Int) == (l.length : Int)) = true := by rw [beq_iff_eq]; omega
      have HD := Lib.hid (decU_fin_end (k := 10) (lim := 2) HE Hm.out hi m1 hc (by omega))
      clear hc
      go_wp2
      exact bodyPost_ret (v := .tuple #[.int .u64 0, .int .i64 0, .agg #[.int .i64 4, .int .i64 i, .int .i64 0]]) (by simp [results, Tryz.results218, go_sem]) rfl ⟨by rw [HD.out]; rfl, (Below.refl _ _).alloc (Nat.le_refl _) _⟩
    · have hlt : i < l.length := by omega
      have hq : ((i : Int) == (l.length : Int)) = false := by rw [beq_eq_false_iff_ne]; omega
      clear hc
      obtain ⟨b, off, rfl, hcell⟩ : ∃ b off, ao = some ⟨b, off, none⟩ ∧ w.cell? ⟨b, off + i, none⟩ = some (.int .u8 (l.getD i 0)) := by
        rcases Hcells.out with h | ⟨b, off, rfl, h⟩
        · subst h; simp at hlt
        · exact ⟨b, off, rfl, h i hlt⟩
      have hbs := World.block_lt_of_cell? w _ hcell
      obtain ⟨c, hcc⟩ : ∃ c, c = l.getD i 0 := ⟨_, rfl⟩
      rw [← hcc] at hcell
      have hc0 : 0 ≤ c ∧ c < 256 := by
        rw [hcc, List.getD_eq_getElem?_getD, List.getElem?_eq_getElem hlt]; exact Hr.out _ (List.getElem_mem hlt)
      obtain ⟨hc0, hc1⟩ := hc0
      have hb7 := b8_and127 c hc0 hc1
      have hb := b8_and128 c hc0 hc1
      obtain ⟨t', ht'⟩ : ∃ t', t' = t + c % 128 * 2 ^ hh.toNat := ⟨_, rfl⟩
      have HS := HE.succ hlt hcc
      have HB := HE.bd
      have Hon := fun h => HE.on Hm.out hi hlt hcc h M3.out
      have Hcc := Lib.hid hcc
      have HT := Lib.hid ht'
      have HON := Lib.hid Hon
      rw [← ht'] at HS
      clear hcc ht' Hon
      by_cases hj : hh ≤ 56
      · have hst := HE.step hlt Hcc.out hh0 (by omega)
        rw [← HT.out] at hst
        obtain ⟨hs0, hs1, hs2, hs3, hs4⟩ := hst
        have hor : bits BinOp.or IntKind.u64 t (IntKind.u64.wrap (c % 128 * 2 ^ hh.toNat)) = t' := by
          rw [wrap_u64, Int.emod_eq_of_lt hs3 (by omega), u64_or t _ ht0 ht1 hs3 (by omega), or_add _ _ _ ht0 HB.2 (by omega), ← HT.out]
        have HM : Hid (t' % 2 ^ (hh + 7).toNat = t') := Int.emod_eq_of_lt hs0 hs1
        have ht'1 : t' < 18446744073709551616 := by omega
        clear HB hs1 hs3 hs4
        by_cases hm : c < 128
        · rw [if_pos hm] at hb
          have HD := Lib.hid (decU_fin_ok (k := 10) (lim := 2) HE Hm.out hi hlt Hcc.out hm (by omega) (by omega) M2.out)
          rw [← HT.out] at HD
          go_wp2_with (go_at_call 231; refine (lowU_any _ _ _ (by omega) (by omega)).mono ?_; rintro e w' ⟨rfl, rfl⟩)
          exact bodyPost_ret (v := .tuple #[.int .u64 (t' % 2 ^ (hh + 7).toNat), .int .i64 (i + 1), .agg #[.int .i64 0, .int .i64 0, .int .i64 0]]) (by simp [results, Tryz.results218, go_sem]) rfl ⟨by rw [HD.out, HM.out]; rfl, (Below.refl _ _).alloc (Nat.le_refl _) _⟩
        · rw [if_neg hm] at hb
          have hon := HON.out hm
          clear HM
          go_wp2
          go_round
          case rel => exact ⟨i + 1, j + 1, t', hh + 7, HS, hon, by omega, by omega, hs0, ht'1, by go_num, rfl, rfl⟩
          case measure => simp [intOf]; omega
      · have Hlast : Hid (hh = 63) := by
          show _ = _
          have := HE.2.1
          omega
        by_cases hfit : c < 2
        · have hfb : true = decide (c < 2 ^ (1 : Int).toNat) := by simp; omega
          have hm : c < 128 := by omega
          rw [if_pos hm] at hb
          have HD := Lib.hid (decU_fin_ok (k := 10) (lim := 2) HE Hm.out hi hlt Hcc.out hm (by omega) (fun _ => hfit) M2.out)
          rw [← HT.out] at HD
          have hpn : (2 : Int) ^ (63 : Nat) = 9223372036854775808 := rfl
          have hp : (2 : Int) ^ hh.toNat = 9223372036854775808 := by rw [Hlast.out]; exact hpn
          have hB2 := HB.2
          rw [hp] at hB2
          have hcm : c % 128 = c := Int.emod_eq_of_lt hc0 hm
          have HT2 : Hid (t' = t + c * 9223372036854775808) := by show _ = _; rw [HT.out, hp, hcm]
          have hor : bits BinOp.or IntKind.u64 t (c % 128 * 9223372036854775808) = t' := by
            rw [hcm, u64_or t _ ht0 ht1 (by omega) (by omega), HT2.out]
            have h := or_add t c 63 ht0 (by rw [hpn]; exact hB2) hc0
            rw [hpn] at h
            exact h
          have ht'0 : 0 ≤ t' := by have := HT2.out; omega
          have ht'1 : t' < 18446744073709551616 := by have := HT2.out; omega
          have ht'2 : t' < 18446744073709551616 := by have := HT2.out; omega
          have HM : Hid (t' % 18446744073709551616 = t') := Int.emod_eq_of_lt ht'0 ht'2
          have Hfb := Lib.hid hfb
          clear hpn hp hB2 hcm HT HT2 HB ht'2 hfb
          obtain rfl := Hlast.out
          go_wp2_with (first
            | (go_at_call 231; refine (lowU_any _ _ _ (by omega) (by omega)).mono ?_; rintro e w' ⟨rfl, rfl⟩)
            | (go_at_call 234; refine (fitsU_any _ _ _ (by omega) (by omega) (by omega) (by omega) true Hfb.out).mono ?_; rintro e w' ⟨rfl, rfl⟩))
          exact bodyPost_ret (v := .tuple #[.int .u64 (t' % 18446744073709551616), .int .i64 (i + 1), .agg #[.int .i64 0, .int .i64 0, .int .i64 0]]) (by simp [results, Tryz.results218, go_sem]) rfl ⟨by rw [HD.out, HM.out]; rfl, (Below.refl _ _).alloc (Nat.le_refl _) _⟩
        · have hfb : false = decide (c < 2 ^ (1 : Int).toNat) := by simp; omega
          have HD := Lib.hid (decU_fin_leb (k := 10) (lim := 2) HE Hm.out hi hlt Hcc.out (by have := Hlast.out; omega) (by omega))
          have Hfb := Lib.hid hfb
          clear hfb
          obtain rfl := Hlast.out
          go_wp2_with (go_at_call 234; refine (fitsU_any _ _ _ (by omega) (by omega) (by omega) (by omega) false Hfb.out).mono ?_; rintro e w' ⟨rfl, rfl⟩)
          exact bodyPost_ret (v := .tuple #[.int .u64 0, .int .i64 0, .agg #[.int .i64 3, .int .i64 i, .int .i64 0]]) (by simp [results, Tryz.results218, go_sem]) rfl ⟨by rw [HD.out]; rfl, (Below.refl _ _).alloc (Nat.le_refl _) _⟩
end Go.Proofs.YtgcmdnkmnghhaaaGreatDoor.lb
