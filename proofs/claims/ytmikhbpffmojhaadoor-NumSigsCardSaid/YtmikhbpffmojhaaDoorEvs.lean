/- What an operator answers, told for one run of operators at a time. -/
import Derived.Test.YtmikhbpffmojhaaDoorLaw
set_option linter.unusedVariables false
namespace Go.Proofs.YtmikhbpffmojhaaDoor.nm

theorem ev2_of {op k : Int} {a b : Int} {r : Rn} {W A : Nat} (h : runAt op = some r) (ht : r.takes = 2) (hW : wd r.of = W) (hA : wd r.answers = A) (hk : op - r.first + r.like = k) (hf : [a, b].all (fits r.of) = true) :
    ev op [a, b] = if trapOf k W a b = 0 then (raw2 k W a b % 2 ^ A, 0) else (0, trapOf k W a b) := by
  subst hW hA hk; exact ev_two h ht hf
theorem ev1_of {op k : Int} {a : Int} {r : Rn} {W A : Nat} (h : runAt op = some r) (ht : r.takes = 1) (hW : wd r.of = W) (hA : wd r.answers = A) (hk : op - r.first + r.like = k) (hf : [a].all (fits r.of) = true) :
    ev op [a] = (raw1 k W a % 2 ^ A, 0) := by
  subst hW hA hk; exact ev_one h ht hf

open Go.RowKit in
theorem Eval2g (op a b : Int) (w : World) (g : Nat) (hg : g = w.heap.size) (L : Laid w) (ha : 0 ≤ a ∧ a < 18446744073709551616) (hb : 0 ≤ b ∧ b < 18446744073709551616) (t : TypeId) :
    Calls Tryd.prog 20 #[.int .i64 op, .slice (some ⟨g, 0, none⟩) 2 2] (w.alloc (.cells #[.int .u64 a, .int .u64 b] t)) fun e w' => e = .returned (.tuple #[.int .u64 (ev op [a, b]).1, .int .i64 (ev op [a, b]).2]) ∧ Below w.heap.size w w' := by
  subst hg; exact Eval2 op a b w L ha hb t

theorem fits64 (l : List Int) : l.all (fits 126) = true := by
  rw [List.all_eq_true]; intro x _; rfl
theorem fits32 {a b : Int} (ha : a < 4294967296) (hb : b < 4294967296) : [a, b].all (fits 127) = true := by
  have h : ∀ x : Int, x < 4294967296 → fits 127 x = true := fun x hx => decide_eq_true hx
  simp [h a ha, h b hb]

/-- the sums of 64 bits -/
theorem ev64 {op k : Int} (a b : Int) (h : 124 ≤ op) (h' : op ≤ 138) (hk : op - 18 = k) : ev op [a, b] = if trapOf k 64 a b = 0 then (raw2 k 64 a b % 18446744073709551616, 0) else (0, trapOf k 64 a b) := by
  have hr : runAt op = some ((124, 138, 106, 126, 2, 126) : Rn) := by
    have ho : op = 124 ∨ op = 125 ∨ op = 126 ∨ op = 127 ∨ op = 128 ∨ op = 129 ∨ op = 130 ∨ op = 131 ∨ op = 132 ∨ op = 133 ∨ op = 134 ∨ op = 135 ∨ op = 136 ∨ op = 137 ∨ op = 138 := by omega
    rcases ho with rfl | rfl | rfl | rfl | rfl | rfl | rfl | rfl | rfl | rfl | rfl | rfl | rfl | rfl | rfl <;> rfl
  exact ev2_of (r := ((124, 138, 106, 126, 2, 126) : Rn)) (A := 64) hr rfl rfl rfl (by simp only [Rn.first, Rn.like]; omega) (fits64 _)
/-- the sums of 32 bits -/
theorem ev32 {op : Int} (a b : Int) (h : 106 ≤ op) (h' : op ≤ 120) (ha : a < 4294967296) (hb : b < 4294967296) : ev op [a, b] = if trapOf op 32 a b = 0 then (raw2 op 32 a b % 4294967296, 0) else (0, trapOf op 32 a b) := by
  have hr : runAt op = some ((106, 120, 106, 127, 2, 127) : Rn) := by
    have ho : op = 106 ∨ op = 107 ∨ op = 108 ∨ op = 109 ∨ op = 110 ∨ op = 111 ∨ op = 112 ∨ op = 113 ∨ op = 114 ∨ op = 115 ∨ op = 116 ∨ op = 117 ∨ op = 118 ∨ op = 119 ∨ op = 120 := by omega
    rcases ho with rfl | rfl | rfl | rfl | rfl | rfl | rfl | rfl | rfl | rfl | rfl | rfl | rfl | rfl | rfl <;> rfl
  exact ev2_of (r := ((106, 120, 106, 127, 2, 127) : Rn)) (A := 32) hr rfl rfl rfl (by simp only [Rn.first, Rn.like]; omega) (fits32 ha hb)

theorem turnRaw_mod (w a k : Nat) (hw : w ≤ 64) (ha : a < 2 ^ w) (hk : k ≤ w) : turnRaw w (a : Int) k % 2 ^ w = (rot w a k : Int) := by
  have hr := rot_lt w a k ha hk
  have hq : a / 2 ^ (w - k) < 2 ^ k := Nat.div_lt_of_lt_mul (by rw [← Nat.pow_add, show w - k + k = w from by omega]; exact ha)
  have h64 : 2 ^ 64 = 2 ^ (64 - k) * 2 ^ k := by rw [← Nat.pow_add]; congr 1; omega
  have hx : a * 2 ^ k % 2 ^ 64 % 2 ^ k = 0 := by rw [h64, Nat.mul_mod_mul_right]; exact Nat.mul_mod_left _ _
  have hd : 2 ^ w ∣ 2 ^ 64 := Nat.pow_dvd_pow 2 hw
  unfold turnRaw
  rw [Int.toNat_natCast, nat_join k _ _ hx hq]
  have e : (a * 2 ^ k % 2 ^ 64 + a / 2 ^ (w - k)) % 2 ^ w = rot w a k := by
    rw [← Nat.mod_add_mod, Nat.mod_mod_of_dvd _ hd]
    exact Nat.mod_eq_of_lt hr
  rw [← e, Int.natCast_emod, Int.natCast_pow]; rfl

theorem ev_rotl (a b : Nat) (ha : a < 2 ^ 64) : ev 137 [(a : Int), (b : Int)] = ((rot 64 a (b % 64) : Int), 0) := by
  rw [ev64 (k := 119) _ _ (by decide) (by decide) rfl, if_pos (show trapOf 119 64 _ _ = 0 from rfl)]
  show (turnRaw 64 a ((b : Int) % 64).toNat % 2 ^ 64, (0 : Int)) = _
  rw [show ((b : Int) % 64).toNat = b % 64 from by omega, turnRaw_mod 64 a (b % 64) (by decide) ha (by omega)]
theorem ev_rotr (a b : Nat) (ha : a < 2 ^ 64) : ev 138 [(a : Int), (b : Int)] = ((rot 64 a (64 - b % 64) : Int), 0) := by
  rw [ev64 (k := 120) _ _ (by decide) (by decide) rfl, if_pos (show trapOf 120 64 _ _ = 0 from rfl)]
  show (turnRaw 64 a (64 - ((b : Int) % 64).toNat) % 2 ^ 64, (0 : Int)) = _
  rw [show ((b : Int) % 64).toNat = b % 64 from by omega, turnRaw_mod 64 a (64 - b % 64) (by decide) ha (by omega)]
theorem ev_pop (a : Nat) : ev 123 [(a : Int)] = ((pop 64 a : Int), 0) := by
  rw [ev1_of (r := ((121, 123, 103, 126, 1, 126) : Rn)) (W := 64) (A := 64) (k := 105) rfl rfl rfl rfl rfl (fits64 _)]
  have := pop_le 64 a
  show (((pop 64 (a : Int).toNat : Nat) : Int) % 2 ^ 64, (0 : Int)) = _
  rw [Int.toNat_natCast, show (2 : Int) ^ 64 = 18446744073709551616 from rfl, Int.emod_eq_of_lt (by omega) (by omega)]

end Go.Proofs.YtmikhbpffmojhaaDoor.nm
