/- The contracts of the document's answer for layer 2: counts of bits, turns. -/
import Derived.Test.YtmikhbpffmojhaaDoorRefB
set_option linter.unusedVariables false
namespace Go.Proofs.YtmikhbpffmojhaaDoor.nm
open Go.RowKit

/-- turned once by the document's step -/
theorem turn_step (d a k : Nat) (hd : d = 32 ∨ d = 64) (ha : a < 2 ^ d) (hk : k < d) : turnRaw d (rot d a k : Int) 1 % 2 ^ d = (rot d a (k + 1) : Int) := by
  have hr := rot_lt d a k ha (by omega)
  rw [turnRaw_mod d (rot d a k) 1 (by omega) hr (by omega), rot_step d a k ha hk]
  rfl

set_option maxHeartbeats 1000000 in
theorem turned_any (a k d : Nat) (w : World) (hd : d = 32 ∨ d = 64) (ha : a < 2 ^ d) (hk : k ≤ d) : Same 52 #[.int .u64 a, .int .i64 k, .int .i64 d] w (.int .u64 (rot d a k : Int)) := by
  unfold Same
  have HS := Lib.hid (fun j hj => turn_step d a j hd ha hj)
  have HR := Lib.hid (fun j (hj : j ≤ d) => rot_lt d a j ha hj)
  have H0 := Lib.hid (rot_zero d a ha)
  have HL := Lib.hid (fun n w' h0 h1 => refLow_any (d : Int) n w' (by omega) h0 h1)
  have hp : (2 : Nat) ^ d ≤ 18446744073709551616 := by rcases hd with rfl | rfl <;> decide
  have Hp := Lib.hid hp
  clear ha hp
  go_enter Tryd.func52, Tryd.ntmps52
  go_wp2
  go_loop [0, 7] (fun x y => ∃ j : Nat, y = .int .i64 j ∧ j ≤ k ∧ x = .int .u64 (rot d a j : Int)) (fun _ y => k - (intOf y).toNat)
  case atStart => exact ⟨0, rfl, by omega, by rw [H0.out]⟩
  case round =>
    obtain ⟨j, rfl, hj, rfl⟩ := hrel
    by_cases hc : j < k
    · have hr := HR.out j (by omega)
      have hs := HS.out j (by omega)
      have hs' : turnRaw d (rot d a j : Int) 1 % 2 ^ ((d : Int)).toNat = (rot d a (j + 1) : Int) := by rw [Int.toNat_natCast]; exact hs
      generalize rot d a j = r at hr hs hs'
      have hp := Hp.out
      have hx : bits .or .u64 (IntKind.u64.wrap ((r : Int) * 2)) ((r : Int) / 2 ^ (d - 1)) = turnRaw d (r : Int) 1 := by
        have e1 : IntKind.u64.wrap ((r : Int) * 2) = ((r * 2 ^ 1 % 2 ^ 64 : Nat) : Int) := by rw [IntKind.wrap_u64]; omega
        have e2 : (r : Int) / 2 ^ (d - 1) = ((r / 2 ^ (d - 1) : Nat) : Int) := by rw [Int.natCast_ediv, Int.natCast_pow]; rfl
        rw [e1, e2, u64_or_nat _ _ (Nat.mod_lt _ (by decide)) (Nat.lt_of_le_of_lt (Nat.div_le_self _ _) (by omega))]
        rfl
      have t1 : (0 : Int) ≤ (d : Int) - 1 := by omega
      have hrg := turn_range d (r : Int) 1 (by omega) (by omega)
      generalize turnRaw d (r : Int) 1 = x at hx hs' hrg
      have HX := Lib.hid (fun w' => hs' ▸ HL.out x w' hrg.1 hrg.2)
      clear hr hs hs' hp hrg HL
      go_wp2_with (go_at_call 41; refine (HX.out _).mono ?_; rintro e w' ⟨rfl, rfl⟩)
      go_round
      case rel => exact ⟨j + 1, rfl, by omega, rfl⟩
      case measure => simp only [intOf]; omega
    · have he : j = k := by omega
      subst he
      go_wp2
      go_ret
      exact ⟨rfl, rfl⟩

set_option maxHeartbeats 1000000 in
theorem bits_any (k a d : Nat) (w : World) (hk : k = 0 ∨ k = 1 ∨ k = 2) (hd : d = 32 ∨ d = 64) (ha : a < 2 ^ d) :
    Calls Tryd.prog 39 #[.int .i64 k, .int .u64 a, .int .i64 d] w fun e w' => e = .returned (.int .u64 (raw1 (103 + k) d a)) ∧ Below w.heap.size w w' := by
  have hp : (2 : Nat) ^ d ≤ 18446744073709551616 := by rcases hd with rfl | rfl <;> decide
  have Ha := Lib.hid ha
  have ha64 : a < 18446744073709551616 := by omega
  clear ha hp
  go_enter Tryd.func39, Tryd.ntmps39
  go_wp2
  go_loop [7, 8, 9, 10] (fun f l m i => ∃ j : Nat, i = .int .i64 j ∧ j ≤ d ∧ f = .int .i64 (frst d a j : Int) ∧ l = .int .i64 (last d a j : Int) ∧ m = .int .i64 (pop j a : Int)) (fun _ _ _ i => d - (intOf i).toNat)
  case atStart => exact ⟨0, rfl, by omega, rfl, rfl, rfl⟩
  case round =>
    obtain ⟨j, rfl, hj, rfl, rfl, rfl⟩ := hrel
    by_cases hc : j < d
    · have hb : bits .and .u64 ((a : Int) / 2 ^ j) 1 = ((a / 2 ^ j % 2 : Nat) : Int) := by
        have e2 : (a : Int) / 2 ^ j = ((a / 2 ^ j : Nat) : Int) := by rw [Int.natCast_ediv, Int.natCast_pow]; rfl
        have e3 := Nat.div_le_self a (2 ^ j)
        rw [e2, show (1 : Int) = ((1 : Nat) : Int) from rfl, u64_and_nat _ _ (by omega) (by decide), Nat.and_one_is_mod]
      have hpl := pop_le j a
      have hpl1 : (0 : Int) ≤ (pop j a : Int) ∧ (pop j a : Int) ≤ 64 := by omega
      have hps := pop_snoc j a
      have hf : frst d a (j + 1) = if a / 2 ^ j % 2 = 1 then d - 1 - j else frst d a j := rfl
      have hl : last d a (j + 1) = if a / 2 ^ j % 2 = 1 then (if last d a j = d then j else last d a j) else last d a j := rfl
      rcases Nat.mod_two_eq_zero_or_one (a / 2 ^ j) with e | e
      · rw [e, if_neg (by decide)] at hf hl
        rw [e] at hps hb
        have hbb : (bits .and .u64 ((a : Int) / 2 ^ j) 1 == 1) = false := by rw [hb]; rfl
        have HF := Lib.hid hf
        have HL := Lib.hid hl
        have HP := Lib.hid hps
        clear hb hf hl hps e hpl
        go_wp2
        exact ⟨⟨j + 1, rfl, by omega, by rw [HF.out], by rw [HL.out], by rw [HP.out]; rfl⟩, by simp only [intOf]; omega⟩
      · rw [e, if_pos rfl] at hf hl
        rw [e] at hps hb
        have hbb : (bits .and .u64 ((a : Int) / 2 ^ j) 1 == 1) = true := by rw [hb]; rfl
        have HF := Lib.hid (show (frst d a (j + 1) : Int) = (d : Int) - 1 - j by rw [hf]; omega)
        have HP := Lib.hid hps
        by_cases h9 : last d a j = d
        · have h9b : ((last d a j : Int) == (d : Int)) = true := by simp [h9]
          rw [if_pos h9] at hl
          have HL := Lib.hid hl
          clear hb hf hl hps e hpl h9
          go_wp2
          exact ⟨⟨j + 1, rfl, by omega, by rw [HF.out], by rw [HL.out], by rw [HP.out]; rfl⟩, by simp only [intOf]; omega⟩
        · have h9b : ((last d a j : Int) == (d : Int)) = false := by simp; omega
          rw [if_neg h9] at hl
          have HL := Lib.hid hl
          clear hb hf hl hps e hpl h9
          go_wp2
          exact ⟨⟨j + 1, rfl, by omega, by rw [HF.out], by rw [HL.out], by rw [HP.out]; rfl⟩, by simp only [intOf]; omega⟩
    · have he : j = d := by omega
      subst he
      have hA := Ha.out
      have g0 : (frst j a j : Int) = (j : Int) - (Lib.bitLen a : Int) := by
        have h1 := frst_eq j a (by omega) j (Nat.le_refl _)
        have h2 := Lib.bitLen_le a j (by omega) hA
        rw [Nat.mod_eq_of_lt hA] at h1
        omega
      have g1 : (last j a j : Int) = if (a : Int) = 0 then (j : Int) else (tz 64 a : Int) := by
        rw [last_eq j a (by omega) j (Nat.le_refl _), Nat.mod_eq_of_lt hA]
        by_cases h : a = 0
        · rw [if_pos h, if_pos (by omega)]
        · rw [if_neg h, if_neg (by omega)]
      have g2 := pop_all (by omega) hA
      have r0 := frst_eq j a (by omega) j (Nat.le_refl _)
      have r1 : last j a j ≤ 64 := by
        rw [last_eq j a (by omega) j (Nat.le_refl _), Nat.mod_eq_of_lt hA]
        by_cases h : a = 0
        · rw [if_pos h]; omega
        · have := tz_lt 64 j a (by omega) (by rw [Nat.mod_eq_of_lt hA]; exact h)
          rw [if_neg h]; omega
      have r2 := pop_le j a
      have G0 := Lib.hid g0
      have G1 := Lib.hid g1
      have G2 := Lib.hid g2
      have R0 : (0 : Int) ≤ (frst j a j : Int) ∧ (frst j a j : Int) ≤ 64 := by omega
      have R1 : (0 : Int) ≤ (last j a j : Int) ∧ (last j a j : Int) ≤ 64 := by omega
      have R2 : (0 : Int) ≤ (pop j a : Int) ∧ (pop j a : Int) ≤ 64 := by omega
      clear g0 g1 g2 r0 r1 r2 hA
      rcases hk with rfl | rfl | rfl
      · go_wp2
        go_ret
        refine ⟨ret_int ?_, made_below _ _⟩
        show _ = (j : Int) - (Lib.bitLen (a : Int).toNat : Int)
        rw [Int.toNat_natCast]; exact G0.out
      · go_wp2
        go_ret
        refine ⟨ret_int ?_, made_below _ _⟩
        show _ = if (a : Int) = 0 then (j : Int) else (tz 64 (a : Int).toNat : Int)
        rw [Int.toNat_natCast]; exact G1.out
      · go_wp2
        go_ret
        refine ⟨ret_int ?_, made_below _ _⟩
        show _ = (pop 64 (a : Int).toNat : Int)
        rw [Int.toNat_natCast, G2.out]

end Go.Proofs.YtmikhbpffmojhaaDoor.nm
