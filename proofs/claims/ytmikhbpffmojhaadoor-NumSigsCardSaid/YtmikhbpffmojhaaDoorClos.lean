/- The contracts of the functions that stand in package num's tables. -/
import Derived.Test.YtmikhbpffmojhaaDoorSem
set_option linter.unusedVariables false
namespace Go.Proofs.YtmikhbpffmojhaaDoor.nm
open Go.RowKit

theorem tells_mono {f : FuncId} {args : Array Value} {w : World} {v v' : Value} (h : Tells f args w v) (e : v = v') : Tells f args w v' := e ▸ h
theorem u64_eq {a b : Int} (h : a = b) : Value.int .u64 a = .int .u64 b := by rw [h]
theorem d_num {d : Int} (hd : d = 32 ∨ d = 64) : d.toNat = 32 ∨ d.toNat = 64 := by omega
theorem pw {d a : Int} (hd : d = 32 ∨ d = 64) (ha : a < 2 ^ d.toNat) : a < 18446744073709551616 := by
  rcases hd with rfl | rfl
  · have e : (2 : Int) ^ (32 : Int).toNat = 4294967296 := rfl
    omega
  · have e : (2 : Int) ^ (64 : Int).toNat = 18446744073709551616 := rfl
    omega
theorem wrap_u64m (n : Int) : IntKind.u64.wrap n = n % 18446744073709551616 := IntKind.wrap_u64 n
theorem sgn_ne {d b : Int} (hd : d = 32 ∨ d = 64) (hb0 : 0 ≤ b) (hb : b < 2 ^ d.toNat) (h : b ≠ 0) : sgn d.toNat b ≠ 0 := by
  rcases hd with rfl | rfl
  · have e : (2 : Int) ^ (32 : Int).toNat = 4294967296 := rfl
    rw [show (32 : Int).toNat = 32 from rfl, sgn_32]; split <;> omega
  · have e : (2 : Int) ^ (64 : Int).toNat = 18446744073709551616 := rfl
    rw [show (64 : Int).toNat = 64 from rfl, sgn_64]; split <;> omega
theorem sgn_range (d : Nat) (n : Int) (hd : d = 8 ∨ d = 16 ∨ d = 32 ∨ d = 64) : -9223372036854775808 ≤ sgn d n ∧ sgn d n < 9223372036854775808 := by
  rcases hd with rfl | rfl | rfl | rfl
  · rw [sgn_8]; split <;> omega
  · rw [sgn_16]; split <;> omega
  · rw [sgn_32]; split <;> omega
  · rw [sgn_64]; split <;> omega

theorem eqz_op (d a : Int) (w : World) (hd : d = 32 ∨ d = 64) (ha0 : 0 ≤ a) (ha : a < 2 ^ d.toNat) :
    Tells 54 #[.int .i64 d, .int .u64 a] w (.int .u64 (raw1 69 d.toNat a)) := by
  unfold Tells
  have ha' := pw hd ha
  have HT := Lib.hid (fun b w' => truth_any b w')
  clear ha
  go_enter Tryd.func54, Tryd.ntmps54
  go_wp2_with (first
    | (go_at_call 55; refine (HT.out _ _).mono ?_; rintro e w' ⟨rfl, m0, rfl⟩))
  go_ret
  refine ⟨ret_int ?_, _, rfl⟩
  show b2i (a == 0) = if a = 0 then 1 else 0
  by_cases h : a = 0 <;> simp [b2i, h]

theorem clz_op (d a : Int) (w : World) (hd : d = 32 ∨ d = 64) (ha0 : 0 ≤ a) (ha : a < 2 ^ d.toNat) :
    Tells 56 #[.int .i64 d, .int .u64 a] w (.int .u64 (raw1 103 d.toNat a)) := by
  unfold Tells
  have ha' := pw hd ha
  have H1 := Lib.hid (fun w' => clz_any a w' ha0 (by omega))
  have H2 := Lib.hid (fun w' => spare_any d w' (by omega) (by omega))
  have hl : (Lib.bitLen a.toNat : Int) ≤ d := by
    have := Lib.bitLen_le a.toNat d.toNat (by omega) (by have : ((2 ^ d.toNat : Nat) : Int) = 2 ^ d.toNat := Int.natCast_pow 2 _; omega)
    omega
  show Calls _ _ _ _ fun e w' => e = .returned (.int .u64 ((d.toNat : Int) - (Lib.bitLen a.toNat : Int))) ∧ _
  have hy : 0 ≤ (Lib.bitLen a.toNat : Int) := by omega
  generalize (Lib.bitLen a.toNat : Int) = y at hl hy H1
  have e9 : (64 : Int) - y - (64 - d) = d - y := by omega
  clear ha
  go_enter Tryd.func56, Tryd.ntmps56
  go_wp2_with (first
    | (go_at_call 57; refine (H1.out _).mono ?_; rintro e w' ⟨rfl, m0, rfl⟩)
    | (go_at_call 43; refine (H2.out _).mono ?_; rintro e w' ⟨rfl, m1, rfl⟩))
  go_ret
  refine ⟨ret_int ?_, _, rfl⟩
  omega

theorem ctz_op (d a : Int) (w : World) (hd : d = 32 ∨ d = 64) (ha0 : 0 ≤ a) (ha : a < 2 ^ d.toNat) (T : Tab w) :
    Tells 58 #[.int .i64 d, .int .u64 a] w (.int .u64 (raw1 104 d.toNat a)) := by
  unfold Tells
  have ha' := pw hd ha
  have H1 := Lib.hid (ctz_any a w ha0 (by omega) T)
  have hz := Lib.hid ha
  clear T ha
  go_enter Tryd.func58, Tryd.ntmps58
  go_wp2_with (first
    | (go_at_call 59; refine (H1.out).mono ?_; rintro e w' ⟨rfl, m0, rfl⟩))
  go_ret
  refine ⟨ret_int ?_, _, rfl⟩
  have hz2 := hz.out
  have hp : ((2 ^ d.toNat : Nat) : Int) = 2 ^ d.toNat := Int.natCast_pow 2 _
  simp only [raw1, ctz0, wrap_u64m]
  by_cases h : a = 0
  · rw [if_pos h, if_pos h]; omega
  · have := tz_lt 64 d.toNat a.toNat (by omega) (by rw [Nat.mod_eq_of_lt (by omega)]; omega)
    rw [if_neg h, if_neg h]; omega

theorem pop_op (d a : Int) (w : World) (hd : d = 32 ∨ d = 64) (ha0 : 0 ≤ a) (ha : a < 2 ^ d.toNat) :
    Tells 60 #[.int .i64 d, .int .u64 a] w (.int .u64 (raw1 105 d.toNat a)) := by
  unfold Tells
  have ha' := pw hd ha
  have H1 := Lib.hid (ones_any a w ha0 (by omega))
  clear ha
  go_enter Tryd.func60, Tryd.ntmps60
  go_wp2_with (first
    | (go_at_call 61; refine (H1.out).mono ?_; rintro e w' ⟨rfl, m0, rfl⟩))
  go_ret
  refine ⟨ret_int ?_, _, rfl⟩
  have := pop_le 64 a.toNat
  simp only [raw1, wrap_u64m]
  omega

theorem wrap_op (d a : Int) (w : World) (hd : d = 32 ∨ d = 64) (ha0 : 0 ≤ a) (ha : a < 2 ^ d.toNat) :
    Tells 62 #[.int .i64 d, .int .u64 a] w (.int .u64 (raw1 167 d.toNat a)) := by
  unfold Tells
  have ha' := pw hd ha
  clear ha
  go_enter Tryd.func62, Tryd.ntmps62
  go_wp2
  go_ret
  refine ⟨ret_int ?_, 0, rfl⟩
  rfl

theorem extS_op (d a : Int) (w : World) (hd : d = 32 ∨ d = 64) (ha0 : 0 ≤ a) (ha : a < 2 ^ d.toNat) :
    Tells 63 #[.int .i64 d, .int .u64 a] w (.int .u64 (raw1 172 d.toNat a)) := by
  unfold Tells
  have ha' := pw hd ha
  have HA := Lib.hid (fun w' => signed_any d a w' (by omega) ha0 ha')
  clear ha
  go_enter Tryd.func63, Tryd.ntmps63
  go_wp2_with (first
    | (go_at_call 64; refine (HA.out _).mono ?_; rintro e w' ⟨rfl, m0, rfl⟩))
  go_ret
  refine ⟨ret_int ?_, _, rfl⟩
  simp only [raw1, wrap_u64m]

theorem extU_op (d a : Int) (w : World) (hd : d = 32 ∨ d = 64) (ha0 : 0 ≤ a) (ha : a < 2 ^ d.toNat) :
    Tells 65 #[.int .i64 d, .int .u64 a] w (.int .u64 (raw1 173 d.toNat a)) := by
  unfold Tells
  have ha' := pw hd ha
  clear ha
  go_enter Tryd.func65, Tryd.ntmps65
  go_wp2
  go_ret
  refine ⟨ret_int ?_, 0, rfl⟩
  rfl

theorem low8_op (d a : Int) (w : World) (hd : d = 32 ∨ d = 64) (ha0 : 0 ≤ a) (ha : a < 2 ^ d.toNat) :
    Tells 66 #[.int .i64 d, .int .u64 a] w (.int .u64 (raw1 192 d.toNat a)) := by
  unfold Tells
  have ha' := pw hd ha
  have HA := Lib.hid (fun w' => signed_any 8 a w' (by decide) ha0 ha')
  clear ha
  go_enter Tryd.func66, Tryd.ntmps66
  go_wp2_with (first
    | (go_at_call 64; refine (HA.out _).mono ?_; rintro e w' ⟨rfl, m0, rfl⟩))
  go_ret
  refine ⟨ret_int ?_, _, rfl⟩
  simp only [raw1, wrap_u64m]

theorem low16_op (d a : Int) (w : World) (hd : d = 32 ∨ d = 64) (ha0 : 0 ≤ a) (ha : a < 2 ^ d.toNat) :
    Tells 67 #[.int .i64 d, .int .u64 a] w (.int .u64 (raw1 193 d.toNat a)) := by
  unfold Tells
  have ha' := pw hd ha
  have HA := Lib.hid (fun w' => signed_any 16 a w' (by decide) ha0 ha')
  clear ha
  go_enter Tryd.func67, Tryd.ntmps67
  go_wp2_with (first
    | (go_at_call 64; refine (HA.out _).mono ?_; rintro e w' ⟨rfl, m0, rfl⟩))
  go_ret
  refine ⟨ret_int ?_, _, rfl⟩
  simp only [raw1, wrap_u64m]

theorem low32_op (d a : Int) (w : World) (hd : d = 32 ∨ d = 64) (ha0 : 0 ≤ a) (ha : a < 2 ^ d.toNat) :
    Tells 68 #[.int .i64 d, .int .u64 a] w (.int .u64 (raw1 194 d.toNat a)) := by
  unfold Tells
  have ha' := pw hd ha
  have HA := Lib.hid (fun w' => signed_any 32 a w' (by decide) ha0 ha')
  clear ha
  go_enter Tryd.func68, Tryd.ntmps68
  go_wp2_with (first
    | (go_at_call 64; refine (HA.out _).mono ?_; rintro e w' ⟨rfl, m0, rfl⟩))
  go_ret
  refine ⟨ret_int ?_, _, rfl⟩
  simp only [raw1, wrap_u64m]

theorem ltS_any (x y : Int) (w : World) : Tells 91 #[.int .i64 x, .int .i64 y] w (.bool (decide (x < y))) := by
  unfold Tells
  go_enter Tryd.func91, Tryd.ntmps91
  go_wp2
  go_ret
  exact ⟨rfl, 0, rfl⟩

theorem gtS_any (x y : Int) (w : World) : Tells 92 #[.int .i64 x, .int .i64 y] w (.bool (decide (x > y))) := by
  unfold Tells
  go_enter Tryd.func92, Tryd.ntmps92
  go_wp2
  go_ret
  exact ⟨rfl, 0, rfl⟩

theorem leS_any (x y : Int) (w : World) : Tells 93 #[.int .i64 x, .int .i64 y] w (.bool (decide (x ≤ y))) := by
  unfold Tells
  go_enter Tryd.func93, Tryd.ntmps93
  go_wp2
  go_ret
  exact ⟨rfl, 0, rfl⟩

theorem geS_any (x y : Int) (w : World) : Tells 94 #[.int .i64 x, .int .i64 y] w (.bool (decide (x ≥ y))) := by
  unfold Tells
  go_enter Tryd.func94, Tryd.ntmps94
  go_wp2
  go_ret
  exact ⟨rfl, 0, rfl⟩

theorem eqU_any (x y : Int) (w : World) : Tells 95 #[.int .u64 x, .int .u64 y] w (.bool (decide (x = y))) := by
  unfold Tells
  go_enter Tryd.func95, Tryd.ntmps95
  go_wp2
  go_ret
  exact ⟨congrArg Ending.returned (congrArg Value.bool (by by_cases h : x = y <;> simp [h])), 0, rfl⟩

theorem neU_any (x y : Int) (w : World) : Tells 96 #[.int .u64 x, .int .u64 y] w (.bool (!decide (x = y))) := by
  unfold Tells
  go_enter Tryd.func96, Tryd.ntmps96
  go_wp2
  go_ret
  exact ⟨congrArg Ending.returned (congrArg Value.bool (by by_cases h : x = y <;> simp [h])), 0, rfl⟩

theorem ltU_any (x y : Int) (w : World) : Tells 97 #[.int .u64 x, .int .u64 y] w (.bool (decide (x < y))) := by
  unfold Tells
  go_enter Tryd.func97, Tryd.ntmps97
  go_wp2
  go_ret
  exact ⟨rfl, 0, rfl⟩

theorem gtU_any (x y : Int) (w : World) : Tells 98 #[.int .u64 x, .int .u64 y] w (.bool (decide (x > y))) := by
  unfold Tells
  go_enter Tryd.func98, Tryd.ntmps98
  go_wp2
  go_ret
  exact ⟨rfl, 0, rfl⟩

theorem leU_any (x y : Int) (w : World) : Tells 99 #[.int .u64 x, .int .u64 y] w (.bool (decide (x ≤ y))) := by
  unfold Tells
  go_enter Tryd.func99, Tryd.ntmps99
  go_wp2
  go_ret
  exact ⟨rfl, 0, rfl⟩

theorem geU_any (x y : Int) (w : World) : Tells 100 #[.int .u64 x, .int .u64 y] w (.bool (decide (x ≥ y))) := by
  unfold Tells
  go_enter Tryd.func100, Tryd.ntmps100
  go_wp2
  go_ret
  exact ⟨rfl, 0, rfl⟩

theorem ltS_op (d a b : Int) (w : World) (hd : d = 32 ∨ d = 64) (ha0 : 0 ≤ a) (ha : a < 2 ^ d.toNat) (hb0 : 0 ≤ b) (hb : b < 2 ^ d.toNat) (g : Nat) (hc : w.cell? ⟨g, 0, none⟩ = some (.func (.func 91) #[] #[])) :
    Tells 70 #[.int .i64 d, .int .u64 a, .int .u64 b, .pointer (some ⟨g, 0, none⟩)] w (.int .u64 (raw2 72 d.toNat a b)) := by
  unfold Tells
  have ha' := pw hd ha
  have hb' := pw hd hb
  have HT := Lib.hid (fun b w' => truth_any b w')
  have HS := Lib.hid (fun n w' h0 h1 => signed_any d n w' (by omega) h0 h1)
  have HC := Lib.hid (fun w' => ltS_any (sgn d.toNat a) (sgn d.toNat b) w')
  clear ha hb
  go_enter Tryd.func70, Tryd.ntmps70
  go_wp2
  go_quiet (first | ((go_at_call 64; exact Calls.quiet_of (HS.out _ _ (by assumption) (by assumption)))) | ((go_at_call 91; exact Calls.quiet_of (HC.out _))) | ((go_at_call 55; exact Calls.quiet_of (HT.out _ _))))
  go_wp2
  go_ret
  exact ⟨rfl, _, rfl⟩

theorem gtS_op (d a b : Int) (w : World) (hd : d = 32 ∨ d = 64) (ha0 : 0 ≤ a) (ha : a < 2 ^ d.toNat) (hb0 : 0 ≤ b) (hb : b < 2 ^ d.toNat) (g : Nat) (hc : w.cell? ⟨g, 0, none⟩ = some (.func (.func 92) #[] #[])) :
    Tells 70 #[.int .i64 d, .int .u64 a, .int .u64 b, .pointer (some ⟨g, 0, none⟩)] w (.int .u64 (raw2 74 d.toNat a b)) := by
  unfold Tells
  have ha' := pw hd ha
  have hb' := pw hd hb
  have HT := Lib.hid (fun b w' => truth_any b w')
  have HS := Lib.hid (fun n w' h0 h1 => signed_any d n w' (by omega) h0 h1)
  have HC := Lib.hid (fun w' => gtS_any (sgn d.toNat a) (sgn d.toNat b) w')
  clear ha hb
  go_enter Tryd.func70, Tryd.ntmps70
  go_wp2
  go_quiet (first | ((go_at_call 64; exact Calls.quiet_of (HS.out _ _ (by assumption) (by assumption)))) | ((go_at_call 92; exact Calls.quiet_of (HC.out _))) | ((go_at_call 55; exact Calls.quiet_of (HT.out _ _))))
  go_wp2
  go_ret
  exact ⟨rfl, _, rfl⟩

theorem leS_op (d a b : Int) (w : World) (hd : d = 32 ∨ d = 64) (ha0 : 0 ≤ a) (ha : a < 2 ^ d.toNat) (hb0 : 0 ≤ b) (hb : b < 2 ^ d.toNat) (g : Nat) (hc : w.cell? ⟨g, 0, none⟩ = some (.func (.func 93) #[] #[])) :
    Tells 70 #[.int .i64 d, .int .u64 a, .int .u64 b, .pointer (some ⟨g, 0, none⟩)] w (.int .u64 (raw2 76 d.toNat a b)) := by
  unfold Tells
  have ha' := pw hd ha
  have hb' := pw hd hb
  have HT := Lib.hid (fun b w' => truth_any b w')
  have HS := Lib.hid (fun n w' h0 h1 => signed_any d n w' (by omega) h0 h1)
  have HC := Lib.hid (fun w' => leS_any (sgn d.toNat a) (sgn d.toNat b) w')
  clear ha hb
  go_enter Tryd.func70, Tryd.ntmps70
  go_wp2
  go_quiet (first | ((go_at_call 64; exact Calls.quiet_of (HS.out _ _ (by assumption) (by assumption)))) | ((go_at_call 93; exact Calls.quiet_of (HC.out _))) | ((go_at_call 55; exact Calls.quiet_of (HT.out _ _))))
  go_wp2
  go_ret
  exact ⟨rfl, _, rfl⟩

theorem geS_op (d a b : Int) (w : World) (hd : d = 32 ∨ d = 64) (ha0 : 0 ≤ a) (ha : a < 2 ^ d.toNat) (hb0 : 0 ≤ b) (hb : b < 2 ^ d.toNat) (g : Nat) (hc : w.cell? ⟨g, 0, none⟩ = some (.func (.func 94) #[] #[])) :
    Tells 70 #[.int .i64 d, .int .u64 a, .int .u64 b, .pointer (some ⟨g, 0, none⟩)] w (.int .u64 (raw2 78 d.toNat a b)) := by
  unfold Tells
  have ha' := pw hd ha
  have hb' := pw hd hb
  have HT := Lib.hid (fun b w' => truth_any b w')
  have HS := Lib.hid (fun n w' h0 h1 => signed_any d n w' (by omega) h0 h1)
  have HC := Lib.hid (fun w' => geS_any (sgn d.toNat a) (sgn d.toNat b) w')
  clear ha hb
  go_enter Tryd.func70, Tryd.ntmps70
  go_wp2
  go_quiet (first | ((go_at_call 64; exact Calls.quiet_of (HS.out _ _ (by assumption) (by assumption)))) | ((go_at_call 94; exact Calls.quiet_of (HC.out _))) | ((go_at_call 55; exact Calls.quiet_of (HT.out _ _))))
  go_wp2
  go_ret
  exact ⟨rfl, _, rfl⟩

theorem eqU_op (d a b : Int) (w : World) (hd : d = 32 ∨ d = 64) (ha0 : 0 ≤ a) (ha : a < 2 ^ d.toNat) (hb0 : 0 ≤ b) (hb : b < 2 ^ d.toNat) (g : Nat) (hc : w.cell? ⟨g, 0, none⟩ = some (.func (.func 95) #[] #[])) :
    Tells 72 #[.int .i64 d, .int .u64 a, .int .u64 b, .pointer (some ⟨g, 0, none⟩)] w (.int .u64 (raw2 70 d.toNat a b)) := by
  unfold Tells
  have ha' := pw hd ha
  have hb' := pw hd hb
  have HT := Lib.hid (fun b w' => truth_any b w')
  have HC := Lib.hid (fun w' => eqU_any a b w')
  clear ha hb
  go_enter Tryd.func72, Tryd.ntmps72
  go_wp2_with (first
    | (go_at_call 95; refine (HC.out _).mono ?_; rintro e w' ⟨rfl, m0, rfl⟩)
    | (go_at_call 55; refine (HT.out _ _).mono ?_; rintro e w' ⟨rfl, m1, rfl⟩))
  go_ret
  refine ⟨ret_int ?_, _, rfl⟩
  rfl

theorem neU_op (d a b : Int) (w : World) (hd : d = 32 ∨ d = 64) (ha0 : 0 ≤ a) (ha : a < 2 ^ d.toNat) (hb0 : 0 ≤ b) (hb : b < 2 ^ d.toNat) (g : Nat) (hc : w.cell? ⟨g, 0, none⟩ = some (.func (.func 96) #[] #[])) :
    Tells 72 #[.int .i64 d, .int .u64 a, .int .u64 b, .pointer (some ⟨g, 0, none⟩)] w (.int .u64 (raw2 71 d.toNat a b)) := by
  unfold Tells
  have ha' := pw hd ha
  have hb' := pw hd hb
  have HT := Lib.hid (fun b w' => truth_any b w')
  have HC := Lib.hid (fun w' => neU_any a b w')
  clear ha hb
  go_enter Tryd.func72, Tryd.ntmps72
  go_wp2_with (first
    | (go_at_call 96; refine (HC.out _).mono ?_; rintro e w' ⟨rfl, m0, rfl⟩)
    | (go_at_call 55; refine (HT.out _ _).mono ?_; rintro e w' ⟨rfl, m1, rfl⟩))
  go_ret
  refine ⟨ret_int ?_, _, rfl⟩
  rfl

theorem ltU_op (d a b : Int) (w : World) (hd : d = 32 ∨ d = 64) (ha0 : 0 ≤ a) (ha : a < 2 ^ d.toNat) (hb0 : 0 ≤ b) (hb : b < 2 ^ d.toNat) (g : Nat) (hc : w.cell? ⟨g, 0, none⟩ = some (.func (.func 97) #[] #[])) :
    Tells 72 #[.int .i64 d, .int .u64 a, .int .u64 b, .pointer (some ⟨g, 0, none⟩)] w (.int .u64 (raw2 73 d.toNat a b)) := by
  unfold Tells
  have ha' := pw hd ha
  have hb' := pw hd hb
  have HT := Lib.hid (fun b w' => truth_any b w')
  have HC := Lib.hid (fun w' => ltU_any a b w')
  clear ha hb
  go_enter Tryd.func72, Tryd.ntmps72
  go_wp2_with (first
    | (go_at_call 97; refine (HC.out _).mono ?_; rintro e w' ⟨rfl, m0, rfl⟩)
    | (go_at_call 55; refine (HT.out _ _).mono ?_; rintro e w' ⟨rfl, m1, rfl⟩))
  go_ret
  refine ⟨ret_int ?_, _, rfl⟩
  rfl

theorem gtU_op (d a b : Int) (w : World) (hd : d = 32 ∨ d = 64) (ha0 : 0 ≤ a) (ha : a < 2 ^ d.toNat) (hb0 : 0 ≤ b) (hb : b < 2 ^ d.toNat) (g : Nat) (hc : w.cell? ⟨g, 0, none⟩ = some (.func (.func 98) #[] #[])) :
    Tells 72 #[.int .i64 d, .int .u64 a, .int .u64 b, .pointer (some ⟨g, 0, none⟩)] w (.int .u64 (raw2 75 d.toNat a b)) := by
  unfold Tells
  have ha' := pw hd ha
  have hb' := pw hd hb
  have HT := Lib.hid (fun b w' => truth_any b w')
  have HC := Lib.hid (fun w' => gtU_any a b w')
  clear ha hb
  go_enter Tryd.func72, Tryd.ntmps72
  go_wp2_with (first
    | (go_at_call 98; refine (HC.out _).mono ?_; rintro e w' ⟨rfl, m0, rfl⟩)
    | (go_at_call 55; refine (HT.out _ _).mono ?_; rintro e w' ⟨rfl, m1, rfl⟩))
  go_ret
  refine ⟨ret_int ?_, _, rfl⟩
  rfl

theorem leU_op (d a b : Int) (w : World) (hd : d = 32 ∨ d = 64) (ha0 : 0 ≤ a) (ha : a < 2 ^ d.toNat) (hb0 : 0 ≤ b) (hb : b < 2 ^ d.toNat) (g : Nat) (hc : w.cell? ⟨g, 0, none⟩ = some (.func (.func 99) #[] #[])) :
    Tells 72 #[.int .i64 d, .int .u64 a, .int .u64 b, .pointer (some ⟨g, 0, none⟩)] w (.int .u64 (raw2 77 d.toNat a b)) := by
  unfold Tells
  have ha' := pw hd ha
  have hb' := pw hd hb
  have HT := Lib.hid (fun b w' => truth_any b w')
  have HC := Lib.hid (fun w' => leU_any a b w')
  clear ha hb
  go_enter Tryd.func72, Tryd.ntmps72
  go_wp2_with (first
    | (go_at_call 99; refine (HC.out _).mono ?_; rintro e w' ⟨rfl, m0, rfl⟩)
    | (go_at_call 55; refine (HT.out _ _).mono ?_; rintro e w' ⟨rfl, m1, rfl⟩))
  go_ret
  refine ⟨ret_int ?_, _, rfl⟩
  rfl

theorem geU_op (d a b : Int) (w : World) (hd : d = 32 ∨ d = 64) (ha0 : 0 ≤ a) (ha : a < 2 ^ d.toNat) (hb0 : 0 ≤ b) (hb : b < 2 ^ d.toNat) (g : Nat) (hc : w.cell? ⟨g, 0, none⟩ = some (.func (.func 100) #[] #[])) :
    Tells 72 #[.int .i64 d, .int .u64 a, .int .u64 b, .pointer (some ⟨g, 0, none⟩)] w (.int .u64 (raw2 79 d.toNat a b)) := by
  unfold Tells
  have ha' := pw hd ha
  have hb' := pw hd hb
  have HT := Lib.hid (fun b w' => truth_any b w')
  have HC := Lib.hid (fun w' => geU_any a b w')
  clear ha hb
  go_enter Tryd.func72, Tryd.ntmps72
  go_wp2_with (first
    | (go_at_call 100; refine (HC.out _).mono ?_; rintro e w' ⟨rfl, m0, rfl⟩)
    | (go_at_call 55; refine (HT.out _ _).mono ?_; rintro e w' ⟨rfl, m1, rfl⟩))
  go_ret
  refine ⟨ret_int ?_, _, rfl⟩
  rfl

theorem add_op (d a b : Int) (w : World) (hd : d = 32 ∨ d = 64) (ha0 : 0 ≤ a) (ha : a < 2 ^ d.toNat) (hb0 : 0 ≤ b) (hb : b < 2 ^ d.toNat) :
    Tells 77 #[.int .i64 d, .int .u64 a, .int .u64 b] w (.int .u64 (raw2 106 d.toNat a b)) := by
  unfold Tells
  have ha' := pw hd ha
  have hb' := pw hd hb
  clear ha hb
  go_enter Tryd.func77, Tryd.ntmps77
  go_wp2
  go_ret
  refine ⟨ret_int ?_, 0, rfl⟩
  simp only [raw2, wrap_u64m]

theorem sub_op (d a b : Int) (w : World) (hd : d = 32 ∨ d = 64) (ha0 : 0 ≤ a) (ha : a < 2 ^ d.toNat) (hb0 : 0 ≤ b) (hb : b < 2 ^ d.toNat) :
    Tells 78 #[.int .i64 d, .int .u64 a, .int .u64 b] w (.int .u64 (raw2 107 d.toNat a b)) := by
  unfold Tells
  have ha' := pw hd ha
  have hb' := pw hd hb
  clear ha hb
  go_enter Tryd.func78, Tryd.ntmps78
  go_wp2
  go_ret
  refine ⟨ret_int ?_, 0, rfl⟩
  simp only [raw2, wrap_u64m]

theorem mul_op (d a b : Int) (w : World) (hd : d = 32 ∨ d = 64) (ha0 : 0 ≤ a) (ha : a < 2 ^ d.toNat) (hb0 : 0 ≤ b) (hb : b < 2 ^ d.toNat) :
    Tells 79 #[.int .i64 d, .int .u64 a, .int .u64 b] w (.int .u64 (raw2 108 d.toNat a b)) := by
  unfold Tells
  have ha' := pw hd ha
  have hb' := pw hd hb
  clear ha hb
  go_enter Tryd.func79, Tryd.ntmps79
  go_wp2
  go_ret
  refine ⟨ret_int ?_, 0, rfl⟩
  simp only [raw2, wrap_u64m]

theorem and_op (d a b : Int) (w : World) (hd : d = 32 ∨ d = 64) (ha0 : 0 ≤ a) (ha : a < 2 ^ d.toNat) (hb0 : 0 ≤ b) (hb : b < 2 ^ d.toNat) :
    Tells 80 #[.int .i64 d, .int .u64 a, .int .u64 b] w (.int .u64 (raw2 113 d.toNat a b)) := by
  unfold Tells
  have ha' := pw hd ha
  have hb' := pw hd hb
  clear ha hb
  go_enter Tryd.func80, Tryd.ntmps80
  go_wp2
  go_ret
  refine ⟨ret_int ?_, 0, rfl⟩
  exact u64_and a b ha0 ha' hb0 hb'

theorem or_op (d a b : Int) (w : World) (hd : d = 32 ∨ d = 64) (ha0 : 0 ≤ a) (ha : a < 2 ^ d.toNat) (hb0 : 0 ≤ b) (hb : b < 2 ^ d.toNat) :
    Tells 81 #[.int .i64 d, .int .u64 a, .int .u64 b] w (.int .u64 (raw2 114 d.toNat a b)) := by
  unfold Tells
  have ha' := pw hd ha
  have hb' := pw hd hb
  clear ha hb
  go_enter Tryd.func81, Tryd.ntmps81
  go_wp2
  go_ret
  refine ⟨ret_int ?_, 0, rfl⟩
  exact u64_or a b ha0 ha' hb0 hb'

theorem xor_op (d a b : Int) (w : World) (hd : d = 32 ∨ d = 64) (ha0 : 0 ≤ a) (ha : a < 2 ^ d.toNat) (hb0 : 0 ≤ b) (hb : b < 2 ^ d.toNat) :
    Tells 82 #[.int .i64 d, .int .u64 a, .int .u64 b] w (.int .u64 (raw2 115 d.toNat a b)) := by
  unfold Tells
  have ha' := pw hd ha
  have hb' := pw hd hb
  clear ha hb
  go_enter Tryd.func82, Tryd.ntmps82
  go_wp2
  go_ret
  refine ⟨ret_int ?_, 0, rfl⟩
  exact u64_xor a b ha0 ha' hb0 hb'

theorem divS_op (d a b : Int) (w : World) (hd : d = 32 ∨ d = 64) (ha0 : 0 ≤ a) (ha : a < 2 ^ d.toNat) (hb0 : 0 ≤ b) (hb : b < 2 ^ d.toNat) (hb1 : b ≠ 0) :
    Tells 73 #[.int .i64 d, .int .u64 a, .int .u64 b] w (.int .u64 (raw2 109 d.toNat a b)) := by
  unfold Tells
  have ha' := pw hd ha
  have hb' := pw hd hb
  have HS := Lib.hid (fun n w' h0 h1 => signed_any d n w' (by omega) h0 h1)
  have hz : sgn d.toNat b ≠ 0 := sgn_ne hd hb0 hb hb1
  have hz' : (sgn d.toNat b == 0) = false := by simp [hz]
  clear ha hb
  go_enter Tryd.func73, Tryd.ntmps73
  go_wp2_with (first
    | (go_at_call 64; refine (HS.out _ _ (by assumption) (by assumption)).mono ?_; rintro e w' ⟨rfl, m0, rfl⟩))
  go_ret
  refine ⟨ret_int ?_, _, rfl⟩
  simp only [raw2, wrap_u64m]
  generalize (sgn d.toNat a).tdiv (sgn d.toNat b) = t
  unfold wrap64
  omega

theorem divU_op (d a b : Int) (w : World) (hd : d = 32 ∨ d = 64) (ha0 : 0 ≤ a) (ha : a < 2 ^ d.toNat) (hb0 : 0 ≤ b) (hb : b < 2 ^ d.toNat) (hb1 : b ≠ 0) :
    Tells 74 #[.int .i64 d, .int .u64 a, .int .u64 b] w (.int .u64 (raw2 110 d.toNat a b)) := by
  unfold Tells
  have ha' := pw hd ha
  have hb' := pw hd hb
  clear ha hb
  go_enter Tryd.func74, Tryd.ntmps74
  go_wp2
  go_ret
  refine ⟨ret_int ?_, 0, rfl⟩
  rfl

theorem remS_op (d a b : Int) (w : World) (hd : d = 32 ∨ d = 64) (ha0 : 0 ≤ a) (ha : a < 2 ^ d.toNat) (hb0 : 0 ≤ b) (hb : b < 2 ^ d.toNat) (hb1 : b ≠ 0) :
    Tells 75 #[.int .i64 d, .int .u64 a, .int .u64 b] w (.int .u64 (raw2 111 d.toNat a b)) := by
  unfold Tells
  have ha' := pw hd ha
  have hb' := pw hd hb
  have HS := Lib.hid (fun n w' h0 h1 => signed_any d n w' (by omega) h0 h1)
  have hz : sgn d.toNat b ≠ 0 := sgn_ne hd hb0 hb hb1
  have hz' : (sgn d.toNat b == 0) = false := by simp [hz]
  clear ha hb
  go_enter Tryd.func75, Tryd.ntmps75
  go_wp2_with (first
    | (go_at_call 64; refine (HS.out _ _ (by assumption) (by assumption)).mono ?_; rintro e w' ⟨rfl, m0, rfl⟩))
  go_ret
  refine ⟨ret_int ?_, _, rfl⟩
  simp only [raw2, wrap_u64m]

theorem remU_op (d a b : Int) (w : World) (hd : d = 32 ∨ d = 64) (ha0 : 0 ≤ a) (ha : a < 2 ^ d.toNat) (hb0 : 0 ≤ b) (hb : b < 2 ^ d.toNat) (hb1 : b ≠ 0) :
    Tells 76 #[.int .i64 d, .int .u64 a, .int .u64 b] w (.int .u64 (raw2 112 d.toNat a b)) := by
  unfold Tells
  have ha' := pw hd ha
  have hb' := pw hd hb
  clear ha hb
  go_enter Tryd.func76, Tryd.ntmps76
  go_wp2
  go_ret
  refine ⟨ret_int ?_, 0, rfl⟩
  rfl

theorem shl_op (d a b : Int) (w : World) (hd : d = 32 ∨ d = 64) (ha0 : 0 ≤ a) (ha : a < 2 ^ d.toNat) (hb0 : 0 ≤ b) (hb : b < 2 ^ d.toNat) :
    Tells 83 #[.int .i64 d, .int .u64 a, .int .u64 b] w (.int .u64 (raw2 116 d.toNat a b)) := by
  unfold Tells
  have ha' := pw hd ha
  have hb' := pw hd hb
  have HF := Lib.hid (fun w' => far_any d b w' hd hb0 hb')
  have hk : 0 ≤ b % d ∧ b % d < d := ⟨Int.emod_nonneg _ (by omega), Int.emod_lt_of_pos _ (by omega)⟩
  have hdd : (d.toNat : Int) = d := by omega
  clear ha hb
  go_enter Tryd.func83, Tryd.ntmps83
  go_wp2_with (first
    | (go_at_call 84; refine (HF.out _).mono ?_; rintro e w' ⟨rfl, m0, rfl⟩))
  go_ret
  refine ⟨ret_int ?_, _, rfl⟩
  simp only [raw2, wrap_u64m, hdd]

theorem shrS_op (d a b : Int) (w : World) (hd : d = 32 ∨ d = 64) (ha0 : 0 ≤ a) (ha : a < 2 ^ d.toNat) (hb0 : 0 ≤ b) (hb : b < 2 ^ d.toNat) :
    Tells 85 #[.int .i64 d, .int .u64 a, .int .u64 b] w (.int .u64 (raw2 117 d.toNat a b)) := by
  unfold Tells
  have ha' := pw hd ha
  have hb' := pw hd hb
  have HF := Lib.hid (fun w' => far_any d b w' hd hb0 hb')
  have hk : 0 ≤ b % d ∧ b % d < d := ⟨Int.emod_nonneg _ (by omega), Int.emod_lt_of_pos _ (by omega)⟩
  have hdd : (d.toNat : Int) = d := by omega
  have HA := Lib.hid (fun w' => signed_any d a w' (by omega) ha0 ha')
  clear ha hb
  go_enter Tryd.func85, Tryd.ntmps85
  go_wp2_with (first
    | (go_at_call 64; refine (HA.out _).mono ?_; rintro e w' ⟨rfl, m0, rfl⟩)
    | (go_at_call 84; refine (HF.out _).mono ?_; rintro e w' ⟨rfl, m1, rfl⟩))
  go_ret
  refine ⟨ret_int ?_, _, rfl⟩
  simp only [raw2, wrap_u64m, hdd]

theorem shrU_op (d a b : Int) (w : World) (hd : d = 32 ∨ d = 64) (ha0 : 0 ≤ a) (ha : a < 2 ^ d.toNat) (hb0 : 0 ≤ b) (hb : b < 2 ^ d.toNat) :
    Tells 86 #[.int .i64 d, .int .u64 a, .int .u64 b] w (.int .u64 (raw2 118 d.toNat a b)) := by
  unfold Tells
  have ha' := pw hd ha
  have hb' := pw hd hb
  have HF := Lib.hid (fun w' => far_any d b w' hd hb0 hb')
  have hk : 0 ≤ b % d ∧ b % d < d := ⟨Int.emod_nonneg _ (by omega), Int.emod_lt_of_pos _ (by omega)⟩
  have hdd : (d.toNat : Int) = d := by omega
  clear ha hb
  go_enter Tryd.func86, Tryd.ntmps86
  go_wp2_with (first
    | (go_at_call 84; refine (HF.out _).mono ?_; rintro e w' ⟨rfl, m0, rfl⟩))
  go_ret
  refine ⟨ret_int ?_, _, rfl⟩
  simp only [raw2, hdd]

theorem rotl_op (d a b : Int) (w : World) (hd : d = 32 ∨ d = 64) (ha0 : 0 ≤ a) (ha : a < 2 ^ d.toNat) (hb0 : 0 ≤ b) (hb : b < 2 ^ d.toNat) :
    Tells 87 #[.int .i64 d, .int .u64 a, .int .u64 b] w (.int .u64 (raw2 119 d.toNat a b)) := by
  unfold Tells
  have ha' := pw hd ha
  have hb' := pw hd hb
  have HF := Lib.hid (fun w' => far_any d b w' hd hb0 hb')
  have hk : 0 ≤ b % d ∧ b % d < d := ⟨Int.emod_nonneg _ (by omega), Int.emod_lt_of_pos _ (by omega)⟩
  have hdd : (d.toNat : Int) = d := by omega
  have HK := Lib.hid (fun w' => turn_any d a (b % d) w' hd ha0 ha' hk.1 (by omega))
  clear ha hb
  go_enter Tryd.func87, Tryd.ntmps87
  go_wp2_with (first
    | (go_at_call 84; refine (HF.out _).mono ?_; rintro e w' ⟨rfl, m0, rfl⟩)
    | (go_at_call 88; refine (HK.out _).mono ?_; rintro e w' ⟨rfl, m1, rfl⟩))
  go_ret
  refine ⟨ret_int ?_, _, rfl⟩
  simp only [raw2, hdd]

theorem rotr_op (d a b : Int) (w : World) (hd : d = 32 ∨ d = 64) (ha0 : 0 ≤ a) (ha : a < 2 ^ d.toNat) (hb0 : 0 ≤ b) (hb : b < 2 ^ d.toNat) :
    Tells 89 #[.int .i64 d, .int .u64 a, .int .u64 b] w (.int .u64 (raw2 120 d.toNat a b)) := by
  unfold Tells
  have ha' := pw hd ha
  have hb' := pw hd hb
  have HF := Lib.hid (fun w' => far_any d b w' hd hb0 hb')
  have hk : 0 ≤ b % d ∧ b % d < d := ⟨Int.emod_nonneg _ (by omega), Int.emod_lt_of_pos _ (by omega)⟩
  have hdd : (d.toNat : Int) = d := by omega
  have HK := Lib.hid (fun w' => turn_any d a (d - b % d) w' hd ha0 ha' (by omega) (by omega))
  clear ha hb
  go_enter Tryd.func89, Tryd.ntmps89
  go_wp2_with (first
    | (go_at_call 84; refine (HF.out _).mono ?_; rintro e w' ⟨rfl, m0, rfl⟩)
    | (go_at_call 88; refine (HK.out _).mono ?_; rintro e w' ⟨rfl, m1, rfl⟩))
  go_ret
  refine ⟨ret_int ?_, _, rfl⟩
  simp only [raw2, hdd]
  congr 1
  omega

end Go.Proofs.YtmikhbpffmojhaaDoor.nm
