/- The contract of the document's own Load. -/
import Derived.Test.YtmknjiefdhhgkaaRefAcc
set_option linter.unusedVariables false
namespace Go.Proofs.Ytmknjiefdhhgkaa.mm
open Go.RowKit

theorem refAccess_some {op k : Int} {wd : Nat} {st sg : Bool} (h : acc op = some ⟨k, wd, st, sg⟩) (w : World) : Calls Try.prog 11 #[.int .i64 op] w fun e w' => e = .returned (.tuple #[.int .i64 k, .int .i64 wd, .bool st, .bool true]) ∧ w = w' :=
  (refAccess_any op w).mono fun e w' ⟨he, hb⟩ => ⟨by rw [he, accR, h]; rfl, hb⟩
theorem insB_at {n : Nat} {p : Int} {wd : Nat} (hp : 0 ≤ p ∧ p ≤ 8589934590) (hw : wd ≤ 8) : insB n p wd = decide (p + wd ≤ n) := by
  unfold insB
  rw [show decide (p ≤ 1099511627776) = true from by simp; omega, show decide ((wd : Int) ≤ 1099511627776) = true from by simp; omega]; rfl

theorem refLoad_none (v : Value) (op a f : Int) (w : World) (h : acc op = none) :
    Calls Try.prog 16 #[v, .int .i64 op, .int .u64 a, .int .u64 f] w fun e w' => e = .returned (.tuple #[.int .u64 0, .int .i64 1]) ∧ w = w' := by
  have H := Lib.hid (fun w' => refAccess_none op w' h)
  clear h
  go_enter Try.func16, Try.ntmps16
  go_wp2_with (go_at_call 11; refine (H.out _).mono ?_; rintro e w1 ⟨rfl, rfl⟩)
  go_ret2
  exact ⟨rfl, rfl⟩
theorem refLoad_arg (v : Value) (op a f : Int) (w : World) {k : Int} {wd : Nat} {st sg : Bool} (h : acc op = some ⟨k, wd, st, sg⟩) (hno : st = true ∨ 4294967295 < a ∨ 4294967295 < f) :
    Calls Try.prog 16 #[v, .int .i64 op, .int .u64 a, .int .u64 f] w fun e w' => e = .returned (.tuple #[.int .u64 0, .int .i64 1]) ∧ w = w' := by
  have H := Lib.hid (fun w' => refAccess_some h w')
  clear h
  cases st
  · by_cases h1 : 4294967295 < a
    · clear hno
      go_enter Try.func16, Try.ntmps16
      go_wp2_with (go_at_call 11; refine (H.out _).mono ?_; rintro e w1 ⟨rfl, rfl⟩)
      go_ret2
      exact ⟨rfl, rfl⟩
    · have h2 : 4294967295 < f := by rcases hno with h | h | h; cases h; exact absurd h h1; exact h
      clear hno
      go_enter Try.func16, Try.ntmps16
      go_wp2_with (go_at_call 11; refine (H.out _).mono ?_; rintro e w1 ⟨rfl, rfl⟩)
      go_ret2
      exact ⟨rfl, rfl⟩
  · clear hno
    go_enter Try.func16, Try.ntmps16
    go_wp2_with (go_at_call 11; refine (H.out _).mono ?_; rintro e w1 ⟨rfl, rfl⟩)
    go_ret2
    exact ⟨rfl, rfl⟩
theorem refLoad_out (v : Value) (l : List Int) (op a f : Int) (w : World) (hv : Rd w v l) (hl : l.length ≤ 140737488355328) (a0 : 0 ≤ a) (f0 : 0 ≤ f) {k : Int} {wd : Nat} {sg : Bool} (h : acc op = some ⟨k, wd, false, sg⟩) (h1 : a ≤ 4294967295) (h2 : f ≤ 4294967295) (h8 : wd ≤ 8) (h3 : ¬ a + f + wd ≤ l.length) :
    Calls Try.prog 16 #[v, .int .i64 op, .int .u64 a, .int .u64 f] w fun e w' => e = .returned (.tuple #[.int .u64 0, .int .i64 35]) ∧ w = w' := by
  have H := Lib.hid (fun w' => refAccess_some h w')
  have HI := RefInside_any v l (a + f) wd w hv hl (by omega) (by omega) (by omega) (by omega)
  rw [insB_at (by omega) h8, decide_eq_false h3] at HI
  have HI := Lib.hid HI
  clear h h3
  go_enter Try.func16, Try.ntmps16
  go_wp2_with (first
    | (go_at_call 11; refine (H.out _).mono ?_; rintro e w1 ⟨rfl, rfl⟩)
    | (go_at_call 13; refine HI.out.mono ?_; rintro e w1 ⟨rfl, rfl⟩))
  go_ret2
  exact ⟨rfl, rfl⟩

theorem pow_256 (q : Nat) : (2 : Int) ^ (8 * q) = 256 ^ q := by rw [Int.pow_mul]; rfl
theorem or_step {m c : Int} {q : Nat} (hq : q < 8) (m0 : 0 ≤ m) (m1 : m < 256 ^ q) (c0 : 0 ≤ c) (c1 : c < 256) : bits .or .u64 m (IntKind.u64.wrap (c * 2 ^ (8 * q))) = m + 256 ^ q * c := by
  rw [pow_256]
  obtain ⟨M, rfl⟩ : ∃ n : Nat, m = n := ⟨m.toNat, by omega⟩
  obtain ⟨C, rfl⟩ : ∃ n : Nat, c = n := ⟨c.toNat, by omega⟩
  have hp : (256 : Int) ^ q = ((256 ^ q : Nat) : Int) := by rw [Int.natCast_pow]; rfl
  have h7 : (256 : Nat) ^ q ≤ 256 ^ 7 := Nat.pow_le_pow_right (by decide) (by omega)
  rw [hp] at m1 ⊢
  have hM : M < 256 ^ q := by omega
  have hC : C * 256 ^ q ≤ 255 * 256 ^ 7 := Nat.mul_le_mul (by omega) h7
  have e : IntKind.u64.wrap ((C : Int) * ((256 ^ q : Nat) : Int)) = ((C * 256 ^ q : Nat) : Int) := by
    rw [IntKind.wrap_u64, ← Int.natCast_mul]; omega
  rw [e, u64_or_nat _ _ (by omega) (by omega), or_low q M C hM, Int.natCast_add, Int.natCast_mul, Int.mul_comm]
theorem or_bit {x : Int} {i : Nat} (hi : i < 64) (x0 : 0 ≤ x) (x1 : x < 2 ^ i) : bits .or .u64 x (IntKind.u64.wrap (2 ^ i)) = x + 2 ^ i := by
  obtain ⟨X, rfl⟩ : ∃ n : Nat, x = n := ⟨x.toNat, by omega⟩
  have hp : (2 : Int) ^ i = ((2 ^ i : Nat) : Int) := by rw [Int.natCast_pow]; rfl
  have h7 : (2 : Nat) ^ i ≤ 2 ^ 63 := Nat.pow_le_pow_right (by decide) (by omega)
  rw [hp] at x1 ⊢
  have e : IntKind.u64.wrap ((2 ^ i : Nat) : Int) = ((2 ^ i : Nat) : Int) := by rw [IntKind.wrap_u64]; omega
  have hx : X < 2 ^ i := by omega
  rw [e, u64_or_nat _ _ (by omega) (by omega)]
  have h := Nat.two_pow_add_eq_or_of_lt hx 1
  rw [Nat.mul_one] at h
  rw [Nat.or_comm, ← h]; omega
theorem pow_mono {a b : Nat} (h : a ≤ b) : (2 : Int) ^ a ≤ 2 ^ b := by
  have := Nat.pow_le_pow_right (n := 2) (by decide) h
  exact_mod_cast this
theorem top_set {m : Int} {s : Int} (hs : 0 < s) (m0 : 0 ≤ m) (m1 : m < 18446744073709551616) (h1 : m < 2 * s) (h : ¬ m < s) : (bits .and .u64 (m / s) 1 == 1) = true := by
  have e : m / s = 1 := by
    rw [Int.ediv_eq_iff_of_pos hs] ; omega
  rw [e]; decide
theorem top_clear {m : Int} {s : Int} (m0 : 0 ≤ m) (h : m < s) : (bits .and .u64 (m / s) 1 == 1) = false := by
  have e : m / s = 0 := Int.ediv_eq_zero_of_lt m0 h
  rw [e]; decide

set_option maxRecDepth 100000 in
set_option maxHeartbeats 2000000 in
theorem refLoad_in (v : Value) (l : List Int) (op : Int) (am fm : Nat) (w : World) (hv : Rd w v l) (hbs : Bs l) (hl : l.length ≤ 140737488355328) {k : Int} {wd : Nat} {sg : Bool} (h : acc op = some ⟨k, wd, false, sg⟩) (h1 : am ≤ 4294967295) (h2 : fm ≤ 4294967295) (h3 : am + fm + wd ≤ l.length) :
    Calls Try.prog 16 #[v, .int .i64 op, .int .u64 am, .int .u64 fm] w fun e w' => e = .returned (.tuple #[.int .u64 (readV k sg ((l.drop (am + fm)).take wd)), .int .i64 0]) ∧ w = w' := by
  obtain ⟨hk, hw, _⟩ := acc_cases h
  simp only at hk hw
  have H := Lib.hid (fun w' => refAccess_some h w')
  have HI := RefInside_any v l ((am : Int) + fm) wd w hv hl (by omega) (by omega) (by omega) (by omega)
  rw [insB_at (by omega) (by omega), decide_eq_true (show (am : Int) + fm + wd ≤ l.length by omega)] at HI
  have HI := Lib.hid HI
  have hsg : sgB op = sg := sgB_acc _ (acc_mem h)
  have HS := Lib.hid (fun w' => hsg ▸ signed_any op w')
  obtain ⟨b, off, cap, rfl, hcap, htl, hcs⟩ := hv.part (p := am + fm) (k := wd) (by omega) (by omega)
  have hbt : Bs ((l.drop (am + fm)).take wd) := (hbs.drop (am + fm)).take wd
  obtain ⟨t, ht⟩ : ∃ t, (l.drop (am + fm)).take wd = t := ⟨_, rfl⟩
  rw [ht] at hcs htl hbt ⊢
  have Hcs := Lib.hid hcs
  have Hbt := Lib.hid hbt
  have Htl := Lib.hid htl
  have Hk := Lib.hid hk
  have Hw := Lib.hid hw
  have hw8 : wd ≤ 8 := by omega
  have b1 : (am : Int) ≤ 4294967295 := by omega
  have b2 : (fm : Int) ≤ 4294967295 := by omega
  clear h1 h2 h hsg ht hcs hbt htl hv hk hw
  go_enter Try.func16, Try.ntmps16
  go_wp2_with (first
    | (go_at_call 11; refine (H.out _).mono ?_; rintro e w1 ⟨rfl, rfl⟩)
    | (go_at_call 13; refine HI.out.mono ?_; rintro e w1 ⟨rfl, rfl⟩))
  go_loop [14, 15] (fun n i => ∃ q : Nat, q ≤ wd ∧ i = .int .i64 q ∧ n = .int .u64 (leN (t.take q))) (fun _ i => wd - (intOf i).toNat)
  case atStart => exact ⟨0, Nat.zero_le _, rfl, rfl⟩
  case round =>
    obtain ⟨q, hq, rfl, rfl⟩ := hrel
    by_cases hlt : q < wd
    · have hcell := Hcs.out q hlt
      rw [Nat.add_assoc] at hcell
      have hbd := leN_bd (Hbt.out.take q)
      rw [List.length_take, Nat.min_eq_left (by rw [Htl.out]; omega)] at hbd
      have cd := Hbt.out.getD q
      obtain ⟨m, hm⟩ : ∃ m, leN (t.take q) = m := ⟨_, rfl⟩
      obtain ⟨c, hc⟩ : ∃ c, t.getD q 0 = c := ⟨_, rfl⟩
      rw [hm] at hbd ⊢
      rw [hc] at hcell cd
      have Hm := Lib.hid hm
      have Hc := Lib.hid hc
      clear hm hc
      obtain ⟨c0, c1⟩ := cd
      obtain ⟨m0, m1⟩ := hbd
      have Hm1 := Lib.hid m1
      clear m1
      have e1 : (am : Int) + fm + q ≤ l.length := by omega
      have HE := Lib.hid (or_step (q := q) (m := m) (c := c) (by omega) m0 Hm1.out c0 c1)
      go_wp2
      go_round
      case rel =>
        refine ⟨q + 1, by omega, by go_num, ?_⟩
        rw [HE.out, List.take_succ_eq_append_getElem (by rw [Htl.out]; exact hlt), leN_snoc, List.length_take, Nat.min_eq_left (by rw [Htl.out]; omega), Hm.out, ← Hc.out, List.getD_eq_getElem?_getD, List.getElem?_eq_getElem (by rw [Htl.out]; exact hlt)]
        rfl
      case measure => simp [intOf]; omega
    · obtain rfl : q = wd := by omega
      have hbd := leN_bd Hbt.out
      rw [List.take_of_length_le (by rw [Htl.out]; exact Nat.le_refl _), ]
      obtain ⟨m, hm⟩ : ∃ m, leN t = m := ⟨_, rfl⟩
      rw [Htl.out, hm] at hbd
      rw [hm]
      have Hm := Lib.hid hm
      have h64 : m < 18446744073709551616 := Int.lt_of_lt_of_le hbd.2 (pow_le8 hw8)
      clear hm hlt hq
      have hk := Hk.out
      cases sg
      · have HE : Hid (readV k false t = if k = 127 then m % 4294967296 else m) := by show _ = _; rw [readV, Hm.out]; rfl
        have Ha := Lib.hid (and32 hbd.1 h64)
        have m0 := hbd.1
        clear hbd
        rcases hk with rfl | rfl
        · go_wp2_with (go_at_call 26; refine (HS.out _).mono ?_; rintro e w1 ⟨rfl, rfl⟩)
          go_ret2
          exact ⟨by rw [HE.out, ← Ha.out]; rfl, rfl⟩
        · go_wp2_with (go_at_call 26; refine (HS.out _).mono ?_; rintro e w1 ⟨rfl, rfl⟩)
          go_ret2
          exact ⟨by rw [HE.out]; rfl, rfl⟩
      · have m0 := hbd.1
        have Hlt := Lib.hid hbd.2
        clear hbd
        rcases Hw.out with rfl | rfl | rfl | rfl
        · have hlt : m < 256 := Hlt.out
          have hsl : t.length = 1 := Htl.out
          by_cases hs : m < 128
          · have hb := top_clear m0 hs
            have HE : Hid (readV k true t = if k = 127 then m % 4294967296 else m) := by
              show _ = _
              rw [readV, Hm.out, hsl]; simp only [if_true]
              rw [show sgn 1 m = m from by unfold sgn; rw [if_pos (by simpa using hs)]]
            have Ha := Lib.hid (and32 m0 h64)
            have Hs := Lib.hid hs
            clear hsl hs
            rcases hk with rfl | rfl
            · go_wp2_with (go_at_call 26; refine (HS.out _).mono ?_; rintro e w1 ⟨rfl, rfl⟩)
              go_ret2
              exact ⟨by rw [HE.out, ← Ha.out]; rfl, rfl⟩
            · go_wp2_with (go_at_call 26; refine (HS.out _).mono ?_; rintro e w1 ⟨rfl, rfl⟩)
              go_ret2
              exact ⟨by rw [HE.out]; rfl, rfl⟩
          · have hb := top_set (s := 128) (by decide) m0 h64 (by omega) hs
            have HE : Hid (readV k true t = if k = 127 then (m + 18446744073709551360) % 4294967296 else m + 18446744073709551360) := by
              show _ = _
              rw [readV, Hm.out, hsl]; simp only [if_true]
              rw [show sgn 1 m = m + 18446744073709551360 from by unfold sgn; rw [if_neg (by simpa using hs)]; rfl]
            have Ha := Lib.hid (and32 (m := m + 18446744073709551360) (by omega) (by omega))
            have Hs := Lib.hid hs
            have Hb := Lib.hid hb
            clear hsl hs
            go_wp2_with (go_at_call 26; refine (HS.out _).mono ?_; rintro e w1 ⟨rfl, rfl⟩)
            go_loop [14, 16] (fun n i => ∃ (j : Nat) (z : Int), 8 ≤ j ∧ j ≤ 64 ∧ i = .int .i64 j ∧ n = .int .u64 z ∧ Hid (z = m + 2 ^ j - 256)) (fun _ i => 64 - (intOf i).toNat)
            case atStart => exact ⟨8, m, by decide, by decide, rfl, rfl, by show _ = _; simp⟩
            case round =>
              obtain ⟨j, z, hj1, hj2, rfl, rfl, Hz⟩ := hrel
              by_cases hj : j < 64
              · have hp : (256 : Int) ≤ 2 ^ j := Int.le_trans (by decide) (pow_mono hj1)
                have HO := Lib.hid (or_bit (x := z) hj (by rw [Hz.out]; omega) (by rw [Hz.out]; omega))
                clear hp
                go_wp2
                go_round
                case rel => exact ⟨j + 1, _, by omega, by omega, by go_num, rfl, by show _ = _; rw [HO.out, Hz.out, Int.pow_succ]; omega⟩
                case measure => simp [intOf]; omega
              · obtain rfl : j = 64 := by omega
                have hz : z = m + 18446744073709551360 := by rw [Hz.out]; omega
                subst hz
                clear Hz
                rcases hk with rfl | rfl
                · go_wp2
                  go_ret2
                  exact ⟨by rw [HE.out, ← Ha.out]; rfl, rfl⟩
                · go_wp2
                  go_ret2
                  exact ⟨by rw [HE.out]; rfl, rfl⟩
        · have hlt : m < 65536 := Hlt.out
          have hsl : t.length = 2 := Htl.out
          by_cases hs : m < 32768
          · have hb := top_clear m0 hs
            have HE : Hid (readV k true t = if k = 127 then m % 4294967296 else m) := by
              show _ = _
              rw [readV, Hm.out, hsl]; simp only [if_true]
              rw [show sgn 2 m = m from by unfold sgn; rw [if_pos (by simpa using hs)]]
            have Ha := Lib.hid (and32 m0 h64)
            have Hs := Lib.hid hs
            clear hsl hs
            rcases hk with rfl | rfl
            · go_wp2_with (go_at_call 26; refine (HS.out _).mono ?_; rintro e w1 ⟨rfl, rfl⟩)
              go_ret2
              exact ⟨by rw [HE.out, ← Ha.out]; rfl, rfl⟩
            · go_wp2_with (go_at_call 26; refine (HS.out _).mono ?_; rintro e w1 ⟨rfl, rfl⟩)
              go_ret2
              exact ⟨by rw [HE.out]; rfl, rfl⟩
          · have hb := top_set (s := 32768) (by decide) m0 h64 (by omega) hs
            have HE : Hid (readV k true t = if k = 127 then (m + 18446744073709486080) % 4294967296 else m + 18446744073709486080) := by
              show _ = _
              rw [readV, Hm.out, hsl]; simp only [if_true]
              rw [show sgn 2 m = m + 18446744073709486080 from by unfold sgn; rw [if_neg (by simpa using hs)]; rfl]
            have Ha := Lib.hid (and32 (m := m + 18446744073709486080) (by omega) (by omega))
            have Hs := Lib.hid hs
            have Hb := Lib.hid hb
            clear hsl hs
            go_wp2_with (go_at_call 26; refine (HS.out _).mono ?_; rintro e w1 ⟨rfl, rfl⟩)
            go_loop [14, 16] (fun n i => ∃ (j : Nat) (z : Int), 16 ≤ j ∧ j ≤ 64 ∧ i = .int .i64 j ∧ n = .int .u64 z ∧ Hid (z = m + 2 ^ j - 65536)) (fun _ i => 64 - (intOf i).toNat)
            case atStart => exact ⟨16, m, by decide, by decide, rfl, rfl, by show _ = _; simp⟩
            case round =>
              obtain ⟨j, z, hj1, hj2, rfl, rfl, Hz⟩ := hrel
              by_cases hj : j < 64
              · have hp : (65536 : Int) ≤ 2 ^ j := Int.le_trans (by decide) (pow_mono hj1)
                have HO := Lib.hid (or_bit (x := z) hj (by rw [Hz.out]; omega) (by rw [Hz.out]; omega))
                clear hp
                go_wp2
                go_round
                case rel => exact ⟨j + 1, _, by omega, by omega, by go_num, rfl, by show _ = _; rw [HO.out, Hz.out, Int.pow_succ]; omega⟩
                case measure => simp [intOf]; omega
              · obtain rfl : j = 64 := by omega
                have hz : z = m + 18446744073709486080 := by rw [Hz.out]; omega
                subst hz
                clear Hz
                rcases hk with rfl | rfl
                · go_wp2
                  go_ret2
                  exact ⟨by rw [HE.out, ← Ha.out]; rfl, rfl⟩
                · go_wp2
                  go_ret2
                  exact ⟨by rw [HE.out]; rfl, rfl⟩
        · have hlt : m < 4294967296 := Hlt.out
          have hsl : t.length = 4 := Htl.out
          by_cases hs : m < 2147483648
          · have hb := top_clear m0 hs
            have HE : Hid (readV k true t = if k = 127 then m % 4294967296 else m) := by
              show _ = _
              rw [readV, Hm.out, hsl]; simp only [if_true]
              rw [show sgn 4 m = m from by unfold sgn; rw [if_pos (by simpa using hs)]]
            have Ha := Lib.hid (and32 m0 h64)
            have Hs := Lib.hid hs
            clear hsl hs
            rcases hk with rfl | rfl
            · go_wp2_with (go_at_call 26; refine (HS.out _).mono ?_; rintro e w1 ⟨rfl, rfl⟩)
              go_ret2
              exact ⟨by rw [HE.out, ← Ha.out]; rfl, rfl⟩
            · go_wp2_with (go_at_call 26; refine (HS.out _).mono ?_; rintro e w1 ⟨rfl, rfl⟩)
              go_ret2
              exact ⟨by rw [HE.out]; rfl, rfl⟩
          · have hb := top_set (s := 2147483648) (by decide) m0 h64 (by omega) hs
            have HE : Hid (readV k true t = if k = 127 then (m + 18446744069414584320) % 4294967296 else m + 18446744069414584320) := by
              show _ = _
              rw [readV, Hm.out, hsl]; simp only [if_true]
              rw [show sgn 4 m = m + 18446744069414584320 from by unfold sgn; rw [if_neg (by simpa using hs)]; rfl]
            have Ha := Lib.hid (and32 (m := m + 18446744069414584320) (by omega) (by omega))
            have Hs := Lib.hid hs
            have Hb := Lib.hid hb
            clear hsl hs
            go_wp2_with (go_at_call 26; refine (HS.out _).mono ?_; rintro e w1 ⟨rfl, rfl⟩)
            go_loop [14, 16] (fun n i => ∃ (j : Nat) (z : Int), 32 ≤ j ∧ j ≤ 64 ∧ i = .int .i64 j ∧ n = .int .u64 z ∧ Hid (z = m + 2 ^ j - 4294967296)) (fun _ i => 64 - (intOf i).toNat)
            case atStart => exact ⟨32, m, by decide, by decide, rfl, rfl, by show _ = _; simp⟩
            case round =>
              obtain ⟨j, z, hj1, hj2, rfl, rfl, Hz⟩ := hrel
              by_cases hj : j < 64
              · have hp : (4294967296 : Int) ≤ 2 ^ j := Int.le_trans (by decide) (pow_mono hj1)
                have HO := Lib.hid (or_bit (x := z) hj (by rw [Hz.out]; omega) (by rw [Hz.out]; omega))
                clear hp
                go_wp2
                go_round
                case rel => exact ⟨j + 1, _, by omega, by omega, by go_num, rfl, by show _ = _; rw [HO.out, Hz.out, Int.pow_succ]; omega⟩
                case measure => simp [intOf]; omega
              · obtain rfl : j = 64 := by omega
                have hz : z = m + 18446744069414584320 := by rw [Hz.out]; omega
                subst hz
                clear Hz
                rcases hk with rfl | rfl
                · go_wp2
                  go_ret2
                  exact ⟨by rw [HE.out, ← Ha.out]; rfl, rfl⟩
                · go_wp2
                  go_ret2
                  exact ⟨by rw [HE.out]; rfl, rfl⟩
        · have hsl : t.length = 8 := Htl.out
          have HE : Hid (readV k true t = if k = 127 then m % 4294967296 else m) := by
            show _ = _
            rw [readV, Hm.out, hsl]; simp only [if_true]
            rw [show sgn 8 m = m from by unfold sgn; split <;> simp]
          have Ha := Lib.hid (and32 m0 h64)
          clear hsl
          by_cases hs : m < 9223372036854775808
          · have hb := top_clear m0 hs
            have Hs := Lib.hid hs
            clear hs
            rcases hk with rfl | rfl
            · go_wp2_with (go_at_call 26; refine (HS.out _).mono ?_; rintro e w1 ⟨rfl, rfl⟩)
              go_ret2
              exact ⟨by rw [HE.out, ← Ha.out]; rfl, rfl⟩
            · go_wp2_with (go_at_call 26; refine (HS.out _).mono ?_; rintro e w1 ⟨rfl, rfl⟩)
              go_ret2
              exact ⟨by rw [HE.out]; rfl, rfl⟩
          · have hb := top_set (s := 9223372036854775808) (by decide) m0 h64 (by omega) hs
            have Hs := Lib.hid hs
            clear hs
            go_wp2_with (go_at_call 26; refine (HS.out _).mono ?_; rintro e w1 ⟨rfl, rfl⟩)
            go_loop [14, 16] (fun n i => i = .int .i64 64 ∧ n = .int .u64 m) (fun _ i => 64 - (intOf i).toNat)
            case atStart => exact ⟨rfl, rfl⟩
            case round =>
              obtain ⟨rfl, rfl⟩ := hrel
              rcases hk with rfl | rfl
              · go_wp2
                go_ret2
                exact ⟨by rw [HE.out, ← Ha.out]; rfl, rfl⟩
              · go_wp2
                go_ret2
                exact ⟨by rw [HE.out]; rfl, rfl⟩

theorem refLoad_any (v : Value) (l : List Int) (op a f : Int) (w : World) (hv : Rd w v l) (hbs : Bs l) (hl : l.length ≤ 140737488355328) (a0 : 0 ≤ a) (f0 : 0 ≤ f) :
    Calls Try.prog 16 #[v, .int .i64 op, .int .u64 a, .int .u64 f] w fun e w' => e = .returned (.tuple #[.int .u64 (loadR l op a f).1, .int .i64 (loadR l op a f).2]) ∧ w = w' := by
  unfold loadR
  cases hacc : acc op with
  | none => exact refLoad_none v op a f w hacc
  | some A =>
    obtain ⟨k, wd, st, sg⟩ := A
    simp only
    have hw := (acc_cases hacc).2.1
    simp only at hw
    by_cases h : st = true ∨ 4294967295 < a ∨ 4294967295 < f
    · rw [if_pos h]; exact refLoad_arg v op a f w hacc h
    · rw [if_neg h]
      obtain rfl : st = false := by cases st; rfl; exact absurd (Or.inl rfl) h
      have h1 : a ≤ 4294967295 := by
        rcases Int.lt_or_le 4294967295 a with h' | h'
        · exact absurd (Or.inr (Or.inl h')) h
        · exact h'
      have h2 : f ≤ 4294967295 := by
        rcases Int.lt_or_le 4294967295 f with h' | h'
        · exact absurd (Or.inr (Or.inr h')) h
        · exact h'
      by_cases h3 : a + f + wd ≤ l.length
      · rw [if_pos h3]
        obtain ⟨am, rfl⟩ : ∃ n : Nat, a = n := ⟨a.toNat, by omega⟩
        obtain ⟨fm, rfl⟩ : ∃ n : Nat, f = n := ⟨f.toNat, by omega⟩
        rw [show ((am : Int) + fm).toNat = am + fm from by omega]
        exact refLoad_in v l op am fm w hv hbs hl hacc (by omega) (by omega) (by omega)
      · rw [if_neg h3]; exact refLoad_out v l op a f w hv hl a0 f0 hacc h1 h2 (by omega) h3
end Go.Proofs.Ytmknjiefdhhgkaa.mm
