/- The contracts of leb.fitsLast and leb.read: what is read of any bytes. -/
import Derived.Test.YtllnbifdapgnoaaBytes
import Derived.Test.YtllnbifdapgnoaaDec
import Derived.Deep.QuietTactic
import Derived.BigQuiet
namespace Go.Proofs.Ytllnbifdapgnoaa.lb
open Go.RowKit

set_option maxHeartbeats 400000 in
theorem fitsU_any (c r : Int) (w : World) (h0 : 0 ≤ c) (h1 : c < 256) (hr : 1 ≤ r) (hr' : r ≤ 6) (ok : Bool) (hok : ok = decide (c < 2 ^ r.toNat)) :
    Calls Try.prog 29 #[.int .u8 c, .int .i64 r] w fun e w' => e = .returned (.bool ok) ∧ w = w' := by
  have hp : (2:Int) ^ r.toNat ≤ 64 := by
    have : r.toNat = 1 ∨ r.toNat = 2 ∨ r.toNat = 3 ∨ r.toNat = 4 ∨ r.toNat = 5 ∨ r.toNat = 6 := by omega
    rcases this with h | h | h | h | h | h <;> rw [h] <;> decide
  have hb := b8_and128 c h0 h1
  by_cases hc : c < 128
  · rw [if_pos hc] at hb
    have Hok : Hid (ok = (c % 128 == c % 2 ^ r.toNat)) := by
      show _ = _
      rw [hok, Bool.eq_iff_iff, decide_eq_true_eq, beq_iff_eq]
      have := Int.emod_lt_of_pos c (show (0:Int) < 2 ^ r.toNat from Int.pow_pos (by decide))
      have := Int.emod_nonneg c (show (2:Int) ^ r.toNat ≠ 0 from Int.ne_of_gt (Int.pow_pos (by decide)))
      rw [Int.emod_eq_of_lt h0 hc]
      constructor
      · intro h; exact (Int.emod_eq_of_lt h0 h).symm
      · intro h; omega
    clear hok hp
    go_enter Try.func29, Try.ntmps29
    go_wp2_with (go_at_call 27; refine (lowU_any _ _ _ (by omega) (by omega)).mono ?_; rintro e w' ⟨rfl, rfl⟩)
    go_ret
    exact ⟨by rw [Hok.out]; rfl, rfl⟩
  · rw [if_neg hc] at hb
    obtain rfl : ok = false := by rw [hok]; simp; omega
    clear hok hp
    go_enter Try.func29, Try.ntmps29
    go_wp2
    go_ret
    exact ⟨rfl, rfl⟩

/-- the results of a reading: number, place, fault -/
def res (kind : IntKind) (r : Int × Int × Int × Int) : Ending := .returned (.tuple #[.int kind r.1, .int .i64 r.2.1, .agg #[.int .i64 r.2.2.1, .int .i64 r.2.2.2, .int .i64 0]])

set_option maxHeartbeats 2000000 in
theorem readU_32 (v : Value) (l : List Int) (a : Nat) (w : World) (hv : Rd w v l) (hr : ∀ x ∈ l, 0 ≤ x ∧ x < 256) (hl : l.length ≤ 281474976710656) (ha : a ≤ l.length) :
    Calls Try.prog 23 #[v, .int .i64 a, .int .i64 32] w fun e w' => e = res .u64 (decU l a 5 16) ∧ Below w.heap.size w w' := by
  obtain ⟨ao, cap, rfl, hcap, _, hcells⟩ := hv
  obtain ⟨m1, m2, m3⟩ := mk_spec l a ha
  obtain ⟨m, hm⟩ : ∃ m, m = mk l a := ⟨_, rfl⟩
  rw [← hm] at m1
  have Hm := Lib.hid hm
  have Hcells := Lib.hid hcells
  have M2 := Lib.hid m2
  have M3 := Lib.hid m3
  have Hr := Lib.hid hr
  clear hcells m2 m3 hr hm
  have ha0 : decide ((a : Int) < 0) = false := by rw [decide_eq_false_iff_not]; omega
  have ha1 : decide (l.length < a) = false := by rw [decide_eq_false_iff_not]; omega
  go_enter Try.func23, Try.ntmps23
  go_wp2
  go_loop [1, 9, 10] (fun x n h => ∃ (i j : Nat) (t hh : Int), St l a j i hh t ∧ i ≤ a + m ∧ hh ≤ 28 ∧ 0 ≤ hh ∧ 0 ≤ t ∧ t < 18446744073709551616 ∧ x = .int .i64 i ∧ n = .int .u64 t ∧ h = .int .i64 hh) (fun _ _ h => (70 - intOf h).toNat)
  case atStart => exact ⟨a, 0, 0, 0, St.zero l a, by omega, by omega, by omega, by omega, by omega, rfl, rfl, rfl⟩
  case round =>
    obtain ⟨i, j, t, hh, HE, hi, hh1, hh0, ht0, ht1, rfl, rfl, rfl⟩ := hrel
    by_cases hc : i = l.length
    · have hq : ((i : Int) == (l.length : Int)) = true := by rw [beq_iff_eq]; omega
      have HD := Lib.hid (decU_fin_end (k := 5) (lim := 16) HE Hm.out hi m1 hc (by omega))
      clear hc
      go_wp2
      exact bodyPost_ret (v := .tuple #[.int .u64 0, .int .i64 0, .agg #[.int .i64 4, .int .i64 i, .int .i64 0]]) (by simp [results, Try.results23, go_sem]) rfl ⟨by rw [HD.out]; rfl, (Below.refl _ _).alloc (Nat.le_refl _) _⟩
    · have hlt : i < l.length := by omega
      have hq : ((i : Int) == (l.length : Int)) = false := by rw [beq_eq_false_iff_ne]; omega
      clear hc
      obtain ⟨b, off, rfl, hcell⟩ : ∃ b off, ao = some ⟨b, off, none⟩ ∧ w.cell? ⟨b, off + i, none⟩ = some (.int .u8 (l.getD i 0)) := by
        rcases Hcells.out with h | ⟨b, off, rfl, h⟩
        · subst h; simp at hlt
        · exact ⟨b, off, rfl, h i hlt⟩
      have hbs := World.block_lt_of_cell? w _ hcell
      obtain ⟨c, hcc⟩ : ∃ c, c = l.getD i 0 := ⟨_, rfl⟩
      rw [← hcc] at hcell
      have hc0 : 0 ≤ c ∧ c < 256 := by
        rw [hcc, List.getD_eq_getElem?_getD, List.getElem?_eq_getElem hlt]; exact Hr.out _ (List.getElem_mem hlt)
      obtain ⟨hc0, hc1⟩ := hc0
      have hb7 := b8_and127 c hc0 hc1
      have hb := b8_and128 c hc0 hc1
      obtain ⟨t', ht'⟩ : ∃ t', t' = t + c % 128 * 2 ^ hh.toNat := ⟨_, rfl⟩
      have HS := HE.succ hlt hcc
      have HB := HE.bd
      have Hon := fun h => HE.on Hm.out hi hlt hcc h M3.out
      have Hcc := Lib.hid hcc
      have HT := Lib.hid ht'
      have HON := Lib.hid Hon
      rw [← ht'] at HS
      clear hcc ht' Hon
      by_cases hj : hh ≤ 21
      · have hst := HE.step hlt Hcc.out hh0 (by omega)
        rw [← HT.out] at hst
        obtain ⟨hs0, hs1, hs2, hs3, hs4⟩ := hst
        have hor : bits BinOp.or IntKind.u64 t (IntKind.u64.wrap (c % 128 * 2 ^ hh.toNat)) = t' := by
          rw [wrap_u64, Int.emod_eq_of_lt hs3 (by omega), u64_or t _ ht0 ht1 hs3 (by omega), or_add _ _ _ ht0 HB.2 (by omega), ← HT.out]
        have HM : Hid (t' % 2 ^ (hh + 7).toNat = t') := Int.emod_eq_of_lt hs0 hs1
        have ht'1 : t' < 18446744073709551616 := by omega
        clear HB hs1 hs3 hs4
        by_cases hm : c < 128
        · rw [if_pos hm] at hb
          have HD := Lib.hid (decU_fin_ok (k := 5) (lim := 16) HE Hm.out hi hlt Hcc.out hm (by omega) (by omega) M2.out)
          rw [← HT.out] at HD
          go_wp2_with (go_at_call 27; refine (lowU_any _ _ _ (by omega) (by omega)).mono ?_; rintro e w' ⟨rfl, rfl⟩)
          exact bodyPost_ret (v := .tuple #[.int .u64 (t' % 2 ^ (hh + 7).toNat), .int .i64 (i + 1), .agg #[.int .i64 0, .int .i64 0, .int .i64 0]]) (by simp [results, Try.results23, go_sem]) rfl ⟨by rw [HD.out, HM.out]; rfl, (Below.refl _ _).alloc (Nat.le_refl _) _⟩
        · rw [if_neg hm] at hb
          have hon := HON.out hm
          clear HM
          go_wp2
          go_round
          case rel => exact ⟨i + 1, j + 1, t', hh + 7, HS, hon, by omega, by omega, hs0, ht'1, by go_num, rfl, rfl⟩
          case measure => simp [intOf]; omega
      · have Hlast : Hid (hh = 28) := by
          show _ = _
          have := HE.2.1
          omega
        by_cases hfit : c < 16
        · have hfb : true = decide (c < 2 ^ (4 : Int).toNat) := by simp; omega
          have hm : c < 128 := by omega
          rw [if_pos hm] at hb
          have HD := Lib.hid (decU_fin_ok (k := 5) (lim := 16) HE Hm.out hi hlt Hcc.out hm (by omega) (fun _ => hfit) M2.out)
          rw [← HT.out] at HD
          have hpn : (2 : Int) ^ (28 : Nat) = 268435456 := rfl
          have hp : (2 : Int) ^ hh.toNat = 268435456 := by rw [Hlast.out]; exact hpn
          have hB2 := HB.2
          rw [hp] at hB2
          have hcm : c % 128 = c := Int.emod_eq_of_lt hc0 hm
          have HT2 : Hid (t' = t + c * 268435456) := by show _ = _; rw [HT.out, hp, hcm]
          have hor : bits BinOp.or IntKind.u64 t (c % 128 * 268435456) = t' := by
            rw [hcm, u64_or t _ ht0 ht1 (by omega) (by omega), HT2.out]
            have h := or_add t c 28 ht0 (by rw [hpn]; exact hB2) hc0
            rw [hpn] at h
            exact h
          have ht'0 : 0 ≤ t' := by have := HT2.out; omega
          have ht'1 : t' < 18446744073709551616 := by have := HT2.out; omega
          have ht'2 : t' < 34359738368 := by have := HT2.out; omega
          have HM : Hid (t' % 34359738368 = t') := Int.emod_eq_of_lt ht'0 ht'2
          have Hfb := Lib.hid hfb
          clear hpn hp hB2 hcm HT HT2 HB ht'2 hfb
          obtain rfl := Hlast.out
          go_wp2_with (first
            | (go_at_call 27; refine (lowU_any _ _ _ (by omega) (by omega)).mono ?_; rintro e w' ⟨rfl, rfl⟩)
            | (go_at_call 29; refine (fitsU_any _ _ _ (by omega) (by omega) (by omega) (by omega) true Hfb.out).mono ?_; rintro e w' ⟨rfl, rfl⟩))
          exact bodyPost_ret (v := .tuple #[.int .u64 (t' % 34359738368), .int .i64 (i + 1), .agg #[.int .i64 0, .int .i64 0, .int .i64 0]]) (by simp [results, Try.results23, go_sem]) rfl ⟨by rw [HD.out, HM.out]; rfl, (Below.refl _ _).alloc (Nat.le_refl _) _⟩
        · have hfb : false = decide (c < 2 ^ (4 : Int).toNat) := by simp; omega
          have HD := Lib.hid (decU_fin_leb (k := 5) (lim := 16) HE Hm.out hi hlt Hcc.out (by have := Hlast.out; omega) (by omega))
          have Hfb := Lib.hid hfb
          clear hfb
          obtain rfl := Hlast.out
          go_wp2_with (go_at_call 29; refine (fitsU_any _ _ _ (by omega) (by omega) (by omega) (by omega) false Hfb.out).mono ?_; rintro e w' ⟨rfl, rfl⟩)
          exact bodyPost_ret (v := .tuple #[.int .u64 0, .int .i64 0, .agg #[.int .i64 3, .int .i64 i, .int .i64 0]]) (by simp [results, Try.results23, go_sem]) rfl ⟨by rw [HD.out]; rfl, (Below.refl _ _).alloc (Nat.le_refl _) _⟩

set_option maxHeartbeats 2000000 in
theorem readU_64 (v : Value) (l : List Int) (a : Nat) (w : World) (hv : Rd w v l) (hr : ∀ x ∈ l, 0 ≤ x ∧ x < 256) (hl : l.length ≤ 281474976710656) (ha : a ≤ l.length) :
    Calls Try.prog 23 #[v, .int .i64 a, .int .i64 64] w fun e w' => e = res .u64 (decU l a 10 2) ∧ Below w.heap.size w w' := by
  obtain ⟨ao, cap, rfl, hcap, _, hcells⟩ := hv
  obtain ⟨m1, m2, m3⟩ := mk_spec l a ha
  obtain ⟨m, hm⟩ : ∃ m, m = mk l a := ⟨_, rfl⟩
  rw [← hm] at m1
  have Hm := Lib.hid hm
  have Hcells := Lib.hid hcells
  have M2 := Lib.hid m2
  have M3 := Lib.hid m3
  have Hr := Lib.hid hr
  clear hcells m2 m3 hr hm
  have ha0 : decide ((a : Int) < 0) = false := by rw [decide_eq_false_iff_not]; omega
  have ha1 : decide (l.length < a) = false := by rw [decide_eq_false_iff_not]; omega
  go_enter Try.func23, Try.ntmps23
  go_wp2
  go_loop [1, 9, 10] (fun x n h => ∃ (i j : Nat) (t hh : Int), St l a j i hh t ∧ i ≤ a + m ∧ hh ≤ 63 ∧ 0 ≤ hh ∧ 0 ≤ t ∧ t < 18446744073709551616 ∧ x = .int .i64 i ∧ n = .int .u64 t ∧ h = .int .i64 hh) (fun _ _ h => (70 - intOf h).toNat)
  case atStart => exact ⟨a, 0, 0, 0, St.zero l a, by omega, by omega, by omega, by omega, by omega, rfl, rfl, rfl⟩
  case round =>
    obtain ⟨i, j, t, hh, HE, hi, hh1, hh0, ht0, ht1, rfl, rfl, rfl⟩ := hrel
    by_cases hc : i = l.length
    · have hq : ((i : Int) == (l.length : Int)) = true := by rw [beq_iff_eq]; omega
      have HD := Lib.hid (decU_fin_end (k := 10) (lim := 2) HE Hm.out hi m1 hc (by omega))
      clear hc
      go_wp2
      exact bodyPost_ret (v := .tuple #[.int .u64 0, .int .i64 0, .agg #[.int .i64 4, .int .i64 i, .int .i64 0]]) (by simp [results, Try.results23, go_sem]) rfl ⟨by rw [HD.out]; rfl, (Below.refl _ _).alloc (Nat.le_refl _) _⟩
    · have hlt : i < l.length := by omega
      have hq : ((i : Int) == (l.length : Int)) = false := by rw [beq_eq_false_iff_ne]; omega
      clear hc
      obtain ⟨b, off, rfl, hcell⟩ : ∃ b off, ao = some ⟨b, off, none⟩ ∧ w.cell? ⟨b, off + i, none⟩ = some (.int .u8 (l.getD i 0)) := by
        rcases Hcells.out with h | ⟨b, off, rfl, h⟩
        · subst h; simp at hlt
        · exact ⟨b, off, rfl, h i hlt⟩
      have hbs := World.block_lt_of_cell? w _ hcell
      obtain ⟨c, hcc⟩ : ∃ c, c = l.getD i 0 := ⟨_, rfl⟩
      rw [← hcc] at hcell
      have hc0 : 0 ≤ c ∧ c < 256 := by
        rw [hcc, List.getD_eq_getElem?_getD, List.getElem?_eq_getElem hlt]; exact Hr.out _ (List.getElem_mem hlt)
      obtain ⟨hc0, hc1⟩ := hc0
      have hb7 := b8_and127 c hc0 hc1
      have hb := b8_and128 c hc0 hc1
      obtain ⟨t', ht'⟩ : ∃ t', t' = t + c % 128 * 2 ^ hh.toNat := ⟨_, rfl⟩
      have HS := HE.succ hlt hcc
      have HB := HE.bd
      have Hon := fun h => HE.on Hm.out hi hlt hcc h M3.out
      have Hcc := Lib.hid hcc
      have HT := Lib.hid ht'
      have HON := Lib.hid Hon
      rw [← ht'] at HS
      clear hcc ht' Hon
      by_cases hj : hh ≤ 56
      · have hst := HE.step hlt Hcc.out hh0 (by omega)
        rw [← HT.out] at hst
        obtain ⟨hs0, hs1, hs2, hs3, hs4⟩ := hst
        have hor : bits BinOp.or IntKind.u64 t (IntKind.u64.wrap (c % 128 * 2 ^ hh.toNat)) = t' := by
          rw [wrap_u64, Int.emod_eq_of_lt hs3 (by omega), u64_or t _ ht0 ht1 hs3 (by omega), or_add _ _ _ ht0 HB.2 (by omega), ← HT.out]
        have HM : Hid (t' % 2 ^ (hh + 7).toNat = t') := Int.emod_eq_of_lt hs0 hs1
        have ht'1 : t' < 18446744073709551616 := by omega
        clear HB hs1 hs3 hs4
        by_cases hm : c < 128
        · rw [if_pos hm] at hb
          have HD := Lib.hid (decU_fin_ok (k := 10) (lim := 2) HE Hm.out hi hlt Hcc.out hm (by omega) (by omega) M2.out)
          rw [← HT.out] at HD
          go_wp2_with (go_at_call 27; refine (lowU_any _ _ _ (by omega) (by omega)).mono ?_; rintro e w' ⟨rfl, rfl⟩)
          exact bodyPost_ret (v := .tuple #[.int .u64 (t' % 2 ^ (hh + 7).toNat), .int .i64 (i + 1), .agg #[.int .i64 0, .int .i64 0, .int .i64 0]]) (by simp [results, Try.results23, go_sem]) rfl ⟨by rw [HD.out, HM.out]; rfl, (Below.refl _ _).alloc (Nat.le_refl _) _⟩
        · rw [if_neg hm] at hb
          have hon := HON.out hm
          clear HM
          go_wp2
          go_round
          case rel => exact ⟨i + 1, j + 1, t', hh + 7, HS, hon, by omega, by omega, hs0, ht'1, by go_num, rfl, rfl⟩
          case measure => simp [intOf]; omega
      · have Hlast : Hid (hh = 63) := by
          show _ = _
          have := HE.2.1
          omega
        by_cases hfit : c < 2
        · have hfb : true = decide (c < 2 ^ (1 : Int).toNat) := by simp; omega
          have hm : c < 128 := by omega
          rw [if_pos hm] at hb
          have HD := Lib.hid (decU_fin_ok (k := 10) (lim := 2) HE Hm.out hi hlt Hcc.out hm (by omega) (fun _ => hfit) M2.out)
          rw [← HT.out] at HD
          have hpn : (2 : Int) ^ (63 : Nat) = 9223372036854775808 := rfl
          have hp : (2 : Int) ^ hh.toNat = 9223372036854775808 := by rw [Hlast.out]; exact hpn
          have hB2 := HB.2
          rw [hp] at hB2
          have hcm : c % 128 = c := Int.emod_eq_of_lt hc0 hm
          have HT2 : Hid (t' = t + c * 9223372036854775808) := by show _ = _; rw [HT.out, hp, hcm]
          have hor : bits BinOp.or IntKind.u64 t (c % 128 * 9223372036854775808) = t' := by
            rw [hcm, u64_or t _ ht0 ht1 (by omega) (by omega), HT2.out]
            have h := or_add t c 63 ht0 (by rw [hpn]; exact hB2) hc0
            rw [hpn] at h
            exact h
          have ht'0 : 0 ≤ t' := by have := HT2.out; omega
          have ht'1 : t' < 18446744073709551616 := by have := HT2.out; omega
          have ht'2 : t' < 18446744073709551616 := by have := HT2.out; omega
          have HM : Hid (t' % 18446744073709551616 = t') := Int.emod_eq_of_lt ht'0 ht'2
          have Hfb := Lib.hid hfb
          clear hpn hp hB2 hcm HT HT2 HB ht'2 hfb
          obtain rfl := Hlast.out
          go_wp2_with (first
            | (go_at_call 27; refine (lowU_any _ _ _ (by omega) (by omega)).mono ?_; rintro e w' ⟨rfl, rfl⟩)
            | (go_at_call 29; refine (fitsU_any _ _ _ (by omega) (by omega) (by omega) (by omega) true Hfb.out).mono ?_; rintro e w' ⟨rfl, rfl⟩))
          exact bodyPost_ret (v := .tuple #[.int .u64 (t' % 18446744073709551616), .int .i64 (i + 1), .agg #[.int .i64 0, .int .i64 0, .int .i64 0]]) (by simp [results, Try.results23, go_sem]) rfl ⟨by rw [HD.out, HM.out]; rfl, (Below.refl _ _).alloc (Nat.le_refl _) _⟩
        · have hfb : false = decide (c < 2 ^ (1 : Int).toNat) := by simp; omega
          have HD := Lib.hid (decU_fin_leb (k := 10) (lim := 2) HE Hm.out hi hlt Hcc.out (by have := Hlast.out; omega) (by omega))
          have Hfb := Lib.hid hfb
          clear hfb
          obtain rfl := Hlast.out
          go_wp2_with (go_at_call 29; refine (fitsU_any _ _ _ (by omega) (by omega) (by omega) (by omega) false Hfb.out).mono ?_; rintro e w' ⟨rfl, rfl⟩)
          exact bodyPost_ret (v := .tuple #[.int .u64 0, .int .i64 0, .agg #[.int .i64 3, .int .i64 i, .int .i64 0]]) (by simp [results, Try.results23, go_sem]) rfl ⟨by rw [HD.out]; rfl, (Below.refl _ _).alloc (Nat.le_refl _) _⟩
end Go.Proofs.Ytllnbifdapgnoaa.lb
