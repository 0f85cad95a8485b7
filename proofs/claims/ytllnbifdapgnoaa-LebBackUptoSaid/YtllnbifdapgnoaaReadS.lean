/- The contracts of leb.fitsLast and leb.read, with a sign. -/
import Derived.Test.YtllnbifdapgnoaaRead
namespace Go.Proofs.Ytllnbifdapgnoaa.lb
open Go.RowKit

set_option maxHeartbeats 400000 in
theorem fitsS_any (c r : Int) (w : World) (h0 : 0 ≤ c) (h1 : c < 256) (hr : 1 ≤ r) (hr' : r ≤ 6) (ok : Bool) (hok : c < 128 → ok = (Int.bmod c 128 == Int.bmod c (2 ^ r.toNat))) (hok' : 128 ≤ c → ok = false) :
    Calls Try.prog 30 #[.int .u8 c, .int .i64 r] w fun e w' => e = .returned (.bool ok) ∧ w = w' := by
  have hb := b8_and128 c h0 h1
  by_cases hc : c < 128
  · rw [if_pos hc] at hb
    have Hok := Lib.hid (hok hc)
    clear hok hok'
    go_enter Try.func30, Try.ntmps30
    go_wp2_with (go_at_call 28; refine (lowS_any _ _ _ (by omega) (by omega)).mono ?_; rintro e w' ⟨rfl, rfl⟩)
    go_ret
    exact ⟨by rw [Hok.out]; rfl, rfl⟩
  · rw [if_neg hc] at hb
    obtain rfl : ok = false := hok' (by omega)
    clear hok hok'
    go_enter Try.func30, Try.ntmps30
    go_wp2
    go_ret
    exact ⟨rfl, rfl⟩

set_option maxHeartbeats 2000000 in
theorem readS_32 (v : Value) (l : List Int) (a : Nat) (w : World) (hv : Rd w v l) (hr : ∀ x ∈ l, 0 ≤ x ∧ x < 256) (hl : l.length ≤ 281474976710656) (ha : a ≤ l.length) :
    Calls Try.prog 26 #[v, .int .i64 a, .int .i64 32] w fun e w' => e = res .i64 (decS l a 5 good32) ∧ Below w.heap.size w w' := by
  obtain ⟨ao, cap, rfl, hcap, _, hcells⟩ := hv
  obtain ⟨m1, m2, m3⟩ := mk_spec l a ha
  obtain ⟨m, hm⟩ : ∃ m, m = mk l a := ⟨_, rfl⟩
  rw [← hm] at m1
  have Hm := Lib.hid hm
  have Hcells := Lib.hid hcells
  have M2 := Lib.hid m2
  have M3 := Lib.hid m3
  have Hr := Lib.hid hr
  clear hcells m2 m3 hr hm
  have ha0 : decide ((a : Int) < 0) = false := by rw [decide_eq_false_iff_not]; omega
  have ha1 : decide (l.length < a) = false := by rw [decide_eq_false_iff_not]; omega
  go_enter Try.func26, Try.ntmps26
  go_wp2
  go_loop [1, 9, 10] (fun x n h => ∃ (i j : Nat) (t hh : Int), St l a j i hh t ∧ i ≤ a + m ∧ hh ≤ 28 ∧ 0 ≤ hh ∧ 0 ≤ t ∧ t < 9223372036854775808 ∧ x = .int .i64 i ∧ n = .int .i64 t ∧ h = .int .i64 hh) (fun _ _ h => (70 - intOf h).toNat)
  case atStart => exact ⟨a, 0, 0, 0, St.zero l a, by omega, by omega, by omega, by omega, by omega, rfl, rfl, rfl⟩
  case round =>
    obtain ⟨i, j, t, hh, HE, hi, hh1, hh0, ht0, ht1, rfl, rfl, rfl⟩ := hrel
    by_cases hc : i = l.length
    · have hq : ((i : Int) == (l.length : Int)) = true := by rw [beq_iff_eq]; omega
      have HD := Lib.hid (decS_fin_end (k := 5) (good := good32) HE Hm.out hi m1 hc (by omega))
      clear hc
      go_wp2
      exact bodyPost_ret (v := .tuple #[.int .i64 0, .int .i64 0, .agg #[.int .i64 4, .int .i64 i, .int .i64 0]]) (by simp [results, Try.results26, go_sem]) rfl ⟨by rw [HD.out]; rfl, (Below.refl _ _).alloc (Nat.le_refl _) _⟩
    · have hlt : i < l.length := by omega
      have hq : ((i : Int) == (l.length : Int)) = false := by rw [beq_eq_false_iff_ne]; omega
      clear hc
      obtain ⟨b, off, rfl, hcell⟩ : ∃ b off, ao = some ⟨b, off, none⟩ ∧ w.cell? ⟨b, off + i, none⟩ = some (.int .u8 (l.getD i 0)) := by
        rcases Hcells.out with h | ⟨b, off, rfl, h⟩
        · subst h; simp at hlt
        · exact ⟨b, off, rfl, h i hlt⟩
      have hbs := World.block_lt_of_cell? w _ hcell
      obtain ⟨c, hcc⟩ : ∃ c, c = l.getD i 0 := ⟨_, rfl⟩
      rw [← hcc] at hcell
      have hc0 : 0 ≤ c ∧ c < 256 := by
        rw [hcc, List.getD_eq_getElem?_getD, List.getElem?_eq_getElem hlt]; exact Hr.out _ (List.getElem_mem hlt)
      obtain ⟨hc0, hc1⟩ := hc0
      have hb7 := b8_and127 c hc0 hc1
      have hb := b8_and128 c hc0 hc1
      obtain ⟨t', ht'⟩ : ∃ t', t' = t + c % 128 * 2 ^ hh.toNat := ⟨_, rfl⟩
      have HS := HE.succ hlt hcc
      have HB := HE.bd
      have Hon := fun h => HE.on Hm.out hi hlt hcc h M3.out
      have Hcc := Lib.hid hcc
      have HT := Lib.hid ht'
      have HON := Lib.hid Hon
      rw [← ht'] at HS
      clear hcc ht' Hon
      by_cases hj : hh ≤ 21
      · have hst := HE.step hlt Hcc.out hh0 (by omega)
        rw [← HT.out] at hst
        obtain ⟨hs0, hs1, hs2, hs3, hs4⟩ := hst
        have hor : bits BinOp.or IntKind.i64 t (wrap64 (c % 128 * 2 ^ hh.toNat)) = t' := by
          rw [IntWalk.wrap64_in _ (by omega), bits_or_i64 t _ ht0 ht1 hs3 hs4, or_add _ _ _ ht0 HB.2 (by omega), ← HT.out]
        have HM : Hid (Int.bmod t' (2 ^ (hh + 7).toNat) = sgn t c hh) := by show _ = _; rw [HT.out]; exact bmod_sgn' t c hh hh0 ht0 HB.2
        clear HB hs1 hs3 hs4
        by_cases hm : c < 128
        · rw [if_pos hm] at hb
          have HD := Lib.hid (decS_fin_ok (k := 5) (good := good32) HE Hm.out hi hlt Hcc.out hm (by omega) (by omega) M2.out)
          go_wp2_with (go_at_call 28; refine (lowS_any _ _ _ (by omega) (by omega)).mono ?_; rintro e w' ⟨rfl, rfl⟩)
          exact bodyPost_ret (v := .tuple #[.int .i64 (Int.bmod t' (2 ^ (hh + 7).toNat)), .int .i64 (i + 1), .agg #[.int .i64 0, .int .i64 0, .int .i64 0]]) (by simp [results, Try.results26, go_sem]) rfl ⟨by rw [HD.out, HM.out]; rfl, (Below.refl _ _).alloc (Nat.le_refl _) _⟩
        · rw [if_neg hm] at hb
          have hon := HON.out hm
          clear HM
          go_wp2
          go_round
          case rel => exact ⟨i + 1, j + 1, t', hh + 7, HS, hon, by omega, by omega, hs0, hs2, by go_num, rfl, rfl⟩
          case measure => simp [intOf]; omega
      · have Hlast : Hid (hh = 28) := by
          show _ = _
          have := HE.2.1
          omega
        have hfb1 : c < 128 → good32 c = (Int.bmod c 128 == Int.bmod c (2 ^ (4 : Int).toNat)) := fun h => good32_eq c hc0 h
        have hfb2 : 128 ≤ c → good32 c = false := by intro h; unfold good32; simp; omega
        have Hfb1 := Lib.hid hfb1
        have Hfb2 := Lib.hid hfb2
        clear hfb1 hfb2
        cases hg : good32 c with
        | true =>
          have hm : c < 128 := by
            rcases Nat.lt_or_ge 0 1 with _ | _ <;> (unfold good32 at hg; simp at hg; omega)
          rw [if_pos hm] at hb
          rw [hg] at Hfb1 Hfb2
          have HD := Lib.hid (decS_fin_ok (k := 5) (good := good32) HE Hm.out hi hlt Hcc.out hm (by omega) (fun _ => hg) M2.out)
          have Hg := Lib.hid hg
          clear hg
          have hst := HE.step hlt Hcc.out hh0 (by omega)
          rw [← HT.out] at hst
          obtain ⟨hs0, hs1, hs2, hs3, hs4⟩ := hst
          have hp : (2 : Int) ^ hh.toNat = 268435456 := by rw [Hlast.out]; rfl
          rw [hp] at hs3 hs4
          have hB2 := HB.2
          have hor : bits BinOp.or IntKind.i64 t (c % 128 * 268435456) = t' := by
            rw [bits_or_i64 t _ ht0 ht1 hs3 hs4, HT.out]
            have h := or_add t (c % 128) hh.toNat ht0 hB2 (by omega)
            rw [hp] at h ⊢
            exact h
          have HM : Hid (Int.bmod t' 34359738368 = sgn t c hh) := by
            show _ = _
            have h := bmod_sgn' t c hh hh0 ht0 hB2
            rw [← HT.out] at h
            rw [← h, Hlast.out]; rfl
          clear hs1 hs3 hs4 hB2 hp HB
          obtain rfl := Hlast.out
          go_wp2_with (first
            | (go_at_call 28; refine (lowS_any _ _ _ (by omega) (by omega)).mono ?_; rintro e w' ⟨rfl, rfl⟩)
            | (go_at_call 30; refine (fitsS_any _ _ _ (by omega) (by omega) (by omega) (by omega) true Hfb1.out Hfb2.out).mono ?_; rintro e w' ⟨rfl, rfl⟩))
          exact bodyPost_ret (v := .tuple #[.int .i64 (Int.bmod t' 34359738368), .int .i64 (i + 1), .agg #[.int .i64 0, .int .i64 0, .int .i64 0]]) (by simp [results, Try.results26, go_sem]) rfl ⟨by rw [HD.out, HM.out]; rfl, (Below.refl _ _).alloc (Nat.le_refl _) _⟩
        | false =>
          have HD := Lib.hid (decS_fin_leb (k := 5) (good := good32) HE Hm.out hi hlt Hcc.out (by have := Hlast.out; omega) hg)
          rw [hg] at Hfb1 Hfb2
          clear hg
          obtain rfl := Hlast.out
          go_wp2_with (go_at_call 30; refine (fitsS_any _ _ _ (by omega) (by omega) (by omega) (by omega) false Hfb1.out Hfb2.out).mono ?_; rintro e w' ⟨rfl, rfl⟩)
          exact bodyPost_ret (v := .tuple #[.int .i64 0, .int .i64 0, .agg #[.int .i64 3, .int .i64 i, .int .i64 0]]) (by simp [results, Try.results26, go_sem]) rfl ⟨by rw [HD.out]; rfl, (Below.refl _ _).alloc (Nat.le_refl _) _⟩

set_option maxHeartbeats 2000000 in
theorem readS_64 (v : Value) (l : List Int) (a : Nat) (w : World) (hv : Rd w v l) (hr : ∀ x ∈ l, 0 ≤ x ∧ x < 256) (hl : l.length ≤ 281474976710656) (ha : a ≤ l.length) :
    Calls Try.prog 26 #[v, .int .i64 a, .int .i64 64] w fun e w' => e = res .i64 (decS l a 10 good64) ∧ Below w.heap.size w w' := by
  obtain ⟨ao, cap, rfl, hcap, _, hcells⟩ := hv
  obtain ⟨m1, m2, m3⟩ := mk_spec l a ha
  obtain ⟨m, hm⟩ : ∃ m, m = mk l a := ⟨_, rfl⟩
  rw [← hm] at m1
  have Hm := Lib.hid hm
  have Hcells := Lib.hid hcells
  have M2 := Lib.hid m2
  have M3 := Lib.hid m3
  have Hr := Lib.hid hr
  clear hcells m2 m3 hr hm
  have ha0 : decide ((a : Int) < 0) = false := by rw [decide_eq_false_iff_not]; omega
  have ha1 : decide (l.length < a) = false := by rw [decide_eq_false_iff_not]; omega
  go_enter Try.func26, Try.ntmps26
  go_wp2
  go_loop [1, 9, 10] (fun x n h => ∃ (i j : Nat) (t hh : Int), St l a j i hh t ∧ i ≤ a + m ∧ hh ≤ 63 ∧ 0 ≤ hh ∧ 0 ≤ t ∧ t < 9223372036854775808 ∧ x = .int .i64 i ∧ n = .int .i64 t ∧ h = .int .i64 hh) (fun _ _ h => (70 - intOf h).toNat)
  case atStart => exact ⟨a, 0, 0, 0, St.zero l a, by omega, by omega, by omega, by omega, by omega, rfl, rfl, rfl⟩
  case round =>
    obtain ⟨i, j, t, hh, HE, hi, hh1, hh0, ht0, ht1, rfl, rfl, rfl⟩ := hrel
    by_cases hc : i = l.length
    · have hq : ((i : Int) == (l.length : Int)) = true := by rw [beq_iff_eq]; omega
      have HD := Lib.hid (decS_fin_end (k := 10) (good := good64) HE Hm.out hi m1 hc (by omega))
      clear hc
      go_wp2
      exact bodyPost_ret (v := .tuple #[.int .i64 0, .int .i64 0, .agg #[.int .i64 4, .int .i64 i, .int .i64 0]]) (by simp [results, Try.results26, go_sem]) rfl ⟨by rw [HD.out]; rfl, (Below.refl _ _).alloc (Nat.le_refl _) _⟩
    · have hlt : i < l.length := by omega
      have hq : ((i : Int) == (l.length : Int)) = false := by rw [beq_eq_false_iff_ne]; omega
      clear hc
      obtain ⟨b, off, rfl, hcell⟩ : ∃ b off, ao = some ⟨b, off, none⟩ ∧ w.cell? ⟨b, off + i, none⟩ = some (.int .u8 (l.getD i 0)) := by
        rcases Hcells.out with h | ⟨b, off, rfl, h⟩
        · subst h; simp at hlt
        · exact ⟨b, off, rfl, h i hlt⟩
      have hbs := World.block_lt_of_cell? w _ hcell
      obtain ⟨c, hcc⟩ : ∃ c, c = l.getD i 0 := ⟨_, rfl⟩
      rw [← hcc] at hcell
      have hc0 : 0 ≤ c ∧ c < 256 := by
        rw [hcc, List.getD_eq_getElem?_getD, List.getElem?_eq_getElem hlt]; exact Hr.out _ (List.getElem_mem hlt)
      obtain ⟨hc0, hc1⟩ := hc0
      have hb7 := b8_and127 c hc0 hc1
      have hb := b8_and128 c hc0 hc1
      obtain ⟨t', ht'⟩ : ∃ t', t' = t + c % 128 * 2 ^ hh.toNat := ⟨_, rfl⟩
      have HS := HE.succ hlt hcc
      have HB := HE.bd
      have Hon := fun h => HE.on Hm.out hi hlt hcc h M3.out
      have Hcc := Lib.hid hcc
      have HT := Lib.hid ht'
      have HON := Lib.hid Hon
      rw [← ht'] at HS
      clear hcc ht' Hon
      by_cases hj : hh ≤ 56
      · have hst := HE.step hlt Hcc.out hh0 (by omega)
        rw [← HT.out] at hst
        obtain ⟨hs0, hs1, hs2, hs3, hs4⟩ := hst
        have hor : bits BinOp.or IntKind.i64 t (wrap64 (c % 128 * 2 ^ hh.toNat)) = t' := by
          rw [IntWalk.wrap64_in _ (by omega), bits_or_i64 t _ ht0 ht1 hs3 hs4, or_add _ _ _ ht0 HB.2 (by omega), ← HT.out]
        have HM : Hid (Int.bmod t' (2 ^ (hh + 7).toNat) = sgn t c hh) := by show _ = _; rw [HT.out]; exact bmod_sgn' t c hh hh0 ht0 HB.2
        clear HB hs1 hs3 hs4
        by_cases hm : c < 128
        · rw [if_pos hm] at hb
          have HD := Lib.hid (decS_fin_ok (k := 10) (good := good64) HE Hm.out hi hlt Hcc.out hm (by omega) (by omega) M2.out)
          go_wp2_with (go_at_call 28; refine (lowS_any _ _ _ (by omega) (by omega)).mono ?_; rintro e w' ⟨rfl, rfl⟩)
          exact bodyPost_ret (v := .tuple #[.int .i64 (Int.bmod t' (2 ^ (hh + 7).toNat)), .int .i64 (i + 1), .agg #[.int .i64 0, .int .i64 0, .int .i64 0]]) (by simp [results, Try.results26, go_sem]) rfl ⟨by rw [HD.out, HM.out]; rfl, (Below.refl _ _).alloc (Nat.le_refl _) _⟩
        · rw [if_neg hm] at hb
          have hon := HON.out hm
          clear HM
          go_wp2
          go_round
          case rel => exact ⟨i + 1, j + 1, t', hh + 7, HS, hon, by omega, by omega, hs0, hs2, by go_num, rfl, rfl⟩
          case measure => simp [intOf]; omega
      · have Hlast : Hid (hh = 63) := by
          show _ = _
          have := HE.2.1
          omega
        have hfb1 : c < 128 → good64 c = (Int.bmod c 128 == Int.bmod c (2 ^ (1 : Int).toNat)) := fun h => good64_eq c hc0 h
        have hfb2 : 128 ≤ c → good64 c = false := by intro h; unfold good64; simp; omega
        have Hfb1 := Lib.hid hfb1
        have Hfb2 := Lib.hid hfb2
        clear hfb1 hfb2
        cases hg : good64 c with
        | true =>
          have hm : c < 128 := by
            rcases Nat.lt_or_ge 0 1 with _ | _ <;> (unfold good64 at hg; simp at hg; omega)
          rw [if_pos hm] at hb
          rw [hg] at Hfb1 Hfb2
          have HD := Lib.hid (decS_fin_ok (k := 10) (good := good64) HE Hm.out hi hlt Hcc.out hm (by omega) (fun _ => hg) M2.out)
          have Hg := Lib.hid hg
          clear hg
          have hc2 : c = 0 ∨ c = 127 := by
            have hg := Hg.out; unfold good64 at hg; simp at hg; exact hg
          have Hs0 : Hid (sgn t 0 63 = t) := by show _ = _; unfold sgn; simp
          have Hs1 : Hid (sgn t 127 63 = t - 9223372036854775808) := by
            show _ = _; unfold sgn
            rw [show (2 : Int) ^ (63 : Int).toNat = 9223372036854775808 from rfl]; simp; omega
          have hor0 : bits BinOp.or IntKind.i64 t 0 = t := by
            rw [bits_or_i64 t 0 ht0 ht1 (by decide) (by decide)]; simp; omega
          have hor1 : bits BinOp.or IntKind.i64 t (wrap64 1171368248680556527616) = t - 9223372036854775808 := by
            rw [show wrap64 1171368248680556527616 = -9223372036854775808 from by unfold wrap64; rfl]; exact bits_or_i64_top t ht0 ht1
          have Hbm0 : Hid (Int.bmod t 18446744073709551616 = t) := by show _ = _; unfold Int.bmod; simp; omega
          have Hbm1 : Hid (Int.bmod (t - 9223372036854775808) 18446744073709551616 = t - 9223372036854775808) := by show _ = _; unfold Int.bmod; simp; omega
          clear HT HB
          obtain rfl := Hlast.out
          rcases hc2 with rfl | rfl
          all_goals
            go_wp2_with (first
              | (go_at_call 28; refine (lowS_any _ _ _ (by omega) (by omega)).mono ?_; rintro e w' ⟨rfl, rfl⟩)
              | (go_at_call 30; refine (fitsS_any _ _ _ (by omega) (by omega) (by omega) (by omega) true Hfb1.out Hfb2.out).mono ?_; rintro e w' ⟨rfl, rfl⟩))
          · exact bodyPost_ret (v := .tuple #[.int .i64 (Int.bmod t 18446744073709551616), .int .i64 (i + 1), .agg #[.int .i64 0, .int .i64 0, .int .i64 0]]) (by simp [results, Try.results26, go_sem]) rfl ⟨by rw [HD.out, Hbm0.out, Hs0.out]; rfl, (Below.refl _ _).alloc (Nat.le_refl _) _⟩
          · exact bodyPost_ret (v := .tuple #[.int .i64 (Int.bmod (t - 9223372036854775808) 18446744073709551616), .int .i64 (i + 1), .agg #[.int .i64 0, .int .i64 0, .int .i64 0]]) (by simp [results, Try.results26, go_sem]) rfl ⟨by rw [HD.out, Hbm1.out, Hs1.out]; rfl, (Below.refl _ _).alloc (Nat.le_refl _) _⟩
        | false =>
          have HD := Lib.hid (decS_fin_leb (k := 10) (good := good64) HE Hm.out hi hlt Hcc.out (by have := Hlast.out; omega) hg)
          rw [hg] at Hfb1 Hfb2
          clear hg
          obtain rfl := Hlast.out
          go_wp2_with (go_at_call 30; refine (fitsS_any _ _ _ (by omega) (by omega) (by omega) (by omega) false Hfb1.out Hfb2.out).mono ?_; rintro e w' ⟨rfl, rfl⟩)
          exact bodyPost_ret (v := .tuple #[.int .i64 0, .int .i64 0, .agg #[.int .i64 3, .int .i64 i, .int .i64 0]]) (by simp [results, Try.results26, go_sem]) rfl ⟨by rw [HD.out]; rfl, (Below.refl _ _).alloc (Nat.le_refl _) _⟩
end Go.Proofs.Ytllnbifdapgnoaa.lb
