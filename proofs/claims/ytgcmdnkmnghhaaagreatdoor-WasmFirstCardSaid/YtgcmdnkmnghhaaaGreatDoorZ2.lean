/- Put together by program: LbReadS LbUS WMod WRd WOct WOne WNum. -/
import Derived.Test.YtgcmdnkmnghhaaaGreatDoorZ1
import Derived.Shelf.RegionOpen
import Derived.StillTailTactics
import Derived.Deep.RegionHeld3
/- The contracts of leb.fitsLast and leb.read, with a sign. -/
namespace Go.Proofs.YtgcmdnkmnghhaaaGreatDoor.lb
open Go.RowKit

set_option maxHeartbeats 400000 in
theorem fitsS_any (c r : Int) (w : World) (h0 : 0 ≤ c) (h1 : c < 256) (hr : 1 ≤ r) (hr' : r ≤ 6) (ok : Bool) (hok : c < 128 → ok = (Int.bmod c 128 == Int.bmod c (2 ^ r.toNat))) (hok' : 128 ≤ c → ok = false) :
    Calls Tryz.prog 256 #[.int .u8 c, .int .i64 r] w fun e w' => e = .returned (.bool ok) ∧ w = w' := by
  have hb := b8_and128 c h0 h1
  by_cases hc : c < 128
  · rw [if_pos hc] at hb
    have Hok := Lib.hid (hok hc)
    clear hok hok'
    go_enter Tryz.func256, Tryz.ntmps256
    go_wp2_with (go_at_call 243; refine (lowS_any _ _ _ (by omega) (by omega)).mono ?_; rintro e w' ⟨rfl, rfl⟩)
    go_ret
    exact ⟨by rw [Hok.out]; rfl, rfl⟩
  · rw [if_neg hc] at hb
    obtain rfl : ok = false := hok' (by omega)
    clear hok hok'
    go_enter Tryz.func256, Tryz.ntmps256
    go_wp2
    go_ret
    exact ⟨rfl, rfl⟩

set_option maxHeartbeats 2000000 in
theorem readS_32 (v : Value) (l : List Int) (a : Nat) (w : World) (hv : Rd w v l) (hr : ∀ x ∈ l, 0 ≤ x ∧ x < 256) (hl : l.length ≤ 281474976710656) (ha : a ≤ l.length) :
    Calls Tryz.prog 247 #[v, .int .i64 a, .int .i64 32] w fun e w' => e = res .i64 (decS l a 5 good32) ∧ Below w.heap.size w w' := by
  obtain ⟨ao, cap, rfl, hcap, _, hcells⟩ := hv
  obtain ⟨m1, m2, m3⟩ := mk_spec l a ha
  obtain ⟨m, hm⟩ : ∃ m, m = mk l a := ⟨_, rfl⟩
  rw [← hm] at m1
  have Hm := Lib.hid hm
  have Hcells := Lib.hid hcells
  have M2 := Lib.hid m2
  have M3 := Lib.hid m3
  have Hr := Lib.hid hr
  clear hcells m2 m3 hr hm
  have ha0 : decide ((a : Int) < 0) = false := by rw [decide_eq_false_iff_not]; omega
  have ha1 : decide (l.length < a) = false := by rw [decide_eq_false_iff_not]; omega
  go_enter Tryz.func247, Tryz.ntmps247
  go_wp2
  go_loop [1, 9, 10] (fun x n h => ∃ (i j : Nat) (t hh : Int), St l a j i hh t ∧ i ≤ a + m ∧ hh ≤ 28 ∧ 0 ≤ hh ∧ 0 ≤ t ∧ t < 9223372036854775808 ∧ x = .int .i64 i ∧ n = .int .i64 t ∧ h = .int .i64 hh) (fun _ _ h => (70 - intOf h).toNat)
  case atStart => exact ⟨a, 0, 0, 0, St.zero l a, by omega, by omega, by omega, by omega, by omega, rfl, rfl, rfl⟩
  case round =>
    obtain ⟨i, j, t, hh, HE, hi, hh1, hh0, ht0, ht1, rfl, rfl, rfl⟩ := hrel
    by_cases hc : i = l.length
    · have hq : ((i : Int) == (l.length : Int)) = true := by rw [beq_iff_eq]; omega
      have HD := Lib.hid (decS_fin_end (k := 5) (good := good32) HE Hm.out hi m1 hc (by omega))
      clear hc
      go_wp2
      exact bodyPost_ret (v := .tuple #[.int .i64 0, .int .i64 0, .agg #[.int .i64 4, .int .i64 i, .int .i64 0]]) (by simp [results, Tryz.results247, go_sem]) rfl ⟨by rw [HD.out]; rfl, (Below.refl _ _).alloc (Nat.le_refl _) _⟩
    · have hlt : i < l.length := by omega
      have hq : ((i : Int) == (l.length : Int)) = false := by rw [beq_eq_false_iff_ne]; omega
      clear hc
      obtain ⟨b, off, rfl, hcell⟩ : ∃ b off, ao = some ⟨b, off, none⟩ ∧ w.cell? ⟨b, off + i, none⟩ = some (.int .u8 (l.getD i 0)) := by
        rcases Hcells.out with h | ⟨b, off, rfl, h⟩
        · subst h; simp at hlt
        · exact ⟨b, off, rfl, h i hlt⟩
      have hbs := World.block_lt_of_cell? w _ hcell
      obtain ⟨c, hcc⟩ : ∃ c, c = l.getD i 0 := ⟨_, rfl⟩
      rw [← hcc] at hcell
      have hc0 : 0 ≤ c ∧ c < 256 := by
        rw [hcc, List.getD_eq_getElem?_getD, List.getElem?_eq_getElem hlt]; exact Hr.out _ (List.getElem_mem hlt)
      obtain ⟨hc0, hc1⟩ := hc0
      have hb7 := b8_and127 c hc0 hc1
      have hb := b8_and128 c hc0 hc1
      obtain ⟨t', ht'⟩ : ∃ t', t' = t + c % 128 * 2 ^ hh.toNat := ⟨_, rfl⟩
      have HS := HE.succ hlt hcc
      have HB := HE.bd
      have Hon := fun h => HE.on Hm.out hi hlt hcc h M3.out
      have Hcc := Lib.hid hcc
      have HT := Lib.hid ht'
      have HON := Lib.hid Hon
      rw [← ht'] at HS
      clear hcc ht' Hon
      by_cases hj : hh ≤ 21
      · have hst := HE.step hlt Hcc.out hh0 (by omega)
        rw [← HT.out] at hst
        obtain ⟨hs0, hs1, hs2, hs3, hs4⟩ := hst
        have hor : bits BinOp.or IntKind.i64 t (wrap64 (c % 128 * 2 ^ hh.toNat)) = t' := by
          rw [IntWalk.wrap64_in _ (by omega), bits_or_i64 t _ ht0 ht1 hs3 hs4, or_add _ _ _ ht0 HB.2 (by omega), ← HT.out]
        have HM : Hid (Int.bmod t' (2 ^ (hh + 7).toNat) = sgn t c hh) := by show _ = _; rw [HT.out]; exact bmod_sgn' t c hh hh0 ht0 HB.2
        clear HB hs1 hs3 hs4
        by_cases hm : c < 128
        · rw [if_pos hm] at hb
          have HD := Lib.hid (decS_fin_ok (k := 5) (good := good32) HE Hm.out hi hlt Hcc.out hm (by omega) (by omega) M2.out)
          go_wp2_with (go_at_call 243; refine (lowS_any _ _ _ (by omega) (by omega)).mono ?_; rintro e w' ⟨rfl, rfl⟩)
          exact bodyPost_ret (v := .tuple #[.int .i64 (Int.bmod t' (2 ^ (hh + 7).toNat)), .int .i64 (i + 1), .agg #[.int .i64 0, .int .i64 0, .int .i64 0]]) (by simp [results, Tryz.results247, go_sem]) rfl ⟨by rw [HD.out, HM.out]; rfl, (Below.refl _ _).alloc (Nat.le_refl _) _⟩
        · rw [if_neg hm] at hb
          have hon := HON.out hm
          clear HM
          go_wp2
          go_round
          case rel => exact ⟨i + 1, j + 1, t', hh + 7, HS, hon, by omega, by omega, hs0, hs2, by go_num, rfl, rfl⟩
          case measure => simp [intOf]; omega
      · have Hlast : Hid (hh = 28) := by
          show _ = _
          have := HE.2.1
          omega
        have hfb1 : c < 128 → good32 c = (Int.bmod c 128 == Int.bmod c (2 ^ (4 : Int).toNat)) := fun h => good32_eq c hc0 h
        have hfb2 : 128 ≤ c → good32 c = false := by intro h; unfold good32; simp; omega
        have Hfb1 := Lib.hid hfb1
        have Hfb2 := Lib.hid hfb2
        clear hfb1 hfb2
        cases hg : good32 c with
        | true =>
          have hm : c < 128 := by
            rcases Nat.lt_or_ge 0 1 with _ | _ <;> (unfold good32 at hg; simp at hg; omega)
          rw [if_pos hm] at hb
          rw [hg] at Hfb1 Hfb2
          have HD := Lib.hid (decS_fin_ok (k := 5) (good := good32) HE Hm.out hi hlt Hcc.out hm (by omega) (fun _ => hg) M2.out)
          have Hg := Lib.hid hg
          clear hg
          have hst := HE.step hlt Hcc.out hh0 (by omega)
          rw [← HT.out] at hst
          obtain ⟨hs0, hs1, hs2, hs3, hs4⟩ := hst
          have hp : (2 : Int) ^ hh.toNat = 268435456 := by rw [Hlast.out]; rfl
          rw [hp] at hs3 hs4
          have hB2 := HB.2
          have hor : bits BinOp.or IntKind.i64 t (c % 128 * 268435456) = t' := by
            rw [bits_or_i64 t _ ht0 ht1 hs3 hs4, HT.out]
            have h := or_add t (c % 128) hh.toNat ht0 hB2 (by omega)
            rw [hp] at h ⊢
            exact h
          have HM : Hid (Int.bmod t' 34359738368 = sgn t c hh) := by
            show _ = _
            have h := bmod_sgn' t c hh hh0 ht0 hB2
            rw [← HT.out] at h
            rw [← h, Hlast.out]; rfl
          clear hs1 hs3 hs4 hB2 hp HB
          obtain rfl := Hlast.out
          go_wp2_with (first
            | (go_at_call 243; refine (lowS_any _ _ _ (by omega) (by omega)).mono ?_; rintro e w' ⟨rfl, rfl⟩)
            | (go_at_call 256; refine (fitsS_any _ _ _ (by omega) (by omega) (by omega) (by omega) true Hfb1.out Hfb2.out).mono ?_; rintro e w' ⟨rfl, rfl⟩))
          exact bodyPost_ret (v := .tuple #[.int .i64 (Int.bmod t' 34359738368), .int .i64 (i + 1), .agg #[.int .i64 0, .int .i64 0, .int .i64 0]]) (by simp [results, Tryz.results247, go_sem]) rfl ⟨by rw [HD.out, HM.out]; rfl, (Below.refl _ _).alloc (Nat.le_refl _) _⟩
        | false =>
          have HD := Lib.hid (decS_fin_leb (k := 5) (good := good32) HE Hm.out hi hlt Hcc.out (by have := Hlast.out; omega) hg)
          rw [hg] at Hfb1 Hfb2
          clear hg
          obtain rfl := Hlast.out
          go_wp2_with (go_at_call 256; refine (fitsS_any _ _ _ (by omega) (by omega) (by omega) (by omega) false Hfb1.out Hfb2.out).mono ?_; rintro e w' ⟨rfl, rfl⟩)
          exact bodyPost_ret (v := .tuple #[.int .i64 0, .int .i64 0, .agg #[.int .i64 3, .int .i64 i, .int .i64 0]]) (by simp [results, Tryz.results247, go_sem]) rfl ⟨by rw [HD.out]; rfl, (Below.refl _ _).alloc (Nat.le_refl _) _⟩

set_option maxHeartbeats 2000000 in
theorem readS_64 (v : Value) (l : List Int) (a : Nat) (w : World) (hv : Rd w v l) (hr : ∀ x ∈ l, 0 ≤ x ∧ x < 256) (hl : l.length ≤ 281474976710656) (ha : a ≤ l.length) :
    Calls Tryz.prog 247 #[v, .int .i64 a, .int .i64 64] w fun e w' => e = res .i64 (decS l a 10 good64) ∧ Below w.heap.size w w' := by
  obtain ⟨ao, cap, rfl, hcap, _, hcells⟩ := hv
  obtain ⟨m1, m2, m3⟩ := mk_spec l a ha
  obtain ⟨m, hm⟩ : ∃ m, m = mk l a := ⟨_, rfl⟩
  rw [← hm] at m1
  have Hm := Lib.hid hm
  have Hcells := Lib.hid hcells
  have M2 := Lib.hid m2
  have M3 := Lib.hid m3
  have Hr := Lib.hid hr
  clear hcells m2 m3 hr hm
  have ha0 : decide ((a : Int) < 0) = false := by rw [decide_eq_false_iff_not]; omega
  have ha1 : decide (l.length < a) = false := by rw [decide_eq_false_iff_not]; omega
  go_enter Tryz.func247, Tryz.ntmps247
  go_wp2
  go_loop [1, 9, 10] (fun x n h => ∃ (i j : Nat) (t hh : Int), St l a j i hh t ∧ i ≤ a + m ∧ hh ≤ 63 ∧ 0 ≤ hh ∧ 0 ≤ t ∧ t < 9223372036854775808 ∧ x = .int .i64 i ∧ n = .int .i64 t ∧ h = .int .i64 hh) (fun _ _ h => (70 - intOf h).toNat)
  case atStart => exact ⟨a, 0, 0, 0, St.zero l a, by omega, by omega, by omega, by omega, by omega, rfl, rfl, rfl⟩
  case round =>
    obtain ⟨i, j, t, hh, HE, hi, hh1, hh0, ht0, ht1, rfl, rfl, rfl⟩ := hrel
    by_cases hc : i = l.length
    · have hq : ((i : Int) == (l.length : Int)) = true := by rw [beq_iff_eq]; omega
      have HD := Lib.hid (decS_fin_end (k := 10) (good := good64) HE Hm.out hi m1 hc (by omega))
      clear hc
      go_wp2
      exact bodyPost_ret (v := .tuple #[.int .i64 0, .int .i64 0, .agg #[.int .i64 4, .int .i64 i, .int .i64 0]]) (by simp [results, Tryz.results247, go_sem]) rfl ⟨by rw [HD.out]; rfl, (Below.refl _ _).alloc (Nat.le_refl _) _⟩
    · have hlt : i < l.length := by omega
      have hq : ((i : Int) == (l.length : Int)) = false := by rw [beq_eq_false_iff_ne]; omega
      clear hc
      obtain ⟨b, off, rfl, hcell⟩ : ∃ b off, ao = some ⟨b, off, none⟩ ∧ w.cell? ⟨b, off + i, none⟩ = some (.int .u8 (l.getD i 0)) := by
        rcases Hcells.out with h | ⟨b, off, rfl, h⟩
        · subst h; simp at hlt
        · exact ⟨b, off, rfl, h i hlt⟩
      have hbs := World.block_lt_of_cell? w _ hcell
      obtain ⟨c, hcc⟩ : ∃ c, c = l.getD i 0 := ⟨_, rfl⟩
      rw [← hcc] at hcell
      have hc0 : 0 ≤ c ∧ c < 256 := by
        rw [hcc, List.getD_eq_getElem?_getD, List.getElem?_eq_getElem hlt]; exact Hr.out _ (List.getElem_mem hlt)
      obtain ⟨hc0, hc1⟩ := hc0
      have hb7 := b8_and127 c hc0 hc1
      have hb := b8_and128 c hc0 hc1
      obtain ⟨t', ht'⟩ : ∃ t', t' = t + c % 128 * 2 ^ hh.toNat := ⟨_, rfl⟩
      have HS := HE.succ hlt hcc
      have HB := HE.bd
      have Hon := fun h => HE.on Hm.out hi hlt hcc h M3.out
      have Hcc := Lib.hid hcc
      have HT := Lib.hid ht'
      have HON := Lib.hid Hon
      rw [← ht'] at HS
      clear hcc ht' Hon
      by_cases hj : hh ≤ 56
      · have hst := HE.step hlt Hcc.out hh0 (by omega)
        rw [← HT.out] at hst
        obtain ⟨hs0, hs1, hs2, hs3, hs4⟩ := hst
        have hor : bits BinOp.or IntKind.i64 t (wrap64 (c % 128 * 2 ^ hh.toNat)) = t' := by
          rw [IntWalk.wrap64_in _ (by omega), bits_or_i64 t _ ht0 ht1 hs3 hs4, or_add _ _ _ ht0 HB.2 (by omega), ← HT.out]
        have HM : Hid (Int.bmod t' (2 ^ (hh + 7).toNat) = sgn t c hh) := by show _ = _; rw [HT.out]; exact bmod_sgn' t c hh hh0 ht0 HB.2
        clear HB hs1 hs3 hs4
        by_cases hm : c < 128
        · rw [if_pos hm] at hb
          have HD := Lib.hid (decS_fin_ok (k := 10) (good := good64) HE Hm.out hi hlt Hcc.out hm (by omega) (by omega) M2.out)
          go_wp2_with (go_at_call 243; refine (lowS_any _ _ _ (by omega) (by omega)).mono ?_; rintro e w' ⟨rfl, rfl⟩)
          exact bodyPost_ret (v := .tuple #[.int .i64 (Int.bmod t' (2 ^ (hh + 7).toNat)), .int .i64 (i + 1), .agg #[.int .i64 0, .int .i64 0, .int .i64 0]]) (by simp [results, Tryz.results247, go_sem]) rfl ⟨by rw [HD.out, HM.out]; rfl, (Below.refl _ _).alloc (Nat.le_refl _) _⟩
        · rw [if_neg hm] at hb
          have hon := HON.out hm
          clear HM
          go_wp2
          go_round
          case rel => exact ⟨i + 1, j + 1, t', hh + 7, HS, hon, by omega, by omega, hs0, hs2, by go_num, rfl, rfl⟩
          case measure => simp [intOf]; omega
      · have Hlast : Hid (hh = 63) := by
          show _ = _
          have := HE.2.1
          omega
        have hfb1 : c < 128 → good64 c = (Int.bmod c 128 == Int.bmod c (2 ^ (1 : Int).toNat)) := fun h => good64_eq c hc0 h
        have hfb2 : 128 ≤ c → good64 c = false := by intro h; unfold good64; simp; omega
        have Hfb1 := Lib.hid hfb1
        have Hfb2 := Lib.hid hfb2
        clear hfb1 hfb2
        cases hg : good64 c with
        | true =>
          have hm : c < 128 := by
            rcases Nat.lt_or_ge 0 1 with _ | _ <;> (unfold good64 at hg; simp at hg; omega)
          rw [if_pos hm] at hb
          rw [hg] at Hfb1 Hfb2
          have HD := Lib.hid (decS_fin_ok (k := 10) (good := good64) HE Hm.out hi hlt Hcc.out hm (by omega) (fun _ => hg) M2.out)
          have Hg := Lib.hid hg
          clear hg
          have hc2 : c = 0 ∨ c = 127 := by
            have hg := Hg.out; unfold good64 at hg; simp at hg; exact hg
          have Hs0 : Hid (sgn t 0 63 = t) := by show _ = _; unfold sgn; simp
          have Hs1 : Hid (sgn t 127 63 = t - 9223372036854775808) := by
            show _ = _; unfold sgn
            rw [show (2 : Int) ^ (63 : Int).toNat = 9223372036854775808 from rfl]; simp; omega
          have hor0 : bits BinOp.or IntKind.i64 t 0 = t := by
            rw [bits_or_i64 t 0 ht0 ht1 (by decide) (by decide)]; simp; omega
          have hor1 : bits BinOp.or IntKind.i64 t (wrap64 1171368248680556527616) = t - 9223372036854775808 := by
            rw [show wrap64 1171368248680556527616 = -9223372036854775808 from by unfold wrap64; rfl]; exact bits_or_i64_top t ht0 ht1
          have Hbm0 : Hid (Int.bmod t 18446744073709551616 = t) := by show _ = _; unfold Int.bmod; simp; omega
          have Hbm1 : Hid (Int.bmod (t - 9223372036854775808) 18446744073709551616 = t - 9223372036854775808) := by show _ = _; unfold Int.bmod; simp; omega
          clear HT HB
          obtain rfl := Hlast.out
          rcases hc2 with rfl | rfl
          all_goals
            go_wp2_with (first
              | (go_at_call 243; refine (lowS_any _ _ _ (by omega) (by omega)).mono ?_; rintro e w' ⟨rfl, rfl⟩)
              | (go_at_call 256; refine (fitsS_any _ _ _ (by omega) (by omega) (by omega) (by omega) true Hfb1.out Hfb2.out).mono ?_; rintro e w' ⟨rfl, rfl⟩))
          · exact bodyPost_ret (v := .tuple #[.int .i64 (Int.bmod t 18446744073709551616), .int .i64 (i + 1), .agg #[.int .i64 0, .int .i64 0, .int .i64 0]]) (by simp [results, Tryz.results247, go_sem]) rfl ⟨by rw [HD.out, Hbm0.out, Hs0.out]; rfl, (Below.refl _ _).alloc (Nat.le_refl _) _⟩
          · exact bodyPost_ret (v := .tuple #[.int .i64 (Int.bmod (t - 9223372036854775808) 18446744073709551616), .int .i64 (i + 1), .agg #[.int .i64 0, .int .i64 0, .int .i64 0]]) (by simp [results, Tryz.results247, go_sem]) rfl ⟨by rw [HD.out, Hbm1.out, Hs1.out]; rfl, (Below.refl _ _).alloc (Nat.le_refl _) _⟩
        | false =>
          have HD := Lib.hid (decS_fin_leb (k := 10) (good := good64) HE Hm.out hi hlt Hcc.out (by have := Hlast.out; omega) hg)
          rw [hg] at Hfb1 Hfb2
          clear hg
          obtain rfl := Hlast.out
          go_wp2_with (go_at_call 256; refine (fitsS_any _ _ _ (by omega) (by omega) (by omega) (by omega) false Hfb1.out Hfb2.out).mono ?_; rintro e w' ⟨rfl, rfl⟩)
          exact bodyPost_ret (v := .tuple #[.int .i64 0, .int .i64 0, .agg #[.int .i64 3, .int .i64 i, .int .i64 0]]) (by simp [results, Tryz.results247, go_sem]) rfl ⟨by rw [HD.out]; rfl, (Below.refl _ _).alloc (Nat.le_refl _) _⟩
end Go.Proofs.YtgcmdnkmnghhaaaGreatDoor.lb

/- The contracts of leb.U and leb.S: of any bytes, any place, any bits. -/
namespace Go.Proofs.YtgcmdnkmnghhaaaGreatDoor.lb
open Go.RowKit

def fullU (l : List Int) (at' bits : Int) : Int × Int × Int × Int :=
  if 0 ≤ at' ∧ at' ≤ l.length then (if bits = 32 then decU l at'.toNat 5 16 else if bits = 64 then decU l at'.toNat 10 2 else (0, 0, 1, at')) else (0, 0, 1, at')
def fullS (l : List Int) (at' bits : Int) : Int × Int × Int × Int :=
  if 0 ≤ at' ∧ at' ≤ l.length then (if bits = 32 then decS l at'.toNat 5 good32 else if bits = 64 then decS l at'.toNat 10 good64 else (0, 0, 1, at')) else (0, 0, 1, at')

theorem fullU_arg (l : List Int) (at' bits : Int) (h : (bits ≠ 32 ∧ bits ≠ 64) ∨ at' < 0 ∨ (l.length : Int) < at') : fullU l at' bits = (0, 0, 1, at') := by
  unfold fullU
  rcases h with ⟨h1, h2⟩ | h | h
  · rw [if_neg h1, if_neg h2]; simp
  · rw [if_neg (by omega)]
  · rw [if_neg (by omega)]
theorem fullS_arg (l : List Int) (at' bits : Int) (h : (bits ≠ 32 ∧ bits ≠ 64) ∨ at' < 0 ∨ (l.length : Int) < at') : fullS l at' bits = (0, 0, 1, at') := by
  unfold fullS
  rcases h with ⟨h1, h2⟩ | h | h
  · rw [if_neg h1, if_neg h2]; simp
  · rw [if_neg (by omega)]
  · rw [if_neg (by omega)]

theorem bcell {W w1 : World} (hb : Below W.heap.size W w1) : (∀ b o, b < W.heap.size → w1.cell? ⟨b, o, none⟩ = W.cell? ⟨b, o, none⟩) ∧ (∀ b o, b < W.heap.size → w1.frozen? ⟨b, o, none⟩ = W.frozen? ⟨b, o, none⟩) :=
  ⟨fun b o h => hb.cell (p := ⟨b, o, none⟩) h, fun b o h => hb.frozen (p := ⟨b, o, none⟩) h⟩

set_option maxHeartbeats 1000000 in
theorem readU_arg (v : Value) (l : List Int) (at' bits : Int) (w : World) (hv : Rd w v l) (h : (bits ≠ 32 ∧ bits ≠ 64) ∨ at' < 0 ∨ (l.length : Int) < at') :
    Calls Tryz.prog 218 #[v, .int .i64 at', .int .i64 bits] w fun e w' => e = res .u64 (fullU l at' bits) ∧ Below w.heap.size w w' := by
  rw [fullU_arg l at' bits h]
  obtain ⟨ao, cap, rfl, hcap, _, hcells⟩ := hv
  clear hcells
  by_cases h1 : bits = 32
  · subst h1
    by_cases h3 : at' < 0
    · have a1 : decide (at' < 0) = true := by simpa using h3
      go_enter Tryz.func218, Tryz.ntmps218
      go_wp2
      exact bodyPost_ret (v := .tuple #[.int .u64 0, .int .i64 0, .agg #[.int .i64 1, .int .i64 at', .int .i64 0]]) (by simp [results, Tryz.results218, go_sem]) rfl ⟨rfl, (Below.refl _ _).alloc (Nat.le_refl _) _⟩
    · have a1 : decide (at' < 0) = false := by simpa using h3
      have h4 : (l.length : Int) < at' := by omega
      have a2 : decide ((l.length : Int) < at') = true := by simpa using h4
      go_enter Tryz.func218, Tryz.ntmps218
      go_wp2
      exact bodyPost_ret (v := .tuple #[.int .u64 0, .int .i64 0, .agg #[.int .i64 1, .int .i64 at', .int .i64 0]]) (by simp [results, Tryz.results218, go_sem]) rfl ⟨rfl, (Below.refl _ _).alloc (Nat.le_refl _) _⟩
  · have b1 : (bits != 32) = true := by rw [bne_iff_ne]; exact h1
    by_cases h2 : bits = 64
    · subst h2
      clear b1 h1
      by_cases h3 : at' < 0
      · have a1 : decide (at' < 0) = true := by simpa using h3
        go_enter Tryz.func218, Tryz.ntmps218
        go_wp2
        exact bodyPost_ret (v := .tuple #[.int .u64 0, .int .i64 0, .agg #[.int .i64 1, .int .i64 at', .int .i64 0]]) (by simp [results, Tryz.results218, go_sem]) rfl ⟨rfl, (Below.refl _ _).alloc (Nat.le_refl _) _⟩
      · have a1 : decide (at' < 0) = false := by simpa using h3
        have h4 : (l.length : Int) < at' := by omega
        have a2 : decide ((l.length : Int) < at') = true := by simpa using h4
        go_enter Tryz.func218, Tryz.ntmps218
        go_wp2
        exact bodyPost_ret (v := .tuple #[.int .u64 0, .int .i64 0, .agg #[.int .i64 1, .int .i64 at', .int .i64 0]]) (by simp [results, Tryz.results218, go_sem]) rfl ⟨rfl, (Below.refl _ _).alloc (Nat.le_refl _) _⟩
    · have b2 : (bits != 64) = true := by rw [bne_iff_ne]; exact h2
      have b1' : (bits == 32) = false := by rw [beq_eq_false_iff_ne]; exact h1
      have b2' : (bits == 64) = false := by rw [beq_eq_false_iff_ne]; exact h2
      clear h1 h2 h
      go_enter Tryz.func218, Tryz.ntmps218
      go_wp2
      exact bodyPost_ret (v := .tuple #[.int .u64 0, .int .i64 0, .agg #[.int .i64 1, .int .i64 at', .int .i64 0]]) (by simp [results, Tryz.results218, go_sem]) rfl ⟨rfl, (Below.refl _ _).alloc (Nat.le_refl _) _⟩

theorem readU_any (v : Value) (l : List Int) (at' bits : Int) (w : World) (hv : Rd w v l) (hr : ∀ x ∈ l, 0 ≤ x ∧ x < 256) (hl : l.length ≤ 281474976710656) :
    Calls Tryz.prog 218 #[v, .int .i64 at', .int .i64 bits] w fun e w' => e = res .u64 (fullU l at' bits) ∧ Below w.heap.size w w' := by
  by_cases h : (bits ≠ 32 ∧ bits ≠ 64) ∨ at' < 0 ∨ (l.length : Int) < at'
  · exact readU_arg v l at' bits w hv h
  · have h0 : 0 ≤ at' := by omega
    have h1 : at' ≤ l.length := by omega
    obtain ⟨a, rfl⟩ := Int.eq_ofNat_of_zero_le h0
    have hb : bits = 32 ∨ bits = 64 := by omega
    unfold fullU
    rw [if_pos ⟨h0, h1⟩, Int.toNat_natCast]
    rcases hb with rfl | rfl
    · rw [if_pos rfl]; exact readU_32 v l a w hv hr hl (by omega)
    · rw [if_neg (by decide), if_pos rfl]; exact readU_64 v l a w hv hr hl (by omega)

set_option maxHeartbeats 400000 in
theorem U_any (v : Value) (l : List Int) (at' bits : Int) (w : World) (hv : Rd w v l) (hr : ∀ x ∈ l, 0 ≤ x ∧ x < 256) (hl : l.length ≤ 281474976710656) :
    Calls Tryz.prog 187 #[v, .int .i64 at', .int .i64 bits] w fun e w' => e = res .u64 (fullU l at' bits) ∧ Below w.heap.size w w' := by
  obtain ⟨r, hr'⟩ : ∃ r : Int × Int × Int × Int, r = fullU l at' bits := ⟨_, rfl⟩
  have H := fun w hv => readU_any v l at' bits w hv hr hl
  rw [← hr'] at H ⊢
  have Hv := fun o => hv.alloc o
  have HH := Lib.hid H
  have HV := Lib.hid Hv
  clear hr' H Hv hv hr
  obtain ⟨n, x, y, z⟩ := r
  go_enter Tryz.func187, Tryz.ntmps187
  go_wp2_with (go_at_call 218; refine (HH.out _ (HV.out _)).mono ?_; rintro e w2 ⟨rfl, hb2⟩; obtain ⟨hc2, hf2⟩ := bcell hb2; unfold res)
  exact bodyPost_ret (v := .tuple #[.int .u64 n, .int .i64 x, .agg #[.int .i64 y, .int .i64 z, .int .i64 0]]) (by simp [results, Tryz.results187, go_sem, hc2]) rfl ⟨rfl, ((((((Below.refl _ _).alloc (Nat.le_refl _) _).trans (hb2.mono (by simp))).setCell (Nat.le_refl _) _).setCell (Nat.le_refl _) _).setCell (Nat.le_refl _) _)⟩

set_option maxHeartbeats 1000000 in
theorem readS_arg (v : Value) (l : List Int) (at' bits : Int) (w : World) (hv : Rd w v l) (h : (bits ≠ 32 ∧ bits ≠ 64) ∨ at' < 0 ∨ (l.length : Int) < at') :
    Calls Tryz.prog 247 #[v, .int .i64 at', .int .i64 bits] w fun e w' => e = res .i64 (fullS l at' bits) ∧ Below w.heap.size w w' := by
  rw [fullS_arg l at' bits h]
  obtain ⟨ao, cap, rfl, hcap, _, hcells⟩ := hv
  clear hcells
  by_cases h1 : bits = 32
  · subst h1
    by_cases h3 : at' < 0
    · have a1 : decide (at' < 0) = true := by simpa using h3
      go_enter Tryz.func247, Tryz.ntmps247
      go_wp2
      exact bodyPost_ret (v := .tuple #[.int .i64 0, .int .i64 0, .agg #[.int .i64 1, .int .i64 at', .int .i64 0]]) (by simp [results, Tryz.results247, go_sem]) rfl ⟨rfl, (Below.refl _ _).alloc (Nat.le_refl _) _⟩
    · have a1 : decide (at' < 0) = false := by simpa using h3
      have h4 : (l.length : Int) < at' := by omega
      have a2 : decide ((l.length : Int) < at') = true := by simpa using h4
      go_enter Tryz.func247, Tryz.ntmps247
      go_wp2
      exact bodyPost_ret (v := .tuple #[.int .i64 0, .int .i64 0, .agg #[.int .i64 1, .int .i64 at', .int .i64 0]]) (by simp [results, Tryz.results247, go_sem]) rfl ⟨rfl, (Below.refl _ _).alloc (Nat.le_refl _) _⟩
  · have b1 : (bits != 32) = true := by rw [bne_iff_ne]; exact h1
    by_cases h2 : bits = 64
    · subst h2
      clear b1 h1
      by_cases h3 : at' < 0
      · have a1 : decide (at' < 0) = true := by simpa using h3
        go_enter Tryz.func247, Tryz.ntmps247
        go_wp2
        exact bodyPost_ret (v := .tuple #[.int .i64 0, .int .i64 0, .agg #[.int .i64 1, .int .i64 at', .int .i64 0]]) (by simp [results, Tryz.results247, go_sem]) rfl ⟨rfl, (Below.refl _ _).alloc (Nat.le_refl _) _⟩
      · have a1 : decide (at' < 0) = false := by simpa using h3
        have h4 : (l.length : Int) < at' := by omega
        have a2 : decide ((l.length : Int) < at') = true := by simpa using h4
        go_enter Tryz.func247, Tryz.ntmps247
        go_wp2
        exact bodyPost_ret (v := .tuple #[.int .i64 0, .int .i64 0, .agg #[.int .i64 1, .int .i64 at', .int .i64 0]]) (by simp [results, Tryz.results247, go_sem]) rfl ⟨rfl, (Below.refl _ _).alloc (Nat.le_refl _) _⟩
    · have b2 : (bits != 64) = true := by rw [bne_iff_ne]; exact h2
      have b1' : (bits == 32) = false := by rw [beq_eq_false_iff_ne]; exact h1
      have b2' : (bits == 64) = false := by rw [beq_eq_false_iff_ne]; exact h2
      clear h1 h2 h
      go_enter Tryz.func247, Tryz.ntmps247
      go_wp2
      exact bodyPost_ret (v := .tuple #[.int .i64 0, .int .i64 0, .agg #[.int .i64 1, .int .i64 at', .int .i64 0]]) (by simp [results, Tryz.results247, go_sem]) rfl ⟨rfl, (Below.refl _ _).alloc (Nat.le_refl _) _⟩

theorem readS_any (v : Value) (l : List Int) (at' bits : Int) (w : World) (hv : Rd w v l) (hr : ∀ x ∈ l, 0 ≤ x ∧ x < 256) (hl : l.length ≤ 281474976710656) :
    Calls Tryz.prog 247 #[v, .int .i64 at', .int .i64 bits] w fun e w' => e = res .i64 (fullS l at' bits) ∧ Below w.heap.size w w' := by
  by_cases h : (bits ≠ 32 ∧ bits ≠ 64) ∨ at' < 0 ∨ (l.length : Int) < at'
  · exact readS_arg v l at' bits w hv h
  · have h0 : 0 ≤ at' := by omega
    have h1 : at' ≤ l.length := by omega
    obtain ⟨a, rfl⟩ := Int.eq_ofNat_of_zero_le h0
    have hb : bits = 32 ∨ bits = 64 := by omega
    unfold fullS
    rw [if_pos ⟨h0, h1⟩, Int.toNat_natCast]
    rcases hb with rfl | rfl
    · rw [if_pos rfl]; exact readS_32 v l a w hv hr hl (by omega)
    · rw [if_neg (by decide), if_pos rfl]; exact readS_64 v l a w hv hr hl (by omega)

set_option maxHeartbeats 400000 in
theorem S_any (v : Value) (l : List Int) (at' bits : Int) (w : World) (hv : Rd w v l) (hr : ∀ x ∈ l, 0 ≤ x ∧ x < 256) (hl : l.length ≤ 281474976710656) :
    Calls Tryz.prog 236 #[v, .int .i64 at', .int .i64 bits] w fun e w' => e = res .i64 (fullS l at' bits) ∧ Below w.heap.size w w' := by
  obtain ⟨r, hr'⟩ : ∃ r : Int × Int × Int × Int, r = fullS l at' bits := ⟨_, rfl⟩
  have H := fun w hv => readS_any v l at' bits w hv hr hl
  rw [← hr'] at H ⊢
  have Hv := fun o => hv.alloc o
  have HH := Lib.hid H
  have HV := Lib.hid Hv
  clear hr' H Hv hv hr
  obtain ⟨n, x, y, z⟩ := r
  go_enter Tryz.func236, Tryz.ntmps236
  go_wp2_with (go_at_call 247; refine (HH.out _ (HV.out _)).mono ?_; rintro e w2 ⟨rfl, hb2⟩; obtain ⟨hc2, hf2⟩ := bcell hb2; unfold res)
  exact bodyPost_ret (v := .tuple #[.int .i64 n, .int .i64 x, .agg #[.int .i64 y, .int .i64 z, .int .i64 0]]) (by simp [results, Tryz.results236, go_sem, hc2]) rfl ⟨rfl, ((((((Below.refl _ _).alloc (Nat.le_refl _) _).trans (hb2.mono (by simp))).setCell (Nat.le_refl _) _).setCell (Nat.le_refl _) _).setCell (Nat.le_refl _) _)⟩
end Go.Proofs.YtgcmdnkmnghhaaaGreatDoor.lb

/- What bytes are read as: readers in plain Lean. -/
namespace Go.Proofs.YtgcmdnkmnghhaaaGreatDoor.wm
open Go.Proofs.YtgcmdnkmnghhaaaGreatDoor.lb

inductive Res (α : Type) where
  | ok (a : α) (p : Nat)
  | bad (why at' : Int)

/-- a reader: of bytes that end at e, from p on -/
def P (α : Type) := List Int → Nat → Nat → Res α

def P.ret {α : Type} (a : α) : P α := fun _ _ p => .ok a p
def P.bind {α β : Type} (x : P α) (f : α → P β) : P β := fun l e p => match x l e p with
  | .ok a p' => f a l e p'
  | .bad w a => .bad w a

theorem P.bind_ok {α β : Type} {x : P α} {f : α → P β} {l : List Int} {e p p' : Nat} {a : α} (h : x l e p = .ok a p') : x.bind f l e p = f a l e p' := by unfold P.bind; rw [h]
theorem P.bind_bad {α β : Type} {x : P α} {f : α → P β} {l : List Int} {e p : Nat} {w a : Int} (h : x l e p = .bad w a) : x.bind f l e p = .bad w a := by unfold P.bind; rw [h]

/-- something is wrong at a place -/
def pFail {α : Type} (why at' : Int) : P α := fun _ _ _ => .bad why at'
/-- something is wrong with the last byte -/
def pBack {α : Type} (why : Int) : P α := fun _ _ p => .bad why ((p : Int) - 1)
/-- something is wrong with what was read from here on -/
def pHere {α : Type} (f : Int → P α) : P α := fun l e p => f p l e p

def pOctet : P Int := fun l e p => if p < e then .ok (l.getD p 0) (p + 1) else .bad 4 p
def pOne (these left : List Int) : P Int := pOctet.bind fun c => if left.contains c then pBack 11 else if these.contains c then P.ret c else pBack 6

def pNum (d : List Int → Nat → Int × Int × Int × Int) : P Int := fun l e p =>
  let r := d (l.take e) p
  if r.2.2.1 = 0 then .ok r.1 r.2.1.toNat else .bad r.2.2.1 r.2.2.2
def pU : P Int := pNum fun l p => decU l p 5 16
def pS32 : P Int := pNum fun l p => decS l p 5 good32
def pS64 : P Int := pNum fun l p => decS l p 10 good64
def pLow : P Int := pS32.bind fun n => P.ret (n % 4294967296)
def pMost (limit : Int) : P Int := pHere fun a => pU.bind fun n => if limit < n then pFail 7 a else P.ret n
def pKind : P Int := pOne [127, 126] [125, 124]
/-- so many, one behind the other -/
def pRep {α : Type} (x : P α) : Nat → List α → P (List α)
  | 0, acc => P.ret acc
  | k + 1, acc => x.bind fun a => pRep x k (acc ++ [a])
def pChar : P Int := pOctet.bind fun c => if c < 32 ∨ 126 < c then pBack 8 else P.ret c
def pName : P (List Int) := (pMost 32).bind fun n => pRep pChar n.toNat []
def pList {α : Type} (limit : Int) (x : P α) : P (List α) := (pMost limit).bind fun n => pRep x n.toNat []
def pSkip (size : Int) : P Int := fun _ e p => if (e : Int) - p < size then .bad 4 e else .ok (p + size) (p + size.toNat)
def pCopied (size : Int) : P (List Int) := fun l e p => if (e : Int) - p < size then .bad 4 e else .ok ((l.drop p).take size.toNat) (p + size.toNat)

/-- a part that begins with how many bytes it has: all of it is read -/
def pPart {α : Type} (x : P α) : P α := pU.bind fun size => fun l e p =>
  if (e : Int) - p < size then .bad 4 e
  else match x l (p + size.toNat) p with
    | .bad w a => .bad w a
    | .ok a q => if q < p + size.toNat then .bad 6 q else .ok a (p + size.toNat)

structure GSig where
  ins : List Int
  outs : List Int
deriving DecidableEq, Inhabited
structure GImport where
  mod : List Int
  name : List Int
  type : Int
deriving DecidableEq
structure GGlobal where
  type : Int
  mut' : Bool
  n : Int
deriving DecidableEq
structure GExport where
  name : List Int
  kind : Int
  n : Int
deriving DecidableEq
structure GData where
  at' : Int
  bytes : List Int
deriving DecidableEq
inductive GInstr where
  | mk (op n m : Int) (type : GSig) (body els : List GInstr) (hasElse : Bool) (targets : List Int)
structure GFunc where
  type : Int
  locals : List Int
  body : List GInstr
structure GMod where
  types : List GSig
  imports : List GImport
  funcs : List GFunc
  pages : Int
  most : Int
  globals : List GGlobal
  exports : List GExport
  start : Int
  datas : List GData

def pSig : P GSig := (pOne [96] []).bind fun _ => (pList 8 pKind).bind fun i => (pList 8 pKind).bind fun o => P.ret ⟨i, o⟩
def pImport : P GImport := pName.bind fun m => pName.bind fun n => (pOne [0] [1, 2, 3]).bind fun _ => pU.bind fun t => P.ret ⟨m, n, t⟩
def pDeclared : P GFunc := pU.bind fun t => P.ret ⟨t, [], []⟩
def pFirst (kind : Int) : P Int := (pOne [65, 66] []).bind fun op =>
  if (op == 65) != (kind == 127) then pBack 10 else if op = 65 then pLow else pS64.bind fun n => P.ret (n % 18446744073709551616)
def pGlobal : P GGlobal := pKind.bind fun k => (pOne [0, 1] []).bind fun m => (pFirst k).bind fun n => (pOne [11] []).bind fun _ => P.ret ⟨k, m == 1, n⟩
def pExport : P GExport := pName.bind fun n => (pOne [0, 2, 3] [1]).bind fun k => pU.bind fun x => P.ret ⟨n, k, x⟩
def pData : P GData := pHere fun a => pU.bind fun z => if z ≠ 0 then pFail 6 a else (pOne [65] []).bind fun _ => pLow.bind fun b => (pOne [11] []).bind fun _ => (pMost 4096).bind fun n => (pCopied n).bind fun bs => P.ret ⟨b, bs⟩

/-- pages and most -/
def pMemory (was : Int × Int) : P (Int × Int) := (pMost 1).bind fun n => if n = 0 then P.ret was else
  (pOne [0, 1] []).bind fun told => (pMost 16).bind fun pages => if told = 0 then P.ret (pages, 16) else
    pHere fun a => (pMost 16).bind fun most => if most < pages then pFail 6 a else P.ret (pages, most)

/-- rows of locals -/
def pRows : Nat → List Int → P (List Int)
  | 0, acc => P.ret acc
  | k + 1, acc => (pMost (32 - acc.length)).bind fun c => pKind.bind fun t => pRows k (acc ++ List.replicate c.toNat t)
def pLocals : P (List Int) := (pMost 32).bind fun n => pRows n.toNat []

def leftOut (op : Int) : Bool := [17, 42, 43, 56, 57, 67, 68].contains op || (decide (91 ≤ op) && decide (op ≤ 102)) || (decide (139 ≤ op) && decide (op ≤ 166)) || (decide (168 ≤ op) && decide (op ≤ 171)) || (decide (174 ≤ op) && decide (op ≤ 191))
/-- how many bytes an access has, and whether it is one -/
def accW (op : Int) : Option Int :=
  if op = 40 ∨ op = 54 ∨ op = 52 ∨ op = 53 ∨ op = 62 then some 4 else if op = 41 ∨ op = 55 then some 8
  else if op = 44 ∨ op = 45 ∨ op = 48 ∨ op = 49 ∨ op = 58 ∨ op = 60 then some 1
  else if op = 46 ∨ op = 47 ∨ op = 50 ∨ op = 51 ∨ op = 59 ∨ op = 61 then some 2 else none
/-- an operator of numbers -/
def isNum (op : Int) : Bool := (decide (69 ≤ op) && decide (op ≤ 90)) || (decide (103 ≤ op) && decide (op ≤ 138)) || op == 167 || op == 172 || op == 173 || (decide (192 ≤ op) && decide (op ≤ 196))

def pBlockType (types : List GSig) : P GSig := pHere fun a => fun l e p =>
  match pOctet l e p with
  | .bad w x => .bad w x
  | .ok c q => if c = 64 then .ok ⟨[], []⟩ q else if c = 127 ∨ c = 126 ∨ c = 125 ∨ c = 124 then (pKind.bind fun k => P.ret ⟨[], [k]⟩) l e p
    else (pS64.bind fun n => if n < 0 ∨ (types.length : Int) ≤ n then pFail 9 a else P.ret (types.getD n.toNat ⟨[], []⟩)) l e p
def pAlign (width : Int) : P Int := pHere fun a => pU.bind fun n => if 3 < n ∨ width < 2 ^ n.toNat then pFail 6 a else P.ret n
def pTargets : P (List Int) := (pList 64 pU).bind fun ts => pU.bind fun t => P.ret (ts ++ [t])

def simple (op : Int) : GInstr := .mk op 0 0 ⟨[], []⟩ [] [] false []
/-- what stands behind a number's operator, or an access: N and M -/
def pOther (op : Int) : P (Int × Int) := if isNum op then P.ret (0, 0) else
  match accW op with
  | some wd => (pAlign wd).bind fun m => pU.bind fun n => P.ret (n, m)
  | none => if leftOut op then pBack 11 else pBack 6
/-- what stands behind an operator's byte, but for blocks -/
def pPlain (op : Int) : P GInstr :=
  if op = 0 ∨ op = 1 ∨ op = 15 ∨ op = 26 ∨ op = 27 then P.ret (simple op)
  else if op = 12 ∨ op = 13 ∨ op = 16 ∨ op = 32 ∨ op = 33 ∨ op = 34 ∨ op = 35 ∨ op = 36 then pU.bind fun n => P.ret (.mk op n 0 ⟨[], []⟩ [] [] false [])
  else if op = 14 then pTargets.bind fun t => P.ret (.mk op 0 0 ⟨[], []⟩ [] [] false t)
  else if op = 63 ∨ op = 64 then (pOne [0] []).bind fun _ => P.ret (simple op)
  else if op = 65 then pLow.bind fun n => P.ret (.mk op n 0 ⟨[], []⟩ [] [] false [])
  else if op = 66 then pS64.bind fun n => P.ret (.mk op (n % 18446744073709551616) 0 ⟨[], []⟩ [] [] false [])
  else (pOther op).bind fun x => P.ret (.mk op x.1 x.2 ⟨[], []⟩ [] [] false [])

def isBlock (op : Int) : Bool := op == 2 || op == 3 || op == 4

/-- operators up to their end: what was read, whether an Else ended it, how many operators there were -/
def pRun (types : List GSig) : Nat → Nat → Bool → Nat → List GInstr → P (List GInstr × Bool × Nat)
  | 0, _, _, _, _ => pFail 0 0
  | fuel + 1, depth, parted, ops, acc => pOctet.bind fun op =>
    if op = 11 then P.ret (acc, false, ops)
    else if op = 5 ∧ parted = true then P.ret (acc, true, ops)
    else
      let ops' := if op = 5 then ops else ops + 1
      if op ≠ 5 ∧ (512 < ops' ∨ (isBlock op = true ∧ 16 ≤ depth)) then pBack 7
      else if isBlock op then
        (pBlockType types).bind fun t => (pRun types fuel (depth + 1) (op == 4) ops' []).bind fun r =>
          if r.2.1 then (pRun types fuel (depth + 1) false r.2.2 []).bind fun s => pRun types fuel depth parted s.2.2 (acc ++ [.mk op 0 0 t r.1 s.1 true []])
          else pRun types fuel depth parted r.2.2 (acc ++ [.mk op 0 0 t r.1 [] false []])
      else (pPlain op).bind fun i => pRun types fuel depth parted ops' (acc ++ [i])
def pBody (types : List GSig) : P (List GInstr) := fun l e p => match pRun types (e - p + 1) 0 false 0 [] l e p with
  | .ok r q => .ok r.1 q
  | .bad w a => .bad w a

/-- the bodies of functions -/
def pBodies (types : List GSig) : List GFunc → List GFunc → P (List GFunc)
  | [], acc => P.ret acc
  | f :: fs, acc => (pPart (pLocals.bind fun lo => (pBody types).bind fun b => P.ret (lo, b))).bind fun x => pBodies types fs (acc ++ [⟨f.type, x.1, x.2⟩])

structure DSt where
  m : GMod
  last : Int
  bodies : Bool
def pFill (d : DSt) (sec : Int) : P DSt :=
  if sec = 1 then (pList 32 pSig).bind fun x => P.ret { d with m := { d.m with types := x } }
  else if sec = 2 then (pList 32 pImport).bind fun x => P.ret { d with m := { d.m with imports := x } }
  else if sec = 3 then (pList (32 - d.m.imports.length) pDeclared).bind fun x => P.ret { d with m := { d.m with funcs := x } }
  else if sec = 5 then (pMemory (d.m.pages, d.m.most)).bind fun x => P.ret { d with m := { d.m with pages := x.1, most := x.2 } }
  else if sec = 6 then (pList 32 pGlobal).bind fun x => P.ret { d with m := { d.m with globals := x } }
  else if sec = 7 then (pList 32 pExport).bind fun x => P.ret { d with m := { d.m with exports := x } }
  else if sec = 8 then pU.bind fun x => P.ret { d with m := { d.m with start := x } }
  else if sec = 10 then pHere fun a => pU.bind fun n => if n ≠ d.m.funcs.length then pFail 6 a else
    (pBodies d.m.types d.m.funcs []).bind fun x => P.ret { d with m := { d.m with funcs := x }, bodies := true }
  else if sec = 11 then (pList 32 pData).bind fun x => P.ret { d with m := { d.m with datas := x } }
  else P.ret d
def pSection (d : DSt) : P DSt := pOctet.bind fun sec =>
  if sec = 4 ∨ sec = 9 then pBack 11
  else if 11 < sec ∨ (sec ≠ 0 ∧ sec ≤ d.last) then pBack 6
  else if sec = 0 then pU.bind fun size => (pSkip size).bind fun _ => P.ret d
  else pPart (pFill { d with last := sec } sec)
def pSections : Nat → DSt → P DSt
  | 0, _ => pFail 0 0
  | fuel + 1, d => fun l e p => if p < e then (pSection d).bind (pSections fuel) l e p else .ok d p

def magicL : List Int := [0, 97, 115, 109, 1, 0, 0, 0]
def pMagic : List Int → P Unit
  | [] => P.ret ()
  | c :: cs => pOctet.bind fun x => if x ≠ c then pBack 5 else pMagic cs
def mod0 : GMod := ⟨[], [], [], -1, 0, [], [], -1, []⟩
def pModule : P GMod := (pMagic magicL).bind fun _ => fun l e p => match pSections (e - p + 1) ⟨mod0, 0, false⟩ l e p with
  | .bad w a => .bad w a
  | .ok d q => if 0 < d.m.funcs.length ∧ d.bodies = false then .bad 6 e else .ok d.m q

/-- what Decode answers -/
def decodeM (l : List Int) : Res GMod := if 16384 < l.length then .bad 7 0 else pModule l l.length 0
end Go.Proofs.YtgcmdnkmnghhaaaGreatDoor.wm

/- A reader in memory, and what a call of a reader's method leaves. -/
set_option linter.unusedVariables false
namespace Go.Proofs.YtgcmdnkmnghhaaaGreatDoor.wm
open Go.RowKit Go.Proofs.YtgcmdnkmnghhaaaGreatDoor.lb

/-- the panic of a wrong byte -/
def thrown (why at' : Int) : Ending := .panicked [{ v := .iface 90 (.agg #[.int .i64 why, .int .i64 at']), recovered := false }]

/-- a reader in block r -/
def RB (w : World) (r : Nat) (ao : Option Addr) (e cap p : Nat) : Prop := w.heap[r]? = some (.cells #[.slice ao e cap, .int .i64 (p : Int)] 93 (0, 0))
theorem RB.lt {w : World} {r : Nat} {ao : Option Addr} {e cap p : Nat} (h : RB w r ao e cap p) : r < w.heap.size := (Array.getElem?_eq_some_iff.1 h).1
theorem RB.c0 {w : World} {r : Nat} {ao : Option Addr} {e cap p : Nat} (h : RB w r ao e cap p) : w.cell? ⟨r, 0, none⟩ = some (.slice ao e cap) := by unfold RB at h; simp [World.cell?, h]
theorem RB.c1 {w : World} {r : Nat} {ao : Option Addr} {e cap p : Nat} (h : RB w r ao e cap p) : w.cell? ⟨r, 1, none⟩ = some (.int .i64 (p : Int)) := by unfold RB at h; simp [World.cell?, h]
theorem RB.f {w : World} {r : Nat} {ao : Option Addr} {e cap p : Nat} (h : RB w r ao e cap p) (o : Nat) : w.frozen? ⟨r, o, none⟩ = false := by unfold RB at h; simp [World.frozen?, h]
theorem RB.set {w : World} {r : Nat} {ao : Option Addr} {e cap p : Nat} (h : RB w r ao e cap p) (q : Nat) {n : Int} (hn : n = (q : Int)) : RB (w.setCell ⟨r, 1, none⟩ (.int .i64 n)) r ao e cap q := by
  subst hn
  unfold RB at h ⊢
  simp [World.setCell, Array.getElem?_modify, h]
theorem RB.keep {S : Nat → Prop} {w w' : World} {r : Nat} {ao : Option Addr} {e cap p : Nat} (h : RB w r ao e cap p) (k : Keep S w w') (hs : ¬ S r) : RB w' r ao e cap p := (k.block r h.lt hs).trans h
theorem RB.new (w : World) (ao : Option Addr) (e cap p : Nat) : RB (w.alloc (.cells #[.slice ao e cap, .int .i64 (p : Int)] 93 )) w.heap.size ao e cap p := heap_alloc_new w _

/-- the bytes that are read: as they lay in the first world -/
structure Ctx (w0 : World) (ao : Option Addr) (cap : Nat) (l : List Int) : Prop where
  rd : Rd w0 (.slice ao l.length cap) l
  ok : ∀ x ∈ l, 0 ≤ x ∧ x < 256
  len : l.length ≤ 16384

/-- a reader of these bytes -/
structure Rr (w0 : World) (ao : Option Addr) (cap : Nat) (l : List Int) (r e p : Nat) (w : World) : Prop where
  low : Below w0.heap.size w0 w
  blk : RB w r ao e cap p
  hB : w0.heap.size ≤ r
  hp : p ≤ e
  he : e ≤ l.length

theorem Ctx.take {w0 : World} {ao : Option Addr} {cap : Nat} {l : List Int} (c : Ctx w0 ao cap l) {w : World} (h : Below w0.heap.size w0 w) {e : Nat} (he : e ≤ l.length) : Rd w (.slice ao e cap) (l.take e) := by
  obtain ⟨ao', cap', h1, h2, h3, h4⟩ := c.rd.lift h
  simp only [Value.slice.injEq, true_and] at h1
  obtain ⟨rfl, rfl⟩ := h1
  have hl : (l.take e).length = e := by rw [List.length_take]; omega
  refine ⟨ao, cap, by rw [hl], by omega, h3, ?_⟩
  rcases h4 with rfl | ⟨b, off, rfl, h5⟩
  · left; simp
  · right
    refine ⟨b, off, rfl, fun k hk => ?_⟩
    rw [hl] at hk
    rw [h5 k (by omega), List.getD_eq_getElem?_getD, List.getD_eq_getElem?_getD, List.getElem?_take, if_pos hk]
theorem Ctx.byte {w0 : World} {ao : Option Addr} {cap : Nat} {l : List Int} (c : Ctx w0 ao cap l) {w : World} (h : Below w0.heap.size w0 w) {k : Nat} (hk : k < l.length) :
    ∃ b off, ao = some ⟨b, off, none⟩ ∧ w.cell? ⟨b, off + k, none⟩ = some (.int .u8 (l.getD k 0)) := by
  obtain ⟨ao', cap', h1, h2, h3, h4⟩ := c.rd.lift h
  simp only [Value.slice.injEq, true_and] at h1
  obtain ⟨rfl, rfl⟩ := h1
  rcases h4 with rfl | ⟨b, off, rfl, h5⟩
  · simp at hk
  · exact ⟨b, off, rfl, h5 k hk⟩
theorem Ctx.bd {w0 : World} {ao : Option Addr} {cap : Nat} {l : List Int} (c : Ctx w0 ao cap l) (k : Nat) : 0 ≤ l.getD k 0 ∧ l.getD k 0 < 256 := by
  by_cases hk : k < l.length
  · have : l.getD k 0 ∈ l := by rw [List.getD_eq_getElem?_getD, List.getElem?_eq_getElem hk]; exact List.getElem_mem hk
    exact c.ok _ this
  · rw [List.getD_eq_getElem?_getD, List.getElem?_eq_none (by omega)]; decide

theorem Rr.keep {w0 : World} {ao : Option Addr} {cap : Nat} {l : List Int} {r e p : Nat} {w w' : World} {S : Nat → Prop} (h : Rr w0 ao cap l r e p w) (k : Keep S w w') (hs : ¬ S r) (hS : ∀ k, S k → w0.heap.size ≤ k) : Rr w0 ao cap l r e p w' :=
  ⟨k.low h.low (Nat.le_refl _) hS, h.blk.keep k hs, h.hB, h.hp, h.he⟩
theorem Rr.below {w0 : World} {ao : Option Addr} {cap : Nat} {l : List Int} {r e p : Nat} {w w' : World} (h : Rr w0 ao cap l r e p w) (k : Below w.heap.size w w') : Rr w0 ao cap l r e p w' :=
  h.keep (S := fun _ => False) (.of k) (fun x => x) (fun _ x => x.elim)
theorem Rr.set {w0 : World} {ao : Option Addr} {cap : Nat} {l : List Int} {r e p : Nat} {w : World} (h : Rr w0 ao cap l r e p w) (q : Nat) (hq : q ≤ e) {n : Int} (hn : n = (q : Int)) : Rr w0 ao cap l r e q (w.setCell ⟨r, 1, none⟩ (.int .i64 n)) :=
  ⟨h.low.setCell (p := ⟨r, 1, none⟩) h.hB _, h.blk.set q hn, h.hB, hq, h.he⟩

/-- what a reader's method leaves: an answer and the reader further on, or the panic; but the blocks of S nothing old has turned -/
def Out {α : Type} (S : Nat → Prop) (w0 : World) (ao : Option Addr) (cap : Nat) (l : List Int) (r e : Nat) (w : World) (V : World → Value → α → Prop) (x : Res α) (en : Ending) (w' : World) : Prop :=
  Keep S w w' ∧ match x with
  | .ok a p => ∃ v, en = .returned v ∧ V w' v a ∧ Rr w0 ao cap l r e p w'
  | .bad why a => en = thrown why a

theorem Out.good {α : Type} {S : Nat → Prop} {w0 : World} {ao : Option Addr} {cap : Nat} {l : List Int} {r e : Nat} {w : World} {V : World → Value → α → Prop} {x : Res α} {w' : World} {a : α} {p : Nat} {v : Value} (hx : x = .ok a p) (hk : Keep S w w') (hv : V w' v a) (hr : Rr w0 ao cap l r e p w') : Out S w0 ao cap l r e w V x (.returned v) w' := by
  subst hx; exact ⟨hk, v, rfl, hv, hr⟩
theorem Out.wrong {α : Type} {S : Nat → Prop} {w0 : World} {ao : Option Addr} {cap : Nat} {l : List Int} {r e : Nat} {w : World} {V : World → Value → α → Prop} {x : Res α} {w' : World} {why a : Int} (hx : x = .bad why a) (hk : Keep S w w') : Out S w0 ao cap l r e w V x (thrown why a) w' := by
  subst hx; exact ⟨hk, rfl⟩
/-- the answer is this number -/
def VI (q : IntKind) : World → Value → Int → Prop := fun _ v n => v = .int q n

theorem fail_any (why a : Int) (w : World) : Calls Tryz.prog 49 #[.int .i64 why, .int .i64 a] w fun e w' => e = thrown why a ∧ w = w' := by
  go_enter Tryz.func49, Tryz.ntmps49
  go_wp2
  exact ⟨rfl, rfl, rfl⟩
end Go.Proofs.YtgcmdnkmnghhaaaGreatDoor.wm

/- The contracts of octet, u, s, skip. -/
set_option linter.unusedVariables false
namespace Go.Proofs.YtgcmdnkmnghhaaaGreatDoor.wm
open Go.RowKit Go.Proofs.YtgcmdnkmnghhaaaGreatDoor.lb

section
variable {w0 : World} {ao : Option Addr} {cap : Nat} {l : List Int}

theorem octet_any (c : Ctx w0 ao cap l) (r e p : Nat) (w : World) (h : Rr w0 ao cap l r e p w) :
    Calls Tryz.prog 106 #[.pointer (some ⟨r, 0, none⟩)] w (Out (· = r) w0 ao cap l r e w (VI .i64) (pOctet l e p)) := by
  have c0 := h.blk.c0
  have c1 := h.blk.c1
  have f0 := h.blk.f 0
  have f1 := h.blk.f 1
  have hl := c.len
  have he := h.he
  have HH := Lib.hid h
  have HC := Lib.hid c
  by_cases hp : p < e
  · obtain ⟨b, off, rfl, hb⟩ := c.byte h.low (k := p) (by omega)
    have hne : b ≠ r := by
      have := World.block_lt_of_cell? w0 _ (c.byte (Below.refl _ _) (k := p) (by omega)).choose_spec.choose_spec.2
      have e := (c.byte (Below.refl _ _) (k := p) (by omega)).choose_spec.choose_spec.1
      simp at e
      have := h.hB
      simp at *
      omega
    have hx : pOctet l e p = .ok (l.getD p 0) (p + 1) := if_pos hp
    have HX := Lib.hid hx
    have hd : decide ((p : Int) = (e : Int)) = false := by simp; omega
    have hbd := c.bd p
    clear h c hx
    go_enter Tryz.func106, Tryz.ntmps106
    go_wp2
    go_quiet (fail)
    go_wp2
    have h2 := (HH.out.below (belowN w nq)).set (p + 1) (by omega) (n := (p : Int) + 1) (by omega)
    have k2 : Keep (· = r) w ((w.drewN nq).setCell ⟨r, 1, none⟩ (.int .i64 ((p : Int) + 1))) := ((Keep.refl (fun k => k = r) w).drewN nq).set (p := ⟨r, 1, none⟩) (.inl rfl) _
    have hb2 : ((w.drewN nq).setCell ⟨r, 1, none⟩ (.int .i64 ((p : Int) + 1))).cell? ⟨b, off + p, none⟩ = some (.int .u8 (l.getD p 0)) := by
      rw [World.cell?_of_block (w := w) (Below.heap_setCell (w.drewN nq) _ _ _ hne)]; exact hb
    generalize (w.drewN nq).setCell ⟨r, 1, none⟩ (.int .i64 ((p : Int) + 1)) = w2 at h2 k2 hb2 ⊢
    have d0 := h2.blk.c0
    have d1 := h2.blk.c1
    have g0 := h2.blk.f 0
    have g1 := h2.blk.f 1
    have e1 : ((p + 1 : Nat) : Int) = (p : Int) + 1 := by omega
    rw [e1] at d1
    have HH2 := Lib.hid h2
    have HK2 := Lib.hid k2
    clear h2 k2 e1 c0 c1 f0 f1 hb
    generalize l.getD p 0 = c at hb2 HX hbd
    go_quiet (fail)
    go_wp2
    go_ret
    exact Out.good HX.out (HK2.out.drewN _) rfl (HH2.out.below (belowN _ _))
  · have hpe : p = e := by have := h.hp; omega
    subst hpe
    have hx : pOctet l p p = .bad 4 p := if_neg hp
    have HX := Lib.hid hx
    clear h c hx
    go_enter Tryz.func106, Tryz.ntmps106
    go_wp2_with fail
    go_quiet (fail)
    go_wp2_with fail
    refine (fail_any _ _ _).mono ?_
    rintro en w1 ⟨rfl, rfl⟩
    exact ⟨rfl, Out.wrong HX.out (.of (belowN _ _))⟩
end
end Go.Proofs.YtgcmdnkmnghhaaaGreatDoor.wm

/- The contracts of slices.Contains, one, kind. -/
set_option linter.unusedVariables false
namespace Go.Proofs.YtgcmdnkmnghhaaaGreatDoor.wm
open Go.RowKit Go.Proofs.YtgcmdnkmnghhaaaGreatDoor.lb

def idxF : List Int → Int → Int → Int
  | [], _, _ => -1
  | a :: l, x, i => if x = a then i else idxF l x (i + 1)
theorem idxF_contains : ∀ (l : List Int) (x i : Int), 0 ≤ i → decide (0 ≤ idxF l x i) = l.contains x
  | [], x, i, h => by simp [idxF]
  | a :: l, x, i, h => by
    rw [idxF, List.contains_cons]
    by_cases hx : x = a
    · simp [hx, h]
    · rw [if_neg hx, idxF_contains l x (i + 1) (by omega)]
      simp [hx]
theorem idxF_drop {l : List Int} {i : Nat} (h : i < l.length) (x : Int) : idxF (l.drop i) x i = if x = l.getD i 0 then (i : Int) else idxF (l.drop (i + 1)) x ((i : Int) + 1) := by
  rw [List.drop_eq_getElem_cons h, idxF, List.getD_eq_getElem?_getD, List.getElem?_eq_getElem h]; rfl

theorem index_any (v : Value) (l : List Int) (x : Int) (w : World) (h : RdK .i64 w v l) (hl : l.length ≤ 4096) :
    Calls Tryz.prog 235 #[v, .int .i64 x] w fun e w' => e = .returned (.int .i64 (idxF l x 0)) ∧ w = w' := by
  obtain ⟨ao, cap, rfl, hc, hz, hd⟩ := h
  have H := Lib.hid hd
  have HZ := Lib.hid hz
  clear hd hz hc
  go_enter Tryz.func235, Tryz.ntmps235
  go_wp2
  go_loopw [8] (fun y wr => ∃ i : Nat, y = .int .i64 i ∧ i ≤ l.length ∧ Hid (idxF (l.drop i) x i = idxF l x 0) ∧ wr = w) (fun y _ => l.length - (intOf y).toNat)
  case atStart => exact ⟨0, rfl, by omega, rfl, rfl⟩
  case round =>
    obtain ⟨i, rfl, hi, HI, rfl⟩ := hrel
    by_cases hlt : i < l.length
    · have hstep := idxF_drop hlt x
      rcases H.out with rfl | ⟨b, off, rfl, hcell⟩
      · simp at hlt
      have hci := hcell i hlt
      have hilt : (i : Int) < l.length := by omega
      clear hcell
      generalize l.getD i 0 = y at hci hstep
      by_cases hx : x = y
      · subst hx
        rw [if_pos rfl] at hstep
        have HS := Lib.hid hstep
        clear hstep
        go_wp2
        go_ret
        exact ⟨by rw [← HI.out, HS.out]; rfl, rfl⟩
      · rw [if_neg hx] at hstep
        have HS := Lib.hid hstep
        have hne : decide (x = y) = false := by simpa using hx
        clear hstep
        go_wp2
        go_roundw
        case rel => exact ⟨i + 1, by go_num, by omega, (by rw [Int.natCast_add]; exact HS.out.symm.trans HI.out), trivial⟩
        case measure => simp [intOf]; omega
    · have hil : i = l.length := by omega
      subst hil
      have hfin : idxF (l.drop l.length) x l.length = -1 := by rw [List.drop_length]; rfl
      have HF := Lib.hid hfin
      clear hfin
      go_wp2
      go_ret
      exact ⟨by rw [← HI.out, HF.out]; rfl, rfl⟩

theorem contains_any (v : Value) (l : List Int) (x : Int) (w : World) (h : RdK .i64 w v l) (hl : l.length ≤ 4096) :
    Calls Tryz.prog 219 #[v, .int .i64 x] w fun e w' => e = .returned (.bool (l.contains x)) ∧ w = w' := by
  have HI := Lib.hid (index_any v l x w h hl)
  have HC := Lib.hid (idxF_contains l x 0 (Int.le_refl 0))
  clear h
  go_enter Tryz.func219, Tryz.ntmps219
  go_wp2_with fail
  refine HI.out.mono ?_
  rintro en w1 ⟨rfl, rfl⟩
  go_wp2
  go_ret
  exact ⟨by rw [← HC.out]; rfl, rfl⟩

/-- v goes on reading as these numbers while the reader goes on -/
def St (r : Nat) (w : World) (v : Value) (l : List Int) : Prop := ∀ w', Keep (· = r) w w' → RdK .i64 w' v l
theorem St.nil (r : Nat) (w : World) : St r w (.slice none 0 0) [] := fun w' _ => ⟨none, 0, rfl, Nat.le_refl _, fun _ => rfl, .inl rfl⟩
theorem St.lit {r : Nat} {w : World} {b : Nat} (xs : List Int) (n : Nat) (hn : n = xs.length) (hb : w.heap[b]? = some (.cells (xs.map (.int .i64)).toArray 3 (0, 0))) (hr : b ≠ r) : St r w (.slice (some ⟨b, 0, none⟩) n n) xs := by
  subst hn
  intro w' k
  refine ⟨_, _, rfl, Nat.le_refl _, (fun h => by cases h), .inr ⟨b, 0, rfl, fun j hj => ?_⟩⟩
  have hlt : b < w.heap.size := (Array.getElem?_eq_some_iff.1 hb).1
  have := (k.block b hlt hr).trans hb
  rw [cell_of_row _ b (0 + j) _ 3 (0, 0) this, List.getElem?_toArray, Nat.zero_add, List.getElem?_map, List.getElem?_eq_getElem hj, List.getD_eq_getElem?_getD, List.getElem?_eq_getElem hj]
  rfl

section
variable {w0 : World} {ao : Option Addr} {cap : Nat} {l : List Int}
theorem one_any (c : Ctx w0 ao cap l) (r e p : Nat) (w : World) (h : Rr w0 ao cap l r e p w) (v1 v2 : Value) (these left : List Int) (h1 : St r w v1 these) (h2 : St r w v2 left) (hl1 : these.length ≤ 4096) (hl2 : left.length ≤ 4096) :
    Calls Tryz.prog 190 #[.pointer (some ⟨r, 0, none⟩), v1, v2] w (Out (· = r) w0 ao cap l r e w (VI .i64) (pOne these left l e p)) := by
  have c1 := h.blk.c1
  have f1 := h.blk.f 1
  have HO := Lib.hid (octet_any c r e p w h)
  have H1 := Lib.hid h1
  have H2 := Lib.hid h2
  have HC := Lib.hid (fun v l x w h hl => contains_any v l x w h hl)
  cases hx : pOctet l e p with
  | bad why a =>
    have HX := Lib.hid (show pOne these left l e p = .bad why a from P.bind_bad hx)
    rw [hx] at HO
    clear h c h1 h2 hx
    go_enter Tryz.func190, Tryz.ntmps190
    go_wp2_with fail
    refine HO.out.mono ?_
    rintro en w1 ⟨k1, rfl⟩
    exact ⟨rfl, Out.wrong HX.out k1⟩
  | ok x q =>
    have hq : q = p + 1 := by
      unfold pOctet at hx
      split at hx
      · simp only [Res.ok.injEq] at hx; exact hx.2.symm
      · cases hx
    have hX : pOne these left l e p = (if left.contains x then pBack 11 else if these.contains x then P.ret x else pBack 6) l e q := P.bind_ok hx
    rw [hx] at HO
    cases hc2 : left.contains x with
    | true =>
      have HX := Lib.hid (show pOne these left l e p = .bad 11 p by rw [hX, hc2]; simp [pBack, hq])
      clear h c h1 h2 hx hX
      go_enter Tryz.func190, Tryz.ntmps190
      go_wp2_with fail
      refine HO.out.mono ?_
      rintro en w1 ⟨k1, v, rfl, rfl, r1⟩
      have K1 := Lib.hid k1
      have R1 := Lib.hid r1
      clear k1 r1
      go_wp2_with fail
      refine (HC.out v2 left x _ (H2.out _ K1.out) hl2).mono ?_
      rw [hc2]
      rintro en w2 ⟨rfl, rfl⟩
      go_wp2_with fail
      refine (fail_any _ _ _).mono ?_
      rintro en w2 ⟨rfl, rfl⟩
      exact ⟨rfl, Out.wrong HX.out K1.out⟩
    | false =>
      cases hc1 : these.contains x with
      | true =>
        have HX := Lib.hid (show pOne these left l e p = .ok x q by rw [hX, hc2, hc1]; simp [P.ret])
        clear h c h1 h2 hx hX
        go_enter Tryz.func190, Tryz.ntmps190
        go_wp2_with fail
        refine HO.out.mono ?_
        rintro en w1 ⟨k1, v, rfl, rfl, r1⟩
        have K1 := Lib.hid k1
        have R1 := Lib.hid r1
        clear k1 r1
        go_wp2_with fail
        refine (HC.out v2 left x _ (H2.out _ K1.out) hl2).mono ?_
        rw [hc2]
        rintro en w2 ⟨rfl, rfl⟩
        go_wp2_with fail
        refine (HC.out v1 these x _ (H1.out _ K1.out) hl1).mono ?_
        rw [hc1]
        rintro en w2 ⟨rfl, rfl⟩
        go_wp2
        go_ret
        exact Out.good HX.out K1.out rfl R1.out
      | false =>
        have HX := Lib.hid (show pOne these left l e p = .bad 6 p by rw [hX, hc2, hc1]; simp [pBack, hq])
        clear h c h1 h2 hx hX
        go_enter Tryz.func190, Tryz.ntmps190
        go_wp2_with fail
        refine HO.out.mono ?_
        rintro en w1 ⟨k1, v, rfl, rfl, r1⟩
        have K1 := Lib.hid k1
        have R1 := Lib.hid r1
        clear k1 r1
        go_wp2_with fail
        refine (HC.out v2 left x _ (H2.out _ K1.out) hl2).mono ?_
        rw [hc2]
        rintro en w2 ⟨rfl, rfl⟩
        go_wp2_with fail
        refine (HC.out v1 these x _ (H1.out _ K1.out) hl1).mono ?_
        rw [hc1]
        rintro en w2 ⟨rfl, rfl⟩
        go_wp2_with fail
        refine (fail_any _ _ _).mono ?_
        rintro en w2 ⟨rfl, rfl⟩
        exact ⟨rfl, Out.wrong HX.out K1.out⟩
end
end Go.Proofs.YtgcmdnkmnghhaaaGreatDoor.wm

/- The contracts of hold, u, s, low32, most, kind. -/
set_option linter.unusedVariables false
namespace Go.Proofs.YtgcmdnkmnghhaaaGreatDoor.wm
open Go.RowKit Go.Proofs.YtgcmdnkmnghhaaaGreatDoor.lb

theorem hold_ok (a o : Int) (w : World) : Calls Tryz.prog 188 #[.agg #[.int .i64 0, .int .i64 a, .int .i64 o]] w fun e w' => e = .returned (.tuple #[]) ∧ Below w.heap.size w w' := by
  go_enter Tryz.func188, Tryz.ntmps188
  go_wp2
  first | go_ret | go_end0
  exact ⟨rfl, (Below.refl _ _).alloc (Nat.le_refl _) _⟩
theorem hold_bad (why a o : Int) (h : why ≠ 0) (w : World) : Calls Tryz.prog 188 #[.agg #[.int .i64 why, .int .i64 a, .int .i64 o]] w fun e w' => e = thrown why a ∧ Below w.heap.size w w' := by
  have hd : (why != 0) = true := by simpa using h
  clear h
  go_enter Tryz.func188, Tryz.ntmps188
  go_wp2_with fail
  refine (fail_any _ _ _).mono ?_
  rintro en w1 ⟨rfl, rfl⟩
  exact ⟨rfl, rfl, (Below.refl _ _).alloc (Nat.le_refl _) _⟩

/-- what a number without a sign is: its bounds, and where it ends -/
theorem decU_facts (l : List Int) (h0 : ∀ k, 0 ≤ l.getD k 0) (p : Nat) (hp : p ≤ l.length) {n nx why a : Int} (h : decU l p 5 16 = (n, nx, why, a)) :
    (why = 0 → 0 ≤ n ∧ n < 4294967296 ∧ ∃ q : Nat, nx = q ∧ p < q ∧ q ≤ l.length) ∧ (why = 0 ∨ why = 3 ∨ why = 4) := by
  obtain ⟨m1, m2, m3⟩ := mk_spec l p hp
  unfold decU at h
  split at h
  · simp only [Prod.mk.injEq] at h; omega
  · split at h
    · simp only [Prod.mk.injEq] at h; omega
    · split at h
      · simp only [Prod.mk.injEq] at h; omega
      · rename_i h1 h2 h3
        simp only [Prod.mk.injEq] at h
        obtain ⟨rfl, rfl, rfl, rfl⟩ := h
        have hlt : p + mk l p < l.length := by omega
        refine ⟨fun _ => ⟨(vj_bd _ _ _).1, ?_, _, rfl, by omega, by omega⟩, .inl rfl⟩
        rw [vj_succ _ _ _ hlt]
        have hb := vj_bd l p (mk l p)
        have hm := m3 hlt
        by_cases h4 : mk l p + 1 = 5
        · have h5 : mk l p = 4 := by omega
          rw [h5] at hb hm h3 ⊢
          have h6 : l.getD (p + 4) 0 < 16 := by omega
          have h7 := h0 (p + 4)
          generalize l.getD (p + 4) 0 = c at h6 h7 ⊢
          generalize vj l p 4 = v at hb ⊢
          simp at hb ⊢; omega
        · have h5 : mk l p ≤ 3 := by omega
          generalize l.getD (p + mk l p) 0 = c at hm ⊢
          generalize vj l p (mk l p) = v at hb ⊢
          rcases (show mk l p = 0 ∨ mk l p = 1 ∨ mk l p = 2 ∨ mk l p = 3 by omega) with h | h | h | h <;> rw [h] at hb ⊢ <;> simp at hb ⊢ <;> omega
theorem decS_place (l : List Int) (p k : Nat) (hk : 0 < k) (good : Int → Bool) (hp : p ≤ l.length) {n nx why a : Int} (h : decS l p k good = (n, nx, why, a)) :
    (why = 0 → ∃ q : Nat, nx = q ∧ p < q ∧ q ≤ l.length) ∧ (why = 0 ∨ why = 3 ∨ why = 4) := by
  obtain ⟨m1, m2, m3⟩ := mk_spec l p hp
  unfold decS at h
  split at h
  · simp only [Prod.mk.injEq] at h; omega
  · split at h
    · simp only [Prod.mk.injEq] at h; omega
    · split at h
      · simp only [Prod.mk.injEq] at h; omega
      · simp only [Prod.mk.injEq] at h
        obtain ⟨rfl, rfl, rfl, rfl⟩ := h
        exact ⟨fun _ => ⟨_, rfl, by omega, by omega⟩, .inl rfl⟩

section
variable {w0 : World} {ao : Option Addr} {cap : Nat} {l : List Int}

theorem take_ok (c : Ctx w0 ao cap l) (e : Nat) : (∀ x ∈ l.take e, 0 ≤ x ∧ x < 256) ∧ ∀ k, 0 ≤ (l.take e).getD k 0 := by
  refine ⟨fun x hx => c.ok x (List.mem_of_mem_take hx), fun k => ?_⟩
  rw [List.getD_eq_getElem?_getD, List.getElem?_take]
  split
  · have := (c.bd k).1; rwa [List.getD_eq_getElem?_getD] at this
  · decide

/-- the cells of a reader -/
def NSt (ao : Option Addr) (cap : Nat) (r e p : Nat) (x : World) : Prop := x.cell? ⟨r, 0, none⟩ = some (.slice ao e cap) ∧ x.cell? ⟨r, 1, none⟩ = some (.int .i64 (p : Int))
theorem NSt.next {r e p : Nat} {x y : World} (h : NSt ao cap r e p x) (hb : Below x.heap.size x y) : NSt ao cap r e p y := by
  obtain ⟨h0, h1⟩ := h
  exact ⟨by rw [hb.cell (p := ⟨r, 0, none⟩) (World.block_lt_of_cell? x _ h0)]; exact h0, by rw [hb.cell (p := ⟨r, 1, none⟩) (World.block_lt_of_cell? x _ h1)]; exact h1⟩

theorem NSt.set {r e p : Nat} {x : World} (h : NSt ao cap r e p x) {q : Addr} (hq : q.block ≠ r) (u : Value) : NSt ao cap r e p (x.setCell q u) := by
  obtain ⟨h0, h1⟩ := h
  exact ⟨by rw [World.cell?_of_block (w := x) (Below.heap_setCell x q u r (Ne.symm hq))]; exact h0, by rw [World.cell?_of_block (w := x) (Below.heap_setCell x q u r (Ne.symm hq))]; exact h1⟩
theorem box_new {t : TypeId} (w4 : World) (why a : Int) : (w4.alloc (.cells #[.int .i64 why, .int .i64 a, .int .i64 0] t)).cell? ⟨w4.heap.size, 0, none⟩ = some (.int .i64 why) ∧ (w4.alloc (.cells #[.int .i64 why, .int .i64 a, .int .i64 0] t)).cell? ⟨w4.heap.size, 1, none⟩ = some (.int .i64 a) ∧ (w4.alloc (.cells #[.int .i64 why, .int .i64 a, .int .i64 0] t)).cell? ⟨w4.heap.size, 2, none⟩ = some (.int .i64 0) := by
  refine ⟨?_, ?_, ?_⟩ <;> simp [go_sem]
theorem box_set {w4 : World} {g : Nat} {u0 u1 u2 : Value} (z0 : w4.cell? ⟨g, 0, none⟩ = some u0) (z1 : w4.cell? ⟨g, 1, none⟩ = some u1) (z2 : w4.cell? ⟨g, 2, none⟩ = some u2) (why a : Int) :
    let wx := ((w4.setCell ⟨g, 0, none⟩ (.int .i64 why)).setCell ⟨g, 1, none⟩ (.int .i64 a)).setCell ⟨g, 2, none⟩ (.int .i64 0)
    wx.cell? ⟨g, 0, none⟩ = some (.int .i64 why) ∧ wx.cell? ⟨g, 1, none⟩ = some (.int .i64 a) ∧ wx.cell? ⟨g, 2, none⟩ = some (.int .i64 0) := by
  refine ⟨?_, ?_, ?_⟩ <;> simp [go_sem, z0, z1, z2]
theorem box_after {w w4 : World} {t : TypeId} (hb : Below (w.alloc (.cells #[.int .i64 0, .int .i64 0, .int .i64 0] t)).drew.heap.size (w.alloc (.cells #[.int .i64 0, .int .i64 0, .int .i64 0] t)).drew w4) :
    (w4.cell? ⟨w.heap.size, 0, none⟩ = some (.int .i64 0) ∧ w4.cell? ⟨w.heap.size, 1, none⟩ = some (.int .i64 0) ∧ w4.cell? ⟨w.heap.size, 2, none⟩ = some (.int .i64 0)) ∧
    (w4.frozen? ⟨w.heap.size, 0, none⟩ = false ∧ w4.frozen? ⟨w.heap.size, 1, none⟩ = false ∧ w4.frozen? ⟨w.heap.size, 2, none⟩ = false) := by
  have hl : w.heap.size < (w.alloc (.cells #[.int .i64 0, .int .i64 0, .int .i64 0] t)).drew.heap.size := by simp [go_sem]
  have hg : w4.heap[w.heap.size]? = some (.cells #[.int .i64 0, .int .i64 0, .int .i64 0] t (0, 0)) := (hb.block _ hl).trans (heap_alloc_new w _)
  refine ⟨⟨?_, ?_, ?_⟩, ⟨?_, ?_, ?_⟩⟩ <;> simp [World.cell?, World.frozen?, hg]

set_option maxRecDepth 100000 in
theorem u_any (c : Ctx w0 ao cap l) (r e p : Nat) (w : World) (h : Rr w0 ao cap l r e p w) :
    Calls Tryz.prog 154 #[.pointer (some ⟨r, 0, none⟩)] w (Out (· = r) w0 ao cap l r e w (VI .i64) (pU l e p)) := by
  obtain ⟨tk, tk0⟩ := take_ok c e
  have hl : (l.take e).length = e := by rw [List.length_take]; have := h.he; omega
  have hful : fullU (l.take e) (p : Int) 32 = decU (l.take e) p 5 16 := by
    unfold fullU; rw [if_pos (by rw [hl]; have := h.hp; omega), if_pos rfl, Int.toNat_natCast]
  obtain ⟨n, nx, why, a, hD⟩ : ∃ n nx why a, decU (l.take e) p 5 16 = (n, nx, why, a) := ⟨_, _, _, _, rfl⟩
  obtain ⟨hf1, hf2⟩ := decU_facts (l.take e) tk0 p (by rw [hl]; exact h.hp) hD
  rw [hl] at hf1
  have HU := Lib.hid (fun w' (hb : Below w.heap.size w w') => (hD ▸ hful ▸ U_any (.slice ao e cap) (l.take e) p 32 w' (c.take (bnext h.low hb) h.he) tk (by rw [hl]; have := c.len; have := h.he; omega) : Calls Tryz.prog 187 #[.slice ao e cap, .int .i64 (p : Int), .int .i64 32] w' fun en w'' => en = res .u64 (n, nx, why, a) ∧ Below w'.heap.size w' w''))
  have hX : pU l e p = if why = 0 then .ok n nx.toNat else .bad why a := by unfold pU pNum; simp only [hD]
  have c0 := h.blk.c0
  have c1 := h.blk.c1
  have hle := c.len
  have HH := Lib.hid h
  have HF := Lib.hid hf1
  have HX := Lib.hid hX
  have hb0 : Below w.heap.size w w := Below.refl _ _
  have hne : w.heap.size ≠ r := by have := h.blk.lt; omega
  have hdr : ∀ x : World, Below w.heap.size w x → Below w.heap.size w x.drew := fun x h => h.drew
  have hdn : ∀ (x : World) (n : Nat), Below w.heap.size w x → Below w.heap.size w (x.drewN n) := fun x n h => bnext h (belowN _ _)
  have HUa := Lib.hid (HU.out w.drew (hdr _ hb0))
  have HUb := Lib.hid ((HU.out (w.alloc (.cells #[.int .i64 0, .int .i64 0, .int .i64 0] 33)).drew (hdr _ (bnextA hb0 _))).mono fun en w4 ⟨he, hb⟩ => And.intro he (And.intro hb (box_after hb)))
  clear h hX hf1 hful hD c tk tk0 hl HU
  go_enter Tryz.func154, Tryz.ntmps154
  go_wp2_with fail
  go_region_held3 (fun x => x.cell? ⟨r, 0, none⟩ = some (.slice ao e cap) ∧ x.cell? ⟨r, 1, none⟩ = some (.int .i64 (p : Int)))
    (first | go_keep | exact NSt.next (by unfold NSt; first | go_keep | assumption) hb4 | exact NSt.next (by unfold NSt; assumption) ((Below.refl w4 _).alloc (Nat.le_refl _) _) | exact NSt.next (NSt.next (x := w.drew) ⟨c0, c1⟩ hb4) ((Below.refl _ w4).alloc (Nat.le_refl _) _) | exact NSt.set (NSt.set (NSt.set (by unfold NSt; assumption) hne _) hne _) hne _)
    (first
      | (go_at_call 187; refine HUa.out.mono ?_; rintro e w4 ⟨rfl, hb4⟩; unfold res)
      | (go_at_call 187; refine HUb.out.mono ?_; rintro e w4 ⟨rfl, hb4, ⟨z0, z1, z2⟩, y0, y1, y2⟩; unfold res))
  · have hbx : Below w.heap.size w (w4.alloc (.cells #[.int .i64 why, .int .i64 a, .int .i64 0] 33)) := bnextA (bnext (hdr _ hb0) hb4) _
    obtain ⟨b0, b1, b2⟩ := box_new (t := 33) w4 why a
    generalize w4.alloc (.cells #[.int .i64 why, .int .i64 a, .int .i64 0] 33) = wx at hbx b0 b1 b2 ⊢
    generalize w4.heap.size = g at b0 b1 b2 ⊢
    by_cases h0 : why = 0
    · subst h0
      obtain ⟨hn0, hn1, q, rfl, hq1, hq2⟩ := HF.out rfl
      have HX2 := Lib.hid (show pU l e p = .ok n q from HX.out)
      go_wp2_with fail
      refine (hold_ok _ _ _).mono ?_
      rintro en w5 ⟨rfl, hb5⟩
      have h5 := HH.out.below (bnext hbx hb5)
      have c5 := h5.blk.c1
      have f5 := h5.blk.f 1
      have k5 : Keep (fun k => k = r) w w5 := .of (bnext hbx hb5)
      have H5 := Lib.hid h5
      have K5 := Lib.hid k5
      clear h5 k5
      go_wp2
      go_ret
      exact Out.good HX2.out (K5.out.set (p := ⟨r, 1, none⟩) (.inl rfl) _) rfl (H5.out.set q hq2 rfl)
    · have HX2 := Lib.hid (show pU l e p = .bad why a from HX.out.trans (if_neg h0))
      go_wp2_with fail
      refine (hold_bad _ _ _ h0 _).mono ?_
      rintro en w5 ⟨rfl, hb5⟩
      exact ⟨rfl, Out.wrong HX2.out (.of (bnext hbx hb5))⟩
  · have hbx : Below w.heap.size w (((w4.setCell ⟨w.heap.size, 0, none⟩ (.int .i64 why)).setCell ⟨w.heap.size, 1, none⟩ (.int .i64 a)).setCell ⟨w.heap.size, 2, none⟩ (.int .i64 0)) := (((bnext (hdr _ (bnextA hb0 _)) hb4).setCell (p := ⟨w.heap.size, 0, none⟩) (Nat.le_refl _) _).setCell (p := ⟨w.heap.size, 1, none⟩) (Nat.le_refl _) _).setCell (p := ⟨w.heap.size, 2, none⟩) (Nat.le_refl _) _
    obtain ⟨b0, b1, b2⟩ := box_set z0 z1 z2 why a
    generalize ((w4.setCell ⟨w.heap.size, 0, none⟩ (.int .i64 why)).setCell ⟨w.heap.size, 1, none⟩ (.int .i64 a)).setCell ⟨w.heap.size, 2, none⟩ (.int .i64 0) = wx at hbx b0 b1 b2 ⊢
    generalize w.heap.size = g at b0 b1 b2 ⊢
    by_cases h0 : why = 0
    · subst h0
      obtain ⟨hn0, hn1, q, rfl, hq1, hq2⟩ := HF.out rfl
      have HX2 := Lib.hid (show pU l e p = .ok n q from HX.out)
      go_wp2_with fail
      refine (hold_ok _ _ _).mono ?_
      rintro en w5 ⟨rfl, hb5⟩
      have h5 := HH.out.below (bnext hbx hb5)
      have c5 := h5.blk.c1
      have f5 := h5.blk.f 1
      have k5 : Keep (fun k => k = r) w w5 := .of (bnext hbx hb5)
      have H5 := Lib.hid h5
      have K5 := Lib.hid k5
      clear h5 k5
      go_wp2
      go_ret
      exact Out.good HX2.out (K5.out.set (p := ⟨r, 1, none⟩) (.inl rfl) _) rfl (H5.out.set q hq2 rfl)
    · have HX2 := Lib.hid (show pU l e p = .bad why a from HX.out.trans (if_neg h0))
      go_wp2_with fail
      refine (hold_bad _ _ _ h0 _).mono ?_
      rintro en w5 ⟨rfl, hb5⟩
      exact ⟨rfl, Out.wrong HX2.out (.of (bnext hbx hb5))⟩
set_option maxRecDepth 100000 in
theorem s32_any (c : Ctx w0 ao cap l) (r e p : Nat) (w : World) (h : Rr w0 ao cap l r e p w) :
    Calls Tryz.prog 220 #[.pointer (some ⟨r, 0, none⟩), .int .i64 32] w (Out (· = r) w0 ao cap l r e w (VI .i64) (pS32 l e p)) := by
  obtain ⟨tk, tk0⟩ := take_ok c e
  have hl : (l.take e).length = e := by rw [List.length_take]; have := h.he; omega
  have hful : fullS (l.take e) (p : Int) 32 = decS (l.take e) p 5 good32 := by
    unfold fullS; rw [if_pos (by rw [hl]; have := h.hp; omega), if_pos rfl, Int.toNat_natCast]
  obtain ⟨n, nx, why, a, hD⟩ : ∃ n nx why a, decS (l.take e) p 5 good32 = (n, nx, why, a) := ⟨_, _, _, _, rfl⟩
  obtain ⟨hf1, hf2⟩ := decS_place (l.take e) p 5 (by decide) good32 (by rw [hl]; exact h.hp) hD
  rw [hl] at hf1
  have HU := Lib.hid (fun w' (hb : Below w.heap.size w w') => (hD ▸ hful ▸ S_any (.slice ao e cap) (l.take e) p 32 w' (c.take (bnext h.low hb) h.he) tk (by rw [hl]; have := c.len; have := h.he; omega) : Calls Tryz.prog 236 #[.slice ao e cap, .int .i64 (p : Int), .int .i64 32] w' fun en w'' => en = res .i64 (n, nx, why, a) ∧ Below w'.heap.size w' w''))
  have hX : pS32 l e p = if why = 0 then .ok n nx.toNat else .bad why a := by unfold pS32 pNum; simp only [hD]
  have c0 := h.blk.c0
  have c1 := h.blk.c1
  have hle := c.len
  have HH := Lib.hid h
  have HF := Lib.hid hf1
  have HX := Lib.hid hX
  have hb0 : Below w.heap.size w w := Below.refl _ _
  have hne : w.heap.size ≠ r := by have := h.blk.lt; omega
  have hdr : ∀ x : World, Below w.heap.size w x → Below w.heap.size w x.drew := fun x h => h.drew
  have hdn : ∀ (x : World) (n : Nat), Below w.heap.size w x → Below w.heap.size w (x.drewN n) := fun x n h => bnext h (belowN _ _)
  have HUa := Lib.hid (HU.out w.drew (hdr _ hb0))
  have HUb := Lib.hid ((HU.out (w.alloc (.cells #[.int .i64 0, .int .i64 0, .int .i64 0] 33)).drew (hdr _ (bnextA hb0 _))).mono fun en w4 ⟨he, hb⟩ => And.intro he (And.intro hb (box_after hb)))
  clear h hX hf1 hful hD c tk tk0 hl HU
  go_enter Tryz.func220, Tryz.ntmps220
  go_wp2_with fail
  go_region_held3 (fun x => x.cell? ⟨r, 0, none⟩ = some (.slice ao e cap) ∧ x.cell? ⟨r, 1, none⟩ = some (.int .i64 (p : Int)))
    (first | go_keep | exact NSt.next (by unfold NSt; first | go_keep | assumption) hb4 | exact NSt.next (by unfold NSt; assumption) ((Below.refl w4 _).alloc (Nat.le_refl _) _) | exact NSt.next (NSt.next (x := w.drew) ⟨c0, c1⟩ hb4) ((Below.refl _ w4).alloc (Nat.le_refl _) _) | exact NSt.set (NSt.set (NSt.set (by unfold NSt; assumption) hne _) hne _) hne _)
    (first
      | (go_at_call 236; refine HUa.out.mono ?_; rintro e w4 ⟨rfl, hb4⟩; unfold res)
      | (go_at_call 236; refine HUb.out.mono ?_; rintro e w4 ⟨rfl, hb4, ⟨z0, z1, z2⟩, y0, y1, y2⟩; unfold res))
  · have hbx : Below w.heap.size w (w4.alloc (.cells #[.int .i64 why, .int .i64 a, .int .i64 0] 33)) := bnextA (bnext (hdr _ hb0) hb4) _
    obtain ⟨b0, b1, b2⟩ := box_new (t := 33) w4 why a
    generalize w4.alloc (.cells #[.int .i64 why, .int .i64 a, .int .i64 0] 33) = wx at hbx b0 b1 b2 ⊢
    generalize w4.heap.size = g at b0 b1 b2 ⊢
    by_cases h0 : why = 0
    · subst h0
      obtain ⟨q, rfl, hq1, hq2⟩ := HF.out rfl
      have HX2 := Lib.hid (show pS32 l e p = .ok n q from HX.out)
      go_wp2_with fail
      refine (hold_ok _ _ _).mono ?_
      rintro en w5 ⟨rfl, hb5⟩
      have h5 := HH.out.below (bnext hbx hb5)
      have c5 := h5.blk.c1
      have f5 := h5.blk.f 1
      have k5 : Keep (fun k => k = r) w w5 := .of (bnext hbx hb5)
      have H5 := Lib.hid h5
      have K5 := Lib.hid k5
      clear h5 k5
      go_wp2
      go_ret
      exact Out.good HX2.out (K5.out.set (p := ⟨r, 1, none⟩) (.inl rfl) _) rfl (H5.out.set q hq2 rfl)
    · have HX2 := Lib.hid (show pS32 l e p = .bad why a from HX.out.trans (if_neg h0))
      go_wp2_with fail
      refine (hold_bad _ _ _ h0 _).mono ?_
      rintro en w5 ⟨rfl, hb5⟩
      exact ⟨rfl, Out.wrong HX2.out (.of (bnext hbx hb5))⟩
  · have hbx : Below w.heap.size w (((w4.setCell ⟨w.heap.size, 0, none⟩ (.int .i64 why)).setCell ⟨w.heap.size, 1, none⟩ (.int .i64 a)).setCell ⟨w.heap.size, 2, none⟩ (.int .i64 0)) := (((bnext (hdr _ (bnextA hb0 _)) hb4).setCell (p := ⟨w.heap.size, 0, none⟩) (Nat.le_refl _) _).setCell (p := ⟨w.heap.size, 1, none⟩) (Nat.le_refl _) _).setCell (p := ⟨w.heap.size, 2, none⟩) (Nat.le_refl _) _
    obtain ⟨b0, b1, b2⟩ := box_set z0 z1 z2 why a
    generalize ((w4.setCell ⟨w.heap.size, 0, none⟩ (.int .i64 why)).setCell ⟨w.heap.size, 1, none⟩ (.int .i64 a)).setCell ⟨w.heap.size, 2, none⟩ (.int .i64 0) = wx at hbx b0 b1 b2 ⊢
    generalize w.heap.size = g at b0 b1 b2 ⊢
    by_cases h0 : why = 0
    · subst h0
      obtain ⟨q, rfl, hq1, hq2⟩ := HF.out rfl
      have HX2 := Lib.hid (show pS32 l e p = .ok n q from HX.out)
      go_wp2_with fail
      refine (hold_ok _ _ _).mono ?_
      rintro en w5 ⟨rfl, hb5⟩
      have h5 := HH.out.below (bnext hbx hb5)
      have c5 := h5.blk.c1
      have f5 := h5.blk.f 1
      have k5 : Keep (fun k => k = r) w w5 := .of (bnext hbx hb5)
      have H5 := Lib.hid h5
      have K5 := Lib.hid k5
      clear h5 k5
      go_wp2
      go_ret
      exact Out.good HX2.out (K5.out.set (p := ⟨r, 1, none⟩) (.inl rfl) _) rfl (H5.out.set q hq2 rfl)
    · have HX2 := Lib.hid (show pS32 l e p = .bad why a from HX.out.trans (if_neg h0))
      go_wp2_with fail
      refine (hold_bad _ _ _ h0 _).mono ?_
      rintro en w5 ⟨rfl, hb5⟩
      exact ⟨rfl, Out.wrong HX2.out (.of (bnext hbx hb5))⟩
set_option maxRecDepth 100000 in
theorem s64_any (c : Ctx w0 ao cap l) (r e p : Nat) (w : World) (h : Rr w0 ao cap l r e p w) :
    Calls Tryz.prog 220 #[.pointer (some ⟨r, 0, none⟩), .int .i64 64] w (Out (· = r) w0 ao cap l r e w (VI .i64) (pS64 l e p)) := by
  obtain ⟨tk, tk0⟩ := take_ok c e
  have hl : (l.take e).length = e := by rw [List.length_take]; have := h.he; omega
  have hful : fullS (l.take e) (p : Int) 64 = decS (l.take e) p 10 good64 := by
    unfold fullS; rw [if_pos (by rw [hl]; have := h.hp; omega), if_neg (by decide), if_pos rfl, Int.toNat_natCast]
  obtain ⟨n, nx, why, a, hD⟩ : ∃ n nx why a, decS (l.take e) p 10 good64 = (n, nx, why, a) := ⟨_, _, _, _, rfl⟩
  obtain ⟨hf1, hf2⟩ := decS_place (l.take e) p 10 (by decide) good64 (by rw [hl]; exact h.hp) hD
  rw [hl] at hf1
  have HU := Lib.hid (fun w' (hb : Below w.heap.size w w') => (hD ▸ hful ▸ S_any (.slice ao e cap) (l.take e) p 64 w' (c.take (bnext h.low hb) h.he) tk (by rw [hl]; have := c.len; have := h.he; omega) : Calls Tryz.prog 236 #[.slice ao e cap, .int .i64 (p : Int), .int .i64 64] w' fun en w'' => en = res .i64 (n, nx, why, a) ∧ Below w'.heap.size w' w''))
  have hX : pS64 l e p = if why = 0 then .ok n nx.toNat else .bad why a := by unfold pS64 pNum; simp only [hD]
  have c0 := h.blk.c0
  have c1 := h.blk.c1
  have hle := c.len
  have HH := Lib.hid h
  have HF := Lib.hid hf1
  have HX := Lib.hid hX
  have hb0 : Below w.heap.size w w := Below.refl _ _
  have hne : w.heap.size ≠ r := by have := h.blk.lt; omega
  have hdr : ∀ x : World, Below w.heap.size w x → Below w.heap.size w x.drew := fun x h => h.drew
  have hdn : ∀ (x : World) (n : Nat), Below w.heap.size w x → Below w.heap.size w (x.drewN n) := fun x n h => bnext h (belowN _ _)
  have HUa := Lib.hid (HU.out w.drew (hdr _ hb0))
  have HUb := Lib.hid ((HU.out (w.alloc (.cells #[.int .i64 0, .int .i64 0, .int .i64 0] 33)).drew (hdr _ (bnextA hb0 _))).mono fun en w4 ⟨he, hb⟩ => And.intro he (And.intro hb (box_after hb)))
  clear h hX hf1 hful hD c tk tk0 hl HU
  go_enter Tryz.func220, Tryz.ntmps220
  go_wp2_with fail
  go_region_held3 (fun x => x.cell? ⟨r, 0, none⟩ = some (.slice ao e cap) ∧ x.cell? ⟨r, 1, none⟩ = some (.int .i64 (p : Int)))
    (first | go_keep | exact NSt.next (by unfold NSt; first | go_keep | assumption) hb4 | exact NSt.next (by unfold NSt; assumption) ((Below.refl w4 _).alloc (Nat.le_refl _) _) | exact NSt.next (NSt.next (x := w.drew) ⟨c0, c1⟩ hb4) ((Below.refl _ w4).alloc (Nat.le_refl _) _) | exact NSt.set (NSt.set (NSt.set (by unfold NSt; assumption) hne _) hne _) hne _)
    (first
      | (go_at_call 236; refine HUa.out.mono ?_; rintro e w4 ⟨rfl, hb4⟩; unfold res)
      | (go_at_call 236; refine HUb.out.mono ?_; rintro e w4 ⟨rfl, hb4, ⟨z0, z1, z2⟩, y0, y1, y2⟩; unfold res))
  · have hbx : Below w.heap.size w (w4.alloc (.cells #[.int .i64 why, .int .i64 a, .int .i64 0] 33)) := bnextA (bnext (hdr _ hb0) hb4) _
    obtain ⟨b0, b1, b2⟩ := box_new (t := 33) w4 why a
    generalize w4.alloc (.cells #[.int .i64 why, .int .i64 a, .int .i64 0] 33) = wx at hbx b0 b1 b2 ⊢
    generalize w4.heap.size = g at b0 b1 b2 ⊢
    by_cases h0 : why = 0
    · subst h0
      obtain ⟨q, rfl, hq1, hq2⟩ := HF.out rfl
      have HX2 := Lib.hid (show pS64 l e p = .ok n q from HX.out)
      go_wp2_with fail
      refine (hold_ok _ _ _).mono ?_
      rintro en w5 ⟨rfl, hb5⟩
      have h5 := HH.out.below (bnext hbx hb5)
      have c5 := h5.blk.c1
      have f5 := h5.blk.f 1
      have k5 : Keep (fun k => k = r) w w5 := .of (bnext hbx hb5)
      have H5 := Lib.hid h5
      have K5 := Lib.hid k5
      clear h5 k5
      go_wp2
      go_ret
      exact Out.good HX2.out (K5.out.set (p := ⟨r, 1, none⟩) (.inl rfl) _) rfl (H5.out.set q hq2 rfl)
    · have HX2 := Lib.hid (show pS64 l e p = .bad why a from HX.out.trans (if_neg h0))
      go_wp2_with fail
      refine (hold_bad _ _ _ h0 _).mono ?_
      rintro en w5 ⟨rfl, hb5⟩
      exact ⟨rfl, Out.wrong HX2.out (.of (bnext hbx hb5))⟩
  · have hbx : Below w.heap.size w (((w4.setCell ⟨w.heap.size, 0, none⟩ (.int .i64 why)).setCell ⟨w.heap.size, 1, none⟩ (.int .i64 a)).setCell ⟨w.heap.size, 2, none⟩ (.int .i64 0)) := (((bnext (hdr _ (bnextA hb0 _)) hb4).setCell (p := ⟨w.heap.size, 0, none⟩) (Nat.le_refl _) _).setCell (p := ⟨w.heap.size, 1, none⟩) (Nat.le_refl _) _).setCell (p := ⟨w.heap.size, 2, none⟩) (Nat.le_refl _) _
    obtain ⟨b0, b1, b2⟩ := box_set z0 z1 z2 why a
    generalize ((w4.setCell ⟨w.heap.size, 0, none⟩ (.int .i64 why)).setCell ⟨w.heap.size, 1, none⟩ (.int .i64 a)).setCell ⟨w.heap.size, 2, none⟩ (.int .i64 0) = wx at hbx b0 b1 b2 ⊢
    generalize w.heap.size = g at b0 b1 b2 ⊢
    by_cases h0 : why = 0
    · subst h0
      obtain ⟨q, rfl, hq1, hq2⟩ := HF.out rfl
      have HX2 := Lib.hid (show pS64 l e p = .ok n q from HX.out)
      go_wp2_with fail
      refine (hold_ok _ _ _).mono ?_
      rintro en w5 ⟨rfl, hb5⟩
      have h5 := HH.out.below (bnext hbx hb5)
      have c5 := h5.blk.c1
      have f5 := h5.blk.f 1
      have k5 : Keep (fun k => k = r) w w5 := .of (bnext hbx hb5)
      have H5 := Lib.hid h5
      have K5 := Lib.hid k5
      clear h5 k5
      go_wp2
      go_ret
      exact Out.good HX2.out (K5.out.set (p := ⟨r, 1, none⟩) (.inl rfl) _) rfl (H5.out.set q hq2 rfl)
    · have HX2 := Lib.hid (show pS64 l e p = .bad why a from HX.out.trans (if_neg h0))
      go_wp2_with fail
      refine (hold_bad _ _ _ h0 _).mono ?_
      rintro en w5 ⟨rfl, hb5⟩
      exact ⟨rfl, Out.wrong HX2.out (.of (bnext hbx hb5))⟩

theorem low_any (c : Ctx w0 ao cap l) (r e p : Nat) (w : World) (h : Rr w0 ao cap l r e p w) :
    Calls Tryz.prog 197 #[.pointer (some ⟨r, 0, none⟩)] w (Out (· = r) w0 ao cap l r e w (VI .u64) (pLow l e p)) := by
  have HS := s32_any c r e p w h
  clear h c
  cases hx : pS32 l e p with
  | bad why a =>
    have HX := Lib.hid (show pLow l e p = .bad why a from P.bind_bad hx)
    rw [hx] at HS
    have HS := Lib.hid HS
    clear hx
    go_enter Tryz.func197, Tryz.ntmps197
    go_wp2_with fail
    refine HS.out.mono ?_
    rintro en w1 ⟨k1, rfl⟩
    exact ⟨rfl, Out.wrong HX.out k1⟩
  | ok n q =>
    have HX := Lib.hid (show pLow l e p = .ok (n % 4294967296) q from P.bind_ok hx)
    rw [hx] at HS
    have HS := Lib.hid HS
    have e1 : IntKind.u64.wrap (IntKind.u32.wrap n) = n % 4294967296 := by simp [IntKind.wrap, IntKind.bits, IntKind.signed]; omega
    clear hx
    go_enter Tryz.func197, Tryz.ntmps197
    go_wp2_with fail
    refine HS.out.mono ?_
    rintro en w1 ⟨k1, v, rfl, rfl, r1⟩
    go_wp2
    go_ret
    exact Out.good HX.out k1 (by first | rfl | (unfold VI; rw [← e1]; rfl)) r1

theorem u_bd {l : List Int} {e p : Nat} (hb : ∀ k, 0 ≤ l.getD k 0) (hp : p ≤ e) (he : e ≤ l.length) {n : Int} {q : Nat} (h : pU l e p = .ok n q) : 0 ≤ n ∧ n < 4294967296 ∧ p < q ∧ q ≤ e := by
  have hl : (l.take e).length = e := by rw [List.length_take]; omega
  obtain ⟨n', nx, why, a, hD⟩ : ∃ n nx why a, decU (l.take e) p 5 16 = (n, nx, why, a) := ⟨_, _, _, _, rfl⟩
  have tk0 : ∀ k, 0 ≤ (l.take e).getD k 0 := by
    intro k
    rw [List.getD_eq_getElem?_getD, List.getElem?_take]
    split
    · have := hb k; rwa [List.getD_eq_getElem?_getD] at this
    · decide
  obtain ⟨hf1, _⟩ := decU_facts (l.take e) tk0 p (by rw [hl]; exact hp) hD
  rw [hl] at hf1
  unfold pU pNum at h
  simp only [hD] at h
  split at h
  · rename_i h0
    obtain ⟨a1, a2, q', rfl, a3, a4⟩ := hf1 h0
    simp only [Res.ok.injEq, Int.toNat_natCast] at h
    obtain ⟨rfl, rfl⟩ := h
    exact ⟨a1, a2, a3, a4⟩
  · cases h

theorem most_any (c : Ctx w0 ao cap l) (r e p : Nat) (w : World) (h : Rr w0 ao cap l r e p w) (limit : Int) :
    Calls Tryz.prog 189 #[.pointer (some ⟨r, 0, none⟩), .int .i64 limit] w (Out (· = r) w0 ao cap l r e w (VI .i64) (pMost limit l e p)) := by
  have HU := u_any c r e p w h
  have c1 := h.blk.c1
  clear h c
  cases hx : pU l e p with
  | bad why a =>
    have HX := Lib.hid (show pMost limit l e p = .bad why a from P.bind_bad hx)
    rw [hx] at HU
    have HU := Lib.hid HU
    clear hx
    go_enter Tryz.func189, Tryz.ntmps189
    go_wp2_with fail
    refine HU.out.mono ?_
    rintro en w1 ⟨k1, rfl⟩
    exact ⟨rfl, Out.wrong HX.out k1⟩
  | ok n q =>
    rw [hx] at HU
    have HU := Lib.hid HU
    have hX : pMost limit l e p = (if limit < n then pFail 7 p else P.ret n) l e q := P.bind_ok hx
    by_cases hn : limit < n
    · have HX := Lib.hid (show pMost limit l e p = .bad 7 p by rw [hX, if_pos hn]; rfl)
      clear hx hX
      go_enter Tryz.func189, Tryz.ntmps189
      go_wp2_with fail
      refine HU.out.mono ?_
      rintro en w1 ⟨k1, v, rfl, rfl, r1⟩
      go_wp2_with fail
      refine (fail_any _ _ _).mono ?_
      rintro en w2 ⟨rfl, rfl⟩
      exact ⟨rfl, Out.wrong HX.out k1⟩
    · have HX := Lib.hid (show pMost limit l e p = .ok n q by rw [hX, if_neg hn]; rfl)
      have hd : decide (limit < n) = false := by simpa using hn
      clear hx hX
      go_enter Tryz.func189, Tryz.ntmps189
      go_wp2_with fail
      refine HU.out.mono ?_
      rintro en w1 ⟨k1, v, rfl, rfl, r1⟩
      go_wp2
      go_ret
      exact Out.good HX.out k1 rfl r1
end
end Go.Proofs.YtgcmdnkmnghhaaaGreatDoor.wm
