/- NumRest: of every pair of numbers, both types, signed and not: a quotient, times the divisor, and the rest are the number. -/
import Derived.Test.YtmikhbpffmojhaaDoorRestMath
set_option linter.unusedVariables false
namespace Go.Proofs.YtmikhbpffmojhaaDoor.nm
open Go.ChangeShapes Go.WideShapes Go.ChangeAt Go.RowKit

/-- the four operators of round i -/
def opsL (i : Nat) : List Int := match i with
  | 0 => [109, 111, 108, 106]
  | 1 => [110, 112, 108, 106]
  | 2 => [127, 129, 126, 124]
  | _ => [128, 130, 126, 124]
def cells16 : Array Value := #[.int .i64 109, .int .i64 111, .int .i64 108, .int .i64 106, .int .i64 110, .int .i64 112, .int .i64 108, .int .i64 106, .int .i64 127, .int .i64 129, .int .i64 126, .int .i64 124, .int .i64 128, .int .i64 130, .int .i64 126, .int .i64 124]

theorem mask32 (a : Int) (h : 0 ≤ a ∧ a < 18446744073709551616) : bits .and .u64 a 4294967295 = a % 4294967296 := by
  obtain ⟨n, rfl⟩ : ∃ n : Nat, a = n := ⟨a.toNat, by omega⟩
  rw [show (4294967295 : Int) = ((4294967295 : Nat) : Int) from rfl, u64_and_nat n 4294967295 (by omega) (by decide), show n &&& 4294967295 = n % 4294967296 from Nat.and_two_pow_sub_one_eq_mod n 32]
  omega

/-- the operators of a round, and what they answer of the numbers that they are handed -/
theorem ops_at (a b : Int) (ha : 0 ≤ a ∧ a < 18446744073709551616) (hb : 0 ≤ b ∧ b < 18446744073709551616) (i : Nat) (hi : i < 4) : ∃ x0 x1 x2 x3, opsL i = [x0, x1, x2, x3] ∧
    ((decide (x0 < 112) = true ∧ Rest x0 x1 x2 x3 (a % 4294967296) (b % 4294967296)) ∨ (decide (x0 < 112) = false ∧ Rest x0 x1 x2 x3 a b)) := by
  have h1 := m32 a
  have h2 := m32 b
  match i, hi with
  | 0, _ => exact ⟨_, _, _, _, rfl, .inl ⟨rfl, rest32s _ _ h1 h2⟩⟩
  | 1, _ => exact ⟨_, _, _, _, rfl, .inl ⟨rfl, rest32u _ _ h1 h2⟩⟩
  | 2, _ => exact ⟨_, _, _, _, rfl, .inr ⟨rfl, rest64s _ _ ha hb⟩⟩
  | 3, _ => exact ⟨_, _, _, _, rfl, .inr ⟨rfl, rest64u _ _ ha hb⟩⟩

theorem cells16_at (i j : Nat) (hi : i < 4) (hj : j < 4) : cells16[i * 4 + j]? = ((opsL i).map (Value.int .i64))[j]? := by
  match i, hi, j, hj with
  | 0, _, 0, _ | 0, _, 1, _ | 0, _, 2, _ | 0, _, 3, _ => rfl
  | 1, _, 0, _ | 1, _, 1, _ | 1, _, 2, _ | 1, _, 3, _ => rfl
  | 2, _, 0, _ | 2, _, 1, _ | 2, _, 2, _ | 2, _, 3, _ => rfl
  | 3, _, 0, _ | 3, _, 1, _ | 3, _, 2, _ | 3, _, 3, _ => rfl

set_option maxRecDepth 100000 in
set_option maxHeartbeats 2000000 in
theorem numRest_any (a b : Int) (w : World) (L : Laid w) (ha : 0 ≤ a ∧ a < 18446744073709551616) (hb : 0 ≤ b ∧ b < 18446744073709551616) :
    Calls Tryd.prog 8 #[.int .u64 a, .int .u64 b] w fun e w' => e = .returned (.bool true) ∧ Below w.heap.size w w' := by
  have hma := mask32 a ha
  have hmb := mask32 b hb
  have HL := Lib.hid L
  have HO := Lib.hid (ops_at a b ha hb)
  have Ha := Lib.hid ha
  have Hb := Lib.hid hb
  have Hb0 := Lib.hid (made_below w (.cells cells16 40))
  clear L ha hb
  go_enter Tryd.func8, Tryd.ntmps8
  go_wp2
  go_loopw [23] (fun x wr => ∃ i : Nat, x = .int .i64 i ∧ i ≤ 4 ∧ Below (w.heap.size + 1) (w.alloc (.cells cells16 40)) wr) (fun x _ => 4 - (intOf x).toNat)
  case atStart => exact ⟨0, rfl, by omega, Below.refl _ _⟩
  case round =>
    obtain ⟨i, rfl, hi, hB⟩ := hrel
    have HB := Lib.hid hB
    have Hsz := Lib.hid (show w.heap.size + 1 ≤ wr.heap.size by have := hB.size; simp [go_sem] at this; omega)
    have Hwr := Lib.hid (Hb0.out.trans (hB.mono (by omega)))
    by_cases hc : i < 4
    · obtain ⟨x0, x1, x2, x3, hx, hcs⟩ := HO.out i hc
      have hcell : ∀ j : Nat, j < 4 → wr.cell? ⟨w.heap.size, i * 4 + j, none⟩ = ((opsL i).map (Value.int .i64))[j]? := fun j hj => by
        rw [hB.cell (p := ⟨w.heap.size, i * 4 + j, none⟩) (by show w.heap.size < w.heap.size + 1; omega), cell_of_row _ w.heap.size (i * 4 + j) _ 40 (0, 0) (heap_alloc_new w _)]
        exact cells16_at i j hc hj
      rw [hx] at hcell
      have c0 : wr.cell? ⟨w.heap.size, i * 4, none⟩ = some (.int .i64 x0) := hcell 0 (by decide)
      have c1 : wr.cell? ⟨w.heap.size, i * 4 + 1, none⟩ = some (.int .i64 x1) := hcell 1 (by decide)
      have c2 : wr.cell? ⟨w.heap.size, i * 4 + 2, none⟩ = some (.int .i64 x2) := hcell 2 (by decide)
      have c3 : wr.cell? ⟨w.heap.size, i * 4 + 3, none⟩ = some (.int .i64 x3) := hcell 3 (by decide)
      have t0 : (0 : Int) ≤ i ∧ (i : Int) < 4 := by omega
      clear hcell hB hx
      rcases hcs with ⟨ht, HRest⟩ | ⟨ht, HRest⟩
      · have HU := Lib.hid (show 0 ≤ a % 4294967296 ∧ a % 4294967296 < 18446744073709551616 by omega)
        have HV := Lib.hid (show 0 ≤ b % 4294967296 ∧ b % 4294967296 < 18446744073709551616 by omega)
        generalize a % 4294967296 = u at HRest hma HU
        generalize b % 4294967296 = v at HRest hmb HV
        have hbx : Below w.heap.size w (wr.alloc (.cells #[.int .i64 x0, .int .i64 x1, .int .i64 x2, .int .i64 x3] 40)) := bnextA Hwr.out _
        have kx : ∀ j : Nat, j < 4 → (wr.alloc (.cells #[.int .i64 x0, .int .i64 x1, .int .i64 x2, .int .i64 x3] 40)).cell? ⟨wr.heap.size, j, none⟩ = #[Value.int .i64 x0, .int .i64 x1, .int .i64 x2, .int .i64 x3][j]? := fun j hj => by
          rw [cell_of_row _ wr.heap.size j _ 40 (0, 0) (heap_alloc_new wr _)]
        have KX := Lib.hid kx
        have HBX := Lib.hid hbx
        have C0 := Lib.hid (made_below wr (.cells #[.int .i64 x0, .int .i64 x1, .int .i64 x2, .int .i64 x3] 40))
        clear kx hbx
        obtain ⟨q, e, r, f, E0, E1, hcase⟩ := HRest
        have H1 := Lib.hid (fun t => E0 ▸ Eval2g x0 u v (wr.alloc (.cells #[.int .i64 x0, .int .i64 x1, .int .i64 x2, .int .i64 x3] 40)) (wr.heap.size + 1) (by simp [go_sem]) (HL.out.lift HBX.out) HU.out HV.out t)
        go_wp2_with fail
        refine (H1.out _).mono ?_
        rintro e1 w1 ⟨rfl, hb1⟩
        have C1 := Lib.hid (bnext C0.out hb1)
        have HB1 := Lib.hid (bnext HBX.out hb1)
        have HK1 := Lib.hid (fun j hj => (KX.out j hj))
        have k1 : w1.cell? ⟨wr.heap.size, 1, none⟩ = some (.int .i64 x1) := keeps hb1 (KX.out 1 (by decide))
        have k2 : w1.cell? ⟨wr.heap.size, 2, none⟩ = some (.int .i64 x2) := keeps hb1 (KX.out 2 (by decide))
        have k3 : w1.cell? ⟨wr.heap.size, 3, none⟩ = some (.int .i64 x3) := keeps hb1 (KX.out 3 (by decide))
        have H2 := Lib.hid (fun t => E1 ▸ Eval2 x1 u v w1 (HL.out.lift HB1.out) HU.out HV.out t)
        clear hb1 H1 KX HK1
        go_wp2_with fail
        refine (H2.out _).mono ?_
        rintro e2 w2 ⟨rfl, hb2⟩
        have C2 := Lib.hid (bnext C1.out hb2)
        have HB2 := Lib.hid (bnext HB1.out hb2)
        have j2 := keeps hb2 k2
        have j3 := keeps hb2 k3
        have HBR2 := Lib.hid (HB2.out)
        clear k1 k2 k3 H2 hb2
        rcases hcase with ⟨he, hv, rfl⟩ | ⟨rfl, hv, rfl, rfl⟩ | ⟨rfl, rfl, hq, hr, p, hp, E2, E3⟩
        · have f1 : (e != 0) = true := by simp [he]
          have f2 : (v != 0) = false := by simp [hv]
          have f3 : (v == 0) = true := by simp [hv]
          clear he hv
          go_wp2
          exact ⟨⟨i + 1, rfl, by omega, HB.out.trans (C2.out.mono Hsz.out)⟩, by simp only [intOf]; omega⟩
        · have f2 : (v != 0) = true := by simp [hv]
          have f3 : (v == 0) = false := by simp [hv]
          clear hv
          go_wp2
          exact ⟨⟨i + 1, rfl, by omega, HB.out.trans (C2.out.mono Hsz.out)⟩, by simp only [intOf]; omega⟩
        · have H3 := Lib.hid (fun t => E2 ▸ Eval2 x2 q v w2 (HL.out.lift HB2.out) hq HV.out t)
          have HR := Lib.hid hr
          have HP := Lib.hid hp
          have HE3 := Lib.hid E3
          clear hq hr hp E2 E3
          go_wp2_with fail
          refine (H3.out _).mono ?_
          rintro e3 w3 ⟨rfl, hb3⟩
          have C3 := Lib.hid (bnext C2.out hb3)
          have HB3 := Lib.hid (bnext HB2.out hb3)
          have i3 := keeps hb3 j3
          have H4 := Lib.hid (fun t => HE3.out ▸ Eval2 x3 p r w3 (HL.out.lift HB3.out) HP.out HR.out t)
          clear hb3 H3 j2 j3
          go_wp2_with fail
          refine (H4.out _).mono ?_
          rintro e4 w4 ⟨rfl, hb4⟩
          have C4 := Lib.hid (bnext C3.out hb4)
          have HB4 := Lib.hid (bnext HB3.out hb4)
          have huu : (u != u) = false := by simp
          clear hb4 H4
          go_wp2
          exact ⟨⟨i + 1, rfl, by omega, HB.out.trans (C4.out.mono Hsz.out)⟩, by simp only [intOf]; omega⟩
      · have HU := Ha
        have HV := Hb
        clear hma hmb
        have hbx : Below w.heap.size w (wr.alloc (.cells #[.int .i64 x0, .int .i64 x1, .int .i64 x2, .int .i64 x3] 40)) := bnextA Hwr.out _
        have kx : ∀ j : Nat, j < 4 → (wr.alloc (.cells #[.int .i64 x0, .int .i64 x1, .int .i64 x2, .int .i64 x3] 40)).cell? ⟨wr.heap.size, j, none⟩ = #[Value.int .i64 x0, .int .i64 x1, .int .i64 x2, .int .i64 x3][j]? := fun j hj => by
          rw [cell_of_row _ wr.heap.size j _ 40 (0, 0) (heap_alloc_new wr _)]
        have KX := Lib.hid kx
        have HBX := Lib.hid hbx
        have C0 := Lib.hid (made_below wr (.cells #[.int .i64 x0, .int .i64 x1, .int .i64 x2, .int .i64 x3] 40))
        clear kx hbx
        obtain ⟨q, e, r, f, E0, E1, hcase⟩ := HRest
        have H1 := Lib.hid (fun t => E0 ▸ Eval2g x0 a b (wr.alloc (.cells #[.int .i64 x0, .int .i64 x1, .int .i64 x2, .int .i64 x3] 40)) (wr.heap.size + 1) (by simp [go_sem]) (HL.out.lift HBX.out) HU.out HV.out t)
        go_wp2_with fail
        refine (H1.out _).mono ?_
        rintro e1 w1 ⟨rfl, hb1⟩
        have C1 := Lib.hid (bnext C0.out hb1)
        have HB1 := Lib.hid (bnext HBX.out hb1)
        have HK1 := Lib.hid (fun j hj => (KX.out j hj))
        have k1 : w1.cell? ⟨wr.heap.size, 1, none⟩ = some (.int .i64 x1) := keeps hb1 (KX.out 1 (by decide))
        have k2 : w1.cell? ⟨wr.heap.size, 2, none⟩ = some (.int .i64 x2) := keeps hb1 (KX.out 2 (by decide))
        have k3 : w1.cell? ⟨wr.heap.size, 3, none⟩ = some (.int .i64 x3) := keeps hb1 (KX.out 3 (by decide))
        have H2 := Lib.hid (fun t => E1 ▸ Eval2 x1 a b w1 (HL.out.lift HB1.out) HU.out HV.out t)
        clear hb1 H1 KX HK1
        go_wp2_with fail
        refine (H2.out _).mono ?_
        rintro e2 w2 ⟨rfl, hb2⟩
        have C2 := Lib.hid (bnext C1.out hb2)
        have HB2 := Lib.hid (bnext HB1.out hb2)
        have j2 := keeps hb2 k2
        have j3 := keeps hb2 k3
        have HBR2 := Lib.hid (HB2.out)
        clear k1 k2 k3 H2 hb2
        rcases hcase with ⟨he, hv, rfl⟩ | ⟨rfl, hv, rfl, rfl⟩ | ⟨rfl, rfl, hq, hr, p, hp, E2, E3⟩
        · have f1 : (e != 0) = true := by simp [he]
          have f2 : (b != 0) = false := by simp [hv]
          have f3 : (b == 0) = true := by simp [hv]
          clear he hv
          go_wp2
          exact ⟨⟨i + 1, rfl, by omega, HB.out.trans (C2.out.mono Hsz.out)⟩, by simp only [intOf]; omega⟩
        · have f2 : (b != 0) = true := by simp [hv]
          have f3 : (b == 0) = false := by simp [hv]
          clear hv
          go_wp2
          exact ⟨⟨i + 1, rfl, by omega, HB.out.trans (C2.out.mono Hsz.out)⟩, by simp only [intOf]; omega⟩
        · have H3 := Lib.hid (fun t => E2 ▸ Eval2 x2 q b w2 (HL.out.lift HB2.out) hq HV.out t)
          have HR := Lib.hid hr
          have HP := Lib.hid hp
          have HE3 := Lib.hid E3
          clear hq hr hp E2 E3
          go_wp2_with fail
          refine (H3.out _).mono ?_
          rintro e3 w3 ⟨rfl, hb3⟩
          have C3 := Lib.hid (bnext C2.out hb3)
          have HB3 := Lib.hid (bnext HB2.out hb3)
          have i3 := keeps hb3 j3
          have H4 := Lib.hid (fun t => HE3.out ▸ Eval2 x3 p r w3 (HL.out.lift HB3.out) HP.out HR.out t)
          clear hb3 H3 j2 j3
          go_wp2_with fail
          refine (H4.out _).mono ?_
          rintro e4 w4 ⟨rfl, hb4⟩
          have C4 := Lib.hid (bnext C3.out hb4)
          have HB4 := Lib.hid (bnext HB3.out hb4)
          have huu : (a != a) = false := by simp
          clear hb4 H4
          go_wp2
          exact ⟨⟨i + 1, rfl, by omega, HB.out.trans (C4.out.mono Hsz.out)⟩, by simp only [intOf]; omega⟩
    · have hi4 : i = 4 := by omega
      subst hi4
      have HA := Lib.hid (alive_any wr (HL.out.lift Hwr.out))
      go_wp2_with (go_at_call 19; refine HA.out.mono ?_; rintro e w5 ⟨rfl, hb5⟩)
      go_ret
      exact ⟨rfl, bnext Hwr.out hb5⟩

set_option maxRecDepth 100000 in
theorem numRest_lifted (os : Os) (started : os.Started) (H : Type) (enc : TypeId × Value → H) :
    ReturnsInHanded {} Tryd.checked os 8 .any (fun w args => (Rows.numRestSpec.pre enc Tryd.prog Tryd.f8 [] false w args ∧ laidMetH Tryd.prog laidL w) ∧ sizedMet enc Tryd.prog Tryd.f8 (OpenSpec.ofChange Rows.numRestSpec) false w args)
      (Rows.numRestSpec.post enc Tryd.prog Tryd.f8 false true false false) := by
  refine returnsInHanded_of_change_and (C := Tryd.checked) (X := fun w _ => laidMetH Tryd.prog laidL w) (fun _ _ _ hh h => h.of_heap hh) own started (by kernel_rfl) Tryd.func8
    (ChangeSpec.witness_shaped (enc := enc) (C := Tryd.checked) (os := os) (X := fun w _ => laidMetH Tryd.prog laidL w) false (World.doorLaid Tryd.prog 31 os) #[.int .u64 0, .int .u64 0] 8 rfl (World.shaped_of_RefB (by kernel_rfl) (by kernel_rfl)) (by kernel_rfl) (by kernel_rfl) (by kernel_rfl) (door_met os _)) ?_
  intro W base args ds gs before hval0 hW _ hsz0 hL _
  have hval : ∀ (j : Nat) t v, Tryd.f8.params[j]? = some t → args[j]? = some v → Value.okWide Tryd.prog W .any base t v := hval0
  clear hval0
  have hW' := hW
  obtain ⟨p, q, hA0, hV, rfl, _, _⟩ := hW
  have hA : DataW.TrodAll enc Tryd.prog W 0 (fun _ => true) true Tryd.f8.params.toList args.toList ds p := hA0
  rw [Tryd.params8] at hA hval
  obtain ⟨v0, vs0, d0, ds0, p0, q0, hargs, rfl, rfl, h0, r0⟩ := trodAll_cons hA
  obtain ⟨v1, vs1, d1, ds1, p1, q1, rfl, rfl, rfl, h1, r1⟩ := trodAll_cons r0
  obtain ⟨rfl, rfl, rfl⟩ := trodAll_nil r1
  obtain rfl : args = #[v0, v1] := by cases args; simp_all
  obtain ⟨rfl, rfl⟩ := trodVars_none hV
  obtain ⟨n0, rfl, rfl, rfl, wn0⟩ := open_int Tryd.underlying30 (hval 0 30 v0 rfl rfl) h0
  have hn0 : 0 ≤ n0 ∧ n0 < 18446744073709551616 := by
    simp [Lit.wf, IntKind.min, IntKind.max, IntKind.signed, IntKind.bits] at wn0; omega
  obtain ⟨n1, rfl, rfl, rfl, wn1⟩ := open_int Tryd.underlying30 (hval 1 30 v1 rfl rfl) h1
  have hn1 : 0 ≤ n1 ∧ n1 < 18446744073709551616 := by
    simp [Lit.wf, IntKind.min, IntKind.max, IntKind.signed, IntKind.bits] at wn1; omega
  refine (numRest_any n0 n1 W (of_laid hL) hn0 hn1).mono fun e W' ⟨he, hb⟩ => ?_
  subst he
  exact ⟨_, rfl, law_done rfl rfl (by rw [Tryd.params8]; intro t ht; simp at ht; rcases ht with rfl | rfl <;> exact ⟨by kernel_rfl, of_decide_eq_true (by kernel_rfl)⟩) hW' rfl rfl rfl hb⟩

theorem numRest_holds : Rows.NumRestSaid :=
  OpenClaim.holds_of_wide 8 Tryd.f8 rfl rfl rfl rfl rfl rfl rfl ⟨rfl, rfl, rfl, rfl, rfl⟩ rfl rfl rfl rfl rfl (by kernel_rfl) Tryd.func8 (by kernel_rfl)
    (of_decide_eq_true (by kernel_rfl)) (by unfold Func.isWrapper; first | (rw [if_pos (by decide +kernel)]; kernel_rfl) | (rw [if_neg (by decide +kernel)]; exact ⟨rfl, rfl⟩))
    (fun os started H enc _ => numRest_lifted os started H enc)

theorem numRest_card : Rows.NumRestCardSaid :=
  Claim7.holds_tied_plain_at .later [] [.data, .data] true (true, Rows.numRestCard.stood.harness.2) false
    numRest_holds (fun _ h => by cases h) (by kernel_rfl) (fun _ h => by cases h) numRest_row_tie rfl ⟨rfl, rfl⟩ (by kernel_rfl) rfl
    (fun f fn hf hfn => by
      obtain rfl : f = 8 := Option.some.inj ((show Tryd.prog.funcNamed "bellcrank/bellcranklaw02.NumRest" = some 8 by kernel_rfl).symm.trans hf) |>.symm
      obtain rfl : fn = Tryd.f8 := (Option.some.inj (Tryd.func8.symm.trans hfn)).symm
      exact ⟨by kernel_rfl, fun j t ht => by
        rw [Tryd.params8] at ht
        have h3 : t = 30 := by
          rcases j with _ | _ | j
          all_goals simp at ht
          all_goals simp [ht]
        rcases h3 with rfl
        · exact (show Tryd.prog.wantsStandIn 30 = false by kernel_rfl)⟩)
    (by kernel_rfl)

end Go.Proofs.YtmikhbpffmojhaaDoor.nm
