/- NumCommutes: of every operator and every pair of numbers: what commutes has the same answer with its numbers changed. -/
import Derived.Test.YtmikhbpffmojhaaDoorNSig
set_option linter.unusedVariables false
namespace Go.Proofs.YtmikhbpffmojhaaDoor.nm
open Go.ChangeShapes Go.WideShapes Go.ChangeAt Go.RowKit

theorem raw2_comm {k : Int} (d : Nat) (a b : Int) (h : commK k = true) : raw2 k d a b = raw2 k d b a ∧ trapOf k d a b = 0 ∧ trapOf k d b a = 0 := by
  have hk : k = 70 ∨ k = 71 ∨ k = 106 ∨ k = 108 ∨ k = 113 ∨ k = 114 ∨ k = 115 := by
    simp [commK] at h; omega
  have t : ∀ x y, trapOf k d x y = 0 := fun x y => by unfold trapOf; rw [if_neg (by omega)]
  refine ⟨?_, t a b, t b a⟩
  rcases hk with rfl | rfl | rfl | rfl | rfl | rfl | rfl
  · show b2i (decide (a = b)) = b2i (decide (b = a))
    rw [decide_eq_decide.2 ⟨Eq.symm, Eq.symm⟩]
  · show b2i (!decide (a = b)) = b2i (!decide (b = a))
    rw [decide_eq_decide.2 ⟨Eq.symm, Eq.symm⟩]
  · show (a + b) % 18446744073709551616 = (b + a) % 18446744073709551616
    rw [Int.add_comm]
  · show a * b % 18446744073709551616 = b * a % 18446744073709551616
    rw [Int.mul_comm]
  · show ((a.toNat &&& b.toNat : Nat) : Int) = ((b.toNat &&& a.toNat : Nat) : Int)
    rw [Nat.and_comm]
  · show ((a.toNat ||| b.toNat : Nat) : Int) = ((b.toNat ||| a.toNat : Nat) : Int)
    rw [Nat.or_comm]
  · show ((a.toNat ^^^ b.toNat : Nat) : Int) = ((b.toNat ^^^ a.toNat : Nat) : Int)
    rw [Nat.xor_comm]

theorem ev_comm {op : Int} (a b : Int) (h : commT op = true) : ev op [a, b] = ev op [b, a] := by
  cases hr : runAt op with
  | none => unfold commT at h; rw [hr] at h; cases h
  | some r =>
    have hc : commK (op - r.first + r.like) = true := by unfold commT at h; rw [hr] at h; exact h
    by_cases ht : r.takes = 2
    · have hp : [a, b].all (fits r.of) = [b, a].all (fits r.of) := by simp [Bool.and_comm]
      by_cases hf : [a, b].all (fits r.of) = true
      · rw [ev_two hr ht hf, ev_two hr ht (hp ▸ hf)]
        obtain ⟨h1, h2, h3⟩ := raw2_comm (wd r.of) a b hc
        rw [h1, h2, h3]
      · rw [ev_not hr (fun hh => hf hh.2), ev_not hr (fun hh => hf (hp ▸ hh.2))]
    · rw [ev_not hr (fun hh => ht (by have := hh.1; simp at this; omega)), ev_not hr (fun hh => ht (by have := hh.1; simp at this; omega))]

set_option maxHeartbeats 1000000 in
theorem numCommutes_any (op a b : Int) (w : World) (L : Laid w) (ha : 0 ≤ a ∧ a < 18446744073709551616) (hb : 0 ≤ b ∧ b < 18446744073709551616) :
    Calls Tryd.prog 7 #[.int .i64 op, .int .u64 a, .int .u64 b] w fun e w' => e = .returned (.bool true) ∧ Below w.heap.size w w' := by
  have hcm := fun h => ev_comm (op := op) a b h
  have H1 := Lib.hid (fun t => Eval2 op a b w L ha hb t)
  have HL := Lib.hid L
  have HA0 := Lib.hid ha
  have HB0 := Lib.hid hb
  have HE2 := Lib.hid (fun w' (L' : Laid w') t => Eval2 op b a w' L' hb ha t)
  clear L ha hb
  generalize ev op [a, b] = p at H1 hcm
  generalize ev op [b, a] = q at HE2 hcm
  obtain ⟨n, e⟩ := p
  obtain ⟨m, f⟩ := q
  have Hcm := Lib.hid hcm
  clear hcm
  go_enter Tryd.func7, Tryd.ntmps7
  go_wp2_with fail
  refine (H1.out _).mono ?_
  rintro e1 w1 ⟨rfl, hb1⟩
  have H2 := Lib.hid (fun t => HE2.out w1 (HL.out.lift hb1) t)
  go_wp2_with fail
  refine (H2.out _).mono ?_
  rintro e2 w2 ⟨rfl, hb2⟩
  have hb12 := bnext hb1 hb2
  have HC := Lib.hid (commutes_any op w2 (HL.out.lift hb12).1)
  cases hc : commT op with
  | false =>
    rw [hc] at HC
    go_wp2_with fail
    refine HC.out.mono ?_
    rintro e3 w3 ⟨rfl, hb3⟩
    have hb13 := bnext hb12 hb3
    have HA := Lib.hid (alive_any w3 (HL.out.lift hb13))
    go_wp2_with (go_at_call 19; refine HA.out.mono ?_; rintro e w5 ⟨rfl, hb5⟩)
    go_ret
    exact ⟨rfl, bnext hb13 hb5⟩
  | true =>
    rw [hc] at HC
    have heq := Hcm.out hc
    simp only [Prod.mk.injEq] at heq
    obtain ⟨rfl, rfl⟩ := heq
    have n1 : (n == n) = true := by simp
    have n2 : (e == e) = true := by simp
    go_wp2_with fail
    refine HC.out.mono ?_
    rintro e3 w3 ⟨rfl, hb3⟩
    have hb13 := bnext hb12 hb3
    have HA := Lib.hid (alive_any w3 (HL.out.lift hb13))
    go_wp2_with (go_at_call 19; refine HA.out.mono ?_; rintro e w5 ⟨rfl, hb5⟩)
    go_ret
    exact ⟨rfl, bnext hb13 hb5⟩

set_option maxRecDepth 100000 in
theorem numCommutes_lifted (os : Os) (started : os.Started) (H : Type) (enc : TypeId × Value → H) :
    ReturnsInHanded {} Tryd.checked os 7 .any (fun w args => (Rows.numCommutesSpec.pre enc Tryd.prog Tryd.f7 [] false w args ∧ laidMetH Tryd.prog laidL w) ∧ sizedMet enc Tryd.prog Tryd.f7 (OpenSpec.ofChange Rows.numCommutesSpec) false w args)
      (Rows.numCommutesSpec.post enc Tryd.prog Tryd.f7 false true false false) := by
  refine returnsInHanded_of_change_and (C := Tryd.checked) (X := fun w _ => laidMetH Tryd.prog laidL w) (fun _ _ _ hh h => h.of_heap hh) own started (by kernel_rfl) Tryd.func7
    (ChangeSpec.witness_shaped (enc := enc) (C := Tryd.checked) (os := os) (X := fun w _ => laidMetH Tryd.prog laidL w) false (World.doorLaid Tryd.prog 31 os) #[.int .i64 0, .int .u64 0, .int .u64 0] 8 rfl (World.shaped_of_RefB (by kernel_rfl) (by kernel_rfl)) (by kernel_rfl) (by kernel_rfl) (by kernel_rfl) (door_met os _)) ?_
  intro W base args ds gs before hval0 hW _ hsz0 hL _
  have hval : ∀ (j : Nat) t v, Tryd.f7.params[j]? = some t → args[j]? = some v → Value.okWide Tryd.prog W .any base t v := hval0
  clear hval0
  have hW' := hW
  obtain ⟨p, q, hA0, hV, rfl, _, _⟩ := hW
  have hA : DataW.TrodAll enc Tryd.prog W 0 (fun _ => true) true Tryd.f7.params.toList args.toList ds p := hA0
  rw [Tryd.params7] at hA hval
  obtain ⟨v0, vs0, d0, ds0, p0, q0, hargs, rfl, rfl, h0, r0⟩ := trodAll_cons hA
  obtain ⟨v1, vs1, d1, ds1, p1, q1, rfl, rfl, rfl, h1, r1⟩ := trodAll_cons r0
  obtain ⟨v2, vs2, d2, ds2, p2, q2, rfl, rfl, rfl, h2, r2⟩ := trodAll_cons r1
  obtain ⟨rfl, rfl, rfl⟩ := trodAll_nil r2
  obtain rfl : args = #[v0, v1, v2] := by cases args; simp_all
  obtain ⟨rfl, rfl⟩ := trodVars_none hV
  obtain ⟨n0, rfl, rfl, rfl, wn0⟩ := open_int Tryd.underlying3 (hval 0 3 v0 rfl rfl) h0
  have hn0 : -9223372036854775808 ≤ n0 ∧ n0 < 9223372036854775808 := by
    simp [Lit.wf, IntKind.min, IntKind.max, IntKind.signed, IntKind.bits] at wn0; omega
  obtain ⟨n1, rfl, rfl, rfl, wn1⟩ := open_int Tryd.underlying30 (hval 1 30 v1 rfl rfl) h1
  have hn1 : 0 ≤ n1 ∧ n1 < 18446744073709551616 := by
    simp [Lit.wf, IntKind.min, IntKind.max, IntKind.signed, IntKind.bits] at wn1; omega
  obtain ⟨n2, rfl, rfl, rfl, wn2⟩ := open_int Tryd.underlying30 (hval 2 30 v2 rfl rfl) h2
  have hn2 : 0 ≤ n2 ∧ n2 < 18446744073709551616 := by
    simp [Lit.wf, IntKind.min, IntKind.max, IntKind.signed, IntKind.bits] at wn2; omega
  refine (numCommutes_any n0 n1 n2 W (of_laid hL) hn1 hn2).mono fun e W' ⟨he, hb⟩ => ?_
  subst he
  exact ⟨_, rfl, law_done rfl rfl (by rw [Tryd.params7]; intro t ht; simp at ht; rcases ht with rfl | rfl | rfl <;> exact ⟨by kernel_rfl, of_decide_eq_true (by kernel_rfl)⟩) hW' rfl rfl rfl hb⟩

theorem numCommutes_holds : Rows.NumCommutesSaid :=
  OpenClaim.holds_of_wide 7 Tryd.f7 rfl rfl rfl rfl rfl rfl rfl ⟨rfl, rfl, rfl, rfl, rfl⟩ rfl rfl rfl rfl rfl (by kernel_rfl) Tryd.func7 (by kernel_rfl)
    (of_decide_eq_true (by kernel_rfl)) (by unfold Func.isWrapper; first | (rw [if_pos (by decide +kernel)]; kernel_rfl) | (rw [if_neg (by decide +kernel)]; exact ⟨rfl, rfl⟩))
    (fun os started H enc _ => numCommutes_lifted os started H enc)

theorem numCommutes_card : Rows.NumCommutesCardSaid :=
  Claim7.holds_tied_plain_at .later [] [.data, .data] true (true, Rows.numCommutesCard.stood.harness.2) false
    numCommutes_holds (fun _ h => by cases h) (by kernel_rfl) (fun _ h => by cases h) numCommutes_row_tie rfl ⟨rfl, rfl⟩ (by kernel_rfl) rfl
    (fun f fn hf hfn => by
      obtain rfl : f = 7 := Option.some.inj ((show Tryd.prog.funcNamed "bellcrank/bellcranklaw02.NumCommutes" = some 7 by kernel_rfl).symm.trans hf) |>.symm
      obtain rfl : fn = Tryd.f7 := (Option.some.inj (Tryd.func7.symm.trans hfn)).symm
      exact ⟨by kernel_rfl, fun j t ht => by
        rw [Tryd.params7] at ht
        have h3 : t = 3 ∨ t = 30 := by
          rcases j with _ | _ | _ | j
          all_goals simp at ht
          all_goals simp [ht]
        rcases h3 with rfl | rfl
        · exact (show Tryd.prog.wantsStandIn 3 = false by kernel_rfl)
        · exact (show Tryd.prog.wantsStandIn 30 = false by kernel_rfl)⟩)
    (by kernel_rfl)

end Go.Proofs.YtmikhbpffmojhaaDoor.nm
