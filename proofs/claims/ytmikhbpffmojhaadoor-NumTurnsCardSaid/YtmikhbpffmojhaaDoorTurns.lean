/- NumTurns: a number turned left and then right by as much is the number, and its bits are as many; with the closing of a law whose tables are laid. -/
import Derived.Test.YtmikhbpffmojhaaDoorEvs
namespace Go.Proofs.YtmikhbpffmojhaaDoor.nm
open Go.ChangeShapes Go.WideShapes Go.ChangeAt Go.RowKit

set_option maxHeartbeats 1000000 in
theorem numTurns_any (x y : Int) (w : World) (L : Laid w) (hx : 0 ≤ x ∧ x < 18446744073709551616) (hy : 0 ≤ y ∧ y < 18446744073709551616) :
    Calls Tryd.prog 9 #[.int .u64 x, .int .u64 y] w fun e w' => e = .returned (.bool true) ∧ Below w.heap.size w w' := by
  obtain ⟨a, rfl⟩ : ∃ a : Nat, x = a := ⟨x.toNat, by omega⟩
  obtain ⟨b, rfl⟩ : ∃ b : Nat, y = b := ⟨y.toNat, by omega⟩
  have ha : a < 2 ^ 64 := by omega
  have hr := rot_lt 64 a (b % 64) ha (by omega)
  have hback := rot_back 64 a (b % 64) ha (by omega)
  have hpop := rot_pop 64 a ha (b % 64) (by omega)
  have e1 := ev_rotl a b ha
  have e2 := ev_rotr (rot 64 a (b % 64)) b hr
  have e3 := ev_pop a
  have e4 := ev_pop (rot 64 a (b % 64))
  rw [hback] at e2
  rw [hpop] at e4
  generalize rot 64 a (b % 64) = n at hr e1 e2 e4
  generalize pop 64 a = p at e3 e4
  have H1 := Lib.hid (fun t => Eval2 137 a b w L hx hy t)
  rw [e1] at H1
  have HL := Lib.hid L
  have E2 := Lib.hid e2
  have E3 := Lib.hid e3
  have E4 := Lib.hid e4
  have hn : 0 ≤ (n : Int) ∧ (n : Int) < 18446744073709551616 := by omega
  have HN := Lib.hid hn
  have HX := Lib.hid hx
  have HY := Lib.hid hy
  clear L e1 e2 e3 e4 ha hr hback hpop hx hy hn
  go_enter Tryd.func9, Tryd.ntmps9
  go_wp2_with fail
  refine (H1.out _).mono ?_
  rintro e w1 ⟨rfl, hb1⟩
  have H2 := Lib.hid (fun t => Eval2 138 n b w1 (HL.out.lift hb1) HN.out HY.out t)
  rw [E2.out] at H2
  go_wp2_with fail
  refine (H2.out _).mono ?_
  rintro e w2 ⟨rfl, hb2⟩
  have hb12 := bnext hb1 hb2
  have H3 := Lib.hid (fun t => Eval1 123 a w2 (HL.out.lift hb12) HX.out t)
  rw [E3.out] at H3
  go_wp2_with fail
  refine (H3.out _).mono ?_
  rintro e w3 ⟨rfl, hb3⟩
  have hb13 := bnext hb12 hb3
  have H4 := Lib.hid (fun t => Eval1 123 n w3 (HL.out.lift hb13) HN.out t)
  rw [E4.out] at H4
  go_wp2_with fail
  refine (H4.out _).mono ?_
  rintro e w4 ⟨rfl, hb4⟩
  have hb14 := bnext hb13 hb4
  have HA := Lib.hid (alive_any w4 (HL.out.lift hb14))
  go_wp2_with (go_at_call 19; refine HA.out.mono ?_; rintro e w5 ⟨rfl, hb5⟩)
  go_ret
  exact ⟨rfl, bnext hb14 hb5⟩

set_option maxRecDepth 100000 in
theorem numTurns_lifted (os : Os) (started : os.Started) (H : Type) (enc : TypeId × Value → H) :
    ReturnsInHanded {} Tryd.checked os 9 .any (fun w args => (Rows.numTurnsSpec.pre enc Tryd.prog Tryd.f9 [] false w args ∧ laidMetH Tryd.prog laidL w) ∧ sizedMet enc Tryd.prog Tryd.f9 (OpenSpec.ofChange Rows.numTurnsSpec) false w args)
      (Rows.numTurnsSpec.post enc Tryd.prog Tryd.f9 false true false false) := by
  refine returnsInHanded_of_change_and (C := Tryd.checked) (X := fun w _ => laidMetH Tryd.prog laidL w) (fun _ _ _ hh h => h.of_heap hh) own started (by kernel_rfl) Tryd.func9
    (ChangeSpec.witness_shaped (enc := enc) (C := Tryd.checked) (os := os) (X := fun w _ => laidMetH Tryd.prog laidL w) false (World.doorLaid Tryd.prog 31 os) #[.int .u64 0, .int .u64 0] 8 rfl (World.shaped_of_RefB (by kernel_rfl) (by kernel_rfl)) (by kernel_rfl) (by kernel_rfl) (by kernel_rfl) (door_met os _)) ?_
  intro W base args ds gs before hval0 hW _ hsz0 hL _
  have hval : ∀ (j : Nat) t v, Tryd.f9.params[j]? = some t → args[j]? = some v → Value.okWide Tryd.prog W .any base t v := hval0
  clear hval0
  have hW' := hW
  obtain ⟨p, q, hA0, hV, rfl, _, _⟩ := hW
  have hA : DataW.TrodAll enc Tryd.prog W 0 (fun _ => true) true Tryd.f9.params.toList args.toList ds p := hA0
  rw [Tryd.params9] at hA hval
  obtain ⟨v0, vs0, d0, ds0, p0, q0, hargs, rfl, rfl, h0, r0⟩ := trodAll_cons hA
  obtain ⟨v1, vs1, d1, ds1, p1, q1, rfl, rfl, rfl, h1, r1⟩ := trodAll_cons r0
  obtain ⟨rfl, rfl, rfl⟩ := trodAll_nil r1
  obtain rfl : args = #[v0, v1] := by cases args; simp_all
  obtain ⟨rfl, rfl⟩ := trodVars_none hV
  obtain ⟨n0, rfl, rfl, rfl, wn0⟩ := open_int Tryd.underlying30 (hval 0 30 v0 rfl rfl) h0
  have hn0 : 0 ≤ n0 ∧ n0 < 18446744073709551616 := by
    simp [Lit.wf, IntKind.min, IntKind.max, IntKind.signed, IntKind.bits] at wn0; omega
  obtain ⟨n1, rfl, rfl, rfl, wn1⟩ := open_int Tryd.underlying30 (hval 1 30 v1 rfl rfl) h1
  have hn1 : 0 ≤ n1 ∧ n1 < 18446744073709551616 := by
    simp [Lit.wf, IntKind.min, IntKind.max, IntKind.signed, IntKind.bits] at wn1; omega
  refine (numTurns_any n0 n1 W (of_laid hL) hn0 hn1).mono fun e W' ⟨he, hb⟩ => ?_
  subst he
  exact ⟨_, rfl, law_done rfl rfl (by rw [Tryd.params9]; intro t ht; simp at ht; rcases ht with rfl | rfl <;> exact ⟨by kernel_rfl, of_decide_eq_true (by kernel_rfl)⟩) hW' rfl rfl rfl hb⟩

theorem numTurns_holds : Rows.NumTurnsSaid :=
  OpenClaim.holds_of_wide 9 Tryd.f9 rfl rfl rfl rfl rfl rfl rfl ⟨rfl, rfl, rfl, rfl, rfl⟩ rfl rfl rfl rfl rfl (by kernel_rfl) Tryd.func9 (by kernel_rfl)
    (of_decide_eq_true (by kernel_rfl)) (by unfold Func.isWrapper; first | (rw [if_pos (by decide +kernel)]; kernel_rfl) | (rw [if_neg (by decide +kernel)]; exact ⟨rfl, rfl⟩))
    (fun os started H enc _ => numTurns_lifted os started H enc)

theorem numTurns_card : Rows.NumTurnsCardSaid :=
  Claim7.holds_tied_plain_at .later [] [.data, .data] true (true, Rows.numTurnsCard.stood.harness.2) false
    numTurns_holds (fun _ h => by cases h) (by kernel_rfl) (fun _ h => by cases h) numTurns_row_tie rfl ⟨rfl, rfl⟩ (by kernel_rfl) rfl
    (fun f fn hf hfn => by
      obtain rfl : f = 9 := Option.some.inj ((show Tryd.prog.funcNamed "bellcrank/bellcranklaw02.NumTurns" = some 9 by kernel_rfl).symm.trans hf) |>.symm
      obtain rfl : fn = Tryd.f9 := (Option.some.inj (Tryd.func9.symm.trans hfn)).symm
      exact ⟨by kernel_rfl, fun j t ht => by
        rw [Tryd.params9] at ht
        have h3 : t = 30 := by
          rcases j with _ | _ | j
          all_goals simp at ht
          all_goals simp [ht]
        rcases h3 with rfl
        · exact (show Tryd.prog.wantsStandIn 30 = false by kernel_rfl)⟩)
    (by kernel_rfl)

end Go.Proofs.YtmikhbpffmojhaaDoor.nm
