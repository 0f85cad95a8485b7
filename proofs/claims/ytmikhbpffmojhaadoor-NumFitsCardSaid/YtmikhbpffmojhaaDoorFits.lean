/- NumFits: what is answered fits the type, and a total operator has no trap. -/
import Derived.Test.YtmikhbpffmojhaaDoorNumSig
import Derived.Test.YtmikhbpffmojhaaDoorEvals
set_option linter.unusedVariables false
namespace Go.Proofs.YtmikhbpffmojhaaDoor.nm
open Go.ChangeShapes Go.WideShapes Go.ChangeAt Go.RowKit

theorem numSig_len (op : Int) (w : World) (R : Runs w) (r : Rn) (h : runAt op = some r) :
    Calls Tryd.prog 10 #[.int .i64 op] w fun e w' => (∃ (ao : Option Addr) (n cap : Nat), (n : Int) = r.takes ∧ e = .returned (.tuple #[.slice ao n cap, .int .i64 r.answers, .bool true])) ∧ Below w.heap.size w w' := by
  obtain ⟨hmem, _, _⟩ := runAt_spec h
  obtain ⟨_, _, _, _, _, ht⟩ := run_facts r hmem
  rcases ht with ht | ht
  · refine (numSig_one op w R r h ht).mono ?_
    rintro e w' ⟨⟨v, he, ao, cap, rfl, _⟩, hb⟩
    exact ⟨⟨ao, 1, cap, ht.symm, he⟩, hb⟩
  · refine (numSig_two op w R r h ht).mono ?_
    rintro e w' ⟨⟨v, he, ao, cap, rfl, _⟩, hb⟩
    exact ⟨⟨ao, 2, cap, ht.symm, he⟩, hb⟩

theorem fits_mod (t x : Int) (ht : t = 127 ∨ t = 126) : fits t (x % 2 ^ wd t) = true ∧ 0 ≤ x % 2 ^ wd t ∧ x % 2 ^ wd t < 18446744073709551616 := by
  rcases ht with rfl | rfl
  · have e : (2 : Int) ^ wd 127 = 4294967296 := rfl
    rw [e]
    exact ⟨decide_eq_true (by omega), by omega, by omega⟩
  · have e : (2 : Int) ^ wd 126 = 18446744073709551616 := rfl
    rw [e]
    exact ⟨rfl, by omega, by omega⟩

theorem ev_facts {op : Int} {l : List Int} {r : Rn} (h : runAt op = some r) (hn : (l.length : Int) = r.takes) :
    ((ev op l).2 = 0 ∧ fits r.answers (ev op l).1 = true ∧ 0 ≤ (ev op l).1 ∧ (ev op l).1 < 18446744073709551616) ∨ (ev op l).2 = 1 ∨ ((ev op l).2 ≠ 0 ∧ (ev op l).2 ≠ 1 ∧ totT op = false) := by
  obtain ⟨hmem, _, _⟩ := runAt_spec h
  obtain ⟨_, _, _, _, han, ht⟩ := run_facts r hmem
  by_cases hf : l.all (fits r.of) = true
  · rcases ht with ht | ht
    · obtain ⟨a, rfl⟩ : ∃ a, l = [a] := by
        rw [ht] at hn
        match l, hn with
        | [a], _ => exact ⟨a, rfl⟩
      rw [ev_one h ht hf]
      obtain ⟨h1, h2, h3⟩ := fits_mod r.answers (raw1 (op - r.first + r.like) (wd r.of) a) han
      exact .inl ⟨rfl, h1, h2, h3⟩
    · obtain ⟨a, b, rfl⟩ : ∃ a b, l = [a, b] := by
        rw [ht] at hn
        match l, hn with
        | [a, b], _ => exact ⟨a, b, rfl⟩
        | [], hn => simp at hn
        | [_], hn => simp at hn
        | _ :: _ :: _ :: _, hn => simp at hn; omega
      rw [ev_two h ht hf]
      by_cases hz : trapOf (op - r.first + r.like) (wd r.of) a b = 0
      · rw [if_pos hz]
        obtain ⟨h1, h2, h3⟩ := fits_mod r.answers (raw2 (op - r.first + r.like) (wd r.of) a b) han
        exact .inl ⟨rfl, h1, h2, h3⟩
      · rw [if_neg hz]
        have hk : 109 ≤ op - r.first + r.like ∧ op - r.first + r.like ≤ 112 := by
          by_cases hk : 109 ≤ op - r.first + r.like ∧ op - r.first + r.like ≤ 112
          · exact hk
          · exact absurd (by unfold trapOf; rw [if_neg hk]) hz
        refine .inr (.inr ⟨hz, ?_, ?_⟩)
        · show trapOf (op - r.first + r.like) (wd r.of) a b ≠ 1
          unfold trapOf
          rw [if_pos hk]
          split
          · decide
          · split <;> decide
        · unfold totT; rw [h]; simp only; rw [decide_eq_true hk.1, decide_eq_true hk.2]; rfl
  · rw [ev_not h (fun hh => hf hh.2)]; exact .inr (.inl rfl)

set_option maxHeartbeats 2000000 in
theorem numFits_any (op : Int) (v : Value) (l : List Int) (w : World) (L : Laid w) (hv : Rd .u64 w v l) (hl : ∀ x ∈ l, 0 ≤ x ∧ x < 18446744073709551616) (hlen : l.length ≤ 4611686018427387904) :
    Calls Tryd.prog 6 #[.int .i64 op, v] w fun e w' => e = .returned (.bool true) ∧ Below w.heap.size w w' := by
  have H1 : Hid (Calls Tryd.prog 20 #[.int .i64 op, v] w fun e w' => e = .returned (.tuple #[.int .u64 (ev op l).1, .int .i64 (ev op l).2]) ∧ Below w.heap.size w w') := Lib.hid (Eval_any op v l w L.1 L.2 hv hl hlen)
  have HL := Lib.hid L
  have HA : Hid (∀ w', Laid w' → Calls Tryd.prog 19 #[] w' fun e w'' => e = .returned (.bool true) ∧ Below w'.heap.size w' w'') := Lib.hid (fun w' h => alive_any w' h)
  obtain ⟨ao, cap, rfl, hcap, _, hc⟩ := hv
  clear L hl hlen hc
  cases hr : runAt op with
  | none =>
    rw [ev_none hr] at H1
    have HS := Lib.hid (fun w' (h : Laid w') => numSig_none op w' h.1 hr)
    clear hr
    go_enter Tryd.func6, Tryd.ntmps6
    go_wp2_with fail
    refine H1.out.mono ?_
    rintro e1 w1 ⟨rfl, hb1⟩
    go_wp2_with fail
    refine (HS.out w1 (HL.out.lift hb1)).mono ?_
    rintro e2 w2 ⟨rfl, hb2⟩
    have hb12 := bnext hb1 hb2
    go_wp2_with (go_at_call 19; refine (HA.out w2 (HL.out.lift hb12)).mono ?_; rintro e w5 ⟨rfl, hb5⟩)
    go_ret
    exact ⟨rfl, bnext hb12 hb5⟩
  | some r =>
    have HS := Lib.hid (fun w' (h : Laid w') => numSig_len op w' h.1 r hr)
    by_cases hn : (l.length : Int) = r.takes
    · have hfc := ev_facts hr hn
      generalize ev op l = p at H1 hfc
      obtain ⟨n, e⟩ := p
      simp only at H1 hfc
      have Hn := Lib.hid hn
      have HT := Lib.hid (fun w' (h : Laid w') => total_any op w' h.1)
      have HF := Lib.hid (fun w' h0 h1 => fits_any r.answers n w' h0 h1)
      clear hn hr
      rcases hfc with ⟨rfl, hf, hn0, hn1⟩ | rfl | ⟨he0, he1, htot⟩
      · rw [hf] at HF
        have HF' := Lib.hid (fun w' => HF.out w' hn0 hn1)
        clear hf HF
        go_enter Tryd.func6, Tryd.ntmps6
        go_wp2_with fail
        refine H1.out.mono ?_
        rintro e1 w1 ⟨rfl, hb1⟩
        go_wp2_with fail
        refine (HS.out w1 (HL.out.lift hb1)).mono ?_
        rintro e2 w2 ⟨⟨ao2, k, cap2, hk, rfl⟩, hb2⟩
        have hb12 := bnext hb1 hb2
        have hkn : ((k : Int) != (l.length : Int)) = false := by have := Hn.out; simp; omega
        clear hk
        go_wp2_with (first
          | (go_at_call 22; refine (HF'.out _).mono ?_; rintro e w3 ⟨rfl, m, rfl⟩)
          | (go_at_call 19; refine (HA.out _ (HL.out.lift (bnext hb12 (belowN _ _)))).mono ?_; rintro e w5 ⟨rfl, hb5⟩))
        go_ret
        exact ⟨rfl, bnext (bnext hb12 (belowN _ _)) hb5⟩
      · clear HF
        go_enter Tryd.func6, Tryd.ntmps6
        go_wp2_with fail
        refine H1.out.mono ?_
        rintro e1 w1 ⟨rfl, hb1⟩
        go_wp2_with fail
        refine (HS.out w1 (HL.out.lift hb1)).mono ?_
        rintro e2 w2 ⟨⟨ao2, k, cap2, hk, rfl⟩, hb2⟩
        have hb12 := bnext hb1 hb2
        have hkn : ((k : Int) != (l.length : Int)) = false := by have := Hn.out; simp; omega
        clear hk
        go_wp2_with (go_at_call 19; refine (HA.out w2 (HL.out.lift hb12)).mono ?_; rintro e w5 ⟨rfl, hb5⟩)
        go_ret
        exact ⟨rfl, bnext hb12 hb5⟩
      · rw [htot] at HT
        have n1 : (e != 0) = true := by simp [he0]
        have n2 : (e == 1) = false := by simp [he1]
        clear HF htot he0 he1
        go_enter Tryd.func6, Tryd.ntmps6
        go_wp2_with fail
        refine H1.out.mono ?_
        rintro e1 w1 ⟨rfl, hb1⟩
        go_wp2_with fail
        refine (HS.out w1 (HL.out.lift hb1)).mono ?_
        rintro e2 w2 ⟨⟨ao2, k, cap2, hk, rfl⟩, hb2⟩
        have hb12 := bnext hb1 hb2
        have hkn : ((k : Int) != (l.length : Int)) = false := by have := Hn.out; simp; omega
        clear hk
        go_wp2_with fail
        refine (HT.out w2 (HL.out.lift hb12)).mono ?_
        rintro e3 w3 ⟨rfl, hb3⟩
        have hb13 := bnext hb12 hb3
        go_wp2_with (go_at_call 19; refine (HA.out w3 (HL.out.lift hb13)).mono ?_; rintro e w5 ⟨rfl, hb5⟩)
        go_ret
        exact ⟨rfl, bnext hb13 hb5⟩
    · rw [ev_not hr (fun hh => hn hh.1)] at H1
      have Hn := Lib.hid hn
      clear hr hn
      go_enter Tryd.func6, Tryd.ntmps6
      go_wp2_with fail
      refine H1.out.mono ?_
      rintro e1 w1 ⟨rfl, hb1⟩
      go_wp2_with fail
      refine (HS.out w1 (HL.out.lift hb1)).mono ?_
      rintro e2 w2 ⟨⟨ao2, k, cap2, hk, rfl⟩, hb2⟩
      have hb12 := bnext hb1 hb2
      have hkn : ((k : Int) != (l.length : Int)) = true := by have := Hn.out; simp; omega
      clear hk
      go_wp2_with (go_at_call 19; refine (HA.out w2 (HL.out.lift hb12)).mono ?_; rintro e w5 ⟨rfl, hb5⟩)
      go_ret
      exact ⟨rfl, bnext hb12 hb5⟩

set_option maxRecDepth 100000 in
theorem numFits_lifted (os : Os) (started : os.Started) (H : Type) (enc : TypeId × Value → H) :
    ReturnsInHanded {} Tryd.checked os 6 .any (fun w args => (Rows.numFitsSpec.pre enc Tryd.prog Tryd.f6 [] false w args ∧ laidMetH Tryd.prog laidL w) ∧ sizedMet enc Tryd.prog Tryd.f6 (OpenSpec.ofChange Rows.numFitsSpec) false w args)
      (Rows.numFitsSpec.post enc Tryd.prog Tryd.f6 false true false false) := by
  refine returnsInHanded_of_change_and (C := Tryd.checked) (X := fun w _ => laidMetH Tryd.prog laidL w) (fun _ _ _ hh h => h.of_heap hh) own started (by kernel_rfl) Tryd.func6
    (ChangeSpec.witness_shaped (enc := enc) (C := Tryd.checked) (os := os) (X := fun w _ => laidMetH Tryd.prog laidL w) false (World.doorLaid Tryd.prog 31 os) #[.int .i64 0, .slice none 0 0] 8 rfl (World.shaped_of_RefB (by kernel_rfl) (by kernel_rfl)) (by kernel_rfl) (by kernel_rfl) (by kernel_rfl) (door_met os _)) ?_
  intro W base args ds gs before hval0 hW _ hsz0 hL _
  have hval : ∀ (j : Nat) t v, Tryd.f6.params[j]? = some t → args[j]? = some v → Value.okWide Tryd.prog W .any base t v := hval0
  clear hval0
  have hsz : (DataW.weightsEach Tryd.prog (Tryd.f6.params.toList ++ Rows.numFitsSpec.plain.varTypes Tryd.prog) (ds ++ gs)).all (· ≤ reachBytes) = true := hsz0
  clear hsz0
  have hW' := hW
  obtain ⟨p, q, hA0, hV, rfl, _, _⟩ := hW
  have hA : DataW.TrodAll enc Tryd.prog W 0 (fun _ => true) true Tryd.f6.params.toList args.toList ds p := hA0
  rw [Tryd.params6] at hA hval hsz
  obtain ⟨v0, vs0, d0, ds0, p0, q0, hargs, rfl, rfl, h0, r0⟩ := trodAll_cons hA
  obtain ⟨v1, vs1, d1, ds1, p1, q1, rfl, rfl, rfl, h1, r1⟩ := trodAll_cons r0
  obtain ⟨rfl, rfl, rfl⟩ := trodAll_nil r1
  obtain rfl : args = #[v0, v1] := by cases args; simp_all
  obtain ⟨rfl, rfl⟩ := trodVars_none hV
  obtain ⟨n0, rfl, rfl, rfl, wn0⟩ := open_int Tryd.underlying3 (hval 0 3 v0 rfl rfl) h0
  have hn0 : -9223372036854775808 ≤ n0 ∧ n0 < 9223372036854775808 := by
    simp [Lit.wf, IntKind.min, IntKind.max, IntKind.signed, IntKind.bits] at wn0; omega
  obtain ⟨l1, hrd1, hr1, hl1⟩ := open_nums (hval 1 29 v1 rfl rfl) h1 (fun elems spare hd => sized_slice hsz (j := 1) (t := 29) (e := 30) rfl (by rw [hd]; rfl) Tryd.underlying29)
  refine (numFits_any n0 v1 l1 W (of_laid hL) hrd1 hr1 hl1).mono fun e W' ⟨he, hb⟩ => ?_
  subst he
  exact ⟨_, rfl, law_done rfl rfl (by rw [Tryd.params6]; intro t ht; simp at ht; rcases ht with rfl | rfl <;> exact ⟨by kernel_rfl, of_decide_eq_true (by kernel_rfl)⟩) hW' rfl rfl rfl hb⟩

theorem numFits_holds : Rows.NumFitsSaid :=
  OpenClaim.holds_of_wide 6 Tryd.f6 rfl rfl rfl rfl rfl rfl rfl ⟨rfl, rfl, rfl, rfl, rfl⟩ rfl rfl rfl rfl rfl (by kernel_rfl) Tryd.func6 (by kernel_rfl)
    (of_decide_eq_true (by kernel_rfl)) (by unfold Func.isWrapper; first | (rw [if_pos (by decide +kernel)]; kernel_rfl) | (rw [if_neg (by decide +kernel)]; exact ⟨rfl, rfl⟩))
    (fun os started H enc _ => numFits_lifted os started H enc)

theorem numFits_card : Rows.NumFitsCardSaid :=
  Claim7.holds_tied_plain_at .later [] [.data, .data] true (true, Rows.numFitsCard.stood.harness.2) false
    numFits_holds (fun _ h => by cases h) (by kernel_rfl) (fun _ h => by cases h) numFits_row_tie rfl ⟨rfl, rfl⟩ (by kernel_rfl) rfl
    (fun f fn hf hfn => by
      obtain rfl : f = 6 := Option.some.inj ((show Tryd.prog.funcNamed "bellcrank/bellcranklaw02.NumFits" = some 6 by kernel_rfl).symm.trans hf) |>.symm
      obtain rfl : fn = Tryd.f6 := (Option.some.inj (Tryd.func6.symm.trans hfn)).symm
      exact ⟨by kernel_rfl, fun j t ht => by
        rw [Tryd.params6] at ht
        have h3 : t = 3 ∨ t = 29 := by
          rcases j with _ | _ | j
          all_goals simp at ht
          all_goals simp [ht]
        rcases h3 with rfl | rfl
        · exact (show Tryd.prog.wantsStandIn 3 = false by kernel_rfl)
        · exact (show Tryd.prog.wantsStandIn 29 = false by kernel_rfl)⟩)
    (by kernel_rfl)

end Go.Proofs.YtmikhbpffmojhaaDoor.nm
