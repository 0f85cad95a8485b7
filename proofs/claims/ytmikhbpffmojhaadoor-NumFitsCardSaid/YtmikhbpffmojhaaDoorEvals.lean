/- NumEvals: what any operator answers of any numbers is the document's. -/
import Derived.Test.YtmikhbpffmojhaaDoorRefEval
import Derived.Test.YtmikhbpffmojhaaDoorRefEvalA
set_option linter.unusedVariables false
namespace Go.Proofs.YtmikhbpffmojhaaDoor.nm
open Go.ChangeShapes Go.WideShapes Go.ChangeAt Go.RowKit

theorem refEval_any (op : Int) (v : Value) (l : List Int) (w : World) (hv : Rd .u64 w v l) (hl : ∀ x ∈ l, 0 ≤ x ∧ x < 18446744073709551616) :
    Calls Tryd.prog 21 #[.int .i64 op, v] w fun e w' => e = .returned (.tuple #[.int .u64 (ev op l).1, .int .i64 (ev op l).2]) ∧ Below w.heap.size w w' := by
  cases h : runAt op with
  | none => rw [ev_none h]; exact refEval_none op v w h
  | some r =>
    by_cases hn : (l.length : Int) = r.takes
    · obtain ⟨hmem, _, _⟩ := runAt_spec h
      obtain ⟨_, _, _, _, _, ht⟩ := run_facts r hmem
      rcases ht with ht | ht
      · exact refEval_one op v l w r h hv hl ht (by omega)
      · exact refEval_two op v l w r h hv hl ht (by omega)
    · rw [ev_not h (fun hh => hn hh.1)]; exact refEval_many op v l w r h hv hn

set_option maxHeartbeats 1000000 in
theorem numEvals_any (op : Int) (v : Value) (l : List Int) (w : World) (L : Laid w) (hv : Rd .u64 w v l) (hl : ∀ x ∈ l, 0 ≤ x ∧ x < 18446744073709551616) (hlen : l.length ≤ 4611686018427387904) :
    Calls Tryd.prog 4 #[.int .i64 op, v] w fun e w' => e = .returned (.bool true) ∧ Below w.heap.size w w' := by
  have H1 : Hid (Calls Tryd.prog 20 #[.int .i64 op, v] w fun e w' => e = .returned (.tuple #[.int .u64 (ev op l).1, .int .i64 (ev op l).2]) ∧ Below w.heap.size w w') := Lib.hid (Eval_any op v l w L.1 L.2 hv hl hlen)
  have H2 := Lib.hid (fun w' (hb : Below w.heap.size w w') => refEval_any op v l w' (hv.lift hb) hl)
  have HL := Lib.hid L
  clear L hv hl hlen
  generalize ev op l = p at H1 H2
  obtain ⟨n, e⟩ := p
  go_enter Tryd.func4, Tryd.ntmps4
  go_wp2_with fail
  refine H1.out.mono ?_
  rintro e1 w1 ⟨rfl, hb1⟩
  have H3 := Lib.hid (H2.out w1 hb1)
  go_wp2_with fail
  refine H3.out.mono ?_
  rintro e2 w2 ⟨rfl, hb2⟩
  have hb12 := bnext hb1 hb2
  have HA := Lib.hid (alive_any w2 (HL.out.lift hb12))
  have n1 : (n == n) = true := by simp
  have n2 : (e == e) = true := by simp
  go_wp2_with (go_at_call 19; refine HA.out.mono ?_; rintro e w5 ⟨rfl, hb5⟩)
  go_ret
  exact ⟨rfl, bnext hb12 hb5⟩

theorem bytesU64 : Tryd.prog.bytesOf 30 = 8 := by kernel_rfl
theorem cellsU64 : Tryd.prog.cellsOf 30 = 1 := by kernel_rfl

/-- numbers that came in -/
theorem open_nums {H : Type} {enc : TypeId × Value → H} {W : World} {base : Nat} {v : Value} {d : DataW H} {p : List MemPlace}
    (hv : Value.okWide Tryd.prog W .any base 29 v) (h : DataW.Trod enc Tryd.prog W 0 (fun _ => true) true 29 v d p)
    (hw : ∀ elems spare, d = .slice elems spare → (elems.length + spare.length) * Tryd.prog.bytesOf 30 ≤ reachBytes) :
    ∃ l : List Int, Rd .u64 W v l ∧ (∀ x ∈ l, 0 ≤ x ∧ x < 18446744073709551616) ∧ l.length ≤ 4611686018427387904 := by
  obtain ⟨a0, len, cap, rfl⟩ := okWide_slice Tryd.underlying29 hv
  obtain ⟨fuel, hf⟩ := h
  rcases open_ints Tryd.underlying29 Tryd.underlying30 cellsU64 hf with ⟨hcs, hx⟩ | ⟨a, len', cap', zs, hcs, _, hl, hm, hz, hx, hcell, hwz⟩
  · simp [Value.cells] at hcs
    obtain ⟨rfl, rfl, rfl⟩ := hcs
    exact ⟨[], ⟨none, 0, rfl, Nat.le_refl _, fun _ => rfl, .inl rfl⟩, by simp, by simp⟩
  · simp [Value.cells] at hcs
    obtain ⟨rfl, rfl, rfl⟩ := hcs
    simp only [Prod.mk.injEq] at hx
    obtain ⟨rfl, rfl⟩ := hx
    simp only [if_true] at hz
    have hreach : len ≤ 4611686018427387904 := by
      have := hw _ _ rfl
      rw [bytesU64] at this
      simp only [lits, List.length_map, List.length_take, List.length_drop, reachBytes] at this
      omega
    have hlen : (zs.take len).length = len := by rw [List.length_take]; omega
    refine ⟨zs.take len, ⟨some a, cap, by rw [hlen], by omega, (fun h => by cases h), ?_⟩, ?_, by omega⟩
    · by_cases h0 : len = 0
      · left; subst h0; simp
      · right
        obtain ⟨b, off, spot⟩ := a
        have hspot : spot = none := by simpa [Addr.add] using World.cell?_spot (hcell 0 (by omega))
        subst hspot
        refine ⟨b, off, rfl, fun k hk => ?_⟩
        rw [hlen] at hk
        have := hcell k (by omega)
        rw [add_lit] at this
        rw [this, List.getD_eq_getElem?_getD, List.getD_eq_getElem?_getD, List.getElem?_take, if_pos hk]
    · intro x hx
      have := hwz x (List.mem_of_mem_take hx)
      simp [Lit.wf, IntKind.min, IntKind.max, IntKind.signed, IntKind.bits] at this
      omega

set_option maxRecDepth 100000 in
theorem numEvals_lifted (os : Os) (started : os.Started) (H : Type) (enc : TypeId × Value → H) :
    ReturnsInHanded {} Tryd.checked os 4 .any (fun w args => (Rows.numEvalsSpec.pre enc Tryd.prog Tryd.f4 [] false w args ∧ laidMetH Tryd.prog laidL w) ∧ sizedMet enc Tryd.prog Tryd.f4 (OpenSpec.ofChange Rows.numEvalsSpec) false w args)
      (Rows.numEvalsSpec.post enc Tryd.prog Tryd.f4 false true false false) := by
  refine returnsInHanded_of_change_and (C := Tryd.checked) (X := fun w _ => laidMetH Tryd.prog laidL w) (fun _ _ _ hh h => h.of_heap hh) own started (by kernel_rfl) Tryd.func4
    (ChangeSpec.witness_shaped (enc := enc) (C := Tryd.checked) (os := os) (X := fun w _ => laidMetH Tryd.prog laidL w) false (World.doorLaid Tryd.prog 31 os) #[.int .i64 0, .slice none 0 0] 8 rfl (World.shaped_of_RefB (by kernel_rfl) (by kernel_rfl)) (by kernel_rfl) (by kernel_rfl) (by kernel_rfl) (door_met os _)) ?_
  intro W base args ds gs before hval0 hW _ hsz0 hL _
  have hval : ∀ (j : Nat) t v, Tryd.f4.params[j]? = some t → args[j]? = some v → Value.okWide Tryd.prog W .any base t v := hval0
  clear hval0
  have hsz : (DataW.weightsEach Tryd.prog (Tryd.f4.params.toList ++ Rows.numEvalsSpec.plain.varTypes Tryd.prog) (ds ++ gs)).all (· ≤ reachBytes) = true := hsz0
  clear hsz0
  have hW' := hW
  obtain ⟨p, q, hA0, hV, rfl, _, _⟩ := hW
  have hA : DataW.TrodAll enc Tryd.prog W 0 (fun _ => true) true Tryd.f4.params.toList args.toList ds p := hA0
  rw [Tryd.params4] at hA hval hsz
  obtain ⟨v0, vs0, d0, ds0, p0, q0, hargs, rfl, rfl, h0, r0⟩ := trodAll_cons hA
  obtain ⟨v1, vs1, d1, ds1, p1, q1, rfl, rfl, rfl, h1, r1⟩ := trodAll_cons r0
  obtain ⟨rfl, rfl, rfl⟩ := trodAll_nil r1
  obtain rfl : args = #[v0, v1] := by cases args; simp_all
  obtain ⟨rfl, rfl⟩ := trodVars_none hV
  obtain ⟨n0, rfl, rfl, rfl, wn0⟩ := open_int Tryd.underlying3 (hval 0 3 v0 rfl rfl) h0
  have hn0 : -9223372036854775808 ≤ n0 ∧ n0 < 9223372036854775808 := by
    simp [Lit.wf, IntKind.min, IntKind.max, IntKind.signed, IntKind.bits] at wn0; omega
  obtain ⟨l1, hrd1, hr1, hl1⟩ := open_nums (hval 1 29 v1 rfl rfl) h1 (fun elems spare hd => sized_slice hsz (j := 1) (t := 29) (e := 30) rfl (by rw [hd]; rfl) Tryd.underlying29)
  refine (numEvals_any n0 v1 l1 W (of_laid hL) hrd1 hr1 hl1).mono fun e W' ⟨he, hb⟩ => ?_
  subst he
  exact ⟨_, rfl, law_done rfl rfl (by rw [Tryd.params4]; intro t ht; simp at ht; rcases ht with rfl | rfl <;> exact ⟨by kernel_rfl, of_decide_eq_true (by kernel_rfl)⟩) hW' rfl rfl rfl hb⟩

theorem numEvals_holds : Rows.NumEvalsSaid :=
  OpenClaim.holds_of_wide 4 Tryd.f4 rfl rfl rfl rfl rfl rfl rfl ⟨rfl, rfl, rfl, rfl, rfl⟩ rfl rfl rfl rfl rfl (by kernel_rfl) Tryd.func4 (by kernel_rfl)
    (of_decide_eq_true (by kernel_rfl)) (by unfold Func.isWrapper; first | (rw [if_pos (by decide +kernel)]; kernel_rfl) | (rw [if_neg (by decide +kernel)]; exact ⟨rfl, rfl⟩))
    (fun os started H enc _ => numEvals_lifted os started H enc)

theorem numEvals_card : Rows.NumEvalsCardSaid :=
  Claim7.holds_tied_plain_at .later [] [.data, .data] true (true, Rows.numEvalsCard.stood.harness.2) false
    numEvals_holds (fun _ h => by cases h) (by kernel_rfl) (fun _ h => by cases h) numEvals_row_tie rfl ⟨rfl, rfl⟩ (by kernel_rfl) rfl
    (fun f fn hf hfn => by
      obtain rfl : f = 4 := Option.some.inj ((show Tryd.prog.funcNamed "bellcrank/bellcranklaw02.NumEvals" = some 4 by kernel_rfl).symm.trans hf) |>.symm
      obtain rfl : fn = Tryd.f4 := (Option.some.inj (Tryd.func4.symm.trans hfn)).symm
      exact ⟨by kernel_rfl, fun j t ht => by
        rw [Tryd.params4] at ht
        have h3 : t = 3 ∨ t = 29 := by
          rcases j with _ | _ | j
          all_goals simp at ht
          all_goals simp [ht]
        rcases h3 with rfl | rfl
        · exact (show Tryd.prog.wantsStandIn 3 = false by kernel_rfl)
        · exact (show Tryd.prog.wantsStandIn 29 = false by kernel_rfl)⟩)
    (by kernel_rfl)

end Go.Proofs.YtmikhbpffmojhaaDoor.nm
