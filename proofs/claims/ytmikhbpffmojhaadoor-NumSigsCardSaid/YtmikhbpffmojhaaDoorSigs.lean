/- NumSigs: the types of any operator, and what it is, are the document's. -/
import Derived.Test.YtmikhbpffmojhaaDoorNumOps
import Derived.Test.YtmikhbpffmojhaaDoorSigsA
set_option linter.unusedVariables false
namespace Go.Proofs.YtmikhbpffmojhaaDoor.nm
open Go.ChangeShapes Go.WideShapes Go.ChangeAt Go.RowKit

theorem numSig_any (op : Int) (w : World) (R : Runs w) :
    Calls Tryd.prog 10 #[.int .i64 op] w fun e w' => (∃ v, e = .returned (.tuple #[v, .int .i64 (sigO op), .bool (sigB op)]) ∧ Rd .i64 w' v (sigL op)) ∧ Below w.heap.size w w' := by
  cases h : runAt op with
  | none =>
    have e1 : sigO op = 0 := by unfold sigO; rw [h]
    have e2 : sigB op = false := by unfold sigB; rw [h]; rfl
    have e3 : sigL op = [] := by unfold sigL; rw [h]
    rw [e1, e2, e3]
    exact (numSig_none op w R h).mono fun e w' ⟨he, hb⟩ => ⟨⟨_, he, none, 0, rfl, Nat.le_refl _, fun _ => rfl, .inl rfl⟩, hb⟩
  | some r =>
    obtain ⟨hmem, _, _⟩ := runAt_spec h
    obtain ⟨_, _, _, _, _, ht⟩ := run_facts r hmem
    have e1 : sigO op = r.answers := by unfold sigO; rw [h]
    have e2 : sigB op = true := by unfold sigB; rw [h]; rfl
    rw [e1, e2]
    rcases ht with ht | ht
    · have e3 : sigL op = [r.of] := by unfold sigL; rw [h]; simp only; rw [if_pos ht]
      rw [e3]; exact numSig_one op w R r h ht
    · have e3 : sigL op = [r.of, r.of] := by unfold sigL; rw [h]; simp only; rw [if_neg (by omega)]
      rw [e3]; exact numSig_two op w R r h ht

theorem rd_front (w : World) (a b : Int) (t : TypeId) : Rd .i64 (w.alloc (.cells #[.int .i64 a, .int .i64 b] t)) (.slice (some ⟨w.heap.size, 0, none⟩) 1 2) [a] := by
  refine ⟨_, _, rfl, by simp, (fun h => by cases h), .inr ⟨_, _, rfl, fun k hk => ?_⟩⟩
  match k, hk with
  | 0, _ =>
    rw [cell_of_row _ w.heap.size (0 + 0) _ t (0, 0) (heap_alloc_new w _)]; rfl

theorem refSig_any (op : Int) (w : World) :
    Calls Tryd.prog 11 #[.int .i64 op] w fun e w' => (∃ v, e = .returned (.tuple #[v, .int .i64 (sigO op), .bool (sigB op)]) ∧ Rd .i64 w' v (sigL op)) ∧ Below w.heap.size w w' := by
  cases h : runAt op with
  | none =>
    have e1 : sigO op = 0 := by unfold sigO; rw [h]
    have e2 : sigB op = false := by unfold sigB; rw [h]; rfl
    have e3 : sigL op = [] := by unfold sigL; rw [h]
    rw [e1, e2, e3]
    exact (refSig_none op w h).mono fun e w' ⟨he, hb⟩ => ⟨⟨_, he, none, 0, rfl, Nat.le_refl _, fun _ => rfl, .inl rfl⟩, hb ▸ Below.refl _ _⟩
  | some r =>
    obtain ⟨hmem, _, _⟩ := runAt_spec h
    obtain ⟨_, _, _, _, _, ht⟩ := run_facts r hmem
    have e1 : sigO op = r.answers := by unfold sigO; rw [h]
    have e2 : sigB op = true := by unfold sigB; rw [h]; rfl
    have hs := refSig_some op w r h
    rw [e1, e2]
    rcases ht with ht | ht
    · have e3 : sigL op = [r.of] := by unfold sigL; rw [h]; simp only; rw [if_pos ht]
      rw [e3]
      rw [if_pos ht] at hs
      refine hs.mono ?_
      rintro e w' ⟨he, rfl⟩
      exact ⟨⟨_, he, rd_front w r.of r.of _⟩, made_below _ _⟩
    · have e3 : sigL op = [r.of, r.of] := by unfold sigL; rw [h]; simp only; rw [if_neg (by omega)]
      rw [e3]
      rw [if_neg (by omega)] at hs
      refine hs.mono ?_
      rintro e w' ⟨he, rfl⟩
      exact ⟨⟨_, he, Rd.lit .i64 w [r.of, r.of] _⟩, made_below _ _⟩

theorem sigL_len (op : Int) : (sigL op).length ≤ 1000000 := by
  unfold sigL
  cases runAt op with
  | none => simp
  | some r => simp only; split <;> simp

set_option maxRecDepth 100000 in
set_option maxHeartbeats 4000000 in
theorem numSigs_any (op : Int) (w : World) (L : Laid w) :
    Calls Tryd.prog 3 #[.int .i64 op] w fun e w' => e = .returned (.bool true) ∧ Below w.heap.size w w' := by
  have HL := Lib.hid L
  have H1 := Lib.hid (numSig_any op w L.1)
  have HR : Hid (∀ w', Calls Tryd.prog 11 #[.int .i64 op] w' fun e w'' => (∃ v, e = .returned (.tuple #[v, .int .i64 (sigO op), .bool (sigB op)]) ∧ Rd .i64 w'' v (sigL op)) ∧ Below w'.heap.size w' w'') := Lib.hid (fun w' => refSig_any op w')
  have HSm : Hid (∀ v u l w', Rd .i64 w' v l → Rd .i64 w' u l → l.length ≤ 1000000 → Calls Tryd.prog 12 #[v, u] w' fun e w'' => e = .returned (.bool true) ∧ ∃ m, w'' = w'.drewN m) := Lib.hid (fun v u l w' h1 h2 h3 => same_any v u l w' h1 h2 h3)
  have HT := Lib.hid (fun w' (h : Laid w') => total_any op w' h.1)
  have HRT : Hid (∀ w', Calls Tryd.prog 14 #[.int .i64 op] w' fun e w'' => e = .returned (.bool (totT op)) ∧ w' = w'') := Lib.hid (fun w' => refTotal_any op w')
  have HC := Lib.hid (fun w' (h : Laid w') => commutes_any op w' h.1)
  have HRC : Hid (∀ w', Calls Tryd.prog 16 #[.int .i64 op] w' fun e w'' => e = .returned (.bool (commT op)) ∧ w' = w'') := Lib.hid (fun w' => refCommutes_any op w')
  have HO := Lib.hid (fun w' (h : Laid w') => numOps_any w' h.1)
  have HRO := Lib.hid (fun w' => refOps_any w')
  have HA := Lib.hid (fun w' (h : Laid w') => alive_any w' h)
  have Hlen := Lib.hid (sigL_len op)
  have Hlen2 := Lib.hid (show (below 256).length ≤ 1000000 by have := below_len 256; omega)
  clear L
  generalize sigO op = t at H1 HR
  generalize sigB op = k at H1 HR
  generalize sigL op = l at H1 HR Hlen
  generalize totT op = bt at HT HRT
  generalize commT op = bc at HC HRC
  generalize below 256 = ol at HO HRO Hlen2
  have n1 : (t == t) = true := by simp
  have n2 : (k == k) = true := by simp
  have n3 : (bt == bt) = true := by simp
  have n4 : (bc == bc) = true := by simp
  go_enter Tryd.func3, Tryd.ntmps3
  go_wp2_with fail
  refine H1.out.mono ?_
  rintro e w1 ⟨⟨v1, rfl, r1⟩, hb1⟩
  have B1 := Lib.hid hb1
  have R1 := Lib.hid r1
  clear hb1 r1
  go_wp2_with fail
  refine (HR.out w1).mono ?_
  rintro e w2 ⟨⟨v2, rfl, r2⟩, hb2⟩
  have B2 := Lib.hid (bnext B1.out hb2)
  have R1' := Lib.hid (R1.out.lift hb2)
  have R2 := Lib.hid r2
  clear hb2 r2
  go_wp2_with fail
  refine (HSm.out v1 v2 l w2 R1'.out R2.out Hlen.out).mono ?_
  rintro e w3 ⟨rfl, m3, rfl⟩
  have B3 := Lib.hid (bnext B2.out (belowN w2 m3))
  generalize w2.drewN m3 = w3 at B3 ⊢
  go_wp2_with fail
  refine (HT.out w3 (HL.out.lift B3.out)).mono ?_
  rintro e w4 ⟨rfl, hb4⟩
  have B4 := Lib.hid (bnext B3.out hb4)
  clear hb4
  go_wp2_with fail
  refine (HRT.out w4).mono ?_
  rintro e w5 ⟨rfl, rfl⟩
  go_wp2_with fail
  refine (HC.out w4 (HL.out.lift B4.out)).mono ?_
  rintro e w6 ⟨rfl, hb6⟩
  have B6 := Lib.hid (bnext B4.out hb6)
  clear hb6
  go_wp2_with fail
  refine (HRC.out w6).mono ?_
  rintro e w7 ⟨rfl, rfl⟩
  go_wp2_with fail
  refine (HO.out w6 (HL.out.lift B6.out)).mono ?_
  rintro e w8 ⟨v8, rfl, r8, hb8⟩
  have B8 := Lib.hid (bnext B6.out hb8)
  have R8 := Lib.hid r8
  clear hb8 r8
  go_wp2_with fail
  refine (HRO.out w8).mono ?_
  rintro e w9 ⟨v9, rfl, r9, hb9⟩
  have B9 := Lib.hid (bnext B8.out hb9)
  have R8' := Lib.hid (R8.out.lift hb9)
  have R9 := Lib.hid r9
  clear hb9 r9
  go_wp2_with fail
  refine (HSm.out v8 v9 ol w9 R8'.out R9.out Hlen2.out).mono ?_
  rintro e w10 ⟨rfl, m10, rfl⟩
  have B10 := Lib.hid (bnext B9.out (belowN w9 m10))
  generalize w9.drewN m10 = w10 at B10 ⊢
  go_wp2_with fail
  refine (HA.out w10 (HL.out.lift B10.out)).mono ?_
  rintro e w11 ⟨rfl, hb11⟩
  go_wp2
  go_ret
  exact ⟨rfl, bnext B10.out hb11⟩

set_option maxRecDepth 100000 in
theorem numSigs_lifted (os : Os) (started : os.Started) (H : Type) (enc : TypeId × Value → H) :
    ReturnsInHanded {} Tryd.checked os 3 .any (fun w args => (Rows.numSigsSpec.pre enc Tryd.prog Tryd.f3 [] false w args ∧ laidMetH Tryd.prog laidL w) ∧ sizedMet enc Tryd.prog Tryd.f3 (OpenSpec.ofChange Rows.numSigsSpec) false w args)
      (Rows.numSigsSpec.post enc Tryd.prog Tryd.f3 false true false false) := by
  refine returnsInHanded_of_change_and (C := Tryd.checked) (X := fun w _ => laidMetH Tryd.prog laidL w) (fun _ _ _ hh h => h.of_heap hh) own started (by kernel_rfl) Tryd.func3
    (ChangeSpec.witness_shaped (enc := enc) (C := Tryd.checked) (os := os) (X := fun w _ => laidMetH Tryd.prog laidL w) false (World.doorLaid Tryd.prog 31 os) #[.int .i64 0] 8 rfl (World.shaped_of_RefB (by kernel_rfl) (by kernel_rfl)) (by kernel_rfl) (by kernel_rfl) (by kernel_rfl) (door_met os _)) ?_
  intro W base args ds gs before hval0 hW _ hsz0 hL _
  have hval : ∀ (j : Nat) t v, Tryd.f3.params[j]? = some t → args[j]? = some v → Value.okWide Tryd.prog W .any base t v := hval0
  clear hval0
  have hW' := hW
  obtain ⟨p, q, hA0, hV, rfl, _, _⟩ := hW
  have hA : DataW.TrodAll enc Tryd.prog W 0 (fun _ => true) true Tryd.f3.params.toList args.toList ds p := hA0
  rw [Tryd.params3] at hA hval
  obtain ⟨v0, vs0, d0, ds0, p0, q0, hargs, rfl, rfl, h0, r0⟩ := trodAll_cons hA
  obtain ⟨rfl, rfl, rfl⟩ := trodAll_nil r0
  obtain rfl : args = #[v0] := by cases args; simp_all
  obtain ⟨rfl, rfl⟩ := trodVars_none hV
  obtain ⟨n0, rfl, rfl, rfl, wn0⟩ := open_int Tryd.underlying3 (hval 0 3 v0 rfl rfl) h0
  have hn0 : -9223372036854775808 ≤ n0 ∧ n0 < 9223372036854775808 := by
    simp [Lit.wf, IntKind.min, IntKind.max, IntKind.signed, IntKind.bits] at wn0; omega
  refine (numSigs_any n0 W (of_laid hL)).mono fun e W' ⟨he, hb⟩ => ?_
  subst he
  exact ⟨_, rfl, law_done rfl rfl (by rw [Tryd.params3]; intro t ht; simp at ht; subst ht; exact ⟨by kernel_rfl, of_decide_eq_true (by kernel_rfl)⟩) hW' rfl rfl rfl hb⟩

theorem numSigs_holds : Rows.NumSigsSaid :=
  OpenClaim.holds_of_wide 3 Tryd.f3 rfl rfl rfl rfl rfl rfl rfl ⟨rfl, rfl, rfl, rfl, rfl⟩ rfl rfl rfl rfl rfl (by kernel_rfl) Tryd.func3 (by kernel_rfl)
    (of_decide_eq_true (by kernel_rfl)) (by unfold Func.isWrapper; first | (rw [if_pos (by decide +kernel)]; kernel_rfl) | (rw [if_neg (by decide +kernel)]; exact ⟨rfl, rfl⟩))
    (fun os started H enc _ => numSigs_lifted os started H enc)

theorem numSigs_card : Rows.NumSigsCardSaid :=
  Claim7.holds_tied_plain_at .later [] [.data, .data] true (true, Rows.numSigsCard.stood.harness.2) false
    numSigs_holds (fun _ h => by cases h) (by kernel_rfl) (fun _ h => by cases h) numSigs_row_tie rfl ⟨rfl, rfl⟩ (by kernel_rfl) rfl
    (fun f fn hf hfn => by
      obtain rfl : f = 3 := Option.some.inj ((show Tryd.prog.funcNamed "bellcrank/bellcranklaw02.NumSigs" = some 3 by kernel_rfl).symm.trans hf) |>.symm
      obtain rfl : fn = Tryd.f3 := (Option.some.inj (Tryd.func3.symm.trans hfn)).symm
      exact ⟨by kernel_rfl, fun j t ht => by
        rw [Tryd.params3] at ht
        have h3 : t = 3 := by
          rcases j with _ | j
          all_goals simp at ht
          all_goals simp [ht]
        rcases h3 with rfl
        · exact (show Tryd.prog.wantsStandIn 3 = false by kernel_rfl)⟩)
    (by kernel_rfl)

end Go.Proofs.YtmikhbpffmojhaaDoor.nm
