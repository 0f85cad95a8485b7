/- LebWrites holds: for every input PutU, PutS and Size answer what the document's own functions answer, and the law returns true. No condition. -/
import Derived.Test.YtllnbifdapgnoaaLaw
namespace Go.Proofs.Ytllnbifdapgnoaa.lb
open Go.ChangeShapes Go.WideShapes Go.ChangeAt Go.RowKit

theorem wrap64_bd (n : Int) : -9223372036854775808 ≤ wrap64 n ∧ wrap64 n < 9223372036854775808 := by unfold wrap64; omega

set_option maxHeartbeats 1000000 in
theorem writes_any (v : Value) (l : List Int) (n : Int) (w : World) (hv : Rd w v l) (hl : l.length ≤ 140737488351232) (h0 : 0 ≤ n) (h1 : n < 18446744073709551616) :
    Calls Try.prog 3 #[v, .int .u64 n] w fun e w' => e = .returned (.bool true) ∧ Below w.heap.size w w' := by
  obtain ⟨hs0, hs1⟩ := wrap64_bd n
  obtain ⟨s, hs⟩ : ∃ s, wrap64 n = s := ⟨_, rfl⟩
  rw [hs] at hs0 hs1
  have hlen := encU_len h0 h1
  have Hlen := Lib.hid hlen
  clear hlen
  go_enter Try.func3, Try.ntmps3
  go_wp2_with fail
  refine (PutU_any _ l n _ hv (by omega) h0 h1).mono ?_
  rintro e w1 ⟨v1, rfl, ho1, hb1⟩
  have hv1 := hv.lift hb1
  go_wp2_with fail
  refine (refPutU_any _ l n _ hv1 (by omega) h0 h1).mono ?_
  rintro e w2 ⟨v2, rfl, ho2, hb2⟩
  have hB2 := bnext hb1 hb2
  have hv2 := hv1.lift hb2
  go_wp2_with fail
  refine (same_any _ _ (l ++ encU n) _ (ho1.rd.lift hb2) ho2.rd).mono ?_
  rintro e w3 ⟨rfl, rfl⟩
  go_wp2_with fail
  refine (PutS_any _ l s _ hv2 (by omega) hs0 hs1).mono ?_
  rintro e w4 ⟨v4, rfl, ho4, hb4⟩
  have hB4 := bnext hB2 hb4
  have hv4 := hv2.lift hb4
  go_wp2_with fail
  refine (refPutS_any _ l s _ hv4 (by omega) hs0 hs1).mono ?_
  rintro e w5 ⟨v5, rfl, ho5, hb5⟩
  have hB5 := bnext hB4 hb5
  go_wp2_with fail
  refine (same_any _ _ (l ++ encS s) _ (ho4.rd.lift hb5) ho5.rd).mono ?_
  rintro e w6 ⟨rfl, rfl⟩
  go_wp2_with fail
  refine (size_any n _ h0 h1).mono ?_
  rintro e w7 ⟨rfl, rfl⟩
  go_wp2_with fail
  refine (refPutU_any _ [] n _ (Rd.nil _) (by decide) h0 h1).mono ?_
  rintro e w8 ⟨v8, rfl, ho8, hb8⟩
  have hB8 := bnext hB5 hb8
  rw [List.nil_append] at ho8
  obtain ⟨ao, cap, rfl⟩ := ho8.shape
  go_wp2_with fail
  refine (alive_any _).mono ?_
  rintro e w9 ⟨rfl, hb9⟩
  go_wp2
  go_ret
  exact ⟨rfl, bnext hB8 hb9⟩

set_option maxRecDepth 100000 in
theorem writes_lifted (os : Os) (started : os.Started) (H : Type) (enc : TypeId × Value → H) :
    ReturnsInHanded {} Try.checked os 3 .any (Rows.lebWritesSpec.pre6 enc Try.prog Try.f3 Rows.lebWritesRow.domain false) (Rows.lebWritesSpec.post enc Try.prog Try.f3 false true false false) := by
  refine returnsInHanded_of_change_sized (C := Try.checked) own started (by kernel_rfl) Try.func3
    (ChangeSpec.witness6 (enc := enc) (C := Try.checked) false ⟨#[], #[.slice none 0 0, .int .u64 0], []⟩ 8 (by kernel_rfl) (by kernel_rfl) (by kernel_rfl) (by kernel_rfl)) ?_
  intro W base args ds gs before hval0 hW _ hsz0 _
  have hsz : (DataW.weightsEach Try.prog (Try.f3.params.toList ++ Rows.lebWritesSpec.plain.varTypes Try.prog) (ds ++ gs)).all (· ≤ reachBytes) = true := hsz0
  have hval : ∀ (j : Nat) t v, Try.f3.params[j]? = some t → args[j]? = some v → Value.okWide Try.prog W .any base t v := hval0
  clear hsz0 hval0
  have hW' := hW
  obtain ⟨p, q, hA0, hV, rfl, _, _⟩ := hW
  have hA : DataW.TrodAll enc Try.prog W 0 (fun _ => true) true Try.f3.params.toList args.toList ds p := hA0
  rw [Try.params3] at hA hval hsz
  obtain ⟨v0, vs0, d0, ds0, p0, q0, hargs, rfl, rfl, h0, r0⟩ := trodAll_cons hA
  obtain ⟨v1, vs1, d1, ds1, p1, q1, rfl, rfl, rfl, h1, r1⟩ := trodAll_cons r0
  obtain ⟨rfl, rfl, rfl⟩ := trodAll_nil r1
  obtain rfl : args = #[v0, v1] := by cases args; simp_all
  obtain ⟨rfl, rfl⟩ := trodVars_none hV
  obtain ⟨l, hrd, hr, hl, _⟩ := open_bytes (hval 0 22 v0 rfl rfl) h0 (fun elems spare hd => sized_slice hsz (j := 0) (t := 22) (e := 5) rfl (by rw [hd]; rfl) Try.underlying22)
  obtain ⟨n, rfl, rfl, rfl, wn⟩ := open_int Try.underlying23 (hval 1 23 v1 rfl rfl) h1
  have hn : 0 ≤ n ∧ n < 18446744073709551616 := by
    simp [Lit.wf, IntKind.min, IntKind.max, IntKind.signed, IntKind.bits] at wn; omega
  refine (writes_any v0 l n W hrd hl hn.1 hn.2).mono fun e W' ⟨he, hb⟩ => ?_
  subst he
  exact ⟨_, rfl, law_done rfl rfl (by rw [Try.params3]; intro t ht; simp at ht; rcases ht with rfl | rfl <;> exact ⟨by kernel_rfl, of_decide_eq_true (by kernel_rfl)⟩) hW' rfl rfl rfl hb⟩

theorem writes_holds : Rows.LebWritesSaid :=
  OpenClaim.holds_of_wide 3 Try.f3 rfl rfl rfl rfl rfl rfl rfl ⟨rfl, rfl, rfl, rfl, rfl⟩ rfl rfl rfl rfl rfl (by kernel_rfl) Try.func3 (by kernel_rfl)
    (of_decide_eq_true (by kernel_rfl)) (by unfold Func.isWrapper; first | (rw [if_pos (by decide +kernel)]; kernel_rfl) | (rw [if_neg (by decide +kernel)]; exact ⟨rfl, rfl⟩))
    (fun os started H enc _ => writes_lifted os started H enc)
end Go.Proofs.Ytllnbifdapgnoaa.lb
