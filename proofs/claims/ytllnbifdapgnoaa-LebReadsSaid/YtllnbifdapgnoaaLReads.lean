/- LebReads holds: for every input U and S answer what the document's own functions answer, and the law returns true. No condition. -/
import Derived.Test.YtllnbifdapgnoaaLaw
namespace Go.Proofs.Ytllnbifdapgnoaa.lb
open Go.ChangeShapes Go.WideShapes Go.ChangeAt Go.RowKit

set_option maxHeartbeats 2000000 in
theorem reads_any (v : Value) (l : List Int) (p b : Int) (w : World) (hv : Rd w v l) (hr : ∀ x ∈ l, 0 ≤ x ∧ x < 256) (hl : l.length ≤ 140737488351232) :
    Calls Try.prog 4 #[v, .int .i64 p, .int .i64 b] w fun e w' => e = .returned (.bool true) ∧ Below w.heap.size w w' := by
  obtain ⟨⟨n, x, y, z⟩, hU⟩ : ∃ r : Int × Int × Int × Int, r = fullU l p b := ⟨_, rfl⟩
  obtain ⟨⟨n', x', y', z'⟩, hS⟩ : ∃ r : Int × Int × Int × Int, r = fullS l p b := ⟨_, rfl⟩
  have HU := Lib.hid hU
  have HS := Lib.hid hS
  clear hU hS
  go_enter Try.func4, Try.ntmps4
  go_wp2_with fail
  refine (U_any _ l p b _ hv hr (by omega)).mono ?_
  rintro e w1 ⟨rfl, hb1⟩
  rw [← HU.out]
  have hv1 := hv.lift hb1
  have hx1 := Box.new w1 y z 32
  unfold res
  go_wp2_with fail
  refine (refU_any _ l p b _ (hv1.alloc _) hr (by omega)).mono ?_
  rintro e w2 ⟨rfl, hb2⟩
  rw [← HU.out]
  have hB2 := bnext (bnextA hb1 _) hb2
  have hv2 := (hv1.alloc _).lift hb2
  have hx12 := hx1.lift hb2
  have hx2 := Box.new w2 y z 32
  unfold res
  go_wp2_with fail
  refine (S_any _ l p b _ (hv2.alloc _) hr (by omega)).mono ?_
  rintro e w3 ⟨rfl, hb3⟩
  rw [← HS.out]
  have hB3 := bnext (bnextA hB2 _) hb3
  have hv3 := (hv2.alloc _).lift hb3
  have hx13 := (hx12.alloc _).lift hb3
  have hx23 := hx2.lift hb3
  have hx3 := Box.new w3 y' z' 32
  unfold res
  go_wp2_with fail
  refine (refS_any _ l p b _ (hv3.alloc _) hr (by omega)).mono ?_
  rintro e w4 ⟨rfl, hb4⟩
  rw [← HS.out]
  have hB4 := bnext (bnextA hB3 _) hb4
  have hx14 := (hx13.alloc _).lift hb4
  have hx24 := (hx23.alloc _).lift hb4
  have hx34 := hx3.lift hb4
  have k1 : w1.heap.size < w4.heap.size := World.block_lt_of_cell? w4 _ hx14.1
  have k2 : w2.heap.size < w4.heap.size := World.block_lt_of_cell? w4 _ hx24.1
  have k3 : w3.heap.size < w4.heap.size := World.block_lt_of_cell? w4 _ hx34.1
  clear hx1 hx12 hx13 hx2 hx23 hx3 hv1 hv2 hv3 hv
  obtain ⟨a10, a11, a12⟩ := hx14
  obtain ⟨a20, a21, a22⟩ := hx24
  obtain ⟨a30, a31, a32⟩ := hx34
  unfold res
  go_wp2_with fail
  refine (alive_any _).mono ?_
  rintro e w9 ⟨rfl, hb9⟩
  go_wp2
  go_ret
  exact ⟨rfl, bnext (bnextA hB4 _) hb9⟩

set_option maxRecDepth 100000 in
theorem reads_lifted (os : Os) (started : os.Started) (H : Type) (enc : TypeId × Value → H) :
    ReturnsInHanded {} Try.checked os 4 .any (Rows.lebReadsSpec.pre6 enc Try.prog Try.f4 Rows.lebReadsRow.domain false) (Rows.lebReadsSpec.post enc Try.prog Try.f4 false true false false) := by
  refine returnsInHanded_of_change_sized (C := Try.checked) own started (by kernel_rfl) Try.func4
    (ChangeSpec.witness6 (enc := enc) (C := Try.checked) false ⟨#[], #[.slice none 0 0, .int .i64 0, .int .i64 0], []⟩ 8 (by kernel_rfl) (by kernel_rfl) (by kernel_rfl) (by kernel_rfl)) ?_
  intro W base args ds gs before hval0 hW _ hsz0 _
  have hsz : (DataW.weightsEach Try.prog (Try.f4.params.toList ++ Rows.lebReadsSpec.plain.varTypes Try.prog) (ds ++ gs)).all (· ≤ reachBytes) = true := hsz0
  clear hsz0
  have hval : ∀ (j : Nat) t v, Try.f4.params[j]? = some t → args[j]? = some v → Value.okWide Try.prog W .any base t v := hval0
  clear hval0
  have hW' := hW
  obtain ⟨p, q, hA0, hV, rfl, _, _⟩ := hW
  have hA : DataW.TrodAll enc Try.prog W 0 (fun _ => true) true Try.f4.params.toList args.toList ds p := hA0
  rw [Try.params4] at hA hval hsz
  obtain ⟨v0, vs0, d0, ds0, p0, q0, hargs, rfl, rfl, h0, r0⟩ := trodAll_cons hA
  obtain ⟨v1, vs1, d1, ds1, p1, q1, rfl, rfl, rfl, h1, r1⟩ := trodAll_cons r0
  obtain ⟨v2, vs2, d2, ds2, p2, q2, rfl, rfl, rfl, h2, r2⟩ := trodAll_cons r1
  obtain ⟨rfl, rfl, rfl⟩ := trodAll_nil r2
  obtain rfl : args = #[v0, v1, v2] := by cases args; simp_all
  obtain ⟨rfl, rfl⟩ := trodVars_none hV
  obtain ⟨l0, hrd0, hr0, hl0, _⟩ := open_bytes (hval 0 22 v0 rfl rfl) h0 (fun elems spare hd => sized_slice hsz (j := 0) (t := 22) (e := 5) rfl (by rw [hd]; rfl) Try.underlying22)
  obtain ⟨n1, rfl, rfl, rfl, wn1⟩ := open_int Try.underlying3 (hval 1 3 v1 rfl rfl) h1
  have hn1 : -9223372036854775808 ≤ n1 ∧ n1 < 9223372036854775808 := by
    simp [Lit.wf, IntKind.min, IntKind.max, IntKind.signed, IntKind.bits] at wn1; omega
  obtain ⟨n2, rfl, rfl, rfl, wn2⟩ := open_int Try.underlying3 (hval 2 3 v2 rfl rfl) h2
  have hn2 : -9223372036854775808 ≤ n2 ∧ n2 < 9223372036854775808 := by
    simp [Lit.wf, IntKind.min, IntKind.max, IntKind.signed, IntKind.bits] at wn2; omega
  refine (reads_any v0 l0 n1 n2 W hrd0 hr0 hl0).mono fun e W' ⟨he, hb⟩ => ?_
  subst he
  exact ⟨_, rfl, law_done rfl rfl (by rw [Try.params4]; intro t ht; simp at ht; rcases ht with rfl | rfl | rfl <;> exact ⟨by kernel_rfl, of_decide_eq_true (by kernel_rfl)⟩) hW' rfl rfl rfl hb⟩

theorem reads_holds : Rows.LebReadsSaid :=
  OpenClaim.holds_of_wide 4 Try.f4 rfl rfl rfl rfl rfl rfl rfl ⟨rfl, rfl, rfl, rfl, rfl⟩ rfl rfl rfl rfl rfl (by kernel_rfl) Try.func4 (by kernel_rfl)
    (of_decide_eq_true (by kernel_rfl)) (by unfold Func.isWrapper; first | (rw [if_pos (by decide +kernel)]; kernel_rfl) | (rw [if_neg (by decide +kernel)]; exact ⟨rfl, rfl⟩))
    (fun os started H enc _ => reads_lifted os started H enc)
end Go.Proofs.Ytllnbifdapgnoaa.lb
