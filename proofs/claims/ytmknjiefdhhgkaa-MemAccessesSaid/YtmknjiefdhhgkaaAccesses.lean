/- MemAccesses holds: what any operator reads or writes is told as the document says, and what lies inside: the law returns true. No condition. -/
import Derived.Test.YtmknjiefdhhgkaaOpen
import Derived.Test.YtmknjiefdhhgkaaRefAcc
import Derived.Test.YtmknjiefdhhgkaaAlive
namespace Go.Proofs.Ytmknjiefdhhgkaa.mm
open Go.ChangeShapes Go.WideShapes Go.ChangeAt Go.RowKit

def ASt (w : World) (g : Nat) (a b : Int) (x : World) : Prop := x.cell? ⟨g, 0, none⟩ = some (.int .u64 a) ∧ x.cell? ⟨g, 1, none⟩ = some (.int .u64 b) ∧ Below w.heap.size w x
theorem ASt.next {w x y : World} {g : Nat} {a b : Int} (h : ASt w g a b x) (hb : Below x.heap.size x y) : ASt w g a b y := ⟨keeps hb h.1, keeps hb h.2.1, bnext h.2.2 hb⟩

set_option maxRecDepth 100000 in
set_option maxHeartbeats 4000000 in
theorem accesses_any (op : Int) (v : Value) (l : List Int) (a b : Int) (w : World) (hv : Rd w v l) (hl : l.length ≤ 140737488351232) (a0 : 0 ≤ a) (a1 : a < 18446744073709551616) (b0 : 0 ≤ b) (b1 : b < 18446744073709551616) :
    Calls Try.prog 3 #[.int .i64 op, v, .agg #[.int .u64 a, .int .u64 b]] w fun e w' => e = .returned (.bool true) ∧ Below w.heap.size w w' := by
  have HA := Lib.hid (fun w' => Access_any op w')
  have HB := Lib.hid (fun w' => refAccess_any op w')
  have HI := Lib.hid (fun w' (hb : Below w.heap.size w w') => Inside_any v l a b w' (hv.lift hb) (by omega) a0 a1 b0 b1)
  have HJ := Lib.hid (fun w' (hb : Below w.heap.size w w') => RefInside_any v l a b w' (hv.lift hb) (by omega) a0 a1 b0 b1)
  have HV := Lib.hid alive_any
  unfold accR at HA HB
  generalize ((acc op).getD noAcc).kind = k at HA HB
  generalize (((acc op).getD noAcc).width : Int) = wd at HA HB
  generalize ((acc op).getD noAcc).store = st at HA HB
  generalize (acc op).isSome = ok at HA HB
  generalize insB l.length a b = i at HI HJ
  have e1 : (k == k) = true := beq_self_eq_true k
  have e2 : (wd == wd) = true := beq_self_eq_true wd
  have e3 : (st == st) = true := beq_self_eq_true st
  have e4 : (ok == ok) = true := beq_self_eq_true ok
  have e5 : (i == i) = true := beq_self_eq_true i
  go_enter Try.func3, Try.ntmps3
  go_wp2_with fail
  refine (HA.out _).mono ?_
  rintro e w1 ⟨rfl, hb1⟩
  go_wp2_with fail
  refine (HB.out _).mono ?_
  rintro e w2 ⟨rfl, rfl⟩
  have hst : ASt w w.heap.size a b w1 := ASt.next (x := w.alloc (.cells #[.int .u64 a, .int .u64 b] 24)) ⟨by simp [go_sem], by simp [go_sem], made_below _ _⟩ hb1
  obtain ⟨s0, s1, s2⟩ := hst
  generalize hg : w.heap.size = g at s0 s1 ⊢
  clear hb1
  have hdr : ∀ x : World, Below w.heap.size w x → Below w.heap.size w x.drew := fun x h => h.drew
  have hdn : ∀ (x : World) (n : Nat), Below w.heap.size w x → Below w.heap.size w (x.drewN n) := fun x n h => bnext h (belowN _ _)
  have Hg := Lib.hid hg
  clear hg
  go_wp2_with fail
  go_region_held3 (fun x => x.cell? ⟨g, 0, none⟩ = some (.int .u64 a) ∧ x.cell? ⟨g, 1, none⟩ = some (.int .u64 b) ∧ Below w.heap.size w x)
    (first | go_keep | exact ASt.next (by unfold ASt; go_keep) hb4)
    (first
      | (go_at_call 12; refine (HI.out _ (by first | exact hdr _ s2 | assumption)).mono ?_; rintro e w3 ⟨rfl, rfl⟩)
      | (go_at_call 13; refine (HJ.out _ (by first | exact hdr _ s2 | assumption)).mono ?_; rintro e w3 ⟨rfl, rfl⟩)
      | (go_at_call 14; refine (HV.out _).mono ?_; rintro e w4 ⟨rfl, hb4⟩))
  go_wp2
  go_ret
  exact ⟨rfl, bnext (hdr _ s2) hb4⟩

-- LAW
set_option maxRecDepth 100000 in
theorem accesses_lifted (os : Os) (started : os.Started) (H : Type) (enc : TypeId × Value → H) :
    ReturnsInHanded {} Try.checked os 3 .any (Rows.memAccessesSpec.pre6 enc Try.prog Try.f3 Rows.memAccessesRow.domain false) (Rows.memAccessesSpec.post enc Try.prog Try.f3 false true false false) := by
  refine returnsInHanded_of_change_sized (C := Try.checked) own started (by kernel_rfl) Try.func3
    (ChangeSpec.witness6 (enc := enc) (C := Try.checked) false ⟨#[], #[.int .i64 0, .slice none 0 0, .agg #[.int .u64 0, .int .u64 0]], []⟩ 8 (by kernel_rfl) (by kernel_rfl) (by kernel_rfl) (by kernel_rfl)) ?_
  intro W base args ds gs before hval0 hW _ hsz0 _
  have hsz : (DataW.weightsEach Try.prog (Try.f3.params.toList ++ Rows.memAccessesSpec.plain.varTypes Try.prog) (ds ++ gs)).all (· ≤ reachBytes) = true := hsz0
  clear hsz0
  have hval : ∀ (j : Nat) t v, Try.f3.params[j]? = some t → args[j]? = some v → Value.okWide Try.prog W .any base t v := hval0
  clear hval0
  have hW' := hW
  obtain ⟨p, q, hA0, hV, rfl, _, _⟩ := hW
  have hA : DataW.TrodAll enc Try.prog W 0 (fun _ => true) true Try.f3.params.toList args.toList ds p := hA0
  rw [Try.params3] at hA hval hsz
  obtain ⟨v0, vs0, d0, ds0, p0, q0, hargs, rfl, rfl, h0, r0⟩ := trodAll_cons hA
  obtain ⟨v1, vs1, d1, ds1, p1, q1, rfl, rfl, rfl, h1, r1⟩ := trodAll_cons r0
  obtain ⟨v2, vs2, d2, ds2, p2, q2, rfl, rfl, rfl, h2, r2⟩ := trodAll_cons r1
  obtain ⟨rfl, rfl, rfl⟩ := trodAll_nil r2
  obtain rfl : args = #[v0, v1, v2] := by cases args; simp_all
  obtain ⟨rfl, rfl⟩ := trodVars_none hV
  obtain ⟨n0, rfl, rfl, rfl, wn0⟩ := open_int Try.underlying3 (hval 0 3 v0 rfl rfl) h0
  have hn0 : -9223372036854775808 ≤ n0 ∧ n0 < 9223372036854775808 := by
    simp [Lit.wf, IntKind.min, IntKind.max, IntKind.signed, IntKind.bits] at wn0; omega
  obtain ⟨l1, hrd1, hr1, hl1, _⟩ := open_bytes (hval 1 22 v1 rfl rfl) h1 (fun elems spare hd => sized_slice hsz (j := 1) (t := 22) (e := 5) rfl (by rw [hd]; rfl) Try.underlying22)
  obtain ⟨a2, b2, rfl, ha2, hb2⟩ := open_two (hval 2 24 v2 rfl rfl) h2
  refine (accesses_any n0 v1 l1 a2 b2 W hrd1 hl1 ha2.1 ha2.2 hb2.1 hb2.2).mono fun e W' ⟨he, hb⟩ => ?_
  subst he
  exact ⟨_, rfl, law_done rfl rfl (by rw [Try.params3]; intro t ht; simp at ht; rcases ht with rfl | rfl | rfl <;> exact ⟨by kernel_rfl, of_decide_eq_true (by kernel_rfl)⟩) hW' rfl rfl rfl hb⟩

theorem accesses_holds : Rows.MemAccessesSaid :=
  OpenClaim.holds_of_wide 3 Try.f3 rfl rfl rfl rfl rfl rfl rfl ⟨rfl, rfl, rfl, rfl, rfl⟩ rfl rfl rfl rfl rfl (by kernel_rfl) Try.func3 (by kernel_rfl)
    (of_decide_eq_true (by kernel_rfl)) (by unfold Func.isWrapper; first | (rw [if_pos (by decide +kernel)]; kernel_rfl) | (rw [if_neg (by decide +kernel)]; exact ⟨rfl, rfl⟩))
    (fun os started H enc _ => accesses_lifted os started H enc)
end Go.Proofs.Ytmknjiefdhhgkaa.mm
