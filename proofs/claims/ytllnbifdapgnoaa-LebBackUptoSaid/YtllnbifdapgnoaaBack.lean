/- LebBack holds where what came in is of bulk at most 1048576: what was put is read, whatever stands ahead of it and behind it, and the place behind it is told; the law returns true. -/
import Derived.Test.YtllnbifdapgnoaaLaw
import Derived.Test.YtllnbifdapgnoaaEnc
import Derived.Test.YtllnbifdapgnoaaWrites
namespace Go.Proofs.Ytllnbifdapgnoaa.lb
open Go.ChangeShapes Go.WideShapes Go.ChangeAt Go.RowKit

theorem app_bytes {xs ys : List Int} (h : ∀ x ∈ xs, 0 ≤ x ∧ x < 256) (h' : ∀ x ∈ ys, 0 ≤ x ∧ x < 256) : ∀ x ∈ xs ++ ys, 0 ≤ x ∧ x < 256 := by
  intro x hx; rcases List.mem_append.1 hx with h1 | h1
  · exact h x h1
  · exact h' x h1

set_option maxHeartbeats 2000000 in
theorem back_any (v u : Value) (l m : List Int) (n : Int) (w : World) (hv : Rd w v l) (hu : Rd w u m) (hr : ∀ x ∈ l, 0 ≤ x ∧ x < 256) (hr' : ∀ x ∈ m, 0 ≤ x ∧ x < 256) (hl : l.length ≤ 1048576) (hm : m.length ≤ 1048576) (h0 : 0 ≤ n) (h1 : n < 18446744073709551616) :
    Calls Try.prog 5 #[v, u, .int .u64 n] w fun e w' => e = .returned (.bool true) ∧ Below w.heap.size w w' := by
  obtain ⟨hs0, hs1⟩ := wrap64_bd n
  obtain ⟨s, hs⟩ : ∃ s, wrap64 n = s := ⟨_, rfl⟩
  rw [hs] at hs0 hs1
  have Bu := Lib.hid (app_bytes (app_bytes hr (encU_bytes n h0 h1)) hr')
  have Bs := Lib.hid (app_bytes (app_bytes hr (encS_bytes s hs0 hs1)) hr')
  have Cu := Lib.hid (encU_len h0 h1)
  have Cs := Lib.hid (encS_len hs0 hs1)
  have fU := Lib.hid (fullU_64 l m n h0 h1)
  have fS := Lib.hid (fullS_64 l m s hs0 hs1)
  rw [← List.append_assoc] at fU fS
  obtain ⟨Lu, hLu⟩ : ∃ x : Nat, l.length + (encU n).length = x := ⟨_, rfl⟩
  obtain ⟨Ls, hLs⟩ : ∃ x : Nat, l.length + (encS s).length = x := ⟨_, rfl⟩
  rw [hLu] at fU
  rw [hLs] at fS
  have lu : Hid ((l ++ encU n).length = Lu) := by show _ = _; rw [List.length_append]; exact hLu
  have ls : Hid ((l ++ encS s).length = Ls) := by show _ = _; rw [List.length_append]; exact hLs
  have dU : Hid ((l ++ encU n).length ≤ 1048586) := by show _ ≤ _; rw [List.length_append]; have := Cu.out; omega
  have dS : Hid ((l ++ encS s).length ≤ 1048586) := by show _ ≤ _; rw [List.length_append]; have := Cs.out; omega
  clear hLu hLs
  obtain ⟨ao, cp, rfl, _, _⟩ := hv.data
  go_enter Try.func5, Try.ntmps5
  go_wp2_with fail
  refine (PutU_any _ l n _ hv (by omega) h0 h1).mono ?_
  rintro e w1 ⟨v1, rfl, ho1, hb1⟩
  have hv := hv.lift hb1
  have hu := hu.lift hb1
  have hx := ho1.rd
  obtain ⟨a1, c1, rfl⟩ := ho1.shape
  rw [lu.out] at hx ⊢
  go_wp2_with fail
  refine (PutS_any _ l s _ hv (by omega) hs0 hs1).mono ?_
  rintro e w2 ⟨v2, rfl, ho2, hb2⟩
  have hB2 := bnext hb1 hb2
  have hu := hu.lift hb2
  have hx := hx.lift hb2
  have hy := ho2.rd
  obtain ⟨a2, c2, rfl⟩ := ho2.shape
  rw [ls.out] at hy ⊢
  go_wp2_with (first
    | (at_builtin; refine wpList_append_bytes (.const (.slice none 0 0)) (.tmp 23) rfl rfl rfl (Own.nil w2 w2.heap.size) rfl hx (by have := dU.out; simp only [List.length_nil]; omega) (Nat.le_refl _) (Below.refl w2.heap.size w2) ?_; intro v3 w3 ho3 hb3)
    | (at_builtin; refine wpList_append_bytes (.tmp 24) (.tmp 25) rfl rfl rfl ho3 rfl (hu.lift hb3) (by have := dU.out; simp only [List.nil_append]; omega) hb3.size hb3 ?_; intro v4 w4 ho4 hb4; simp only [List.nil_append] at ho4))
  refine (U_any _ (l ++ encU n ++ m) (l.length : Int) 64 _ ho4.rd Bu.out (by have := dU.out; rw [List.length_append]; omega)).mono ?_
  rintro e w5 ⟨rfl, hb5⟩
  rw [fU.out]
  have hb5 := hb4.trans (hb5.mono hb4.size)
  have hB5 := bnext hB2 hb5
  have hu := hu.lift hb5
  have hy := hy.lift hb5
  have k5 := Box.new w5 0 0 32
  unfold res
  go_wp2_with (first
    | (at_builtin; refine wpList_append_bytes (.const (.slice none 0 0)) (.tmp 34) rfl rfl rfl (Own.nil _ (w5.heap.size + 1)) rfl (hy.alloc _) (by have := dS.out; simp only [List.length_nil]; omega) (by simp) (Below.refl (w5.heap.size + 1) _) ?_; intro v6 w6 ho6 hb6)
    | (at_builtin; refine wpList_append_bytes (.tmp 35) (.tmp 36) rfl rfl rfl ho6 rfl ((hu.alloc _).lift (hb6.mono (by simp))) (by have := dS.out; simp only [List.nil_append]; omega) (by have := hb6.size; simpa using this) hb6 ?_; intro v7 w7 ho7 hb7; simp only [List.nil_append] at ho7))
  refine (S_any _ (l ++ encS s ++ m) (l.length : Int) 64 _ ho7.rd Bs.out (by have := dS.out; rw [List.length_append]; omega)).mono ?_
  rintro e w8 ⟨rfl, hb8⟩
  rw [fS.out]
  have hb8 := hb7.trans (hb8.mono (by have := hb7.size; simpa using this))
  have hB8 := bnext (bnextA hB5 _) (hb8.mono (by simp))
  have k5 := k5.lift (hb8.mono (by simp))
  have b5 : w5.heap.size < w8.heap.size := World.block_lt_of_cell? w8 _ k5.1
  obtain ⟨a50, a51, a52⟩ := k5
  unfold res
  go_wp2_with fail
  refine (alive_any _).mono ?_
  rintro e w9 ⟨rfl, hb9⟩
  go_wp2
  go_ret
  exact ⟨rfl, bnext (bnextA hB8 _) hb9⟩

set_option maxRecDepth 100000 in
theorem back_lifted (os : Os) (started : os.Started) (H : Type) (enc : TypeId × Value → H) (F : Stop.Interp) :
    ReturnsInHanded {} Try.checked os 5 .any ((Rows.OpenSpec.upto Rows.lebBackSpec).pre6 enc Try.prog Try.f5 Rows.lebBackUptoRow.domain false) (((Rows.OpenSpec.upto Rows.lebBackSpec).at F).post enc Try.prog Try.f5 false true false false) := by
  refine returnsInHanded_of_cond (C := Try.checked) (s := Rows.OpenSpec.upto Rows.lebBackSpec) (k := Rows.uptoSmall) rfl own started (by kernel_rfl) Try.func5
    (OpenSpec.witness (enc := enc) (C := Try.checked) (s := Rows.OpenSpec.upto Rows.lebBackSpec) (k := Rows.uptoSmall) rfl false ⟨#[], #[.slice none 0 0, .slice none 0 0, .int .u64 0], []⟩ 8 (by kernel_rfl) (by kernel_rfl) (by kernel_rfl)
      (x := ([.nil, .nil, .lit (.int .u64 0)], [], [])) (by kernel_rfl) rfl (by kernel_rfl)) ?_
  intro W base args ds gs before hval0 hW _ hk _
  have hval : ∀ (j : Nat) t v, Try.f5.params[j]? = some t → args[j]? = some v → Value.okWide Try.prog W .any base t v := hval0
  clear hval0
  have hW' := hW
  obtain ⟨p, q, hA0, hV, rfl, _, _⟩ := hW
  have hA : DataW.TrodAll enc Try.prog W 0 (fun _ => true) true Try.f5.params.toList args.toList ds p := hA0
  rw [Try.params5] at hA hval
  obtain ⟨v0, vs0, d0, ds0, p0, q0, hargs, rfl, rfl, h0, r0⟩ := trodAll_cons hA
  obtain ⟨v1, vs1, d1, ds1, p1, q1, rfl, rfl, rfl, h1, r1⟩ := trodAll_cons r0
  obtain ⟨v2, vs2, d2, ds2, p2, q2, rfl, rfl, rfl, h2, r2⟩ := trodAll_cons r1
  obtain ⟨rfl, rfl, rfl⟩ := trodAll_nil r2
  obtain rfl : args = #[v0, v1, v2] := by cases args; simp_all
  obtain ⟨rfl, rfl⟩ := trodVars_none hV
  obtain ⟨l0, hrd0, hr0, hl0⟩ := open_bytes_upto (hval 0 22 v0 rfl rfl) h0 hk (by simp)
  obtain ⟨l1, hrd1, hr1, hl1⟩ := open_bytes_upto (hval 1 22 v1 rfl rfl) h1 hk (by simp)
  obtain ⟨n2, rfl, rfl, rfl, wn2⟩ := open_int Try.underlying23 (hval 2 23 v2 rfl rfl) h2
  have hn2 : 0 ≤ n2 ∧ n2 < 18446744073709551616 := by
    simp [Lit.wf, IntKind.min, IntKind.max, IntKind.signed, IntKind.bits] at wn2; omega
  refine (back_any v0 v1 l0 l1 n2 W hrd0 hrd1 hr0 hr1 hl0 hl1 hn2.1 hn2.2).mono fun e W' ⟨he, hb⟩ => ?_
  subst he
  exact ⟨_, rfl, law_done (s := Rows.lebBackSpec) rfl rfl (by rw [Try.params5]; intro t ht; simp at ht; rcases ht with rfl | rfl | rfl <;> exact ⟨by kernel_rfl, of_decide_eq_true (by kernel_rfl)⟩) hW' rfl rfl rfl hb⟩

theorem back_holds : Rows.LebBackUptoSaid :=
  OpenClaim.holds_of_cond 5 Try.f5 rfl rfl rfl rfl rfl rfl rfl ⟨rfl, rfl, rfl, rfl, rfl⟩ rfl rfl rfl rfl rfl (by kernel_rfl) Try.func5 (by kernel_rfl)
    (of_decide_eq_true (by kernel_rfl)) (by unfold Func.isWrapper; first | (rw [if_pos (by decide +kernel)]; kernel_rfl) | (rw [if_neg (by decide +kernel)]; exact ⟨rfl, rfl⟩))
    (fun os started H enc _ F => back_lifted os started H enc F)
end Go.Proofs.Ytllnbifdapgnoaa.lb
