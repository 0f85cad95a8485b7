/- LebHeads holds: no beginning of a number's bytes is a number, and the law returns true. No condition. -/
import Derived.Test.YtllnbifdapgnoaaLaw
import Derived.Test.YtllnbifdapgnoaaEnc
import Derived.Test.YtllnbifdapgnoaaWrites
import Derived.Deep.QuietTactic
import Derived.BigQuiet
namespace Go.Proofs.Ytllnbifdapgnoaa.lb
open Go.ChangeShapes Go.WideShapes Go.ChangeAt Go.RowKit

theorem idx_bd (cut : Int) (L : Nat) (h1 : 1 ≤ L) (h2 : L ≤ 100) : ∃ i : Nat, i < L ∧ (wrap64 (cut.tmod (L : Int) + L)).tmod (L : Int) = i := by
  have hL : (0 : Int) < L := by omega
  have a := Int.tmod_lt_of_pos cut hL
  have b : -(L : Int) < cut.tmod L := by
    have := Int.tmod_lt_of_pos (-cut) hL
    rw [Int.neg_tmod] at this; omega
  generalize cut.tmod (L : Int) = q at *
  have e : wrap64 (q + L) = q + L := by unfold wrap64; omega
  rw [e]
  have c := Int.tmod_nonneg (a := q + L) (L : Int) (by omega)
  have d := Int.tmod_lt_of_pos (q + L) hL
  exact ⟨((q + L).tmod L).toNat, by omega, by omega⟩
/-- the beginning of a slice that reads -/
theorem Rd.take {w : World} {b n cap : Nat} {xs : List Int} (h : Rd w (.slice (some ⟨b, 0, none⟩) n cap) xs) (i : Nat) (hi : i < n) : Rd w (.slice (some ⟨b, 0, none⟩) i cap) (xs.take i) := by
  obtain ⟨ao, cap', he, hc, _, h⟩ := h
  cases he
  have hl : (xs.take i).length = i := by rw [List.length_take]; omega
  refine ⟨_, _, by rw [hl], by rw [hl]; omega, (fun h => by cases h), ?_⟩
  rcases h with rfl | ⟨b', off, he, h⟩
  · left; simp
  · refine .inr ⟨b', off, he, fun k hk => ?_⟩
    rw [hl] at hk
    rw [h k (by omega), List.getD_eq_getElem?_getD, List.getD_eq_getElem?_getD, List.getElem?_take, if_pos hk]
theorem Rd.cap_le {w : World} {a : Option Addr} {n cap : Nat} {xs : List Int} (h : Rd w (.slice a n cap) xs) : n ≤ cap := by
  obtain ⟨ao, cap', he, hc, _, h⟩ := h
  cases he; exact hc
theorem take_bytes {xs : List Int} (h : ∀ x ∈ xs, 0 ≤ x ∧ x < 256) (i : Nat) : ∀ x ∈ xs.take i, 0 ≤ x ∧ x < 256 := fun x hx => h x (List.mem_of_mem_take hx)
theorem Rd.drewN {w : World} {v : Value} {l : List Int} (h : Rd w v l) (q : Nat) : Rd (w.drewN q) v l := h.lift ⟨rfl, rfl, rfl, Nat.le_refl _, fun _ _ => rfl⟩
set_option maxHeartbeats 2000000 in
theorem heads_any (n cut : Int) (w : World) (h0 : 0 ≤ n) (h1 : n < 18446744073709551616) :
    Calls Try.prog 7 #[.int .u64 n, .int .i64 cut] w fun e w' => e = .returned (.bool true) ∧ Below w.heap.size w w' := by
  obtain ⟨hs0, hs1⟩ := wrap64_bd n
  obtain ⟨s, hs⟩ : ∃ s, wrap64 n = s := ⟨_, rfl⟩
  rw [hs] at hs0 hs1
  have Hu := Lib.hid (encU_bytes n h0 h1)
  have Hv := Lib.hid (encS_bytes s hs0 hs1)
  obtain ⟨Lu, hLu⟩ : ∃ x : Nat, (encU n).length = x := ⟨_, rfl⟩
  obtain ⟨Ls, hLs⟩ : ∃ x : Nat, (encS s).length = x := ⟨_, rfl⟩
  have u0 := encU_pos n
  have u1 := encU_len h0 h1
  have s0 := encS_pos s
  have s1 := encS_len hs0 hs1
  rw [hLu] at u0 u1
  rw [hLs] at s0 s1
  have HLu := Lib.hid hLu
  have HLs := Lib.hid hLs
  clear hLu hLs
  have e1 : ((Lu : Int) == 0) = false := by rw [beq_eq_false_iff_ne]; omega
  have e2 : ((Ls : Int) == 0) = false := by rw [beq_eq_false_iff_ne]; omega
  go_enter Try.func7, Try.ntmps7
  go_wp2_with fail
  refine (PutU_any _ [] n _ (Rd.nil _) (by decide) h0 h1).mono ?_
  rintro e w1 ⟨v1, rfl, ho1, hb1⟩
  rw [List.nil_append] at ho1
  have hx := ho1.rd
  obtain ⟨bu, cu, rfl, _, _, _⟩ := ho1.cells' (by intro h; have := encU_pos n; rw [h] at this; simp at this)
  rw [HLu.out] at hx ⊢
  go_wp2_with fail
  refine (PutS_any _ [] s _ (Rd.nil _) (by decide) hs0 hs1).mono ?_
  rintro e w2 ⟨v2, rfl, ho2, hb2⟩
  rw [List.nil_append] at ho2
  have hB2 := bnext hb1 hb2
  have hx := hx.lift hb2
  have hy := ho2.rd
  obtain ⟨bs, cs, rfl, _, _, _⟩ := ho2.cells' (by intro h; have := encS_pos s; rw [h] at this; simp at this)
  rw [HLs.out] at hy ⊢
  obtain ⟨iu, ju, ru⟩ := idx_bd cut Lu u0 (by omega)
  obtain ⟨is, js, rs⟩ := idx_bd cut Ls s0 (by omega)
  have hcu := hx.cap_le
  have hcs := hy.cap_le
  have kcu : iu ≤ cu := by omega
  have kcs : is ≤ cs := by omega
  have hx := hx.take iu ju
  have hy := hy.take is js
  have fU := Lib.hid (fullU_head n h0 h1 iu (by rw [HLu.out]; exact ju))
  have fS := Lib.hid (fullS_head s hs0 hs1 is (by rw [HLs.out]; exact js))
  have hu := Lib.hid (take_bytes Hu.out iu)
  have hv := Lib.hid (take_bytes Hv.out is)
  have lu : Hid (((encU n).take iu).length ≤ 281474976710656) := by show _ ≤ _; rw [List.length_take]; omega
  have ls : Hid (((encS s).take is).length ≤ 281474976710656) := by show _ ≤ _; rw [List.length_take]; omega
  go_wp2
  go_quiet (fail)
  go_wp2_with fail
  refine (U_any _ ((encU n).take iu) 0 64 _ (by exact hx.drewN _) hu.out lu.out).mono ?_
  rintro e w3 ⟨rfl, hb3⟩
  rw [fU.out]
  have hb3 : Below w2.heap.size w2 w3 := (Below.mk rfl rfl rfl (Nat.le_refl _) (fun _ _ => rfl) : Below w2.heap.size w2 (w2.drewN _)).trans hb3
  have hB3 := bnext hB2 hb3
  have hy := hy.lift hb3
  have k3 := Box.new w3 4 iu 32
  unfold res
  go_wp2_with fail
  refine (S_any _ ((encS s).take is) 0 64 _ (hy.alloc _) hv.out ls.out).mono ?_
  rintro e w4 ⟨rfl, hb4⟩
  rw [fS.out]
  have hB4 := bnext (bnextA hB3 _) hb4
  have k3 := k3.lift hb4
  have b3 : w3.heap.size < w4.heap.size := World.block_lt_of_cell? w4 _ k3.1
  obtain ⟨a30, a31, a32⟩ := k3
  unfold res
  go_wp2_with fail
  refine (alive_any _).mono ?_
  rintro e w9 ⟨rfl, hb9⟩
  go_wp2
  go_ret
  exact ⟨rfl, bnext (bnextA hB4 _) hb9⟩

set_option maxRecDepth 100000 in
theorem heads_lifted (os : Os) (started : os.Started) (H : Type) (enc : TypeId × Value → H) :
    ReturnsInHanded {} Try.checked os 7 .any (Rows.lebHeadsSpec.pre6 enc Try.prog Try.f7 Rows.lebHeadsRow.domain false) (Rows.lebHeadsSpec.post enc Try.prog Try.f7 false true false false) := by
  refine returnsInHanded_of_change_sized (C := Try.checked) own started (by kernel_rfl) Try.func7
    (ChangeSpec.witness6 (enc := enc) (C := Try.checked) false ⟨#[], #[.int .u64 0, .int .i64 0], []⟩ 8 (by kernel_rfl) (by kernel_rfl) (by kernel_rfl) (by kernel_rfl)) ?_
  intro W base args ds gs before hval0 hW _ hsz0 _
  have hsz : (DataW.weightsEach Try.prog (Try.f7.params.toList ++ Rows.lebHeadsSpec.plain.varTypes Try.prog) (ds ++ gs)).all (· ≤ reachBytes) = true := hsz0
  clear hsz0
  have hval : ∀ (j : Nat) t v, Try.f7.params[j]? = some t → args[j]? = some v → Value.okWide Try.prog W .any base t v := hval0
  clear hval0
  have hW' := hW
  obtain ⟨p, q, hA0, hV, rfl, _, _⟩ := hW
  have hA : DataW.TrodAll enc Try.prog W 0 (fun _ => true) true Try.f7.params.toList args.toList ds p := hA0
  rw [Try.params7] at hA hval
  obtain ⟨v0, vs0, d0, ds0, p0, q0, hargs, rfl, rfl, h0, r0⟩ := trodAll_cons hA
  obtain ⟨v1, vs1, d1, ds1, p1, q1, rfl, rfl, rfl, h1, r1⟩ := trodAll_cons r0
  obtain ⟨rfl, rfl, rfl⟩ := trodAll_nil r1
  obtain rfl : args = #[v0, v1] := by cases args; simp_all
  obtain ⟨rfl, rfl⟩ := trodVars_none hV
  obtain ⟨n0, rfl, rfl, rfl, wn0⟩ := open_int Try.underlying23 (hval 0 23 v0 rfl rfl) h0
  have hn0 : 0 ≤ n0 ∧ n0 < 18446744073709551616 := by
    simp [Lit.wf, IntKind.min, IntKind.max, IntKind.signed, IntKind.bits] at wn0; omega
  obtain ⟨n1, rfl, rfl, rfl, wn1⟩ := open_int Try.underlying3 (hval 1 3 v1 rfl rfl) h1
  have hn1 : -9223372036854775808 ≤ n1 ∧ n1 < 9223372036854775808 := by
    simp [Lit.wf, IntKind.min, IntKind.max, IntKind.signed, IntKind.bits] at wn1; omega
  refine (heads_any n0 n1 W hn0.1 hn0.2).mono fun e W' ⟨he, hb⟩ => ?_
  subst he
  exact ⟨_, rfl, law_done rfl rfl (by rw [Try.params7]; intro t ht; simp at ht; rcases ht with rfl | rfl <;> exact ⟨by kernel_rfl, of_decide_eq_true (by kernel_rfl)⟩) hW' rfl rfl rfl hb⟩

theorem heads_holds : Rows.LebHeadsSaid :=
  OpenClaim.holds_of_wide 7 Try.f7 rfl rfl rfl rfl rfl rfl rfl ⟨rfl, rfl, rfl, rfl, rfl⟩ rfl rfl rfl rfl rfl (by kernel_rfl) Try.func7 (by kernel_rfl)
    (of_decide_eq_true (by kernel_rfl)) (by unfold Func.isWrapper; first | (rw [if_pos (by decide +kernel)]; kernel_rfl) | (rw [if_neg (by decide +kernel)]; exact ⟨rfl, rfl⟩))
    (fun os started H enc _ => heads_lifted os started H enc)
end Go.Proofs.Ytllnbifdapgnoaa.lb
