/- LebSmall holds: every number of 32 bits that was put is read as such, and as one of 64, and the law returns true. No condition. -/
import Derived.Test.YtllnbifdapgnoaaLaw
import Derived.Test.YtllnbifdapgnoaaEnc
namespace Go.Proofs.Ytllnbifdapgnoaa.lb
open Go.ChangeShapes Go.WideShapes Go.ChangeAt Go.RowKit

theorem wrap32_bd (n : Int) : -2147483648 ≤ wrap32 n ∧ wrap32 n < 2147483648 := by unfold wrap32; omega

set_option maxHeartbeats 2000000 in
theorem small_any (n : Int) (w : World) (h0 : 0 ≤ n) (h1 : n < 4294967296) :
    Calls Try.prog 6 #[.int .u32 n] w fun e w' => e = .returned (.bool true) ∧ Below w.heap.size w w' := by
  obtain ⟨hs0, hs1⟩ := wrap32_bd n
  obtain ⟨s, hs⟩ : ∃ s, wrap32 n = s := ⟨_, rfl⟩
  rw [hs] at hs0 hs1
  have Hu := Lib.hid (encU_bytes n h0 (by omega))
  have Hv := Lib.hid (encS_bytes s (by omega) (by omega))
  have Hul := Lib.hid (encU_len h0 (show n < 18446744073709551616 by omega))
  have Hvl := Lib.hid (encS_len (n := s) (by omega) (by omega))
  have fU32 := Lib.hid (fullU_32 [] n h0 h1)
  have fS32 := Lib.hid (fullS_32 [] s hs0 hs1)
  have fU64 := Lib.hid (fullU_64z n h0 (by omega))
  have fS64 := Lib.hid (fullS_64z s (by omega) (by omega))
  rw [List.append_nil] at fU32 fS32
  obtain ⟨lu', hlu'⟩ : ∃ x : Int, x = ((encU n).length : Int) := ⟨_, rfl⟩
  obtain ⟨ls', hls'⟩ : ∃ x : Int, x = ((encS s).length : Int) := ⟨_, rfl⟩
  rw [← hlu'] at fU32 fU64
  rw [← hls'] at fS32 fS64
  clear hlu' hls'
  go_enter Try.func6, Try.ntmps6
  go_wp2_with fail
  refine (PutU_any _ [] n _ (Rd.nil _) (by decide) h0 (by omega)).mono ?_
  rintro e w1 ⟨v1, rfl, ho1, hb1⟩
  rw [List.nil_append] at ho1
  have hx := ho1.rd
  go_wp2_with fail
  refine (PutS_any _ [] s _ (Rd.nil _) (by decide) (by omega) (by omega)).mono ?_
  rintro e w2 ⟨v2, rfl, ho2, hb2⟩
  rw [List.nil_append] at ho2
  have hB2 := bnext hb1 hb2
  have hx := hx.lift hb2
  have hy := ho2.rd
  go_wp2_with fail
  refine (U_any _ (encU n) 0 32 _ hx Hu.out (by have := Hul.out; omega)).mono ?_
  rintro e w3 ⟨rfl, hb3⟩
  rw [fU32.out]
  have hB3 := bnext hB2 hb3
  have hx := hx.lift hb3
  have hy := hy.lift hb3
  have k3 := Box.new w3 0 0 32
  unfold res
  go_wp2_with fail
  refine (S_any _ (encS s) 0 32 _ (hy.alloc _) Hv.out (by have := Hvl.out; omega)).mono ?_
  rintro e w4 ⟨rfl, hb4⟩
  rw [fS32.out]
  have hB4 := bnext (bnextA hB3 _) hb4
  have hx := (hx.alloc _).lift hb4
  have hy := (hy.alloc _).lift hb4
  have k3 := k3.lift hb4
  have k4 := Box.new w4 0 0 32
  unfold res
  go_wp2_with fail
  refine (U_any _ (encU n) 0 64 _ (hx.alloc _) Hu.out (by have := Hul.out; omega)).mono ?_
  rintro e w5 ⟨rfl, hb5⟩
  rw [fU64.out]
  have hB5 := bnext (bnextA hB4 _) hb5
  have hy := (hy.alloc _).lift hb5
  have k3 := (k3.alloc _).lift hb5
  have k4 := k4.lift hb5
  have k5 := Box.new w5 0 0 32
  unfold res
  go_wp2_with fail
  refine (S_any _ (encS s) 0 64 _ (hy.alloc _) Hv.out (by have := Hvl.out; omega)).mono ?_
  rintro e w6 ⟨rfl, hb6⟩
  rw [fS64.out]
  have hB6 := bnext (bnextA hB5 _) hb6
  have k3 := (k3.alloc _).lift hb6
  have k4 := (k4.alloc _).lift hb6
  have k5 := k5.lift hb6
  have b3 : w3.heap.size < w6.heap.size := World.block_lt_of_cell? w6 _ k3.1
  have b4 : w4.heap.size < w6.heap.size := World.block_lt_of_cell? w6 _ k4.1
  have b5 : w5.heap.size < w6.heap.size := World.block_lt_of_cell? w6 _ k5.1
  have b3' : w3.heap.size < w6.heap.size + 1 := by omega
  have b4' : w4.heap.size < w6.heap.size + 1 := by omega
  have b5' : w5.heap.size < w6.heap.size + 1 := by omega
  clear hx hy
  obtain ⟨a30, a31, a32⟩ := k3
  obtain ⟨a40, a41, a42⟩ := k4
  obtain ⟨a50, a51, a52⟩ := k5
  unfold res
  go_wp2_with fail
  refine (alive_any _).mono ?_
  rintro e w9 ⟨rfl, hb9⟩
  go_wp2
  go_ret
  exact ⟨rfl, bnext (bnextA (bnextA hB6 _) _) hb9⟩

set_option maxRecDepth 100000 in
theorem small_lifted (os : Os) (started : os.Started) (H : Type) (enc : TypeId × Value → H) :
    ReturnsInHanded {} Try.checked os 6 .any (Rows.lebSmallSpec.pre6 enc Try.prog Try.f6 Rows.lebSmallRow.domain false) (Rows.lebSmallSpec.post enc Try.prog Try.f6 false true false false) := by
  refine returnsInHanded_of_change_sized (C := Try.checked) own started (by kernel_rfl) Try.func6
    (ChangeSpec.witness6 (enc := enc) (C := Try.checked) false ⟨#[], #[.int .u32 0], []⟩ 8 (by kernel_rfl) (by kernel_rfl) (by kernel_rfl) (by kernel_rfl)) ?_
  intro W base args ds gs before hval0 hW _ hsz0 _
  have hsz : (DataW.weightsEach Try.prog (Try.f6.params.toList ++ Rows.lebSmallSpec.plain.varTypes Try.prog) (ds ++ gs)).all (· ≤ reachBytes) = true := hsz0
  clear hsz0
  have hval : ∀ (j : Nat) t v, Try.f6.params[j]? = some t → args[j]? = some v → Value.okWide Try.prog W .any base t v := hval0
  clear hval0
  have hW' := hW
  obtain ⟨p, q, hA0, hV, rfl, _, _⟩ := hW
  have hA : DataW.TrodAll enc Try.prog W 0 (fun _ => true) true Try.f6.params.toList args.toList ds p := hA0
  rw [Try.params6] at hA hval
  obtain ⟨v0, vs0, d0, ds0, p0, q0, hargs, rfl, rfl, h0, r0⟩ := trodAll_cons hA
  obtain ⟨rfl, rfl, rfl⟩ := trodAll_nil r0
  obtain rfl : args = #[v0] := by cases args; simp_all
  obtain ⟨rfl, rfl⟩ := trodVars_none hV
  obtain ⟨n0, rfl, rfl, rfl, wn0⟩ := open_int Try.underlying39 (hval 0 39 v0 rfl rfl) h0
  have hn0 : 0 ≤ n0 ∧ n0 < 4294967296 := by
    simp [Lit.wf, IntKind.min, IntKind.max, IntKind.signed, IntKind.bits] at wn0; omega
  refine (small_any n0 W hn0.1 hn0.2).mono fun e W' ⟨he, hb⟩ => ?_
  subst he
  exact ⟨_, rfl, law_done rfl rfl (by rw [Try.params6]; intro t ht; simp at ht; subst ht; exact ⟨by kernel_rfl, of_decide_eq_true (by kernel_rfl)⟩) hW' rfl rfl rfl hb⟩

theorem small_holds : Rows.LebSmallSaid :=
  OpenClaim.holds_of_wide 6 Try.f6 rfl rfl rfl rfl rfl rfl rfl ⟨rfl, rfl, rfl, rfl, rfl⟩ rfl rfl rfl rfl rfl (by kernel_rfl) Try.func6 (by kernel_rfl)
    (of_decide_eq_true (by kernel_rfl)) (by unfold Func.isWrapper; first | (rw [if_pos (by decide +kernel)]; kernel_rfl) | (rw [if_neg (by decide +kernel)]; exact ⟨rfl, rfl⟩))
    (fun os started H enc _ => small_lifted os started H enc)
end Go.Proofs.Ytllnbifdapgnoaa.lb
