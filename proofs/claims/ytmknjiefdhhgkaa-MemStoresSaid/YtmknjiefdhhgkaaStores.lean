/- MemStores holds: what any access writes is the document's, or its refusal: the law returns true. No condition. -/
import Derived.Test.YtmknjiefdhhgkaaOpen
import Derived.Test.YtmknjiefdhhgkaaRefStore
import Derived.Test.YtmknjiefdhhgkaaAlive
namespace Go.Proofs.Ytmknjiefdhhgkaa.mm
open Go.ChangeShapes Go.WideShapes Go.ChangeAt Go.RowKit

set_option maxHeartbeats 2000000 in
theorem stores_any (v : Value) (l : List Int) (o a f n : Int) (w : World) (hv : Rd w v l) (hl : l.length ≤ 140737488351232) (a0 : 0 ≤ a) (f0 : 0 ≤ f) (n0 : 0 ≤ n) (n1 : n < 18446744073709551616) :
    Calls Try.prog 5 #[v, .agg #[.int .i64 o, .int .u64 a, .int .u64 f, .int .u64 n]] w fun e w' => e = .returned (.bool true) ∧ Below w.heap.size w w' := by
  have HL := Lib.hid (fun w' (hb : Below w.heap.size w w') => Store_any v l o a f n w' (hv.lift hb) (by omega) a0 f0 n0 n1)
  have HR := Lib.hid (fun w' (hb : Below w.heap.size w w') => refStore_any v l o a f n w' (hv.lift hb) hl a0 f0 n0 n1)
  obtain ⟨x, hx⟩ : ∃ x, storeR l o a f n = x := ⟨_, rfl⟩
  rw [hx] at HL HR
  obtain ⟨x1, x2⟩ := x
  simp only at HL HR
  clear hx
  go_enter Try.func5, Try.ntmps5
  go_wp2_with fail
  refine (HL.out _ (made_below _ _)).mono ?_
  rintro e w1 ⟨v1, rfl, ho1, hb1⟩
  have hB1 := bnext (made_below w _) hb1
  have hT := (TBox.new w o a f n).lift hb1
  obtain ⟨c0, c1, c2, c3⟩ := hT.cells
  go_wp2_with fail
  refine (HR.out _ hB1).mono ?_
  rintro e w2 ⟨v2, rfl, ho2, hb2⟩
  have h1 := ho1.rd.lift hb2
  have h2 := ho2.rd
  go_wp2_with fail
  refine (same_any v1 v2 x1 _ h1 h2).mono ?_
  rintro e w3 ⟨rfl, rfl⟩
  go_wp2_with fail
  refine (alive_any _).mono ?_
  rintro e w3 ⟨rfl, hb3⟩
  go_wp2
  go_ret
  exact ⟨by simp, bnext (bnext hB1 hb2) hb3⟩

-- LAW
set_option maxRecDepth 100000 in
theorem stores_lifted (os : Os) (started : os.Started) (H : Type) (enc : TypeId × Value → H) :
    ReturnsInHanded {} Try.checked os 5 .any (Rows.memStoresSpec.pre6 enc Try.prog Try.f5 Rows.memStoresRow.domain false) (Rows.memStoresSpec.post enc Try.prog Try.f5 false true false false) := by
  refine returnsInHanded_of_change_sized (C := Try.checked) own started (by kernel_rfl) Try.func5
    (ChangeSpec.witness6 (enc := enc) (C := Try.checked) false ⟨#[], #[.slice none 0 0, .agg #[.int .i64 0, .int .u64 0, .int .u64 0, .int .u64 0]], []⟩ 8 (by kernel_rfl) (by kernel_rfl) (by kernel_rfl) (by kernel_rfl)) ?_
  intro W base args ds gs before hval0 hW _ hsz0 _
  have hsz : (DataW.weightsEach Try.prog (Try.f5.params.toList ++ Rows.memStoresSpec.plain.varTypes Try.prog) (ds ++ gs)).all (· ≤ reachBytes) = true := hsz0
  clear hsz0
  have hval : ∀ (j : Nat) t v, Try.f5.params[j]? = some t → args[j]? = some v → Value.okWide Try.prog W .any base t v := hval0
  clear hval0
  have hW' := hW
  obtain ⟨p, q, hA0, hV, rfl, _, _⟩ := hW
  have hA : DataW.TrodAll enc Try.prog W 0 (fun _ => true) true Try.f5.params.toList args.toList ds p := hA0
  rw [Try.params5] at hA hval hsz
  obtain ⟨v0, vs0, d0, ds0, p0, q0, hargs, rfl, rfl, h0, r0⟩ := trodAll_cons hA
  obtain ⟨v1, vs1, d1, ds1, p1, q1, rfl, rfl, rfl, h1, r1⟩ := trodAll_cons r0
  obtain ⟨rfl, rfl, rfl⟩ := trodAll_nil r1
  obtain rfl : args = #[v0, v1] := by cases args; simp_all
  obtain ⟨rfl, rfl⟩ := trodVars_none hV
  obtain ⟨l0, hrd0, hr0, hl0, _⟩ := open_bytes (hval 0 22 v0 rfl rfl) h0 (fun elems spare hd => sized_slice hsz (j := 0) (t := 22) (e := 5) rfl (by rw [hd]; rfl) Try.underlying22)
  obtain ⟨o1, a1, f1, n1, rfl, ho1, ha1, hf1, hn1⟩ := open_try (hval 1 31 v1 rfl rfl) h1
  refine (stores_any v0 l0 o1 a1 f1 n1 W hrd0 hl0 ha1.1 hf1.1 hn1.1 hn1.2).mono fun e W' ⟨he, hb⟩ => ?_
  subst he
  exact ⟨_, rfl, law_done rfl rfl (by rw [Try.params5]; intro t ht; simp at ht; rcases ht with rfl | rfl <;> exact ⟨by kernel_rfl, of_decide_eq_true (by kernel_rfl)⟩) hW' rfl rfl rfl hb⟩

theorem stores_holds : Rows.MemStoresSaid :=
  OpenClaim.holds_of_wide 5 Try.f5 rfl rfl rfl rfl rfl rfl rfl ⟨rfl, rfl, rfl, rfl, rfl⟩ rfl rfl rfl rfl rfl (by kernel_rfl) Try.func5 (by kernel_rfl)
    (of_decide_eq_true (by kernel_rfl)) (by unfold Func.isWrapper; first | (rw [if_pos (by decide +kernel)]; kernel_rfl) | (rw [if_neg (by decide +kernel)]; exact ⟨rfl, rfl⟩))
    (fun os started H enc _ => stores_lifted os started H enc)
end Go.Proofs.Ytmknjiefdhhgkaa.mm
