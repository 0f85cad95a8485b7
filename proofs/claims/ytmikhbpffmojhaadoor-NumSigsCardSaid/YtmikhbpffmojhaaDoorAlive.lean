/- The contract of the statements' own alive, and of num.Eval where its numbers were just put side by side. -/
import Derived.Test.YtmikhbpffmojhaaDoorEval
set_option linter.unusedVariables false
namespace Go.Proofs.YtmikhbpffmojhaaDoor.nm
open Go.RowKit

/-- the two tables of the program lie there -/
def Laid (w : World) : Prop := Runs w ∧ Tab w
theorem Laid.lift {w w' : World} (h : Laid w) (hb : Below w.heap.size w w') : Laid w' := ⟨h.1.lift hb, h.2.lift hb⟩

theorem Rd.lit (q : IntKind) (w : World) (xs : List Int) (t : TypeId) : Rd q (w.alloc (.cells (xs.map (.int q)).toArray t)) (.slice (some ⟨w.heap.size, 0, none⟩) xs.length xs.length) xs := by
  refine ⟨_, _, rfl, Nat.le_refl _, (fun h => by cases h), .inr ⟨_, _, rfl, fun k hk => ?_⟩⟩
  rw [cell_of_row _ w.heap.size (0 + k) _ t (0, 0) (heap_alloc_new w _)]
  rw [List.getElem?_toArray, Nat.zero_add, List.getElem?_map, List.getElem?_eq_getElem hk, List.getD_eq_getElem?_getD, List.getElem?_eq_getElem hk]; rfl

/-- Eval of two numbers that were just put into a slice -/
theorem Eval2 (op a b : Int) (w : World) (L : Laid w) (ha : 0 ≤ a ∧ a < 18446744073709551616) (hb : 0 ≤ b ∧ b < 18446744073709551616) (t : TypeId) :
    Calls Tryd.prog 20 #[.int .i64 op, .slice (some ⟨w.heap.size, 0, none⟩) 2 2] (w.alloc (.cells #[.int .u64 a, .int .u64 b] t)) fun e w' => e = .returned (.tuple #[.int .u64 (ev op [a, b]).1, .int .i64 (ev op [a, b]).2]) ∧ Below w.heap.size w w' := by
  have L' := L.lift (made_below w (.cells #[.int .u64 a, .int .u64 b] t))
  refine (Eval_any op _ [a, b] _ L'.1 L'.2 (Rd.lit .u64 w [a, b] t) ?_ ?_).mono fun e w' ⟨he, h⟩ => ⟨he, bnext (made_below w _) h⟩
  · intro x hx
    rcases List.mem_cons.1 hx with rfl | hx
    · exact ha
    · rcases List.mem_cons.1 hx with rfl | hx
      · exact hb
      · cases hx
  · simp
/-- .. of one -/
theorem Eval1 (op a : Int) (w : World) (L : Laid w) (ha : 0 ≤ a ∧ a < 18446744073709551616) (t : TypeId) :
    Calls Tryd.prog 20 #[.int .i64 op, .slice (some ⟨w.heap.size, 0, none⟩) 1 1] (w.alloc (.cells #[.int .u64 a] t)) fun e w' => e = .returned (.tuple #[.int .u64 (ev op [a]).1, .int .i64 (ev op [a]).2]) ∧ Below w.heap.size w w' := by
  have L' := L.lift (made_below w (.cells #[.int .u64 a] t))
  refine (Eval_any op _ [a] _ L'.1 L'.2 (Rd.lit .u64 w [a] t) ?_ ?_).mono fun e w' ⟨he, h⟩ => ⟨he, bnext (made_below w _) h⟩
  · intro x hx
    rcases List.mem_cons.1 hx with rfl | hx
    · exact ha
    · cases hx
  · simp

theorem alive1 : ev 109 [4294967289, 2] = (4294967293, 0) := by decide +kernel
theorem alive2 : ev 117 [2147483648, 1] = (3221225472, 0) := by decide +kernel
theorem alive3 : ev 128 [5, 0] = (0, 33) := by decide +kernel

set_option maxHeartbeats 1000000 in
theorem alive_any (w : World) (L : Laid w) : Calls Tryd.prog 19 #[] w fun e w' => e = .returned (.bool true) ∧ Below w.heap.size w w' := by
  have H1 := Lib.hid (fun t => Eval2 109 4294967289 2 w L (by decide) (by decide) t)
  rw [alive1] at H1
  have HL := Lib.hid L
  clear L
  have HF := Lib.hid (fun w' => fits_any 127 4294967295 w' (by decide) (by decide))
  go_enter Tryd.func19, Tryd.ntmps19
  go_wp2_with fail
  refine (H1.out _).mono ?_
  rintro e w1 ⟨rfl, hb1⟩
  have H2 := Lib.hid (fun t => Eval2 117 2147483648 1 w1 (HL.out.lift hb1) (by decide) (by decide) t)
  rw [alive2] at H2
  go_wp2_with fail
  refine (H2.out _).mono ?_
  rintro e w2 ⟨rfl, hb2⟩
  have hb12 := bnext hb1 hb2
  have H3 := Lib.hid (fun t => Eval2 128 5 0 w2 (HL.out.lift hb12) (by decide) (by decide) t)
  rw [alive3] at H3
  go_wp2_with fail
  refine (H3.out _).mono ?_
  rintro e w3 ⟨rfl, hb3⟩
  go_wp2_with (go_at_call 22; refine (HF.out _).mono ?_; rintro e w4 ⟨rfl, m, rfl⟩)
  go_ret
  exact ⟨rfl, bnext (bnext hb12 hb3) (belowN _ _)⟩

end Go.Proofs.YtmikhbpffmojhaaDoor.nm
