/- What the table's function for an operator does, whichever operator it is. -/
import Derived.Test.YtmikhbpffmojhaaDoorClos
import Derived.Test.YtmikhbpffmojhaaDoorTab
set_option linter.unusedVariables false
namespace Go.Proofs.YtmikhbpffmojhaaDoor.nm
open Go.RowKit

/-- a call of f enters its body -/
def Enters (f : FuncId) : Prop := ∀ args w, (callFunc f args).run Tryd.prog w = .ok (.enter f args) w

theorem enters_of {f : FuncId} {fn : Func} (h : Tryd.prog.funcs[f]? = some fn) (hn : (fn.name == "runtime.NumGoroutine") = false) (hb : fn.body.isNone = false) : Enters f := fun args w => by
  have hn' : ¬ fn.name = "runtime.NumGoroutine" := by simpa using hn
  have hb' : ¬ fn.body = none := by intro e; rw [e] at hb; cases hb
  simp [callFunc, h, hn', hb', go_sem]

/-- the function value v answers x, handed these arguments, from w on -/
def Does (v : Value) (args : Array Value) (w : World) (x : Int) : Prop :=
  ∃ f cap, v = .func (.func f) #[] cap ∧ Enters f ∧ ∀ w2, Below w.heap.size w w2 → Tells f (args ++ cap) w2 (.int .u64 x)

theorem Does.plain {f : FuncId} {args : Array Value} {w : World} {x : Int} (he : Enters f) (h : ∀ w2, Below w.heap.size w w2 → Tells f args w2 (.int .u64 x)) : Does (fnv f) args w x :=
  ⟨f, #[], rfl, he, fun w2 hb => by rw [Array.append_empty]; exact h w2 hb⟩
theorem Tab.lift {w w' : World} (h : Tab w) (hb : Below w.heap.size w w') : Tab w' := fun k hk => by
  have := World.block_lt_of_cell? w _ (h k hk)
  rw [hb.cell (p := ⟨1, k, none⟩) this]; exact h k hk

theorem enterscounts1 : Enters 54 := enters_of Tryd.func54 (by kernel_rfl) (by kernel_rfl)
theorem enterscounts2 : Enters 56 := enters_of Tryd.func56 (by kernel_rfl) (by kernel_rfl)
theorem enterscounts3 : Enters 58 := enters_of Tryd.func58 (by kernel_rfl) (by kernel_rfl)
theorem enterscounts4 : Enters 60 := enters_of Tryd.func60 (by kernel_rfl) (by kernel_rfl)
theorem entersturns1 : Enters 62 := enters_of Tryd.func62 (by kernel_rfl) (by kernel_rfl)
theorem entersturns2 : Enters 63 := enters_of Tryd.func63 (by kernel_rfl) (by kernel_rfl)
theorem entersturns3 : Enters 65 := enters_of Tryd.func65 (by kernel_rfl) (by kernel_rfl)
theorem entersturns4 : Enters 66 := enters_of Tryd.func66 (by kernel_rfl) (by kernel_rfl)
theorem entersturns5 : Enters 67 := enters_of Tryd.func67 (by kernel_rfl) (by kernel_rfl)
theorem entersturns6 : Enters 68 := enters_of Tryd.func68 (by kernel_rfl) (by kernel_rfl)
theorem enterscompares1 : Enters 70 := enters_of Tryd.func70 (by kernel_rfl) (by kernel_rfl)
theorem enterscompares2 : Enters 72 := enters_of Tryd.func72 (by kernel_rfl) (by kernel_rfl)
theorem enterssums1 : Enters 77 := enters_of Tryd.func77 (by kernel_rfl) (by kernel_rfl)
theorem enterssums2 : Enters 78 := enters_of Tryd.func78 (by kernel_rfl) (by kernel_rfl)
theorem enterssums3 : Enters 79 := enters_of Tryd.func79 (by kernel_rfl) (by kernel_rfl)
theorem enterssums4 : Enters 80 := enters_of Tryd.func80 (by kernel_rfl) (by kernel_rfl)
theorem enterssums5 : Enters 81 := enters_of Tryd.func81 (by kernel_rfl) (by kernel_rfl)
theorem enterssums6 : Enters 82 := enters_of Tryd.func82 (by kernel_rfl) (by kernel_rfl)
theorem entersdivisions1 : Enters 73 := enters_of Tryd.func73 (by kernel_rfl) (by kernel_rfl)
theorem entersdivisions2 : Enters 74 := enters_of Tryd.func74 (by kernel_rfl) (by kernel_rfl)
theorem entersdivisions3 : Enters 75 := enters_of Tryd.func75 (by kernel_rfl) (by kernel_rfl)
theorem entersdivisions4 : Enters 76 := enters_of Tryd.func76 (by kernel_rfl) (by kernel_rfl)
theorem entersshifts1 : Enters 83 := enters_of Tryd.func83 (by kernel_rfl) (by kernel_rfl)
theorem entersshifts2 : Enters 85 := enters_of Tryd.func85 (by kernel_rfl) (by kernel_rfl)
theorem entersshifts3 : Enters 86 := enters_of Tryd.func86 (by kernel_rfl) (by kernel_rfl)
theorem entersshifts4 : Enters 87 := enters_of Tryd.func87 (by kernel_rfl) (by kernel_rfl)
theorem entersshifts5 : Enters 89 := enters_of Tryd.func89 (by kernel_rfl) (by kernel_rfl)

theorem one_does (k d a : Int) (w : World) (hk : k = 69 ∨ k = 103 ∨ k = 104 ∨ k = 105 ∨ k = 167 ∨ k = 172 ∨ k = 173 ∨ k = 192 ∨ k = 193 ∨ k = 194) (hd : d = 32 ∨ d = 64) (ha0 : 0 ≤ a) (ha : a < 2 ^ d.toNat) (T : Tab w) :
    Calls Tryd.prog 33 #[.int .i64 k] w fun e w' => (∃ v, e = .returned v ∧ Does v #[.int .i64 d, .int .u64 a] w' (raw1 k d.toNat a)) ∧ Below w.heap.size w w' := by
  rcases hk with rfl | rfl | rfl | rfl | rfl | rfl | rfl | rfl | rfl | rfl
  · exact (one_counts 69 _ w (by decide) rfl).mono fun e w' ⟨he, hb⟩ => ⟨⟨_, he, Does.plain enterscounts1 fun w2 hb2 => eqz_op d a w2 hd ha0 ha⟩, hb⟩
  · exact (one_counts 103 _ w (by decide) rfl).mono fun e w' ⟨he, hb⟩ => ⟨⟨_, he, Does.plain enterscounts2 fun w2 hb2 => clz_op d a w2 hd ha0 ha⟩, hb⟩
  · exact (one_counts 104 _ w (by decide) rfl).mono fun e w' ⟨he, hb⟩ => ⟨⟨_, he, Does.plain enterscounts3 fun w2 hb2 => ctz_op d a w2 hd ha0 ha ((T.lift hb).lift hb2)⟩, hb⟩
  · exact (one_counts 105 _ w (by decide) rfl).mono fun e w' ⟨he, hb⟩ => ⟨⟨_, he, Does.plain enterscounts4 fun w2 hb2 => pop_op d a w2 hd ha0 ha⟩, hb⟩
  · exact (one_turns 167 _ w (by decide) rfl).mono fun e w' ⟨he, hb⟩ => ⟨⟨_, he, Does.plain entersturns1 fun w2 hb2 => wrap_op d a w2 hd ha0 ha⟩, hb⟩
  · exact (one_turns 172 _ w (by decide) rfl).mono fun e w' ⟨he, hb⟩ => ⟨⟨_, he, Does.plain entersturns2 fun w2 hb2 => extS_op d a w2 hd ha0 ha⟩, hb⟩
  · exact (one_turns 173 _ w (by decide) rfl).mono fun e w' ⟨he, hb⟩ => ⟨⟨_, he, Does.plain entersturns3 fun w2 hb2 => extU_op d a w2 hd ha0 ha⟩, hb⟩
  · exact (one_turns 192 _ w (by decide) rfl).mono fun e w' ⟨he, hb⟩ => ⟨⟨_, he, Does.plain entersturns4 fun w2 hb2 => low8_op d a w2 hd ha0 ha⟩, hb⟩
  · exact (one_turns 193 _ w (by decide) rfl).mono fun e w' ⟨he, hb⟩ => ⟨⟨_, he, Does.plain entersturns5 fun w2 hb2 => low16_op d a w2 hd ha0 ha⟩, hb⟩
  · exact (one_turns 194 _ w (by decide) rfl).mono fun e w' ⟨he, hb⟩ => ⟨⟨_, he, Does.plain entersturns6 fun w2 hb2 => low32_op d a w2 hd ha0 ha⟩, hb⟩

theorem cell_lift {w w' : World} {g : Nat} {v : Value} (h : w.cell? ⟨g, 0, none⟩ = some v) (hb : Below w.heap.size w w') : w'.cell? ⟨g, 0, none⟩ = some v := by
  have := World.block_lt_of_cell? w _ h
  rw [hb.cell (p := ⟨g, 0, none⟩) this]; exact h

theorem two_does (k d a b : Int) (w : World) (hk : 70 ≤ k ∧ k ≤ 79 ∨ 106 ≤ k ∧ k ≤ 120) (hd : d = 32 ∨ d = 64) (ha0 : 0 ≤ a) (ha : a < 2 ^ d.toNat) (hb0 : 0 ≤ b) (hb : b < 2 ^ d.toNat) (hz : 109 ≤ k → k ≤ 112 → b ≠ 0) :
    Calls Tryd.prog 35 #[.int .i64 k] w fun e w' => (∃ v, e = .returned v ∧ Does v #[.int .i64 d, .int .u64 a, .int .u64 b] w' (raw2 k d.toNat a b)) ∧ Below w.heap.size w w' := by
  have hk' : k = 70 ∨ k = 71 ∨ k = 72 ∨ k = 73 ∨ k = 74 ∨ k = 75 ∨ k = 76 ∨ k = 77 ∨ k = 78 ∨ k = 79 ∨ k = 106 ∨ k = 107 ∨ k = 108 ∨ k = 109 ∨ k = 110 ∨ k = 111 ∨ k = 112 ∨ k = 113 ∨ k = 114 ∨ k = 115 ∨ k = 116 ∨ k = 117 ∨ k = 118 ∨ k = 119 ∨ k = 120 := by omega
  clear hk
  rcases hk' with rfl | rfl | rfl | rfl | rfl | rfl | rfl | rfl | rfl | rfl | rfl | rfl | rfl | rfl | rfl | rfl | rfl | rfl | rfl | rfl | rfl | rfl | rfl | rfl | rfl
  · refine two_compares 70 w _ (by decide) ((compares_plain 70 _ w rfl rfl).mono fun e w' ⟨⟨g, he, hc⟩, hb9⟩ => ⟨⟨_, he, _, _, rfl, enterscompares2, fun w2 hb2 => eqU_op d a b w2 hd ha0 ha hb0 hb g (cell_lift hc hb2)⟩, hb9⟩) (fun e w' ⟨⟨v, he, _⟩, _⟩ => ⟨v, he⟩)
  · refine two_compares 71 w _ (by decide) ((compares_plain 71 _ w rfl rfl).mono fun e w' ⟨⟨g, he, hc⟩, hb9⟩ => ⟨⟨_, he, _, _, rfl, enterscompares2, fun w2 hb2 => neU_op d a b w2 hd ha0 ha hb0 hb g (cell_lift hc hb2)⟩, hb9⟩) (fun e w' ⟨⟨v, he, _⟩, _⟩ => ⟨v, he⟩)
  · refine two_compares 72 w _ (by decide) ((compares_signed 72 _ w rfl).mono fun e w' ⟨⟨g, he, hc⟩, hb9⟩ => ⟨⟨_, he, _, _, rfl, enterscompares1, fun w2 hb2 => ltS_op d a b w2 hd ha0 ha hb0 hb g (cell_lift hc hb2)⟩, hb9⟩) (fun e w' ⟨⟨v, he, _⟩, _⟩ => ⟨v, he⟩)
  · refine two_compares 73 w _ (by decide) ((compares_plain 73 _ w rfl rfl).mono fun e w' ⟨⟨g, he, hc⟩, hb9⟩ => ⟨⟨_, he, _, _, rfl, enterscompares2, fun w2 hb2 => ltU_op d a b w2 hd ha0 ha hb0 hb g (cell_lift hc hb2)⟩, hb9⟩) (fun e w' ⟨⟨v, he, _⟩, _⟩ => ⟨v, he⟩)
  · refine two_compares 74 w _ (by decide) ((compares_signed 74 _ w rfl).mono fun e w' ⟨⟨g, he, hc⟩, hb9⟩ => ⟨⟨_, he, _, _, rfl, enterscompares1, fun w2 hb2 => gtS_op d a b w2 hd ha0 ha hb0 hb g (cell_lift hc hb2)⟩, hb9⟩) (fun e w' ⟨⟨v, he, _⟩, _⟩ => ⟨v, he⟩)
  · refine two_compares 75 w _ (by decide) ((compares_plain 75 _ w rfl rfl).mono fun e w' ⟨⟨g, he, hc⟩, hb9⟩ => ⟨⟨_, he, _, _, rfl, enterscompares2, fun w2 hb2 => gtU_op d a b w2 hd ha0 ha hb0 hb g (cell_lift hc hb2)⟩, hb9⟩) (fun e w' ⟨⟨v, he, _⟩, _⟩ => ⟨v, he⟩)
  · refine two_compares 76 w _ (by decide) ((compares_signed 76 _ w rfl).mono fun e w' ⟨⟨g, he, hc⟩, hb9⟩ => ⟨⟨_, he, _, _, rfl, enterscompares1, fun w2 hb2 => leS_op d a b w2 hd ha0 ha hb0 hb g (cell_lift hc hb2)⟩, hb9⟩) (fun e w' ⟨⟨v, he, _⟩, _⟩ => ⟨v, he⟩)
  · refine two_compares 77 w _ (by decide) ((compares_plain 77 _ w rfl rfl).mono fun e w' ⟨⟨g, he, hc⟩, hb9⟩ => ⟨⟨_, he, _, _, rfl, enterscompares2, fun w2 hb2 => leU_op d a b w2 hd ha0 ha hb0 hb g (cell_lift hc hb2)⟩, hb9⟩) (fun e w' ⟨⟨v, he, _⟩, _⟩ => ⟨v, he⟩)
  · refine two_compares 78 w _ (by decide) ((compares_signed 78 _ w rfl).mono fun e w' ⟨⟨g, he, hc⟩, hb9⟩ => ⟨⟨_, he, _, _, rfl, enterscompares1, fun w2 hb2 => geS_op d a b w2 hd ha0 ha hb0 hb g (cell_lift hc hb2)⟩, hb9⟩) (fun e w' ⟨⟨v, he, _⟩, _⟩ => ⟨v, he⟩)
  · refine two_compares 79 w _ (by decide) ((compares_plain 79 _ w rfl rfl).mono fun e w' ⟨⟨g, he, hc⟩, hb9⟩ => ⟨⟨_, he, _, _, rfl, enterscompares2, fun w2 hb2 => geU_op d a b w2 hd ha0 ha hb0 hb g (cell_lift hc hb2)⟩, hb9⟩) (fun e w' ⟨⟨v, he, _⟩, _⟩ => ⟨v, he⟩)
  · exact (two_sums 106 _ w (by decide) (by decide) (by decide) rfl).mono fun e w' ⟨he, hb9⟩ => ⟨⟨_, he, Does.plain enterssums1 fun w2 hb2 => add_op d a b w2 hd ha0 ha hb0 hb⟩, hb9⟩
  · exact (two_sums 107 _ w (by decide) (by decide) (by decide) rfl).mono fun e w' ⟨he, hb9⟩ => ⟨⟨_, he, Does.plain enterssums2 fun w2 hb2 => sub_op d a b w2 hd ha0 ha hb0 hb⟩, hb9⟩
  · exact (two_sums 108 _ w (by decide) (by decide) (by decide) rfl).mono fun e w' ⟨he, hb9⟩ => ⟨⟨_, he, Does.plain enterssums3 fun w2 hb2 => mul_op d a b w2 hd ha0 ha hb0 hb⟩, hb9⟩
  · exact (two_divisions 109 _ w (by decide) (by decide) rfl).mono fun e w' ⟨he, hb9⟩ => ⟨⟨_, he, Does.plain entersdivisions1 fun w2 hb2 => divS_op d a b w2 hd ha0 ha hb0 hb (hz (by decide) (by decide))⟩, hb9⟩
  · exact (two_divisions 110 _ w (by decide) (by decide) rfl).mono fun e w' ⟨he, hb9⟩ => ⟨⟨_, he, Does.plain entersdivisions2 fun w2 hb2 => divU_op d a b w2 hd ha0 ha hb0 hb (hz (by decide) (by decide))⟩, hb9⟩
  · exact (two_divisions 111 _ w (by decide) (by decide) rfl).mono fun e w' ⟨he, hb9⟩ => ⟨⟨_, he, Does.plain entersdivisions3 fun w2 hb2 => remS_op d a b w2 hd ha0 ha hb0 hb (hz (by decide) (by decide))⟩, hb9⟩
  · exact (two_divisions 112 _ w (by decide) (by decide) rfl).mono fun e w' ⟨he, hb9⟩ => ⟨⟨_, he, Does.plain entersdivisions4 fun w2 hb2 => remU_op d a b w2 hd ha0 ha hb0 hb (hz (by decide) (by decide))⟩, hb9⟩
  · exact (two_sums 113 _ w (by decide) (by decide) (by decide) rfl).mono fun e w' ⟨he, hb9⟩ => ⟨⟨_, he, Does.plain enterssums4 fun w2 hb2 => and_op d a b w2 hd ha0 ha hb0 hb⟩, hb9⟩
  · exact (two_sums 114 _ w (by decide) (by decide) (by decide) rfl).mono fun e w' ⟨he, hb9⟩ => ⟨⟨_, he, Does.plain enterssums5 fun w2 hb2 => or_op d a b w2 hd ha0 ha hb0 hb⟩, hb9⟩
  · exact (two_sums 115 _ w (by decide) (by decide) (by decide) rfl).mono fun e w' ⟨he, hb9⟩ => ⟨⟨_, he, Does.plain enterssums6 fun w2 hb2 => xor_op d a b w2 hd ha0 ha hb0 hb⟩, hb9⟩
  · exact (two_shifts 116 _ w (by decide) rfl).mono fun e w' ⟨he, hb9⟩ => ⟨⟨_, he, Does.plain entersshifts1 fun w2 hb2 => shl_op d a b w2 hd ha0 ha hb0 hb⟩, hb9⟩
  · exact (two_shifts 117 _ w (by decide) rfl).mono fun e w' ⟨he, hb9⟩ => ⟨⟨_, he, Does.plain entersshifts2 fun w2 hb2 => shrS_op d a b w2 hd ha0 ha hb0 hb⟩, hb9⟩
  · exact (two_shifts 118 _ w (by decide) rfl).mono fun e w' ⟨he, hb9⟩ => ⟨⟨_, he, Does.plain entersshifts3 fun w2 hb2 => shrU_op d a b w2 hd ha0 ha hb0 hb⟩, hb9⟩
  · exact (two_shifts 119 _ w (by decide) rfl).mono fun e w' ⟨he, hb9⟩ => ⟨⟨_, he, Does.plain entersshifts4 fun w2 hb2 => rotl_op d a b w2 hd ha0 ha hb0 hb⟩, hb9⟩
  · exact (two_shifts 120 _ w (by decide) rfl).mono fun e w' ⟨he, hb9⟩ => ⟨⟨_, he, Does.plain entersshifts5 fun w2 hb2 => rotr_op d a b w2 hd ha0 ha hb0 hb⟩, hb9⟩

end Go.Proofs.YtmikhbpffmojhaaDoor.nm
