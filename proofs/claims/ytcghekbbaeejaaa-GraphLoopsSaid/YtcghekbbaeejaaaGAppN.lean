/- Append of several numbers, or of none, to a row of the call's own. -/
import Derived.Test.YtcghekbbaeejaaaGAround
import Derived.Laws.AppendOwnNone
set_option linter.unusedVariables false
set_option linter.unusedSimpArgs false
namespace Go.Proofs.Ytcghekbbaeejaaa.gr
open Go.RowKit Go.Proofs.Ytcghekbbaeejaaa.Gr

theorem run_append_zero {w : World} {P : Program} (base : Nat) (t ty e : TypeId) (i : TypeInfo) (size : Nat) (ht : P.underlying t = some (.slice e)) (hi : P.info? e = some i)
    (v : Value) (n : Nat) (xs : List Value) (hown : w.ownsRow base e size v n xs) (ao : Option Addr) (c : Nat) :
    (Builtin.append_ #[t, t] ty #[v, .slice ao 0 c]).run P w = .ok v w := by
  rcases hown.2 with ⟨rfl, rfl⟩ | ⟨g, cap, cur, rfl, _, _, hnc, _⟩
  · cases ao
    · simp [Builtin.append_, run_underlying ht, sizeOf, typeInfo, hi, Builtin.lenOf, Builtin.firstCells]
    · simp [Builtin.append_, run_underlying ht, sizeOf, typeInfo, hi, Builtin.lenOf, Builtin.firstCells, loadCells, loadCellsFrom]
  · cases ao
    · simp [Builtin.append_, run_underlying ht, sizeOf, typeInfo, hi, Builtin.lenOf, Builtin.firstCells, hnc, storeCells]
    · simp [Builtin.append_, run_underlying ht, sizeOf, typeInfo, hi, Builtin.lenOf, Builtin.firstCells, hnc, storeCells, loadCells, loadCellsFrom]

section
variable {ops : Array Oper} {rest : List Oper} {o : Oper} {a : Act} {Q : Exit → Act → World → Prop} {w : World} {B : Nat} {xs ys : List Int}
theorem appN (s x : Operand) (hgd : o.guard = none) (ho : o.op = .call { callee := .builtin .append, args := #[s, x], argTypes := #[23, 23] })
    {v : Value} (hs : a.eval s = v) (hown : gi.Own w B v xs) {vx : Value} (hx : a.eval x = vx) (hr : gi.Rd w vx ys) (hl : xs.length + ys.length ≤ 4398046511104) (hB : B ≤ w.heap.size)
    (h : ∀ v' w', gi.Own w' B v' (xs ++ ys) → w.grownBy w' v.ownBlock → (v'.ownBlock = v.ownBlock ∨ ∃ g, v'.ownBlock = some g ∧ w.heap.size ≤ g) →
      wpList Try.prog ops Q rest (a.put o.dst v') w') : wpList Try.prog ops Q (o :: rest) a w := by
  obtain ⟨i0, hi, hz0, hz1, hz2⟩ := info_parts gi.info5
  obtain ⟨ao, cap, rfl, hc, hz, hd⟩ := hr
  rcases hd with rfl | ⟨b, off, rfl, hd⟩
  · refine wpList_plain hgd fun K hK => ?_
    have hrun := run_append_zero (P := Try.prog) (w := w) B 23 o.type 3 i0 1 Try.underlying23 hi v xs.length _ hown ao cap
    have h' := h v w (by rw [List.append_nil]; exact hown) ⟨rfl, rfl, rfl, Nat.le_refl _, fun _ _ _ => rfl⟩ (.inl rfl)
    unfold Oper.wp
    simp [execOp, ho, resolve, invoke, builtin, hs, hx, hrun, Result.andThen]
    exact hK _ _ h'
  · by_cases hy : ys.length = 0
    · have : ys = [] := List.length_eq_zero_iff.1 hy
      subst this
      refine wpList_plain hgd fun K hK => ?_
      have hrun := run_append_zero (P := Try.prog) (w := w) B 23 o.type 3 i0 1 Try.underlying23 hi v xs.length _ hown (some ⟨b, off, none⟩) cap
      have h' := h v w (by rw [List.append_nil]; exact hown) ⟨rfl, rfl, rfl, Nat.le_refl _, fun _ _ _ => rfl⟩ (.inl rfl)
      unfold Oper.wp
      simp [execOp, ho, resolve, invoke, builtin, hs, hx, hrun, Result.andThen]
      exact hK _ _ h'
    · refine wpList_append_lies _ hgd s x 23 ho B 3 i0 (.int .i64 0) 1 8 Try.underlying23 hi hz0 hz1 hz2 rfl (by decide) v xs.length (xs.map (.int .i64)) hs hown ⟨b, off, none⟩ ys.length cap (ys.map (.int .i64)) hx (by simp) ?_ ?_ (by omega) (by unfold maxLen; omega) (by omega) hB w.heap.size rfl ?_
      · intro j u hj
        obtain ⟨hj', rfl⟩ := gi.map_get hj
        rw [gi.add_lit]; exact hd j hj'
      · intro u hu
        obtain ⟨x, _, rfl⟩ := List.mem_map.1 hu; rfl
      · intro g cap' w' h1 h2 h3 h4
        refine h _ w' ?_ h2 ?_
        · unfold gi.Own; rw [List.map_append, List.length_append]; exact h1
        · rcases h3 with h3 | h3
          · exact .inl (by rw [h3]; rfl)
          · exact .inr ⟨g, rfl, by omega⟩
end
end Go.Proofs.Ytcghekbbaeejaaa.gr
