/- A row of the call's own that begins anywhere in its block: what is left of a queue. -/
import Derived.Test.YtcghekbbaeejaaaGLoopP
set_option linter.unusedVariables false
set_option linter.unusedSimpArgs false
namespace Go.Proofs.Ytcghekbbaeejaaa.gr
open Go.RowKit Go.Proofs.Ytcghekbbaeejaaa.Gr

def Qu (w : World) (B : Nat) (v : Value) (xs : List Int) : Prop :=
  (v = .slice none 0 0 ∧ xs = []) ∨ ∃ g off cap cur, v = .slice (some ⟨g, off, none⟩) xs.length cap ∧ B ≤ g ∧ w.heap[g]? = some (.cells cur 3 (0, 0)) ∧ xs.length ≤ cap ∧ off + cap ≤ cur.size ∧ (cur.toList.drop off).take xs.length = xs.map (.int .i64)
theorem Qu.of {w : World} {B : Nat} {v : Value} {xs : List Int} (h : gi.Own w B v xs) : Qu w B v xs := by
  rcases h.2 with ⟨rfl, h0⟩ | ⟨g, cap, cur, rfl, hb, hg, hn, hm, hs, ht⟩
  · exact .inl ⟨rfl, List.eq_nil_of_length_eq_zero h0⟩
  · exact .inr ⟨g, 0, cap, cur, rfl, hb, hg, hn, by omega, by rw [Nat.mul_one] at ht; simpa using ht⟩
theorem Qu.kept {w w' : World} {B : Nat} {row : Option Nat} {v : Value} {xs : List Int} (h : Qu w B v xs) (hg : w.grownBy w' row) (hne : v.ownBlock = none ∨ v.ownBlock ≠ row) : Qu w' B v xs := by
  rcases h with h | ⟨g, off, cap, cur, rfl, hb, hh, r⟩
  · exact .inl h
  · have hn : some g ≠ row := by rcases hne with hne | hne; cases hne; exact hne
    exact .inr ⟨g, off, cap, cur, rfl, hb, (hg.block g (Array.getElem?_eq_some_iff.1 hh).1 hn).trans hh, r⟩
theorem Qu.lt {w : World} {B : Nat} {v : Value} {xs : List Int} (h : Qu w B v xs) : ∀ j, v.ownBlock = some j → B ≤ j ∧ j < w.heap.size := by
  rcases h with ⟨rfl, _⟩ | ⟨g, off, cap, cur, rfl, hb, hh, r⟩
  · intro j hj; cases hj
  · intro j hj; cases hj; exact ⟨hb, (Array.getElem?_eq_some_iff.1 hh).1⟩
/-- the first one, and the rest -/
theorem Qu.pop {w : World} {B : Nat} {v : Value} {x : Int} {xs : List Int} (h : Qu w B v (x :: xs)) : ∃ g off cap, v = .slice (some ⟨g, off, none⟩) (xs.length + 1) cap ∧ xs.length + 1 ≤ cap ∧ w.cell? ⟨g, off, none⟩ = some (.int .i64 x) ∧ Qu w B (tailV g off (xs.length + 1) cap) xs := by
  rcases h with ⟨_, h⟩ | ⟨g, off, cap, cur, rfl, hb, hh, hc, hs, ht⟩
  · cases h
  · simp only [List.length_cons] at hc ht ⊢
    have hlen : off < cur.size := by omega
    have hd : cur.toList.drop off = cur[off] :: cur.toList.drop (off + 1) := by
      rw [List.drop_eq_getElem_cons (by simpa using hlen)]; simp
    rw [hd, List.take_succ_cons, List.map_cons, List.cons.injEq] at ht
    refine ⟨g, off, cap, rfl, hc, ?_, ?_⟩
    · rw [cell_of_row w g off cur _ (0, 0) hh, Array.getElem?_eq_getElem hlen, ht.1]
    · unfold tailV
      by_cases h1 : cap = 1
      · rw [if_pos h1]
        have : xs = [] := List.eq_nil_of_length_eq_zero (by omega)
        subst this
        exact .inr ⟨g, off, 0, cur, rfl, hb, hh, by simp, by omega, by simp⟩
      · rw [if_neg h1]
        exact .inr ⟨g, off + 1, cap - 1, cur, by simp, hb, hh, by omega, by omega, ht.2⟩

theorem qu_append {w : World} {B : Nat} {v vx : Value} {xs ys : List Int} (ty : TypeId) (hq : Qu w B v xs) (hr : gi.Rd w vx ys) (hl : xs.length + ys.length ≤ 4398046511104) (hB : B ≤ w.heap.size) :
    ∃ v' w', (Builtin.append_ #[23, 23] ty #[v, vx]).run Try.prog w = .ok v' w' ∧ Qu w' B v' (xs ++ ys) ∧ w.grownBy w' v.ownBlock ∧ (v'.ownBlock = v.ownBlock ∨ ∃ g, v'.ownBlock = some g ∧ w.heap.size ≤ g) := by
  obtain ⟨i0, hi, hz0, hz1, hz2⟩ := info_parts gi.info5
  have same : w.grownBy w v.ownBlock := ⟨rfl, rfl, rfl, Nat.le_refl _, fun _ _ _ => rfl⟩
  obtain ⟨ao, cx, rfl, hcx, hz, hd⟩ := hr
  by_cases hy : ys = []
  · subst hy
    refine ⟨v, w, ?_, by rw [List.append_nil]; exact hq, same, .inl rfl⟩
    rcases hq with ⟨rfl, rfl⟩ | ⟨g, off, cap, cur, rfl, hb, hh, hc, hs, ht⟩
    · exact run_append_zero B 23 ty 3 i0 1 Try.underlying23 hi _ 0 [] (World.ownsRow_nil _ _ _ _) ao cx
    · cases ao <;> simp [Builtin.append_, run_underlying Try.underlying23, sizeOf, typeInfo, hi, Builtin.lenOf, Builtin.firstCells, hc, storeCells, loadCells, loadCellsFrom]
  · have hm : 0 < ys.length := List.length_pos_iff.2 hy
    rcases hd with e | ⟨b, ob, rfl, hd⟩
    · exact absurd e hy
    have hnews : ∀ j u, (ys.map (Value.int .i64))[j]? = some u → w.cell? ((⟨b, ob, none⟩ : Addr).add j) = some u := by
      intro j u hj
      obtain ⟨hj', rfl⟩ := gi.map_get hj
      rw [gi.add_lit]; exact hd j hj'
    have h1 : ∀ u ∈ ys.map (Value.int .i64), u.oneCell' = true := by
      intro u hu; obtain ⟨x, _, rfl⟩ := List.mem_map.1 hu; rfl
    rcases hq with ⟨rfl, rfl⟩ | ⟨g, off, cap, cur, rfl, hb, hh, hc, hs, ht⟩
    · obtain ⟨g, cap, w', k0, k1, k2, k3, k4⟩ := run_append_lies (P := Try.prog) w 23 ty B 3 i0 (.int .i64 0) 1 8 Try.underlying23 hi hz0 hz1 hz2 rfl (by decide) (.slice none 0 0) 0 [] (World.ownsRow_nil _ _ _ _) ⟨b, ob, none⟩ ys.length cx (ys.map (.int .i64)) (by simp) hnews h1 hm (by unfold maxLen; simp at hl; omega) (by simp at hl; omega) hB w.heap.size rfl
      refine ⟨_, w', k0, .of ?_, k2, ?_⟩
      · unfold gi.Own; simpa using k1
      · rcases k3 with k3 | k3
        · cases k3
        · exact .inr ⟨g, rfl, by omega⟩
    · have hsz1 : i0.size = 1 := hz1
      by_cases hroom : xs.length + ys.length ≤ cap
      · have hf := run_firstCells_some (P := Try.prog) w 1 ys.length ⟨b, ob, none⟩ ys.length cx (ys.map (.int .i64)) (by simp) hnews
        have hst := run_storeCells_at Try.prog g (off + xs.length) 3 (ys.map (.int .i64)) 0 cur w hh (by simp; omega) h1
        simp only [Nat.add_zero] at hst
        refine ⟨.slice (some ⟨g, off, none⟩) (xs.length + ys.length) cap, w.setRow g (cur.toList.take (off + xs.length) ++ ys.map (Value.int .i64) ++ cur.toList.drop (off + xs.length + (ys.map (Value.int .i64)).length)).toArray, ?_, .inr ⟨g, off, cap, _, by rw [List.length_append], hb, setRow_heap w g cur _ _ _ hh, by rw [List.length_append]; exact hroom, ?_, ?_⟩, ⟨rfl, rfl, rfl, by simp, fun k _ hk => setRow_other w g k _ (fun e => hk (by simp [Value.ownBlock, e]))⟩, .inl rfl⟩
        · simp [Builtin.append_, run_underlying Try.underlying23, sizeOf, typeInfo, hi, hsz1, Builtin.lenOf, hroom, hf, Addr.add_lit, gi.add_lit, hst]
        · simp only [List.size_toArray, List.length_append, List.length_take, List.length_drop, Array.length_toList, List.length_map]
          omega
        · have hlt : off + xs.length ≤ cur.size := by omega
          have e1 : (cur.toList.take (off + xs.length)).drop off = xs.map (.int .i64) := by rw [List.drop_take, Nat.add_sub_cancel_left, ht]
          have hA : off ≤ (cur.toList.take (off + xs.length)).length := by rw [List.length_take, Array.length_toList]; exact Nat.le_min.2 ⟨Nat.le_add_right _ _, by exact Nat.le_trans (Nat.le_add_right _ _) hlt⟩
          have e2 : (cur.toList.take (off + xs.length) ++ ys.map (Value.int .i64) ++ cur.toList.drop (off + xs.length + (ys.map (Value.int .i64)).length)).drop off = (xs ++ ys).map (Value.int .i64) ++ cur.toList.drop (off + xs.length + (ys.map (Value.int .i64)).length) := by
            rw [List.append_assoc, List.drop_append_of_le_length hA, e1, List.map_append, List.append_assoc]
          show (List.drop off _).take _ = _
          rw [e2, List.take_left' (by simp)]
      · have holds : ∀ j u, (xs.map (Value.int .i64))[j]? = some u → w.cell? ((⟨g, off, none⟩ : Addr).add j) = some u := by
          intro j u hj
          rw [gi.add_lit, cell_of_row w g (off + j) cur _ (0, 0) hh]
          rw [← ht, List.getElem?_take] at hj
          split at hj
          · rw [List.getElem?_drop] at hj; simpa using hj
          · cases hj
        have hr := run_append_grow (P := Try.prog) w 23 ty 3 i0 (.int .i64 0) Try.underlying23 hi hz0 ⟨g, off, none⟩ xs.length cap (xs.map (.int .i64)) (by rw [hsz1]; simp) holds ⟨b, ob, none⟩ ys.length cx (ys.map (.int .i64)) (by rw [hsz1]; simp) hnews (by omega) (by omega) (growslice_fits (by omega) (by rw [hz2]; omega))
        have hge := grownCap_ge w (xs.length + ys.length) cap 3
        refine ⟨_, _, hr, .inr ⟨w.heap.size, 0, _, _, by rw [List.length_append], hB, heap_alloc_new w.drew _, by rw [List.length_append]; exact hge, ?_, ?_⟩, ⟨rfl, rfl, rfl, by simp, fun k hk _ => heap_alloc_old w.drew _ k hk⟩, .inr ⟨_, rfl, Nat.le_refl _⟩⟩
        · simp [size_zeroCells, Value.cells]; omega
        · simp only [Array.toList_append, List.drop_zero, List.append_assoc]
          rw [← List.append_assoc, ← List.map_append, List.take_left' (by simp)]
section
variable {ops : Array Oper} {rest : List Oper} {o : Oper} {a : Act} {Q : Exit → Act → World → Prop} {w : World} {B : Nat} {xs ys : List Int}
theorem appQ (s x : Operand) (hgd : o.guard = none) (ho : o.op = .call { callee := .builtin .append, args := #[s, x], argTypes := #[23, 23] })
    {v : Value} (hs : a.eval s = v) (hown : Qu w B v xs) {vx : Value} (hx : a.eval x = vx) (hr : gi.Rd w vx ys) (hl : xs.length + ys.length ≤ 4398046511104) (hB : B ≤ w.heap.size)
    (h : ∀ v' w', Qu w' B v' (xs ++ ys) → w.grownBy w' v.ownBlock → (v'.ownBlock = v.ownBlock ∨ ∃ g, v'.ownBlock = some g ∧ w.heap.size ≤ g) →
      wpList Try.prog ops Q rest (a.put o.dst v') w') : wpList Try.prog ops Q (o :: rest) a w := by
  obtain ⟨v', w', hrun, k1, k2, k3⟩ := qu_append o.type hown hr hl hB
  refine wpList_plain hgd fun K hK => ?_
  have h' := h v' w' k1 k2 k3
  unfold Oper.wp execOp
  simp only [ho, resolve, invoke, builtin, Sem.run_bind, Sem.run_pure, Result.andThen_ok, List.map_toArray, List.map_cons, List.map_nil, hs, hx, hrun]
  exact hK _ _ h'
end
end Go.Proofs.Ytcghekbbaeejaaa.gr
