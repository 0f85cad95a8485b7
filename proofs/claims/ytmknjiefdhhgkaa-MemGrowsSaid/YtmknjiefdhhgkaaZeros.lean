/- append of so many bytes that are 0, onto a row of the call's own. -/
import Derived.Test.YtmknjiefdhhgkaaGrow
import Derived.Lib.AppendZerosOnto
set_option linter.unusedVariables false
namespace Go.Proofs.Ytmknjiefdhhgkaa.mm
open Go.RowKit

theorem zeroCells_one (z : Value) (n : Nat) : Builtin.zeroCells #[z] n = (List.replicate n z).toArray := by
  apply Array.ext'
  simp [Builtin.zeroCells]
  apply List.ext_getElem
  · simp
  · intro i h1 h2; simp [Nat.mod_one]

theorem info_u8 : ∃ i0, Try.prog.info? 5 = some i0 ∧ i0.zero = some (.int .u8 0) ∧ i0.size = 1 ∧ i0.bytes = 1 := by
  obtain ⟨i0, hi, hz0, hz1, hz2⟩ := info_parts info5
  exact ⟨i0, hi, hz0, hz1, hz2⟩

/-- a new row of bytes, and more behind them -/
theorem own_grown {w : World} {B : Nat} {ys : List Int} {cap : Nat} (hB : B ≤ w.heap.size) (hc : ys.length ≤ cap) (hm : cap ≤ maxLen) :
    Own (w.drew.alloc (.cells (ys.map (Value.int .u8) ++ List.replicate (cap - ys.length) (Value.int .u8 0)).toArray 5)) B (.slice (some ⟨w.heap.size, 0, none⟩) ys.length cap) ys := by
  refine ⟨by simp, .inr ⟨w.heap.size, cap, _, rfl, hB, heap_alloc_new w.drew _, hc, hm, ?_, ?_⟩⟩
  · simp; omega
  · have h : (ys.map (Value.int .u8)).length = ys.length := List.length_map _
    rw [Nat.mul_one, ← h]; exact List.take_left

theorem run_append_zeros {w : World} {B : Nat} {v : Value} {xs : List Int} (hown : Own w B v xs) (ty : TypeId) (k : Nat) (hk : xs.length + k ≤ 140737488355328) (hB : B ≤ w.heap.size) :
    ∃ v' w', (Builtin.append_ #[22, 3] ty #[v, .int .i64 k]).run Try.prog w = .ok v' w' ∧ Own w' B v' (xs ++ List.replicate k 0) ∧ Below B w w' := by
  obtain ⟨i0, hi, hz0, hz1, hz2⟩ := info_u8
  have hw : IntKind.i64.wrap (k : Int) = k := by rw [IntKind.wrap_i64]; omega
  have hneg : ¬ ((k : Int) < 0) := by omega
  have h48i : ¬ (281474976710656 < (k : Int)) := by omega
  have mapz : (xs ++ List.replicate k 0).map (Value.int .u8) = xs.map (.int .u8) ++ List.replicate k (.int .u8 0) := by simp
  by_cases hk0 : k = 0
  · subst hk0
    have hw0 : IntKind.i64.wrap 0 = 0 := by decide
    refine ⟨v, w, ?_, by simpa using hown, Below.refl _ _⟩
    rcases hown.2 with ⟨rfl, hn⟩ | ⟨g, cap, cur, rfl, hb, hg, hn, hm, hs, ht⟩
    · simp [Builtin.append_, run_underlying Try.underlying22, run_underlying Try.underlying3, sizeOf, typeInfo, hi, hz2, asInt, asIntOf, hw0]
    · have hst := run_storeCells_at Try.prog g xs.length 5 [] 0 cur w hg (by simp; omega) (by simp)
      simp [storeCells] at hst
      simp [Builtin.append_, run_underlying Try.underlying22, run_underlying Try.underlying3, sizeOf, typeInfo, hi, hz2, asInt, asIntOf, hw0, hn, storeCells]
  · have hk1 : 0 < k := by omega
    have grown : ∀ old, old < xs.length + k → Own (w.drew.alloc (.cells ((xs.map (Value.int .u8)).toArray ++ Builtin.zeroCells #[.int .u8 0] k ++ Builtin.zeroCells #[.int .u8 0] (grownCap w (xs.length + k) old 5 - (xs.length + k))) 5)) B
        (.slice (some ⟨w.heap.size, 0, none⟩) (xs.length + k) (grownCap w (xs.length + k) old 5)) (xs ++ List.replicate k 0) := by
      intro old ho
      have h1 := grownCap_ge w (xs.length + k) old 5
      have h2 := grownCap_le_maxLen w (xs.length + k) old 5 (by unfold maxLen; omega)
      have := own_grown (w := w) (B := B) (ys := xs ++ List.replicate k 0) (cap := grownCap w (xs.length + k) old 5) hB (by simp; exact h1) h2
      rw [mapz] at this
      simp only [List.length_append, List.length_replicate] at this
      rw [zeroCells_one, zeroCells_one]
      simp only [List.append_toArray]
      exact this
    have hbel : ∀ o, Below B w (w.drew.alloc o) := fun o => (Below.refl B w).drew.alloc (by exact hB) _
    rcases hown.2 with ⟨rfl, hn⟩ | ⟨g, cap, cur, rfl, hb, hg, hn, hm, hs, ht⟩
    · have hx : xs = [] := List.eq_nil_of_length_eq_zero hn
      subst hx
      have hr := Lib.run_append_nil_zeros (P := Try.prog) w 22 3 ty 5 i0 (.int .u8 0) .i64 .i64 Try.underlying22 Try.underlying3 hi hz0 k hk1 (by rw [hz1]; decide) (by omega) (by rw [hz2]; simp at hk; omega)
      have hg := grown 0 (by simp; omega)
      simp only [List.length_nil, Nat.zero_add, List.map_nil, Array.empty_append, List.nil_append] at hg
      exact ⟨_, _, hr, hg, hbel _⟩
    · by_cases hroom : xs.length + k ≤ cap
      · have hst := run_storeCells_at Try.prog g xs.length 5 (List.replicate k (Value.int .u8 0)) 0 cur w hg (by simp; omega) (by intro v hv; rw [(List.mem_replicate.1 hv).2]; rfl)
        simp only [Nat.add_zero, List.length_replicate] at hst
        refine ⟨.slice (some ⟨g, 0, none⟩) (xs.length + k) cap, _, ?_, ?_, below_setRow (Below.refl B w) hb (cur.toList.take xs.length ++ List.replicate k (Value.int .u8 0) ++ cur.toList.drop (xs.length + k)).toArray⟩
        · simp [Builtin.append_, run_underlying Try.underlying22, run_underlying Try.underlying3, sizeOf, typeInfo, zeroValue, hi, hz0, hz1, hz2, asInt, asIntOf, hw, hneg, h48i, hroom, hk0, Addr.add_lit, zeroCells_one, Value.cells]
          simp [hst]
        · have ht' : cur.toList.take xs.length = xs.map (.int .u8) := by simpa using ht
          refine ⟨by simp, .inr ⟨g, cap, _, ?_, hb, setRow_heap w g cur _ 5 _ hg, ?_, hm, ?_, ?_⟩⟩
          · simp
          · simpa using hroom
          · simp [hs]; omega
          · rw [ht', mapz, Nat.mul_one]
            show List.take _ (_ ++ _) = _
            rw [List.take_append_of_le_length (by simp), List.take_of_length_le (by simp)]
      · have holds : ∀ j u, (xs.map (Value.int .u8))[j]? = some u → w.drew.cell? ((⟨g, 0, none⟩ : Addr).add j) = some u := fun j u hu => World.ownsRow.cells hown (g := g) rfl j u hu
        have hfo := run_firstCells_some (P := Try.prog) w.drew i0.size xs.length ⟨g, 0, none⟩ xs.length cap (xs.map (.int .u8)) (by rw [hz1]; simp) holds
        have hr := Lib.run_append_grow_zeros (P := Try.prog) w 22 3 ty 5 i0 (.int .u8 0) .i64 .i64 Try.underlying22 Try.underlying3 hi hz0 (some ⟨g, 0, none⟩) xs.length cap (xs.map (.int .u8)) hfo k hk1 (by rw [hz1]; decide) (by omega) (by omega) (by rw [hz2]; omega) (growslice_fits (by omega) (by rw [hz2]; omega))
        exact ⟨_, _, hr, grown cap (by omega), hbel _⟩

section
variable {ops : Array Oper} {rest : List Oper} {o : Oper} {a : Act} {Q : Exit → Act → World → Prop} {w w0 : World} {B : Nat} {xs : List Int}
/-- append of so many bytes that are 0, onto a row of the call's own -/
theorem wpList_append_zeros (s x : Operand) (hgd : o.guard = none) (ho : o.op = .call { callee := .builtin .append, args := #[s, x], argTypes := #[22, 3] })
    {v : Value} (hs : a.eval s = v) (hown : Own w B v xs) (k : Nat) {ki : Int} (hki : ki = k) (hx : a.eval x = .int .i64 ki) (hl : xs.length + k ≤ 140737488355328) (hB : B ≤ w.heap.size) (hb : Below B w0 w)
    (h : ∀ v' w', Own w' B v' (xs ++ List.replicate k 0) → Below B w0 w' → wpList Try.prog ops Q rest (a.put o.dst v') w') : wpList Try.prog ops Q (o :: rest) a w := by
  subst hki
  obtain ⟨v', w', hr, h1, h2⟩ := run_append_zeros hown o.type k hl hB
  exact Lib.wpList_append_run w hgd s x 22 3 ho v (.int .i64 k) hs hx v' w' hr (h v' w' h1 (hb.trans h2))
end
end Go.Proofs.Ytmknjiefdhhgkaa.mm
