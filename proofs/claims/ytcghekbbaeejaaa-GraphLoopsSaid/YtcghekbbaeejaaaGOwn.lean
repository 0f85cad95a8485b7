/- Rows of the call's own: what a row is like, a store, a shorter row, an append that tells where it lies. -/
import Derived.Test.YtcghekbbaeejaaaGEq
import Derived.Deep.AppendLies
import Derived.Laws.OwnMore
set_option linter.unusedVariables false
set_option linter.unusedSimpArgs false
namespace Go.Proofs.Ytcghekbbaeejaaa.gr
open Go.RowKit

/-- v is the call's own row of one-celled things -/
def Ow (w : World) (B : Nat) (T : TypeId) (v : Value) (xs : List Value) : Prop := w.ownsRow B T 1 v xs.length xs
theorem gi_ow {w : World} {B : Nat} {v : Value} {xs : List Int} : gi.Own w B v xs ↔ Ow w B 3 v (xs.map (.int .i64)) := by unfold gi.Own Ow; rw [List.length_map]
theorem Ow.form {w : World} {B : Nat} {T : TypeId} {v : Value} {xs : List Value} (h : Ow w B T v xs) (hx : xs ≠ []) : ∃ g cap, v = .slice (some ⟨g, 0, none⟩) xs.length cap ∧ B ≤ g ∧ g < w.heap.size ∧ xs.length ≤ cap := by
  have hp : 0 < xs.length := List.length_pos_iff.2 hx
  rcases h.2 with ⟨_, h0⟩ | ⟨g, cap, cur, hv, hb, hg, hn, _⟩
  · omega
  · exact ⟨g, cap, hv, hb, (Array.getElem?_eq_some_iff.1 hg).1, hn⟩
theorem Ow.cell {w : World} {B : Nat} {T : TypeId} {g n cap : Nat} {xs : List Value} (h : Ow w B T (.slice (some ⟨g, 0, none⟩) n cap) xs) {j : Nat} {u : Value} (hj : xs[j]? = some u) : w.cell? ⟨g, j, none⟩ = some u := by
  have := World.ownsRow.cells h (g := g) rfl j u hj
  rwa [gi.add_lit, Nat.zero_add] at this
theorem Ow.len {w : World} {B : Nat} {T : TypeId} {ao : Option Addr} {n cap : Nat} {xs : List Value} (h : Ow w B T (.slice ao n cap) xs) : n = xs.length ∧ n ≤ cap := by
  rcases h.2 with ⟨e, h0⟩ | ⟨g, c, cur, hv, hb, hg, hn, _⟩
  · simp only [Value.slice.injEq] at e; omega
  · simp only [Value.slice.injEq] at hv; omega
theorem Ow.fz {w : World} {B : Nat} {T : TypeId} {g n cap : Nat} {xs : List Value} (h : Ow w B T (.slice (some ⟨g, 0, none⟩) n cap) xs) (j : Nat) : w.frozen? ⟨g, j, none⟩ = false := by
  obtain ⟨rfl, _⟩ := h.len
  exact World.ownsRow.frozenAt h j
theorem Ow.stored {w : World} {B : Nat} {T : TypeId} {g n cap : Nat} {xs : List Value} (h : Ow w B T (.slice (some ⟨g, 0, none⟩) n cap) xs) (j : Nat) (u : Value) :
    Ow (w.setCell ⟨g, j, none⟩ u) B T (.slice (some ⟨g, 0, none⟩) n cap) (xs.set j u) ∧ w.grownBy (w.setCell ⟨g, j, none⟩ u) (some g) := by
  obtain ⟨rfl, _⟩ := h.len
  have := World.ownsRow.stored h j u
  refine ⟨?_, this.2⟩
  unfold Ow; rw [List.length_set]; exact this.1
theorem Ow.kept {w w' : World} {B : Nat} {T : TypeId} {row : Option Nat} {v : Value} {xs : List Value} (h : Ow w B T v xs) (hg : w.grownBy w' row) (hne : v.ownBlock = none ∨ v.ownBlock ≠ row) : Ow w' B T v xs := World.ownsRow.kept h hg hne
theorem Ow.drewN {w : World} {B : Nat} {T : TypeId} {v : Value} {xs : List Value} (h : Ow w B T v xs) (n : Nat) : Ow (w.drewN n) B T v xs := h
theorem Ow.mono {w : World} {B B' : Nat} {T : TypeId} {v : Value} {xs : List Value} (h : Ow w B T v xs) (hb : B' ≤ B) : Ow w B' T v xs := by
  refine ⟨h.1, ?_⟩
  rcases h.2 with h | ⟨g, cap, cur, rfl, hb', r⟩
  · exact .inl h
  · exact .inr ⟨g, cap, cur, rfl, by omega, r⟩
theorem Ow.lt {w : World} {B : Nat} {T : TypeId} {v : Value} {xs : List Value} (h : Ow w B T v xs) : ∀ k, v.ownBlock = some k → B ≤ k ∧ k < w.heap.size := World.ownsRow.lt h
/-- a shorter row -/
theorem Ow.cut {w : World} {B : Nat} {T : TypeId} {g n cap : Nat} {xs : List Value} (h : Ow w B T (.slice (some ⟨g, 0, none⟩) n cap) xs) (m : Nat) (hm : m ≤ n) : Ow w B T (.slice (some ⟨g, 0, none⟩) m cap) (xs.take m) := by
  rcases h.2 with ⟨e, _⟩ | ⟨g', c, cur, hv, hb, hg, hn, hmx, hs, ht⟩
  · simp at e
  · simp only [Value.slice.injEq, Option.some.injEq, Addr.mk.injEq, and_true, true_and] at hv
    obtain ⟨rfl, rfl, rfl⟩ := hv
    have hl : (xs.take m).length = m := by rw [List.length_take]; omega
    refine ⟨by simp, .inr ⟨g, cap, cur, by rw [hl], hb, hg, by omega, hmx, hs, ?_⟩⟩
    rw [hl, ← ht, List.take_take, Nat.mul_one, Nat.mul_one, Nat.min_eq_left (by omega)]
/-- a block that was made whole -/
theorem ow_new {w : World} {B g cap : Nat} {T : TypeId} {cs : Array Value} (hB : B ≤ g) (hg : w.heap[g]? = some (.cells cs T (0, 0))) (hn : cs.size = cap) (hm : cap ≤ maxLen) : Ow w B T (.slice (some ⟨g, 0, none⟩) cap cap) cs.toList := by
  subst hn
  refine ⟨by simp, .inr ⟨g, cs.size, cs, by simp, hB, hg, by simp, hm, by simp, by simp [List.take_of_length_le]⟩⟩

theorem grown_trans {a b c : World} {r : Option Nat} (h : a.grownBy b none) (k : b.grownBy c r) : a.grownBy c r :=
  ⟨k.os.trans h.os, k.tape.trans h.tape, k.output.trans h.output, Nat.le_trans h.size k.size, fun i hi hn => (k.block i (Nat.lt_of_lt_of_le hi h.size) hn).trans (h.block i hi (by simp))⟩
theorem grown_same {a b c : World} {r : Option Nat} (h : a.grownBy b r) (k : b.grownBy c r) : a.grownBy c r :=
  ⟨k.os.trans h.os, k.tape.trans h.tape, k.output.trans h.output, Nat.le_trans h.size k.size, fun i hi hn => (k.block i (Nat.lt_of_lt_of_le hi h.size) hn).trans (h.block i hi hn)⟩
theorem grown_drewN {a b : World} {r : Option Nat} (h : a.grownBy b r) (n : Nat) : a.grownBy (b.drewN n) r := ⟨h.os, h.tape, h.output, h.size, h.block⟩
theorem grown_of {a b : World} {r : Option Nat} (h : Below a.heap.size a b) : a.grownBy b r := ⟨h.os, h.tape, h.output, h.size, fun i hi _ => h.block i hi⟩
theorem below_grown {B : Nat} {w0 a b : World} {r : Option Nat} (h : Below B w0 a) (k : a.grownBy b r) (hB : B ≤ a.heap.size) (hr : ∀ j, r = some j → B ≤ j) : Below B w0 b :=
  h.grown k hB hr
theorem grown_cell {w w' : World} {row : Option Nat} (hg : w.grownBy w' row) {p : Addr} {u : Value} (h : w.cell? p = some u) (hne : some p.block ≠ row) : w'.cell? p = some u := World.grownBy.cell hg h hne
theorem grown_heap {w w' : World} {row : Option Nat} (hg : w.grownBy w' row) {g : Nat} {o : Obj} (h : w.heap[g]? = some o) (hne : some g ≠ row) : w'.heap[g]? = some o :=
  (hg.block g (Array.getElem?_eq_some_iff.1 h).1 hne).trans h

section
variable {ops : Array Oper} {rest : List Oper} {o : Oper} {a : Act} {Q : Exit → Act → World → Prop} {w : World} {B : Nat} {xs : List Int}
/-- append of one number, which lies in a block of its own just made: where the row lies then -/
theorem app1 (s x : Operand) (hgd : o.guard = none) (ho : o.op = .call { callee := .builtin .append, args := #[s, x], argTypes := #[23, 23] })
    {v : Value} (hs : a.eval s = v) (hown : gi.Own w B v xs) (c : Int) {p : Nat} (hx : a.eval x = .slice (some ⟨p, 0, none⟩) 1 1) (hp : p = w.heap.size) (hl : xs.length + 1 ≤ 4398046511104) (hB : B ≤ w.heap.size)
    (h : ∀ g cap w', gi.Own w' B (.slice (some ⟨g, 0, none⟩) (xs.length + 1) cap) (xs ++ [c]) → w.grownBy w' v.ownBlock → (v.ownBlock = some g ∨ w.heap.size < g) → g < w'.heap.size →
      wpList Try.prog ops Q rest (a.put o.dst (.slice (some ⟨g, 0, none⟩) (xs.length + 1) cap)) w') : wpList Try.prog ops Q (o :: rest) a (w.alloc (.cells #[.int .i64 c] 3)) := by
  subst hp
  obtain ⟨i0, hi, hz0, hz1, hz2⟩ := info_parts gi.info5
  refine wpList_append_lies _ hgd s x 23 ho B 3 i0 (.int .i64 0) 1 8 Try.underlying23 hi hz0 hz1 hz2 rfl (by decide) v xs.length (xs.map (.int .i64)) hs (World.ownsRow.alloc hown _) ⟨w.heap.size, 0, none⟩ 1 1 [.int .i64 c] hx rfl ?_ ?_ (by decide) (by unfold maxLen; omega) (by omega) (by simp; omega) (w.heap.size + 1) (by simp) ?_
  · intro j u hj
    match j, hj with
    | 0, hj => simp at hj; subst hj; simp [Addr.add]
  · intro u hu; simp at hu; subst hu; rfl
  · intro g cap w' h1 h2 h3 h4
    refine h g cap w' ?_ (grown_trans (World.grownBy_alloc w _ none) h2) (by rcases h3 with h3 | h3; exact .inl h3; exact .inr (by omega)) h4
    unfold gi.Own; rw [List.map_append, List.length_append]; exact h1
end
end Go.Proofs.Ytcghekbbaeejaaa.gr
