/- Slices of bytes: what reads as bytes (Rd), what the call owns (Own), appends of one byte and of many, a make with a copy. -/
import Derived.Test.YtcghekbbaeejaaaRows
import Derived.Lib.Strings
import Derived.Lib.Slices
import Derived.Lib.Small
import Derived.Lib.Walk
import Derived.Lib.Hide
import Derived.Laws.CopyOwn
import Derived.Laws.AppendOwnNone
namespace Go.Proofs.Ytcghekbbaeejaaa.gi
open Go.RowKit

theorem info5 : (Try.prog.info? 3).map (fun i => (i.zero, i.size, i.bytes)) = some (some (.int .i64 0), 1, 8) := by kernel_rfl
theorem size5 : (Try.prog.info? 3).map (·.size) = some 1 := by kernel_rfl

/-- v is a slice that reads as the bytes l -/
def Rd (w : World) (v : Value) (l : List Int) : Prop :=
  ∃ ao cap, v = .slice ao l.length cap ∧ l.length ≤ cap ∧ (ao = none → cap = 0) ∧ (l = [] ∨ ∃ b off, ao = some ⟨b, off, none⟩ ∧ ∀ k, k < l.length → w.cell? ⟨b, off + k, none⟩ = some (.int .i64 (l.getD k 0)))

/-- v is the call's own row, of a block from B on, whose first cells are the bytes xs -/
def Own (w : World) (B : Nat) (v : Value) (xs : List Int) : Prop := w.ownsRow B 3 1 v xs.length (xs.map (.int .i64))

theorem add_lit (b o j : Nat) : (⟨b, o, none⟩ : Addr).add j = ⟨b, o + j, none⟩ := by unfold Addr.add; split <;> simp_all

theorem map_get {l : List Int} {k : Nat} {u : Value} (h : (l.map (Value.int .i64))[k]? = some u) : k < l.length ∧ u = .int .i64 (l.getD k 0) := by
  rw [List.getElem?_map] at h
  obtain ⟨x, hx, rfl⟩ := Option.map_eq_some_iff.1 h
  obtain ⟨hk, rfl⟩ := List.getElem?_eq_some_iff.1 hx
  exact ⟨hk, by rw [List.getD_eq_getElem?_getD, List.getElem?_eq_getElem hk]; rfl⟩

theorem get_map {l : List Int} {k : Nat} (h : k < l.length) : (l.map (Value.int .i64))[k]? = some (.int .i64 (l.getD k 0)) := by
  rw [List.getElem?_map, List.getElem?_eq_getElem h, List.getD_eq_getElem?_getD, List.getElem?_eq_getElem h]; rfl

theorem Rd.nil (w : World) : Rd w (.slice none 0 0) [] := ⟨none, 0, rfl, Nat.le_refl _, fun _ => rfl, .inl rfl⟩

theorem Rd.data {w : World} {v : Value} {l : List Int} (h : Rd w v l) : ∃ ao cap, v = .slice ao l.length cap ∧ l.length ≤ cap ∧ (ao = none → cap = 0) ∧ ∀ j u, (l.map (Value.int .i64))[j]? = some u → ∃ ad, ao = some ad ∧ w.cell? (ad.add j) = some u := by
  obtain ⟨ao, cap, rfl, hc, hz, h⟩ := h
  refine ⟨ao, cap, rfl, hc, hz, fun j u hu => ?_⟩
  obtain ⟨hj, rfl⟩ := map_get hu
  rcases h with rfl | ⟨b, off, rfl, h⟩
  · simp at hj
  · exact ⟨_, rfl, by rw [add_lit]; exact h j hj⟩

/-- what reads goes on reading where nothing below a number has turned, and its block lies there -/
theorem Rd.lift {w w' : World} {v : Value} {l : List Int} (h : Rd w v l) (hb : Below w.heap.size w w') : Rd w' v l := by
  obtain ⟨ao, cap, rfl, hc, hz, h⟩ := h
  refine ⟨ao, cap, rfl, hc, hz, ?_⟩
  rcases h with rfl | ⟨b, off, rfl, h⟩
  · exact .inl rfl
  · refine .inr ⟨b, off, rfl, fun k hk => ?_⟩
    have := World.block_lt_of_cell? w _ (h k hk)
    rw [hb.cell (p := ⟨b, off + k, none⟩) this]
    exact h k hk
theorem Rd.alloc {w : World} {v : Value} {l : List Int} (h : Rd w v l) (o : Obj) : Rd (w.alloc o) v l := h.lift ((Below.refl _ _).alloc (Nat.le_refl _) _)
theorem Rd.drew {w : World} {v : Value} {l : List Int} (h : Rd w v l) : Rd w.drew v l := h.lift (Below.refl _ _).drew

theorem Own.rd {w : World} {B : Nat} {v : Value} {xs : List Int} (h : Own w B v xs) : Rd w v xs := by
  rcases h.2 with ⟨rfl, hn⟩ | ⟨g, cap, cur, rfl, hb, hg, hn, hm, hs, ht⟩
  · have : xs = [] := List.eq_nil_of_length_eq_zero hn
    subst this; exact Rd.nil w
  · refine ⟨_, cap, rfl, hn, (fun h => by cases h), .inr ⟨g, 0, rfl, fun k hk => ?_⟩⟩
    have := World.ownsRow.cells h (g := g) rfl k _ (get_map hk)
    rwa [add_lit] at this

theorem Own.lt {w : World} {B : Nat} {v : Value} {xs : List Int} (h : Own w B v xs) : ∀ k, v.ownBlock = some k → B ≤ k ∧ k < w.heap.size := World.ownsRow.lt h
theorem Own.alloc {w : World} {B : Nat} {v : Value} {xs : List Int} (h : Own w B v xs) (o : Obj) : Own (w.alloc o) B v xs := World.ownsRow.alloc h o
theorem Own.drew {w : World} {B : Nat} {v : Value} {xs : List Int} (h : Own w B v xs) : Own w.drew B v xs := World.ownsRow.drew h
theorem Own.lift {w w' : World} {B : Nat} {v : Value} {xs : List Int} (h : Own w B v xs) (hb : Below w.heap.size w w') : Own w' B v xs :=
  World.ownsRow.kept h (row := none) ⟨hb.os, hb.tape, hb.output, hb.size, fun k hk _ => hb.block k hk⟩ (by cases v.ownBlock <;> simp)
theorem Own.mono {w : World} {B B' : Nat} {v : Value} {xs : List Int} (h : Own w B v xs) (hB : B' ≤ B) : Own w B' v xs := by
  refine ⟨h.1, ?_⟩
  rcases h.2 with h | ⟨g, cap, cur, rfl, hb, r⟩
  · exact .inl h
  · exact .inr ⟨g, cap, cur, rfl, by omega, r⟩
theorem Own.nil (w : World) (B : Nat) : Own w B (.slice none 0 0) [] := World.ownsRow_nil w B _ _

/-- what a make and a copy leave: a row of the call's own with room behind it -/
theorem own_copied {w2 : World} {B g n m : Nat} {zs : List Value} {l : List Int} (hB : B ≤ g) (hn : l.length = n) (hz : zs.length = n + m) (hm : n + m ≤ maxLen)
    (hg : w2.heap[g]? = some (.cells (splice zs 0 (l.map (.int .i64))).toArray 3 (0, 0))) : Own w2 B (.slice (some ⟨g, 0, none⟩) n (n + m)) l := by
  subst hn
  refine ⟨by simp, .inr ⟨g, l.length + m, _, rfl, hB, hg, by omega, hm, ?_, ?_⟩⟩
  · have := length_splice zs 0 (l.map (.int .i64)) (by simp; omega)
    simp [this, hz]
  · have : (l.map (Value.int .i64)).length = l.length := List.length_map _
    rw [Nat.mul_one, ← this]; simp [splice]

section
variable {ops : Array Oper} {rest : List Oper} {o : Oper} {a : Act} {Q : Exit → Act → World → Prop} {w w0 : World} {B : Nat} {xs : List Int}

/-- append of one byte onto a row of the call's own -/
theorem wpList_append_byte (s x : Operand) (hgd : o.guard = none) (ho : o.op = .call { callee := .builtin .append, args := #[s, x], argTypes := #[23, 23] })
    {v : Value} (hs : a.eval s = v) (hown : Own w B v xs) (c : Int) (hx : a.eval x = .slice (some ⟨w.heap.size, 0, none⟩) 1 1) (hl : xs.length + 1 ≤ 4398046511104) (hB : B ≤ w.heap.size) (hb : Below B w0 w)
    (h : ∀ v' w', Own w' B v' (xs ++ [c]) → Below B w0 w' → wpList Try.prog ops Q rest (a.put o.dst v') w') : wpList Try.prog ops Q (o :: rest) a (w.alloc (.cells #[.int .i64 c] 3)) := by
  obtain ⟨i0, hi, hz0, hz1, hz2⟩ := info_parts info5
  refine wpList_append_own _ hgd s x 23 ho B 3 i0 (.int .i64 0) 1 8 Try.underlying23 hi hz0 hz1 hz2 rfl (by decide) v xs.length (xs.map (.int .i64)) hs (World.ownsRow.alloc hown _) ⟨w.heap.size, 0, none⟩ 1 1 [.int .i64 c] hx rfl ?_ ?_ (by unfold maxLen; omega) (by omega) (by simp; omega) ?_
  · intro j u hj
    match j, hj with
    | 0, hj => simp at hj; subst hj; simp [Addr.add]
  · intro u hu; simp at hu; subst hu; rfl
  · intro v' w' h1 h2 _
    refine h v' w' ?_ ?_
    · unfold Own; rw [List.map_append, List.length_append]; exact h1
    · exact (hb.alloc hB _).grown h2 (by simp; omega) (fun k hk => (hown.lt k hk).1)

/-- append of one byte onto a row of the call's own, where the byte's block is told by another term -/
theorem wpList_append_byte_at (s x : Operand) (hgd : o.guard = none) (ho : o.op = .call { callee := .builtin .append, args := #[s, x], argTypes := #[23, 23] })
    {v : Value} (hs : a.eval s = v) (hown : Own w B v xs) (c : Int) {g : Nat} (hx : a.eval x = .slice (some ⟨g, 0, none⟩) 1 1) (hg : g = w.heap.size) (hl : xs.length + 1 ≤ 4398046511104) (hB : B ≤ w.heap.size) (hb : Below B w0 w)
    (h : ∀ v' w', Own w' B v' (xs ++ [c]) → Below B w0 w' → wpList Try.prog ops Q rest (a.put o.dst v') w') : wpList Try.prog ops Q (o :: rest) a (w.alloc (.cells #[.int .i64 c] 3)) := by
  subst hg
  obtain ⟨i0, hi, hz0, hz1, hz2⟩ := info_parts info5
  refine wpList_append_own _ hgd s x 23 ho B 3 i0 (.int .i64 0) 1 8 Try.underlying23 hi hz0 hz1 hz2 rfl (by decide) v xs.length (xs.map (.int .i64)) hs (World.ownsRow.alloc hown _) ⟨w.heap.size, 0, none⟩ 1 1 [.int .i64 c] hx rfl ?_ ?_ (by unfold maxLen; omega) (by omega) (by simp; omega) ?_
  · intro j u hj
    match j, hj with
    | 0, hj => simp at hj; subst hj; simp [Addr.add]
  · intro u hu; simp at hu; subst hu; rfl
  · intro v' w' h1 h2 _
    refine h v' w' ?_ ?_
    · unfold Own; rw [List.map_append, List.length_append]; exact h1
    · exact (hb.alloc hB _).grown h2 (by simp; omega) (fun k hk => (hown.lt k hk).1)

/-- append of all bytes that a slice reads as, onto a row of the call's own -/
theorem wpList_append_bytes (s x : Operand) (hgd : o.guard = none) (ho : o.op = .call { callee := .builtin .append, args := #[s, x], argTypes := #[23, 23] })
    {v u : Value} (hs : a.eval s = v) (hown : Own w B v xs) {ys : List Int} (hx : a.eval x = u) (hrd : Rd w u ys) (hl : xs.length + ys.length ≤ 4398046511104) (hB : B ≤ w.heap.size) (hb : Below B w0 w)
    (h : ∀ v' w', Own w' B v' (xs ++ ys) → Below B w0 w' → wpList Try.prog ops Q rest (a.put o.dst v') w') : wpList Try.prog ops Q (o :: rest) a w := by
  obtain ⟨i0, hi, hz0, hz1, hz2⟩ := info_parts info5
  obtain ⟨ao, cap, rfl, hcap, hz, hd⟩ := hrd.data
  have fin : ∀ v' w', w'.ownsRow B 3 1 v' (xs.length + ys.length) (xs.map (Value.int .i64) ++ ys.map (.int .i64)) → w.grownBy w' v.ownBlock → wpList Try.prog ops Q rest (a.put o.dst v') w' := by
    intro v' w' h1 h2
    refine h v' w' ?_ ?_
    · unfold Own; rw [List.map_append, List.length_append]; exact h1
    · exact hb.grown h2 hB (fun k hk => (hown.lt k hk).1)
  cases ao with
  | some ad =>
    refine wpList_append_own _ hgd s x 23 ho B 3 i0 (.int .i64 0) 1 8 Try.underlying23 hi hz0 hz1 hz2 rfl (by decide) v xs.length (xs.map (.int .i64)) hs hown ad ys.length cap (ys.map (.int .i64)) hx (by simp) ?_ (ints_oneCell _ _) (by unfold maxLen; omega) (by omega) hB ?_
    · intro j u hu
      obtain ⟨ad', he, hc⟩ := hd j u hu
      cases he; exact hc
    · intro v' w' h1 h2 _; exact fin v' w' h1 h2
  | none =>
    have hys : ys = [] := by
      cases ys with
      | nil => rfl
      | cons y r => obtain ⟨_, he, _⟩ := hd 0 (.int .i64 y) rfl; cases he
    subst hys
    obtain rfl : cap = 0 := hz rfl
    refine wpList_append_own_none hgd s x 23 ho B 3 i0 1 Try.underlying23 hi v xs.length (xs.map (.int .i64)) hs hown hx ?_
    exact h v w (by rw [List.append_nil]; exact hown) hb
end
end Go.Proofs.Ytcghekbbaeejaaa.gi
