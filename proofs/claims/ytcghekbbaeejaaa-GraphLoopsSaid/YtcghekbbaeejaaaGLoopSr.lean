/- A row of loops of the document's own; its Loops: what is kept. -/
import Derived.Test.YtcghekbbaeejaaaGQu
import Derived.Test.YtcghekbbaeejaaaGTableW
set_option linter.unusedVariables false
set_option linter.unusedSimpArgs false
namespace Go.Proofs.Ytcghekbbaeejaaa.gr
open Go.RowKit Go.Proofs.Ytcghekbbaeejaaa.Gr

theorem infoLpr : (Try.prog.info? 45).map (fun i => (i.zero, i.size, i.bytes)) = some (some (.agg #[.int .i64 0, .slice none 0 0]), 2, 32) := by kernel_rfl

def LPr (w : World) (B : Nat) (v : Value) (L : List (Nat × List Nat)) : Prop :=
  ∃ ls : List (Nat × List Nat × Value), ls.map (fun t => (t.1, t.2.1)) = L ∧ w.ownsRow B 45 2 v ls.length (flatL ls) ∧ ∀ t ∈ ls, gi.Own w B t.2.2 (up t.2.1)
theorem LPr.nil (w : World) (B : Nat) : LPr w B (.slice none 0 0) [] := ⟨[], rfl, World.ownsRow_nil _ _ _ _, by simp⟩
theorem LPr.lift {w w' : World} {B : Nat} {v : Value} {L : List (Nat × List Nat)} (h : LPr w B v L) (hb : Below w.heap.size w w') : LPr w' B v L := by
  obtain ⟨ls, h1, h2, h3⟩ := h
  have hg : w.grownBy w' none := ⟨hb.os, hb.tape, hb.output, hb.size, fun i hi _ => hb.block i hi⟩
  refine ⟨ls, h1, h2.kept hg ?_, fun t ht => own_kept (h3 t ht) hg ?_⟩
  · cases h : v.ownBlock with
    | none => exact .inl rfl
    | some _ => exact .inr (by simp)
  · cases h : t.2.2.ownBlock with
    | none => exact .inl rfl
    | some _ => exact .inr (by simp)
theorem LPr.mono {w : World} {B B' : Nat} {v : Value} {L : List (Nat × List Nat)} (h : LPr w B v L) (hB : B' ≤ B) : LPr w B' v L := by
  obtain ⟨ls, h1, h2, h3⟩ := h
  exact ⟨ls, h1, row_mono h2 hB, fun t ht => (h3 t ht).mono hB⟩
theorem LPr.lt {w : World} {B : Nat} {v : Value} {L : List (Nat × List Nat)} (h : LPr w B v L) : ∀ j, v.ownBlock = some j → B ≤ j := by
  obtain ⟨ls, h1, h2, h3⟩ := h
  exact fun j hj => (h2.lt j hj).1
theorem LPr.len {w : World} {B : Nat} {v : Value} {L : List (Nat × List Nat)} (h : LPr w B v L) : ∃ ao cap, v = .slice ao L.length cap ∧ L.length ≤ cap := by
  obtain ⟨ls, h1, h2, h3⟩ := h
  have hl : ls.length = L.length := by rw [← h1, List.length_map]
  rcases h2.2 with ⟨rfl, e⟩ | ⟨g, cap, cur, rfl, _, _, hn, _⟩
  · exact ⟨none, 0, by rw [← hl, e], by omega⟩
  · exact ⟨_, cap, by rw [← hl], by omega⟩

section
variable {ops : Array Oper} {rest : List Oper} {o : Oper} {a : Act} {Q : Exit → Act → World → Prop} {w : World} {B : Nat}
/-- append of one loop, which lies in a block of its own just made -/
theorem appLr (s x : Operand) (hgd : o.guard = none) (ho : o.op = .call { callee := .builtin .append, args := #[s, x], argTypes := #[40, 40] })
    {v : Value} (hs : a.eval s = v) {L : List (Nat × List Nat)} (hown : LPr w B v L) {h : Nat} {ns : List Nat} {ao : Option Addr} {n c : Nat} (hN : gi.Own w B (.slice ao n c) (up ns)) {p : Nat} (hx : a.eval x = .slice (some ⟨p, 0, none⟩) 1 1) (hp : p = w.heap.size) (hl : L.length + 1 ≤ 1000) (hB : B ≤ w.heap.size)
    (hq : ∀ v' w', LPr w' B v' (L ++ [(h, ns)]) → w.grownBy w' v.ownBlock → wpList Try.prog ops Q rest (a.put o.dst v') w') : wpList Try.prog ops Q (o :: rest) a (w.alloc (.cells #[.int .i64 (h : Nat), .slice ao n c] 45)) := by
  subst hp
  obtain ⟨i0, hi, hz0, hz1, hz2⟩ := info_parts infoLpr
  obtain ⟨ls, h1, h2, h3⟩ := hown
  have hll : ls.length = L.length := by rw [← h1, List.length_map]
  have ge : w.grownBy (w.alloc (.cells #[.int .i64 (h : Nat), .slice ao n c] 45)) none := World.grownBy_alloc w _ none
  refine wpList_append_lies _ hgd s x 40 ho B 45 i0 _ 2 32 Try.underlying40 hi hz0 hz1 hz2 rfl (by decide) v ls.length (flatL ls) hs (World.ownsRow.alloc h2 _) ⟨w.heap.size, 0, none⟩ 1 1 [.int .i64 (h : Nat), .slice ao n c] hx rfl ?_ ?_ (by decide) (by unfold maxLen; omega) (by omega) (by simp; omega) (w.heap.size + 1) (by simp) ?_
  · intro j u hj
    match j, hj with
    | 0, hj => simp at hj; subst hj; simp [Addr.add]
    | 1, hj => simp at hj; subst hj; simp [Addr.add]
  · intro u hu; simp at hu; rcases hu with rfl | rfl <;> rfl
  · intro g cap w' k1 k2 k3 k4
    refine hq _ w' ⟨ls ++ [(h, ns, .slice ao n c)], by rw [List.map_append, h1]; rfl, ?_, fun t ht => ?_⟩ (grown_trans ge k2)
    · rw [flatL_snoc, List.length_append]; exact k1
    · have hk : ∀ u xs, gi.Own w B u xs → gi.Own w' B u xs := fun u xs hu => own_kept (World.ownsRow.alloc hu _) k2 (row_ne hu h2 (by decide))
      rcases List.mem_append.1 ht with ht | ht
      · exact hk _ _ (h3 t ht)
      · simp only [List.mem_singleton] at ht; subst ht; exact hk _ _ hN
end

/-- the nodes so far, in the loop under way -/
structure NoS (G : List (List Nat)) (w0 wr : World) (h : Nat) (v : Value) (i : Nat) : Prop where
  hp : wr.heap[w0.heap.size]? = some (.cells #[.int .i64 (h : Nat), v] 45 (0, 0))
  ow : gi.Own wr (w0.heap.size + 1) v (up (nodesI G h i))
  below : Below w0.heap.size w0 wr
theorem NoS.start {G : List (List Nat)} (w : World) (h : Nat) : NoS G w (w.alloc (.cells #[.int .i64 (h : Nat), .slice none 0 0] 45)) h (.slice none 0 0) 0 :=
  ⟨heap_alloc_new w _, gi.Own.nil _ _, bnextA (Below.refl _ _) _⟩
section
variable {G : List (List Nat)} {w0 wr : World} {h i : Nat} {v : Value}
theorem NoS.cells (H : NoS G w0 wr h v i) : wr.cell? ⟨w0.heap.size, 0, none⟩ = some (.int .i64 (h : Nat)) ∧ wr.cell? ⟨w0.heap.size, 1, none⟩ = some v ∧ wr.frozen? ⟨w0.heap.size, 1, none⟩ = false := by
  refine ⟨?_, ?_, ?_⟩ <;> simp [World.cell?, World.frozen?, H.hp]
theorem NoS.sz (H : NoS G w0 wr h v i) : w0.heap.size + 1 ≤ wr.heap.size := (Array.getElem?_eq_some_iff.1 H.hp).1
theorem NoS.ne (H : NoS G w0 wr h v i) : v.ownBlock ≠ some w0.heap.size := fun e => by have := (gi_ow.1 H.ow).lt _ e; omega
theorem NoS.skip (H : NoS G w0 wr h v i) (hs : nodesI G h (i + 1) = nodesI G h i) : NoS G w0 wr h v (i + 1) := ⟨H.hp, by rw [hs]; exact H.ow, H.below⟩
theorem NoS.more (H : NoS G w0 wr h v i) (hs : nodesI G h (i + 1) = nodesI G h i ++ [i]) {w' : World} {v' : Value} (ho : gi.Own w' (w0.heap.size + 1) v' (up (nodesI G h i) ++ [(i : Int)])) (hg : wr.grownBy w' v.ownBlock) : NoS G w0 (w'.setCell ⟨w0.heap.size, 1, none⟩ v') h v' (i + 1) := by
  have h1 := grown_heap hg H.hp (fun e => H.ne e.symm)
  have hb := below_grown H.below hg (Nat.le_of_succ_le H.sz) (fun j hj => Nat.le_of_succ_le ((gi_ow.1 H.ow).lt j hj).1)
  have hlt := (Array.getElem?_eq_some_iff.1 h1).1
  have hg2 : w'.grownBy (w'.setCell ⟨w0.heap.size, 1, none⟩ v') (some w0.heap.size) := ⟨by first | rfl | simp, by first | rfl | simp, by first | rfl | simp, by simp, fun k hk hne => by
    have hne' : k ≠ w0.heap.size := fun e => hne (by rw [e])
    exact heap_setCell_other w' ⟨w0.heap.size, 1, none⟩ k v' hne'⟩
  refine ⟨by have := heap_setCell_same w' w0.heap.size 1 _ _ v' h1; simpa using this, ?_, below_grown hb hg2 hb.size (fun j hj => by cases hj; exact Nat.le_refl _)⟩
  rw [hs, up_snoc]
  refine own_kept ho hg2 (.inr fun e => by have := (gi_ow.1 ho).lt _ e; omega)
end
end Go.Proofs.Ytcghekbbaeejaaa.gr
