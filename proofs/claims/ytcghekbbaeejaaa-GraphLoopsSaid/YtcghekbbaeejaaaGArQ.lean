/- What lies around a node, the document's: what is kept at each turn. -/
import Derived.Test.YtcghekbbaeejaaaGLoopSr
set_option linter.unusedVariables false
set_option linter.unusedSimpArgs false
namespace Go.Proofs.Ytcghekbbaeejaaa.gr
open Go.RowKit Go.Proofs.Ytcghekbbaeejaaa.Gr

structure AQ (w0 wr : World) (gm n : Nat) (v : Value) (ws : List Nat) (ms : List Bool) : Prop where
  wt : Qu wr w0.heap.size v (up ws)
  mt : Ow wr w0.heap.size 4 (.slice (some ⟨gm, 0, none⟩) n n) (ms.map .bool)
  ne : v.ownBlock ≠ some gm
  below : Below w0.heap.size w0 wr
  gm0 : w0.heap.size ≤ gm
  gm1 : gm < wr.heap.size
  ml : ms.length = n
theorem AQ.start {w0 wa wr : World} {v : Value} {ws : List Nat} {n : Nat} (hz : wa.heap.size = w0.heap.size + 1) (hM : Ow wa w0.heap.size 4 (.slice (some ⟨w0.heap.size, 0, none⟩) n n) ((List.replicate n false).map .bool)) (hW : gi.Own wr wa.heap.size v (up ws)) (hb : Below wa.heap.size wa wr) (hb0 : Below w0.heap.size w0 wr) :
    AQ w0 wr w0.heap.size n v ws (List.replicate n false) :=
  ⟨.of (hW.mono (by omega)), hM.kept (grown_of (r := none) hb) (.inr (by simp [Value.ownBlock])), fun e => by have := (gi_ow.1 hW).lt _ e; omega, hb0, Nat.le_refl _, by have := hb.size; omega, by simp⟩
section
variable {w0 wr : World} {gm n : Nat} {v : Value} {ws : List Nat} {ms : List Bool}
theorem AQ.bsz (h : AQ w0 wr gm n v ws ms) : w0.heap.size ≤ wr.heap.size := h.below.size
theorem AQ.met (h : AQ w0 wr gm n v ws ms) {x : Nat} (hx : x < n) : wr.cell? ⟨gm, x, none⟩ = some (.bool (ms.getD x false)) ∧ wr.frozen? ⟨gm, x, none⟩ = false := by
  refine ⟨h.mt.cell ?_, h.mt.fz x⟩
  have := h.ml
  rw [List.getElem?_map, List.getElem?_eq_getElem (by omega), List.getD_eq_getElem?_getD, List.getElem?_eq_getElem (by omega)]; rfl
theorem AQ.marked (h : AQ w0 wr gm n v ws ms) (y : Nat) : AQ w0 (wr.setCell ⟨gm, y, none⟩ (.bool true)) gm n v ws (ms.set y true) := by
  obtain ⟨s1, s2⟩ := h.mt.stored y (.bool true)
  refine ⟨h.wt.kept s2 (.inr h.ne), by rw [List.map_set]; exact s1, h.ne, below_grown h.below s2 h.bsz (fun j hj => by cases hj; exact h.gm0), h.gm0, Nat.lt_of_lt_of_le h.gm1 s2.size, by rw [List.length_set]; exact h.ml⟩
theorem AQ.more (h : AQ w0 wr gm n v ws ms) {ys : List Nat} {v' : Value} {w' : World} (ho : Qu w' w0.heap.size v' (up ws ++ up ys)) (hg : wr.grownBy w' v.ownBlock) (hat : v'.ownBlock = v.ownBlock ∨ ∃ g, v'.ownBlock = some g ∧ wr.heap.size ≤ g) : AQ w0 w' gm n v' (ws ++ ys) ms := by
  refine ⟨by have : up (ws ++ ys) = up ws ++ up ys := by simp [up]
             rw [this]; exact ho, h.mt.kept hg (.inr fun e => h.ne e.symm), fun e => ?_, below_grown h.below hg h.bsz (fun j hj => (h.wt.lt j hj).1), h.gm0, Nat.lt_of_lt_of_le h.gm1 hg.size, h.ml⟩
  rcases hat with hat | ⟨g, hat, hl⟩
  · exact h.ne (hat ▸ e)
  · rw [hat] at e; have := h.gm1; cases e; omega
/-- the first one waiting, and the rest -/
theorem AQ.top {wl : List Nat} {y : Nat} (h : AQ w0 wr gm n v (y :: wl) ms) : ∃ g off cap, v = .slice (some ⟨g, off, none⟩) (wl.length + 1) cap ∧ wl.length + 1 ≤ cap ∧ wr.cell? ⟨g, off, none⟩ = some (.int .i64 (y : Nat)) ∧ AQ w0 wr gm n (tailV g off (wl.length + 1) cap) wl ms := by
  have hw : Qu wr w0.heap.size v ((y : Int) :: up wl) := h.wt
  obtain ⟨g, off, cap, e, h1, h2, h3⟩ := hw.pop
  rw [up_len] at e h1 h3
  subst e
  refine ⟨g, off, cap, rfl, h1, h2, h3, h.mt, ?_, h.below, h.gm0, h.gm1, h.ml⟩
  have := h.ne
  unfold tailV; split <;> exact this
end
end Go.Proofs.Ytcghekbbaeejaaa.gr
