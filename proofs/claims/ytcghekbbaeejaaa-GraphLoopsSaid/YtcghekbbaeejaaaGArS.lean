/- What lies around a node: what is kept at each turn. -/
import Derived.Test.YtcghekbbaeejaaaGAppN
set_option linter.unusedVariables false
set_option linter.unusedSimpArgs false
namespace Go.Proofs.Ytcghekbbaeejaaa.gr
open Go.RowKit Go.Proofs.Ytcghekbbaeejaaa.Gr

structure AS (w0 wr : World) (gm n : Nat) (v : Value) (ws : List Nat) (ms : List Bool) : Prop where
  wt : gi.Own wr w0.heap.size v (up ws)
  mt : Ow wr w0.heap.size 4 (.slice (some ⟨gm, 0, none⟩) n n) (ms.map .bool)
  ne : v.ownBlock ≠ some gm
  below : Below w0.heap.size w0 wr
  gm0 : w0.heap.size ≤ gm
  gm1 : gm < wr.heap.size
  ml : ms.length = n

theorem as_start {w0 w : World} {v : Value} {ws : List Nat} {h n : Nat} (hW : gi.Own w w0.heap.size v (up ws)) (hb : Below w0.heap.size w0 w) (hn : n ≤ 256) :
    AS w0 ((w.alloc (.cells (List.replicate n (Value.bool false)).toArray 4)).setCell ⟨w.heap.size, h, none⟩ (.bool true)) w.heap.size n v ws ((List.replicate n false).set h true) := by
  have m0 : Ow (w.alloc (.cells (List.replicate n (Value.bool false)).toArray 4)) w0.heap.size 4 (.slice (some ⟨w.heap.size, 0, none⟩) n n) ((List.replicate n false).map .bool) := by
    have := ow_new (w := w.alloc (.cells (List.replicate n (Value.bool false)).toArray 4)) (B := w0.heap.size) (g := w.heap.size) (cap := n) (T := 4) (cs := (List.replicate n (Value.bool false)).toArray) hb.size (heap_alloc_new w _) (by simp) (by unfold maxLen; omega)
    simpa using this
  obtain ⟨m1, m2⟩ := m0.stored h (.bool true)
  have hne : v.ownBlock ≠ some w.heap.size := fun e => by have := (gi_ow.1 hW).lt _ e; omega
  have g0 : w.grownBy (w.alloc (.cells (List.replicate n (Value.bool false)).toArray 4)) none := World.grownBy_alloc _ _ _
  have b1 := hb.alloc (by exact hb.size) (.cells (List.replicate n (Value.bool false)).toArray 4)
  refine ⟨own_kept (World.ownsRow.alloc hW _) m2 (.inr hne), by rw [List.map_set]; exact m1, hne, below_grown b1 m2 (by simp; exact Nat.le_succ_of_le hb.size) (fun j hj => by cases hj; exact hb.size), hb.size, by simp, by simp⟩
section
variable {w0 wr : World} {gm n : Nat} {v : Value} {ws : List Nat} {ms : List Bool}
theorem AS.bsz (h : AS w0 wr gm n v ws ms) : w0.heap.size ≤ wr.heap.size := h.below.size
theorem AS.met (h : AS w0 wr gm n v ws ms) {x : Nat} (hx : x < n) : wr.cell? ⟨gm, x, none⟩ = some (.bool (ms.getD x false)) ∧ wr.frozen? ⟨gm, x, none⟩ = false := by
  refine ⟨h.mt.cell ?_, h.mt.fz x⟩
  have := h.ml
  rw [List.getElem?_map, List.getElem?_eq_getElem (by omega), List.getD_eq_getElem?_getD, List.getElem?_eq_getElem (by omega)]; rfl
theorem AS.marked (h : AS w0 wr gm n v ws ms) (y : Nat) : AS w0 (wr.setCell ⟨gm, y, none⟩ (.bool true)) gm n v ws (ms.set y true) := by
  obtain ⟨s1, s2⟩ := h.mt.stored y (.bool true)
  refine ⟨own_kept h.wt s2 (.inr h.ne), by rw [List.map_set]; exact s1, h.ne, below_grown h.below s2 h.bsz (fun j hj => by cases hj; exact h.gm0), h.gm0, Nat.lt_of_lt_of_le h.gm1 s2.size, by rw [List.length_set]; exact h.ml⟩
theorem AS.more (h : AS w0 wr gm n v ws ms) {ys : List Nat} {v' : Value} {w' : World} (ho : gi.Own w' w0.heap.size v' (up ws ++ up ys)) (hg : wr.grownBy w' v.ownBlock) (hat : v'.ownBlock = v.ownBlock ∨ ∃ g, v'.ownBlock = some g ∧ wr.heap.size ≤ g) : AS w0 w' gm n v' (ws ++ ys) ms := by
  refine ⟨by have : up (ws ++ ys) = up ws ++ up ys := by simp [up]
             rw [this]; exact ho, h.mt.kept hg (.inr fun e => h.ne e.symm), fun e => ?_, below_grown h.below hg h.bsz (fun j hj => ((gi_ow.1 h.wt).lt j hj).1), h.gm0, Nat.lt_of_lt_of_le h.gm1 hg.size, h.ml⟩
  rcases hat with hat | ⟨g, hat, hl⟩
  · exact h.ne (hat ▸ e)
  · rw [hat] at e; have := h.gm1; cases e; omega
/-- the last one waiting, and the rest -/
theorem AS.top {wl : List Nat} {y : Nat} (h : AS w0 wr gm n v (wl ++ [y]) ms) : ∃ g cap, v = .slice (some ⟨g, 0, none⟩) (wl.length + 1) cap ∧ wl.length + 1 ≤ cap ∧ wr.cell? ⟨g, wl.length, none⟩ = some (.int .i64 (y : Nat)) ∧ AS w0 wr gm n (.slice (some ⟨g, 0, none⟩) wl.length cap) wl ms := by
  have hw := gi_ow.1 h.wt
  obtain ⟨g, cap, e, h1, h2, h3⟩ := hw.form (by simp [up])
  have hl : ((up (wl ++ [y])).map (Value.int .i64)).length = wl.length + 1 := by simp [up]
  rw [hl] at e h3
  subst e
  have hc := hw.cell (j := wl.length) (u := .int .i64 (y : Nat)) (by simp [up])
  have hk := hw.cut wl.length (by omega)
  refine ⟨g, cap, rfl, h3, hc, ?_, h.mt, h.ne, h.below, h.gm0, h.gm1, h.ml⟩
  rw [gi_ow]
  have : ((up (wl ++ [y])).map (Value.int .i64)).take wl.length = (up wl).map (Value.int .i64) := by simp [up]
  rwa [this] at hk
end
end Go.Proofs.Ytcghekbbaeejaaa.gr
