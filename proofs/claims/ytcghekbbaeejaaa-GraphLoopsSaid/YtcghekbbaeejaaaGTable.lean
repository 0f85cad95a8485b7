/- The document's table: of all nodes whether one dominates another. -/
import Derived.Test.YtcghekbbaeejaaaGNearA
set_option linter.unusedVariables false
set_option linter.unusedSimpArgs false
namespace Go.Proofs.Ytcghekbbaeejaaa.gr
open Go.RowKit Go.Proofs.Ytcghekbbaeejaaa.Gr

theorem infobs : (Try.prog.info? 46).map (fun i => (i.zero, i.size, i.bytes)) = some (some (.slice none 0 0), 1, 24) := by kernel_rfl
theorem make_tab (n : Nat) (hn : n ≤ 1048576) (u : World) : (Instr.makeSlice 57 (.int .i64 n) (.int .i64 n)).run Try.prog u =
    .ok (.slice (some ⟨u.heap.size, 0, none⟩) n n) (u.alloc (.cells (List.replicate n (Value.slice none 0 0)).toArray 46)) := by
  obtain ⟨i0, hi, hz0, hz1, hz2⟩ := info_parts infobs
  have h := run_make (P := Try.prog) u 57 46 i0 (.slice none 0 0) Try.underlying57 hi hz0 .i64 .i64 (n : Int) (n : Int) (by omega) (by omega) (by rw [hz2]; omega) (by omega)
  rw [← toList_madeCells_one]
  simpa [hz1, Value.cells] using h

def allB (G : List (List Nat)) (b : Nat) : Bool := (wo G (-1)).getD b false
def woB (G : List (List Nat)) (a b : Nat) : Bool := (wo G (a : Int)).getD b false
def tB (G : List (List Nat)) (a b : Nat) : Bool := allB G a && (allB G b && !woB G a b)

/-- so many rows of the table are done -/
structure TS (G : List (List Nat)) (w0 wr : World) (gb : Nat) (vs : List Value) (i : Nat) : Prop where
  out : Ow wr w0.heap.size 46 (.slice (some ⟨gb, 0, none⟩) G.length G.length) vs
  rows : ∀ k, k < i → ∃ g, vs[k]? = some (.slice (some ⟨g, 0, none⟩) G.length G.length) ∧ gb < g ∧ ∀ b, b < G.length → wr.cell? ⟨g, b, none⟩ = some (.bool (tB G k b))
  below : Below w0.heap.size w0 wr
  gb0 : w0.heap.size ≤ gb
/-- a row in the making -/
structure TR (G : List (List Nat)) (w0 wr : World) (gb gr : Nat) (vs : List Value) (i j : Nat) : Prop where
  ts : TS G w0 wr gb vs i
  at_ : vs[i]? = some (.slice (some ⟨gr, 0, none⟩) G.length G.length)
  row : ∃ bs : List Bool, Ow wr w0.heap.size 4 (.slice (some ⟨gr, 0, none⟩) G.length G.length) (bs.map .bool) ∧ ∀ b, b < G.length → bs.getD b false = if b < j then tB G i b else false
  lt : gb < gr
  far : ∀ k, k < i → ∀ g, vs[k]? = some (.slice (some ⟨g, 0, none⟩) G.length G.length) → g ≠ gr

section
variable {G : List (List Nat)} {w0 wr : World} {gb gr : Nat} {vs : List Value} {i j : Nat}
theorem TS.lift (H : TS G w0 wr gb vs i) {y : World} (hb : Below wr.heap.size wr y) : TS G w0 y gb vs i :=
  ⟨H.out.kept (grown_of hb : wr.grownBy y none) (.inr (by simp [Value.ownBlock])), fun k hk => by
    obtain ⟨g, h1, h2, h3⟩ := H.rows k hk
    exact ⟨g, h1, h2, fun b hb' => by rw [hb.cell (p := ⟨g, b, none⟩) (World.block_lt_of_cell? wr _ (h3 b hb'))]; exact h3 b hb'⟩, H.below.trans (hb.mono H.below.size), H.gb0⟩
theorem TR.lift (H : TR G w0 wr gb gr vs i j) {y : World} (hb : Below wr.heap.size wr y) : TR G w0 y gb gr vs i j := by
  obtain ⟨bs, h1, h2⟩ := H.row
  exact ⟨H.ts.lift hb, H.at_, ⟨bs, h1.kept (grown_of hb : wr.grownBy y none) (.inr (by simp [Value.ownBlock])), h2⟩, H.lt, H.far⟩
theorem TS.vlen (H : TS G w0 wr gb vs i) : vs.length = G.length := H.out.len.1.symm
/-- a new row, and its store -/
theorem TS.row (H : TS G w0 wr gb vs i) (hn : G.length ≤ 256) (hi : i < G.length) (hlt : gb < wr.heap.size) :
    let y := wr.alloc (.cells (Array.replicate G.length (Value.bool false)) 4)
    (∃ u, y.cell? ⟨gb, i, none⟩ = some u) ∧ y.frozen? ⟨gb, i, none⟩ = false ∧ TR G w0 (y.setCell ⟨gb, i, none⟩ (.slice (some ⟨wr.heap.size, 0, none⟩) G.length G.length)) gb wr.heap.size (vs.set i (.slice (some ⟨wr.heap.size, 0, none⟩) G.length G.length)) i 0 := by
  intro y
  have hb : Below wr.heap.size wr y := bnextA (Below.refl _ _) _
  have K := H.lift hb
  have hvl := H.vlen
  have hu : vs[i]? = some vs[i] := List.getElem?_eq_getElem (by omega)
  obtain ⟨s1, s2⟩ := K.out.stored i (.slice (some ⟨wr.heap.size, 0, none⟩) G.length G.length)
  have m0 : Ow y w0.heap.size 4 (.slice (some ⟨wr.heap.size, 0, none⟩) G.length G.length) ((List.replicate G.length false).map .bool) := by
    have := ow_new (w := y) (B := w0.heap.size) (g := wr.heap.size) (cap := G.length) (T := 4) (cs := Array.replicate G.length (Value.bool false)) H.below.size (heap_alloc_new wr _) (by simp) (by unfold maxLen; omega)
    simpa using this
  have old : ∀ k, k < i → ∀ g, (vs.set i (.slice (some ⟨wr.heap.size, 0, none⟩) G.length G.length))[k]? = some (.slice (some ⟨g, 0, none⟩) G.length G.length) → vs[k]? = some (.slice (some ⟨g, 0, none⟩) G.length G.length) := fun k hk g hg => by
    rw [List.getElem?_set, if_neg (by omega)] at hg; exact hg
  refine ⟨⟨_, K.out.cell hu⟩, K.out.fz i, ⟨⟨s1, fun k hk => ?_, below_grown K.below s2 (by have := K.below.size; omega) (fun j hj => by have hj : gb = j := Option.some.inj hj; have := H.gb0; omega), H.gb0⟩, ?_, ⟨List.replicate G.length false, m0.kept s2 (.inr fun e => by have e : wr.heap.size = gb := Option.some.inj e; omega), fun b hb => ?_⟩, hlt, fun k hk g hg => ?_⟩⟩
  · obtain ⟨g, h1, h2, h3⟩ := K.rows k hk
    refine ⟨g, by rw [List.getElem?_set, if_neg (by omega)]; exact h1, h2, fun b hb => grown_cell s2 (h3 b hb) (fun e => by have e : g = gb := Option.some.inj e; omega)⟩
  · rw [List.getElem?_set, if_pos rfl, if_pos (by omega)]
  · rw [List.getD_eq_getElem?_getD, List.getElem?_replicate, if_pos hb]; rfl
  · obtain ⟨g', h1, _, h3⟩ := H.rows k hk
    rw [old k hk g hg] at h1
    simp only [Option.some.injEq, Value.slice.injEq, Addr.mk.injEq, and_true] at h1
    subst h1
    have := World.block_lt_of_cell? wr _ (h3 0 (by omega))
    exact Nat.ne_of_lt this
theorem TR.cells (H : TR G w0 wr gb gr vs i j) {b : Nat} (hb : b < G.length) : wr.cell? ⟨gb, i, none⟩ = some (.slice (some ⟨gr, 0, none⟩) G.length G.length) ∧ (∃ u, wr.cell? ⟨gr, b, none⟩ = some (.bool u)) ∧ wr.frozen? ⟨gr, b, none⟩ = false := by
  obtain ⟨bs, h1, h2⟩ := H.row
  have hl := h1.len.1
  rw [List.length_map] at hl
  exact ⟨H.ts.out.cell H.at_, ⟨_, h1.cell (by rw [List.getElem?_map, List.getElem?_eq_getElem (by omega)]; rfl)⟩, h1.fz b⟩
theorem TR.put (H : TR G w0 wr gb gr vs i j) (hj : j < G.length) {u : Bool} (hu : u = tB G i j) : wr.grownBy (wr.setCell ⟨gr, j, none⟩ (.bool u)) (some gr) ∧ TR G w0 (wr.setCell ⟨gr, j, none⟩ (.bool u)) gb gr vs i (j + 1) := by
  obtain ⟨bs, h1, h2⟩ := H.row
  obtain ⟨s1, s2⟩ := h1.stored j (.bool u)
  have hl := h1.len.1
  rw [List.length_map] at hl
  have hlt := H.lt
  have h0 := H.ts.gb0
  refine ⟨s2, ⟨⟨H.ts.out.kept s2 (.inr fun e => by have e : gb = gr := Option.some.inj e; omega), fun k hk => ?_, below_grown H.ts.below s2 H.ts.below.size (fun j hj => by have hj : gr = j := Option.some.inj hj; omega), h0⟩, H.at_, ⟨bs.set j u, by rw [List.map_set]; exact s1, fun b hb => ?_⟩, hlt, H.far⟩⟩
  · obtain ⟨g, k1, k2, k3⟩ := H.ts.rows k hk
    exact ⟨g, k1, k2, fun b hb => grown_cell s2 (k3 b hb) (fun e => H.far k hk g k1 (Option.some.inj e))⟩
  · rw [Gr.getD_set, ← hl]
    by_cases e : j = b
    · subst e; rw [if_pos ⟨rfl, hj⟩, if_pos (by omega)]; exact hu
    · rw [if_neg (fun h => e h.1), h2 b hb]
      by_cases e2 : b < j
      · rw [if_pos e2, if_pos (by omega)]
      · rw [if_neg e2, if_neg (by omega)]
theorem TR.done (H : TR G w0 wr gb gr vs i j) (h : ∀ b, b < G.length → (if b < j then tB G i b else false) = tB G i b) : TS G w0 wr gb vs (i + 1) := by
  refine ⟨H.ts.out, fun k hk => ?_, H.ts.below, H.ts.gb0⟩
  by_cases e : k = i
  · subst e
    obtain ⟨bs, h1, h2⟩ := H.row
    have hl := h1.len.1
    rw [List.length_map] at hl
    refine ⟨gr, H.at_, H.lt, fun b hb => ?_⟩
    have := h1.cell (j := b) (u := .bool (bs.getD b false)) (by rw [List.getElem?_map, List.getD_eq_getElem?_getD, List.getElem?_eq_getElem (by omega)]; rfl)
    rw [this, h2 b hb, h b hb]
  · exact H.ts.rows k (by omega)
end
theorem ts_start {G : List (List Nat)} {w1 : World} (hn : G.length ≤ 256) : TS G w1 (w1.alloc (.cells (Array.replicate G.length (Value.slice none 0 0)) 46)) w1.heap.size (List.replicate G.length (.slice none 0 0)) 0 := by
  refine ⟨?_, fun k hk => by omega, bnextA (Below.refl _ _) _, Nat.le_refl _⟩
  have := ow_new (w := w1.alloc (.cells (Array.replicate G.length (Value.slice none 0 0)) 46)) (B := w1.heap.size) (g := w1.heap.size) (cap := G.length) (T := 46) (cs := Array.replicate G.length (Value.slice none 0 0)) (Nat.le_refl _) (heap_alloc_new w1 _) (by simp) (by unfold maxLen; omega)
  simpa using this

/-- the table lies there -/
def RdT (G : List (List Nat)) (w : World) (gb : Nat) : Prop := ∀ a, a < G.length → ∃ g, w.cell? ⟨gb, a, none⟩ = some (.slice (some ⟨g, 0, none⟩) G.length G.length) ∧ ∀ b, b < G.length → w.cell? ⟨g, b, none⟩ = some (.bool (tB G a b))
theorem TS.rd {G : List (List Nat)} {w0 wr : World} {gb : Nat} {vs : List Value} (H : TS G w0 wr gb vs G.length) : RdT G wr gb := fun a ha => by
  obtain ⟨g, h1, _, h3⟩ := H.rows a ha
  exact ⟨g, H.out.cell h1, h3⟩
theorem RdT.lift {G : List (List Nat)} {w w' : World} {gb : Nat} (h : RdT G w gb) (hb : Below w.heap.size w w') : RdT G w' gb := fun a ha => by
  obtain ⟨g, h1, h2⟩ := h a ha
  exact ⟨g, by rw [hb.cell (p := ⟨gb, a, none⟩) (World.block_lt_of_cell? w _ h1)]; exact h1, fun b hb' => by rw [hb.cell (p := ⟨g, b, none⟩) (World.block_lt_of_cell? w _ (h2 b hb'))]; exact h2 b hb'⟩
end Go.Proofs.Ytcghekbbaeejaaa.gr
