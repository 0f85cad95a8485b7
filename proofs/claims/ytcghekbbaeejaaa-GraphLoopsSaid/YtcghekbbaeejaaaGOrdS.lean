/- The state of the walk with a stack, in memory. -/
import Derived.Test.YtcghekbbaeejaaaGClone
set_option linter.unusedVariables false
set_option linter.unusedSimpArgs false
namespace Go.Proofs.Ytcghekbbaeejaaa.gr
open Go.RowKit Go.Proofs.Ytcghekbbaeejaaa.Gr

def up (l : List Nat) : List Int := l.map fun (n : Nat) => (n : Int)
def upp (G : List (List Nat)) : List (List Int) := G.map up
theorem up_len (l : List Nat) : (up l).length = l.length := List.length_map _
theorem upp_len (G : List (List Nat)) : (upp G).length = G.length := List.length_map _
theorem up_getD {l : List Nat} {k : Nat} (h : k < l.length) : (up l).getD k 0 = ((l.getD k 0 : Nat) : Int) := by
  unfold up; rw [List.getD_eq_getElem?_getD, List.getElem?_map, List.getD_eq_getElem?_getD, List.getElem?_eq_getElem h]; rfl
theorem upp_getD (G : List (List Nat)) (k : Nat) : (upp G).getD k [] = up (G.getD k []) := by
  unfold upp
  rw [List.getD_eq_getElem?_getD, List.getElem?_map, List.getD_eq_getElem?_getD]
  cases h : G[k]? with
  | none => rfl
  | some t => rfl
theorem upp_set (G : List (List Nat)) (k : Nat) (t : List Nat) : (upp G).set k (up t) = upp (G.set k t) := by unfold upp; rw [List.map_set]

/-- one cell less at the front -/
def tailV (b off n cap : Nat) : Value := if cap = 1 then .slice (some ⟨b, off, none⟩) (n - 1) 0 else .slice (some ⟨b, off + 1, none⟩) (n - 1) (cap - 1)
theorem rd_tail {w : World} {b off n cap : Nat} {y : Int} {ys : List Int} (h : gi.Rd w (.slice (some ⟨b, off, none⟩) n cap) (y :: ys)) : gi.Rd w (tailV b off n cap) ys := by
  obtain ⟨ao, c, e, hc, hz, h⟩ := h
  simp only [Value.slice.injEq, List.length_cons] at e
  obtain ⟨rfl, rfl, rfl⟩ := e
  simp only [List.length_cons] at hc
  unfold tailV
  by_cases h1 : cap = 1
  · rw [if_pos h1]
    have : ys = [] := List.eq_nil_of_length_eq_zero (by omega)
    subst this
    exact ⟨some ⟨b, off, none⟩, 0, rfl, Nat.le_refl _, (fun h => by cases h), .inl rfl⟩
  · rw [if_neg h1]
    refine ⟨some ⟨b, off + 1, none⟩, cap - 1, by simp, by omega, (fun h => by cases h), ?_⟩
    by_cases h0 : ys = []
    · exact .inl h0
    · rcases h with h | ⟨b', off', e, h⟩
      · cases h
      · cases e
        refine .inr ⟨b, off + 1, rfl, fun k hk => ?_⟩
        have := h (k + 1) (by simpa using hk)
        rw [show off + 1 + k = off + (k + 1) by omega, this]; rfl

structure OS (w0 wr : World) (gl cl gm B1 n : Nat) (v5 v6 : Value) (left : List (List Nat)) (st : List Nat) (ms : List Bool) (dn : List Nat) : Prop where
  lv : ∃ vs, Ow wr w0.heap.size 23 (.slice (some ⟨gl, 0, none⟩) n cl) vs ∧ RdL w0 vs (upp left)
  mt : Ow wr w0.heap.size 4 (.slice (some ⟨gm, 0, none⟩) n n) (ms.map .bool)
  wy : gi.Own wr B1 v5 (up st.reverse)
  dn : gi.Own wr B1 v6 (up dn)
  apart : v5.ownBlock = none ∨ v6.ownBlock = none ∨ v5.ownBlock ≠ v6.ownBlock
  below : Below w0.heap.size w0 wr
  gl0 : w0.heap.size ≤ gl
  glm : gl < gm
  gmb : gm < B1
  b1 : B1 ≤ wr.heap.size

theorem own_kept {w w' : World} {B : Nat} {row : Option Nat} {v : Value} {xs : List Int} (h : gi.Own w B v xs) (hg : w.grownBy w' row) (hne : v.ownBlock = none ∨ v.ownBlock ≠ row) : gi.Own w' B v xs := World.ownsRow.kept h hg hne

section
variable {w0 wr w' : World} {gl cl gm B1 n : Nat} {v5 v6 : Value} {lf : List (List Nat)} {st : List Nat} {ms : List Bool} {dn : List Nat}
/-- a step that turns a row which lies from B1 on alone -/
theorem OS.far (h : OS w0 wr gl cl gm B1 n v5 v6 lf st ms dn) {row : Option Nat} (hg : wr.grownBy w' row) (hr : ∀ j, row = some j → B1 ≤ j) :
    (∃ vs, Ow w' w0.heap.size 23 (.slice (some ⟨gl, 0, none⟩) n cl) vs ∧ RdL w0 vs (upp lf)) ∧ Ow w' w0.heap.size 4 (.slice (some ⟨gm, 0, none⟩) n n) (ms.map .bool) ∧ Below w0.heap.size w0 w' ∧ B1 ≤ w'.heap.size := by
  have h1 := h.gl0; have h2 := h.glm; have h3 := h.gmb; have h4 := h.b1
  obtain ⟨vs, k1, k2⟩ := h.lv
  refine ⟨⟨vs, k1.kept hg (.inr fun e => ?_), k2⟩, h.mt.kept hg (.inr fun e => ?_), below_grown h.below hg (by omega) (fun j hj => by have := hr j hj; omega), Nat.le_trans h4 hg.size⟩
  · have := hr gl (by rw [← e]; rfl); omega
  · have := hr gm (by rw [← e]; rfl); omega
theorem OS.pushed (h : OS w0 wr gl cl gm B1 n v5 v6 lf st ms dn) {g y : Nat} (hg : wr.grownBy w' v5.ownBlock) (hat : v5.ownBlock = some g ∨ wr.heap.size < g)  {k c : Nat} (ho : gi.Own w' B1 (.slice (some ⟨g, 0, none⟩) k c) (up st.reverse ++ [(y : Int)])) : OS w0 w' gl cl gm B1 n (.slice (some ⟨g, 0, none⟩) k c) v6 lf (y :: st) ms dn := by
  obtain ⟨a1, a2, a3, a4⟩ := h.far hg (fun j hj => (h.wy.lt j hj).1)
  have e : up (y :: st).reverse = up st.reverse ++ [(y : Int)] := by unfold up; simp
  refine ⟨a1, a2, by rw [e]; exact ho, own_kept h.dn hg ?_, ?_, a3, h.gl0, h.glm, h.gmb, a4⟩
  · cases hv : v6.ownBlock with
    | none => exact .inl rfl
    | some j =>
      right
      rcases h.apart with h' | h' | h'
      · rw [h']; simp
      · rw [hv] at h'; cases h'
      · rw [hv] at h'; exact fun e => h' e.symm
  · cases hv : v6.ownBlock with
    | none => exact .inr (.inl rfl)
    | some j =>
      right; right
      intro e
      change some g = some j at e
      cases e
      rcases hat with h' | h'
      · rcases h.apart with k' | k' | k'
        · rw [h'] at k'; cases k'
        · rw [hv] at k'; cases k'
        · rw [h', hv] at k'; exact k' rfl
      · have := (h.dn.lt g hv).2; omega
theorem OS.doned (h : OS w0 wr gl cl gm B1 n v5 v6 lf st ms dn) {g y : Nat} (hg : wr.grownBy w' v6.ownBlock) (hat : v6.ownBlock = some g ∨ wr.heap.size < g)
    {k c : Nat} (ho : gi.Own w' B1 (.slice (some ⟨g, 0, none⟩) k c) (up dn ++ [(y : Int)])) : OS w0 w' gl cl gm B1 n v5 (.slice (some ⟨g, 0, none⟩) k c) lf st ms (dn ++ [y]) := by
  obtain ⟨a1, a2, a3, a4⟩ := h.far hg (fun j hj => (h.dn.lt j hj).1)
  have e : up (dn ++ [y]) = up dn ++ [(y : Int)] := by unfold up; simp
  refine ⟨a1, a2, own_kept h.wy hg ?_, by rw [e]; exact ho, ?_, a3, h.gl0, h.glm, h.gmb, a4⟩
  · cases hv : v5.ownBlock with
    | none => exact .inl rfl
    | some j =>
      right
      rcases h.apart with h' | h' | h'
      · rw [hv] at h'; cases h'
      · rw [h']; simp
      · rw [hv] at h'; exact h'
  · cases hv : v5.ownBlock with
    | none => exact .inl rfl
    | some j =>
      right; right
      intro e
      change some j = some g at e
      cases e
      rcases hat with h' | h'
      · rcases h.apart with k' | k' | k'
        · rw [hv] at k'; cases k'
        · rw [h'] at k'; cases k'
        · rw [h', hv] at k'; exact k' rfl
      · have := (h.wy.lt _ hv).2; omega
/-- the stack's top, and the stack without it -/
theorem OS.top {x : Nat} (h : OS w0 wr gl cl gm B1 n v5 v6 lf (x :: st) ms dn) : ∃ g cap, v5 = .slice (some ⟨g, 0, none⟩) (st.length + 1) cap ∧ st.length + 1 ≤ cap ∧ wr.cell? ⟨g, st.length, none⟩ = some (.int .i64 x) ∧
    OS w0 wr gl cl gm B1 n (.slice (some ⟨g, 0, none⟩) st.length cap) v6 lf st ms dn := by
  have e : up (x :: st).reverse = up st.reverse ++ [(x : Int)] := by unfold up; simp
  have hw := h.wy
  rw [e] at hw
  have hl : (up st.reverse ++ [(x : Int)]).length = st.length + 1 := by simp [up]
  obtain ⟨g, cap, hv, hB, hlt, hc⟩ := (gi_ow.1 hw).form (by simp)
  rw [List.length_map, hl] at hv hc
  subst hv
  have h1 := (gi_ow.1 hw).cell (j := st.length) (u := .int .i64 x) (by simp [up])
  have h2 := (gi_ow.1 hw).cut st.length (by omega)
  refine ⟨g, cap, rfl, hc, h1, ⟨h.lv, h.mt, ?_, h.dn, h.apart, h.below, h.gl0, h.glm, h.gmb, h.b1⟩⟩
  rw [gi_ow]
  have e2 : (List.map (Value.int IntKind.i64) (up st.reverse ++ [(x : Int)])).take st.length = List.map (Value.int IntKind.i64) (up st.reverse) := by
    rw [List.map_append, List.take_append_of_le_length (by simp [up]), List.take_of_length_le (by simp [up])]
  rw [← e2]; exact h2
/-- what is left of a node -/
theorem OS.left (h : OS w0 wr gl cl gm B1 n v5 v6 lf st ms dn) {x : Nat} (hx : x < n) (hl : lf.length = n) : ∃ u, wr.cell? ⟨gl, x, none⟩ = some u ∧ gi.Rd w0 u (up (lf.getD x [])) ∧ n ≤ cl ∧ wr.frozen? ⟨gl, x, none⟩ = false := by
  obtain ⟨vs, k1, k2⟩ := h.lv
  have hvl : vs.length = n := by rw [k2.1, upp_len, hl]
  refine ⟨vs[x], k1.cell (List.getElem?_eq_getElem (by omega)), ?_, k1.len.2, k1.fz x⟩
  have := k2.2 x vs[x] (List.getElem?_eq_getElem (by omega))
  rwa [upp_getD] at this
theorem OS.skipped (h : OS w0 wr gl cl gm B1 n v5 v6 lf st ms dn) {x : Nat} (hx : x < n) (hl : lf.length = n) {u : Value} {ys : List Nat} (hu : gi.Rd w0 u (up ys)) :
    OS w0 (wr.setCell ⟨gl, x, none⟩ u) gl cl gm B1 n v5 v6 (lf.set x ys) st ms dn := by
  obtain ⟨vs, k1, k2⟩ := h.lv
  obtain ⟨s1, s2⟩ := k1.stored x u
  have h1 := h.gl0; have h2 := h.glm; have h3 := h.gmb; have h4 := h.b1
  have hvl : vs.length = n := by rw [k2.1, upp_len, hl]
  have far : ∀ (v : Value) (xs : List Int), gi.Own wr B1 v xs → gi.Own (wr.setCell ⟨gl, x, none⟩ u) B1 v xs := fun v xs ho => own_kept ho s2 (by
    cases hv : v.ownBlock with
    | none => exact .inl rfl
    | some j => right; intro e; have e : j = gl := Option.some.inj e; subst e; have := (ho.lt j hv).1; omega)
  refine ⟨⟨vs.set x u, s1, ?_, fun k v hk => ?_⟩, h.mt.kept s2 (.inr fun e => ?_), far _ _ h.wy, far _ _ h.dn, h.apart, below_grown h.below s2 (by omega) (fun j hj => by have hj : gl = j := Option.some.inj hj; omega), h.gl0, h.glm, h.gmb, Nat.le_trans h4 s2.size⟩
  · rw [List.length_set, k2.1, upp_len, upp_len, List.length_set]
  · rw [upp_getD, Gr.getD_set]
    rw [List.getElem?_set] at hk
    by_cases e : x = k
    · subst e
      rw [if_pos rfl, if_pos (by omega)] at hk
      cases hk
      rw [if_pos ⟨rfl, by omega⟩]; exact hu
    · rw [if_neg e] at hk
      rw [if_neg (fun h => e h.1), ← upp_getD]; exact k2.2 k v hk
  · have e : gm = gl := Option.some.inj e; omega
theorem OS.met (h : OS w0 wr gl cl gm B1 n v5 v6 lf st ms dn) {x : Nat} (hx : x < n) (hl : ms.length = n) : wr.cell? ⟨gm, x, none⟩ = some (.bool (met ms x)) ∧ wr.frozen? ⟨gm, x, none⟩ = false := by
  refine ⟨h.mt.cell ?_, h.mt.fz x⟩
  rw [List.getElem?_map, List.getElem?_eq_getElem (by omega), met_get (by omega)]; rfl
theorem OS.marked (h : OS w0 wr gl cl gm B1 n v5 v6 lf st ms dn) (y : Nat) : OS w0 (wr.setCell ⟨gm, y, none⟩ (.bool true)) gl cl gm B1 n v5 v6 lf st (ms.set y true) dn := by
  obtain ⟨vs, k1, k2⟩ := h.lv
  obtain ⟨s1, s2⟩ := h.mt.stored y (.bool true)
  have h1 := h.gl0; have h2 := h.glm; have h3 := h.gmb; have h4 := h.b1
  have far : ∀ (v : Value) (xs : List Int), gi.Own wr B1 v xs → gi.Own (wr.setCell ⟨gm, y, none⟩ (.bool true)) B1 v xs := fun v xs ho => own_kept ho s2 (by
    cases hv : v.ownBlock with
    | none => exact .inl rfl
    | some j => right; intro e; have e : j = gm := Option.some.inj e; subst e; have := (ho.lt j hv).1; omega)
  refine ⟨⟨vs, k1.kept s2 (.inr fun e => ?_), k2⟩, by rw [List.map_set]; exact s1, far _ _ h.wy, far _ _ h.dn, h.apart, below_grown h.below s2 (by omega) (fun j hj => by have hj : gm = j := Option.some.inj hj; omega), h.gl0, h.glm, h.gmb, Nat.le_trans h4 s2.size⟩
  have e : gl = gm := Option.some.inj e; omega
end
end Go.Proofs.Ytcghekbbaeejaaa.gr
