/- What goes to each node: the program's. -/
import Derived.Test.YtcghekbbaeejaaaGOrd2
set_option linter.unusedVariables false
set_option linter.unusedSimpArgs false
namespace Go.Proofs.Ytcghekbbaeejaaa.gr
open Go.RowKit Go.Proofs.Ytcghekbbaeejaaa.Gr

def addE (i : Nat) (O : List (List Nat)) (y : Nat) : List (List Nat) := O.set y (O.getD y [] ++ [i])
def addN (G : List (List Nat)) (O : List (List Nat)) (i : Nat) : List (List Nat) := (adj G i).foldl (addE i) O
def fromI (G : List (List Nat)) (i : Nat) : List (List Nat) := (List.range i).foldl (addN G) (List.replicate G.length [])
def fromL (G : List (List Nat)) : List (List Nat) := fromI G G.length
theorem fromI_succ (G : List (List Nat)) (i : Nat) : fromI G (i + 1) = addN G (fromI G i) i := by unfold fromI; rw [List.range_succ, List.foldl_append]; rfl
def fromJ (G : List (List Nat)) (i j : Nat) : List (List Nat) := ((adj G i).take j).foldl (addE i) (fromI G i)
theorem fromJ_zero (G : List (List Nat)) (i : Nat) : fromJ G i 0 = fromI G i := rfl
theorem fromJ_succ (G : List (List Nat)) (i j : Nat) (h : j < (adj G i).length) : fromJ G i (j + 1) = addE i (fromJ G i j) (adj G i)[j] := by unfold fromJ; rw [List.take_succ_eq_append_getElem h, List.foldl_append]; rfl
theorem fromJ_all (G : List (List Nat)) (i : Nat) : fromJ G i (adj G i).length = fromI G (i + 1) := by unfold fromJ; rw [List.take_of_length_le (Nat.le_refl _), fromI_succ]; rfl

theorem addE_len (i : Nat) (O : List (List Nat)) (y : Nat) : (addE i O y).length = O.length := List.length_set ..
theorem fold_len (i : Nat) : ∀ (l : List Nat) (O : List (List Nat)), (l.foldl (addE i) O).length = O.length
  | [], O => rfl
  | y :: l, O => by rw [List.foldl_cons, fold_len i l, addE_len]
theorem fromI_len (G : List (List Nat)) : ∀ i, (fromI G i).length = G.length
  | 0 => List.length_replicate ..
  | i + 1 => by rw [fromI_succ]; unfold addN; rw [fold_len, fromI_len G i]
theorem fromJ_len (G : List (List Nat)) (i j : Nat) : (fromJ G i j).length = G.length := by unfold fromJ; rw [fold_len, fromI_len]
theorem addE_getD (i : Nat) (O : List (List Nat)) (y b : Nat) : (addE i O y).getD b [] = if y = b ∧ y < O.length then O.getD y [] ++ [i] else O.getD b [] := getD_set ..
/-- a row is no longer than so many edges -/
theorem fold_row (i m : Nat) : ∀ (l : List Nat) (O : List (List Nat)), (∀ b, (O.getD b []).length ≤ m) → ∀ b, ((l.foldl (addE i) O).getD b []).length ≤ m + l.length
  | [], O, h => fun b => by simpa using h b
  | y :: l, O, h => fun b => by
    rw [List.foldl_cons]
    have := fold_row i (m + 1) l (addE i O y) (fun b => by
      rw [addE_getD]
      split
      · have := h y; rw [List.length_append]; simp only [List.length_cons, List.length_nil]; omega
      · have := h b; omega) b
    simp only [List.length_cons]; omega
theorem fromI_row (G : List (List Nat)) (hE : ∀ x, (adj G x).length ≤ 128) : ∀ i b, ((fromI G i).getD b []).length ≤ i * 128
  | 0, b => by
    unfold fromI
    rw [List.range_zero, List.foldl_nil, List.getD_eq_getElem?_getD, List.getElem?_replicate]
    split <;> simp
  | i + 1, b => by
    rw [fromI_succ]
    have := fold_row i (i * 128) (adj G i) (fromI G i) (fromI_row G hE i) b
    have := hE i
    unfold addN; omega
theorem fromJ_row (G : List (List Nat)) (hE : ∀ x, (adj G x).length ≤ 128) (i j b : Nat) (hi : i < 256) : ((fromJ G i j).getD b []).length ≤ 32896 := by
  have := fold_row i (i * 128) ((adj G i).take j) (fromI G i) (fromI_row G hE i) b
  have h2 := hE i
  have h3 : ((adj G i).take j).length ≤ 128 := by rw [List.length_take]; omega
  unfold fromJ; omega
theorem fold_mem (i : Nat) : ∀ (l : List Nat) (O : List (List Nat)) (b p : Nat), b < O.length → (p ∈ (l.foldl (addE i) O).getD b [] ↔ p ∈ O.getD b [] ∨ (p = i ∧ b ∈ l))
  | [], O, b, p, h => by simp
  | y :: l, O, b, p, h => by
    rw [List.foldl_cons, fold_mem i l _ b p (by rw [addE_len]; exact h), addE_getD]
    by_cases e : y = b
    · subst e
      rw [if_pos ⟨rfl, h⟩, List.mem_append, List.mem_singleton, List.mem_cons]
      constructor
      · rintro ((h | h) | ⟨h, h'⟩)
        · exact .inl h
        · exact .inr ⟨h, .inl rfl⟩
        · exact .inr ⟨h, .inr h'⟩
      · rintro (h | ⟨h, h' | h'⟩)
        · exact .inl (.inl h)
        · exact .inl (.inr h)
        · exact .inr ⟨h, h'⟩
    · rw [if_neg (fun x => e x.1), List.mem_cons]
      constructor
      · rintro (h | ⟨h, h'⟩)
        · exact .inl h
        · exact .inr ⟨h, .inr h'⟩
      · rintro (h | ⟨h, h' | h'⟩)
        · exact .inl h
        · exact absurd h'.symm e
        · exact .inr ⟨h, h'⟩
theorem fromI_mem (G : List (List Nat)) {b : Nat} (hb : b < G.length) : ∀ i p, p ∈ (fromI G i).getD b [] ↔ p < i ∧ b ∈ adj G p
  | 0, p => by
    unfold fromI
    rw [List.range_zero, List.foldl_nil, List.getD_eq_getElem?_getD, List.getElem?_replicate, if_pos hb]
    simp
  | i + 1, p => by
    rw [fromI_succ]
    unfold addN
    rw [fold_mem i _ _ b p (by rw [fromI_len]; exact hb), fromI_mem G hb i p]
    constructor
    · rintro (⟨h, h'⟩ | ⟨rfl, h⟩)
      · exact ⟨by omega, h'⟩
      · exact ⟨by omega, h⟩
    · rintro ⟨h, h'⟩
      by_cases e : p = i
      · subst e; exact .inr ⟨rfl, h'⟩
      · exact .inl ⟨by omega, h'⟩
theorem fromL_mem (G : List (List Nat)) {b : Nat} (hb : b < G.length) (p : Nat) : p ∈ (fromL G).getD b [] ↔ b ∈ adj G p := by
  unfold fromL
  rw [fromI_mem G hb]
  exact ⟨fun h => h.2, fun h => ⟨adj_lt h, h⟩⟩

/-- rows that are appended to, each the call's own -/
structure RW (w0 wr : World) (gb B1 n : Nat) (vs : List Value) (O : List (List Nat)) : Prop where
  out : Ow wr w0.heap.size 23 (.slice (some ⟨gb, 0, none⟩) n n) vs
  rows : ∀ k v, vs[k]? = some v → gi.Own wr B1 v (up (O.getD k []))
  apart : ∀ (j k : Nat) (vj vk : Value), j ≠ k → vs[j]? = some vj → vs[k]? = some vk → vj.ownBlock = none ∨ vk.ownBlock = none ∨ vj.ownBlock ≠ vk.ownBlock
  len : O.length = n
  below : Below w0.heap.size w0 wr
  gb0 : w0.heap.size ≤ gb
  gbb : gb < B1
  b1 : B1 ≤ wr.heap.size

section
variable {w0 wr w' : World} {gb B1 n : Nat} {vs : List Value} {O : List (List Nat)}
theorem RW.vlen (H : RW w0 wr gb B1 n vs O) : vs.length = n := H.out.len.1.symm
theorem RW.drewN (H : RW w0 wr gb B1 n vs O) (k : Nat) : RW w0 (wr.drewN k) gb B1 n vs O := ⟨H.out, H.rows, H.apart, H.len, H.below.trans (belowN _ _), H.gb0, H.gbb, H.b1⟩
theorem RW.get (H : RW w0 wr gb B1 n vs O) {y : Nat} (hy : y < n) : ∃ v, vs[y]? = some v ∧ wr.cell? ⟨gb, y, none⟩ = some v ∧ gi.Own wr B1 v (up (O.getD y [])) ∧ wr.frozen? ⟨gb, y, none⟩ = false := by
  have hl := H.vlen
  have h1 : vs[y]? = some vs[y] := List.getElem?_eq_getElem (by omega)
  exact ⟨vs[y], h1, H.out.cell h1, H.rows y _ h1, H.out.fz y⟩
theorem RW.add (H : RW w0 wr gb B1 n vs O) {y i g k c : Nat} {v : Value} (hy : y < n) (hv : vs[y]? = some v) (hg : wr.grownBy w' v.ownBlock) (hat : v.ownBlock = some g ∨ wr.heap.size ≤ g) (ho : gi.Own w' B1 (.slice (some ⟨g, 0, none⟩) k c) (up (O.getD y []) ++ [(i : Int)])) :
    w'.frozen? ⟨gb, y, none⟩ = false ∧ w'.cell? ⟨gb, y, none⟩ = some v ∧ RW w0 (w'.setCell ⟨gb, y, none⟩ (.slice (some ⟨g, 0, none⟩) k c)) gb B1 n (vs.set y (.slice (some ⟨g, 0, none⟩) k c)) (addE i O y) := by
  have hl := H.vlen
  have h1 := H.gb0; have h2 := H.gbb; have h3 := H.b1
  have hown := H.rows y v hv
  have far : ∀ j, v.ownBlock = some j → B1 ≤ j := fun j hj => (hown.lt j hj).1
  have hout := H.out.kept hg (.inr fun e => by have := far gb (by rw [← e]; rfl); omega)
  obtain ⟨s1, s2⟩ := hout.stored y (.slice (some ⟨g, 0, none⟩) k c)
  have hgB : B1 ≤ g := (ho.lt g rfl).1
  have hgo : ∀ (j : Nat) (u : Value) (xs : List Int), gi.Own w' B1 u xs → gi.Own (w'.setCell ⟨gb, y, none⟩ (.slice (some ⟨g, 0, none⟩) k c)) B1 u xs := fun j u xs h => own_kept h s2 (by
    cases hu : u.ownBlock with
    | none => exact .inl rfl
    | some j => right; intro e; have e : j = gb := Option.some.inj e; have := (h.lt j hu).1; omega)
  have hne : ∀ (j : Nat) (vj : Value), j ≠ y → vs[j]? = some vj → vj.ownBlock = none ∨ vj.ownBlock ≠ some g := fun (j : Nat) (vj : Value) hj hvj => by
    cases hu : vj.ownBlock with
    | none => exact .inl rfl
    | some b =>
      right
      intro e
      rcases hat with h | h
      · rcases H.apart j y vj v hj hvj hv with k' | k' | k'
        · rw [hu] at k'; cases k'
        · rw [h] at k'; cases k'
        · rw [hu, h] at k'; exact k' e
      · have := ((H.rows j vj hvj).lt b hu).2
        have e : b = g := Option.some.inj e; omega
  refine ⟨hout.fz y, hout.cell hv, ⟨s1, fun j u hu => ?_, fun j j' u u' hjj hu hu' => ?_, by rw [addE_len]; exact H.len, ?_, h1, h2, Nat.le_trans (Nat.le_trans h3 hg.size) s2.size⟩⟩
  · rw [List.getElem?_set] at hu
    rw [addE_getD]
    by_cases e : y = j
    · subst e
      rw [if_pos rfl, if_pos (by omega)] at hu
      cases hu
      rw [if_pos ⟨rfl, by rw [H.len]; exact hy⟩, up_snoc]
      exact hgo 0 _ _ ho
    · rw [if_neg e] at hu
      rw [if_neg (fun x => e x.1)]
      refine hgo 0 _ _ (own_kept (H.rows j u hu) hg ?_)
      cases hb : u.ownBlock with
      | none => exact .inl rfl
      | some b =>
        right
        rcases H.apart j y u v (Ne.symm e) hu hv with k' | k' | k'
        · rw [hb] at k'; cases k'
        · rw [k']; simp
        · rw [hb] at k'; exact k'
  · rw [List.getElem?_set] at hu hu'
    by_cases e : y = j
    · subst e
      rw [if_pos rfl, if_pos (by omega)] at hu
      rw [if_neg hjj] at hu'
      cases hu
      rcases hne j' u' (Ne.symm hjj) hu' with h | h
      · exact .inr (.inl h)
      · exact .inr (.inr fun e => h e.symm)
    · rw [if_neg e] at hu
      by_cases e' : y = j'
      · subst e'
        rw [if_pos rfl, if_pos (by omega)] at hu'
        cases hu'
        rcases hne j u (Ne.symm e) hu with h | h
        · exact .inl h
        · exact .inr (.inr h)
      · rw [if_neg e'] at hu'
        exact H.apart j j' u u' hjj hu hu'
  · exact below_grown (below_grown H.below hg (by omega) (fun j hj => by have := far j hj; omega)) s2 (by have := hg.size; omega) (fun j hj => by have hj : gb = j := Option.some.inj hj; omega)
theorem RW.rd (H : RW w0 wr gb B1 n vs O) : RdG wr (.slice (some ⟨gb, 0, none⟩) n n) (upp O) := by
  have hl := H.vlen
  have hO := H.len
  have hul : (upp O).length = n := by rw [upp_len, hO]
  refine ⟨some ⟨gb, 0, none⟩, n, by rw [hul], by omega, (fun h => by cases h), .inr ⟨gb, 0, rfl, fun k hk => ?_⟩⟩
  have h1 : vs[k]? = some vs[k] := List.getElem?_eq_getElem (by omega)
  refine ⟨vs[k], by rw [Nat.zero_add]; exact H.out.cell h1, ?_⟩
  rw [upp_getD]
  exact (H.rows k _ h1).rd
end
theorem rw_start {w : World} {n : Nat} (hn : n ≤ 256) : RW w (w.alloc (.cells (Array.replicate n (Value.slice none 0 0)) 23)) w.heap.size (w.heap.size + 1) n (List.replicate n (.slice none 0 0)) (List.replicate n []) := by
  have m0 : Ow (w.alloc (.cells (Array.replicate n (Value.slice none 0 0)) 23)) w.heap.size 23 (.slice (some ⟨w.heap.size, 0, none⟩) n n) (List.replicate n (.slice none 0 0)) := by
    have := ow_new (w := w.alloc (.cells (Array.replicate n (Value.slice none 0 0)) 23)) (B := w.heap.size) (g := w.heap.size) (cap := n) (T := 23) (cs := Array.replicate n (Value.slice none 0 0)) (Nat.le_refl _) (heap_alloc_new w _) (by simp) (by unfold maxLen; omega)
    simpa using this
  have hv : ∀ (k : Nat) (v : Value), (List.replicate n (Value.slice none 0 0))[k]? = some v → v = .slice none 0 0 := fun k v h => by
    rw [List.getElem?_replicate] at h; split at h
    · cases h; rfl
    · cases h
  refine ⟨m0, fun k v h => ?_, fun j k vj vk _ h _ => ?_, by simp, bnextA (Below.refl _ _) _, Nat.le_refl _, by omega, by simp⟩
  · rw [hv k v h]
    have : (List.replicate n ([] : List Nat)).getD k [] = [] := by
      rw [List.getD_eq_getElem?_getD, List.getElem?_replicate]; split <;> rfl
    rw [this]; exact gi.Own.nil _ _
  · rw [hv j vj h]; exact .inl rfl
end Go.Proofs.Ytcghekbbaeejaaa.gr
