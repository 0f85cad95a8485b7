/- The struct of the program's nearest dominators: what a store turns; places in the order. -/
import Derived.Test.YtcghekbbaeejaaaGNearA0
set_option linter.unusedVariables false
set_option linter.unusedSimpArgs false
namespace Go.Proofs.Ytcghekbbaeejaaa.gr
open Go.RowKit Go.Proofs.Ytcghekbbaeejaaa.Gr

section
variable {n : Nat} {w1 x : World} {h gn gp : Nat} {N P : List Int}
theorem NF.lift (H : NF n w1 x h gn gp N P) {y : World} (hb : Below x.heap.size x y) : NF n w1 y h gn gp N P :=
  ⟨(hb.block h (Array.getElem?_eq_some_iff.1 H.box).1).trans H.box, H.nr.lift hb, H.pl.lift hb, H.below.trans (hb.mono H.below.size), H.hb, H.np, H.nh, H.ph⟩
theorem NF.cells (H : NF n w1 x h gn gp N P) : x.cell? ⟨h, 0, none⟩ = some (.slice (some ⟨gn, 0, none⟩) n n) ∧ x.cell? ⟨h, 1, none⟩ = some (.slice (some ⟨gp, 0, none⟩) n n) := by
  have e := H.box
  refine ⟨?_, ?_⟩ <;> simp [World.cell?, e]
theorem NF.nlen (H : NF n w1 x h gn gp N P) : N.length = n := by have := (gi_ow.1 H.nr).len.1; simpa using this.symm
theorem NF.plen (H : NF n w1 x h gn gp N P) : P.length = n := by have := (gi_ow.1 H.pl).len.1; simpa using this.symm
theorem NF.ncell (H : NF n w1 x h gn gp N P) {b : Nat} (hb : b < n) : x.cell? ⟨gn, b, none⟩ = some (.int .i64 (N.getD b 0)) ∧ x.frozen? ⟨gn, b, none⟩ = false :=
  ⟨(gi_ow.1 H.nr).cell (gi.get_map (by rw [H.nlen]; exact hb)), (gi_ow.1 H.nr).fz b⟩
theorem NF.pcell (H : NF n w1 x h gn gp N P) {b : Nat} (hb : b < n) : x.cell? ⟨gp, b, none⟩ = some (.int .i64 (P.getD b 0)) ∧ x.frozen? ⟨gp, b, none⟩ = false :=
  ⟨(gi_ow.1 H.pl).cell (gi.get_map (by rw [H.plen]; exact hb)), (gi_ow.1 H.pl).fz b⟩
theorem NF.nrd (H : NF n w1 x h gn gp N P) : gi.Rd x (.slice (some ⟨gn, 0, none⟩) n n) N := H.nr.rd
theorem NF.prd (H : NF n w1 x h gn gp N P) : gi.Rd x (.slice (some ⟨gp, 0, none⟩) n n) P := H.pl.rd
theorem NF.setN (H : NF n w1 x h gn gp N P) (b : Nat) (r : Int) : NF n w1 (x.setCell ⟨gn, b, none⟩ (.int .i64 r)) h gn gp (N.set b r) P := by
  obtain ⟨s1, s2⟩ := (gi_ow.1 H.nr).stored b (.int .i64 r)
  have hg := (H.nr.lt gn rfl).1
  refine ⟨grown_heap s2 H.box (fun e => H.nh (Option.some.inj e).symm), by rw [gi_ow, List.map_set]; exact s1, own_kept H.pl s2 (.inr fun e => H.np (Option.some.inj e).symm), below_grown H.below s2 H.below.size (fun j hj => by have hj : gn = j := Option.some.inj hj; omega), H.hb, H.np, H.nh, H.ph⟩
theorem NF.setP (H : NF n w1 x h gn gp N P) (b : Nat) (r : Int) : NF n w1 (x.setCell ⟨gp, b, none⟩ (.int .i64 r)) h gn gp N (P.set b r) := by
  obtain ⟨s1, s2⟩ := (gi_ow.1 H.pl).stored b (.int .i64 r)
  have hg := (H.pl.lt gp rfl).1
  refine ⟨grown_heap s2 H.box (fun e => H.ph (Option.some.inj e).symm), own_kept H.nr s2 (.inr fun e => H.np (Option.some.inj e)), by rw [gi_ow, List.map_set]; exact s1, below_grown H.below s2 H.below.size (fun j hj => by have hj : gp = j := Option.some.inj hj; omega), H.hb, H.np, H.nh, H.ph⟩
end

/-- the places of the first i of the order are laid -/
def PL (ord : List Nat) (i : Nat) (P : List Int) : Prop := ∀ k, k < i → ∀ (h : k < ord.length), P.getD ord[k] 0 = (k : Int)
theorem PL.step {ord : List Nat} {i n : Nat} {P : List Int} (h : PL ord i P) (hn : ord.Nodup) (hP : P.length = n) (hi : i < ord.length) (hx : ord[i] < n) : PL ord (i + 1) (P.set ord[i] (i : Int)) := fun k hk hkl => by
  rw [Gr.getD_set]
  by_cases e : ord[i] = ord[k]
  · rw [if_pos ⟨e, by omega⟩]
    have e1 := hn.idxOf_getElem i hi
    have e2 := hn.idxOf_getElem k hkl
    rw [e] at e1
    omega
  · rw [if_neg (fun h => e h.1)]
    have : k ≠ i := fun e' => e (by subst e'; rfl)
    exact h k (by omega) hkl
theorem PL.all {ord : List Nat} {P : List Int} (h : PL ord ord.length P) : ∀ x ∈ ord, P.getD x 0 = (ord.idxOf x : Int) := fun x hx => by
  have h1 := List.idxOf_lt_length_of_mem hx
  have := h _ h1 h1
  rwa [List.getElem_idxOf] at this

def preds (G : List (List Nat)) (b : Nat) : List Nat := (fromL G).getD b []
/-- so far in a pass nothing turned -/
def Still (G : List (List Nat)) (ord : List Nat) (i : Nat) (N : List Int) : Prop := ∀ y ∈ ord, y ≠ 0 → ord.idxOf y < i → MeetAll N (preds G y) (N.getD y (-1))
theorem set_same {N : List Int} {b : Nat} {r : Int} (hb : b < N.length) (h : N.getD b 0 = r) : N.set b r = N := by
  refine List.ext_getElem (by simp) fun k h1 h2 => ?_
  rw [List.getElem_set]
  by_cases e : b = k
  · subst e
    rw [if_pos rfl, ← h, List.getD_eq_getElem?_getD, List.getElem?_eq_getElem hb]; rfl
  · rw [if_neg e]
/-- one node more of a pass -/
theorem pass_step {G : List (List Nat)} {ord : List Nat} {k i : Nat} {N : List Int} {r : Int} (F : Fine G) (ho : IsOrder G ord) (I : Inv G ord k (i + 1) N) (hi : i + 1 < ord.length) (hm : MeetAll N (preds G ord[i + 1]) r) :
    Inv G ord k (i + 2) (N.set ord[i + 1] r) ∧ (N.getD ord[i + 1] 0 = r → N.set ord[i + 1] r = N ∧ (Still G ord (i + 1) N → Still G ord (i + 2) N)) ∧ (N.getD ord[i + 1] 0 ≠ r → k < G.length) := by
  have hb : ord[i + 1] ∈ ord := List.getElem_mem hi
  have hix : ord.idxOf ord[i + 1] = i + 1 := ho.nodup.idxOf_getElem _ hi
  obtain ⟨tl, et⟩ := ho.first
  have h0 : ord[i + 1] ≠ 0 := fun e => by
    rw [e] at hix
    rw [et] at hix; simp at hix
  have hbl := ((ho.mem _).1 hb).lt
  obtain ⟨_, h2, h3⟩ := I.next F.wf ho hb hix h0 (fun p => fromL_mem G hbl p) hm
  have hbn : ord[i + 1] < N.length := by rw [I.tree.len]; exact hbl
  refine ⟨h2, fun e => ⟨set_same hbn e, fun hs y hy hy0 hyi => ?_⟩, fun e => ?_⟩
  · by_cases hlt : ord.idxOf y < i + 1
    · exact hs y hy hy0 hlt
    · have : y = ord[i + 1] := idx_inj hy hb (by omega)
      subst this
      rw [getD_dflt hbn (-1) 0, e]; exact hm
  · apply Classical.byContradiction
    intro hk
    have := h3 (by omega)
    rw [getD_dflt hbn (-1) 0] at this
    exact e this.symm
theorem pass_end {G : List (List Nat)} {ord : List Nat} {k : Nat} {N : List Int} (F : Fine G) (ho : IsOrder G ord) (I : Inv G ord k 1 N) (hs : Still G ord ord.length N) : IsNear G N :=
  fixed F.wf ho I.tree (preds G) (fun b hb p => fromL_mem G ((ho.mem b).1 hb).lt p) (fun b hb h0 => hs b hb h0 (List.idxOf_lt_length_of_mem hb))
theorem still_one {G : List (List Nat)} {ord : List Nat} {N : List Int} (ho : IsOrder G ord) : Still G ord 1 N := fun y hy h0 hi => by
  obtain ⟨tl, e⟩ := ho.first
  subst e
  rw [List.idxOf_cons] at hi
  by_cases h : (0 == y) = true
  · exact absurd (beq_iff_eq.1 h).symm h0
  · simp [h] at hi
theorem dm_of {G : List (List Nat)} {ord : List Nat} {k i : Nat} {N P : List Int} (F : Fine G) (ho : IsOrder G ord) (I : Inv G ord k i N) (hP : P.length = G.length) (hpl : PL ord ord.length P) : Dm G ord N P := ⟨I.tree, ho, F.wf, F.n, hP, hpl.all⟩
theorem preds_lt {G : List (List Nat)} {b : Nat} (hb : b < G.length) : ∀ x ∈ preds G b, x < G.length := fun x hx => adj_lt ((fromL_mem G hb x).1 hx)
theorem preds_len {G : List (List Nat)} (F : Fine G) (b : Nat) : (preds G b).length ≤ 1048576 := by
  have h1 := fromI_row G F.e G.length b
  have h2 := F.n
  show ((fromI G G.length).getD b []).length ≤ _
  omega
end Go.Proofs.Ytcghekbbaeejaaa.gr
