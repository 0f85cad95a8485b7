/- Loops, in plain Lean: what reaches the beginnings of a node's edges back without it. -/
import Derived.Test.YtcghekbbaeejaaaGWays
set_option linter.unusedVariables false
set_option linter.unusedSimpArgs false
namespace Go.Proofs.Ytcghekbbaeejaaa.gr
open Go.RowKit Go.Proofs.Ytcghekbbaeejaaa.Gr

/-- the beginnings of the edges back to h -/
def bL (G : List (List Nat)) (h : Nat) : List Nat := (preds G h).filter fun p => tB G h p
/-- the loop of h -/
inductive Cl (G : List (List Nat)) (h : Nat) : Nat → Prop
  | head : Cl G h h
  | beg {p : Nat} : p ∈ bL G h → Cl G h p
  | step {x p : Nat} : Cl G h x → x ≠ h → p ∈ preds G x → Cl G h p
noncomputable def clB (G : List (List Nat)) (h x : Nat) : Bool := @decide (Cl G h x) (Classical.propDecidable _)
theorem clB_iff {G : List (List Nat)} {h x : Nat} : clB G h x = true ↔ Cl G h x := by unfold clB; exact @decide_eq_true_iff _ (Classical.propDecidable _)
noncomputable def nodesI (G : List (List Nat)) (h i : Nat) : List Nat := (List.range i).filter (clB G h)
noncomputable def nodesL (G : List (List Nat)) (h : Nat) : List Nat := nodesI G h G.length
theorem nodesI_succ (G : List (List Nat)) (h i : Nat) : nodesI G h (i + 1) = nodesI G h i ++ if clB G h i = true then [i] else [] := by
  unfold nodesI; rw [List.range_succ, List.filter_append]
  by_cases e : clB G h i = true <;> simp [e]
theorem nodesI_len (G : List (List Nat)) (h i : Nat) : (nodesI G h i).length ≤ i := by unfold nodesI; have := List.length_filter_le (clB G h) (List.range i); simpa using this
noncomputable def loopsI (G : List (List Nat)) (i : Nat) : List (Nat × List Nat) := ((List.range i).filter fun h => !(bL G h).isEmpty).map fun h => (h, nodesL G h)
theorem loopsI_succ (G : List (List Nat)) (i : Nat) : loopsI G (i + 1) = loopsI G i ++ if (bL G i).isEmpty then [] else [(i, nodesL G i)] := by
  unfold loopsI; rw [List.range_succ, List.filter_append, List.map_append]
  by_cases e : (bL G i).isEmpty = true <;> simp [e]
theorem loopsI_len (G : List (List Nat)) (i : Nat) : (loopsI G i).length ≤ i := by unfold loopsI; rw [List.length_map]; have := List.length_filter_le (fun h => !(bL G h).isEmpty) (List.range i); simpa using this
theorem bL_lt {G : List (List Nat)} {h : Nat} (hh : h < G.length) : ∀ x ∈ bL G h, x < G.length := fun x hx => preds_lt hh x (List.mem_filter.1 hx).1

/-- what is in, and what is waiting -/
structure WL (G : List (List Nat)) (h : Nat) (ms : List Bool) (ws : List Nat) : Prop where
  len : ms.length = G.length
  hl : h < G.length
  hin : ms.getD h false = true
  s1 : ∀ x, ms.getD x false = true → Cl G h x
  s2 : ∀ x ∈ ws, Cl G h x
  c1 : ∀ p ∈ bL G h, ms.getD p false = true ∨ p ∈ ws
  c2 : ∀ x, ms.getD x false = true → x ≠ h → ∀ p ∈ preds G x, ms.getD p false = true ∨ p ∈ ws
  lt : ∀ x ∈ ws, x < G.length
theorem WL.start {G : List (List Nat)} {h : Nat} (hl : h < G.length) : WL G h ((List.replicate G.length false).set h true) (bL G h) := by
  have hg : ∀ x, ((List.replicate G.length false).set h true).getD x false = true ↔ x = h := fun x => by
    rw [Gr.getD_set, List.length_replicate]
    by_cases e : h = x
    · rw [if_pos ⟨e, hl⟩]; simp [e]
    · rw [if_neg (fun y => e y.1), List.getD_eq_getElem?_getD, List.getElem?_replicate]
      constructor
      · intro y; split at y <;> cases y
      · intro y; exact absurd y.symm e
  refine ⟨by simp, hl, (hg h).2 rfl, fun x hx => ?_, fun x hx => .beg hx, fun p hp => .inr hp, fun x hx hn => absurd ((hg x).1 hx) hn, bL_lt hl⟩
  rw [(hg x).1 hx]; exact .head
theorem WL.skip {G : List (List Nat)} {h y : Nat} {ms : List Bool} {ws ws' : List Nat} (H : WL G h ms ws) (hm : ∀ x, x ∈ ws ↔ x = y ∨ x ∈ ws') (hy : ms.getD y false = true) : WL G h ms ws' := by
  have hw : ∀ p, (ms.getD p false = true ∨ p ∈ ws) → (ms.getD p false = true ∨ p ∈ ws') := fun p hp => by
    rcases hp with hp | hp
    · exact .inl hp
    · rcases (hm p).1 hp with rfl | hp
      · exact .inl hy
      · exact .inr hp
  exact ⟨H.len, H.hl, H.hin, H.s1, fun x hx => H.s2 x ((hm x).2 (.inr hx)), fun p hp => hw p (H.c1 p hp), fun x hx hn p hp => hw p (H.c2 x hx hn p hp), fun x hx => H.lt x ((hm x).2 (.inr hx))⟩
theorem WL.take {G : List (List Nat)} {h y : Nat} {ms : List Bool} {ws ws' : List Nat} (H : WL G h ms ws) (hm : ∀ x, x ∈ ws ↔ x = y ∨ x ∈ ws') (hy : ms.getD y false = false) : WL G h (ms.set y true) (ws' ++ preds G y) := by
  have hyw : y ∈ ws := (hm y).2 (.inl rfl)
  have hyl := H.lt y hyw
  have hyh : y ≠ h := fun e => by rw [e, H.hin] at hy; cases hy
  have hg : ∀ x, (ms.set y true).getD x false = true ↔ x = y ∨ ms.getD x false = true := fun x => by
    rw [Gr.getD_set]
    by_cases e : y = x
    · rw [if_pos ⟨e, by rw [H.len]; exact hyl⟩]; simp [e]
    · rw [if_neg (fun z => e z.1)]
      exact ⟨fun z => .inr z, fun z => z.resolve_left (fun e' => e e'.symm)⟩
  have hw : ∀ p, (ms.getD p false = true ∨ p ∈ ws) → ((ms.set y true).getD p false = true ∨ p ∈ ws' ++ preds G y) := fun p hp => by
    rcases hp with hp | hp
    · exact .inl ((hg p).2 (.inr hp))
    · rcases (hm p).1 hp with rfl | hp
      · exact .inl ((hg p).2 (.inl rfl))
      · exact .inr (List.mem_append_left _ hp)
  have hcy := H.s2 y hyw
  refine ⟨by rw [List.length_set]; exact H.len, H.hl, (hg h).2 (.inr H.hin), fun x hx => ?_, fun x hx => ?_, fun p hp => hw p (H.c1 p hp), fun x hx hn p hp => ?_, fun x hx => ?_⟩
  · rcases (hg x).1 hx with rfl | hx
    · exact hcy
    · exact H.s1 x hx
  · rcases List.mem_append.1 hx with hx | hx
    · exact H.s2 x ((hm x).2 (.inr hx))
    · exact .step hcy hyh hx
  · rcases (hg x).1 hx with rfl | hx
    · exact .inr (List.mem_append_right _ hp)
    · exact hw p (H.c2 x hx hn p hp)
  · rcases List.mem_append.1 hx with hx | hx
    · exact H.lt x ((hm x).2 (.inr hx))
    · exact preds_lt hyl x hx
theorem WL.done {G : List (List Nat)} {h : Nat} {ms : List Bool} (H : WL G h ms []) (x : Nat) : ms.getD x false = clB G h x := by
  rw [Bool.eq_iff_iff, clB_iff]
  refine ⟨H.s1 x, fun hc => ?_⟩
  induction hc with
  | head => exact H.hin
  | beg hp =>
    rcases H.c1 _ hp with h' | h'
    · exact h'
    · cases h'
  | step _ hn hp ih =>
    rcases H.c2 _ ih hn _ hp with h' | h'
    · exact h'
    · cases h'

/-- how much there is still to do -/
def outI (G : List (List Nat)) (ms : List Bool) : Nat → Nat
  | 0 => 0
  | i + 1 => outI G ms i + if ms.getD i false = true then 0 else (preds G i).length + 1
theorem outI_set {G : List (List Nat)} {ms : List Bool} {y : Nat} (hl : y < ms.length) (hy : ms.getD y false = false) : ∀ i, outI G (ms.set y true) i + (if y < i then (preds G y).length + 1 else 0) = outI G ms i
  | 0 => by simp [outI]
  | i + 1 => by
    have ih := outI_set (G := G) hl hy i
    have hg : (ms.set y true).getD i false = if y = i ∧ y < ms.length then true else ms.getD i false := Gr.getD_set ..
    simp only [outI]
    by_cases e : y = i
    · subst e
      rw [if_pos ⟨rfl, hl⟩] at hg
      rw [hg, hy]
      simp only [Nat.lt_irrefl, if_false, Nat.lt_succ_self, if_true] at ih ⊢
      simp; omega
    · rw [if_neg (fun z => e z.1)] at hg
      rw [hg]
      by_cases e2 : y < i
      · rw [if_pos e2] at ih; rw [if_pos (show y < i + 1 by omega)]; omega
      · rw [if_neg e2] at ih; rw [if_neg (show ¬ y < i + 1 by omega)]; omega
def muW (G : List (List Nat)) (ms : List Bool) (ws : List Nat) : Nat := ws.length + outI G ms G.length
theorem outI_le {G : List (List Nat)} (F : Fine G) (ms : List Bool) : ∀ i, outI G ms i ≤ i * 32769
  | 0 => Nat.le_refl _
  | i + 1 => by
    simp only [outI]
    have := outI_le F ms i
    have h1 := fromI_row G F.e G.length i
    have h2 := F.n
    have h3 : (preds G i).length ≤ G.length * 128 := by unfold preds fromL; exact h1
    have h4 : G.length * 128 ≤ 256 * 128 := Nat.mul_le_mul_right _ h2
    have h5 : (i + 1) * 32769 = i * 32769 + 32769 := Nat.succ_mul ..
    have h6 : (if ms.getD i false = true then 0 else (preds G i).length + 1) ≤ 32769 := by split <;> omega
    omega
theorem muW_skip {G : List (List Nat)} {ms : List Bool} {ws ws' : List Nat} (h : ws'.length + 1 = ws.length) : muW G ms ws' < muW G ms ws := by unfold muW; omega
theorem muW_take {G : List (List Nat)} {ms : List Bool} {ws ws' : List Nat} {y : Nat} (h : ws'.length + 1 = ws.length) (hm : ms.length = G.length) (hl : y < G.length) (hy : ms.getD y false = false) : muW G (ms.set y true) (ws' ++ preds G y) < muW G ms ws := by
  have := outI_set (G := G) (y := y) (by omega) hy G.length
  rw [if_pos hl] at this
  unfold muW; rw [List.length_append]; omega
theorem muW_start {G : List (List Nat)} (F : Fine G) (h : Nat) (ms : List Bool) : muW G ms (bL G h) ≤ 10000000 := by
  have h1 := outI_le F ms G.length
  have h2 := F.n
  have h3 := fromI_row G F.e G.length h
  have h4 : (bL G h).length ≤ (preds G h).length := List.length_filter_le _ _
  have h5 : (preds G h).length ≤ G.length * 128 := by unfold preds fromL; exact h3
  unfold muW
  have : G.length * 32769 ≤ 256 * 32769 := Nat.mul_le_mul_right _ h2
  omega
end Go.Proofs.Ytcghekbbaeejaaa.gr
