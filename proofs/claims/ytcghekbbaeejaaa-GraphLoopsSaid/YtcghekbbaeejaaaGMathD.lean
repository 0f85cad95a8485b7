/- The document's nearest dominators, in plain Lean: those of most dominators. -/
import Derived.Test.YtcghekbbaeejaaaGTable
set_option linter.unusedVariables false
set_option linter.unusedSimpArgs false
namespace Go.Proofs.Ytcghekbbaeejaaa.gr
open Go.RowKit Go.Proofs.Ytcghekbbaeejaaa.Gr

theorem getD_met {l : List Bool} {b : Nat} (h : b < l.length) : l.getD b false = met l b := by
  rw [met_get h, List.getD_eq_getElem?_getD, List.getElem?_eq_getElem h]; rfl
theorem allB_iff {G : List (List Nat)} (wf : WF G) {b : Nat} : allB G b = true ↔ Reached G b := by
  have hu : U (List.replicate G.length false) ≤ G.length := by have := U_le (List.replicate G.length false); simpa using this
  have h0 := met_none wf.pos
  have hm := go_met G (f := G.length) (x := 0) (s := (List.replicate G.length false, [])) hu h0 b
  have hl : (go G G.length 0 (List.replicate G.length false, [])).1.length = G.length := ((go_fwd G G.length 0 (_, []) hu h0).1.len).trans (List.length_replicate ..)
  have e : wo G (-1) = (go G G.length 0 (List.replicate G.length false, [])).1 := by unfold wo; rw [if_neg (by omega), if_neg (by omega), if_neg (by omega)]
  unfold allB
  rw [e]
  by_cases hb : b < G.length
  · rw [getD_met (by omega), hm]
    constructor
    · rintro (h | h)
      · rw [show met (List.replicate G.length false, ([] : List Nat)).1 b = false from met_none hb] at h; cases h
      · exact h
    · intro h; exact .inr h
  · constructor
    · intro h; rw [List.getD_eq_getElem?_getD, List.getElem?_eq_none (by omega)] at h; cases h
    · intro h; exact absurd h.lt hb
theorem no_w0 {G : List (List Nat)} {k b : Nat} : ¬ W G 0 k b := fun h => by
  induction h with
  | zero h => exact h rfl
  | step _ _ _ ih => exact ih
theorem woB_iff {G : List (List Nat)} (wf : WF G) {a b : Nat} (ha : a < G.length) : woB G a b = true ↔ ∃ k, W G a k b := by
  have e0 : wo G (a : Int) = (if (a : Int) = 0 then (List.replicate G.length false).set a true else (go G G.length 0 ((List.replicate G.length false).set a true, [])).1).set a false := by
    have hpos : (0 : Int) ≤ (a : Int) := Int.natCast_nonneg a
    simp only [wo, if_pos hpos, Int.toNat_natCast]
  unfold woB
  rw [e0]
  by_cases h0 : a = 0
  · subst h0
    rw [if_pos (show ((0 : Nat) : Int) = 0 from rfl), List.set_set]
    constructor
    · intro h
      rw [Gr.getD_set] at h
      split at h
      · cases h
      · rw [List.getD_eq_getElem?_getD, List.getElem?_replicate] at h; split at h <;> cases h
    · rintro ⟨k, h⟩; exact absurd h no_w0
  · rw [if_neg (by omega)]
    have hl0 : ((List.replicate G.length false).set a true).length = G.length := by simp
    have hm0 : met ((List.replicate G.length false).set a true) 0 = false := by rw [met_set, if_neg (by omega)]; exact met_none wf.pos
    have hu : U ((List.replicate G.length false).set a true) ≤ G.length := by have := U_le ((List.replicate G.length false).set a true); omega
    have hm := go_met G (f := G.length) (x := 0) (s := ((List.replicate G.length false).set a true, [])) hu hm0 b
    have hl : (go G G.length 0 ((List.replicate G.length false).set a true, [])).1.length = G.length := ((go_fwd G G.length 0 (_, []) hu hm0).1.len).trans hl0
    rw [Gr.getD_set, hl]
    by_cases hab : a = b
    · subst hab
      rw [if_pos ⟨rfl, ha⟩]
      exact ⟨(fun h => by cases h), (fun ⟨k, h⟩ => absurd rfl h.ne)⟩
    · rw [if_neg (fun h => hab h.1)]
      by_cases hb : b < G.length
      · rw [getD_met (by omega), hm, ← without_w wf]
        constructor
        · rintro (h | h)
          · rw [show met ((List.replicate G.length false).set a true, ([] : List Nat)).1 b = false by rw [met_set, if_neg (fun h => hab h.1)]; exact met_none hb] at h; cases h
          · exact h
        · intro h; exact .inr h
      · constructor
        · intro h; rw [List.getD_eq_getElem?_getD, List.getElem?_eq_none (by omega)] at h; cases h
        · rintro ⟨k, h⟩; exact absurd (h.r.lt wf) hb
theorem tB_iff {G : List (List Nat)} (wf : WF G) {a b : Nat} (ha : a < G.length) : tB G a b = true ↔ Dom G a b := by
  unfold tB
  rw [Bool.and_eq_true, Bool.and_eq_true, allB_iff wf, allB_iff wf, Bool.not_eq_true', ← Bool.not_eq_true, woB_iff wf ha, reached_r wf, reached_r wf]
  constructor
  · rintro ⟨_, h1, h2⟩; exact ⟨h1, fun k h => h2 ⟨k, h⟩⟩
  · intro h; exact ⟨h.left, h.1, fun ⟨k, h'⟩ => h.2 k h'⟩
/-- of two that dominate a node one dominates the other -/
theorem Dom.total {G : List (List Nat)} {a c b : Nat} (h : Dom G a b) (k : Dom G c b) : Dom G a c ∨ Dom G c a := by
  apply Classical.byContradiction
  intro hn
  have h1 : ∃ j, W G a j c := Classical.byContradiction fun e => hn (.inl ⟨k.left, fun j hj => e ⟨j, hj⟩⟩)
  have h2 : ∃ j, W G c j a := Classical.byContradiction fun e => hn (.inr ⟨h.left, fun j hj => e ⟨j, hj⟩⟩)
  have all : ∀ m y, R G m y → (∃ j, W G a j y) ∨ (∃ j, W G c j y) := fun m y hr => by
    induction hr with
    | zero =>
      by_cases e : 0 = a
      · right; rw [e]; exact h2
      · exact .inl ⟨0, .zero e⟩
    | step hxy hz ih =>
      rename_i k' x y
      rcases ih with ⟨j, hj⟩ | ⟨j, hj⟩
      · by_cases e : y = a
        · right; rw [e]; exact h2
        · exact .inl ⟨j + 1, .step hj hz e⟩
      · by_cases e : y = c
        · left; rw [e]; exact h1
        · exact .inr ⟨j + 1, .step hj hz e⟩
  obtain ⟨m, hm⟩ := h.1
  rcases all m b hm with ⟨j, hj⟩ | ⟨j, hj⟩
  · exact h.2 j hj
  · exact k.2 j hj

/-- how many of the first i dominate a -/
def cntI (G : List (List Nat)) (a i : Nat) : Nat := ((List.range i).filter fun c => tB G c a).length
theorem cntI_succ (G : List (List Nat)) (a i : Nat) : cntI G a (i + 1) = cntI G a i + if tB G i a then 1 else 0 := by
  unfold cntI; rw [List.range_succ, List.filter_append, List.length_append]
  by_cases h : tB G i a = true <;> simp [h]
theorem cntI_le (G : List (List Nat)) (a : Nat) : ∀ i, cntI G a i ≤ i
  | 0 => Nat.le_refl _
  | i + 1 => by rw [cntI_succ]; have := cntI_le G a i; split <;> omega
def cnt (G : List (List Nat)) (a : Nat) : Nat := cntI G a G.length
theorem cntI_mono {G : List (List Nat)} (wf : WF G) {a c : Nat} (h : Dom G a c) : ∀ i, i ≤ G.length → cntI G a i ≤ cntI G c i
  | 0, _ => Nat.le_refl _
  | i + 1, hi => by
    rw [cntI_succ, cntI_succ]
    have := cntI_mono wf h i (by omega)
    by_cases e : tB G i a = true
    · have : tB G i c = true := (tB_iff wf (by omega)).2 (((tB_iff wf (by omega)).1 e).trans h)
      rw [if_pos e, if_pos this]; omega
    · rw [if_neg e]; split <;> omega
theorem cntI_lt {G : List (List Nat)} (wf : WF G) {a c : Nat} (h : Dom G a c) (hn : a ≠ c) : ∀ i, i ≤ G.length → c < i → cntI G a i < cntI G c i
  | 0, _, hc => by omega
  | i + 1, hi, hc => by
    rw [cntI_succ, cntI_succ]
    by_cases e : c = i
    · subst e
      have h1 : tB G c a = false := Bool.eq_false_iff.2 fun e => hn (h.anti ((tB_iff wf (by omega)).1 e))
      obtain ⟨k, hk⟩ := h.1
      have h2 : tB G c c = true := (tB_iff wf (by omega)).2 (Dom.self hk)
      have := cntI_mono wf h c (by omega)
      rw [h1, h2]; simp; omega
    · have := cntI_lt wf h hn i (by omega) (by omega)
      by_cases e : tB G i a = true
      · have : tB G i c = true := (tB_iff wf (by omega)).2 (((tB_iff wf (by omega)).1 e).trans h)
        rw [if_pos e, if_pos this]; omega
      · rw [if_neg e]; split <;> omega
theorem cnt_pos {G : List (List Nat)} (wf : WF G) {a b : Nat} (h : Dom G a b) : 0 < cnt G a := by
  obtain ⟨k, hk⟩ := h.left
  have ha := hk.lt wf
  have h2 : tB G a a = true := (tB_iff wf ha).2 (Dom.self hk)
  have : ∀ i, a < i → 0 < cntI G a i := fun i => by
    induction i with
    | zero => omega
    | succ i ih =>
      intro hi
      rw [cntI_succ]
      by_cases e : a = i
      · subst e; rw [h2]; simp
      · have := ih (by omega); omega
  exact this _ ha

def stepB (G : List (List Nat)) (b : Nat) (s : Int × Nat) (a : Nat) : Int × Nat := if a = b ∨ tB G a b = false then s else if s.2 < cnt G a then ((a : Int), cnt G a) else s
def bestI (G : List (List Nat)) (b i : Nat) : Int × Nat := (List.range i).foldl (stepB G b) (-1, 0)
theorem bestI_succ (G : List (List Nat)) (b i : Nat) : bestI G b (i + 1) = stepB G b (bestI G b i) i := by unfold bestI; rw [List.range_succ, List.foldl_append]; rfl
def nearI (G : List (List Nat)) (i : Nat) : List Int := (List.range i).map fun b => (bestI G b G.length).1
def nearL (G : List (List Nat)) : List Int := nearI G G.length
theorem nearI_succ (G : List (List Nat)) (i : Nat) : nearI G (i + 1) = nearI G i ++ [(bestI G i G.length).1] := by unfold nearI; rw [List.range_succ, List.map_append]; rfl
theorem nearI_len (G : List (List Nat)) (i : Nat) : (nearI G i).length = i := by unfold nearI; simp

theorem bestI_is {G : List (List Nat)} (wf : WF G) (b : Nat) : ∀ i, i ≤ G.length → (bestI G b i = (-1, 0) ∧ ∀ a, a < i → a ≠ b → ¬ Dom G a b) ∨ ∃ m : Nat, bestI G b i = ((m : Int), cnt G m) ∧ m < i ∧ m ≠ b ∧ Dom G m b ∧ ∀ a, a < i → a ≠ b → Dom G a b → cnt G a ≤ cnt G m
  | 0, _ => .inl ⟨rfl, fun a h => by omega⟩
  | i + 1, hi => by
    rw [bestI_succ]
    unfold stepB
    have ht := tB_iff wf (a := i) (b := b) (by omega)
    by_cases hc : i = b ∨ tB G i b = false
    · rw [if_pos hc]
      have hno : i ≠ b → ¬ Dom G i b := fun h1 h2 => by
        rcases hc with h | h
        · exact h1 h
        · rw [ht.2 h2] at h; cases h
      rcases bestI_is wf b i (by omega) with ⟨h1, h2⟩ | ⟨m, h1, h2, h3, h4, h5⟩
      · refine .inl ⟨h1, fun a ha hab => ?_⟩
        by_cases e : a = i
        · subst e; exact hno hab
        · exact h2 a (by omega) hab
      · refine .inr ⟨m, h1, by omega, h3, h4, fun a ha hab hd => ?_⟩
        by_cases e : a = i
        · subst e; exact absurd hd (hno hab)
        · exact h5 a (by omega) hab hd
    · rw [if_neg hc]
      have hib : i ≠ b := fun e => hc (.inl e)
      have hd : Dom G i b := ht.1 (by cases h : tB G i b; exact absurd (.inr h) hc; rfl)
      have hp := cnt_pos wf hd
      rcases bestI_is wf b i (by omega) with ⟨h1, h2⟩ | ⟨m, h1, h2, h3, h4, h5⟩
      · rw [h1, if_pos hp]
        refine .inr ⟨i, rfl, by omega, hib, hd, fun a ha hab hda => ?_⟩
        by_cases e : a = i
        · subst e; exact Nat.le_refl _
        · exact absurd hda (h2 a (by omega) hab)
      · rw [h1]
        by_cases hlt : cnt G m < cnt G i
        · rw [if_pos hlt]
          refine .inr ⟨i, rfl, by omega, hib, hd, fun a ha hab hda => ?_⟩
          by_cases e : a = i
          · subst e; exact Nat.le_refl _
          · have := h5 a (by omega) hab hda; omega
        · rw [if_neg hlt]
          refine .inr ⟨m, rfl, by omega, h3, h4, fun a ha hab hda => ?_⟩
          by_cases e : a = i
          · subst e; omega
          · exact h5 a (by omega) hab hda
theorem nearL_getD {G : List (List Nat)} {b : Nat} (hb : b < G.length) : (nearL G).getD b (-1) = (bestI G b G.length).1 := by
  unfold nearL nearI
  rw [List.getD_eq_getElem?_getD, List.getElem?_map, List.getElem?_range hb]; rfl
theorem nearL_is {G : List (List Nat)} (wf : WF G) : IsNear G (nearL G) := by
  refine ⟨nearI_len G _, fun b hb => ?_, fun b hb h0 => ?_⟩
  · by_cases hbl : b < G.length
    · rw [nearL_getD hbl]
      rcases bestI_is wf b G.length (Nat.le_refl _) with ⟨h1, _⟩ | ⟨m, _, _, h3, h4, _⟩
      · rw [h1]
      · exfalso
        rcases hb with rfl | hb
        · exact h3 (dom_zero h4)
        · exact hb ((reached_r wf).2 h4.1)
    · rw [List.getD_eq_getElem?_getD, List.getElem?_eq_none (by show (nearI G G.length).length ≤ b; rw [nearI_len]; omega)]; rfl
  · have hbl := hb.lt
    rw [nearL_getD hbl]
    obtain ⟨k, hk⟩ := (reached_r wf).1 hb
    rcases bestI_is wf b G.length (Nat.le_refl _) with ⟨_, h2⟩ | ⟨m, h1, h2, h3, h4, h5⟩
    · exact absurd (zero_dom hk) (h2 0 wf.pos (Ne.symm h0))
    · rw [h1]
      refine ⟨m, rfl, h3, h4, fun a hd hab => ?_⟩
      obtain ⟨ka, hka⟩ := hd.left
      have hal := hka.lt wf
      rcases Dom.total hd h4 with h | h
      · exact h
      · by_cases e : m = a
        · subst e; exact Dom.self hka
        · have := cntI_lt wf h e G.length (Nat.le_refl _) hal
          have := h5 a hal hab hd
          unfold cnt at this; omega
end Go.Proofs.Ytcghekbbaeejaaa.gr
