/- Walks of graphs, in plain Lean: the walk that calls itself, and the one with a stack of its own. -/
namespace Go.Proofs.Ytcghekbbaeejaaa.Gr

def adj (G : List (List Nat)) (n : Nat) : List Nat := G.getD n []
abbrev St := List Bool × List Nat
def met (ms : List Bool) (x : Nat) : Bool := ms.getD x true
def U (ms : List Bool) : Nat := ms.count false

/-- the walk from x, which was not met -/
def go (G : List (List Nat)) : Nat → Nat → St → St
  | 0, _, s => s
  | f + 1, x, s =>
    let s1 := (adj G x).foldl (fun s y => if met s.1 y then s else go G f y s) (s.1.set x true, s.2)
    (s1.1, s1.2 ++ [x])
def stp (G : List (List Nat)) (f : Nat) (s : St) (y : Nat) : St := if met s.1 y then s else go G f y s
def vis (G : List (List Nat)) (f : Nat) (xs : List Nat) (s : St) : St := xs.foldl (stp G f) s

theorem go_succ (G : List (List Nat)) (f x : Nat) (s : St) : go G (f + 1) x s = ((vis G f (adj G x) (s.1.set x true, s.2)).1, (vis G f (adj G x) (s.1.set x true, s.2)).2 ++ [x]) := rfl
theorem vis_nil (G : List (List Nat)) (f : Nat) (s : St) : vis G f [] s = s := rfl
theorem vis_cons (G : List (List Nat)) (f y : Nat) (ys : List Nat) (s : St) : vis G f (y :: ys) s = vis G f ys (stp G f s y) := rfl
theorem stp_met {G : List (List Nat)} {f y : Nat} {s : St} (h : met s.1 y = true) : stp G f s y = s := by unfold stp; rw [if_pos h]
theorem stp_new {G : List (List Nat)} {f y : Nat} {s : St} (h : met s.1 y = false) : stp G f s y = go G f y s := by unfold stp; rw [if_neg (by rw [h]; decide)]

theorem met_lt {ms : List Bool} {x : Nat} (h : met ms x = false) : x < ms.length := by
  by_cases hx : x < ms.length
  · exact hx
  · unfold met at h; rw [List.getD_eq_getElem?_getD, List.getElem?_eq_none (by omega)] at h; cases h
theorem met_get {ms : List Bool} {x : Nat} (h : x < ms.length) : met ms x = ms[x] := by
  unfold met; rw [List.getD_eq_getElem?_getD, List.getElem?_eq_getElem h]; rfl
theorem met_set {ms : List Bool} {x y : Nat} (b : Bool) : met (ms.set x b) y = if x = y ∧ x < ms.length then b else met ms y := by
  unfold met
  rw [List.getD_eq_getElem?_getD, List.getD_eq_getElem?_getD, List.getElem?_set]
  by_cases h : x = y
  · subst h
    by_cases hl : x < ms.length
    · simp [hl]
    · simp [hl]
  · simp [h]
theorem met_set_true {ms : List Bool} {x y : Nat} (h : met ms y = true) : met (ms.set x true) y = true := by rw [met_set]; split <;> simp_all
theorem met_set_self {ms : List Bool} {x : Nat} (h : x < ms.length) : met (ms.set x true) x = true := by rw [met_set, if_pos ⟨rfl, h⟩]
theorem U_set {ms : List Bool} {x : Nat} (h : met ms x = false) : U (ms.set x true) + 1 = U ms := by
  have hl := met_lt h
  unfold U
  rw [List.count_set hl]
  have hg : ms[x] = false := by rw [← met_get hl]; exact h
  have hp : 0 < ms.count false := List.count_pos_iff.2 (hg ▸ List.getElem_mem hl)
  simp [hg]; omega
theorem U_pos {ms : List Bool} {x : Nat} (h : met ms x = false) : 0 < U ms := by have := U_set h; omega
theorem U_le (ms : List Bool) : U ms ≤ ms.length := List.count_le_length

/-- what a walk leaves -/
structure Fwd (s s' : St) : Prop where
  len : s'.1.length = s.1.length
  mono : ∀ y, met s.1 y = true → met s'.1 y = true
  u : U s'.1 ≤ U s.1
theorem Fwd.rfl (s : St) : Fwd s s := ⟨_root_.rfl, fun _ h => h, Nat.le_refl _⟩
theorem Fwd.trans {a b c : St} (h : Fwd a b) (k : Fwd b c) : Fwd a c := ⟨k.len.trans h.len, fun y hy => k.mono y (h.mono y hy), Nat.le_trans k.u h.u⟩

theorem go_fwd (G : List (List Nat)) : ∀ (f x : Nat) (s : St), U s.1 ≤ f → met s.1 x = false → Fwd s (go G f x s) ∧ met (go G f x s).1 x = true ∧ U (go G f x s).1 < U s.1 ∧ go G (f + 1) x s = go G f x s
  | 0, x, s, hu, hx => by have := U_pos hx; omega
  | f + 1, x, s, hu, hx => by
    have hs := U_set hx
    have hl := met_lt hx
    have key : ∀ (xs : List Nat) (t : St), U t.1 ≤ f → Fwd t (vis G f xs t) ∧ vis G (f + 1) xs t = vis G f xs t := by
      intro xs
      induction xs with
      | nil => intro t _; exact ⟨Fwd.rfl _, rfl⟩
      | cons y ys ih =>
        intro t ht
        rw [vis_cons, vis_cons]
        by_cases hy : met t.1 y = true
        · rw [stp_met hy, stp_met hy]; exact ih t ht
        · have hy : met t.1 y = false := by simpa using hy
          obtain ⟨h1, h2, h3, h4⟩ := go_fwd G f y t ht hy
          rw [stp_new hy, stp_new hy, h4]
          obtain ⟨k1, k2⟩ := ih (go G f y t) (by omega)
          exact ⟨h1.trans k1, k2⟩
    have h0 : Fwd s (s.1.set x true, s.2) := ⟨List.length_set .., fun y hy => met_set_true hy, by show U (s.1.set x true) ≤ _; omega⟩
    obtain ⟨k1, k2⟩ := key (adj G x) (s.1.set x true, s.2) (by show U (s.1.set x true) ≤ f; omega)
    refine ⟨?_, ?_, ?_, ?_⟩
    · have := h0.trans k1; exact ⟨this.len, this.mono, this.u⟩
    · exact k1.mono x (met_set_self hl)
    · have := k1.u; rw [go_succ]; show U (vis G f (adj G x) (s.1.set x true, s.2)).1 < _; exact Nat.lt_of_le_of_lt this (by show U (s.1.set x true) < _; omega)
    · rw [go_succ G (f + 1), k2, go_succ G f]

theorem vis_fwd (G : List (List Nat)) (f : Nat) : ∀ (xs : List Nat) (t : St), U t.1 ≤ f → Fwd t (vis G f xs t)
  | [], t, _ => Fwd.rfl _
  | y :: ys, t, ht => by
    rw [vis_cons]
    by_cases hy : met t.1 y = true
    · rw [stp_met hy]; exact vis_fwd G f ys t ht
    · have hy : met t.1 y = false := by simpa using hy
      obtain ⟨h1, h2, h3, h4⟩ := go_fwd G f y t ht hy
      rw [stp_new hy]
      exact h1.trans (vis_fwd G f ys _ (by omega))
theorem vis_succ (G : List (List Nat)) (f : Nat) : ∀ (xs : List Nat) (t : St), U t.1 ≤ f → vis G (f + 1) xs t = vis G f xs t
  | [], t, _ => rfl
  | y :: ys, t, ht => by
    rw [vis_cons, vis_cons]
    by_cases hy : met t.1 y = true
    · rw [stp_met hy, stp_met hy]; exact vis_succ G f ys t ht
    · have hy : met t.1 y = false := by simpa using hy
      obtain ⟨h1, h2, h3, h4⟩ := go_fwd G f y t ht hy
      rw [stp_new hy, stp_new hy, h4]
      exact vis_succ G f ys _ (by omega)
theorem go_more (G : List (List Nat)) {f x : Nat} {s : St} (hu : U s.1 ≤ f) (hx : met s.1 x = false) : ∀ k, go G (f + k) x s = go G f x s
  | 0 => rfl
  | k + 1 => by rw [← Nat.add_assoc, (go_fwd G (f + k) x s (by omega) hx).2.2.2, go_more G hu hx k]
theorem vis_more (G : List (List Nat)) {f : Nat} {xs : List Nat} {s : St} (hu : U s.1 ≤ f) : ∀ k, vis G (f + k) xs s = vis G f xs s
  | 0 => rfl
  | k + 1 => by rw [← Nat.add_assoc, vis_succ G (f + k) xs s (by omega), vis_more G hu k]
/-- a walk from x, with fuel for all nodes -/
theorem go_open (G : List (List Nat)) {n x : Nat} {s : St} (hn : s.1.length ≤ n) (hx : met s.1 x = false) :
    go G n x s = ((vis G n (adj G x) (s.1.set x true, s.2)).1, (vis G n (adj G x) (s.1.set x true, s.2)).2 ++ [x]) := by
  have hu := U_set hx
  have hl := U_le s.1
  rw [← (go_fwd G n x s (by omega) hx).2.2.2, go_succ]

/-! ### the walk with a stack -/
/-- what is left to do: of each node on the stack (the top first) what it has not looked at -/
def fin (G : List (List Nat)) (n : Nat) (left : List (List Nat)) : List Nat → St → St
  | [], s => s
  | x :: st, s => fin G n left st ((vis G n (left.getD x []) s).1, (vis G n (left.getD x []) s).2 ++ [x])

theorem fin_nil (G : List (List Nat)) (n : Nat) (left : List (List Nat)) (s : St) : fin G n left [] s = s := rfl
theorem fin_cons (G : List (List Nat)) (n : Nat) (left : List (List Nat)) (x : Nat) (st : List Nat) (s : St) :
    fin G n left (x :: st) s = fin G n left st ((vis G n (left.getD x []) s).1, (vis G n (left.getD x []) s).2 ++ [x]) := rfl
theorem fin_left (G : List (List Nat)) (n : Nat) {left left' : List (List Nat)} : ∀ (st : List Nat) (s : St), (∀ x ∈ st, left'.getD x [] = left.getD x []) → fin G n left' st s = fin G n left st s
  | [], s, _ => rfl
  | x :: st, s, h => by rw [fin_cons, fin_cons, h x (List.mem_cons_self ..)]; exact fin_left G n st _ (fun y hy => h y (List.mem_cons_of_mem _ hy))

/-- a state of the walk with a stack -/
structure Way (G : List (List Nat)) (n : Nat) (left : List (List Nat)) (st : List Nat) (s : St) : Prop where
  llen : left.length = n
  slen : s.1.length = n
  new : ∀ x, met s.1 x = false → left.getD x [] = adj G x
  on : ∀ x ∈ st, x < n ∧ met s.1 x = true
  nodup : st.Nodup
  lt : ∀ x y, y ∈ left.getD x [] → y < n

theorem getD_set {α : Type} (l : List α) (x y : Nat) (a d : α) : (l.set x a).getD y d = if x = y ∧ x < l.length then a else l.getD y d := by
  rw [List.getD_eq_getElem?_getD, List.getD_eq_getElem?_getD, List.getElem?_set]
  by_cases h : x = y
  · subst h
    by_cases hl : x < l.length
    · simp [hl]
    · simp [hl]
  · simp [h]

/-- nothing is left of the top: it is done -/
theorem way_pop {G : List (List Nat)} {n x : Nat} {left : List (List Nat)} {st : List Nat} {s : St} (h : Way G n left (x :: st) s) (hx : left.getD x [] = []) :
    Way G n left st (s.1, s.2 ++ [x]) ∧ fin G n left st (s.1, s.2 ++ [x]) = fin G n left (x :: st) s := by
  refine ⟨⟨h.llen, h.slen, h.new, fun y hy => h.on y (List.mem_cons_of_mem _ hy), (List.nodup_cons.1 h.nodup).2, h.lt⟩, ?_⟩
  rw [fin_cons, hx]; rfl
/-- the first that is left was met -/
theorem way_skip {G : List (List Nat)} {n x y : Nat} {ys : List Nat} {left : List (List Nat)} {st : List Nat} {s : St} (h : Way G n left (x :: st) s) (hx : left.getD x [] = y :: ys) (hy : met s.1 y = true) :
    Way G n (left.set x ys) (x :: st) s ∧ fin G n (left.set x ys) (x :: st) s = fin G n left (x :: st) s := by
  have hxs := h.on x (List.mem_cons_self ..)
  have hnd := List.nodup_cons.1 h.nodup
  have hlx : x < left.length := by rw [h.llen]; exact hxs.1
  refine ⟨⟨by rw [List.length_set]; exact h.llen, h.slen, fun z hz => ?_, h.on, h.nodup, fun z y' hy' => ?_⟩, ?_⟩
  · rw [getD_set, if_neg]
    · exact h.new z hz
    · rintro ⟨rfl, _⟩; rw [hxs.2] at hz; cases hz
  · rw [getD_set] at hy'
    split at hy'
    · exact h.lt x y' (by rw [hx]; exact List.mem_cons_of_mem _ hy')
    · exact h.lt z y' hy'
  · rw [fin_cons, fin_cons, getD_set, if_pos ⟨rfl, hlx⟩, hx, vis_cons, stp_met hy]
    refine fin_left G n st _ (fun z hz => ?_)
    rw [getD_set, if_neg]
    rintro ⟨rfl, _⟩; exact hnd.1 hz
/-- the first that is left was not met: the walk goes to it -/
theorem way_push {G : List (List Nat)} {n x y : Nat} {ys : List Nat} {left : List (List Nat)} {st : List Nat} {s : St} (h : Way G n left (x :: st) s) (hx : left.getD x [] = y :: ys) (hy : met s.1 y = false) :
    Way G n left (y :: x :: st) (s.1.set y true, s.2) ∧ fin G n left (y :: x :: st) (s.1.set y true, s.2) = fin G n left (x :: st) s := by
  have hyl := met_lt hy
  have hyn : y < n := by have := h.slen; omega
  refine ⟨⟨h.llen, by rw [List.length_set]; exact h.slen, fun z hz => h.new z ?_, ?_, ?_, h.lt⟩, ?_⟩
  · rw [met_set] at hz; split at hz
    · cases hz
    · exact hz
  · intro z hz
    rcases List.mem_cons.1 hz with rfl | hz
    · exact ⟨hyn, met_set_self hyl⟩
    · exact ⟨(h.on z hz).1, met_set_true (h.on z hz).2⟩
  · refine List.nodup_cons.2 ⟨fun hm => ?_, h.nodup⟩
    have := (h.on y hm).2; rw [hy] at this; cases this
  · have hu : U (s.1.set y true) ≤ n := by have := U_set hy; have := U_le s.1; have := h.slen; omega
    have e1 : left.getD y [] = adj G y := h.new y hy
    have hm : met ((vis G n (adj G y) (s.1.set y true, s.2)).1, (vis G n (adj G y) (s.1.set y true, s.2)).2 ++ [y]).1 y = true :=
      (vis_fwd G n (adj G y) (s.1.set y true, s.2) hu).mono y (met_set_self hyl)
    rw [fin_cons, fin_cons, fin_cons, e1, hx, vis_cons, vis_cons, stp_met hm, stp_new hy, go_open G (by rw [h.slen]; exact Nat.le_refl _) hy]

def lefts (left : List (List Nat)) : Nat := (left.map List.length).sum
theorem sum_set (l : List Nat) (x a : Nat) (h : x < l.length) : (l.set x a).sum + l.getD x 0 = l.sum + a := by
  induction l generalizing x with
  | nil => simp at h
  | cons b l ih =>
    cases x with
    | zero => simp [List.sum_cons]; omega
    | succ x =>
      have := ih x (by simpa using h)
      simp only [List.set_cons_succ, List.sum_cons, List.getD_cons_succ]; omega
theorem lefts_set {left : List (List Nat)} {x y : Nat} {ys : List Nat} (hx : left.getD x [] = y :: ys) (hl : x < left.length) : lefts (left.set x ys) + 1 = lefts left := by
  unfold lefts
  rw [List.map_set]
  have := sum_set (left.map List.length) x ys.length (by simpa using hl)
  have hg : (left.map List.length).getD x 0 = ys.length + 1 := by
    rw [List.getD_eq_getElem?_getD, List.getElem?_map, List.getElem?_eq_getElem hl]
    rw [List.getD_eq_getElem?_getD, List.getElem?_eq_getElem hl] at hx
    simp at hx; simp [hx]
  omega

def orderL (G : List (List Nat)) : List Nat := (go G G.length 0 (List.replicate G.length false, [])).2.reverse
theorem fin_start (G : List (List Nat)) (h : 0 < G.length) (hlt : ∀ x y, y ∈ adj G x → y < G.length) : Way G G.length G [0] ((List.replicate G.length false).set 0 true, []) ∧ (fin G G.length G [0] ((List.replicate G.length false).set 0 true, [])).2.reverse = orderL G := by
  have h0 : met (List.replicate G.length false) 0 = false := by unfold met; simp [List.getD_eq_getElem?_getD, h]
  refine ⟨⟨rfl, by simp, fun x _ => rfl, fun x hx => ?_, by simp, hlt⟩, ?_⟩
  · rw [List.mem_singleton] at hx; subst hx; exact ⟨h, met_set_self (by simpa using h)⟩
  · unfold orderL
    rw [go_open G (by simp) h0, fin_cons, fin_nil]
    rfl
end Go.Proofs.Ytcghekbbaeejaaa.Gr
