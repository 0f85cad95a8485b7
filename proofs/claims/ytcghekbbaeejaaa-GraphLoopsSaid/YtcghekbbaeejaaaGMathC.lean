/- Dominators: what dominates, the nearest one, and the way to it that goes over the order until nothing turns. -/
import Derived.Test.YtcghekbbaeejaaaGMathB
namespace Go.Proofs.Ytcghekbbaeejaaa.Gr

structure WF (G : List (List Nat)) : Prop where
  pos : 0 < G.length
  lt : ∀ x y, y ∈ adj G x → y < G.length
theorem adj_out {G : List (List Nat)} {x : Nat} (h : G.length ≤ x) : adj G x = [] := by unfold adj; rw [List.getD_eq_getElem?_getD, List.getElem?_eq_none h]; rfl
theorem adj_lt {G : List (List Nat)} {x y : Nat} (h : y ∈ adj G x) : x < G.length := by
  by_cases hx : x < G.length
  · exact hx
  · rw [adj_out (by omega)] at h; cases h

/-- from 0 to y in k steps -/
inductive R (G : List (List Nat)) : Nat → Nat → Prop
  | zero : R G 0 0
  | step {k x y : Nat} : R G k x → y ∈ adj G x → R G (k + 1) y
/-- .. without going through a -/
inductive W (G : List (List Nat)) (a : Nat) : Nat → Nat → Prop
  | zero : 0 ≠ a → W G a 0 0
  | step {k x y : Nat} : W G a k x → y ∈ adj G x → y ≠ a → W G a (k + 1) y

theorem W.ne {G : List (List Nat)} {a k y : Nat} (h : W G a k y) : y ≠ a := by cases h <;> assumption
theorem W.r {G : List (List Nat)} {a k y : Nat} (h : W G a k y) : R G k y := by
  induction h with
  | zero _ => exact .zero
  | step _ h _ ih => exact .step ih h
theorem R.lt {G : List (List Nat)} (wf : WF G) {k y : Nat} (h : R G k y) : y < G.length := by cases h with
  | zero => exact wf.pos
  | step _ h => exact wf.lt _ _ h
theorem R.cut {G : List (List Nat)} (b : Nat) {k y : Nat} (h : R G k y) (hy : y ≠ b) : W G b k y ∨ ∃ j, j < k ∧ R G j b := by
  induction h with
  | zero => exact .inl (.zero hy)
  | step hr hz ih =>
    rename_i k x z
    by_cases hx : x = b
    · subst hx; exact .inr ⟨k, by omega, hr⟩
    · rcases ih hx with h | ⟨j, hj, h⟩
      · exact .inl (.step h hz hy)
      · exact .inr ⟨j, by omega, h⟩
/-- a way that avoids a goes through b, or avoids it -/
theorem W.cut {G : List (List Nat)} {a : Nat} (b : Nat) {k y : Nat} (h : W G a k y) : W G b k y ∨ ∃ j, j ≤ k ∧ W G a j b := by
  induction h with
  | zero h =>
    by_cases hb : 0 = b
    · subst hb; exact .inr ⟨0, by omega, .zero h⟩
    · exact .inl (.zero hb)
  | step hw hz hn ih =>
    rename_i k x z
    by_cases hb : z = b
    · subst hb; exact .inr ⟨k + 1, by omega, .step hw hz hn⟩
    · rcases ih with h | ⟨j, hj, h⟩
      · exact .inl (.step h hz hb)
      · exact .inr ⟨j, by omega, h⟩
theorem reached_r {G : List (List Nat)} (wf : WF G) {y : Nat} : Reached G y ↔ ∃ k, R G k y := by
  constructor
  · intro h
    unfold Reached at h
    induction h with
    | refl _ => exact ⟨0, .zero⟩
    | step _ hz _ ih => obtain ⟨k, hk⟩ := ih; exact ⟨k + 1, .step hk hz⟩
  · rintro ⟨k, h⟩
    induction h with
    | zero => exact .refl (met_none wf.pos)
    | step _ hz ih => exact .step ih hz (met_none (wf.lt _ _ hz))
theorem Reached.lt {G : List (List Nat)} {y : Nat} (h : Reached G y) : y < G.length := met_none_lt (Rch.new h)
/-- what a walk meets where a was met ahead -/
theorem without_w {G : List (List Nat)} (wf : WF G) {a y : Nat} : Rch G ((List.replicate G.length false).set a true) 0 y ↔ ∃ k, W G a k y := by
  have hm : ∀ z, met ((List.replicate G.length false).set a true) z = false ↔ z < G.length ∧ z ≠ a := fun z => by
    rw [met_set]
    by_cases hz : a = z ∧ a < (List.replicate G.length false).length
    · rw [if_pos hz]; simp [hz.1]
    · rw [if_neg hz]
      constructor
      · intro h; have := met_none_lt h; refine ⟨this, fun e => hz ⟨e.symm, by simp; omega⟩⟩
      · rintro ⟨h, _⟩; exact met_none h
  constructor
  · intro h
    induction h with
    | refl h => exact ⟨0, .zero ((hm 0).1 h).2⟩
    | step _ hz hn ih => obtain ⟨k, hk⟩ := ih; exact ⟨k + 1, .step hk hz ((hm _).1 hn).2⟩
  · rintro ⟨k, h⟩
    induction h with
    | zero h => exact .refl ((hm 0).2 ⟨wf.pos, h⟩)
    | step _ hz hn ih => exact .step ih hz ((hm _).2 ⟨wf.lt _ _ hz, hn⟩)

/-- a way is as short as there are nodes -/
theorem nodup_le : ∀ (n : Nat) (l : List Nat), l.Nodup → (∀ x ∈ l, x < n) → l.length ≤ n
  | 0, [], _, _ => Nat.le_refl _
  | 0, x :: l, _, h => by have := h x (List.mem_cons_self ..); omega
  | n + 1, l, hn, h => by
    by_cases hm : n ∈ l
    · have := nodup_le n (l.erase n) (hn.erase n) (fun x hx => by
        have h1 := h x (List.mem_of_mem_erase hx)
        have h2 : x ≠ n := fun e => by subst e; exact (List.Nodup.not_mem_erase hn) hx
        omega)
      rw [List.length_erase_of_mem hm] at this; omega
    · have := nodup_le n l hn (fun x hx => by
        have h1 := h x hx
        have h2 : x ≠ n := fun e => by subst e; exact hm hx
        omega)
      omega
theorem W.least {G : List (List Nat)} (wf : WF G) {a : Nat} : ∀ k y, W G a k y → (∀ j, j < k → ¬ W G a j y) → ∃ l : List Nat, l.length = k + 1 ∧ l.Nodup ∧ ∀ z ∈ l, z < G.length ∧ ∃ i, i ≤ k ∧ W G a i z ∧ ∀ j, j < i → ¬ W G a j z
  | 0, y, h, hm => ⟨[y], rfl, by simp, fun z hz => by rw [List.mem_singleton] at hz; subst hz; exact ⟨h.r.lt wf, 0, Nat.le_refl _, h, hm⟩⟩
  | k + 1, y, h, hm => by
    have hy := h.r.lt wf
    cases h with
    | step hw hz hn =>
      rename_i x
      have hx : ∀ j, j < k → ¬ W G a j x := fun j hj hw' => hm (j + 1) (by omega) (.step hw' hz hn)
      obtain ⟨l, h1, h2, h3⟩ := W.least wf k x hw hx
      refine ⟨y :: l, by simp [h1], List.nodup_cons.2 ⟨fun hyl => ?_, h2⟩, fun z hz' => ?_⟩
      · obtain ⟨_, i, hi, hwi, _⟩ := h3 y hyl
        exact hm i (by omega) hwi
      · rcases List.mem_cons.1 hz' with rfl | hz'
        · exact ⟨hy, k + 1, Nat.le_refl _, .step hw hz hn, hm⟩
        · obtain ⟨h, i, hi, r⟩ := h3 z hz'; exact ⟨h, i, by omega, r⟩
theorem W.short {G : List (List Nat)} (wf : WF G) {a k y : Nat} (h : W G a k y) : ∃ j, j < G.length ∧ W G a j y := by
  have : ∃ k, W G a k y ∧ ∀ j, j < k → ¬ W G a j y := by
    induction k using Nat.strongRecOn with
    | _ k ih =>
      by_cases hq : ∃ j, j < k ∧ W G a j y
      · obtain ⟨j, hj, hw⟩ := hq; exact ih j hj hw
      · exact ⟨k, h, fun j hj hw => hq ⟨j, hj, hw⟩⟩
  obtain ⟨k, hk, hm⟩ := this
  obtain ⟨l, h1, h2, h3⟩ := W.least wf k y hk hm
  have := nodup_le G.length l h2 (fun x hx => (h3 x hx).1)
  exact ⟨k, by omega, hk⟩

/-- a dominates b -/
def Dom (G : List (List Nat)) (a b : Nat) : Prop := (∃ k, R G k b) ∧ ∀ k, ¬ W G a k b
theorem Dom.self {G : List (List Nat)} {b k : Nat} (h : R G k b) : Dom G b b := ⟨⟨k, h⟩, fun _ h => h.ne rfl⟩
theorem Dom.left {G : List (List Nat)} {a b : Nat} (h : Dom G a b) : ∃ k, R G k a := by
  obtain ⟨⟨k, hk⟩, hw⟩ := h
  by_cases e : b = a
  · subst e; exact ⟨k, hk⟩
  · rcases hk.cut a e with h | ⟨j, _, h⟩
    · exact absurd h (hw k)
    · exact ⟨j, h⟩
theorem Dom.trans {G : List (List Nat)} {a b c : Nat} (h : Dom G a b) (k : Dom G b c) : Dom G a c := by
  refine ⟨k.1, fun i hw => ?_⟩
  rcases hw.cut b with h' | ⟨j, _, h'⟩
  · exact k.2 i h'
  · exact h.2 j h'
theorem Dom.anti {G : List (List Nat)} {a b : Nat} (h : Dom G a b) (k : Dom G b a) : a = b := by
  apply Classical.byContradiction
  intro e
  have key : ∀ n, (∀ i, i < n → ¬ R G i a) ∧ (∀ i, i < n → ¬ R G i b) := by
    intro n
    induction n with
    | zero => exact ⟨fun _ h => by omega, fun _ h => by omega⟩
    | succ n ih =>
      refine ⟨fun i hi hr => ?_, fun i hi hr => ?_⟩
      · rcases hr.cut b e with h' | ⟨j, hj, h'⟩
        · exact k.2 i h'
        · exact ih.2 j (by omega) h'
      · rcases hr.cut a (Ne.symm e) with h' | ⟨j, hj, h'⟩
        · exact h.2 i h'
        · exact ih.1 j (by omega) h'
  obtain ⟨i, hi⟩ := k.1
  exact (key (i + 1)).1 i (by omega) hi
/-- what dominates a node dominates all that goes to it, but itself -/
theorem Dom.back {G : List (List Nat)} {a b p k : Nat} (h : Dom G a b) (hn : b ≠ a) (hp : b ∈ adj G p) (hr : R G k p) : Dom G a p :=
  ⟨⟨k, hr⟩, fun j hw => h.2 (j + 1) (.step hw hp hn)⟩
/-- .. and what dominates all that goes to it dominates it -/
theorem Dom.front {G : List (List Nat)} {a b k : Nat} (hb : b ≠ 0) (hr : R G k b) (h : ∀ p, b ∈ adj G p → (∃ k, R G k p) → Dom G a p) : Dom G a b := by
  refine ⟨⟨k, hr⟩, fun j hw => ?_⟩
  cases hw with
  | zero _ => exact hb rfl
  | step hw hz _ => exact (h _ hz ⟨_, hw.r⟩).2 _ hw
theorem dom_zero {G : List (List Nat)} {a : Nat} (h : Dom G a 0) : a = 0 := by
  apply Classical.byContradiction; intro e; exact h.2 0 (.zero (Ne.symm e))
theorem zero_dom {G : List (List Nat)} {b k : Nat} (h : R G k b) : Dom G 0 b := by
  refine ⟨⟨k, h⟩, fun j hw => ?_⟩
  clear h
  induction hw with
  | zero h => exact h rfl
  | step _ _ _ ih => exact ih

structure IsNear (G : List (List Nat)) (N : List Int) : Prop where
  len : N.length = G.length
  none : ∀ b, (b = 0 ∨ ¬ Reached G b) → N.getD b (-1) = -1
  some : ∀ b, Reached G b → b ≠ 0 → ∃ m : Nat, N.getD b (-1) = (m : Int) ∧ m ≠ b ∧ Dom G m b ∧ ∀ a, Dom G a b → a ≠ b → Dom G a m
theorem IsNear.uniq {G : List (List Nat)} {N M : List Int} (h : IsNear G N) (k : IsNear G M) : N = M := by
  refine List.ext_getElem (h.len.trans k.len.symm) fun b h1 h2 => ?_
  have e : N.getD b (-1) = M.getD b (-1) := by
    by_cases hb : b = 0 ∨ ¬ Reached G b
    · rw [h.none b hb, k.none b hb]
    · have hb' : b ≠ 0 ∧ Reached G b := ⟨fun e => hb (.inl e), Classical.byContradiction fun e => hb (.inr e)⟩
      obtain ⟨m, e1, n1, d1, l1⟩ := h.some b hb'.2 hb'.1
      obtain ⟨m', e2, n2, d2, l2⟩ := k.some b hb'.2 hb'.1
      rw [e1, e2, Dom.anti (l2 m d1 n1) (l1 m' d2 n2)]
  rw [List.getD_eq_getElem?_getD, List.getD_eq_getElem?_getD, List.getElem?_eq_getElem h1, List.getElem?_eq_getElem h2] at e
  exact e

/-! ### trees of nearest ones -/
/-- x is met on the way from c -/
inductive Anc (N : List Int) (x : Nat) : Nat → Prop
  | refl : Anc N x x
  | up {c p : Nat} : N.getD c (-1) = (p : Int) → Anc N x p → Anc N x c
def known (N : List Int) (x : Nat) : Prop := x = 0 ∨ N.getD x (-1) ≠ -1
theorem Anc.cases {N : List Int} {x c : Nat} (h : Anc N x c) : x = c ∨ ∃ p : Nat, N.getD c (-1) = (p : Int) ∧ Anc N x p := by
  cases h with
  | refl => exact .inl rfl
  | up e h => exact .inr ⟨_, e, h⟩
theorem Anc.trans {N : List Int} {x y z : Nat} (h : Anc N x y) (k : Anc N y z) : Anc N x z := by
  induction k with
  | refl => exact h
  | up e _ ih => exact .up e ih
theorem Anc.total {N : List Int} {x y c : Nat} (h : Anc N x c) (k : Anc N y c) : Anc N x y ∨ Anc N y x := by
  induction h with
  | refl => exact .inr k
  | up e h ih =>
    rcases k.cases with rfl | ⟨p, e', k⟩
    · exact .inl (.up e h)
    · rw [e] at e'; have e' : _ = p := Int.ofNat.inj e'; subst e'; exact ih k

/-- from x to y through nodes of place m and more -/
inductive Pt (G : List (List Nat)) (ord : List Nat) (m : Nat) (x : Nat) : Nat → Prop
  | refl : m ≤ ord.idxOf x → Pt G ord m x x
  | step {y z : Nat} : Pt G ord m x y → z ∈ adj G y → m ≤ ord.idxOf z → Pt G ord m x z
theorem Pt.mono {G : List (List Nat)} {ord : List Nat} {m m' x y : Nat} (hm : m' ≤ m) (h : Pt G ord m x y) : Pt G ord m' x y := by
  induction h with
  | refl h => exact .refl (by omega)
  | step _ hz hn ih => exact .step ih hz (by omega)
theorem Pt.trans {G : List (List Nat)} {ord : List Nat} {m x y z : Nat} (h : Pt G ord m x y) (k : Pt G ord m y z) : Pt G ord m x z := by
  induction k with
  | refl _ => exact h
  | step _ hz hn ih => exact .step ih hz hn
theorem Pt.w {G : List (List Nat)} {ord : List Nat} {m x y a j : Nat} (h : Pt G ord m x y) (ha : ord.idxOf a < m) (hw : W G a j x) : ∃ i, W G a i y := by
  induction h with
  | refl _ => exact ⟨j, hw⟩
  | step _ hz hn ih => obtain ⟨i, hi⟩ := ih; exact ⟨i + 1, .step hi hz (fun e => by subst e; omega)⟩

structure Tree (G : List (List Nat)) (ord : List Nat) (N : List Int) : Prop where
  len : N.length = G.length
  par : ∀ b, N.getD b (-1) ≠ -1 → ∃ p : Nat, N.getD b (-1) = (p : Int) ∧ b ∈ ord ∧ b ≠ 0 ∧ p ∈ ord ∧ ord.idxOf p < ord.idxOf b ∧ known N p
  low : ∀ x c, Anc N x c → Pt G ord (ord.idxOf x) x c
  keep : ∀ a c, Dom G a c → known N c → Anc N a c

theorem Tree.step {G : List (List Nat)} {ord : List Nat} {N : List Int} (T : Tree G ord N) {b p : Nat} (h : N.getD b (-1) = (p : Int)) : b ∈ ord ∧ b ≠ 0 ∧ p ∈ ord ∧ ord.idxOf p < ord.idxOf b ∧ known N p := by
  obtain ⟨q, e, r⟩ := T.par b (by rw [h]; omega)
  rw [h] at e; have e : p = q := Int.ofNat.inj e; subst e; exact r
theorem Tree.lt {G : List (List Nat)} {ord : List Nat} {N : List Int} (T : Tree G ord N) {x c : Nat} (h : Anc N x c) : x = c ∨ (x ∈ ord ∧ ord.idxOf x < ord.idxOf c ∧ known N x ∧ c ∈ ord) := by
  induction h with
  | refl => exact .inl rfl
  | up e _ ih =>
    obtain ⟨h1, h2, h3, h4, h5⟩ := T.step e
    rcases ih with rfl | ⟨k1, k2, k3, k4⟩
    · exact .inr ⟨h3, h4, h5, h1⟩
    · exact .inr ⟨k1, by omega, k3, h1⟩
theorem Tree.le {G : List (List Nat)} {ord : List Nat} {N : List Int} (T : Tree G ord N) {x c : Nat} (h : Anc N x c) : ord.idxOf x ≤ ord.idxOf c := by
  rcases T.lt h with rfl | h <;> omega
theorem Tree.anti {G : List (List Nat)} {ord : List Nat} {N : List Int} (T : Tree G ord N) {x y : Nat} (h : Anc N x y) (k : Anc N y x) : x = y := by
  have := T.le k
  rcases T.lt h with e | h
  · exact e
  · omega
theorem Tree.kn {G : List (List Nat)} {ord : List Nat} {N : List Int} (T : Tree G ord N) {x c : Nat} (h : Anc N x c) (hc : known N c) : known N x := by
  rcases T.lt h with rfl | h
  · exact hc
  · exact h.2.2.1

/-- r is what all of l that is known have in common, or -1 -/
def MeetAll (N : List Int) (l : List Nat) (r : Int) : Prop :=
  (r = -1 ∧ ∀ p ∈ l, ¬ known N p) ∨ ∃ n : Nat, r = (n : Int) ∧ (∃ p ∈ l, known N p) ∧ ∀ x, Anc N x n ↔ ∀ p ∈ l, known N p → Anc N x p

structure Inv (G : List (List Nat)) (ord : List Nat) (k i : Nat) (N : List Int) : Prop where
  tree : Tree G ord N
  kn : ∀ y ∈ ord, ord.idxOf y < i ∨ 0 < k → known N y
  lows : ∀ y ∈ ord, ∀ a, Anc N a y → (∀ j, j ≤ k → ¬ W G a j y) ∧ (ord.idxOf y < i → ∀ j, j ≤ k + 1 → ¬ W G a j y)

theorem getD_rep {n b : Nat} {r : Int} : (List.replicate n r).getD b r = r := by
  rw [List.getD_eq_getElem?_getD]
  by_cases h : b < n
  · simp [h]
  · simp [h]

theorem anc_none {n x c : Nat} (h : Anc (List.replicate n (-1 : Int)) x c) : x = c := by
  cases h with
  | refl => rfl
  | up e _ => rw [getD_rep] at e; omega

theorem Inv.start {G : List (List Nat)} {ord : List Nat} (ho : IsOrder G ord) : Inv G ord 0 1 (List.replicate G.length (-1)) := by
  obtain ⟨tl, e⟩ := ho.first
  have hk : ∀ y, known (List.replicate G.length (-1)) y → y = 0 := fun y h => by
    rcases h with h | h
    · exact h
    · rw [getD_rep] at h; exact absurd rfl h
  have hz : ∀ y ∈ ord, ord.idxOf y < 1 → y = 0 := fun y hy h => by
    subst e
    rw [List.idxOf_cons] at h
    by_cases h0 : (0 == y) = true
    · simpa using (beq_iff_eq.1 h0).symm
    · simp [h0] at h
  refine ⟨⟨by simp, fun b h => by rw [getD_rep] at h; exact absurd rfl h, fun x c h => by rw [anc_none h]; exact .refl (Nat.le_refl _), fun a c hd hc => by
      rw [hk c hc] at hd ⊢; rw [dom_zero hd]; exact .refl⟩, fun y hy h => ?_, fun y hy a ha => ?_⟩
  · rcases h with h | h
    · exact .inl (hz y hy h)
    · omega
  · obtain rfl := anc_none ha
    exact ⟨fun j _ hw => hw.ne rfl, fun _ j _ hw => hw.ne rfl⟩

/-- one node more -/
theorem Inv.next {G : List (List Nat)} {ord : List Nat} (wf : WF G) (ho : IsOrder G ord) {k i b : Nat} {N : List Int} {l : List Nat} {r : Int} (I : Inv G ord k i N) (hb : b ∈ ord) (hi : ord.idxOf b = i) (h0 : b ≠ 0)
    (hl : ∀ p, p ∈ l ↔ b ∈ adj G p) (hm : MeetAll N l r) : r ≠ -1 ∧ Inv G ord k (i + 1) (N.set b r) ∧ (G.length ≤ k → r = N.getD b (-1)) := by
  have T := I.tree
  have hbr := (ho.mem b).1 hb
  have hbl : b < N.length := by rw [T.len]; exact hbr.lt
  obtain ⟨kb, hkb⟩ := (reached_r wf).1 hbr
  -- an elder one that goes to b
  obtain ⟨q, hq1, hq2, hq3⟩ : ∃ q, q ∈ ord ∧ ord.idxOf q < i ∧ b ∈ adj G q := by
    obtain ⟨l1, l2, e⟩ := List.append_of_mem hb
    rcases ho.back l1 b l2 e with h | ⟨p, hp, hpb⟩
    · exact absurd h h0
    · have hnd := ho.nodup
      refine ⟨p, by rw [e]; exact List.mem_append_left _ hp, ?_, hpb⟩
      rw [← hi, e]
      rw [e] at hnd
      have hbn : b ∉ l1 := fun hm => (List.nodup_append.1 hnd).2.2 b hm b (List.mem_cons_self ..) rfl
      rw [List.idxOf_append, List.idxOf_append, if_pos hp, if_neg hbn]
      have := List.idxOf_lt_length_of_mem hp
      omega
  have hqk := I.kn q hq1 (.inl hq2)
  obtain ⟨n, rfl, -, hn⟩ : ∃ n : Nat, r = (n : Int) ∧ (∃ p ∈ l, known N p) ∧ ∀ x, Anc N x n ↔ ∀ p ∈ l, known N p → Anc N x p := by
    rcases hm with ⟨_, h⟩ | h
    · exact absurd hqk (h q ((hl q).2 hq3))
    · exact h
  have hnq : Anc N n q := (hn n).1 .refl q ((hl q).2 hq3) hqk
  have hni : ord.idxOf n < i := by have := T.le hnq; omega
  have hnb : n ≠ b := fun e => by subst e; omega
  have hno : n ∈ ord := by
    rcases T.lt hnq with h | h
    · exact h ▸ hq1
    · exact h.1
  have hnk : known N n := T.kn hnq hqk
  have hbn : ¬ Anc N b n := fun h => by have := T.le h; omega
  have hset : ∀ c, (N.set b (n : Int)).getD c (-1) = if b = c then (n : Int) else N.getD c (-1) := fun c => by
    rw [getD_set]; by_cases h : b = c
    · rw [if_pos ⟨h, hbl⟩, if_pos h]
    · rw [if_neg (fun x => h x.1), if_neg h]
  have hkm : ∀ c, known N c → known (N.set b (n : Int)) c := fun c h => by
    rcases h with h | h
    · exact .inl h
    · right; rw [hset]; split
      · omega
      · exact h
  have hkb : known (N.set b (n : Int)) b := by right; rw [hset, if_pos rfl]; omega
  have A : ∀ x c, Anc (N.set b (n : Int)) x c → Anc N x c ∨ (Anc N b c ∧ Anc N x n) := fun x c h => by
    induction h with
    | refl => exact .inl .refl
    | up e _ ih =>
      rename_i c p _
      rw [hset] at e
      by_cases hc : b = c
      · subst hc
        rw [if_pos rfl] at e; have e : n = p := Int.ofNat.inj e; subst e
        rcases ih with ih | ih
        · exact .inr ⟨.refl, ih⟩
        · exact absurd ih.1 hbn
      · rw [if_neg hc] at e
        rcases ih with ih | ih
        · exact .inl (.up e ih)
        · exact .inr ⟨.up e ih.1, ih.2⟩
  have D : ∀ x c, Anc N x c → Anc (N.set b (n : Int)) x c ∨ (Anc N x b ∧ x ≠ b ∧ Anc N b c) := fun x c h => by
    induction h with
    | refl => exact .inl .refl
    | up e h ih =>
      rename_i c p
      by_cases hc : b = c
      · subst hc
        refine .inr ⟨.up e h, fun he => ?_, .refl⟩
        subst he
        have := T.le h; have := (T.step e).2.2.2.1; omega
      · rcases ih with ih | ih
        · exact .inl (.up (by rw [hset, if_neg hc]; exact e) ih)
        · exact .inr ⟨ih.1, ih.2.1, .up e ih.2.2⟩
  have An : ∀ x, Anc N x n → Anc (N.set b (n : Int)) x n := fun x h => by
    rcases D x n h with h | h
    · exact h
    · exact absurd h.2.2 hbn
  have Ab : ∀ x, Anc N x n → Anc (N.set b (n : Int)) x b := fun x h => .up (by rw [hset, if_pos rfl]) (An x h)
  have Db : ∀ c, Anc N b c → Anc (N.set b (n : Int)) b c := fun c h => by
    rcases D b c h with h | h
    · exact h
    · exact absurd rfl h.2.1
  have ptn : Pt G ord (ord.idxOf n) n b := .step (T.low n q hnq) hq3 (by omega)
  have domb : ∀ a, Dom G a b → Anc (N.set b (n : Int)) a b := fun a hd => by
    by_cases e : b = a
    · subst e; exact .refl
    · refine Ab a ((hn a).2 fun p hp hpk => ?_)
      have hpb := (hl p).1 hp
      have hpr : ∃ k, R G k p := by
        rcases hpk with rfl | h
        · exact ⟨0, .zero⟩
        · obtain ⟨_, _, h, _⟩ := T.par p h; exact (reached_r wf).1 ((ho.mem p).1 h)
      obtain ⟨kp, hkp⟩ := hpr
      exact T.keep a p (hd.back e hpb hkp) hpk
  refine ⟨by omega, ⟨⟨by rw [List.length_set]; exact T.len, fun c hc => ?_, fun x c h => ?_, fun a c hd hc => ?_⟩, fun y hy h => ?_, fun y hy a ha => ?_⟩, fun hk => ?_⟩
  · rw [hset] at hc ⊢
    by_cases e : b = c
    · subst e; rw [if_pos rfl]; exact ⟨n, rfl, hb, h0, hno, by omega, hkm n hnk⟩
    · rw [if_neg e] at hc ⊢
      obtain ⟨p, h1, h2, h3, h4, h5, h6⟩ := T.par c hc
      exact ⟨p, h1, h2, h3, h4, h5, hkm p h6⟩
  · rcases A x c h with h | ⟨h1, h2⟩
    · exact T.low x c h
    · have hx := T.le h2
      exact ((T.low x n h2).trans (ptn.mono hx)).trans ((T.low b c h1).mono (by omega))
  · by_cases e : b = c
    · subst e; exact domb a hd
    · have hc' : known N c := by
        rcases hc with h | h
        · exact .inl h
        · right; rw [hset, if_neg e] at h; exact h
      rcases D a c (T.keep a c hd hc') with h | ⟨h1, h2, h3⟩
      · exact h
      · refine (domb a ⟨⟨_, by assumption⟩, fun j hw => ?_⟩).trans (Db c h3)
        have hlt : ord.idxOf a < ord.idxOf b := by rcases T.lt h1 with h | h <;> first | exact absurd h h2 | exact h.2.1
        obtain ⟨i', hi'⟩ := (T.low b c h3).w hlt hw
        exact hd.2 i' hi'
  · by_cases e : b = y
    · subst e; exact hkb
    · refine hkm y (I.kn y hy ?_)
      rcases h with h | h
      · left
        have : ord.idxOf y ≠ i := fun he => e (by
          have h1 := List.idxOf_lt_length_of_mem hb
          have h2 := List.idxOf_lt_length_of_mem hy
          have e1 := List.getElem_idxOf (xs := ord) (x := b) h1
          have e2 := List.getElem_idxOf (xs := ord) (x := y) h2
          rw [← e1, ← e2]; congr 1; omega)
        omega
      · exact .inr h
  · have big : ∀ j, j ≤ k → ¬ W G a j y := fun j hj hw => by
      rcases A a y ha with h | ⟨h1, h2⟩
      · exact (I.lows y hy a h).1 j hj hw
      · rcases hw.cut b with h | ⟨j', hj', h⟩
        · exact (I.lows y hy b h1).1 j hj h
        · -- a is above n, so above all that goes to b
          cases h with
          | zero _ => exact h0 rfl
          | step hw' hz hna =>
            rename_i j'' p
            have hpo : p ∈ ord := (ho.mem p).2 ((reached_r wf).2 ⟨_, hw'.r⟩)
            have hpk : known N p := by
              refine I.kn p hpo ?_
              by_cases hk0 : 0 < k
              · exact .inr hk0
              · exfalso; omega
            exact (I.lows p hpo a ((hn a).1 h2 p ((hl p).2 hz) hpk)).1 j'' (by omega) hw'
    refine ⟨big, fun hyi j hj hw => ?_⟩
    by_cases e : b = y
    · subst e
      rcases A a b ha with h | ⟨_, h2⟩
      · rcases ha.cases with rfl | ⟨p, e1, h1⟩
        · exact hw.ne rfl
        · rw [hset, if_pos rfl] at e1; have e1 : n = p := Int.ofNat.inj e1; subst e1
          have h2 : Anc N a n := by
            rcases A a n h1 with h | h
            · exact h
            · exact h.2
          cases hw with
          | zero _ => exact h0 rfl
          | step hw' hz hna =>
            rename_i j'' p
            have hpo : p ∈ ord := (ho.mem p).2 ((reached_r wf).2 ⟨_, hw'.r⟩)
            have hpk : known N p := by
              by_cases hk0 : 0 < k
              · exact I.kn p hpo (.inr hk0)
              · obtain rfl : j'' = 0 := by omega
                cases hw' with
                | zero _ => exact .inl rfl
            exact (I.lows p hpo a ((hn a).1 h2 p ((hl p).2 hz) hpk)).1 j'' (by omega) hw'
      · cases hw with
        | zero _ => exact h0 rfl
        | step hw' hz hna =>
          rename_i j'' p
          have hpo : p ∈ ord := (ho.mem p).2 ((reached_r wf).2 ⟨_, hw'.r⟩)
          have hpk : known N p := by
            by_cases hk0 : 0 < k
            · exact I.kn p hpo (.inr hk0)
            · obtain rfl : j'' = 0 := by omega
              cases hw' with
              | zero _ => exact .inl rfl
          exact (I.lows p hpo a ((hn a).1 h2 p ((hl p).2 hz) hpk)).1 j'' (by omega) hw'
    · have hyi' : ord.idxOf y < i := by
        have : ord.idxOf y ≠ i := fun he => e (by
          have h1 := List.idxOf_lt_length_of_mem hb
          have h2 := List.idxOf_lt_length_of_mem hy
          have e1 := List.getElem_idxOf (xs := ord) (x := b) h1
          have e2 := List.getElem_idxOf (xs := ord) (x := y) h2
          rw [← e1, ← e2]; congr 1; omega)
        omega
      rcases A a y ha with h | ⟨h1, h2⟩
      · exact (I.lows y hy a h).2 hyi' j hj hw
      · have := T.le h1; omega
  · have hkp : 0 < k := by have := wf.pos; omega
    have all : ∀ y ∈ ord, ∀ a, Anc N a y ↔ Dom G a y := fun y hy a => by
      constructor
      · intro h
        refine ⟨(reached_r wf).1 ((ho.mem y).1 hy), fun j hw => ?_⟩
        obtain ⟨j', hj', hw'⟩ := hw.short wf
        exact (I.lows y hy a h).1 j' (by omega) hw'
      · intro h; exact T.keep a y h (I.kn y hy (.inr hkp))
    have hbk := I.kn b hb (.inr hkp)
    obtain ⟨m, em, _, _, hmo, hml, _⟩ := T.par b (by rcases hbk with h | h <;> first | exact absurd h h0 | exact h)
    rw [em]
    have preds : ∀ p, b ∈ adj G p → (∃ k, R G k p) → p ∈ ord ∧ known N p := fun p _ hr => by
      have := (ho.mem p).2 ((reached_r wf).2 hr); exact ⟨this, I.kn p this (.inr hkp)⟩
    have h1 : Anc N n m := by
      have hd : Dom G n b := Dom.front h0 (by assumption) fun p hp hr => by
        obtain ⟨hpo, hpk⟩ := preds p hp hr
        exact (all p hpo n).1 ((hn n).1 .refl p ((hl p).2 hp) hpk)
      rcases ((all b hb n).2 hd).cases with e | ⟨p, e, h⟩
      · exact absurd e hnb
      · rw [em] at e; have e : m = p := Int.ofNat.inj e; subst e; exact h
    have h2 : Anc N m n := by
      have hmb : Anc N m b := .up em .refl
      have hd := (all b hb m).1 hmb
      refine (hn m).2 fun p hp hpk => ?_
      have hpr : ∃ k, R G k p := by
        rcases hpk with rfl | h
        · exact ⟨0, .zero⟩
        · obtain ⟨_, _, h, _⟩ := T.par p h; exact (reached_r wf).1 ((ho.mem p).1 h)
      obtain ⟨kp, hkp'⟩ := hpr
      exact T.keep m p (hd.back (fun e => by subst e; omega) ((hl p).1 hp) hkp') hpk
    rw [T.anti h1 h2]

theorem Inv.turn {G : List (List Nat)} {ord : List Nat} {k : Nat} {N : List Int} (I : Inv G ord k ord.length N) (ho : IsOrder G ord) : Inv G ord (k + 1) 1 N := by
  have hz : ∀ y ∈ ord, ord.idxOf y < 1 → y = 0 := fun y hy h => by
    obtain ⟨tl, e⟩ := ho.first
    subst e
    rw [List.idxOf_cons] at h
    by_cases h0 : (0 == y) = true
    · simpa using (beq_iff_eq.1 h0).symm
    · simp [h0] at h
  refine ⟨I.tree, fun y hy _ => I.kn y hy (.inl (List.idxOf_lt_length_of_mem hy)), fun y hy a ha => ⟨(I.lows y hy a ha).2 (List.idxOf_lt_length_of_mem hy), fun h j hj hw => ?_⟩⟩
  have e := hz y hy h
  subst e
  have : a = 0 := by
    rcases I.tree.lt ha with e | h'
    · exact e
    · omega
  subst this; exact hw.ne rfl

/-- where nothing turns any more, they are the nearest ones -/
theorem fixed {G : List (List Nat)} {ord : List Nat} (wf : WF G) (ho : IsOrder G ord) {N : List Int} (T : Tree G ord N) (l : Nat → List Nat) (hl : ∀ b ∈ ord, ∀ p, p ∈ l b ↔ b ∈ adj G p)
    (hf : ∀ b ∈ ord, b ≠ 0 → MeetAll N (l b) (N.getD b (-1))) : IsNear G N := by
  have hk : ∀ k y, R G k y → known N y := fun k y h => by
    induction h with
    | zero => exact .inl rfl
    | step hr hz ih =>
      rename_i k x y
      by_cases h0 : y = 0
      · exact .inl h0
      · right
        have hyo : y ∈ ord := (ho.mem y).2 ((reached_r wf).2 ⟨_, .step hr hz⟩)
        rcases hf y hyo h0 with ⟨_, h⟩ | ⟨n, e, _⟩
        · exact absurd ih (h x ((hl y hyo x).2 hz))
        · rw [e]; omega
  have hw : ∀ k a y, W G a k y → ¬ Anc N a y := fun k a y h => by
    induction h with
    | zero h =>
      intro hc
      rcases hc.cases with e | ⟨p, e, _⟩
      · exact h e.symm
      · exact (T.step e).2.1 rfl
    | step hw' hz hn ih =>
      rename_i k x y
      intro hc
      have hyo : y ∈ ord := (ho.mem y).2 ((reached_r wf).2 ⟨_, .step hw'.r hz⟩)
      rcases hc.cases with e | ⟨p, e, hc⟩
      · exact hn e.symm
      · obtain ⟨_, h0, _⟩ := T.step e
        rcases hf y hyo h0 with ⟨e', _⟩ | ⟨n, e', _, h⟩
        · rw [e] at e'; omega
        · rw [e] at e'; have e' : p = n := Int.ofNat.inj e'; subst e'
          exact ih ((h a).1 hc x ((hl y hyo x).2 hz) (hk k x hw'.r))
  have all : ∀ y ∈ ord, ∀ a, Anc N a y ↔ Dom G a y := fun y hy a => by
    obtain ⟨k, hr⟩ := (reached_r wf).1 ((ho.mem y).1 hy)
    exact ⟨fun h => ⟨⟨k, hr⟩, fun j h' => hw j a y h' h⟩, fun h => T.keep a y h (hk k y hr)⟩
  refine ⟨T.len, fun b hb => ?_, fun b hb h0 => ?_⟩
  · apply Classical.byContradiction
    intro hn
    obtain ⟨_, _, h1, h2, _⟩ := T.par b hn
    rcases hb with hb | hb
    · exact h2 hb
    · exact hb ((ho.mem b).1 h1)
  · have hbo := (ho.mem b).2 hb
    obtain ⟨k, hr⟩ := (reached_r wf).1 hb
    obtain ⟨m, em, _, _, hmo, hml, _⟩ := T.par b (by rcases hk k b hr with h | h <;> first | exact absurd h h0 | exact h)
    refine ⟨m, em, fun e => by subst e; omega, (all b hbo m).1 (.up em .refl), fun a hd hn => ?_⟩
    rcases ((all b hbo a).2 hd).cases with e | ⟨p, e, h⟩
    · exact absurd e hn
    · rw [em] at e; have e : m = p := Int.ofNat.inj e; subst e; exact (all m hmo a).1 h
end Go.Proofs.Ytcghekbbaeejaaa.Gr
