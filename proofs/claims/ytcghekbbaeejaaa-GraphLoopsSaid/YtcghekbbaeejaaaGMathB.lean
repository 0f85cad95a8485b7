/- What is reached, and what the order is. -/
import Derived.Test.YtcghekbbaeejaaaGMathA
namespace Go.Proofs.Ytcghekbbaeejaaa.Gr

/-- from x, through nodes that were not met, to y -/
inductive Rch (G : List (List Nat)) (ms : List Bool) (x : Nat) : Nat → Prop
  | refl : met ms x = false → Rch G ms x x
  | step {y z : Nat} : Rch G ms x y → z ∈ adj G y → met ms z = false → Rch G ms x z

theorem Rch.new {G : List (List Nat)} {ms : List Bool} {x y : Nat} (h : Rch G ms x y) : met ms y = false := by cases h <;> assumption
theorem Rch.old {G : List (List Nat)} {ms ms' : List Bool} {x y : Nat} (hm : ∀ z, met ms z = true → met ms' z = true) (h : Rch G ms' x y) : Rch G ms x y := by
  have hf : ∀ z, met ms' z = false → met ms z = false := fun z hz => by
    cases hq : met ms z
    · rfl
    · rw [hm z hq] at hz; cases hz
  induction h with
  | refl h => exact .refl (hf _ h)
  | step _ hz hn ih => exact .step ih hz (hf _ hn)
theorem Rch.front {G : List (List Nat)} {ms : List Bool} {x y z : Nat} (hx : met ms x = false) (hy : y ∈ adj G x) (h : Rch G ms y z) : Rch G ms x z := by
  induction h with
  | refl h => exact .step (.refl hx) hy h
  | step _ hz hn ih => exact .step ih hz hn
theorem Rch.trans {G : List (List Nat)} {ms : List Bool} {x y z : Nat} (h : Rch G ms x y) (k : Rch G ms y z) : Rch G ms x z := by
  induction k with
  | refl _ => exact h
  | step _ hz hn ih => exact .step ih hz hn

/-- what a walk did: the nodes news were met, in this order done -/
structure Did (G : List (List Nat)) (P : Nat → Prop) (s s' : St) (news : List Nat) : Prop where
  done : s'.2 = s.2 ++ news
  mem : ∀ y, met s'.1 y = true ↔ met s.1 y = true ∨ y ∈ news
  new : ∀ y ∈ news, met s.1 y = false
  nodup : news.Nodup
  closed : ∀ y ∈ news, ∀ z ∈ adj G y, met s'.1 z = true
  post : ∀ l1 y l2, news = l1 ++ y :: l2 → P y ∨ ∃ p ∈ l2, y ∈ adj G p

theorem Did.nil (G : List (List Nat)) (P : Nat → Prop) (s : St) : Did G P s s [] :=
  ⟨by simp, by simp, by simp, List.nodup_nil, by simp, by simp⟩

theorem append_split {α : Type} {a b l1 l2 : List α} {y : α} (h : a ++ b = l1 ++ y :: l2) : (∃ m, a = l1 ++ y :: m ∧ l2 = m ++ b) ∨ (∃ m, l1 = a ++ m ∧ b = m ++ y :: l2) := by
  induction a generalizing l1 with
  | nil => exact .inr ⟨l1, rfl, h⟩
  | cons x a ih =>
    cases l1 with
    | nil =>
      simp only [List.nil_append, List.cons_append, List.cons.injEq] at h
      exact .inl ⟨a, by simp [h.1], h.2.symm⟩
    | cons z l1 =>
      simp only [List.cons_append, List.cons.injEq] at h
      rcases ih h.2 with ⟨m, h1, h2⟩ | ⟨m, h1, h2⟩
      · exact .inl ⟨m, by simp [h.1, h1], h2⟩
      · exact .inr ⟨m, by simp [h.1, h1], h2⟩

theorem Did.trans {G : List (List Nat)} {P : Nat → Prop} {a b c : St} {n1 n2 : List Nat} (h : Did G P a b n1) (k : Did G P b c n2) : Did G P a c (n1 ++ n2) := by
  have dis : ∀ y ∈ n1, ∀ z ∈ n2, y ≠ z := fun y hy z hz e => by
    subst e
    have h1 := k.new y hz
    rw [(h.mem y).2 (.inr hy)] at h1; cases h1
  refine ⟨by rw [k.done, h.done, List.append_assoc], fun y => ?_, fun y hy => ?_, ?_, fun y hy z hz => ?_, fun l1 y l2 e => ?_⟩
  · rw [k.mem, h.mem, List.mem_append]; exact ⟨fun x => by rcases x with (x | x) | x <;> simp [x], fun x => by rcases x with x | x | x <;> simp [x]⟩
  · rcases List.mem_append.1 hy with hy | hy
    · exact h.new y hy
    · have h1 := k.new y hy
      cases hq : met a.1 y
      · rfl
      · rw [(h.mem y).2 (.inl hq)] at h1; cases h1
  · exact List.nodup_append.2 ⟨h.nodup, k.nodup, dis⟩
  · rcases List.mem_append.1 hy with hy | hy
    · exact (k.mem z).2 (.inl (h.closed y hy z hz))
    · exact k.closed y hy z hz
  · rcases append_split e with ⟨m, h1, h2⟩ | ⟨m, h1, h2⟩
    · rcases h.post _ _ _ h1 with hp | ⟨p, hp, hy⟩
      · exact .inl hp
      · exact .inr ⟨p, by rw [h2]; exact List.mem_append_left _ hp, hy⟩
    · exact k.post _ _ _ h2

theorem vis_did (G : List (List Nat)) (f : Nat) (ihg : ∀ (x : Nat) (s : St), U s.1 ≤ f → met s.1 x = false → ∃ news, Did G (· = x) s (go G f x s) news) (P : Nat → Prop) :
    ∀ (xs : List Nat) (t : St), (∀ x ∈ xs, P x) → U t.1 ≤ f → ∃ news, Did G P t (vis G f xs t) news
  | [], t, _, _ => ⟨[], Did.nil G P t⟩
  | y :: ys, t, hp, ht => by
    rw [vis_cons]
    by_cases hy : met t.1 y = true
    · rw [stp_met hy]; exact vis_did G f ihg P ys t (fun x hx => hp x (List.mem_cons_of_mem _ hx)) ht
    · have hy : met t.1 y = false := by simpa using hy
      rw [stp_new hy]
      obtain ⟨n1, h1⟩ := ihg y t ht hy
      have hf := (go_fwd G f y t ht hy).1.u
      obtain ⟨n2, h2⟩ := vis_did G f ihg P ys (go G f y t) (fun x hx => hp x (List.mem_cons_of_mem _ hx)) (by omega)
      refine ⟨n1 ++ n2, Did.trans ⟨h1.done, h1.mem, h1.new, h1.nodup, h1.closed, fun l1 z l2 e => ?_⟩ h2⟩
      rcases h1.post l1 z l2 e with rfl | h
      · exact .inl (hp _ (List.mem_cons_self ..))
      · exact .inr h

theorem go_did (G : List (List Nat)) : ∀ (f x : Nat) (s : St), U s.1 ≤ f → met s.1 x = false → ∃ news, Did G (· = x) s (go G f x s) news
  | 0, x, s, hu, hx => by have := U_pos hx; omega
  | f + 1, x, s, hu, hx => by
    have hs := U_set hx
    have hl := met_lt hx
    have hs' : U (s.1.set x true) ≤ f := by omega
    obtain ⟨n, h⟩ := vis_did G f (go_did G f) (· ∈ adj G x) (adj G x) (s.1.set x true, s.2) (fun _ h => h) hs'
    have hf := vis_fwd G f (adj G x) (s.1.set x true, s.2) hs'
    have hall : ∀ (xs : List Nat) (t : St), U t.1 ≤ f → (∀ z, z ∈ xs → z < t.1.length ∨ True) → ∀ z ∈ xs, met (vis G f xs t).1 z = true := by
      intro xs
      induction xs with
      | nil => intro _ _ _ z hz; cases hz
      | cons y ys ih =>
        intro t ht _ z hz
        rw [vis_cons]
        have hst : met (stp G f t y).1 y = true ∧ U (stp G f t y).1 ≤ f := by
          by_cases hy : met t.1 y = true
          · rw [stp_met hy]; exact ⟨hy, ht⟩
          · have hy : met t.1 y = false := by simpa using hy
            obtain ⟨h1, h2, h3, h4⟩ := go_fwd G f y t ht hy
            rw [stp_new hy]; exact ⟨h2, by omega⟩
        rcases List.mem_cons.1 hz with rfl | hz
        · exact (vis_fwd G f ys _ hst.2).mono _ hst.1
        · exact ih _ hst.2 (fun _ _ => .inr trivial) z hz
    have hch := hall (adj G x) (s.1.set x true, s.2) hs' (fun _ _ => .inr trivial)
    have hxn : x ∉ n := fun hm => by
      have := h.new x hm
      rw [show met (s.1.set x true, s.2).1 x = true from met_set_self hl] at this; cases this
    refine ⟨n ++ [x], ?_⟩
    rw [go_succ]
    refine ⟨by show _ ++ [x] = _; rw [h.done, List.append_assoc], fun y => ?_, fun y hy => ?_, ?_, fun y hy z hz => ?_, fun l1 y l2 e => ?_⟩
    · show met (vis G f (adj G x) (s.1.set x true, s.2)).1 y = true ↔ _
      rw [h.mem, List.mem_append, List.mem_singleton]
      show met (s.1.set x true) y = true ∨ _ ↔ _
      rw [met_set]
      constructor
      · rintro (h' | h')
        · split at h'
          · rename_i hc; exact .inr (.inr hc.1.symm)
          · exact .inl h'
        · exact .inr (.inl h')
      · rintro (h' | h' | rfl)
        · left; split <;> simp [h']
        · exact .inr h'
        · left; rw [if_pos ⟨rfl, hl⟩]
    · rcases List.mem_append.1 hy with hy | hy
      · have := h.new y hy
        cases hq : met s.1 y
        · rfl
        · rw [show met (s.1.set x true, s.2).1 y = true from met_set_true hq] at this; cases this
      · rw [List.mem_singleton.1 hy]; exact hx
    · exact List.nodup_append.2 ⟨h.nodup, by simp, fun y hy z hz e => by rw [List.mem_singleton] at hz; subst hz; subst e; exact hxn hy⟩
    · rcases List.mem_append.1 hy with hy | hy
      · exact h.closed y hy z hz
      · rw [List.mem_singleton] at hy; subst hy; exact hch z hz
    · rcases append_split e with ⟨m, h1, h2⟩ | ⟨m, h1, h2⟩
      · rcases h.post _ _ _ h1 with hp | ⟨p, hp, hy⟩
        · exact .inr ⟨x, by rw [h2]; simp, hp⟩
        · exact .inr ⟨p, by rw [h2]; exact List.mem_append_left _ hp, hy⟩
      · left
        cases m with
        | nil => simp at h2; exact h2.1.symm
        | cons a m => simp at h2

/-- what is met behind a walk from x: what was met, and what is reached -/
theorem go_met (G : List (List Nat)) {f x : Nat} {s : St} (hu : U s.1 ≤ f) (hx : met s.1 x = false) (y : Nat) : met (go G f x s).1 y = true ↔ met s.1 y = true ∨ Rch G s.1 x y := by
  obtain ⟨news, h⟩ := go_did G f x s hu hx
  constructor
  · intro hy
    rcases (h.mem y).1 hy with hy | hy
    · exact .inl hy
    · right
      have key : ∀ n, ∀ l1 z l2, news = l1 ++ z :: l2 → l2.length ≤ n → Rch G s.1 x z := by
        intro n
        induction n with
        | zero =>
          intro l1 z l2 e hn
          obtain rfl : l2 = [] := List.eq_nil_of_length_eq_zero (by omega)
          rcases h.post l1 z [] e with rfl | ⟨p, hp, _⟩
          · exact .refl hx
          · cases hp
        | succ n ih =>
          intro l1 z l2 e hn
          rcases h.post l1 z l2 e with rfl | ⟨p, hp, hz⟩
          · exact .refl hx
          · obtain ⟨m1, m2, rfl⟩ := List.append_of_mem hp
            refine .step (ih (l1 ++ z :: m1) p m2 (by rw [e]; simp) ?_) hz (h.new z (by rw [e]; simp))
            simp at hn; omega
      obtain ⟨l1, l2, e⟩ := List.append_of_mem hy
      exact key l2.length l1 y l2 e (Nat.le_refl _)
  · rintro (hy | hy)
    · exact (h.mem y).2 (.inl hy)
    · have : y ∈ news := by
        induction hy with
        | refl _ =>
          have := (go_fwd G f x s hu hx).2.1
          rcases (h.mem x).1 this with h' | h'
          · rw [hx] at h'; cases h'
          · exact h'
        | step _ hz hn ih =>
          rcases (h.mem _).1 (h.closed _ ih _ hz) with h' | h'
          · rw [hn] at h'; cases h'
          · exact h'
      exact (h.mem y).2 (.inr this)

/-- what is reached from 0 -/
def Reached (G : List (List Nat)) (y : Nat) : Prop := Rch G (List.replicate G.length false) 0 y
theorem met_none {n x : Nat} (h : x < n) : met (List.replicate n false) x = false := by unfold met; simp [List.getD_eq_getElem?_getD, h]
theorem met_none_lt {n x : Nat} (h : met (List.replicate n false) x = false) : x < n := by have := met_lt h; simpa using this

structure IsOrder (G : List (List Nat)) (ord : List Nat) : Prop where
  nodup : ord.Nodup
  mem : ∀ y, y ∈ ord ↔ Reached G y
  first : ∃ tl, ord = 0 :: tl
  back : ∀ l1 y l2, ord = l1 ++ y :: l2 → y = 0 ∨ ∃ p ∈ l1, y ∈ adj G p

theorem order_is (G : List (List Nat)) (h : 0 < G.length) : IsOrder G (orderL G) := by
  have h0 : met (List.replicate G.length false, ([] : List Nat)).1 0 = false := met_none h
  have hu : U (List.replicate G.length false, ([] : List Nat)).1 ≤ G.length := by have := U_le (List.replicate G.length false); simpa using this
  obtain ⟨news, hd⟩ := go_did G G.length 0 _ hu h0
  have hm := go_met G hu h0
  have e : (go G G.length 0 (List.replicate G.length false, [])).2 = news := by rw [hd.done]; rfl
  have eo : orderL G = news.reverse := by unfold orderL; rw [e]
  have hnew : ∀ y, y ∈ news ↔ Reached G y := fun y => by
    have h1 := hd.mem y
    have h2 := hm y
    constructor
    · intro hy
      rcases h2.1 (h1.2 (.inr hy)) with h' | h'
      · rw [hd.new y hy] at h'; cases h'
      · exact h'
    · intro hy
      rcases h1.1 (h2.2 (.inr hy)) with h' | h'
      · have := Rch.new hy; rw [show met (List.replicate G.length false) y = true from h'] at this; cases this
      · exact h'
  refine ⟨by rw [eo]; exact (List.reverse_perm news).nodup_iff.2 hd.nodup, fun y => by rw [eo, List.mem_reverse]; exact hnew y, ?_, fun l1 y l2 hl => ?_⟩
  · have := go_open G (n := G.length) (by simp) h0
    rw [this] at e
    rw [eo, ← e]
    simp
  · rw [eo] at hl
    have : news = l2.reverse ++ y :: l1.reverse := by
      have := congrArg List.reverse hl
      simpa using this
    rcases hd.post _ _ _ this with rfl | ⟨p, hp, hy⟩
    · exact .inl rfl
    · exact .inr ⟨p, by simpa using hp, hy⟩
end Go.Proofs.Ytcghekbbaeejaaa.Gr
