/- The contracts of Load: the program's. -/
import Derived.Test.YtmknjiefdhhgkaaWrite
import Derived.Deep.RegionHeld3
set_option linter.unusedVariables false
namespace Go.Proofs.Ytmknjiefdhhgkaa.mm
open Go.RowKit

/-- what a load answers: the number, and the error's number -/
def loadR (l : List Int) (op a f : Int) : Int × Int :=
  match acc op with
  | none => (0, 1)
  | some A => if A.store = true ∨ 4294967295 < a ∨ 4294967295 < f then (0, 1) else if a + f + A.width ≤ l.length then (readV A.kind A.signed ((l.drop (a + f).toNat).take A.width), 0) else (0, 35)

theorem accessOf_some {op k : Int} {wd : Nat} {st sg : Bool} (h : acc op = some ⟨k, wd, st, sg⟩) (w : World) : Calls Try.prog 22 #[.int .i64 op] w fun e w' => e = .returned (.tuple #[.agg #[.int .i64 k, .int .i64 wd, .bool st, .bool sg], .bool true]) ∧ Below w.heap.size w w' :=
  (accessOf_any op w).mono fun e w' ⟨he, hb⟩ => ⟨by rw [he, h]; rfl, hb⟩
theorem accessOf_none {op : Int} (h : acc op = none) (w : World) : Calls Try.prog 22 #[.int .i64 op] w fun e w' => e = .returned (.tuple #[.agg #[.int .i64 0, .int .i64 0, .bool false, .bool false], .bool false]) ∧ Below w.heap.size w w' :=
  (accessOf_any op w).mono fun e w' ⟨he, hb⟩ => ⟨by rw [he, h]; rfl, hb⟩
theorem inside_x (k : Int) (wd : Nat) (st sg : Bool) (v : Value) (l : List Int) (a o : Int) (w : World) (hv : Rd w v l) (hl : l.length ≤ 140737488355328) (a0 : 0 ≤ a) (a1 : a ≤ 4294967295) (o0 : 0 ≤ o) (o1 : o ≤ 4294967295) (hw : wd ≤ 8) :
    Calls Try.prog 23 #[.agg #[.int .i64 k, .int .i64 wd, .bool st, .bool sg], v, .int .u64 a, .int .u64 o] w fun r w' => r = .returned (.bool (decide (a + o + wd ≤ l.length))) ∧ Below w.heap.size w w' :=
  inside_any ⟨k, wd, st, sg⟩ v l a o w hv hl a0 a1 o0 o1 hw
theorem piece_x (k : Int) (wd : Nat) (st sg : Bool) (b o n cap p : Nat) (a f : Int) (w : World) (hp : a + f = p) (a0 : 0 ≤ a) (f0 : 0 ≤ f) (hfit : p + wd ≤ n) (h1 : 1 ≤ wd) (hc : n ≤ cap) (hn : n ≤ 140737488355328) :
    Calls Try.prog 25 #[.agg #[.int .i64 k, .int .i64 wd, .bool st, .bool sg], .slice (some ⟨b, o, none⟩) n cap, .int .u64 a, .int .u64 f] w fun r w' => r = .returned (.slice (some ⟨b, o + p, none⟩) wd (cap - p)) ∧ Below w.heap.size w w' :=
  piece_any ⟨k, wd, st, sg⟩ b o n cap p a f w hp a0 f0 hfit h1 hc hn
theorem read_x (k : Int) (wd : Nat) (st sg : Bool) (b off cap : Nat) (l : List Int) (w : World) (hl : l.length = wd) (hcs : ∀ k, k < l.length → w.cell? ⟨b, off + k, none⟩ = some (.int .u8 (l.getD k 0))) (hb : Bs l) (hk : k = 127 ∨ k = 126) (hw : wd = 1 ∨ wd = 2 ∨ wd = 4 ∨ wd = 8) :
    Calls Try.prog 24 #[.agg #[.int .i64 k, .int .i64 wd, .bool st, .bool sg], .slice (some ⟨b, off, none⟩) wd cap] w fun e w' => e = .returned (.int .u64 (readV k sg l)) ∧ Below w.heap.size w w' := by
  subst hl
  exact read_any k st sg b off cap l w hcs hb hk hw
theorem fits_x (k : Int) (wd : Nat) (st sg : Bool) (n : Int) (w : World) (hk : k = 127 ∨ k = 126) :
    Calls Try.prog 27 #[.agg #[.int .i64 k, .int .i64 wd, .bool st, .bool sg], .int .u64 n] w fun r w' => r = .returned (.bool (fitB k n)) ∧ Below w.heap.size w w' :=
  fits_any ⟨k, wd, st, sg⟩ n w hk

/-- a part of what reads -/
theorem Rd.part {w : World} {v : Value} {l : List Int} (h : Rd w v l) {p k : Nat} (hp : p + k ≤ l.length) (hk : 1 ≤ k) : ∃ b off cap, v = .slice (some ⟨b, off, none⟩) l.length cap ∧ l.length ≤ cap ∧ ((l.drop p).take k).length = k ∧
    ∀ j, j < k → w.cell? ⟨b, off + p + j, none⟩ = some (.int .u8 (((l.drop p).take k).getD j 0)) := by
  obtain ⟨ao, cap, rfl, hc, hz, h⟩ := h
  rcases h with rfl | ⟨b, off, rfl, h⟩
  · simp at hp; omega
  · refine ⟨b, off, cap, rfl, hc, by rw [List.length_take, List.length_drop]; omega, fun j hj => ?_⟩
    rw [Nat.add_assoc, h (p + j) (by omega), List.getD_eq_getElem?_getD, List.getD_eq_getElem?_getD, List.getElem?_take, if_pos hj, List.getElem?_drop]

/-- a load that answers nothing but why -/
theorem Load_none (v : Value) (op a f : Int) (w : World) (hacc0 : acc op = none) :
    Calls Try.prog 15 #[v, .int .i64 op, .int .u64 a, .int .u64 f] w fun e w' => e = .returned (.tuple #[.int .u64 0, .int .i64 1]) ∧ Below w.heap.size w w' := by
  have Hacc := Lib.hid hacc0
  clear hacc0
  go_enter Try.func15, Try.ntmps15
  go_wp2_with (go_at_call 22; refine (accessOf_none Hacc.out _).mono ?_; rintro e w1 ⟨rfl, h1⟩)
  go_ret2
  exact ⟨rfl, bnextA h1 _⟩
theorem Load_arg (v : Value) (op a f : Int) (w : World) {k : Int} {wd : Nat} {st sg : Bool} (hacc0 : acc op = some ⟨k, wd, st, sg⟩) (hno : st = true ∨ 4294967295 < a ∨ 4294967295 < f) :
    Calls Try.prog 15 #[v, .int .i64 op, .int .u64 a, .int .u64 f] w fun e w' => e = .returned (.tuple #[.int .u64 0, .int .i64 1]) ∧ Below w.heap.size w w' := by
  have Hacc := Lib.hid hacc0
  clear hacc0
  cases st
  · by_cases h1 : 4294967295 < a
    · clear hno
      go_enter Try.func15, Try.ntmps15
      go_wp2_with (go_at_call 22; refine (accessOf_some Hacc.out _).mono ?_; rintro e w1 ⟨rfl, hb1⟩)
      go_ret2
      exact ⟨rfl, bnextA hb1 _⟩
    · have h2 : 4294967295 < f := by rcases hno with h | h | h; cases h; exact absurd h h1; exact h
      clear hno
      go_enter Try.func15, Try.ntmps15
      go_wp2_with (go_at_call 22; refine (accessOf_some Hacc.out _).mono ?_; rintro e w1 ⟨rfl, hb1⟩)
      go_ret2
      exact ⟨rfl, bnextA hb1 _⟩
  · clear hno
    go_enter Try.func15, Try.ntmps15
    go_wp2_with (go_at_call 22; refine (accessOf_some Hacc.out _).mono ?_; rintro e w1 ⟨rfl, h1⟩)
    go_ret2
    exact ⟨rfl, bnextA h1 _⟩
theorem Load_out (v : Value) (l : List Int) (op a f : Int) (w : World) (hv : Rd w v l) (hl : l.length ≤ 140737488355328) (a0 : 0 ≤ a) (f0 : 0 ≤ f) {k : Int} {wd : Nat} {sg : Bool} (hacc0 : acc op = some ⟨k, wd, false, sg⟩) (h1 : a ≤ 4294967295) (h2 : f ≤ 4294967295) (h8 : wd ≤ 8) (h3 : ¬ a + f + wd ≤ l.length) :
    Calls Try.prog 15 #[v, .int .i64 op, .int .u64 a, .int .u64 f] w fun e w' => e = .returned (.tuple #[.int .u64 0, .int .i64 35]) ∧ Below w.heap.size w w' := by
  have Hacc := Lib.hid hacc0
  have Hd := Lib.hid (decide_eq_false h3)
  clear hacc0 h3
  go_enter Try.func15, Try.ntmps15
  go_wp2_with (go_at_call 22; refine (accessOf_some Hacc.out _).mono ?_; rintro e w1 ⟨rfl, hb1⟩; have hv1 := (hv.lift hb1).alloc (.cells #[.int .i64 k, .int .i64 wd, .bool false, .bool sg] 50))
  refine (inside_x k wd false sg v l a f _ hv1 hl a0 h1 f0 h2 h8).mono ?_
  rintro e w2 ⟨rfl, hb2⟩
  rw [Hd.out]
  go_wp2
  go_ret2
  exact ⟨rfl, bnext (bnextA hb1 _) hb2⟩

/-- what is known of a world while the access lies in block g -/
def LSt (w : World) (g : Nat) (k : Int) (wd : Nat) (st sg : Bool) (x : World) : Prop :=
  x.cell? ⟨g, 0, none⟩ = some (.int .i64 k) ∧ x.cell? ⟨g, 1, none⟩ = some (.int .i64 wd) ∧ x.cell? ⟨g, 2, none⟩ = some (.bool st) ∧ x.cell? ⟨g, 3, none⟩ = some (.bool sg) ∧ Below w.heap.size w x
theorem keeps {x y : World} {a : Addr} {v : Value} (hb : Below x.heap.size x y) (h : x.cell? a = some v) : y.cell? a = some v := by
  have := World.block_lt_of_cell? x a h
  rw [hb.cell this]; exact h
theorem LSt.next {w x y : World} {g : Nat} {k : Int} {wd : Nat} {st sg : Bool} (h : LSt w g k wd st sg x) (hb : Below x.heap.size x y) : LSt w g k wd st sg y := by
  obtain ⟨h0, h1, h2, h3, h4⟩ := h
  exact ⟨keeps hb h0, keeps hb h1, keeps hb h2, keeps hb h3, bnext h4 hb⟩

set_option maxRecDepth 100000 in
set_option maxHeartbeats 4000000 in
theorem Load_in (v : Value) (l : List Int) (op a f : Int) (w : World) (hv : Rd w v l) (hbs : Bs l) (hl : l.length ≤ 140737488355328) (a0 : 0 ≤ a) (f0 : 0 ≤ f) {k : Int} {wd : Nat} {sg : Bool} (hacc0 : acc op = some ⟨k, wd, false, sg⟩) (h1 : a ≤ 4294967295) (h2 : f ≤ 4294967295) (h3 : a + f + wd ≤ l.length) :
    Calls Try.prog 15 #[v, .int .i64 op, .int .u64 a, .int .u64 f] w fun e w' => e = .returned (.tuple #[.int .u64 (readV k sg ((l.drop (a + f).toNat).take wd)), .int .i64 0]) ∧ Below w.heap.size w w' := by
  obtain ⟨hk, hw, _⟩ := acc_cases hacc0
  simp only at hk hw
  obtain ⟨p, hp⟩ : ∃ p : Nat, a + f = p := ⟨(a + f).toNat, by omega⟩
  have hpn : (a + f).toNat = p := by omega
  rw [hpn]
  obtain ⟨b, off, cap, rfl, hcap, htl, hcs⟩ := hv.part (p := p) (k := wd) (by omega) (by omega)
  have hbt : Bs ((l.drop p).take wd) := (hbs.drop p).take wd
  obtain ⟨t, ht⟩ : ∃ t, (l.drop p).take wd = t := ⟨_, rfl⟩
  rw [ht] at hcs htl hbt ⊢
  have HP := Lib.hid (fun w' => piece_x k wd false sg b off l.length cap p a f w' hp a0 f0 (by omega) (by omega) hcap hl)
  have HR := Lib.hid (fun w' (hb : Below w.heap.size w w') => read_x k wd false sg b (off + p) (cap - p) t w' htl (fun j hj => keeps hb (hcs j (by omega))) hbt hk hw)
  have HI := Lib.hid (fun w' (hb : Below w.heap.size w w') => (decide_eq_true h3) ▸ inside_x k wd false sg (.slice (some ⟨b, off, none⟩) l.length cap) l a f w' (hv.lift hb) hl a0 h1 f0 h2 (by omega))
  have Hacc := Lib.hid hacc0
  clear hacc0 h3 hp hpn ht hcs htl hbt hk hw hcap
  generalize readV k sg t = n at HR ⊢
  go_enter Try.func15, Try.ntmps15
  go_wp2_with (first
    | (go_at_call 22; refine (accessOf_some Hacc.out _).mono ?_; rintro e w1 ⟨rfl, hb1⟩)
    | (go_at_call 23; refine (HI.out _ (bnextA hb1 _)).mono ?_; rintro e w2 ⟨rfl, hb2⟩))
  have hst : LSt w w1.heap.size k wd false sg w2 := LSt.next (x := w1.alloc (.cells #[.int .i64 k, .int .i64 wd, .bool false, .bool sg] 50)) ⟨by simp [go_sem], by simp [go_sem], by simp [go_sem], by simp [go_sem], bnextA hb1 _⟩ hb2
  generalize w1.heap.size = g at hst ⊢
  obtain ⟨s0, s1, s2, s3, s4⟩ := hst
  clear hb1 hb2 Hacc HI
  have hdr : ∀ x : World, Below w.heap.size w x → Below w.heap.size w x.drew := fun x h => h.drew
  have hdn : ∀ (x : World) (n : Nat), Below w.heap.size w x → Below w.heap.size w (x.drewN n) := fun x n h => bnext h (belowN _ _)
  go_region_held3 (fun x => x.cell? ⟨g, 0, none⟩ = some (.int .i64 k) ∧ x.cell? ⟨g, 1, none⟩ = some (.int .i64 wd) ∧ x.cell? ⟨g, 2, none⟩ = some (.bool false) ∧ x.cell? ⟨g, 3, none⟩ = some (.bool sg) ∧ Below w.heap.size w x)
    (first | go_keep | exact LSt.next (by unfold LSt; go_keep) hb4 | exact LSt.next (by unfold LSt; go_keep) hb5)
    (first
      | (go_at_call 25; refine (HP.out _).mono ?_; rintro e w4 ⟨rfl, hb4⟩)
      | (go_at_call 24; refine (HR.out _ (by first | exact bnext (hdr _ s4) hb4 | exact hdr _ (bnext (hdr _ s4) hb4) | exact hdn _ _ (bnext (hdr _ s4) hb4))).mono ?_; rintro e w5 ⟨rfl, hb5⟩))
  go_wp2
  go_ret2
  exact ⟨rfl, bnext (bnext (hdr _ s4) hb4) hb5⟩

theorem Load_any (v : Value) (l : List Int) (op a f : Int) (w : World) (hv : Rd w v l) (hbs : Bs l) (hl : l.length ≤ 140737488355328) (a0 : 0 ≤ a) (f0 : 0 ≤ f) :
    Calls Try.prog 15 #[v, .int .i64 op, .int .u64 a, .int .u64 f] w fun e w' => e = .returned (.tuple #[.int .u64 (loadR l op a f).1, .int .i64 (loadR l op a f).2]) ∧ Below w.heap.size w w' := by
  unfold loadR
  cases hacc : acc op with
  | none => exact Load_none v op a f w hacc
  | some A =>
    obtain ⟨k, wd, st, sg⟩ := A
    simp only
    have hw := (acc_cases hacc).2.1
    simp only at hw
    by_cases h : st = true ∨ 4294967295 < a ∨ 4294967295 < f
    · rw [if_pos h]; exact Load_arg v op a f w hacc h
    · rw [if_neg h]
      obtain rfl : st = false := by cases st; rfl; exact absurd (Or.inl rfl) h
      have h1 : a ≤ 4294967295 := by
        rcases Int.lt_or_le 4294967295 a with h' | h'
        · exact absurd (Or.inr (Or.inl h')) h
        · exact h'
      have h2 : f ≤ 4294967295 := by
        rcases Int.lt_or_le 4294967295 f with h' | h'
        · exact absurd (Or.inr (Or.inr h')) h
        · exact h'
      by_cases h3 : a + f + wd ≤ l.length
      · rw [if_pos h3]; exact Load_in v l op a f w hv hbs hl a0 f0 hacc h1 h2 h3
      · rw [if_neg h3]; exact Load_out v l op a f w hv hl a0 f0 hacc h1 h2 (by omega) h3
end Go.Proofs.Ytmknjiefdhhgkaa.mm
