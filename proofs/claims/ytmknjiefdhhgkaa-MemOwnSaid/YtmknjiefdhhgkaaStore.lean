/- The contracts of bytes.Clone and of Store: the program's. -/
import Derived.Test.YtmknjiefdhhgkaaLoad
set_option linter.unusedVariables false
namespace Go.Proofs.Ytmknjiefdhhgkaa.mm
open Go.RowKit

/-- a row of no bytes that was just built -/
theorem Own.built (w : World) : Own (w.alloc (.cells #[] 5)) w.heap.size (.slice (some ⟨w.heap.size, 0, none⟩) 0 0) [] :=
  ⟨by simp, .inr ⟨w.heap.size, 0, #[], rfl, Nat.le_refl _, heap_alloc_new w _, Nat.le_refl _, Nat.zero_le _, rfl, by simp⟩⟩

set_option maxHeartbeats 1000000 in
theorem clone_any (v : Value) (l : List Int) (w : World) (hv : Rd w v l) (hl : l.length ≤ 140737488355328) :
    Calls Try.prog 28 #[v] w fun e w' => ∃ v', e = .returned v' ∧ Own w' w.heap.size v' l ∧ Below w.heap.size w w' := by
  have hv0 := hv
  obtain ⟨ao, cap, rfl, hc, hz, hcs⟩ := hv
  cases ao with
  | none =>
    obtain rfl : cap = 0 := hz rfl
    obtain rfl : l = [] := List.eq_nil_of_length_eq_zero (by omega)
    have heq := fun w : World => Lib.run_eql_slice_nil (P := Try.prog) w 22 5 none 0 0 0 0 Try.underlying22
    go_enter Try.func28, Try.ntmps28
    go_wp2
    go_ret
    exact ⟨_, rfl, Own.nil _ _, Below.refl _ _⟩
  | some ad =>
    have hv1 := hv0.alloc (.cells #[] 5)
    clear hcs hz
    have ho := Own.built w
    have heq := fun w : World => Lib.run_eql_slice_nil (P := Try.prog) w 22 5 (some ad) l.length cap 0 0 Try.underlying22
    go_enter Try.func28, Try.ntmps28
    go_wp2_with (at_builtin; refine wpList_append_bytes (.tmp 5) (.tmp 6) rfl rfl rfl ho rfl hv1 (by simp; omega) (by simp) (made_below w _) ?_; intro v2 w2 hown hB2; simp only [List.nil_append] at hown)
    go_ret
    exact ⟨_, rfl, hown, hB2⟩

theorem Own.row {w : World} {B : Nat} {v : Value} {xs : List Int} (h : Own w B v xs) (hx : 1 ≤ xs.length) : ∃ b cap, v = .slice (some ⟨b, 0, none⟩) xs.length cap ∧ B ≤ b ∧ b < w.heap.size ∧ xs.length ≤ cap := by
  have hlt := h.lt
  rcases h.2 with ⟨rfl, hn⟩ | ⟨g, cap, cur, rfl, hb, hg, hn, _⟩
  · omega
  · exact ⟨g, cap, rfl, hb, (hlt g rfl).2, hn⟩

/-- what a store answers: the bytes, and the error's number -/
def storeR (l : List Int) (op a f n : Int) : List Int × Int :=
  match acc op with
  | none => ([], 1)
  | some A => if A.store = false ∨ 4294967295 < a ∨ 4294967295 < f ∨ fitB A.kind n = false then ([], 1) else if a + f + A.width ≤ l.length then (wrB l (a + f).toNat A.width n, 0) else ([], 35)

/-- the post of a store that answers nothing but why -/
def Why (w : World) (c : Int) (e : Ending) (w' : World) : Prop := e = .returned (.tuple #[.slice none 0 0, .int .i64 c]) ∧ Below w.heap.size w w'

theorem Store_none (v : Value) (op a f n : Int) (w : World) (hacc0 : acc op = none) : Calls Try.prog 17 #[v, .int .i64 op, .int .u64 a, .int .u64 f, .int .u64 n] w (Why w 1) := by
  have Hacc := Lib.hid hacc0
  clear hacc0
  unfold Why
  go_enter Try.func17, Try.ntmps17
  go_wp2_with (go_at_call 22; refine (accessOf_none Hacc.out _).mono ?_; rintro e w1 ⟨rfl, h1⟩)
  go_ret2
  exact ⟨rfl, bnextA h1 _⟩

theorem Store_arg (v : Value) (op a f n : Int) (w : World) {k : Int} {wd : Nat} {st sg : Bool} (hacc0 : acc op = some ⟨k, wd, st, sg⟩) (hno : st = false ∨ 4294967295 < a ∨ 4294967295 < f ∨ fitB k n = false) :
    Calls Try.prog 17 #[v, .int .i64 op, .int .u64 a, .int .u64 f, .int .u64 n] w (Why w 1) := by
  have hk := (acc_cases hacc0).1
  simp only at hk
  have Hacc := Lib.hid hacc0
  clear hacc0
  unfold Why
  cases st
  · clear hno
    go_enter Try.func17, Try.ntmps17
    go_wp2_with (go_at_call 22; refine (accessOf_some Hacc.out _).mono ?_; rintro e w1 ⟨rfl, hb1⟩)
    go_ret2
    exact ⟨rfl, bnextA hb1 _⟩
  · by_cases h1 : 4294967295 < a
    · clear hno
      go_enter Try.func17, Try.ntmps17
      go_wp2_with (go_at_call 22; refine (accessOf_some Hacc.out _).mono ?_; rintro e w1 ⟨rfl, hb1⟩)
      go_ret2
      exact ⟨rfl, bnextA hb1 _⟩
    · by_cases h2 : 4294967295 < f
      · clear hno
        go_enter Try.func17, Try.ntmps17
        go_wp2_with (go_at_call 22; refine (accessOf_some Hacc.out _).mono ?_; rintro e w1 ⟨rfl, hb1⟩)
        go_ret2
        exact ⟨rfl, bnextA hb1 _⟩
      · have h3 : fitB k n = false := by
          rcases hno with h | h | h | h
          · cases h
          · exact absurd h h1
          · exact absurd h h2
          · exact h
        have HF := Lib.hid (fun w' => h3 ▸ fits_x k wd true sg n w' hk)
        clear hno h3 hk
        go_enter Try.func17, Try.ntmps17
        go_wp2_with (first
          | (go_at_call 22; refine (accessOf_some Hacc.out _).mono ?_; rintro e w1 ⟨rfl, hb1⟩)
          | (go_at_call 27; refine (HF.out _).mono ?_; rintro e w2 ⟨rfl, hb2⟩))
        go_ret2
        exact ⟨rfl, bnext (bnextA hb1 _) hb2⟩

set_option maxHeartbeats 1000000 in
theorem Store_out (v : Value) (l : List Int) (op a f n : Int) (w : World) (hv : Rd w v l) (hl : l.length ≤ 140737488355328) (a0 : 0 ≤ a) (f0 : 0 ≤ f) {k : Int} {wd : Nat} {sg : Bool} (hacc0 : acc op = some ⟨k, wd, true, sg⟩) (h1 : a ≤ 4294967295) (h2 : f ≤ 4294967295) (hf : fitB k n = true) (h3 : ¬ a + f + wd ≤ l.length) :
    Calls Try.prog 17 #[v, .int .i64 op, .int .u64 a, .int .u64 f, .int .u64 n] w (Why w 35) := by
  obtain ⟨hk, hw, _⟩ := acc_cases hacc0
  simp only at hk hw
  have HF := Lib.hid (fun w' => hf ▸ fits_x k wd true sg n w' hk)
  have HI := Lib.hid (fun w' (hb : Below w.heap.size w w') => (decide_eq_false h3) ▸ inside_x k wd true sg v l a f w' (hv.lift hb) hl a0 h1 f0 h2 (by omega))
  have Hacc := Lib.hid hacc0
  clear hacc0 h3 hk hw hf
  unfold Why
  go_enter Try.func17, Try.ntmps17
  go_wp2_with (go_at_call 22; refine (accessOf_some Hacc.out _).mono ?_; rintro e w1 ⟨rfl, hb1⟩)
  refine (HF.out _).mono ?_
  rintro e w2 ⟨rfl, hb2⟩
  have bA := ((ABox.new w1 ⟨k, wd, true, sg⟩).lift hb2)
  have bA1 := bA.cells
  obtain ⟨c0, c1, c2, c3, _⟩ := bA1
  simp only at c0 c1 c2 c3
  have hB2 := bnext (bnextA hb1 _) hb2
  go_wp2_with fail
  refine (HI.out _ hB2).mono ?_
  rintro e w3 ⟨rfl, hb3⟩
  go_wp2
  go_ret2
  exact ⟨rfl, bnext hB2 hb3⟩

set_option maxHeartbeats 2000000 in
theorem Store_in (v : Value) (l : List Int) (op a f n : Int) (w : World) (hv : Rd w v l) (hl : l.length ≤ 140737488355328) (a0 : 0 ≤ a) (f0 : 0 ≤ f) (n0 : 0 ≤ n) (n1 : n < 18446744073709551616) {k : Int} {wd : Nat} {sg : Bool} (hacc0 : acc op = some ⟨k, wd, true, sg⟩) (h1 : a ≤ 4294967295) (h2 : f ≤ 4294967295) (hf : fitB k n = true) (h3 : a + f + wd ≤ l.length) :
    Calls Try.prog 17 #[v, .int .i64 op, .int .u64 a, .int .u64 f, .int .u64 n] w fun e w' => ∃ v', e = .returned (.tuple #[v', .int .i64 0]) ∧ Own w' w.heap.size v' (wrB l (a + f).toNat wd n) ∧ Below w.heap.size w w' := by
  obtain ⟨hk, hw, _⟩ := acc_cases hacc0
  simp only at hk hw
  obtain ⟨p, hp⟩ : ∃ p : Nat, a + f = p := ⟨(a + f).toNat, by omega⟩
  have hpn : (a + f).toNat = p := by omega
  rw [hpn]
  have hpw : p + wd ≤ l.length := by omega
  have HF := Lib.hid (fun w' => hf ▸ fits_x k wd true sg n w' hk)
  have HI := Lib.hid (fun w' (hb : Below w.heap.size w w') => (decide_eq_true h3) ▸ inside_x k wd true sg v l a f w' (hv.lift hb) hl a0 h1 f0 h2 (by omega))
  have HC := Lib.hid (fun w' (hb : Below w.heap.size w w') => clone_any v l w' (hv.lift hb) hl)
  have HP := Lib.hid (fun b cap (hc : l.length ≤ cap) w' => piece_x k wd true sg b 0 l.length cap p a f w' hp a0 f0 hpw (by omega) hc hl)
  have HW := Lib.hid (fun B b cap capL w' (ho : Own w' B (.slice (some ⟨b, 0, none⟩) l.length capL) l) (hB : B ≤ w'.heap.size) => write_any B b p cap l.length capL wd l n w' ho rfl hpw hl (by omega) hB n0 n1)
  have Hacc := Lib.hid hacc0
  have hl1 : 1 ≤ l.length := by omega
  have Hp := Lib.hid hp
  clear hacc0 h3 hk hw hf hpn hp
  go_enter Try.func17, Try.ntmps17
  go_wp2_with (go_at_call 22; refine (accessOf_some Hacc.out _).mono ?_; rintro e w1 ⟨rfl, hb1⟩)
  refine (HF.out _).mono ?_
  rintro e w2 ⟨rfl, hb2⟩
  have bA := ((ABox.new w1 ⟨k, wd, true, sg⟩).lift hb2)
  have bA1 := bA.cells
  obtain ⟨c0, c1, c2, c3, _⟩ := bA1
  simp only at c0 c1 c2 c3
  have hB2 := bnext (bnextA hb1 _) hb2
  go_wp2_with fail
  refine (HI.out _ hB2).mono ?_
  rintro e w3 ⟨rfl, hb3⟩
  have hB3 := bnext hB2 hb3
  have bA := bA.lift hb3
  clear c0 c1 c2 c3 hb1 hb2 hb3
  go_wp2_with fail
  refine (HC.out _ hB3).mono ?_
  rintro e w4 ⟨v4, rfl, ho4, hb4⟩
  have hB4 := bnext hB3 hb4
  have bA := bA.lift hb4
  obtain ⟨b4, cap4, rfl, hb40, hb41, hc4⟩ := ho4.row hl1
  have bA1 := bA.cells
  obtain ⟨c0, c1, c2, c3, _⟩ := bA1
  simp only at c0 c1 c2 c3
  have Ho4 := Lib.hid ho4
  have hz4 := hB3.size
  clear ho4 hb4
  go_wp2_with fail
  refine (HP.out b4 cap4 hc4 _).mono ?_
  rintro e w5 ⟨rfl, hb5⟩
  have Ho5 := Lib.hid (Ho4.out.lift hb5)
  have hB5 := bnext hB4 hb5
  rw [Nat.zero_add]
  go_wp2_with fail
  refine (HW.out w.heap.size b4 _ cap4 _ (Ho5.out.mono (by omega)) hB5.size).mono ?_
  rintro e w6 ⟨⟨v6, rfl⟩, ho6, hb6⟩
  go_wp2
  go_ret2
  exact ⟨_, rfl, ho6, hB5.trans hb6⟩

theorem Store_any (v : Value) (l : List Int) (op a f n : Int) (w : World) (hv : Rd w v l) (hl : l.length ≤ 140737488355328) (a0 : 0 ≤ a) (f0 : 0 ≤ f) (n0 : 0 ≤ n) (n1 : n < 18446744073709551616) :
    Calls Try.prog 17 #[v, .int .i64 op, .int .u64 a, .int .u64 f, .int .u64 n] w fun e w' => ∃ v', e = .returned (.tuple #[v', .int .i64 (storeR l op a f n).2]) ∧ Own w' w.heap.size v' (storeR l op a f n).1 ∧ Below w.heap.size w w' := by
  unfold storeR
  have why : ∀ {c : Int} {e : Ending} {w' : World}, Why w c e w' → ∃ v', e = .returned (.tuple #[v', .int .i64 c]) ∧ Own w' w.heap.size v' [] ∧ Below w.heap.size w w' := fun h => ⟨_, h.1, Own.nil _ _, h.2⟩
  cases hacc : acc op with
  | none => exact (Store_none v op a f n w hacc).mono fun e w' h => why h
  | some A =>
    obtain ⟨k, wd, st, sg⟩ := A
    simp only
    by_cases h : st = false ∨ 4294967295 < a ∨ 4294967295 < f ∨ fitB k n = false
    · rw [if_pos h]; exact (Store_arg v op a f n w hacc h).mono fun e w' h => why h
    · rw [if_neg h]
      obtain rfl : st = true := by cases st; exact absurd (Or.inl rfl) h; rfl
      have h1 : a ≤ 4294967295 := by
        rcases Int.lt_or_le 4294967295 a with h' | h'
        · exact absurd (Or.inr (Or.inl h')) h
        · exact h'
      have h2 : f ≤ 4294967295 := by
        rcases Int.lt_or_le 4294967295 f with h' | h'
        · exact absurd (Or.inr (Or.inr (Or.inl h'))) h
        · exact h'
      have hf : fitB k n = true := by
        cases e : fitB k n
        · exact absurd (Or.inr (Or.inr (Or.inr e))) h
        · rfl
      by_cases h3 : a + f + wd ≤ l.length
      · rw [if_pos h3]; exact Store_in v l op a f n w hv hl a0 f0 n0 n1 hacc h1 h2 hf h3
      · rw [if_neg h3]; exact (Store_out v l op a f n w hv hl a0 f0 hacc h1 h2 hf h3).mono fun e w' h => why h
end Go.Proofs.Ytmknjiefdhhgkaa.mm
