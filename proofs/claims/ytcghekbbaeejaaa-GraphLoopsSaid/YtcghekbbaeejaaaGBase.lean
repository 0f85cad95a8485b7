/- Graphs in memory: a slice of slices of numbers that reads as a list of lists. -/
import Derived.Test.YtcghekbbaeejaaaGInts
import Derived.Test.YtcghekbbaeejaaaGMathC
import Derived.Deep.QuietTactic
import Derived.BigQuiet
set_option linter.unusedVariables false
namespace Go.Proofs.Ytcghekbbaeejaaa.gr
open Go.RowKit

theorem belowN {B : Nat} (w : World) (n : Nat) : Below B w (w.drewN n) := ⟨rfl, rfl, rfl, Nat.le_refl _, fun _ _ => rfl⟩
theorem bnext {w wa wb : World} (h : Below w.heap.size w wa) (hb : Below wa.heap.size wa wb) : Below w.heap.size w wb := h.trans (hb.mono h.size)
theorem bnextA {w wa : World} (h : Below w.heap.size w wa) (o : Obj) : Below w.heap.size w (wa.alloc o) := h.alloc h.size o
theorem ret_int {k : IntKind} {a b : Int} (h : a = b) : Ending.returned (.int k a) = .returned (.int k b) := by rw [h]

/-- v is a slice that reads as these rows -/
def RdG (w : World) (v : Value) (L : List (List Int)) : Prop :=
  ∃ ao cap, v = .slice ao L.length cap ∧ L.length ≤ cap ∧ (ao = none → cap = 0) ∧ (L = [] ∨ ∃ b off, ao = some ⟨b, off, none⟩ ∧ ∀ k, k < L.length → ∃ u, w.cell? ⟨b, off + k, none⟩ = some u ∧ gi.Rd w u (L.getD k []))
theorem RdG.nil (w : World) : RdG w (.slice none 0 0) [] := ⟨none, 0, rfl, Nat.le_refl _, fun _ => rfl, .inl rfl⟩
theorem RdG.lift {w w' : World} {v : Value} {L : List (List Int)} (h : RdG w v L) (hb : Below w.heap.size w w') : RdG w' v L := by
  obtain ⟨ao, cap, rfl, hc, hz, h⟩ := h
  refine ⟨ao, cap, rfl, hc, hz, ?_⟩
  rcases h with rfl | ⟨b, off, rfl, h⟩
  · exact .inl rfl
  · refine .inr ⟨b, off, rfl, fun k hk => ?_⟩
    obtain ⟨u, h1, h2⟩ := h k hk
    have := World.block_lt_of_cell? w _ h1
    exact ⟨u, by rw [hb.cell (p := ⟨b, off + k, none⟩) this]; exact h1, h2.lift hb⟩

/-- may this be a graph? -/
def placesB (n : Nat) (l : List Int) : Bool := l.all fun x => decide (0 ≤ x) && decide (x < n)
def rightB (L : List (List Int)) : Bool := decide (0 < L.length) && decide (L.length ≤ 256) && L.all fun t => decide (t.length ≤ 128) && placesB L.length t

theorem isPlace_any (c n : Int) (w : World) : Calls Try.prog 31 #[.int .i64 c, .int .i64 n] w fun e w' => e = .returned (.bool (decide (0 ≤ n) && decide (n < c))) ∧ w = w' := by
  by_cases h : 0 ≤ n
  · rw [decide_eq_true h, Bool.true_and]
    by_cases h2 : n < c
    · rw [decide_eq_true h2]
      go_enter Try.func31, Try.ntmps31
      go_wp2
      go_ret
      exact ⟨rfl, rfl⟩
    · rw [decide_eq_false h2]
      go_enter Try.func31, Try.ntmps31
      go_wp2
      go_ret
      exact ⟨rfl, rfl⟩
  · rw [decide_eq_false h, Bool.false_and]
    go_enter Try.func31, Try.ntmps31
    go_wp2
    go_ret
    exact ⟨rfl, rfl⟩

theorem take_all_succ {α : Type} (p : α → Bool) (l : List α) (i : Nat) (h : i < l.length) : (l.take (i + 1)).all p = ((l.take i).all p && p l[i]) := by
  rw [List.take_succ_eq_append_getElem h, List.all_append]; simp
theorem all_false {α : Type} (p : α → Bool) (l : List α) (i : Nat) (h : i < l.length) (hp : p l[i] = false) : l.all p = false := by
  rw [List.all_eq_false]; exact ⟨l[i], List.getElem_mem h, by simp [hp]⟩

set_option maxHeartbeats 1000000 in
theorem allPlaces_any (c : Nat) (v : Value) (l : List Int) (w : World) (h : gi.Rd w v l) (hl : l.length ≤ 1048576) :
    Calls Try.prog 28 #[.int .i64 c, v] w fun e w' => e = .returned (.bool (placesB c l)) ∧ w = w' := by
  obtain ⟨ao, cap, rfl, hc, _, hd⟩ := h
  have HD := Lib.hid hd
  have HC := Lib.hid hc
  clear hd hc
  go_enter Try.func28, Try.ntmps28
  go_wp2
  go_loop [9] (fun y => ∃ i : Nat, y = .int .i64 i ∧ i ≤ l.length ∧ Hid (placesB c (l.take i) = true)) (fun y => l.length - (intOf y).toNat)
  case atStart => exact ⟨0, rfl, Nat.zero_le _, Lib.hid (by simp [placesB])⟩
  case round =>
    obtain ⟨i, rfl, hi, HT⟩ := hrel
    by_cases hlt : i < l.length
    · rcases HD.out with e | ⟨b1, o1, rfl, hg1⟩
      · subst e; simp at hlt
      have g1 := hg1 i hlt
      rw [List.getD_eq_getElem?_getD, List.getElem?_eq_getElem hlt] at g1
      change w.cell? ⟨b1, o1 + i, none⟩ = some (.int .i64 l[i]) at g1
      have hilt : (i : Int) < l.length := by omega
      have hcap := HC.out
      have hS := take_all_succ (fun x => decide (0 ≤ x) && decide (x < (c : Int))) l i hlt
      have hF := all_false (fun x => decide (0 ≤ x) && decide (x < (c : Int))) l i hlt
      clear hg1
      generalize l[i] = x at g1 hS hF
      cases hx : (decide (0 ≤ x) && decide (x < (c : Int))) with
      | true =>
        have HI := Lib.hid (fun w' => isPlace_any (c : Int) x w')
        rw [hx] at HI
        have HT2 : Hid (placesB c (l.take (i + 1)) = true) := by
          show placesB c (l.take (i + 1)) = true
          unfold placesB at HT ⊢
          rw [hS, HT.out, hx]; rfl
        clear hS hF HT hx
        go_wp2_with (go_at_call 31; refine (HI.out _).mono ?_; rintro e w1 ⟨rfl, rfl⟩)
        go_round
        case rel => exact ⟨i + 1, by go_num, by omega, HT2.out⟩
        case measure => simp [intOf]; omega
      | false =>
        have HI := Lib.hid (fun w' => isPlace_any (c : Int) x w')
        rw [hx] at HI
        have HF := Lib.hid (hF hx)
        clear hS hF HT hx
        go_wp2_with (go_at_call 31; refine (HI.out _).mono ?_; rintro e w1 ⟨rfl, rfl⟩)
        go_ret
        exact ⟨by unfold placesB; rw [HF.out]; rfl, rfl⟩
    · obtain rfl : i = l.length := by omega
      have HT2 : Hid (placesB c l = true) := by have := HT.out; rw [List.take_of_length_le (Nat.le_refl _)] at this; exact Lib.hid this
      clear HT
      go_wp2
      go_ret
      exact ⟨by rw [HT2.out]; rfl, rfl⟩
end Go.Proofs.Ytcghekbbaeejaaa.gr
