/- The contract of num.Sig. -/
import Derived.Test.YtmikhbpffmojhaaDoorOps
import Derived.Test.YtmikhbpffmojhaaDoorNSig
set_option linter.unusedVariables false
namespace Go.Proofs.YtmikhbpffmojhaaDoor.nm
open Go.RowKit

theorem numSig_none (op : Int) (w : World) (R : Runs w) (h : runAt op = none) :
    Calls Tryd.prog 10 #[.int .i64 op] w fun e w' => e = .returned (.tuple #[.slice none 0 0, .int .i64 0, .bool false]) ∧ Below w.heap.size w w' := by
  have HR := Lib.hid (runOf_none R h)
  clear h R
  go_enter Tryd.func10, Tryd.ntmps10
  go_wp2_with (go_at_call 24; refine HR.out.mono ?_; rintro e w1 ⟨rfl, hb1⟩)
  exact bodyPost_ret (v := .tuple #[.slice none 0 0, .int .i64 0, .bool false]) (by simp [results, Tryd.results10, go_sem]) rfl ⟨rfl, bnextA hb1 _⟩

/-- the make, ahead of the walk -/
theorem make_ints (n : Nat) (hn : n ≤ 1000) (u : World) : (Instr.makeSlice 22 (.int .i64 n) (.int .i64 n)).run Tryd.prog u =
    .ok (.slice (some ⟨u.heap.size, 0, none⟩) n n) (u.alloc (.cells (List.replicate n (Value.int .i64 0)).toArray 3)) := by
  obtain ⟨i0, hi, hz0, hz1, hz2⟩ := info_parts infoInt
  have h := run_make (P := Tryd.prog) u 22 3 i0 (.int .i64 0) Tryd.underlying22 hi hz0 .i64 .i64 (n : Int) (n : Int) (by omega) (by omega) (by rw [hz2]; omega) (by omega)
  rw [← toList_madeCells_one]
  simpa [hz1, Value.cells] using h

set_option maxRecDepth 100000 in
set_option maxHeartbeats 2000000 in
theorem numSig_one (op : Int) (w : World) (R : Runs w) (r : Rn) (h : runAt op = some r) (ht : r.takes = 1) :
    Calls Tryd.prog 10 #[.int .i64 op] w fun e w' => (∃ v, e = .returned (.tuple #[v, .int .i64 r.answers, .bool true]) ∧ Rd .i64 w' v [r.of]) ∧ Below w.heap.size w w' := by
  have hr := runOf_some R h
  rw [ht] at hr
  have HR := Lib.hid hr
  have hmk : ∀ u : World, (Instr.makeSlice 22 (.int .i64 1) (.int .i64 1)).run Tryd.prog u = .ok (.slice (some ⟨u.heap.size, 0, none⟩) 1 1) (u.alloc (.cells #[.int .i64 0] 3)) := fun u => make_ints 1 (by decide) u
  clear h R hr ht
  go_enter Tryd.func10, Tryd.ntmps10
  go_wp2_with (go_at_call 24; refine HR.out.mono ?_; rintro e w1 ⟨rfl, hb1⟩)
  have HB := Lib.hid hb1
  clear hb1
  go_loopw [21] (fun x wr => (x = .int .i64 0 ∧ wr = (w1.alloc (.cells #[.int .i64 r.first, .int .i64 r.last, .int .i64 r.like, .int .i64 r.of, .int .i64 1, .int .i64 r.answers] 43)).alloc (.cells #[.int .i64 0] 3)) ∨ (x = .int .i64 1 ∧ wr = (w1.alloc (.cells #[.int .i64 r.first, .int .i64 r.last, .int .i64 r.like, .int .i64 r.of, .int .i64 1, .int .i64 r.answers] 43)).alloc (.cells #[.int .i64 r.of] 3))) (fun x _ => 1 - (intOf x).toNat)
  case atStart => exact .inl ⟨rfl, rfl⟩
  case round =>
    rcases hrel with ⟨rfl, rfl⟩ | ⟨rfl, rfl⟩
    · go_wp2
      exact ⟨by first | exact .inr ⟨rfl, trivial⟩ | exact .inr (.inl ⟨rfl, trivial⟩) | exact .inr (.inr ⟨rfl, trivial⟩), by decide⟩
    · go_wp2_with fail
      go_quiet (fail)
      go_wp2
      have hrd := (Rd.lit .i64 (w1.alloc (.cells #[.int .i64 r.first, .int .i64 r.last, .int .i64 r.like, .int .i64 r.of, .int .i64 1, .int .i64 r.answers] 43)) [r.of] 3).lift (belowN _ nq)
      have e1 : (w1.alloc (.cells #[.int .i64 r.first, .int .i64 r.last, .int .i64 r.like, .int .i64 r.of, .int .i64 1, .int .i64 r.answers] 43)).heap.size = w1.heap.size + 1 := by simp [go_sem]
      rw [e1] at hrd
      exact bodyPost_ret (v := .tuple #[.slice (some ⟨w1.heap.size + 1, 0, none⟩) 1 1, .int .i64 r.answers, .bool true]) (by simp [results, Tryd.results10, go_sem]) rfl ⟨⟨_, rfl, hrd⟩, bnext (bnextA (bnextA HB.out _) _) (belowN _ _)⟩

set_option maxRecDepth 100000 in
set_option maxHeartbeats 2000000 in
theorem numSig_two (op : Int) (w : World) (R : Runs w) (r : Rn) (h : runAt op = some r) (ht : r.takes = 2) :
    Calls Tryd.prog 10 #[.int .i64 op] w fun e w' => (∃ v, e = .returned (.tuple #[v, .int .i64 r.answers, .bool true]) ∧ Rd .i64 w' v [r.of, r.of]) ∧ Below w.heap.size w w' := by
  have hr := runOf_some R h
  rw [ht] at hr
  have HR := Lib.hid hr
  have hmk : ∀ u : World, (Instr.makeSlice 22 (.int .i64 2) (.int .i64 2)).run Tryd.prog u = .ok (.slice (some ⟨u.heap.size, 0, none⟩) 2 2) (u.alloc (.cells #[.int .i64 0, .int .i64 0] 3)) := fun u => make_ints 2 (by decide) u
  clear h R hr ht
  go_enter Tryd.func10, Tryd.ntmps10
  go_wp2_with (go_at_call 24; refine HR.out.mono ?_; rintro e w1 ⟨rfl, hb1⟩)
  have HB := Lib.hid hb1
  clear hb1
  go_loopw [21] (fun x wr => (x = .int .i64 0 ∧ wr = (w1.alloc (.cells #[.int .i64 r.first, .int .i64 r.last, .int .i64 r.like, .int .i64 r.of, .int .i64 2, .int .i64 r.answers] 43)).alloc (.cells #[.int .i64 0, .int .i64 0] 3)) ∨ (x = .int .i64 1 ∧ wr = (w1.alloc (.cells #[.int .i64 r.first, .int .i64 r.last, .int .i64 r.like, .int .i64 r.of, .int .i64 2, .int .i64 r.answers] 43)).alloc (.cells #[.int .i64 r.of, .int .i64 0] 3)) ∨ (x = .int .i64 2 ∧ wr = (w1.alloc (.cells #[.int .i64 r.first, .int .i64 r.last, .int .i64 r.like, .int .i64 r.of, .int .i64 2, .int .i64 r.answers] 43)).alloc (.cells #[.int .i64 r.of, .int .i64 r.of] 3))) (fun x _ => 2 - (intOf x).toNat)
  case atStart => exact .inl ⟨rfl, rfl⟩
  case round =>
    rcases hrel with ⟨rfl, rfl⟩ | ⟨rfl, rfl⟩ | ⟨rfl, rfl⟩
    · go_wp2
      exact ⟨by first | exact .inr ⟨rfl, trivial⟩ | exact .inr (.inl ⟨rfl, trivial⟩) | exact .inr (.inr ⟨rfl, trivial⟩), by decide⟩
    · go_wp2
      exact ⟨by first | exact .inr ⟨rfl, trivial⟩ | exact .inr (.inl ⟨rfl, trivial⟩) | exact .inr (.inr ⟨rfl, trivial⟩), by decide⟩
    · go_wp2_with fail
      go_quiet (fail)
      go_wp2
      have hrd := (Rd.lit .i64 (w1.alloc (.cells #[.int .i64 r.first, .int .i64 r.last, .int .i64 r.like, .int .i64 r.of, .int .i64 2, .int .i64 r.answers] 43)) [r.of, r.of] 3).lift (belowN _ nq)
      have e1 : (w1.alloc (.cells #[.int .i64 r.first, .int .i64 r.last, .int .i64 r.like, .int .i64 r.of, .int .i64 2, .int .i64 r.answers] 43)).heap.size = w1.heap.size + 1 := by simp [go_sem]
      rw [e1] at hrd
      exact bodyPost_ret (v := .tuple #[.slice (some ⟨w1.heap.size + 1, 0, none⟩) 2 2, .int .i64 r.answers, .bool true]) (by simp [results, Tryd.results10, go_sem]) rfl ⟨⟨_, rfl, hrd⟩, bnext (bnextA (bnextA HB.out _) _) (belowN _ _)⟩

end Go.Proofs.YtmikhbpffmojhaaDoor.nm
