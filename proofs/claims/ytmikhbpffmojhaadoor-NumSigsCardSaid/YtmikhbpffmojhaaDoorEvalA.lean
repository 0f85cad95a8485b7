/- num.Eval where it answers that an argument is wrong. -/
import Derived.Test.YtmikhbpffmojhaaDoorFit
import Derived.Deep.RegionHeld3
set_option linter.unusedVariables false
namespace Go.Proofs.YtmikhbpffmojhaaDoor.nm
open Go.RowKit

theorem runAt_spec {op : Int} {r : Rn} (h : runAt op = some r) : r ∈ runsL ∧ r.first ≤ op ∧ op ≤ r.last := by
  have h1 := List.find?_some h
  have h2 := List.mem_of_find?_eq_some h
  simp at h1
  exact ⟨h2, h1.1, h1.2⟩

theorem run_facts : ∀ r ∈ runsL, (0 ≤ r.first ∧ r.first ≤ 1000) ∧ (0 ≤ r.like ∧ r.like ≤ 1000) ∧ r.last ≤ 1000 ∧ (r.of = 127 ∨ r.of = 126) ∧ (r.answers = 127 ∨ r.answers = 126) ∧ (r.takes = 1 ∨ r.takes = 2) := by decide

theorem runOf_none {op : Int} {w : World} (R : Runs w) (h : runAt op = none) :
    Calls Tryd.prog 24 #[.int .i64 op] w fun e w' => e = .returned (.tuple #[.agg #[.int .i64 0, .int .i64 0, .int .i64 0, .int .i64 0, .int .i64 0, .int .i64 0], .bool false]) ∧ Below w.heap.size w w' :=
  (runOf_any op w R).mono fun e w' ⟨he, hb⟩ => ⟨by rw [he, h]; rfl, hb⟩
theorem runOf_some {op : Int} {w : World} {r : Rn} (R : Runs w) (h : runAt op = some r) :
    Calls Tryd.prog 24 #[.int .i64 op] w fun e w' => e = .returned (.tuple #[.agg #[.int .i64 r.first, .int .i64 r.last, .int .i64 r.like, .int .i64 r.of, .int .i64 r.takes, .int .i64 r.answers], .bool true]) ∧ Below w.heap.size w w' :=
  (runOf_any op w R).mono fun e w' ⟨he, hb⟩ => ⟨by rw [he, h]; rfl, hb⟩

/-- what Eval answers, of the numbers' pair -/
def evR (p : Int × Int) : Ending := .returned (.tuple #[.int .u64 p.1, .int .i64 p.2])

theorem ev_none {op : Int} {l : List Int} (h : runAt op = none) : ev op l = (0, 1) := by unfold ev; rw [h]
theorem ev_not {op : Int} {l : List Int} {r : Rn} (h : runAt op = some r) (hn : ¬ ((l.length : Int) = r.takes ∧ l.all (fits r.of) = true)) : ev op l = (0, 1) := by
  unfold ev; rw [h]; simp only; rw [if_neg hn]

set_option maxHeartbeats 1000000 in
theorem eval_none (op : Int) (v : Value) (w : World) (R : Runs w) (h : runAt op = none) :
    Calls Tryd.prog 20 #[.int .i64 op, v] w fun e w' => e = evR (0, 1) ∧ Below w.heap.size w w' := by
  have HR := Lib.hid (runOf_none R h)
  clear h R
  go_enter Tryd.func20, Tryd.ntmps20
  go_wp2_with (go_at_call 24; refine HR.out.mono ?_; rintro e w' ⟨rfl, hb⟩)
  go_ret2
  exact ⟨rfl, bnextA hb _⟩

set_option maxHeartbeats 1000000 in
theorem eval_many (op : Int) (v : Value) (l : List Int) (w : World) (R : Runs w) (r : Rn) (h : runAt op = some r) (hv : Rd .u64 w v l) (hn : (l.length : Int) ≠ r.takes) :
    Calls Tryd.prog 20 #[.int .i64 op, v] w fun e w' => e = evR (0, 1) ∧ Below w.heap.size w w' := by
  have HR := Lib.hid (runOf_some R h)
  have hne : ((l.length : Int) != r.takes) = true := by simp [hn]
  obtain ⟨ao, cap, rfl, hcap, _, hc⟩ := hv
  clear h R hc hn
  go_enter Tryd.func20, Tryd.ntmps20
  go_wp2_with (go_at_call 24; refine HR.out.mono ?_; rintro e w' ⟨rfl, hb⟩)
  go_ret2
  exact ⟨rfl, bnextA hb _⟩

set_option maxHeartbeats 1000000 in
theorem eval_unfit (op : Int) (v : Value) (l : List Int) (w : World) (R : Runs w) (r : Rn) (h : runAt op = some r) (hv : Rd .u64 w v l) (hl : ∀ x ∈ l, 0 ≤ x ∧ x < 18446744073709551616) (hlen : l.length ≤ 4611686018427387904)
    (hn : (l.length : Int) = r.takes) (hf : l.all (fits r.of) = false) :
    Calls Tryd.prog 20 #[.int .i64 op, v] w fun e w' => e = evR (0, 1) ∧ Below w.heap.size w w' := by
  have HR := Lib.hid (runOf_some R h)
  have hne : ((l.length : Int) != r.takes) = false := by simp [hn]
  have HF := Lib.hid (fun w' (hb : Below w.heap.size w w') => hf ▸ fitAll_any r.of v l w' (hv.lift hb) hl hlen)
  obtain ⟨ao, cap, rfl, hcap, _, hc⟩ := hv
  clear h R hc hn hf hl hlen
  go_enter Tryd.func20, Tryd.ntmps20
  go_wp2_with (first
    | (go_at_call 24; refine HR.out.mono ?_; rintro e w' ⟨rfl, hb⟩)
    | (go_at_call 30; refine (HF.out _ (bnextA hb _)).mono ?_; rintro e w' ⟨rfl, m, rfl⟩))
  go_ret2
  exact ⟨rfl, bnext (bnextA hb _) (belowN _ _)⟩

end Go.Proofs.YtmikhbpffmojhaaDoor.nm
