/- The run of operators in which an operator stands. -/
import Derived.Test.YtmikhbpffmojhaaDoorSem
import Derived.Test.YtmikhbpffmojhaaDoorTab
set_option linter.unusedVariables false
namespace Go.Proofs.YtmikhbpffmojhaaDoor.nm
open Go.RowKit

def zeroR : Rn := (0, 0, 0, 0, 0, 0)
def cellsR (r : Rn) : List Value := [.int .i64 r.first, .int .i64 r.last, .int .i64 r.like, .int .i64 r.of, .int .i64 r.takes, .int .i64 r.answers]
def inRun (op : Int) (r : Rn) : Bool := decide (r.first ≤ op) && decide (op ≤ r.last)

/-- the program's table of runs, where it lies -/
def Runs (w : World) : Prop := ∃ b off cap, w.cell? ⟨0, 0, none⟩ = some (.slice (some ⟨b, off, none⟩) 12 cap) ∧ ∀ i : Nat, i < 12 → ∀ j : Nat, j < 6 → w.cell? ⟨b, off + i * 6 + j, none⟩ = (cellsR (runsL.getD i zeroR))[j]?

theorem Runs.lift {w w' : World} (h : Runs w) (hb : Below w.heap.size w w') : Runs w' := by
  obtain ⟨b, off, cap, h1, h2⟩ := h
  have l1 := World.block_lt_of_cell? w _ h1
  refine ⟨b, off, cap, by rw [hb.cell (p := ⟨0, 0, none⟩) l1]; exact h1, fun i hi j hj => ?_⟩
  have h3 := h2 i hi j hj
  have hs : (cellsR (runsL.getD i zeroR))[j]? ≠ none := by
    rw [ne_eq, List.getElem?_eq_none_iff]; simp [cellsR]; omega
  cases hv : (cellsR (runsL.getD i zeroR))[j]? with
  | none => exact absurd hv hs
  | some v =>
    rw [hv] at h3
    have l2 := World.block_lt_of_cell? w _ h3
    rw [hb.cell (p := ⟨b, off + i * 6 + j, none⟩) l2]; exact h3

theorem find_none {op : Int} : ∀ {l : List Rn}, (∀ r ∈ l, inRun op r = false) → l.find? (inRun op) = none := by
  intro l h; rw [List.find?_eq_none]; intro r hr; rw [h r hr]; simp

set_option maxHeartbeats 1000000 in
theorem runOf_any (op : Int) (w : World) (R : Runs w) :
    Calls Tryd.prog 24 #[.int .i64 op] w fun e w' => e = .returned (.tuple #[.agg (cellsR ((runAt op).getD zeroR)).toArray, .bool (runAt op).isSome]) ∧ Below w.heap.size w w' := by
  obtain ⟨b, off, cap, h1, h2⟩ := R
  have l1 := World.block_lt_of_cell? w _ h1
  have H2 := Lib.hid h2
  clear h2
  have hb0 := made_below w (.cells #[.int .i64 0, .int .i64 0, .int .i64 0, .int .i64 0, .int .i64 0, .int .i64 0] 43)
  go_enter Tryd.func24, Tryd.ntmps24
  go_wp2
  go_loopw [8] (fun x wr => ∃ i : Nat, x = .int .i64 i ∧ i ≤ 12 ∧ Hid (∀ r ∈ runsL.take i, inRun op r = false) ∧ Below (w.heap.size + 1) (w.alloc (.cells #[.int .i64 0, .int .i64 0, .int .i64 0, .int .i64 0, .int .i64 0, .int .i64 0] 43)) wr) (fun x _ => 12 - (intOf x).toNat)
  case atStart => exact ⟨0, rfl, by omega, fun r hr => by simp at hr, Below.refl _ _⟩
  case round =>
    obtain ⟨i, rfl, hi, Hn, hB⟩ := hrel
    have hw0 : w.heap.size < wr.heap.size := by have := hB.size; simp [go_sem] at this; omega
    have hz : ∀ j : Nat, j < 6 → wr.cell? ⟨w.heap.size, j, none⟩ = some (.int .i64 0) := fun j hj => by
      rw [hB.cell (p := ⟨w.heap.size, j, none⟩) (by show w.heap.size < w.heap.size + 1; omega)]
      rw [cell_of_row _ w.heap.size j _ 43 (0, 0) (heap_alloc_new w _)]
      match j, hj with
      | 0, _ => rfl
      | 1, _ => rfl
      | 2, _ => rfl
      | 3, _ => rfl
      | 4, _ => rfl
      | 5, _ => rfl
    have z0 := hz 0 (by decide)
    have z1 := hz 1 (by decide)
    have z2 := hz 2 (by decide)
    have z3 := hz 3 (by decide)
    have z4 := hz 4 (by decide)
    have z5 := hz 5 (by decide)
    clear hz
    have hf : ∀ j : Nat, wr.frozen? ⟨w.heap.size, j, none⟩ = false := fun j => by
      rw [hB.frozen (p := ⟨w.heap.size, j, none⟩) (by show w.heap.size < w.heap.size + 1; omega), World.frozen?_alloc_new]
    have f0 := hf 0
    have f1 := hf 1
    have f2 := hf 2
    have f3 := hf 3
    have f4 := hf 4
    have f5 := hf 5
    clear hf
    have hwr : Below w.heap.size w wr := hb0.trans (hB.mono (by omega))
    have Hw := Lib.hid hwr
    by_cases hc : i < 12
    · have hcell : ∀ j : Nat, j < 6 → wr.cell? ⟨b, off + i * 6 + j, none⟩ = (cellsR (runsL.getD i zeroR))[j]? := fun j hj => by
        have e := H2.out i hc j hj
        have hs : (cellsR (runsL.getD i zeroR))[j]? ≠ none := by
          rw [ne_eq, List.getElem?_eq_none_iff]; simp [cellsR]; omega
        rw [← e]
        cases hv : w.cell? ⟨b, off + i * 6 + j, none⟩ with
        | none => rw [hv] at e; exact absurd e.symm hs
        | some v =>
          have l2 := World.block_lt_of_cell? w _ hv
          rw [hwr.cell (p := ⟨b, off + i * 6 + j, none⟩) l2, hv]
      have c0 := hcell 0 (by decide)
      have c1 := hcell 1 (by decide)
      have c2 := hcell 2 (by decide)
      have c3 := hcell 3 (by decide)
      have c4 := hcell 4 (by decide)
      have c5 := hcell 5 (by decide)
      clear hcell hwr
      simp only [cellsR, Nat.add_zero] at c0 c1 c2 c3 c4 c5
      have hlen : runsL.length = 12 := rfl
      have hmem : runsL[i]? = some (runsL.getD i zeroR) := by
        rw [List.getD_eq_getElem?_getD, List.getElem?_eq_getElem (by omega)]; rfl
      generalize runsL.getD i zeroR = r at c0 c1 c2 c3 c4 c5 hmem
      have Hm := Lib.hid hmem
      clear hmem
      simp at c0 c1 c2 c3 c4 c5
      have t0 : (0 : Int) ≤ i ∧ (i : Int) < 12 := by omega
      by_cases hr : r.first ≤ op ∧ op ≤ r.last
      · obtain ⟨r1, r2⟩ := hr
        have hat : runAt op = some r := by
          have hin : inRun op r = true := by simp [inRun, r1, r2]
          show runsL.find? (inRun op) = some r
          have hsplit : runsL = runsL.take i ++ (r :: runsL.drop (i + 1)) := by
            conv => lhs; rw [← List.take_append_drop i runsL]
            rw [List.drop_eq_getElem_cons (by omega)]
            have := Hm.out
            rw [List.getElem?_eq_getElem (by omega)] at this
            rw [Option.some.inj this]
          rw [hsplit, List.find?_append, find_none Hn.out]
          simp [hin]
        have Hat := Lib.hid hat
        clear hat
        go_wp2
        have hB6 : ∀ (x : World), Below w.heap.size w x → ∀ j v, Below w.heap.size w (x.setCell ⟨w.heap.size, j, none⟩ v) := fun x hx j v => hx.setCell (p := ⟨w.heap.size, j, none⟩) (Nat.le_refl _) v
        refine bodyPost_ret (v := .tuple #[.agg #[.int .i64 r.first, .int .i64 r.last, .int .i64 r.like, .int .i64 r.of, .int .i64 r.takes, .int .i64 r.answers], .bool true]) (by simp [results, Tryd.results24, go_sem, hw0, z0, z1, z2, z3, z4, z5]) rfl ⟨by rw [Hat.out]; rfl, ?_⟩
        have hBx := hB6 _ (hB6 _ (hB6 _ (hB6 _ (hB6 _ (hB6 _ Hw.out 0 (.int .i64 r.first)) 1 (.int .i64 r.last)) 2 (.int .i64 r.like)) 3 (.int .i64 r.of)) 4 (.int .i64 r.takes)) 5 (.int .i64 r.answers)
        exact hBx.alloc hBx.size _
      · have hr0 : inRun op r = false := by simp [inRun]; omega
        have Hr := Lib.hid hr0
        clear hr0 hr
        have hnext : ∀ r' ∈ runsL.take (i + 1), inRun op r' = false := by
          intro r' hr'
          rw [List.take_add_one, Hm.out] at hr'
          simp at hr'
          rcases hr' with h | rfl
          · exact Hn.out r' h
          · exact Hr.out
        have Hx := Lib.hid hnext
        clear hnext
        have hB1 := hB.size
        have hB2 : w.heap.size + 1 ≤ wr.heap.size := by omega
        go_wp2
        all_goals first | exact ⟨⟨i + 1, rfl, by omega, Hx, hB.alloc hB2 _⟩, by simp only [intOf]; omega⟩ | (exfalso; have := Hr.out; simp [inRun] at this; omega)
    · have hi12 : i = 12 := by omega
      subst hi12
      have hno : runAt op = none := find_none Hn.out
      have Hno := Lib.hid hno
      clear hno
      go_wp2
      have hB6 : ∀ (x : World), Below w.heap.size w x → ∀ j v, Below w.heap.size w (x.setCell ⟨w.heap.size, j, none⟩ v) := fun x hx j v => hx.setCell (p := ⟨w.heap.size, j, none⟩) (Nat.le_refl _) v
      refine bodyPost_ret (v := .tuple #[.agg #[.int .i64 0, .int .i64 0, .int .i64 0, .int .i64 0, .int .i64 0, .int .i64 0], .bool false]) (by simp [results, Tryd.results24, go_sem, z0, z1, z2, z3, z4, z5]) rfl ⟨by rw [Hno.out]; rfl, ?_⟩
      exact hB6 _ (hB6 _ (hB6 _ (hB6 _ (hB6 _ (hB6 _ Hw.out 0 (.int .i64 0)) 1 (.int .i64 0)) 2 (.int .i64 0)) 3 (.int .i64 0)) 4 (.int .i64 0)) 5 (.int .i64 0)

end Go.Proofs.YtmikhbpffmojhaaDoor.nm
