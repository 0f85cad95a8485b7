/- Put together by program: NmSig MmMath MmBytes MmTab MmAccess WCoder. -/
import Derived.Test.YtgcmdnkmnghhaaaGreatDoorRows
import Derived.WalkKit
import Derived.WalkSpells
import Derived.WalkLawsBesides
import Derived.Lib.Hide
import Derived.Laws.MakeOwn
import Derived.Laws.OwnMore
import Derived.Deep.QuietTactic
import Derived.BigQuiet
import Derived.Laws.BitsAllLaws
import Derived.Laws.BytesArg
import Derived.Laws.CopyOwn
import Derived.Laws.AppendOwnNone
import Derived.Maps.OwnOps
import Derived.Laws.EntriesVeiled
import Derived.Test.YtgcmdnkmnghhaaaGreatDoorZ4
/- The contract of num.Sig, as far as it tells whether an operator is one of numbers. -/
set_option linter.unusedVariables false
namespace Go.Proofs.YtgcmdnkmnghhaaaGreatDoor.nm
open Go.RowKit
theorem made_below (w : World) (o : Obj) : Below w.heap.size w (w.alloc o) := (Below.refl _ _).alloc (Nat.le_refl _) _
theorem bnext {w wa wb : World} (h : Below w.heap.size w wa) (hb : Below wa.heap.size wa wb) : Below w.heap.size w wb := h.trans (hb.mono h.size)
theorem bnextA {w wa : World} (h : Below w.heap.size w wa) (o : Obj) : Below w.heap.size w (wa.alloc o) := h.alloc h.size o
theorem belowN {B : Nat} (w : World) (n : Nat) : Below B w (w.drewN n) := ⟨rfl, rfl, rfl, Nat.le_refl _, fun _ _ => rfl⟩
theorem infoInt : (Tryz.prog.info? 3).map (fun i => (i.zero, i.size, i.bytes)) = some (some (.int .i64 0), 1, 8) := by kernel_rfl
/-- a run of operators: the first, the last, what the first is like, of which type, how many numbers, the answer's type -/
def Rn : Type := Int × Int × Int × Int × Int × Int
def Rn.first (r : Rn) : Int := r.1
def Rn.last (r : Rn) : Int := r.2.1
def Rn.like (r : Rn) : Int := r.2.2.1
def Rn.of (r : Rn) : Int := r.2.2.2.1
def Rn.takes (r : Rn) : Int := r.2.2.2.2.1
def Rn.answers (r : Rn) : Int := r.2.2.2.2.2

def runsL : List Rn := [(69, 69, 69, 127, 1, 127), (70, 79, 70, 127, 2, 127), (80, 80, 69, 126, 1, 127), (81, 90, 70, 126, 2, 127), (103, 105, 103, 127, 1, 127), (106, 120, 106, 127, 2, 127),
  (121, 123, 103, 126, 1, 126), (124, 138, 106, 126, 2, 126), (167, 167, 167, 126, 1, 127), (172, 173, 172, 127, 1, 126), (192, 193, 192, 127, 1, 127), (194, 196, 192, 126, 1, 126)]

def runAt (op : Int) : Option Rn := runsL.find? fun r => decide (r.first ≤ op) && decide (op ≤ r.last)

def zeroR : Rn := (0, 0, 0, 0, 0, 0)
def cellsR (r : Rn) : List Value := [.int .i64 r.first, .int .i64 r.last, .int .i64 r.like, .int .i64 r.of, .int .i64 r.takes, .int .i64 r.answers]
def inRun (op : Int) (r : Rn) : Bool := decide (r.first ≤ op) && decide (op ≤ r.last)

/-- the program's table of runs, where it lies -/
def Runs (w : World) : Prop := ∃ b off cap, w.cell? ⟨0, 0, none⟩ = some (.slice (some ⟨b, off, none⟩) 12 cap) ∧ ∀ i : Nat, i < 12 → ∀ j : Nat, j < 6 → w.cell? ⟨b, off + i * 6 + j, none⟩ = (cellsR (runsL.getD i zeroR))[j]?

theorem Runs.lift {w w' : World} (h : Runs w) (hb : Below w.heap.size w w') : Runs w' := by
  obtain ⟨b, off, cap, h1, h2⟩ := h
  have l1 := World.block_lt_of_cell? w _ h1
  refine ⟨b, off, cap, by rw [hb.cell (p := ⟨0, 0, none⟩) l1]; exact h1, fun i hi j hj => ?_⟩
  have h3 := h2 i hi j hj
  have hs : (cellsR (runsL.getD i zeroR))[j]? ≠ none := by
    rw [ne_eq, List.getElem?_eq_none_iff]; simp [cellsR]; omega
  cases hv : (cellsR (runsL.getD i zeroR))[j]? with
  | none => exact absurd hv hs
  | some v =>
    rw [hv] at h3
    have l2 := World.block_lt_of_cell? w _ h3
    rw [hb.cell (p := ⟨b, off + i * 6 + j, none⟩) l2]; exact h3

theorem find_none {op : Int} : ∀ {l : List Rn}, (∀ r ∈ l, inRun op r = false) → l.find? (inRun op) = none := by
  intro l h; rw [List.find?_eq_none]; intro r hr; rw [h r hr]; simp

set_option maxHeartbeats 1000000 in
theorem runOf_any (op : Int) (w : World) (R : Runs w) :
    Calls Tryz.prog 251 #[.int .i64 op] w fun e w' => e = .returned (.tuple #[.agg (cellsR ((runAt op).getD zeroR)).toArray, .bool (runAt op).isSome]) ∧ Below w.heap.size w w' := by
  obtain ⟨b, off, cap, h1, h2⟩ := R
  have l1 := World.block_lt_of_cell? w _ h1
  have H2 := Lib.hid h2
  clear h2
  have hb0 := made_below w (.cells #[.int .i64 0, .int .i64 0, .int .i64 0, .int .i64 0, .int .i64 0, .int .i64 0] 273)
  go_enter Tryz.func251, Tryz.ntmps251
  go_wp2
  go_loopw [8] (fun x wr => ∃ i : Nat, x = .int .i64 i ∧ i ≤ 12 ∧ Hid (∀ r ∈ runsL.take i, inRun op r = false) ∧ Below (w.heap.size + 1) (w.alloc (.cells #[.int .i64 0, .int .i64 0, .int .i64 0, .int .i64 0, .int .i64 0, .int .i64 0] 273)) wr) (fun x _ => 12 - (intOf x).toNat)
  case atStart => exact ⟨0, rfl, by omega, fun r hr => by simp at hr, Below.refl _ _⟩
  case round =>
    obtain ⟨i, rfl, hi, Hn, hB⟩ := hrel
    have hw0 : w.heap.size < wr.heap.size := by have := hB.size; simp [go_sem] at this; omega
    have hz : ∀ j : Nat, j < 6 → wr.cell? ⟨w.heap.size, j, none⟩ = some (.int .i64 0) := fun j hj => by
      rw [hB.cell (p := ⟨w.heap.size, j, none⟩) (by show w.heap.size < w.heap.size + 1; omega)]
      rw [cell_of_row _ w.heap.size j _ 273 (0, 0) (heap_alloc_new w _)]
      match j, hj with
      | 0, _ => rfl
      | 1, _ => rfl
      | 2, _ => rfl
      | 3, _ => rfl
      | 4, _ => rfl
      | 5, _ => rfl
    have z0 := hz 0 (by decide)
    have z1 := hz 1 (by decide)
    have z2 := hz 2 (by decide)
    have z3 := hz 3 (by decide)
    have z4 := hz 4 (by decide)
    have z5 := hz 5 (by decide)
    clear hz
    have hf : ∀ j : Nat, wr.frozen? ⟨w.heap.size, j, none⟩ = false := fun j => by
      rw [hB.frozen (p := ⟨w.heap.size, j, none⟩) (by show w.heap.size < w.heap.size + 1; omega), World.frozen?_alloc_new]
    have f0 := hf 0
    have f1 := hf 1
    have f2 := hf 2
    have f3 := hf 3
    have f4 := hf 4
    have f5 := hf 5
    clear hf
    have hwr : Below w.heap.size w wr := hb0.trans (hB.mono (by omega))
    have Hw := Lib.hid hwr
    by_cases hc : i < 12
    · have hcell : ∀ j : Nat, j < 6 → wr.cell? ⟨b, off + i * 6 + j, none⟩ = (cellsR (runsL.getD i zeroR))[j]? := fun j hj => by
        have e := H2.out i hc j hj
        have hs : (cellsR (runsL.getD i zeroR))[j]? ≠ none := by
          rw [ne_eq, List.getElem?_eq_none_iff]; simp [cellsR]; omega
        rw [← e]
        cases hv : w.cell? ⟨b, off + i * 6 + j, none⟩ with
        | none => rw [hv] at e; exact absurd e.symm hs
        | some v =>
          have l2 := World.block_lt_of_cell? w _ hv
          rw [hwr.cell (p := ⟨b, off + i * 6 + j, none⟩) l2, hv]
      have c0 := hcell 0 (by decide)
      have c1 := hcell 1 (by decide)
      have c2 := hcell 2 (by decide)
      have c3 := hcell 3 (by decide)
      have c4 := hcell 4 (by decide)
      have c5 := hcell 5 (by decide)
      clear hcell hwr
      simp only [cellsR, Nat.add_zero] at c0 c1 c2 c3 c4 c5
      have hlen : runsL.length = 12 := rfl
      have hmem : runsL[i]? = some (runsL.getD i zeroR) := by
        rw [List.getD_eq_getElem?_getD, List.getElem?_eq_getElem (by omega)]; rfl
      generalize runsL.getD i zeroR = r at c0 c1 c2 c3 c4 c5 hmem
      have Hm := Lib.hid hmem
      clear hmem
      simp at c0 c1 c2 c3 c4 c5
      have t0 : (0 : Int) ≤ i ∧ (i : Int) < 12 := by omega
      by_cases hr : r.first ≤ op ∧ op ≤ r.last
      · obtain ⟨r1, r2⟩ := hr
        have hat : runAt op = some r := by
          have hin : inRun op r = true := by simp [inRun, r1, r2]
          show runsL.find? (inRun op) = some r
          have hsplit : runsL = runsL.take i ++ (r :: runsL.drop (i + 1)) := by
            conv => lhs; rw [← List.take_append_drop i runsL]
            rw [List.drop_eq_getElem_cons (by omega)]
            have := Hm.out
            rw [List.getElem?_eq_getElem (by omega)] at this
            rw [Option.some.inj this]
          rw [hsplit, List.find?_append, find_none Hn.out]
          simp [hin]
        have Hat := Lib.hid hat
        clear hat
        go_wp2
        have hB6 : ∀ (x : World), Below w.heap.size w x → ∀ j v, Below w.heap.size w (x.setCell ⟨w.heap.size, j, none⟩ v) := fun x hx j v => hx.setCell (p := ⟨w.heap.size, j, none⟩) (Nat.le_refl _) v
        refine bodyPost_ret (v := .tuple #[.agg #[.int .i64 r.first, .int .i64 r.last, .int .i64 r.like, .int .i64 r.of, .int .i64 r.takes, .int .i64 r.answers], .bool true]) (by simp [results, Tryz.results251, go_sem, hw0, z0, z1, z2, z3, z4, z5]) rfl ⟨by rw [Hat.out]; rfl, ?_⟩
        have hBx := hB6 _ (hB6 _ (hB6 _ (hB6 _ (hB6 _ (hB6 _ Hw.out 0 (.int .i64 r.first)) 1 (.int .i64 r.last)) 2 (.int .i64 r.like)) 3 (.int .i64 r.of)) 4 (.int .i64 r.takes)) 5 (.int .i64 r.answers)
        exact hBx.alloc hBx.size _
      · have hr0 : inRun op r = false := by simp [inRun]; omega
        have Hr := Lib.hid hr0
        clear hr0 hr
        have hnext : ∀ r' ∈ runsL.take (i + 1), inRun op r' = false := by
          intro r' hr'
          rw [List.take_add_one, Hm.out] at hr'
          simp at hr'
          rcases hr' with h | rfl
          · exact Hn.out r' h
          · exact Hr.out
        have Hx := Lib.hid hnext
        clear hnext
        have hB1 := hB.size
        have hB2 : w.heap.size + 1 ≤ wr.heap.size := by omega
        go_wp2
        all_goals first | exact ⟨⟨i + 1, rfl, by omega, Hx, hB.alloc hB2 _⟩, by simp only [intOf]; omega⟩ | (exfalso; have := Hr.out; simp [inRun] at this; omega)
    · have hi12 : i = 12 := by omega
      subst hi12
      have hno : runAt op = none := find_none Hn.out
      have Hno := Lib.hid hno
      clear hno
      go_wp2
      have hB6 : ∀ (x : World), Below w.heap.size w x → ∀ j v, Below w.heap.size w (x.setCell ⟨w.heap.size, j, none⟩ v) := fun x hx j v => hx.setCell (p := ⟨w.heap.size, j, none⟩) (Nat.le_refl _) v
      refine bodyPost_ret (v := .tuple #[.agg #[.int .i64 0, .int .i64 0, .int .i64 0, .int .i64 0, .int .i64 0, .int .i64 0], .bool false]) (by simp [results, Tryz.results251, go_sem, z0, z1, z2, z3, z4, z5]) rfl ⟨by rw [Hno.out]; rfl, ?_⟩
      exact hB6 _ (hB6 _ (hB6 _ (hB6 _ (hB6 _ (hB6 _ Hw.out 0 (.int .i64 0)) 1 (.int .i64 0)) 2 (.int .i64 0)) 3 (.int .i64 0)) 4 (.int .i64 0)) 5 (.int .i64 0)

theorem runAt_spec {op : Int} {r : Rn} (h : runAt op = some r) : r ∈ runsL ∧ r.first ≤ op ∧ op ≤ r.last := by
  have h1 := List.find?_some h
  have h2 := List.mem_of_find?_eq_some h
  simp at h1
  exact ⟨h2, h1.1, h1.2⟩

theorem run_facts : ∀ r ∈ runsL, (0 ≤ r.first ∧ r.first ≤ 1000) ∧ (0 ≤ r.like ∧ r.like ≤ 1000) ∧ r.last ≤ 1000 ∧ (r.of = 127 ∨ r.of = 126) ∧ (r.answers = 127 ∨ r.answers = 126) ∧ (r.takes = 1 ∨ r.takes = 2) := by decide

theorem runOf_none {op : Int} {w : World} (R : Runs w) (h : runAt op = none) :
    Calls Tryz.prog 251 #[.int .i64 op] w fun e w' => e = .returned (.tuple #[.agg #[.int .i64 0, .int .i64 0, .int .i64 0, .int .i64 0, .int .i64 0, .int .i64 0], .bool false]) ∧ Below w.heap.size w w' :=
  (runOf_any op w R).mono fun e w' ⟨he, hb⟩ => ⟨by rw [he, h]; rfl, hb⟩
theorem runOf_some {op : Int} {w : World} {r : Rn} (R : Runs w) (h : runAt op = some r) :
    Calls Tryz.prog 251 #[.int .i64 op] w fun e w' => e = .returned (.tuple #[.agg #[.int .i64 r.first, .int .i64 r.last, .int .i64 r.like, .int .i64 r.of, .int .i64 r.takes, .int .i64 r.answers], .bool true]) ∧ Below w.heap.size w w' :=
  (runOf_any op w R).mono fun e w' ⟨he, hb⟩ => ⟨by rw [he, h]; rfl, hb⟩

theorem numSig_none (op : Int) (w : World) (R : Runs w) (h : runAt op = none) :
    Calls Tryz.prog 239 #[.int .i64 op] w fun e w' => e = .returned (.tuple #[.slice none 0 0, .int .i64 0, .bool false]) ∧ Below w.heap.size w w' := by
  have HR := Lib.hid (runOf_none R h)
  clear h R
  go_enter Tryz.func239, Tryz.ntmps239
  go_wp2_with (go_at_call 251; refine HR.out.mono ?_; rintro e w1 ⟨rfl, hb1⟩)
  exact bodyPost_ret (v := .tuple #[.slice none 0 0, .int .i64 0, .bool false]) (by simp [results, Tryz.results239, go_sem]) rfl ⟨rfl, bnextA hb1 _⟩

/-- the make, ahead of the walk -/
theorem make_ints (n : Nat) (hn : n ≤ 1000) (u : World) : (Instr.makeSlice 37 (.int .i64 n) (.int .i64 n)).run Tryz.prog u =
    .ok (.slice (some ⟨u.heap.size, 0, none⟩) n n) (u.alloc (.cells (List.replicate n (Value.int .i64 0)).toArray 3)) := by
  obtain ⟨i0, hi, hz0, hz1, hz2⟩ := info_parts infoInt
  have h := run_make (P := Tryz.prog) u 37 3 i0 (.int .i64 0) Tryz.underlying37 hi hz0 .i64 .i64 (n : Int) (n : Int) (by omega) (by omega) (by rw [hz2]; omega) (by omega)
  rw [← toList_madeCells_one]
  simpa [hz1, Value.cells] using h

set_option maxRecDepth 100000 in
set_option maxHeartbeats 2000000 in
theorem numSig_one (op : Int) (w : World) (R : Runs w) (r : Rn) (h : runAt op = some r) (ht : r.takes = 1) :
    Calls Tryz.prog 239 #[.int .i64 op] w fun e w' => (∃ v, e = .returned (.tuple #[v, .int .i64 r.answers, .bool true]) ∧ ∃ a n c, v = .slice a n c) ∧ Below w.heap.size w w' := by
  have hr := runOf_some R h
  rw [ht] at hr
  have HR := Lib.hid hr
  have hmk : ∀ u : World, (Instr.makeSlice 37 (.int .i64 1) (.int .i64 1)).run Tryz.prog u = .ok (.slice (some ⟨u.heap.size, 0, none⟩) 1 1) (u.alloc (.cells #[.int .i64 0] 3)) := fun u => make_ints 1 (by decide) u
  clear h R hr ht
  go_enter Tryz.func239, Tryz.ntmps239
  go_wp2_with (go_at_call 251; refine HR.out.mono ?_; rintro e w1 ⟨rfl, hb1⟩)
  have HB := Lib.hid hb1
  clear hb1
  go_loopw [21] (fun x wr => (x = .int .i64 0 ∧ wr = (w1.alloc (.cells #[.int .i64 r.first, .int .i64 r.last, .int .i64 r.like, .int .i64 r.of, .int .i64 1, .int .i64 r.answers] 273)).alloc (.cells #[.int .i64 0] 3)) ∨ (x = .int .i64 1 ∧ wr = (w1.alloc (.cells #[.int .i64 r.first, .int .i64 r.last, .int .i64 r.like, .int .i64 r.of, .int .i64 1, .int .i64 r.answers] 273)).alloc (.cells #[.int .i64 r.of] 3))) (fun x _ => 1 - (intOf x).toNat)
  case atStart => exact .inl ⟨rfl, rfl⟩
  case round =>
    rcases hrel with ⟨rfl, rfl⟩ | ⟨rfl, rfl⟩
    · go_wp2
      exact ⟨by first | exact .inr ⟨rfl, trivial⟩ | exact .inr (.inl ⟨rfl, trivial⟩) | exact .inr (.inr ⟨rfl, trivial⟩), by decide⟩
    · go_wp2_with fail
      go_quiet (fail)
      go_wp2
      exact bodyPost_ret (v := .tuple #[.slice (some ⟨w1.heap.size + 1, 0, none⟩) 1 1, .int .i64 r.answers, .bool true]) (by simp [results, Tryz.results239, go_sem]) rfl ⟨⟨_, rfl, _, _, _, rfl⟩, bnext (bnextA (bnextA HB.out _) _) (belowN _ _)⟩

set_option maxRecDepth 100000 in
set_option maxHeartbeats 2000000 in
theorem numSig_two (op : Int) (w : World) (R : Runs w) (r : Rn) (h : runAt op = some r) (ht : r.takes = 2) :
    Calls Tryz.prog 239 #[.int .i64 op] w fun e w' => (∃ v, e = .returned (.tuple #[v, .int .i64 r.answers, .bool true]) ∧ ∃ a n c, v = .slice a n c) ∧ Below w.heap.size w w' := by
  have hr := runOf_some R h
  rw [ht] at hr
  have HR := Lib.hid hr
  have hmk : ∀ u : World, (Instr.makeSlice 37 (.int .i64 2) (.int .i64 2)).run Tryz.prog u = .ok (.slice (some ⟨u.heap.size, 0, none⟩) 2 2) (u.alloc (.cells #[.int .i64 0, .int .i64 0] 3)) := fun u => make_ints 2 (by decide) u
  clear h R hr ht
  go_enter Tryz.func239, Tryz.ntmps239
  go_wp2_with (go_at_call 251; refine HR.out.mono ?_; rintro e w1 ⟨rfl, hb1⟩)
  have HB := Lib.hid hb1
  clear hb1
  go_loopw [21] (fun x wr => (x = .int .i64 0 ∧ wr = (w1.alloc (.cells #[.int .i64 r.first, .int .i64 r.last, .int .i64 r.like, .int .i64 r.of, .int .i64 2, .int .i64 r.answers] 273)).alloc (.cells #[.int .i64 0, .int .i64 0] 3)) ∨ (x = .int .i64 1 ∧ wr = (w1.alloc (.cells #[.int .i64 r.first, .int .i64 r.last, .int .i64 r.like, .int .i64 r.of, .int .i64 2, .int .i64 r.answers] 273)).alloc (.cells #[.int .i64 r.of, .int .i64 0] 3)) ∨ (x = .int .i64 2 ∧ wr = (w1.alloc (.cells #[.int .i64 r.first, .int .i64 r.last, .int .i64 r.like, .int .i64 r.of, .int .i64 2, .int .i64 r.answers] 273)).alloc (.cells #[.int .i64 r.of, .int .i64 r.of] 3))) (fun x _ => 2 - (intOf x).toNat)
  case atStart => exact .inl ⟨rfl, rfl⟩
  case round =>
    rcases hrel with ⟨rfl, rfl⟩ | ⟨rfl, rfl⟩ | ⟨rfl, rfl⟩
    · go_wp2
      exact ⟨by first | exact .inr ⟨rfl, trivial⟩ | exact .inr (.inl ⟨rfl, trivial⟩) | exact .inr (.inr ⟨rfl, trivial⟩), by decide⟩
    · go_wp2
      exact ⟨by first | exact .inr ⟨rfl, trivial⟩ | exact .inr (.inl ⟨rfl, trivial⟩) | exact .inr (.inr ⟨rfl, trivial⟩), by decide⟩
    · go_wp2_with fail
      go_quiet (fail)
      go_wp2
      exact bodyPost_ret (v := .tuple #[.slice (some ⟨w1.heap.size + 1, 0, none⟩) 2 2, .int .i64 r.answers, .bool true]) (by simp [results, Tryz.results239, go_sem]) rfl ⟨⟨_, rfl, _, _, _, rfl⟩, bnext (bnextA (bnextA HB.out _) _) (belowN _ _)⟩


theorem sig_any (op : Int) (w : World) (R : Runs w) :
    Calls Tryz.prog 239 #[.int .i64 op] w fun e w' => (∃ a n c k, e = .returned (.tuple #[.slice a n c, .int .i64 k, .bool (runAt op).isSome])) ∧ Below w.heap.size w w' := by
  cases h : runAt op with
  | none => exact (numSig_none op w R h).mono fun e w' ⟨he, hb⟩ => ⟨⟨_, _, _, _, he⟩, hb⟩
  | some r =>
    rcases (run_facts r (runAt_spec h).1).2.2.2.2.2 with ht | ht
    · exact (numSig_one op w R r h ht).mono fun e w' ⟨⟨v, he, a, n, c, hv⟩, hb⟩ => ⟨⟨a, n, c, r.answers, by rw [he, hv]; rfl⟩, hb⟩
    · exact (numSig_two op w R r h ht).mono fun e w' ⟨⟨v, he, a, n, c, hv⟩, hb⟩ => ⟨⟨a, n, c, r.answers, by rw [he, hv]; rfl⟩, hb⟩
end Go.Proofs.YtgcmdnkmnghhaaaGreatDoor.nm

/- Plain mathematics of memories: numbers in bytes, the lowest first; signs; bytes that are written over; nothing of the program. -/
namespace Go.Proofs.YtgcmdnkmnghhaaaGreatDoor.mm

/-- the number that bytes say, the lowest first -/
def leN : List Int → Int
  | [] => 0
  | b :: r => b + 256 * leN r
/-- the k low bytes of a number -/
def leB : Nat → Int → List Int
  | 0, _ => []
  | k + 1, n => n % 256 :: leB k (n / 256)

def Bs (l : List Int) : Prop := ∀ x ∈ l, 0 ≤ x ∧ x < 256

theorem leB_length : ∀ (k : Nat) (n : Int), (leB k n).length = k
  | 0, _ => rfl
  | k + 1, n => by rw [leB, List.length_cons, leB_length k]
theorem leB_bs : ∀ (k : Nat) (n : Int), Bs (leB k n)
  | 0, _ => by intro x hx; cases hx
  | k + 1, n => by
    intro x hx
    rcases List.mem_cons.1 hx with rfl | h
    · omega
    · exact leB_bs k _ x h
theorem div_256 (n p : Int) : n / 256 / p = n / (256 * p) := Int.ediv_ediv_of_nonneg (by decide)
theorem leN_leB : ∀ (k : Nat) (n : Int), leN (leB k n) = n % 256 ^ k
  | 0, n => by simp [leB, leN]
  | k + 1, n => by
    rw [leB, leN, leN_leB k, Int.pow_succ', Int.emod_def n (256 * 256 ^ k), Int.emod_def (n / 256), ← div_256, Int.mul_sub, Int.mul_assoc]; omega
theorem leN_bd : ∀ {l : List Int}, Bs l → 0 ≤ leN l ∧ leN l < 256 ^ l.length
  | [], _ => by simp [leN]
  | b :: r, h => by
    have hb := h b (List.mem_cons_self ..)
    have hr := leN_bd (l := r) (fun x hx => h x (List.mem_cons_of_mem _ hx))
    rw [leN, List.length_cons, Int.pow_succ']; omega
theorem leN_snoc : ∀ (l : List Int) (b : Int), leN (l ++ [b]) = leN l + 256 ^ l.length * b
  | [], b => by simp [leN]
  | c :: r, b => by
    rw [List.cons_append, leN, leN_snoc r b, leN, List.length_cons, Int.pow_succ', Int.mul_assoc]; omega
theorem Bs.drop {l : List Int} (h : Bs l) (k : Nat) : Bs (l.drop k) := fun x hx => h x (List.mem_of_mem_drop hx)
theorem Bs.take {l : List Int} (h : Bs l) (k : Nat) : Bs (l.take k) := fun x hx => h x (List.mem_of_mem_take hx)
theorem Bs.append {a b : List Int} (h : Bs a) (h' : Bs b) : Bs (a ++ b) := fun x hx => (List.mem_append.1 hx).elim (h x) (h' x)
theorem Bs.getD {l : List Int} (h : Bs l) (k : Nat) : 0 ≤ l.getD k 0 ∧ l.getD k 0 < 256 := by
  rw [List.getD_eq_getElem?_getD]
  cases e : l[k]? with
  | none => simp
  | some x => exact h x (List.mem_of_getElem? e)
theorem Bs.set {l : List Int} (h : Bs l) (k : Nat) (v : Int) (hv : 0 ≤ v ∧ v < 256) : Bs (l.set k v) := fun x hx => by
  rcases List.mem_or_eq_of_mem_set hx with h' | rfl
  · exact h x h'
  · exact hv
theorem Bs.zeros (k : Nat) : Bs (List.replicate k 0) := fun x hx => by have := (List.mem_replicate.1 hx).2; omega
theorem Bs.flip {l : List Int} (h : Bs l) : Bs l := h

/-- the places of n bytes from the last one on: k of them -/
def down (n : Nat) : Nat → List Nat
  | 0 => []
  | k + 1 => down n k ++ [n - k - 1]
theorem down_length (n : Nat) : ∀ k, (down n k).length = k
  | 0 => rfl
  | k + 1 => by rw [down, List.length_append, down_length n k]; rfl
theorem mem_down (n : Nat) : ∀ (k i : Nat), k ≤ n → (i ∈ down n k ↔ n - k ≤ i ∧ i < n)
  | 0, i, _ => by simp [down]
  | k + 1, i, h => by
    rw [down, List.mem_append, mem_down n k i (by omega), List.mem_singleton]; omega

/-- a number read a byte behind the other one -/
def accN (l : List Int) (pre : List Nat) : Int := pre.foldl (fun n x => (n * 256 + l.getD x 0) % 18446744073709551616) 0
theorem accN_snoc (l : List Int) (pre : List Nat) (x : Nat) : accN l (pre ++ [x]) = (accN l pre * 256 + l.getD x 0) % 18446744073709551616 := by simp [accN]
theorem pow_le8 {k : Nat} (h : k ≤ 8) : (256 : Int) ^ k ≤ 18446744073709551616 := by
  have : k = 0 ∨ k = 1 ∨ k = 2 ∨ k = 3 ∨ k = 4 ∨ k = 5 ∨ k = 6 ∨ k = 7 ∨ k = 8 := by omega
  rcases this with rfl | rfl | rfl | rfl | rfl | rfl | rfl | rfl | rfl <;> decide
theorem accN_bd (l : List Int) (pre : List Nat) : 0 ≤ accN l pre ∧ accN l pre < 18446744073709551616 := by
  rcases List.eq_nil_or_concat pre with rfl | ⟨r, x, rfl⟩
  · simp [accN]
  · rw [List.concat_eq_append, accN_snoc]; omega
theorem accN_down {l : List Int} (hb : Bs l) (h8 : l.length ≤ 8) : ∀ k, k ≤ l.length → accN l (down l.length k) = leN (l.drop (l.length - k))
  | 0, _ => by rw [Nat.sub_zero, List.drop_length]; rfl
  | k + 1, h => by
    rw [down, accN_snoc, accN_down hb h8 k (by omega)]
    have e : l.drop (l.length - (k + 1)) = l.getD (l.length - k - 1) 0 :: l.drop (l.length - k) := by
      have hlt : l.length - k - 1 < l.length := by omega
      rw [show l.length - (k + 1) = l.length - k - 1 from by omega, List.drop_eq_getElem_cons hlt, List.getD_eq_getElem?_getD, List.getElem?_eq_getElem hlt, show l.length - k - 1 + 1 = l.length - k from by omega]; rfl
    have hd := leN_bd (hb.drop (l.length - (k + 1)))
    have hp : (256 : Int) ^ (l.drop (l.length - (k + 1))).length ≤ 18446744073709551616 := pow_le8 (by rw [List.length_drop]; omega)
    rw [e, leN] at hd
    rw [e, leN]
    rw [e] at hp
    omega
theorem accN_all {l : List Int} (hb : Bs l) (h8 : l.length ≤ 8) : accN l (down l.length l.length) = leN l := by
  rw [accN_down hb h8 _ (Nat.le_refl _), Nat.sub_self, List.drop_zero]

/-- bytes with some of a number's written over them, from a place on -/
def setN (n : Int) (o : Nat) (xs : List Int) (pre : List Nat) : List Int := pre.foldl (fun xs x => xs.set (o + x) (n / 256 ^ x % 256)) xs
theorem setN_snoc (n : Int) (o : Nat) (xs : List Int) (pre : List Nat) (x : Nat) : setN n o xs (pre ++ [x]) = (setN n o xs pre).set (o + x) (n / 256 ^ x % 256) := by simp [setN]
theorem setN_length (n : Int) (o : Nat) : ∀ (pre : List Nat) (xs : List Int), (setN n o xs pre).length = xs.length
  | [], _ => rfl
  | x :: r, xs => by rw [setN, List.foldl_cons]; exact (setN_length n o r _).trans (List.length_set ..)
theorem setN_at (n : Int) (o i : Nat) : ∀ (pre : List Nat) (xs : List Int), i < xs.length → (setN n o xs pre)[i]? = if o ≤ i ∧ i - o ∈ pre then some (n / 256 ^ (i - o) % 256) else xs[i]?
  | [], xs, _ => by simp [setN]
  | x :: r, xs, h => by
    have ih := setN_at n o i r (xs.set (o + x) (n / 256 ^ x % 256)) (by rw [List.length_set]; exact h)
    rw [setN, List.foldl_cons]
    refine ih.trans ?_
    by_cases h1 : o ≤ i ∧ i - o ∈ r
    · rw [if_pos h1, if_pos ⟨h1.1, List.mem_cons_of_mem _ h1.2⟩]
    · rw [if_neg h1, List.getElem?_set]
      by_cases h2 : o + x = i
      · subst h2
        rw [if_pos rfl, if_pos h, if_pos ⟨by omega, by rw [Nat.add_sub_cancel_left]; exact List.mem_cons_self ..⟩, Nat.add_sub_cancel_left]
      · rw [if_neg h2, if_neg]
        rintro ⟨h3, h4⟩
        rcases List.mem_cons.1 h4 with h5 | h5
        · omega
        · exact h1 ⟨h3, h5⟩

/-- bytes with the k low ones of a number at a place -/
def wrB (l : List Int) (p k : Nat) (n : Int) : List Int := l.take p ++ leB k n ++ l.drop (p + k)
theorem leB_at : ∀ (k : Nat) (n : Int) (i : Nat), i < k → (leB k n)[i]? = some (n / 256 ^ i % 256)
  | 0, _, _, h => by omega
  | k + 1, n, 0, _ => by simp [leB]
  | k + 1, n, i + 1, h => by
    rw [leB, List.getElem?_cons_succ, leB_at k _ i (by omega), Int.pow_succ', div_256]
theorem wrB_length {l : List Int} {p k : Nat} {n : Int} (h : p + k ≤ l.length) : (wrB l p k n).length = l.length := by
  simp [wrB, leB_length]; omega
theorem wrB_in {l : List Int} {p k : Nat} {n : Int} (h : p + k ≤ l.length) {i : Nat} (h1 : p ≤ i) (h2 : i < p + k) : (wrB l p k n)[i]? = some (n / 256 ^ (i - p) % 256) := by
  have hp : (l.take p).length = p := by rw [List.length_take]; omega
  rw [wrB, List.append_assoc, List.getElem?_append_right (by omega), hp, List.getElem?_append_left (by rw [leB_length]; omega), leB_at k n _ (by omega)]
theorem wrB_out {l : List Int} {p k : Nat} {n : Int} (h : p + k ≤ l.length) {i : Nat} (h1 : i < p ∨ p + k ≤ i) : (wrB l p k n)[i]? = l[i]? := by
  have hp : (l.take p).length = p := by rw [List.length_take]; omega
  rcases h1 with h1 | h1
  · rw [wrB, List.append_assoc, List.getElem?_append_left (by omega), List.getElem?_take, if_pos h1]
  · have e1 : (l.take p).length + (leB k n).length ≤ i := by rw [hp, leB_length]; exact h1
    rw [wrB, List.getElem?_append_right (by rw [List.length_append]; exact e1), List.getElem?_drop, List.length_append, hp, leB_length]
    congr 1; omega
theorem setN_wrB {n : Int} {l : List Int} {p k : Nat} {pre : List Nat} (h : p + k ≤ l.length) (hp : ∀ i, i ∈ pre ↔ i < k) : setN n p l pre = wrB l p k n := by
  apply List.ext_getElem?
  intro i
  by_cases hi : i < l.length
  · rw [setN_at n p i pre l hi]
    by_cases h1 : p ≤ i ∧ i - p ∈ pre
    · have := (hp _).1 h1.2
      rw [if_pos h1, wrB_in h h1.1 (by omega)]
    · rw [if_neg h1, wrB_out h]
      by_cases h2 : p ≤ i
      · right
        have : ¬ (i - p < k) := fun h3 => h1 ⟨h2, (hp _).2 h3⟩
        omega
      · left; omega
  · rw [List.getElem?_eq_none (by rw [setN_length]; omega), List.getElem?_eq_none (by rw [wrB_length h]; omega)]
theorem wrB_bs {l : List Int} (h : Bs l) (p k : Nat) (n : Int) : Bs (wrB l p k n) := (((h.take p).append (leB_bs k n)).append (h.drop (p + k)))
theorem wrB_read {l : List Int} {p k : Nat} {n : Int} (h : p + k ≤ l.length) : ((wrB l p k n).drop p).take k = leB k n := by
  have hp : (l.take p).length = p := by rw [List.length_take]; omega
  rw [wrB, List.append_assoc, List.drop_append_of_le_length (by omega), List.drop_eq_nil_of_le (by omega), List.nil_append, List.take_append_of_le_length (by rw [leB_length]; omega), List.take_of_length_le (by rw [leB_length]; omega)]

/-- the sign of a number of k bytes, carried up to 64 bits -/
def sgn (k : Nat) (n : Int) : Int := if n < 256 ^ k / 2 then n else n + (18446744073709551616 - 256 ^ k)
/-- what an access of k bytes reads, its bytes being l -/
def readV (kind : Int) (sg : Bool) (l : List Int) : Int :=
  let n := if sg then sgn l.length (leN l) else leN l
  if kind = 127 then n % 4294967296 else n

theorem or_low (k x b : Nat) (hx : x < 256 ^ k) : x ||| b * 256 ^ k = x + b * 256 ^ k := by
  have e : 256 ^ k = 2 ^ (8 * k) := by rw [Nat.pow_mul]
  rw [e] at hx ⊢
  rw [Nat.or_comm, Nat.mul_comm b, ← Nat.two_pow_add_eq_or_of_lt hx, Nat.add_comm]
end Go.Proofs.YtgcmdnkmnghhaaaGreatDoor.mm

/- Slices of bytes: what reads as bytes (Rd), what the call owns (Own), appends of one byte and of many, a make with a copy. -/
namespace Go.Proofs.YtgcmdnkmnghhaaaGreatDoor.mm
open Go.RowKit

theorem ret_int {k : IntKind} {a b : Int} (h : a = b) : Ending.returned (.int k a) = .returned (.int k b) := by rw [h]

theorem info5 : (Tryz.prog.info? 5).map (fun i => (i.zero, i.size, i.bytes)) = some (some (.int .u8 0), 1, 1) := by kernel_rfl
theorem size5 : (Tryz.prog.info? 5).map (·.size) = some 1 := by kernel_rfl

/-- v is a slice that reads as the bytes l -/
def Rd (w : World) (v : Value) (l : List Int) : Prop :=
  ∃ ao cap, v = .slice ao l.length cap ∧ l.length ≤ cap ∧ (ao = none → cap = 0) ∧ (l = [] ∨ ∃ b off, ao = some ⟨b, off, none⟩ ∧ ∀ k, k < l.length → w.cell? ⟨b, off + k, none⟩ = some (.int .u8 (l.getD k 0)))

/-- v is the call's own row, of a block from B on, whose first cells are the bytes xs -/
def Own (w : World) (B : Nat) (v : Value) (xs : List Int) : Prop := w.ownsRow B 5 1 v xs.length (xs.map (.int .u8))

theorem add_lit (b o j : Nat) : (⟨b, o, none⟩ : Addr).add j = ⟨b, o + j, none⟩ := by unfold Addr.add; split <;> simp_all

theorem map_get {l : List Int} {k : Nat} {u : Value} (h : (l.map (Value.int .u8))[k]? = some u) : k < l.length ∧ u = .int .u8 (l.getD k 0) := by
  rw [List.getElem?_map] at h
  obtain ⟨x, hx, rfl⟩ := Option.map_eq_some_iff.1 h
  obtain ⟨hk, rfl⟩ := List.getElem?_eq_some_iff.1 hx
  exact ⟨hk, by rw [List.getD_eq_getElem?_getD, List.getElem?_eq_getElem hk]; rfl⟩

theorem get_map {l : List Int} {k : Nat} (h : k < l.length) : (l.map (Value.int .u8))[k]? = some (.int .u8 (l.getD k 0)) := by
  rw [List.getElem?_map, List.getElem?_eq_getElem h, List.getD_eq_getElem?_getD, List.getElem?_eq_getElem h]; rfl

theorem Rd.nil (w : World) : Rd w (.slice none 0 0) [] := ⟨none, 0, rfl, Nat.le_refl _, fun _ => rfl, .inl rfl⟩

theorem Rd.data {w : World} {v : Value} {l : List Int} (h : Rd w v l) : ∃ ao cap, v = .slice ao l.length cap ∧ l.length ≤ cap ∧ (ao = none → cap = 0) ∧ ∀ j u, (l.map (Value.int .u8))[j]? = some u → ∃ ad, ao = some ad ∧ w.cell? (ad.add j) = some u := by
  obtain ⟨ao, cap, rfl, hc, hz, h⟩ := h
  refine ⟨ao, cap, rfl, hc, hz, fun j u hu => ?_⟩
  obtain ⟨hj, rfl⟩ := map_get hu
  rcases h with rfl | ⟨b, off, rfl, h⟩
  · simp at hj
  · exact ⟨_, rfl, by rw [add_lit]; exact h j hj⟩

/-- what reads goes on reading where nothing below a number has turned, and its block lies there -/
theorem Rd.lift {w w' : World} {v : Value} {l : List Int} (h : Rd w v l) (hb : Below w.heap.size w w') : Rd w' v l := by
  obtain ⟨ao, cap, rfl, hc, hz, h⟩ := h
  refine ⟨ao, cap, rfl, hc, hz, ?_⟩
  rcases h with rfl | ⟨b, off, rfl, h⟩
  · exact .inl rfl
  · refine .inr ⟨b, off, rfl, fun k hk => ?_⟩
    have := World.block_lt_of_cell? w _ (h k hk)
    rw [hb.cell (p := ⟨b, off + k, none⟩) this]
    exact h k hk
theorem Rd.alloc {w : World} {v : Value} {l : List Int} (h : Rd w v l) (o : Obj) : Rd (w.alloc o) v l := h.lift ((Below.refl _ _).alloc (Nat.le_refl _) _)
theorem Rd.drew {w : World} {v : Value} {l : List Int} (h : Rd w v l) : Rd w.drew v l := h.lift (Below.refl _ _).drew

theorem Own.rd {w : World} {B : Nat} {v : Value} {xs : List Int} (h : Own w B v xs) : Rd w v xs := by
  rcases h.2 with ⟨rfl, hn⟩ | ⟨g, cap, cur, rfl, hb, hg, hn, hm, hs, ht⟩
  · have : xs = [] := List.eq_nil_of_length_eq_zero hn
    subst this; exact Rd.nil w
  · refine ⟨_, cap, rfl, hn, (fun h => by cases h), .inr ⟨g, 0, rfl, fun k hk => ?_⟩⟩
    have := World.ownsRow.cells h (g := g) rfl k _ (get_map hk)
    rwa [add_lit] at this

theorem Own.lt {w : World} {B : Nat} {v : Value} {xs : List Int} (h : Own w B v xs) : ∀ k, v.ownBlock = some k → B ≤ k ∧ k < w.heap.size := World.ownsRow.lt h
theorem Own.alloc {w : World} {B : Nat} {v : Value} {xs : List Int} (h : Own w B v xs) (o : Obj) : Own (w.alloc o) B v xs := World.ownsRow.alloc h o
theorem Own.drew {w : World} {B : Nat} {v : Value} {xs : List Int} (h : Own w B v xs) : Own w.drew B v xs := World.ownsRow.drew h
theorem Own.lift {w w' : World} {B : Nat} {v : Value} {xs : List Int} (h : Own w B v xs) (hb : Below w.heap.size w w') : Own w' B v xs :=
  World.ownsRow.kept h (row := none) ⟨hb.os, hb.tape, hb.output, hb.size, fun k hk _ => hb.block k hk⟩ (by cases v.ownBlock <;> simp)
theorem Own.mono {w : World} {B B' : Nat} {v : Value} {xs : List Int} (h : Own w B v xs) (hB : B' ≤ B) : Own w B' v xs := by
  refine ⟨h.1, ?_⟩
  rcases h.2 with h | ⟨g, cap, cur, rfl, hb, r⟩
  · exact .inl h
  · exact .inr ⟨g, cap, cur, rfl, by omega, r⟩
theorem Own.nil (w : World) (B : Nat) : Own w B (.slice none 0 0) [] := World.ownsRow_nil w B _ _

/-- what a make and a copy leave: a row of the call's own with room behind it -/
theorem own_copied {w2 : World} {B g n m : Nat} {zs : List Value} {l : List Int} (hB : B ≤ g) (hn : l.length = n) (hz : zs.length = n + m) (hm : n + m ≤ maxLen)
    (hg : w2.heap[g]? = some (.cells (splice zs 0 (l.map (.int .u8))).toArray 5 (0, 0))) : Own w2 B (.slice (some ⟨g, 0, none⟩) n (n + m)) l := by
  subst hn
  refine ⟨by simp, .inr ⟨g, l.length + m, _, rfl, hB, hg, by omega, hm, ?_, ?_⟩⟩
  · have := length_splice zs 0 (l.map (.int .u8)) (by simp; omega)
    simp [this, hz]
  · have : (l.map (Value.int .u8)).length = l.length := List.length_map _
    rw [Nat.mul_one, ← this]; simp [splice]

section
variable {ops : Array Oper} {rest : List Oper} {o : Oper} {a : Act} {Q : Exit → Act → World → Prop} {w w0 : World} {B : Nat} {xs : List Int}

/-- append of one byte onto a row of the call's own -/
theorem wpList_append_byte (s x : Operand) (hgd : o.guard = none) (ho : o.op = .call { callee := .builtin .append, args := #[s, x], argTypes := #[22, 22] })
    {v : Value} (hs : a.eval s = v) (hown : Own w B v xs) (c : Int) (hx : a.eval x = .slice (some ⟨w.heap.size, 0, none⟩) 1 1) (hl : xs.length + 1 ≤ 140737488355328) (hB : B ≤ w.heap.size) (hb : Below B w0 w)
    (h : ∀ v' w', Own w' B v' (xs ++ [c]) → Below B w0 w' → wpList Tryz.prog ops Q rest (a.put o.dst v') w') : wpList Tryz.prog ops Q (o :: rest) a (w.alloc (.cells #[.int .u8 c] 5)) := by
  obtain ⟨i0, hi, hz0, hz1, hz2⟩ := info_parts info5
  refine wpList_append_own _ hgd s x 22 ho B 5 i0 (.int .u8 0) 1 1 Tryz.underlying22 hi hz0 hz1 hz2 rfl (by decide) v xs.length (xs.map (.int .u8)) hs (World.ownsRow.alloc hown _) ⟨w.heap.size, 0, none⟩ 1 1 [.int .u8 c] hx rfl ?_ ?_ (by unfold maxLen; omega) (by omega) (by simp; omega) ?_
  · intro j u hj
    match j, hj with
    | 0, hj => simp at hj; subst hj; simp [Addr.add]
  · intro u hu; simp at hu; subst hu; rfl
  · intro v' w' h1 h2 _
    refine h v' w' ?_ ?_
    · unfold Own; rw [List.map_append, List.length_append]; exact h1
    · exact (hb.alloc hB _).grown h2 (by simp; omega) (fun k hk => (hown.lt k hk).1)

/-- append of one byte onto a row of the call's own, where the byte's block is told by another term -/
theorem wpList_append_byte_at (s x : Operand) (hgd : o.guard = none) (ho : o.op = .call { callee := .builtin .append, args := #[s, x], argTypes := #[22, 22] })
    {v : Value} (hs : a.eval s = v) (hown : Own w B v xs) (c : Int) {g : Nat} (hx : a.eval x = .slice (some ⟨g, 0, none⟩) 1 1) (hg : g = w.heap.size) (hl : xs.length + 1 ≤ 140737488355328) (hB : B ≤ w.heap.size) (hb : Below B w0 w)
    (h : ∀ v' w', Own w' B v' (xs ++ [c]) → Below B w0 w' → wpList Tryz.prog ops Q rest (a.put o.dst v') w') : wpList Tryz.prog ops Q (o :: rest) a (w.alloc (.cells #[.int .u8 c] 5)) := by
  subst hg
  obtain ⟨i0, hi, hz0, hz1, hz2⟩ := info_parts info5
  refine wpList_append_own _ hgd s x 22 ho B 5 i0 (.int .u8 0) 1 1 Tryz.underlying22 hi hz0 hz1 hz2 rfl (by decide) v xs.length (xs.map (.int .u8)) hs (World.ownsRow.alloc hown _) ⟨w.heap.size, 0, none⟩ 1 1 [.int .u8 c] hx rfl ?_ ?_ (by unfold maxLen; omega) (by omega) (by simp; omega) ?_
  · intro j u hj
    match j, hj with
    | 0, hj => simp at hj; subst hj; simp [Addr.add]
  · intro u hu; simp at hu; subst hu; rfl
  · intro v' w' h1 h2 _
    refine h v' w' ?_ ?_
    · unfold Own; rw [List.map_append, List.length_append]; exact h1
    · exact (hb.alloc hB _).grown h2 (by simp; omega) (fun k hk => (hown.lt k hk).1)

/-- append of all bytes that a slice reads as, onto a row of the call's own -/
theorem wpList_append_bytes (s x : Operand) (hgd : o.guard = none) (ho : o.op = .call { callee := .builtin .append, args := #[s, x], argTypes := #[22, 22] })
    {v u : Value} (hs : a.eval s = v) (hown : Own w B v xs) {ys : List Int} (hx : a.eval x = u) (hrd : Rd w u ys) (hl : xs.length + ys.length ≤ 140737488355328) (hB : B ≤ w.heap.size) (hb : Below B w0 w)
    (h : ∀ v' w', Own w' B v' (xs ++ ys) → Below B w0 w' → wpList Tryz.prog ops Q rest (a.put o.dst v') w') : wpList Tryz.prog ops Q (o :: rest) a w := by
  obtain ⟨i0, hi, hz0, hz1, hz2⟩ := info_parts info5
  obtain ⟨ao, cap, rfl, hcap, hz, hd⟩ := hrd.data
  have fin : ∀ v' w', w'.ownsRow B 5 1 v' (xs.length + ys.length) (xs.map (Value.int .u8) ++ ys.map (.int .u8)) → w.grownBy w' v.ownBlock → wpList Tryz.prog ops Q rest (a.put o.dst v') w' := by
    intro v' w' h1 h2
    refine h v' w' ?_ ?_
    · unfold Own; rw [List.map_append, List.length_append]; exact h1
    · exact hb.grown h2 hB (fun k hk => (hown.lt k hk).1)
  cases ao with
  | some ad =>
    refine wpList_append_own _ hgd s x 22 ho B 5 i0 (.int .u8 0) 1 1 Tryz.underlying22 hi hz0 hz1 hz2 rfl (by decide) v xs.length (xs.map (.int .u8)) hs hown ad ys.length cap (ys.map (.int .u8)) hx (by simp) ?_ (ints_oneCell _ _) (by unfold maxLen; omega) (by omega) hB ?_
    · intro j u hu
      obtain ⟨ad', he, hc⟩ := hd j u hu
      cases he; exact hc
    · intro v' w' h1 h2 _; exact fin v' w' h1 h2
  | none =>
    have hys : ys = [] := by
      cases ys with
      | nil => rfl
      | cons y r => obtain ⟨_, he, _⟩ := hd 0 (.int .u8 y) rfl; cases he
    subst hys
    obtain rfl : cap = 0 := hz rfl
    refine wpList_append_own_none hgd s x 22 ho B 5 i0 1 Tryz.underlying22 hi v xs.length (xs.map (.int .u8)) hs hown hx ?_
    exact h v w (by rw [List.append_nil]; exact hown) hb
end

theorem bcell {W w1 : World} (hb : Below W.heap.size W w1) : (∀ b o, b < W.heap.size → w1.cell? ⟨b, o, none⟩ = W.cell? ⟨b, o, none⟩) ∧ (∀ b o, b < W.heap.size → w1.frozen? ⟨b, o, none⟩ = W.frozen? ⟨b, o, none⟩) :=
  ⟨fun b o h => hb.cell (p := ⟨b, o, none⟩) h, fun b o h => hb.frozen (p := ⟨b, o, none⟩) h⟩

theorem bnext {w wa wb : World} (h : Below w.heap.size w wa) (hb : Below wa.heap.size wa wb) : Below w.heap.size w wb := h.trans (hb.mono h.size)
theorem bnextA {w wa : World} (h : Below w.heap.size w wa) (o : Obj) : Below w.heap.size w (wa.alloc o) := h.alloc h.size o


theorem Own.store {w : World} {B b n cap : Nat} {xs : List Int} (h : Own w B (.slice (some ⟨b, 0, none⟩) n cap) xs) (hn : n = xs.length) (j : Nat) (x : Int) : Own (w.setCell ⟨b, j, none⟩ (.int .u8 x)) B (.slice (some ⟨b, 0, none⟩) n cap) (xs.set j x) := by
  subst hn
  have h' := (World.ownsRow.stored h j (.int .u8 x)).1
  unfold Own
  rw [List.map_set, List.length_set]
  exact h'


theorem Own.cells' {w : World} {B : Nat} {v : Value} {xs : List Int} (h : Own w B v xs) (hx : xs ≠ []) : ∃ b cap, v = .slice (some ⟨b, 0, none⟩) xs.length cap ∧ B ≤ b ∧ b < w.heap.size ∧ ∀ k, k < xs.length → w.cell? ⟨b, k, none⟩ = some (.int .u8 (xs.getD k 0)) := by
  have hl := h.lt
  have hc := fun (g : Nat) hg => World.ownsRow.cells h (g := g) hg
  rcases h.2 with ⟨_, h0⟩ | ⟨g, cap, cur, rfl, hb, _⟩
  · exact absurd (List.eq_nil_of_length_eq_zero h0) hx
  · refine ⟨g, cap, rfl, hb, (hl g rfl).2, fun k hk => ?_⟩
    have := hc g rfl k _ (get_map hk)
    rwa [add_lit, Nat.zero_add] at this


theorem Own.setCell_below {w : World} {B : Nat} {v : Value} {xs : List Int} (h : Own w B v xs) {p : Addr} (hp : p.block < B) (u : Value) : Own (w.setCell p u) B v xs := ownsRow_setCell_below h hp u

/-- a slice that was just built of numbers -/
theorem Rd.lit (w : World) (xs : List Int) : Rd (w.alloc (.cells (xs.map (.int .u8)).toArray 5)) (.slice (some ⟨w.heap.size, 0, none⟩) xs.length xs.length) xs := by
  refine ⟨_, _, rfl, Nat.le_refl _, (fun h => by cases h), .inr ⟨_, _, rfl, fun k hk => ?_⟩⟩
  rw [cell_of_row _ w.heap.size (0 + k) _ 5 (0, 0) (heap_alloc_new w _)]
  rw [List.getElem?_toArray, Nat.zero_add]
  exact get_map hk


/-- all of a block is known -/
def Full (w : World) (g : Nat) (l : List Int) : Prop := w.heap[g]? = some (.cells (l.map (.int .u8)).toArray 5 (0, 0))
theorem Full.lt {w : World} {g : Nat} {l : List Int} (h : Full w g l) : g < w.heap.size := (Array.getElem?_eq_some_iff.1 h).1
theorem Full.lift {w w' : World} {g : Nat} {l : List Int} (h : Full w g l) (hb : Below w.heap.size w w') : Full w' g l := by
  unfold Full; rw [hb.block g h.lt]; exact h
theorem Full.lift' {w w' : World} {B g : Nat} {l : List Int} (h : Full w g l) (hg : g < B) (hb : Below B w w') : Full w' g l := by
  unfold Full; rw [hb.block g hg]; exact h
theorem Full.at {w : World} {g : Nat} {l : List Int} (h : Full w g l) (k : Nat) (hk : k < l.length) : w.cell? ⟨g, k, none⟩ = some (.int .u8 (l.getD k 0)) := by
  rw [cell_of_row _ g k _ 5 (0, 0) h, List.getElem?_toArray]; exact get_map hk
theorem Full.rd {w : World} {g : Nat} {l r : List Int} (h : Full w g (l ++ r)) (cap : Nat) (hc : l.length ≤ cap) : Rd w (.slice (some ⟨g, 0, none⟩) l.length cap) l := by
  refine ⟨_, _, rfl, hc, (fun h => by cases h), .inr ⟨g, 0, rfl, fun k hk => ?_⟩⟩
  rw [Nat.zero_add, h.at k (by simp; omega), List.getD_eq_getElem?_getD, List.getD_eq_getElem?_getD, List.getElem?_append_left hk]


theorem run_convert_rd {w : World} {v : Value} {l : List Int} (h : Rd w v l) : (convert 22 9 v).run Tryz.prog w = .ok (.string (strOfNums l)) w := by
  obtain ⟨ao, cap, rfl, hc, hz, h⟩ := h
  rcases h with rfl | ⟨b, off, rfl, h⟩
  · cases ao with
    | none => exact run_convert_bytes_nil w 22 5 Tryz.underlying22 Tryz.underlying5 _ _ _ Tryz.underlying9
    | some ad =>
      rw [run_convert_bytes_string w 22 9 5 _ _ cap Tryz.underlying22 Tryz.underlying5 Tryz.underlying9]
      simp only [List.length_nil]
      rw [run_bytesToString w ad 0 cap [] (by
        have := run_loadCells_list (P := Tryz.prog) w ad [] (fun j v hj => by simp at hj)
        simpa using this)]
      rfl
  · exact run_convert_bytes_arg w 22 5 Tryz.underlying22 Tryz.underlying5 b off l.length cap l rfl h _ Tryz.underlying9

end Go.Proofs.YtgcmdnkmnghhaaaGreatDoor.mm

/- The tables of accesses that package mem's calls make, and what stands in them. -/
set_option linter.unusedVariables false
namespace Go.Proofs.YtgcmdnkmnghhaaaGreatDoor.mm
open Go.RowKit Go.MapKept

/-- block b is a map from ints to values: the entries l, in the order in which they came -/
def Maps (w : World) (b : Nat) (l : List (Int × Value)) : Prop :=
  ∃ es clock, w.heap[b]? = some (.map es clock) ∧ es.toList.map (fun e => (e.key, e.val)) = l.map (fun p => (Value.int .i64 p.1, p.2))

theorem Maps.made (w : World) : Maps (w.alloc (.map #[] 0)) w.heap.size [] := ⟨#[], 0, (heap_alloc w _).1, rfl⟩
theorem Maps.lift {w w' : World} {b : Nat} {l : List (Int × Value)} (h : Maps w b l) (hb : Below w.heap.size w w') : Maps w' b l := by
  obtain ⟨es, clock, h1, h2⟩ := h
  have hlt : b < w.heap.size := by
    rcases Nat.lt_or_ge b w.heap.size with h | h
    · exact h
    · rw [Array.getElem?_eq_none h] at h1; cases h1
  exact ⟨es, clock, by rw [hb.block b hlt]; exact h1, h2⟩

theorem keys_of {es : List MapEntry} {l : List (Int × Value)} (h : es.map (fun e => (e.key, e.val)) = l.map (fun p => (Value.int .i64 p.1, p.2))) : ∀ x ∈ es, IsKey (.int .i64) x.key := by
  intro x hx
  have : (x.key, x.val) ∈ es.map (fun e => (e.key, e.val)) := List.mem_map.2 ⟨x, hx, rfl⟩
  rw [h] at this
  obtain ⟨p, _, hp⟩ := List.mem_map.1 this
  simp only [Prod.mk.injEq] at hp
  rw [← hp.1]; rfl

/-- what a look-up finds -/
def at? : List (Int × Value) → Int → Option Value
  | [], _ => none
  | p :: l, k => if k = p.1 then some p.2 else at? l k

theorem find_at (k : Int) : ∀ (es : List MapEntry) (l : List (Int × Value)) (i : Nat), es.map (fun e => (e.key, e.val)) = l.map (fun p => (Value.int .i64 p.1, p.2)) →
    match at? l k with
    | none => Instr.findNow (.int .i64) (.int .i64 k) es i = some none
    | some v => ∃ j, Instr.findNow (.int .i64) (.int .i64 k) es i = some (some (j, v))
  | [], [], _, _ => rfl
  | [], _ :: _, _, h => by simp at h
  | _ :: _, [], _, h => by simp at h
  | e :: es, p :: l, i, h => by
    simp only [List.map_cons, List.cons.injEq, Prod.mk.injEq] at h
    obtain ⟨⟨h1, h2⟩, h3⟩ := h
    have ih := find_at k es l (i + 1) h3
    rw [at?]
    by_cases hk : k = p.1
    · rw [if_pos hk]
      exact ⟨i, by simp [Instr.findNow, Instr.sameNow, h1, hk, h2]⟩
    · rw [if_neg hk]
      have : Instr.findNow (.int .i64) (.int .i64 k) (e :: es) i = Instr.findNow (.int .i64) (.int .i64 k) es (i + 1) := by
        simp [Instr.findNow, Instr.sameNow, h1, show (k == p.1) = false from by simp [hk]]
      rw [this]; exact ih

section
variable {ops : Array Oper} {rest : List Oper} {o : Oper} {a : Act} {Q : Exit → Act → World → Prop} {w w0 : World} {B b : Nat} {l : List (Int × Value)}

/-- one entry more -/
theorem wpList_insert {m x v : Operand} {t kt et : TypeId} {k : Int} {val : Value} (hgd : o.guard = none) (ho : o.op = Op.insert t m x v)
    (ht : Tryz.prog.underlying t = some (.map kt et)) (hk : Tryz.prog.underlying kt = some (.int .i64)) (hm : a.eval m = .map (some b)) (hx : a.eval x = .int .i64 k) (hv : a.eval v = val)
    (h : Maps w b l) (hn : at? l k = none) (hb : Below B w0 w) (hB : B ≤ b)
    (hK : ∀ w', Maps w' b (l ++ [(k, val)]) → Below B w0 w' → wpList Tryz.prog ops Q rest (a.put o.dst undef) w') : wpList Tryz.prog ops Q (o :: rest) a w := by
  refine wpList_plain hgd fun K' hK' => ?_
  obtain ⟨es, clock, h1, h2⟩ := h
  have hf := find_at k es.toList l 0 h2
  rw [hn] at hf
  have hkey : IsKey (.int .i64) (.int .i64 k) := rfl
  have hrun : (Instr.mapUpdate t (.map (some b)) (.int .i64 k) val).run Tryz.prog w = .ok () { w with heap := w.heap.setIfInBounds b (.map (es.push { key := .int .i64 k, val := val, born := clock }) (clock + 1)) } := by
    simp [Instr.mapUpdate, run_underlying ht, MapKept.run_getObj_map h1, run_checkKey hk hkey, run_findKey hk hf, MapKept.run_setObj_map _ h1, Result.andThen]
  unfold Oper.wp
  simp [execOp, ho, hm, hx, hv, hrun, Result.andThen]
  refine hK' _ _ (hK _ ⟨_, _, (heap_set h1).1, by simp [h2]⟩ ⟨hb.os, hb.tape, hb.output, by simpa using hb.size, fun j hj => ?_⟩)
  rw [(heap_set h1).2 j (by omega)]; exact hb.block j hj

/-- a look-up of what stands there -/
theorem wpList_look {m x : Operand} {t kt et : TypeId} {k : Int} {val : Value} (hgd : o.guard = none) (ho : o.op = Op.lookup t m x false)
    (ht : Tryz.prog.underlying t = some (.map kt et)) (hk : Tryz.prog.underlying kt = some (.int .i64)) (hm : a.eval m = .map (some b)) (hx : a.eval x = .int .i64 k)
    (h : Maps w b l) (hn : at? l k = some val)
    (hK : wpList Tryz.prog ops Q rest (a.put o.dst val) w) : wpList Tryz.prog ops Q (o :: rest) a w := by
  refine wpList_plain hgd fun K' hK' => ?_
  obtain ⟨es, clock, h1, h2⟩ := h
  have hf := find_at k es.toList l 0 h2
  rw [hn] at hf
  obtain ⟨j, hf⟩ := hf
  have hkey : IsKey (.int .i64) (.int .i64 k) := rfl
  have hrun : (Instr.lookup t (.map (some b)) (.int .i64 k) false).run Tryz.prog w = .ok val w := by
    simp [Instr.lookup, run_underlying ht, MapKept.run_getObj_map h1, run_checkKey hk hkey, run_findKey hk hf, Result.andThen]
  unfold Oper.wp
  simp [execOp, ho, hm, hx, hrun, Result.andThen]
  exact hK' _ _ hK

/-- a look-up that tells whether something stands there -/
theorem wpList_look_ok {m x : Operand} {t kt et : TypeId} {k : Int} {val : Value} {ok : Bool} (hgd : o.guard = none) (ho : o.op = Op.lookup t m x true)
    (ht : Tryz.prog.underlying t = some (.map kt et)) (hk : Tryz.prog.underlying kt = some (.int .i64)) {z : Value} (hz : ∀ w : World, (zeroValue et).run Tryz.prog w = .ok z w) (hm : a.eval m = .map (some b)) (hx : a.eval x = .int .i64 k)
    (h : Maps w b l) (hn : at? l k = if ok then some val else none)
    (hK : wpList Tryz.prog ops Q rest (a.put o.dst (.tuple #[if ok then val else z, .bool ok])) w) : wpList Tryz.prog ops Q (o :: rest) a w := by
  refine wpList_plain hgd fun K' hK' => ?_
  obtain ⟨es, clock, h1, h2⟩ := h
  have hf := find_at k es.toList l 0 h2
  have hkey : IsKey (.int .i64) (.int .i64 k) := rfl
  have hrun : (Instr.lookup t (.map (some b)) (.int .i64 k) true).run Tryz.prog w = .ok (.tuple #[if ok then val else z, .bool ok]) w := by
    cases ok with
    | true =>
      rw [hn] at hf
      obtain ⟨j, hf⟩ := hf
      simp [Instr.lookup, run_underlying ht, MapKept.run_getObj_map h1, run_checkKey hk hkey, run_findKey hk hf, Result.andThen]
    | false =>
      rw [hn] at hf
      simp [Instr.lookup, run_underlying ht, MapKept.run_getObj_map h1, run_checkKey hk hkey, run_findKey hk hf, hz, Result.andThen]
  unfold Oper.wp
  simp [execOp, ho, hm, hx, hrun, Result.andThen]
  exact hK' _ _ hK
end

theorem made_below (w : World) (o : Obj) : Below w.heap.size w (w.alloc o) := (Below.refl _ _).alloc (Nat.le_refl _) _
theorem belowN {B : Nat} (w : World) (n : Nat) : Below B w (w.drewN n) := ⟨rfl, rfl, rfl, Nat.le_refl _, fun _ _ => rfl⟩

/-- an access: its type, how many bytes, whether it writes, whether it brings its sign along -/
structure Acc where
  kind : Int
  width : Nat
  store : Bool
  signed : Bool
deriving DecidableEq
def aggV (a : Acc) : Value := .agg #[.int .i64 a.kind, .int .i64 a.width, .bool a.store, .bool a.signed]
def noAcc : Acc := ⟨0, 0, false, false⟩

def acc (op : Int) : Option Acc :=
  if op = 40 then some ⟨127, 4, false, false⟩
  else if op = 41 then some ⟨126, 8, false, false⟩
  else if op = 44 then some ⟨127, 1, false, true⟩
  else if op = 45 then some ⟨127, 1, false, false⟩
  else if op = 46 then some ⟨127, 2, false, true⟩
  else if op = 47 then some ⟨127, 2, false, false⟩
  else if op = 48 then some ⟨126, 1, false, true⟩
  else if op = 49 then some ⟨126, 1, false, false⟩
  else if op = 50 then some ⟨126, 2, false, true⟩
  else if op = 51 then some ⟨126, 2, false, false⟩
  else if op = 52 then some ⟨126, 4, false, true⟩
  else if op = 53 then some ⟨126, 4, false, false⟩
  else if op = 54 then some ⟨127, 4, true, false⟩
  else if op = 55 then some ⟨126, 8, true, false⟩
  else if op = 58 then some ⟨127, 1, true, false⟩
  else if op = 59 then some ⟨127, 2, true, false⟩
  else if op = 60 then some ⟨126, 1, true, false⟩
  else if op = 61 then some ⟨126, 2, true, false⟩
  else if op = 62 then some ⟨126, 4, true, false⟩
  else none

def readsL : List (Int × Value) := [(40, aggV ⟨127, 4, false, false⟩), (41, aggV ⟨126, 8, false, false⟩), (44, aggV ⟨127, 1, false, true⟩), (45, aggV ⟨127, 1, false, false⟩), (46, aggV ⟨127, 2, false, true⟩), (47, aggV ⟨127, 2, false, false⟩)]
def shortL : List (Int × Value) := [(48, aggV ⟨126, 1, false, true⟩), (49, aggV ⟨126, 1, false, false⟩), (50, aggV ⟨126, 2, false, true⟩), (51, aggV ⟨126, 2, false, false⟩), (52, aggV ⟨126, 4, false, true⟩), (53, aggV ⟨126, 4, false, false⟩)]
def writesL : List (Int × Value) := [(54, aggV ⟨127, 4, true, false⟩), (55, aggV ⟨126, 8, true, false⟩), (58, aggV ⟨127, 1, true, false⟩), (59, aggV ⟨127, 2, true, false⟩), (60, aggV ⟨126, 1, true, false⟩), (61, aggV ⟨126, 2, true, false⟩), (62, aggV ⟨126, 4, true, false⟩)]

theorem acc_low {op : Int} (h : op < 48) : at? readsL op = (acc op).map aggV := by
  by_cases e40 : op = 40
  · subst e40; rfl
  by_cases e41 : op = 41
  · subst e41; rfl
  by_cases e44 : op = 44
  · subst e44; rfl
  by_cases e45 : op = 45
  · subst e45; rfl
  by_cases e46 : op = 46
  · subst e46; rfl
  by_cases e47 : op = 47
  · subst e47; rfl
  have e : acc op = none := by
    unfold acc; rw [if_neg e40, if_neg e41, if_neg e44, if_neg e45, if_neg e46, if_neg e47, if_neg (show ¬ op = 48 by omega), if_neg (show ¬ op = 49 by omega), if_neg (show ¬ op = 50 by omega), if_neg (show ¬ op = 51 by omega), if_neg (show ¬ op = 52 by omega), if_neg (show ¬ op = 53 by omega), if_neg (show ¬ op = 54 by omega), if_neg (show ¬ op = 55 by omega), if_neg (show ¬ op = 58 by omega), if_neg (show ¬ op = 59 by omega), if_neg (show ¬ op = 60 by omega), if_neg (show ¬ op = 61 by omega), if_neg (show ¬ op = 62 by omega)]
  rw [e]; unfold readsL; simp only [at?]; rw [if_neg e40, if_neg e41, if_neg e44, if_neg e45, if_neg e46, if_neg e47]; rfl
theorem acc_mid {op : Int} (h : 48 ≤ op) (h2 : op < 54) : at? shortL op = (acc op).map aggV := by
  by_cases e48 : op = 48
  · subst e48; rfl
  by_cases e49 : op = 49
  · subst e49; rfl
  by_cases e50 : op = 50
  · subst e50; rfl
  by_cases e51 : op = 51
  · subst e51; rfl
  by_cases e52 : op = 52
  · subst e52; rfl
  by_cases e53 : op = 53
  · subst e53; rfl
  have e : acc op = none := by
    unfold acc; rw [if_neg (show ¬ op = 40 by omega), if_neg (show ¬ op = 41 by omega), if_neg (show ¬ op = 44 by omega), if_neg (show ¬ op = 45 by omega), if_neg (show ¬ op = 46 by omega), if_neg (show ¬ op = 47 by omega), if_neg e48, if_neg e49, if_neg e50, if_neg e51, if_neg e52, if_neg e53, if_neg (show ¬ op = 54 by omega), if_neg (show ¬ op = 55 by omega), if_neg (show ¬ op = 58 by omega), if_neg (show ¬ op = 59 by omega), if_neg (show ¬ op = 60 by omega), if_neg (show ¬ op = 61 by omega), if_neg (show ¬ op = 62 by omega)]
  rw [e]; unfold shortL; simp only [at?]; rw [if_neg e48, if_neg e49, if_neg e50, if_neg e51, if_neg e52, if_neg e53]; rfl
theorem acc_high {op : Int} (h : 54 ≤ op) : at? writesL op = (acc op).map aggV := by
  by_cases e54 : op = 54
  · subst e54; rfl
  by_cases e55 : op = 55
  · subst e55; rfl
  by_cases e58 : op = 58
  · subst e58; rfl
  by_cases e59 : op = 59
  · subst e59; rfl
  by_cases e60 : op = 60
  · subst e60; rfl
  by_cases e61 : op = 61
  · subst e61; rfl
  by_cases e62 : op = 62
  · subst e62; rfl
  have e : acc op = none := by
    unfold acc; rw [if_neg (show ¬ op = 40 by omega), if_neg (show ¬ op = 41 by omega), if_neg (show ¬ op = 44 by omega), if_neg (show ¬ op = 45 by omega), if_neg (show ¬ op = 46 by omega), if_neg (show ¬ op = 47 by omega), if_neg (show ¬ op = 48 by omega), if_neg (show ¬ op = 49 by omega), if_neg (show ¬ op = 50 by omega), if_neg (show ¬ op = 51 by omega), if_neg (show ¬ op = 52 by omega), if_neg (show ¬ op = 53 by omega), if_neg e54, if_neg e55, if_neg e58, if_neg e59, if_neg e60, if_neg e61, if_neg e62]
  rw [e]; unfold writesL; simp only [at?]; rw [if_neg e54, if_neg e55, if_neg e58, if_neg e59, if_neg e60, if_neg e61, if_neg e62]; rfl

def accL : List (Int × Acc) := [(40, ⟨127, 4, false, false⟩), (41, ⟨126, 8, false, false⟩), (44, ⟨127, 1, false, true⟩), (45, ⟨127, 1, false, false⟩), (46, ⟨127, 2, false, true⟩), (47, ⟨127, 2, false, false⟩), (48, ⟨126, 1, false, true⟩), (49, ⟨126, 1, false, false⟩), (50, ⟨126, 2, false, true⟩), (51, ⟨126, 2, false, false⟩), (52, ⟨126, 4, false, true⟩), (53, ⟨126, 4, false, false⟩), (54, ⟨127, 4, true, false⟩), (55, ⟨126, 8, true, false⟩), (58, ⟨127, 1, true, false⟩), (59, ⟨127, 2, true, false⟩), (60, ⟨126, 1, true, false⟩), (61, ⟨126, 2, true, false⟩), (62, ⟨126, 4, true, false⟩)]
theorem acc_mem {op : Int} {a : Acc} (h : acc op = some a) : (op, a) ∈ accL := by
  by_cases e40 : op = 40
  · subst e40; have := Option.some.inj (show some (⟨127, 4, false, false⟩ : Acc) = some a from h); subst this; decide
  by_cases e41 : op = 41
  · subst e41; have := Option.some.inj (show some (⟨126, 8, false, false⟩ : Acc) = some a from h); subst this; decide
  by_cases e44 : op = 44
  · subst e44; have := Option.some.inj (show some (⟨127, 1, false, true⟩ : Acc) = some a from h); subst this; decide
  by_cases e45 : op = 45
  · subst e45; have := Option.some.inj (show some (⟨127, 1, false, false⟩ : Acc) = some a from h); subst this; decide
  by_cases e46 : op = 46
  · subst e46; have := Option.some.inj (show some (⟨127, 2, false, true⟩ : Acc) = some a from h); subst this; decide
  by_cases e47 : op = 47
  · subst e47; have := Option.some.inj (show some (⟨127, 2, false, false⟩ : Acc) = some a from h); subst this; decide
  by_cases e48 : op = 48
  · subst e48; have := Option.some.inj (show some (⟨126, 1, false, true⟩ : Acc) = some a from h); subst this; decide
  by_cases e49 : op = 49
  · subst e49; have := Option.some.inj (show some (⟨126, 1, false, false⟩ : Acc) = some a from h); subst this; decide
  by_cases e50 : op = 50
  · subst e50; have := Option.some.inj (show some (⟨126, 2, false, true⟩ : Acc) = some a from h); subst this; decide
  by_cases e51 : op = 51
  · subst e51; have := Option.some.inj (show some (⟨126, 2, false, false⟩ : Acc) = some a from h); subst this; decide
  by_cases e52 : op = 52
  · subst e52; have := Option.some.inj (show some (⟨126, 4, false, true⟩ : Acc) = some a from h); subst this; decide
  by_cases e53 : op = 53
  · subst e53; have := Option.some.inj (show some (⟨126, 4, false, false⟩ : Acc) = some a from h); subst this; decide
  by_cases e54 : op = 54
  · subst e54; have := Option.some.inj (show some (⟨127, 4, true, false⟩ : Acc) = some a from h); subst this; decide
  by_cases e55 : op = 55
  · subst e55; have := Option.some.inj (show some (⟨126, 8, true, false⟩ : Acc) = some a from h); subst this; decide
  by_cases e58 : op = 58
  · subst e58; have := Option.some.inj (show some (⟨127, 1, true, false⟩ : Acc) = some a from h); subst this; decide
  by_cases e59 : op = 59
  · subst e59; have := Option.some.inj (show some (⟨127, 2, true, false⟩ : Acc) = some a from h); subst this; decide
  by_cases e60 : op = 60
  · subst e60; have := Option.some.inj (show some (⟨126, 1, true, false⟩ : Acc) = some a from h); subst this; decide
  by_cases e61 : op = 61
  · subst e61; have := Option.some.inj (show some (⟨126, 2, true, false⟩ : Acc) = some a from h); subst this; decide
  by_cases e62 : op = 62
  · subst e62; have := Option.some.inj (show some (⟨126, 4, true, false⟩ : Acc) = some a from h); subst this; decide
  exfalso; unfold acc at h; rw [if_neg e40, if_neg e41, if_neg e44, if_neg e45, if_neg e46, if_neg e47, if_neg e48, if_neg e49, if_neg e50, if_neg e51, if_neg e52, if_neg e53, if_neg e54, if_neg e55, if_neg e58, if_neg e59, if_neg e60, if_neg e61, if_neg e62] at h; cases h
theorem accL_all : ∀ p ∈ accL, acc p.1 = some p.2 ∧ (p.2.kind = 127 ∨ p.2.kind = 126) ∧ (p.2.width = 1 ∨ p.2.width = 2 ∨ p.2.width = 4 ∨ p.2.width = 8) ∧ (p.2.kind = 127 → p.2.width ≤ 4) := by decide
theorem acc_cases {op : Int} {a : Acc} (h : acc op = some a) : (a.kind = 127 ∨ a.kind = 126) ∧ (a.width = 1 ∨ a.width = 2 ∨ a.width = 4 ∨ a.width = 8) ∧ (a.kind = 127 → a.width ≤ 4) := (accL_all _ (acc_mem h)).2

theorem reads_any (w : World) : Calls Tryz.prog 253 #[] w fun e w' => ∃ b, e = .returned (.map (some b)) ∧ Maps w' b readsL ∧ Below w.heap.size w w' := by
  have hmm := @run_makeMap Tryz.prog
  go_enter Tryz.func253, Tryz.ntmps253
  go_wp2_with (refine wpList_insert rfl rfl Tryz.underlying268 Tryz.underlying3 rfl rfl rfl (by first | assumption | exact Maps.made _) rfl (by first | assumption | exact made_below _ _) (Nat.le_refl _) ?_; intro w' h1 h2)
  go_ret
  exact ⟨_, rfl, h1, h2⟩
theorem short_any (w : World) : Calls Tryz.prog 254 #[] w fun e w' => ∃ b, e = .returned (.map (some b)) ∧ Maps w' b shortL ∧ Below w.heap.size w w' := by
  have hmm := @run_makeMap Tryz.prog
  go_enter Tryz.func254, Tryz.ntmps254
  go_wp2_with (refine wpList_insert rfl rfl Tryz.underlying268 Tryz.underlying3 rfl rfl rfl (by first | assumption | exact Maps.made _) rfl (by first | assumption | exact made_below _ _) (Nat.le_refl _) ?_; intro w' h1 h2)
  go_ret
  exact ⟨_, rfl, h1, h2⟩
theorem writes_any (w : World) : Calls Tryz.prog 255 #[] w fun e w' => ∃ b, e = .returned (.map (some b)) ∧ Maps w' b writesL ∧ Below w.heap.size w w' := by
  have hmm := @run_makeMap Tryz.prog
  go_enter Tryz.func255, Tryz.ntmps255
  go_wp2_with (refine wpList_insert rfl rfl Tryz.underlying268 Tryz.underlying3 rfl rfl rfl (by first | assumption | exact Maps.made _) rfl (by first | assumption | exact made_below _ _) (Nat.le_refl _) ?_; intro w' h1 h2)
  go_ret
  exact ⟨_, rfl, h1, h2⟩

def tabL (op : Int) : List (Int × Value) := if op < 48 then readsL else if op < 54 then shortL else writesL
theorem tab_at (op : Int) : at? (tabL op) op = (acc op).map aggV := by
  unfold tabL
  split
  · exact acc_low ‹_›
  · split
    · exact acc_mid (by omega) ‹_›
    · exact acc_high (by omega)
theorem table_any (op : Int) (w : World) : Calls Tryz.prog 246 #[.int .i64 op] w fun e w' => ∃ b, e = .returned (.map (some b)) ∧ Maps w' b (tabL op) ∧ Below w.heap.size w w' := by
  unfold tabL
  by_cases h1 : op < 48
  · rw [if_pos h1]
    go_enter Tryz.func246, Tryz.ntmps246
    go_wp2_with (go_at_call 253; refine (reads_any _).mono ?_; rintro e w' ⟨b1, rfl, h2, h3⟩)
    go_ret
    exact ⟨_, rfl, h2, h3⟩
  · rw [if_neg h1]
    by_cases h4 : op < 54
    · rw [if_pos h4]
      go_enter Tryz.func246, Tryz.ntmps246
      go_wp2_with (go_at_call 254; refine (short_any _).mono ?_; rintro e w' ⟨b1, rfl, h2, h3⟩)
      go_ret
      exact ⟨_, rfl, h2, h3⟩
    · rw [if_neg h4]
      go_enter Tryz.func246, Tryz.ntmps246
      go_wp2_with (go_at_call 255; refine (writes_any _).mono ?_; rintro e w' ⟨b1, rfl, h2, h3⟩)
      go_ret
      exact ⟨_, rfl, h2, h3⟩

/-- a block of the call's own holds an access -/
def ABox (w : World) (g : Nat) (a : Acc) : Prop := w.heap[g]? = some (.cells #[.int .i64 a.kind, .int .i64 a.width, .bool a.store, .bool a.signed] 256 (0, 0))
theorem ABox.new (w : World) (a : Acc) : ABox (w.alloc (.cells #[.int .i64 a.kind, .int .i64 a.width, .bool a.store, .bool a.signed] 256)) w.heap.size a := heap_alloc_new w _
theorem ABox.lt {w : World} {g : Nat} {a : Acc} (h : ABox w g a) : g < w.heap.size := (Array.getElem?_eq_some_iff.1 h).1
theorem ABox.lift {w w' : World} {g : Nat} {a : Acc} (h : ABox w g a) (hb : Below w.heap.size w w') : ABox w' g a := (hb.block g h.lt).trans h
theorem ABox.cells {w : World} {g : Nat} {a : Acc} (h : ABox w g a) : w.cell? ⟨g, 0, none⟩ = some (.int .i64 a.kind) ∧ w.cell? ⟨g, 1, none⟩ = some (.int .i64 a.width) ∧ w.cell? ⟨g, 2, none⟩ = some (.bool a.store) ∧ w.cell? ⟨g, 3, none⟩ = some (.bool a.signed) ∧
    w.frozen? ⟨g, 0, none⟩ = false ∧ w.frozen? ⟨g, 1, none⟩ = false ∧ w.frozen? ⟨g, 2, none⟩ = false ∧ w.frozen? ⟨g, 3, none⟩ = false := by
  unfold ABox at h
  simp [World.cell?, World.frozen?, h]

def accT (o : Option Acc) : Value := .tuple #[aggV (o.getD noAcc), .bool o.isSome]
theorem acc_val (o : Option Acc) : (if o.isSome then aggV (o.getD noAcc) else .agg #[.int .i64 0, .int .i64 0, .bool false, .bool false]) = aggV (o.getD noAcc) := by cases o <;> rfl
set_option maxHeartbeats 1000000 in
theorem accessOf_any (op : Int) (w : World) : Calls Tryz.prog 233 #[.int .i64 op] w fun e w' => e = .returned (accT (acc op)) ∧ Below w.heap.size w w' := by
  have hat : at? (tabL op) op = if (acc op).isSome then some (aggV ((acc op).getD noAcc)) else none := by
    rw [tab_at]; cases acc op <;> rfl
  have HZ := Lib.hid (show ∀ w : World, (zeroValue 256).run Tryz.prog w = .ok (.agg #[.int .i64 0, .int .i64 0, .bool false, .bool false]) w from fun w => by kernel_rfl)
  generalize acc op = o at hat ⊢
  have Hat := Lib.hid hat
  clear hat
  have hv := acc_val o
  unfold accT
  generalize o.isSome = ok at Hat hv ⊢
  generalize o.getD noAcc = A at Hat hv ⊢
  have Hv := Lib.hid hv
  clear hv
  go_enter Tryz.func233, Tryz.ntmps233
  go_wp2_with (first
    | (go_at_call 246; refine (table_any _ _).mono ?_; rintro e w' ⟨b1, rfl, h1, h2⟩; obtain ⟨c0, c1, c2, c3, f0, f1, f2, f3⟩ := ((ABox.new w noAcc).lift h2).cells; have hlt := ((ABox.new w noAcc).lift h2).lt)
    | (at_lookup; refine wpList_look_ok (ok := ok) rfl rfl Tryz.underlying268 Tryz.underlying3 HZ.out rfl rfl (by assumption) Hat.out ?_; rw [Hv.out]; unfold aggV))
  have hB := bnext (bnextA (Below.refl w.heap.size w) _) h2
  exact bodyPost_ret (v := .tuple #[aggV A, .bool ok]) (by simp [results, Tryz.results233, go_sem, aggV, c0, c1, c2, c3, hlt]) rfl ⟨rfl, ((((hB.setCell (p := ⟨w.heap.size, 0, none⟩) (Nat.le_refl _) _).setCell (p := ⟨w.heap.size, 1, none⟩) (Nat.le_refl _) _).setCell (p := ⟨w.heap.size, 2, none⟩) (Nat.le_refl _) _).setCell (p := ⟨w.heap.size, 3, none⟩) (Nat.le_refl _) _).alloc (by simp; omega) _⟩
end Go.Proofs.YtgcmdnkmnghhaaaGreatDoor.mm

/- The contract of mem.Access. -/
set_option linter.unusedVariables false
namespace Go.Proofs.YtgcmdnkmnghhaaaGreatDoor.mm
open Go.RowKit
def accR (op : Int) : Value := .tuple #[.int .i64 ((acc op).getD noAcc).kind, .int .i64 ((acc op).getD noAcc).width, .bool ((acc op).getD noAcc).store, .bool (acc op).isSome]
theorem Access_any (op : Int) (w : World) : Calls Tryz.prog 217 #[.int .i64 op] w fun e w' => e = .returned (accR op) ∧ Below w.heap.size w w' := by
  have H := Lib.hid (accessOf_any op w)
  unfold accT aggV at H
  unfold accR
  generalize (acc op).isSome = ok at H ⊢
  generalize (acc op).getD noAcc = A at H ⊢
  obtain ⟨k, wd, st, sg⟩ := A
  simp only at H ⊢
  go_enter Tryz.func217, Tryz.ntmps217
  go_wp2_with (go_at_call 233; refine H.out.mono ?_; rintro e w1 ⟨rfl, hb1⟩)
  go_quiet (fail)
  go_wp2
  exact bodyPost_ret (v := .tuple #[.int .i64 k, .int .i64 wd, .bool st, .bool ok]) (by simp [results, Tryz.results217, go_sem]) rfl ⟨rfl, (bnextA hb1 _).trans (belowN _ _)⟩
end Go.Proofs.YtgcmdnkmnghhaaaGreatDoor.mm

/- A coder in memory; the contracts of align, targets, leftOut. -/
set_option linter.unusedVariables false
namespace Go.Proofs.YtgcmdnkmnghhaaaGreatDoor.wm
open Go.RowKit Go.Proofs.YtgcmdnkmnghhaaaGreatDoor.lb

theorem rows_get {B : Nat} {w : World} {b n : Nat} : ∀ {es : List Gh} {off : Nat} (i : Nat) {e : Gh}, Gh.rows B w b n off es → es[i]? = some e → ∃ cs, cs.length = n ∧ (∀ j v, cs[j]? = some v → w.cell? ⟨b, off + i * n + j, none⟩ = some v) ∧ e.holds B w cs
  | [], off, i, e, h, hi => by simp at hi
  | x :: es, off, 0, e, h, hi => by
    simp at hi; subst hi
    obtain ⟨⟨cs, h1, h2, h3⟩, _⟩ := h
    exact ⟨cs, h1, fun j v hj => by have := h2 j v hj; simpa using this, h3⟩
  | x :: es, off, i + 1, e, h, hi => by
    simp at hi
    obtain ⟨cs, h1, h2, h3⟩ := rows_get i h.2 hi
    refine ⟨cs, h1, fun j v hj => ?_, h3⟩
    have := h2 j v hj
    rw [show off + (i + 1) * n + j = off + n + i * n + j by rw [Nat.succ_mul]; omega]
    exact this
theorem VR.get {α : Type} {k : Nat} {gh : α → Gh} {B : Nat} {w : World} {ao : Option Addr} {len cap : Nat} {xs : List α} (h : VR k gh B w (.slice ao len cap) xs) {i : Nat} (hi : i < xs.length) :
    ∃ b off cs, ao = some ⟨b, off, none⟩ ∧ cs.length = k ∧ (∀ j v, cs[j]? = some v → w.cell? ⟨b, off + i * k + j, none⟩ = some v) ∧ (gh xs[i]).holds B w cs := by
  obtain ⟨ao', cap', h1, h2, h3, h4⟩ := h
  simp only [List.cons.injEq, Value.slice.injEq, and_true] at h1
  obtain ⟨rfl, rfl, rfl⟩ := h1
  rcases h4 with h4 | ⟨b, off, rfl, _, hr⟩
  · have : xs = [] := by simpa using h4
    subst this; simp at hi
  · obtain ⟨cs, h1, h2, h3⟩ := rows_get (i := i) (e := gh xs[i]) hr (by simp [hi])
    exact ⟨b, off, cs, rfl, h1, h2, h3⟩
theorem VR.length {α : Type} {k : Nat} {gh : α → Gh} {B : Nat} {w : World} {ao : Option Addr} {len cap : Nat} {xs : List α} (h : VR k gh B w (.slice ao len cap) xs) : len = xs.length ∧ len ≤ cap := by
  obtain ⟨ao', cap', h1, h2, h3, h4⟩ := h
  simp only [List.cons.injEq, Value.slice.injEq, and_true, List.length_map] at h1 h2
  omega

theorem rep_len {α : Type} {x : P α} {l : List Int} {e : Nat} : ∀ {k : Nat} {acc : List α} {p q : Nat} {xs : List α}, pRep x k acc l e p = .ok xs q → xs.length = acc.length + k
  | 0, acc, p, q, xs, h => by
    simp only [pRep, P.ret, Res.ok.injEq] at h
    rw [← h.1]; rfl
  | k + 1, acc, p, q, xs, h => by
    cases hx : x l e p with
    | bad w a => rw [pRep_bad hx] at h; cases h
    | ok a q' =>
      rw [pRep_ok hx] at h
      have := rep_len h
      rw [this, List.length_append]; simp; omega
theorem list_len {α : Type} {x : P α} {l : List Int} {e p q : Nat} {limit : Int} {xs : List α} (hb : ∀ k, 0 ≤ l.getD k 0) (hp : p ≤ e) (he : e ≤ l.length) (h : pList limit x l e p = .ok xs q) : (xs.length : Int) ≤ limit := by
  cases hm : pMost limit l e p with
  | bad w a => rw [show pList limit x l e p = .bad w a from P.bind_bad hm] at h; cases h
  | ok m q' =>
    rw [show pList limit x l e p = pRep x m.toNat [] l e q' from P.bind_ok hm] at h
    have h1 := rep_len h
    have h2 := most_bd hb hp he hm
    simp at h1; omega

/-- a coder in block k -/
def CB (w : World) (k r : Nat) (tv : Value) (ops : Nat) : Prop := w.heap[k]? = some (.cells #[.pointer (some ⟨r, 0, none⟩), tv, .int .i64 (ops : Int)] 244 (0, 0))
theorem CB.lt {w : World} {k r : Nat} {tv : Value} {ops : Nat} (h : CB w k r tv ops) : k < w.heap.size := (Array.getElem?_eq_some_iff.1 h).1
theorem CB.c0 {w : World} {k r : Nat} {tv : Value} {ops : Nat} (h : CB w k r tv ops) : w.cell? ⟨k, 0, none⟩ = some (.pointer (some ⟨r, 0, none⟩)) := by unfold CB at h; simp [World.cell?, h]
theorem CB.c1 {w : World} {k r : Nat} {tv : Value} {ops : Nat} (h : CB w k r tv ops) : w.cell? ⟨k, 1, none⟩ = some tv := by unfold CB at h; simp [World.cell?, h]
theorem CB.c2 {w : World} {k r : Nat} {tv : Value} {ops : Nat} (h : CB w k r tv ops) : w.cell? ⟨k, 2, none⟩ = some (.int .i64 (ops : Int)) := by unfold CB at h; simp [World.cell?, h]
theorem CB.f {w : World} {k r : Nat} {tv : Value} {ops : Nat} (h : CB w k r tv ops) (o : Nat) : w.frozen? ⟨k, o, none⟩ = false := by unfold CB at h; simp [World.frozen?, h]
theorem CB.keep {S : Nat → Prop} {w w' : World} {k r : Nat} {tv : Value} {ops : Nat} (h : CB w k r tv ops) (kp : Keep S w w') (hs : ¬ S k) : CB w' k r tv ops := (kp.block k h.lt hs).trans h
theorem CB.set {w : World} {k r : Nat} {tv : Value} {ops : Nat} (h : CB w k r tv ops) (n : Nat) {x : Int} (hx : x = (n : Int)) : CB (w.setCell ⟨k, 2, none⟩ (.int .i64 x)) k r tv n := by
  subst hx
  unfold CB at h ⊢
  simp [World.setCell, Array.getElem?_modify, h]

/-- what a coder leans on: the bytes, the types, the table of operators -/
structure CC (w0 : World) (ao : Option Addr) (cap : Nat) (l : List Int) (ta : Option Addr) (tc : Nat) (types : List GSig) : Prop where
  ctx : Ctx w0 ao cap l
  tys : VR 2 gSig 0 w0 (.slice ta types.length tc) types
  few : types.length ≤ 4096
  lens : ∀ s ∈ types, s.ins.length ≤ 4096 ∧ s.outs.length ≤ 4096
  runs : nm.Runs w0
/-- where a coder stands -/
structure Cr (w0 : World) (ao : Option Addr) (cap : Nat) (l : List Int) (ta : Option Addr) (tc : Nat) (types : List GSig) (r k e p ops : Nat) (w : World) : Prop where
  rr : Rr w0 ao cap l r e p w
  blk : CB w k r (.slice ta types.length tc) ops
  hk : w0.heap.size ≤ k
  ne : k ≠ r

section
variable {w0 : World} {ao : Option Addr} {cap : Nat} {l : List Int} {ta : Option Addr} {tc : Nat} {types : List GSig}

theorem Cr.go {r k e p q ops : Nat} {w w' : World} (h : Cr w0 ao cap l ta tc types r k e p ops w) (kp : Keep (· = r) w w') (hr : Rr w0 ao cap l r e q w') : Cr w0 ao cap l ta tc types r k e q ops w' :=
  ⟨hr, h.blk.keep kp h.ne, h.hk, h.ne⟩
theorem Cr.below {r k e p ops : Nat} {w w' : World} (h : Cr w0 ao cap l ta tc types r k e p ops w) (kp : Below w.heap.size w w') : Cr w0 ao cap l ta tc types r k e p ops w' :=
  ⟨h.rr.below kp, h.blk.keep (S := fun _ => False) (.of kp) (fun x => x), h.hk, h.ne⟩
theorem Cr.other {r k e p ops g : Nat} {w w' : World} (h : Cr w0 ao cap l ta tc types r k e p ops w) (kp : Keep (· = g) w w') (h1 : r < g) (h2 : k < g) : Cr w0 ao cap l ta tc types r k e p ops w' :=
  ⟨h.rr.keep kp (by omega) (fun i hi => by have := h.rr.hB; omega), h.blk.keep kp (by omega), h.hk, h.ne⟩

set_option maxRecDepth 100000 in
theorem align_any (c : CC w0 ao cap l ta tc types) (r k e p ops : Nat) (w : World) (h : Cr w0 ao cap l ta tc types r k e p ops w) (width : Int) (hw : 0 ≤ width ∧ width ≤ 8) :
    Calls Tryz.prog 257 #[.pointer (some ⟨k, 0, none⟩), .int .i64 width] w (Out (· = r) w0 ao cap l r e w (VI .u64) (pAlign width l e p)) := by
  have HU := u_any c.ctx r e p w h.rr
  have a0 := h.blk.c0
  have a1 := h.rr.blk.c1
  have hb := fun k => (c.ctx.bd k).1
  have hp := h.rr.hp
  have he := h.rr.he
  cases hx : pU l e p with
  | bad why a =>
    have HX := Lib.hid (show pAlign width l e p = .bad why a from P.bind_bad hx)
    have HX1 := Lib.hid hx
    have HU := Lib.hid HU
    clear hx h c
    go_enter Tryz.func257, Tryz.ntmps257
    go_wp2_with fail
    refine HU.out.mono ?_
    rintro en w1 h1
    obtain ⟨k1, rfl⟩ := h1.bad_elim HX1.out
    exact ⟨rfl, Out.wrong HX.out k1⟩
  | ok n q =>
    obtain ⟨n0, n1, _, _⟩ := u_bd hb hp he hx
    have hX : pAlign width l e p = (if 3 < n ∨ width < 2 ^ n.toNat then pFail 6 p else P.ret n) l e q := P.bind_ok hx
    have HX1 := Lib.hid hx
    have HU := Lib.hid HU
    clear hx h c hb
    by_cases h3 : 3 < n
    · have HX := Lib.hid (show pAlign width l e p = .bad 6 p by rw [hX, if_pos (.inl h3)]; rfl)
      clear hX
      go_enter Tryz.func257, Tryz.ntmps257
      go_wp2_with fail
      refine HU.out.mono ?_
      rintro en w1 h1
      obtain ⟨k1, v1, rfl, hv1, r1⟩ := h1.ok_elim HX1.out
      obtain rfl : v1 = .int .i64 n := hv1
      go_wp2_with fail
      refine (fail_any _ _ _).mono ?_
      rintro en w2 ⟨rfl, rfl⟩
      exact ⟨rfl, Out.wrong HX.out k1⟩
    · have hd : decide (3 < n) = false := by simpa using h3
      obtain ⟨m, rfl⟩ := Int.eq_ofNat_of_zero_le n0
      have hm : m = 0 ∨ m = 1 ∨ m = 2 ∨ m = 3 := by omega
      clear h3 hd n0 n1
      rw [Int.toNat_natCast] at hX
      rcases hm with rfl | rfl | rfl | rfl
      · by_cases hw2 : width < 1
        · have HX := Lib.hid (show pAlign width l e p = .bad 6 p by rw [hX, if_pos (.inr (by simpa using hw2))]; rfl)
          clear hX
          go_enter Tryz.func257, Tryz.ntmps257
          go_wp2_with fail
          refine HU.out.mono ?_
          rintro en w1 h1
          obtain ⟨k1, v1, rfl, hv1, r1⟩ := h1.ok_elim HX1.out
          obtain rfl : v1 = .int .i64 0 := hv1
          go_wp2_with fail
          refine (fail_any _ _ _).mono ?_
          rintro en w2 ⟨rfl, rfl⟩
          exact ⟨rfl, Out.wrong HX.out k1⟩
        · have HX := Lib.hid (show pAlign width l e p = .ok 0 q by rw [hX, if_neg (by simp; omega)]; rfl)
          have hd : decide (width < 1) = false := by simpa using hw2
          clear hX
          go_enter Tryz.func257, Tryz.ntmps257
          go_wp2_with fail
          refine HU.out.mono ?_
          rintro en w1 h1
          obtain ⟨k1, v1, rfl, hv1, r1⟩ := h1.ok_elim HX1.out
          obtain rfl : v1 = .int .i64 0 := hv1
          go_wp2
          go_ret
          exact Out.good HX.out k1 rfl r1
      · by_cases hw2 : width < 2
        · have HX := Lib.hid (show pAlign width l e p = .bad 6 p by rw [hX, if_pos (.inr (by simpa using hw2))]; rfl)
          clear hX
          go_enter Tryz.func257, Tryz.ntmps257
          go_wp2_with fail
          refine HU.out.mono ?_
          rintro en w1 h1
          obtain ⟨k1, v1, rfl, hv1, r1⟩ := h1.ok_elim HX1.out
          obtain rfl : v1 = .int .i64 1 := hv1
          go_wp2_with fail
          refine (fail_any _ _ _).mono ?_
          rintro en w2 ⟨rfl, rfl⟩
          exact ⟨rfl, Out.wrong HX.out k1⟩
        · have HX := Lib.hid (show pAlign width l e p = .ok 1 q by rw [hX, if_neg (by simp; omega)]; rfl)
          have hd : decide (width < 2) = false := by simpa using hw2
          clear hX
          go_enter Tryz.func257, Tryz.ntmps257
          go_wp2_with fail
          refine HU.out.mono ?_
          rintro en w1 h1
          obtain ⟨k1, v1, rfl, hv1, r1⟩ := h1.ok_elim HX1.out
          obtain rfl : v1 = .int .i64 1 := hv1
          go_wp2
          go_ret
          exact Out.good HX.out k1 rfl r1
      · by_cases hw2 : width < 4
        · have HX := Lib.hid (show pAlign width l e p = .bad 6 p by rw [hX, if_pos (.inr (by simpa using hw2))]; rfl)
          clear hX
          go_enter Tryz.func257, Tryz.ntmps257
          go_wp2_with fail
          refine HU.out.mono ?_
          rintro en w1 h1
          obtain ⟨k1, v1, rfl, hv1, r1⟩ := h1.ok_elim HX1.out
          obtain rfl : v1 = .int .i64 2 := hv1
          go_wp2_with fail
          refine (fail_any _ _ _).mono ?_
          rintro en w2 ⟨rfl, rfl⟩
          exact ⟨rfl, Out.wrong HX.out k1⟩
        · have HX := Lib.hid (show pAlign width l e p = .ok 2 q by rw [hX, if_neg (by simp; omega)]; rfl)
          have hd : decide (width < 4) = false := by simpa using hw2
          clear hX
          go_enter Tryz.func257, Tryz.ntmps257
          go_wp2_with fail
          refine HU.out.mono ?_
          rintro en w1 h1
          obtain ⟨k1, v1, rfl, hv1, r1⟩ := h1.ok_elim HX1.out
          obtain rfl : v1 = .int .i64 2 := hv1
          go_wp2
          go_ret
          exact Out.good HX.out k1 rfl r1
      · by_cases hw2 : width < 8
        · have HX := Lib.hid (show pAlign width l e p = .bad 6 p by rw [hX, if_pos (.inr (by simpa using hw2))]; rfl)
          clear hX
          go_enter Tryz.func257, Tryz.ntmps257
          go_wp2_with fail
          refine HU.out.mono ?_
          rintro en w1 h1
          obtain ⟨k1, v1, rfl, hv1, r1⟩ := h1.ok_elim HX1.out
          obtain rfl : v1 = .int .i64 3 := hv1
          go_wp2_with fail
          refine (fail_any _ _ _).mono ?_
          rintro en w2 ⟨rfl, rfl⟩
          exact ⟨rfl, Out.wrong HX.out k1⟩
        · have HX := Lib.hid (show pAlign width l e p = .ok 3 q by rw [hX, if_neg (by simp; omega)]; rfl)
          have hd : decide (width < 8) = false := by simpa using hw2
          clear hX
          go_enter Tryz.func257, Tryz.ntmps257
          go_wp2_with fail
          refine HU.out.mono ?_
          rintro en w1 h1
          obtain ⟨k1, v1, rfl, hv1, r1⟩ := h1.ok_elim HX1.out
          obtain rfl : v1 = .int .i64 3 := hv1
          go_wp2
          go_ret
          exact Out.good HX.out k1 rfl r1

set_option maxRecDepth 100000 in
theorem targets_any (c : CC w0 ao cap l ta tc types) (r k e p ops : Nat) (w : World) (h : Cr w0 ao cap l ta tc types r k e p ops w) :
    Calls Tryz.prog 249 #[.pointer (some ⟨k, 0, none⟩)] w (Out (· = r) w0 ao cap l r e w (VR 1 gI w.heap.size) (pTargets l e p)) := by
  have HL := list_us c.ctx r e p w h.rr 64 (by decide) (fun q w' h' => u_any c.ctx r e q w' h')
  have a0 := h.blk.c0
  have hr := h.rr.blk.lt
  have HC := Lib.hid c
  have HH := Lib.hid h
  cases hx : pList 64 pU l e p with
  | bad why a =>
    have HX := Lib.hid (show pTargets l e p = .bad why a from P.bind_bad hx)
    have HX1 := Lib.hid hx
    have HL := Lib.hid HL
    clear hx h c
    go_enter Tryz.func249, Tryz.ntmps249
    go_wp2_with fail
    refine HL.out.mono ?_
    rintro en w1 h1
    obtain ⟨k1, rfl⟩ := h1.bad_elim HX1.out
    exact ⟨rfl, Out.wrong HX.out k1⟩
  | ok ts q =>
    have HX1 := Lib.hid hx
    have HL := Lib.hid HL
    have hts := list_len (fun k => (c.ctx.bd k).1) h.rr.hp h.rr.he hx
    cases hx2 : pU l e q with
    | bad why a =>
      have HX := Lib.hid (show pTargets l e p = .bad why a from (P.bind_ok hx).trans (P.bind_bad hx2))
      have HX2 := Lib.hid hx2
      clear hx hx2 h c
      go_enter Tryz.func249, Tryz.ntmps249
      go_wp2_with fail
      refine HL.out.mono ?_
      rintro en w1 h1
      obtain ⟨k1, v1, rfl, hv1, r1⟩ := h1.ok_elim HX1.out
      have a1 := (HH.out.go k1 r1).blk.c0
      go_wp2_with fail
      refine (u_any HC.out.ctx r e q _ r1).mono ?_
      rintro en w2 h2
      obtain ⟨k2, rfl⟩ := h2.bad_elim HX2.out
      exact ⟨rfl, Out.wrong HX.out (k1.trans k2)⟩
    | ok t q2 =>
      have HX := Lib.hid (show pTargets l e p = .ok (ts ++ [t]) q2 from (P.bind_ok hx).trans ((P.bind_ok hx2).trans rfl))
      have HX2 := Lib.hid hx2
      clear hx hx2 h c
      go_enter Tryz.func249, Tryz.ntmps249
      go_wp2_with fail
      refine HL.out.mono ?_
      rintro en w1 h1
      obtain ⟨k1, v1, rfl, hv1, r1⟩ := h1.ok_elim HX1.out
      have a1 := (HH.out.go k1 r1).blk.c0
      go_wp2_with fail
      refine (u_any HC.out.ctx r e q _ r1).mono ?_
      rintro en w2 h2
      obtain ⟨k2, v2, rfl, hv2, r2⟩ := h2.ok_elim HX2.out
      obtain rfl : v2 = .int .i64 t := hv2
      have ho := wi_Own_keep hv1 k2 (fun i h1 h2 e => by omega)
      obtain ⟨vo, vc, rfl, hvl, _⟩ := ho.rd.data
      have HO := Lib.hid ho
      have hsz : w.heap.size ≤ w2.heap.size := (k1.trans k2).size
      have HSZ := Lib.hid hsz
      have K2 := Lib.hid (k1.trans k2)
      have R2 := Lib.hid r2
      have hlt : ts.length + 1 ≤ 4398046511104 := by omega
      have HLN := Lib.hid hlt
      clear ho hv1 k1 k2 r1 r2 hsz h1 h2 hlt
      go_wp2_with (at_builtin; refine wi.wpList_append_byte (w0 := w2) _ _ rfl rfl rfl HO.out t rfl HLN.out HSZ.out (Below.refl _ _) ?_; intro v' w' ho hb)
      go_ret
      exact Out.good HX.out (K2.out.down hb) (own_is ho) (R2.out.down hb hr)

theorem leftOut_any (op : Int) (w : World) : Calls Tryz.prog 258 #[.int .i64 op] w fun e w' => e = .returned (.bool (leftOut op)) ∧ w = w' := by
  by_cases h1 : op = 17 ∨ op = 42 ∨ op = 43 ∨ op = 56 ∨ op = 57 ∨ op = 67 ∨ op = 68
  · rcases h1 with rfl | rfl | rfl | rfl | rfl | rfl | rfl
    all_goals
      go_enter Tryz.func258, Tryz.ntmps258
      go_wp2
      go_ret
      exact ⟨rfl, rfl⟩
  · have e1 : (op == 17) = false := by simp; omega
    have e2 : (op == 42) = false := by simp; omega
    have e3 : (op == 43) = false := by simp; omega
    have e4 : (op == 56) = false := by simp; omega
    have e5 : (op == 57) = false := by simp; omega
    have e6 : (op == 67) = false := by simp; omega
    have e7 : (op == 68) = false := by simp; omega
    have hl : leftOut op = ((decide (91 ≤ op) && decide (op ≤ 102)) || (decide (139 ≤ op) && decide (op ≤ 166)) || (decide (168 ≤ op) && decide (op ≤ 171)) || (decide (174 ≤ op) && decide (op ≤ 191))) := by
      unfold leftOut
      have : [17, 42, 43, 56, 57, 67, 68].contains op = false := by simp; omega
      rw [this]; simp
    rw [hl]
    clear hl h1
    go_enter Tryz.func258, Tryz.ntmps258
    go_wp2
    all_goals
      go_ret
      refine ⟨?_, rfl⟩
      show Ending.returned (Value.bool _) = Ending.returned (Value.bool _)
      first | rfl | (congr 2; first | done | (rw [Bool.eq_iff_iff]; simp; omega))
end
end Go.Proofs.YtgcmdnkmnghhaaaGreatDoor.wm
