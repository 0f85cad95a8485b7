/- The contract of the document's answer for the types of an operator. -/
import Derived.Test.YtmikhbpffmojhaaDoorRefB
set_option linter.unusedVariables false
namespace Go.Proofs.YtmikhbpffmojhaaDoor.nm
open Go.RowKit

/-- the types of what an operator takes, of what it answers, and whether there is one -/
def sigL (op : Int) : List Int := match runAt op with
  | none => []
  | some r => if r.takes = 1 then [r.of] else [r.of, r.of]
def sigO (op : Int) : Int := match runAt op with
  | none => 0
  | some r => r.answers
def sigB (op : Int) : Bool := (runAt op).isSome

theorem inB_t {op a b : Int} (h : a ≤ op ∧ op ≤ b) : inB op a b = true := by simp [inB, h]
theorem inB_f {op a b : Int} (h : op < a ∨ b < op) : inB op a b = false := by simp [inB]; omega

/-- of which type an operator is, and whether of one number, by its run -/
theorem of_run {op : Int} {r : Rn} (h : runAt op = some r) : ofT op = r.of ∧ unT op = decide (r.takes = 1) ∧
    r.answers = (if op == 172 || op == 173 then 126 else if inB op 69 90 || op == 167 then 127 else r.of) := by
  obtain ⟨hm, h1, h2⟩ := runAt_spec h
  have b : ∀ x : Int, op ≠ x → (op == x) = false := fun x hx => by simp [hx]
  rcases run_cases hm with rfl | rfl | rfl | rfl | rfl | rfl | rfl | rfl | rfl | rfl | rfl | rfl
  all_goals
    simp only [Rn.first, Rn.last] at h1 h2
    simp only [Rn.of, Rn.takes, Rn.answers]
    unfold ofT c127 c126 unT inB
    refine ⟨?_, ?_, ?_⟩
    all_goals (simp; try omega)

theorem of_none {op : Int} (h : runAt op = none) : ofT op = 0 := by
  have hn : ∀ r ∈ runsL, ¬ (r.first ≤ op ∧ op ≤ r.last) := by
    intro r hr ⟨h1, h2⟩
    have := List.find?_eq_none.1 h r hr
    simp [h1, h2] at this
  have a0 := hn ((69, 69, 69, 127, 1, 127) : Rn) (List.mem_of_getElem? (i := 0) rfl)
  have a1 := hn ((70, 79, 70, 127, 2, 127) : Rn) (List.mem_of_getElem? (i := 1) rfl)
  have a2 := hn ((80, 80, 69, 126, 1, 127) : Rn) (List.mem_of_getElem? (i := 2) rfl)
  have a3 := hn ((81, 90, 70, 126, 2, 127) : Rn) (List.mem_of_getElem? (i := 3) rfl)
  have a4 := hn ((103, 105, 103, 127, 1, 127) : Rn) (List.mem_of_getElem? (i := 4) rfl)
  have a5 := hn ((106, 120, 106, 127, 2, 127) : Rn) (List.mem_of_getElem? (i := 5) rfl)
  have a6 := hn ((121, 123, 103, 126, 1, 126) : Rn) (List.mem_of_getElem? (i := 6) rfl)
  have a7 := hn ((124, 138, 106, 126, 2, 126) : Rn) (List.mem_of_getElem? (i := 7) rfl)
  have a8 := hn ((167, 167, 167, 126, 1, 127) : Rn) (List.mem_of_getElem? (i := 8) rfl)
  have a9 := hn ((172, 173, 172, 127, 1, 126) : Rn) (List.mem_of_getElem? (i := 9) rfl)
  have a10 := hn ((192, 193, 192, 127, 1, 127) : Rn) (List.mem_of_getElem? (i := 10) rfl)
  have a11 := hn ((194, 196, 192, 126, 1, 126) : Rn) (List.mem_of_getElem? (i := 11) rfl)
  simp only [Rn.first, Rn.last] at a0 a1 a2 a3 a4 a5 a6 a7 a8 a9 a10 a11
  unfold ofT c127 c126 inB
  have n1 : ((decide (69 ≤ op) && decide (op ≤ 79)) || (decide (103 ≤ op) && decide (op ≤ 120)) || op == 172 || op == 173 || op == 192 || op == 193) = false := by
    simp; omega
  have n2 : ((decide (80 ≤ op) && decide (op ≤ 90)) || (decide (121 ≤ op) && decide (op ≤ 138)) || op == 167 || (decide (194 ≤ op) && decide (op ≤ 196))) = false := by
    simp; omega
  rw [n1, n2]; rfl

set_option maxHeartbeats 1000000 in
theorem refSig_none (op : Int) (w : World) (h : runAt op = none) :
    Calls Tryd.prog 11 #[.int .i64 op] w fun e w' => e = .returned (.tuple #[.slice none 0 0, .int .i64 0, .bool false]) ∧ w = w' := by
  have HO := Lib.hid (fun w' => of_none h ▸ of_any op w')
  clear h
  go_enter Tryd.func11, Tryd.ntmps11
  go_wp2_with (go_at_call 25; refine (HO.out _).mono ?_; rintro e w' ⟨rfl, rfl⟩)
  exact bodyPost_ret (v := .tuple #[.slice none 0 0, .int .i64 0, .bool false]) (by simp [results, Tryd.results11, go_sem]) rfl ⟨rfl, rfl⟩

set_option maxHeartbeats 4000000 in
/-- what the document's Sig answers of an operator that there is -/
theorem refSig_some (op : Int) (w : World) (r : Rn) (h : runAt op = some r) :
    Calls Tryd.prog 11 #[.int .i64 op] w fun e w' => e = .returned (.tuple #[.slice (some ⟨w.heap.size, 0, none⟩) (if r.takes = 1 then 1 else 2) 2, .int .i64 r.answers, .bool true]) ∧ w' = w.alloc (.cells #[.int .i64 r.of, .int .i64 r.of] 3) := by
  obtain ⟨e1, e2, e3⟩ := of_run h
  obtain ⟨hmem, _, _⟩ := runAt_spec h
  obtain ⟨_, _, _, h4, _, _⟩ := run_facts r hmem
  have HO := Lib.hid (fun w' => e1 ▸ of_any op w')
  have HU := Lib.hid (fun w' => e2 ▸ unary_any op w')
  have HI := Lib.hid (fun a b w' => in_any op a b w')
  have hz : (r.of == 0) = false := by rcases h4 with h | h <;> rw [h] <;> rfl
  rw [e3]
  clear e1 e2 e3 h hmem h4
  generalize inB op = I at HI ⊢
  generalize h1 : I 69 90 = b1
  generalize h2 : (op == 167) = b2
  generalize h3 : (op == 172) = b3
  generalize h4 : (op == 173) = b4
  generalize r.of = t at HO hz ⊢
  by_cases ht : r.takes = 1
  · rw [if_pos ht]
    have hd : decide (r.takes = 1) = true := decide_eq_true ht
    rw [hd] at HU
    clear ht hd
    cases b1 with
    | true =>
      cases b3 with
      | true =>
        go_enter Tryd.func11, Tryd.ntmps11
        go_wp2_with (first
          | (go_at_call 25; refine (HO.out _).mono ?_; rintro e w' ⟨rfl, rfl⟩)
          | (go_at_call 26; refine (HU.out _).mono ?_; rintro e w' ⟨rfl, rfl⟩)
          | (go_at_call 27; refine (HI.out _ _ _).mono ?_; rintro e w' ⟨rfl, rfl⟩))
        refine bodyPost_ret (v := .tuple #[.slice (some ⟨w.heap.size, 0, none⟩) _ 2, .int .i64 _, .bool true]) ?_ rfl ⟨rfl, rfl⟩
        simp [results, Tryd.results11, go_sem]
      | false =>
        cases b4 with
        | true =>
          go_enter Tryd.func11, Tryd.ntmps11
          go_wp2_with (first
            | (go_at_call 25; refine (HO.out _).mono ?_; rintro e w' ⟨rfl, rfl⟩)
            | (go_at_call 26; refine (HU.out _).mono ?_; rintro e w' ⟨rfl, rfl⟩)
            | (go_at_call 27; refine (HI.out _ _ _).mono ?_; rintro e w' ⟨rfl, rfl⟩))
          refine bodyPost_ret (v := .tuple #[.slice (some ⟨w.heap.size, 0, none⟩) _ 2, .int .i64 _, .bool true]) ?_ rfl ⟨rfl, rfl⟩
          simp [results, Tryd.results11, go_sem]
        | false =>
          go_enter Tryd.func11, Tryd.ntmps11
          go_wp2_with (first
            | (go_at_call 25; refine (HO.out _).mono ?_; rintro e w' ⟨rfl, rfl⟩)
            | (go_at_call 26; refine (HU.out _).mono ?_; rintro e w' ⟨rfl, rfl⟩)
            | (go_at_call 27; refine (HI.out _ _ _).mono ?_; rintro e w' ⟨rfl, rfl⟩))
          refine bodyPost_ret (v := .tuple #[.slice (some ⟨w.heap.size, 0, none⟩) _ 2, .int .i64 _, .bool true]) ?_ rfl ⟨rfl, rfl⟩
          simp [results, Tryd.results11, go_sem]
    | false =>
      cases b2 with
      | true =>
        cases b3 with
        | true =>
          go_enter Tryd.func11, Tryd.ntmps11
          go_wp2_with (first
            | (go_at_call 25; refine (HO.out _).mono ?_; rintro e w' ⟨rfl, rfl⟩)
            | (go_at_call 26; refine (HU.out _).mono ?_; rintro e w' ⟨rfl, rfl⟩)
            | (go_at_call 27; refine (HI.out _ _ _).mono ?_; rintro e w' ⟨rfl, rfl⟩))
          refine bodyPost_ret (v := .tuple #[.slice (some ⟨w.heap.size, 0, none⟩) _ 2, .int .i64 _, .bool true]) ?_ rfl ⟨rfl, rfl⟩
          simp [results, Tryd.results11, go_sem]
        | false =>
          cases b4 with
          | true =>
            go_enter Tryd.func11, Tryd.ntmps11
            go_wp2_with (first
              | (go_at_call 25; refine (HO.out _).mono ?_; rintro e w' ⟨rfl, rfl⟩)
              | (go_at_call 26; refine (HU.out _).mono ?_; rintro e w' ⟨rfl, rfl⟩)
              | (go_at_call 27; refine (HI.out _ _ _).mono ?_; rintro e w' ⟨rfl, rfl⟩))
            refine bodyPost_ret (v := .tuple #[.slice (some ⟨w.heap.size, 0, none⟩) _ 2, .int .i64 _, .bool true]) ?_ rfl ⟨rfl, rfl⟩
            simp [results, Tryd.results11, go_sem]
          | false =>
            go_enter Tryd.func11, Tryd.ntmps11
            go_wp2_with (first
              | (go_at_call 25; refine (HO.out _).mono ?_; rintro e w' ⟨rfl, rfl⟩)
              | (go_at_call 26; refine (HU.out _).mono ?_; rintro e w' ⟨rfl, rfl⟩)
              | (go_at_call 27; refine (HI.out _ _ _).mono ?_; rintro e w' ⟨rfl, rfl⟩))
            refine bodyPost_ret (v := .tuple #[.slice (some ⟨w.heap.size, 0, none⟩) _ 2, .int .i64 _, .bool true]) ?_ rfl ⟨rfl, rfl⟩
            simp [results, Tryd.results11, go_sem]
      | false =>
        cases b3 with
        | true =>
          go_enter Tryd.func11, Tryd.ntmps11
          go_wp2_with (first
            | (go_at_call 25; refine (HO.out _).mono ?_; rintro e w' ⟨rfl, rfl⟩)
            | (go_at_call 26; refine (HU.out _).mono ?_; rintro e w' ⟨rfl, rfl⟩)
            | (go_at_call 27; refine (HI.out _ _ _).mono ?_; rintro e w' ⟨rfl, rfl⟩))
          refine bodyPost_ret (v := .tuple #[.slice (some ⟨w.heap.size, 0, none⟩) _ 2, .int .i64 _, .bool true]) ?_ rfl ⟨rfl, rfl⟩
          simp [results, Tryd.results11, go_sem]
        | false =>
          cases b4 with
          | true =>
            go_enter Tryd.func11, Tryd.ntmps11
            go_wp2_with (first
              | (go_at_call 25; refine (HO.out _).mono ?_; rintro e w' ⟨rfl, rfl⟩)
              | (go_at_call 26; refine (HU.out _).mono ?_; rintro e w' ⟨rfl, rfl⟩)
              | (go_at_call 27; refine (HI.out _ _ _).mono ?_; rintro e w' ⟨rfl, rfl⟩))
            refine bodyPost_ret (v := .tuple #[.slice (some ⟨w.heap.size, 0, none⟩) _ 2, .int .i64 _, .bool true]) ?_ rfl ⟨rfl, rfl⟩
            simp [results, Tryd.results11, go_sem]
          | false =>
            go_enter Tryd.func11, Tryd.ntmps11
            go_wp2_with (first
              | (go_at_call 25; refine (HO.out _).mono ?_; rintro e w' ⟨rfl, rfl⟩)
              | (go_at_call 26; refine (HU.out _).mono ?_; rintro e w' ⟨rfl, rfl⟩)
              | (go_at_call 27; refine (HI.out _ _ _).mono ?_; rintro e w' ⟨rfl, rfl⟩))
            refine bodyPost_ret (v := .tuple #[.slice (some ⟨w.heap.size, 0, none⟩) _ 2, .int .i64 _, .bool true]) ?_ rfl ⟨rfl, rfl⟩
            simp [results, Tryd.results11, go_sem]
  · rw [if_neg ht]
    have hd : decide (r.takes = 1) = false := decide_eq_false ht
    rw [hd] at HU
    clear ht hd
    cases b1 with
    | true =>
      cases b3 with
      | true =>
        go_enter Tryd.func11, Tryd.ntmps11
        go_wp2_with (first
          | (go_at_call 25; refine (HO.out _).mono ?_; rintro e w' ⟨rfl, rfl⟩)
          | (go_at_call 26; refine (HU.out _).mono ?_; rintro e w' ⟨rfl, rfl⟩)
          | (go_at_call 27; refine (HI.out _ _ _).mono ?_; rintro e w' ⟨rfl, rfl⟩))
        refine bodyPost_ret (v := .tuple #[.slice (some ⟨w.heap.size, 0, none⟩) _ 2, .int .i64 _, .bool true]) ?_ rfl ⟨rfl, rfl⟩
        simp [results, Tryd.results11, go_sem]
      | false =>
        cases b4 with
        | true =>
          go_enter Tryd.func11, Tryd.ntmps11
          go_wp2_with (first
            | (go_at_call 25; refine (HO.out _).mono ?_; rintro e w' ⟨rfl, rfl⟩)
            | (go_at_call 26; refine (HU.out _).mono ?_; rintro e w' ⟨rfl, rfl⟩)
            | (go_at_call 27; refine (HI.out _ _ _).mono ?_; rintro e w' ⟨rfl, rfl⟩))
          refine bodyPost_ret (v := .tuple #[.slice (some ⟨w.heap.size, 0, none⟩) _ 2, .int .i64 _, .bool true]) ?_ rfl ⟨rfl, rfl⟩
          simp [results, Tryd.results11, go_sem]
        | false =>
          go_enter Tryd.func11, Tryd.ntmps11
          go_wp2_with (first
            | (go_at_call 25; refine (HO.out _).mono ?_; rintro e w' ⟨rfl, rfl⟩)
            | (go_at_call 26; refine (HU.out _).mono ?_; rintro e w' ⟨rfl, rfl⟩)
            | (go_at_call 27; refine (HI.out _ _ _).mono ?_; rintro e w' ⟨rfl, rfl⟩))
          refine bodyPost_ret (v := .tuple #[.slice (some ⟨w.heap.size, 0, none⟩) _ 2, .int .i64 _, .bool true]) ?_ rfl ⟨rfl, rfl⟩
          simp [results, Tryd.results11, go_sem]
    | false =>
      cases b2 with
      | true =>
        cases b3 with
        | true =>
          go_enter Tryd.func11, Tryd.ntmps11
          go_wp2_with (first
            | (go_at_call 25; refine (HO.out _).mono ?_; rintro e w' ⟨rfl, rfl⟩)
            | (go_at_call 26; refine (HU.out _).mono ?_; rintro e w' ⟨rfl, rfl⟩)
            | (go_at_call 27; refine (HI.out _ _ _).mono ?_; rintro e w' ⟨rfl, rfl⟩))
          refine bodyPost_ret (v := .tuple #[.slice (some ⟨w.heap.size, 0, none⟩) _ 2, .int .i64 _, .bool true]) ?_ rfl ⟨rfl, rfl⟩
          simp [results, Tryd.results11, go_sem]
        | false =>
          cases b4 with
          | true =>
            go_enter Tryd.func11, Tryd.ntmps11
            go_wp2_with (first
              | (go_at_call 25; refine (HO.out _).mono ?_; rintro e w' ⟨rfl, rfl⟩)
              | (go_at_call 26; refine (HU.out _).mono ?_; rintro e w' ⟨rfl, rfl⟩)
              | (go_at_call 27; refine (HI.out _ _ _).mono ?_; rintro e w' ⟨rfl, rfl⟩))
            refine bodyPost_ret (v := .tuple #[.slice (some ⟨w.heap.size, 0, none⟩) _ 2, .int .i64 _, .bool true]) ?_ rfl ⟨rfl, rfl⟩
            simp [results, Tryd.results11, go_sem]
          | false =>
            go_enter Tryd.func11, Tryd.ntmps11
            go_wp2_with (first
              | (go_at_call 25; refine (HO.out _).mono ?_; rintro e w' ⟨rfl, rfl⟩)
              | (go_at_call 26; refine (HU.out _).mono ?_; rintro e w' ⟨rfl, rfl⟩)
              | (go_at_call 27; refine (HI.out _ _ _).mono ?_; rintro e w' ⟨rfl, rfl⟩))
            refine bodyPost_ret (v := .tuple #[.slice (some ⟨w.heap.size, 0, none⟩) _ 2, .int .i64 _, .bool true]) ?_ rfl ⟨rfl, rfl⟩
            simp [results, Tryd.results11, go_sem]
      | false =>
        cases b3 with
        | true =>
          go_enter Tryd.func11, Tryd.ntmps11
          go_wp2_with (first
            | (go_at_call 25; refine (HO.out _).mono ?_; rintro e w' ⟨rfl, rfl⟩)
            | (go_at_call 26; refine (HU.out _).mono ?_; rintro e w' ⟨rfl, rfl⟩)
            | (go_at_call 27; refine (HI.out _ _ _).mono ?_; rintro e w' ⟨rfl, rfl⟩))
          refine bodyPost_ret (v := .tuple #[.slice (some ⟨w.heap.size, 0, none⟩) _ 2, .int .i64 _, .bool true]) ?_ rfl ⟨rfl, rfl⟩
          simp [results, Tryd.results11, go_sem]
        | false =>
          cases b4 with
          | true =>
            go_enter Tryd.func11, Tryd.ntmps11
            go_wp2_with (first
              | (go_at_call 25; refine (HO.out _).mono ?_; rintro e w' ⟨rfl, rfl⟩)
              | (go_at_call 26; refine (HU.out _).mono ?_; rintro e w' ⟨rfl, rfl⟩)
              | (go_at_call 27; refine (HI.out _ _ _).mono ?_; rintro e w' ⟨rfl, rfl⟩))
            refine bodyPost_ret (v := .tuple #[.slice (some ⟨w.heap.size, 0, none⟩) _ 2, .int .i64 _, .bool true]) ?_ rfl ⟨rfl, rfl⟩
            simp [results, Tryd.results11, go_sem]
          | false =>
            go_enter Tryd.func11, Tryd.ntmps11
            go_wp2_with (first
              | (go_at_call 25; refine (HO.out _).mono ?_; rintro e w' ⟨rfl, rfl⟩)
              | (go_at_call 26; refine (HU.out _).mono ?_; rintro e w' ⟨rfl, rfl⟩)
              | (go_at_call 27; refine (HI.out _ _ _).mono ?_; rintro e w' ⟨rfl, rfl⟩))
            refine bodyPost_ret (v := .tuple #[.slice (some ⟨w.heap.size, 0, none⟩) _ 2, .int .i64 _, .bool true]) ?_ rfl ⟨rfl, rfl⟩
            simp [results, Tryd.results11, go_sem]

end Go.Proofs.YtmikhbpffmojhaaDoor.nm
