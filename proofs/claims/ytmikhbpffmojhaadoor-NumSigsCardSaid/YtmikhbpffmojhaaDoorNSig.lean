/- The contracts of num.Total and num.Commutes. -/
import Derived.Test.YtmikhbpffmojhaaDoorEvs
set_option linter.unusedVariables false
namespace Go.Proofs.YtmikhbpffmojhaaDoor.nm
open Go.RowKit

def commK (k : Int) : Bool := k == 70 || k == 71 || k == 106 || k == 108 || k == 113 || k == 114 || k == 115
def commT (op : Int) : Bool := match runAt op with
  | none => false
  | some r => commK (op - r.first + r.like)
def totT (op : Int) : Bool := match runAt op with
  | none => false
  | some r => !(decide (109 ≤ op - r.first + r.like) && decide (op - r.first + r.like ≤ 112))

theorem total_any (op : Int) (w : World) (R : Runs w) : Calls Tryd.prog 13 #[.int .i64 op] w fun e w' => e = .returned (.bool (totT op)) ∧ Below w.heap.size w w' := by
  cases h : runAt op with
  | none =>
    have e : totT op = false := by unfold totT; rw [h]
    rw [e]
    have HR := Lib.hid (runOf_none R h)
    clear h R e
    go_enter Tryd.func13, Tryd.ntmps13
    go_wp2_with (go_at_call 24; refine HR.out.mono ?_; rintro e w1 ⟨rfl, hb1⟩)
    go_ret
    exact ⟨rfl, bnextA hb1 _⟩
  | some r =>
    obtain ⟨hmem, ho1, ho2⟩ := runAt_spec h
    obtain ⟨f1, f2, f3, _, _, _⟩ := run_facts r hmem
    have e : totT op = !(decide (109 ≤ op - r.first + r.like) && decide (op - r.first + r.like ≤ 112)) := by unfold totT; rw [h]
    rw [e]
    have HR := Lib.hid (runOf_some R h)
    have HL := Lib.hid (fun w' => likeOf_any r op w' f1 f2 (by omega))
    clear h R e hmem ho1 ho2 f1 f2 f3
    generalize op - r.first + r.like = k at HL ⊢
    have HD := Lib.hid (fun w' => divides_any k w')
    generalize (decide (109 ≤ k) && decide (k ≤ 112)) = b at HD ⊢
    go_enter Tryd.func13, Tryd.ntmps13
    go_wp2_with (first
      | (go_at_call 24; refine HR.out.mono ?_; rintro e w1 ⟨rfl, hb1⟩)
      | (go_at_call 29; refine (HL.out _).mono ?_; rintro e w2 ⟨rfl, hb2⟩)
      | (go_at_call 28; refine (HD.out _).mono ?_; rintro e w3 ⟨rfl, m, rfl⟩))
    go_ret
    exact ⟨rfl, bnext (bnext (bnextA hb1 _) hb2) (belowN _ _)⟩

set_option maxHeartbeats 1000000 in
theorem commutes_any (op : Int) (w : World) (R : Runs w) : Calls Tryd.prog 15 #[.int .i64 op] w fun e w' => e = .returned (.bool (commT op)) ∧ Below w.heap.size w w' := by
  cases h : runAt op with
  | none =>
    have e : commT op = false := by unfold commT; rw [h]
    rw [e]
    have HR := Lib.hid (runOf_none R h)
    clear h R e
    go_enter Tryd.func15, Tryd.ntmps15
    go_wp2_with (go_at_call 24; refine HR.out.mono ?_; rintro e w1 ⟨rfl, hb1⟩)
    go_ret
    exact ⟨rfl, bnextA hb1 _⟩
  | some r =>
    obtain ⟨hmem, ho1, ho2⟩ := runAt_spec h
    obtain ⟨f1, f2, f3, _, _, _⟩ := run_facts r hmem
    have e : commT op = commK (op - r.first + r.like) := by unfold commT; rw [h]
    rw [e]
    have HR := Lib.hid (runOf_some R h)
    have HL := Lib.hid (fun w' => likeOf_any r op w' f1 f2 (by omega))
    clear h R e hmem ho1 ho2 f1 f2 f3
    generalize op - r.first + r.like = k at HL ⊢
    unfold commK
    generalize h0 : (k == 70) = b0
    generalize h1 : (k == 71) = b1
    generalize h2 : (k == 106) = b2
    generalize h3 : (k == 108) = b3
    generalize h4 : (k == 113) = b4
    generalize h5 : (k == 114) = b5
    generalize h6 : (k == 115) = b6
    cases b0 with
    | true =>
      go_enter Tryd.func15, Tryd.ntmps15
      go_wp2_with (first
        | (go_at_call 24; refine HR.out.mono ?_; rintro e w1 ⟨rfl, hb1⟩)
        | (go_at_call 29; refine (HL.out _).mono ?_; rintro e w2 ⟨rfl, hb2⟩))
      go_ret
      exact ⟨rfl, bnext (bnextA hb1 _) hb2⟩
    | false =>
      cases b1 with
      | true =>
        go_enter Tryd.func15, Tryd.ntmps15
        go_wp2_with (first
          | (go_at_call 24; refine HR.out.mono ?_; rintro e w1 ⟨rfl, hb1⟩)
          | (go_at_call 29; refine (HL.out _).mono ?_; rintro e w2 ⟨rfl, hb2⟩))
        go_ret
        exact ⟨rfl, bnext (bnextA hb1 _) hb2⟩
      | false =>
        cases b2 with
        | true =>
          go_enter Tryd.func15, Tryd.ntmps15
          go_wp2_with (first
            | (go_at_call 24; refine HR.out.mono ?_; rintro e w1 ⟨rfl, hb1⟩)
            | (go_at_call 29; refine (HL.out _).mono ?_; rintro e w2 ⟨rfl, hb2⟩))
          go_ret
          exact ⟨rfl, bnext (bnextA hb1 _) hb2⟩
        | false =>
          cases b3 with
          | true =>
            go_enter Tryd.func15, Tryd.ntmps15
            go_wp2_with (first
              | (go_at_call 24; refine HR.out.mono ?_; rintro e w1 ⟨rfl, hb1⟩)
              | (go_at_call 29; refine (HL.out _).mono ?_; rintro e w2 ⟨rfl, hb2⟩))
            go_ret
            exact ⟨rfl, bnext (bnextA hb1 _) hb2⟩
          | false =>
            cases b4 with
            | true =>
              go_enter Tryd.func15, Tryd.ntmps15
              go_wp2_with (first
                | (go_at_call 24; refine HR.out.mono ?_; rintro e w1 ⟨rfl, hb1⟩)
                | (go_at_call 29; refine (HL.out _).mono ?_; rintro e w2 ⟨rfl, hb2⟩))
              go_ret
              exact ⟨rfl, bnext (bnextA hb1 _) hb2⟩
            | false =>
              cases b5 with
              | true =>
                go_enter Tryd.func15, Tryd.ntmps15
                go_wp2_with (first
                  | (go_at_call 24; refine HR.out.mono ?_; rintro e w1 ⟨rfl, hb1⟩)
                  | (go_at_call 29; refine (HL.out _).mono ?_; rintro e w2 ⟨rfl, hb2⟩))
                go_ret
                exact ⟨rfl, bnext (bnextA hb1 _) hb2⟩
              | false =>
                cases b6 with
                | true =>
                  go_enter Tryd.func15, Tryd.ntmps15
                  go_wp2_with (first
                    | (go_at_call 24; refine HR.out.mono ?_; rintro e w1 ⟨rfl, hb1⟩)
                    | (go_at_call 29; refine (HL.out _).mono ?_; rintro e w2 ⟨rfl, hb2⟩))
                  go_ret
                  exact ⟨rfl, bnext (bnextA hb1 _) hb2⟩
                | false =>
                  go_enter Tryd.func15, Tryd.ntmps15
                  go_wp2_with (first
                    | (go_at_call 24; refine HR.out.mono ?_; rintro e w1 ⟨rfl, hb1⟩)
                    | (go_at_call 29; refine (HL.out _).mono ?_; rintro e w2 ⟨rfl, hb2⟩))
                  go_ret
                  exact ⟨rfl, bnext (bnextA hb1 _) hb2⟩

end Go.Proofs.YtmikhbpffmojhaaDoor.nm
