/- The document's Total and Commutes; two lists of numbers told to be the same. -/
import Derived.Test.YtmikhbpffmojhaaDoorNumSig
set_option linter.unusedVariables false
namespace Go.Proofs.YtmikhbpffmojhaaDoor.nm
open Go.RowKit

theorem tot_eq (op : Int) : totT op = ((ofT op != 0) && !inB op 109 112 && !inB op 127 130) := by
  cases h : runAt op with
  | none =>
    unfold totT; rw [h, of_none h]; rfl
  | some r =>
    obtain ⟨hm, h1, h2⟩ := runAt_spec h
    obtain ⟨_, _, _, hof, _, _⟩ := run_facts r hm
    have e := (of_run h).1
    have hP : (109 ≤ op - r.first + r.like ∧ op - r.first + r.like ≤ 112) ↔ ((109 ≤ op ∧ op ≤ 112) ∨ (127 ≤ op ∧ op ≤ 130)) := by
      rcases run_cases hm with rfl | rfl | rfl | rfl | rfl | rfl | rfl | rfl | rfl | rfl | rfl | rfl
      all_goals
        simp only [Rn.first, Rn.last, Rn.like] at h1 h2 ⊢
        omega
    have h0 : (r.of != 0) = true := by rcases hof with h | h <;> rw [h] <;> rfl
    unfold totT; rw [h, e, h0]
    simp only
    clear h hm hof e h0 h1 h2
    generalize op - r.first + r.like = k at hP ⊢
    unfold inB
    rw [Bool.eq_iff_iff]
    simp
    omega

def cmB (op : Int) : Bool := op == 106 || op == 108 || op == 124 || op == 126 || inB op 113 115 || inB op 131 133 || op == 70 || op == 71 || op == 81 || op == 82
theorem comm_eq (op : Int) : commT op = cmB op := by
  cases h : runAt op with
  | none =>
    have ho := of_none h
    unfold commT; rw [h]
    simp only
    unfold ofT c127 c126 at ho
    unfold cmB inB at *
    by_cases h1 : ((decide (69 ≤ op) && decide (op ≤ 79)) || (decide (103 ≤ op) && decide (op ≤ 120)) || op == 172 || op == 173 || op == 192 || op == 193) = true
    · rw [if_pos h1] at ho; cases ho
    · rw [if_neg h1] at ho
      by_cases h2 : ((decide (80 ≤ op) && decide (op ≤ 90)) || (decide (121 ≤ op) && decide (op ≤ 138)) || op == 167 || (decide (194 ≤ op) && decide (op ≤ 196))) = true
      · rw [if_pos h2] at ho; cases ho
      · symm
        rw [Bool.eq_false_iff]
        intro hc
        simp at h1 h2 hc
        omega
  | some r =>
    obtain ⟨hm, h1, h2⟩ := runAt_spec h
    unfold commT; rw [h]
    simp only
    unfold cmB commK inB
    rcases run_cases hm with rfl | rfl | rfl | rfl | rfl | rfl | rfl | rfl | rfl | rfl | rfl | rfl
    all_goals
      simp only [Rn.first, Rn.last, Rn.like] at h1 h2 ⊢
      rw [Bool.eq_iff_iff]
      simp
      omega

set_option maxHeartbeats 2000000 in
theorem refTotal_any (op : Int) (w : World) : Same 14 #[.int .i64 op] w (.bool (totT op)) := by
  unfold Same
  rw [tot_eq]
  have HO := Lib.hid (fun w' => of_any op w')
  have HI := Lib.hid (fun a b w' => in_any op a b w')
  generalize inB op = I at HI ⊢
  generalize ofT op = t at HO ⊢
  generalize h1 : (t != 0) = b1
  generalize h2 : I 109 112 = b2
  generalize h3 : I 127 130 = b3
  cases b1 with
  | false =>
    go_enter Tryd.func14, Tryd.ntmps14
    go_wp2_with (first
      | (go_at_call 25; refine (HO.out _).mono ?_; rintro e w' ⟨rfl, rfl⟩)
      | (go_at_call 27; refine (HI.out _ _ _).mono ?_; rintro e w' ⟨rfl, rfl⟩))
    go_ret
    exact ⟨rfl, rfl⟩
  | true =>
    cases b2 with
    | true =>
      go_enter Tryd.func14, Tryd.ntmps14
      go_wp2_with (first
        | (go_at_call 25; refine (HO.out _).mono ?_; rintro e w' ⟨rfl, rfl⟩)
        | (go_at_call 27; refine (HI.out _ _ _).mono ?_; rintro e w' ⟨rfl, rfl⟩))
      go_ret
      exact ⟨rfl, rfl⟩
    | false =>
      cases b3 with
      | true =>
        go_enter Tryd.func14, Tryd.ntmps14
        go_wp2_with (first
          | (go_at_call 25; refine (HO.out _).mono ?_; rintro e w' ⟨rfl, rfl⟩)
          | (go_at_call 27; refine (HI.out _ _ _).mono ?_; rintro e w' ⟨rfl, rfl⟩))
        go_ret
        exact ⟨rfl, rfl⟩
      | false =>
        go_enter Tryd.func14, Tryd.ntmps14
        go_wp2_with (first
          | (go_at_call 25; refine (HO.out _).mono ?_; rintro e w' ⟨rfl, rfl⟩)
          | (go_at_call 27; refine (HI.out _ _ _).mono ?_; rintro e w' ⟨rfl, rfl⟩))
        go_ret
        exact ⟨rfl, rfl⟩

set_option maxHeartbeats 4000000 in
theorem refCommutes_any (op : Int) (w : World) : Same 16 #[.int .i64 op] w (.bool (commT op)) := by
  unfold Same
  rw [comm_eq]
  have HI := Lib.hid (fun a b w' => in_any op a b w')
  unfold cmB
  generalize inB op = I at HI ⊢
  generalize h0 : (op == 106) = b0
  generalize h1 : (op == 108) = b1
  generalize h2 : (op == 124) = b2
  generalize h3 : (op == 126) = b3
  generalize h4 : I 113 115 = b4
  generalize h5 : I 131 133 = b5
  generalize h6 : (op == 70) = b6
  generalize h7 : (op == 71) = b7
  generalize h8 : (op == 81) = b8
  generalize h9 : (op == 82) = b9
  cases b0 with
  | true =>
    go_enter Tryd.func16, Tryd.ntmps16
    go_wp2_with (first
      | (go_at_call 27; refine (HI.out _ _ _).mono ?_; rintro e w' ⟨rfl, rfl⟩))
    go_ret
    exact ⟨rfl, rfl⟩
  | false =>
    cases b1 with
    | true =>
      go_enter Tryd.func16, Tryd.ntmps16
      go_wp2_with (first
        | (go_at_call 27; refine (HI.out _ _ _).mono ?_; rintro e w' ⟨rfl, rfl⟩))
      go_ret
      exact ⟨rfl, rfl⟩
    | false =>
      cases b2 with
      | true =>
        go_enter Tryd.func16, Tryd.ntmps16
        go_wp2_with (first
          | (go_at_call 27; refine (HI.out _ _ _).mono ?_; rintro e w' ⟨rfl, rfl⟩))
        go_ret
        exact ⟨rfl, rfl⟩
      | false =>
        cases b3 with
        | true =>
          go_enter Tryd.func16, Tryd.ntmps16
          go_wp2_with (first
            | (go_at_call 27; refine (HI.out _ _ _).mono ?_; rintro e w' ⟨rfl, rfl⟩))
          go_ret
          exact ⟨rfl, rfl⟩
        | false =>
          cases b4 with
          | true =>
            go_enter Tryd.func16, Tryd.ntmps16
            go_wp2_with (first
              | (go_at_call 27; refine (HI.out _ _ _).mono ?_; rintro e w' ⟨rfl, rfl⟩))
            go_ret
            exact ⟨rfl, rfl⟩
          | false =>
            cases b5 with
            | true =>
              go_enter Tryd.func16, Tryd.ntmps16
              go_wp2_with (first
                | (go_at_call 27; refine (HI.out _ _ _).mono ?_; rintro e w' ⟨rfl, rfl⟩))
              go_ret
              exact ⟨rfl, rfl⟩
            | false =>
              cases b6 with
              | true =>
                go_enter Tryd.func16, Tryd.ntmps16
                go_wp2_with (first
                  | (go_at_call 27; refine (HI.out _ _ _).mono ?_; rintro e w' ⟨rfl, rfl⟩))
                go_ret
                exact ⟨rfl, rfl⟩
              | false =>
                cases b7 with
                | true =>
                  go_enter Tryd.func16, Tryd.ntmps16
                  go_wp2_with (first
                    | (go_at_call 27; refine (HI.out _ _ _).mono ?_; rintro e w' ⟨rfl, rfl⟩))
                  go_ret
                  exact ⟨rfl, rfl⟩
                | false =>
                  cases b8 with
                  | true =>
                    go_enter Tryd.func16, Tryd.ntmps16
                    go_wp2_with (first
                      | (go_at_call 27; refine (HI.out _ _ _).mono ?_; rintro e w' ⟨rfl, rfl⟩))
                    go_ret
                    exact ⟨rfl, rfl⟩
                  | false =>
                    cases b9 with
                    | true =>
                      go_enter Tryd.func16, Tryd.ntmps16
                      go_wp2_with (first
                        | (go_at_call 27; refine (HI.out _ _ _).mono ?_; rintro e w' ⟨rfl, rfl⟩))
                      go_ret
                      exact ⟨rfl, rfl⟩
                    | false =>
                      go_enter Tryd.func16, Tryd.ntmps16
                      go_wp2_with (first
                        | (go_at_call 27; refine (HI.out _ _ _).mono ?_; rintro e w' ⟨rfl, rfl⟩))
                      go_ret
                      exact ⟨rfl, rfl⟩

set_option maxHeartbeats 1000000 in
theorem same_any (v u : Value) (l : List Int) (w : World) (hv : Rd .i64 w v l) (hu : Rd .i64 w u l) (hl : l.length ≤ 1000000) : Tells 12 #[v, u] w (.bool true) := by
  unfold Tells
  obtain ⟨ao, cap, rfl, hcap, _, hc⟩ := hv
  obtain ⟨ao2, cap2, rfl, hcap2, _, hc2⟩ := hu
  have hne : ((l.length : Int) != (l.length : Int)) = false := by simp
  have hl1 : (l.length : Int) ≤ 1000000 := by omega
  clear hcap hcap2
  go_enter Tryd.func12, Tryd.ntmps12
  go_wp2
  go_loopw [13] (fun x wr => ∃ i : Nat, x = .int .i64 i ∧ i ≤ l.length ∧ ∃ m, wr = w.drewN m) (fun x _ => l.length - (intOf x).toNat)
  case atStart => exact ⟨0, rfl, by omega, 0, rfl⟩
  case round =>
    obtain ⟨i, rfl, hi, m, rfl⟩ := hrel
    by_cases hlt : i < l.length
    · rcases hc with rfl | ⟨b, off, rfl, hcell⟩
      · simp at hlt
      rcases hc2 with rfl | ⟨b2, off2, rfl, hcell2⟩
      · simp at hlt
      have c0 : (w.drewN m).cell? ⟨b, off + i, none⟩ = some (.int .i64 (l.getD i 0)) := hcell i hlt
      have c1 : (w.drewN m).cell? ⟨b2, off2 + i, none⟩ = some (.int .i64 (l.getD i 0)) := hcell2 i hlt
      clear hcell hcell2
      generalize l.getD i 0 = x at c0 c1
      have t0 : (0 : Int) ≤ i ∧ (i : Int) < l.length := by omega
      have t1 : (i : Int) ≤ 1000000 := by omega
      have n1 : (x != x) = false := by simp
      generalize hwb : w.drewN m = wb at c0 c1 ⊢
      have Hwb := Lib.hid hwb
      clear hwb
      go_wp2_with fail
      go_quiet (fail)
      go_wp2
      exact ⟨⟨i + 1, rfl, by omega, m + nq, by rw [← Hwb.out, World.drewN_drewN]⟩, by simp only [intOf]; omega⟩
    · have he : i = l.length := by omega
      subst he
      clear hc hc2
      go_wp2
      go_ret
      exact ⟨rfl, _, rfl⟩

end Go.Proofs.YtmikhbpffmojhaaDoor.nm
