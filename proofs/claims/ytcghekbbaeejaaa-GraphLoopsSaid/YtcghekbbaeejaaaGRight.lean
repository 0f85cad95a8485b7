/- May this be a graph: the program's answer, and the document's; are these the same numbers. -/
import Derived.Test.YtcghekbbaeejaaaGBase
set_option linter.unusedVariables false
namespace Go.Proofs.Ytcghekbbaeejaaa.gr
open Go.RowKit

def rowB (n : Nat) (t : List Int) : Bool := decide (t.length ≤ 128) && placesB n t
theorem right_false0 {L : List (List Int)} (h : L.length = 0) : rightB L = false := by unfold rightB; rw [h]; rfl
theorem right_false1 {L : List (List Int)} (h : 256 < L.length) : rightB L = false := by
  unfold rightB; rw [decide_eq_false (show ¬ L.length ≤ 256 by omega)]; simp
theorem right_all {L : List (List Int)} (h0 : 0 < L.length) (h : L.length ≤ 256) : rightB L = L.all (rowB L.length) := by
  unfold rightB; rw [decide_eq_true h0, decide_eq_true h]; rfl

set_option maxHeartbeats 2000000 in
theorem right_any (v : Value) (L : List (List Int)) (w : World) (h : RdG w v L) (hl : L.length ≤ 140737488351232) :
    Calls Try.prog 14 #[v] w fun e w' => e = .returned (.bool (rightB L)) ∧ w = w' := by
  obtain ⟨ao, cap, rfl, hc, _, hd⟩ := h
  by_cases h0 : L.length = 0
  · have HR := Lib.hid (right_false0 h0)
    have hz : ((L.length : Int) == 0) = true := by rw [beq_iff_eq]; omega
    clear h0
    go_enter Try.func14, Try.ntmps14
    go_wp2
    go_ret
    exact ⟨by rw [HR.out]; rfl, rfl⟩
  · have hz : ((L.length : Int) == 0) = false := by rw [beq_eq_false_iff_ne]; omega
    by_cases h1 : 256 < L.length
    · have HR := Lib.hid (right_false1 h1)
      have hg : (256 : Int) < L.length := by omega
      clear h0
      go_enter Try.func14, Try.ntmps14
      go_wp2
      go_ret
      exact ⟨by rw [HR.out]; rfl, rfl⟩
    · have HR := Lib.hid (right_all (L := L) (by omega) (by omega))
      have hg : ¬ (256 : Int) < L.length := by omega
      have hn : L.length ≤ 256 := by omega
      have HD := Lib.hid hd
      have HC := Lib.hid hc
      clear h0 h1 hd hc
      go_enter Try.func14, Try.ntmps14
      go_wp2
      go_loop [15] (fun y => ∃ i : Nat, y = .int .i64 i ∧ i ≤ L.length ∧ Hid ((L.take i).all (rowB L.length) = true)) (fun y => L.length - (intOf y).toNat)
      case atStart => exact ⟨0, rfl, Nat.zero_le _, Lib.hid rfl⟩
      case round =>
        obtain ⟨i, rfl, hi, HT⟩ := hrel
        by_cases hlt : i < L.length
        · rcases HD.out with e | ⟨b1, o1, rfl, hg1⟩
          · subst e; simp at hlt
          obtain ⟨u, g1, g2⟩ := hg1 i hlt
          rw [List.getD_eq_getElem?_getD, List.getElem?_eq_getElem hlt] at g2
          change gi.Rd w u L[i] at g2
          have hilt : (i : Int) < L.length := by omega
          have hcap := HC.out
          have hS := take_all_succ (rowB L.length) L i hlt
          have hF := all_false (rowB L.length) L i hlt
          clear hg1
          generalize L[i] = t at g2 hS hF
          have hq := g2
          obtain ⟨ao2, cap2, rfl, hc2, _, _⟩ := g2
          have HQ := Lib.hid hq
          clear hq hc2
          by_cases ht : t.length ≤ 128
          · have htg : ¬ (128 : Int) < t.length := by omega
            have HP := Lib.hid (fun w' v' h => allPlaces_any L.length v' t w' h (by omega))
            cases hx : placesB L.length t with
            | true =>
              rw [hx] at HP
              have HT2 : Hid ((L.take (i + 1)).all (rowB L.length) = true) := by
                show _ = true
                rw [hS, HT.out]; unfold rowB; rw [hx, decide_eq_true ht]; rfl
              clear hS hF HT hx
              go_wp2_with (go_at_call 28; refine (HP.out _ _ HQ.out).mono ?_; rintro e w1 ⟨rfl, rfl⟩)
              go_round
              case rel => exact ⟨i + 1, by go_num, by omega, HT2.out⟩
              case measure => simp [intOf]; omega
            | false =>
              rw [hx] at HP
              have HF := Lib.hid (hF (by unfold rowB; rw [hx]; simp))
              clear hS hF HT hx
              go_wp2_with (go_at_call 28; refine (HP.out _ _ HQ.out).mono ?_; rintro e w1 ⟨rfl, rfl⟩)
              go_ret
              exact ⟨by rw [HR.out, HF.out]; rfl, rfl⟩
          · have htg : (128 : Int) < t.length := by omega
            have HF := Lib.hid (hF (by unfold rowB; rw [decide_eq_false ht]; simp))
            clear hS hF HT
            go_wp2
            go_ret
            exact ⟨by rw [HR.out, HF.out]; rfl, rfl⟩
        · obtain rfl : i = L.length := by omega
          have HT2 : Hid (L.all (rowB L.length) = true) := by have := HT.out; rw [List.take_of_length_le (Nat.le_refl _)] at this; exact Lib.hid this
          clear HT
          go_wp2
          go_ret
          exact ⟨by rw [HR.out, HT2.out]; rfl, rfl⟩

set_option maxRecDepth 100000 in
set_option maxHeartbeats 4000000 in
/-- the document's -/
theorem refRight_any (v : Value) (L : List (List Int)) (w : World) (h : RdG w v L) (hl : L.length ≤ 140737488351232) :
    Calls Try.prog 15 #[v] w fun e w' => e = .returned (.bool (rightB L)) ∧ w = w' := by
  obtain ⟨ao, cap, rfl, hc, _, hd⟩ := h
  by_cases h0 : L.length = 0
  · have HR := Lib.hid (right_false0 h0)
    have hz : (L.length : Int) < 1 := by omega
    clear h0
    go_enter Try.func15, Try.ntmps15
    go_wp2
    go_ret
    exact ⟨by rw [HR.out]; rfl, rfl⟩
  · have hz : ¬ (L.length : Int) < 1 := by omega
    by_cases h1 : 256 < L.length
    · have HR := Lib.hid (right_false1 h1)
      have hg : (256 : Int) < L.length := by omega
      clear h0
      go_enter Try.func15, Try.ntmps15
      go_wp2
      go_ret
      exact ⟨by rw [HR.out]; rfl, rfl⟩
    · have HR := Lib.hid (right_all (L := L) (by omega) (by omega))
      have hg : ¬ (256 : Int) < L.length := by omega
      have hn : L.length ≤ 256 := by omega
      have HD := Lib.hid hd
      have HC := Lib.hid hc
      clear h0 h1 hd hc
      go_enter Try.func15, Try.ntmps15
      go_wp2
      go_loop [3] (fun y => ∃ i : Nat, y = .int .i64 i ∧ i ≤ L.length ∧ Hid ((L.take i).all (rowB L.length) = true)) (fun y => L.length - (intOf y).toNat)
      case atStart => exact ⟨0, rfl, Nat.zero_le _, Lib.hid rfl⟩
      case round =>
        obtain ⟨i, rfl, hi, HT⟩ := hrel
        by_cases hlt : i < L.length
        · rcases HD.out with e | ⟨b1, o1, rfl, hg1⟩
          · subst e; simp at hlt
          obtain ⟨u, g1, g2⟩ := hg1 i hlt
          rw [List.getD_eq_getElem?_getD, List.getElem?_eq_getElem hlt] at g2
          change gi.Rd w u L[i] at g2
          have hilt : (i : Int) < L.length := by omega
          have hcap := HC.out
          have hS := take_all_succ (rowB L.length) L i hlt
          have hF := all_false (rowB L.length) L i hlt
          clear hg1
          generalize L[i] = t at g2 hS hF
          obtain ⟨ao2, cap2, rfl, hc2, _, hd2⟩ := g2
          have HD2 := Lib.hid hd2
          have HC2 := Lib.hid hc2
          clear hd2 hc2
          by_cases ht : t.length ≤ 128
          · have htg : ¬ (128 : Int) < t.length := by omega
            have HS := Lib.hid hS
            have HF := Lib.hid hF
            clear hS hF
            go_wp2
            go_loop [4] (fun y => ∃ j : Nat, y = .int .i64 j ∧ j ≤ t.length ∧ Hid (placesB L.length (t.take j) = true)) (fun y => t.length - (intOf y).toNat)
            case atStart => exact ⟨0, rfl, Nat.zero_le _, Lib.hid (by simp [placesB])⟩
            case round =>
              obtain ⟨j, rfl, hj, HJ⟩ := hrel
              by_cases hjt : j < t.length
              · rcases HD2.out with e | ⟨b2, o2, rfl, hg2⟩
                · subst e; simp at hjt
                have g2 := hg2 j hjt
                rw [List.getD_eq_getElem?_getD, List.getElem?_eq_getElem hjt] at g2
                change w.cell? ⟨b2, o2 + j, none⟩ = some (.int .i64 t[j]) at g2
                have hjlt : (j : Int) < t.length := by omega
                have hcap2 := HC2.out
                have hS := take_all_succ (fun x => decide (0 ≤ x) && decide (x < (L.length : Int))) t j hjt
                have hFj := all_false (fun x => decide (0 ≤ x) && decide (x < (L.length : Int))) t j hjt
                clear hg2
                generalize t[j] = x at g2 hS hFj
                by_cases hx0 : 0 ≤ x
                · by_cases hx1 : x < L.length
                  · have HT2 : Hid (placesB L.length (t.take (j + 1)) = true) := by
                      show placesB L.length (t.take (j + 1)) = true
                      unfold placesB at HJ ⊢
                      rw [hS, HJ.out, decide_eq_true hx0, decide_eq_true hx1]; rfl
                    clear hS hFj HJ
                    go_wp2
                    go_round
                    case rel => exact ⟨j + 1, by go_num, by omega, HT2.out⟩
                    case measure => simp [intOf]; omega
                  · have HFF : Hid (placesB L.length t = false) := hFj (by rw [decide_eq_false hx1]; simp)
                    clear hS hFj HJ
                    go_wp2
                    go_ret
                    exact ⟨by rw [HR.out, HF.out (by unfold rowB; rw [HFF.out]; simp)]; rfl, rfl⟩
                · have HFF : Hid (placesB L.length t = false) := hFj (by rw [decide_eq_false hx0]; simp)
                  clear hS hFj HJ
                  go_wp2
                  go_ret
                  exact ⟨by rw [HR.out, HF.out (by unfold rowB; rw [HFF.out]; simp)]; rfl, rfl⟩
              · obtain rfl : j = t.length := by omega
                have HT2 : Hid ((L.take (i + 1)).all (rowB L.length) = true) := by
                  have hp : placesB L.length t = true := by have := HJ.out; rw [List.take_of_length_le (Nat.le_refl _)] at this; exact this
                  show _ = true
                  rw [HS.out, HT.out]; unfold rowB; rw [hp, decide_eq_true ht]; rfl
                clear HJ HT HS HF
                go_wp2
                go_round
                case rel => exact ⟨i + 1, by go_num, by omega, HT2.out⟩
                case measure => simp [intOf]; omega
          · have htg : (128 : Int) < t.length := by omega
            have HF := Lib.hid (hF (by unfold rowB; rw [decide_eq_false ht]; simp))
            clear hS hF HT
            go_wp2
            go_ret
            exact ⟨by rw [HR.out, HF.out]; rfl, rfl⟩
        · obtain rfl : i = L.length := by omega
          have HT2 : Hid (L.all (rowB L.length) = true) := by have := HT.out; rw [List.take_of_length_le (Nat.le_refl _)] at this; exact Lib.hid this
          clear HT
          go_wp2
          go_ret
          exact ⟨by rw [HR.out, HT2.out]; rfl, rfl⟩
end Go.Proofs.Ytcghekbbaeejaaa.gr
