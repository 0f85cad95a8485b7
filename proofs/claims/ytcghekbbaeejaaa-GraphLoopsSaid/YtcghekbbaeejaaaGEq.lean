/- Are these the same numbers. -/
import Derived.Test.YtcghekbbaeejaaaGTell
set_option linter.unusedVariables false
set_option linter.unusedSimpArgs false
namespace Go.Proofs.Ytcghekbbaeejaaa.gr
open Go.RowKit

theorem take_eq_succ {α : Type} {l1 l2 : List α} {i : Nat} (h1 : i < l1.length) (h2 : i < l2.length) : l1.take (i + 1) = l2.take (i + 1) ↔ l1.take i = l2.take i ∧ l1[i] = l2[i] := by
  rw [List.take_succ_eq_append_getElem h1, List.take_succ_eq_append_getElem h2]
  constructor
  · intro h
    have := List.append_inj h (by simp [List.length_take]; omega)
    exact ⟨this.1, by simpa using this.2⟩
  · rintro ⟨h, e⟩; rw [h, e]
theorem ne_of_get {α : Type} {l1 l2 : List α} {i : Nat} (h1 : i < l1.length) (h2 : i < l2.length) (h : l1[i] ≠ l2[i]) : l1 ≠ l2 := fun e => by subst e; exact h rfl

set_option maxRecDepth 100000 in
set_option maxHeartbeats 1000000 in
theorem ints_any (v1 v2 : Value) (l1 l2 : List Int) (w : World) (h1 : gi.Rd w v1 l1) (h2 : gi.Rd w v2 l2) (hl : l1.length ≤ 1048576) :
    Calls Try.prog 16 #[v1, v2] w fun e w' => e = .returned (.bool (decide (l1 = l2))) ∧ Below w.heap.size w w' := by
  obtain ⟨a1, k1, rfl, hc1, _, hd1⟩ := h1
  obtain ⟨a2, k2, rfl, hc2, _, hd2⟩ := h2
  by_cases hlen : l1.length = l2.length
  · have hne : ((l1.length : Int) != (l2.length : Int)) = false := by rw [bne_eq_false_iff_eq]; omega
    have HLen := Lib.hid hlen
    have H1 := Lib.hid hd1
    have H2 := Lib.hid hd2
    have HC1 := Lib.hid hc1
    have HC2 := Lib.hid hc2
    clear hlen hd1 hd2 hc1 hc2
    go_enter Try.func16, Try.ntmps16
    go_wp2
    go_loopw [5] (fun y wr => ∃ i : Nat, y = .int .i64 i ∧ i ≤ l1.length ∧ Hid (l1.take i = l2.take i) ∧ Hid (Below w.heap.size w wr)) (fun y _ => l1.length - (intOf y).toNat)
    case atStart => exact ⟨0, rfl, Nat.zero_le _, Lib.hid rfl, Lib.hid (Below.refl _ _)⟩
    case round =>
      obtain ⟨i, rfl, hi, HT, HB⟩ := hrel
      by_cases hlt : i < l1.length
      · have hlt2 : i < l2.length := by have := HLen.out; omega
        rcases H1.out with e | ⟨b1, o1, rfl, hg1⟩
        · subst e; simp at hlt
        rcases H2.out with e | ⟨b2, o2, rfl, hg2⟩
        · subst e; simp at hlt2
        have g1 := hg1 i hlt
        have g2 := hg2 i hlt2
        rw [← HB.out.cell (p := ⟨b1, o1 + i, none⟩) (World.block_lt_of_cell? w _ g1)] at g1
        rw [← HB.out.cell (p := ⟨b2, o2 + i, none⟩) (World.block_lt_of_cell? w _ g2)] at g2
        rw [List.getD_eq_getElem?_getD, List.getElem?_eq_getElem hlt] at g1
        rw [List.getD_eq_getElem?_getD, List.getElem?_eq_getElem hlt2] at g2
        change wr.cell? ⟨b1, o1 + i, none⟩ = some (.int .i64 l1[i]) at g1
        change wr.cell? ⟨b2, o2 + i, none⟩ = some (.int .i64 l2[i]) at g2
        have hilt : (i : Int) < l1.length := by omega
        have hilt2 : (i : Int) < l2.length := by omega
        have hi0 : (0 : Int) ≤ (i : Int) := Int.natCast_nonneg _
        have hcap1 := HC1.out
        have hcap2 := HC2.out
        have hT := take_eq_succ hlt hlt2
        have hN := fun h => ne_of_get hlt hlt2 h
        clear hg1 hg2
        by_cases hx : l1[i] = l2[i]
        · have hxe : (l1[i] != l2[i]) = false := by rw [bne_eq_false_iff_eq]; exact hx
          have HT2 := Lib.hid (hT.2 ⟨HT.out, hx⟩)
          clear hT hN hx HT
          generalize l1[i] = x at g1 hxe
          generalize l2[i] = y at g2 hxe
          go_wp2
          go_quiet (fail)
          go_wp2
          go_roundw
          case rel => exact ⟨i + 1, by go_num, by omega, HT2, Lib.hid (HB.out.trans (belowN _ _))⟩
          case measure => simp [intOf]; omega
        · have hxe : (l1[i] != l2[i]) = true := by rw [bne_iff_ne]; exact hx
          have HN := Lib.hid (hN hx)
          clear hT hN hx HT
          generalize l1[i] = x at g1 hxe
          generalize l2[i] = y at g2 hxe
          go_wp2
          go_quiet (fail)
          go_wp2
          go_ret
          exact ⟨by rw [decide_eq_false HN.out]; rfl, HB.out.trans (belowN _ _)⟩
      · obtain rfl : i = l1.length := by omega
        have HT2 : Hid (l1 = l2) := by
          have h := HT.out
          rw [List.take_of_length_le (Nat.le_refl _), List.take_of_length_le (Nat.le_of_eq HLen.out.symm)] at h
          exact Lib.hid h
        clear HT
        go_wp2
        go_ret
        exact ⟨by rw [decide_eq_true HT2.out]; rfl, HB.out⟩
  · have hne : ((l1.length : Int) != (l2.length : Int)) = true := by rw [bne_iff_ne]; omega
    have HN : Hid (l1 ≠ l2) := fun e => hlen (by rw [e])
    clear hlen hd1 hd2
    go_enter Try.func16, Try.ntmps16
    go_wp2
    go_ret
    exact ⟨by rw [decide_eq_false HN]; rfl, Below.refl _ _⟩
end Go.Proofs.Ytcghekbbaeejaaa.gr
