/- The contract of the document's own Grow. -/
import Derived.Test.YtmknjiefdhhgkaaZeros
set_option linter.unusedVariables false
namespace Go.Proofs.Ytmknjiefdhhgkaa.mm
open Go.RowKit

set_option maxHeartbeats 2000000 in
theorem refGrow_any (v : Value) (l : List Int) (most pages : Int) (w : World) (hv : Rd w v l) (hl : l.length ≤ 140737488351232) (p0 : 0 ≤ pages) (p1 : pages < 18446744073709551616) (m0 : -9223372036854775808 ≤ most) (m1 : most ≤ 9223372036854775807) :
    Calls Try.prog 21 #[v, .int .i64 most, .int .u64 pages] w fun e w' => ∃ v', e = .returned (.tuple #[v', .int .u64 (growR l most pages).2]) ∧ Own w' w.heap.size v' (growR l most pages).1 ∧ Below w.heap.size w w' := by
  have hv0 := hv
  obtain ⟨ao, cap, rfl, _⟩ := hv
  unfold growR
  by_cases h1 : pages ≤ 16
  · by_cases h2 : l.length % 256 = 0
    · have h2b : ((l.length : Int) % 256 != 0) = false := by rw [bne_eq_false_iff_eq]; omega
      by_cases h3 : (l.length : Int) + pages * 256 ≤ most ∧ (l.length : Int) + pages * 256 ≤ 4096
      · have hg : growB l.length most pages = true := by simp [growB, h1, h2, h3.1, h3.2]
        rw [hg]
        obtain ⟨h3a, h3b⟩ := h3
        have hki : pages * 256 = ((pages.toNat * 256 : Nat) : Int) := by omega
        have Hki := Lib.hid hki
        have hfit : l.length + pages.toNat * 256 ≤ 140737488355328 := by omega
        clear hg h2 hki
        by_cases h4 : 4096 < most
        · skip
          go_enter Try.func21, Try.ntmps21
          go_wp2_with (first | (at_builtin; refine wpList_append_zeros (.tmp 31) (.tmp 34) rfl rfl rfl hown (pages.toNat * 256) Hki.out rfl hfit hB2.size hB2 ?_; intro v3 w3 ho3 hB3) | (at_builtin; refine wpList_append_bytes (.const (.slice none 0 0)) (.tmp 9) rfl rfl rfl (Own.nil w w.heap.size) rfl hv0 (by simp; omega) (Nat.le_refl _) (Below.refl w.heap.size w) ?_; intro v2 w2 hown hB2; simp only [List.nil_append] at hown))
          go_ret2
          exact ⟨_, rfl, ho3, hB3⟩
        · skip
          go_enter Try.func21, Try.ntmps21
          go_wp2_with (first | (at_builtin; refine wpList_append_zeros (.tmp 31) (.tmp 34) rfl rfl rfl hown (pages.toNat * 256) Hki.out rfl hfit hB2.size hB2 ?_; intro v3 w3 ho3 hB3) | (at_builtin; refine wpList_append_bytes (.const (.slice none 0 0)) (.tmp 9) rfl rfl rfl (Own.nil w w.heap.size) rfl hv0 (by simp; omega) (Nat.le_refl _) (Below.refl w.heap.size w) ?_; intro v2 w2 hown hB2; simp only [List.nil_append] at hown))
          go_ret2
          exact ⟨_, rfl, ho3, hB3⟩
      · have hg : growB l.length most pages = false := by simp [growB, h1, h2]; omega
        rw [hg]
        clear hg h2
        by_cases h4 : 4096 < most
        · have h5 : 4096 < (l.length : Int) + pages * 256 := by omega
          clear h3
          go_enter Try.func21, Try.ntmps21
          go_wp2_with (at_builtin; refine wpList_append_bytes (.const (.slice none 0 0)) (.tmp 9) rfl rfl rfl (Own.nil w w.heap.size) rfl hv0 (by simp; omega) (Nat.le_refl _) (Below.refl w.heap.size w) ?_; intro v2 w2 hown hB2; simp only [List.nil_append] at hown)
          go_ret2
          exact ⟨_, rfl, hown, hB2⟩
        · have h5 : most < (l.length : Int) + pages * 256 := by omega
          clear h3
          go_enter Try.func21, Try.ntmps21
          go_wp2_with (at_builtin; refine wpList_append_bytes (.const (.slice none 0 0)) (.tmp 9) rfl rfl rfl (Own.nil w w.heap.size) rfl hv0 (by simp; omega) (Nat.le_refl _) (Below.refl w.heap.size w) ?_; intro v2 w2 hown hB2; simp only [List.nil_append] at hown)
          go_ret2
          exact ⟨_, rfl, hown, hB2⟩
    · have hg : growB l.length most pages = false := by simp [growB, h1, h2]
      have h2b : ((l.length : Int) % 256 != 0) = true := by rw [bne_iff_ne]; omega
      rw [hg]
      clear hg h2
      go_enter Try.func21, Try.ntmps21
      go_wp2_with (at_builtin; refine wpList_append_bytes (.const (.slice none 0 0)) (.tmp 9) rfl rfl rfl (Own.nil w w.heap.size) rfl hv0 (by simp; omega) (Nat.le_refl _) (Below.refl w.heap.size w) ?_; intro v2 w2 hown hB2; simp only [List.nil_append] at hown)
      go_ret2
      exact ⟨_, rfl, hown, hB2⟩
  · have hg : growB l.length most pages = false := by simp [growB, h1]
    rw [hg]
    clear hg
    by_cases h2 : l.length % 256 = 0
    · have h2b : ((l.length : Int) % 256 != 0) = false := by rw [bne_eq_false_iff_eq]; omega
      clear h2
      go_enter Try.func21, Try.ntmps21
      go_wp2_with (at_builtin; refine wpList_append_bytes (.const (.slice none 0 0)) (.tmp 9) rfl rfl rfl (Own.nil w w.heap.size) rfl hv0 (by simp; omega) (Nat.le_refl _) (Below.refl w.heap.size w) ?_; intro v2 w2 hown hB2; simp only [List.nil_append] at hown)
      go_ret2
      exact ⟨_, rfl, hown, hB2⟩
    · have h2b : ((l.length : Int) % 256 != 0) = true := by rw [bne_iff_ne]; omega
      clear h2
      go_enter Try.func21, Try.ntmps21
      go_wp2_with (at_builtin; refine wpList_append_bytes (.const (.slice none 0 0)) (.tmp 9) rfl rfl rfl (Own.nil w w.heap.size) rfl hv0 (by simp; omega) (Nat.le_refl _) (Below.refl w.heap.size w) ?_; intro v2 w2 hown hB2; simp only [List.nil_append] at hown)
      go_ret2
      exact ⟨_, rfl, hown, hB2⟩
end Go.Proofs.Ytmknjiefdhhgkaa.mm
