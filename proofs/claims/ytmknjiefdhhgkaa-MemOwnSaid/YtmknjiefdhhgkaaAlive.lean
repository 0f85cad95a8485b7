/- The contract of alive: a signed byte is read, and a memory grows. -/
import Derived.Test.YtmknjiefdhhgkaaGrow
set_option linter.unusedVariables false
namespace Go.Proofs.Ytmknjiefdhhgkaa.mm
open Go.RowKit

theorem loadR_ex : loadR [200] 44 0 0 = (4294967240, 0) := by decide +kernel
theorem growR_ex : growR [] 512 2 = (List.replicate 512 0, 0) := by decide +kernel
theorem insB_ex : insB 512 500 12 = true := by decide +kernel

theorem inside_ex (v : Value) (w : World) (hv : Rd w v (List.replicate 512 0)) : Calls Try.prog 12 #[v, .int .u64 500, .int .u64 12] w fun r w' => r = .returned (.bool true) ∧ w = w' := by
  have h := Inside_any v (List.replicate 512 0) 500 12 w hv (by rw [List.length_replicate]; decide) (by decide) (by decide) (by decide) (by decide)
  rw [List.length_replicate, insB_ex] at h
  exact h

set_option maxHeartbeats 1000000 in
theorem alive_any (w : World) : Calls Try.prog 14 #[] w fun e w' => e = .returned (.bool true) ∧ Below w.heap.size w w' := by
  have HL := Lib.hid (fun v w' hv => loadR_ex ▸ Load_any v [200] 44 0 0 w' hv (by intro x hx; simp at hx; omega) (by decide) (by decide) (by decide))
  have HG := Lib.hid (fun w' => growR_ex ▸ Grow_any (.slice none 0 0) [] 512 2 w' (Rd.nil _) (by decide) (by decide) (by decide) (by decide) (by decide))
  have HI := Lib.hid (fun v w' hv => inside_ex v w' hv)
  go_enter Try.func14, Try.ntmps14
  go_wp2_with fail
  refine (HL.out _ _ (Rd.lit w [200])).mono ?_
  rintro e w1 ⟨rfl, hb1⟩
  go_wp2_with fail
  refine (HG.out _).mono ?_
  rintro e w2 ⟨v2, rfl, ho, hb2⟩
  obtain ⟨b2, c2, rfl, hb20, hb21, hc2⟩ := ho.row (by rw [List.length_replicate]; decide)
  have hrd := ho.rd
  simp only [List.length_replicate] at ho hrd hc2 ⊢
  have Hrd := Lib.hid hrd
  clear ho hrd
  go_wp2_with fail
  refine (HI.out _ _ Hrd.out).mono ?_
  rintro e w3 ⟨rfl, rfl⟩
  go_wp2
  go_ret
  exact ⟨rfl, bnext (bnext (made_below _ _) hb1) hb2⟩
end Go.Proofs.Ytmknjiefdhhgkaa.mm
