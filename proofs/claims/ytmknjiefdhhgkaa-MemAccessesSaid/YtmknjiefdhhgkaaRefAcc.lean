/- The contracts of the document's own Access and Signed. -/
import Derived.Test.YtmknjiefdhhgkaaGrow
set_option linter.unusedVariables false
namespace Go.Proofs.Ytmknjiefdhhgkaa.mm
open Go.RowKit

set_option maxHeartbeats 1000000 in
theorem refAccess_40 (w : World) : Calls Try.prog 11 #[.int .i64 40] w fun e w' => e = .returned (.tuple #[.int .i64 127, .int .i64 4, .bool false, .bool true]) ∧ w = w' := by
  go_enter Try.func11, Try.ntmps11
  go_wp2
  exact bodyPost_ret (v := .tuple #[.int .i64 127, .int .i64 4, .bool false, .bool true]) (by simp [results, Try.results11, go_sem]) rfl ⟨rfl, rfl⟩
set_option maxHeartbeats 1000000 in
theorem refAccess_41 (w : World) : Calls Try.prog 11 #[.int .i64 41] w fun e w' => e = .returned (.tuple #[.int .i64 126, .int .i64 8, .bool false, .bool true]) ∧ w = w' := by
  go_enter Try.func11, Try.ntmps11
  go_wp2
  exact bodyPost_ret (v := .tuple #[.int .i64 126, .int .i64 8, .bool false, .bool true]) (by simp [results, Try.results11, go_sem]) rfl ⟨rfl, rfl⟩
set_option maxHeartbeats 1000000 in
theorem refAccess_44 (w : World) : Calls Try.prog 11 #[.int .i64 44] w fun e w' => e = .returned (.tuple #[.int .i64 127, .int .i64 1, .bool false, .bool true]) ∧ w = w' := by
  go_enter Try.func11, Try.ntmps11
  go_wp2
  exact bodyPost_ret (v := .tuple #[.int .i64 127, .int .i64 1, .bool false, .bool true]) (by simp [results, Try.results11, go_sem]) rfl ⟨rfl, rfl⟩
set_option maxHeartbeats 1000000 in
theorem refAccess_45 (w : World) : Calls Try.prog 11 #[.int .i64 45] w fun e w' => e = .returned (.tuple #[.int .i64 127, .int .i64 1, .bool false, .bool true]) ∧ w = w' := by
  go_enter Try.func11, Try.ntmps11
  go_wp2
  exact bodyPost_ret (v := .tuple #[.int .i64 127, .int .i64 1, .bool false, .bool true]) (by simp [results, Try.results11, go_sem]) rfl ⟨rfl, rfl⟩
set_option maxHeartbeats 1000000 in
theorem refAccess_46 (w : World) : Calls Try.prog 11 #[.int .i64 46] w fun e w' => e = .returned (.tuple #[.int .i64 127, .int .i64 2, .bool false, .bool true]) ∧ w = w' := by
  go_enter Try.func11, Try.ntmps11
  go_wp2
  exact bodyPost_ret (v := .tuple #[.int .i64 127, .int .i64 2, .bool false, .bool true]) (by simp [results, Try.results11, go_sem]) rfl ⟨rfl, rfl⟩
set_option maxHeartbeats 1000000 in
theorem refAccess_47 (w : World) : Calls Try.prog 11 #[.int .i64 47] w fun e w' => e = .returned (.tuple #[.int .i64 127, .int .i64 2, .bool false, .bool true]) ∧ w = w' := by
  go_enter Try.func11, Try.ntmps11
  go_wp2
  exact bodyPost_ret (v := .tuple #[.int .i64 127, .int .i64 2, .bool false, .bool true]) (by simp [results, Try.results11, go_sem]) rfl ⟨rfl, rfl⟩
set_option maxHeartbeats 1000000 in
theorem refAccess_48 (w : World) : Calls Try.prog 11 #[.int .i64 48] w fun e w' => e = .returned (.tuple #[.int .i64 126, .int .i64 1, .bool false, .bool true]) ∧ w = w' := by
  go_enter Try.func11, Try.ntmps11
  go_wp2
  exact bodyPost_ret (v := .tuple #[.int .i64 126, .int .i64 1, .bool false, .bool true]) (by simp [results, Try.results11, go_sem]) rfl ⟨rfl, rfl⟩
set_option maxHeartbeats 1000000 in
theorem refAccess_49 (w : World) : Calls Try.prog 11 #[.int .i64 49] w fun e w' => e = .returned (.tuple #[.int .i64 126, .int .i64 1, .bool false, .bool true]) ∧ w = w' := by
  go_enter Try.func11, Try.ntmps11
  go_wp2
  exact bodyPost_ret (v := .tuple #[.int .i64 126, .int .i64 1, .bool false, .bool true]) (by simp [results, Try.results11, go_sem]) rfl ⟨rfl, rfl⟩
set_option maxHeartbeats 1000000 in
theorem refAccess_50 (w : World) : Calls Try.prog 11 #[.int .i64 50] w fun e w' => e = .returned (.tuple #[.int .i64 126, .int .i64 2, .bool false, .bool true]) ∧ w = w' := by
  go_enter Try.func11, Try.ntmps11
  go_wp2
  exact bodyPost_ret (v := .tuple #[.int .i64 126, .int .i64 2, .bool false, .bool true]) (by simp [results, Try.results11, go_sem]) rfl ⟨rfl, rfl⟩
set_option maxHeartbeats 1000000 in
theorem refAccess_51 (w : World) : Calls Try.prog 11 #[.int .i64 51] w fun e w' => e = .returned (.tuple #[.int .i64 126, .int .i64 2, .bool false, .bool true]) ∧ w = w' := by
  go_enter Try.func11, Try.ntmps11
  go_wp2
  exact bodyPost_ret (v := .tuple #[.int .i64 126, .int .i64 2, .bool false, .bool true]) (by simp [results, Try.results11, go_sem]) rfl ⟨rfl, rfl⟩
set_option maxHeartbeats 1000000 in
theorem refAccess_52 (w : World) : Calls Try.prog 11 #[.int .i64 52] w fun e w' => e = .returned (.tuple #[.int .i64 126, .int .i64 4, .bool false, .bool true]) ∧ w = w' := by
  go_enter Try.func11, Try.ntmps11
  go_wp2
  exact bodyPost_ret (v := .tuple #[.int .i64 126, .int .i64 4, .bool false, .bool true]) (by simp [results, Try.results11, go_sem]) rfl ⟨rfl, rfl⟩
set_option maxHeartbeats 1000000 in
theorem refAccess_53 (w : World) : Calls Try.prog 11 #[.int .i64 53] w fun e w' => e = .returned (.tuple #[.int .i64 126, .int .i64 4, .bool false, .bool true]) ∧ w = w' := by
  go_enter Try.func11, Try.ntmps11
  go_wp2
  exact bodyPost_ret (v := .tuple #[.int .i64 126, .int .i64 4, .bool false, .bool true]) (by simp [results, Try.results11, go_sem]) rfl ⟨rfl, rfl⟩
set_option maxHeartbeats 1000000 in
theorem refAccess_54 (w : World) : Calls Try.prog 11 #[.int .i64 54] w fun e w' => e = .returned (.tuple #[.int .i64 127, .int .i64 4, .bool true, .bool true]) ∧ w = w' := by
  go_enter Try.func11, Try.ntmps11
  go_wp2
  exact bodyPost_ret (v := .tuple #[.int .i64 127, .int .i64 4, .bool true, .bool true]) (by simp [results, Try.results11, go_sem]) rfl ⟨rfl, rfl⟩
set_option maxHeartbeats 1000000 in
theorem refAccess_55 (w : World) : Calls Try.prog 11 #[.int .i64 55] w fun e w' => e = .returned (.tuple #[.int .i64 126, .int .i64 8, .bool true, .bool true]) ∧ w = w' := by
  go_enter Try.func11, Try.ntmps11
  go_wp2
  exact bodyPost_ret (v := .tuple #[.int .i64 126, .int .i64 8, .bool true, .bool true]) (by simp [results, Try.results11, go_sem]) rfl ⟨rfl, rfl⟩
set_option maxHeartbeats 1000000 in
theorem refAccess_58 (w : World) : Calls Try.prog 11 #[.int .i64 58] w fun e w' => e = .returned (.tuple #[.int .i64 127, .int .i64 1, .bool true, .bool true]) ∧ w = w' := by
  go_enter Try.func11, Try.ntmps11
  go_wp2
  exact bodyPost_ret (v := .tuple #[.int .i64 127, .int .i64 1, .bool true, .bool true]) (by simp [results, Try.results11, go_sem]) rfl ⟨rfl, rfl⟩
set_option maxHeartbeats 1000000 in
theorem refAccess_59 (w : World) : Calls Try.prog 11 #[.int .i64 59] w fun e w' => e = .returned (.tuple #[.int .i64 127, .int .i64 2, .bool true, .bool true]) ∧ w = w' := by
  go_enter Try.func11, Try.ntmps11
  go_wp2
  exact bodyPost_ret (v := .tuple #[.int .i64 127, .int .i64 2, .bool true, .bool true]) (by simp [results, Try.results11, go_sem]) rfl ⟨rfl, rfl⟩
set_option maxHeartbeats 1000000 in
theorem refAccess_60 (w : World) : Calls Try.prog 11 #[.int .i64 60] w fun e w' => e = .returned (.tuple #[.int .i64 126, .int .i64 1, .bool true, .bool true]) ∧ w = w' := by
  go_enter Try.func11, Try.ntmps11
  go_wp2
  exact bodyPost_ret (v := .tuple #[.int .i64 126, .int .i64 1, .bool true, .bool true]) (by simp [results, Try.results11, go_sem]) rfl ⟨rfl, rfl⟩
set_option maxHeartbeats 1000000 in
theorem refAccess_61 (w : World) : Calls Try.prog 11 #[.int .i64 61] w fun e w' => e = .returned (.tuple #[.int .i64 126, .int .i64 2, .bool true, .bool true]) ∧ w = w' := by
  go_enter Try.func11, Try.ntmps11
  go_wp2
  exact bodyPost_ret (v := .tuple #[.int .i64 126, .int .i64 2, .bool true, .bool true]) (by simp [results, Try.results11, go_sem]) rfl ⟨rfl, rfl⟩
set_option maxHeartbeats 1000000 in
theorem refAccess_62 (w : World) : Calls Try.prog 11 #[.int .i64 62] w fun e w' => e = .returned (.tuple #[.int .i64 126, .int .i64 4, .bool true, .bool true]) ∧ w = w' := by
  go_enter Try.func11, Try.ntmps11
  go_wp2
  exact bodyPost_ret (v := .tuple #[.int .i64 126, .int .i64 4, .bool true, .bool true]) (by simp [results, Try.results11, go_sem]) rfl ⟨rfl, rfl⟩
theorem acc_none_ne {op : Int} (h : acc op = none) : ∀ p ∈ accL, (op == p.1) = false := by
  intro p hp
  rw [beq_eq_false_iff_ne]
  rintro rfl
  have := (accL_all p hp).1
  rw [h] at this; cases this
set_option maxHeartbeats 1000000 in
theorem refAccess_none (op : Int) (w : World) (h : acc op = none) : Calls Try.prog 11 #[.int .i64 op] w fun e w' => e = .returned (.tuple #[.int .i64 0, .int .i64 0, .bool false, .bool false]) ∧ w = w' := by
  have hn := acc_none_ne h
  have e40 : (op == 40) = false := hn (40, ⟨127, 4, false, false⟩) (by decide)
  have e41 : (op == 41) = false := hn (41, ⟨126, 8, false, false⟩) (by decide)
  have e44 : (op == 44) = false := hn (44, ⟨127, 1, false, true⟩) (by decide)
  have e45 : (op == 45) = false := hn (45, ⟨127, 1, false, false⟩) (by decide)
  have e46 : (op == 46) = false := hn (46, ⟨127, 2, false, true⟩) (by decide)
  have e47 : (op == 47) = false := hn (47, ⟨127, 2, false, false⟩) (by decide)
  have e48 : (op == 48) = false := hn (48, ⟨126, 1, false, true⟩) (by decide)
  have e49 : (op == 49) = false := hn (49, ⟨126, 1, false, false⟩) (by decide)
  have e50 : (op == 50) = false := hn (50, ⟨126, 2, false, true⟩) (by decide)
  have e51 : (op == 51) = false := hn (51, ⟨126, 2, false, false⟩) (by decide)
  have e52 : (op == 52) = false := hn (52, ⟨126, 4, false, true⟩) (by decide)
  have e53 : (op == 53) = false := hn (53, ⟨126, 4, false, false⟩) (by decide)
  have e54 : (op == 54) = false := hn (54, ⟨127, 4, true, false⟩) (by decide)
  have e55 : (op == 55) = false := hn (55, ⟨126, 8, true, false⟩) (by decide)
  have e58 : (op == 58) = false := hn (58, ⟨127, 1, true, false⟩) (by decide)
  have e59 : (op == 59) = false := hn (59, ⟨127, 2, true, false⟩) (by decide)
  have e60 : (op == 60) = false := hn (60, ⟨126, 1, true, false⟩) (by decide)
  have e61 : (op == 61) = false := hn (61, ⟨126, 2, true, false⟩) (by decide)
  have e62 : (op == 62) = false := hn (62, ⟨126, 4, true, false⟩) (by decide)
  clear hn h
  go_enter Try.func11, Try.ntmps11
  go_wp2
  exact bodyPost_ret (v := .tuple #[.int .i64 0, .int .i64 0, .bool false, .bool false]) (by simp [results, Try.results11, go_sem]) rfl ⟨rfl, rfl⟩
theorem refAccess_any (op : Int) (w : World) : Calls Try.prog 11 #[.int .i64 op] w fun e w' => e = .returned (accR op) ∧ w = w' := by
  unfold accR
  by_cases e40 : op = 40
  · subst e40; exact refAccess_40 w
  by_cases e41 : op = 41
  · subst e41; exact refAccess_41 w
  by_cases e44 : op = 44
  · subst e44; exact refAccess_44 w
  by_cases e45 : op = 45
  · subst e45; exact refAccess_45 w
  by_cases e46 : op = 46
  · subst e46; exact refAccess_46 w
  by_cases e47 : op = 47
  · subst e47; exact refAccess_47 w
  by_cases e48 : op = 48
  · subst e48; exact refAccess_48 w
  by_cases e49 : op = 49
  · subst e49; exact refAccess_49 w
  by_cases e50 : op = 50
  · subst e50; exact refAccess_50 w
  by_cases e51 : op = 51
  · subst e51; exact refAccess_51 w
  by_cases e52 : op = 52
  · subst e52; exact refAccess_52 w
  by_cases e53 : op = 53
  · subst e53; exact refAccess_53 w
  by_cases e54 : op = 54
  · subst e54; exact refAccess_54 w
  by_cases e55 : op = 55
  · subst e55; exact refAccess_55 w
  by_cases e58 : op = 58
  · subst e58; exact refAccess_58 w
  by_cases e59 : op = 59
  · subst e59; exact refAccess_59 w
  by_cases e60 : op = 60
  · subst e60; exact refAccess_60 w
  by_cases e61 : op = 61
  · subst e61; exact refAccess_61 w
  by_cases e62 : op = 62
  · subst e62; exact refAccess_62 w
  have h : acc op = none := by unfold acc; rw [if_neg e40, if_neg e41, if_neg e44, if_neg e45, if_neg e46, if_neg e47, if_neg e48, if_neg e49, if_neg e50, if_neg e51, if_neg e52, if_neg e53, if_neg e54, if_neg e55, if_neg e58, if_neg e59, if_neg e60, if_neg e61, if_neg e62]
  rw [h]; exact refAccess_none op w h

/-- is what an access reads signed? -/
def sgB (op : Int) : Bool := op == 44 || op == 46 || op == 48 || op == 50 || op == 52
theorem signed_any (op : Int) (w : World) : Calls Try.prog 26 #[.int .i64 op] w fun e w' => e = .returned (.bool (sgB op)) ∧ w = w' := by
  unfold sgB
  cases e44 : (op == 44)
  rotate_left
  · go_enter Try.func26, Try.ntmps26
    go_wp2
    go_ret
    exact ⟨rfl, rfl⟩
  cases e46 : (op == 46)
  rotate_left
  · go_enter Try.func26, Try.ntmps26
    go_wp2
    go_ret
    exact ⟨rfl, rfl⟩
  cases e48 : (op == 48)
  rotate_left
  · go_enter Try.func26, Try.ntmps26
    go_wp2
    go_ret
    exact ⟨rfl, rfl⟩
  cases e50 : (op == 50)
  rotate_left
  · go_enter Try.func26, Try.ntmps26
    go_wp2
    go_ret
    exact ⟨rfl, rfl⟩
  cases e52 : (op == 52)
  rotate_left
  · go_enter Try.func26, Try.ntmps26
    go_wp2
    go_ret
    exact ⟨rfl, rfl⟩
  go_enter Try.func26, Try.ntmps26
  go_wp2
  go_ret
  exact ⟨rfl, rfl⟩
theorem sgB_acc : ∀ p ∈ accL, sgB p.1 = p.2.signed := by decide
end Go.Proofs.Ytmknjiefdhhgkaa.mm
