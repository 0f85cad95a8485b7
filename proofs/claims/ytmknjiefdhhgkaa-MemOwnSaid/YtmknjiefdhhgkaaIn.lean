/- The contracts of Inside, Access and what tells of an access: the program's and the document's. -/
import Derived.Test.YtmknjiefdhhgkaaTab
import Derived.Deep.QuietTactic
import Derived.BigQuiet
set_option linter.unusedVariables false
namespace Go.Proofs.Ytmknjiefdhhgkaa.mm
open Go.RowKit

/-- do two numbers lie inside so many bytes together? -/
def insB (n : Nat) (a e : Int) : Bool := decide (a ≤ 1099511627776) && decide (e ≤ 1099511627776) && decide (a + e ≤ n)

theorem ins_tt {n : Nat} {a e : Int} (h1 : a ≤ 1099511627776) (h2 : e ≤ 1099511627776) (h3 : a + e ≤ n) : insB n a e = true := by simp [insB, h1, h2, h3]
theorem ins_f1 {n : Nat} {a e : Int} (h : ¬ a ≤ 1099511627776) : insB n a e = false := by simp [insB, h]
theorem ins_f2 {n : Nat} {a e : Int} (h : ¬ e ≤ 1099511627776) : insB n a e = false := by simp [insB, h]
theorem ins_f3 {n : Nat} {a e : Int} (h : ¬ a + e ≤ n) : insB n a e = false := by simp [insB, h]

theorem Inside_any (v : Value) (l : List Int) (a e : Int) (w : World) (hv : Rd w v l) (hl : l.length ≤ 140737488355328) (a0 : 0 ≤ a) (a1 : a < 18446744073709551616) (e0 : 0 ≤ e) (e1 : e < 18446744073709551616) :
    Calls Try.prog 12 #[v, .int .u64 a, .int .u64 e] w fun r w' => r = .returned (.bool (insB l.length a e)) ∧ w = w' := by
  obtain ⟨ao, cap, rfl, _⟩ := hv
  by_cases h1 : a ≤ 1099511627776
  · by_cases h2 : e ≤ 1099511627776
    · by_cases h3 : a + e ≤ l.length
      · rw [ins_tt h1 h2 h3]
        go_enter Try.func12, Try.ntmps12
        go_wp2
        go_ret
        exact ⟨rfl, rfl⟩
      · rw [ins_f3 h3]
        go_enter Try.func12, Try.ntmps12
        go_wp2
        go_ret
        exact ⟨rfl, rfl⟩
    · rw [ins_f2 h2]
      go_enter Try.func12, Try.ntmps12
      go_wp2
      go_ret
      exact ⟨rfl, rfl⟩
  · rw [ins_f1 h1]
    go_enter Try.func12, Try.ntmps12
    go_wp2
    go_ret
    exact ⟨rfl, rfl⟩

theorem RefInside_any (v : Value) (l : List Int) (a e : Int) (w : World) (hv : Rd w v l) (hl : l.length ≤ 140737488355328) (a0 : 0 ≤ a) (a1 : a < 18446744073709551616) (e0 : 0 ≤ e) (e1 : e < 18446744073709551616) :
    Calls Try.prog 13 #[v, .int .u64 a, .int .u64 e] w fun r w' => r = .returned (.bool (insB l.length a e)) ∧ w = w' := by
  obtain ⟨ao, cap, rfl, _⟩ := hv
  by_cases h1 : a ≤ 1099511627776
  · by_cases h2 : e ≤ 1099511627776
    · by_cases h3 : a + e ≤ l.length
      · rw [ins_tt h1 h2 h3]
        go_enter Try.func13, Try.ntmps13
        go_wp2
        go_ret
        exact ⟨rfl, rfl⟩
      · rw [ins_f3 h3]
        go_enter Try.func13, Try.ntmps13
        go_wp2
        go_ret
        exact ⟨rfl, rfl⟩
    · rw [ins_f2 h2]
      go_enter Try.func13, Try.ntmps13
      go_wp2
      go_ret
      exact ⟨rfl, rfl⟩
  · rw [ins_f1 h1]
    go_enter Try.func13, Try.ntmps13
    go_wp2
    go_ret
    exact ⟨rfl, rfl⟩

/-- does a number fit a type? -/
def fitB (k n : Int) : Bool := k == 126 || decide (n ≤ 4294967295)
theorem fits_any (a : Acc) (n : Int) (w : World) (hk : a.kind = 127 ∨ a.kind = 126) :
    Calls Try.prog 27 #[aggV a, .int .u64 n] w fun r w' => r = .returned (.bool (fitB a.kind n)) ∧ Below w.heap.size w w' := by
  unfold aggV
  obtain ⟨k, wd, st, sg⟩ := a
  rcases hk with rfl | rfl
  · by_cases h : n ≤ 4294967295
    · rw [show fitB 127 n = true from by simp [fitB, h]]
      go_enter Try.func27, Try.ntmps27
      go_wp2
      go_ret
      exact ⟨rfl, made_below _ _⟩
    · rw [show fitB 127 n = false from by simp [fitB, h]]
      go_enter Try.func27, Try.ntmps27
      go_wp2
      go_ret
      exact ⟨rfl, made_below _ _⟩
  · rw [show fitB 126 n = true from by simp [fitB]]
    go_enter Try.func27, Try.ntmps27
    go_wp2
    go_ret
    exact ⟨rfl, made_below _ _⟩
theorem RefFits_any (k n : Int) (w : World) (hk : k = 127 ∨ k = 126) :
    Calls Try.prog 30 #[.int .i64 k, .int .u64 n] w fun r w' => r = .returned (.bool (fitB k n)) ∧ w = w' := by
  rcases hk with rfl | rfl
  · by_cases h : n ≤ 4294967295
    · have h' : n < 4294967296 := by omega
      rw [show fitB 127 n = true from by simp [fitB, h]]
      go_enter Try.func30, Try.ntmps30
      go_wp2
      go_ret
      exact ⟨rfl, rfl⟩
    · have h' : ¬ n < 4294967296 := by omega
      rw [show fitB 127 n = false from by simp [fitB, h]]
      go_enter Try.func30, Try.ntmps30
      go_wp2
      go_ret
      exact ⟨rfl, rfl⟩
  · rw [show fitB 126 n = true from by simp [fitB]]
    go_enter Try.func30, Try.ntmps30
    go_wp2
    go_ret
    exact ⟨rfl, rfl⟩

theorem inside_any (A : Acc) (v : Value) (l : List Int) (a o : Int) (w : World) (hv : Rd w v l) (hl : l.length ≤ 140737488355328) (a0 : 0 ≤ a) (a1 : a ≤ 4294967295) (o0 : 0 ≤ o) (o1 : o ≤ 4294967295) (hw : A.width ≤ 8) :
    Calls Try.prog 23 #[aggV A, v, .int .u64 a, .int .u64 o] w fun r w' => r = .returned (.bool (decide (a + o + A.width ≤ l.length))) ∧ Below w.heap.size w w' := by
  have hv1 := hv.alloc (.cells #[.int .i64 A.kind, .int .i64 A.width, .bool A.store, .bool A.signed] 50)
  have H := Lib.hid (Inside_any v l a (o + A.width) _ hv1 hl a0 (by omega) (by omega) (by omega))
  have e : insB l.length a (o + A.width) = decide (a + o + A.width ≤ l.length) := by
    unfold insB
    rw [show decide (a ≤ 1099511627776) = true from by simp; omega, show decide (o + (A.width : Int) ≤ 1099511627776) = true from by simp; omega, Int.add_assoc]; rfl
  rw [← e]
  obtain ⟨b, hb⟩ : ∃ b, insB l.length a (o + A.width) = b := ⟨_, rfl⟩
  rw [hb] at H ⊢
  clear hb e hv1
  obtain ⟨k, wd, st, sg⟩ := A
  unfold aggV
  simp only at H hw ⊢
  go_enter Try.func23, Try.ntmps23
  go_wp2_with (go_at_call 12; refine H.out.mono ?_; rintro e w' ⟨rfl, rfl⟩)
  go_ret
  exact ⟨rfl, made_below _ _⟩
end Go.Proofs.Ytmknjiefdhhgkaa.mm
