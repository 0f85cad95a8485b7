/- The contracts of the document's answer for layer 2: kinds of operators, signs, low bits. -/
import Derived.Test.YtmikhbpffmojhaaDoorEvs
set_option linter.unusedVariables false
namespace Go.Proofs.YtmikhbpffmojhaaDoor.nm
open Go.RowKit

/-- a call that answers v and leaves the world as it is -/
def Same (f : FuncId) (args : Array Value) (w : World) (v : Value) : Prop :=
  Calls Tryd.prog f args w fun e w' => e = .returned v ∧ w = w'

def inB (op a b : Int) : Bool := decide (a ≤ op) && decide (op ≤ b)

theorem in_any (op a b : Int) (w : World) : Same 27 #[.int .i64 op, .int .i64 a, .int .i64 b] w (.bool (inB op a b)) := by
  unfold Same
  by_cases h1 : a ≤ op
  · by_cases h2 : op ≤ b
    · have e : inB op a b = true := by simp [inB, h1, h2]
      rw [e]
      go_enter Tryd.func27, Tryd.ntmps27
      go_wp2
      go_ret
      exact ⟨by simp, rfl⟩
    · have e : inB op a b = false := by simp [inB, h2]
      have h2' : decide (op ≤ b) = false := by simp [h2]
      rw [e]
      go_enter Tryd.func27, Tryd.ntmps27
      go_wp2
      go_ret
      exact ⟨by simp, rfl⟩
  · have e : inB op a b = false := by simp [inB, h1]
    have h1' : decide (a ≤ op) = false := by simp [h1]
    rw [e]
    go_enter Tryd.func27, Tryd.ntmps27
    go_wp2
    go_ret
    exact ⟨rfl, rfl⟩

theorem refWidth_any (t : Int) (w : World) : Same 36 #[.int .i64 t] w (.int .i64 (wd t : Int)) := by
  unfold Same
  by_cases h : t = 127
  · subst h
    go_enter Tryd.func36, Tryd.ntmps36
    go_wp2
    go_ret
    exact ⟨rfl, rfl⟩
  · have hb : (t == 127) = false := by simp [h]
    have e : wd t = 64 := by unfold wd; rw [if_neg h]
    rw [e]
    clear h
    go_enter Tryd.func36, Tryd.ntmps36
    go_wp2
    go_ret
    exact ⟨rfl, rfl⟩

theorem bool1_any (b : Bool) (w : World) : Same 37 #[.bool b] w (.int .u64 (b2i b)) := by
  unfold Same
  cases b
  all_goals
    go_enter Tryd.func37, Tryd.ntmps37
    go_wp2
    go_ret
    exact ⟨rfl, rfl⟩

theorem refSigned_any (d n : Int) (w : World) (hd : d = 8 ∨ d = 16 ∨ d = 32 ∨ d = 64) (h0 : 0 ≤ n) (h1 : n < 18446744073709551616) :
    Same 42 #[.int .u64 n, .int .i64 d] w (.int .i64 (sgn d.toNat n)) := by
  unfold Same
  rcases hd with rfl | rfl | rfl | rfl
  all_goals
    go_enter Tryd.func42, Tryd.ntmps42
    go_wp2
    go_ret
    refine ⟨ret_int ?_, rfl⟩
  · rw [show sgn (Int.toNat 8) n = _ from sgn_8 n]; simp only [IntKind.wrap_u64]; unfold wrap64; split <;> omega
  · rw [show sgn (Int.toNat 16) n = _ from sgn_16 n]; simp only [IntKind.wrap_u64]; unfold wrap64; split <;> omega
  · rw [show sgn (Int.toNat 32) n = _ from sgn_32 n]; simp only [IntKind.wrap_u64]; unfold wrap64; split <;> omega
  · rw [show sgn (Int.toNat 64) n = _ from sgn_64 n]; unfold wrap64; split <;> omega

theorem refLow_any (d n : Int) (w : World) (hd : d = 32 ∨ d = 64) (h0 : 0 ≤ n) (h1 : n < 18446744073709551616) :
    Same 41 #[.int .u64 n, .int .i64 d] w (.int .u64 (n % 2 ^ d.toNat)) := by
  unfold Same
  rcases hd with rfl | rfl
  · have hm : bits .and .u64 n 4294967295 = n % 4294967296 := by
      obtain ⟨m, rfl⟩ : ∃ m : Nat, n = m := ⟨n.toNat, by omega⟩
      rw [show (4294967295 : Int) = ((4294967295 : Nat) : Int) from rfl, u64_and_nat m 4294967295 (by omega) (by decide), show m &&& 4294967295 = m % 4294967296 from Nat.and_two_pow_sub_one_eq_mod m 32]
      omega
    go_enter Tryd.func41, Tryd.ntmps41
    go_wp2
    go_ret
    exact ⟨rfl, rfl⟩
  · go_enter Tryd.func41, Tryd.ntmps41
    go_wp2
    go_ret
    refine ⟨ret_int ?_, rfl⟩
    show n = n % 18446744073709551616
    omega

theorem refFits_any (t n : Int) (w : World) : Same 23 #[.int .i64 t, .int .u64 n] w (.bool (fits t n)) := by
  unfold Same
  by_cases h1 : t = 126
  · subst h1
    rw [show fits 126 n = true from rfl]
    go_enter Tryd.func23, Tryd.ntmps23
    go_wp2
    go_ret
    exact ⟨rfl, rfl⟩
  · have b1 : (t == 126) = false := by simp [h1]
    by_cases h2 : t = 127
    · subst h2
      rw [show fits 127 n = decide (n < 4294967296) from rfl]
      go_enter Tryd.func23, Tryd.ntmps23
      go_wp2
      go_ret
      exact ⟨rfl, rfl⟩
    · have b2 : (t == 127) = false := by simp [h2]
      have e : fits t n = false := by simp [fits, h1, h2]
      rw [e]
      go_enter Tryd.func23, Tryd.ntmps23
      go_wp2
      go_ret
      exact ⟨rfl, rfl⟩

def c127 (op : Int) : Bool := inB op 69 79 || inB op 103 120 || op == 172 || op == 173 || op == 192 || op == 193
def c126 (op : Int) : Bool := inB op 80 90 || inB op 121 138 || op == 167 || inB op 194 196
def ofT (op : Int) : Int := if c127 op then 127 else if c126 op then 126 else 0
def unT (op : Int) : Bool := op == 69 || op == 80 || inB op 103 105 || inB op 121 123 || decide (167 ≤ op)

set_option maxHeartbeats 1000000 in
theorem of_any (op : Int) (w : World) : Same 25 #[.int .i64 op] w (.int .i64 (ofT op)) := by
  unfold Same
  have HI := Lib.hid (fun a b w' => in_any op a b w')
  unfold ofT c127 c126
  generalize inB op = I at HI ⊢
  generalize h1 : I 69 79 = b1
  generalize h2 : I 103 120 = b2
  generalize h3 : (op == 172) = b3
  generalize h4 : (op == 173) = b4
  generalize h5 : (op == 192) = b5
  generalize h6 : (op == 193) = b6
  generalize h7 : I 80 90 = b7
  generalize h8 : I 121 138 = b8
  generalize h9 : (op == 167) = b9
  generalize h10 : I 194 196 = b10
  cases b1 with
  | true =>
    go_enter Tryd.func25, Tryd.ntmps25
    go_wp2_with (go_at_call 27; refine (HI.out _ _ _).mono ?_; rintro e w' ⟨rfl, rfl⟩)
    go_ret
    first | exact ⟨rfl, 0, rfl⟩ | exact ⟨rfl, rfl⟩
  | false =>
    cases b2 with
    | true =>
      go_enter Tryd.func25, Tryd.ntmps25
      go_wp2_with (go_at_call 27; refine (HI.out _ _ _).mono ?_; rintro e w' ⟨rfl, rfl⟩)
      go_ret
      first | exact ⟨rfl, 0, rfl⟩ | exact ⟨rfl, rfl⟩
    | false =>
      cases b3 with
      | true =>
        go_enter Tryd.func25, Tryd.ntmps25
        go_wp2_with (go_at_call 27; refine (HI.out _ _ _).mono ?_; rintro e w' ⟨rfl, rfl⟩)
        go_ret
        first | exact ⟨rfl, 0, rfl⟩ | exact ⟨rfl, rfl⟩
      | false =>
        cases b4 with
        | true =>
          go_enter Tryd.func25, Tryd.ntmps25
          go_wp2_with (go_at_call 27; refine (HI.out _ _ _).mono ?_; rintro e w' ⟨rfl, rfl⟩)
          go_ret
          first | exact ⟨rfl, 0, rfl⟩ | exact ⟨rfl, rfl⟩
        | false =>
          cases b5 with
          | true =>
            go_enter Tryd.func25, Tryd.ntmps25
            go_wp2_with (go_at_call 27; refine (HI.out _ _ _).mono ?_; rintro e w' ⟨rfl, rfl⟩)
            go_ret
            first | exact ⟨rfl, 0, rfl⟩ | exact ⟨rfl, rfl⟩
          | false =>
            cases b6 with
            | true =>
              go_enter Tryd.func25, Tryd.ntmps25
              go_wp2_with (go_at_call 27; refine (HI.out _ _ _).mono ?_; rintro e w' ⟨rfl, rfl⟩)
              go_ret
              first | exact ⟨rfl, 0, rfl⟩ | exact ⟨rfl, rfl⟩
            | false =>
              cases b7 with
              | true =>
                go_enter Tryd.func25, Tryd.ntmps25
                go_wp2_with (go_at_call 27; refine (HI.out _ _ _).mono ?_; rintro e w' ⟨rfl, rfl⟩)
                go_ret
                first | exact ⟨rfl, 0, rfl⟩ | exact ⟨rfl, rfl⟩
              | false =>
                cases b8 with
                | true =>
                  go_enter Tryd.func25, Tryd.ntmps25
                  go_wp2_with (go_at_call 27; refine (HI.out _ _ _).mono ?_; rintro e w' ⟨rfl, rfl⟩)
                  go_ret
                  first | exact ⟨rfl, 0, rfl⟩ | exact ⟨rfl, rfl⟩
                | false =>
                  cases b9 with
                  | true =>
                    go_enter Tryd.func25, Tryd.ntmps25
                    go_wp2_with (go_at_call 27; refine (HI.out _ _ _).mono ?_; rintro e w' ⟨rfl, rfl⟩)
                    go_ret
                    first | exact ⟨rfl, 0, rfl⟩ | exact ⟨rfl, rfl⟩
                  | false =>
                    cases b10 with
                    | true =>
                      go_enter Tryd.func25, Tryd.ntmps25
                      go_wp2_with (go_at_call 27; refine (HI.out _ _ _).mono ?_; rintro e w' ⟨rfl, rfl⟩)
                      go_ret
                      first | exact ⟨rfl, 0, rfl⟩ | exact ⟨rfl, rfl⟩
                    | false =>
                      go_enter Tryd.func25, Tryd.ntmps25
                      go_wp2_with (go_at_call 27; refine (HI.out _ _ _).mono ?_; rintro e w' ⟨rfl, rfl⟩)
                      go_ret
                      first | exact ⟨rfl, 0, rfl⟩ | exact ⟨rfl, rfl⟩

set_option maxHeartbeats 1000000 in
theorem unary_any (op : Int) (w : World) : Same 26 #[.int .i64 op] w (.bool (unT op)) := by
  unfold Same
  have HI := Lib.hid (fun a b w' => in_any op a b w')
  unfold unT
  generalize inB op = I at HI ⊢
  generalize h1 : (op == 69) = b1
  generalize h2 : (op == 80) = b2
  generalize h3 : I 103 105 = b3
  generalize h4 : I 121 123 = b4
  generalize h5 : decide (167 ≤ op) = b5
  cases b1 with
  | true =>
    go_enter Tryd.func26, Tryd.ntmps26
    go_wp2_with (go_at_call 27; refine (HI.out _ _ _).mono ?_; rintro e w' ⟨rfl, rfl⟩)
    go_ret
    first | exact ⟨rfl, 0, rfl⟩ | exact ⟨rfl, rfl⟩
  | false =>
    cases b2 with
    | true =>
      go_enter Tryd.func26, Tryd.ntmps26
      go_wp2_with (go_at_call 27; refine (HI.out _ _ _).mono ?_; rintro e w' ⟨rfl, rfl⟩)
      go_ret
      first | exact ⟨rfl, 0, rfl⟩ | exact ⟨rfl, rfl⟩
    | false =>
      cases b3 with
      | true =>
        go_enter Tryd.func26, Tryd.ntmps26
        go_wp2_with (go_at_call 27; refine (HI.out _ _ _).mono ?_; rintro e w' ⟨rfl, rfl⟩)
        go_ret
        first | exact ⟨rfl, 0, rfl⟩ | exact ⟨rfl, rfl⟩
      | false =>
        cases b4 with
        | true =>
          go_enter Tryd.func26, Tryd.ntmps26
          go_wp2_with (go_at_call 27; refine (HI.out _ _ _).mono ?_; rintro e w' ⟨rfl, rfl⟩)
          go_ret
          first | exact ⟨rfl, 0, rfl⟩ | exact ⟨rfl, rfl⟩
        | false =>
          cases b5 with
          | true =>
            go_enter Tryd.func26, Tryd.ntmps26
            go_wp2_with (go_at_call 27; refine (HI.out _ _ _).mono ?_; rintro e w' ⟨rfl, rfl⟩)
            go_ret
            first | exact ⟨rfl, 0, rfl⟩ | exact ⟨rfl, rfl⟩
          | false =>
            go_enter Tryd.func26, Tryd.ntmps26
            go_wp2_with (go_at_call 27; refine (HI.out _ _ _).mono ?_; rintro e w' ⟨rfl, rfl⟩)
            go_ret
            first | exact ⟨rfl, 0, rfl⟩ | exact ⟨rfl, rfl⟩

end Go.Proofs.YtmikhbpffmojhaaDoor.nm
