/- Does a node dominate another one, by a list of nearest ones; are these the same numbers; is a node reached. -/
import Derived.Test.YtcghekbbaeejaaaGRight
set_option linter.unusedVariables false
set_option linter.unusedSimpArgs false
namespace Go.Proofs.Ytcghekbbaeejaaa.gr
open Go.RowKit

/-- is a met, going from b by N, so many times at most? -/
def dm (N : List Int) (a : Int) : Nat → Int → Bool
  | 0, b => decide (b = a)
  | k + 1, b => if b = a then true else if 0 ≤ b ∧ b < N.length then dm N a k (N.getD b.toNat 0) else false
def domB (N : List Int) (a b : Int) : Bool := if 0 ≤ a ∧ a < N.length then dm N a 256 b else false

theorem dm_same (N : List Int) (a : Int) : ∀ k, dm N a k a = true
  | 0 => by simp [dm]
  | k + 1 => by simp [dm]
theorem dm_out {N : List Int} {a b : Int} (h : b ≠ a) (hb : ¬ (0 ≤ b ∧ b < N.length)) : ∀ k, dm N a k b = false
  | 0 => by simp [dm, h]
  | k + 1 => by rw [dm, if_neg h, if_neg hb]
theorem dm_step {N : List Int} {a b : Int} {k : Nat} (h : b ≠ a) (hb : 0 ≤ b ∧ b < N.length) : dm N a (k + 1) b = dm N a k (N.getD b.toNat 0) := by rw [dm, if_neg h, if_pos hb]

set_option maxRecDepth 100000 in
set_option maxHeartbeats 2000000 in
theorem dominates_any (v : Value) (N : List Int) (a b : Int) (w : World) (h : gi.Rd w v N) (hl : N.length ≤ 140737488351232) :
    Calls Try.prog 20 #[v, .int .i64 a, .int .i64 b] w fun e w' => e = .returned (.bool (domB N a b)) ∧ w = w' := by
  obtain ⟨ao, cap, rfl, hc, _, hd⟩ := h
  have HI := Lib.hid (fun n w' => isPlace_any (N.length : Int) n w')
  by_cases ha : 0 ≤ a ∧ a < N.length
  · have e : domB N a b = dm N a 256 b := by unfold domB; rw [if_pos ha]
    have hab : (decide (0 ≤ a) && decide (a < (N.length : Int))) = true := by simp [ha.1, ha.2]
    have HIa := Lib.hid (fun w' => HI.out a w')
    rw [hab] at HIa
    have HD := Lib.hid hd
    have HC := Lib.hid hc
    have HE := Lib.hid e
    have HA := Lib.hid ha
    clear e ha hd hc hab
    go_enter Try.func20, Try.ntmps20
    go_wp2_with (go_at_call 31; refine (HIa.out _).mono ?_; rintro e w1 ⟨rfl, rfl⟩)
    go_loop [2, 12] (fun y x => ∃ (i : Nat) (b' : Int), x = .int .i64 i ∧ y = .int .i64 b' ∧ i ≤ 256 ∧ Hid (dm N a (256 - i) b' = dm N a 256 b)) (fun _ x => 256 - (intOf x).toNat)
    case atStart => exact ⟨0, b, rfl, rfl, by omega, Lib.hid rfl⟩
    case round =>
      obtain ⟨i, b', rfl, rfl, hi, HT⟩ := hrel
      by_cases hlt : i < 256
      · by_cases hba : b' = a
        · subst hba
          have HT2 := Lib.hid ((HT.out.symm.trans (dm_same _ _ _)))
          clear HT HI HIa
          go_wp2
          go_ret
          exact ⟨by rw [HE.out, HT2.out]; rfl, rfl⟩
        · have hbe : (b' == a) = false := by rw [beq_eq_false_iff_ne]; exact hba
          cases hp : (decide (0 ≤ b') && decide (b' < (N.length : Int))) with
          | false =>
            have HT2 := Lib.hid (HT.out.symm.trans (dm_out hba (by intro h; rw [decide_eq_true h.1, decide_eq_true h.2] at hp; cases hp) _))
            have HIb := Lib.hid (fun w' => HI.out b' w')
            rw [hp] at HIb
            clear HT HI HIa hp hba
            go_wp2_with (go_at_call 31; refine (HIb.out _).mono ?_; rintro e w1 ⟨rfl, rfl⟩)
            go_ret
            exact ⟨by rw [HE.out, HT2.out]; simp [hbe], rfl⟩
          | true =>
            have hpl : 0 ≤ b' ∧ b' < (N.length : Int) := by
              rw [Bool.and_eq_true] at hp; exact ⟨of_decide_eq_true hp.1, of_decide_eq_true hp.2⟩
            have HT2 : Hid (dm N a (256 - (i + 1)) (N.getD b'.toNat 0) = dm N a 256 b) := by
              show _ = _
              rw [← HT.out, show 256 - i = (256 - (i + 1)) + 1 by omega, dm_step hba hpl]
            have HIb := Lib.hid (fun w' => HI.out b' w')
            rw [hp] at HIb
            obtain ⟨bn, rfl⟩ : ∃ n : Nat, b' = (n : Int) := ⟨b'.toNat, by omega⟩
            have hbn : bn < N.length := by omega
            rcases HD.out with e | ⟨b1, o1, rfl, hg1⟩
            · subst e; simp at hbn
            have g1 := hg1 bn hbn
            rw [Int.toNat_natCast] at HT2
            generalize N.getD bn 0 = x at g1 HT2
            have hblt : (bn : Int) < N.length := by omega
            have hcap := HC.out
            have hlti : (i : Int) < 256 := by omega
            clear HT HI HIa hp hba hg1 hpl
            go_wp2_with (go_at_call 31; refine (HIb.out _).mono ?_; rintro e w1 ⟨rfl, rfl⟩)
            go_round
            case rel => exact ⟨i + 1, x, by go_num, rfl, by omega, HT2⟩
            case measure => simp [intOf]; omega
      · obtain rfl : i = 256 := by omega
        have HT2 : Hid (decide (b' = a) = dm N a 256 b) := HT.out
        clear HT HI HIa
        by_cases hba : b' = a
        · have hbe : (b' == a) = true := by rw [beq_iff_eq]; exact hba
          have HT3 := Lib.hid (HT2.out.symm.trans (decide_eq_true hba))
          clear HT2 hba
          go_wp2
          go_ret
          exact ⟨by rw [HE.out, HT3.out]; simp [hbe], rfl⟩
        · have hbe : (b' == a) = false := by rw [beq_eq_false_iff_ne]; exact hba
          have HT3 := Lib.hid (HT2.out.symm.trans (decide_eq_false hba))
          clear HT2 hba
          go_wp2
          go_ret
          exact ⟨by rw [HE.out, HT3.out]; simp [hbe], rfl⟩
  · have e : domB N a b = false := by unfold domB; rw [if_neg ha]
    have hab : (decide (0 ≤ a) && decide (a < (N.length : Int))) = false := by
      rw [Bool.and_eq_false_iff]
      by_cases h : 0 ≤ a
      · right; exact decide_eq_false (fun h' => ha ⟨h, h'⟩)
      · left; exact decide_eq_false h
    have HIa := Lib.hid (fun w' => HI.out a w')
    rw [hab] at HIa
    have HE := Lib.hid e
    clear e ha hd hc hab HI
    go_enter Try.func20, Try.ntmps20
    go_wp2_with (go_at_call 31; refine (HIa.out _).mono ?_; rintro e w1 ⟨rfl, rfl⟩)
    go_ret
    exact ⟨by rw [HE.out]; rfl, rfl⟩

/-- the document's loop: b is a place -/
theorem dm_ref {N : List Int} {a b : Int} {k : Nat} (ha : 0 ≤ a ∧ a < N.length) (hne : b ≠ a) (hb : 0 ≤ b ∧ b < N.length) (hx : ¬ (0 ≤ N.getD b.toNat 0 ∧ N.getD b.toNat 0 < N.length)) : dm N a k b = false := by
  cases k with
  | zero => simp [dm, hne]
  | succ k => rw [dm_step hne hb]; exact dm_out (fun e => hx (by rw [e]; exact ha)) hx k

set_option maxRecDepth 100000 in
set_option maxHeartbeats 4000000 in
theorem refDominates_any (v : Value) (N : List Int) (a b : Int) (w : World) (h : gi.Rd w v N) (hl : N.length ≤ 140737488351232) :
    Calls Try.prog 21 #[v, .int .i64 a, .int .i64 b] w fun e w' => e = .returned (.bool (domB N a b)) ∧ w = w' := by
  obtain ⟨ao, cap, rfl, hc, _, hd⟩ := h
  have bad : ∀ (hx : domB N a b = false) (hbad : a < 0 ∨ (0 ≤ a ∧ (N.length : Int) ≤ a) ∨ (0 ≤ a ∧ ¬ (N.length : Int) ≤ a ∧ b < 0) ∨ (0 ≤ a ∧ ¬ (N.length : Int) ≤ a ∧ 0 ≤ b ∧ (N.length : Int) ≤ b)),
      Calls Try.prog 21 #[.slice ao N.length cap, .int .i64 a, .int .i64 b] w fun e w' => e = .returned (.bool (domB N a b)) ∧ w = w' := by
    intro hx hbad
    have HE := Lib.hid hx
    clear hx hd
    rcases hbad with h1 | ⟨h1, h2⟩ | ⟨h1, h2, h3⟩ | ⟨h1, h2, h3, h4⟩
    · go_enter Try.func21, Try.ntmps21
      go_wp2
      go_ret
      exact ⟨by rw [HE.out]; rfl, rfl⟩
    · have h1' : ¬ a < 0 := by omega
      go_enter Try.func21, Try.ntmps21
      go_wp2
      go_ret
      exact ⟨by rw [HE.out]; rfl, rfl⟩
    · have h1' : ¬ a < 0 := by omega
      go_enter Try.func21, Try.ntmps21
      go_wp2
      go_ret
      exact ⟨by rw [HE.out]; rfl, rfl⟩
    · have h1' : ¬ a < 0 := by omega
      have h3' : ¬ b < 0 := by omega
      go_enter Try.func21, Try.ntmps21
      go_wp2
      go_ret
      exact ⟨by rw [HE.out]; rfl, rfl⟩
  by_cases ha : 0 ≤ a ∧ a < N.length
  · have e : domB N a b = dm N a 256 b := by unfold domB; rw [if_pos ha]
    by_cases hb : 0 ≤ b ∧ b < N.length
    · have HD := Lib.hid hd
      have HC := Lib.hid hc
      have HE := Lib.hid e
      have HA := Lib.hid ha
      have a1 : ¬ a < 0 := by omega
      have a2 : ¬ (N.length : Int) ≤ a := by omega
      have b1 : ¬ b < 0 := by omega
      have b2 : ¬ (N.length : Int) ≤ b := by omega
      have HB := Lib.hid hb
      clear e ha hd hc hb bad
      go_enter Try.func21, Try.ntmps21
      go_wp2
      go_loop [2, 7] (fun y x => ∃ (i : Nat) (b' : Int), x = .int .i64 i ∧ y = .int .i64 b' ∧ i ≤ 257 ∧ Hid (0 ≤ b' ∧ b' < N.length) ∧ Hid (if i ≤ 256 then dm N a (256 - i) b' = dm N a 256 b else dm N a 256 b = false)) (fun _ x => 257 - (intOf x).toNat)
      case atStart => exact ⟨0, b, rfl, rfl, by omega, HB, Lib.hid rfl⟩
      case round =>
        obtain ⟨i, b', rfl, rfl, hi, HP, HT⟩ := hrel
        by_cases hlt : i ≤ 256
        · have hT := HT.out
          rw [if_pos hlt] at hT
          have hlti : (i : Int) ≤ 256 := by omega
          by_cases hba : b' = a
          · subst hba
            have HT2 := Lib.hid ((hT.symm.trans (dm_same _ _ _)))
            clear HT hT b1 b2
            go_wp2
            go_ret
            exact ⟨by rw [HE.out, HT2.out]; rfl, rfl⟩
          · have hbe : (a == b') = false := by rw [beq_eq_false_iff_ne]; exact fun h => hba h.symm
            have hpl := HP.out
            obtain ⟨bn, rfl⟩ : ∃ n : Nat, b' = (n : Int) := ⟨b'.toNat, by omega⟩
            have hbn : bn < N.length := by omega
            rcases HD.out with e | ⟨b1, o1, rfl, hg1⟩
            · subst e; simp at hbn
            have g1 := hg1 bn hbn
            have hblt : (bn : Int) < N.length := by omega
            have hcap := HC.out
            by_cases hx : 0 ≤ N.getD bn 0 ∧ N.getD bn 0 < N.length
            · have HT2 : Hid (if i + 1 ≤ 256 then dm N a (256 - (i + 1)) (N.getD bn 0) = dm N a 256 b else dm N a 256 b = false) := by
                show if i + 1 ≤ 256 then _ else _
                by_cases h : i + 1 ≤ 256
                · rw [if_pos h, ← hT, show 256 - i = (256 - (i + 1)) + 1 by omega, dm_step hba hpl, Int.toNat_natCast]
                · rw [if_neg h, ← hT, show 256 - i = 0 by omega]; simp [dm, hba]
              have hx1 : ¬ N.getD bn 0 < 0 := by omega
              have hx2 : ¬ (N.length : Int) ≤ N.getD bn 0 := by omega
              have HX := Lib.hid hx
              generalize N.getD bn 0 = x at g1 HT2 hx1 hx2 HX
              clear HT hT hg1 hba hx hpl b2 HP
              go_wp2
              go_round
              case rel => exact ⟨i + 1, x, by go_num, rfl, by omega, HX, HT2⟩
              case measure => simp [intOf]; omega
            · have HT2 := Lib.hid (hT.symm.trans (dm_ref HA.out hba hpl (by rw [Int.toNat_natCast]; exact hx)))
              generalize N.getD bn 0 = x at g1 hx
              clear HT hT hg1 hba hpl b2 HP
              by_cases hx0 : x < 0
              · clear hx
                go_wp2
                go_ret
                exact ⟨by rw [HE.out, HT2.out]; rfl, rfl⟩
              · have hx2 : (N.length : Int) ≤ x := by omega
                clear hx
                go_wp2
                go_ret
                exact ⟨by rw [HE.out, HT2.out]; rfl, rfl⟩
        · have hT := HT.out
          rw [if_neg hlt] at hT
          have HT2 := Lib.hid hT
          have hlti : ¬ (i : Int) ≤ 256 := by omega
          clear HT hT
          go_wp2
          go_ret
          exact ⟨by rw [HE.out, HT2.out]; rfl, rfl⟩
    · refine bad ?_ (by omega)
      rw [e]; exact dm_out (fun h => hb (by rw [h]; exact ha)) hb 256
  · refine bad ?_ (by omega)
    unfold domB; rw [if_neg ha]

theorem reached_any (v : Value) (N : List Int) (x : Nat) (w : World) (h : gi.Rd w v N) (hl : N.length ≤ 1048576) (hx : x < N.length) :
    Calls Try.prog 40 #[v, .int .i64 x] w fun e w' => e = .returned (.bool (decide (x = 0) || decide (N.getD x 0 ≠ -1))) ∧ w = w' := by
  obtain ⟨ao, cap, rfl, hc, _, hd⟩ := h
  by_cases h0 : x = 0
  · have hz : ((x : Int) == 0) = true := by rw [beq_iff_eq]; omega
    rw [decide_eq_true h0, Bool.true_or]
    clear h0 hd
    go_enter Try.func40, Try.ntmps40
    go_wp2
    go_ret
    exact ⟨rfl, rfl⟩
  · have hz : ((x : Int) == 0) = false := by rw [beq_eq_false_iff_ne]; omega
    rw [decide_eq_false h0, Bool.false_or]
    rcases hd with e | ⟨b1, o1, rfl, hg1⟩
    · subst e; simp at hx
    have g1 := hg1 x hx
    have hxl : (x : Int) < N.length := by omega
    generalize N.getD x 0 = y at g1
    clear hg1 h0
    by_cases hy : y = -1
    · have hyn : (y != -1) = false := by rw [bne_eq_false_iff_eq]; exact hy
      rw [decide_eq_false (by simpa using hy)]
      clear hy
      go_enter Try.func40, Try.ntmps40
      go_wp2
      go_ret
      exact ⟨rfl, rfl⟩
    · have hyn : (y != -1) = true := by rw [bne_iff_ne]; exact hy
      rw [decide_eq_true (by simpa using hy)]
      clear hy
      go_enter Try.func40, Try.ntmps40
      go_wp2
      go_ret
      exact ⟨rfl, rfl⟩
end Go.Proofs.Ytcghekbbaeejaaa.gr
