/- Slices of numbers that were handed in; whether numbers fit a type; why a division has no answer; the operator that an operator is like. -/
import Derived.Test.YtmikhbpffmojhaaDoorRunOf
import Derived.Test.YtmikhbpffmojhaaDoorDoes
set_option linter.unusedVariables false
namespace Go.Proofs.YtmikhbpffmojhaaDoor.nm
open Go.RowKit

/-- v is a slice that reads as the numbers l of the kind q -/
def Rd (q : IntKind) (w : World) (v : Value) (l : List Int) : Prop :=
  ∃ ao cap, v = .slice ao l.length cap ∧ l.length ≤ cap ∧ (ao = none → cap = 0) ∧ (l = [] ∨ ∃ b off, ao = some ⟨b, off, none⟩ ∧ ∀ k, k < l.length → w.cell? ⟨b, off + k, none⟩ = some (.int q (l.getD k 0)))

theorem Rd.lift {q : IntKind} {w w' : World} {v : Value} {l : List Int} (h : Rd q w v l) (hb : Below w.heap.size w w') : Rd q w' v l := by
  obtain ⟨ao, cap, rfl, hc, hz, h⟩ := h
  refine ⟨ao, cap, rfl, hc, hz, ?_⟩
  rcases h with rfl | ⟨b, off, rfl, h⟩
  · exact .inl rfl
  · refine .inr ⟨b, off, rfl, fun k hk => ?_⟩
    have := World.block_lt_of_cell? w _ (h k hk)
    rw [hb.cell (p := ⟨b, off + k, none⟩) this]
    exact h k hk

theorem fits_any (t n : Int) (w : World) (h0 : 0 ≤ n) (h1 : n < 18446744073709551616) : Tells 22 #[.int .i64 t, .int .u64 n] w (.bool (fits t n)) := by
  unfold Tells
  have HW := Lib.hid (fun w' => widthOf_any t w')
  have HC := Lib.hid (fun d w' hd => cut_any d n w' hd h0 h1)
  by_cases ht : t = 127
  · subst ht
    have H1 := Lib.hid (HC.out 32)
    clear HC
    go_enter Tryd.func22, Tryd.ntmps22
    go_wp2_with (first
      | (go_at_call 31; refine (HW.out _).mono ?_; rintro e w' ⟨rfl, m, rfl⟩)
      | (go_at_call 32; refine (H1.out _ (by decide)).mono ?_; rintro e w' ⟨rfl, m2, rfl⟩))
    go_ret
    refine ⟨congrArg Ending.returned (congrArg Value.bool ?_), _, rfl⟩
    rw [show fits 127 n = decide (n < 4294967296) from rfl, Bool.eq_iff_iff, beq_iff_eq, decide_eq_true_iff]
    omega
  · by_cases ht2 : t = 126
    · subst ht2
      have H1 := Lib.hid (HC.out 64)
      clear HC
      go_enter Tryd.func22, Tryd.ntmps22
      go_wp2_with (first
        | (go_at_call 31; refine (HW.out _).mono ?_; rintro e w' ⟨rfl, m, rfl⟩)
        | (go_at_call 32; refine (H1.out _ (by decide)).mono ?_; rintro e w' ⟨rfl, m2, rfl⟩))
      go_ret
      refine ⟨congrArg Ending.returned (congrArg Value.bool ?_), _, rfl⟩
      rw [show fits 126 n = true from rfl, beq_iff_eq]
      omega
    · have t1 : (t == 127) = false := by simp [ht]
      have t2 : (t == 126) = false := by simp [ht2]
      have e : fits t n = false := by simp [fits, ht, ht2]
      rw [e]
      go_enter Tryd.func22, Tryd.ntmps22
      go_wp2
      go_ret
      exact ⟨rfl, 0, rfl⟩

theorem fitAll_any (t : Int) (v : Value) (l : List Int) (w : World) (hv : Rd .u64 w v l) (hl : ∀ x ∈ l, 0 ≤ x ∧ x < 18446744073709551616) (hlen : l.length ≤ 4611686018427387904) :
    Tells 30 #[.int .i64 t, v] w (.bool (l.all (fits t))) := by
  unfold Tells
  obtain ⟨ao, cap, rfl, hcap, _, hc⟩ := hv
  have HF := Lib.hid (fun n w' h0 h1 => fits_any t n w' h0 h1)
  go_enter Tryd.func30, Tryd.ntmps30
  go_wp2
  go_loopw [9] (fun x wr => ∃ i : Nat, x = .int .i64 i ∧ i ≤ l.length ∧ Hid ((l.take i).all (fits t) = true) ∧ ∃ m, wr = w.drewN m) (fun x _ => l.length - (intOf x).toNat)
  case atStart => exact ⟨0, rfl, by omega, by show _ = _; simp, 0, rfl⟩
  case round =>
    obtain ⟨i, rfl, hi, Ht, m, rfl⟩ := hrel
    by_cases hlt : i < l.length
    · rcases hc with rfl | ⟨b, off, rfl, hcell⟩
      · simp at hlt
      have c0 := hcell i hlt
      have hx := hl (l.getD i 0) (by rw [List.getD_eq_getElem?_getD, List.getElem?_eq_getElem hlt]; exact List.getElem_mem hlt)
      have hget : l[i]? = some (l.getD i 0) := by rw [List.getD_eq_getElem?_getD, List.getElem?_eq_getElem hlt]; rfl
      have Hget := Lib.hid hget
      have hd : l.drop i = l.getD i 0 :: l.drop (i + 1) := by
        rw [List.drop_eq_getElem_cons hlt, List.getD_eq_getElem?_getD, List.getElem?_eq_getElem hlt]; rfl
      have Hd := Lib.hid hd
      clear hcell hget hd
      generalize l.getD i 0 = x at c0 hx Hget Hd
      have t0 : (0 : Int) ≤ i ∧ (i : Int) < l.length := by omega
      have HFx := Lib.hid (fun w' => HF.out x w' hx.1 hx.2)
      have hxx := hx.1
      have hxy := hx.2
      clear HF
      cases hf : fits t x with
      | false =>
        have hall : l.all (fits t) = false := by
          rw [← List.take_append_drop i l, List.all_append, Hd.out, List.all_cons, hf]; simp
        have Hall := Lib.hid hall
        have Hf := Lib.hid hf
        clear hall hf
        go_wp2_with (go_at_call 22; refine (HFx.out _).mono ?_; rintro e w' ⟨rfl, m2, rfl⟩; rw [Hf.out])
        go_ret
        exact ⟨by rw [Hall.out]; rfl, _, rfl⟩
      | true =>
        have hnext : (l.take (i + 1)).all (fits t) = true := by
          rw [List.take_add_one, Hget.out, List.all_append, Ht.out]; simp [hf]
        have Hnext := Lib.hid hnext
        have Hf := Lib.hid hf
        clear hnext hf
        go_wp2_with (go_at_call 22; refine (HFx.out _).mono ?_; rintro e w' ⟨rfl, m2, rfl⟩; rw [Hf.out])
        go_roundw
        case rel => exact ⟨i + 1, rfl, by omega, Hnext, _, rfl⟩
        case measure => simp only [intOf]; omega
    · have he : i = l.length := by omega
      subst he
      have hall : l.all (fits t) = true := by have := Ht.out; rwa [List.take_length] at this
      have Hall := Lib.hid hall
      clear hall
      go_wp2
      go_ret
      exact ⟨by rw [Hall.out]; rfl, _, rfl⟩

theorem trap_any (k d a b : Int) (w : World) (hd : d = 32 ∨ d = 64) (ha0 : 0 ≤ a) (ha : a < 2 ^ d.toNat) (hb0 : 0 ≤ b) (hb : b < 2 ^ d.toNat) :
    Tells 34 #[.int .i64 k, .int .i64 d, .int .u64 a, .int .u64 b] w (.int .i64 (trapOf k d.toNat a b)) := by
  unfold Tells
  have HD := Lib.hid (fun w' => divides_any k w')
  have HL := Lib.hid (fun w' => least_any d w' hd)
  have HM := Lib.hid (fun w' => most_any d w' hd)
  by_cases hk : 109 ≤ k ∧ k ≤ 112
  · have hdv : (decide (109 ≤ k) && decide (k ≤ 112)) = true := by simp; omega
    rw [hdv] at HD
    by_cases hz : b = 0
    · subst hz
      have e : trapOf k d.toNat a 0 = 33 := by simp [trapOf, hk]
      rw [e]
      clear hk hdv e ha hb
      go_enter Tryd.func34, Tryd.ntmps34
      go_wp2_with (go_at_call 28; refine (HD.out _).mono ?_; rintro e w' ⟨rfl, m, rfl⟩)
      go_ret
      exact ⟨rfl, _, rfl⟩
    · have hz' : (b == 0) = false := by simp [hz]
      have e : trapOf k d.toNat a b = if k == 109 && (a == 2 ^ (d.toNat - 1) && b == 2 ^ d.toNat - 1) then 34 else 0 := by simp [trapOf, hk, hz]
      rw [e]
      clear hk hdv e ha hb hz
      generalize (2 : Int) ^ (d.toNat - 1) = L at HL
      generalize (2 : Int) ^ d.toNat - 1 = M at HM
      cases h1 : k == 109 <;> cases h2 : a == L <;> cases h3 : b == M
      all_goals
        go_enter Tryd.func34, Tryd.ntmps34
        go_wp2_with (first
          | (go_at_call 28; refine (HD.out _).mono ?_; rintro e w' ⟨rfl, m, rfl⟩)
          | (go_at_call 46; refine (HL.out _).mono ?_; rintro e w' ⟨rfl, m2, rfl⟩)
          | (go_at_call 47; refine (HM.out _).mono ?_; rintro e w' ⟨rfl, m3, rfl⟩))
        go_ret
        exact ⟨rfl, _, rfl⟩
  · have hdv : (decide (109 ≤ k) && decide (k ≤ 112)) = false := by simp; omega
    rw [hdv] at HD
    have e : trapOf k d.toNat a b = 0 := by unfold trapOf; rw [if_neg hk]
    rw [e]
    clear hk hdv e ha hb
    go_enter Tryd.func34, Tryd.ntmps34
    go_wp2_with (go_at_call 28; refine (HD.out _).mono ?_; rintro e w' ⟨rfl, m, rfl⟩)
    go_ret
    exact ⟨rfl, _, rfl⟩

theorem likeOf_any (r : Rn) (op : Int) (w : World) (h1 : 0 ≤ r.first ∧ r.first ≤ 1000) (h2 : 0 ≤ r.like ∧ r.like ≤ 1000) (h3 : 0 ≤ op ∧ op ≤ 1000) :
    Calls Tryd.prog 29 #[.agg (cellsR r).toArray, .int .i64 op] w fun e w' => e = .returned (.int .i64 (op - r.first + r.like)) ∧ Below w.heap.size w w' := by
  obtain ⟨a1, a2⟩ := h1
  obtain ⟨a3, a4⟩ := h2
  obtain ⟨a5, a6⟩ := h3
  show Calls _ _ #[.agg #[.int .i64 r.first, .int .i64 r.last, .int .i64 r.like, .int .i64 r.of, .int .i64 r.takes, .int .i64 r.answers], .int .i64 op] w _
  go_enter Tryd.func29, Tryd.ntmps29
  go_wp2
  go_ret
  exact ⟨rfl, made_below _ _⟩

end Go.Proofs.YtmikhbpffmojhaaDoor.nm
