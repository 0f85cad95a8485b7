/- The contracts of leb.U and leb.S: of any bytes, any place, any bits. -/
import Derived.Test.YtllnbifdapgnoaaRead
import Derived.Test.YtllnbifdapgnoaaReadS
namespace Go.Proofs.Ytllnbifdapgnoaa.lb
open Go.RowKit

def fullU (l : List Int) (at' bits : Int) : Int × Int × Int × Int :=
  if 0 ≤ at' ∧ at' ≤ l.length then (if bits = 32 then decU l at'.toNat 5 16 else if bits = 64 then decU l at'.toNat 10 2 else (0, 0, 1, at')) else (0, 0, 1, at')
def fullS (l : List Int) (at' bits : Int) : Int × Int × Int × Int :=
  if 0 ≤ at' ∧ at' ≤ l.length then (if bits = 32 then decS l at'.toNat 5 good32 else if bits = 64 then decS l at'.toNat 10 good64 else (0, 0, 1, at')) else (0, 0, 1, at')

theorem fullU_arg (l : List Int) (at' bits : Int) (h : (bits ≠ 32 ∧ bits ≠ 64) ∨ at' < 0 ∨ (l.length : Int) < at') : fullU l at' bits = (0, 0, 1, at') := by
  unfold fullU
  rcases h with ⟨h1, h2⟩ | h | h
  · rw [if_neg h1, if_neg h2]; simp
  · rw [if_neg (by omega)]
  · rw [if_neg (by omega)]
theorem fullS_arg (l : List Int) (at' bits : Int) (h : (bits ≠ 32 ∧ bits ≠ 64) ∨ at' < 0 ∨ (l.length : Int) < at') : fullS l at' bits = (0, 0, 1, at') := by
  unfold fullS
  rcases h with ⟨h1, h2⟩ | h | h
  · rw [if_neg h1, if_neg h2]; simp
  · rw [if_neg (by omega)]
  · rw [if_neg (by omega)]

theorem bcell {W w1 : World} (hb : Below W.heap.size W w1) : (∀ b o, b < W.heap.size → w1.cell? ⟨b, o, none⟩ = W.cell? ⟨b, o, none⟩) ∧ (∀ b o, b < W.heap.size → w1.frozen? ⟨b, o, none⟩ = W.frozen? ⟨b, o, none⟩) :=
  ⟨fun b o h => hb.cell (p := ⟨b, o, none⟩) h, fun b o h => hb.frozen (p := ⟨b, o, none⟩) h⟩

set_option maxHeartbeats 1000000 in
theorem readU_arg (v : Value) (l : List Int) (at' bits : Int) (w : World) (hv : Rd w v l) (h : (bits ≠ 32 ∧ bits ≠ 64) ∨ at' < 0 ∨ (l.length : Int) < at') :
    Calls Try.prog 23 #[v, .int .i64 at', .int .i64 bits] w fun e w' => e = res .u64 (fullU l at' bits) ∧ Below w.heap.size w w' := by
  rw [fullU_arg l at' bits h]
  obtain ⟨ao, cap, rfl, hcap, _, hcells⟩ := hv
  clear hcells
  by_cases h1 : bits = 32
  · subst h1
    by_cases h3 : at' < 0
    · have a1 : decide (at' < 0) = true := by simpa using h3
      go_enter Try.func23, Try.ntmps23
      go_wp2
      exact bodyPost_ret (v := .tuple #[.int .u64 0, .int .i64 0, .agg #[.int .i64 1, .int .i64 at', .int .i64 0]]) (by simp [results, Try.results23, go_sem]) rfl ⟨rfl, (Below.refl _ _).alloc (Nat.le_refl _) _⟩
    · have a1 : decide (at' < 0) = false := by simpa using h3
      have h4 : (l.length : Int) < at' := by omega
      have a2 : decide ((l.length : Int) < at') = true := by simpa using h4
      go_enter Try.func23, Try.ntmps23
      go_wp2
      exact bodyPost_ret (v := .tuple #[.int .u64 0, .int .i64 0, .agg #[.int .i64 1, .int .i64 at', .int .i64 0]]) (by simp [results, Try.results23, go_sem]) rfl ⟨rfl, (Below.refl _ _).alloc (Nat.le_refl _) _⟩
  · have b1 : (bits != 32) = true := by rw [bne_iff_ne]; exact h1
    by_cases h2 : bits = 64
    · subst h2
      clear b1 h1
      by_cases h3 : at' < 0
      · have a1 : decide (at' < 0) = true := by simpa using h3
        go_enter Try.func23, Try.ntmps23
        go_wp2
        exact bodyPost_ret (v := .tuple #[.int .u64 0, .int .i64 0, .agg #[.int .i64 1, .int .i64 at', .int .i64 0]]) (by simp [results, Try.results23, go_sem]) rfl ⟨rfl, (Below.refl _ _).alloc (Nat.le_refl _) _⟩
      · have a1 : decide (at' < 0) = false := by simpa using h3
        have h4 : (l.length : Int) < at' := by omega
        have a2 : decide ((l.length : Int) < at') = true := by simpa using h4
        go_enter Try.func23, Try.ntmps23
        go_wp2
        exact bodyPost_ret (v := .tuple #[.int .u64 0, .int .i64 0, .agg #[.int .i64 1, .int .i64 at', .int .i64 0]]) (by simp [results, Try.results23, go_sem]) rfl ⟨rfl, (Below.refl _ _).alloc (Nat.le_refl _) _⟩
    · have b2 : (bits != 64) = true := by rw [bne_iff_ne]; exact h2
      have b1' : (bits == 32) = false := by rw [beq_eq_false_iff_ne]; exact h1
      have b2' : (bits == 64) = false := by rw [beq_eq_false_iff_ne]; exact h2
      clear h1 h2 h
      go_enter Try.func23, Try.ntmps23
      go_wp2
      exact bodyPost_ret (v := .tuple #[.int .u64 0, .int .i64 0, .agg #[.int .i64 1, .int .i64 at', .int .i64 0]]) (by simp [results, Try.results23, go_sem]) rfl ⟨rfl, (Below.refl _ _).alloc (Nat.le_refl _) _⟩

theorem readU_any (v : Value) (l : List Int) (at' bits : Int) (w : World) (hv : Rd w v l) (hr : ∀ x ∈ l, 0 ≤ x ∧ x < 256) (hl : l.length ≤ 281474976710656) :
    Calls Try.prog 23 #[v, .int .i64 at', .int .i64 bits] w fun e w' => e = res .u64 (fullU l at' bits) ∧ Below w.heap.size w w' := by
  by_cases h : (bits ≠ 32 ∧ bits ≠ 64) ∨ at' < 0 ∨ (l.length : Int) < at'
  · exact readU_arg v l at' bits w hv h
  · have h0 : 0 ≤ at' := by omega
    have h1 : at' ≤ l.length := by omega
    obtain ⟨a, rfl⟩ := Int.eq_ofNat_of_zero_le h0
    have hb : bits = 32 ∨ bits = 64 := by omega
    unfold fullU
    rw [if_pos ⟨h0, h1⟩, Int.toNat_natCast]
    rcases hb with rfl | rfl
    · rw [if_pos rfl]; exact readU_32 v l a w hv hr hl (by omega)
    · rw [if_neg (by decide), if_pos rfl]; exact readU_64 v l a w hv hr hl (by omega)

set_option maxHeartbeats 400000 in
theorem U_any (v : Value) (l : List Int) (at' bits : Int) (w : World) (hv : Rd w v l) (hr : ∀ x ∈ l, 0 ≤ x ∧ x < 256) (hl : l.length ≤ 281474976710656) :
    Calls Try.prog 17 #[v, .int .i64 at', .int .i64 bits] w fun e w' => e = res .u64 (fullU l at' bits) ∧ Below w.heap.size w w' := by
  obtain ⟨r, hr'⟩ : ∃ r : Int × Int × Int × Int, r = fullU l at' bits := ⟨_, rfl⟩
  have H := fun w hv => readU_any v l at' bits w hv hr hl
  rw [← hr'] at H ⊢
  have Hv := fun o => hv.alloc o
  have HH := Lib.hid H
  have HV := Lib.hid Hv
  clear hr' H Hv hv hr
  obtain ⟨n, x, y, z⟩ := r
  go_enter Try.func17, Try.ntmps17
  go_wp2_with (go_at_call 23; refine (HH.out _ (HV.out _)).mono ?_; rintro e w2 ⟨rfl, hb2⟩; obtain ⟨hc2, hf2⟩ := bcell hb2; unfold res)
  exact bodyPost_ret (v := .tuple #[.int .u64 n, .int .i64 x, .agg #[.int .i64 y, .int .i64 z, .int .i64 0]]) (by simp [results, Try.results17, go_sem, hc2]) rfl ⟨rfl, ((((((Below.refl _ _).alloc (Nat.le_refl _) _).trans (hb2.mono (by simp))).setCell (Nat.le_refl _) _).setCell (Nat.le_refl _) _).setCell (Nat.le_refl _) _)⟩

set_option maxHeartbeats 1000000 in
theorem readS_arg (v : Value) (l : List Int) (at' bits : Int) (w : World) (hv : Rd w v l) (h : (bits ≠ 32 ∧ bits ≠ 64) ∨ at' < 0 ∨ (l.length : Int) < at') :
    Calls Try.prog 26 #[v, .int .i64 at', .int .i64 bits] w fun e w' => e = res .i64 (fullS l at' bits) ∧ Below w.heap.size w w' := by
  rw [fullS_arg l at' bits h]
  obtain ⟨ao, cap, rfl, hcap, _, hcells⟩ := hv
  clear hcells
  by_cases h1 : bits = 32
  · subst h1
    by_cases h3 : at' < 0
    · have a1 : decide (at' < 0) = true := by simpa using h3
      go_enter Try.func26, Try.ntmps26
      go_wp2
      exact bodyPost_ret (v := .tuple #[.int .i64 0, .int .i64 0, .agg #[.int .i64 1, .int .i64 at', .int .i64 0]]) (by simp [results, Try.results26, go_sem]) rfl ⟨rfl, (Below.refl _ _).alloc (Nat.le_refl _) _⟩
    · have a1 : decide (at' < 0) = false := by simpa using h3
      have h4 : (l.length : Int) < at' := by omega
      have a2 : decide ((l.length : Int) < at') = true := by simpa using h4
      go_enter Try.func26, Try.ntmps26
      go_wp2
      exact bodyPost_ret (v := .tuple #[.int .i64 0, .int .i64 0, .agg #[.int .i64 1, .int .i64 at', .int .i64 0]]) (by simp [results, Try.results26, go_sem]) rfl ⟨rfl, (Below.refl _ _).alloc (Nat.le_refl _) _⟩
  · have b1 : (bits != 32) = true := by rw [bne_iff_ne]; exact h1
    by_cases h2 : bits = 64
    · subst h2
      clear b1 h1
      by_cases h3 : at' < 0
      · have a1 : decide (at' < 0) = true := by simpa using h3
        go_enter Try.func26, Try.ntmps26
        go_wp2
        exact bodyPost_ret (v := .tuple #[.int .i64 0, .int .i64 0, .agg #[.int .i64 1, .int .i64 at', .int .i64 0]]) (by simp [results, Try.results26, go_sem]) rfl ⟨rfl, (Below.refl _ _).alloc (Nat.le_refl _) _⟩
      · have a1 : decide (at' < 0) = false := by simpa using h3
        have h4 : (l.length : Int) < at' := by omega
        have a2 : decide ((l.length : Int) < at') = true := by simpa using h4
        go_enter Try.func26, Try.ntmps26
        go_wp2
        exact bodyPost_ret (v := .tuple #[.int .i64 0, .int .i64 0, .agg #[.int .i64 1, .int .i64 at', .int .i64 0]]) (by simp [results, Try.results26, go_sem]) rfl ⟨rfl, (Below.refl _ _).alloc (Nat.le_refl _) _⟩
    · have b2 : (bits != 64) = true := by rw [bne_iff_ne]; exact h2
      have b1' : (bits == 32) = false := by rw [beq_eq_false_iff_ne]; exact h1
      have b2' : (bits == 64) = false := by rw [beq_eq_false_iff_ne]; exact h2
      clear h1 h2 h
      go_enter Try.func26, Try.ntmps26
      go_wp2
      exact bodyPost_ret (v := .tuple #[.int .i64 0, .int .i64 0, .agg #[.int .i64 1, .int .i64 at', .int .i64 0]]) (by simp [results, Try.results26, go_sem]) rfl ⟨rfl, (Below.refl _ _).alloc (Nat.le_refl _) _⟩

theorem readS_any (v : Value) (l : List Int) (at' bits : Int) (w : World) (hv : Rd w v l) (hr : ∀ x ∈ l, 0 ≤ x ∧ x < 256) (hl : l.length ≤ 281474976710656) :
    Calls Try.prog 26 #[v, .int .i64 at', .int .i64 bits] w fun e w' => e = res .i64 (fullS l at' bits) ∧ Below w.heap.size w w' := by
  by_cases h : (bits ≠ 32 ∧ bits ≠ 64) ∨ at' < 0 ∨ (l.length : Int) < at'
  · exact readS_arg v l at' bits w hv h
  · have h0 : 0 ≤ at' := by omega
    have h1 : at' ≤ l.length := by omega
    obtain ⟨a, rfl⟩ := Int.eq_ofNat_of_zero_le h0
    have hb : bits = 32 ∨ bits = 64 := by omega
    unfold fullS
    rw [if_pos ⟨h0, h1⟩, Int.toNat_natCast]
    rcases hb with rfl | rfl
    · rw [if_pos rfl]; exact readS_32 v l a w hv hr hl (by omega)
    · rw [if_neg (by decide), if_pos rfl]; exact readS_64 v l a w hv hr hl (by omega)

set_option maxHeartbeats 400000 in
theorem S_any (v : Value) (l : List Int) (at' bits : Int) (w : World) (hv : Rd w v l) (hr : ∀ x ∈ l, 0 ≤ x ∧ x < 256) (hl : l.length ≤ 281474976710656) :
    Calls Try.prog 19 #[v, .int .i64 at', .int .i64 bits] w fun e w' => e = res .i64 (fullS l at' bits) ∧ Below w.heap.size w w' := by
  obtain ⟨r, hr'⟩ : ∃ r : Int × Int × Int × Int, r = fullS l at' bits := ⟨_, rfl⟩
  have H := fun w hv => readS_any v l at' bits w hv hr hl
  rw [← hr'] at H ⊢
  have Hv := fun o => hv.alloc o
  have HH := Lib.hid H
  have HV := Lib.hid Hv
  clear hr' H Hv hv hr
  obtain ⟨n, x, y, z⟩ := r
  go_enter Try.func19, Try.ntmps19
  go_wp2_with (go_at_call 26; refine (HH.out _ (HV.out _)).mono ?_; rintro e w2 ⟨rfl, hb2⟩; obtain ⟨hc2, hf2⟩ := bcell hb2; unfold res)
  exact bodyPost_ret (v := .tuple #[.int .i64 n, .int .i64 x, .agg #[.int .i64 y, .int .i64 z, .int .i64 0]]) (by simp [results, Try.results19, go_sem, hc2]) rfl ⟨rfl, ((((((Below.refl _ _).alloc (Nat.le_refl _) _).trans (hb2.mono (by simp))).setCell (Nat.le_refl _) _).setCell (Nat.le_refl _) _).setCell (Nat.le_refl _) _)⟩
end Go.Proofs.Ytllnbifdapgnoaa.lb
