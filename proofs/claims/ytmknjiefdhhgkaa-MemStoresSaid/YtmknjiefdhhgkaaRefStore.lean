/- The contract of the document's own Store. -/
import Derived.Test.YtmknjiefdhhgkaaRefLoad
set_option linter.unusedVariables false
namespace Go.Proofs.Ytmknjiefdhhgkaa.mm
open Go.RowKit

def WhyR (w : World) (c : Int) (e : Ending) (w' : World) : Prop := e = .returned (.tuple #[.slice none 0 0, .int .i64 c]) ∧ w = w'

theorem refStore_none (v : Value) (op a f n : Int) (w : World) (h : acc op = none) : Calls Try.prog 18 #[v, .int .i64 op, .int .u64 a, .int .u64 f, .int .u64 n] w (WhyR w 1) := by
  have H := Lib.hid (fun w' => refAccess_none op w' h)
  clear h
  unfold WhyR
  go_enter Try.func18, Try.ntmps18
  go_wp2_with (go_at_call 11; refine (H.out _).mono ?_; rintro e w1 ⟨rfl, rfl⟩)
  go_ret2
  exact ⟨rfl, rfl⟩
theorem refStore_arg (v : Value) (op a f n : Int) (w : World) {k : Int} {wd : Nat} {st sg : Bool} (h : acc op = some ⟨k, wd, st, sg⟩) (hno : st = false ∨ 4294967295 < a ∨ 4294967295 < f ∨ fitB k n = false) :
    Calls Try.prog 18 #[v, .int .i64 op, .int .u64 a, .int .u64 f, .int .u64 n] w (WhyR w 1) := by
  have hk := (acc_cases h).1
  simp only at hk
  have H := Lib.hid (fun w' => refAccess_some h w')
  clear h
  unfold WhyR
  cases st
  · clear hno
    go_enter Try.func18, Try.ntmps18
    go_wp2_with (go_at_call 11; refine (H.out _).mono ?_; rintro e w1 ⟨rfl, rfl⟩)
    go_ret2
    exact ⟨rfl, rfl⟩
  · by_cases h1 : 4294967295 < a
    · clear hno
      go_enter Try.func18, Try.ntmps18
      go_wp2_with (go_at_call 11; refine (H.out _).mono ?_; rintro e w1 ⟨rfl, rfl⟩)
      go_ret2
      exact ⟨rfl, rfl⟩
    · by_cases h2 : 4294967295 < f
      · clear hno
        go_enter Try.func18, Try.ntmps18
        go_wp2_with (go_at_call 11; refine (H.out _).mono ?_; rintro e w1 ⟨rfl, rfl⟩)
        go_ret2
        exact ⟨rfl, rfl⟩
      · have h3 : fitB k n = false := by
          rcases hno with h | h | h | h
          · cases h
          · exact absurd h h1
          · exact absurd h h2
          · exact h
        have HF := Lib.hid (fun w' => h3 ▸ RefFits_any k n w' hk)
        clear hno h3 hk
        go_enter Try.func18, Try.ntmps18
        go_wp2_with (first
          | (go_at_call 11; refine (H.out _).mono ?_; rintro e w1 ⟨rfl, rfl⟩)
          | (go_at_call 30; refine (HF.out _).mono ?_; rintro e w1 ⟨rfl, rfl⟩))
        go_ret2
        exact ⟨rfl, rfl⟩
set_option maxHeartbeats 2000000 in
theorem refStore_out (v : Value) (l : List Int) (op a f n : Int) (w : World) (hv : Rd w v l) (hl : l.length ≤ 140737488355328) (a0 : 0 ≤ a) (f0 : 0 ≤ f) {k : Int} {wd : Nat} {sg : Bool} (h : acc op = some ⟨k, wd, true, sg⟩) (h1 : a ≤ 4294967295) (h2 : f ≤ 4294967295) (hf : fitB k n = true) (h3 : ¬ a + f + wd ≤ l.length) :
    Calls Try.prog 18 #[v, .int .i64 op, .int .u64 a, .int .u64 f, .int .u64 n] w (WhyR w 35) := by
  obtain ⟨hk, hw, _⟩ := acc_cases h
  simp only at hk hw
  have H := Lib.hid (fun w' => refAccess_some h w')
  have HI := RefInside_any v l (a + f) wd w hv hl (by omega) (by omega) (by omega) (by omega)
  rw [insB_at (by omega) (by omega), decide_eq_false h3] at HI
  have HI := Lib.hid HI
  have HF := Lib.hid (fun w' => hf ▸ RefFits_any k n w' hk)
  have hw8 : wd ≤ 8 := by omega
  clear h h3 hf hk hw
  unfold WhyR
  go_enter Try.func18, Try.ntmps18
  go_wp2_with fail
  refine (H.out _).mono ?_
  rintro e w1 ⟨rfl, rfl⟩
  go_wp2_with fail
  refine (HF.out _).mono ?_
  rintro e w1 ⟨rfl, rfl⟩
  go_wp2_with fail
  refine HI.out.mono ?_
  rintro e w1 ⟨rfl, rfl⟩
  go_wp2
  go_ret2
  exact ⟨rfl, rfl⟩

set_option maxRecDepth 100000 in
set_option maxHeartbeats 2000000 in
theorem refStore_in (v : Value) (l : List Int) (op : Int) (am fm : Nat) (n : Int) (w : World) (hv : Rd w v l) (hl : l.length ≤ 140737488351232) (n0 : 0 ≤ n) (n1 : n < 18446744073709551616) {k : Int} {wd : Nat} {sg : Bool} (h : acc op = some ⟨k, wd, true, sg⟩) (h1 : am ≤ 4294967295) (h2 : fm ≤ 4294967295) (hf : fitB k n = true) (h3 : am + fm + wd ≤ l.length) :
    Calls Try.prog 18 #[v, .int .i64 op, .int .u64 am, .int .u64 fm, .int .u64 n] w fun e w' => ∃ v', e = .returned (.tuple #[v', .int .i64 0]) ∧ Own w' w.heap.size v' (wrB l (am + fm) wd n) ∧ Below w.heap.size w w' := by
  obtain ⟨hk, hw, _⟩ := acc_cases h
  simp only at hk hw
  have H := Lib.hid (fun w' => refAccess_some h w')
  have HI := RefInside_any v l ((am : Int) + fm) wd w hv (by omega) (by omega) (by omega) (by omega) (by omega)
  rw [insB_at (by omega) (by omega), decide_eq_true (show (am : Int) + fm + wd ≤ l.length by omega)] at HI
  have HI := Lib.hid HI
  have HF := Lib.hid (fun w' => hf ▸ RefFits_any k n w' hk)
  have hw8 : wd ≤ 8 := by omega
  have b1 : (am : Int) ≤ 4294967295 := by omega
  have b2 : (fm : Int) ≤ 4294967295 := by omega
  have hl1 : 1 ≤ l.length := by omega
  clear h1 h2 h hk hw hf
  go_enter Try.func18, Try.ntmps18
  go_wp2_with (first
    | (go_at_call 11; refine (H.out _).mono ?_; rintro e w1 ⟨rfl, rfl⟩)
    | (go_at_call 30; refine (HF.out _).mono ?_; rintro e w1 ⟨rfl, rfl⟩)
    | (go_at_call 13; refine HI.out.mono ?_; rintro e w1 ⟨rfl, rfl⟩)
    | (at_builtin; refine wpList_append_bytes (.const (.slice none 0 0)) (.tmp 53) rfl rfl rfl (Own.nil w w.heap.size) rfl hv (by simp; omega) (Nat.le_refl _) (Below.refl w.heap.size w) ?_; intro v2 w2 hown hB2; simp only [List.nil_append] at hown))
  obtain ⟨b, cap, rfl, hb0, hb1, hcap⟩ := hown.row hl1
  go_loopw [17] (fun i wr => ∃ q : Nat, q ≤ wd ∧ i = .int .i64 q ∧ Own wr w.heap.size (.slice (some ⟨b, 0, none⟩) l.length cap) (setN n (am + fm) l (List.range q)) ∧ Below w.heap.size w wr) (fun i _ => wd - (intOf i).toNat)
  case atStart => exact ⟨0, Nat.zero_le _, rfl, hown, hB2⟩
  case round =>
    obtain ⟨q, hq, rfl, ho, hB⟩ := hrel
    have hlen : (setN n (am + fm) l (List.range q)).length = l.length := setN_length _ _ _ _
    by_cases hlt : q < wd
    · have hcell := World.ownsRow.cells ho (g := b) rfl (am + fm + q) _ (get_map (by rw [hlen]; omega))
      rw [add_lit, Nat.zero_add] at hcell
      have hfr : wr.frozen? ⟨b, am + fm + q, none⟩ = false := World.ownsRow.frozenAt (n := l.length) (by have := ho; unfold Own at this; rw [hlen] at this; exact this) (am + fm + q)
      have Ho := Lib.hid ho
      have HB := Lib.hid hB
      have Hlen := Lib.hid hlen
      have hv' : IntKind.u8.wrap (n / 2 ^ (8 * q)) = n / 256 ^ q % 256 := by
        rw [pow_256, IntKind.wrap_u8]
      have Hv := Lib.hid hv'
      clear ho hB hlen hv' hown hB2
      have e1 : (am : Int) + fm + q ≤ l.length := by omega
      go_wp2
      go_roundw
      case rel =>
        refine ⟨q + 1, by omega, by go_num, ?_, ?_⟩
        · rw [List.range_succ, setN_snoc, ← Hv.out]; exact Ho.out.store Hlen.out.symm (am + fm + q) _
        · exact HB.out.setCell (p := ⟨b, am + fm + q, none⟩) hb0 _
      case measure => simp [intOf]; omega
    · obtain rfl : q = wd := by omega
      have Ho := Lib.hid ho
      clear ho hown hlen
      go_wp2
      go_ret2
      exact ⟨_, rfl, by rw [← setN_wrB h3 (fun i => List.mem_range)]; exact Ho.out, hB⟩

theorem refStore_any (v : Value) (l : List Int) (op a f n : Int) (w : World) (hv : Rd w v l) (hl : l.length ≤ 140737488351232) (a0 : 0 ≤ a) (f0 : 0 ≤ f) (n0 : 0 ≤ n) (n1 : n < 18446744073709551616) :
    Calls Try.prog 18 #[v, .int .i64 op, .int .u64 a, .int .u64 f, .int .u64 n] w fun e w' => ∃ v', e = .returned (.tuple #[v', .int .i64 (storeR l op a f n).2]) ∧ Own w' w.heap.size v' (storeR l op a f n).1 ∧ Below w.heap.size w w' := by
  unfold storeR
  have why : ∀ {c : Int} {e : Ending} {w' : World}, WhyR w c e w' → ∃ v', e = .returned (.tuple #[v', .int .i64 c]) ∧ Own w' w.heap.size v' [] ∧ Below w.heap.size w w' := fun h => ⟨_, h.1, Own.nil _ _, by rw [h.2]; exact Below.refl _ _⟩
  cases hacc : acc op with
  | none => exact (refStore_none v op a f n w hacc).mono fun e w' h => why h
  | some A =>
    obtain ⟨k, wd, st, sg⟩ := A
    simp only
    by_cases h : st = false ∨ 4294967295 < a ∨ 4294967295 < f ∨ fitB k n = false
    · rw [if_pos h]; exact (refStore_arg v op a f n w hacc h).mono fun e w' h => why h
    · rw [if_neg h]
      obtain rfl : st = true := by cases st; exact absurd (Or.inl rfl) h; rfl
      have h1 : a ≤ 4294967295 := by
        rcases Int.lt_or_le 4294967295 a with h' | h'
        · exact absurd (Or.inr (Or.inl h')) h
        · exact h'
      have h2 : f ≤ 4294967295 := by
        rcases Int.lt_or_le 4294967295 f with h' | h'
        · exact absurd (Or.inr (Or.inr (Or.inl h'))) h
        · exact h'
      have hf : fitB k n = true := by
        cases e : fitB k n
        · exact absurd (Or.inr (Or.inr (Or.inr e))) h
        · rfl
      by_cases h3 : a + f + wd ≤ l.length
      · rw [if_pos h3]
        obtain ⟨am, rfl⟩ : ∃ n : Nat, a = n := ⟨a.toNat, by omega⟩
        obtain ⟨fm, rfl⟩ : ∃ n : Nat, f = n := ⟨f.toNat, by omega⟩
        rw [show ((am : Int) + fm).toNat = am + fm from by omega]
        exact refStore_in v l op am fm n w hv hl n0 n1 hacc (by omega) (by omega) hf (by omega)
      · rw [if_neg h3]; exact (refStore_out v l op a f n w hv (by omega) a0 f0 hacc h1 h2 hf h3).mono fun e w' h => why h
end Go.Proofs.Ytmknjiefdhhgkaa.mm
