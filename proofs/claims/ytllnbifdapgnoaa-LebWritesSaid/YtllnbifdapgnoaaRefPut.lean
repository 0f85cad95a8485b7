/- The contracts of the document's own PutU, PutS, of Same, and of leb.Size. -/
import Derived.Test.YtllnbifdapgnoaaBytes
import Derived.Laws.BytesArg
namespace Go.Proofs.Ytllnbifdapgnoaa.lb
open Go.RowKit

theorem run_convert_rd {w : World} {v : Value} {l : List Int} (h : Rd w v l) : (convert 22 9 v).run Try.prog w = .ok (.string (strOfNums l)) w := by
  obtain ⟨ao, cap, rfl, hc, hz, h⟩ := h
  rcases h with rfl | ⟨b, off, rfl, h⟩
  · cases ao with
    | none => exact run_convert_bytes_nil w 22 5 Try.underlying22 Try.underlying5 _ _ _ Try.underlying9
    | some ad =>
      rw [run_convert_bytes_string w 22 9 5 _ _ cap Try.underlying22 Try.underlying5 Try.underlying9]
      simp only [List.length_nil]
      rw [run_bytesToString w ad 0 cap [] (by
        have := run_loadCells_list (P := Try.prog) w ad [] (fun j v hj => by simp at hj)
        simpa using this)]
      rfl
  · exact run_convert_bytes_arg w 22 5 Try.underlying22 Try.underlying5 b off l.length cap l rfl h _ Try.underlying9

set_option maxHeartbeats 400000 in
theorem same_any (u v : Value) (l : List Int) (w : World) (hu : Rd w u l) (hv : Rd w v l) :
    Calls Try.prog 10 #[u, v] w fun e w' => e = .returned (.bool true) ∧ w = w' := by
  have h1 := run_convert_rd hu
  have h2 := run_convert_rd hv
  obtain ⟨s, hs⟩ : ∃ s, s = strOfNums l := ⟨_, rfl⟩
  rw [← hs] at h1 h2
  clear hs hu hv
  go_enter Try.func10, Try.ntmps10
  go_wp2
  go_ret
  exact ⟨by simp, rfl⟩

set_option maxHeartbeats 1000000 in
theorem refPutU_any (v : Value) (l : List Int) (n : Int) (w : World) (hv : Rd w v l) (hl : l.length ≤ 140737488355000) (h0 : 0 ≤ n) (h1 : n < 18446744073709551616) :
    Calls Try.prog 12 #[v, .int .u64 n] w fun e w' => ∃ v', e = .returned v' ∧ Own w' w.heap.size v' (l ++ encU n) ∧ Below w.heap.size w w' := by
  go_enter Try.func12, Try.ntmps12
  go_wp2_with (at_builtin; refine wpList_append_bytes (.const (.slice none 0 0)) (.tmp 6) rfl rfl rfl (Own.nil w w.heap.size) rfl hv (by simp; omega) (Nat.le_refl _) (Below.refl w.heap.size w) ?_; intro v2 w2 hown hB2; simp only [List.nil_append] at hown)
  go_loopw [1, 5] (fun i v wr => ∃ (pre : List Int) (m : Int), 0 ≤ m ∧ m < 18446744073709551616 ∧ i = .int .u64 m ∧ Hid (encU n = pre ++ encU m) ∧ Own wr w.heap.size v (l ++ pre) ∧ Below w.heap.size w wr)
    (fun i _ _ => (intOf i).toNat)
  case atStart => exact ⟨[], n, h0, h1, rfl, rfl, by rw [List.append_nil]; exact hown, hB2⟩
  case round =>
    obtain ⟨pre, m, hm0, hm1, rfl, He, Ho, hBr⟩ := hrel
    have hlen : (l ++ pre).length + 1 ≤ 140737488355328 := by
      have := encU_len h0 h1; rw [He.out, List.length_append] at this; have := encU_pos m; rw [List.length_append]; omega
    have Hbase := hBr.size
    by_cases hc : m < 128
    · have He' : Hid (l ++ pre ++ [m] = l ++ encU n) := by show _ = _; rw [He.out, encU_lt hc, List.append_assoc]
      go_wp2_with (at_builtin; refine wpList_append_byte (.tmp 19) (.tmp 22) rfl rfl rfl Ho m rfl hlen Hbase hBr ?_; intro v' w1 Ho1 hB1)
      go_ret
      exact ⟨_, rfl, by rw [← He'.out]; exact Ho1, hB1⟩
    · have hb : bits .and .u64 m 127 = m % 128 := by
        rw [u64_and m 127 hm0 hm1 (by decide) (by decide)]; exact and_127 m hm0
      go_wp2_with (at_builtin; refine wpList_append_byte (.tmp 10) (.tmp 15) rfl rfl rfl Ho (m % 128 + 128) rfl hlen Hbase hBr ?_; intro v' w1 Ho1 hB1)
      go_roundw
      case rel => exact ⟨pre ++ [m % 128 + 128], m / 128, by omega, by omega, rfl, by show _ = _; rw [He.out, encU_ge (by omega), List.append_assoc]; rfl, by rw [← List.append_assoc]; exact Ho1, hB1⟩
      case measure => simp [intOf]; omega

set_option maxHeartbeats 1000000 in
theorem refPutS_any (v : Value) (l : List Int) (n : Int) (w : World) (hv : Rd w v l) (hl : l.length ≤ 140737488355000) (h0 : -9223372036854775808 ≤ n) (h1 : n < 9223372036854775808) :
    Calls Try.prog 14 #[v, .int .i64 n] w fun e w' => ∃ v', e = .returned v' ∧ Own w' w.heap.size v' (l ++ encS n) ∧ Below w.heap.size w w' := by
  go_enter Try.func14, Try.ntmps14
  go_wp2_with (at_builtin; refine wpList_append_bytes (.const (.slice none 0 0)) (.tmp 6) rfl rfl rfl (Own.nil w w.heap.size) rfl hv (by simp; omega) (Nat.le_refl _) (Below.refl w.heap.size w) ?_; intro v2 w2 hown hB2; simp only [List.nil_append] at hown)
  go_loopw [1, 5] (fun i v wr => ∃ (pre : List Int) (m : Int), -9223372036854775808 ≤ m ∧ m < 9223372036854775808 ∧ i = .int .i64 m ∧ Hid (encS n = pre ++ encS m) ∧ Own wr w.heap.size v (l ++ pre) ∧ Below w.heap.size w wr)
    (fun i _ _ => (intOf i).natAbs)
  case atStart => exact ⟨[], n, h0, h1, rfl, rfl, by rw [List.append_nil]; exact hown, hB2⟩
  case round =>
    obtain ⟨pre, m, hm0, hm1, rfl, He, Ho, hBr⟩ := hrel
    have hlen : (l ++ pre).length + 1 ≤ 140737488355328 := by
      have := encS_len h0 h1; rw [He.out, List.length_append] at this; have := encS_pos m; rw [List.length_append]; omega
    have Hbase := hBr.size
    have hb := i64_and127 m
    by_cases hc : -64 ≤ m ∧ m < 64
    · have He' : Hid (l ++ pre ++ [m % 128] = l ++ encS n) := by show _ = _; rw [He.out, encS_in hc.1 hc.2, List.append_assoc]
      have hc1 : decide (m < -64) = false := by simp; omega
      have hc2 : decide (63 < m) = false := by simp; omega
      go_wp2_with (at_builtin; refine wpList_append_byte (.tmp 23) (.tmp 27) rfl rfl rfl Ho (m % 128) rfl hlen Hbase hBr ?_; intro v' w1 Ho1 hB1)
      go_ret
      exact ⟨_, rfl, by rw [← He'.out]; exact Ho1, hB1⟩
    · have Hc := Lib.hid hc
      clear hc
      by_cases hlo : m < -64
      all_goals
        have hhi : decide (63 < m) = true ∨ m < -64 := by by_cases h : m < -64; exact .inr h; exact .inl (by have := Hc.out; simp; omega)
        rcases hhi with hhi | hhi
        all_goals
          first
          | (exfalso; omega)
          | (go_wp2_with (at_builtin; refine wpList_append_byte (.tmp 14) (.tmp 19) rfl rfl rfl Ho (m % 128 + 128) rfl hlen Hbase hBr ?_; intro v' w1 Ho1 hB1)
             go_roundw
             case rel => exact ⟨pre ++ [m % 128 + 128], m / 128, by omega, by omega, rfl, by show _ = _; rw [He.out, encS_out Hc.out, List.append_assoc]; rfl, by rw [← List.append_assoc]; exact Ho1, hB1⟩
             case measure => have := Hc.out; simp [intOf]; omega)

set_option maxHeartbeats 400000 in
theorem size_any (n : Int) (w : World) (h0 : 0 ≤ n) (h1 : n < 18446744073709551616) :
    Calls Try.prog 15 #[.int .u64 n] w fun e w' => e = .returned (.int .i64 (encU n).length) ∧ w = w' := by
  go_enter Try.func15, Try.ntmps15
  go_wp2
  go_loop [0, 3] (fun i k => ∃ (m : Int) (j : Nat), 0 ≤ m ∧ m < 18446744073709551616 ∧ i = .int .u64 m ∧ k = .int .i64 j ∧ Hid ((encU n).length + 1 = j + (encU m).length) ∧ j ≤ 10)
    (fun i _ => (intOf i).toNat)
  case atStart => exact ⟨n, 1, h0, h1, rfl, rfl, by show _ = _; omega, by omega⟩
  case round =>
    obtain ⟨m, j, hm0, hm1, rfl, rfl, He, hj⟩ := hrel
    by_cases hc : m < 128
    · go_wp2
      go_ret
      exact ⟨ret_int (by have := He.out; rw [encU_lt hc] at this; simp at this; omega), rfl⟩
    · go_wp2
      go_round
      case rel =>
        have h := He.out
        have h' : (encU m).length = (encU (m / 128)).length + 1 := by rw [encU_ge (by omega)]; rfl
        have := encU_len h0 h1
        have := encU_pos (m / 128)
        exact ⟨m / 128, j + 1, by omega, by omega, rfl, by go_num, by show _ = _; omega, by omega⟩
      case measure => simp [intOf]; omega
end Go.Proofs.Ytllnbifdapgnoaa.lb
