/- The contracts of leb.put: bytes that came in, and a number's groups behind them, in memory of the call's own. -/
import Derived.Test.YtllnbifdapgnoaaBytes
namespace Go.Proofs.Ytllnbifdapgnoaa.lb
open Go.RowKit

/-- the facts for the make and the copy, ahead of the walk -/
theorem put_facts {w : World} {v : Value} {l : List Int} (hv : Rd w v l) (hl : l.length ≤ 140737488355000) (r : Nat) (ri : Int) (hri : ri = r) (hr : r ≤ 100) :
    ∃ ao cap, ∃ zs cs : List Value, v = .slice ao l.length cap ∧ cs = l.map (.int .u8) ∧ zs.length = l.length + r ∧
      (∀ u : World, (Instr.makeSlice 22 (.int .i64 (l.length : Int)) (.int .i64 ((l.length : Int) + ri))).run Try.prog u =
        .ok (.slice (some ⟨u.heap.size, 0, none⟩) l.length (l.length + r)) (u.alloc (.cells zs.toArray 5))) ∧
      (0 < cs.length → (some ⟨w.heap.size, 0, none⟩ : Option Addr) = some ⟨w.heap.size, 0, none⟩ ∧ ∃ ad, ao = some ad ∧ ∀ j v, cs[j]? = some v → (w.alloc (.cells zs.toArray 5)).cell? (ad.add j) = some v) ∧
      (∀ u ∈ cs, u.oneCell' = true) ∧ cs.length = Nat.min l.length l.length ∧ 0 + cs.length ≤ zs.length := by
  subst hri
  obtain ⟨i0, hi, hz0, hz1, hz2⟩ := info_parts info5
  obtain ⟨ao, cap, rfl, hcap, _, hcells⟩ := hv
  obtain ⟨zs, hzs⟩ : ∃ zs : List Value, madeCells #[.int .u8 0] (l.length + r) = zs.toArray := ⟨(madeCells #[.int .u8 0] (l.length + r)).toList, by simp⟩
  have hzl : zs.length = l.length + r := by
    have := congrArg Array.size hzs
    rw [size_madeCells] at this
    simpa using this.symm
  have hcl : (l.map (Value.int .u8)).length = l.length := List.length_map _
  refine ⟨ao, cap, zs, _, rfl, rfl, hzl, fun u => ?_, fun hp => ⟨rfl, ?_⟩, ints_oneCell _ _, by rw [hcl]; exact (Nat.min_self _).symm, by rw [hcl, hzl]; omega⟩
  · have h := run_make (P := Try.prog) u 22 5 i0 (.int .u8 0) Try.underlying22 hi hz0 .i64 .i64 (l.length : Int) ((l.length : Int) + r) (by omega) (by omega) (by rw [hz2]; omega) (by omega)
    have e : ((l.length : Int) + r).toNat = l.length + r := by omega
    rw [e] at h
    rw [← hzs]
    simpa [hz1, Value.cells] using h
  · rw [hcl] at hp
    rcases hcells with h | ⟨b, off, rfl, hc⟩
    · subst h; simp at hp
    · refine ⟨_, rfl, fun j u hu => ?_⟩
      obtain ⟨hj, rfl⟩ := map_get hu
      rw [add_lit, World.cell?_alloc_past _ _ _ (World.block_lt_of_cell? w _ (hc j hj))]
      exact hc j hj

set_option maxHeartbeats 1000000 in
theorem putU_any (v : Value) (l : List Int) (n : Int) (w : World) (hv : Rd w v l) (hl : l.length ≤ 140737488355000) (h0 : 0 ≤ n) (h1 : n < 18446744073709551616) :
    Calls Try.prog 21 #[v, .int .u64 n] w fun e w' => ∃ v', e = .returned v' ∧ Own w' w.heap.size v' (l ++ encU n) ∧ Below w.heap.size w w' := by
  obtain ⟨ao, cap, zs, cs, rfl, hcs, hzl, hmk, hpos, hone, hmin, hfit⟩ := put_facts hv hl 10 10 rfl (by omega)
  have Hcs := Lib.hid hcs
  have Hzl := Lib.hid hzl
  have Hpos := Lib.hid hpos
  have Hone := Lib.hid hone
  have Hmin := Lib.hid hmin
  have Hfit := Lib.hid hfit
  clear hcs hzl hpos hone hmin hfit hv
  go_enter Try.func21, Try.ntmps21
  go_wp2_with (with_reducible refine wpList_copy_splice rfl (.tmp 12) (.tmp 13) 22 22 rfl 5 Try.underlying22 size5 (some ⟨w.heap.size, 0, none⟩) ao l.length (l.length + 10) l.length cap rfl rfl w.heap.size 0 zs 5 (heap_alloc_new w _) cs Hmin.out Hpos.out Hfit.out Hone.out w.heap.size w ((Below.refl _ _).alloc (Nat.le_refl _) _) (Nat.le_refl _) ?_)
  intro w2 HG hB2
  have hown : Own w2 w.heap.size (.slice (some ⟨w.heap.size, 0, none⟩) l.length (l.length + 10)) l := own_copied (Nat.le_refl _) rfl Hzl.out (by unfold maxLen; omega) (by rw [← Hcs.out]; exact HG.out)
  clear HG Hpos Hone Hmin Hfit
  go_wp2
  go_loopw [1, 5] (fun i v wr => ∃ (pre : List Int) (m : Int), 0 ≤ m ∧ m < 18446744073709551616 ∧ i = .int .u64 m ∧ Hid (encU n = pre ++ encU m) ∧ Own wr w.heap.size v (l ++ pre) ∧ Below w.heap.size w wr)
    (fun i _ _ => (intOf i).toNat)
  case atStart => exact ⟨[], n, h0, h1, rfl, rfl, by rw [List.append_nil]; exact hown, hB2⟩
  case round =>
    obtain ⟨pre, m, hm0, hm1, rfl, He, Ho, hBr⟩ := hrel
    have hlen : (l ++ pre).length + 1 ≤ 140737488355328 := by
      have := encU_len h0 h1; rw [He.out, List.length_append] at this; have := encU_pos m; rw [List.length_append]; omega
    have Hbase := hBr.size
    by_cases hc : m < 128
    · have hne : ((m % 128 : Int) != m) = false := by rw [bne_eq_false_iff_eq]; omega
      have hb := b8_and127 m hm0 (by omega)
      have He' : Hid (l ++ pre ++ [m % 128] = l ++ encU n) := by show _ = _; rw [He.out, encU_lt hc, List.append_assoc, Int.emod_eq_of_lt hm0 hc]
      go_wp2_with (first
        | (go_at_call 27; refine (lowU_any _ _ _ (by omega) (by omega)).mono ?_; rintro e w' ⟨rfl, rfl⟩)
        | (at_builtin; refine wpList_append_byte (.tmp 27) (.tmp 31) rfl rfl rfl Ho (m % 128) rfl hlen Hbase hBr ?_; intro v' w1 Ho1 hB1))
      go_ret
      exact ⟨_, rfl, by rw [← He'.out]; exact Ho1, hB1⟩
    · have hne : ((m % 128 : Int) != m) = true := by rw [bne_iff_ne]; omega
      have hb : bits .or .u8 (m % 256) 128 = m % 128 + 128 := by rw [b8_or128 _ (by omega) (by omega)]; omega
      go_wp2_with (first
        | (go_at_call 27; refine (lowU_any _ _ _ (by omega) (by omega)).mono ?_; rintro e w' ⟨rfl, rfl⟩)
        | (at_builtin; refine wpList_append_byte (.tmp 19) (.tmp 23) rfl rfl rfl Ho (m % 128 + 128) rfl hlen Hbase hBr ?_; intro v' w1 Ho1 hB1))
      go_roundw
      case rel => exact ⟨pre ++ [m % 128 + 128], m / 128, by omega, by omega, rfl, by show _ = _; rw [He.out, encU_ge (by omega), List.append_assoc]; rfl, by rw [← List.append_assoc]; exact Ho1, hB1⟩
      case measure => simp [intOf]; omega
set_option maxHeartbeats 1000000 in
theorem putS_any (v : Value) (l : List Int) (n : Int) (w : World) (hv : Rd w v l) (hl : l.length ≤ 140737488355000) (h0 : -9223372036854775808 ≤ n) (h1 : n < 9223372036854775808) :
    Calls Try.prog 22 #[v, .int .i64 n] w fun e w' => ∃ v', e = .returned v' ∧ Own w' w.heap.size v' (l ++ encS n) ∧ Below w.heap.size w w' := by
  obtain ⟨ao, cap, zs, cs, rfl, hcs, hzl, hmk, hpos, hone, hmin, hfit⟩ := put_facts hv hl 10 10 rfl (by omega)
  have Hcs := Lib.hid hcs
  have Hzl := Lib.hid hzl
  have Hpos := Lib.hid hpos
  have Hone := Lib.hid hone
  have Hmin := Lib.hid hmin
  have Hfit := Lib.hid hfit
  clear hcs hzl hpos hone hmin hfit hv
  go_enter Try.func22, Try.ntmps22
  go_wp2_with (with_reducible refine wpList_copy_splice rfl (.tmp 12) (.tmp 13) 22 22 rfl 5 Try.underlying22 size5 (some ⟨w.heap.size, 0, none⟩) ao l.length (l.length + 10) l.length cap rfl rfl w.heap.size 0 zs 5 (heap_alloc_new w _) cs Hmin.out Hpos.out Hfit.out Hone.out w.heap.size w ((Below.refl _ _).alloc (Nat.le_refl _) _) (Nat.le_refl _) ?_)
  intro w2 HG hB2
  have hown : Own w2 w.heap.size (.slice (some ⟨w.heap.size, 0, none⟩) l.length (l.length + 10)) l := own_copied (Nat.le_refl _) rfl Hzl.out (by unfold maxLen; omega) (by rw [← Hcs.out]; exact HG.out)
  clear HG Hpos Hone Hmin Hfit
  go_wp2
  go_loopw [1, 5] (fun i v wr => ∃ (pre : List Int) (m : Int), -9223372036854775808 ≤ m ∧ m < 9223372036854775808 ∧ i = .int .i64 m ∧ Hid (encS n = pre ++ encS m) ∧ Own wr w.heap.size v (l ++ pre) ∧ Below w.heap.size w wr)
    (fun i _ _ => (intOf i).natAbs)
  case atStart => exact ⟨[], n, h0, h1, rfl, rfl, by rw [List.append_nil]; exact hown, hB2⟩
  case round =>
    obtain ⟨pre, m, hm0, hm1, rfl, He, Ho, hBr⟩ := hrel
    have hlen : (l ++ pre).length + 1 ≤ 140737488355328 := by
      have := encS_len h0 h1; rw [He.out, List.length_append] at this; have := encS_pos m; rw [List.length_append]; omega
    have Hbase := hBr.size
    by_cases hc : -64 ≤ m ∧ m < 64
    · have hne : ((Int.bmod m 128 : Int) != m) = false := by rw [bne_eq_false_iff_eq]; exact (bmod7 m).2 hc
      have hb : bits .and .u8 (m % 256) 127 = m % 128 := by rw [b8_and127 _ (by omega) (by omega)]; omega
      have hc1 := hc.1
      have hc2 := hc.2
      have He' : Hid (l ++ pre ++ [m % 128] = l ++ encS n) := by show _ = _; rw [He.out, encS_in hc.1 hc.2, List.append_assoc]
      go_wp2_with (first
        | (go_at_call 28; refine (lowS_any _ _ _ (by omega) (by omega)).mono ?_; rintro e w' ⟨rfl, rfl⟩)
        | (at_builtin; refine wpList_append_byte (.tmp 27) (.tmp 31) rfl rfl rfl Ho (m % 128) rfl hlen Hbase hBr ?_; intro v' w1 Ho1 hB1))
      go_ret
      exact ⟨_, rfl, by rw [← He'.out]; exact Ho1, hB1⟩
    · have hne : ((Int.bmod m 128 : Int) != m) = true := by rw [bne_iff_ne]; exact fun h => hc ((bmod7 m).1 h)
      have Hc := Lib.hid hc
      clear hc
      have hb : bits .or .u8 (m % 256) 128 = m % 128 + 128 := by rw [b8_or128 _ (by omega) (by omega)]; omega
      go_wp2_with (first
        | (go_at_call 28; refine (lowS_any _ _ _ (by omega) (by omega)).mono ?_; rintro e w' ⟨rfl, rfl⟩)
        | (at_builtin; refine wpList_append_byte (.tmp 19) (.tmp 23) rfl rfl rfl Ho (m % 128 + 128) rfl hlen Hbase hBr ?_; intro v' w1 Ho1 hB1))
      go_roundw
      case rel => exact ⟨pre ++ [m % 128 + 128], m / 128, by omega, by omega, rfl, by show _ = _; rw [He.out, encS_out Hc.out, List.append_assoc]; rfl, by rw [← List.append_assoc]; exact Ho1, hB1⟩
      case measure => have := Hc.out; simp [intOf]; omega
end Go.Proofs.Ytllnbifdapgnoaa.lb
