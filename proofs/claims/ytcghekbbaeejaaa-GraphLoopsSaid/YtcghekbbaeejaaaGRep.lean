/- slices.Repeat of one number. -/
import Derived.Test.YtcghekbbaeejaaaGFromR
import Derived.Laws.MathBits
import Derived.Laws.CopyOwn
import Derived.Deep.RegionLaw
import Derived.IntWalk
import Derived.OwnWalk
import Derived.Deep.RegionHeld3
set_option linter.unusedVariables false
set_option linter.unusedSimpArgs false
namespace Go.Proofs.Ytcghekbbaeejaaa.gr
open Go.RowKit Go.Proofs.Ytcghekbbaeejaaa.Gr

set_option maxRecDepth 100000 in
set_option maxHeartbeats 2000000 in
theorem mul64_one (n : Nat) (w : World) (hn : n ≤ 256) :
    Calls Try.prog 43 #[.int .u64 1, .int .u64 (n : Int)] w fun e w' => e = .returned (.tuple #[.int .u64 0, .int .u64 (n : Int)]) ∧ w = w' := by
  have a1 : bits .and .u64 1 4294967295 = 1 := by rw [and_low32 1 (by omega) (by omega)]; rfl
  have a2 : bits .and .u64 (n : Int) 4294967295 = (n : Int) := by rw [and_low32 _ (by omega) (by omega)]; omega
  have d1 : (n : Int) / 4294967296 = 0 := by omega
  have a0 : bits .and .u64 0 4294967295 = 0 := by rw [and_low32 0 (by omega) (by omega)]; rfl
  go_enter Try.func43, Try.ntmps43
  go_wp2
  go_ret2
  exact ⟨rfl, rfl⟩

set_option maxRecDepth 100000 in
set_option maxHeartbeats 2000000 in
theorem mul_one (n : Nat) (w : World) (hn : n ≤ 256) :
    Calls Try.prog 39 #[.int .u64 1, .int .u64 (n : Int)] w fun e w' => e = .returned (.tuple #[.int .u64 0, .int .u64 (n : Int)]) ∧ w = w' := by
  have HM := Lib.hid (fun w' => mul64_one n w' hn)
  go_enter Try.func39, Try.ntmps39
  go_wp2_with (go_at_call 43; refine (HM.out _).mono ?_; rintro e w1 ⟨rfl, rfl⟩)
  go_ret2
  exact ⟨rfl, rfl⟩

/-- so many of c, then 0 -/
def repL (c : Int) (n k : Nat) : List Value := List.replicate k (.int .i64 c) ++ List.replicate (n - k) (.int .i64 0)
theorem repL_len (c : Int) {n k : Nat} (h : k ≤ n) : (repL c n k).length = n := by unfold repL; simp; omega
theorem repL_zero (c : Int) (n : Nat) : repL c n 0 = List.replicate n (.int .i64 0) := by unfold repL; simp
theorem repL_all (c : Int) (n : Nat) : repL c n n = (List.replicate n c).map (.int .i64) := by unfold repL; simp
theorem repL_splice (c : Int) {n k m : Nat} (h : k + m ≤ n) : splice (repL c n k) k (List.replicate m (.int .i64 c)) = repL c n (k + m) := by
  unfold splice repL
  rw [List.take_append_of_le_length (by simp), List.take_of_length_le (by simp), List.length_replicate, List.drop_append, List.length_replicate]
  have e1 : List.drop (k + m) (List.replicate k (Value.int IntKind.i64 c)) = [] := List.drop_of_length_le (by simp)
  have e2 : k + m - k = m := by omega
  rw [e1, e2, List.nil_append, List.drop_replicate, ← List.append_assoc, List.replicate_append_replicate]
  congr 2; omega
theorem repL_cell {w : World} {g n k j : Nat} {c : Int} (hg : w.heap[g]? = some (.cells (repL c n k).toArray 3 (0, 0))) (hk : k ≤ n) (hj : j < k) : w.cell? ⟨g, j, none⟩ = some (.int .i64 c) := by
  rw [cell_of_row w g j _ 3 (0, 0) hg]
  unfold repL
  rw [List.getElem?_toArray, List.getElem?_append_left (by simpa using hj), List.getElem?_replicate, if_pos hj]

set_option maxRecDepth 100000 in
set_option maxHeartbeats 8000000 in
theorem repeat_any (c : Int) (p n : Nat) (w : World) (hp : w.cell? ⟨p, 0, none⟩ = some (.int .i64 c)) (hn : n ≤ 256) (h0 : 0 < n) :
    Calls Try.prog 35 #[.slice (some ⟨p, 0, none⟩) 1 1, .int .i64 (n : Int)] w fun e w' => ∃ g, e = .returned (.slice (some ⟨g, 0, none⟩) n n) ∧ gi.Own w' w.heap.size (.slice (some ⟨g, 0, none⟩) n n) (List.replicate n c) ∧ Below w.heap.size w w' := by
  have HM := Lib.hid (fun w' => mul_one n w' hn)
  have hmk := make_ints n (by omega)
  have hpl := World.block_lt_of_cell? w _ hp
  have HP := Lib.hid hp
  have HPL := Lib.hid hpl
  have Hone : Hid (∀ v ∈ [Value.int .i64 c], v.oneCell' = true) := by intro v hv; simp at hv; subst hv; rfl
  have Hnews : Hid (∀ w' : World, Below w.heap.size w w' → ∀ j v, [Value.int .i64 c][j]? = some v → w'.cell? ((⟨p, 0, none⟩ : Addr).add j) = some v) := by
    intro w' hb j v hj
    match j, hj with
    | 0, hj => simp at hj; subst hj; rw [gi.add_lit, hb.cell (p := ⟨p, 0 + 0, none⟩) hpl]; exact hp
  have Hgr : Hid (Below w.heap.size w (w.alloc (.cells (Array.replicate n (Value.int .i64 0)) 3))) := bnextA (Below.refl _ _) _
  have Hh : Hid ((w.alloc (.cells (Array.replicate n (Value.int .i64 0)) 3)).heap[w.heap.size]? = some (.cells (repL c n 0).toArray 3 (0, 0))) := by
    show _ = _
    rw [repL_zero, List.toArray_replicate]; exact heap_alloc_new w _
  have HL0 : Hid ((repL c n 0).length = n) := repL_len c (Nat.zero_le _)
  have Hmin : Hid ([Value.int .i64 c].length = Nat.min 1 n) := by show 1 = Nat.min 1 n; simp [Nat.min_def]; omega
  have Hfit : Hid (0 + [Value.int .i64 c].length ≤ (repL c n 0).length) := by show 0 + 1 ≤ _; rw [HL0.out]; omega
  have Hpos : Hid (0 < [Value.int .i64 c].length → ∃ ad, (some ⟨p, 0, none⟩ : Option Addr) = some ad ∧ ∀ j v, [Value.int .i64 c][j]? = some v → (w.alloc (.cells (Array.replicate n (Value.int .i64 0)) 3)).cell? (ad.add j) = some v) := fun _ => ⟨_, rfl, Hnews.out _ Hgr.out⟩
  clear hp hpl
  go_enter Try.func35, Try.ntmps35
  go_wp2_with (first
    | (go_at_call 39; refine (HM.out _).mono ?_; rintro e w1 ⟨rfl, rfl⟩)
    | (with_reducible refine wpList_copy_splice rfl (.tmp 31) (.tmp 32) 23 23 rfl 3 Try.underlying23 gi.size5 (some ⟨w.heap.size, 0, none⟩) (some ⟨p, 0, none⟩) n n 1 1 rfl rfl w.heap.size 0 (repL c n 0) 3 Hh.out [.int .i64 c] Hmin.out (fun h => ⟨rfl, Hpos.out h⟩) Hfit.out Hone.out w.heap.size w Hgr.out (Nat.le_refl _) ?_; intro w4 hg4 hb4))
  have HG1 : Hid (w4.heap[w.heap.size]? = some (.cells (repL c n 1).toArray 3 (0, 0))) := by
    have := repL_splice c (n := n) (k := 0) (m := 1) (by omega)
    rw [Nat.zero_add] at this
    show _ = _
    rw [← this]; exact hg4.out
  clear hg4
  have HB1 := Lib.hid hb4
  clear hb4
  go_wp2
  go_loopw [8] (fun y wr => ∃ k : Nat, y = .int .i64 k ∧ 1 ≤ k ∧ k ≤ n ∧ Hid (wr.heap[w.heap.size]? = some (.cells (repL c n k).toArray 3 (0, 0))) ∧ Hid (Below w.heap.size w wr)) (fun y _ => n - (intOf y).toNat)
  case atStart => exact ⟨1, rfl, by omega, by omega, HG1, HB1⟩
  case round =>
    obtain ⟨k, rfl, hk1, hk2, HG, HB⟩ := hrel
    by_cases hlt : k < n
    · have hkn : (k : Int) < n := by omega
      have hk0 : (0 : Int) ≤ (k : Int) := by omega
      have hkn' : (k : Int) ≤ n := by omega
      have hne : ¬ n = k := by omega
      obtain ⟨m, hm⟩ : ∃ m, Nat.min k (n - k) = m := ⟨_, rfl⟩
      have hm1 : m ≤ k ∧ m ≤ n - k ∧ 0 < m := by rw [← hm]; simp only [Nat.min_def]; split <;> omega
      have Hmin : Hid ((List.replicate m (Value.int .i64 c)).length = Nat.min k (n - k)) := by show _ = _; rw [List.length_replicate, hm]
      have Hfit : Hid (k + (List.replicate m (Value.int .i64 c)).length ≤ (repL c n k).length) := by show _ ≤ _; rw [List.length_replicate, repL_len c hk2]; omega
      have Hone2 : Hid (∀ v ∈ List.replicate m (Value.int .i64 c), v.oneCell' = true) := fun v hv => by rw [List.eq_of_mem_replicate hv]; rfl
      have Hsrc : Hid (0 < (List.replicate m (Value.int .i64 c)).length → ∃ ad, (some ⟨w.heap.size, 0, none⟩ : Option Addr) = some ad ∧ ∀ j v, (List.replicate m (Value.int .i64 c))[j]? = some v → wr.drew.cell? (ad.add j) = some v) := fun _ => ⟨_, rfl, fun j v hj => by
        rw [List.getElem?_replicate] at hj
        split at hj
        · cases hj
          rw [gi.add_lit, Nat.zero_add]
          exact repL_cell HG.out hk2 (by omega)
        · cases hj⟩
      have HGd : Hid (wr.drew.heap[w.heap.size]? = some (.cells (repL c n k).toArray 3 (0, 0))) := HG
      have HBd : Hid (Below w.heap.size w wr.drew) := Lib.hid HB.out.drew
      have HSP := Lib.hid (repL_splice c (n := n) (k := k) (m := m) (by omega))
      have hsum : IntKind.i64.wrap ((k : Int) + (m : Int)) = (k : Int) + (m : Int) := IntWalk.i64_in _ (by omega)
      have HM1 := Lib.hid hm1
      clear hm hm1
      go_wp2_with fail
      go_region_held3 (fun _ => True) (trivial) ((refine step_copy_splice (by rfl) (.tmp 41) (.tmp 44) 23 23 (by rfl) 3 Try.underlying23 gi.size5 (some ⟨w.heap.size, k, none⟩) (some ⟨w.heap.size, 0, none⟩) (n - k) (n - k) k n (by rfl) (by rfl) w.heap.size k (repL c n k) 3 HGd.out (List.replicate m (.int .i64 c)) Hmin.out (fun h => ⟨rfl, Hsrc.out h⟩) Hfit.out Hone2.out w.heap.size w HBd.out (Nat.le_refl _) ?_; intro w4 hg4 hb4; rw [List.length_replicate]))
      have h4 : w4.heap[w.heap.size]? = some (.cells (repL c n (k + m)).toArray 3 (0, 0)) := by rw [← HSP.out]; exact hg4.out
      have H4 := Lib.hid h4
      have HB4 := Lib.hid hb4
      clear h4 hg4 hb4
      go_wp2
      have hm2 := HM1.out
      exact ⟨⟨k + m, by rw [Int.natCast_add], by omega, by omega, H4, HB4⟩, by simp [intOf]; omega⟩
    · obtain rfl : k = n := by omega
      go_wp2
      go_ret
      have ho := ow_new (w := wr) (B := w.heap.size) (g := w.heap.size) (cap := k) (T := 3) (cs := (repL c k k).toArray) (Nat.le_refl _) HG.out (by simp [repL_len]) (by unfold maxLen; omega)
      refine ⟨w.heap.size, rfl, ?_, HB.out⟩
      rw [gi_ow, ← repL_all]; exact ho
end Go.Proofs.Ytcghekbbaeejaaa.gr
