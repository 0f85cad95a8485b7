/- The contract of num.Ops: all operators, rising. -/
import Derived.Test.YtmikhbpffmojhaaDoorOps
import Derived.Maps.AppendAt
set_option linter.unusedVariables false
namespace Go.Proofs.YtmikhbpffmojhaaDoor.nm
open Go.RowKit

section
variable {ops : Array Oper} {rest : List Oper} {o : Oper} {a : Act} {Q : Exit → Act → World → Prop} {w w0 : World} {B : Nat} {xs : List Int}
/-- append of one number, by which a block that is not the row's own keeps its cells -/
theorem wpList_append_keep (s x : Operand) (hgd : o.guard = none) (ho : o.op = .call { callee := .builtin .append, args := #[s, x], argTypes := #[22, 22] })
    {v : Value} (hs : a.eval s = v) (hown : Own w B v xs) (c : Int) (hx : a.eval x = .slice (some ⟨w.heap.size, 0, none⟩) 1 1) (hl : xs.length + 1 ≤ 1000000) (hB : B ≤ w.heap.size) (hb : Below B w0 w)
    {g : Nat} (hg : g < w.heap.size) (hgv : v.ownBlock ≠ some g)
    (h : ∀ v' w', Own w' B v' (xs ++ [c]) → Below B w0 w' → v'.ownBlock ≠ some g → g < w'.heap.size → (∀ off u, w.cell? ⟨g, off, none⟩ = some u → w'.cell? ⟨g, off, none⟩ = some u) → wpList Tryd.prog ops Q rest (a.put o.dst v') w') : wpList Tryd.prog ops Q (o :: rest) a (w.alloc (.cells #[.int .i64 c] 3)) := by
  obtain ⟨i0, hi, hz0, hz1, hz2⟩ := info_parts infoInt
  have hsz : (w.alloc (.cells #[.int .i64 c] 3)).heap.size = w.heap.size + 1 := by simp [go_sem]
  refine wpList_append_own_at (P := Tryd.prog) _ hgd s x 22 ho B 3 i0 (.int .i64 0) 1 8 Tryd.underlying22 hi hz0 hz1 hz2 rfl (by decide) v xs.length (xs.map (.int .i64)) hs (World.ownsRow.alloc hown _) ⟨w.heap.size, 0, none⟩ 1 1 [.int .i64 c] hx rfl ?_ ?_ (by unfold maxLen; omega) (by omega) (by omega) ?_
  · intro j u hj
    match j, hj with
    | 0, hj => simp at hj; subst hj; simp [Addr.add]
  · intro u hu; simp at hu; subst hu; rfl
  · intro v' w' h1 h2 _ h5
    refine h v' w' ?_ ?_ ?_ ?_ ?_
    · unfold Own; rw [List.map_append, List.length_append]; exact h1
    · exact (hb.alloc hB _).grown h2 (by omega) (fun k hk => (hown.lt k hk).1)
    · rcases h5 with h5 | h5
      · rw [h5]; exact hgv
      · rw [h5, hsz]; intro e; injection e with e; omega
    · have := h2.size; omega
    · intro off u hu
      have hcell : (w.alloc (.cells #[.int .i64 c] 3)).cell? ⟨g, off, none⟩ = some u := keeps (made_below _ _) hu
      rw [← hcell]
      exact World.cell?_of_block (h2.block g (by omega) (fun e => hgv e.symm))
end

theorem Own.alloc {w : World} {B : Nat} {v : Value} {xs : List Int} (h : Own w B v xs) (o : Obj) : Own (w.alloc o) B v xs := World.ownsRow.alloc h o

def runLen (r : Rn) : Nat := (r.last - r.first + 1).toNat
def seg (r : Rn) : Nat → List Int
  | 0 => []
  | j + 1 => seg r j ++ [r.first + (j : Int)]
def allOps : Nat → List Int
  | 0 => []
  | i + 1 => allOps i ++ seg (runsL.getD i zeroR) (runLen (runsL.getD i zeroR))
theorem allOps_eq : allOps 12 = below 256 := by decide +kernel
theorem seg_len (r : Rn) : ∀ j, (seg r j).length = j
  | 0 => rfl
  | j + 1 => by rw [seg, List.length_append, seg_len r j]; rfl
theorem allOps_len : ∀ i : Nat, i ≤ 12 → (allOps i).length ≤ 66 := by
  intro i hi
  have : ∀ k : Fin 13, (allOps k.val).length ≤ 66 := by decide +kernel
  exact this ⟨i, by omega⟩
theorem run_lens : ∀ i : Nat, i < 12 → runLen (runsL.getD i zeroR) ≤ 15 ∧ 0 ≤ (runsL.getD i zeroR).first ∧ (runsL.getD i zeroR).last ≤ 1000 ∧ (runsL.getD i zeroR).first ≤ (runsL.getD i zeroR).last := by
  intro i hi
  have : ∀ k : Fin 12, runLen (runsL.getD k.val zeroR) ≤ 15 ∧ 0 ≤ (runsL.getD k.val zeroR).first ∧ (runsL.getD k.val zeroR).last ≤ 1000 ∧ (runsL.getD k.val zeroR).first ≤ (runsL.getD k.val zeroR).last := by decide +kernel
  exact this ⟨i, hi⟩

set_option maxRecDepth 100000 in
set_option maxHeartbeats 2000000 in
theorem numOps_any (w : World) (R : Runs w) : Calls Tryd.prog 17 #[] w fun e w' => ∃ v, e = .returned v ∧ Rd .i64 w' v (below 256) ∧ Below w.heap.size w w' := by
  obtain ⟨b, off, cap, h1, h2⟩ := R
  have H2 := Lib.hid h2
  clear h2
  go_enter Tryd.func17, Tryd.ntmps17
  go_wp2
  go_loopw [1, 7] (fun v x wr => ∃ i : Nat, x = .int .i64 i ∧ i ≤ 12 ∧ Own wr w.heap.size v (allOps i) ∧ Below w.heap.size w wr) (fun _ x _ => 12 - (intOf x).toNat)
  case atStart => exact ⟨0, rfl, by omega, Own.nil _ _, Below.refl _ _⟩
  case round =>
    obtain ⟨i, rfl, hi, Ho, hB⟩ := hrel
    by_cases hc : i < 12
    · have hcell : ∀ j : Nat, j < 6 → wr.cell? ⟨b, off + i * 6 + j, none⟩ = (cellsR (runsL.getD i zeroR))[j]? := fun j hj => by
        have e := H2.out i hc j hj
        have hs : (cellsR (runsL.getD i zeroR))[j]? ≠ none := by
          rw [ne_eq, List.getElem?_eq_none_iff]; simp [cellsR]; omega
        cases hv : (cellsR (runsL.getD i zeroR))[j]? with
        | none => exact absurd hv hs
        | some u => rw [hv] at e; exact keeps hB e
      have c0 := hcell 0 (by decide)
      have c1 := hcell 1 (by decide)
      have c2 := hcell 2 (by decide)
      have c3 := hcell 3 (by decide)
      have c4 := hcell 4 (by decide)
      have c5 := hcell 5 (by decide)
      clear hcell
      obtain ⟨l1, l2, l3, l4⟩ := run_lens i hc
      have hal := allOps_len i (by omega)
      have hnext : allOps (i + 1) = allOps i ++ seg (runsL.getD i zeroR) (runLen (runsL.getD i zeroR)) := rfl
      have Hnext := Lib.hid hnext
      clear hnext
      simp only [cellsR, Nat.add_zero] at c0 c1 c2 c3 c4 c5
      generalize runsL.getD i zeroR = r at c0 c1 c2 c3 c4 c5 l1 l2 l3 l4 Hnext
      simp at c0 c1 c2 c3 c4 c5
      have t0 : (0 : Int) ≤ i ∧ (i : Int) < 12 := by omega
      have hws := hB.size
      have hown0 : _ ≠ some wr.heap.size := fun e => absurd (Ho.lt _ e).2 (Nat.lt_irrefl _)
      have hb6 := made_below wr (.cells #[.int .i64 r.first, .int .i64 r.last, .int .i64 r.like, .int .i64 r.of, .int .i64 r.takes, .int .i64 r.answers] 43)
      have HoA := Ho.alloc (.cells #[.int .i64 r.first, .int .i64 r.last, .int .i64 r.like, .int .i64 r.of, .int .i64 r.takes, .int .i64 r.answers] 43)
      have HBA := Lib.hid (bnext hB hb6)
      have HoA' := Lib.hid HoA
      have Hown0 := Lib.hid hown0
      have gz : wr.heap.size < (wr.alloc (.cells #[.int .i64 r.first, .int .i64 r.last, .int .i64 r.like, .int .i64 r.of, .int .i64 r.takes, .int .i64 r.answers] 43)).heap.size := by simp [go_sem]
      have G0 := Lib.hid (show (wr.alloc (.cells #[.int .i64 r.first, .int .i64 r.last, .int .i64 r.like, .int .i64 r.of, .int .i64 r.takes, .int .i64 r.answers] 43)).cell? ⟨wr.heap.size, 0, none⟩ = some (.int .i64 r.first) by simp [go_sem])
      have G1 := Lib.hid (show (wr.alloc (.cells #[.int .i64 r.first, .int .i64 r.last, .int .i64 r.like, .int .i64 r.of, .int .i64 r.takes, .int .i64 r.answers] 43)).cell? ⟨wr.heap.size, 1, none⟩ = some (.int .i64 r.last) by simp [go_sem])
      have GZ := Lib.hid gz
      have Hrl := Lib.hid (show r.first + (runLen r : Int) = r.last + 1 by unfold runLen; omega)
      clear hB hb6 HoA hown0 gz Ho
      go_wp2_with fail
      go_loopw [1, 4] (fun v x wq => ∃ j : Nat, x = .int .i64 (r.first + j) ∧ j ≤ runLen r ∧ Own wq w.heap.size v (allOps i ++ seg r j) ∧ Below w.heap.size w wq ∧ v.ownBlock ≠ some wr.heap.size ∧ wr.heap.size < wq.heap.size ∧ wq.cell? ⟨wr.heap.size, 0, none⟩ = some (.int .i64 r.first) ∧ wq.cell? ⟨wr.heap.size, 1, none⟩ = some (.int .i64 r.last)) (fun _ x _ => (r.last + 1 - intOf x).toNat)
      case atStart => exact ⟨0, by rw [show r.first + ((0 : Nat) : Int) = r.first from by omega], by omega, by rw [show seg r 0 = [] from rfl, List.append_nil]; exact HoA'.out, HBA.out, Hown0.out, GZ.out, G0.out, G1.out⟩
      case round =>
        obtain ⟨j, rfl, hj, Ho2, hB2, hv2, hg2, d0, d1⟩ := hrel
        have HrlO := Hrl.out
        by_cases hjc : j < runLen r
        · have hle : decide (r.first + (j : Int) ≤ r.last) = true := decide_eq_true (by omega)
          have hlen : (allOps i ++ seg r j).length + 1 ≤ 1000000 := by rw [List.length_append, seg_len]; omega
          have Hs2 := hB2.size
          have hbd : -1000 ≤ r.first + (j : Int) ∧ r.first + (j : Int) ≤ 2000 := by omega
          clear HrlO
          go_wp2_with (at_builtin; refine wpList_append_keep (.tmp 19) (.tmp 21) rfl rfl rfl Ho2 (r.first + (j : Int)) rfl hlen Hs2 hB2 hg2 hv2 ?_; intro v' w1 Ho3 hB3 hv3 hg3 hk3)
          have HrlO2 := Hrl.out
          exact ⟨⟨j + 1, by rw [show r.first + ((j + 1 : Nat) : Int) = r.first + (j : Int) + 1 from by omega], by omega, by rw [show seg r (j + 1) = seg r j ++ [r.first + (j : Int)] from rfl, ← List.append_assoc]; exact Ho3, hB3, hv3, hg3, hk3 _ _ d0, hk3 _ _ d1⟩, by simp only [intOf]; omega⟩
        · have hje : j = runLen r := by omega
          subst hje
          have hle : decide (r.first + (runLen r : Int) ≤ r.last) = false := decide_eq_false (by omega)
          clear HrlO
          go_wp2
          exact ⟨⟨i + 1, rfl, by omega, by rw [Hnext.out]; exact Ho2, hB2⟩, by simp only [intOf]; omega⟩
    · have he : i = 12 := by omega
      subst he
      rw [allOps_eq] at Ho
      go_wp2
      go_ret
      exact ⟨_, rfl, Ho.rd, hB⟩

end Go.Proofs.YtmikhbpffmojhaaDoor.nm
