/- slices.Clone of a graph; makes of rows. -/
import Derived.Test.YtcghekbbaeejaaaGRev
import Derived.Lib.SliceRun
set_option linter.unusedVariables false
set_option linter.unusedSimpArgs false
namespace Go.Proofs.Ytcghekbbaeejaaa.gr
open Go.RowKit

theorem info23 : (Try.prog.info? 23).map (fun i => (i.zero, i.size, i.bytes)) = some (some (.slice none 0 0), 1, 24) := by kernel_rfl
theorem infob : (Try.prog.info? 4).map (fun i => (i.zero, i.size, i.bytes)) = some (some (.bool false), 1, 1) := by kernel_rfl

/-- these cells are slices that read as these rows -/
def RdL (w : World) (vs : List Value) (L : List (List Int)) : Prop := vs.length = L.length ∧ ∀ k v, vs[k]? = some v → gi.Rd w v (L.getD k [])
theorem RdL.lift {w w' : World} {vs : List Value} {L : List (List Int)} (h : RdL w vs L) (hb : Below w.heap.size w w') : RdL w' vs L := ⟨h.1, fun k v hk => (h.2 k v hk).lift hb⟩
theorem RdG.cells {w : World} {v : Value} {L : List (List Int)} (h : RdG w v L) : ∃ ao cap vs, v = .slice ao L.length cap ∧ L.length ≤ cap ∧ (ao = none → cap = 0) ∧ RdL w vs L ∧ ∀ j u, vs[j]? = some u → ∃ b off, ao = some ⟨b, off, none⟩ ∧ w.cell? ⟨b, off + j, none⟩ = some u := by
  obtain ⟨ao, cap, rfl, hc, hz, h⟩ := h
  rcases h with rfl | ⟨b, off, rfl, h⟩
  · exact ⟨ao, cap, [], rfl, hc, hz, ⟨rfl, by simp⟩, by simp⟩
  · refine ⟨_, cap, (List.range L.length).map fun k => (w.cell? ⟨b, off + k, none⟩).getD undef, rfl, hc, hz, ⟨by simp, fun k v hk => ?_⟩, fun j u hj => ⟨b, off, rfl, ?_⟩⟩
    · have hk' := (List.getElem?_eq_some_iff.1 hk).1
      simp only [List.length_map, List.length_range] at hk'
      obtain ⟨u, h1, h2⟩ := h k hk'
      rw [List.getElem?_map, List.getElem?_range hk'] at hk
      simp only [Option.map_some, Option.some.injEq, h1, Option.getD_some] at hk
      subst hk; exact h2
    · have hk' := (List.getElem?_eq_some_iff.1 hj).1
      simp only [List.length_map, List.length_range] at hk'
      obtain ⟨u', h1, h2⟩ := h j hk'
      rw [List.getElem?_map, List.getElem?_range hk'] at hj
      simp only [Option.map_some, Option.some.injEq, h1, Option.getD_some] at hj
      subst hj; exact h1
theorem RdL.one {w : World} {vs : List Value} {L : List (List Int)} (h : RdL w vs L) : ∀ u ∈ vs, u.oneCell' = true := fun u hu => by
  obtain ⟨k, hk, rfl⟩ := List.getElem_of_mem hu
  obtain ⟨ao, cap, e, _⟩ := h.2 k _ (List.getElem?_eq_getElem hk)
  rw [e]; rfl

set_option maxRecDepth 100000 in
set_option maxHeartbeats 2000000 in
theorem clone_any (v : Value) (L : List (List Int)) (w : World) (h : RdG w v L) (h0 : 0 < L.length) (hl : L.length ≤ 1048576) :
    Calls Try.prog 33 #[v] w fun e w' => ∃ v' vs, e = .returned v' ∧ RdL w vs L ∧ Ow w' w.heap.size 23 v' vs ∧ Below w.heap.size w w' := by
  obtain ⟨ao, cap, vs, rfl, hc, hz, hvs, hd⟩ := h.cells
  have hvl := hvs.1
  obtain ⟨b, off, rfl⟩ : ∃ b off, ao = some ⟨b, off, none⟩ := by
    obtain ⟨b, off, e, _⟩ := hd 0 vs[0] (List.getElem?_eq_getElem (by omega))
    exact ⟨b, off, e⟩
  have hnews : ∀ (w1 : World), Below w.heap.size w w1 → ∀ j u, vs[j]? = some u → w1.cell? ((⟨b, off, none⟩ : Addr).add j) = some u := fun w1 hb j u hj => by
    obtain ⟨b', off', e, hcell⟩ := hd j u hj
    cases e
    rw [gi.add_lit, hb.cell (p := ⟨b, off + j, none⟩) (World.block_lt_of_cell? w _ hcell)]; exact hcell
  have HN := Lib.hid hnews
  have HV := Lib.hid hvs
  have HL := Lib.hid hvl
  clear hnews hd hz hvl
  have hq := fun (w : World) => Lib.run_eql_slice_nil (P := Try.prog) w 22 23 (some ⟨b, off, none⟩) L.length cap 0 0 Try.underlying22
  go_enter Try.func33, Try.ntmps33
  obtain ⟨i0, hi, hz0, hz1, hz2⟩ := info_parts info23
  have hi' := Lib.hid hi
  have hz0' := Lib.hid hz0
  have hz1' := Lib.hid hz1
  have hz2' := Lib.hid hz2
  clear hi hz0 hz1 hz2
  go_wp2_with (at_builtin; refine wpList_append_lies _ rfl (.tmp 5) (.tmp 6) 22 rfl w.heap.size 23 i0 (.slice none 0 0) 1 24 Try.underlying22 hi'.out hz0'.out hz1'.out hz2'.out rfl (by decide) _ 0 [] rfl (World.ownsRow_made w #[] 0 (Nat.le_refl _) (by decide) rfl) ⟨b, off, none⟩ L.length cap vs rfl (by rw [HL.out, Nat.mul_one]) (HN.out _ (bnextA (Below.refl _ _) _)) HV.out.one (by omega) (by unfold maxLen; omega) (by omega) (by simp) _ rfl ?_; intro g cap' w1 h1 h2 h3 h4)
  go_ret
  refine ⟨_, vs, rfl, HV.out, ?_, ?_⟩
  · unfold Ow
    rw [HL.out]
    simpa using h1
  · have hb : Below w.heap.size w (w.alloc (.cells #[] 23)) := bnextA (Below.refl _ _) _
    exact below_grown hb h2 (by simp) (fun j hj => by change some w.heap.size = some j at hj; cases hj; exact Nat.le_refl _)

/-- a make of so many numbers, all 0 -/
theorem make_ints (n : Nat) (hn : n ≤ 1048576) (u : World) : (Instr.makeSlice 23 (.int .i64 n) (.int .i64 n)).run Try.prog u =
    .ok (.slice (some ⟨u.heap.size, 0, none⟩) n n) (u.alloc (.cells (List.replicate n (Value.int .i64 0)).toArray 3)) := by
  obtain ⟨i0, hi, hz0, hz1, hz2⟩ := info_parts gi.info5
  have h := run_make (P := Try.prog) u 23 3 i0 (.int .i64 0) Try.underlying23 hi hz0 .i64 .i64 (n : Int) (n : Int) (by omega) (by omega) (by rw [hz2]; omega) (by omega)
  rw [← toList_madeCells_one]
  simpa [hz1, Value.cells] using h
theorem make_bools (n : Nat) (hn : n ≤ 1048576) (u : World) : (Instr.makeSlice 46 (.int .i64 n) (.int .i64 n)).run Try.prog u =
    .ok (.slice (some ⟨u.heap.size, 0, none⟩) n n) (u.alloc (.cells (List.replicate n (Value.bool false)).toArray 4)) := by
  obtain ⟨i0, hi, hz0, hz1, hz2⟩ := info_parts infob
  have h := run_make (P := Try.prog) u 46 4 i0 (.bool false) Try.underlying46 hi hz0 .i64 .i64 (n : Int) (n : Int) (by omega) (by omega) (by rw [hz2]; omega) (by omega)
  rw [← toList_madeCells_one]
  simpa [hz1, Value.cells] using h
theorem make_rows (n : Nat) (hn : n ≤ 1048576) (u : World) : (Instr.makeSlice 22 (.int .i64 n) (.int .i64 n)).run Try.prog u =
    .ok (.slice (some ⟨u.heap.size, 0, none⟩) n n) (u.alloc (.cells (List.replicate n (Value.slice none 0 0)).toArray 23)) := by
  obtain ⟨i0, hi, hz0, hz1, hz2⟩ := info_parts info23
  have h := run_make (P := Try.prog) u 22 23 i0 (.slice none 0 0) Try.underlying22 hi hz0 .i64 .i64 (n : Int) (n : Int) (by omega) (by omega) (by rw [hz2]; omega) (by omega)
  rw [← toList_madeCells_one]
  simpa [hz1, Value.cells] using h
end Go.Proofs.Ytcghekbbaeejaaa.gr
