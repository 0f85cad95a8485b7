/- GraphLoops: whatever the graph, the program's loops are the document's, or both refuse it. -/
import Derived.Test.YtcghekbbaeejaaaGLoopR
import Derived.Test.YtcghekbbaeejaaaGComm
set_option linter.unusedVariables false
set_option linter.unusedSimpArgs false
namespace Go.Proofs.Ytcghekbbaeejaaa.gr
open Go.ChangeShapes Go.WideShapes Go.ChangeAt Go.RowKit Go.Proofs.Ytcghekbbaeejaaa.Gr

set_option maxRecDepth 100000 in
set_option maxHeartbeats 4000000 in
theorem refLoops_bad (v : Value) (L : List (List Int)) (w : World) (h : RdG w v L) (hl : L.length ≤ 140737488351232) (hr : rightB L = false) :
    Calls Try.prog 23 #[v] w fun e w' => e = .returned (.tuple #[.slice none 0 0, .int .i64 1]) ∧ w = w' := by
  have HR := Lib.hid (refFrom_bad v L w h hl hr)
  clear hr
  go_enter Try.func23, Try.ntmps23
  go_wp2_with (go_at_call 13; refine HR.out.mono ?_; rintro e w1 ⟨rfl, rfl⟩)
  go_ret2
  exact ⟨rfl, rfl⟩

/-- how a row of loops reads -/
def RdP (w : World) (v : Value) (L : List (Nat × List Nat)) : Prop := ∃ ao cap, v = .slice ao L.length cap ∧ L.length ≤ cap ∧ (L = [] ∨ ∃ g, ao = some ⟨g, 0, none⟩ ∧ ∀ k (hk : k < L.length), ∃ u, w.cell? ⟨g, k * 2, none⟩ = some (.int .i64 (L[k].1 : Nat)) ∧ w.cell? ⟨g, k * 2 + 1, none⟩ = some u ∧ gi.Rd w u (up L[k].2))
theorem rdP_of {w : World} {B T : Nat} {v : Value} {L : List (Nat × List Nat)} {ls : List (Nat × List Nat × Value)} (h1 : ls.map (fun t => (t.1, t.2.1)) = L) (h2 : w.ownsRow B T 2 v ls.length (flatL ls)) (h3 : ∀ t ∈ ls, gi.Own w B t.2.2 (up t.2.1)) : RdP w v L := by
  subst h1
  have hc := h2
  rcases h2.2 with ⟨rfl, e⟩ | ⟨g, cap, cur, rfl, _, hg, hn, _, hs, ht⟩
  · have : ls = [] := List.eq_nil_of_length_eq_zero e
    subst this
    exact ⟨none, 0, rfl, Nat.le_refl _, .inl rfl⟩
  · refine ⟨some ⟨g, 0, none⟩, cap, by rw [List.length_map], by rw [List.length_map]; exact hn, .inr ⟨g, rfl, fun k hk => ?_⟩⟩
    rw [List.length_map] at hk
    obtain ⟨f1, f2⟩ := flatL_get ls k hk
    have c1 := World.ownsRow.cells hc (g := g) rfl _ _ f1
    have c2 := World.ownsRow.cells hc (g := g) rfl _ _ f2
    rw [gi.add_lit, Nat.zero_add] at c1 c2
    refine ⟨ls[k].2.2, by rw [List.getElem_map, Nat.mul_comm]; exact c1, by rw [Nat.mul_comm]; exact c2, ?_⟩
    rw [List.getElem_map]
    exact (h3 _ (List.getElem_mem hk)).rd
theorem LP.rdP {w : World} {B : Nat} {v : Value} {L : List (Nat × List Nat)} (h : LP w B v L) : RdP w v L := by obtain ⟨ls, h1, h2, h3⟩ := h; exact rdP_of h1 h2 h3
theorem LPr.rdP {w : World} {B : Nat} {v : Value} {L : List (Nat × List Nat)} (h : LPr w B v L) : RdP w v L := by obtain ⟨ls, h1, h2, h3⟩ := h; exact rdP_of h1 h2 h3
theorem RdP.lift {w w' : World} {v : Value} {L : List (Nat × List Nat)} (h : RdP w v L) (hb : Below w.heap.size w w') : RdP w' v L := by
  obtain ⟨ao, cap, rfl, hc, h⟩ := h
  refine ⟨ao, cap, rfl, hc, ?_⟩
  rcases h with rfl | ⟨g, rfl, h⟩
  · exact .inl rfl
  · refine .inr ⟨g, rfl, fun k hk => ?_⟩
    obtain ⟨u, h1, h2, h3⟩ := h k hk
    exact ⟨u, by rw [hb.cell (p := ⟨g, k * 2, none⟩) (World.block_lt_of_cell? _ _ h1)]; exact h1, by rw [hb.cell (p := ⟨g, k * 2 + 1, none⟩) (World.block_lt_of_cell? _ _ h2)]; exact h2, h3.lift hb⟩
theorem loopsL_nodes {G : List (List Nat)} : ∀ k (hk : k < (loopsL G).length), (loopsL G)[k].2.length ≤ G.length := by
  intro k hk
  have : (loopsL G)[k] ∈ loopsL G := List.getElem_mem hk
  unfold loopsL loopsI at this
  obtain ⟨h, _, e⟩ := List.mem_map.1 this
  have e2 : (loopsL G)[k].2 = nodesL G h := by unfold loopsL loopsI; rw [← e]
  rw [e2]; exact nodesI_len G h G.length

set_option maxRecDepth 100000 in
set_option maxHeartbeats 8000000 in
theorem loops7_bad (v : Value) (L : List (List Int)) (w : World) (h : RdG w v L) (hl : L.length ≤ 140737488351232) (hr : rightB L = false) :
    Calls Try.prog 6 #[v] w fun e w' => e = .returned (.bool true) ∧ Below w.heap.size w w' := by
  have HA := Lib.hid (fun w' => alive_any w')
  have HP := Lib.hid (loops_bad v L w h hl hr)
  have HR := Lib.hid (refLoops_bad v L w h hl hr)
  clear hr h
  go_enter Try.func6, Try.ntmps6
  go_wp2_with fail
  refine HP.out.mono ?_
  rintro e w1 ⟨rfl, rfl⟩
  go_wp2_with fail
  refine HR.out.mono ?_
  rintro e w1 ⟨rfl, rfl⟩
  go_wp2
  go_loopw [30] (fun y wx => y = .int .i64 0 ∧ wx = w) (fun _ _ => 0)
  case atStart => exact ⟨rfl, rfl⟩
  case round =>
    obtain ⟨rfl, rfl⟩ := hrel
    go_wp2_with fail
    refine (HA.out _).mono ?_
    rintro e w2 ⟨rfl, hb⟩
    go_wp2
    go_ret
    exact ⟨rfl, hb⟩
end Go.Proofs.Ytcghekbbaeejaaa.gr
