/- The probe of every law: a small graph has its order, and its dominators. -/
import Derived.Test.YtcghekbbaeejaaaGLaw
set_option linter.unusedVariables false
set_option linter.unusedSimpArgs false
namespace Go.Proofs.Ytcghekbbaeejaaa.gr
open Go.RowKit Go.Proofs.Ytcghekbbaeejaaa.Gr

def G0 : List (List Nat) := [[1, 2], [3], [3], [1]]
theorem g0_right : rightB (upp G0) = true := by rfl
theorem g0_fine : Fine G0 := by
  have h := (right_nat g0_right).2
  have e : natG (upp G0) = G0 := by rfl
  rwa [e] at h
theorem g0_order : up (orderL G0) = [0, 2, 1, 3] := by rfl
theorem g0_near : nearL G0 = [-1, 0, 0, 0] := by rfl
theorem g0_dom : domB [-1, 0, 0, 0] 0 3 = true := by rfl

theorem old_at {w : World} {k : Nat} {x : Obj} (o : Obj) (h : w.heap[k]? = some x) : (w.alloc o).heap[k]? = some x := (heap_alloc_old w o k (Array.getElem?_eq_some_iff.1 h).1).trans h
theorem new_at {w : World} {k : Nat} (o : Obj) (h : w.heap.size = k) : (w.alloc o).heap[k]? = some o := by subst h; exact heap_alloc_new w o
/-- the graph that the probe builds -/
theorem g0_rd (w : World) : RdG (((((w.alloc (.cells #[.int .i64 1, .int .i64 2] 3)).alloc (.cells #[.int .i64 3] 3)).alloc (.cells #[.int .i64 3] 3)).alloc (.cells #[.int .i64 1] 3)).alloc (.cells #[.slice (some ⟨w.heap.size, 0, none⟩) 2 2, .slice (some ⟨w.heap.size + 1, 0, none⟩) 1 1, .slice (some ⟨w.heap.size + 1 + 1, 0, none⟩) 1 1, .slice (some ⟨w.heap.size + 1 + 1 + 1, 0, none⟩) 1 1] 23)) (.slice (some ⟨w.heap.size + 1 + 1 + 1 + 1, 0, none⟩) 4 4) (upp G0) := by
  have row : ∀ (y : World) (g : Nat) (cs : Array Value) (T : TypeId), y.heap[g]? = some (.cells cs T (0, 0)) → ∀ k, y.cell? ⟨g, k, none⟩ = cs[k]? := fun y g cs T h k => cell_of_row y g k cs T (0, 0) h
  have h0 := old_at (.cells #[.slice (some ⟨w.heap.size, 0, none⟩) 2 2, .slice (some ⟨w.heap.size + 1, 0, none⟩) 1 1, .slice (some ⟨w.heap.size + 1 + 1, 0, none⟩) 1 1, .slice (some ⟨w.heap.size + 1 + 1 + 1, 0, none⟩) 1 1] 23) (old_at (.cells #[.int .i64 1] 3) (old_at (.cells #[.int .i64 3] 3) (old_at (.cells #[.int .i64 3] 3) (new_at (w := w) (k := w.heap.size) (.cells #[.int .i64 1, .int .i64 2] 3) rfl))))
  have h1 := old_at (.cells #[.slice (some ⟨w.heap.size, 0, none⟩) 2 2, .slice (some ⟨w.heap.size + 1, 0, none⟩) 1 1, .slice (some ⟨w.heap.size + 1 + 1, 0, none⟩) 1 1, .slice (some ⟨w.heap.size + 1 + 1 + 1, 0, none⟩) 1 1] 23) (old_at (.cells #[.int .i64 1] 3) (old_at (.cells #[.int .i64 3] 3) (new_at (w := (w.alloc (.cells #[.int .i64 1, .int .i64 2] 3))) (k := w.heap.size + 1) (.cells #[.int .i64 3] 3) (by simp))))
  have h2 := old_at (.cells #[.slice (some ⟨w.heap.size, 0, none⟩) 2 2, .slice (some ⟨w.heap.size + 1, 0, none⟩) 1 1, .slice (some ⟨w.heap.size + 1 + 1, 0, none⟩) 1 1, .slice (some ⟨w.heap.size + 1 + 1 + 1, 0, none⟩) 1 1] 23) (old_at (.cells #[.int .i64 1] 3) (new_at (w := ((w.alloc (.cells #[.int .i64 1, .int .i64 2] 3)).alloc (.cells #[.int .i64 3] 3))) (k := w.heap.size + 1 + 1) (.cells #[.int .i64 3] 3) (by simp)))
  have h3 := old_at (.cells #[.slice (some ⟨w.heap.size, 0, none⟩) 2 2, .slice (some ⟨w.heap.size + 1, 0, none⟩) 1 1, .slice (some ⟨w.heap.size + 1 + 1, 0, none⟩) 1 1, .slice (some ⟨w.heap.size + 1 + 1 + 1, 0, none⟩) 1 1] 23) (new_at (w := (((w.alloc (.cells #[.int .i64 1, .int .i64 2] 3)).alloc (.cells #[.int .i64 3] 3)).alloc (.cells #[.int .i64 3] 3))) (k := w.heap.size + 1 + 1 + 1) (.cells #[.int .i64 1] 3) (by simp))
  have h4 := new_at (w := ((((w.alloc (.cells #[.int .i64 1, .int .i64 2] 3)).alloc (.cells #[.int .i64 3] 3)).alloc (.cells #[.int .i64 3] 3)).alloc (.cells #[.int .i64 1] 3))) (k := w.heap.size + 1 + 1 + 1 + 1) (.cells #[.slice (some ⟨w.heap.size, 0, none⟩) 2 2, .slice (some ⟨w.heap.size + 1, 0, none⟩) 1 1, .slice (some ⟨w.heap.size + 1 + 1, 0, none⟩) 1 1, .slice (some ⟨w.heap.size + 1 + 1 + 1, 0, none⟩) 1 1] 23) (by simp)
  generalize World.alloc (World.alloc _ _) _ = y at h0 h1 h2 h3 h4 ⊢
  refine ⟨some ⟨w.heap.size + 1 + 1 + 1 + 1, 0, none⟩, 4, rfl, by decide, (fun h => by cases h), .inr ⟨w.heap.size + 1 + 1 + 1 + 1, 0, rfl, fun k hk => ?_⟩⟩
  have hk : k < 4 := hk
  rw [Nat.zero_add, row y _ _ _ h4]
  match k, hk with
  | 0, _ => exact ⟨_, rfl, some ⟨w.heap.size, 0, none⟩, 2, rfl, by decide, (fun h => by cases h), .inr ⟨_, 0, rfl, fun j hj => by
      rw [Nat.zero_add, row y _ _ _ h0]
      match j, hj with
      | 0, _ => rfl
      | 1, _ => rfl⟩⟩
  | 1, _ => exact ⟨_, rfl, some ⟨w.heap.size + 1, 0, none⟩, 1, rfl, by decide, (fun h => by cases h), .inr ⟨_, 0, rfl, fun j hj => by
      rw [Nat.zero_add, row y _ _ _ h1]
      match j, hj with
      | 0, _ => rfl⟩⟩
  | 2, _ => exact ⟨_, rfl, some ⟨w.heap.size + 1 + 1, 0, none⟩, 1, rfl, by decide, (fun h => by cases h), .inr ⟨_, 0, rfl, fun j hj => by
      rw [Nat.zero_add, row y _ _ _ h2]
      match j, hj with
      | 0, _ => rfl⟩⟩
  | 3, _ => exact ⟨_, rfl, some ⟨w.heap.size + 1 + 1 + 1, 0, none⟩, 1, rfl, by decide, (fun h => by cases h), .inr ⟨_, 0, rfl, fun j hj => by
      rw [Nat.zero_add, row y _ _ _ h3]
      match j, hj with
      | 0, _ => rfl⟩⟩

theorem rd4 (w : World) (a b c d : Int) : gi.Rd (w.alloc (.cells #[.int .i64 a, .int .i64 b, .int .i64 c, .int .i64 d] 3)) (.slice (some ⟨w.heap.size, 0, none⟩) 4 4) [a, b, c, d] := by
  refine ⟨some ⟨w.heap.size, 0, none⟩, 4, rfl, Nat.le_refl _, (fun h => by cases h), .inr ⟨_, 0, rfl, fun j hj => ?_⟩⟩
  rw [Nat.zero_add, cell_of_row _ w.heap.size j _ 3 (0, 0) (heap_alloc_new w _)]
  match j, hj with
  | 0, _ => rfl
  | 1, _ => rfl
  | 2, _ => rfl
  | 3, _ => rfl

set_option maxRecDepth 100000 in
set_option maxHeartbeats 8000000 in
theorem alive_any (w : World) : Calls Try.prog 17 #[] w fun e w' => e = .returned (.bool true) ∧ Below w.heap.size w w' := by
  have HG := Lib.hid (g0_rd w)
  have HB0 : Hid (Below w.heap.size w (((((w.alloc (.cells #[.int .i64 1, .int .i64 2] 3)).alloc (.cells #[.int .i64 3] 3)).alloc (.cells #[.int .i64 3] 3)).alloc (.cells #[.int .i64 1] 3)).alloc (.cells #[.slice (some ⟨w.heap.size, 0, none⟩) 2 2, .slice (some ⟨w.heap.size + 1, 0, none⟩) 1 1, .slice (some ⟨w.heap.size + 1 + 1, 0, none⟩) 1 1, .slice (some ⟨w.heap.size + 1 + 1 + 1, 0, none⟩) 1 1] 23))) := bnextA (bnextA (bnextA (bnextA (bnextA (Below.refl _ _) _) _) _) _) _
  have HO := Lib.hid (fun w' v h => Order_any v G0 g0_fine w' h g0_right)
  have HN := Lib.hid (fun w' v h => Near_any v G0 g0_fine w' h g0_right)
  go_enter Try.func17, Try.ntmps17
  go_upto_region 2 with (fail)
  change Code.wp _ _ _ _ (((((w.alloc (.cells #[.int .i64 1, .int .i64 2] 3)).alloc (.cells #[.int .i64 3] 3)).alloc (.cells #[.int .i64 3] 3)).alloc (.cells #[.int .i64 1] 3)).alloc (.cells #[.slice (some ⟨w.heap.size, 0, none⟩) 2 2, .slice (some ⟨w.heap.size + 1, 0, none⟩) 1 1, .slice (some ⟨w.heap.size + 1 + 1, 0, none⟩) 1 1, .slice (some ⟨w.heap.size + 1 + 1 + 1, 0, none⟩) 1 1] 23))
  generalize World.alloc (World.alloc _ _) _ = y at HG HB0 ⊢
  have HI1 : Hid (∀ v1 v2 w', gi.Rd w' v1 [0, 2, 1, 3] → gi.Rd w' v2 [0, 2, 1, 3] → Calls Try.prog 16 #[v1, v2] w' fun e w'' => e = .returned (.bool true) ∧ Below w'.heap.size w' w'') := fun v1 v2 w' h1 h2 => ints_any v1 v2 _ _ w' h1 h2 (by decide)
  have HI2 : Hid (∀ v1 v2 w', gi.Rd w' v1 [-1, 0, 0, 0] → gi.Rd w' v2 [-1, 0, 0, 0] → Calls Try.prog 16 #[v1, v2] w' fun e w'' => e = .returned (.bool true) ∧ Below w'.heap.size w' w'') := fun v1 v2 w' h1 h2 => ints_any v1 v2 _ _ w' h1 h2 (by decide)
  have HD := Lib.hid (fun w' v h => dominates_any v [-1, 0, 0, 0] 0 3 w' h (by decide))
  rw [g0_dom] at HD
  go_wp2_with fail
  refine (HO.out _ _ HG.out).mono ?_
  rintro e w1 ⟨ov, rfl, ho, hb⟩
  rw [g0_order] at ho
  have HOV := Lib.hid ho.rd
  have HB1 := Lib.hid hb
  have HG1 := Lib.hid (HG.out.lift hb)
  clear ho hb
  go_wp2_with fail
  refine (HN.out _ _ HG1.out).mono ?_
  rintro e w2 ⟨nv, rfl, ho, hb⟩
  rw [g0_near] at ho
  have HNV := Lib.hid ho.rd
  have HB2 := Lib.hid hb
  have HOV2 := Lib.hid (HOV.out.lift hb)
  clear ho hb
  go_wp2_with fail
  have hb3 : Below w2.heap.size w2 (w2.alloc (.cells #[.int .i64 0, .int .i64 2, .int .i64 1, .int .i64 3] 3)) := bnextA (Below.refl _ _) _
  refine (HI1.out ov _ _ (HOV2.out.lift hb3) (rd4 w2 0 2 1 3)).mono ?_
  rintro e w3 ⟨rfl, hb⟩
  have HB3 := Lib.hid (hb3.trans (hb.mono hb3.size))
  have HNV3 := Lib.hid (HNV.out.lift HB3.out)
  clear hb hb3
  go_wp2_with fail
  have hb4 : Below w3.heap.size w3 (w3.alloc (.cells #[.int .i64 (-1), .int .i64 0, .int .i64 0, .int .i64 0] 3)) := bnextA (Below.refl _ _) _
  refine (HI2.out nv _ _ (HNV3.out.lift hb4) (rd4 w3 (-1) 0 0 0)).mono ?_
  rintro e w4 ⟨rfl, hb⟩
  have HB4 := Lib.hid (hb4.trans (hb.mono hb4.size))
  have HNV4 := Lib.hid (HNV3.out.lift HB4.out)
  clear hb hb4
  go_wp2_with fail
  refine (HD.out _ nv HNV4.out).mono ?_
  rintro e w5 ⟨rfl, rfl⟩
  go_wp2
  go_ret
  have a1 := HB0.out.trans (HB1.out.mono HB0.out.size)
  have a2 := a1.trans (HB2.out.mono a1.size)
  have a3 := a2.trans (HB3.out.mono a2.size)
  exact ⟨rfl, a3.trans (HB4.out.mono a3.size)⟩
end Go.Proofs.Ytcghekbbaeejaaa.gr
