/- What goes to each node: the document's. -/
import Derived.Test.YtcghekbbaeejaaaGFromW
import Derived.Deep.RegionHeld3
set_option linter.unusedVariables false
set_option linter.unusedSimpArgs false
namespace Go.Proofs.Ytcghekbbaeejaaa.gr
open Go.RowKit Go.Proofs.Ytcghekbbaeejaaa.Gr

section
variable {ops : Array Oper} {o : Oper} {a : Act} {K : Act → World → Prop} {Q : Exit → Act → World → Prop} {E : Prop} {w : World} {B : Nat} {xs : List Int}
/-- append of one number, at a step of a region that draws its order -/
theorem step_app1 (s x : Operand) (hgd : o.guard = none) (ho : o.op = .call { callee := .builtin .append, args := #[s, x], argTypes := #[23, 23] })
    {v : Value} (hs : a.eval s = v) (hown : gi.Own w B v xs) (c : Int) {p : Nat} (hx : a.eval x = .slice (some ⟨p, 0, none⟩) 1 1) (hc : w.cell? ⟨p, 0, none⟩ = some (.int .i64 c)) (hl : xs.length + 1 ≤ 4398046511104) (hB : B ≤ w.heap.size)
    (h : ∀ g cap w', gi.Own w' B (.slice (some ⟨g, 0, none⟩) (xs.length + 1) cap) (xs ++ [c]) → w.grownBy w' v.ownBlock → (v.ownBlock = some g ∨ g = w.heap.size) → g < w'.heap.size →
      K (a.put o.dst (.slice (some ⟨g, 0, none⟩) (xs.length + 1) cap)) w') : if Region.wanted o (yielded ops a.tmps) = true then Oper.wp Try.prog o a w K Q else E := by
  obtain ⟨i0, hi, hz0, hz1, hz2⟩ := info_parts gi.info5
  refine step_append_lies _ hgd s x 23 ho B 3 i0 (.int .i64 0) 1 8 Try.underlying23 hi hz0 hz1 hz2 rfl (by decide) v xs.length (xs.map (.int .i64)) hs hown ⟨p, 0, none⟩ 1 1 [.int .i64 c] hx rfl ?_ ?_ (by decide) (by unfold maxLen; omega) (by omega) hB w.heap.size rfl ?_
  · intro j u hj
    match j, hj with
    | 0, hj => simp at hj; subst hj; simpa [Addr.add] using hc
  · intro u hu; simp at hu; subst hu; rfl
  · intro g cap w' h1 h2 h3 h4
    refine h g cap w' ?_ h2 h3 h4
    unfold gi.Own; rw [List.map_append, List.length_append]; exact h1
end
theorem RW.more {w0 wr w' : World} {gb B1 n : Nat} {vs : List Value} {O : List (List Nat)} (H : RW w0 wr gb B1 n vs O) (hg : wr.grownBy w' none) : RW w0 w' gb B1 n vs O := by
  have hb := below_grown H.below hg (by have := H.gb0; have := H.gbb; have := H.b1; omega) (fun j hj => by cases hj)
  refine ⟨H.out.kept hg (.inr (by simp [Value.ownBlock])), fun k v hv => own_kept (H.rows k v hv) hg ?_, H.apart, H.len, hb, H.gb0, H.gbb, Nat.le_trans H.b1 hg.size⟩
  cases v.ownBlock <;> simp

set_option maxRecDepth 100000 in
set_option maxHeartbeats 16000000 in
theorem refFrom_any (v : Value) (G : List (List Nat)) (F : Fine G) (w : World) (h : RdG w v (upp G)) (hr : rightB (upp G) = true) :
    Calls Try.prog 13 #[v] w (FromT G w) := by
  have hn := F.n
  have hp := F.wf.pos
  have HF := Lib.hid F
  have HRT := Lib.hid (refRight_any v (upp G) w h (by rw [upp_len]; omega))
  rw [hr] at HRT
  obtain ⟨ao, cap, rfl, hcap, _, hd⟩ := h
  rw [upp_len] at hcap HRT ⊢
  obtain ⟨bg, og, rfl, hq⟩ : ∃ bg og, ao = some ⟨bg, og, none⟩ ∧ ∀ k, k < (upp G).length → ∃ u, w.cell? ⟨bg, og + k, none⟩ = some u ∧ gi.Rd w u ((upp G).getD k []) := by
    rcases hd with e | ⟨bg, og, e, hd⟩
    · have := upp_len G; rw [e] at this; simp at this; omega
    · exact ⟨bg, og, e, hd⟩
  rw [upp_len] at hq
  have HD := Lib.hid hq
  have HC := Lib.hid hcap
  have hmk := make_rows G.length (by omega)
  have HS := Lib.hid (rw_start (w := w) hn)
  clear hd hq hcap F hr
  go_enter Try.func13, Try.ntmps13
  go_upto_region 4 with (go_at_call 15; refine HRT.out.mono ?_; rintro e w1 ⟨rfl, rfl⟩)
  generalize w.alloc _ = W1 at HS ⊢
  clear hmk
  go_wp2
  go_loopw [5] (fun y wr => ∃ (i : Nat) (vs : List Value), y = .int .i64 i ∧ i ≤ G.length ∧ Hid (RW w wr w.heap.size (w.heap.size + 1) G.length vs (fromI G i))) (fun y _ => G.length - (intOf y).toNat)
  case atStart => exact ⟨0, _, rfl, Nat.zero_le _, HS⟩
  case round =>
    obtain ⟨i, vs, rfl, hi, HO⟩ := hrel
    by_cases hlt : i < G.length
    · obtain ⟨u, g1, g2⟩ := HD.out i hlt
      have hcap := HC.out
      rw [upp_getD] at g2
      change gi.Rd w u (up (adj G i)) at g2
      have hE := HF.out.e i
      obtain ⟨ao2, cap2, rfl, hc2, _, hd2⟩ := g2
      rw [up_len] at g1 hc2
      have HG1 := Lib.hid g1
      have HD2 := Lib.hid hd2
      have HC2 := Lib.hid hc2
      have hilt : (i : Int) < G.length := by omega
      clear hd2 hc2 g1
      go_wp2
      go_loopw [6] (fun y wx => ∃ (j : Nat) (vs : List Value), y = .int .i64 j ∧ j ≤ (adj G i).length ∧ Hid (RW w wx w.heap.size (w.heap.size + 1) G.length vs (fromJ G i j))) (fun y _ => (adj G i).length - (intOf y).toNat)
      case atStart => exact ⟨0, vs, rfl, Nat.zero_le _, HO⟩
      case round =>
        obtain ⟨j, vs', rfl, hj, HJ⟩ := hrel
        have g1 := HG1.out
        rw [← HJ.out.below.cell (p := ⟨bg, og + i, none⟩) (World.block_lt_of_cell? w _ g1)] at g1
        by_cases hjt : j < (adj G i).length
        · have hju : j < (up (adj G i)).length := by rw [up_len]; exact hjt
          rcases HD2.out with e | ⟨b2, o2, rfl, hg2⟩
          · rw [e] at hju; simp at hju
          have hg2' := hg2
          have g2 := hg2 j hju
          rw [← HJ.out.below.cell (p := ⟨b2, o2 + j, none⟩) (World.block_lt_of_cell? w _ g2)] at g2
          rw [up_getD hjt, List.getD_eq_getElem?_getD, List.getElem?_eq_getElem hjt] at g2
          have hy := HF.out.wf.lt i _ (List.getElem_mem hjt)
          have hS := fromJ_succ G i j hjt
          have hrow := fromJ_row G HF.out.e i j (adj G i)[j] (by omega)
          change _ = some (Value.int .i64 ((adj G i)[j] : Nat)) at g2
          generalize (adj G i)[j] = y at g2 hy hS hrow
          obtain ⟨v, v1, v2, v3, v4⟩ := HJ.out.get hy
          have HV := Lib.hid v1
          have HSS := Lib.hid hS
          have Hb1 := Lib.hid HJ.out.b1
          have hpl : Hid ((up ((fromJ G i j).getD y [])).length + 1 ≤ 4398046511104) := by show _ ≤ _; rw [up_len]; omega
          have hjlt : (j : Int) < (adj G i).length := by omega
          have hcap2 := HC2.out
          have HO3 := Lib.hid v3
          clear v3
          clear hg2 hju hS v1 hrow
          have hgr : wr.grownBy (wr.drew.alloc (.cells #[.int .i64 (i : Nat)] 3)) none := grown_trans (grown_drewN (World.grownBy.refl wr none) 1) (World.grownBy_alloc _ _ none)
          have HW := Lib.hid (HJ.out.more hgr)
          have HOW := Lib.hid (HW.out.rows y v HV.out)
          have HBW := Lib.hid HW.out.b1
          have HCW : Hid ((wr.drew.alloc (.cells #[.int .i64 (i : Nat)] 3)).cell? ⟨wr.heap.size, 0, none⟩ = some (.int .i64 (i : Nat))) := by
            show _ = _
            rw [cell_of_row _ wr.heap.size 0 _ 3 (0, 0) (heap_alloc_new wr.drew _)]; rfl
          have HK : Hid ((wr.drew.alloc (.cells #[.int .i64 (i : Nat)] 3)).cell? ⟨bg, og + i, none⟩ = some (.slice (some ⟨b2, o2, none⟩) (adj G i).length cap2) ∧ (wr.drew.alloc (.cells #[.int .i64 (i : Nat)] 3)).cell? ⟨b2, o2 + j, none⟩ = some (.int .i64 (y : Nat)) ∧ (wr.drew.alloc (.cells #[.int .i64 (i : Nat)] 3)).cell? ⟨w.heap.size, y, none⟩ = some v ∧ (wr.drew.alloc (.cells #[.int .i64 (i : Nat)] 3)).frozen? ⟨w.heap.size, y, none⟩ = false) := by
            obtain ⟨v', e1, e2, e3, e4⟩ := HW.out.get hy
            rw [HV.out] at e1; cases e1
            exact ⟨grown_cell hgr g1 (by simp), grown_cell hgr g2 (by simp), e2, e4⟩
          have hb1 := World.block_lt_of_cell? w _ HG1.out
          have hb2 := World.block_lt_of_cell? w _ (hg2' j (by rw [up_len]; exact hjt))
          have HADD : Hid (∀ g k c w', gi.Own w' (w.heap.size + 1) (.slice (some ⟨g, 0, none⟩) k c) (up ((fromJ G i j).getD y []) ++ [(i : Int)]) → (wr.drew.alloc (.cells #[.int .i64 (i : Nat)] 3)).grownBy w' v.ownBlock → (v.ownBlock = some g ∨ g = (wr.drew.alloc (.cells #[.int .i64 (i : Nat)] 3)).heap.size) →
              w'.cell? ⟨bg, og + i, none⟩ = some (.slice (some ⟨b2, o2, none⟩) (adj G i).length cap2) ∧ w'.cell? ⟨b2, o2 + j, none⟩ = some (.int .i64 (y : Nat)) ∧ w'.cell? ⟨w.heap.size, y, none⟩ = some v ∧ w'.frozen? ⟨w.heap.size, y, none⟩ = false ∧
              Hid ((w'.setCell ⟨w.heap.size, y, none⟩ (.slice (some ⟨g, 0, none⟩) k c)).cell? ⟨bg, og + i, none⟩ = some (.slice (some ⟨b2, o2, none⟩) (adj G i).length cap2)) ∧
              Hid ((w'.setCell ⟨w.heap.size, y, none⟩ (.slice (some ⟨g, 0, none⟩) k c)).cell? ⟨b2, o2 + j, none⟩ = some (.int .i64 (y : Nat))) ∧
              Hid (RW w (w'.setCell ⟨w.heap.size, y, none⟩ (.slice (some ⟨g, 0, none⟩) k c)) w.heap.size (w.heap.size + 1) G.length (vs'.set y (.slice (some ⟨g, 0, none⟩) k c)) (addE i (fromJ G i j) y))) := by
            intro g k c w' k1 k2 k3
            obtain ⟨q1, q2, q3⟩ := HW.out.add hy HV.out k2 (k3.imp id fun e => Nat.le_of_eq e.symm) k1
            have far : ∀ b, b < w.heap.size → some b ≠ v.ownBlock := fun b hb e => by have := (HOW.out.lt b e.symm).1; omega
            have z1 := grown_cell k2 HK.out.1 (far _ hb1)
            have z2 := grown_cell k2 HK.out.2.1 (far _ hb2)
            have sg : w'.grownBy (w'.setCell ⟨w.heap.size, y, none⟩ (.slice (some ⟨g, 0, none⟩) k c)) (some w.heap.size) := ⟨rfl, rfl, rfl, by simp, fun j _ hj => heap_setCell_other w' ⟨w.heap.size, y, none⟩ j _ (fun e => hj (by simp [e]))⟩
            exact ⟨z1, z2, q2, q1, Lib.hid (grown_cell sg z1 (fun e => by have e : bg = w.heap.size := Option.some.inj e; change bg < _ at hb1; omega)), Lib.hid (grown_cell sg z2 (fun e => by have e : b2 = w.heap.size := Option.some.inj e; change b2 < _ at hb2; omega)), Lib.hid q3⟩
          clear hgr hb1 hb2 hg2'
          have hL1 : ({ heap := wr.drew.heap.push (Obj.cells #[Value.int IntKind.i64 ((i : Nat) : Int)] 3), tape := wr.tape, drawn := wr.drawn + 1, os := wr.drew.os, output := wr.drew.output } : World).cell? ⟨bg, og + i, none⟩ = some (.slice (some ⟨b2, o2, none⟩) (adj G i).length cap2) := HK.out.1
          have hL2 : ({ heap := wr.drew.heap.push (Obj.cells #[Value.int IntKind.i64 ((i : Nat) : Int)] 3), tape := wr.tape, drawn := wr.drawn + 1, os := wr.drew.os, output := wr.drew.output } : World).cell? ⟨b2, o2 + j, none⟩ = some (.int .i64 (y : Nat)) := HK.out.2.1
          have hL3 : ({ heap := wr.drew.heap.push (Obj.cells #[Value.int IntKind.i64 ((i : Nat) : Int)] 3), tape := wr.tape, drawn := wr.drawn + 1, os := wr.drew.os, output := wr.drew.output } : World).cell? ⟨w.heap.size, y, none⟩ = some v := HK.out.2.2.1
          go_wp2_with fail
          -- REGION
          refine wp_region_held_drew (S := fun x => x.cell? ⟨bg, og + i, none⟩ = some (.slice (some ⟨b2, o2, none⟩) (adj G i).length cap2) ∧ x.cell? ⟨b2, o2 + j, none⟩ = some (.int .i64 (y : Nat))) (by kernel_rfl) (by exact ⟨g1, g2⟩) (fun hHeld => ?_)
          refine wpAnyH_take (i := 0) (v := ?_) rfl (by kernel_rfl) (by kernel_rfl) (by kernel_rfl) (fun _ _ _ h => h) (Or.inl ⟨by rfl, ?_⟩) (by assumption) ?_
          rotate_left
          · intro w hSw; (try dsimp only at hSw); (go_simp <;> with_reducible rfl)
          try simp only [Act.put, List.setIfInBounds_toArray, List.set_cons_zero, List.set_cons_succ]
          refine wpAnyH_take (i := 1) (v := ?_) rfl (by kernel_rfl) (by kernel_rfl) (by kernel_rfl) (fun _ _ _ h => h) (Or.inl ⟨by rfl, ?_⟩) (by assumption) ?_
          rotate_left
          · intro w hSw; (try dsimp only at hSw); (go_simp <;> with_reducible rfl)
          try simp only [Act.put, List.setIfInBounds_toArray, List.set_cons_zero, List.set_cons_succ]
          refine wpAnyH_take (i := 2) (v := ?_) rfl (by kernel_rfl) (by kernel_rfl) (by kernel_rfl) (fun _ _ _ h => h) (Or.inl ⟨by rfl, ?_⟩) (by assumption) ?_
          rotate_left
          · intro w hSw; (try dsimp only at hSw); (go_simp <;> with_reducible rfl)
          try simp only [Act.put, List.setIfInBounds_toArray, List.set_cons_zero, List.set_cons_succ]
          refine wpAnyH_take (i := 3) (v := ?_) rfl (by kernel_rfl) (by kernel_rfl) (by kernel_rfl) (fun _ _ _ h => h) (Or.inl ⟨by rfl, ?_⟩) (by assumption) ?_
          rotate_left
          · intro w hSw; (try dsimp only at hSw); (go_simp <;> with_reducible rfl)
          try simp only [Act.put, List.setIfInBounds_toArray, List.set_cons_zero, List.set_cons_succ]
          refine wpAnyH_take (i := 4) (v := ?_) rfl (by kernel_rfl) (by kernel_rfl) (by kernel_rfl) (fun _ _ _ h => h) (Or.inl ⟨by rfl, ?_⟩) (by assumption) ?_
          rotate_left
          · intro w hSw; (try dsimp only at hSw); (go_simp <;> with_reducible rfl)
          try simp only [Act.put, List.setIfInBounds_toArray, List.set_cons_zero, List.set_cons_succ]
          refine wpAnyH_take (i := 5) (v := ?_) rfl (by kernel_rfl) (by kernel_rfl) (by kernel_rfl) (fun _ _ _ h => h) (Or.inl ⟨by rfl, ?_⟩) (by assumption) ?_
          rotate_left
          · intro w hSw; (try dsimp only at hSw); (go_simp <;> with_reducible rfl)
          try simp only [Act.put, List.setIfInBounds_toArray, List.set_cons_zero, List.set_cons_succ]
          refine wpAnyH_take (i := 6) (v := ?_) rfl (by kernel_rfl) (by kernel_rfl) (by kernel_rfl) (fun _ _ _ h => h) (Or.inl ⟨by rfl, ?_⟩) (by assumption) ?_
          rotate_left
          · intro w hSw; (try dsimp only at hSw); (go_simp <;> with_reducible rfl)
          try simp only [Act.put, List.setIfInBounds_toArray, List.set_cons_zero, List.set_cons_succ]
          refine wpAnyH_take (i := 7) (v := ?_) rfl (by kernel_rfl) (by kernel_rfl) (by kernel_rfl) (fun _ _ _ h => h) (Or.inl ⟨by rfl, ?_⟩) (by assumption) ?_
          rotate_left
          · intro w hSw; (try dsimp only at hSw); (go_simp <;> with_reducible rfl)
          try simp only [Act.put, List.setIfInBounds_toArray, List.set_cons_zero, List.set_cons_succ]
          refine wpAnyH_take (i := 8) (v := ?_) rfl (by kernel_rfl) (by kernel_rfl) (by kernel_rfl) (fun _ _ _ h => h) (Or.inl ⟨by rfl, ?_⟩) (by assumption) ?_
          rotate_left
          · intro w hSw; (try dsimp only at hSw); (go_simp <;> with_reducible rfl)
          try simp only [Act.put, List.setIfInBounds_toArray, List.set_cons_zero, List.set_cons_succ]
          refine wpAnyH_take (i := 9) (v := ?_) rfl (by kernel_rfl) (by kernel_rfl) (by kernel_rfl) (fun _ _ _ h => h) (Or.inl ⟨by rfl, ?_⟩) (by assumption) ?_
          rotate_left
          · intro w hSw; (try dsimp only at hSw); (go_simp <;> with_reducible rfl)
          try simp only [Act.put, List.setIfInBounds_toArray, List.set_cons_zero, List.set_cons_succ]
          refine wpAnyH_take (i := 10) (v := ?_) rfl (by kernel_rfl) (by kernel_rfl) (by kernel_rfl) (fun _ _ _ h => h) (Or.inl ⟨by rfl, ?_⟩) (by assumption) ?_
          rotate_left
          · intro w hSw; (try dsimp only at hSw); (go_simp <;> with_reducible rfl)
          try simp only [Act.put, List.setIfInBounds_toArray, List.set_cons_zero, List.set_cons_succ]
          refine wpAnyH_take (i := 11) (v := ?_) rfl (by kernel_rfl) (by kernel_rfl) (by kernel_rfl) (fun _ _ _ h => h) (Or.inl ⟨by rfl, ?_⟩) (by assumption) ?_
          rotate_left
          · intro w hSw; (try dsimp only at hSw); (go_simp <;> with_reducible rfl)
          try simp only [Act.put, List.setIfInBounds_toArray, List.set_cons_zero, List.set_cons_succ]
          refine wpAnyH_take (i := 12) (v := ?_) rfl (by kernel_rfl) (by kernel_rfl) (by kernel_rfl) (fun _ _ _ h => h) (Or.inl ⟨by rfl, ?_⟩) (by assumption) ?_
          rotate_left
          · intro w hSw; (try dsimp only at hSw); (go_simp <;> with_reducible rfl)
          try simp only [Act.put, List.setIfInBounds_toArray, List.set_cons_zero, List.set_cons_succ]
          refine wpAnyH_take (i := 13) (v := ?_) rfl (by kernel_rfl) (by kernel_rfl) (by kernel_rfl) (fun _ _ _ h => h) (Or.inl ⟨by rfl, ?_⟩) (by assumption) ?_
          rotate_left
          · intro w hSw; (try dsimp only at hSw); (go_simp <;> with_reducible rfl)
          try simp only [Act.put, List.setIfInBounds_toArray, List.set_cons_zero, List.set_cons_succ]
          refine wpAnyH_take (i := 14) (v := ?_) rfl (by kernel_rfl) (by kernel_rfl) (by kernel_rfl) (fun _ _ _ h => h) (Or.inl ⟨by rfl, ?_⟩) (by assumption) ?_
          rotate_left
          · intro w hSw; (try dsimp only at hSw); (go_simp <;> with_reducible rfl)
          try simp only [Act.put, List.setIfInBounds_toArray, List.set_cons_zero, List.set_cons_succ]
          refine wpAnyH_take (i := 15) (v := ?_) rfl (by kernel_rfl) (by kernel_rfl) (by kernel_rfl) (fun _ _ _ h => h) (Or.inl ⟨by rfl, ?_⟩) (by assumption) ?_
          rotate_left
          · intro w hSw; (try dsimp only at hSw); (go_simp <;> with_reducible rfl)
          try simp only [Act.put, List.setIfInBounds_toArray, List.set_cons_zero, List.set_cons_succ]
          refine wpAnyH_take (i := 16) (v := ?_) rfl (by kernel_rfl) (by kernel_rfl) (by kernel_rfl) (fun _ _ _ h => h) (Or.inl ⟨by rfl, ?_⟩) (by assumption) ?_
          rotate_left
          · intro w hSw; (try dsimp only at hSw); (go_simp <;> with_reducible rfl)
          try simp only [Act.put, List.setIfInBounds_toArray, List.set_cons_zero, List.set_cons_succ]
          refine wpAnyH_take (i := 18) (v := ?_) rfl (by kernel_rfl) (by kernel_rfl) (by kernel_rfl) (fun _ _ _ h => h) (Or.inl ⟨by rfl, ?_⟩) (by assumption) ?_
          rotate_left
          · intro w hSw; (try dsimp only at hSw); (go_simp <;> with_reducible rfl)
          try simp only [Act.put, List.setIfInBounds_toArray, List.set_cons_zero, List.set_cons_succ]
          refine wpAnyH_ready (rs := [17, 19]) (by kernel_rfl) (by simp) ?_
          refine AllReadyH.cons rfl (fun K hK => ?_) ?_
          · go_simp
            refine hK.out _ _ ?_ (fun hHeld => ?_)
            · exact ⟨g1, g2⟩
            clear hK K
            try simp only [Act.put, List.setIfInBounds_toArray, List.set_cons_zero, List.set_cons_succ]
            refine wpAnyH_ready (rs := [19]) (by kernel_rfl) (by simp) ?_
            refine AllReadyH.cons rfl (fun K hK => ?_) AllReadyH.nil
            go_simp
            refine hK.out _ _ ?_ (fun hHeld => ?_)
            · exact ⟨HK.out.1, HK.out.2.1⟩
            clear hK K
            try simp only [Act.put, List.setIfInBounds_toArray, List.set_cons_zero, List.set_cons_succ]
            refine wpAnyH_ready (rs := [20]) (by kernel_rfl) (by simp) ?_
            refine AllReadyH.cons rfl (fun K hK => ?_) AllReadyH.nil
            refine step_app1 (.tmp 45) (.tmp 47) (by rfl) (by rfl) (by rfl) HOW.out (i : Int) (by rfl) HCW.out hpl.out HBW.out ?_
            intro g9 cap8 w9 k1 k2 k3 k4
            obtain ⟨f1, f2, q2, q1, F1, F2, HQ⟩ := HADD.out g9 _ _ w9 k1 k2 k3
            clear k1 k2 k3
            refine hK.out _ _ ?_ (fun hHeld => ?_)
            · exact ⟨f1, f2⟩
            clear hK K
            try simp only [Act.put, List.setIfInBounds_toArray, List.set_cons_zero, List.set_cons_succ]
            refine wpAnyH_take (i := 21) (v := ?_) rfl (by kernel_rfl) (by kernel_rfl) (by kernel_rfl) (fun _ _ _ h => h) (Or.inl ⟨by rfl, ?_⟩) (by assumption) ?_
            rotate_left
            · intro w hSw; (try dsimp only at hSw); (go_simp <;> with_reducible rfl)
            try simp only [Act.put, List.setIfInBounds_toArray, List.set_cons_zero, List.set_cons_succ]
            refine wpAnyH_ready (rs := [22]) (by kernel_rfl) (by simp) ?_
            refine AllReadyH.cons rfl (fun K hK => ?_) AllReadyH.nil
            go_simp
            refine hK.out _ _ ?_ (fun hHeld => ?_)
            · exact ⟨F1.out, F2.out⟩
            clear hK K
            try simp only [Act.put, List.setIfInBounds_toArray, List.set_cons_zero, List.set_cons_succ]
            refine wpAnyH_done (by kernel_rfl) ?_ _
            go_wp2
            exact ⟨⟨j + 1, _, by go_num, by omega, by rw [HSS.out]; exact HQ⟩, by simp [intOf]; omega⟩
          · refine AllReadyH.cons rfl (fun K hK => ?_) AllReadyH.nil
            go_simp
            refine hK.out _ _ ?_ (fun hHeld => ?_)
            · exact ⟨HK.out.1, HK.out.2.1⟩
            clear hK K
            try simp only [Act.put, List.setIfInBounds_toArray, List.set_cons_zero, List.set_cons_succ]
            refine wpAnyH_ready (rs := [17]) (by kernel_rfl) (by simp) ?_
            refine AllReadyH.cons rfl (fun K hK => ?_) AllReadyH.nil
            go_simp
            refine hK.out _ _ ?_ (fun hHeld => ?_)
            · exact ⟨HK.out.1, HK.out.2.1⟩
            clear hK K
            try simp only [Act.put, List.setIfInBounds_toArray, List.set_cons_zero, List.set_cons_succ]
            refine wpAnyH_ready (rs := [20]) (by kernel_rfl) (by simp) ?_
            refine AllReadyH.cons rfl (fun K hK => ?_) AllReadyH.nil
            refine step_app1 (.tmp 45) (.tmp 47) (by rfl) (by rfl) (by rfl) HOW.out (i : Int) (by rfl) HCW.out hpl.out HBW.out ?_
            intro g9 cap8 w9 k1 k2 k3 k4
            obtain ⟨f1, f2, q2, q1, F1, F2, HQ⟩ := HADD.out g9 _ _ w9 k1 k2 k3
            clear k1 k2 k3
            refine hK.out _ _ ?_ (fun hHeld => ?_)
            · exact ⟨f1, f2⟩
            clear hK K
            try simp only [Act.put, List.setIfInBounds_toArray, List.set_cons_zero, List.set_cons_succ]
            refine wpAnyH_take (i := 21) (v := ?_) rfl (by kernel_rfl) (by kernel_rfl) (by kernel_rfl) (fun _ _ _ h => h) (Or.inl ⟨by rfl, ?_⟩) (by assumption) ?_
            rotate_left
            · intro w hSw; (try dsimp only at hSw); (go_simp <;> with_reducible rfl)
            try simp only [Act.put, List.setIfInBounds_toArray, List.set_cons_zero, List.set_cons_succ]
            refine wpAnyH_ready (rs := [22]) (by kernel_rfl) (by simp) ?_
            refine AllReadyH.cons rfl (fun K hK => ?_) AllReadyH.nil
            go_simp
            refine hK.out _ _ ?_ (fun hHeld => ?_)
            · exact ⟨F1.out, F2.out⟩
            clear hK K
            try simp only [Act.put, List.setIfInBounds_toArray, List.set_cons_zero, List.set_cons_succ]
            refine wpAnyH_done (by kernel_rfl) ?_ _
            go_wp2
            exact ⟨⟨j + 1, _, by go_num, by omega, by rw [HSS.out]; exact HQ⟩, by simp [intOf]; omega⟩
          -- END REGION
        · obtain rfl : j = (adj G i).length := by omega
          have HN : Hid (RW w wr w.heap.size (w.heap.size + 1) G.length vs' (fromI G (i + 1))) := by rw [← fromJ_all]; exact HJ
          have hcap := HC.out
          clear HJ
          go_wp2
          exact ⟨⟨i + 1, vs', by go_num, by omega, HN⟩, by simp [intOf]; omega⟩
    · obtain rfl : i = G.length := by omega
      go_wp2
      go_ret2
      exact ⟨w.heap.size, rfl, HO.out.rd, HO.out.below⟩
end Go.Proofs.Ytcghekbbaeejaaa.gr
