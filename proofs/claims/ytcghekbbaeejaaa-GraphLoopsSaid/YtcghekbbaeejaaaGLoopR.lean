/- The document's loops: the walk. -/
import Derived.Test.YtcghekbbaeejaaaGArQ
set_option linter.unusedVariables false
set_option linter.unusedSimpArgs false
namespace Go.Proofs.Ytcghekbbaeejaaa.gr
open Go.RowKit Go.Proofs.Ytcghekbbaeejaaa.Gr

theorem build_loopr (h : Int) (w : World) : (Instr.build 45 #[(0, .int .i64 h)]).run Try.prog w = .ok (.agg #[.int .i64 h, .slice none 0 0]) w := run_build w _ _ _ (by kernel_rfl)

def LoopsR (G : List (List Nat)) (w : World) (e : Ending) (w' : World) : Prop := ∃ v, e = .returned (.tuple #[v, .int .i64 0]) ∧ LPr w' w.heap.size v (loopsL G) ∧ Below w.heap.size w w'

set_option maxRecDepth 100000 in
set_option maxHeartbeats 16000000 in
theorem refLoops_any (v : Value) (G : List (List Nat)) (F : Fine G) (w : World) (h : RdG w v (upp G)) (hr : rightB (upp G) = true) :
    Calls Try.prog 23 #[v] w (LoopsR G w) := by
  have hn := F.n
  have HFR := Lib.hid (refFrom_any v G F w h hr)
  have HTA := Lib.hid (fun w1 h1 => table_any v G F w1 h1)
  have HR := Lib.hid h
  have HF := Lib.hid F
  have hmk := make_bools G.length (by omega)
  have hbd := build_loopr
  clear F hr
  obtain ⟨ao, cap, rfl, hcap, _, _⟩ := h
  rw [upp_len] at hcap HFR HTA HR ⊢
  go_enter Try.func23, Try.ntmps23
  go_wp2_with fail
  refine HFR.out.mono ?_
  rintro e w1 ⟨gf, rfl, hB, hb1⟩
  have HB := Lib.hid hB
  have HB1 := Lib.hid hb1
  clear hB hb1
  go_wp2_with fail
  refine (HTA.out w1 (HR.out.lift HB1.out)).mono ?_
  rintro e w2 ⟨gt, rfl, hT, hb2⟩
  have HT := Lib.hid hT
  have HB2 := Lib.hid hb2
  clear hT hb2 HFR HTA
  go_wp2
  go_loopw [7, 8] (fun v7 y wr => ∃ i : Nat, y = .int .i64 i ∧ i ≤ G.length ∧ Hid (LPr wr w2.heap.size v7 (loopsI G i)) ∧ Hid (Below w2.heap.size w2 wr)) (fun _ y _ => G.length - (intOf y).toNat)
  case atStart => exact ⟨0, rfl, Nat.zero_le _, Lib.hid (LPr.nil _ _), Lib.hid (Below.refl _ _)⟩
  case round =>
    obtain ⟨i, rfl, hi, HO, HB3⟩ := hrel
    by_cases hlt : i < G.length
    · obtain ⟨OW, hOW⟩ : ∃ z, z = wr := ⟨_, rfl⟩
      subst hOW
      have hilt : (i : Int) < G.length := by omega
      have Hz1 := HB3.out.size
      have HTr := Lib.hid (HT.out.lift HB3.out)
      have HGP := Lib.hid (HB.out.lift (HB2.out.trans (HB3.out.mono HB2.out.size)))
      obtain ⟨u, u1, u2⟩ := HGP.out.at_ (k := i) hlt
      change gi.Rd _ u (up (preds G i)) at u2
      obtain ⟨at_, t1, t2⟩ := HTr.out i hlt
      have HT2 := Lib.hid t2
      clear t2
      obtain ⟨ao8, c8, rfl, hc8, _, hd8⟩ := u2
      rw [up_len] at u1 hc8
      have HD8 := Lib.hid hd8
      clear hd8
      go_wp2
      have HWB : Hid (Below OW.heap.size OW (OW.alloc (.cells (Array.replicate G.length (Value.bool false)) 4))) := bnextA (Below.refl _ _) _
      have HM0 : Hid (Ow (OW.alloc (.cells (Array.replicate G.length (Value.bool false)) 4)) OW.heap.size 4 (.slice (some ⟨OW.heap.size, 0, none⟩) G.length G.length) ((List.replicate G.length false).map .bool)) := by
        have := ow_new (w := OW.alloc (.cells (Array.replicate G.length (Value.bool false)) 4)) (B := OW.heap.size) (g := OW.heap.size) (cap := G.length) (T := 4) (cs := Array.replicate G.length (Value.bool false)) (Nat.le_refl _) (heap_alloc_new OW _) (by simp) (by unfold maxLen; omega)
        show Ow _ _ _ _ _
        simpa using this
      have hwz : (OW.alloc (.cells (Array.replicate G.length (Value.bool false)) 4)).heap.size = OW.heap.size + 1 := by simp
      clear hmk
      generalize OW.alloc (.cells (Array.replicate G.length (Value.bool false)) 4) = wa at HWB HM0 hwz ⊢
      have HU1 := Lib.hid u1
      have HT1 := Lib.hid t1
      clear u1 t1
      go_loopw [10, 11] (fun v10 y wx => ∃ e : Nat, y = .int .i64 e ∧ e ≤ (preds G i).length ∧ Hid (gi.Own wx wa.heap.size v10 (up (bI G i e))) ∧ Hid (Below wa.heap.size wa wx)) (fun _ y _ => (preds G i).length - (intOf y).toNat)
      case atStart => exact ⟨0, rfl, Nat.zero_le _, Lib.hid (gi.Own.nil _ _), Lib.hid (Below.refl _ _)⟩
      case round =>
        obtain ⟨e, rfl, he, HE, HBX⟩ := hrel
        have HWX := Lib.hid (HWB.out.trans (HBX.out.mono (by omega)))
        have u1 := HU1.out
        rw [← HWX.out.cell (p := ⟨gf, i, none⟩) (World.block_lt_of_cell? _ _ u1)] at u1
        have hpl := preds_len HF.out i
        by_cases hle : e < (preds G i).length
        · have hiu : e < (up (preds G i)).length := by rw [up_len]; exact hle
          have hilte : (e : Int) < (preds G i).length := by omega
          rcases HD8.out with e0 | ⟨b8, o8, rfl, hgl⟩
          · rw [e0] at hiu; simp at hiu
          have g1 := hgl e hiu
          rw [← HWX.out.cell (p := ⟨b8, o8 + e, none⟩) (World.block_lt_of_cell? _ _ g1)] at g1
          rw [up_getD hle, List.getD_eq_getElem?_getD, List.getElem?_eq_getElem hle] at g1
          change wr.cell? ⟨b8, o8 + e, none⟩ = some (.int .i64 ((preds G i)[e] : Nat)) at g1
          have hx := preds_lt hlt _ (List.getElem_mem hle)
          have hS := bI_succ G i e hle
          have hbl := bI_len G i e
          generalize (preds G i)[e] = x at g1 hx hS
          have t1 := HT1.out
          rw [← HWX.out.cell (p := ⟨gt, i, none⟩) (World.block_lt_of_cell? _ _ t1)] at t1
          have t2 := HT2.out x hx
          rw [← HWX.out.cell (p := ⟨at_, x, none⟩) (World.block_lt_of_cell? _ _ t2)] at t2
          have hpl2 : (up (bI G i e)).length + 1 ≤ 4398046511104 := by rw [up_len]; omega
          have Hb1 := HBX.out.size
          generalize tB G i x = tb at t2 hS
          clear hgl hiu
          cases tb with
          | false =>
            have HS : Hid (bI G i (e + 1) = bI G i e) := by show _ = _; rw [hS]; simp
            clear hS
            go_wp2
            go_quiet (fail)
            go_wp2
            exact ⟨⟨e + 1, by go_num, by omega, by rw [HS.out]; exact HE, Lib.hid (HBX.out.trans (belowN _ _))⟩, by simp [intOf]; omega⟩
          | true =>
            have HS : Hid (bI G i (e + 1) = bI G i e ++ [x]) := by show _ = _; rw [hS]; simp
            clear hS
            go_wp2
            go_quiet (fail)
            have HE' := Lib.hid (show gi.Own (wr.drewN nq) wa.heap.size u10 (up (bI G i e)) from HE.out)
            have HBX' := Lib.hid (HBX.out.trans (belowN wr nq))
            have Hb1' := HBX'.out.size
            go_wp2_with (at_builtin; refine app1 (.tmp 56) (.tmp 64) rfl rfl rfl HE'.out (x : Int) rfl rfl hpl2 Hb1' ?_; intro g9 cap8 w9 k1 k2 k3 k4)
            exact ⟨⟨e + 1, by go_num, by omega, Lib.hid (by rw [HS.out, up_snoc]; exact k1), Lib.hid (below_grown HBX'.out k2 Hb1' (fun j hj => (HE'.out.lt j hj).1))⟩, by simp [intOf]; omega⟩
        · obtain rfl : e = (preds G i).length := by omega
          have HE2 : Hid (gi.Own wr wa.heap.size u10 (up (bL G i))) := by show gi.Own _ _ _ _; rw [← bI_all G i]; exact HE.out
          have HO4 := Lib.hid (HO.out.lift HWX.out)
          have HB6 := Lib.hid (HB3.out.trans (HWX.out.mono Hz1))
          have hS := loopsI_succ G i
          clear HE HT1 HU1 HT2 HD8
          by_cases hbe : bL G i = []
          · have HS : Hid (loopsI G (i + 1) = loopsI G i) := by show _ = _; rw [hS, hbe]; simp
            obtain ⟨ao1, c1, e1, _⟩ := HE2.out.rd
            rw [hbe] at e1
            have e2 : _ = Value.slice ao1 0 c1 := e1
            clear e1
            subst e2
            clear hS
            go_wp2
            exact ⟨⟨i + 1, by go_num, by omega, by rw [HS.out]; exact HO4, HB6⟩, by simp [intOf]; omega⟩
          · have HS : Hid (loopsI G (i + 1) = loopsI G i ++ [(i, nodesL G i)]) := by show _ = _; rw [hS]; simp [hbe]
            have HQ0 := AQ.start hwz HM0.out HE2.out HBX.out HWX.out
            have HQ1 := Lib.hid (HQ0.marked i)
            have HW0 := Lib.hid (WL.start hlt)
            have hM := muW_start HF.out i ((List.replicate G.length false).set i true)
            obtain ⟨m1, m2⟩ := HQ0.met hlt
            obtain ⟨ao1, c1, e1, _⟩ := HE2.out.rd
            rw [up_len] at e1
            have hbl : 0 < (bL G i).length := List.length_pos_iff.2 hbe
            have hbl2 : (bL G i).length ≤ 140737488351232 := by
              have h2 : (bL G i).length ≤ (preds G i).length := List.length_filter_le _ _
              omega
            obtain ⟨bn, hbn⟩ : ∃ bn, (bL G i).length = bn + 1 := ⟨(bL G i).length - 1, by omega⟩
            rw [hbn] at e1 hbl hbl2
            subst e1
            clear hS hbe HE2 HQ0 hbn
            go_wp2
            clear m1 m2
            have hz0 : ((bn : Int) + 1 == 0) = false := by rw [beq_eq_false_iff_ne]; omega
            rw [hz0]
            clear hz0
            go_loopg [10] (muW G ((List.replicate G.length false).set i true) (bL G i)) (fun k v10 wx => ∃ ws ms, Hid (AQ OW wx OW.heap.size G.length v10 ws ms) ∧ Hid (WL G i ms ws) ∧ muW G ms ws ≤ k ∧ muW G ms ws ≤ 10000000)
            case atStart => exact ⟨_, _, HQ1, HW0, Nat.le_refl _, hM⟩
            case round =>
              obtain ⟨ws, ms, HO3, HL, hk, hk7⟩ := hrel
              clear HQ1 HW0 hM
              cases ws with
              | nil =>
                have HD := Lib.hid (fun x => HL.out.done x)
                have hnil : ∃ ao1 c1, u10 = .slice ao1 0 c1 := by rcases HO3.out.wt with ⟨e, _⟩ | ⟨g, off, cap, cur, e, _⟩ <;> exact ⟨_, _, e⟩
                obtain ⟨ao1, c1, rfl⟩ := hnil
                have hml := HO3.out.ml
                clear hk hk7 HL
                go_wp2
                obtain ⟨W3, hW3⟩ : ∃ z, z = wr := ⟨_, rfl⟩
                subst hW3
                have HN0 := Lib.hid (NoS.start (G := G) W3 i)
                go_loopw [14] (fun y wx => ∃ (j : Nat) (v : Value), y = .int .i64 j ∧ j ≤ G.length ∧ Hid (NoS G W3 wx i v j)) (fun y _ => G.length - (intOf y).toNat)
                case atStart => exact ⟨0, _, rfl, Nat.zero_le _, HN0⟩
                case round =>
                  clear HN0
                  obtain ⟨j, nv, rfl, hj, HN⟩ := hrel
                  obtain ⟨k1, k2, k3⟩ := HN.out.cells
                  by_cases hjl : j < G.length
                  · have hjlt : (j : Int) < G.length := by omega
                    obtain ⟨m1, _⟩ := HO3.out.met hjl
                    rw [HD.out j, ← HN.out.below.cell (p := ⟨OW.heap.size, j, none⟩) HO3.out.gm1] at m1
                    have hS := nodesI_succ G i j
                    have hnl := nodesI_len G i j
                    have hpl : (up (nodesI G i j)).length + 1 ≤ 4398046511104 := by rw [up_len]; omega
                    have Hb1 := HN.out.sz
                    generalize clB G i j = cb' at m1 hS
                    cases cb' with
                    | false =>
                      have HS2 : nodesI G i (j + 1) = nodesI G i j := by rw [hS]; simp
                      have HN' := Lib.hid (HN.out.skip HS2)
                      clear hS HS2 k1 k2 k3
                      go_wp2
                      exact ⟨⟨j + 1, nv, by go_num, by omega, HN'⟩, by simp [intOf]; omega⟩
                    | true =>
                      have HS2 : Hid (nodesI G i (j + 1) = nodesI G i j ++ [j]) := by show _ = _; rw [hS]; simp
                      have hne := HN.out.ne
                      have HP1 := HN.out.hp
                      clear hS
                      go_wp2_with (at_builtin; refine app1 (.tmp 107) (.tmp 109) rfl rfl rfl HN.out.ow (j : Int) rfl rfl hpl Hb1 ?_; intro g9 cap8 w9 q1 q2 q3 q4; have r1 := grown_heap q2 HP1 (fun e => hne e.symm); have r2 : w9.cell? ⟨W3.heap.size, 1, none⟩ = some nv := by {simp [World.cell?, r1]}; have r3 : w9.frozen? ⟨W3.heap.size, 1, none⟩ = false := by {simp [World.frozen?, r1]})
                      exact ⟨⟨j + 1, _, by go_num, by omega, Lib.hid (HN.out.more HS2.out q1 q2)⟩, by simp [intOf]; omega⟩
                  · obtain rfl : j = G.length := by omega
                    obtain ⟨ao7, c7, e7, _⟩ := HN.out.ow.rd
                    subst e7
                    have HB7 := Lib.hid (HO3.out.below.trans (HN.out.below.mono HO3.out.bsz))
                    have HO7 := Lib.hid (HO.out.lift HB7.out)
                    have HB8 := Lib.hid (HB3.out.trans (HB7.out.mono Hz1))
                    have hz5 := HB8.out.size
                    have hz6 := HO3.out.bsz
                    have HNO := Lib.hid (HN.out.ow.mono (B' := w2.heap.size) (by omega))
                    have hll := loopsI_len G i
                    have hl5 : (loopsI G i).length + 1 ≤ 1000 := by omega
                    go_wp2_with (at_builtin; refine appLr (.tmp 112) (.tmp 114) rfl rfl rfl HO7.out HNO.out rfl rfl hl5 hz5 ?_; intro v9 w9 q1 q2)
                    exact ⟨⟨i + 1, by go_num, by omega, Lib.hid (by rw [HS.out]; exact q1), Lib.hid (below_grown HB8.out q2 hz5 HO7.out.lt)⟩, by simp [intOf]; omega⟩
              | cons y wl =>
                obtain ⟨g1, o1, c1, rfl, t1, t2, t3⟩ := HO3.out.top
                have hy := HL.out.lt y (by simp)
                have hkb : wl.length + 1 ≤ 10000000 := by unfold muW at hk7; simp only [List.length_cons] at hk7; omega
                obtain ⟨m1, m2⟩ := t3.met hy
                have hml := t3.ml
                by_cases hc1 : c1 = 1
                · have hq : tailV g1 o1 (wl.length + 1) c1 = .slice (some ⟨g1, o1, none⟩) wl.length 0 := by unfold tailV; rw [if_pos hc1]; rfl
                  rw [hq] at t3
                  have HT := Lib.hid t3
                  clear t3 hq
                  cases hm : ms.getD y false with
                  | true =>
                    have HM := Lib.hid hm
                    rw [hm] at m1
                    clear hm
                    go_wp2
                    have hd : muW G ms wl < muW G ms (y :: wl) := muW_skip (by simp)
                    go_roundg (muW G ms wl)
                    case measure => omega
                    case rel => exact ⟨wl, ms, HT, Lib.hid (HL.out.skip (fun x => by simp) HM.out), Nat.le_refl _, by omega⟩
                  | false =>
                    have HM := Lib.hid hm
                    rw [hm] at m1
                    clear hm
                    have HT3 := Lib.hid (HT.out.marked y)
                    obtain ⟨u, u1, u2⟩ := (HGP.out.lift HT3.out.below).at_ (k := y) hy
                    change gi.Rd _ u (up (preds G y)) at u2
                    have hpl : (up wl).length + (up (preds G y)).length ≤ 4398046511104 := by rw [up_len, up_len]; have := preds_len HF.out y; omega
                    have Hb1 := HT3.out.bsz
                    have HU := Lib.hid u2
                    clear u2
                    go_wp2_with (at_builtin; refine appQ (.tmp 88) (.tmp 92) rfl rfl rfl HT3.out.wt rfl HU.out hpl Hb1 ?_; intro v9 w9 k1 k2 k3)
                    have hd : muW G (ms.set y true) (wl ++ preds G y) < muW G ms (y :: wl) := muW_take (by simp) hml hy HM.out
                    go_roundg (muW G (ms.set y true) (wl ++ preds G y))
                    case measure => omega
                    case rel => exact ⟨wl ++ preds G y, ms.set y true, Lib.hid (HT3.out.more k1 k2 k3), Lib.hid (HL.out.take (fun x => by simp) HM.out), Nat.le_refl _, by omega⟩
                · have hq : tailV g1 o1 (wl.length + 1) c1 = .slice (some ⟨g1, o1 + 1, none⟩) wl.length (c1 - 1) := by unfold tailV; rw [if_neg hc1]; rfl
                  rw [hq] at t3
                  have HT := Lib.hid t3
                  clear t3 hq
                  cases hm : ms.getD y false with
                  | true =>
                    have HM := Lib.hid hm
                    rw [hm] at m1
                    clear hm
                    go_wp2
                    have hd : muW G ms wl < muW G ms (y :: wl) := muW_skip (by simp)
                    go_roundg (muW G ms wl)
                    case measure => omega
                    case rel => exact ⟨wl, ms, HT, Lib.hid (HL.out.skip (fun x => by simp) HM.out), Nat.le_refl _, by omega⟩
                  | false =>
                    have HM := Lib.hid hm
                    rw [hm] at m1
                    clear hm
                    have HT3 := Lib.hid (HT.out.marked y)
                    obtain ⟨u, u1, u2⟩ := (HGP.out.lift HT3.out.below).at_ (k := y) hy
                    change gi.Rd _ u (up (preds G y)) at u2
                    have hpl : (up wl).length + (up (preds G y)).length ≤ 4398046511104 := by rw [up_len, up_len]; have := preds_len HF.out y; omega
                    have Hb1 := HT3.out.bsz
                    have HU := Lib.hid u2
                    clear u2
                    go_wp2_with (at_builtin; refine appQ (.tmp 88) (.tmp 92) rfl rfl rfl HT3.out.wt rfl HU.out hpl Hb1 ?_; intro v9 w9 k1 k2 k3)
                    have hd : muW G (ms.set y true) (wl ++ preds G y) < muW G ms (y :: wl) := muW_take (by simp) hml hy HM.out
                    go_roundg (muW G (ms.set y true) (wl ++ preds G y))
                    case measure => omega
                    case rel => exact ⟨wl ++ preds G y, ms.set y true, Lib.hid (HT3.out.more k1 k2 k3), Lib.hid (HL.out.take (fun x => by simp) HM.out), Nat.le_refl _, by omega⟩
    · obtain rfl : i = G.length := by omega
      go_wp2
      go_ret2
      have a1 := HB1.out.trans (HB2.out.mono HB1.out.size)
      exact ⟨_, rfl, HO.out.mono a1.size, a1.trans (HB3.out.mono a1.size)⟩
end Go.Proofs.Ytcghekbbaeejaaa.gr
