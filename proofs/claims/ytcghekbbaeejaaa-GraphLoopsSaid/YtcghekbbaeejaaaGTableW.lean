/- The document's table: its contract. -/
import Derived.Test.YtcghekbbaeejaaaGTable
import Derived.StillTailTactics
set_option linter.unusedVariables false
set_option linter.unusedSimpArgs false
namespace Go.Proofs.Ytcghekbbaeejaaa.gr
open Go.RowKit Go.Proofs.Ytcghekbbaeejaaa.Gr

def TabP (G : List (List Nat)) (w : World) (e : Ending) (w' : World) : Prop := ∃ gb, e = .returned (.slice (some ⟨gb, 0, none⟩) G.length G.length) ∧ RdT G w' gb ∧ Below w.heap.size w w'
theorem wo_cell {G : List (List Nat)} {w : World} {B g : Nat} {a : Int} (wf : WF G) (ha : a < G.length) (h : Ow w B 4 (.slice (some ⟨g, 0, none⟩) G.length G.length) ((wo G a).map .bool)) {b : Nat} (hb : b < G.length) : w.cell? ⟨g, b, none⟩ = some (.bool ((wo G a).getD b false)) := by
  have hl := wo_len G wf a ha
  exact h.cell (by rw [List.getElem?_map, List.getD_eq_getElem?_getD, List.getElem?_eq_getElem (by omega)]; rfl)

set_option maxRecDepth 100000 in
set_option maxHeartbeats 16000000 in
theorem table_any (v : Value) (G : List (List Nat)) (F : Fine G) (w : World) (h : RdG w v (upp G)) :
    Calls Try.prog 30 #[v] w (TabP G w) := by
  have hn := F.n
  have hp := F.wf.pos
  have HF := Lib.hid F
  have HR := Lib.hid h
  have HWO := Lib.hid (fun a h1 h2 w' hw => without_any v G F.wf F.n F.e a h1 h2 w' hw)
  obtain ⟨ao, cap, rfl, _, _, _⟩ := h
  rw [upp_len] at HR HWO ⊢
  have hmk := make_tab G.length (by omega)
  have hmb := make_bools G.length (by omega)
  clear F
  go_enter Try.func30, Try.ntmps30
  go_upto_region 3 with (go_at_call 24; refine (HWO.out (-1) (by omega) (by omega) _ HR.out).mono ?_; rintro e w1 ⟨ga, rfl, ho, hb1⟩; have HA := Lib.hid (fun b hb => wo_cell HF.out.wf (by omega) ho (b := b) hb); have HB1 := Lib.hid hb1; clear ho hb1)
  have HS := Lib.hid (ts_start (G := G) (w1 := w1) hn)
  have hgb : w1.heap.size < (w1.alloc (.cells (Array.replicate G.length (Value.slice none 0 0)) 46)).heap.size := by simp
  generalize w1.alloc _ = W1 at HS hgb ⊢
  have HGB := Lib.hid hgb
  clear hmk hgb
  go_wp2
  go_loopw [5] (fun y wr => ∃ (i : Nat) (vs : List Value), y = .int .i64 i ∧ i ≤ G.length ∧ Hid (TS G w1 wr w1.heap.size vs i) ∧ Hid (w1.heap.size < wr.heap.size)) (fun y _ => G.length - (intOf y).toNat)
  case atStart => exact ⟨0, _, rfl, Nat.zero_le _, HS, HGB⟩
  case round =>
    clear HS HGB
    obtain ⟨i, vs, rfl, hi, HT, HGB⟩ := hrel
    by_cases hlt : i < G.length
    · have hilt : (i : Int) < G.length := by omega
      obtain ⟨⟨u0, r0⟩, r1, r2⟩ := HT.out.row hn hlt HGB.out
      have HTR := Lib.hid r2
      have a0 := HA.out i hlt
      rw [← HTR.out.ts.below.cell (p := ⟨ga, i, none⟩) (World.block_lt_of_cell? w1 _ a0)] at a0
      have HGB2 : Hid (w1.heap.size < ((wr.alloc (.cells (Array.replicate G.length (Value.bool false)) 4)).setCell ⟨w1.heap.size, i, none⟩ (.slice (some ⟨wr.heap.size, 0, none⟩) G.length G.length)).heap.size) := by show _ < _; have := HGB.out; simp; omega
      cases hal : (wo G (-1)).getD i false with
      | false =>
        rw [hal] at a0
        have HTD : Hid (TS G w1 _ w1.heap.size _ (i + 1)) := Lib.hid (HTR.out.done (fun b _ => by
          rw [if_neg (by omega)]; unfold tB allB; rw [hal]; rfl))
        clear r2 hal
        go_wp2
        exact ⟨⟨i + 1, _, by go_num, by omega, HTD, HGB2⟩, by simp [intOf]; omega⟩
      | true =>
        rw [hal] at a0
        have HAL := Lib.hid hal
        have HRW := Lib.hid (HR.out.lift (HB1.out.trans (HTR.out.ts.below.mono HB1.out.size)))
        have HCL := Lib.hid (HWO.out (i : Int) (by omega) (by omega) _ HRW.out)
        have hgl0 : wr.heap.size < ((wr.alloc (.cells (Array.replicate G.length (Value.bool false)) 4)).setCell ⟨w1.heap.size, i, none⟩ (.slice (some ⟨wr.heap.size, 0, none⟩) G.length G.length)).heap.size := by simp
        have HGL0 := Lib.hid hgl0
        clear r2 hal hgl0
        go_wp2_with (go_at_call 24; refine HCL.out.mono ?_; rintro e w2 ⟨gl, rfl, ho, hb2⟩; have HL := Lib.hid (fun b hb => wo_cell HF.out.wf (by omega) ho (b := b) hb); have HT2 := Lib.hid (HTR.out.lift hb2); have HGL : Hid (gl ≠ wr.heap.size) := Lib.hid (by have := (ho.lt gl rfl).1; have := HGL0.out; omega); have HGB3 : Hid (w1.heap.size < w2.heap.size) := Lib.hid (by have := hb2.size; have := HGB2.out; omega); clear ho hb2)
        clear HTR HCL HRW HGL0 a0 u0 r0 r1 HGB2
        generalize wr.heap.size = gr at HT2 HGL ⊢
        generalize vs.set i (.slice (some ⟨gr, 0, none⟩) G.length G.length) = vs2 at HT2 ⊢
        clear HT HGB
        have HGA : Hid (ga < w1.heap.size) := World.block_lt_of_cell? w1 _ (HA.out i hlt)
        go_loopw [7] (fun y wx => ∃ j : Nat, y = .int .i64 j ∧ j ≤ G.length ∧ Hid (TR G w1 wx w1.heap.size gr vs2 i j) ∧ Hid (∀ b, b < G.length → wx.cell? ⟨gl, b, none⟩ = some (.bool ((wo G (i : Int)).getD b false))) ∧ Hid (w1.heap.size < wx.heap.size)) (fun y _ => G.length - (intOf y).toNat)
        case atStart => exact ⟨0, rfl, Nat.zero_le _, HT2, HL, HGB3⟩
        case round =>
          clear HT2 HL HGB3
          obtain ⟨j, rfl, hj, HJ, HLJ, HGB3⟩ := hrel
          by_cases hjt : j < G.length
          · have hjlt : (j : Int) < G.length := by omega
            obtain ⟨c0, ⟨u5, c1⟩, c2⟩ := HJ.out.cells hjt
            have a1 := HA.out j hjt
            rw [← HJ.out.ts.below.cell (p := ⟨ga, j, none⟩) (World.block_lt_of_cell? w1 _ a1)] at a1
            have l1 := HLJ.out j hjt
            have hal2 := HAL.out
            cases haj : (wo G (-1)).getD j false with
            | false =>
              rw [haj] at a1
              generalize hlj : (wo G (i : Int)).getD j false = lj at l1
              have HU : Hid (false = tB G i j) := by
                show _ = _
                unfold tB allB woB; rw [hal2, haj]; simp
              have P1 := (HJ.out.lift (Below.refl wr.heap.size wr).drew).put hjt HU.out
              have HP := Lib.hid P1.2
              have K1 : Hid ((wr.drew.setCell ⟨gr, j, none⟩ (.bool (false))).cell? ⟨w1.heap.size, i, none⟩ = some (.slice (some ⟨gr, 0, none⟩) G.length G.length)) := Lib.hid (grown_cell P1.1 (p := ⟨w1.heap.size, i, none⟩) c0 (fun e => by have e : w1.heap.size = gr := Option.some.inj e; have := HJ.out.lt; omega))
              have K2 : Hid ((wr.drew.setCell ⟨gr, j, none⟩ (.bool (false))).cell? ⟨ga, j, none⟩ = some (.bool false)) := Lib.hid (grown_cell P1.1 (p := ⟨ga, j, none⟩) a1 (fun e => by have e : ga = gr := Option.some.inj e; have := HGA.out; have := HJ.out.lt; omega))
              have K3 : Hid ((wr.drew.setCell ⟨gr, j, none⟩ (.bool (false))).cell? ⟨gl, j, none⟩ = some (.bool lj)) := Lib.hid (grown_cell P1.1 (p := ⟨gl, j, none⟩) l1 (fun e => HGL.out (Option.some.inj e)))
              have HL3 : Hid (∀ b, b < G.length → (wr.drew.setCell ⟨gr, j, none⟩ (.bool (false))).cell? ⟨gl, b, none⟩ = some (.bool ((wo G (i : Int)).getD b false))) := fun b hb => grown_cell P1.1 (p := ⟨gl, b, none⟩) (HLJ.out b hb) (fun e => HGL.out (Option.some.inj e))
              clear P1 haj hal2
              go_wp2_with fail
              go_still_tail 17, (by kernel_rfl)
              go_wp2
              exact ⟨⟨j + 1, by go_num, by omega, HP, HL3, Lib.hid (by have := HGB3.out; simp; omega)⟩, by simp [intOf]; omega⟩
            | true =>
              rw [haj] at a1
              generalize hlj : (wo G (i : Int)).getD j false = lj at l1
              have HU : Hid ((!lj) = tB G i j) := by
                show _ = _
                unfold tB allB woB; rw [hal2, haj, hlj]; simp
              have P1 := (HJ.out.lift (Below.refl wr.heap.size wr).drew).put hjt HU.out
              have HP := Lib.hid P1.2
              have K1 : Hid ((wr.drew.setCell ⟨gr, j, none⟩ (.bool (!lj))).cell? ⟨w1.heap.size, i, none⟩ = some (.slice (some ⟨gr, 0, none⟩) G.length G.length)) := Lib.hid (grown_cell P1.1 (p := ⟨w1.heap.size, i, none⟩) c0 (fun e => by have e : w1.heap.size = gr := Option.some.inj e; have := HJ.out.lt; omega))
              have K2 : Hid ((wr.drew.setCell ⟨gr, j, none⟩ (.bool (!lj))).cell? ⟨ga, j, none⟩ = some (.bool true)) := Lib.hid (grown_cell P1.1 (p := ⟨ga, j, none⟩) a1 (fun e => by have e : ga = gr := Option.some.inj e; have := HGA.out; have := HJ.out.lt; omega))
              have K3 : Hid ((wr.drew.setCell ⟨gr, j, none⟩ (.bool (!lj))).cell? ⟨gl, j, none⟩ = some (.bool lj)) := Lib.hid (grown_cell P1.1 (p := ⟨gl, j, none⟩) l1 (fun e => HGL.out (Option.some.inj e)))
              have HL3 : Hid (∀ b, b < G.length → (wr.drew.setCell ⟨gr, j, none⟩ (.bool (!lj))).cell? ⟨gl, b, none⟩ = some (.bool ((wo G (i : Int)).getD b false))) := fun b hb => grown_cell P1.1 (p := ⟨gl, b, none⟩) (HLJ.out b hb) (fun e => HGL.out (Option.some.inj e))
              clear P1 haj hal2
              go_wp2_with fail
              go_region_held3 (fun z => z.cell? ⟨w1.heap.size, i, none⟩ = some (.slice (some ⟨gr, 0, none⟩) G.length G.length) ∧ z.cell? ⟨ga, j, none⟩ = some (.bool true) ∧ z.cell? ⟨gl, j, none⟩ = some (.bool lj)) (first | exact ⟨c0, a1, l1⟩ | exact ⟨K1.out, K2.out, K3.out⟩ | go_keep) (fail)
              go_wp2
              exact ⟨⟨j + 1, by go_num, by omega, HP, HL3, Lib.hid (by have := HGB3.out; simp; omega)⟩, by simp [intOf]; omega⟩
          · obtain rfl : j = G.length := by omega
            have HTD : Hid (TS G w1 wr w1.heap.size vs2 (i + 1)) := Lib.hid (HJ.out.done (fun b hb => by rw [if_pos hb]))
            clear HJ
            go_wp2
            exact ⟨⟨i + 1, _, by go_num, by omega, HTD, HGB3⟩, by simp [intOf]; omega⟩
    · obtain rfl : i = G.length := by omega
      go_wp2
      go_ret
      exact ⟨_, rfl, HT.out.rd, HB1.out.trans (HT.out.below.mono HB1.out.size)⟩
end Go.Proofs.Ytcghekbbaeejaaa.gr
