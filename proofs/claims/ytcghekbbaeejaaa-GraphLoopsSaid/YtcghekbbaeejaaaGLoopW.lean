/- The program's loops: the walk. -/
import Derived.Test.YtcghekbbaeejaaaGLoopS
set_option linter.unusedVariables false
set_option linter.unusedSimpArgs false
namespace Go.Proofs.Ytcghekbbaeejaaa.gr
open Go.RowKit Go.Proofs.Ytcghekbbaeejaaa.Gr

noncomputable def loopsL (G : List (List Nat)) : List (Nat × List Nat) := loopsI G G.length
def LoopsP (G : List (List Nat)) (w : World) (e : Ending) (w' : World) : Prop := ∃ v, e = .returned v ∧ LP w' w.heap.size v (loopsL G) ∧ Below w.heap.size w w'

set_option maxRecDepth 100000 in
set_option maxHeartbeats 8000000 in
theorem loops_any (v : Value) (G : List (List Nat)) (F : Fine G) (w : World) (h : RdG w v (upp G)) :
    Calls Try.prog 32 #[v] w (LoopsP G w) := by
  have hn := F.n
  have HFR := Lib.hid (from_any v G F w h)
  have HNE := Lib.hid (fun bv w1 h1 h2 => nearest_any v bv G F w1 h1 h2)
  have HR := Lib.hid h
  have HF := Lib.hid F
  clear F
  obtain ⟨ao, cap, rfl, hcap, _, _⟩ := h
  rw [upp_len] at hcap HFR HNE HR ⊢
  go_enter Try.func32, Try.ntmps32
  go_wp2_with fail
  refine HFR.out.mono ?_
  rintro e w1 ⟨gb, rfl, hB, hb1⟩
  have HB := Lib.hid hB
  have HB1 := Lib.hid hb1
  clear hB hb1
  go_wp2_with fail
  refine (HNE.out _ w1 (HR.out.lift HB1.out) HB.out).mono ?_
  rintro e w2 ⟨nv, N, rfl, hN, hI, hb2⟩
  have e2 := IsNear.uniq hI (nearL_is HF.out.wf)
  subst e2
  have HN := Lib.hid hN.rd
  have HB2 := Lib.hid hb2
  clear hN hb2 hI
  go_wp2
  go_loopw [5, 15] (fun v5 y wr => ∃ i : Nat, y = .int .i64 i ∧ i ≤ G.length ∧ Hid (LP wr w2.heap.size v5 (loopsI G i)) ∧ Hid (Below w2.heap.size w2 wr)) (fun _ y _ => G.length - (intOf y).toNat)
  case atStart => exact ⟨0, rfl, Nat.zero_le _, Lib.hid (LP.nil _ _), Lib.hid (Below.refl _ _)⟩
  case round =>
    obtain ⟨i, rfl, hi, HO, HB3⟩ := hrel
    by_cases hlt : i < G.length
    · have hilt : (i : Int) < G.length := by omega
      have hat := (HB.out.lift (HB2.out.trans (HB3.out.mono HB2.out.size))).at_ (k := i) hlt
      obtain ⟨u, u1, u2⟩ := hat
      change gi.Rd _ u (up (preds G i)) at u2
      have HGB := Lib.hid (goBack_any G HF.out i hlt nv u wr (HN.out.lift HB3.out) u2)
      clear u2
      have hS := loopsI_succ G i
      have hll := loopsI_len G i
      go_wp2_with fail
      refine HGB.out.mono ?_
      rintro e w4 ⟨bv, rfl, hb4, hb5⟩
      have HBV := Lib.hid hb4
      have HB5 := Lib.hid hb5
      clear hb4 hb5
      have HGP := Lib.hid (HB.out.lift (HB2.out.trans (HB3.out.mono HB2.out.size)))
      have Hz1 := HB3.out.size
      have HO4 := Lib.hid (HO.out.lift HB5.out)
      have HB6 := Lib.hid (HB3.out.trans (HB5.out.mono Hz1))
      by_cases hbe : (bL G i) = []
      · have HS : Hid (loopsI G (i + 1) = loopsI G i) := by show _ = _; rw [hS, hbe]; simp
        obtain ⟨ao1, c1, e1, _⟩ := HBV.out.rd
        rw [hbe] at e1
        have e2 : _ = Value.slice ao1 0 c1 := e1
        clear e1
        subst e2
        clear hS HGB
        go_wp2
        exact ⟨⟨i + 1, by go_num, by omega, by rw [HS.out]; exact HO4, HB6⟩, by simp [intOf]; omega⟩
      · have HS : Hid (loopsI G (i + 1) = loopsI G i ++ [(i, nodesL G i)]) := by show _ = _; rw [hS]; simp [hbe]
        have HAR := Lib.hid (around_any G HF.out i hlt wr gb G.length HGP.out bv w4 HBV.out HB5.out)
        obtain ⟨ao1, c1, e1, _⟩ := HBV.out.rd
        rw [up_len] at e1
        have hbl : 0 < (bL G i).length := List.length_pos_iff.2 hbe
        have hbl2 : (bL G i).length ≤ 140737488351232 := by
          have h1 := preds_len HF.out i
          have h2 : (bL G i).length ≤ (preds G i).length := List.length_filter_le _ _
          omega
        subst e1
        clear hS HGB hbe
        generalize (bL G i).length = bn at *
        have hbn : (0 : Int) < bn := by omega
        go_wp2_with fail
        refine HAR.out.mono ?_
        rintro e w5 ⟨rv, rfl, hr, hb7⟩
        obtain ⟨ao7, c7, e7, _⟩ := hr.rd
        subst e7
        have HRV := Lib.hid (hr.mono Hz1)
        have HO5 := Lib.hid (HO.out.lift hb7)
        have HB8 := Lib.hid (HB3.out.trans (hb7.mono Hz1))
        have Hz5 := HB8.out.size
        have hl5 : (loopsI G i).length + 1 ≤ 1000 := by omega
        have hbd := build_loop
        clear hr hb7
        go_wp2_with (at_builtin; refine appL (.tmp 28) (.tmp 35) rfl rfl rfl HO5.out HRV.out rfl rfl hl5 Hz5 ?_; intro v9 w9 k1 k2)
        exact ⟨⟨i + 1, by go_num, by omega, Lib.hid (by rw [HS.out]; exact k1), Lib.hid (below_grown HB8.out k2 Hz5 HO5.out.lt)⟩, by simp [intOf]; omega⟩
    · obtain rfl : i = G.length := by omega
      go_wp2
      go_ret
      have a1 := HB1.out.trans (HB2.out.mono HB1.out.size)
      exact ⟨_, rfl, HO.out.mono a1.size, a1.trans (HB3.out.mono a1.size)⟩
end Go.Proofs.Ytcghekbbaeejaaa.gr
