/- The program's loops: what goes back to a node, and what lies around. -/
import Derived.Test.YtcghekbbaeejaaaGMathE
set_option linter.unusedVariables false
set_option linter.unusedSimpArgs false
namespace Go.Proofs.Ytcghekbbaeejaaa.gr
open Go.RowKit Go.Proofs.Ytcghekbbaeejaaa.Gr

/-- reached, and dominated by h, as the program tells it -/
theorem back_eq {G : List (List Nat)} (F : Fine G) {h p : Nat} (hh : h < G.length) (hp : p < G.length) :
    ((decide (p = 0) || decide ((nearL G).getD p 0 ≠ -1)) && domB (nearL G) (h : Int) (p : Int)) = tB G h p := by
  have hN := nearL_is F.wf
  have hr : (decide (p = 0) || decide ((nearL G).getD p 0 ≠ -1)) = true ↔ Reached G p := by
    rw [Bool.or_eq_true, decide_eq_true_eq, decide_eq_true_eq, getD_dflt (by rw [hN.len]; exact hp) 0 (-1)]
    constructor
    · rintro (rfl | h)
      · exact (reached_r F.wf).2 ⟨0, .zero⟩
      · exact Classical.byContradiction fun e => h (hN.none p (.inr e))
    · intro h
      by_cases h0 : p = 0
      · exact .inl h0
      · obtain ⟨m, e, _⟩ := hN.some p h h0
        right; rw [e]; omega
  rw [Bool.eq_iff_iff, Bool.and_eq_true, hr, domB_near F hh hp, tB_iff F.wf hh]
  constructor
  · rintro ⟨h1, rfl | h2⟩
    · obtain ⟨k, hk⟩ := (reached_r F.wf).1 h1; exact Dom.self hk
    · exact h2
  · intro h; exact ⟨(reached_r F.wf).2 h.1, .inr h⟩

def bI (G : List (List Nat)) (h i : Nat) : List Nat := ((preds G h).take i).filter fun p => tB G h p
theorem bI_succ (G : List (List Nat)) (h i : Nat) (hi : i < (preds G h).length) : bI G h (i + 1) = bI G h i ++ if tB G h (preds G h)[i] = true then [(preds G h)[i]] else [] := by
  unfold bI; rw [List.take_succ_eq_append_getElem hi, List.filter_append]
  by_cases e : tB G h (preds G h)[i] = true <;> simp [e]
theorem bI_all (G : List (List Nat)) (h : Nat) : bI G h (preds G h).length = bL G h := by unfold bI bL; rw [List.take_of_length_le (Nat.le_refl _)]
theorem bI_len (G : List (List Nat)) (h i : Nat) : (bI G h i).length ≤ (preds G h).length := by
  unfold bI; exact Nat.le_trans (List.length_filter_le _ _) (by rw [List.length_take]; omega)

def BackP (G : List (List Nat)) (h : Nat) (w : World) (e : Ending) (w' : World) : Prop := ∃ v, e = .returned v ∧ gi.Own w' w.heap.size v (up (bL G h)) ∧ Below w.heap.size w w'

set_option maxRecDepth 100000 in
set_option maxHeartbeats 8000000 in
theorem goBack_any (G : List (List Nat)) (F : Fine G) (h : Nat) (hh : h < G.length) (nv pv : Value) (w : World) (hN : gi.Rd w nv (nearL G)) (hP : gi.Rd w pv (up (preds G h))) :
    Calls Try.prog 37 #[nv, .int .i64 (h : Nat), pv] w (BackP G h w) := by
  have hn := F.n
  have hpl := preds_len F h
  have HPL := Lib.hid (preds_lt hh)
  have HNR := Lib.hid hN
  have hnl : (nearL G).length = G.length := nearI_len G _
  have HNL := Lib.hid hnl
  have HBE := Lib.hid (fun (p : Nat) hp => back_eq F (h := h) (p := p) hh hp)
  have HF := Lib.hid F
  obtain ⟨ap, cp, rfl, hcp, _, hdp⟩ := hP
  rw [up_len] at hcp ⊢
  have HD := Lib.hid hdp
  have HC := Lib.hid hcp
  clear hdp hcp F hN hnl
  go_enter Try.func37, Try.ntmps37
  go_wp2
  go_loopw [7, 12] (fun v7 y wr => ∃ i : Nat, y = .int .i64 i ∧ i ≤ (preds G h).length ∧ Hid (gi.Own wr w.heap.size v7 (up (bI G h i))) ∧ Hid (Below w.heap.size w wr)) (fun _ y _ => (preds G h).length - (intOf y).toNat)
  case atStart => exact ⟨0, rfl, Nat.zero_le _, Lib.hid (gi.Own.nil _ _), Lib.hid (Below.refl _ _)⟩
  case round =>
    obtain ⟨i, rfl, hi, HO, HB⟩ := hrel
    by_cases hlt : i < (preds G h).length
    · have hilt : (i : Int) < (preds G h).length := by omega
      have hiu : i < (up (preds G h)).length := by rw [up_len]; exact hlt
      rcases HD.out with e | ⟨bl, ol, rfl, hgl⟩
      · rw [e] at hiu; simp at hiu
      have g1 := hgl i hiu
      rw [← HB.out.cell (p := ⟨bl, ol + i, none⟩) (World.block_lt_of_cell? w _ g1)] at g1
      rw [up_getD hlt, List.getD_eq_getElem?_getD, List.getElem?_eq_getElem hlt] at g1
      change wr.cell? ⟨bl, ol + i, none⟩ = some (.int .i64 ((preds G h)[i] : Nat)) at g1
      have hx := HPL.out _ (List.getElem_mem hlt)
      have hS := bI_succ G h i hlt
      have hbl := bI_len G h i
      generalize (preds G h)[i] = x at g1 hx hS
      have hbe := HBE.out x hx
      have hcl := HC.out
      have HRC := Lib.hid (reached_any nv (nearL G) x wr (HNR.out.lift HB.out) (by rw [HNL.out]; omega) (by rw [HNL.out]; exact hx))
      have HDC := Lib.hid (dominates_any nv (nearL G) (h : Int) (x : Int) wr (HNR.out.lift HB.out) (by rw [HNL.out]; omega))
      have Hb1 := HB.out.size
      have hpl2 : (up (bI G h i)).length + 1 ≤ 4398046511104 := by rw [up_len]; omega
      generalize domB (nearL G) (h : Int) (x : Int) = db at hbe HDC
      cases hrb : (decide (x = 0) || decide ((nearL G).getD x 0 ≠ -1)) with
      | false =>
        rw [hrb] at HRC hbe
        have HS : Hid (bI G h (i + 1) = bI G h i) := by show _ = _; rw [hS, ← hbe]; simp
        clear hS hbe hgl hiu hrb
        go_wp2_with (go_at_call 40; refine HRC.out.mono ?_; rintro e w2 ⟨rfl, rfl⟩)
        exact ⟨⟨i + 1, by go_num, by omega, by rw [HS.out]; exact HO, HB⟩, by simp [intOf]; omega⟩
      | true =>
        rw [hrb] at HRC hbe
        cases db with
        | false =>
          have HS : Hid (bI G h (i + 1) = bI G h i) := by show _ = _; rw [hS, ← hbe]; simp
          clear hS hbe hgl hiu hrb
          go_wp2_with (first
            | (go_at_call 40; refine HRC.out.mono ?_; rintro e w2 ⟨rfl, rfl⟩)
            | (go_at_call 20; refine HDC.out.mono ?_; rintro e w2 ⟨rfl, rfl⟩))
          exact ⟨⟨i + 1, by go_num, by omega, by rw [HS.out]; exact HO, HB⟩, by simp [intOf]; omega⟩
        | true =>
          have HS : Hid (bI G h (i + 1) = bI G h i ++ [x]) := by show _ = _; rw [hS, ← hbe]; simp
          clear hS hbe hgl hiu hrb
          go_wp2_with (first
            | (go_at_call 40; refine HRC.out.mono ?_; rintro e w2 ⟨rfl, rfl⟩)
            | (go_at_call 20; refine HDC.out.mono ?_; rintro e w2 ⟨rfl, rfl⟩)
            | (at_builtin; refine app1 (.tmp 25) (.tmp 27) rfl rfl rfl HO.out (x : Int) rfl rfl hpl2 Hb1 ?_; intro g9 cap8 w9 k1 k2 k3 k4))
          exact ⟨⟨i + 1, by go_num, by omega, Lib.hid (by rw [HS.out, up_snoc]; exact k1), Lib.hid (below_grown HB.out k2 Hb1 (fun j hj => (HO.out.lt j hj).1))⟩, by simp [intOf]; omega⟩
    · obtain rfl : i = (preds G h).length := by omega
      have HE := Lib.hid (bI_all G h)
      go_wp2
      go_ret
      exact ⟨_, rfl, by rw [← HE.out]; exact HO.out, HB.out⟩
end Go.Proofs.Ytcghekbbaeejaaa.gr
