/- What lies around a node: the walk. -/
import Derived.Test.YtcghekbbaeejaaaGArS
set_option linter.unusedVariables false
set_option linter.unusedSimpArgs false
namespace Go.Proofs.Ytcghekbbaeejaaa.gr
open Go.RowKit Go.Proofs.Ytcghekbbaeejaaa.Gr

theorem fromL_len {G : List (List Nat)} (F : Fine G) : (upp (fromL G)).length = G.length := by rw [upp_len]; exact fromI_len G _
theorem wl_split (ws : List Nat) (h : ws ≠ []) : ∃ wl y, ws = wl ++ [y] ∧ (∀ x, x ∈ ws ↔ x = y ∨ x ∈ wl) := by
  refine ⟨ws.dropLast, ws.getLast h, (List.dropLast_concat_getLast h).symm, fun x => ?_⟩
  conv => lhs; rw [← List.dropLast_concat_getLast h]
  simp [or_comm]

theorem alloc_set (w : World) (n h : Nat) : (w.alloc (.cells (List.replicate n (Value.bool false)).toArray 4)).setCell ⟨w.heap.size, h, none⟩ (.bool true) = w.alloc (.cells ((Array.replicate n (Value.bool false)).setIfInBounds h (.bool true)) 4) := by rw [World.setCell_alloc_at _ _ _ _ _ rfl]; simp
def AroundP (G : List (List Nat)) (h : Nat) (w0 : World) (e : Ending) (w' : World) : Prop := ∃ v, e = .returned v ∧ gi.Own w' w0.heap.size v (up (nodesL G h)) ∧ Below w0.heap.size w0 w'

set_option maxRecDepth 100000 in
set_option maxHeartbeats 8000000 in
theorem around_any (G : List (List Nat)) (F : Fine G) (h : Nat) (hh : h < G.length) (w0 : World) (gb cb : Nat) (hP : RdG w0 (.slice (some ⟨gb, 0, none⟩) G.length cb) (upp (fromL G))) (wv : Value) (w : World) (hW : gi.Own w w0.heap.size wv (up (bL G h))) (hb : Below w0.heap.size w0 w) :
    Calls Try.prog 38 #[.int .i64 (h : Nat), wv, .slice (some ⟨gb, 0, none⟩) G.length cb] w (AroundP G h w0) := by
  have hn := F.n
  have hcb : G.length ≤ cb := by
    obtain ⟨ao, c, e, hc, _⟩ := hP
    simp only [Value.slice.injEq] at e
    obtain ⟨_, e1, rfl⟩ := e
    omega
  have hs := as_start (h := h) hW hb hn
  rw [alloc_set] at hs
  have HS := Lib.hid hs
  clear hs
  have HW := Lib.hid (WL.start hh)
  have hM := muW_start F h ((List.replicate G.length false).set h true)
  have HP := Lib.hid hP
  have HF := Lib.hid F
  have hfz : (w.alloc (.cells (List.replicate G.length (Value.bool false)).toArray 4)).frozen? ⟨w.heap.size, h, none⟩ = false := by
    have := (ow_new (w := w.alloc (.cells (List.replicate G.length (Value.bool false)).toArray 4)) (B := w.heap.size) (g := w.heap.size) (cap := G.length) (T := 4) (cs := (List.replicate G.length (Value.bool false)).toArray) (Nat.le_refl _) (heap_alloc_new w _) (by simp) (by unfold maxLen; omega)).fz h
    exact this
  have hmk := make_bools G.length (by omega)
  clear F hP hW hb
  go_enter Try.func38, Try.ntmps38
  go_wp2
  clear hmk hfz
  go_loopg [1] (muW G ((List.replicate G.length false).set h true) (bL G h)) (fun k v1 wr => ∃ ws ms, Hid (AS w0 wr w.heap.size G.length v1 ws ms) ∧ Hid (WL G h ms ws) ∧ muW G ms ws ≤ k ∧ muW G ms ws ≤ 10000000)
  case atStart => exact ⟨_, _, HS, HW, Nat.le_refl _, hM⟩
  case round =>
    obtain ⟨ws, ms, HO, HL, hk, hk7⟩ := hrel
    clear HS HW hM
    by_cases hws : ws = []
    · subst hws
      have HD := Lib.hid (fun x => HL.out.done x)
      obtain ⟨ao1, c1, e1, _⟩ := HO.out.wt.rd
      have e2 : _ = Value.slice ao1 0 c1 := e1
      clear e1
      subst e2
      have hml := HO.out.ml
      go_wp2
      go_loopw [9, 48] (fun v9 y wx => ∃ i : Nat, y = .int .i64 i ∧ i ≤ G.length ∧ Hid (gi.Own wx wr.heap.size v9 (up (nodesI G h i))) ∧ Hid (Below wr.heap.size wr wx)) (fun _ y _ => G.length - (intOf y).toNat)
      case atStart => exact ⟨0, rfl, Nat.zero_le _, Lib.hid (gi.Own.nil _ _), Lib.hid (Below.refl _ _)⟩
      case round =>
        clear hk hk7 HL
        obtain ⟨i, rfl, hi, HN, HB⟩ := hrel
        by_cases hlt : i < G.length
        · have hilt : (i : Int) < G.length := by omega
          obtain ⟨m1, _⟩ := HO.out.met hlt
          rw [HD.out i, ← HB.out.cell (p := ⟨w.heap.size, i, none⟩) HO.out.gm1] at m1
          have hS := nodesI_succ G h i
          have hnl := nodesI_len G h i
          have Hb1 := HB.out.size
          have hpl : (up (nodesI G h i)).length + 1 ≤ 4398046511104 := by rw [up_len]; omega
          generalize clB G h i = cb' at m1 hS
          cases cb' with
          | false =>
            have HS2 : Hid (nodesI G h (i + 1) = nodesI G h i) := by show _ = _; rw [hS]; simp
            clear hS
            go_wp2
            exact ⟨⟨i + 1, by go_num, by omega, by rw [HS2.out]; exact HN, HB⟩, by simp [intOf]; omega⟩
          | true =>
            have HS2 : Hid (nodesI G h (i + 1) = nodesI G h i ++ [i]) := by show _ = _; rw [hS]; simp
            clear hS
            go_wp2_with (at_builtin; refine app1 (.tmp 54) (.tmp 56) rfl rfl rfl HN.out (i : Int) rfl rfl hpl Hb1 ?_; intro g9 cap8 w9 k1 k2 k3 k4)
            exact ⟨⟨i + 1, by go_num, by omega, Lib.hid (by rw [HS2.out, up_snoc]; exact k1), Lib.hid (below_grown HB.out k2 Hb1 (fun j hj => (HN.out.lt j hj).1))⟩, by simp [intOf]; omega⟩
        · obtain rfl : i = G.length := by omega
          go_wp2
          go_ret
          exact ⟨_, rfl, HN.out.mono HO.out.bsz, HO.out.below.trans (HB.out.mono HO.out.bsz)⟩
    · obtain ⟨wl, y, rfl, hmem⟩ := wl_split ws hws
      have HMEM := Lib.hid hmem
      obtain ⟨g1, c1, rfl, t1, t2, t3⟩ := HO.out.top
      have HT := Lib.hid t3
      have hy := HL.out.lt y (by simp)
      have hwl : (wl ++ [y]).length = wl.length + 1 := by simp
      have hkb : wl.length + 1 ≤ 10000000 := by unfold muW at hk7; omega
      obtain ⟨m1, m2⟩ := HT.out.met hy
      have hml := HO.out.ml
      clear t3 hws hmem
      cases hm : ms.getD y false with
      | true =>
        have HM := Lib.hid hm
        rw [hm] at m1
        clear hm
        go_wp2
        have hd : muW G ms wl < muW G ms (wl ++ [y]) := muW_skip (by simp)
        go_roundg (muW G ms wl)
        case measure => omega
        case rel => exact ⟨wl, ms, HT, Lib.hid (HL.out.skip HMEM.out HM.out), Nat.le_refl _, by omega⟩
      | false =>
        have HM := Lib.hid hm
        rw [hm] at m1
        clear hm
        have HT2 := Lib.hid (HT.out.marked y)
        have hat := (HP.out.lift HT2.out.below).at_ (k := y) hy
        obtain ⟨u, u1, u2⟩ := hat
        change gi.Rd _ u (up (preds G y)) at u2
        have hpl : (up wl).length + (up (preds G y)).length ≤ 4398046511104 := by rw [up_len, up_len]; have := preds_len HF.out y; omega
        have Hb1 := HT2.out.bsz
        have HU := Lib.hid u2
        clear u2
        go_wp2_with (at_builtin; refine appN (.tmp 40) (.tmp 44) rfl rfl rfl HT2.out.wt rfl HU.out hpl Hb1 ?_; intro v9 w9 k1 k2 k3)
        have hd : muW G (ms.set y true) (wl ++ preds G y) < muW G ms (wl ++ [y]) := muW_take (by simp) hml hy HM.out
        go_roundg (muW G (ms.set y true) (wl ++ preds G y))
        case measure => omega
        case rel => exact ⟨wl ++ preds G y, ms.set y true, Lib.hid (HT2.out.more k1 k2 k3), Lib.hid (HL.out.take HMEM.out HM.out), Nat.le_refl _, by omega⟩
end Go.Proofs.Ytcghekbbaeejaaa.gr
