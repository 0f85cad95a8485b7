/- The program's walk with a stack of its own. -/
import Derived.Test.YtcghekbbaeejaaaGOrdS
import Derived.Deep.LoopGhost
import Derived.WalkMore
import Derived.Outline
import Derived.OwnWalk
set_option linter.unusedVariables false
set_option linter.unusedSimpArgs false
namespace Go.Proofs.Ytcghekbbaeejaaa.gr
open Go.RowKit Go.Proofs.Ytcghekbbaeejaaa.Gr

def mu (left : List (List Nat)) (st : List Nat) (ms : List Bool) : Nat := 2 * U ms + st.length + lefts left

/-- what is kept at each turn of the walk -/
def OR (w0 wr : World) (G : List (List Nat)) (gl cl gm B1 k : Nat) (v5 v6 : Value) (left : List (List Nat)) (st : List Nat) (ms : List Bool) (dn : List Nat) : Prop :=
  OS w0 wr gl cl gm B1 G.length v5 v6 left st ms dn ∧ Gr.Way G G.length left st (ms, dn) ∧ (fin G G.length left st (ms, dn)).2.reverse = orderL G ∧ mu left st ms ≤ k ∧ dn.length + st.length + U ms ≤ G.length

theorem or_pop {w0 wr : World} {G : List (List Nat)} {gl cl gm B1 k x : Nat} {v5 v6 : Value} {left : List (List Nat)} {st : List Nat} {ms : List Bool} {dn : List Nat} (h : OR w0 wr G gl cl gm B1 k v5 v6 left (x :: st) ms dn) (hx : left.getD x [] = [])
    {w' : World} {g g2 cap k2 c2 : Nat} (hg : wr.grownBy w' v6.ownBlock) (hat : v6.ownBlock = some g ∨ wr.heap.size < g) (ho : gi.Own w' B1 (.slice (some ⟨g, 0, none⟩) k2 c2) (up dn ++ [(x : Int)])) (ht : v5 = .slice (some ⟨g2, 0, none⟩) (st.length + 1) cap) :
    ∃ k', k' < k ∧ OR w0 w' G gl cl gm B1 k' (.slice (some ⟨g2, 0, none⟩) st.length cap) (.slice (some ⟨g, 0, none⟩) k2 c2) left st ms (dn ++ [x]) := by
  obtain ⟨h1, h2, h3, h4, h5⟩ := h
  obtain ⟨p1, p2⟩ := way_pop h2 hx
  have h1' := h1.doned hg hat ho
  subst ht
  obtain ⟨g', cap', e, _, _, h1''⟩ := h1'.top
  simp only [Value.slice.injEq, Option.some.injEq, Addr.mk.injEq, and_true, true_and] at e
  obtain ⟨rfl, rfl⟩ := e
  refine ⟨mu left st ms, ?_, h1'', p1, by rw [← h3, ← p2], Nat.le_refl _, ?_⟩
  · unfold mu at h4 ⊢; simp only [List.length_cons] at h4; omega
  · simp only [List.length_append, List.length_cons, List.length_nil] at h5 ⊢; omega
theorem or_skip {w0 wr : World} {G : List (List Nat)} {gl cl gm B1 k x y : Nat} {v5 v6 : Value} {left : List (List Nat)} {st ys : List Nat} {ms : List Bool} {dn : List Nat} (h : OR w0 wr G gl cl gm B1 k v5 v6 left (x :: st) ms dn) (hx : left.getD x [] = y :: ys)
    (hy : met ms y = true) {u : Value} (hu : gi.Rd w0 u (up ys)) : ∃ k', k' < k ∧ OR w0 (wr.setCell ⟨gl, x, none⟩ u) G gl cl gm B1 k' v5 v6 (left.set x ys) (x :: st) ms dn := by
  obtain ⟨h1, h2, h3, h4, h5⟩ := h
  obtain ⟨p1, p2⟩ := way_skip h2 hx hy
  have hxl : x < left.length := by rw [h2.llen]; exact (h2.on x (List.mem_cons_self ..)).1
  have := lefts_set hx hxl
  refine ⟨mu (left.set x ys) (x :: st) ms, ?_, h1.skipped (h2.on x (List.mem_cons_self ..)).1 h2.llen hu, p1, by rw [← h3, ← p2], Nat.le_refl _, h5⟩
  unfold mu at h4 ⊢; omega
theorem or_push {w0 wr : World} {G : List (List Nat)} {gl cl gm B1 k x y : Nat} {v5 v6 : Value} {left : List (List Nat)} {st ys : List Nat} {ms : List Bool} {dn : List Nat} (h : OR w0 wr G gl cl gm B1 k v5 v6 left (x :: st) ms dn) (hx : left.getD x [] = y :: ys)
    (hy : met ms y = false) {w' : World} {g k2 c2 : Nat} (hg : (wr.setCell ⟨gm, y, none⟩ (.bool true)).grownBy w' v5.ownBlock) (hat : v5.ownBlock = some g ∨ (wr.setCell ⟨gm, y, none⟩ (.bool true)).heap.size < g)
    (ho : gi.Own w' B1 (.slice (some ⟨g, 0, none⟩) k2 c2) (up (x :: st).reverse ++ [(y : Int)])) :
    ∃ k', k' < k ∧ OR w0 w' G gl cl gm B1 k' (.slice (some ⟨g, 0, none⟩) k2 c2) v6 left (y :: x :: st) (ms.set y true) dn := by
  obtain ⟨h1, h2, h3, h4, h5⟩ := h
  obtain ⟨p1, p2⟩ := way_push h2 hx hy
  have hu := U_set (ms := ms) (x := y) hy
  refine ⟨mu left (y :: x :: st) (ms.set y true), ?_, (h1.marked y).pushed hg hat ho, p1, by rw [← h3, ← p2], Nat.le_refl _, ?_⟩
  · unfold mu at h4 ⊢; simp only [List.length_cons] at h4 ⊢; omega
  · simp only [List.length_cons] at h5 ⊢; omega

theorem lv_form {w w1 : World} {lv : Value} {vs : List Value} {G : List (List Nat)} (ho : Ow w1 w.heap.size 23 lv vs) (hv : RdL w vs (upp G)) (hp : 0 < G.length) : ∃ gl cl, lv = .slice (some ⟨gl, 0, none⟩) G.length cl ∧ w.heap.size ≤ gl ∧ gl < w1.heap.size := by
  have hl : vs.length = G.length := by rw [hv.1, upp_len]
  obtain ⟨gl, cl, h1, h2, h3, h4⟩ := ho.form (fun e => by rw [e] at hl; simp at hl; omega)
  exact ⟨gl, cl, by rw [h1, hl], h2, h3⟩
theorem or_start {w w1 : World} {vs : List Value} {G : List (List Nat)} {gl cl : Nat} (ho : Ow w1 w.heap.size 23 (.slice (some ⟨gl, 0, none⟩) G.length cl) vs) (hv : RdL w vs (upp G)) (hp : 0 < G.length) (hlt : ∀ x y, y ∈ adj G x → y < G.length) (hn : G.length ≤ 256) (hb : Below w.heap.size w w1) (h1 : w.heap.size ≤ gl) (h2 : gl < w1.heap.size) :
    OR w (((w1.alloc (.cells (Array.replicate G.length (Value.bool false)) 4)).setCell ⟨w1.heap.size, 0, none⟩ (.bool true)).alloc (.cells #[.int .i64 0] 3)) G gl cl w1.heap.size (w1.heap.size + 1) (mu G [0] ((List.replicate G.length false).set 0 true))
      (.slice (some ⟨w1.heap.size + 1, 0, none⟩) 1 1) (.slice none 0 0) G [0] ((List.replicate G.length false).set 0 true) [] := by
  obtain ⟨s1, s2⟩ := fin_start G hp hlt
  have hu : U ((List.replicate G.length false).set 0 true) + 1 = U (List.replicate G.length false) := U_set (met_none hp)
  have hle := U_le (List.replicate G.length false)
  rw [List.length_replicate] at hle
  have m0 : Ow (w1.alloc (.cells (Array.replicate G.length (Value.bool false)) 4)) w.heap.size 4 (.slice (some ⟨w1.heap.size, 0, none⟩) G.length G.length) ((List.replicate G.length false).map .bool) := by
    have := ow_new (w := w1.alloc (.cells (Array.replicate G.length (Value.bool false)) 4)) (B := w.heap.size) (g := w1.heap.size) (cap := G.length) (T := 4) (cs := Array.replicate G.length (Value.bool false)) (by omega) (heap_alloc_new w1 _) (by simp) (by unfold maxLen; omega)
    simpa using this
  obtain ⟨m1, m2⟩ := m0.stored 0 (.bool true)
  have g0 : w1.grownBy (w1.alloc (.cells (Array.replicate G.length (Value.bool false)) 4)) none := World.grownBy_alloc _ _ _
  have l1 := (ho.kept g0 (.inr (by simp [Value.ownBlock]))).kept m2 (.inr fun e => by have e : gl = w1.heap.size := Option.some.inj e; omega)
  have g3 := World.grownBy_alloc ((w1.alloc (.cells (Array.replicate G.length (Value.bool false)) 4)).setCell ⟨w1.heap.size, 0, none⟩ (.bool true)) (.cells #[.int .i64 0] 3) none
  have hsz : ((w1.alloc (.cells (Array.replicate G.length (Value.bool false)) 4)).setCell ⟨w1.heap.size, 0, none⟩ (.bool true)).heap.size = w1.heap.size + 1 := by simp
  have b1 := hb.alloc (by omega) (.cells (Array.replicate G.length (Value.bool false)) 4)
  have b2 := below_grown b1 m2 (by simp; omega) (fun j hj => by have hj : w1.heap.size = j := Option.some.inj hj; omega)
  refine ⟨⟨⟨vs, l1.kept g3 (.inr (by simp [Value.ownBlock])), hv⟩, ?_, ?_, gi.Own.nil _ _, .inr (.inl rfl), below_grown b2 g3 (by rw [hsz]; omega) (fun j hj => by cases hj), h1, h2, by omega, by simp⟩, s1, s2, Nat.le_refl _, ?_⟩
  · rw [List.map_set]; exact m1.kept g3 (.inr (by simp [Value.ownBlock]))
  · have := ow_new (w := ((w1.alloc (.cells (Array.replicate G.length (Value.bool false)) 4)).setCell ⟨w1.heap.size, 0, none⟩ (.bool true)).alloc (.cells #[.int .i64 0] 3)) (B := w1.heap.size + 1) (g := w1.heap.size + 1) (cap := 1) (T := 3) (cs := #[.int .i64 0]) (Nat.le_refl _) (by rw [← hsz]; exact heap_alloc_new _ _) rfl (by decide)
    rw [gi_ow]; exact this
  · simp only [List.length_nil, List.length_cons]; omega
theorem or_end {w0 wr : World} {G : List (List Nat)} {gl cl gm B1 k : Nat} {v5 v6 : Value} {left : List (List Nat)} {ms : List Bool} {dn : List Nat} (h : OR w0 wr G gl cl gm B1 k v5 v6 left [] ms dn) (wf : WF G) (hn : G.length ≤ 256) :
    (∃ ao c, v5 = .slice ao 0 c) ∧ ∃ g cap, v6 = .slice (some ⟨g, 0, none⟩) (up dn).length cap ∧ gi.Own wr w0.heap.size (.slice (some ⟨g, 0, none⟩) (up dn).length cap) (up dn) ∧ w0.heap.size ≤ wr.heap.size ∧ (up dn).length ≤ 1048576 ∧ (up dn).reverse = up (orderL G) ∧ Below w0.heap.size w0 wr ∧ w0.heap.size ≤ g := by
  obtain ⟨h1, h2, h3, h4, h5⟩ := h
  have e : dn.reverse = orderL G := h3
  obtain ⟨tl, ht⟩ := (order_is G wf.pos).first
  have hne : dn ≠ [] := fun e' => by rw [e', ht] at e; cases e
  have hb := h1.gl0; have hb2 := h1.glm; have hb3 := h1.gmb; have hb4 := h1.b1
  obtain ⟨ao, cap, hv, _⟩ := h1.wy.rd
  obtain ⟨g, c, hv6, hB, hlt, hc⟩ := (gi_ow.1 h1.dn).form (by simpa [up] using hne)
  rw [List.length_map] at hv6
  refine ⟨⟨ao, cap, hv⟩, g, c, hv6, ?_, by omega, ?_, ?_, h1.below, by omega⟩
  · have := h1.dn.mono (B' := w0.heap.size) (by omega); rwa [hv6] at this
  · rw [up_len]; omega
  · rw [← e]; unfold up; rw [List.map_reverse]

set_option maxRecDepth 100000 in
set_option maxHeartbeats 16000000 in
theorem order_any (v : Value) (G : List (List Nat)) (w : World) (h : RdG w v (upp G)) (wf : WF G) (hn : G.length ≤ 256) (hE : ∀ t ∈ G, t.length ≤ 128) :
    Calls Try.prog 25 #[v] w fun e w' => ∃ v', e = .returned v' ∧ gi.Own w' w.heap.size v' (up (orderL G)) ∧ Below w.heap.size w w' := by
  have hp := wf.pos
  have HC := Lib.hid (fun w' h => clone_any v (upp G) w' h (by rw [upp_len]; exact hp) (by rw [upp_len]; omega))
  have HR := Lib.hid h
  have HW := Lib.hid wf
  obtain ⟨ao, cap, rfl, _, _, _⟩ := h
  rw [upp_len] at HC HR ⊢
  have hmk := make_bools G.length (by omega)
  clear hE
  go_enter Try.func25, Try.ntmps25
  go_wp2
  go_step3
  go_wp2_with (go_at_call 33; refine (HC.out _ HR.out).mono ?_; rintro e w1 ⟨lv, vs, rfl, hvs, hlo, hb1⟩; obtain ⟨gl, cl, rfl, hg1, hg2⟩ := lv_form hlo hvs hp)
  go_step3
  clear hmk
  have HS := Lib.hid (or_start hlo hvs hp HW.out.lt hn hb1 hg1 hg2)
  clear hlo hvs hb1
  go_wp2
  go_loopg [5, 6] (mu G [0] ((List.replicate G.length false).set 0 true)) (fun k v5 v6 wr => ∃ left st ms dn, Hid (OR w wr G gl cl w1.heap.size (w1.heap.size + 1) k v5 v6 left st ms dn))
  case atStart => exact ⟨_, _, _, _, HS⟩
  case round =>
    obtain ⟨left, st, ms, dn, HO⟩ := hrel
    cases st with
    | nil =>
      obtain ⟨⟨ao5, c5, rfl⟩, g, cap6, rfl, E1, E2, E3, E4, E5, E7⟩ := or_end HO.out HW.out hn
      have HE := Lib.hid (reverse_any g cap6 w.heap.size (up dn) _ E1 E2 E3)
      have HE4 := Lib.hid E4
      have HE5 := Lib.hid E5
      have HE7 := Lib.hid E7
      clear E1 E4 E5 E7
      go_wp2_with (go_at_call 34; refine HE.out.mono ?_; rintro e w2 ⟨rfl, k1, k2⟩)
      rw [Exit.noGoto_ret]
      go_ret
      exact ⟨_, rfl, by rw [← HE4.out]; exact k1, below_grown HE5.out k2 E2 (fun j hj => by cases hj; exact HE7.out)⟩
    | cons x st =>
      obtain ⟨g2, cap2, rfl, T1, T2, _⟩ := HO.out.1.top
      have T3 : st.length + 1 ≤ 256 := by have := HO.out.2.2.2.2; simp only [List.length_cons] at this; omega
      have HT : Hid (∃ left st ms dn, OR w wr G gl cl w1.heap.size (w1.heap.size + 1) gk (.slice (some ⟨g2, 0, none⟩) (st.length + 1) cap2) u6 left (x :: st) ms dn) := ⟨left, st, ms, dn, HO.out⟩
      go_wp2
      go_loopg [5, 6, 7] gk (fun k v5 v6 v7 wx => ∃ left x st ms dn, v7 = .int .i64 (x : Nat) ∧ k ≤ gk ∧ Hid (OR w wx G gl cl w1.heap.size (w1.heap.size + 1) k v5 v6 left (x :: st) ms dn))
      case atStart => exact ⟨left, x, st, ms, dn, rfl, Nat.le_refl _, HO⟩
      case round =>
        clear HO HT T1 T2 T3
        obtain ⟨lf, x, st, ms, dn, rfl, hk, HO⟩ := hrel
        have hO := HO.out
        obtain ⟨hos, hwy, hfin, hmu, hcnt⟩ := hO
        obtain ⟨hxn, hxm⟩ := hwy.on x (List.mem_cons_self ..)
        obtain ⟨u, c1, c2, c3, c4⟩ := hos.left hxn hwy.llen
        obtain ⟨g2, cap2, rfl, T1, T2, _⟩ := hos.top
        have T3 : st.length + 1 ≤ 256 := by simp only [List.length_cons] at hcnt; omega
        have HXM := Lib.hid hxm
        have HWY := Lib.hid hwy
        have HOS := Lib.hid hos
        have HCN := Lib.hid hcnt
        clear hos hwy hfin hmu hxm hcnt
        cases hl : lf.getD x [] with
        | nil =>
          have HL := Lib.hid hl
          rw [hl] at c2
          clear hl
          obtain ⟨ao9, cap9, rfl, _, _, _⟩ := c2
          have HD := Lib.hid HOS.out.dn
          have Hb1 := HOS.out.b1
          have hdl : (up dn).length + 1 ≤ 4398046511104 := by have := HCN.out; rw [up_len]; simp only [List.length_cons] at this; omega
          go_wp2_with (at_builtin; refine app1 (.tmp 45) (.tmp 47) rfl rfl rfl HD.out (x : Int) rfl rfl hdl Hb1 ?_; intro g9 cap8 w9 k1 k2 k3 k4)
          obtain ⟨k', hk', hO'⟩ := or_pop HO.out HL.out k2 k3 k1 rfl
          go_roundg k'
          case measure => omega
          case rel => exact ⟨lf, st, ms, dn ++ [x], hO'⟩
        | cons y ys =>
          have HL := Lib.hid hl
          rw [hl] at c2
          clear hl
          have c2' := c2
          obtain ⟨ao9, cap9, rfl, c9, _, hd9⟩ := c2
          rcases hd9 with e | ⟨b9, o9, rfl, hd9⟩
          · cases e
          have hd0 := hd9 0 (by simp [up])
          clear hd9
          have hylen : (up (y :: ys)).length = ys.length + 1 := by simp [up]
          rw [hylen] at c1 c9 c2'
          have hd0' : wr.cell? ⟨b9, o9, none⟩ = some (.int .i64 (y : Int)) := by
            rw [HOS.out.below.cell (p := ⟨b9, o9, none⟩) (by have := World.block_lt_of_cell? w _ hd0; exact this)]
            simpa [up] using hd0
          have htl := rd_tail (y := (y : Int)) (ys := up ys) c2'
          clear hd0 c2' hylen
          have hyn : y < G.length := HWY.out.lt x y (by rw [HL.out]; exact List.mem_cons_self ..)
          obtain ⟨m1, m2⟩ := HOS.out.met hyn (by have := HWY.out.slen; simpa using this)
          cases hm : met ms y with
          | true =>
            have HM := Lib.hid hm
            rw [hm] at m1
            clear hm
            by_cases hc1 : cap9 = 1
            · unfold tailV at htl
              rw [if_pos hc1, Nat.add_sub_cancel] at htl
              have HTL := Lib.hid htl
              clear htl
              go_wp2
              obtain ⟨k', hk', hO'⟩ := or_skip HO.out HL.out HM.out HTL.out
              go_roundg k'
              case measure => omega
              case rel => exact ⟨lf.set x ys, x, st, ms, dn, rfl, by omega, hO'⟩
            · unfold tailV at htl
              rw [if_neg hc1, Nat.add_sub_cancel] at htl
              have HTL := Lib.hid htl
              clear htl
              go_wp2
              obtain ⟨k', hk', hO'⟩ := or_skip HO.out HL.out HM.out HTL.out
              go_roundg k'
              case measure => omega
              case rel => exact ⟨lf.set x ys, x, st, ms, dn, rfl, by omega, hO'⟩
          | false =>
            have HM := Lib.hid hm
            rw [hm] at m1
            clear hm htl
            have HP := Lib.hid (HOS.out.marked y).wy
            have hpl : (up (x :: st).reverse).length + 1 ≤ 4398046511104 := by rw [up_len, List.length_reverse, List.length_cons]; omega
            have Hb1 : w1.heap.size + 1 ≤ (wr.setCell ⟨w1.heap.size, y, none⟩ (.bool true)).heap.size := (HOS.out.marked y).b1
            go_wp2_with (at_builtin; refine app1 (.tmp 34) (.tmp 36) rfl rfl rfl HP.out (y : Int) rfl (by simp) hpl Hb1 ?_; intro g9 cap8 w9 k1 k2 k3 k4)
            obtain ⟨k', hk', hO'⟩ := or_push HO.out HL.out HM.out k2 k3 k1
            go_roundg k'
            case measure => omega
            case rel =>
              rw [List.reverse_cons] at hO'
              exact ⟨lf, y, x :: st, ms.set y true, dn, rfl, by omega, hO'⟩
end Go.Proofs.Ytcghekbbaeejaaa.gr
