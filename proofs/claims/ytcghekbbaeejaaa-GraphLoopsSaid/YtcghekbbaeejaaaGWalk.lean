/- The document's walk, which calls itself. -/
import Derived.Test.YtcghekbbaeejaaaGOrder
set_option linter.unusedVariables false
set_option linter.unusedSimpArgs false
namespace Go.Proofs.Ytcghekbbaeejaaa.gr
open Go.RowKit Go.Proofs.Ytcghekbbaeejaaa.Gr

structure WS (w0 wr : World) (h gm B1 n : Nat) (gv v6 : Value) (ms : List Bool) (dn : List Nat) : Prop where
  box : wr.heap[h]? = some (.cells #[gv, .slice (some ⟨gm, 0, none⟩) n n, v6] 52 (0, 0))
  mt : Ow wr w0.heap.size 4 (.slice (some ⟨gm, 0, none⟩) n n) (ms.map .bool)
  dn : gi.Own wr B1 v6 (up dn)
  below : Below w0.heap.size w0 wr
  gm0 : w0.heap.size ≤ gm
  gmh : gm < h
  hb : h < B1
  b1 : B1 ≤ wr.heap.size

section
variable {w0 wr w' : World} {h gm B1 n : Nat} {gv v6 : Value} {ms : List Bool} {dn : List Nat}
theorem WS.drewN (H : WS w0 wr h gm B1 n gv v6 ms dn) (k : Nat) : WS w0 (wr.drewN k) h gm B1 n gv v6 ms dn := ⟨H.box, H.mt, H.dn, H.below.trans (belowN _ _), H.gm0, H.gmh, H.hb, H.b1⟩
theorem WS.cells (H : WS w0 wr h gm B1 n gv v6 ms dn) : wr.cell? ⟨h, 0, none⟩ = some gv ∧ wr.cell? ⟨h, 1, none⟩ = some (.slice (some ⟨gm, 0, none⟩) n n) ∧ wr.cell? ⟨h, 2, none⟩ = some v6 := by
  have hb := H.box
  refine ⟨?_, ?_, ?_⟩ <;> simp [World.cell?, hb]
theorem WS.fz (H : WS w0 wr h gm B1 n gv v6 ms dn) (k : Nat) : wr.frozen? ⟨h, k, none⟩ = false := by
  have hb := H.box
  simp [World.frozen?, hb]
theorem WS.met (H : WS w0 wr h gm B1 n gv v6 ms dn) {x : Nat} (hx : x < n) (hl : ms.length = n) : wr.cell? ⟨gm, x, none⟩ = some (.bool (met ms x)) ∧ wr.frozen? ⟨gm, x, none⟩ = false := by
  refine ⟨H.mt.cell ?_, H.mt.fz x⟩
  rw [List.getElem?_map, List.getElem?_eq_getElem (by omega), met_get (by omega)]; rfl
theorem WS.marked (H : WS w0 wr h gm B1 n gv v6 ms dn) (y : Nat) (b : Bool) : WS w0 (wr.setCell ⟨gm, y, none⟩ (.bool b)) h gm B1 n gv v6 (ms.set y b) dn := by
  obtain ⟨s1, s2⟩ := H.mt.stored y (.bool b)
  have h1 := H.gm0; have h2 := H.gmh; have h3 := H.hb; have h4 := H.b1
  refine ⟨grown_heap s2 H.box (fun e => by have e : h = gm := Option.some.inj e; omega), by rw [List.map_set]; exact s1, own_kept H.dn s2 ?_, below_grown H.below s2 (by omega) (fun j hj => by have hj : gm = j := Option.some.inj hj; omega), h1, h2, h3, Nat.le_trans h4 s2.size⟩
  cases hv : v6.ownBlock with
  | none => exact .inl rfl
  | some j => right; intro e; have e : j = gm := Option.some.inj e; have := (H.dn.lt j hv).1; omega
theorem WS.doned (H : WS w0 wr h gm B1 n gv v6 ms dn) {g x k c : Nat} (hg : wr.grownBy w' v6.ownBlock) (ho : gi.Own w' B1 (.slice (some ⟨g, 0, none⟩) k c) (up dn ++ [(x : Int)])) :
    w'.frozen? ⟨h, 2, none⟩ = false ∧ (∃ u, w'.cell? ⟨h, 2, none⟩ = some u) ∧ WS w0 (w'.setCell ⟨h, 2, none⟩ (.slice (some ⟨g, 0, none⟩) k c)) h gm B1 n gv (.slice (some ⟨g, 0, none⟩) k c) ms (dn ++ [x]) := by
  have h1 := H.gm0; have h2 := H.gmh; have h3 := H.hb; have h4 := H.b1
  have far : ∀ j, v6.ownBlock = some j → B1 ≤ j := fun j hj => (H.dn.lt j hj).1
  have hbx : w'.heap[h]? = _ := grown_heap hg H.box (fun e => by have := far h e.symm; omega)
  have e : up (dn ++ [x]) = up dn ++ [(x : Int)] := by unfold up; simp
  have s2 : w'.grownBy (w'.setCell ⟨h, 2, none⟩ (.slice (some ⟨g, 0, none⟩) k c)) (some h) := ⟨rfl, rfl, rfl, by simp, fun j _ hj => heap_setCell_other w' ⟨h, 2, none⟩ j _ (fun e => hj (by simp [e]))⟩
  have hgB := (ho.lt g rfl).1
  refine ⟨by simp [World.frozen?, hbx], ⟨v6, by simp [World.cell?, hbx]⟩, ?_, ?_, ?_, ?_, h1, h2, h3, ?_⟩
  · have := heap_setCell_same w' h 2 _ _ (.slice (some ⟨g, 0, none⟩) k c) hbx
    rw [this]; rfl
  · refine (H.mt.kept hg (.inr fun e => ?_)).kept s2 (.inr fun e => ?_)
    · have := far gm (by rw [← e]; rfl); omega
    · have e : gm = h := Option.some.inj e; omega
  · rw [e]; exact own_kept ho s2 (.inr fun e => by have e : g = h := Option.some.inj e; omega)
  · exact below_grown (below_grown H.below hg (by omega) (fun j hj => by have := far j hj; omega)) s2 (by have := hg.size; omega) (fun j hj => by have hj : h = j := Option.some.inj hj; omega)
  · exact Nat.le_trans (Nat.le_trans h4 hg.size) s2.size
end

theorem vis_take (G : List (List Nat)) (f : Nat) (xs : List Nat) (s : St) {i : Nat} (h : i < xs.length) : vis G f (xs.take (i + 1)) s = stp G f (vis G f (xs.take i) s) xs[i] := by
  unfold vis; rw [List.take_succ_eq_append_getElem h, List.foldl_append]; rfl

theorem vis_sum_of (G : List (List Nat)) (f : Nat) (ih : ∀ (x : Nat) (s : St), U s.1 ≤ f → met s.1 x = false → (go G f x s).2.length + U (go G f x s).1 = s.2.length + U s.1) :
    ∀ (xs : List Nat) (t : St), U t.1 ≤ f → (vis G f xs t).2.length + U (vis G f xs t).1 = t.2.length + U t.1
  | [], t, _ => rfl
  | y :: ys, t, ht => by
    rw [vis_cons]
    by_cases hy : met t.1 y = true
    · rw [stp_met hy]; exact vis_sum_of G f ih ys t ht
    · have hy : met t.1 y = false := by simpa using hy
      have h := (go_fwd G f y t ht hy).1.u
      rw [stp_new hy, vis_sum_of G f ih ys _ (by omega), ih y t ht hy]
theorem go_sum (G : List (List Nat)) : ∀ (f x : Nat) (s : St), U s.1 ≤ f → met s.1 x = false → (go G f x s).2.length + U (go G f x s).1 = s.2.length + U s.1
  | 0, x, s, hu, hx => by have := U_pos hx; omega
  | f + 1, x, s, hu, hx => by
    have hs := U_set hx
    have := vis_sum_of G f (go_sum G f) (adj G x) (s.1.set x true, s.2) (by show U (s.1.set x true) ≤ f; omega)
    rw [go_succ]
    show (_ ++ [x]).length + U (vis G f (adj G x) (s.1.set x true, s.2)).1 = _
    rw [List.length_append]
    change _ = s.2.length + U (s.1.set x true) at this
    simp only [List.length_cons, List.length_nil]; omega

/-- what a call of the walk leaves -/
def WKP (w0 : World) (h gm B1 n : Nat) (gv : Value) (s : St) (e : Ending) (w' : World) : Prop := e = .returned (.tuple #[]) ∧ ∃ v6', WS w0 w' h gm B1 n gv v6' s.1 s.2

set_option maxRecDepth 100000 in
set_option maxHeartbeats 8000000 in
theorem walk_any (G : List (List Nat)) (wf : WF G) (hn : G.length ≤ 256) (hE : ∀ x, (adj G x).length ≤ 128) (w0 : World) (bg og cg h gm B1 : Nat) (hR : RdG w0 (.slice (some ⟨bg, og, none⟩) G.length cg) (upp G)) :
    ∀ (f x : Nat) (ms : List Bool) (dn : List Nat) (v6 : Value) (wr : World), WS w0 wr h gm B1 G.length (.slice (some ⟨bg, og, none⟩) G.length cg) v6 ms dn → ms.length = G.length → met ms x = false → U ms ≤ f → dn.length + U ms ≤ G.length →
      Calls Try.prog 26 #[.pointer (some ⟨h, 0, none⟩), .int .i64 (x : Nat)] wr (WKP w0 h gm B1 G.length (.slice (some ⟨bg, og, none⟩) G.length cg) (go G f x (ms, dn)))
  | 0, x, ms, dn, v6, wr, H, hml, hx, hu, hc => by have := U_pos hx; omega
  | f + 1, x, ms, dn, v6, wr, H, hml, hx, hu, hc => by
    have ih := walk_any G wf hn hE w0 bg og cg h gm B1 hR f
    have hxn : x < G.length := by have := met_lt hx; omega
    have hxL : x < (upp G).length := by rw [upp_len]; exact hxn
    obtain ⟨ao, cap, e, hcap, _, hd⟩ := hR
    simp only [Value.slice.injEq, upp_len] at e
    obtain ⟨rfl, _, rfl⟩ := e
    rw [upp_len] at hcap
    rcases hd with hd | ⟨b', o', e, hd⟩
    · rw [hd] at hxL; simp at hxL
    · cases e
      obtain ⟨u, u1, u2⟩ := hd x hxL
      have ul := World.block_lt_of_cell? w0 _ u1
      rw [upp_getD] at u2
      change gi.Rd w0 u (up (adj G x)) at u2
      have HA := Lib.hid (hE x)
      obtain ⟨ao2, cap2, rfl, hcap2, _, hd2⟩ := u2
      rw [up_len] at u1 hcap2
      have u1' := u1
      rw [← H.below.cell (p := ⟨bg, og + x, none⟩) ul] at u1
      obtain ⟨c0, c1, c2⟩ := H.cells
      obtain ⟨m1, m2⟩ := H.met hxn hml
      have hus := U_set (ms := ms) (x := x) hx
      have HM := H.marked x true
      have hgo := go_succ G f x (ms, dn)
      have HGO := Lib.hid hgo
      have HD2 := Lib.hid hd2
      have HD := Lib.hid hd
      have IH := Lib.hid ih
      have HHM := Lib.hid HM
      have HU1 := Lib.hid u1'
      have HWF := Lib.hid wf
      have HML := Lib.hid hml
      have HX := Lib.hid hx
      have HU := Lib.hid hu
      have HC := Lib.hid hc
      have HUS := Lib.hid hus
      have HUL := Lib.hid ul
      clear hd2 hd ih HM u1' wf hml hx hu hc hus hgo hxL hE u1 ul H
      go_enter Try.func26, Try.ntmps26
      go_wp2
      go_loopw [4] (fun y wx => ∃ (i : Nat) (v6 : Value) (s : St), y = .int .i64 i ∧ i ≤ (adj G x).length ∧ Hid (s = vis G f ((adj G x).take i) (ms.set x true, dn)) ∧ Hid (WS w0 wx h gm B1 G.length (.slice (some ⟨bg, og, none⟩) G.length cg) v6 s.1 s.2)) (fun y _ => (adj G x).length - (intOf y).toNat)
      case atStart => exact ⟨0, v6, (ms.set x true, dn), rfl, Nat.zero_le _, Lib.hid rfl, HHM⟩
      case round =>
        clear c0 c1 c2 m1 m2 HHM
        obtain ⟨i, v6', s, rfl, hi, HV, HS⟩ := hrel
        obtain ⟨c0, c1, c2⟩ := HS.out.cells
        have hus0 : U (ms.set x true) ≤ f := by have := HUS.out; have := HU.out; omega
        have hfw : Fwd (ms.set x true, dn) s := by rw [HV.out]; exact vis_fwd G f _ _ hus0
        have hsl : s.1.length = G.length := by rw [hfw.len]; show (ms.set x true).length = _; rw [List.length_set]; exact HML.out
        have u1 := HU1.out
        rw [← HS.out.below.cell (p := ⟨bg, og + x, none⟩) HUL.out] at u1
        have HFW := Lib.hid hfw
        clear hfw
        by_cases hlt : i < (adj G x).length
        · have hiu : i < (up (adj G x)).length := by rw [up_len]; exact hlt
          rcases HD2.out with e | ⟨b2, o2, rfl, hg2⟩
          · rw [e] at hiu; simp at hiu
          have g2 := hg2 i hiu
          rw [← HS.out.below.cell (p := ⟨b2, o2 + i, none⟩) (World.block_lt_of_cell? w0 _ g2)] at g2
          rw [up_getD hlt, List.getD_eq_getElem?_getD, List.getElem?_eq_getElem hlt] at g2
          change wr.cell? ⟨b2, o2 + i, none⟩ = some (.int .i64 ((adj G x)[i] : Nat)) at g2
          have hyn : (adj G x)[i] < G.length := HWF.out.lt x _ (List.getElem_mem hlt)
          have hvt := vis_take G f (adj G x) (ms.set x true, dn) hlt
          rw [← HV.out] at hvt
          generalize (adj G x)[i] = y at g2 hyn hvt
          obtain ⟨m1, m2⟩ := HS.out.met hyn hsl
          have hle := HA.out
          have HVT := Lib.hid hvt
          have HSL := Lib.hid hsl
          clear hg2 hiu hvt hsl
          have hilt : (i : Int) < (adj G x).length := by omega
          cases hm : met s.1 y with
          | true =>
            have HM := Lib.hid hm
            rw [hm] at m1
            have HN : Hid (s = vis G f ((adj G x).take (i + 1)) (ms.set x true, dn)) := by have h := HVT.out; rw [stp_met hm] at h; exact Lib.hid h.symm
            clear hm HVT
            go_wp2
            go_quiet (fail)
            go_wp2
            go_roundw
            case rel => exact ⟨i + 1, v6', s, by go_num, by omega, HN, Lib.hid (HS.out.drewN _)⟩
            case measure => simp [intOf]; omega
          | false =>
            have HM := Lib.hid hm
            rw [hm] at m1
            have HN : Hid (go G f y s = vis G f ((adj G x).take (i + 1)) (ms.set x true, dn)) := by have h := HVT.out; rw [stp_new hm] at h; exact Lib.hid h.symm
            clear hm HVT
            have hus1 : U s.1 ≤ f := Nat.le_trans HFW.out.u hus0
            have hsum : s.2.length + U s.1 = dn.length + U (ms.set x true) := by rw [HV.out]; exact vis_sum_of G f (go_sum G f) _ (ms.set x true, dn) hus0
            have HSU := Lib.hid hsum
            clear hsum
            go_wp2
            go_quiet (fail)
            go_wp2_with (go_at_call 26; refine (IH.out y s.1 s.2 v6' _ (HS.out.drewN _) HSL.out HM.out hus1 (by have := HSU.out; have := HUS.out; have := HC.out; omega)).mono ?_; rintro e w2 ⟨rfl, v7, hW⟩)
            go_roundw
            case rel => exact ⟨i + 1, v7, go G f y s, by go_num, by omega, HN, Lib.hid hW⟩
            case measure => simp [intOf]; omega
        · obtain rfl : i = (adj G x).length := by omega
          have hT := HV.out
          rw [List.take_of_length_le (Nat.le_refl _)] at hT
          have hsum : s.2.length + U s.1 = dn.length + U (ms.set x true) := by rw [HV.out]; exact vis_sum_of G f (go_sum G f) _ (ms.set x true, dn) hus0
          have HD6 := Lib.hid HS.out.dn
          have Hb1 := HS.out.b1
          have hpl : (up s.2).length + 1 ≤ 4398046511104 := by rw [up_len]; have := HUS.out; have := HC.out; omega
          have HT := Lib.hid hT
          have hle := HA.out
          clear hsum hT HV
          go_wp2_with (at_builtin; refine app1 (.tmp 56) (.tmp 58) rfl rfl rfl HD6.out (x : Int) rfl (by simp) hpl Hb1 ?_; intro g9 cap8 w9 k1 k2 k3 k4; obtain ⟨q1, ⟨q2, q3⟩, q4⟩ := HS.out.doned k2 k1; have HQ4 := Lib.hid q4; clear q4)
          go_end0
          refine ⟨rfl, .slice (some ⟨g9, 0, none⟩) ((up s.2).length + 1) cap8, ?_⟩
          rw [HGO.out]
          have hT := HT.out
          show WS w0 _ h gm B1 G.length (.slice (some ⟨bg, og, none⟩) G.length cg) (.slice (some ⟨g9, 0, none⟩) ((up s.2).length + 1) cap8) (vis G f (adj G x) (ms.set x true, dn)).1 ((vis G f (adj G x) (ms.set x true, dn)).2 ++ [x])
          rw [← hT]
          exact HQ4.out
end Go.Proofs.Ytcghekbbaeejaaa.gr
