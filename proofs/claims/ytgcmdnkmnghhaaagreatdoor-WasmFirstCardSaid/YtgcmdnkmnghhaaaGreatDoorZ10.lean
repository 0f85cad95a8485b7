/- Put together by program: WOpF WRun WBody. -/
import Derived.Test.YtgcmdnkmnghhaaaGreatDoorZ9
import Derived.Test.YtgcmdnkmnghhaaaGreatDoorZ7
import Derived.Test.YtgcmdnkmnghhaaaGreatDoorZ8
/- The contracts of operator, an operator at a time: printed by gen_oper.py. -/
set_option linter.unusedVariables false
set_option linter.unusedSimpArgs false
namespace Go.Proofs.YtgcmdnkmnghhaaaGreatDoor.wm
open Go.RowKit Go.Proofs.YtgcmdnkmnghhaaaGreatDoor.lb
section
variable {w0 : World} {ao : Option Addr} {cap : Nat} {l : List Int} {ta : Option Addr} {tc : Nat} {types : List GSig}

set_option maxRecDepth 100000 in
set_option maxHeartbeats 1000000 in
theorem oper_3 (c : CC w0 ao cap l ta tc types) (fuel r k e p ops : Nat) (depth : Nat) (w : World) (h : Cr w0 ao cap l ta tc types r k e p ops w) (hrun : RunOK w0 ao cap l ta tc types r k e fuel) (hd : depth + 1 ≤ 16) (ho : ops ≤ 512) (hf : e - p < fuel) :
    Calls Tryz.prog 238 #[.pointer (some ⟨k, 0, none⟩), .int .i64 ((p : Int) - 1), .int .i64 3, .int .i64 depth] w (OutC w0 ao cap l ta tc types r k e w (VIn w.heap.size) (pOper types fuel depth 3 ops l e p)) := by
  have hr := h.rr.blk.lt
  have hk := h.blk.lt
  have hb := fun k => (c.ctx.bd k).1
  have hp := h.rr.hp
  have he := h.rr.he
  have HC := Lib.hid c
  have H2 := Lib.hid (h.below (made2 w (.cells #[.int .i64 0, .int .u64 0, .int .u64 0, .slice none 0 0, .slice none 0 0, .slice none 0 0, .slice none 0 0, .bool false, .slice none 0 0] 61) (.cells #[.int .i64 3, .int .u64 0, .int .u64 0, .slice none 0 0, .slice none 0 0, .slice none 0 0, .slice none 0 0, .bool false, .slice none 0 0] 61)))
  have hsz : (w.alloc (.cells #[.int .i64 0, .int .u64 0, .int .u64 0, .slice none 0 0, .slice none 0 0, .slice none 0 0, .slice none 0 0, .bool false, .slice none 0 0] 61)).heap.size = w.heap.size + 1 := by simp [go_sem]
  have BR2 := Lib.hid ((Blk.new 61 w #[.int .i64 0, .int .u64 0, .int .u64 0, .slice none 0 0, .slice none 0 0, .slice none 0 0, .slice none 0 0, .bool false, .slice none 0 0]).below (made1 _ (.cells #[.int .i64 3, .int .u64 0, .int .u64 0, .slice none 0 0, .slice none 0 0, .slice none 0 0, .slice none 0 0, .bool false, .slice none 0 0] 61)))
  have BI2 := Lib.hid (hsz ▸ Blk.new 61 (w.alloc (.cells #[.int .i64 0, .int .u64 0, .int .u64 0, .slice none 0 0, .slice none 0 0, .slice none 0 0, .slice none 0 0, .bool false, .slice none 0 0] 61)) #[.int .i64 3, .int .u64 0, .int .u64 0, .slice none 0 0, .slice none 0 0, .slice none 0 0, .slice none 0 0, .bool false, .slice none 0 0] : Blk 61 ((w.alloc (.cells #[.int .i64 0, .int .u64 0, .int .u64 0, .slice none 0 0, .slice none 0 0, .slice none 0 0, .slice none 0 0, .bool false, .slice none 0 0] 61)).alloc (.cells #[.int .i64 3, .int .u64 0, .int .u64 0, .slice none 0 0, .slice none 0 0, .slice none 0 0, .slice none 0 0, .bool false, .slice none 0 0] 61)) (w.heap.size + 1) #[.int .i64 3, .int .u64 0, .int .u64 0, .slice none 0 0, .slice none 0 0, .slice none 0 0, .slice none 0 0, .bool false, .slice none 0 0])
  have K2 := Lib.hid (Keep.of (S := fun i => i = r ∨ i = k) (made2 w (.cells #[.int .i64 0, .int .u64 0, .int .u64 0, .slice none 0 0, .slice none 0 0, .slice none 0 0, .slice none 0 0, .bool false, .slice none 0 0] 61) (.cells #[.int .i64 3, .int .u64 0, .int .u64 0, .slice none 0 0, .slice none 0 0, .slice none 0 0, .slice none 0 0, .bool false, .slice none 0 0] 61)))
  have S2 := Lib.hid (made2 w (.cells #[.int .i64 0, .int .u64 0, .int .u64 0, .slice none 0 0, .slice none 0 0, .slice none 0 0, .slice none 0 0, .bool false, .slice none 0 0] 61) (.cells #[.int .i64 3, .int .u64 0, .int .u64 0, .slice none 0 0, .slice none 0 0, .slice none 0 0, .slice none 0 0, .bool false, .slice none 0 0] 61)).size
  clear hsz
  have HRUN := Lib.hid hrun
  have hX : pOper types fuel depth 3 ops l e p = ((pBlockType types).bind fun t => (pRun2 types fuel (depth + 1) false ops []).bind fun r =>
      if r.1.2 then (pRun2 types fuel (depth + 1) false r.2 []).bind fun s => P.ret (.mk 3 0 0 t r.1.1 s.1.1 true [], s.2)
      else P.ret (.mk 3 0 0 t r.1.1 [] false [], r.2)) l e p := rfl
  have hdI : (depth : Int) + 1 ≤ 16 := by omega
  cases hx1 : pBlockType types l e p with
  | bad why a =>
    have HX := Lib.hid (hX.trans (P.bind_bad hx1))
    have HX1 := Lib.hid hx1
    clear hx1 h c hb hX hrun
    go_enter Tryz.func238, Tryz.ntmps238
    go_wp2_with fail
    refine (blockType_any HC.out r k e p ops _ H2.out).mono ?_
    rintro en w3 h3
    obtain ⟨k3, rfl⟩ := h3.bad_elim HX1.out
    exact ⟨rfl, OutC.wrong HX.out (K2.out.trans (k3.mono (fun i _ hi => .inl hi)))⟩
  | ok t q1 =>
    have hq1 := (Good.blockType types).ok hb hp he hx1
    have HX1 := Lib.hid hx1
    cases hx2 : pRun2 types fuel (depth + 1) false ops [] l e q1 with
    | bad why a =>
      have HX := Lib.hid (hX.trans ((P.bind_ok hx1).trans (P.bind_bad hx2)))
      have HX2 := Lib.hid hx2
      clear hx1 hx2 h c hb hX hrun
      go_enter Tryz.func238, Tryz.ntmps238
      go_wp2_with fail
      refine (blockType_any HC.out r k e p ops _ H2.out).mono ?_
      rintro en w3 h3
      obtain ⟨k3, v3, rfl, ⟨t0, t1, rfl, hv3⟩, r3⟩ := h3.ok_elim HX1.out
      obtain ⟨⟨ia, il, ic, rfl⟩, oa, ol, oc, rfl⟩ := open_sig hv3
      have V3 := Lib.hid hv3
      have hi3 := BI2.out.keep k3 (by omega)
      have c3 := hi3.c 3 rfl
      have c4 := hi3.c 4 rfl
      have f3 := hi3.f 3
      have f4 := hi3.f 4
      have kS : Keep (fun i => i = w.heap.size + 1) w3 ((w3.setCell ⟨w.heap.size + 1, 3, none⟩ (.slice ia il ic)).setCell ⟨w.heap.size + 1, 4, none⟩ (.slice oa ol oc)) := ((Keep.refl (fun i => i = w.heap.size + 1) w3).set (p := ⟨w.heap.size + 1, 3, none⟩) (.inl rfl) _).set (p := ⟨w.heap.size + 1, 4, none⟩) (.inl rfl) _
      have BI4 := Lib.hid ((hi3.set 3 (.slice ia il ic)).set 4 (.slice oa ol oc))
      have BR4 := Lib.hid ((BR2.out.keep k3 (by omega)).keep kS (by omega))
      have H4 := Lib.hid ((H2.out.go k3 r3).free kS (n := w.heap.size) (fun i hi => by omega) hr hk)
      have K4 := Lib.hid ((K2.out.trans (k3.mono (fun i _ hi => .inl hi))).new kS (fun i h1 h2 => by omega))
      have Z3 := Lib.hid (show w.heap.size + 2 ≤ _ from BI2.out.lt)
      have Q4 := Lib.hid kS
      clear h3 k3 r3 hi3 kS hv3
      go_wp2_with fail
      refine (HRUN.out (depth + 1) _ false ops q1 _ (by omega) H4.out hd ho (by omega)).mono ?_
      rintro en w5 h5
      obtain ⟨k5, rfl⟩ := h5.bad_elim HX2.out
      exact ⟨rfl, OutC.wrong HX.out (K4.out.trans k5)⟩
    | ok r1 q2 =>
      obtain ⟨⟨bs, el⟩, ops2⟩ := r1
      have hq2 := run2_le hb hq1.2.1 he hx2
      have ho2 := run2_ops _ _ _ _ _ _ _ _ _ _ _ ho hx2
      have HX2 := Lib.hid hx2
      cases el with
      | false =>
        have HX := Lib.hid (show pOper types fuel depth 3 ops l e p = .ok (.mk 3 0 0 t bs [] false [], ops2) q2 from hX.trans ((P.bind_ok hx1).trans ((P.bind_ok hx2).trans rfl)))
        clear hx1 hx2 h c hb hX hrun
        go_enter Tryz.func238, Tryz.ntmps238
        go_wp2_with fail
        refine (blockType_any HC.out r k e p ops _ H2.out).mono ?_
        rintro en w3 h3
        obtain ⟨k3, v3, rfl, ⟨t0, t1, rfl, hv3⟩, r3⟩ := h3.ok_elim HX1.out
        obtain ⟨⟨ia, il, ic, rfl⟩, oa, ol, oc, rfl⟩ := open_sig hv3
        have V3 := Lib.hid hv3
        have hi3 := BI2.out.keep k3 (by omega)
        have c3 := hi3.c 3 rfl
        have c4 := hi3.c 4 rfl
        have f3 := hi3.f 3
        have f4 := hi3.f 4
        have kS : Keep (fun i => i = w.heap.size + 1) w3 ((w3.setCell ⟨w.heap.size + 1, 3, none⟩ (.slice ia il ic)).setCell ⟨w.heap.size + 1, 4, none⟩ (.slice oa ol oc)) := ((Keep.refl (fun i => i = w.heap.size + 1) w3).set (p := ⟨w.heap.size + 1, 3, none⟩) (.inl rfl) _).set (p := ⟨w.heap.size + 1, 4, none⟩) (.inl rfl) _
        have BI4 := Lib.hid ((hi3.set 3 (.slice ia il ic)).set 4 (.slice oa ol oc))
        have BR4 := Lib.hid ((BR2.out.keep k3 (by omega)).keep kS (by omega))
        have H4 := Lib.hid ((H2.out.go k3 r3).free kS (n := w.heap.size) (fun i hi => by omega) hr hk)
        have K4 := Lib.hid ((K2.out.trans (k3.mono (fun i _ hi => .inl hi))).new kS (fun i h1 h2 => by omega))
        have Z3 := Lib.hid (show w.heap.size + 2 ≤ _ from BI2.out.lt)
        have Q4 := Lib.hid kS
        clear h3 k3 r3 hi3 kS hv3
        go_wp2_with fail
        refine (HRUN.out (depth + 1) _ false ops q1 _ (by omega) H4.out hd ho (by omega)).mono ?_
        rintro en w5 h5
        obtain ⟨k5, v5, rfl, ⟨ba, bc, rfl, hv5⟩, r5⟩ := h5.ok_elim HX2.out
        have V5 := Lib.hid hv5
        have BI5 := Lib.hid (BI4.out.keep k5 (by omega))
        have BR5 := Lib.hid (BR4.out.keep k5 (by omega))
        have H5 := Lib.hid r5
        have K5 := Lib.hid (K4.out.trans k5)
        have Z5 := Lib.hid (show w.heap.size + 2 ≤ _ from BI4.out.lt)
        have Q5 := Lib.hid k5
        clear h5 k5 r5 hv5
        have c0 := BI5.out.c 0 rfl
        have r0 := BR5.out.c 0 rfl
        have f0 := BI5.out.f 0
        have z0 := BR5.out.f 0
        have c1 := BI5.out.c 1 rfl
        have r1 := BR5.out.c 1 rfl
        have f1 := BI5.out.f 1
        have z1 := BR5.out.f 1
        have c2 := BI5.out.c 2 rfl
        have r2 := BR5.out.c 2 rfl
        have f2 := BI5.out.f 2
        have z2 := BR5.out.f 2
        have c3 := BI5.out.c 3 rfl
        have r3 := BR5.out.c 3 rfl
        have f3 := BI5.out.f 3
        have z3 := BR5.out.f 3
        have c4 := BI5.out.c 4 rfl
        have r4 := BR5.out.c 4 rfl
        have f4 := BI5.out.f 4
        have z4 := BR5.out.f 4
        have c5 := BI5.out.c 5 rfl
        have r5 := BR5.out.c 5 rfl
        have f5 := BI5.out.f 5
        have z5 := BR5.out.f 5
        have c6 := BI5.out.c 6 rfl
        have r6 := BR5.out.c 6 rfl
        have f6 := BI5.out.f 6
        have z6 := BR5.out.f 6
        have c7 := BI5.out.c 7 rfl
        have r7 := BR5.out.c 7 rfl
        have f7 := BI5.out.f 7
        have z7 := BR5.out.f 7
        have c8 := BI5.out.c 8 rfl
        have r8 := BR5.out.c 8 rfl
        have f8 := BI5.out.f 8
        have z8 := BR5.out.f 8
        have KS := Lib.hid ((((((((((((Keep.refl (fun i => i = w.heap.size ∨ i = w.heap.size + 1) (w5)).set (p := ⟨w.heap.size + 1, 5, none⟩) (.inl (.inr rfl)) (.slice ba bs.length bc)).set (p := ⟨w.heap.size + 1, 7, none⟩) (.inl (.inr rfl)) (.bool false)).set (p := ⟨w.heap.size, 0, none⟩) (.inl (.inl rfl)) (.int .i64 3)).set (p := ⟨w.heap.size, 1, none⟩) (.inl (.inl rfl)) (.int .u64 0)).set (p := ⟨w.heap.size, 2, none⟩) (.inl (.inl rfl)) (.int .u64 0)).set (p := ⟨w.heap.size, 3, none⟩) (.inl (.inl rfl)) (.slice ia il ic)).set (p := ⟨w.heap.size, 4, none⟩) (.inl (.inl rfl)) (.slice oa ol oc)).set (p := ⟨w.heap.size, 5, none⟩) (.inl (.inl rfl)) (.slice ba bs.length bc)).set (p := ⟨w.heap.size, 6, none⟩) (.inl (.inl rfl)) (.slice none 0 0)).set (p := ⟨w.heap.size, 7, none⟩) (.inl (.inl rfl)) (.bool false)).set (p := ⟨w.heap.size, 8, none⟩) (.inl (.inl rfl)) (.slice none 0 0))
        have SZ := H5.out.rr.low.size
        go_wp2
        refine bodyPost_ret (v := .agg #[.int .i64 3, .int .u64 0, .int .u64 0, .slice ia il ic, .slice oa ol oc, .slice ba bs.length bc, .slice none 0 0, .bool false, .slice none 0 0]) (by simp [results, Tryz.results238, go_sem, r0, r1, r2, r3, r4, r5, r6, r7, r8]) rfl (OutC.good HX.out (K5.out.new KS.out (fun i hi e => by omega)) ?_ (H5.out.free KS.out (fun i hi => by omega) hr hk))
        have hI := (Gh.all_cons rfl).1 V3.out
        have hO := (Gh.all_cons rfl).1 hI.2
        have li := (VR.slice_len hI.1)
        have lo := (VR.slice_len hO.1)
        subst li lo
        exact ⟨_, _, _, _, _, _, _, _, _, _, rfl, (Gh.is.keep (Gh.is.keep (Gh.is.keep hI.1 (Nat.le_refl _) (Same.keep Q4.out (fun i h1 h2 e => by have := Z3.out; omega))) (Nat.le_refl _) (Same.keep Q5.out (fun i h1 h2 e => by have := Z3.out; omega))) (by have := Z3.out; omega) (Same.keep KS.out (fun i h1 h2 e => by have := Z3.out; omega))), (Gh.is.keep (Gh.is.keep (Gh.is.keep hO.1 (Nat.le_refl _) (Same.keep Q4.out (fun i h1 h2 e => by have := Z3.out; omega))) (Nat.le_refl _) (Same.keep Q5.out (fun i h1 h2 e => by have := Z3.out; omega))) (by have := Z3.out; omega) (Same.keep KS.out (fun i h1 h2 e => by have := Z3.out; omega))), (Gh.is.keep V5.out (by have := Z5.out; omega) (Same.keep KS.out (fun i h1 h2 e => by have := Z5.out; omega))), VR.nil 9 gInstr _ _, VR.nil 1 gI _ _⟩
      | true =>
        cases hx3 : pRun2 types fuel (depth + 1) false ops2 [] l e q2 with
        | bad why a =>
          have HX := Lib.hid (show pOper types fuel depth 3 ops l e p = .bad why a from hX.trans ((P.bind_ok hx1).trans ((P.bind_ok hx2).trans (P.bind_bad hx3))))
          have HX3 := Lib.hid hx3
          clear hx1 hx2 hx3 h c hb hX hrun
          go_enter Tryz.func238, Tryz.ntmps238
          go_wp2_with fail
          refine (blockType_any HC.out r k e p ops _ H2.out).mono ?_
          rintro en w3 h3
          obtain ⟨k3, v3, rfl, ⟨t0, t1, rfl, hv3⟩, r3⟩ := h3.ok_elim HX1.out
          obtain ⟨⟨ia, il, ic, rfl⟩, oa, ol, oc, rfl⟩ := open_sig hv3
          have V3 := Lib.hid hv3
          have hi3 := BI2.out.keep k3 (by omega)
          have c3 := hi3.c 3 rfl
          have c4 := hi3.c 4 rfl
          have f3 := hi3.f 3
          have f4 := hi3.f 4
          have kS : Keep (fun i => i = w.heap.size + 1) w3 ((w3.setCell ⟨w.heap.size + 1, 3, none⟩ (.slice ia il ic)).setCell ⟨w.heap.size + 1, 4, none⟩ (.slice oa ol oc)) := ((Keep.refl (fun i => i = w.heap.size + 1) w3).set (p := ⟨w.heap.size + 1, 3, none⟩) (.inl rfl) _).set (p := ⟨w.heap.size + 1, 4, none⟩) (.inl rfl) _
          have BI4 := Lib.hid ((hi3.set 3 (.slice ia il ic)).set 4 (.slice oa ol oc))
          have BR4 := Lib.hid ((BR2.out.keep k3 (by omega)).keep kS (by omega))
          have H4 := Lib.hid ((H2.out.go k3 r3).free kS (n := w.heap.size) (fun i hi => by omega) hr hk)
          have K4 := Lib.hid ((K2.out.trans (k3.mono (fun i _ hi => .inl hi))).new kS (fun i h1 h2 => by omega))
          have Z3 := Lib.hid (show w.heap.size + 2 ≤ _ from BI2.out.lt)
          have Q4 := Lib.hid kS
          clear h3 k3 r3 hi3 kS hv3
          go_wp2_with fail
          refine (HRUN.out (depth + 1) _ false ops q1 _ (by omega) H4.out hd ho (by omega)).mono ?_
          rintro en w5 h5
          obtain ⟨k5, v5, rfl, ⟨ba, bc, rfl, hv5⟩, r5⟩ := h5.ok_elim HX2.out
          have V5 := Lib.hid hv5
          have hi5 := BI4.out.keep k5 (by omega)
          have c5 := hi5.c 5 rfl
          have c7 := hi5.c 7 rfl
          have f5 := hi5.f 5
          have f7 := hi5.f 7
          have kS : Keep (fun i => i = w.heap.size + 1) w5 ((w5.setCell ⟨w.heap.size + 1, 5, none⟩ (.slice ba bs.length bc)).setCell ⟨w.heap.size + 1, 7, none⟩ (.bool true)) := ((Keep.refl (fun i => i = w.heap.size + 1) w5).set (p := ⟨w.heap.size + 1, 5, none⟩) (.inl rfl) _).set (p := ⟨w.heap.size + 1, 7, none⟩) (.inl rfl) _
          have BI6 := Lib.hid ((hi5.set 5 (.slice ba bs.length bc)).set 7 (.bool true))
          have BR6 := Lib.hid ((BR4.out.keep k5 (by omega)).keep kS (by omega))
          have H6 := Lib.hid (r5.free kS (n := w.heap.size) (fun i hi => by omega) hr hk)
          have K6 := Lib.hid ((K4.out.trans k5).new kS (fun i h1 h2 => by omega))
          have Z5 := Lib.hid (show w.heap.size + 2 ≤ _ from BI4.out.lt)
          have Q5 := Lib.hid k5
          have Q6 := Lib.hid kS
          clear h5 k5 r5 hi5 kS hv5
          have e7 := BI6.out.c 7 rfl
          go_wp2_with fail
          refine (HRUN.out (depth + 1) _ false ops2 q2 _ (by omega) H6.out hd ho2 (by omega)).mono ?_
          rintro en w7 h7
          obtain ⟨k7, rfl⟩ := h7.bad_elim HX3.out
          exact ⟨rfl, OutC.wrong HX.out (K6.out.trans k7)⟩
        | ok s1 q3 =>
          obtain ⟨⟨es, el2⟩, ops3⟩ := s1
          have HX := Lib.hid (show pOper types fuel depth 3 ops l e p = .ok (.mk 3 0 0 t bs es true [], ops3) q3 from hX.trans ((P.bind_ok hx1).trans ((P.bind_ok hx2).trans ((P.bind_ok hx3).trans rfl))))
          have HX3 := Lib.hid hx3
          clear hx1 hx2 hx3 h c hb hX hrun
          go_enter Tryz.func238, Tryz.ntmps238
          go_wp2_with fail
          refine (blockType_any HC.out r k e p ops _ H2.out).mono ?_
          rintro en w3 h3
          obtain ⟨k3, v3, rfl, ⟨t0, t1, rfl, hv3⟩, r3⟩ := h3.ok_elim HX1.out
          obtain ⟨⟨ia, il, ic, rfl⟩, oa, ol, oc, rfl⟩ := open_sig hv3
          have V3 := Lib.hid hv3
          have hi3 := BI2.out.keep k3 (by omega)
          have c3 := hi3.c 3 rfl
          have c4 := hi3.c 4 rfl
          have f3 := hi3.f 3
          have f4 := hi3.f 4
          have kS : Keep (fun i => i = w.heap.size + 1) w3 ((w3.setCell ⟨w.heap.size + 1, 3, none⟩ (.slice ia il ic)).setCell ⟨w.heap.size + 1, 4, none⟩ (.slice oa ol oc)) := ((Keep.refl (fun i => i = w.heap.size + 1) w3).set (p := ⟨w.heap.size + 1, 3, none⟩) (.inl rfl) _).set (p := ⟨w.heap.size + 1, 4, none⟩) (.inl rfl) _
          have BI4 := Lib.hid ((hi3.set 3 (.slice ia il ic)).set 4 (.slice oa ol oc))
          have BR4 := Lib.hid ((BR2.out.keep k3 (by omega)).keep kS (by omega))
          have H4 := Lib.hid ((H2.out.go k3 r3).free kS (n := w.heap.size) (fun i hi => by omega) hr hk)
          have K4 := Lib.hid ((K2.out.trans (k3.mono (fun i _ hi => .inl hi))).new kS (fun i h1 h2 => by omega))
          have Z3 := Lib.hid (show w.heap.size + 2 ≤ _ from BI2.out.lt)
          have Q4 := Lib.hid kS
          clear h3 k3 r3 hi3 kS hv3
          go_wp2_with fail
          refine (HRUN.out (depth + 1) _ false ops q1 _ (by omega) H4.out hd ho (by omega)).mono ?_
          rintro en w5 h5
          obtain ⟨k5, v5, rfl, ⟨ba, bc, rfl, hv5⟩, r5⟩ := h5.ok_elim HX2.out
          have V5 := Lib.hid hv5
          have hi5 := BI4.out.keep k5 (by omega)
          have c5 := hi5.c 5 rfl
          have c7 := hi5.c 7 rfl
          have f5 := hi5.f 5
          have f7 := hi5.f 7
          have kS : Keep (fun i => i = w.heap.size + 1) w5 ((w5.setCell ⟨w.heap.size + 1, 5, none⟩ (.slice ba bs.length bc)).setCell ⟨w.heap.size + 1, 7, none⟩ (.bool true)) := ((Keep.refl (fun i => i = w.heap.size + 1) w5).set (p := ⟨w.heap.size + 1, 5, none⟩) (.inl rfl) _).set (p := ⟨w.heap.size + 1, 7, none⟩) (.inl rfl) _
          have BI6 := Lib.hid ((hi5.set 5 (.slice ba bs.length bc)).set 7 (.bool true))
          have BR6 := Lib.hid ((BR4.out.keep k5 (by omega)).keep kS (by omega))
          have H6 := Lib.hid (r5.free kS (n := w.heap.size) (fun i hi => by omega) hr hk)
          have K6 := Lib.hid ((K4.out.trans k5).new kS (fun i h1 h2 => by omega))
          have Z5 := Lib.hid (show w.heap.size + 2 ≤ _ from BI4.out.lt)
          have Q5 := Lib.hid k5
          have Q6 := Lib.hid kS
          clear h5 k5 r5 hi5 kS hv5
          have e7 := BI6.out.c 7 rfl
          go_wp2_with fail
          refine (HRUN.out (depth + 1) _ false ops2 q2 _ (by omega) H6.out hd ho2 (by omega)).mono ?_
          rintro en w7 h7
          obtain ⟨k7, v7, rfl, ⟨ea, ec, rfl, hv7⟩, r7⟩ := h7.ok_elim HX3.out
          have V7 := Lib.hid hv7
          have Z7 := Lib.hid (show w.heap.size + 2 ≤ _ from BI6.out.lt)
          have BI7 := Lib.hid (BI6.out.keep k7 (by omega))
          have BR7 := Lib.hid (BR6.out.keep k7 (by omega))
          have H7 := Lib.hid r7
          have K7 := Lib.hid (K6.out.trans k7)
          have Q7 := Lib.hid k7
          clear h7 k7 r7 hv7
          have c0 := BI7.out.c 0 rfl
          have r0 := BR7.out.c 0 rfl
          have f0 := BI7.out.f 0
          have z0 := BR7.out.f 0
          have c1 := BI7.out.c 1 rfl
          have r1 := BR7.out.c 1 rfl
          have f1 := BI7.out.f 1
          have z1 := BR7.out.f 1
          have c2 := BI7.out.c 2 rfl
          have r2 := BR7.out.c 2 rfl
          have f2 := BI7.out.f 2
          have z2 := BR7.out.f 2
          have c3 := BI7.out.c 3 rfl
          have r3 := BR7.out.c 3 rfl
          have f3 := BI7.out.f 3
          have z3 := BR7.out.f 3
          have c4 := BI7.out.c 4 rfl
          have r4 := BR7.out.c 4 rfl
          have f4 := BI7.out.f 4
          have z4 := BR7.out.f 4
          have c5 := BI7.out.c 5 rfl
          have r5 := BR7.out.c 5 rfl
          have f5 := BI7.out.f 5
          have z5 := BR7.out.f 5
          have c6 := BI7.out.c 6 rfl
          have r6 := BR7.out.c 6 rfl
          have f6 := BI7.out.f 6
          have z6 := BR7.out.f 6
          have c7 := BI7.out.c 7 rfl
          have r7 := BR7.out.c 7 rfl
          have f7 := BI7.out.f 7
          have z7 := BR7.out.f 7
          have c8 := BI7.out.c 8 rfl
          have r8 := BR7.out.c 8 rfl
          have f8 := BI7.out.f 8
          have z8 := BR7.out.f 8
          have KS := Lib.hid (((((((((((Keep.refl (fun i => i = w.heap.size ∨ i = w.heap.size + 1) (w7)).set (p := ⟨w.heap.size + 1, 6, none⟩) (.inl (.inr rfl)) (.slice ea es.length ec)).set (p := ⟨w.heap.size, 0, none⟩) (.inl (.inl rfl)) (.int .i64 3)).set (p := ⟨w.heap.size, 1, none⟩) (.inl (.inl rfl)) (.int .u64 0)).set (p := ⟨w.heap.size, 2, none⟩) (.inl (.inl rfl)) (.int .u64 0)).set (p := ⟨w.heap.size, 3, none⟩) (.inl (.inl rfl)) (.slice ia il ic)).set (p := ⟨w.heap.size, 4, none⟩) (.inl (.inl rfl)) (.slice oa ol oc)).set (p := ⟨w.heap.size, 5, none⟩) (.inl (.inl rfl)) (.slice ba bs.length bc)).set (p := ⟨w.heap.size, 6, none⟩) (.inl (.inl rfl)) (.slice ea es.length ec)).set (p := ⟨w.heap.size, 7, none⟩) (.inl (.inl rfl)) (.bool true)).set (p := ⟨w.heap.size, 8, none⟩) (.inl (.inl rfl)) (.slice none 0 0))
          have SZ := H7.out.rr.low.size
          go_wp2
          refine bodyPost_ret (v := .agg #[.int .i64 3, .int .u64 0, .int .u64 0, .slice ia il ic, .slice oa ol oc, .slice ba bs.length bc, .slice ea es.length ec, .bool true, .slice none 0 0]) (by simp [results, Tryz.results238, go_sem, r0, r1, r2, r3, r4, r5, r6, r7, r8]) rfl (OutC.good HX.out (K7.out.new KS.out (fun i hi e => by omega)) ?_ (H7.out.free KS.out (fun i hi => by omega) hr hk))
          have hI := (Gh.all_cons rfl).1 V3.out
          have hO := (Gh.all_cons rfl).1 hI.2
          have li := (VR.slice_len hI.1)
          have lo := (VR.slice_len hO.1)
          subst li lo
          exact ⟨_, _, _, _, _, _, _, _, _, _, rfl, (Gh.is.keep (Gh.is.keep (Gh.is.keep (Gh.is.keep (Gh.is.keep hI.1 (Nat.le_refl _) (Same.keep Q4.out (fun i h1 h2 e => by have := Z3.out; omega))) (Nat.le_refl _) (Same.keep Q5.out (fun i h1 h2 e => by have := Z3.out; omega))) (Nat.le_refl _) (Same.keep Q6.out (fun i h1 h2 e => by have := Z3.out; omega))) (Nat.le_refl _) (Same.keep Q7.out (fun i h1 h2 e => by have := Z3.out; omega))) (by have := Z3.out; omega) (Same.keep KS.out (fun i h1 h2 e => by have := Z3.out; omega))), (Gh.is.keep (Gh.is.keep (Gh.is.keep (Gh.is.keep (Gh.is.keep hO.1 (Nat.le_refl _) (Same.keep Q4.out (fun i h1 h2 e => by have := Z3.out; omega))) (Nat.le_refl _) (Same.keep Q5.out (fun i h1 h2 e => by have := Z3.out; omega))) (Nat.le_refl _) (Same.keep Q6.out (fun i h1 h2 e => by have := Z3.out; omega))) (Nat.le_refl _) (Same.keep Q7.out (fun i h1 h2 e => by have := Z3.out; omega))) (by have := Z3.out; omega) (Same.keep KS.out (fun i h1 h2 e => by have := Z3.out; omega))), (Gh.is.keep (Gh.is.keep (Gh.is.keep V5.out (Nat.le_refl _) (Same.keep Q6.out (fun i h1 h2 e => by have := Z5.out; omega))) (Nat.le_refl _) (Same.keep Q7.out (fun i h1 h2 e => by have := Z5.out; omega))) (by have := Z5.out; omega) (Same.keep KS.out (fun i h1 h2 e => by have := Z5.out; omega))), (Gh.is.keep V7.out (by have := Z7.out; omega) (Same.keep KS.out (fun i h1 h2 e => by have := Z7.out; omega))), VR.nil 1 gI _ _⟩

set_option maxRecDepth 100000 in
set_option maxHeartbeats 1000000 in
theorem oper_4 (c : CC w0 ao cap l ta tc types) (fuel r k e p ops : Nat) (depth : Nat) (w : World) (h : Cr w0 ao cap l ta tc types r k e p ops w) (hrun : RunOK w0 ao cap l ta tc types r k e fuel) (hd : depth + 1 ≤ 16) (ho : ops ≤ 512) (hf : e - p < fuel) :
    Calls Tryz.prog 238 #[.pointer (some ⟨k, 0, none⟩), .int .i64 ((p : Int) - 1), .int .i64 4, .int .i64 depth] w (OutC w0 ao cap l ta tc types r k e w (VIn w.heap.size) (pOper types fuel depth 4 ops l e p)) := by
  have hr := h.rr.blk.lt
  have hk := h.blk.lt
  have hb := fun k => (c.ctx.bd k).1
  have hp := h.rr.hp
  have he := h.rr.he
  have HC := Lib.hid c
  have H2 := Lib.hid (h.below (made2 w (.cells #[.int .i64 0, .int .u64 0, .int .u64 0, .slice none 0 0, .slice none 0 0, .slice none 0 0, .slice none 0 0, .bool false, .slice none 0 0] 61) (.cells #[.int .i64 4, .int .u64 0, .int .u64 0, .slice none 0 0, .slice none 0 0, .slice none 0 0, .slice none 0 0, .bool false, .slice none 0 0] 61)))
  have hsz : (w.alloc (.cells #[.int .i64 0, .int .u64 0, .int .u64 0, .slice none 0 0, .slice none 0 0, .slice none 0 0, .slice none 0 0, .bool false, .slice none 0 0] 61)).heap.size = w.heap.size + 1 := by simp [go_sem]
  have BR2 := Lib.hid ((Blk.new 61 w #[.int .i64 0, .int .u64 0, .int .u64 0, .slice none 0 0, .slice none 0 0, .slice none 0 0, .slice none 0 0, .bool false, .slice none 0 0]).below (made1 _ (.cells #[.int .i64 4, .int .u64 0, .int .u64 0, .slice none 0 0, .slice none 0 0, .slice none 0 0, .slice none 0 0, .bool false, .slice none 0 0] 61)))
  have BI2 := Lib.hid (hsz ▸ Blk.new 61 (w.alloc (.cells #[.int .i64 0, .int .u64 0, .int .u64 0, .slice none 0 0, .slice none 0 0, .slice none 0 0, .slice none 0 0, .bool false, .slice none 0 0] 61)) #[.int .i64 4, .int .u64 0, .int .u64 0, .slice none 0 0, .slice none 0 0, .slice none 0 0, .slice none 0 0, .bool false, .slice none 0 0] : Blk 61 ((w.alloc (.cells #[.int .i64 0, .int .u64 0, .int .u64 0, .slice none 0 0, .slice none 0 0, .slice none 0 0, .slice none 0 0, .bool false, .slice none 0 0] 61)).alloc (.cells #[.int .i64 4, .int .u64 0, .int .u64 0, .slice none 0 0, .slice none 0 0, .slice none 0 0, .slice none 0 0, .bool false, .slice none 0 0] 61)) (w.heap.size + 1) #[.int .i64 4, .int .u64 0, .int .u64 0, .slice none 0 0, .slice none 0 0, .slice none 0 0, .slice none 0 0, .bool false, .slice none 0 0])
  have K2 := Lib.hid (Keep.of (S := fun i => i = r ∨ i = k) (made2 w (.cells #[.int .i64 0, .int .u64 0, .int .u64 0, .slice none 0 0, .slice none 0 0, .slice none 0 0, .slice none 0 0, .bool false, .slice none 0 0] 61) (.cells #[.int .i64 4, .int .u64 0, .int .u64 0, .slice none 0 0, .slice none 0 0, .slice none 0 0, .slice none 0 0, .bool false, .slice none 0 0] 61)))
  have S2 := Lib.hid (made2 w (.cells #[.int .i64 0, .int .u64 0, .int .u64 0, .slice none 0 0, .slice none 0 0, .slice none 0 0, .slice none 0 0, .bool false, .slice none 0 0] 61) (.cells #[.int .i64 4, .int .u64 0, .int .u64 0, .slice none 0 0, .slice none 0 0, .slice none 0 0, .slice none 0 0, .bool false, .slice none 0 0] 61)).size
  clear hsz
  have HRUN := Lib.hid hrun
  have hX : pOper types fuel depth 4 ops l e p = ((pBlockType types).bind fun t => (pRun2 types fuel (depth + 1) true ops []).bind fun r =>
      if r.1.2 then (pRun2 types fuel (depth + 1) false r.2 []).bind fun s => P.ret (.mk 4 0 0 t r.1.1 s.1.1 true [], s.2)
      else P.ret (.mk 4 0 0 t r.1.1 [] false [], r.2)) l e p := rfl
  have hdI : (depth : Int) + 1 ≤ 16 := by omega
  cases hx1 : pBlockType types l e p with
  | bad why a =>
    have HX := Lib.hid (hX.trans (P.bind_bad hx1))
    have HX1 := Lib.hid hx1
    clear hx1 h c hb hX hrun
    go_enter Tryz.func238, Tryz.ntmps238
    go_wp2_with fail
    refine (blockType_any HC.out r k e p ops _ H2.out).mono ?_
    rintro en w3 h3
    obtain ⟨k3, rfl⟩ := h3.bad_elim HX1.out
    exact ⟨rfl, OutC.wrong HX.out (K2.out.trans (k3.mono (fun i _ hi => .inl hi)))⟩
  | ok t q1 =>
    have hq1 := (Good.blockType types).ok hb hp he hx1
    have HX1 := Lib.hid hx1
    cases hx2 : pRun2 types fuel (depth + 1) true ops [] l e q1 with
    | bad why a =>
      have HX := Lib.hid (hX.trans ((P.bind_ok hx1).trans (P.bind_bad hx2)))
      have HX2 := Lib.hid hx2
      clear hx1 hx2 h c hb hX hrun
      go_enter Tryz.func238, Tryz.ntmps238
      go_wp2_with fail
      refine (blockType_any HC.out r k e p ops _ H2.out).mono ?_
      rintro en w3 h3
      obtain ⟨k3, v3, rfl, ⟨t0, t1, rfl, hv3⟩, r3⟩ := h3.ok_elim HX1.out
      obtain ⟨⟨ia, il, ic, rfl⟩, oa, ol, oc, rfl⟩ := open_sig hv3
      have V3 := Lib.hid hv3
      have hi3 := BI2.out.keep k3 (by omega)
      have c3 := hi3.c 3 rfl
      have c4 := hi3.c 4 rfl
      have f3 := hi3.f 3
      have f4 := hi3.f 4
      have kS : Keep (fun i => i = w.heap.size + 1) w3 ((w3.setCell ⟨w.heap.size + 1, 3, none⟩ (.slice ia il ic)).setCell ⟨w.heap.size + 1, 4, none⟩ (.slice oa ol oc)) := ((Keep.refl (fun i => i = w.heap.size + 1) w3).set (p := ⟨w.heap.size + 1, 3, none⟩) (.inl rfl) _).set (p := ⟨w.heap.size + 1, 4, none⟩) (.inl rfl) _
      have BI4 := Lib.hid ((hi3.set 3 (.slice ia il ic)).set 4 (.slice oa ol oc))
      have BR4 := Lib.hid ((BR2.out.keep k3 (by omega)).keep kS (by omega))
      have H4 := Lib.hid ((H2.out.go k3 r3).free kS (n := w.heap.size) (fun i hi => by omega) hr hk)
      have K4 := Lib.hid ((K2.out.trans (k3.mono (fun i _ hi => .inl hi))).new kS (fun i h1 h2 => by omega))
      have Z3 := Lib.hid (show w.heap.size + 2 ≤ _ from BI2.out.lt)
      have Q4 := Lib.hid kS
      clear h3 k3 r3 hi3 kS hv3
      go_wp2_with fail
      refine (HRUN.out (depth + 1) _ true ops q1 _ (by omega) H4.out hd ho (by omega)).mono ?_
      rintro en w5 h5
      obtain ⟨k5, rfl⟩ := h5.bad_elim HX2.out
      exact ⟨rfl, OutC.wrong HX.out (K4.out.trans k5)⟩
    | ok r1 q2 =>
      obtain ⟨⟨bs, el⟩, ops2⟩ := r1
      have hq2 := run2_le hb hq1.2.1 he hx2
      have ho2 := run2_ops _ _ _ _ _ _ _ _ _ _ _ ho hx2
      have HX2 := Lib.hid hx2
      cases el with
      | false =>
        have HX := Lib.hid (show pOper types fuel depth 4 ops l e p = .ok (.mk 4 0 0 t bs [] false [], ops2) q2 from hX.trans ((P.bind_ok hx1).trans ((P.bind_ok hx2).trans rfl)))
        clear hx1 hx2 h c hb hX hrun
        go_enter Tryz.func238, Tryz.ntmps238
        go_wp2_with fail
        refine (blockType_any HC.out r k e p ops _ H2.out).mono ?_
        rintro en w3 h3
        obtain ⟨k3, v3, rfl, ⟨t0, t1, rfl, hv3⟩, r3⟩ := h3.ok_elim HX1.out
        obtain ⟨⟨ia, il, ic, rfl⟩, oa, ol, oc, rfl⟩ := open_sig hv3
        have V3 := Lib.hid hv3
        have hi3 := BI2.out.keep k3 (by omega)
        have c3 := hi3.c 3 rfl
        have c4 := hi3.c 4 rfl
        have f3 := hi3.f 3
        have f4 := hi3.f 4
        have kS : Keep (fun i => i = w.heap.size + 1) w3 ((w3.setCell ⟨w.heap.size + 1, 3, none⟩ (.slice ia il ic)).setCell ⟨w.heap.size + 1, 4, none⟩ (.slice oa ol oc)) := ((Keep.refl (fun i => i = w.heap.size + 1) w3).set (p := ⟨w.heap.size + 1, 3, none⟩) (.inl rfl) _).set (p := ⟨w.heap.size + 1, 4, none⟩) (.inl rfl) _
        have BI4 := Lib.hid ((hi3.set 3 (.slice ia il ic)).set 4 (.slice oa ol oc))
        have BR4 := Lib.hid ((BR2.out.keep k3 (by omega)).keep kS (by omega))
        have H4 := Lib.hid ((H2.out.go k3 r3).free kS (n := w.heap.size) (fun i hi => by omega) hr hk)
        have K4 := Lib.hid ((K2.out.trans (k3.mono (fun i _ hi => .inl hi))).new kS (fun i h1 h2 => by omega))
        have Z3 := Lib.hid (show w.heap.size + 2 ≤ _ from BI2.out.lt)
        have Q4 := Lib.hid kS
        clear h3 k3 r3 hi3 kS hv3
        go_wp2_with fail
        refine (HRUN.out (depth + 1) _ true ops q1 _ (by omega) H4.out hd ho (by omega)).mono ?_
        rintro en w5 h5
        obtain ⟨k5, v5, rfl, ⟨ba, bc, rfl, hv5⟩, r5⟩ := h5.ok_elim HX2.out
        have V5 := Lib.hid hv5
        have BI5 := Lib.hid (BI4.out.keep k5 (by omega))
        have BR5 := Lib.hid (BR4.out.keep k5 (by omega))
        have H5 := Lib.hid r5
        have K5 := Lib.hid (K4.out.trans k5)
        have Z5 := Lib.hid (show w.heap.size + 2 ≤ _ from BI4.out.lt)
        have Q5 := Lib.hid k5
        clear h5 k5 r5 hv5
        have c0 := BI5.out.c 0 rfl
        have r0 := BR5.out.c 0 rfl
        have f0 := BI5.out.f 0
        have z0 := BR5.out.f 0
        have c1 := BI5.out.c 1 rfl
        have r1 := BR5.out.c 1 rfl
        have f1 := BI5.out.f 1
        have z1 := BR5.out.f 1
        have c2 := BI5.out.c 2 rfl
        have r2 := BR5.out.c 2 rfl
        have f2 := BI5.out.f 2
        have z2 := BR5.out.f 2
        have c3 := BI5.out.c 3 rfl
        have r3 := BR5.out.c 3 rfl
        have f3 := BI5.out.f 3
        have z3 := BR5.out.f 3
        have c4 := BI5.out.c 4 rfl
        have r4 := BR5.out.c 4 rfl
        have f4 := BI5.out.f 4
        have z4 := BR5.out.f 4
        have c5 := BI5.out.c 5 rfl
        have r5 := BR5.out.c 5 rfl
        have f5 := BI5.out.f 5
        have z5 := BR5.out.f 5
        have c6 := BI5.out.c 6 rfl
        have r6 := BR5.out.c 6 rfl
        have f6 := BI5.out.f 6
        have z6 := BR5.out.f 6
        have c7 := BI5.out.c 7 rfl
        have r7 := BR5.out.c 7 rfl
        have f7 := BI5.out.f 7
        have z7 := BR5.out.f 7
        have c8 := BI5.out.c 8 rfl
        have r8 := BR5.out.c 8 rfl
        have f8 := BI5.out.f 8
        have z8 := BR5.out.f 8
        have KS := Lib.hid ((((((((((((Keep.refl (fun i => i = w.heap.size ∨ i = w.heap.size + 1) (w5)).set (p := ⟨w.heap.size + 1, 5, none⟩) (.inl (.inr rfl)) (.slice ba bs.length bc)).set (p := ⟨w.heap.size + 1, 7, none⟩) (.inl (.inr rfl)) (.bool false)).set (p := ⟨w.heap.size, 0, none⟩) (.inl (.inl rfl)) (.int .i64 4)).set (p := ⟨w.heap.size, 1, none⟩) (.inl (.inl rfl)) (.int .u64 0)).set (p := ⟨w.heap.size, 2, none⟩) (.inl (.inl rfl)) (.int .u64 0)).set (p := ⟨w.heap.size, 3, none⟩) (.inl (.inl rfl)) (.slice ia il ic)).set (p := ⟨w.heap.size, 4, none⟩) (.inl (.inl rfl)) (.slice oa ol oc)).set (p := ⟨w.heap.size, 5, none⟩) (.inl (.inl rfl)) (.slice ba bs.length bc)).set (p := ⟨w.heap.size, 6, none⟩) (.inl (.inl rfl)) (.slice none 0 0)).set (p := ⟨w.heap.size, 7, none⟩) (.inl (.inl rfl)) (.bool false)).set (p := ⟨w.heap.size, 8, none⟩) (.inl (.inl rfl)) (.slice none 0 0))
        have SZ := H5.out.rr.low.size
        go_wp2
        refine bodyPost_ret (v := .agg #[.int .i64 4, .int .u64 0, .int .u64 0, .slice ia il ic, .slice oa ol oc, .slice ba bs.length bc, .slice none 0 0, .bool false, .slice none 0 0]) (by simp [results, Tryz.results238, go_sem, r0, r1, r2, r3, r4, r5, r6, r7, r8]) rfl (OutC.good HX.out (K5.out.new KS.out (fun i hi e => by omega)) ?_ (H5.out.free KS.out (fun i hi => by omega) hr hk))
        have hI := (Gh.all_cons rfl).1 V3.out
        have hO := (Gh.all_cons rfl).1 hI.2
        have li := (VR.slice_len hI.1)
        have lo := (VR.slice_len hO.1)
        subst li lo
        exact ⟨_, _, _, _, _, _, _, _, _, _, rfl, (Gh.is.keep (Gh.is.keep (Gh.is.keep hI.1 (Nat.le_refl _) (Same.keep Q4.out (fun i h1 h2 e => by have := Z3.out; omega))) (Nat.le_refl _) (Same.keep Q5.out (fun i h1 h2 e => by have := Z3.out; omega))) (by have := Z3.out; omega) (Same.keep KS.out (fun i h1 h2 e => by have := Z3.out; omega))), (Gh.is.keep (Gh.is.keep (Gh.is.keep hO.1 (Nat.le_refl _) (Same.keep Q4.out (fun i h1 h2 e => by have := Z3.out; omega))) (Nat.le_refl _) (Same.keep Q5.out (fun i h1 h2 e => by have := Z3.out; omega))) (by have := Z3.out; omega) (Same.keep KS.out (fun i h1 h2 e => by have := Z3.out; omega))), (Gh.is.keep V5.out (by have := Z5.out; omega) (Same.keep KS.out (fun i h1 h2 e => by have := Z5.out; omega))), VR.nil 9 gInstr _ _, VR.nil 1 gI _ _⟩
      | true =>
        cases hx3 : pRun2 types fuel (depth + 1) false ops2 [] l e q2 with
        | bad why a =>
          have HX := Lib.hid (show pOper types fuel depth 4 ops l e p = .bad why a from hX.trans ((P.bind_ok hx1).trans ((P.bind_ok hx2).trans (P.bind_bad hx3))))
          have HX3 := Lib.hid hx3
          clear hx1 hx2 hx3 h c hb hX hrun
          go_enter Tryz.func238, Tryz.ntmps238
          go_wp2_with fail
          refine (blockType_any HC.out r k e p ops _ H2.out).mono ?_
          rintro en w3 h3
          obtain ⟨k3, v3, rfl, ⟨t0, t1, rfl, hv3⟩, r3⟩ := h3.ok_elim HX1.out
          obtain ⟨⟨ia, il, ic, rfl⟩, oa, ol, oc, rfl⟩ := open_sig hv3
          have V3 := Lib.hid hv3
          have hi3 := BI2.out.keep k3 (by omega)
          have c3 := hi3.c 3 rfl
          have c4 := hi3.c 4 rfl
          have f3 := hi3.f 3
          have f4 := hi3.f 4
          have kS : Keep (fun i => i = w.heap.size + 1) w3 ((w3.setCell ⟨w.heap.size + 1, 3, none⟩ (.slice ia il ic)).setCell ⟨w.heap.size + 1, 4, none⟩ (.slice oa ol oc)) := ((Keep.refl (fun i => i = w.heap.size + 1) w3).set (p := ⟨w.heap.size + 1, 3, none⟩) (.inl rfl) _).set (p := ⟨w.heap.size + 1, 4, none⟩) (.inl rfl) _
          have BI4 := Lib.hid ((hi3.set 3 (.slice ia il ic)).set 4 (.slice oa ol oc))
          have BR4 := Lib.hid ((BR2.out.keep k3 (by omega)).keep kS (by omega))
          have H4 := Lib.hid ((H2.out.go k3 r3).free kS (n := w.heap.size) (fun i hi => by omega) hr hk)
          have K4 := Lib.hid ((K2.out.trans (k3.mono (fun i _ hi => .inl hi))).new kS (fun i h1 h2 => by omega))
          have Z3 := Lib.hid (show w.heap.size + 2 ≤ _ from BI2.out.lt)
          have Q4 := Lib.hid kS
          clear h3 k3 r3 hi3 kS hv3
          go_wp2_with fail
          refine (HRUN.out (depth + 1) _ true ops q1 _ (by omega) H4.out hd ho (by omega)).mono ?_
          rintro en w5 h5
          obtain ⟨k5, v5, rfl, ⟨ba, bc, rfl, hv5⟩, r5⟩ := h5.ok_elim HX2.out
          have V5 := Lib.hid hv5
          have hi5 := BI4.out.keep k5 (by omega)
          have c5 := hi5.c 5 rfl
          have c7 := hi5.c 7 rfl
          have f5 := hi5.f 5
          have f7 := hi5.f 7
          have kS : Keep (fun i => i = w.heap.size + 1) w5 ((w5.setCell ⟨w.heap.size + 1, 5, none⟩ (.slice ba bs.length bc)).setCell ⟨w.heap.size + 1, 7, none⟩ (.bool true)) := ((Keep.refl (fun i => i = w.heap.size + 1) w5).set (p := ⟨w.heap.size + 1, 5, none⟩) (.inl rfl) _).set (p := ⟨w.heap.size + 1, 7, none⟩) (.inl rfl) _
          have BI6 := Lib.hid ((hi5.set 5 (.slice ba bs.length bc)).set 7 (.bool true))
          have BR6 := Lib.hid ((BR4.out.keep k5 (by omega)).keep kS (by omega))
          have H6 := Lib.hid (r5.free kS (n := w.heap.size) (fun i hi => by omega) hr hk)
          have K6 := Lib.hid ((K4.out.trans k5).new kS (fun i h1 h2 => by omega))
          have Z5 := Lib.hid (show w.heap.size + 2 ≤ _ from BI4.out.lt)
          have Q5 := Lib.hid k5
          have Q6 := Lib.hid kS
          clear h5 k5 r5 hi5 kS hv5
          have e7 := BI6.out.c 7 rfl
          go_wp2_with fail
          refine (HRUN.out (depth + 1) _ false ops2 q2 _ (by omega) H6.out hd ho2 (by omega)).mono ?_
          rintro en w7 h7
          obtain ⟨k7, rfl⟩ := h7.bad_elim HX3.out
          exact ⟨rfl, OutC.wrong HX.out (K6.out.trans k7)⟩
        | ok s1 q3 =>
          obtain ⟨⟨es, el2⟩, ops3⟩ := s1
          have HX := Lib.hid (show pOper types fuel depth 4 ops l e p = .ok (.mk 4 0 0 t bs es true [], ops3) q3 from hX.trans ((P.bind_ok hx1).trans ((P.bind_ok hx2).trans ((P.bind_ok hx3).trans rfl))))
          have HX3 := Lib.hid hx3
          clear hx1 hx2 hx3 h c hb hX hrun
          go_enter Tryz.func238, Tryz.ntmps238
          go_wp2_with fail
          refine (blockType_any HC.out r k e p ops _ H2.out).mono ?_
          rintro en w3 h3
          obtain ⟨k3, v3, rfl, ⟨t0, t1, rfl, hv3⟩, r3⟩ := h3.ok_elim HX1.out
          obtain ⟨⟨ia, il, ic, rfl⟩, oa, ol, oc, rfl⟩ := open_sig hv3
          have V3 := Lib.hid hv3
          have hi3 := BI2.out.keep k3 (by omega)
          have c3 := hi3.c 3 rfl
          have c4 := hi3.c 4 rfl
          have f3 := hi3.f 3
          have f4 := hi3.f 4
          have kS : Keep (fun i => i = w.heap.size + 1) w3 ((w3.setCell ⟨w.heap.size + 1, 3, none⟩ (.slice ia il ic)).setCell ⟨w.heap.size + 1, 4, none⟩ (.slice oa ol oc)) := ((Keep.refl (fun i => i = w.heap.size + 1) w3).set (p := ⟨w.heap.size + 1, 3, none⟩) (.inl rfl) _).set (p := ⟨w.heap.size + 1, 4, none⟩) (.inl rfl) _
          have BI4 := Lib.hid ((hi3.set 3 (.slice ia il ic)).set 4 (.slice oa ol oc))
          have BR4 := Lib.hid ((BR2.out.keep k3 (by omega)).keep kS (by omega))
          have H4 := Lib.hid ((H2.out.go k3 r3).free kS (n := w.heap.size) (fun i hi => by omega) hr hk)
          have K4 := Lib.hid ((K2.out.trans (k3.mono (fun i _ hi => .inl hi))).new kS (fun i h1 h2 => by omega))
          have Z3 := Lib.hid (show w.heap.size + 2 ≤ _ from BI2.out.lt)
          have Q4 := Lib.hid kS
          clear h3 k3 r3 hi3 kS hv3
          go_wp2_with fail
          refine (HRUN.out (depth + 1) _ true ops q1 _ (by omega) H4.out hd ho (by omega)).mono ?_
          rintro en w5 h5
          obtain ⟨k5, v5, rfl, ⟨ba, bc, rfl, hv5⟩, r5⟩ := h5.ok_elim HX2.out
          have V5 := Lib.hid hv5
          have hi5 := BI4.out.keep k5 (by omega)
          have c5 := hi5.c 5 rfl
          have c7 := hi5.c 7 rfl
          have f5 := hi5.f 5
          have f7 := hi5.f 7
          have kS : Keep (fun i => i = w.heap.size + 1) w5 ((w5.setCell ⟨w.heap.size + 1, 5, none⟩ (.slice ba bs.length bc)).setCell ⟨w.heap.size + 1, 7, none⟩ (.bool true)) := ((Keep.refl (fun i => i = w.heap.size + 1) w5).set (p := ⟨w.heap.size + 1, 5, none⟩) (.inl rfl) _).set (p := ⟨w.heap.size + 1, 7, none⟩) (.inl rfl) _
          have BI6 := Lib.hid ((hi5.set 5 (.slice ba bs.length bc)).set 7 (.bool true))
          have BR6 := Lib.hid ((BR4.out.keep k5 (by omega)).keep kS (by omega))
          have H6 := Lib.hid (r5.free kS (n := w.heap.size) (fun i hi => by omega) hr hk)
          have K6 := Lib.hid ((K4.out.trans k5).new kS (fun i h1 h2 => by omega))
          have Z5 := Lib.hid (show w.heap.size + 2 ≤ _ from BI4.out.lt)
          have Q5 := Lib.hid k5
          have Q6 := Lib.hid kS
          clear h5 k5 r5 hi5 kS hv5
          have e7 := BI6.out.c 7 rfl
          go_wp2_with fail
          refine (HRUN.out (depth + 1) _ false ops2 q2 _ (by omega) H6.out hd ho2 (by omega)).mono ?_
          rintro en w7 h7
          obtain ⟨k7, v7, rfl, ⟨ea, ec, rfl, hv7⟩, r7⟩ := h7.ok_elim HX3.out
          have V7 := Lib.hid hv7
          have Z7 := Lib.hid (show w.heap.size + 2 ≤ _ from BI6.out.lt)
          have BI7 := Lib.hid (BI6.out.keep k7 (by omega))
          have BR7 := Lib.hid (BR6.out.keep k7 (by omega))
          have H7 := Lib.hid r7
          have K7 := Lib.hid (K6.out.trans k7)
          have Q7 := Lib.hid k7
          clear h7 k7 r7 hv7
          have c0 := BI7.out.c 0 rfl
          have r0 := BR7.out.c 0 rfl
          have f0 := BI7.out.f 0
          have z0 := BR7.out.f 0
          have c1 := BI7.out.c 1 rfl
          have r1 := BR7.out.c 1 rfl
          have f1 := BI7.out.f 1
          have z1 := BR7.out.f 1
          have c2 := BI7.out.c 2 rfl
          have r2 := BR7.out.c 2 rfl
          have f2 := BI7.out.f 2
          have z2 := BR7.out.f 2
          have c3 := BI7.out.c 3 rfl
          have r3 := BR7.out.c 3 rfl
          have f3 := BI7.out.f 3
          have z3 := BR7.out.f 3
          have c4 := BI7.out.c 4 rfl
          have r4 := BR7.out.c 4 rfl
          have f4 := BI7.out.f 4
          have z4 := BR7.out.f 4
          have c5 := BI7.out.c 5 rfl
          have r5 := BR7.out.c 5 rfl
          have f5 := BI7.out.f 5
          have z5 := BR7.out.f 5
          have c6 := BI7.out.c 6 rfl
          have r6 := BR7.out.c 6 rfl
          have f6 := BI7.out.f 6
          have z6 := BR7.out.f 6
          have c7 := BI7.out.c 7 rfl
          have r7 := BR7.out.c 7 rfl
          have f7 := BI7.out.f 7
          have z7 := BR7.out.f 7
          have c8 := BI7.out.c 8 rfl
          have r8 := BR7.out.c 8 rfl
          have f8 := BI7.out.f 8
          have z8 := BR7.out.f 8
          have KS := Lib.hid (((((((((((Keep.refl (fun i => i = w.heap.size ∨ i = w.heap.size + 1) (w7)).set (p := ⟨w.heap.size + 1, 6, none⟩) (.inl (.inr rfl)) (.slice ea es.length ec)).set (p := ⟨w.heap.size, 0, none⟩) (.inl (.inl rfl)) (.int .i64 4)).set (p := ⟨w.heap.size, 1, none⟩) (.inl (.inl rfl)) (.int .u64 0)).set (p := ⟨w.heap.size, 2, none⟩) (.inl (.inl rfl)) (.int .u64 0)).set (p := ⟨w.heap.size, 3, none⟩) (.inl (.inl rfl)) (.slice ia il ic)).set (p := ⟨w.heap.size, 4, none⟩) (.inl (.inl rfl)) (.slice oa ol oc)).set (p := ⟨w.heap.size, 5, none⟩) (.inl (.inl rfl)) (.slice ba bs.length bc)).set (p := ⟨w.heap.size, 6, none⟩) (.inl (.inl rfl)) (.slice ea es.length ec)).set (p := ⟨w.heap.size, 7, none⟩) (.inl (.inl rfl)) (.bool true)).set (p := ⟨w.heap.size, 8, none⟩) (.inl (.inl rfl)) (.slice none 0 0))
          have SZ := H7.out.rr.low.size
          go_wp2
          refine bodyPost_ret (v := .agg #[.int .i64 4, .int .u64 0, .int .u64 0, .slice ia il ic, .slice oa ol oc, .slice ba bs.length bc, .slice ea es.length ec, .bool true, .slice none 0 0]) (by simp [results, Tryz.results238, go_sem, r0, r1, r2, r3, r4, r5, r6, r7, r8]) rfl (OutC.good HX.out (K7.out.new KS.out (fun i hi e => by omega)) ?_ (H7.out.free KS.out (fun i hi => by omega) hr hk))
          have hI := (Gh.all_cons rfl).1 V3.out
          have hO := (Gh.all_cons rfl).1 hI.2
          have li := (VR.slice_len hI.1)
          have lo := (VR.slice_len hO.1)
          subst li lo
          exact ⟨_, _, _, _, _, _, _, _, _, _, rfl, (Gh.is.keep (Gh.is.keep (Gh.is.keep (Gh.is.keep (Gh.is.keep hI.1 (Nat.le_refl _) (Same.keep Q4.out (fun i h1 h2 e => by have := Z3.out; omega))) (Nat.le_refl _) (Same.keep Q5.out (fun i h1 h2 e => by have := Z3.out; omega))) (Nat.le_refl _) (Same.keep Q6.out (fun i h1 h2 e => by have := Z3.out; omega))) (Nat.le_refl _) (Same.keep Q7.out (fun i h1 h2 e => by have := Z3.out; omega))) (by have := Z3.out; omega) (Same.keep KS.out (fun i h1 h2 e => by have := Z3.out; omega))), (Gh.is.keep (Gh.is.keep (Gh.is.keep (Gh.is.keep (Gh.is.keep hO.1 (Nat.le_refl _) (Same.keep Q4.out (fun i h1 h2 e => by have := Z3.out; omega))) (Nat.le_refl _) (Same.keep Q5.out (fun i h1 h2 e => by have := Z3.out; omega))) (Nat.le_refl _) (Same.keep Q6.out (fun i h1 h2 e => by have := Z3.out; omega))) (Nat.le_refl _) (Same.keep Q7.out (fun i h1 h2 e => by have := Z3.out; omega))) (by have := Z3.out; omega) (Same.keep KS.out (fun i h1 h2 e => by have := Z3.out; omega))), (Gh.is.keep (Gh.is.keep (Gh.is.keep V5.out (Nat.le_refl _) (Same.keep Q6.out (fun i h1 h2 e => by have := Z5.out; omega))) (Nat.le_refl _) (Same.keep Q7.out (fun i h1 h2 e => by have := Z5.out; omega))) (by have := Z5.out; omega) (Same.keep KS.out (fun i h1 h2 e => by have := Z5.out; omega))), (Gh.is.keep V7.out (by have := Z7.out; omega) (Same.keep KS.out (fun i h1 h2 e => by have := Z7.out; omega))), VR.nil 1 gI _ _⟩
end
end Go.Proofs.YtgcmdnkmnghhaaaGreatDoor.wm

/- The contracts of counting, operator, run, body. -/
set_option linter.unusedVariables false
set_option linter.unusedSimpArgs false
namespace Go.Proofs.YtgcmdnkmnghhaaaGreatDoor.wm
open Go.RowKit Go.Proofs.YtgcmdnkmnghhaaaGreatDoor.lb
section
variable {w0 : World} {ao : Option Addr} {cap : Nat} {l : List Int} {ta : Option Addr} {tc : Nat} {types : List GSig}

theorem operator_any (c : CC w0 ao cap l ta tc types) (fuel r k e p ops depth : Nat) (op : Int) (w : World) (h : Cr w0 ao cap l ta tc types r k e p ops w) (hrun : RunOK w0 ao cap l ta tc types r k e fuel) (hd : isBlock op = true → depth + 1 ≤ 16) (ho : ops ≤ 512) (hf : e - p < fuel) (aI dI : Int) (ha : aI = (p : Int) - 1) (hdI : dI = depth) :
    Calls Tryz.prog 238 #[.pointer (some ⟨k, 0, none⟩), .int .i64 aI, .int .i64 op, .int .i64 dI] w (OutC w0 ao cap l ta tc types r k e w (VIn w.heap.size) (pOper types fuel depth op ops l e p)) := by
  subst ha hdI
  by_cases h0 : op = 0
  · subst h0; exact oper_0 c fuel r k e p ops depth w h
  by_cases h1 : op = 1
  · subst h1; exact oper_1 c fuel r k e p ops depth w h
  by_cases h15 : op = 15
  · subst h15; exact oper_15 c fuel r k e p ops depth w h
  by_cases h26 : op = 26
  · subst h26; exact oper_26 c fuel r k e p ops depth w h
  by_cases h27 : op = 27
  · subst h27; exact oper_27 c fuel r k e p ops depth w h
  by_cases h2 : op = 2
  · subst h2; exact oper_2 c fuel r k e p ops depth w h hrun (hd rfl) ho hf
  by_cases h3 : op = 3
  · subst h3; exact oper_3 c fuel r k e p ops depth w h hrun (hd rfl) ho hf
  by_cases h4 : op = 4
  · subst h4; exact oper_4 c fuel r k e p ops depth w h hrun (hd rfl) ho hf
  by_cases h12 : op = 12
  · subst h12; exact oper_12 c fuel r k e p ops depth w h
  by_cases h13 : op = 13
  · subst h13; exact oper_13 c fuel r k e p ops depth w h
  by_cases h16 : op = 16
  · subst h16; exact oper_16 c fuel r k e p ops depth w h
  by_cases h32 : op = 32
  · subst h32; exact oper_32 c fuel r k e p ops depth w h
  by_cases h33 : op = 33
  · subst h33; exact oper_33 c fuel r k e p ops depth w h
  by_cases h34 : op = 34
  · subst h34; exact oper_34 c fuel r k e p ops depth w h
  by_cases h35 : op = 35
  · subst h35; exact oper_35 c fuel r k e p ops depth w h
  by_cases h36 : op = 36
  · subst h36; exact oper_36 c fuel r k e p ops depth w h
  by_cases h14 : op = 14
  · subst h14; exact oper_14 c fuel r k e p ops depth w h
  by_cases h63 : op = 63
  · subst h63; exact oper_63 c fuel r k e p ops depth w h
  by_cases h64 : op = 64
  · subst h64; exact oper_64 c fuel r k e p ops depth w h
  by_cases h65 : op = 65
  · subst h65; exact oper_65 c fuel r k e p ops depth w h
  by_cases h66 : op = 66
  · subst h66; exact oper_66 c fuel r k e p ops depth w h
  exact oper_other c fuel r k e p ops depth op w h ⟨h0, h1, h15, h26, h27, h2, h3, h4, h12, h13, h16, h32, h33, h34, h35, h36, h14, h63, h64, h65, h66⟩

theorem Cr.count {r k e p ops : Nat} {w : World} (h : Cr w0 ao cap l ta tc types r k e p ops w) (n : Nat) {x : Int} (hx : x = (n : Int)) : Cr w0 ao cap l ta tc types r k e p n (w.setCell ⟨k, 2, none⟩ (.int .i64 x)) :=
  ⟨h.rr.keep (S := fun i => i = k) ((Keep.refl (fun i => i = k) w).set (p := ⟨k, 2, none⟩) (.inl rfl) _) (Ne.symm h.ne) (fun i hi => by have := h.hk; omega), h.blk.set n hx, h.hk, h.ne⟩

/-- what counting leaves -/
def Admits (w0 : World) (ao : Option Addr) (cap : Nat) (l : List Int) (ta : Option Addr) (tc : Nat) (types : List GSig) (r k e p ops depth : Nat) (op a : Int) (w : World) (en : Ending) (w' : World) : Prop :=
  Keep (fun i => i = k) w w' ∧ if op ≠ 5 ∧ (512 < (if op = 5 then ops else ops + 1) ∨ (isBlock op = true ∧ 16 ≤ depth)) then en = thrown 7 a else en = .returned (.tuple #[]) ∧ Cr w0 ao cap l ta tc types r k e p (if op = 5 then ops else ops + 1) w'

set_option maxRecDepth 100000 in
set_option maxHeartbeats 1000000 in
theorem admit_any (r k e p ops depth : Nat) (op a dI : Int) (w : World) (h : Cr w0 ao cap l ta tc types r k e p ops w) (ho : ops ≤ 512) (hdI : dI = depth) (hd : depth ≤ 16) :
    Calls Tryz.prog 237 #[.pointer (some ⟨k, 0, none⟩), .int .i64 a, .int .i64 op, .int .i64 dI] w (Admits w0 ao cap l ta tc types r k e p ops depth op a w) := by
  subst hdI
  by_cases h5 : op = 5
  · subst h5
    have HH := Lib.hid h
    unfold Admits
    simp only [ne_eq, not_true_eq_false, false_and, if_false, if_true]
    go_enter Tryz.func237, Tryz.ntmps237
    go_wp2
    (first | go_end0 | refine bodyPost_ret (results_none rfl _ _ _) rfl ?_)
    exact ⟨Keep.refl _ _, rfl, HH.out⟩
  · have e5 : (op == 5) = false := by simpa using h5
    have s2 := h.blk.c2
    have f2 := h.blk.f 2
    have kS : Keep (fun i => i = k) w (w.setCell ⟨k, 2, none⟩ (.int .i64 ((ops : Int) + 1))) := (Keep.refl (fun i => i = k) w).set (p := ⟨k, 2, none⟩) (.inl rfl) _
    have KS := Lib.hid kS
    have H1 := Lib.hid (h.count (ops + 1) (x := (ops : Int) + 1) (by omega))
    have hbd : (ops : Int) ≤ 512 := by omega
    have hdd : (depth : Int) ≤ 16 := by omega
    unfold Admits
    simp only [ne_eq, h5, not_false_eq_true, true_and, if_false]
    by_cases h512 : 512 < ops + 1
    · have g1 : (512 : Int) < (ops : Int) + 1 := by omega
      have hc : (512 < ops + 1 ∨ isBlock op = true ∧ 16 ≤ depth) := Or.inl h512
      simp only [if_pos hc]
      clear hc
      clear h h512 kS
      by_cases h2 : op = 2 ∨ op = 3 ∨ op = 4
      · rcases h2 with rfl | rfl | rfl
        all_goals
          go_enter Tryz.func237, Tryz.ntmps237
          go_wp2_with fail
          refine (fail_any _ _ _).mono ?_
          rintro en w2 ⟨rfl, rfl⟩
          exact ⟨rfl, KS.out, rfl⟩
      · have e2 : (op == 2) = false := by simp; omega
        have e3 : (op == 3) = false := by simp; omega
        have e4 : (op == 4) = false := by simp; omega
        go_enter Tryz.func237, Tryz.ntmps237
        go_wp2_with fail
        refine (fail_any _ _ _).mono ?_
        rintro en w2 ⟨rfl, rfl⟩
        exact ⟨rfl, KS.out, rfl⟩
    · have g1 : decide ((512 : Int) < (ops : Int) + 1) = false := by simp; omega
      by_cases h2 : op = 2 ∨ op = 3 ∨ op = 4
      · have hib : isBlock op = true := by rcases h2 with rfl | rfl | rfl <;> rfl
        by_cases h16 : 16 ≤ depth
        · have g2 : (16 : Int) ≤ depth := by omega
          have hc : (512 < ops + 1 ∨ isBlock op = true ∧ 16 ≤ depth) := Or.inr ⟨hib, h16⟩
          simp only [if_pos hc]
          clear hc
          clear h h512 kS hib h16
          rcases h2 with rfl | rfl | rfl
          all_goals
            go_enter Tryz.func237, Tryz.ntmps237
            go_wp2_with fail
            refine (fail_any _ _ _).mono ?_
            rintro en w2 ⟨rfl, rfl⟩
            exact ⟨rfl, KS.out, rfl⟩
        · have g2 : decide ((16 : Int) ≤ depth) = false := by simp; omega
          have hc : ¬ (512 < ops + 1 ∨ isBlock op = true ∧ 16 ≤ depth) := by
            intro h'
            rcases h' with h' | h'
            · exact h512 h'
            · exact h16 h'.2
          simp only [if_neg hc]
          clear hc
          clear h h512 kS hib h16
          rcases h2 with rfl | rfl | rfl
          all_goals
            go_enter Tryz.func237, Tryz.ntmps237
            go_wp2
            (first | go_end0 | refine bodyPost_ret (results_none rfl _ _ _) rfl ?_)
            exact ⟨KS.out, rfl, H1.out⟩
      · have e2 : (op == 2) = false := by simp; omega
        have e3 : (op == 3) = false := by simp; omega
        have e4 : (op == 4) = false := by simp; omega
        have hc : ¬ (512 < ops + 1 ∨ isBlock op = true ∧ 16 ≤ depth) := by
          intro h'
          rcases h' with h' | h'
          · exact h512 h'
          · have := h'.1; simp [isBlock, e2, e3, e4] at this
        simp only [if_neg hc]
        clear hc
        clear h h512 kS
        go_enter Tryz.func237, Tryz.ntmps237
        go_wp2
        (first | go_end0 | refine bodyPost_ret (results_none rfl _ _ _) rfl ?_)
        exact ⟨KS.out, rfl, H1.out⟩

theorem VIn.holds {B : Nat} {w : World} {op n m : Int} {t : GSig} {b es : List GInstr} {hh : Bool} {ts : List Int} {a1 a2 a3 a4 a5 : Option Addr} {k1 k2 k3 k4 k5 : Nat}
    (h1 : (gIs t.ins).is B w (.slice a1 t.ins.length k1)) (h2 : (gIs t.outs).is B w (.slice a2 t.outs.length k2)) (h3 : VR 9 gInstr B w (.slice a3 b.length k3) b) (h4 : VR 9 gInstr B w (.slice a4 es.length k4) es) (h5 : (gIs ts).is B w (.slice a5 ts.length k5)) :
    (gInstr (.mk op n m t b es hh ts)).holds B w [.int .i64 op, .int .u64 n, .int .u64 m, .slice a1 t.ins.length k1, .slice a2 t.outs.length k2, .slice a3 b.length k3, .slice a4 es.length k4, .bool hh, .slice a5 ts.length k5] := by
  rw [gInstr]
  refine (Gh.all_cons rfl).2 ⟨Gh.is_val.2 rfl, (Gh.all_cons rfl).2 ⟨Gh.is_val.2 rfl, (Gh.all_cons rfl).2 ⟨Gh.is_val.2 rfl, ?_⟩⟩⟩
  refine ⟨[.slice a1 t.ins.length k1, .slice a2 t.outs.length k2], [.slice a3 b.length k3, .slice a4 es.length k4, .bool hh, .slice a5 ts.length k5], rfl, (Gh.all_cons rfl).2 ⟨h1, (Gh.all_cons rfl).2 ⟨h2, rfl⟩⟩, ?_⟩
  rw [gInstrs_map, gInstrs_map]
  exact (Gh.all_cons rfl).2 ⟨h3, (Gh.all_cons rfl).2 ⟨h4, (Gh.all_cons rfl).2 ⟨Gh.is_val.2 rfl, (Gh.all_cons rfl).2 ⟨h5, rfl⟩⟩⟩⟩

/-- where a reader stands -/
def posOf (w : World) (r : Nat) : Nat := match w.cell? ⟨r, 1, none⟩ with
  | some (.int _ n) => n.toNat
  | _ => 0
theorem posOf_eq {w : World} {r : Nat} {ao : Option Addr} {e cap p : Nat} (h : RB w r ao e cap p) : posOf w r = p := by unfold posOf; rw [h.c1]; simp

structure RS (w0 : World) (ao : Option Addr) (cap : Nat) (l : List Int) (ta : Option Addr) (tc : Nat) (types : List GSig) (r k e fuel depth : Nat) (parted : Bool) (ops p : Nat) (w : World) (acc : List GInstr) (xs : List Value) (p' ops' f : Nat) (v : Value) (wr : World) : Prop where
  cr : Cr w0 ao cap l ta tc types r k e p' ops' wr
  keep : Keep (fun i => i = r ∨ i = k) w wr
  own : OwnI wr w.heap.size v acc xs
  eq : pRun2 types fuel depth parted ops [] l e p = pRun2 types f depth parted ops' acc l e p'
  hf : e - p' < f
  hff : f ≤ fuel
  ho : ops' ≤ 512
  hn : acc.length ≤ p'

theorem oper_le {fuel depth ops : Nat} {op : Int} {e p q : Nat} {x : GInstr × Nat} (hb : By l) (hp : p ≤ e) (he : e ≤ l.length) (h : pOper types fuel depth op ops l e p = .ok x q) : p ≤ q ∧ q ≤ e := by
  unfold pOper at h
  split at h
  · cases h1 : pBlockType types l e p with
    | bad w a => rw [P.bind_bad h1] at h; cases h
    | ok t q1 =>
      rw [P.bind_ok h1] at h
      have g1 := (Good.blockType types).ok hb hp he h1
      cases h2 : pRun2 types fuel (depth + 1) (op == 4) ops [] l e q1 with
      | bad w a => rw [P.bind_bad h2] at h; cases h
      | ok r q2 =>
        rw [P.bind_ok h2] at h
        have g2 := run2_le hb g1.2.1 he h2
        split at h
        · cases h3 : pRun2 types fuel (depth + 1) false r.2 [] l e q2 with
          | bad w a => rw [P.bind_bad h3] at h; cases h
          | ok s q3 =>
            rw [P.bind_ok h3] at h
            have g3 := run2_le hb g2.2 he h3
            simp only [P.ret, Res.ok.injEq] at h
            omega
        · simp only [P.ret, Res.ok.injEq] at h
          omega
  · cases h1 : pPlain op l e p with
    | bad w a => rw [P.bind_bad h1] at h; cases h
    | ok i q1 =>
      rw [P.bind_ok h1] at h
      have g1 := (Good1.plain op).ok hb hp he h1
      simp only [P.ret, Res.ok.injEq] at h
      omega
theorem oper_ops {fuel depth ops n : Nat} {op : Int} {e p q : Nat} {i : GInstr} (ho : ops ≤ 512) (h : pOper types fuel depth op ops l e p = .ok (i, n) q) : n ≤ 512 := by
  unfold pOper at h
  split at h
  · cases h1 : pBlockType types l e p with
    | bad w a => rw [P.bind_bad h1] at h; cases h
    | ok t q1 =>
      rw [P.bind_ok h1] at h
      cases h2 : pRun2 types fuel (depth + 1) (op == 4) ops [] l e q1 with
      | bad w a => rw [P.bind_bad h2] at h; cases h
      | ok r q2 =>
        rw [P.bind_ok h2] at h
        have g2 := run2_ops _ _ _ _ _ _ _ _ _ _ _ ho h2
        split at h
        · cases h3 : pRun2 types fuel (depth + 1) false r.2 [] l e q2 with
          | bad w a => rw [P.bind_bad h3] at h; cases h
          | ok s q3 =>
            rw [P.bind_ok h3] at h
            have g3 := run2_ops _ _ _ _ _ _ _ _ _ _ _ g2 h3
            simp only [P.ret, Res.ok.injEq, Prod.mk.injEq] at h
            omega
        · simp only [P.ret, Res.ok.injEq, Prod.mk.injEq] at h
          omega
  · cases h1 : pPlain op l e p with
    | bad w a => rw [P.bind_bad h1] at h; cases h
    | ok i q1 =>
      rw [P.bind_ok h1] at h
      simp only [P.ret, Res.ok.injEq, Prod.mk.injEq] at h
      omega
theorem Cr.down {r k e p ops B : Nat} {w w' : World} (h : Cr w0 ao cap l ta tc types r k e p ops w) (kp : Below B w w') (h1 : r < B) (h2 : k < B) : Cr w0 ao cap l ta tc types r k e p ops w' :=
  ⟨h.rr.down kp h1, (kp.block k h2).trans h.blk, h.hk, h.ne⟩

set_option maxRecDepth 100000 in
set_option maxHeartbeats 2000000 in
theorem run_any (c : CC w0 ao cap l ta tc types) (r k e fuel : Nat) (hrun : ∀ f, f < fuel → RunOK w0 ao cap l ta tc types r k e f) : RunOK w0 ao cap l ta tc types r k e fuel := by
  intro depth dI parted ops p w hdI h hd ho hf
  subst hdI
  have hr := h.rr.blk.lt
  have hk := h.blk.lt
  have HC := Lib.hid c
  have HRUN := Lib.hid hrun
  have H0 := Lib.hid h
  have hb := fun k => (c.ctx.bd k).1
  have HB := Lib.hid hb
  have hcl := c.ctx.len
  have hne := h.ne
  clear h c hrun hb
  go_enter Tryz.func221, Tryz.ntmps221
  go_wp2
  go_loopw [6] (fun v wr => ∃ (acc : List GInstr) (xs : List Value) (p' ops' f : Nat), Hid (RS w0 ao cap l ta tc types r k e fuel depth parted ops p w acc xs p' ops' f v wr)) (fun _ wr => e - posOf wr r)
  case atStart => exact ⟨[], [], p, ops, fuel, ⟨H0.out, Keep.refl _ _, OwnI.nil _ _, rfl, hf, Nat.le_refl _, ho, Nat.zero_le _⟩⟩
  case round =>
    obtain ⟨acc, xs, p', ops', f, HS⟩ := hrel
    obtain ⟨f', rfl⟩ : ∃ f', f = f' + 1 := ⟨f - 1, by have := HS.out.hf; omega⟩
    have a0 := HS.out.cr.blk.c0
    have a1 := HS.out.cr.rr.blk.c1
    have hpos : posOf wr r = p' := posOf_eq HS.out.cr.rr.blk
    have HP := Lib.hid hpos
    obtain ⟨vo, vn, vc, rfl⟩ : ∃ vo vn vc, u6 = .slice vo vn vc := by
      rcases HS.out.own.own.2 with ⟨h1, _⟩ | ⟨g, cap, cur, h1, _⟩
      · exact ⟨_, _, _, h1⟩
      · exact ⟨_, _, _, h1⟩
    have hvn : vn = acc.length := by
      rcases HS.out.own.own.2 with ⟨h1, h2⟩ | ⟨g, cap, cur, h1, _⟩
      · simp only [Value.slice.injEq] at h1; omega
      · simp only [Value.slice.injEq] at h1; omega
    subst hvn
    have hpl := HS.out.cr.rr.hp
    have hel := HS.out.cr.rr.he
    clear hpos
    cases hx : pOctet l e p' with
    | bad why a =>
      have HX := Lib.hid (show pRun2 types fuel depth parted ops [] l e p = .bad why a from HS.out.eq.trans (run_octet_bad hx))
      have HX1 := Lib.hid hx
      clear hx
      go_wp2_with fail
      refine (octet_any HC.out.ctx r e p' _ HS.out.cr.rr).mono ?_
      rintro en w1 h1
      obtain ⟨k1, rfl⟩ := h1.bad_elim HX1.out
      exact ⟨rfl, OutC.wrong HX.out (HS.out.keep.trans (k1.mono (fun i _ hi => .inl hi)))⟩
    | ok op q =>
      obtain ⟨rfl, hlt, hgv⟩ := octet_ok hx
      clear hgv
      have hE := HS.out.eq.trans (run_step hx)
      have HX1 := Lib.hid hx
      clear hx
      by_cases h11 : op = 11
      · subst h11
        have HX := Lib.hid (show pRun2 types fuel depth parted ops [] l e p = .ok ((acc, false), ops') (p' + 1) from hE.trans (if_pos rfl))
        clear hE
        go_wp2_with fail
        refine (octet_any HC.out.ctx r e p' _ HS.out.cr.rr).mono ?_
        rintro en w1 h1
        obtain ⟨k1, v1, rfl, hv1, r1⟩ := h1.ok_elim HX1.out
        obtain rfl : v1 = .int .i64 11 := hv1
        go_wp2
        go_ret2
        exact OutC.good HX.out (HS.out.keep.trans (k1.mono (fun i _ hi => .inl hi))) ⟨_, _, rfl, (HS.out.own.keep k1 (fun i h1 h2 e => by omega)).vr⟩ (HS.out.cr.go k1 r1)
      · rw [if_neg h11] at hE
        have e11 : (op == 11) = false := by simpa using h11
        by_cases h5 : op = 5 ∧ parted = true
        · obtain ⟨rfl, rfl⟩ := h5
          have HX := Lib.hid (show pRun2 types fuel depth true ops [] l e p = .ok ((acc, true), ops') (p' + 1) from hE.trans (if_pos ⟨rfl, rfl⟩))
          clear hE
          go_wp2_with fail
          refine (octet_any HC.out.ctx r e p' _ HS.out.cr.rr).mono ?_
          rintro en w1 h1
          obtain ⟨k1, v1, rfl, hv1, r1⟩ := h1.ok_elim HX1.out
          obtain rfl : v1 = .int .i64 5 := hv1
          go_wp2
          go_ret2
          exact OutC.good HX.out (HS.out.keep.trans (k1.mono (fun i _ hi => .inl hi))) ⟨_, _, rfl, (HS.out.own.keep k1 (fun i h1 h2 e => by omega)).vr⟩ (HS.out.cr.go k1 r1)
        · rw [if_neg h5] at hE
          simp only at hE
          by_cases h5' : op = 5
          · have e5 : (op == 5) = true := by simpa using h5'
            obtain rfl : parted = false := by
              cases parted with
              | false => rfl
              | true => exact absurd ⟨h5', rfl⟩ h5
            have H5' := Lib.hid h5'
            clear h5' h5
            have HP1 := Lib.hid (show (p' : Int) = ((p' + 1 : Nat) : Int) - 1 by omega)
            by_cases hadm : op ≠ 5 ∧ (512 < (if op = 5 then ops' else ops' + 1) ∨ (isBlock op = true ∧ 16 ≤ depth))
            · have HX := Lib.hid (show pRun2 types fuel depth false ops [] l e p = .bad 7 p' from hE.trans (if_pos hadm))
              clear hE
              go_wp2_with fail
              refine (octet_any HC.out.ctx r e p' _ HS.out.cr.rr).mono ?_
              rintro en w1 h1
              obtain ⟨k1, v1, rfl, hv1, r1⟩ := h1.ok_elim HX1.out
              obtain rfl : v1 = .int .i64 op := hv1
              go_wp2_with fail
              refine (admit_any r k e (p' + 1) ops' depth op p' depth _ (HS.out.cr.go k1 r1) HS.out.ho rfl hd).mono ?_
              rintro en w2 ⟨k2, h2⟩
              rw [if_pos hadm] at h2
              subst h2
              exact ⟨rfl, OutC.wrong HX.out ((HS.out.keep.trans (k1.mono (fun i _ hi => .inl hi))).trans (k2.mono (fun i _ hi => .inr hi)))⟩
            · have hE2 := hE.trans (if_neg hadm)
              have hn512 : (if op = 5 then ops' else ops' + 1) ≤ 512 := by
                have := HS.out.ho
                by_cases h : op = 5
                · rw [if_pos h]; exact this
                · by_cases h6 : 512 < (if op = 5 then ops' else ops' + 1)
                  · exact absurd ⟨h, .inl h6⟩ hadm
                  · omega
              have hblk : isBlock op = true → depth + 1 ≤ 16 := by
                intro hb'
                by_cases h : op = 5
                · subst h; simp [isBlock] at hb'
                · by_cases h6 : 16 ≤ depth
                  · exact absurd ⟨h, .inr ⟨hb', h6⟩⟩ hadm
                  · omega
              have HN5 := Lib.hid hn512
              have HBK := Lib.hid hblk
              have HADM := Lib.hid hadm
              clear hE hadm hblk hn512
              cases hop : pOper types f' depth op (if op = 5 then ops' else ops' + 1) l e (p' + 1) with
              | bad why a =>
                have HX := Lib.hid (hE2.trans (P.bind_bad hop))
                have HX3 := Lib.hid hop
                clear hE2 hop
                go_wp2_with fail
                refine (octet_any HC.out.ctx r e p' _ HS.out.cr.rr).mono ?_
                rintro en w1 h1
                obtain ⟨k1, v1, rfl, hv1, r1⟩ := h1.ok_elim HX1.out
                obtain rfl : v1 = .int .i64 op := hv1
                go_wp2_with fail
                refine (admit_any r k e (p' + 1) ops' depth op p' depth _ (HS.out.cr.go k1 r1) HS.out.ho rfl hd).mono ?_
                rintro en w2 ⟨k2, h2⟩
                rw [if_neg HADM.out] at h2
                obtain ⟨rfl, c2⟩ := h2
                have C2 := Lib.hid c2
                have K2 := Lib.hid ((HS.out.keep.trans (k1.mono (fun i _ hi => .inl hi))).trans (k2.mono (fun i _ hi => .inr hi)))
                clear c2 k1 k2 h1 r1
                go_wp2_with fail
                refine (operator_any HC.out f' r k e (p' + 1) _ depth op _ C2.out (HRUN.out f' (by have := HS.out.hff; omega)) HBK.out HN5.out (by have := HS.out.hf; omega) _ _ HP1.out rfl).mono ?_
                rintro en w3 h3
                obtain ⟨k3, rfl⟩ := h3.bad_elim HX3.out
                exact ⟨rfl, OutC.wrong HX.out (K2.out.trans k3)⟩
              | ok x q2 =>
                obtain ⟨i, n2⟩ := x
                have hle := oper_le HB.out (by omega) hel hop
                have hon := oper_ops HN5.out hop
                obtain ⟨op', n, m, t, b, es, hh, ts⟩ := i
                have HE3 := Lib.hid (hE2.trans (P.bind_ok hop))
                have HX3 := Lib.hid hop
                clear hE2 hop
                go_wp2_with fail
                refine (octet_any HC.out.ctx r e p' _ HS.out.cr.rr).mono ?_
                rintro en w1 h1
                obtain ⟨k1, v1, rfl, hv1, r1⟩ := h1.ok_elim HX1.out
                obtain rfl : v1 = .int .i64 op := hv1
                have o1 := Lib.hid (HS.out.own.keep k1 (fun i h1 h2 e => by omega))
                go_wp2_with fail
                refine (admit_any r k e (p' + 1) ops' depth op p' depth _ (HS.out.cr.go k1 r1) HS.out.ho rfl hd).mono ?_
                rintro en w2 ⟨k2, h2⟩
                rw [if_neg HADM.out] at h2
                obtain ⟨rfl, c2⟩ := h2
                have C2 := Lib.hid c2
                have K2 := Lib.hid ((HS.out.keep.trans (k1.mono (fun i _ hi => .inl hi))).trans (k2.mono (fun i _ hi => .inr hi)))
                have o2 := Lib.hid (o1.out.keep k2 (fun i h1 h2 e => by omega))
                clear c2 k1 k2 h1 r1 o1
                go_wp2_with fail
                refine (operator_any HC.out f' r k e (p' + 1) _ depth op _ C2.out (HRUN.out f' (by have := HS.out.hff; omega)) HBK.out HN5.out (by have := HS.out.hf; omega) _ _ HP1.out rfl).mono ?_
                rintro en w3 h3
                obtain ⟨k3, v3, rfl, ⟨a1', k1', a2', k2', a3', k3', a4', k4', a5', k5', rfl, i1, i2, i3, i4, i5⟩, c3⟩ := h3.ok_elim HX3.out
                have hh3 := VIn.holds (op := op') (n := n) (m := m) (hh := hh) i1 i2 i3 i4 i5
                have o3 := Lib.hid (o2.out.keep k3 (fun i h1 h2 e => by omega))
                have sz2 : w.heap.size ≤ w2.heap.size := K2.out.size
                have lies3 := Lib.hid (Gh.lies_keep (A' := fun b => w.heap.size ≤ b ∧ b < w3.heap.size ∧ (Value.slice vo acc.length vc).ownBlock ≠ some b) (w' := w3) (fun b ⟨hb1, hb2⟩ => ⟨⟨by omega, hb2, fun hx => by have := (o2.out.lt hx).2; omega⟩, rfl⟩) _ _ (Gh.lies_lt _ _ (wf_instr _) (Gh.lies_of _ _ hh3)))
                have C3 := Lib.hid c3
                have K3 := Lib.hid (K2.out.trans k3)
                have SZ3 := Lib.hid (show w.heap.size ≤ w3.heap.size from K3.out.size)
                have LN := Lib.hid (show acc.length + 1 ≤ 100000 by have := HS.out.hn; omega)
                clear c3 k3 h3 hh3 i1 i2 i3 i4 i5 sz2 o2
                go_wp2_with (at_builtin; refine wpList_append_instr _ _ rfl rfl rfl o3.out [.int .i64 op', .int .u64 n, .int .u64 m, .slice a1' t.ins.length k1', .slice a2' t.outs.length k2', .slice a3' b.length k3', .slice a4' es.length k4', .bool hh, .slice a5' ts.length k5'] (.mk op' n m t b es hh ts) rfl ?_ lies3.out rfl LN.out SZ3.out ?_; (intro u hu; simp at hu; rcases hu with rfl | rfl | rfl | rfl | rfl | rfl | rfl | rfl | rfl <;> rfl); intro g c' w' ho' hb')
                have HN := Lib.hid (show RS w0 ao cap l ta tc types r k e fuel depth false ops p w _ _ q2 n2 f' _ w' from ⟨C3.out.down hb' hr hk, K3.out.down hb', ho', HE3.out, by have := HS.out.hf; omega, by have := HS.out.hff; omega, hon, by rw [List.length_append]; have := HS.out.hn; simp; omega⟩)
                clear ho' hb'
                go_roundw
                case rel => exact ⟨_, _, _, _, _, HN.out⟩
                case measure => rw [HP.out, posOf_eq HN.out.cr.rr.blk]; omega
          · have e5 : (op == 5) = false := by simpa using h5'
            clear h5' h5
            have HP1 := Lib.hid (show (p' : Int) = ((p' + 1 : Nat) : Int) - 1 by omega)
            by_cases hadm : op ≠ 5 ∧ (512 < (if op = 5 then ops' else ops' + 1) ∨ (isBlock op = true ∧ 16 ≤ depth))
            · have HX := Lib.hid (show pRun2 types fuel depth parted ops [] l e p = .bad 7 p' from hE.trans (if_pos hadm))
              clear hE
              go_wp2_with fail
              refine (octet_any HC.out.ctx r e p' _ HS.out.cr.rr).mono ?_
              rintro en w1 h1
              obtain ⟨k1, v1, rfl, hv1, r1⟩ := h1.ok_elim HX1.out
              obtain rfl : v1 = .int .i64 op := hv1
              go_wp2_with fail
              refine (admit_any r k e (p' + 1) ops' depth op p' depth _ (HS.out.cr.go k1 r1) HS.out.ho rfl hd).mono ?_
              rintro en w2 ⟨k2, h2⟩
              rw [if_pos hadm] at h2
              subst h2
              exact ⟨rfl, OutC.wrong HX.out ((HS.out.keep.trans (k1.mono (fun i _ hi => .inl hi))).trans (k2.mono (fun i _ hi => .inr hi)))⟩
            · have hE2 := hE.trans (if_neg hadm)
              have hn512 : (if op = 5 then ops' else ops' + 1) ≤ 512 := by
                have := HS.out.ho
                by_cases h : op = 5
                · rw [if_pos h]; exact this
                · by_cases h6 : 512 < (if op = 5 then ops' else ops' + 1)
                  · exact absurd ⟨h, .inl h6⟩ hadm
                  · omega
              have hblk : isBlock op = true → depth + 1 ≤ 16 := by
                intro hb'
                by_cases h : op = 5
                · subst h; simp [isBlock] at hb'
                · by_cases h6 : 16 ≤ depth
                  · exact absurd ⟨h, .inr ⟨hb', h6⟩⟩ hadm
                  · omega
              have HN5 := Lib.hid hn512
              have HBK := Lib.hid hblk
              have HADM := Lib.hid hadm
              clear hE hadm hblk hn512
              cases hop : pOper types f' depth op (if op = 5 then ops' else ops' + 1) l e (p' + 1) with
              | bad why a =>
                have HX := Lib.hid (hE2.trans (P.bind_bad hop))
                have HX3 := Lib.hid hop
                clear hE2 hop
                go_wp2_with fail
                refine (octet_any HC.out.ctx r e p' _ HS.out.cr.rr).mono ?_
                rintro en w1 h1
                obtain ⟨k1, v1, rfl, hv1, r1⟩ := h1.ok_elim HX1.out
                obtain rfl : v1 = .int .i64 op := hv1
                go_wp2_with fail
                refine (admit_any r k e (p' + 1) ops' depth op p' depth _ (HS.out.cr.go k1 r1) HS.out.ho rfl hd).mono ?_
                rintro en w2 ⟨k2, h2⟩
                rw [if_neg HADM.out] at h2
                obtain ⟨rfl, c2⟩ := h2
                have C2 := Lib.hid c2
                have K2 := Lib.hid ((HS.out.keep.trans (k1.mono (fun i _ hi => .inl hi))).trans (k2.mono (fun i _ hi => .inr hi)))
                clear c2 k1 k2 h1 r1
                go_wp2_with fail
                refine (operator_any HC.out f' r k e (p' + 1) _ depth op _ C2.out (HRUN.out f' (by have := HS.out.hff; omega)) HBK.out HN5.out (by have := HS.out.hf; omega) _ _ HP1.out rfl).mono ?_
                rintro en w3 h3
                obtain ⟨k3, rfl⟩ := h3.bad_elim HX3.out
                exact ⟨rfl, OutC.wrong HX.out (K2.out.trans k3)⟩
              | ok x q2 =>
                obtain ⟨i, n2⟩ := x
                have hle := oper_le HB.out (by omega) hel hop
                have hon := oper_ops HN5.out hop
                obtain ⟨op', n, m, t, b, es, hh, ts⟩ := i
                have HE3 := Lib.hid (hE2.trans (P.bind_ok hop))
                have HX3 := Lib.hid hop
                clear hE2 hop
                go_wp2_with fail
                refine (octet_any HC.out.ctx r e p' _ HS.out.cr.rr).mono ?_
                rintro en w1 h1
                obtain ⟨k1, v1, rfl, hv1, r1⟩ := h1.ok_elim HX1.out
                obtain rfl : v1 = .int .i64 op := hv1
                have o1 := Lib.hid (HS.out.own.keep k1 (fun i h1 h2 e => by omega))
                go_wp2_with fail
                refine (admit_any r k e (p' + 1) ops' depth op p' depth _ (HS.out.cr.go k1 r1) HS.out.ho rfl hd).mono ?_
                rintro en w2 ⟨k2, h2⟩
                rw [if_neg HADM.out] at h2
                obtain ⟨rfl, c2⟩ := h2
                have C2 := Lib.hid c2
                have K2 := Lib.hid ((HS.out.keep.trans (k1.mono (fun i _ hi => .inl hi))).trans (k2.mono (fun i _ hi => .inr hi)))
                have o2 := Lib.hid (o1.out.keep k2 (fun i h1 h2 e => by omega))
                clear c2 k1 k2 h1 r1 o1
                go_wp2_with fail
                refine (operator_any HC.out f' r k e (p' + 1) _ depth op _ C2.out (HRUN.out f' (by have := HS.out.hff; omega)) HBK.out HN5.out (by have := HS.out.hf; omega) _ _ HP1.out rfl).mono ?_
                rintro en w3 h3
                obtain ⟨k3, v3, rfl, ⟨a1', k1', a2', k2', a3', k3', a4', k4', a5', k5', rfl, i1, i2, i3, i4, i5⟩, c3⟩ := h3.ok_elim HX3.out
                have hh3 := VIn.holds (op := op') (n := n) (m := m) (hh := hh) i1 i2 i3 i4 i5
                have o3 := Lib.hid (o2.out.keep k3 (fun i h1 h2 e => by omega))
                have sz2 : w.heap.size ≤ w2.heap.size := K2.out.size
                have lies3 := Lib.hid (Gh.lies_keep (A' := fun b => w.heap.size ≤ b ∧ b < w3.heap.size ∧ (Value.slice vo acc.length vc).ownBlock ≠ some b) (w' := w3) (fun b ⟨hb1, hb2⟩ => ⟨⟨by omega, hb2, fun hx => by have := (o2.out.lt hx).2; omega⟩, rfl⟩) _ _ (Gh.lies_lt _ _ (wf_instr _) (Gh.lies_of _ _ hh3)))
                have C3 := Lib.hid c3
                have K3 := Lib.hid (K2.out.trans k3)
                have SZ3 := Lib.hid (show w.heap.size ≤ w3.heap.size from K3.out.size)
                have LN := Lib.hid (show acc.length + 1 ≤ 100000 by have := HS.out.hn; omega)
                clear c3 k3 h3 hh3 i1 i2 i3 i4 i5 sz2 o2
                go_wp2_with (at_builtin; refine wpList_append_instr _ _ rfl rfl rfl o3.out [.int .i64 op', .int .u64 n, .int .u64 m, .slice a1' t.ins.length k1', .slice a2' t.outs.length k2', .slice a3' b.length k3', .slice a4' es.length k4', .bool hh, .slice a5' ts.length k5'] (.mk op' n m t b es hh ts) rfl ?_ lies3.out rfl LN.out SZ3.out ?_; (intro u hu; simp at hu; rcases hu with rfl | rfl | rfl | rfl | rfl | rfl | rfl | rfl | rfl <;> rfl); intro g c' w' ho' hb')
                have HN := Lib.hid (show RS w0 ao cap l ta tc types r k e fuel depth parted ops p w _ _ q2 n2 f' _ w' from ⟨C3.out.down hb' hr hk, K3.out.down hb', ho', HE3.out, by have := HS.out.hf; omega, by have := HS.out.hff; omega, hon, by rw [List.length_append]; have := HS.out.hn; simp; omega⟩)
                clear ho' hb'
                go_roundw
                case rel => exact ⟨_, _, _, _, _, HN.out⟩
                case measure => rw [HP.out, posOf_eq HN.out.cr.rr.blk]; omega
end
end Go.Proofs.YtgcmdnkmnghhaaaGreatDoor.wm

/- The contracts of body, and of a decoder in memory. -/
set_option linter.unusedVariables false
set_option linter.unusedSimpArgs false
namespace Go.Proofs.YtgcmdnkmnghhaaaGreatDoor.wm
open Go.RowKit Go.Proofs.YtgcmdnkmnghhaaaGreatDoor.lb
section
variable {w0 : World} {ao : Option Addr} {cap : Nat} {l : List Int} {ta : Option Addr} {tc : Nat} {types : List GSig}

theorem run_all (c : CC w0 ao cap l ta tc types) (r k e : Nat) : ∀ fuel, RunOK w0 ao cap l ta tc types r k e fuel := by
  intro fuel
  induction fuel using Nat.strongRecOn with
  | ind fuel ih => exact run_any c r k e fuel ih

theorem body_run {e p q : Nat} {r : (List GInstr × Bool) × Nat} (h : pRun2 types (e - p + 1) 0 false 0 [] l e p = .ok r q) : pBody types l e p = .ok r.1.1 q := by
  unfold pRun2 at h
  unfold pBody
  split at h
  · rename_i r' q' hr
    obtain ⟨rfl, rfl⟩ := Res.ok.inj h
    rw [hr]
  · cases h
theorem body_bad {e p : Nat} {w a : Int} (h : pRun2 types (e - p + 1) 0 false 0 [] l e p = .bad w a) : pBody types l e p = .bad w a := by
  unfold pRun2 at h
  unfold pBody
  split at h
  · cases h
  · rename_i w' a' hr
    obtain ⟨rfl, rfl⟩ := Res.bad.inj h
    rw [hr]

set_option maxRecDepth 100000 in
theorem body_any (c : CC w0 ao cap l ta tc types) (r e p : Nat) (w : World) (h : Rr w0 ao cap l r e p w) :
    Calls Tryz.prog 196 #[.pointer (some ⟨r, 0, none⟩), .slice ta types.length tc] w (Out (· = r) w0 ao cap l r e w (VR 9 gInstr w.heap.size) (pBody types l e p)) := by
  have hr := h.blk.lt
  have H1 : Cr w0 ao cap l ta tc types r w.heap.size e p 0 (w.alloc (.cells #[.pointer (some ⟨r, 0, none⟩), .slice ta types.length tc, .int .i64 0] 244)) :=
    ⟨h.below (made1 _ _), heap_alloc_new w _, h.low.size, by omega⟩
  have HR := run_all c r w.heap.size e (e - p + 1) 0 0 false 0 p _ rfl H1 (by decide) (by decide) (by omega)
  cases hx : pRun2 types (e - p + 1) 0 false 0 [] l e p with
  | bad why a =>
    have HX := Lib.hid (body_bad hx)
    have HX1 := Lib.hid hx
    have HR := Lib.hid HR
    clear hx h c H1
    go_enter Tryz.func196, Tryz.ntmps196
    go_wp2_with fail
    refine HR.out.mono ?_
    rintro en w1 h1
    obtain ⟨k1, rfl⟩ := h1.bad_elim HX1.out
    exact ⟨rfl, Out.wrong HX.out ((Keep.of (made1 w _)).new k1 (fun i h1 h2 => by omega))⟩
  | ok x q =>
    obtain ⟨⟨bs, el⟩, n⟩ := x
    have HX := Lib.hid (body_run hx)
    have HX1 := Lib.hid hx
    have HR := Lib.hid HR
    clear hx h c H1
    go_enter Tryz.func196, Tryz.ntmps196
    go_wp2_with fail
    refine HR.out.mono ?_
    rintro en w1 h1
    obtain ⟨k1, v1, rfl, ⟨ba, bc, rfl, hv1⟩, r1⟩ := h1.ok_elim HX1.out
    go_wp2
    go_ret
    exact Out.good HX.out ((Keep.of (made1 w _)).new k1 (fun i h1 h2 => by omega)) (Gh.is.keep hv1 (by simp) Same.rfl) r1.rr
end

/-- a list that lies in blocks that A allows -/
def LV {α : Type} (A : Nat → Prop) (k : Nat) (gh : α → Gh) (w : World) (v : Value) (xs : List α) : Prop := (Gh.row k (xs.map gh)).lies A w [v]
theorem LV.nil {α : Type} (A : Nat → Prop) (k : Nat) (gh : α → Gh) (w : World) : LV A k gh w (.slice none 0 0) [] := ⟨none, 0, rfl, Nat.le_refl _, fun _ => rfl, .inl rfl⟩
theorem LV.keep {α : Type} {A A' : Nat → Prop} {k : Nat} {gh : α → Gh} {w w' : World} {v : Value} {xs : List α} (h : LV A k gh w v xs) (hk : ∀ b, A b → A' b ∧ w'.heap[b]? = w.heap[b]?) : LV A' k gh w' v xs := Gh.lies_keep hk _ _ h
theorem LV.slice {α : Type} {A : Nat → Prop} {k : Nat} {gh : α → Gh} {w : World} {v : Value} {xs : List α} (h : LV A k gh w v xs) : ∃ ao cap, v = .slice ao xs.length cap := by
  obtain ⟨ao, cap, h1, _⟩ := h
  exact ⟨ao, cap, by simpa using h1⟩
theorem VR.lv {α : Type} {k : Nat} {gh : α → Gh} {B : Nat} {w : World} {v : Value} {xs : List α} (h : VR k gh B w v xs) (hk : 0 < k) (hw : ∀ a, (gh a).wf) : LV (fun b => B ≤ b ∧ b < w.heap.size) k gh w v xs :=
  Gh.lies_lt _ _ ⟨hk, wfs_map hw xs⟩ (Gh.lies_of _ _ h)
theorem LV.vr {α : Type} {A : Nat → Prop} {k : Nat} {gh : α → Gh} {B : Nat} {w : World} {v : Value} {xs : List α} (h : LV A k gh w v xs) (hA : ∀ b, A b → B ≤ b) : VR k gh B w v xs := Gh.lies_to hA _ _ h
theorem wf_import (x : GImport) : (gImport x).wf := ⟨trivial, trivial, trivial, trivial⟩
theorem wf_global (x : GGlobal) : (gGlobal x).wf := ⟨trivial, trivial, trivial, trivial⟩
theorem wf_export (x : GExport) : (gExport x).wf := ⟨trivial, trivial, trivial, trivial⟩
theorem wf_data (x : GData) : (gData x).wf := ⟨trivial, ⟨by decide, wfs_map (f := gB) (fun _ => trivial) _⟩, trivial⟩
theorem wf_func (x : GFunc) : (gFunc x).wf := ⟨trivial, wf_ints _, ⟨by decide, wfs_map wf_instr _⟩, trivial⟩

/-- the cells of functions, one behind the other -/
def AllF (A : Nat → Prop) (w : World) : List GFunc → List Value → Prop
  | [], xs => xs = []
  | f :: fs, xs => ∃ c1 c2 ys, xs = .int .i64 f.type :: c1 :: c2 :: ys ∧ (gIs f.locals).lies A w [c1] ∧ LV A 9 gInstr w c2 f.body ∧ AllF A w fs ys
theorem AllF.keep {A A' : Nat → Prop} {w w' : World} (h : ∀ b, A b → A' b ∧ w'.heap[b]? = w.heap[b]?) : ∀ {fs : List GFunc} {xs : List Value}, AllF A w fs xs → AllF A' w' fs xs
  | [], xs, k => k
  | f :: fs, xs, ⟨c1, c2, ys, h1, h2, h3, h4⟩ => ⟨c1, c2, ys, h1, Gh.lies_keep h _ _ h2, h3.keep h, AllF.keep h h4⟩
theorem AllF.length {A : Nat → Prop} {w : World} : ∀ {fs : List GFunc} {xs : List Value}, AllF A w fs xs → xs.length = fs.length * 3
  | [], xs, k => by have k : xs = [] := k; subst k; rfl
  | f :: fs, xs, ⟨c1, c2, ys, h1, h2, h3, h4⟩ => by subst h1; have := AllF.length h4; simp only [List.length_cons] at this ⊢; omega
end Go.Proofs.YtgcmdnkmnghhaaaGreatDoor.wm
