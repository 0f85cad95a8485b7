/- Put together by program: WMem WSect. -/
import Derived.Test.YtgcmdnkmnghhaaaGreatDoorZ11
/- The contracts of memory, and of fill at its section: printed by gen_mem.py. -/
set_option linter.unusedVariables false
set_option linter.unusedSimpArgs false
namespace Go.Proofs.YtgcmdnkmnghhaaaGreatDoor.wm
open Go.RowKit Go.Proofs.YtgcmdnkmnghhaaaGreatDoor.lb
section
variable {w0 : World} {ao : Option Addr} {cap : Nat} {l : List Int}
set_option maxRecDepth 100000 in
set_option maxHeartbeats 1000000 in
theorem memory_any (c : Ctx w0 ao cap l) (r dd x e p es b : Nat) (st : DSt) (tv iv fv gv ev dv : Value) (w : World) (h : DI w0 ao cap l r dd x e p st tv iv fv gv ev dv w) (hs : Rr w0 ao cap l x es b w) (hx : dd < x) :
    Calls Tryz.prog 162 #[.pointer (some ⟨dd, 0, none⟩), .pointer (some ⟨x, 0, none⟩)] w (FillPost w0 ao cap l r dd x e p es w (pFill st 5 l es b)) := by
  have hd := h.hd
  have hdl := h.blk.lt
  have hxl := hs.blk.lt
  have hx0 := hs.hB
  have HH := Lib.hid h
  have HC := Lib.hid c
  have HS := Lib.hid hs
  have hX : pFill st 5 l es b = ((pMemory (st.m.pages, st.m.most)).bind fun x => P.ret { st with m := { st.m with pages := x.1, most := x.2 } }) l es b := rfl
  cases hx1 : pMost 1 l es b with
  | bad why a =>
    have HX := Lib.hid (hX.trans (P.bind_bad (P.bind_bad hx1)))
    have HX1 := Lib.hid hx1
    clear hX hx1 h c hs
    go_enter Tryz.func162, Tryz.ntmps162
    go_wp2_with fail
    refine (most_any HC.out x es b _ HS.out 1).mono ?_
    rintro en w1 h1
    obtain ⟨k1, rfl⟩ := h1.bad_elim HX1.out
    exact ⟨rfl, FillPost.wrong HX.out (k1.lowD (by omega) (fun i hi => by omega))⟩
  | ok n q1 =>
    have HX1 := Lib.hid hx1
    by_cases hn : n = 0
    · have HX := Lib.hid (show pFill st 5 l es b = .ok { st with m := { st.m with pages := st.m.pages, most := st.m.most } } q1 from hX.trans ((P.bind_ok ((P.bind_ok hx1).trans ((P.ite_pos hn).trans rfl))).trans rfl))
      have hd0 : (n == 0) = true := by simpa using hn
      clear hX hx1 h c hs hn
      go_enter Tryz.func162, Tryz.ntmps162
      go_wp2_with fail
      refine (most_any HC.out x es b _ HS.out 1).mono ?_
      rintro en w1 h1
      obtain ⟨k1, v1, rfl, hv1, r1⟩ := h1.ok_elim HX1.out
      obtain rfl : v1 = .int .i64 n := hv1
      have D1 := Lib.hid (HH.out.sub k1 (by omega) hx0)
      have R1 := Lib.hid r1
      have B1 := Lib.hid (k1.lowD (B := dd) (by omega) (fun i hi => by omega))
      have Z1 := D1.out.blk.lt
      clear h1 k1 r1
      go_wp2
      (first | go_end0 | refine bodyPost_ret (results_none rfl _ _ _) rfl ?_)
      exact FillPost.good HX.out B1.out (st := { st with m := { st.m with pages := st.m.pages, most := st.m.most } }) D1.out R1.out
    · have hd0 : (n == 0) = false := by simpa using hn
      cases hx2 : pOne [0, 1] [] l es q1 with
      | bad why a =>
        have HX := Lib.hid (hX.trans (P.bind_bad ((P.bind_ok hx1).trans ((P.ite_neg hn).trans (P.bind_bad hx2)))))
        have HX2 := Lib.hid hx2
        clear hX hx1 hx2 h c hs hn
        go_enter Tryz.func162, Tryz.ntmps162
        go_wp2_with fail
        refine (most_any HC.out x es b _ HS.out 1).mono ?_
        rintro en w1 h1
        obtain ⟨k1, v1, rfl, hv1, r1⟩ := h1.ok_elim HX1.out
        obtain rfl : v1 = .int .i64 n := hv1
        have D1 := Lib.hid (HH.out.sub k1 (by omega) hx0)
        have R1 := Lib.hid r1
        have B1 := Lib.hid (k1.lowD (B := dd) (by omega) (fun i hi => by omega))
        have Z1 := D1.out.blk.lt
        clear h1 k1 r1
        go_wp2_with fail
        refine (one1 HC.out x es q1 _ R1.out [0, 1] #[.int .i64 0, .int .i64 1] rfl 2 rfl (by decide)).mono ?_
        rintro en w2 h2
        obtain ⟨k2, rfl⟩ := h2.bad_elim HX2.out
        exact ⟨rfl, FillPost.wrong HX.out (B1.out.trans (k2.lowD (by omega) (fun i hi => by omega)))⟩
      | ok told q2 =>
        have HX2 := Lib.hid hx2
        cases hx3 : pMost 16 l es q2 with
        | bad why a =>
          have HX := Lib.hid (hX.trans (P.bind_bad ((P.bind_ok hx1).trans ((P.ite_neg hn).trans ((P.bind_ok hx2).trans (P.bind_bad hx3))))))
          have HX3 := Lib.hid hx3
          clear hX hx1 hx2 hx3 h c hs hn
          go_enter Tryz.func162, Tryz.ntmps162
          go_wp2_with fail
          refine (most_any HC.out x es b _ HS.out 1).mono ?_
          rintro en w1 h1
          obtain ⟨k1, v1, rfl, hv1, r1⟩ := h1.ok_elim HX1.out
          obtain rfl : v1 = .int .i64 n := hv1
          have D1 := Lib.hid (HH.out.sub k1 (by omega) hx0)
          have R1 := Lib.hid r1
          have B1 := Lib.hid (k1.lowD (B := dd) (by omega) (fun i hi => by omega))
          have Z1 := D1.out.blk.lt
          clear h1 k1 r1
          go_wp2_with fail
          refine (one1 HC.out x es q1 _ R1.out [0, 1] #[.int .i64 0, .int .i64 1] rfl 2 rfl (by decide)).mono ?_
          rintro en w2 h2
          obtain ⟨k2, v2, rfl, hv2, r2⟩ := h2.ok_elim HX2.out
          obtain rfl : v2 = .int .i64 told := hv2
          have D2 := Lib.hid (D1.out.sub k2 (by omega) hx0)
          have R2 := Lib.hid r2
          have B2 := Lib.hid (B1.out.trans (k2.lowD (B := dd) (by omega) (fun i hi => by omega)))
          have Z2 := D2.out.blk.lt
          clear h2 k2 r2
          go_wp2_with fail
          refine (most_any HC.out x es q2 _ R2.out 16).mono ?_
          rintro en w3 h3
          obtain ⟨k3, rfl⟩ := h3.bad_elim HX3.out
          exact ⟨rfl, FillPost.wrong HX.out (B2.out.trans (k3.lowD (by omega) (fun i hi => by omega)))⟩
        | ok pg q3 =>
          have HX3 := Lib.hid hx3
          by_cases ht : told = 0
          · have HX := Lib.hid (show pFill st 5 l es b = .ok { st with m := { st.m with pages := pg, most := 16 } } q3 from hX.trans ((P.bind_ok ((P.bind_ok hx1).trans ((P.ite_neg hn).trans ((P.bind_ok hx2).trans ((P.bind_ok hx3).trans ((P.ite_pos ht).trans rfl)))))).trans rfl))
            have ht0 : (told == 0) = true := by simpa using ht
            clear hX hx1 hx2 hx3 h c hs hn ht
            go_enter Tryz.func162, Tryz.ntmps162
            go_wp2_with fail
            refine (most_any HC.out x es b _ HS.out 1).mono ?_
            rintro en w1 h1
            obtain ⟨k1, v1, rfl, hv1, r1⟩ := h1.ok_elim HX1.out
            obtain rfl : v1 = .int .i64 n := hv1
            have D1 := Lib.hid (HH.out.sub k1 (by omega) hx0)
            have R1 := Lib.hid r1
            have B1 := Lib.hid (k1.lowD (B := dd) (by omega) (fun i hi => by omega))
            have Z1 := D1.out.blk.lt
            clear h1 k1 r1
            go_wp2_with fail
            refine (one1 HC.out x es q1 _ R1.out [0, 1] #[.int .i64 0, .int .i64 1] rfl 2 rfl (by decide)).mono ?_
            rintro en w2 h2
            obtain ⟨k2, v2, rfl, hv2, r2⟩ := h2.ok_elim HX2.out
            obtain rfl : v2 = .int .i64 told := hv2
            have D2 := Lib.hid (D1.out.sub k2 (by omega) hx0)
            have R2 := Lib.hid r2
            have B2 := Lib.hid (B1.out.trans (k2.lowD (B := dd) (by omega) (fun i hi => by omega)))
            have Z2 := D2.out.blk.lt
            clear h2 k2 r2
            go_wp2_with fail
            refine (most_any HC.out x es q2 _ R2.out 16).mono ?_
            rintro en w3 h3
            obtain ⟨k3, v3, rfl, hv3, r3⟩ := h3.ok_elim HX3.out
            obtain rfl : v3 = .int .i64 pg := hv3
            have d3 := D2.out.sub k3 (by omega) hx0
            have c4 := d3.blk.c 4 rfl
            have c5 := d3.blk.c 5 rfl
            have f4 := d3.blk.f 4
            have f5 := d3.blk.f 5
            have d4 := d3.field 4 (.int .i64 pg) { st with m := { st.m with pages := pg } } tv iv gv ev dv rfl d3.tys d3.imps d3.globs d3.exps d3.dats rfl ⟨HH.out.few.1, HH.out.few.2.1⟩ HH.out.lens
            have D4 := Lib.hid (d4.field 5 (.int .i64 16) { st with m := { st.m with pages := pg, most := 16 } } tv iv gv ev dv rfl d4.tys d4.imps d4.globs d4.exps d4.dats rfl ⟨HH.out.few.1, HH.out.few.2.1⟩ HH.out.lens)
            have kS : Keep (fun i => i = dd) w3 ((w3.setCell ⟨dd, 4, none⟩ (.int .i64 pg)).setCell ⟨dd, 5, none⟩ (.int .i64 16)) := ((Keep.refl (fun i => i = dd) w3).set (p := ⟨dd, 4, none⟩) (.inl rfl) _).set (p := ⟨dd, 5, none⟩) (.inl rfl) _
            have R4 := Lib.hid (r3.keep kS (by omega) (fun i hi => by have := HH.out.rr.hB; omega))
            have B4 := Lib.hid ((B2.out.trans (k3.lowD (B := dd) (by omega) (fun i hi => by omega))).trans (kS.lowD (by have := d3.blk.lt; omega) (fun i hi => by omega)))
            have Z3 := d3.blk.lt
            clear h3 k3 r3 d3 d4 kS
            go_wp2
            (first | go_end0 | refine bodyPost_ret (results_none rfl _ _ _) rfl ?_)
            exact FillPost.good HX.out B4.out D4.out R4.out
          · have ht0 : (told == 0) = false := by simpa using ht
            cases hx4 : pMost 16 l es q3 with
            | bad why a =>
              have HX := Lib.hid (hX.trans (P.bind_bad ((P.bind_ok hx1).trans ((P.ite_neg hn).trans ((P.bind_ok hx2).trans ((P.bind_ok hx3).trans ((P.ite_neg ht).trans (P.bind_bad hx4))))))))
              have HX4 := Lib.hid hx4
              clear hX hx1 hx2 hx3 hx4 h c hs hn ht
              go_enter Tryz.func162, Tryz.ntmps162
              go_wp2_with fail
              refine (most_any HC.out x es b _ HS.out 1).mono ?_
              rintro en w1 h1
              obtain ⟨k1, v1, rfl, hv1, r1⟩ := h1.ok_elim HX1.out
              obtain rfl : v1 = .int .i64 n := hv1
              have D1 := Lib.hid (HH.out.sub k1 (by omega) hx0)
              have R1 := Lib.hid r1
              have B1 := Lib.hid (k1.lowD (B := dd) (by omega) (fun i hi => by omega))
              have Z1 := D1.out.blk.lt
              clear h1 k1 r1
              go_wp2_with fail
              refine (one1 HC.out x es q1 _ R1.out [0, 1] #[.int .i64 0, .int .i64 1] rfl 2 rfl (by decide)).mono ?_
              rintro en w2 h2
              obtain ⟨k2, v2, rfl, hv2, r2⟩ := h2.ok_elim HX2.out
              obtain rfl : v2 = .int .i64 told := hv2
              have D2 := Lib.hid (D1.out.sub k2 (by omega) hx0)
              have R2 := Lib.hid r2
              have B2 := Lib.hid (B1.out.trans (k2.lowD (B := dd) (by omega) (fun i hi => by omega)))
              have Z2 := D2.out.blk.lt
              clear h2 k2 r2
              go_wp2_with fail
              refine (most_any HC.out x es q2 _ R2.out 16).mono ?_
              rintro en w3 h3
              obtain ⟨k3, v3, rfl, hv3, r3⟩ := h3.ok_elim HX3.out
              obtain rfl : v3 = .int .i64 pg := hv3
              have d3 := D2.out.sub k3 (by omega) hx0
              have c4 := d3.blk.c 4 rfl
              have c5 := d3.blk.c 5 rfl
              have f4 := d3.blk.f 4
              have f5 := d3.blk.f 5
              have d4 := d3.field 4 (.int .i64 pg) { st with m := { st.m with pages := pg } } tv iv gv ev dv rfl d3.tys d3.imps d3.globs d3.exps d3.dats rfl ⟨HH.out.few.1, HH.out.few.2.1⟩ HH.out.lens
              have D4 := Lib.hid (d4.field 5 (.int .i64 16) { st with m := { st.m with pages := pg, most := 16 } } tv iv gv ev dv rfl d4.tys d4.imps d4.globs d4.exps d4.dats rfl ⟨HH.out.few.1, HH.out.few.2.1⟩ HH.out.lens)
              have kS : Keep (fun i => i = dd) w3 ((w3.setCell ⟨dd, 4, none⟩ (.int .i64 pg)).setCell ⟨dd, 5, none⟩ (.int .i64 16)) := ((Keep.refl (fun i => i = dd) w3).set (p := ⟨dd, 4, none⟩) (.inl rfl) _).set (p := ⟨dd, 5, none⟩) (.inl rfl) _
              have R4 := Lib.hid (r3.keep kS (by omega) (fun i hi => by have := HH.out.rr.hB; omega))
              have B4 := Lib.hid ((B2.out.trans (k3.lowD (B := dd) (by omega) (fun i hi => by omega))).trans (kS.lowD (by have := d3.blk.lt; omega) (fun i hi => by omega)))
              have Z3 := d3.blk.lt
              clear h3 k3 r3 d3 d4 kS
              have Z4 := D4.out.blk.lt
              have p1 := R4.out.blk.c1
              go_wp2_with fail
              refine (most_any HC.out x es q3 _ R4.out 16).mono ?_
              rintro en w5 h5
              obtain ⟨k5, rfl⟩ := h5.bad_elim HX4.out
              exact ⟨rfl, FillPost.wrong HX.out (B4.out.trans (k5.lowD (by omega) (fun i hi => by omega)))⟩
            | ok mo q4 =>
              have HX4 := Lib.hid hx4
              by_cases hm : mo < pg
              · have HX := Lib.hid (show pFill st 5 l es b = .bad 6 q3 from hX.trans (P.bind_bad ((P.bind_ok hx1).trans ((P.ite_neg hn).trans ((P.bind_ok hx2).trans ((P.bind_ok hx3).trans ((P.ite_neg ht).trans ((P.bind_ok hx4).trans ((P.ite_pos hm).trans rfl)))))))))
                clear hX hx1 hx2 hx3 hx4 h c hs hn ht
                go_enter Tryz.func162, Tryz.ntmps162
                go_wp2_with fail
                refine (most_any HC.out x es b _ HS.out 1).mono ?_
                rintro en w1 h1
                obtain ⟨k1, v1, rfl, hv1, r1⟩ := h1.ok_elim HX1.out
                obtain rfl : v1 = .int .i64 n := hv1
                have D1 := Lib.hid (HH.out.sub k1 (by omega) hx0)
                have R1 := Lib.hid r1
                have B1 := Lib.hid (k1.lowD (B := dd) (by omega) (fun i hi => by omega))
                have Z1 := D1.out.blk.lt
                clear h1 k1 r1
                go_wp2_with fail
                refine (one1 HC.out x es q1 _ R1.out [0, 1] #[.int .i64 0, .int .i64 1] rfl 2 rfl (by decide)).mono ?_
                rintro en w2 h2
                obtain ⟨k2, v2, rfl, hv2, r2⟩ := h2.ok_elim HX2.out
                obtain rfl : v2 = .int .i64 told := hv2
                have D2 := Lib.hid (D1.out.sub k2 (by omega) hx0)
                have R2 := Lib.hid r2
                have B2 := Lib.hid (B1.out.trans (k2.lowD (B := dd) (by omega) (fun i hi => by omega)))
                have Z2 := D2.out.blk.lt
                clear h2 k2 r2
                go_wp2_with fail
                refine (most_any HC.out x es q2 _ R2.out 16).mono ?_
                rintro en w3 h3
                obtain ⟨k3, v3, rfl, hv3, r3⟩ := h3.ok_elim HX3.out
                obtain rfl : v3 = .int .i64 pg := hv3
                have d3 := D2.out.sub k3 (by omega) hx0
                have c4 := d3.blk.c 4 rfl
                have c5 := d3.blk.c 5 rfl
                have f4 := d3.blk.f 4
                have f5 := d3.blk.f 5
                have d4 := d3.field 4 (.int .i64 pg) { st with m := { st.m with pages := pg } } tv iv gv ev dv rfl d3.tys d3.imps d3.globs d3.exps d3.dats rfl ⟨HH.out.few.1, HH.out.few.2.1⟩ HH.out.lens
                have D4 := Lib.hid (d4.field 5 (.int .i64 16) { st with m := { st.m with pages := pg, most := 16 } } tv iv gv ev dv rfl d4.tys d4.imps d4.globs d4.exps d4.dats rfl ⟨HH.out.few.1, HH.out.few.2.1⟩ HH.out.lens)
                have kS : Keep (fun i => i = dd) w3 ((w3.setCell ⟨dd, 4, none⟩ (.int .i64 pg)).setCell ⟨dd, 5, none⟩ (.int .i64 16)) := ((Keep.refl (fun i => i = dd) w3).set (p := ⟨dd, 4, none⟩) (.inl rfl) _).set (p := ⟨dd, 5, none⟩) (.inl rfl) _
                have R4 := Lib.hid (r3.keep kS (by omega) (fun i hi => by have := HH.out.rr.hB; omega))
                have B4 := Lib.hid ((B2.out.trans (k3.lowD (B := dd) (by omega) (fun i hi => by omega))).trans (kS.lowD (by have := d3.blk.lt; omega) (fun i hi => by omega)))
                have Z3 := d3.blk.lt
                clear h3 k3 r3 d3 d4 kS
                have Z4 := D4.out.blk.lt
                have p1 := R4.out.blk.c1
                go_wp2_with fail
                refine (most_any HC.out x es q3 _ R4.out 16).mono ?_
                rintro en w5 h5
                obtain ⟨k5, v5, rfl, hv5, r5⟩ := h5.ok_elim HX4.out
                obtain rfl : v5 = .int .i64 mo := hv5
                have d5 := D4.out.sub k5 (by omega) hx0
                have c5 := d5.blk.c 5 rfl
                have f5 := d5.blk.f 5
                have d6 := d5.field 5 (.int .i64 mo) { st with m := { st.m with pages := pg, most := mo } } tv iv gv ev dv rfl d5.tys d5.imps d5.globs d5.exps d5.dats rfl ⟨HH.out.few.1, HH.out.few.2.1⟩ HH.out.lens
                have kS : Keep (fun i => i = dd) w5 (w5.setCell ⟨dd, 5, none⟩ (.int .i64 mo)) := (Keep.refl (fun i => i = dd) w5).set (p := ⟨dd, 5, none⟩) (.inl rfl) _
                have R6 := Lib.hid (r5.keep kS (by omega) (fun i hi => by have := HH.out.rr.hB; omega))
                have B6 := Lib.hid ((B4.out.trans (k5.lowD (B := dd) (by omega) (fun i hi => by omega))).trans (kS.lowD (by have := d5.blk.lt; omega) (fun i hi => by omega)))
                have D6 := Lib.hid d6
                clear h5 k5 r5 d5 kS
                go_wp2_with fail
                generalize w5.setCell ⟨dd, 5, none⟩ (.int .i64 mo) = w6 at R6 B6 D6 d6 ⊢
                have e4 := d6.blk.c 4 rfl
                have e5 := d6.blk.c 5 rfl
                clear d6 c5 f5
                go_quiet (fail)
                go_wp2_with fail
                refine (fail_any _ _ _).mono ?_
                rintro en w7 ⟨rfl, rfl⟩
                exact ⟨rfl, FillPost.wrong HX.out (B6.out.trans (belowN _ _))⟩
              · have hH : (pHere fun a => (pMost 16).bind fun most => if most < pg then pFail 6 a else P.ret (pg, most)) l es q3 = .ok (pg, mo) q4 := (P.bind_ok hx4).trans ((P.ite_neg hm).trans rfl)
                have HX := Lib.hid (show pFill st 5 l es b = .ok { st with m := { st.m with pages := pg, most := mo } } q4 from hX.trans ((P.bind_ok (a := (pg, mo)) (p' := q4) ((P.bind_ok hx1).trans ((P.ite_neg hn).trans ((P.bind_ok hx2).trans ((P.bind_ok hx3).trans ((P.ite_neg ht).trans hH)))))).trans rfl))
                have hm0 : decide (mo < pg) = false := by simpa using hm
                clear hH hX hx1 hx2 hx3 hx4 h c hs hn ht
                go_enter Tryz.func162, Tryz.ntmps162
                go_wp2_with fail
                refine (most_any HC.out x es b _ HS.out 1).mono ?_
                rintro en w1 h1
                obtain ⟨k1, v1, rfl, hv1, r1⟩ := h1.ok_elim HX1.out
                obtain rfl : v1 = .int .i64 n := hv1
                have D1 := Lib.hid (HH.out.sub k1 (by omega) hx0)
                have R1 := Lib.hid r1
                have B1 := Lib.hid (k1.lowD (B := dd) (by omega) (fun i hi => by omega))
                have Z1 := D1.out.blk.lt
                clear h1 k1 r1
                go_wp2_with fail
                refine (one1 HC.out x es q1 _ R1.out [0, 1] #[.int .i64 0, .int .i64 1] rfl 2 rfl (by decide)).mono ?_
                rintro en w2 h2
                obtain ⟨k2, v2, rfl, hv2, r2⟩ := h2.ok_elim HX2.out
                obtain rfl : v2 = .int .i64 told := hv2
                have D2 := Lib.hid (D1.out.sub k2 (by omega) hx0)
                have R2 := Lib.hid r2
                have B2 := Lib.hid (B1.out.trans (k2.lowD (B := dd) (by omega) (fun i hi => by omega)))
                have Z2 := D2.out.blk.lt
                clear h2 k2 r2
                go_wp2_with fail
                refine (most_any HC.out x es q2 _ R2.out 16).mono ?_
                rintro en w3 h3
                obtain ⟨k3, v3, rfl, hv3, r3⟩ := h3.ok_elim HX3.out
                obtain rfl : v3 = .int .i64 pg := hv3
                have d3 := D2.out.sub k3 (by omega) hx0
                have c4 := d3.blk.c 4 rfl
                have c5 := d3.blk.c 5 rfl
                have f4 := d3.blk.f 4
                have f5 := d3.blk.f 5
                have d4 := d3.field 4 (.int .i64 pg) { st with m := { st.m with pages := pg } } tv iv gv ev dv rfl d3.tys d3.imps d3.globs d3.exps d3.dats rfl ⟨HH.out.few.1, HH.out.few.2.1⟩ HH.out.lens
                have D4 := Lib.hid (d4.field 5 (.int .i64 16) { st with m := { st.m with pages := pg, most := 16 } } tv iv gv ev dv rfl d4.tys d4.imps d4.globs d4.exps d4.dats rfl ⟨HH.out.few.1, HH.out.few.2.1⟩ HH.out.lens)
                have kS : Keep (fun i => i = dd) w3 ((w3.setCell ⟨dd, 4, none⟩ (.int .i64 pg)).setCell ⟨dd, 5, none⟩ (.int .i64 16)) := ((Keep.refl (fun i => i = dd) w3).set (p := ⟨dd, 4, none⟩) (.inl rfl) _).set (p := ⟨dd, 5, none⟩) (.inl rfl) _
                have R4 := Lib.hid (r3.keep kS (by omega) (fun i hi => by have := HH.out.rr.hB; omega))
                have B4 := Lib.hid ((B2.out.trans (k3.lowD (B := dd) (by omega) (fun i hi => by omega))).trans (kS.lowD (by have := d3.blk.lt; omega) (fun i hi => by omega)))
                have Z3 := d3.blk.lt
                clear h3 k3 r3 d3 d4 kS
                have Z4 := D4.out.blk.lt
                have p1 := R4.out.blk.c1
                go_wp2_with fail
                refine (most_any HC.out x es q3 _ R4.out 16).mono ?_
                rintro en w5 h5
                obtain ⟨k5, v5, rfl, hv5, r5⟩ := h5.ok_elim HX4.out
                obtain rfl : v5 = .int .i64 mo := hv5
                have d5 := D4.out.sub k5 (by omega) hx0
                have c5 := d5.blk.c 5 rfl
                have f5 := d5.blk.f 5
                have d6 := d5.field 5 (.int .i64 mo) { st with m := { st.m with pages := pg, most := mo } } tv iv gv ev dv rfl d5.tys d5.imps d5.globs d5.exps d5.dats rfl ⟨HH.out.few.1, HH.out.few.2.1⟩ HH.out.lens
                have kS : Keep (fun i => i = dd) w5 (w5.setCell ⟨dd, 5, none⟩ (.int .i64 mo)) := (Keep.refl (fun i => i = dd) w5).set (p := ⟨dd, 5, none⟩) (.inl rfl) _
                have R6 := Lib.hid (r5.keep kS (by omega) (fun i hi => by have := HH.out.rr.hB; omega))
                have B6 := Lib.hid ((B4.out.trans (k5.lowD (B := dd) (by omega) (fun i hi => by omega))).trans (kS.lowD (by have := d5.blk.lt; omega) (fun i hi => by omega)))
                have D6 := Lib.hid d6
                clear h5 k5 r5 d5 kS
                go_wp2_with fail
                generalize w5.setCell ⟨dd, 5, none⟩ (.int .i64 mo) = w6 at R6 B6 D6 d6 ⊢
                have e4 := d6.blk.c 4 rfl
                have e5 := d6.blk.c 5 rfl
                clear d6 c5 f5
                go_quiet (fail)
                go_wp2
                (first | go_end0 | refine bodyPost_ret (results_none rfl _ _ _) rfl ?_)
                exact FillPost.good HX.out (B6.out.trans (belowN _ nq)) (D6.out.below (belowN _ nq)) (R6.out.below (belowN _ nq))

theorem FillPost.lift {r dd x e p es : Nat} {w w' : World} {res : Res DSt} {en : Ending} (h : FillPost w0 ao cap l r dd x e p es w res en w') : FillPost w0 ao cap l r dd x e p es w res en w' := h

set_option maxRecDepth 100000 in
theorem fill_5 (c : Ctx w0 ao cap l) (r dd x e p es b : Nat) (st : DSt) (tv iv fv gv ev dv : Value) (w : World) (h : DI w0 ao cap l r dd x e p st tv iv fv gv ev dv w) (hs : Rr w0 ao cap l x es b w) (hx : dd < x) :
    Calls Tryz.prog 108 #[.pointer (some ⟨dd, 0, none⟩), .int .i64 5, .pointer (some ⟨x, 0, none⟩)] w (FillPost w0 ao cap l r dd x e p es w (pFill st 5 l es b)) := by
  have HM := memory_any c r dd x e p es b st tv iv fv gv ev dv w h hs hx
  cases hm : pFill st 5 l es b with
  | bad why a =>
    rw [hm] at HM
    have HM := Lib.hid HM
    clear hm h c hs
    go_enter Tryz.func108, Tryz.ntmps108
    go_wp2_with fail
    refine HM.out.mono ?_
    rintro en w1 ⟨b1, rfl⟩
    exact ⟨rfl, b1, rfl⟩
  | ok st' q =>
    rw [hm] at HM
    have HM := Lib.hid HM
    clear hm h c hs
    go_enter Tryz.func108, Tryz.ntmps108
    go_wp2_with fail
    refine HM.out.mono ?_
    rintro en w1 ⟨b1, rfl, h1⟩
    go_wp2
    (first | go_end0 | refine bodyPost_ret (results_none rfl _ _ _) rfl ?_)
    exact ⟨b1, rfl, h1⟩
end
end Go.Proofs.YtgcmdnkmnghhaaaGreatDoor.wm

/- fill at every section, and section: printed by gen_sect.py. -/
set_option linter.unusedVariables false
set_option linter.unusedSimpArgs false
namespace Go.Proofs.YtgcmdnkmnghhaaaGreatDoor.wm
open Go.RowKit Go.Proofs.YtgcmdnkmnghhaaaGreatDoor.lb
section
variable {w0 : World} {ao : Option Addr} {cap : Nat} {l : List Int}
set_option maxRecDepth 100000 in
theorem fill_10 (c : Ctx w0 ao cap l) (hruns : nm.Runs w0) (r dd x e p es b : Nat) (st : DSt) (tv iv fv gv ev dv : Value) (w : World) (h : DI w0 ao cap l r dd x e p st tv iv fv gv ev dv w) (hs : Rr w0 ao cap l x es b w) (hx : dd < x) :
    Calls Tryz.prog 108 #[.pointer (some ⟨dd, 0, none⟩), .int .i64 10, .pointer (some ⟨x, 0, none⟩)] w (FillPost w0 ao cap l r dd x e p es w (pFill st 10 l es b)) := by
  have HM := code_any c hruns r dd x e p es b st tv iv fv gv ev dv w h hs hx
  cases hm : pFill st 10 l es b with
  | bad why a =>
    rw [hm] at HM
    have HM := Lib.hid HM
    clear hm h c hs hruns
    go_enter Tryz.func108, Tryz.ntmps108
    go_wp2_with fail
    refine HM.out.mono ?_
    rintro en w1 ⟨b1, rfl⟩
    exact ⟨rfl, b1, rfl⟩
  | ok st' q =>
    rw [hm] at HM
    have HM := Lib.hid HM
    clear hm h c hs hruns
    go_enter Tryz.func108, Tryz.ntmps108
    go_wp2_with fail
    refine HM.out.mono ?_
    rintro en w1 ⟨b1, rfl, h1⟩
    go_wp2
    (first | go_end0 | refine bodyPost_ret (results_none rfl _ _ _) rfl ?_)
    exact ⟨b1, rfl, h1⟩

theorem fill_any (c : Ctx w0 ao cap l) (hruns : nm.Runs w0) (r dd x e p es b : Nat) (st : DSt) (sec : Int) (h1 : 0 < sec) (h11 : sec ≤ 11) (h4 : sec ≠ 4) (h9 : sec ≠ 9) (tv iv fv gv ev dv : Value) (w : World) (h : DI w0 ao cap l r dd x e p st tv iv fv gv ev dv w) (hs : Rr w0 ao cap l x es b w) (hx : dd < x) :
    Calls Tryz.prog 108 #[.pointer (some ⟨dd, 0, none⟩), .int .i64 sec, .pointer (some ⟨x, 0, none⟩)] w (FillPost w0 ao cap l r dd x e p es w (pFill st sec l es b)) := by
  have hc : sec = 1 ∨ sec = 2 ∨ sec = 3 ∨ sec = 5 ∨ sec = 6 ∨ sec = 7 ∨ sec = 8 ∨ sec = 10 ∨ sec = 11 := by omega
  rcases hc with rfl | rfl | rfl | rfl | rfl | rfl | rfl | rfl | rfl
  · exact fill_1 c r dd x e p es b st tv iv fv gv ev dv w h hs hx
  · exact fill_2 c r dd x e p es b st tv iv fv gv ev dv w h hs hx
  · exact fill_3 c r dd x e p es b st tv iv fv gv ev dv w h hs hx
  · exact fill_5 c r dd x e p es b st tv iv fv gv ev dv w h hs hx
  · exact fill_6 c r dd x e p es b st tv iv fv gv ev dv w h hs hx
  · exact fill_7 c r dd x e p es b st tv iv fv gv ev dv w h hs hx
  · exact fill_8 c r dd x e p es b st tv iv fv gv ev dv w h hs hx
  · exact fill_10 c hruns r dd x e p es b st tv iv fv gv ev dv w h hs hx
  · exact fill_11 c r dd x e p es b st tv iv fv gv ev dv w h hs hx

/-- what section leaves -/
def SectPost (w0 : World) (ao : Option Addr) (cap : Nat) (l : List Int) (r dd e : Nat) (w : World) (res : Res DSt) (en : Ending) (w' : World) : Prop :=
  Below r w w' ∧ match res with
  | .bad why a => en = thrown why a
  | .ok st q => en = .returned (.tuple #[]) ∧ ∃ x tv iv fv gv ev dv, DI w0 ao cap l r dd x e q st tv iv fv gv ev dv w'
theorem SectPost.wrong {r dd e : Nat} {w w' : World} {res : Res DSt} {why a : Int} (h : res = .bad why a) (hb : Below r w w') : SectPost w0 ao cap l r dd e w res (thrown why a) w' := by subst h; exact ⟨hb, rfl⟩
theorem SectPost.good {r dd x e q : Nat} {w w' : World} {res : Res DSt} {st : DSt} {tv iv fv gv ev dv : Value} (h : res = .ok st q) (hb : Below r w w') (hd : DI w0 ao cap l r dd x e q st tv iv fv gv ev dv w') : SectPost w0 ao cap l r dd e w res (.returned (.tuple #[])) w' := by subst h; exact ⟨hb, rfl, _, _, _, _, _, _, _, hd⟩
theorem Keep.lowR {r : Nat} {a b : World} (h : Keep (· = r) a b) (hr : r < a.heap.size) : Below r a b := h.lowD (by omega) (fun i hi => by omega)

theorem skip0_bad {st : DSt} {e p : Nat} {w a : Int} (h : pPart0 l e p = .bad w a) : (pU.bind fun size => (pSkip size).bind fun _ => P.ret st) l e p = .bad w a := by
  cases hu : pU l e p with
  | bad w' a' =>
    rw [show pPart0 l e p = .bad w' a' from P.bind_bad hu] at h
    obtain ⟨rfl, rfl⟩ := Res.bad.inj h
    exact P.bind_bad hu
  | ok s b =>
    rw [part0_u hu] at h
    rw [P.bind_ok hu]
    split at h
    · rename_i hs
      obtain ⟨rfl, rfl⟩ := Res.bad.inj h
      exact P.bind_bad (by unfold pSkip; rw [if_pos hs])
    · cases h
theorem skip0_ok {st : DSt} {e p b q : Nat} (h : pPart0 l e p = .ok b q) : (pU.bind fun size => (pSkip size).bind fun _ => P.ret st) l e p = .ok st q := by
  cases hu : pU l e p with
  | bad w' a' => rw [show pPart0 l e p = .bad w' a' from P.bind_bad hu] at h; cases h
  | ok s b' =>
    rw [part0_u hu] at h
    rw [P.bind_ok hu]
    split at h
    · cases h
    · rename_i hs
      simp only [Res.ok.injEq] at h
      obtain ⟨rfl, rfl⟩ := h
      exact (P.bind_ok (a := b' + s) (p' := b' + s.toNat) (by unfold pSkip; rw [if_neg hs])).trans rfl

set_option maxRecDepth 100000 in
set_option maxHeartbeats 2000000 in
theorem section_any (c : Ctx w0 ao cap l) (hruns : nm.Runs w0) (r dd x e p : Nat) (st : DSt) (tv iv fv gv ev dv : Value) (w : World) (h : DI w0 ao cap l r dd x e p st tv iv fv gv ev dv w) :
    Calls Tryz.prog 48 #[.pointer (some ⟨dd, 0, none⟩)] w (SectPost w0 ao cap l r dd e w (pSection st l e p)) := by
  have hd := h.hd
  have hdl := h.blk.lt
  have hb := fun k => (c.bd k).1
  have HB := Lib.hid (show By l from hb)
  have HH := Lib.hid h
  have HC := Lib.hid c
  have HRN := Lib.hid hruns
  have HO := octet_any c r e p w h.rr
  have c0 : w.cell? ⟨dd, 0, none⟩ = some (.pointer (some ⟨r, 0, none⟩)) := h.blk.c 0 rfl
  have r1 := h.rr.blk.c1
  have hpe := h.rr.hp
  have hel := h.rr.he
  cases ho : pOctet l e p with
  | bad why a =>
    have HX := Lib.hid (show pSection st l e p = .bad why a from P.bind_bad ho)
    have HX1 := Lib.hid ho
    have HO := Lib.hid HO
    clear ho h c hb hruns
    go_enter Tryz.func48, Tryz.ntmps48
    go_wp2_with fail
    refine HO.out.mono ?_
    rintro en w1 h1
    obtain ⟨k1, rfl⟩ := h1.bad_elim HX1.out
    exact ⟨rfl, SectPost.wrong HX.out (k1.lowR (by omega))⟩
  | ok sec q1 =>
    have hq : q1 = p + 1 ∧ 0 ≤ sec ∧ sec < 256 := by
      have hh := ho
      unfold pOctet at hh
      split at hh
      · simp only [Res.ok.injEq] at hh
        obtain ⟨rfl, rfl⟩ := hh
        exact ⟨rfl, c.bd p⟩
      · cases hh
    obtain ⟨rfl, hs0, hs1⟩ := hq
    have HX0 := P.bind_ok (f := fun sec => if sec = 4 ∨ sec = 9 then pBack 11
      else if 11 < sec ∨ (sec ≠ 0 ∧ sec ≤ st.last) then pBack 6
      else if sec = 0 then pU.bind fun size => (pSkip size).bind fun _ => P.ret st
      else pPart (pFill { st with last := sec } sec)) ho
    have HX0 := show pSection st l e p = _ from HX0
    have HX1 := Lib.hid ho
    have HO := Lib.hid HO
    have hpc : (((p + 1 : Nat) : Int) - 1) = p := by omega
    by_cases h49 : sec = 4 ∨ sec = 9
    · have HX := Lib.hid (show pSection st l e p = .bad 11 p from HX0.trans ((P.ite_pos h49).trans (by unfold pBack; rw [hpc])))
      clear HX0 ho h c hb hruns hpc
      rcases h49 with rfl | rfl
      · skip
        go_enter Tryz.func48, Tryz.ntmps48
        go_wp2_with fail
        refine HO.out.mono ?_
        rintro en w1 h1
        obtain ⟨k1, v1, rfl, hv1, s1⟩ := h1.ok_elim HX1.out
        obtain rfl : v1 = .int .i64 4 := hv1
        have D1 := Lib.hid (HH.out.go k1 s1)
        have B1 := Lib.hid (k1.lowR (show r < w.heap.size by omega))
        have w1c : w1.cell? ⟨dd, 0, none⟩ = some (.pointer (some ⟨r, 0, none⟩)) := D1.out.blk.c 0 rfl
        have w1l : w1.cell? ⟨dd, 10, none⟩ = some (.int .i64 st.last) := D1.out.blk.c 10 rfl
        have R1 := Lib.hid s1
        clear h1 k1 s1
        go_wp2_with fail
        refine (fail_any _ _ _).mono ?_
        rintro en w3 ⟨rfl, rfl⟩
        exact ⟨rfl, SectPost.wrong HX.out B1.out⟩
      · skip
        go_enter Tryz.func48, Tryz.ntmps48
        go_wp2_with fail
        refine HO.out.mono ?_
        rintro en w1 h1
        obtain ⟨k1, v1, rfl, hv1, s1⟩ := h1.ok_elim HX1.out
        obtain rfl : v1 = .int .i64 9 := hv1
        have D1 := Lib.hid (HH.out.go k1 s1)
        have B1 := Lib.hid (k1.lowR (show r < w.heap.size by omega))
        have w1c : w1.cell? ⟨dd, 0, none⟩ = some (.pointer (some ⟨r, 0, none⟩)) := D1.out.blk.c 0 rfl
        have w1l : w1.cell? ⟨dd, 10, none⟩ = some (.int .i64 st.last) := D1.out.blk.c 10 rfl
        have R1 := Lib.hid s1
        clear h1 k1 s1
        go_wp2_with fail
        refine (fail_any _ _ _).mono ?_
        rintro en w3 ⟨rfl, rfl⟩
        exact ⟨rfl, SectPost.wrong HX.out B1.out⟩
    · have n4 : (sec == 4) = false := by simp; omega
      have n9 : (sec == 9) = false := by simp; omega
      by_cases h6 : 11 < sec ∨ (sec ≠ 0 ∧ sec ≤ st.last)
      · have HX := Lib.hid (show pSection st l e p = .bad 6 p from HX0.trans ((P.ite_neg h49).trans ((P.ite_pos h6).trans (by unfold pBack; rw [hpc]))))
        clear HX0 ho h c hb hruns hpc h49
        by_cases hg : 11 < sec
        · have g1 : decide (11 < sec) = true := by simpa using hg
          clear h6 hg
          go_enter Tryz.func48, Tryz.ntmps48
          go_wp2_with fail
          refine HO.out.mono ?_
          rintro en w1 h1
          obtain ⟨k1, v1, rfl, hv1, s1⟩ := h1.ok_elim HX1.out
          obtain rfl : v1 = .int .i64 sec := hv1
          have D1 := Lib.hid (HH.out.go k1 s1)
          have B1 := Lib.hid (k1.lowR (show r < w.heap.size by omega))
          have w1c : w1.cell? ⟨dd, 0, none⟩ = some (.pointer (some ⟨r, 0, none⟩)) := D1.out.blk.c 0 rfl
          have w1l : w1.cell? ⟨dd, 10, none⟩ = some (.int .i64 st.last) := D1.out.blk.c 10 rfl
          have R1 := Lib.hid s1
          clear h1 k1 s1
          go_wp2_with fail
          refine (fail_any _ _ _).mono ?_
          rintro en w3 ⟨rfl, rfl⟩
          exact ⟨rfl, SectPost.wrong HX.out B1.out⟩
        · have g1 : decide (11 < sec) = false := by simpa using hg
          have g2 : (sec != 0) = true := by simp; omega
          have g3 : decide (sec ≤ st.last) = true := by simp; omega
          clear h6 hg
          go_enter Tryz.func48, Tryz.ntmps48
          go_wp2_with fail
          refine HO.out.mono ?_
          rintro en w1 h1
          obtain ⟨k1, v1, rfl, hv1, s1⟩ := h1.ok_elim HX1.out
          obtain rfl : v1 = .int .i64 sec := hv1
          have D1 := Lib.hid (HH.out.go k1 s1)
          have B1 := Lib.hid (k1.lowR (show r < w.heap.size by omega))
          have w1c : w1.cell? ⟨dd, 0, none⟩ = some (.pointer (some ⟨r, 0, none⟩)) := D1.out.blk.c 0 rfl
          have w1l : w1.cell? ⟨dd, 10, none⟩ = some (.int .i64 st.last) := D1.out.blk.c 10 rfl
          have R1 := Lib.hid s1
          clear h1 k1 s1
          go_wp2_with fail
          refine (fail_any _ _ _).mono ?_
          rintro en w3 ⟨rfl, rfl⟩
          exact ⟨rfl, SectPost.wrong HX.out B1.out⟩
      · have g1 : decide (11 < sec) = false := by simp; omega
        by_cases h0 : sec = 0
        · subst h0
          have HX2 := HX0.trans ((P.ite_neg h49).trans ((P.ite_neg h6).trans (P.ite_pos rfl)))
          cases hp0 : pPart0 l e (p + 1) with
          | bad why a =>
            have HX := Lib.hid (show pSection st l e p = .bad why a from HX2.trans (skip0_bad hp0))
            have HP := Lib.hid hp0
            clear HX0 HX2 hp0 ho h c hb hruns hpc h49 h6
            go_enter Tryz.func48, Tryz.ntmps48
            go_wp2_with fail
            refine HO.out.mono ?_
            rintro en w1 h1
            obtain ⟨k1, v1, rfl, hv1, s1⟩ := h1.ok_elim HX1.out
            obtain rfl : v1 = .int .i64 0 := hv1
            have D1 := Lib.hid (HH.out.go k1 s1)
            have B1 := Lib.hid (k1.lowR (show r < w.heap.size by omega))
            have w1c : w1.cell? ⟨dd, 0, none⟩ = some (.pointer (some ⟨r, 0, none⟩)) := D1.out.blk.c 0 rfl
            have w1l : w1.cell? ⟨dd, 10, none⟩ = some (.int .i64 st.last) := D1.out.blk.c 10 rfl
            have R1 := Lib.hid s1
            clear h1 k1 s1
            go_wp2_with fail
            refine (part_any HC.out r e (p + 1) w1 R1.out).mono ?_
            rintro en w2 ⟨k2, h2⟩
            rw [HP.out] at h2
            subst h2
            exact ⟨rfl, SectPost.wrong HX.out (B1.out.trans (k2.lowR (by have := B1.out.size; omega)))⟩
          | ok b q =>
            have HX := Lib.hid (show pSection st l e p = .ok st q from HX2.trans (skip0_ok hp0))
            have HP := Lib.hid hp0
            clear HX0 HX2 hp0 ho h c hb hruns hpc h49 h6
            go_enter Tryz.func48, Tryz.ntmps48
            go_wp2_with fail
            refine HO.out.mono ?_
            rintro en w1 h1
            obtain ⟨k1, v1, rfl, hv1, s1⟩ := h1.ok_elim HX1.out
            obtain rfl : v1 = .int .i64 0 := hv1
            have D1 := Lib.hid (HH.out.go k1 s1)
            have B1 := Lib.hid (k1.lowR (show r < w.heap.size by omega))
            have w1c : w1.cell? ⟨dd, 0, none⟩ = some (.pointer (some ⟨r, 0, none⟩)) := D1.out.blk.c 0 rfl
            have w1l : w1.cell? ⟨dd, 10, none⟩ = some (.int .i64 st.last) := D1.out.blk.c 10 rfl
            have R1 := Lib.hid s1
            clear h1 k1 s1
            go_wp2_with fail
            refine (part_any HC.out r e (p + 1) w1 R1.out).mono ?_
            rintro en w2 ⟨k2, h2⟩
            rw [HP.out] at h2
            simp only at h2
            obtain ⟨r', rfl, hr', rx, rp⟩ := h2
            have D2 := Lib.hid (D1.out.part k2 rx hr')
            have B2 := Lib.hid (B1.out.trans (k2.lowR (by have := B1.out.size; omega)))
            clear k2 rx rp
            go_wp2
            (first | go_end0 | refine bodyPost_ret (results_none rfl _ _ _) rfl ?_)
            exact SectPost.good HX.out B2.out D2.out
        · have HX2 := HX0.trans ((P.ite_neg h49).trans ((P.ite_neg h6).trans (P.ite_neg h0)))
          have g2 : (sec != 0) = true := by simpa using h0
          have g3 : decide (sec ≤ st.last) = false := by simp; omega
          have g4 : (sec == 0) = false := by simpa using h0
          have hs : 0 < sec ∧ sec ≤ 11 ∧ sec ≠ 4 ∧ sec ≠ 9 := by omega
          have HSS := Lib.hid hs
          cases hp0 : pPart0 l e (p + 1) with
          | bad why a =>
            have HX := Lib.hid (show pSection st l e p = .bad why a from HX2.trans (part0_bad hp0))
            have HP := Lib.hid hp0
            clear HX0 HX2 hp0 ho h c hb hruns hpc h49 h6 hs h0
            go_enter Tryz.func48, Tryz.ntmps48
            go_wp2_with fail
            refine HO.out.mono ?_
            rintro en w1 h1
            obtain ⟨k1, v1, rfl, hv1, s1⟩ := h1.ok_elim HX1.out
            obtain rfl : v1 = .int .i64 sec := hv1
            have D1 := Lib.hid (HH.out.go k1 s1)
            have B1 := Lib.hid (k1.lowR (show r < w.heap.size by omega))
            have w1c : w1.cell? ⟨dd, 0, none⟩ = some (.pointer (some ⟨r, 0, none⟩)) := D1.out.blk.c 0 rfl
            have w1l : w1.cell? ⟨dd, 10, none⟩ = some (.int .i64 st.last) := D1.out.blk.c 10 rfl
            have R1 := Lib.hid s1
            clear h1 k1 s1
            go_wp2_with fail
            refine (part_any HC.out r e (p + 1) w1 R1.out).mono ?_
            rintro en w2 ⟨k2, h2⟩
            rw [HP.out] at h2
            subst h2
            exact ⟨rfl, SectPost.wrong HX.out (B1.out.trans (k2.lowR (by have := B1.out.size; omega)))⟩
          | ok b q =>
            have HPE := part0_ok (y := pFill { st with last := sec } sec) hp0
            have HX3 := HX2.trans HPE
            have HP := Lib.hid hp0
            cases hf : pFill { st with last := sec } sec l q b with
            | bad why a =>
              have HX := Lib.hid (show pSection st l e p = .bad why a from HX3.trans (by rw [hf]))
              have HF := Lib.hid hf
              clear HX0 HX2 HX3 HPE hp0 ho h c hb hruns hpc h49 h6 hs h0 hf
              go_enter Tryz.func48, Tryz.ntmps48
              go_wp2_with fail
              refine HO.out.mono ?_
              rintro en w1 h1
              obtain ⟨k1, v1, rfl, hv1, s1⟩ := h1.ok_elim HX1.out
              obtain rfl : v1 = .int .i64 sec := hv1
              have D1 := Lib.hid (HH.out.go k1 s1)
              have B1 := Lib.hid (k1.lowR (show r < w.heap.size by omega))
              have w1c : w1.cell? ⟨dd, 0, none⟩ = some (.pointer (some ⟨r, 0, none⟩)) := D1.out.blk.c 0 rfl
              have w1l : w1.cell? ⟨dd, 10, none⟩ = some (.int .i64 st.last) := D1.out.blk.c 10 rfl
              have R1 := Lib.hid s1
              clear h1 k1 s1
              go_wp2_with fail
              refine (part_any HC.out r e (p + 1) w1 R1.out).mono ?_
              rintro en w2 ⟨k2, h2⟩
              rw [HP.out] at h2
              simp only at h2
              obtain ⟨r', rfl, hr', rx, rp⟩ := h2
              have hdw := D1.out.blk.lt
              have D2 := Lib.hid (D1.out.part k2 rx hr')
              have B2 := Lib.hid (B1.out.trans (k2.lowR (by have := B1.out.size; omega)))
              have f10 := D2.out.blk.f 10
              have w2l : w2.cell? ⟨dd, 10, none⟩ = some (.int .i64 st.last) := D2.out.blk.c 10 rfl
              have D3 := Lib.hid (D2.out.field 10 (.int .i64 sec) { st with last := sec } tv iv gv ev dv rfl D2.out.tys D2.out.imps D2.out.globs D2.out.exps D2.out.dats rfl ⟨D2.out.few.1, D2.out.few.2.1⟩ D2.out.lens)
              have kS : Keep (fun i => i = dd) w2 (w2.setCell ⟨dd, 10, none⟩ (.int .i64 sec)) := (Keep.refl (fun i => i = dd) w2).set (p := ⟨dd, 10, none⟩) (.inl rfl) _
              have hr0 := HH.out.rr.hB
              have R3 := Lib.hid (rp.keep kS (by omega) (fun i hi => by omega))
              have zz2 := D2.out.blk.lt
              have B3 := Lib.hid (B2.out.trans (kS.lowD (by omega) (fun i hi => by omega)))
              clear k2 rx rp kS
              go_wp2_with fail
              refine (fill_any HC.out HRN.out r dd r' e q q b _ sec HSS.out.1 HSS.out.2.1 HSS.out.2.2.1 HSS.out.2.2.2 tv iv fv gv ev dv _ D3.out R3.out (by omega)).mono ?_
              rintro en w4 h4
              rw [HF.out] at h4
              obtain ⟨b4, rfl⟩ := h4
              exact ⟨rfl, SectPost.wrong HX.out (B3.out.trans (b4.mono (by omega)))⟩
            | ok st' q' =>
              have HF := Lib.hid hf
              by_cases hcl : q' < q
              · have HX := Lib.hid (show pSection st l e p = .bad 6 q' from HX3.trans (by rw [hf]; simp only [if_pos hcl]))
                clear HX0 HX2 HX3 HPE hp0 ho h c hb hruns hpc h49 h6 hs h0 hf
                go_enter Tryz.func48, Tryz.ntmps48
                go_wp2_with fail
                refine HO.out.mono ?_
                rintro en w1 h1
                obtain ⟨k1, v1, rfl, hv1, s1⟩ := h1.ok_elim HX1.out
                obtain rfl : v1 = .int .i64 sec := hv1
                have D1 := Lib.hid (HH.out.go k1 s1)
                have B1 := Lib.hid (k1.lowR (show r < w.heap.size by omega))
                have w1c : w1.cell? ⟨dd, 0, none⟩ = some (.pointer (some ⟨r, 0, none⟩)) := D1.out.blk.c 0 rfl
                have w1l : w1.cell? ⟨dd, 10, none⟩ = some (.int .i64 st.last) := D1.out.blk.c 10 rfl
                have R1 := Lib.hid s1
                clear h1 k1 s1
                go_wp2_with fail
                refine (part_any HC.out r e (p + 1) w1 R1.out).mono ?_
                rintro en w2 ⟨k2, h2⟩
                rw [HP.out] at h2
                simp only at h2
                obtain ⟨r', rfl, hr', rx, rp⟩ := h2
                have hdw := D1.out.blk.lt
                have D2 := Lib.hid (D1.out.part k2 rx hr')
                have B2 := Lib.hid (B1.out.trans (k2.lowR (by have := B1.out.size; omega)))
                have f10 := D2.out.blk.f 10
                have w2l : w2.cell? ⟨dd, 10, none⟩ = some (.int .i64 st.last) := D2.out.blk.c 10 rfl
                have D3 := Lib.hid (D2.out.field 10 (.int .i64 sec) { st with last := sec } tv iv gv ev dv rfl D2.out.tys D2.out.imps D2.out.globs D2.out.exps D2.out.dats rfl ⟨D2.out.few.1, D2.out.few.2.1⟩ D2.out.lens)
                have kS : Keep (fun i => i = dd) w2 (w2.setCell ⟨dd, 10, none⟩ (.int .i64 sec)) := (Keep.refl (fun i => i = dd) w2).set (p := ⟨dd, 10, none⟩) (.inl rfl) _
                have hr0 := HH.out.rr.hB
                have R3 := Lib.hid (rp.keep kS (by omega) (fun i hi => by omega))
                have zz2 := D2.out.blk.lt
                have B3 := Lib.hid (B2.out.trans (kS.lowD (by omega) (fun i hi => by omega)))
                clear k2 rx rp kS
                go_wp2_with fail
                refine (fill_any HC.out HRN.out r dd r' e q q b _ sec HSS.out.1 HSS.out.2.1 HSS.out.2.2.1 HSS.out.2.2.2 tv iv fv gv ev dv _ D3.out R3.out (by omega)).mono ?_
                rintro en w4 h4
                rw [HF.out] at h4
                obtain ⟨b4, rfl, tv', iv', fv', gv', ev', dv', d4, r4⟩ := h4
                have D4 := Lib.hid d4
                have R4 := Lib.hid r4
                have B4 := Lib.hid (B3.out.trans (b4.mono (show r ≤ dd by omega)))
                have hr4 := d4.rr.blk.lt
                clear b4 d4 r4
                go_wp2_with fail
                refine (close_any HC.out r' q q' _ R4.out).mono ?_
                rintro en w6 ⟨h6, hb6⟩
                rw [if_pos hcl] at h6
                subst h6
                exact ⟨rfl, SectPost.wrong HX.out (B4.out.trans (hb6.mono (by omega)))⟩
              · have HX := Lib.hid (show pSection st l e p = .ok st' q from HX3.trans (by rw [hf]; simp only [if_neg hcl]))
                clear HX0 HX2 HX3 HPE hp0 ho h c hb hruns hpc h49 h6 hs h0 hf
                go_enter Tryz.func48, Tryz.ntmps48
                go_wp2_with fail
                refine HO.out.mono ?_
                rintro en w1 h1
                obtain ⟨k1, v1, rfl, hv1, s1⟩ := h1.ok_elim HX1.out
                obtain rfl : v1 = .int .i64 sec := hv1
                have D1 := Lib.hid (HH.out.go k1 s1)
                have B1 := Lib.hid (k1.lowR (show r < w.heap.size by omega))
                have w1c : w1.cell? ⟨dd, 0, none⟩ = some (.pointer (some ⟨r, 0, none⟩)) := D1.out.blk.c 0 rfl
                have w1l : w1.cell? ⟨dd, 10, none⟩ = some (.int .i64 st.last) := D1.out.blk.c 10 rfl
                have R1 := Lib.hid s1
                clear h1 k1 s1
                go_wp2_with fail
                refine (part_any HC.out r e (p + 1) w1 R1.out).mono ?_
                rintro en w2 ⟨k2, h2⟩
                rw [HP.out] at h2
                simp only at h2
                obtain ⟨r', rfl, hr', rx, rp⟩ := h2
                have hdw := D1.out.blk.lt
                have D2 := Lib.hid (D1.out.part k2 rx hr')
                have B2 := Lib.hid (B1.out.trans (k2.lowR (by have := B1.out.size; omega)))
                have f10 := D2.out.blk.f 10
                have w2l : w2.cell? ⟨dd, 10, none⟩ = some (.int .i64 st.last) := D2.out.blk.c 10 rfl
                have D3 := Lib.hid (D2.out.field 10 (.int .i64 sec) { st with last := sec } tv iv gv ev dv rfl D2.out.tys D2.out.imps D2.out.globs D2.out.exps D2.out.dats rfl ⟨D2.out.few.1, D2.out.few.2.1⟩ D2.out.lens)
                have kS : Keep (fun i => i = dd) w2 (w2.setCell ⟨dd, 10, none⟩ (.int .i64 sec)) := (Keep.refl (fun i => i = dd) w2).set (p := ⟨dd, 10, none⟩) (.inl rfl) _
                have hr0 := HH.out.rr.hB
                have R3 := Lib.hid (rp.keep kS (by omega) (fun i hi => by omega))
                have zz2 := D2.out.blk.lt
                have B3 := Lib.hid (B2.out.trans (kS.lowD (by omega) (fun i hi => by omega)))
                clear k2 rx rp kS
                go_wp2_with fail
                refine (fill_any HC.out HRN.out r dd r' e q q b _ sec HSS.out.1 HSS.out.2.1 HSS.out.2.2.1 HSS.out.2.2.2 tv iv fv gv ev dv _ D3.out R3.out (by omega)).mono ?_
                rintro en w4 h4
                rw [HF.out] at h4
                obtain ⟨b4, rfl, tv', iv', fv', gv', ev', dv', d4, r4⟩ := h4
                have D4 := Lib.hid d4
                have R4 := Lib.hid r4
                have B4 := Lib.hid (B3.out.trans (b4.mono (show r ≤ dd by omega)))
                have hr4 := d4.rr.blk.lt
                clear b4 d4 r4
                go_wp2_with fail
                refine (close_any HC.out r' q q' _ R4.out).mono ?_
                rintro en w6 ⟨h6, hb6⟩
                rw [if_neg hcl] at h6
                subst h6
                have D6 := Lib.hid (D4.out.below hb6)
                have B6 := Lib.hid (B4.out.trans (hb6.mono (by omega)))
                go_wp2
                (first | go_end0 | refine bodyPost_ret (results_none rfl _ _ _) rfl ?_)
                exact SectPost.good HX.out B6.out D6.out
end
end Go.Proofs.YtgcmdnkmnghhaaaGreatDoor.wm
