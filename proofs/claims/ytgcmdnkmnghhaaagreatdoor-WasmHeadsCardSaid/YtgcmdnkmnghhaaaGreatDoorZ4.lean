/- Put together by program: WFirst WLocals WData WListB. -/
import Derived.Test.YtgcmdnkmnghhaaaGreatDoorZ3
/- The contracts of first, global, data: printed by gen_first.py. -/
set_option linter.unusedVariables false
namespace Go.Proofs.YtgcmdnkmnghhaaaGreatDoor.wm
open Go.RowKit Go.Proofs.YtgcmdnkmnghhaaaGreatDoor.lb
theorem octet_q {l : List Int} {e p q : Nat} {x : Int} (h : pOctet l e p = .ok x q) : q = p + 1 ∧ p < e ∧ x = l.getD p 0 := by
  unfold pOctet at h
  split at h
  · simp only [Res.ok.injEq] at h; exact ⟨h.2.symm, by assumption, h.1.symm⟩
  · cases h
theorem one_q {these left : List Int} {l : List Int} {e p q : Nat} {x : Int} (h : pOne these left l e p = .ok x q) : q = p + 1 ∧ p < e ∧ x ∈ these := by
  cases ho : pOctet l e p with
  | bad w a => rw [show pOne these left l e p = .bad w a from P.bind_bad ho] at h; cases h
  | ok c q' =>
    rw [show pOne these left l e p = _ from P.bind_ok ho] at h
    obtain ⟨hq, hp, _⟩ := octet_q ho
    split at h
    · cases h
    · split at h
      · rename_i hc
        simp only [P.ret, Res.ok.injEq] at h
        obtain ⟨rfl, rfl⟩ := h
        exact ⟨hq, hp, by simpa using hc⟩
      · cases h
section
variable {w0 : World} {ao : Option Addr} {cap : Nat} {l : List Int}

set_option maxRecDepth 100000 in
theorem first_any (c : Ctx w0 ao cap l) (r e p : Nat) (w : World) (h : Rr w0 ao cap l r e p w) (kind : Int) :
    Calls Tryz.prog 194 #[.pointer (some ⟨r, 0, none⟩), .int .i64 kind] w (Out (· = r) w0 ao cap l r e w (VI .u64) (pFirst kind l e p)) := by
  have HO := one1 c r e p w h [65, 66] #[.int .i64 65, .int .i64 66] rfl 2 rfl (by decide)
  have c1 := h.blk.c1
  have HC := Lib.hid c
  cases hx1 : pOne [65, 66] [] l e p with
  | bad why a =>
    have HX := Lib.hid (show pFirst kind l e p = .bad why a from P.bind_bad hx1)
    have HX1 := Lib.hid hx1
    have HO := Lib.hid HO
    clear hx1 h c
    go_enter Tryz.func194, Tryz.ntmps194
    go_wp2_with fail
    refine HO.out.mono ?_
    rintro en w1 h1
    obtain ⟨k1, rfl⟩ := h1.bad_elim HX1.out
    exact ⟨rfl, Out.wrong HX.out k1⟩
  | ok op q1 =>
    obtain ⟨hq, _, hop⟩ := one_q hx1
    have HX1 := Lib.hid hx1
    have HO := Lib.hid HO
    have hX : pFirst kind l e p = (if (op == 65) != (kind == 127) then pBack 10 else if op = 65 then pLow else pS64.bind fun n => P.ret (n % 18446744073709551616)) l e q1 := P.bind_ok hx1
    clear hx1 h c
    cases hb : (op == 65) != (kind == 127) with
    | true =>
      have HX := Lib.hid (show pFirst kind l e p = .bad 10 p by rw [hX, hb, if_pos rfl, hq]; simp [pBack])
      have hb' : (!((op == 65) == (kind == 127))) = true := by revert hb; cases (op == 65) <;> cases (kind == 127) <;> simp
      clear hX hq hop hb
      go_enter Tryz.func194, Tryz.ntmps194
      go_wp2_with fail
      refine HO.out.mono ?_
      rintro en w1 h1
      obtain ⟨k1, v1, rfl, hv1, r1⟩ := h1.ok_elim HX1.out
      obtain rfl : v1 = .int .i64 op := hv1
      go_wp2_with fail
      refine (fail_any _ _ _).mono ?_
      rintro en w2 ⟨rfl, rfl⟩
      exact ⟨rfl, Out.wrong HX.out k1⟩
    | false =>
      rw [hb] at hX
      by_cases h65 : op = 65
      · have hX2 : pFirst kind l e p = pLow l e q1 := by rw [hX, if_neg (by decide), if_pos h65]
        have he : (op == 65) = true := by simpa using h65
        have hk : (kind == 127) = true := by revert hb; rw [he]; cases (kind == 127) <;> simp
        clear hb
        cases hx2 : pLow l e q1 with
        | bad why a =>
          have HX := Lib.hid (hX2.trans hx2)
          have HX2 := Lib.hid hx2
          clear hX hX2 hx2 hq hop h65
          go_enter Tryz.func194, Tryz.ntmps194
          go_wp2_with fail
          refine HO.out.mono ?_
          rintro en w1 h1
          obtain ⟨k1, v1, rfl, hv1, r1⟩ := h1.ok_elim HX1.out
          obtain rfl : v1 = .int .i64 op := hv1
          go_wp2_with fail
          refine (low_any HC.out r e q1 _ r1).mono ?_
          rintro en w2 h2
          obtain ⟨k2, rfl⟩ := h2.bad_elim HX2.out
          exact ⟨rfl, Out.wrong HX.out (k1.trans k2)⟩
        | ok n q2 =>
          have HX := Lib.hid (hX2.trans hx2)
          have HX2 := Lib.hid hx2
          clear hX hX2 hx2 hq hop h65
          go_enter Tryz.func194, Tryz.ntmps194
          go_wp2_with fail
          refine HO.out.mono ?_
          rintro en w1 h1
          obtain ⟨k1, v1, rfl, hv1, r1⟩ := h1.ok_elim HX1.out
          obtain rfl : v1 = .int .i64 op := hv1
          go_wp2_with fail
          refine (low_any HC.out r e q1 _ r1).mono ?_
          rintro en w2 h2
          obtain ⟨k2, v2, rfl, hv2, r2⟩ := h2.ok_elim HX2.out
          obtain rfl : v2 = .int .u64 n := hv2
          go_wp2
          go_ret
          exact Out.good HX.out (k1.trans k2) rfl r2
      · have hX2 : pFirst kind l e p = (pS64.bind fun n => P.ret (n % 18446744073709551616)) l e q1 := by rw [hX, if_neg (by decide), if_neg h65]
        have he : (op == 65) = false := by simpa using h65
        have hk : (kind == 127) = false := by revert hb; rw [he]; cases (kind == 127) <;> simp
        clear hb
        cases hx2 : pS64 l e q1 with
        | bad why a =>
          have HX := Lib.hid (hX2.trans (P.bind_bad hx2))
          have HX2 := Lib.hid hx2
          clear hX hX2 hx2 hq hop h65
          go_enter Tryz.func194, Tryz.ntmps194
          go_wp2_with fail
          refine HO.out.mono ?_
          rintro en w1 h1
          obtain ⟨k1, v1, rfl, hv1, r1⟩ := h1.ok_elim HX1.out
          obtain rfl : v1 = .int .i64 op := hv1
          go_wp2_with fail
          refine (s64_any HC.out r e q1 _ r1).mono ?_
          rintro en w2 h2
          obtain ⟨k2, rfl⟩ := h2.bad_elim HX2.out
          exact ⟨rfl, Out.wrong HX.out (k1.trans k2)⟩
        | ok n q2 =>
          have HX := Lib.hid (hX2.trans (P.bind_ok hx2))
          have HX2 := Lib.hid hx2
          clear hX hX2 hx2 hq hop h65
          go_enter Tryz.func194, Tryz.ntmps194
          go_wp2_with fail
          refine HO.out.mono ?_
          rintro en w1 h1
          obtain ⟨k1, v1, rfl, hv1, r1⟩ := h1.ok_elim HX1.out
          obtain rfl : v1 = .int .i64 op := hv1
          go_wp2_with fail
          refine (s64_any HC.out r e q1 _ r1).mono ?_
          rintro en w2 h2
          obtain ⟨k2, v2, rfl, hv2, r2⟩ := h2.ok_elim HX2.out
          obtain rfl : v2 = .int .i64 n := hv2
          go_wp2
          go_ret
          exact Out.good HX.out (k1.trans k2) rfl r2

set_option maxRecDepth 100000 in
theorem global_any (c : Ctx w0 ao cap l) (r e p : Nat) (w : World) (h : Rr w0 ao cap l r e p w) :
    Calls Tryz.prog 164 #[.pointer (some ⟨r, 0, none⟩)] w (Out (· = r) w0 ao cap l r e w (VA3 gGlobal w.heap.size) (pGlobal l e p)) := by
  have hr := h.blk.lt
  have HC := Lib.hid c
  have R0 := Lib.hid h
  have hb := fun k => (c.bd k).1
  have hp := h.hp
  have hel := h.he
  have he0 : p < e → 0 < e := by omega
  have HR0 := Lib.hid (Row.new w #[.int .i64 0, .bool false, .int .u64 0] 108)
  cases hx1 : pKind l e p with
  | bad why a =>
    have HX := Lib.hid (show pGlobal l e p = .bad why a from P.bind_bad hx1)
    have HX1 := Lib.hid hx1
    clear h c hb hx1
    go_enter Tryz.func164, Tryz.ntmps164
    go_wp2_with fail
    refine (kind_any HC.out r e p _ (R0.out.below (made1 w _))).mono ?_
    rintro en w1 h1
    obtain ⟨k1, rfl⟩ := h1.bad_elim HX1.out
    exact ⟨rfl, Out.wrong HX.out ((Keep.of (made1 w _)).trans k1)⟩
  | ok k q1 =>
    cases hx2 : pOne [0, 1] [] l e q1 with
    | bad why a =>
      have HX := Lib.hid (show pGlobal l e p = .bad why a from (P.bind_ok hx1).trans (P.bind_bad hx2))
      have HX1 := Lib.hid hx1
      have HX2 := Lib.hid hx2
      clear h c hb hx1 hx2
      go_enter Tryz.func164, Tryz.ntmps164
      go_wp2_with fail
      refine (kind_any HC.out r e p _ (R0.out.below (made1 w _))).mono ?_
      rintro en w1 h1
      obtain ⟨k1, v1, rfl, hv1, r1⟩ := h1.ok_elim HX1.out
      obtain rfl : v1 = .int .i64 k := hv1
      have R1 := Lib.hid r1
      have K1 := Lib.hid ((Keep.of (made1 w _)).trans k1)
      have HR1 := Lib.hid (HR0.out.keep k1 (by omega))
      have S1 : w.heap.size + 1 ≤ w1.heap.size := by have := HR1.out.lt; omega
      have KK1 := Lib.hid k1
      clear h1 r1 k1
      go_wp2_with fail
      refine (one1 HC.out r e q1 _ R1.out [0, 1] #[.int .i64 0, .int .i64 1] rfl 2 rfl (by decide)).mono ?_
      rintro en w2 h2
      obtain ⟨k2, rfl⟩ := h2.bad_elim HX2.out
      exact ⟨rfl, Out.wrong HX.out (K1.out.trans k2)⟩
    | ok m q2 =>
      cases hx3 : pFirst k l e q2 with
      | bad why a =>
        have HX := Lib.hid (show pGlobal l e p = .bad why a from (P.bind_ok hx1).trans ((P.bind_ok hx2).trans (P.bind_bad hx3)))
        have HX1 := Lib.hid hx1
        have HX2 := Lib.hid hx2
        have HX3 := Lib.hid hx3
        clear h c hb hx1 hx2 hx3
        go_enter Tryz.func164, Tryz.ntmps164
        go_wp2_with fail
        refine (kind_any HC.out r e p _ (R0.out.below (made1 w _))).mono ?_
        rintro en w1 h1
        obtain ⟨k1, v1, rfl, hv1, r1⟩ := h1.ok_elim HX1.out
        obtain rfl : v1 = .int .i64 k := hv1
        have R1 := Lib.hid r1
        have K1 := Lib.hid ((Keep.of (made1 w _)).trans k1)
        have HR1 := Lib.hid (HR0.out.keep k1 (by omega))
        have S1 : w.heap.size + 1 ≤ w1.heap.size := by have := HR1.out.lt; omega
        have KK1 := Lib.hid k1
        clear h1 r1 k1
        go_wp2_with fail
        refine (one1 HC.out r e q1 _ R1.out [0, 1] #[.int .i64 0, .int .i64 1] rfl 2 rfl (by decide)).mono ?_
        rintro en w2 h2
        obtain ⟨k2, v2, rfl, hv2, r2⟩ := h2.ok_elim HX2.out
        obtain rfl : v2 = .int .i64 m := hv2
        have R2 := Lib.hid r2
        have K2 := Lib.hid (K1.out.trans k2)
        have HR2 := Lib.hid (HR1.out.keep k2 (by omega))
        have S2 : w.heap.size + 1 ≤ w2.heap.size := by have := HR2.out.lt; omega
        have KK2 := Lib.hid k2
        clear h2 r2 k2
        go_wp2_with fail
        refine (first_any HC.out r e q2 _ R2.out k).mono ?_
        rintro en w3 h3
        obtain ⟨k3, rfl⟩ := h3.bad_elim HX3.out
        exact ⟨rfl, Out.wrong HX.out (K2.out.trans k3)⟩
      | ok n q3 =>
        cases hx4 : pOne [11] [] l e q3 with
        | bad why a =>
          have HX := Lib.hid (show pGlobal l e p = .bad why a from (P.bind_ok hx1).trans ((P.bind_ok hx2).trans ((P.bind_ok hx3).trans (P.bind_bad hx4))))
          have HX1 := Lib.hid hx1
          have HX2 := Lib.hid hx2
          have HX3 := Lib.hid hx3
          have HX4 := Lib.hid hx4
          clear h c hb hx1 hx2 hx3 hx4
          go_enter Tryz.func164, Tryz.ntmps164
          go_wp2_with fail
          refine (kind_any HC.out r e p _ (R0.out.below (made1 w _))).mono ?_
          rintro en w1 h1
          obtain ⟨k1, v1, rfl, hv1, r1⟩ := h1.ok_elim HX1.out
          obtain rfl : v1 = .int .i64 k := hv1
          have R1 := Lib.hid r1
          have K1 := Lib.hid ((Keep.of (made1 w _)).trans k1)
          have HR1 := Lib.hid (HR0.out.keep k1 (by omega))
          have S1 : w.heap.size + 1 ≤ w1.heap.size := by have := HR1.out.lt; omega
          have KK1 := Lib.hid k1
          clear h1 r1 k1
          go_wp2_with fail
          refine (one1 HC.out r e q1 _ R1.out [0, 1] #[.int .i64 0, .int .i64 1] rfl 2 rfl (by decide)).mono ?_
          rintro en w2 h2
          obtain ⟨k2, v2, rfl, hv2, r2⟩ := h2.ok_elim HX2.out
          obtain rfl : v2 = .int .i64 m := hv2
          have R2 := Lib.hid r2
          have K2 := Lib.hid (K1.out.trans k2)
          have HR2 := Lib.hid (HR1.out.keep k2 (by omega))
          have S2 : w.heap.size + 1 ≤ w2.heap.size := by have := HR2.out.lt; omega
          have KK2 := Lib.hid k2
          clear h2 r2 k2
          go_wp2_with fail
          refine (first_any HC.out r e q2 _ R2.out k).mono ?_
          rintro en w3 h3
          obtain ⟨k3, v3, rfl, hv3, r3⟩ := h3.ok_elim HX3.out
          obtain rfl : v3 = .int .u64 n := hv3
          have R3 := Lib.hid r3
          have K3 := Lib.hid (K2.out.trans k3)
          have HR3 := Lib.hid (HR2.out.keep k3 (by omega))
          have S3 : w.heap.size + 1 ≤ w3.heap.size := by have := HR3.out.lt; omega
          have KK3 := Lib.hid k3
          clear h3 r3 k3
          go_wp2_with fail
          refine (one1 HC.out r e q3 _ R3.out [11] #[.int .i64 11] rfl 1 rfl (by decide)).mono ?_
          rintro en w4 h4
          obtain ⟨k4, rfl⟩ := h4.bad_elim HX4.out
          exact ⟨rfl, Out.wrong HX.out (K3.out.trans k4)⟩
        | ok z q4 =>
          have HX := Lib.hid (show pGlobal l e p = .ok ⟨k, m == 1, n⟩ q4 from (P.bind_ok hx1).trans ((P.bind_ok hx2).trans ((P.bind_ok hx3).trans ((P.bind_ok hx4).trans (rfl)))))
          have HX1 := Lib.hid hx1
          have HX2 := Lib.hid hx2
          have HX3 := Lib.hid hx3
          have HX4 := Lib.hid hx4
          clear h c hb hx1 hx2 hx3 hx4
          go_enter Tryz.func164, Tryz.ntmps164
          go_wp2_with fail
          refine (kind_any HC.out r e p _ (R0.out.below (made1 w _))).mono ?_
          rintro en w1 h1
          obtain ⟨k1, v1, rfl, hv1, r1⟩ := h1.ok_elim HX1.out
          obtain rfl : v1 = .int .i64 k := hv1
          have R1 := Lib.hid r1
          have K1 := Lib.hid ((Keep.of (made1 w _)).trans k1)
          have HR1 := Lib.hid (HR0.out.keep k1 (by omega))
          have S1 : w.heap.size + 1 ≤ w1.heap.size := by have := HR1.out.lt; omega
          have KK1 := Lib.hid k1
          clear h1 r1 k1
          go_wp2_with fail
          refine (one1 HC.out r e q1 _ R1.out [0, 1] #[.int .i64 0, .int .i64 1] rfl 2 rfl (by decide)).mono ?_
          rintro en w2 h2
          obtain ⟨k2, v2, rfl, hv2, r2⟩ := h2.ok_elim HX2.out
          obtain rfl : v2 = .int .i64 m := hv2
          have R2 := Lib.hid r2
          have K2 := Lib.hid (K1.out.trans k2)
          have HR2 := Lib.hid (HR1.out.keep k2 (by omega))
          have S2 : w.heap.size + 1 ≤ w2.heap.size := by have := HR2.out.lt; omega
          have KK2 := Lib.hid k2
          clear h2 r2 k2
          go_wp2_with fail
          refine (first_any HC.out r e q2 _ R2.out k).mono ?_
          rintro en w3 h3
          obtain ⟨k3, v3, rfl, hv3, r3⟩ := h3.ok_elim HX3.out
          obtain rfl : v3 = .int .u64 n := hv3
          have R3 := Lib.hid r3
          have K3 := Lib.hid (K2.out.trans k3)
          have HR3 := Lib.hid (HR2.out.keep k3 (by omega))
          have S3 : w.heap.size + 1 ≤ w3.heap.size := by have := HR3.out.lt; omega
          have KK3 := Lib.hid k3
          clear h3 r3 k3
          go_wp2_with fail
          refine (one1 HC.out r e q3 _ R3.out [11] #[.int .i64 11] rfl 1 rfl (by decide)).mono ?_
          rintro en w4 h4
          obtain ⟨k4, v4, rfl, hv4, r4⟩ := h4.ok_elim HX4.out
          obtain rfl : v4 = .int .i64 z := hv4
          have R4 := Lib.hid r4
          have K4 := Lib.hid (K3.out.trans k4)
          have HR4 := Lib.hid (HR3.out.keep k4 (by omega))
          have S4 : w.heap.size + 1 ≤ w4.heap.size := by have := HR4.out.lt; omega
          have KK4 := Lib.hid k4
          clear h4 r4 k4
          obtain ⟨u0, d0⟩ := HR4.out.some (k := 0) (by simp)
          have z0 := HR4.out.fz 0
          obtain ⟨u1, d1⟩ := HR4.out.some (k := 1) (by simp)
          have z1 := HR4.out.fz 1
          obtain ⟨u2, d2⟩ := HR4.out.some (k := 2) (by simp)
          have z2 := HR4.out.fz 2
          have KS := Lib.hid ((((Keep.refl (fun k => k = w.heap.size) w4).set (p := ⟨w.heap.size, 0, none⟩) (.inl rfl) (.int .i64 k)).set (p := ⟨w.heap.size, 1, none⟩) (.inl rfl) (.bool (m == 1))).set (p := ⟨w.heap.size, 2, none⟩) (.inl rfl) (.int .u64 n))
          go_wp2
          refine bodyPost_ret (v := .agg #[.int .i64 k, .bool (m == 1), .int .u64 n]) (by simp [results, Tryz.results164, go_sem, d0, d1, d2]) rfl (Out.good HX.out (K4.out.new KS.out (fun i hi e => by omega)) ⟨_, _, _, rfl, ?_⟩ (R4.out.other KS.out hr))
          exact (Gh.all_cons rfl).2 ⟨Gh.is_val.2 rfl, (Gh.all_cons rfl).2 ⟨Gh.is_val.2 rfl, (Gh.all_cons rfl).2 ⟨Gh.is_val.2 rfl, rfl⟩⟩⟩
end
end Go.Proofs.YtgcmdnkmnghhaaaGreatDoor.wm

/- The contract of locals. -/
set_option linter.unusedVariables false
namespace Go.Proofs.YtgcmdnkmnghhaaaGreatDoor.wm
open Go.RowKit Go.Proofs.YtgcmdnkmnghhaaaGreatDoor.lb
theorem wi_Own_keep {S : Nat → Prop} {w w' : World} {B : Nat} {v : Value} {xs : List Int} (h : wi.Own w B v xs) (k : Keep S w w') (hs : ∀ i, B ≤ i → i < w.heap.size → ¬ S i) : wi.Own w' B v xs := by
  obtain ⟨h1, h2⟩ := h
  refine ⟨h1, ?_⟩
  rcases h2 with h2 | ⟨g, cap, cur, rfl, hb, hg, h3⟩
  · exact .inl h2
  · have hl : g < w.heap.size := (Array.getElem?_eq_some_iff.1 hg).1
    exact .inr ⟨g, cap, cur, rfl, hb, (k.block g hl (hs g hb hl)).trans hg, h3⟩
theorem Keep.down {S : Nat → Prop} {a b c : World} (h : Keep S a b) (k : Below a.heap.size b c) : Keep S a c :=
  ⟨k.os.trans h.os, k.tape.trans h.tape, k.output.trans h.output, Nat.le_trans h.size k.size, fun i hi hn => (k.block i hi).trans (h.block i hi hn)⟩
theorem Rr.down {w0 : World} {ao : Option Addr} {cap : Nat} {l : List Int} {r e p B : Nat} {w w' : World} (h : Rr w0 ao cap l r e p w) (k : Below B w w') (hr : r < B) : Rr w0 ao cap l r e p w' :=
  ⟨h.low.trans (k.mono (by have := h.hB; omega)), (k.block r hr).trans h.blk, h.hB, h.hp, h.he⟩
theorem rows_ok {k : Nat} {acc : List Int} {l : List Int} {e p q q2 : Nat} {c t : Int} (h1 : pMost (32 - acc.length) l e p = .ok c q) (h2 : pKind l e q = .ok t q2) : pRows (k + 1) acc l e p = pRows k (acc ++ List.replicate c.toNat t) l e q2 :=
  (P.bind_ok h1).trans (P.bind_ok h2)
theorem rows_bad1 {k : Nat} {acc : List Int} {l : List Int} {e p : Nat} {w a : Int} (h1 : pMost (32 - acc.length) l e p = .bad w a) : pRows (k + 1) acc l e p = .bad w a := P.bind_bad h1
theorem rows_bad2 {k : Nat} {acc : List Int} {l : List Int} {e p q : Nat} {c : Int} {w a : Int} (h1 : pMost (32 - acc.length) l e p = .ok c q) (h2 : pKind l e q = .bad w a) : pRows (k + 1) acc l e p = .bad w a :=
  (P.bind_ok h1).trans (P.bind_bad h2)

/-- where the loop of rows stands -/
structure LS (w0 : World) (ao : Option Addr) (cap : Nat) (l : List Int) (r e : Nat) (w : World) (acc : List Int) (q : Nat) (v : Value) (wr : World) : Prop where
  rr : Rr w0 ao cap l r e q wr
  keep : Keep (· = r) w wr
  own : wi.Own wr w.heap.size v acc
  hr : r < w.heap.size
section
variable {w0 : World} {ao : Option Addr} {cap : Nat} {l : List Int}
theorem LS.call {r e q q2 : Nat} {w wr w2 : World} {acc : List Int} {v : Value} (h : LS w0 ao cap l r e w acc q v wr) (k : Keep (· = r) wr w2) (hr : Rr w0 ao cap l r e q2 w2) : LS w0 ao cap l r e w acc q2 v w2 :=
  ⟨hr, h.keep.trans k, wi_Own_keep h.own k (fun i h1 h2 e => by have := h.hr; omega), h.hr⟩
theorem LS.app {r e q : Nat} {w wr w2 : World} {acc acc2 : List Int} {v v2 : Value} (h : LS w0 ao cap l r e w acc q v wr) (ho : wi.Own w2 w.heap.size v2 acc2) (hb : Below w.heap.size wr w2) : LS w0 ao cap l r e w acc2 q v2 w2 :=
  ⟨h.rr.down hb h.hr, h.keep.down hb, ho, h.hr⟩

set_option maxRecDepth 100000 in
set_option maxHeartbeats 1000000 in
theorem locals_any (c : Ctx w0 ao cap l) (r e p : Nat) (w : World) (h : Rr w0 ao cap l r e p w) :
    Calls Tryz.prog 195 #[.pointer (some ⟨r, 0, none⟩)] w (Out (· = r) w0 ao cap l r e w (VR 1 gI w.heap.size) (pLocals l e p)) := by
  have HM := most_any c r e p w h 32
  have hr := h.blk.lt
  have hp := h.hp
  have he := h.he
  have hb := fun k => (c.bd k).1
  have HC := Lib.hid c
  cases hm : pMost 32 l e p with
  | bad why a =>
    have HX := Lib.hid (show pLocals l e p = .bad why a from P.bind_bad hm)
    rw [hm] at HM
    have HM := Lib.hid HM
    clear hm h c
    go_enter Tryz.func195, Tryz.ntmps195
    go_wp2_with fail
    refine HM.out.mono ?_
    rintro en w1 ⟨k1, rfl⟩
    exact ⟨rfl, Out.wrong HX.out k1⟩
  | ok m q =>
    rw [hm] at HM
    obtain ⟨m0, m1, _, _⟩ := most_bd hb hp he hm
    obtain ⟨n, rfl⟩ := Int.eq_ofNat_of_zero_le m0
    have hX : pLocals l e p = pRows n [] l e q := P.bind_ok hm
    have HX := Lib.hid hX
    have HM := Lib.hid HM
    have HB := Lib.hid hb
    clear hm h c hX hb m0
    go_enter Tryz.func195, Tryz.ntmps195
    go_wp2_with fail
    refine HM.out.mono ?_
    rintro en w1 ⟨k1, v, rfl, rfl, r1⟩
    have R1 := Lib.hid r1
    have K1 := Lib.hid k1
    clear r1 k1
    go_wp2
    go_loopw [3, 8] (fun v y wr => ∃ (i : Nat) (acc : List Int) (qi : Nat), y = .int .i64 i ∧ i ≤ n ∧ acc.length ≤ 32 ∧ Hid (pRows n [] l e q = pRows (n - i) acc l e qi) ∧ Hid (LS w0 ao cap l r e w acc qi v wr)) (fun _ y _ => n - (intOf y).toNat)
    case atStart => exact ⟨0, [], q, rfl, Nat.zero_le _, by decide, rfl, ⟨R1.out, K1.out, wi.Own.nil _ _, hr⟩⟩
    case round =>
      obtain ⟨i, acc, qi, rfl, hi, hlen, HQ, HL⟩ := hrel
      obtain ⟨vo, vc, rfl, _⟩ := HL.out.own.rd.data
      by_cases hlt : i < n
      · have hs : n - i = (n - (i + 1)) + 1 := by omega
        have hilt : (i : Int) < n := by omega
        have hq1 := HL.out.rr.hp
        cases hx1 : pMost (32 - acc.length) l e qi with
        | bad why a =>
          have HX2 := Lib.hid (show pLocals l e p = .bad why a from HX.out.trans (HQ.out.trans (by rw [hs]; exact rows_bad1 hx1)))
          have HX1 := Lib.hid hx1
          clear hs hx1
          go_wp2_with fail
          refine (most_any HC.out r e qi _ HL.out.rr _).mono ?_
          rintro en w2 h2
          obtain ⟨k2, rfl⟩ := h2.bad_elim HX1.out
          exact ⟨rfl, Out.wrong HX2.out (HL.out.keep.trans k2)⟩
        | ok c1 q1 =>
          obtain ⟨c0, c2, _, _⟩ := most_bd HB.out hq1 he hx1
          obtain ⟨cn, rfl⟩ := Int.eq_ofNat_of_zero_le c0
          cases hx2 : pKind l e q1 with
          | bad why a =>
            have HX2 := Lib.hid (show pLocals l e p = .bad why a from HX.out.trans (HQ.out.trans (by rw [hs]; exact rows_bad2 hx1 hx2)))
            have HX1 := Lib.hid hx1
            have HX3 := Lib.hid hx2
            clear hs hx1 hx2
            go_wp2_with fail
            refine (most_any HC.out r e qi _ HL.out.rr _).mono ?_
            rintro en w2 h2
            obtain ⟨k2, v2, rfl, hv2, r2⟩ := h2.ok_elim HX1.out
            obtain rfl : v2 = .int .i64 cn := hv2
            go_wp2_with fail
            refine (kind_any HC.out r e q1 _ r2).mono ?_
            rintro en w3 h3
            obtain ⟨k3, rfl⟩ := h3.bad_elim HX3.out
            exact ⟨rfl, Out.wrong HX2.out ((HL.out.keep.trans k2).trans k3)⟩
          | ok t q2 =>
            have HQ2 := Lib.hid (show pRows n [] l e q = pRows (n - (i + 1)) (acc ++ List.replicate cn t) l e q2 from HQ.out.trans (by rw [hs]; exact rows_ok hx1 hx2))
            have HX1 := Lib.hid hx1
            have HX3 := Lib.hid hx2
            clear hs hx1 hx2 hq1
            go_wp2_with fail
            refine (most_any HC.out r e qi _ HL.out.rr _).mono ?_
            rintro en w2 h2
            obtain ⟨k2, v2, rfl, hv2, r2⟩ := h2.ok_elim HX1.out
            obtain rfl : v2 = .int .i64 cn := hv2
            have L2 := Lib.hid (HL.out.call k2 r2)
            clear k2 r2 h2 HL
            go_wp2_with fail
            refine (kind_any HC.out r e q1 _ L2.out.rr).mono ?_
            rintro en w3 h3
            obtain ⟨k3, v3, rfl, hv3, r3⟩ := h3.ok_elim HX3.out
            obtain rfl : v3 = .int .i64 t := hv3
            have L3 := Lib.hid (L2.out.call k3 r3)
            clear k3 r3 h3 L2
            go_wp2
            go_loopw [3, 18] (fun v y wx => ∃ (j : Nat), y = .int .i64 j ∧ j ≤ cn ∧ Hid (LS w0 ao cap l r e w (acc ++ List.replicate j t) q2 v wx)) (fun _ y _ => cn - (intOf y).toNat)
            case atStart => exact ⟨0, rfl, Nat.zero_le _, by rw [List.replicate_zero, List.append_nil]; exact L3.out⟩
            case round =>
              obtain ⟨j, rfl, hj, HJ⟩ := hrel
              by_cases hjl : j < cn
              · have hjlt : (j : Int) < cn := by omega
                have hsn : acc ++ List.replicate (j + 1) t = (acc ++ List.replicate j t) ++ [t] := by rw [List.replicate_succ', List.append_assoc]
                have HS := Lib.hid hsn
                have hln : (acc ++ List.replicate j t).length + 1 ≤ 4398046511104 := by rw [List.length_append, List.length_replicate]; omega
                have hsz : w.heap.size ≤ wr.heap.size := HJ.out.keep.size
                have HSZ := Lib.hid hsz
                have HLN := Lib.hid hln
                clear hsn hln hsz
                go_wp2_with (at_builtin; refine wi.wpList_append_byte (w0 := wr) _ _ rfl rfl rfl HJ.out.own t rfl HLN.out HSZ.out (Below.refl _ _) ?_; intro v' w' ho hb)
                have HN := Lib.hid (HJ.out.app (HS.out ▸ ho) hb)
                go_roundw
                case rel => exact ⟨j + 1, by go_num, by omega, HN.out⟩
                case measure => simp [intOf]; omega
              · have hjc : j = cn := by omega
                subst hjc
                go_wp2
                go_roundw
                case rel => exact ⟨i + 1, _, q2, by go_num, by omega, by rw [List.length_append, List.length_replicate]; omega, HQ2.out, HJ.out⟩
                case measure => simp [intOf]; omega
      · have hin : i = n := by omega
        subst hin
        have HX2 := Lib.hid (show pLocals l e p = .ok acc qi from HX.out.trans (HQ.out.trans (by rw [Nat.sub_self]; rfl)))
        go_wp2
        go_ret
        exact Out.good HX2.out HL.out.keep (own_is HL.out.own) HL.out.rr
end
end Go.Proofs.YtgcmdnkmnghhaaaGreatDoor.wm

/- The contract of data: printed by gen_data.py. -/
set_option linter.unusedVariables false
namespace Go.Proofs.YtgcmdnkmnghhaaaGreatDoor.wm
open Go.RowKit Go.Proofs.YtgcmdnkmnghhaaaGreatDoor.lb
section
variable {w0 : World} {ao : Option Addr} {cap : Nat} {l : List Int}
theorem low_bd {l : List Int} {e p q : Nat} {n : Int} (h : pLow l e p = .ok n q) : 0 ≤ n ∧ n < 4294967296 := by
  cases hx : pS32 l e p with
  | bad w a => rw [show pLow l e p = .bad w a from P.bind_bad hx] at h; cases h
  | ok m q' =>
    rw [show pLow l e p = _ from P.bind_ok hx] at h
    simp only [P.ret, Res.ok.injEq] at h
    omega

set_option maxRecDepth 100000 in
theorem data_any (c : Ctx w0 ao cap l) (r e p : Nat) (w : World) (h : Rr w0 ao cap l r e p w) :
    Calls Tryz.prog 169 #[.pointer (some ⟨r, 0, none⟩)] w (Out (· = r) w0 ao cap l r e w (VA2 gData w.heap.size) (pData l e p)) := by
  have hr := h.blk.lt
  have HC := Lib.hid c
  have R0 := Lib.hid h
  have hb := fun k => (c.bd k).1
  have hp := h.hp
  have hel := h.he
  have he0 : p < e → 0 < e := by omega
  have c1 : (w.alloc (.cells #[.int .i64 0, .slice none 0 0] 85)).cell? ⟨r, 1, none⟩ = some (.int .i64 (p : Int)) := (h.below (made1 _ _)).blk.c1
  have HR0 := Lib.hid (Row.new w #[.int .i64 0, .slice none 0 0] 85)
  cases hx1 : pU l e p with
  | bad why a =>
    have HX := Lib.hid (show pData l e p = .bad why a from P.bind_bad hx1)
    have HX1 := Lib.hid hx1
    clear h c hb hx1
    go_enter Tryz.func169, Tryz.ntmps169
    go_wp2_with fail
    refine (u_any HC.out r e p _ (R0.out.below (made1 w _))).mono ?_
    rintro en w1 h1
    obtain ⟨k1, rfl⟩ := h1.bad_elim HX1.out
    exact ⟨rfl, Out.wrong HX.out ((Keep.of (made1 w _)).trans k1)⟩
  | ok z q1 =>
    by_cases hx2 : z ≠ 0
    · have HX := Lib.hid (show pData l e p = .bad 6 p from (P.bind_ok hx1).trans ((P.ite_pos hx2).trans rfl))
      have HX1 := Lib.hid hx1
      have hd : (z != 0) = true := by simpa using hx2
      clear h c hb hx1 hx2
      go_enter Tryz.func169, Tryz.ntmps169
      go_wp2_with fail
      refine (u_any HC.out r e p _ (R0.out.below (made1 w _))).mono ?_
      rintro en w1 h1
      obtain ⟨k1, v1, rfl, hv1, r1⟩ := h1.ok_elim HX1.out
      obtain rfl : v1 = .int .i64 z := hv1
      have R1 := Lib.hid r1
      have K1 := Lib.hid ((Keep.of (made1 w _)).trans k1)
      have HR1 := Lib.hid (HR0.out.keep k1 (by omega))
      have S1 : w.heap.size + 1 ≤ w1.heap.size := by have := HR1.out.lt; omega
      have KK1 := Lib.hid k1
      clear h1 r1 k1
      go_wp2_with fail
      refine (fail_any _ _ _).mono ?_
      rintro en w2 ⟨rfl, rfl⟩
      exact ⟨rfl, Out.wrong HX.out K1.out⟩
    · have hd : (z != 0) = false := by simpa using hx2
      cases hx3 : pOne [65] [] l e q1 with
      | bad why a =>
        have HX := Lib.hid (show pData l e p = .bad why a from (P.bind_ok hx1).trans ((P.ite_neg hx2).trans (P.bind_bad hx3)))
        have HX1 := Lib.hid hx1
        have HX3 := Lib.hid hx3
        clear h c hb hx1 hx2 hx3
        go_enter Tryz.func169, Tryz.ntmps169
        go_wp2_with fail
        refine (u_any HC.out r e p _ (R0.out.below (made1 w _))).mono ?_
        rintro en w1 h1
        obtain ⟨k1, v1, rfl, hv1, r1⟩ := h1.ok_elim HX1.out
        obtain rfl : v1 = .int .i64 z := hv1
        have R1 := Lib.hid r1
        have K1 := Lib.hid ((Keep.of (made1 w _)).trans k1)
        have HR1 := Lib.hid (HR0.out.keep k1 (by omega))
        have S1 : w.heap.size + 1 ≤ w1.heap.size := by have := HR1.out.lt; omega
        have KK1 := Lib.hid k1
        clear h1 r1 k1
        go_wp2_with fail
        refine (one1 HC.out r e q1 _ R1.out [65] #[.int .i64 65] rfl 1 rfl (by decide)).mono ?_
        rintro en w3 h3
        obtain ⟨k3, rfl⟩ := h3.bad_elim HX3.out
        exact ⟨rfl, Out.wrong HX.out (K1.out.trans k3)⟩
      | ok y q3 =>
        cases hx4 : pLow l e q3 with
        | bad why a =>
          have HX := Lib.hid (show pData l e p = .bad why a from (P.bind_ok hx1).trans ((P.ite_neg hx2).trans ((P.bind_ok hx3).trans (P.bind_bad hx4))))
          have HX1 := Lib.hid hx1
          have HX3 := Lib.hid hx3
          have HX4 := Lib.hid hx4
          clear h c hb hx1 hx2 hx3 hx4
          go_enter Tryz.func169, Tryz.ntmps169
          go_wp2_with fail
          refine (u_any HC.out r e p _ (R0.out.below (made1 w _))).mono ?_
          rintro en w1 h1
          obtain ⟨k1, v1, rfl, hv1, r1⟩ := h1.ok_elim HX1.out
          obtain rfl : v1 = .int .i64 z := hv1
          have R1 := Lib.hid r1
          have K1 := Lib.hid ((Keep.of (made1 w _)).trans k1)
          have HR1 := Lib.hid (HR0.out.keep k1 (by omega))
          have S1 : w.heap.size + 1 ≤ w1.heap.size := by have := HR1.out.lt; omega
          have KK1 := Lib.hid k1
          clear h1 r1 k1
          go_wp2_with fail
          refine (one1 HC.out r e q1 _ R1.out [65] #[.int .i64 65] rfl 1 rfl (by decide)).mono ?_
          rintro en w3 h3
          obtain ⟨k3, v3, rfl, hv3, r3⟩ := h3.ok_elim HX3.out
          obtain rfl : v3 = .int .i64 y := hv3
          have R3 := Lib.hid r3
          have K3 := Lib.hid (K1.out.trans k3)
          have HR3 := Lib.hid (HR1.out.keep k3 (by omega))
          have S3 : w.heap.size + 1 ≤ w3.heap.size := by have := HR3.out.lt; omega
          have KK3 := Lib.hid k3
          clear h3 r3 k3
          go_wp2_with fail
          refine (low_any HC.out r e q3 _ R3.out).mono ?_
          rintro en w4 h4
          obtain ⟨k4, rfl⟩ := h4.bad_elim HX4.out
          exact ⟨rfl, Out.wrong HX.out (K3.out.trans k4)⟩
        | ok n q4 =>
          obtain ⟨n0, n1⟩ := low_bd hx4
          cases hx5 : pOne [11] [] l e q4 with
          | bad why a =>
            have HX := Lib.hid (show pData l e p = .bad why a from (P.bind_ok hx1).trans ((P.ite_neg hx2).trans ((P.bind_ok hx3).trans ((P.bind_ok hx4).trans (P.bind_bad hx5)))))
            have HX1 := Lib.hid hx1
            have HX3 := Lib.hid hx3
            have HX4 := Lib.hid hx4
            have HX5 := Lib.hid hx5
            clear h c hb hx1 hx2 hx3 hx4 hx5
            go_enter Tryz.func169, Tryz.ntmps169
            go_wp2_with fail
            refine (u_any HC.out r e p _ (R0.out.below (made1 w _))).mono ?_
            rintro en w1 h1
            obtain ⟨k1, v1, rfl, hv1, r1⟩ := h1.ok_elim HX1.out
            obtain rfl : v1 = .int .i64 z := hv1
            have R1 := Lib.hid r1
            have K1 := Lib.hid ((Keep.of (made1 w _)).trans k1)
            have HR1 := Lib.hid (HR0.out.keep k1 (by omega))
            have S1 : w.heap.size + 1 ≤ w1.heap.size := by have := HR1.out.lt; omega
            have KK1 := Lib.hid k1
            clear h1 r1 k1
            go_wp2_with fail
            refine (one1 HC.out r e q1 _ R1.out [65] #[.int .i64 65] rfl 1 rfl (by decide)).mono ?_
            rintro en w3 h3
            obtain ⟨k3, v3, rfl, hv3, r3⟩ := h3.ok_elim HX3.out
            obtain rfl : v3 = .int .i64 y := hv3
            have R3 := Lib.hid r3
            have K3 := Lib.hid (K1.out.trans k3)
            have HR3 := Lib.hid (HR1.out.keep k3 (by omega))
            have S3 : w.heap.size + 1 ≤ w3.heap.size := by have := HR3.out.lt; omega
            have KK3 := Lib.hid k3
            clear h3 r3 k3
            go_wp2_with fail
            refine (low_any HC.out r e q3 _ R3.out).mono ?_
            rintro en w4 h4
            obtain ⟨k4, v4, rfl, hv4, r4⟩ := h4.ok_elim HX4.out
            obtain rfl : v4 = .int .u64 n := hv4
            have R4 := Lib.hid r4
            have K4 := Lib.hid (K3.out.trans k4)
            have HR4 := Lib.hid (HR3.out.keep k4 (by omega))
            have S4 : w.heap.size + 1 ≤ w4.heap.size := by have := HR4.out.lt; omega
            have KK4 := Lib.hid k4
            clear h4 r4 k4
            go_wp2_with fail
            refine (one1 HC.out r e q4 _ R4.out [11] #[.int .i64 11] rfl 1 rfl (by decide)).mono ?_
            rintro en w5 h5
            obtain ⟨k5, rfl⟩ := h5.bad_elim HX5.out
            exact ⟨rfl, Out.wrong HX.out (K4.out.trans k5)⟩
          | ok x q5 =>
            cases hx6 : pMost 4096 l e q5 with
            | bad why a =>
              have HX := Lib.hid (show pData l e p = .bad why a from (P.bind_ok hx1).trans ((P.ite_neg hx2).trans ((P.bind_ok hx3).trans ((P.bind_ok hx4).trans ((P.bind_ok hx5).trans (P.bind_bad hx6))))))
              have HX1 := Lib.hid hx1
              have HX3 := Lib.hid hx3
              have HX4 := Lib.hid hx4
              have HX5 := Lib.hid hx5
              have HX6 := Lib.hid hx6
              clear h c hb hx1 hx2 hx3 hx4 hx5 hx6
              go_enter Tryz.func169, Tryz.ntmps169
              go_wp2_with fail
              refine (u_any HC.out r e p _ (R0.out.below (made1 w _))).mono ?_
              rintro en w1 h1
              obtain ⟨k1, v1, rfl, hv1, r1⟩ := h1.ok_elim HX1.out
              obtain rfl : v1 = .int .i64 z := hv1
              have R1 := Lib.hid r1
              have K1 := Lib.hid ((Keep.of (made1 w _)).trans k1)
              have HR1 := Lib.hid (HR0.out.keep k1 (by omega))
              have S1 : w.heap.size + 1 ≤ w1.heap.size := by have := HR1.out.lt; omega
              have KK1 := Lib.hid k1
              clear h1 r1 k1
              go_wp2_with fail
              refine (one1 HC.out r e q1 _ R1.out [65] #[.int .i64 65] rfl 1 rfl (by decide)).mono ?_
              rintro en w3 h3
              obtain ⟨k3, v3, rfl, hv3, r3⟩ := h3.ok_elim HX3.out
              obtain rfl : v3 = .int .i64 y := hv3
              have R3 := Lib.hid r3
              have K3 := Lib.hid (K1.out.trans k3)
              have HR3 := Lib.hid (HR1.out.keep k3 (by omega))
              have S3 : w.heap.size + 1 ≤ w3.heap.size := by have := HR3.out.lt; omega
              have KK3 := Lib.hid k3
              clear h3 r3 k3
              go_wp2_with fail
              refine (low_any HC.out r e q3 _ R3.out).mono ?_
              rintro en w4 h4
              obtain ⟨k4, v4, rfl, hv4, r4⟩ := h4.ok_elim HX4.out
              obtain rfl : v4 = .int .u64 n := hv4
              have R4 := Lib.hid r4
              have K4 := Lib.hid (K3.out.trans k4)
              have HR4 := Lib.hid (HR3.out.keep k4 (by omega))
              have S4 : w.heap.size + 1 ≤ w4.heap.size := by have := HR4.out.lt; omega
              have KK4 := Lib.hid k4
              clear h4 r4 k4
              go_wp2_with fail
              refine (one1 HC.out r e q4 _ R4.out [11] #[.int .i64 11] rfl 1 rfl (by decide)).mono ?_
              rintro en w5 h5
              obtain ⟨k5, v5, rfl, hv5, r5⟩ := h5.ok_elim HX5.out
              obtain rfl : v5 = .int .i64 x := hv5
              have R5 := Lib.hid r5
              have K5 := Lib.hid (K4.out.trans k5)
              have HR5 := Lib.hid (HR4.out.keep k5 (by omega))
              have S5 : w.heap.size + 1 ≤ w5.heap.size := by have := HR5.out.lt; omega
              have KK5 := Lib.hid k5
              clear h5 r5 k5
              go_wp2_with fail
              refine (most_any HC.out r e q5 _ R5.out 4096).mono ?_
              rintro en w6 h6
              obtain ⟨k6, rfl⟩ := h6.bad_elim HX6.out
              exact ⟨rfl, Out.wrong HX.out (K5.out.trans k6)⟩
            | ok m q6 =>
              have m0 : 0 ≤ m ∧ m < 4294967296 ∧ 0 < e := by
                have h1 := one_q hx5
                have h2 := most_bd hb (by omega) hel hx6
                omega
              have m0e := m0.2.2
              replace m0 := And.intro m0.1 m0.2.1
              cases hx7 : pCopied m l e q6 with
              | bad why a =>
                have HX := Lib.hid (show pData l e p = .bad why a from (P.bind_ok hx1).trans ((P.ite_neg hx2).trans ((P.bind_ok hx3).trans ((P.bind_ok hx4).trans ((P.bind_ok hx5).trans ((P.bind_ok hx6).trans (P.bind_bad hx7)))))))
                have HX1 := Lib.hid hx1
                have HX3 := Lib.hid hx3
                have HX4 := Lib.hid hx4
                have HX5 := Lib.hid hx5
                have HX6 := Lib.hid hx6
                have HX7 := Lib.hid hx7
                clear h c hb hx1 hx2 hx3 hx4 hx5 hx6 hx7
                go_enter Tryz.func169, Tryz.ntmps169
                go_wp2_with fail
                refine (u_any HC.out r e p _ (R0.out.below (made1 w _))).mono ?_
                rintro en w1 h1
                obtain ⟨k1, v1, rfl, hv1, r1⟩ := h1.ok_elim HX1.out
                obtain rfl : v1 = .int .i64 z := hv1
                have R1 := Lib.hid r1
                have K1 := Lib.hid ((Keep.of (made1 w _)).trans k1)
                have HR1 := Lib.hid (HR0.out.keep k1 (by omega))
                have S1 : w.heap.size + 1 ≤ w1.heap.size := by have := HR1.out.lt; omega
                have KK1 := Lib.hid k1
                clear h1 r1 k1
                go_wp2_with fail
                refine (one1 HC.out r e q1 _ R1.out [65] #[.int .i64 65] rfl 1 rfl (by decide)).mono ?_
                rintro en w3 h3
                obtain ⟨k3, v3, rfl, hv3, r3⟩ := h3.ok_elim HX3.out
                obtain rfl : v3 = .int .i64 y := hv3
                have R3 := Lib.hid r3
                have K3 := Lib.hid (K1.out.trans k3)
                have HR3 := Lib.hid (HR1.out.keep k3 (by omega))
                have S3 : w.heap.size + 1 ≤ w3.heap.size := by have := HR3.out.lt; omega
                have KK3 := Lib.hid k3
                clear h3 r3 k3
                go_wp2_with fail
                refine (low_any HC.out r e q3 _ R3.out).mono ?_
                rintro en w4 h4
                obtain ⟨k4, v4, rfl, hv4, r4⟩ := h4.ok_elim HX4.out
                obtain rfl : v4 = .int .u64 n := hv4
                have R4 := Lib.hid r4
                have K4 := Lib.hid (K3.out.trans k4)
                have HR4 := Lib.hid (HR3.out.keep k4 (by omega))
                have S4 : w.heap.size + 1 ≤ w4.heap.size := by have := HR4.out.lt; omega
                have KK4 := Lib.hid k4
                clear h4 r4 k4
                go_wp2_with fail
                refine (one1 HC.out r e q4 _ R4.out [11] #[.int .i64 11] rfl 1 rfl (by decide)).mono ?_
                rintro en w5 h5
                obtain ⟨k5, v5, rfl, hv5, r5⟩ := h5.ok_elim HX5.out
                obtain rfl : v5 = .int .i64 x := hv5
                have R5 := Lib.hid r5
                have K5 := Lib.hid (K4.out.trans k5)
                have HR5 := Lib.hid (HR4.out.keep k5 (by omega))
                have S5 : w.heap.size + 1 ≤ w5.heap.size := by have := HR5.out.lt; omega
                have KK5 := Lib.hid k5
                clear h5 r5 k5
                go_wp2_with fail
                refine (most_any HC.out r e q5 _ R5.out 4096).mono ?_
                rintro en w6 h6
                obtain ⟨k6, v6, rfl, hv6, r6⟩ := h6.ok_elim HX6.out
                obtain rfl : v6 = .int .i64 m := hv6
                have R6 := Lib.hid r6
                have K6 := Lib.hid (K5.out.trans k6)
                have HR6 := Lib.hid (HR5.out.keep k6 (by omega))
                have S6 : w.heap.size + 1 ≤ w6.heap.size := by have := HR6.out.lt; omega
                have KK6 := Lib.hid k6
                clear h6 r6 k6
                go_wp2_with fail
                refine (copied_any HC.out r e q6 _ R6.out m m0.1 m0.2 m0e).mono ?_
                rintro en w7 h7
                obtain ⟨k7, rfl⟩ := h7.bad_elim HX7.out
                exact ⟨rfl, Out.wrong HX.out (K6.out.trans k7)⟩
              | ok bs q7 =>
                have HX := Lib.hid (show pData l e p = .ok ⟨n, bs⟩ q7 from (P.bind_ok hx1).trans ((P.ite_neg hx2).trans ((P.bind_ok hx3).trans ((P.bind_ok hx4).trans ((P.bind_ok hx5).trans ((P.bind_ok hx6).trans ((P.bind_ok hx7).trans (rfl))))))))
                have HX1 := Lib.hid hx1
                have HX3 := Lib.hid hx3
                have HX4 := Lib.hid hx4
                have HX5 := Lib.hid hx5
                have HX6 := Lib.hid hx6
                have HX7 := Lib.hid hx7
                clear h c hb hx1 hx2 hx3 hx4 hx5 hx6 hx7
                go_enter Tryz.func169, Tryz.ntmps169
                go_wp2_with fail
                refine (u_any HC.out r e p _ (R0.out.below (made1 w _))).mono ?_
                rintro en w1 h1
                obtain ⟨k1, v1, rfl, hv1, r1⟩ := h1.ok_elim HX1.out
                obtain rfl : v1 = .int .i64 z := hv1
                have R1 := Lib.hid r1
                have K1 := Lib.hid ((Keep.of (made1 w _)).trans k1)
                have HR1 := Lib.hid (HR0.out.keep k1 (by omega))
                have S1 : w.heap.size + 1 ≤ w1.heap.size := by have := HR1.out.lt; omega
                have KK1 := Lib.hid k1
                clear h1 r1 k1
                go_wp2_with fail
                refine (one1 HC.out r e q1 _ R1.out [65] #[.int .i64 65] rfl 1 rfl (by decide)).mono ?_
                rintro en w3 h3
                obtain ⟨k3, v3, rfl, hv3, r3⟩ := h3.ok_elim HX3.out
                obtain rfl : v3 = .int .i64 y := hv3
                have R3 := Lib.hid r3
                have K3 := Lib.hid (K1.out.trans k3)
                have HR3 := Lib.hid (HR1.out.keep k3 (by omega))
                have S3 : w.heap.size + 1 ≤ w3.heap.size := by have := HR3.out.lt; omega
                have KK3 := Lib.hid k3
                clear h3 r3 k3
                go_wp2_with fail
                refine (low_any HC.out r e q3 _ R3.out).mono ?_
                rintro en w4 h4
                obtain ⟨k4, v4, rfl, hv4, r4⟩ := h4.ok_elim HX4.out
                obtain rfl : v4 = .int .u64 n := hv4
                have R4 := Lib.hid r4
                have K4 := Lib.hid (K3.out.trans k4)
                have HR4 := Lib.hid (HR3.out.keep k4 (by omega))
                have S4 : w.heap.size + 1 ≤ w4.heap.size := by have := HR4.out.lt; omega
                have KK4 := Lib.hid k4
                clear h4 r4 k4
                go_wp2_with fail
                refine (one1 HC.out r e q4 _ R4.out [11] #[.int .i64 11] rfl 1 rfl (by decide)).mono ?_
                rintro en w5 h5
                obtain ⟨k5, v5, rfl, hv5, r5⟩ := h5.ok_elim HX5.out
                obtain rfl : v5 = .int .i64 x := hv5
                have R5 := Lib.hid r5
                have K5 := Lib.hid (K4.out.trans k5)
                have HR5 := Lib.hid (HR4.out.keep k5 (by omega))
                have S5 : w.heap.size + 1 ≤ w5.heap.size := by have := HR5.out.lt; omega
                have KK5 := Lib.hid k5
                clear h5 r5 k5
                go_wp2_with fail
                refine (most_any HC.out r e q5 _ R5.out 4096).mono ?_
                rintro en w6 h6
                obtain ⟨k6, v6, rfl, hv6, r6⟩ := h6.ok_elim HX6.out
                obtain rfl : v6 = .int .i64 m := hv6
                have R6 := Lib.hid r6
                have K6 := Lib.hid (K5.out.trans k6)
                have HR6 := Lib.hid (HR5.out.keep k6 (by omega))
                have S6 : w.heap.size + 1 ≤ w6.heap.size := by have := HR6.out.lt; omega
                have KK6 := Lib.hid k6
                clear h6 r6 k6
                go_wp2_with fail
                refine (copied_any HC.out r e q6 _ R6.out m m0.1 m0.2 m0e).mono ?_
                rintro en w7 h7
                obtain ⟨k7, v7, rfl, hv7, r7⟩ := h7.ok_elim HX7.out
                obtain ⟨ao7, cap7, rfl⟩ := VR.slice hv7
                have V7 := Lib.hid hv7
                have R7 := Lib.hid r7
                have K7 := Lib.hid (K6.out.trans k7)
                have HR7 := Lib.hid (HR6.out.keep k7 (by omega))
                have S7 : w.heap.size + 1 ≤ w7.heap.size := by have := HR7.out.lt; omega
                have B7 := Lib.hid (show w.heap.size + 1 ≤ _ from S6)
                have KK7 := Lib.hid k7
                clear h7 r7 k7 hv7
                obtain ⟨u0, d0⟩ := HR7.out.some (k := 0) (by simp)
                have z0 := HR7.out.fz 0
                obtain ⟨u1, d1⟩ := HR7.out.some (k := 1) (by simp)
                have z1 := HR7.out.fz 1
                have KS := Lib.hid (((Keep.refl (fun k => k = w.heap.size) w7).set (p := ⟨w.heap.size, 0, none⟩) (.inl rfl) (.int .i64 n)).set (p := ⟨w.heap.size, 1, none⟩) (.inl rfl) (.slice ao7 bs.length cap7))
                go_wp2
                refine bodyPost_ret (v := .agg #[.int .i64 n, .slice ao7 bs.length cap7]) (by simp [results, Tryz.results169, go_sem, d0, d1]) rfl (Out.good HX.out (K7.out.new KS.out (fun i hi e => by omega)) ⟨_, _, rfl, ?_⟩ (R7.out.other KS.out hr))
                exact (Gh.all_cons rfl).2 ⟨Gh.is_val.2 rfl, (Gh.all_cons rfl).2 ⟨(Gh.is.keep (V7.out) (by have := B7.out; omega) (Same.keep KS.out (fun i h1 h2 e => by have := B7.out; omega))), rfl⟩⟩
end
end Go.Proofs.YtgcmdnkmnghhaaaGreatDoor.wm

/- The contracts of list at its types: printed by gen_list.py. -/
set_option linter.unusedVariables false
namespace Go.Proofs.YtgcmdnkmnghhaaaGreatDoor.wm
open Go.RowKit Go.Proofs.YtgcmdnkmnghhaaaGreatDoor.lb
section
variable {w0 : World} {ao : Option Addr} {cap : Nat} {l : List Int}

theorem make_sigs (n : Nat) (hn : n ≤ 4096) (u : World) : (Instr.makeSlice 23 (.int .i64 n) (.int .i64 n)).run Tryz.prog u =
    .ok (.slice (some ⟨u.heap.size, 0, none⟩) n n) (u.alloc (.cells (madeCells (.agg #[.slice none 0 0, .slice none 0 0] : Value).cells (n * 2)) 42)) := by
  obtain ⟨i0, hi, hz0, hz1, hz2⟩ := info_parts (show (Tryz.prog.info? 42).map (fun i => (i.zero, i.size, i.bytes)) = some (some (.agg #[.slice none 0 0, .slice none 0 0] : Value), 2, 48) by kernel_rfl)
  have h := run_make (P := Tryz.prog) u 23 42 i0 (.agg #[.slice none 0 0, .slice none 0 0]) Tryz.underlying23 hi hz0 .i64 .i64 (n : Int) (n : Int) (by omega) (by omega) (by rw [hz2]; omega) (by omega)
  simpa only [hz1, Int.toNat_natCast] using h

set_option maxRecDepth 100000 in
set_option maxHeartbeats 1000000 in
theorem list_sigs (c : Ctx w0 ao cap l) (r e p : Nat) (w : World) (h : Rr w0 ao cap l r e p w) (limit : Int) (hlim : limit ≤ 4096)
    (hx : ∀ q w', Rr w0 ao cap l r e q w' → Calls Tryz.prog 157 #[.pointer (some ⟨r, 0, none⟩)] w' (Out (· = r) w0 ao cap l r e w' (VA2 gSig w'.heap.size) (pSig l e q))) :
    Calls Tryz.prog 156 #[.pointer (some ⟨r, 0, none⟩), .int .i64 limit, .func (.func 157) #[] #[]] w (Out (· = r) w0 ao cap l r e w (VR 2 gSig w.heap.size) (pList limit pSig l e p)) := by
  have HM := most_any c r e p w h limit
  have hr := h.blk.lt
  have hp := h.hp
  have he := h.he
  have hb := fun k => (c.bd k).1
  cases hm : pMost limit l e p with
  | bad why a =>
    have HX := Lib.hid (show pList limit pSig l e p = .bad why a from P.bind_bad hm)
    rw [hm] at HM
    have HM := Lib.hid HM
    clear hm h c
    go_enter Tryz.func156, Tryz.ntmps156
    go_wp2_with fail
    refine HM.out.mono ?_
    rintro en w1 ⟨k1, rfl⟩
    exact ⟨rfl, Out.wrong HX.out k1⟩
  | ok m q =>
    rw [hm] at HM
    obtain ⟨m0, m1, _, _⟩ := most_bd hb hp he hm
    obtain ⟨n, rfl⟩ := Int.eq_ofNat_of_zero_le m0
    have hX : pList limit pSig l e p = pRep pSig n [] l e q := P.bind_ok hm
    have HX := Lib.hid hX
    have HM := Lib.hid HM
    have HF := Lib.hid hx
    have hmk := make_sigs n (by omega)
    clear hm h c hX hb m0 hx
    go_enter Tryz.func156, Tryz.ntmps156
    go_wp2_with fail
    refine HM.out.mono ?_
    rintro en w1 ⟨k1, v, rfl, rfl, r1⟩
    have R1 := Lib.hid r1
    have K1 := Lib.hid k1
    clear r1 k1
    go_wp2
    go_loopw [15] (fun y wr => ∃ (i : Nat) (acc : List GSig) (qi : Nat), y = .int .i64 i ∧ i ≤ n ∧ acc.length = i ∧ Hid (pRep pSig n [] l e q = pRep pSig (n - i) acc l e qi) ∧ Hid (LI 2 gSig 42 w0 ao cap l r e w w1.heap.size n acc qi wr)) (fun y _ => n - (intOf y).toNat)
    case atStart => exact ⟨0, [], q, rfl, Nat.zero_le _, rfl, rfl, LI.start R1.out K1.out hr _ _ (by omega)⟩
    case round =>
      obtain ⟨i, acc, qi, rfl, hi, hlen, HQ, HL⟩ := hrel
      generalize w1.heap.size = g at HL ⊢
      by_cases hlt : i < n
      · have hs : n - i = (n - (i + 1)) + 1 := by omega
        have hilt : (i : Int) < n := by omega
        cases hxe : pSig l e qi with
        | bad why a =>
          have HX2 := Lib.hid (show pList limit pSig l e p = .bad why a from HX.out.trans (HQ.out.trans (by rw [hs]; exact pRep_bad hxe)))
          have HXe := Lib.hid hxe
          clear hs hxe
          go_wp2_with fail
          refine (HF.out qi _ HL.out.rr).mono ?_
          rintro en w2 h2
          obtain ⟨k2, rfl⟩ := h2.bad_elim HXe.out
          exact ⟨rfl, Out.wrong HX2.out (HL.out.keep.trans k2)⟩
        | ok a q2 =>
          have HQ2 := Lib.hid (show pRep pSig n [] l e q = pRep pSig (n - (i + 1)) (acc ++ [a]) l e q2 from HQ.out.trans (by rw [hs]; exact pRep_ok hxe))
          have HXe := Lib.hid hxe
          clear hs hxe
          go_wp2_with fail
          refine (HF.out qi _ HL.out.rr).mono ?_
          rintro en w2 h2
          obtain ⟨k2, v, rfl, hv, r2⟩ := h2.ok_elim HXe.out
          obtain ⟨c0, c1, rfl, hv⟩ := hv
          obtain ⟨⟨a0, n0, k0, rfl⟩, a1, n1, k1, rfl⟩ := open_sig hv
          have hrow := HL.out.row.keep k2 (by have := HL.out.hg; have := HL.out.hr; omega)
          obtain ⟨u0, d0⟩ := hrow.some (k := i * 2) (by omega)
          have z0 := hrow.fz (i * 2)
          obtain ⟨u1, d1⟩ := hrow.some (k := i * 2 + 1) (by omega)
          have z1 := hrow.fz (i * 2 + 1)
          have HN := Lib.hid (HL.out.set2 k2 r2 (a := a) hv hlen.symm hlt)
          have hl2 : (acc ++ [a]).length = i + 1 := by rw [List.length_append, hlen]; rfl
          have HL2 := Lib.hid hl2
          clear hrow k2 r2 hl2 HL hv
          go_wp2
          go_roundw
          case rel => exact ⟨i + 1, acc ++ [a], q2, by go_num, by omega, HL2.out, HQ2.out, HN.out⟩
          case measure => simp [intOf]; omega
      · have hin : i = n := by omega
        subst hin
        have HX2 := Lib.hid (show pList limit pSig l e p = .ok acc qi from HX.out.trans (HQ.out.trans (by rw [Nat.sub_self]; rfl)))
        go_wp2
        go_ret
        exact Out.good HX2.out HL.out.keep (HL.out.fin hlen) HL.out.rr

theorem make_imports (n : Nat) (hn : n ≤ 4096) (u : World) : (Instr.makeSlice 24 (.int .i64 n) (.int .i64 n)).run Tryz.prog u =
    .ok (.slice (some ⟨u.heap.size, 0, none⟩) n n) (u.alloc (.cells (madeCells (.agg #[.string { data := #[] }, .string { data := #[] }, .int .i64 0] : Value).cells (n * 3)) 77)) := by
  obtain ⟨i0, hi, hz0, hz1, hz2⟩ := info_parts (show (Tryz.prog.info? 77).map (fun i => (i.zero, i.size, i.bytes)) = some (some (.agg #[.string { data := #[] }, .string { data := #[] }, .int .i64 0] : Value), 3, 40) by kernel_rfl)
  have h := run_make (P := Tryz.prog) u 24 77 i0 (.agg #[.string { data := #[] }, .string { data := #[] }, .int .i64 0]) Tryz.underlying24 hi hz0 .i64 .i64 (n : Int) (n : Int) (by omega) (by omega) (by rw [hz2]; omega) (by omega)
  simpa only [hz1, Int.toNat_natCast] using h

set_option maxRecDepth 100000 in
set_option maxHeartbeats 1000000 in
theorem list_imports (c : Ctx w0 ao cap l) (r e p : Nat) (w : World) (h : Rr w0 ao cap l r e p w) (limit : Int) (hlim : limit ≤ 4096)
    (hx : ∀ q w', Rr w0 ao cap l r e q w' → Calls Tryz.prog 159 #[.pointer (some ⟨r, 0, none⟩)] w' (Out (· = r) w0 ao cap l r e w' (VA3 gImport w'.heap.size) (pImport l e q))) :
    Calls Tryz.prog 158 #[.pointer (some ⟨r, 0, none⟩), .int .i64 limit, .func (.func 159) #[] #[]] w (Out (· = r) w0 ao cap l r e w (VR 3 gImport w.heap.size) (pList limit pImport l e p)) := by
  have HM := most_any c r e p w h limit
  have hr := h.blk.lt
  have hp := h.hp
  have he := h.he
  have hb := fun k => (c.bd k).1
  cases hm : pMost limit l e p with
  | bad why a =>
    have HX := Lib.hid (show pList limit pImport l e p = .bad why a from P.bind_bad hm)
    rw [hm] at HM
    have HM := Lib.hid HM
    clear hm h c
    go_enter Tryz.func158, Tryz.ntmps158
    go_wp2_with fail
    refine HM.out.mono ?_
    rintro en w1 ⟨k1, rfl⟩
    exact ⟨rfl, Out.wrong HX.out k1⟩
  | ok m q =>
    rw [hm] at HM
    obtain ⟨m0, m1, _, _⟩ := most_bd hb hp he hm
    obtain ⟨n, rfl⟩ := Int.eq_ofNat_of_zero_le m0
    have hX : pList limit pImport l e p = pRep pImport n [] l e q := P.bind_ok hm
    have HX := Lib.hid hX
    have HM := Lib.hid HM
    have HF := Lib.hid hx
    have hmk := make_imports n (by omega)
    clear hm h c hX hb m0 hx
    go_enter Tryz.func158, Tryz.ntmps158
    go_wp2_with fail
    refine HM.out.mono ?_
    rintro en w1 ⟨k1, v, rfl, rfl, r1⟩
    have R1 := Lib.hid r1
    have K1 := Lib.hid k1
    clear r1 k1
    go_wp2
    go_loopw [15] (fun y wr => ∃ (i : Nat) (acc : List GImport) (qi : Nat), y = .int .i64 i ∧ i ≤ n ∧ acc.length = i ∧ Hid (pRep pImport n [] l e q = pRep pImport (n - i) acc l e qi) ∧ Hid (LI 3 gImport 77 w0 ao cap l r e w w1.heap.size n acc qi wr)) (fun y _ => n - (intOf y).toNat)
    case atStart => exact ⟨0, [], q, rfl, Nat.zero_le _, rfl, rfl, LI.start R1.out K1.out hr _ _ (by omega)⟩
    case round =>
      obtain ⟨i, acc, qi, rfl, hi, hlen, HQ, HL⟩ := hrel
      generalize w1.heap.size = g at HL ⊢
      by_cases hlt : i < n
      · have hs : n - i = (n - (i + 1)) + 1 := by omega
        have hilt : (i : Int) < n := by omega
        cases hxe : pImport l e qi with
        | bad why a =>
          have HX2 := Lib.hid (show pList limit pImport l e p = .bad why a from HX.out.trans (HQ.out.trans (by rw [hs]; exact pRep_bad hxe)))
          have HXe := Lib.hid hxe
          clear hs hxe
          go_wp2_with fail
          refine (HF.out qi _ HL.out.rr).mono ?_
          rintro en w2 h2
          obtain ⟨k2, rfl⟩ := h2.bad_elim HXe.out
          exact ⟨rfl, Out.wrong HX2.out (HL.out.keep.trans k2)⟩
        | ok a q2 =>
          have HQ2 := Lib.hid (show pRep pImport n [] l e q = pRep pImport (n - (i + 1)) (acc ++ [a]) l e q2 from HQ.out.trans (by rw [hs]; exact pRep_ok hxe))
          have HXe := Lib.hid hxe
          clear hs hxe
          go_wp2_with fail
          refine (HF.out qi _ HL.out.rr).mono ?_
          rintro en w2 h2
          obtain ⟨k2, v, rfl, hv, r2⟩ := h2.ok_elim HXe.out
          obtain ⟨c0, c1, c2, rfl, hv⟩ := hv
          obtain ⟨rfl, rfl, rfl⟩ := open_import hv
          have hrow := HL.out.row.keep k2 (by have := HL.out.hg; have := HL.out.hr; omega)
          obtain ⟨u0, d0⟩ := hrow.some (k := i * 3) (by omega)
          have z0 := hrow.fz (i * 3)
          obtain ⟨u1, d1⟩ := hrow.some (k := i * 3 + 1) (by omega)
          have z1 := hrow.fz (i * 3 + 1)
          obtain ⟨u2, d2⟩ := hrow.some (k := i * 3 + 2) (by omega)
          have z2 := hrow.fz (i * 3 + 2)
          have HN := Lib.hid (HL.out.set3 k2 r2 (a := a) hv hlen.symm hlt)
          have hl2 : (acc ++ [a]).length = i + 1 := by rw [List.length_append, hlen]; rfl
          have HL2 := Lib.hid hl2
          clear hrow k2 r2 hl2 HL hv
          go_wp2
          go_roundw
          case rel => exact ⟨i + 1, acc ++ [a], q2, by go_num, by omega, HL2.out, HQ2.out, HN.out⟩
          case measure => simp [intOf]; omega
      · have hin : i = n := by omega
        subst hin
        have HX2 := Lib.hid (show pList limit pImport l e p = .ok acc qi from HX.out.trans (HQ.out.trans (by rw [Nat.sub_self]; rfl)))
        go_wp2
        go_ret
        exact Out.good HX2.out HL.out.keep (HL.out.fin hlen) HL.out.rr

theorem make_funcs (n : Nat) (hn : n ≤ 4096) (u : World) : (Instr.makeSlice 25 (.int .i64 n) (.int .i64 n)).run Tryz.prog u =
    .ok (.slice (some ⟨u.heap.size, 0, none⟩) n n) (u.alloc (.cells (madeCells (.agg #[.int .i64 0, .slice none 0 0, .slice none 0 0] : Value).cells (n * 3)) 52)) := by
  obtain ⟨i0, hi, hz0, hz1, hz2⟩ := info_parts (show (Tryz.prog.info? 52).map (fun i => (i.zero, i.size, i.bytes)) = some (some (.agg #[.int .i64 0, .slice none 0 0, .slice none 0 0] : Value), 3, 56) by kernel_rfl)
  have h := run_make (P := Tryz.prog) u 25 52 i0 (.agg #[.int .i64 0, .slice none 0 0, .slice none 0 0]) Tryz.underlying25 hi hz0 .i64 .i64 (n : Int) (n : Int) (by omega) (by omega) (by rw [hz2]; omega) (by omega)
  simpa only [hz1, Int.toNat_natCast] using h

set_option maxRecDepth 100000 in
set_option maxHeartbeats 1000000 in
theorem list_funcs (c : Ctx w0 ao cap l) (r e p : Nat) (w : World) (h : Rr w0 ao cap l r e p w) (limit : Int) (hlim : limit ≤ 4096)
    (hx : ∀ q w', Rr w0 ao cap l r e q w' → Calls Tryz.prog 161 #[.pointer (some ⟨r, 0, none⟩)] w' (Out (· = r) w0 ao cap l r e w' (VA3 gFunc w'.heap.size) (pDeclared l e q))) :
    Calls Tryz.prog 160 #[.pointer (some ⟨r, 0, none⟩), .int .i64 limit, .func (.func 161) #[] #[]] w (Out (· = r) w0 ao cap l r e w (VR 3 gFunc w.heap.size) (pList limit pDeclared l e p)) := by
  have HM := most_any c r e p w h limit
  have hr := h.blk.lt
  have hp := h.hp
  have he := h.he
  have hb := fun k => (c.bd k).1
  cases hm : pMost limit l e p with
  | bad why a =>
    have HX := Lib.hid (show pList limit pDeclared l e p = .bad why a from P.bind_bad hm)
    rw [hm] at HM
    have HM := Lib.hid HM
    clear hm h c
    go_enter Tryz.func160, Tryz.ntmps160
    go_wp2_with fail
    refine HM.out.mono ?_
    rintro en w1 ⟨k1, rfl⟩
    exact ⟨rfl, Out.wrong HX.out k1⟩
  | ok m q =>
    rw [hm] at HM
    obtain ⟨m0, m1, _, _⟩ := most_bd hb hp he hm
    obtain ⟨n, rfl⟩ := Int.eq_ofNat_of_zero_le m0
    have hX : pList limit pDeclared l e p = pRep pDeclared n [] l e q := P.bind_ok hm
    have HX := Lib.hid hX
    have HM := Lib.hid HM
    have HF := Lib.hid hx
    have hmk := make_funcs n (by omega)
    clear hm h c hX hb m0 hx
    go_enter Tryz.func160, Tryz.ntmps160
    go_wp2_with fail
    refine HM.out.mono ?_
    rintro en w1 ⟨k1, v, rfl, rfl, r1⟩
    have R1 := Lib.hid r1
    have K1 := Lib.hid k1
    clear r1 k1
    go_wp2
    go_loopw [15] (fun y wr => ∃ (i : Nat) (acc : List GFunc) (qi : Nat), y = .int .i64 i ∧ i ≤ n ∧ acc.length = i ∧ Hid (pRep pDeclared n [] l e q = pRep pDeclared (n - i) acc l e qi) ∧ Hid (LI 3 gFunc 52 w0 ao cap l r e w w1.heap.size n acc qi wr)) (fun y _ => n - (intOf y).toNat)
    case atStart => exact ⟨0, [], q, rfl, Nat.zero_le _, rfl, rfl, LI.start R1.out K1.out hr _ _ (by omega)⟩
    case round =>
      obtain ⟨i, acc, qi, rfl, hi, hlen, HQ, HL⟩ := hrel
      generalize w1.heap.size = g at HL ⊢
      by_cases hlt : i < n
      · have hs : n - i = (n - (i + 1)) + 1 := by omega
        have hilt : (i : Int) < n := by omega
        cases hxe : pDeclared l e qi with
        | bad why a =>
          have HX2 := Lib.hid (show pList limit pDeclared l e p = .bad why a from HX.out.trans (HQ.out.trans (by rw [hs]; exact pRep_bad hxe)))
          have HXe := Lib.hid hxe
          clear hs hxe
          go_wp2_with fail
          refine (HF.out qi _ HL.out.rr).mono ?_
          rintro en w2 h2
          obtain ⟨k2, rfl⟩ := h2.bad_elim HXe.out
          exact ⟨rfl, Out.wrong HX2.out (HL.out.keep.trans k2)⟩
        | ok a q2 =>
          have HQ2 := Lib.hid (show pRep pDeclared n [] l e q = pRep pDeclared (n - (i + 1)) (acc ++ [a]) l e q2 from HQ.out.trans (by rw [hs]; exact pRep_ok hxe))
          have HXe := Lib.hid hxe
          clear hs hxe
          go_wp2_with fail
          refine (HF.out qi _ HL.out.rr).mono ?_
          rintro en w2 h2
          obtain ⟨k2, v, rfl, hv, r2⟩ := h2.ok_elim HXe.out
          obtain ⟨c0, c1, c2, rfl, hv⟩ := hv
          obtain ⟨rfl, ⟨a0, n0, k0, rfl⟩, a1, n1, k1, rfl⟩ := open_func hv
          have hrow := HL.out.row.keep k2 (by have := HL.out.hg; have := HL.out.hr; omega)
          obtain ⟨u0, d0⟩ := hrow.some (k := i * 3) (by omega)
          have z0 := hrow.fz (i * 3)
          obtain ⟨u1, d1⟩ := hrow.some (k := i * 3 + 1) (by omega)
          have z1 := hrow.fz (i * 3 + 1)
          obtain ⟨u2, d2⟩ := hrow.some (k := i * 3 + 2) (by omega)
          have z2 := hrow.fz (i * 3 + 2)
          have HN := Lib.hid (HL.out.set3 k2 r2 (a := a) hv hlen.symm hlt)
          have hl2 : (acc ++ [a]).length = i + 1 := by rw [List.length_append, hlen]; rfl
          have HL2 := Lib.hid hl2
          clear hrow k2 r2 hl2 HL hv
          go_wp2
          go_roundw
          case rel => exact ⟨i + 1, acc ++ [a], q2, by go_num, by omega, HL2.out, HQ2.out, HN.out⟩
          case measure => simp [intOf]; omega
      · have hin : i = n := by omega
        subst hin
        have HX2 := Lib.hid (show pList limit pDeclared l e p = .ok acc qi from HX.out.trans (HQ.out.trans (by rw [Nat.sub_self]; rfl)))
        go_wp2
        go_ret
        exact Out.good HX2.out HL.out.keep (HL.out.fin hlen) HL.out.rr

theorem make_globals (n : Nat) (hn : n ≤ 4096) (u : World) : (Instr.makeSlice 26 (.int .i64 n) (.int .i64 n)).run Tryz.prog u =
    .ok (.slice (some ⟨u.heap.size, 0, none⟩) n n) (u.alloc (.cells (madeCells (.agg #[.int .i64 0, .bool false, .int .u64 0] : Value).cells (n * 3)) 108)) := by
  obtain ⟨i0, hi, hz0, hz1, hz2⟩ := info_parts (show (Tryz.prog.info? 108).map (fun i => (i.zero, i.size, i.bytes)) = some (some (.agg #[.int .i64 0, .bool false, .int .u64 0] : Value), 3, 24) by kernel_rfl)
  have h := run_make (P := Tryz.prog) u 26 108 i0 (.agg #[.int .i64 0, .bool false, .int .u64 0]) Tryz.underlying26 hi hz0 .i64 .i64 (n : Int) (n : Int) (by omega) (by omega) (by rw [hz2]; omega) (by omega)
  simpa only [hz1, Int.toNat_natCast] using h

set_option maxRecDepth 100000 in
set_option maxHeartbeats 1000000 in
theorem list_globals (c : Ctx w0 ao cap l) (r e p : Nat) (w : World) (h : Rr w0 ao cap l r e p w) (limit : Int) (hlim : limit ≤ 4096)
    (hx : ∀ q w', Rr w0 ao cap l r e q w' → Calls Tryz.prog 164 #[.pointer (some ⟨r, 0, none⟩)] w' (Out (· = r) w0 ao cap l r e w' (VA3 gGlobal w'.heap.size) (pGlobal l e q))) :
    Calls Tryz.prog 163 #[.pointer (some ⟨r, 0, none⟩), .int .i64 limit, .func (.func 164) #[] #[]] w (Out (· = r) w0 ao cap l r e w (VR 3 gGlobal w.heap.size) (pList limit pGlobal l e p)) := by
  have HM := most_any c r e p w h limit
  have hr := h.blk.lt
  have hp := h.hp
  have he := h.he
  have hb := fun k => (c.bd k).1
  cases hm : pMost limit l e p with
  | bad why a =>
    have HX := Lib.hid (show pList limit pGlobal l e p = .bad why a from P.bind_bad hm)
    rw [hm] at HM
    have HM := Lib.hid HM
    clear hm h c
    go_enter Tryz.func163, Tryz.ntmps163
    go_wp2_with fail
    refine HM.out.mono ?_
    rintro en w1 ⟨k1, rfl⟩
    exact ⟨rfl, Out.wrong HX.out k1⟩
  | ok m q =>
    rw [hm] at HM
    obtain ⟨m0, m1, _, _⟩ := most_bd hb hp he hm
    obtain ⟨n, rfl⟩ := Int.eq_ofNat_of_zero_le m0
    have hX : pList limit pGlobal l e p = pRep pGlobal n [] l e q := P.bind_ok hm
    have HX := Lib.hid hX
    have HM := Lib.hid HM
    have HF := Lib.hid hx
    have hmk := make_globals n (by omega)
    clear hm h c hX hb m0 hx
    go_enter Tryz.func163, Tryz.ntmps163
    go_wp2_with fail
    refine HM.out.mono ?_
    rintro en w1 ⟨k1, v, rfl, rfl, r1⟩
    have R1 := Lib.hid r1
    have K1 := Lib.hid k1
    clear r1 k1
    go_wp2
    go_loopw [15] (fun y wr => ∃ (i : Nat) (acc : List GGlobal) (qi : Nat), y = .int .i64 i ∧ i ≤ n ∧ acc.length = i ∧ Hid (pRep pGlobal n [] l e q = pRep pGlobal (n - i) acc l e qi) ∧ Hid (LI 3 gGlobal 108 w0 ao cap l r e w w1.heap.size n acc qi wr)) (fun y _ => n - (intOf y).toNat)
    case atStart => exact ⟨0, [], q, rfl, Nat.zero_le _, rfl, rfl, LI.start R1.out K1.out hr _ _ (by omega)⟩
    case round =>
      obtain ⟨i, acc, qi, rfl, hi, hlen, HQ, HL⟩ := hrel
      generalize w1.heap.size = g at HL ⊢
      by_cases hlt : i < n
      · have hs : n - i = (n - (i + 1)) + 1 := by omega
        have hilt : (i : Int) < n := by omega
        cases hxe : pGlobal l e qi with
        | bad why a =>
          have HX2 := Lib.hid (show pList limit pGlobal l e p = .bad why a from HX.out.trans (HQ.out.trans (by rw [hs]; exact pRep_bad hxe)))
          have HXe := Lib.hid hxe
          clear hs hxe
          go_wp2_with fail
          refine (HF.out qi _ HL.out.rr).mono ?_
          rintro en w2 h2
          obtain ⟨k2, rfl⟩ := h2.bad_elim HXe.out
          exact ⟨rfl, Out.wrong HX2.out (HL.out.keep.trans k2)⟩
        | ok a q2 =>
          have HQ2 := Lib.hid (show pRep pGlobal n [] l e q = pRep pGlobal (n - (i + 1)) (acc ++ [a]) l e q2 from HQ.out.trans (by rw [hs]; exact pRep_ok hxe))
          have HXe := Lib.hid hxe
          clear hs hxe
          go_wp2_with fail
          refine (HF.out qi _ HL.out.rr).mono ?_
          rintro en w2 h2
          obtain ⟨k2, v, rfl, hv, r2⟩ := h2.ok_elim HXe.out
          obtain ⟨c0, c1, c2, rfl, hv⟩ := hv
          obtain ⟨rfl, rfl, rfl⟩ := open_global hv
          have hrow := HL.out.row.keep k2 (by have := HL.out.hg; have := HL.out.hr; omega)
          obtain ⟨u0, d0⟩ := hrow.some (k := i * 3) (by omega)
          have z0 := hrow.fz (i * 3)
          obtain ⟨u1, d1⟩ := hrow.some (k := i * 3 + 1) (by omega)
          have z1 := hrow.fz (i * 3 + 1)
          obtain ⟨u2, d2⟩ := hrow.some (k := i * 3 + 2) (by omega)
          have z2 := hrow.fz (i * 3 + 2)
          have HN := Lib.hid (HL.out.set3 k2 r2 (a := a) hv hlen.symm hlt)
          have hl2 : (acc ++ [a]).length = i + 1 := by rw [List.length_append, hlen]; rfl
          have HL2 := Lib.hid hl2
          clear hrow k2 r2 hl2 HL hv
          go_wp2
          go_roundw
          case rel => exact ⟨i + 1, acc ++ [a], q2, by go_num, by omega, HL2.out, HQ2.out, HN.out⟩
          case measure => simp [intOf]; omega
      · have hin : i = n := by omega
        subst hin
        have HX2 := Lib.hid (show pList limit pGlobal l e p = .ok acc qi from HX.out.trans (HQ.out.trans (by rw [Nat.sub_self]; rfl)))
        go_wp2
        go_ret
        exact Out.good HX2.out HL.out.keep (HL.out.fin hlen) HL.out.rr

theorem make_exports (n : Nat) (hn : n ≤ 4096) (u : World) : (Instr.makeSlice 27 (.int .i64 n) (.int .i64 n)).run Tryz.prog u =
    .ok (.slice (some ⟨u.heap.size, 0, none⟩) n n) (u.alloc (.cells (madeCells (.agg #[.string { data := #[] }, .int .i64 0, .int .i64 0] : Value).cells (n * 3)) 46)) := by
  obtain ⟨i0, hi, hz0, hz1, hz2⟩ := info_parts (show (Tryz.prog.info? 46).map (fun i => (i.zero, i.size, i.bytes)) = some (some (.agg #[.string { data := #[] }, .int .i64 0, .int .i64 0] : Value), 3, 32) by kernel_rfl)
  have h := run_make (P := Tryz.prog) u 27 46 i0 (.agg #[.string { data := #[] }, .int .i64 0, .int .i64 0]) Tryz.underlying27 hi hz0 .i64 .i64 (n : Int) (n : Int) (by omega) (by omega) (by rw [hz2]; omega) (by omega)
  simpa only [hz1, Int.toNat_natCast] using h

set_option maxRecDepth 100000 in
set_option maxHeartbeats 1000000 in
theorem list_exports (c : Ctx w0 ao cap l) (r e p : Nat) (w : World) (h : Rr w0 ao cap l r e p w) (limit : Int) (hlim : limit ≤ 4096)
    (hx : ∀ q w', Rr w0 ao cap l r e q w' → Calls Tryz.prog 166 #[.pointer (some ⟨r, 0, none⟩)] w' (Out (· = r) w0 ao cap l r e w' (VA3 gExport w'.heap.size) (pExport l e q))) :
    Calls Tryz.prog 165 #[.pointer (some ⟨r, 0, none⟩), .int .i64 limit, .func (.func 166) #[] #[]] w (Out (· = r) w0 ao cap l r e w (VR 3 gExport w.heap.size) (pList limit pExport l e p)) := by
  have HM := most_any c r e p w h limit
  have hr := h.blk.lt
  have hp := h.hp
  have he := h.he
  have hb := fun k => (c.bd k).1
  cases hm : pMost limit l e p with
  | bad why a =>
    have HX := Lib.hid (show pList limit pExport l e p = .bad why a from P.bind_bad hm)
    rw [hm] at HM
    have HM := Lib.hid HM
    clear hm h c
    go_enter Tryz.func165, Tryz.ntmps165
    go_wp2_with fail
    refine HM.out.mono ?_
    rintro en w1 ⟨k1, rfl⟩
    exact ⟨rfl, Out.wrong HX.out k1⟩
  | ok m q =>
    rw [hm] at HM
    obtain ⟨m0, m1, _, _⟩ := most_bd hb hp he hm
    obtain ⟨n, rfl⟩ := Int.eq_ofNat_of_zero_le m0
    have hX : pList limit pExport l e p = pRep pExport n [] l e q := P.bind_ok hm
    have HX := Lib.hid hX
    have HM := Lib.hid HM
    have HF := Lib.hid hx
    have hmk := make_exports n (by omega)
    clear hm h c hX hb m0 hx
    go_enter Tryz.func165, Tryz.ntmps165
    go_wp2_with fail
    refine HM.out.mono ?_
    rintro en w1 ⟨k1, v, rfl, rfl, r1⟩
    have R1 := Lib.hid r1
    have K1 := Lib.hid k1
    clear r1 k1
    go_wp2
    go_loopw [15] (fun y wr => ∃ (i : Nat) (acc : List GExport) (qi : Nat), y = .int .i64 i ∧ i ≤ n ∧ acc.length = i ∧ Hid (pRep pExport n [] l e q = pRep pExport (n - i) acc l e qi) ∧ Hid (LI 3 gExport 46 w0 ao cap l r e w w1.heap.size n acc qi wr)) (fun y _ => n - (intOf y).toNat)
    case atStart => exact ⟨0, [], q, rfl, Nat.zero_le _, rfl, rfl, LI.start R1.out K1.out hr _ _ (by omega)⟩
    case round =>
      obtain ⟨i, acc, qi, rfl, hi, hlen, HQ, HL⟩ := hrel
      generalize w1.heap.size = g at HL ⊢
      by_cases hlt : i < n
      · have hs : n - i = (n - (i + 1)) + 1 := by omega
        have hilt : (i : Int) < n := by omega
        cases hxe : pExport l e qi with
        | bad why a =>
          have HX2 := Lib.hid (show pList limit pExport l e p = .bad why a from HX.out.trans (HQ.out.trans (by rw [hs]; exact pRep_bad hxe)))
          have HXe := Lib.hid hxe
          clear hs hxe
          go_wp2_with fail
          refine (HF.out qi _ HL.out.rr).mono ?_
          rintro en w2 h2
          obtain ⟨k2, rfl⟩ := h2.bad_elim HXe.out
          exact ⟨rfl, Out.wrong HX2.out (HL.out.keep.trans k2)⟩
        | ok a q2 =>
          have HQ2 := Lib.hid (show pRep pExport n [] l e q = pRep pExport (n - (i + 1)) (acc ++ [a]) l e q2 from HQ.out.trans (by rw [hs]; exact pRep_ok hxe))
          have HXe := Lib.hid hxe
          clear hs hxe
          go_wp2_with fail
          refine (HF.out qi _ HL.out.rr).mono ?_
          rintro en w2 h2
          obtain ⟨k2, v, rfl, hv, r2⟩ := h2.ok_elim HXe.out
          obtain ⟨c0, c1, c2, rfl, hv⟩ := hv
          obtain ⟨rfl, rfl, rfl⟩ := open_export hv
          have hrow := HL.out.row.keep k2 (by have := HL.out.hg; have := HL.out.hr; omega)
          obtain ⟨u0, d0⟩ := hrow.some (k := i * 3) (by omega)
          have z0 := hrow.fz (i * 3)
          obtain ⟨u1, d1⟩ := hrow.some (k := i * 3 + 1) (by omega)
          have z1 := hrow.fz (i * 3 + 1)
          obtain ⟨u2, d2⟩ := hrow.some (k := i * 3 + 2) (by omega)
          have z2 := hrow.fz (i * 3 + 2)
          have HN := Lib.hid (HL.out.set3 k2 r2 (a := a) hv hlen.symm hlt)
          have hl2 : (acc ++ [a]).length = i + 1 := by rw [List.length_append, hlen]; rfl
          have HL2 := Lib.hid hl2
          clear hrow k2 r2 hl2 HL hv
          go_wp2
          go_roundw
          case rel => exact ⟨i + 1, acc ++ [a], q2, by go_num, by omega, HL2.out, HQ2.out, HN.out⟩
          case measure => simp [intOf]; omega
      · have hin : i = n := by omega
        subst hin
        have HX2 := Lib.hid (show pList limit pExport l e p = .ok acc qi from HX.out.trans (HQ.out.trans (by rw [Nat.sub_self]; rfl)))
        go_wp2
        go_ret
        exact Out.good HX2.out HL.out.keep (HL.out.fin hlen) HL.out.rr

theorem make_datas (n : Nat) (hn : n ≤ 4096) (u : World) : (Instr.makeSlice 28 (.int .i64 n) (.int .i64 n)).run Tryz.prog u =
    .ok (.slice (some ⟨u.heap.size, 0, none⟩) n n) (u.alloc (.cells (madeCells (.agg #[.int .i64 0, .slice none 0 0] : Value).cells (n * 2)) 85)) := by
  obtain ⟨i0, hi, hz0, hz1, hz2⟩ := info_parts (show (Tryz.prog.info? 85).map (fun i => (i.zero, i.size, i.bytes)) = some (some (.agg #[.int .i64 0, .slice none 0 0] : Value), 2, 32) by kernel_rfl)
  have h := run_make (P := Tryz.prog) u 28 85 i0 (.agg #[.int .i64 0, .slice none 0 0]) Tryz.underlying28 hi hz0 .i64 .i64 (n : Int) (n : Int) (by omega) (by omega) (by rw [hz2]; omega) (by omega)
  simpa only [hz1, Int.toNat_natCast] using h

set_option maxRecDepth 100000 in
set_option maxHeartbeats 1000000 in
theorem list_datas (c : Ctx w0 ao cap l) (r e p : Nat) (w : World) (h : Rr w0 ao cap l r e p w) (limit : Int) (hlim : limit ≤ 4096)
    (hx : ∀ q w', Rr w0 ao cap l r e q w' → Calls Tryz.prog 169 #[.pointer (some ⟨r, 0, none⟩)] w' (Out (· = r) w0 ao cap l r e w' (VA2 gData w'.heap.size) (pData l e q))) :
    Calls Tryz.prog 168 #[.pointer (some ⟨r, 0, none⟩), .int .i64 limit, .func (.func 169) #[] #[]] w (Out (· = r) w0 ao cap l r e w (VR 2 gData w.heap.size) (pList limit pData l e p)) := by
  have HM := most_any c r e p w h limit
  have hr := h.blk.lt
  have hp := h.hp
  have he := h.he
  have hb := fun k => (c.bd k).1
  cases hm : pMost limit l e p with
  | bad why a =>
    have HX := Lib.hid (show pList limit pData l e p = .bad why a from P.bind_bad hm)
    rw [hm] at HM
    have HM := Lib.hid HM
    clear hm h c
    go_enter Tryz.func168, Tryz.ntmps168
    go_wp2_with fail
    refine HM.out.mono ?_
    rintro en w1 ⟨k1, rfl⟩
    exact ⟨rfl, Out.wrong HX.out k1⟩
  | ok m q =>
    rw [hm] at HM
    obtain ⟨m0, m1, _, _⟩ := most_bd hb hp he hm
    obtain ⟨n, rfl⟩ := Int.eq_ofNat_of_zero_le m0
    have hX : pList limit pData l e p = pRep pData n [] l e q := P.bind_ok hm
    have HX := Lib.hid hX
    have HM := Lib.hid HM
    have HF := Lib.hid hx
    have hmk := make_datas n (by omega)
    clear hm h c hX hb m0 hx
    go_enter Tryz.func168, Tryz.ntmps168
    go_wp2_with fail
    refine HM.out.mono ?_
    rintro en w1 ⟨k1, v, rfl, rfl, r1⟩
    have R1 := Lib.hid r1
    have K1 := Lib.hid k1
    clear r1 k1
    go_wp2
    go_loopw [15] (fun y wr => ∃ (i : Nat) (acc : List GData) (qi : Nat), y = .int .i64 i ∧ i ≤ n ∧ acc.length = i ∧ Hid (pRep pData n [] l e q = pRep pData (n - i) acc l e qi) ∧ Hid (LI 2 gData 85 w0 ao cap l r e w w1.heap.size n acc qi wr)) (fun y _ => n - (intOf y).toNat)
    case atStart => exact ⟨0, [], q, rfl, Nat.zero_le _, rfl, rfl, LI.start R1.out K1.out hr _ _ (by omega)⟩
    case round =>
      obtain ⟨i, acc, qi, rfl, hi, hlen, HQ, HL⟩ := hrel
      generalize w1.heap.size = g at HL ⊢
      by_cases hlt : i < n
      · have hs : n - i = (n - (i + 1)) + 1 := by omega
        have hilt : (i : Int) < n := by omega
        cases hxe : pData l e qi with
        | bad why a =>
          have HX2 := Lib.hid (show pList limit pData l e p = .bad why a from HX.out.trans (HQ.out.trans (by rw [hs]; exact pRep_bad hxe)))
          have HXe := Lib.hid hxe
          clear hs hxe
          go_wp2_with fail
          refine (HF.out qi _ HL.out.rr).mono ?_
          rintro en w2 h2
          obtain ⟨k2, rfl⟩ := h2.bad_elim HXe.out
          exact ⟨rfl, Out.wrong HX2.out (HL.out.keep.trans k2)⟩
        | ok a q2 =>
          have HQ2 := Lib.hid (show pRep pData n [] l e q = pRep pData (n - (i + 1)) (acc ++ [a]) l e q2 from HQ.out.trans (by rw [hs]; exact pRep_ok hxe))
          have HXe := Lib.hid hxe
          clear hs hxe
          go_wp2_with fail
          refine (HF.out qi _ HL.out.rr).mono ?_
          rintro en w2 h2
          obtain ⟨k2, v, rfl, hv, r2⟩ := h2.ok_elim HXe.out
          obtain ⟨c0, c1, rfl, hv⟩ := hv
          obtain ⟨rfl, a1, n1, k1, rfl⟩ := open_data hv
          have hrow := HL.out.row.keep k2 (by have := HL.out.hg; have := HL.out.hr; omega)
          obtain ⟨u0, d0⟩ := hrow.some (k := i * 2) (by omega)
          have z0 := hrow.fz (i * 2)
          obtain ⟨u1, d1⟩ := hrow.some (k := i * 2 + 1) (by omega)
          have z1 := hrow.fz (i * 2 + 1)
          have HN := Lib.hid (HL.out.set2 k2 r2 (a := a) hv hlen.symm hlt)
          have hl2 : (acc ++ [a]).length = i + 1 := by rw [List.length_append, hlen]; rfl
          have HL2 := Lib.hid hl2
          clear hrow k2 r2 hl2 HL hv
          go_wp2
          go_roundw
          case rel => exact ⟨i + 1, acc ++ [a], q2, by go_num, by omega, HL2.out, HQ2.out, HN.out⟩
          case measure => simp [intOf]; omega
      · have hin : i = n := by omega
        subst hin
        have HX2 := Lib.hid (show pList limit pData l e p = .ok acc qi from HX.out.trans (HQ.out.trans (by rw [Nat.sub_self]; rfl)))
        go_wp2
        go_ret
        exact Out.good HX2.out HL.out.keep (HL.out.fin hlen) HL.out.rr
end
end Go.Proofs.YtgcmdnkmnghhaaaGreatDoor.wm
