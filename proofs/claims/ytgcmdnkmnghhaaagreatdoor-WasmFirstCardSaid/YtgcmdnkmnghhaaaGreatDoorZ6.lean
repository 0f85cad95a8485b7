/- Put together by program: WOther WBlock WGood WGood2 WOper. -/
import Derived.Test.YtgcmdnkmnghhaaaGreatDoorZ5
import Derived.Test.YtgcmdnkmnghhaaaGreatDoorZ3
import Derived.Deep.RegionHeld3
import Derived.Test.YtgcmdnkmnghhaaaGreatDoorZ2
import Derived.Test.YtgcmdnkmnghhaaaGreatDoorZ4
/- The contract of other. -/
set_option linter.unusedVariables false
set_option linter.unusedSimpArgs false
namespace Go.Proofs.YtgcmdnkmnghhaaaGreatDoor.wm
open Go.RowKit Go.Proofs.YtgcmdnkmnghhaaaGreatDoor.lb

theorem find_any {α : Type} (f : α → Bool) : ∀ l : List α, (l.find? f).isSome = l.any f
  | [] => rfl
  | a :: l => by
    rw [List.find?_cons, List.any_cons]
    cases h : f a with
    | true => rfl
    | false => simp only [Bool.false_or]; exact find_any f l
theorem isNum_eq (op : Int) : isNum op = (nm.runAt op).isSome := by
  unfold isNum nm.runAt
  rw [find_any]
  show _ = ((decide (((69 : Int)) ≤ op) && decide (op ≤ 69)) || ((decide (((70 : Int)) ≤ op) && decide (op ≤ 79)) || ((decide (((80 : Int)) ≤ op) && decide (op ≤ 80)) || ((decide (((81 : Int)) ≤ op) && decide (op ≤ 90)) || ((decide (((103 : Int)) ≤ op) && decide (op ≤ 105)) || ((decide (((106 : Int)) ≤ op) && decide (op ≤ 120)) || ((decide (((121 : Int)) ≤ op) && decide (op ≤ 123)) || ((decide (((124 : Int)) ≤ op) && decide (op ≤ 138)) || ((decide (((167 : Int)) ≤ op) && decide (op ≤ 167)) || ((decide (((172 : Int)) ≤ op) && decide (op ≤ 173)) || ((decide (((192 : Int)) ≤ op) && decide (op ≤ 193)) || ((decide (((194 : Int)) ≤ op) && decide (op ≤ 196)) || false))))))))))))
  rw [Bool.eq_iff_iff]
  simp
  omega
theorem accW_eq (op : Int) : accW op = (mm.acc op).map (fun a => (a.width : Int)) := by
  by_cases h : op = 40 ∨ op = 41 ∨ op = 44 ∨ op = 45 ∨ op = 46 ∨ op = 47 ∨ op = 48 ∨ op = 49 ∨ op = 50 ∨ op = 51 ∨ op = 52 ∨ op = 53 ∨ op = 54 ∨ op = 55 ∨ op = 58 ∨ op = 59 ∨ op = 60 ∨ op = 61 ∨ op = 62
  · rcases h with rfl | rfl | rfl | rfl | rfl | rfl | rfl | rfl | rfl | rfl | rfl | rfl | rfl | rfl | rfl | rfl | rfl | rfl | rfl <;> rfl
  · have h1 : accW op = none := by
      unfold accW
      rw [if_neg (by omega), if_neg (by omega), if_neg (by omega), if_neg (by omega)]
    have h2 : mm.acc op = none := by
      cases hc : mm.acc op with
      | none => rfl
      | some a =>
        have := mm.acc_mem hc
        simp [mm.accL] at this
        omega
    rw [h1, h2]; rfl

/-- an operator in block g, of which the numbers alone are told -/
def IB (w : World) (g : Nat) (op n m : Int) : Prop := w.heap[g]? = some (.cells #[.int .i64 op, .int .u64 n, .int .u64 m, .slice none 0 0, .slice none 0 0, .slice none 0 0, .slice none 0 0, .bool false, .slice none 0 0] 61 (0, 0))
theorem IB.lt {w : World} {g : Nat} {op n m : Int} (h : IB w g op n m) : g < w.heap.size := (Array.getElem?_eq_some_iff.1 h).1
theorem IB.c {w : World} {g : Nat} {op n m : Int} (h : IB w g op n m) : w.cell? ⟨g, 0, none⟩ = some (.int .i64 op) ∧ w.cell? ⟨g, 1, none⟩ = some (.int .u64 n) ∧ w.cell? ⟨g, 2, none⟩ = some (.int .u64 m) := by
  unfold IB at h; simp [World.cell?, h]
theorem IB.f {w : World} {g : Nat} {op n m : Int} (h : IB w g op n m) (o : Nat) : w.frozen? ⟨g, o, none⟩ = false := by unfold IB at h; simp [World.frozen?, h]
theorem IB.keep {S : Nat → Prop} {w w' : World} {g : Nat} {op n m : Int} (h : IB w g op n m) (k : Keep S w w') (hs : ¬ S g) : IB w' g op n m := (k.block g h.lt hs).trans h
theorem IB.setM {w : World} {g : Nat} {op n m : Int} (h : IB w g op n m) (m' : Int) : IB (w.setCell ⟨g, 2, none⟩ (.int .u64 m')) g op n m' := by
  unfold IB at h ⊢
  simp [World.setCell, Array.getElem?_modify, h]
theorem IB.setN {w : World} {g : Nat} {op n m : Int} (h : IB w g op n m) (n' : Int) : IB (w.setCell ⟨g, 1, none⟩ (.int .u64 n')) g op n' m := by
  unfold IB at h ⊢
  simp [World.setCell, Array.getElem?_modify, h]

section
variable {w0 : World} {ao : Option Addr} {cap : Nat} {l : List Int} {ta : Option Addr} {tc : Nat} {types : List GSig}

theorem align_le {r e p q : Nat} {w : World} {wd m : Int} (c : Ctx w0 ao cap l) (h : Rr w0 ao cap l r e p w) (hx : pAlign wd l e p = .ok m q) : q ≤ e := by
  cases hu : pU l e p with
  | bad why a => rw [show pAlign wd l e p = .bad why a from P.bind_bad hu] at hx; cases hx
  | ok n q' =>
    rw [show pAlign wd l e p = _ from P.bind_ok hu] at hx
    have := u_bd (fun k => (c.bd k).1) h.hp h.he hu
    split at hx
    · cases hx
    · simp only [P.ret, Res.ok.injEq] at hx; omega
theorem Cr.two {r k e p ops g : Nat} {w w' : World} (h : Cr w0 ao cap l ta tc types r k e p ops w) (kp : Keep (· = g) w w') (h0 : w0.heap.size ≤ g) (h1 : g ≠ r) (h2 : g ≠ k) : Cr w0 ao cap l ta tc types r k e p ops w' :=
  ⟨h.rr.keep kp (Ne.symm h1) (fun i hi => by omega), h.blk.keep kp (Ne.symm h2), h.hk, h.ne⟩

set_option maxRecDepth 100000 in
set_option maxHeartbeats 1000000 in
theorem other_any (c : CC w0 ao cap l ta tc types) (r k e p ops g : Nat) (op : Int) (w : World) (h : Cr w0 ao cap l ta tc types r k e p ops w) (hg : w0.heap.size ≤ g) (g1 : g ≠ r) (g2 : g ≠ k) (hi : IB w g op 0 0) :
    Calls Tryz.prog 250 #[.pointer (some ⟨k, 0, none⟩), .int .i64 ((p : Int) - 1), .pointer (some ⟨g, 0, none⟩)] w fun en w' => Keep (fun i => i = r ∨ i = g) w w' ∧ match pOther op l e p with
      | .bad why a => en = thrown why a
      | .ok x q => en = .returned (.tuple #[]) ∧ Cr w0 ao cap l ta tc types r k e q ops w' ∧ IB w' g op x.1 x.2 := by
  obtain ⟨i0, i1, i2⟩ := hi.c
  have HC := Lib.hid c
  have HI := Lib.hid hi
  have HH := Lib.hid h
  have HS := Lib.hid (nm.sig_any op w (c.runs.lift h.rr.low))
  have hn := isNum_eq op
  have ha := accW_eq op
  unfold pOther
  cases hs : (nm.runAt op).isSome with
  | true =>
    rw [hn, hs, if_pos rfl]
    rw [hs] at HS
    clear hn ha hs h c hi
    refine Calls.mono (?_ : Calls _ _ _ _ (fun en w' => Keep (fun i => i = r ∨ i = g) w w' ∧ en = .returned (.tuple #[]) ∧ Cr w0 ao cap l ta tc types r k e p ops w' ∧ IB w' g op 0 0)) (fun _ _ h => h)
    go_enter Tryz.func250, Tryz.ntmps250
    go_wp2_with fail
    refine HS.out.mono ?_
    rintro en w1 ⟨⟨a, n, cc, kk, rfl⟩, hb1⟩
    go_wp2
    (first | go_end0 | refine bodyPost_ret (results_none rfl _ _ _) rfl ?_)
    exact ⟨.of hb1, rfl, HH.out.below hb1, HI.out.keep (S := fun _ => False) (.of hb1) (fun x => x)⟩
  | false =>
    rw [hn, hs, if_neg (by decide)]
    rw [hs] at HS
    rw [ha]
    have HA := Lib.hid (fun w => mm.Access_any op w)
    cases hac : mm.acc op with
    | none =>
      have HA2 := Lib.hid (fun w => (show Calls Tryz.prog 217 #[.int .i64 op] w fun e w' => e = .returned (.tuple #[.int .i64 0, .int .i64 0, .bool false, .bool false]) ∧ Below w.heap.size w w' by
        have := HA.out w
        unfold mm.accR at this; rw [hac] at this; exact this))
      have HL := Lib.hid (fun w => leftOut_any op w)
      simp only [Option.map_none]
      clear hn ha hs hac h c hi
      cases hl : leftOut op with
      | true =>
        rw [if_pos rfl]
        rw [hl] at HL
        clear hl
        go_enter Tryz.func250, Tryz.ntmps250
        go_wp2_with fail
        refine HS.out.mono ?_
        rintro en w1 ⟨⟨a, n, cc, kk, rfl⟩, hb1⟩
        have j0 := (HI.out.keep (S := fun _ => False) (.of hb1) (fun x => x)).c.1
        go_wp2_with fail
        refine (HA2.out _).mono ?_
        rintro en w2 ⟨rfl, hb2⟩
        have j1 := (HI.out.keep (S := fun _ => False) (.of (bnext hb1 hb2)) (fun x => x)).c.1
        go_wp2_with fail
        refine (HL.out _).mono ?_
        rintro en w3 ⟨rfl, rfl⟩
        go_wp2_with fail
        refine (fail_any _ _ _).mono ?_
        rintro en w4 ⟨rfl, rfl⟩
        exact ⟨rfl, .of (bnext hb1 hb2), rfl⟩
      | false =>
        rw [if_neg (by decide)]
        rw [hl] at HL
        clear hl
        go_enter Tryz.func250, Tryz.ntmps250
        go_wp2_with fail
        refine HS.out.mono ?_
        rintro en w1 ⟨⟨a, n, cc, kk, rfl⟩, hb1⟩
        have j0 := (HI.out.keep (S := fun _ => False) (.of hb1) (fun x => x)).c.1
        go_wp2_with fail
        refine (HA2.out _).mono ?_
        rintro en w2 ⟨rfl, hb2⟩
        have j1 := (HI.out.keep (S := fun _ => False) (.of (bnext hb1 hb2)) (fun x => x)).c.1
        go_wp2_with fail
        refine (HL.out _).mono ?_
        rintro en w3 ⟨rfl, rfl⟩
        go_wp2_with fail
        refine (fail_any _ _ _).mono ?_
        rintro en w4 ⟨rfl, rfl⟩
        exact ⟨rfl, .of (bnext hb1 hb2), rfl⟩
    | some A =>
      obtain ⟨kd, wd, st, sg⟩ := A
      have hw := (mm.acc_cases hac).2.1
      simp only at hw
      have HA2 := Lib.hid (fun w => (show Calls Tryz.prog 217 #[.int .i64 op] w fun e w' => e = .returned (.tuple #[.int .i64 kd, .int .i64 wd, .bool st, .bool true]) ∧ Below w.heap.size w w' by
        have := HA.out w
        unfold mm.accR at this; rw [hac] at this; exact this))
      have HW := Lib.hid (show 0 ≤ (wd : Int) ∧ (wd : Int) ≤ 8 by omega)
      simp only [Option.map_some]
      clear hn ha hs hac c hw
      cases hx : pAlign wd l e p with
      | bad why a =>
        rw [P.bind_bad hx]
        have HX := Lib.hid hx
        clear hx h hi
        go_enter Tryz.func250, Tryz.ntmps250
        go_wp2_with fail
        refine HS.out.mono ?_
        rintro en w1 ⟨⟨a, n, cc, kk, rfl⟩, hb1⟩
        have j0 := (HI.out.keep (S := fun _ => False) (.of hb1) (fun x => x)).c.1
        go_wp2_with fail
        refine (HA2.out _).mono ?_
        rintro en w2 ⟨rfl, hb2⟩
        go_wp2_with fail
        refine (align_any HC.out r k e p ops _ (HH.out.below (bnext hb1 hb2)) _ HW.out).mono ?_
        rintro en w3 h3
        obtain ⟨k3, rfl⟩ := h3.bad_elim HX.out
        exact ⟨rfl, (Keep.of (bnext hb1 hb2)).trans (k3.mono (fun i _ hi => .inl hi)), rfl⟩
      | ok m q =>
        rw [P.bind_ok hx]
        have HX := Lib.hid hx
        clear hx h hi
        cases hx2 : pU l e q with
        | bad why a =>
          rw [P.bind_bad hx2]
          have HX2 := Lib.hid hx2
          clear hx2
          go_enter Tryz.func250, Tryz.ntmps250
          go_wp2_with fail
          refine HS.out.mono ?_
          rintro en w1 ⟨⟨a, n, cc, kk, rfl⟩, hb1⟩
          have j0 := (HI.out.keep (S := fun _ => False) (.of hb1) (fun x => x)).c.1
          go_wp2_with fail
          refine (HA2.out _).mono ?_
          rintro en w2 ⟨rfl, hb2⟩
          go_wp2_with fail
          refine (align_any HC.out r k e p ops _ (HH.out.below (bnext hb1 hb2)) _ HW.out).mono ?_
          rintro en w3 h3
          obtain ⟨k3, v3, rfl, hv3, r3⟩ := h3.ok_elim HX.out
          obtain rfl : v3 = .int .u64 m := hv3
          have C3 := (HH.out.below (bnext hb1 hb2)).go k3 r3
          have I3 := (HI.out.keep (S := fun _ => False) (.of (bnext hb1 hb2)) (fun x => x)).keep k3 g1
          have j2 := I3.c.2.2
          have f2 := I3.f 2
          have kM : Keep (fun i => i = g) w3 (w3.setCell ⟨g, 2, none⟩ (.int .u64 m)) := (Keep.refl (fun i => i = g) w3).set (p := ⟨g, 2, none⟩) (.inl rfl) _
          have C4 := Lib.hid (C3.two kM hg g1 g2)
          have s0 := C4.out.blk.c0
          have K4 := Lib.hid (((Keep.of (S := fun i => i = r ∨ i = g) (bnext hb1 hb2)).trans (k3.mono (fun i _ hi => .inl hi))).trans (kM.mono (fun i _ hi => .inr hi)))
          clear C3 I3 kM k3 r3 h3
          go_wp2_with fail
          refine (u_any HC.out.ctx r e q _ C4.out.rr).mono ?_
          rintro en w5 h5
          obtain ⟨k5, rfl⟩ := h5.bad_elim HX2.out
          exact ⟨rfl, K4.out.trans (k5.mono (fun i _ hi => .inl hi)), rfl⟩
        | ok n q2 =>
          rw [P.bind_ok hx2]
          obtain ⟨n0, n1, _, _⟩ := u_bd (fun k => (HC.out.ctx.bd k).1) (by have := HH.out.rr.hp; exact align_le HC.out.ctx HH.out.rr HX.out) HH.out.rr.he hx2
          have HX2 := Lib.hid hx2
          clear hx2
          refine Calls.mono (?_ : Calls _ _ _ _ (fun en w' => Keep (fun i => i = r ∨ i = g) w w' ∧ en = .returned (.tuple #[]) ∧ Cr w0 ao cap l ta tc types r k e q2 ops w' ∧ IB w' g op n m)) (fun _ _ h => h)
          go_enter Tryz.func250, Tryz.ntmps250
          go_wp2_with fail
          refine HS.out.mono ?_
          rintro en w1 ⟨⟨a, n', cc, kk, rfl⟩, hb1⟩
          have j0 := (HI.out.keep (S := fun _ => False) (.of hb1) (fun x => x)).c.1
          go_wp2_with fail
          refine (HA2.out _).mono ?_
          rintro en w2 ⟨rfl, hb2⟩
          go_wp2_with fail
          refine (align_any HC.out r k e p ops _ (HH.out.below (bnext hb1 hb2)) _ HW.out).mono ?_
          rintro en w3 h3
          obtain ⟨k3, v3, rfl, hv3, r3⟩ := h3.ok_elim HX.out
          obtain rfl : v3 = .int .u64 m := hv3
          have C3 := (HH.out.below (bnext hb1 hb2)).go k3 r3
          have I3 := (HI.out.keep (S := fun _ => False) (.of (bnext hb1 hb2)) (fun x => x)).keep k3 g1
          have j2 := I3.c.2.2
          have f2 := I3.f 2
          have kM : Keep (fun i => i = g) w3 (w3.setCell ⟨g, 2, none⟩ (.int .u64 m)) := (Keep.refl (fun i => i = g) w3).set (p := ⟨g, 2, none⟩) (.inl rfl) _
          have C4 := Lib.hid (C3.two kM hg g1 g2)
          have I4 := Lib.hid (I3.setM m)
          have s0 := C4.out.blk.c0
          have K4 := Lib.hid (((Keep.of (S := fun i => i = r ∨ i = g) (bnext hb1 hb2)).trans (k3.mono (fun i _ hi => .inl hi))).trans (kM.mono (fun i _ hi => .inr hi)))
          clear C3 I3 kM k3 r3 h3
          go_wp2_with fail
          refine (u_any HC.out.ctx r e q _ C4.out.rr).mono ?_
          rintro en w5 h5
          obtain ⟨k5, v5, rfl, hv5, r5⟩ := h5.ok_elim HX2.out
          obtain rfl : v5 = .int .i64 n := hv5
          have C5 := C4.out.go k5 r5
          have I5 := I4.out.keep k5 g1
          have j5 := I5.c.2.1
          have f5 := I5.f 1
          have kN : Keep (fun i => i = g) w5 (w5.setCell ⟨g, 1, none⟩ (.int .u64 n)) := (Keep.refl (fun i => i = g) w5).set (p := ⟨g, 1, none⟩) (.inl rfl) _
          have C6 := Lib.hid (C5.two kN hg g1 g2)
          have I6 := Lib.hid (I5.setN n)
          have K6 := Lib.hid ((K4.out.trans (k5.mono (fun i _ hi => .inl hi))).trans (kN.mono (fun i _ hi => .inr hi)))
          clear C5 I5 kN k5 r5 h5
          go_wp2
          (first | go_end0 | refine bodyPost_ret (results_none rfl _ _ _) rfl ?_)
          exact ⟨K6.out, rfl, C6.out, I6.out⟩
end
end Go.Proofs.YtgcmdnkmnghhaaaGreatDoor.wm

/- The contract of blockType. -/
set_option linter.unusedVariables false
set_option linter.unusedSimpArgs false
namespace Go.Proofs.YtgcmdnkmnghhaaaGreatDoor.wm
open Go.RowKit Go.Proofs.YtgcmdnkmnghhaaaGreatDoor.lb
section
variable {w0 : World} {ao : Option Addr} {cap : Nat} {l : List Int} {ta : Option Addr} {tc : Nat} {types : List GSig}

theorem list_two {α : Type} {l : List α} (h : l.length = 2) : ∃ a b, l = [a, b] := by
  match l, h with
  | [a, b], _ => exact ⟨a, b, rfl⟩
theorem VR.lit1 (w : World) (n : Int) {B : Nat} (hB : B ≤ w.heap.size) : VR 1 gI B (w.alloc (.cells #[.int .i64 n] 3)) (.slice (some ⟨w.heap.size, 0, none⟩) 1 1) [n] := by
  refine ⟨some ⟨w.heap.size, 0, none⟩, 1, rfl, Nat.le_refl _, (fun h => by cases h), .inr ⟨w.heap.size, 0, rfl, hB, ?_, trivial⟩⟩
  refine ⟨[.int .i64 n], rfl, fun j v hj => ?_, rfl⟩
  match j, hj with
  | 0, hj => simp at hj; subst hj; simp [go_sem]

def NS2 (g : Nat) (u0 u1 : Value) (x : World) : Prop := x.cell? ⟨g, 0, none⟩ = some u0 ∧ x.cell? ⟨g, 1, none⟩ = some u1
theorem NS2.next {g : Nat} {u0 u1 : Value} {x y : World} (h : NS2 g u0 u1 x) (hb : Below x.heap.size x y) : NS2 g u0 u1 y := by
  obtain ⟨h0, h1⟩ := h
  exact ⟨by rw [hb.cell (p := ⟨g, 0, none⟩) (World.block_lt_of_cell? x _ h0)]; exact h0, by rw [hb.cell (p := ⟨g, 1, none⟩) (World.block_lt_of_cell? x _ h1)]; exact h1⟩
theorem NS2.set {g : Nat} {u0 u1 : Value} {x : World} (h : NS2 g u0 u1 x) {q : Addr} (hq : q.block ≠ g) (u : Value) : NS2 g u0 u1 (x.setCell q u) := by
  obtain ⟨h0, h1⟩ := h
  exact ⟨by rw [World.cell?_of_block (w := x) (Below.heap_setCell x q u g (Ne.symm hq))]; exact h0, by rw [World.cell?_of_block (w := x) (Below.heap_setCell x q u g (Ne.symm hq))]; exact h1⟩
/-- a value and where its result lies -/
structure RV (T : TypeId) (w : World) (r k g n : Nat) (w' : World) : Prop where
  row : Row T w' g n
  hg : w.heap.size = g
  hr : r < w.heap.size
  hk : k < w.heap.size

set_option maxRecDepth 100000 in
set_option maxHeartbeats 1000000 in
theorem blockType_any (c : CC w0 ao cap l ta tc types) (r k e p ops : Nat) (w : World) (h : Cr w0 ao cap l ta tc types r k e p ops w) :
    Calls Tryz.prog 248 #[.pointer (some ⟨k, 0, none⟩)] w (Out (· = r) w0 ao cap l r e w (VA2 gSig w.heap.size) (pBlockType types l e p)) := by
  have hr := h.rr.blk.lt
  have hk := h.blk.lt
  have hne := h.ne
  have hp := h.rr.hp
  have he := h.rr.he
  have H0 := Lib.hid (h.below (made1 w (.cells #[.slice none 0 0, .slice none 0 0] 42)))
  have HR0 := Lib.hid (Row.new w #[.slice none 0 0, .slice none 0 0] 42)
  have HC := Lib.hid c
  have a0 := H0.out.blk.c0
  have a1 := H0.out.rr.blk.c1
  cases hx : pOctet l e p with
  | bad why a =>
    have HX := Lib.hid (show pBlockType types l e p = .bad why a by unfold pBlockType pHere; simp only [hx])
    have HX1 := Lib.hid hx
    clear hx h c
    go_enter Tryz.func248, Tryz.ntmps248
    go_wp2_with fail
    refine (octet_any HC.out.ctx r e p _ H0.out.rr).mono ?_
    rintro en w1 h1
    obtain ⟨k1, rfl⟩ := h1.bad_elim HX1.out
    exact ⟨rfl, Out.wrong HX.out ((Keep.of (made1 _ _)).trans k1)⟩
  | ok cc q =>
    have HX1 := Lib.hid hx
    by_cases h64 : cc = 64
    · subst h64
      have HX := Lib.hid (show pBlockType types l e p = .ok ⟨[], []⟩ q by unfold pBlockType pHere; simp only [hx]; rfl)
      clear hx h c
      go_enter Tryz.func248, Tryz.ntmps248
      go_wp2_with fail
      refine (octet_any HC.out.ctx r e p _ H0.out.rr).mono ?_
      rintro en w1 h1
      obtain ⟨k1, v1, rfl, hv1, r1⟩ := h1.ok_elim HX1.out
      obtain rfl : v1 = .int .i64 64 := hv1
      have hrow := HR0.out.keep k1 (by omega)
      obtain ⟨u0, d0⟩ := hrow.some (k := 0) (by simp)
      obtain ⟨u1, d1⟩ := hrow.some (k := 1) (by simp)
      have z0 := hrow.fz 0
      have z1 := hrow.fz 1
      have K1 := Lib.hid ((Keep.of (made1 w (.cells #[.slice none 0 0, .slice none 0 0] 42))).trans k1)
      have R1 := Lib.hid r1
      have KS := Lib.hid (((Keep.refl (fun k => k = w.heap.size) w1).set (p := ⟨w.heap.size, 0, none⟩) (.inl rfl) (.slice none 0 0)).set (p := ⟨w.heap.size, 1, none⟩) (.inl rfl) (.slice none 0 0))
      clear hrow k1 r1 h1
      go_wp2
      refine bodyPost_ret (v := .agg #[.slice none 0 0, .slice none 0 0]) (by simp [results, Tryz.results248, go_sem, d0, d1]) rfl (Out.good HX.out (K1.out.new KS.out (fun i hi e => by omega)) ⟨_, _, rfl, ?_⟩ (R1.out.other KS.out hr))
      exact (Gh.all_cons rfl).2 ⟨VR.nil 1 gI _ _, (Gh.all_cons rfl).2 ⟨VR.nil 1 gI _ _, rfl⟩⟩
    · by_cases h127 : cc = 127 ∨ cc = 126 ∨ cc = 125 ∨ cc = 124
      · have hX : pBlockType types l e p = (pKind.bind fun k => P.ret ⟨[], [k]⟩) l e p := by unfold pBlockType pHere; simp only [hx]; rw [if_neg h64, if_pos h127]
        have HXX := Lib.hid hx
        have hr' : r < w.heap.size := hr
        cases hk1 : pKind l e p with
        | bad why a =>
          have HX := Lib.hid (hX.trans (P.bind_bad hk1))
          have HK1 := Lib.hid hk1
          clear hx hX hk1 h c h64
          rcases h127 with rfl | rfl | rfl | rfl
          all_goals
            go_enter Tryz.func248, Tryz.ntmps248
            go_wp2_with fail
            refine (octet_any HC.out.ctx r e p _ H0.out.rr).mono ?_
            rintro en w1 h1
            obtain ⟨k1, v1, rfl, hv1, r1⟩ := h1.ok_elim HXX.out
            have hv1' : v1 = .int .i64 _ := hv1
            subst hv1'
            have C1 := H0.out.go k1 r1
            have b0 := C1.blk.c0
            have b1 := C1.rr.blk.c1
            have g1 := C1.rr.blk.f 1
            have R2 := Lib.hid (r1.set p hp (n := p) rfl)
            have k2 : Keep (fun k => k = r) w1 (w1.setCell ⟨r, 1, none⟩ (.int .i64 (p : Int))) := (Keep.refl (fun k => k = r) w1).set (p := ⟨r, 1, none⟩) (.inl rfl) _
            have b0' := (C1.blk.keep k2 hne).c0
            have K2 := Lib.hid (((Keep.of (made1 w (.cells #[.slice none 0 0, .slice none 0 0] 42))).trans k1).trans k2)
            have HR2 := Lib.hid ((HR0.out.keep k1 (by omega)).keep k2 (by omega))
            clear h1 k1 r1 C1 k2 hv1
            go_wp2_with fail
            refine (kind_any HC.out.ctx r e p _ R2.out).mono ?_
            rintro en w3 h3
            obtain ⟨k3, rfl⟩ := h3.bad_elim HK1.out
            exact ⟨rfl, Out.wrong HX.out (K2.out.trans k3)⟩
        | ok n q' =>
          have HX := Lib.hid (show pBlockType types l e p = .ok ⟨[], [n]⟩ q' from hX.trans (P.bind_ok hk1))
          have HK1 := Lib.hid hk1
          clear hx hX hk1 h c h64
          rcases h127 with rfl | rfl | rfl | rfl
          all_goals
            go_enter Tryz.func248, Tryz.ntmps248
            go_wp2_with fail
            refine (octet_any HC.out.ctx r e p _ H0.out.rr).mono ?_
            rintro en w1 h1
            obtain ⟨k1, v1, rfl, hv1, r1⟩ := h1.ok_elim HXX.out
            have hv1' : v1 = .int .i64 _ := hv1
            subst hv1'
            have C1 := H0.out.go k1 r1
            have b0 := C1.blk.c0
            have b1 := C1.rr.blk.c1
            have g1 := C1.rr.blk.f 1
            have R2 := Lib.hid (r1.set p hp (n := p) rfl)
            have k2 : Keep (fun k => k = r) w1 (w1.setCell ⟨r, 1, none⟩ (.int .i64 (p : Int))) := (Keep.refl (fun k => k = r) w1).set (p := ⟨r, 1, none⟩) (.inl rfl) _
            have b0' := (C1.blk.keep k2 hne).c0
            have K2 := Lib.hid (((Keep.of (made1 w (.cells #[.slice none 0 0, .slice none 0 0] 42))).trans k1).trans k2)
            have HR2 := Lib.hid ((HR0.out.keep k1 (by omega)).keep k2 (by omega))
            clear h1 k1 r1 C1 k2 hv1
            go_wp2_with fail
            refine (kind_any HC.out.ctx r e p _ R2.out).mono ?_
            rintro en w3 h3
            obtain ⟨k3, v3, rfl, hv3, r3⟩ := h3.ok_elim HK1.out
            obtain rfl : v3 = .int .i64 n := hv3
            have hrow := HR2.out.keep k3 (by omega)
            have hs1 : w.heap.size + 1 ≤ w3.heap.size := by have := hrow.lt; omega
            have hrw := hrow.keep (S := fun _ => False) (.of (made1 w3 (.cells #[.int .i64 n] 3))) (fun x => x)
            obtain ⟨u0, d0⟩ := hrw.some (k := 0) (by simp)
            obtain ⟨u1, d1⟩ := hrw.some (k := 1) (by simp)
            have z0 := hrw.fz 0
            have z1 := hrw.fz 1
            have HS1 := Lib.hid hs1
            have K1 := Lib.hid (K2.out.trans k3)
            have R1 := Lib.hid r3
            have KS := Lib.hid (((Keep.refl (fun k => k = w.heap.size) (w3.alloc (.cells #[.int .i64 n] 3))).set (p := ⟨w.heap.size, 0, none⟩) (.inl rfl) (.slice none 0 0)).set (p := ⟨w.heap.size, 1, none⟩) (.inl rfl) (.slice (some ⟨w3.heap.size, 0, none⟩) 1 1))
            clear hrow hrw k3 r3 h3 hs1
            go_wp2
            refine bodyPost_ret (v := .agg #[.slice none 0 0, .slice (some ⟨w3.heap.size, 0, none⟩) 1 1]) (by simp [results, Tryz.results248, go_sem, d0, d1]) rfl (Out.good HX.out ((K1.out.alloc _).new KS.out (fun i hi e => by omega)) ⟨_, _, rfl, ?_⟩ ((R1.out.below (made1 _ _)).other KS.out hr))
            exact (Gh.all_cons rfl).2 ⟨VR.nil 1 gI _ _, (Gh.all_cons rfl).2 ⟨Gh.is.keep (VR.lit1 w3 n (Nat.le_refl _)) (by have := HS1.out; omega) (Same.keep KS.out (fun i h1 h2 e => by have := HS1.out; omega)), rfl⟩⟩
      · have h127' : ¬ (cc = 127 ∨ cc = 126 ∨ cc = 125 ∨ cc = 124) := h127
        have hX : pBlockType types l e p = (pS64.bind fun n => if n < 0 ∨ (types.length : Int) ≤ n then pFail 9 p else P.ret (types.getD n.toNat ⟨[], []⟩)) l e p := by
          unfold pBlockType pHere; simp only [hx]; rw [if_neg h64, if_neg h127]
        have e1 : (cc == 64) = false := by simpa using h64
        have e2 : (cc == 127) = false := by simp; omega
        have e3 : (cc == 126) = false := by simp; omega
        have e4 : (cc == 125) = false := by simp; omega
        have e5 : (cc == 124) = false := by simp; omega
        have HXX := Lib.hid hx
        obtain ⟨hlen, hcap⟩ := c.tys.length
        have hfew := c.few
        cases hx2 : pS64 l e p with
        | bad why a =>
          have HX := Lib.hid (hX.trans (P.bind_bad hx2))
          have HX2 := Lib.hid hx2
          clear hx hx2 h c h64 h127 h127' hX
          go_enter Tryz.func248, Tryz.ntmps248
          go_wp2_with fail
          refine (octet_any HC.out.ctx r e p _ H0.out.rr).mono ?_
          rintro en w1 h1
          obtain ⟨k1, v1, rfl, hv1, r1⟩ := h1.ok_elim HXX.out
          obtain rfl : v1 = .int .i64 cc := hv1
          have C1 := H0.out.go k1 r1
          have b0 := C1.blk.c0
          have b1 := C1.rr.blk.c1
          have g1 := C1.rr.blk.f 1
          have R2 := Lib.hid (r1.set p hp (n := p) rfl)
          have k2 : Keep (fun k => k = r) w1 (w1.setCell ⟨r, 1, none⟩ (.int .i64 (p : Int))) := (Keep.refl (fun k => k = r) w1).set (p := ⟨r, 1, none⟩) (.inl rfl) _
          have b0' := (C1.blk.keep k2 hne).c0
          have K2 := Lib.hid (((Keep.of (made1 w (.cells #[.slice none 0 0, .slice none 0 0] 42))).trans k1).trans k2)
          clear h1 k1 r1 C1 k2
          go_wp2_with fail
          refine (s64_any HC.out.ctx r e p _ R2.out).mono ?_
          rintro en w3 h3
          obtain ⟨k3, rfl⟩ := h3.bad_elim HX2.out
          exact ⟨rfl, Out.wrong HX.out (K2.out.trans k3)⟩
        | ok n q2 =>
          have HX2 := Lib.hid hx2
          have hX2 := hX.trans (P.bind_ok hx2)
          by_cases hn : n < 0 ∨ (types.length : Int) ≤ n
          · have HX := Lib.hid (show pBlockType types l e p = .bad 9 p by rw [hX2, if_pos hn]; rfl)
            clear hx hx2 h c h64 h127 h127' hX hX2
            by_cases hn0 : n < 0
            · clear hn
              go_enter Tryz.func248, Tryz.ntmps248
              go_wp2_with fail
              refine (octet_any HC.out.ctx r e p _ H0.out.rr).mono ?_
              rintro en w1 h1
              obtain ⟨k1, v1, rfl, hv1, r1⟩ := h1.ok_elim HXX.out
              obtain rfl : v1 = .int .i64 cc := hv1
              have C1 := H0.out.go k1 r1
              have b0 := C1.blk.c0
              have b1 := C1.rr.blk.c1
              have g1 := C1.rr.blk.f 1
              have r2 := r1.set p hp (n := p) rfl
              have k2 : Keep (fun k => k = r) w1 (w1.setCell ⟨r, 1, none⟩ (.int .i64 (p : Int))) := (Keep.refl (fun k => k = r) w1).set (p := ⟨r, 1, none⟩) (.inl rfl) _
              have C2 := Lib.hid (C1.go k2 r2)
              have b0' := C2.out.blk.c0
              have K2 := Lib.hid (((Keep.of (made1 w (.cells #[.slice none 0 0, .slice none 0 0] 42))).trans k1).trans k2)
              have HR2 := Lib.hid ((HR0.out.keep k1 (by omega)).keep k2 (by omega))
              clear h1 k1 r1 C1 k2 r2
              go_wp2_with fail
              refine (s64_any HC.out.ctx r e p _ C2.out.rr).mono ?_
              rintro en w3 h3
              obtain ⟨k3, v3, rfl, hv3, r3⟩ := h3.ok_elim HX2.out
              obtain rfl : v3 = .int .i64 n := hv3
              have c3 := C2.out.go k3 r3
              have s1 := c3.blk.c1
              have s0 := c3.blk.c0
              have C3 := Lib.hid c3
              have K3 := Lib.hid (K2.out.trans k3)
              have HR3 := Lib.hid (HR2.out.keep k3 (by omega))
              clear h3 k3 r3 c3
              go_wp2_with fail
              refine (fail_any _ _ _).mono ?_
              rintro en w4 ⟨rfl, rfl⟩
              exact ⟨rfl, Out.wrong HX.out K3.out⟩
            · have hn1 : (types.length : Int) ≤ n := by omega
              have hd : decide (n < 0) = false := by simpa using hn0
              clear hn hn0
              go_enter Tryz.func248, Tryz.ntmps248
              go_wp2_with fail
              refine (octet_any HC.out.ctx r e p _ H0.out.rr).mono ?_
              rintro en w1 h1
              obtain ⟨k1, v1, rfl, hv1, r1⟩ := h1.ok_elim HXX.out
              obtain rfl : v1 = .int .i64 cc := hv1
              have C1 := H0.out.go k1 r1
              have b0 := C1.blk.c0
              have b1 := C1.rr.blk.c1
              have g1 := C1.rr.blk.f 1
              have r2 := r1.set p hp (n := p) rfl
              have k2 : Keep (fun k => k = r) w1 (w1.setCell ⟨r, 1, none⟩ (.int .i64 (p : Int))) := (Keep.refl (fun k => k = r) w1).set (p := ⟨r, 1, none⟩) (.inl rfl) _
              have C2 := Lib.hid (C1.go k2 r2)
              have b0' := C2.out.blk.c0
              have K2 := Lib.hid (((Keep.of (made1 w (.cells #[.slice none 0 0, .slice none 0 0] 42))).trans k1).trans k2)
              have HR2 := Lib.hid ((HR0.out.keep k1 (by omega)).keep k2 (by omega))
              clear h1 k1 r1 C1 k2 r2
              go_wp2_with fail
              refine (s64_any HC.out.ctx r e p _ C2.out.rr).mono ?_
              rintro en w3 h3
              obtain ⟨k3, v3, rfl, hv3, r3⟩ := h3.ok_elim HX2.out
              obtain rfl : v3 = .int .i64 n := hv3
              have c3 := C2.out.go k3 r3
              have s1 := c3.blk.c1
              have s0 := c3.blk.c0
              have C3 := Lib.hid c3
              have K3 := Lib.hid (K2.out.trans k3)
              have HR3 := Lib.hid (HR2.out.keep k3 (by omega))
              clear h3 k3 r3 c3
              go_wp2_with fail
              refine (fail_any _ _ _).mono ?_
              rintro en w4 ⟨rfl, rfl⟩
              exact ⟨rfl, Out.wrong HX.out K3.out⟩
          · obtain ⟨m, rfl⟩ := Int.eq_ofNat_of_zero_le (show 0 ≤ n by omega)
            have hm : m < types.length := by omega
            have hmi : (m : Int) < types.length := by omega
            have hd : decide ((m : Int) < 0) = false := by simp
            have hd2 : decide ((types.length : Int) ≤ m) = false := by simp; omega
            have HX := Lib.hid (show pBlockType types l e p = .ok types[m] q2 by rw [hX2, if_neg hn, Int.toNat_natCast, List.getD_eq_getElem?_getD, List.getElem?_eq_getElem hm]; rfl)
            obtain ⟨tb, toff, tcs, rfl, htl, htc, hth⟩ := c.tys.get (i := m) hm
            obtain ⟨t0, t1, rfl⟩ := list_two htl
            have hI := (Gh.all_cons rfl).1 hth
            have hO := (Gh.all_cons rfl).1 hI.2
            have hRI := Lib.hid (show wi.Rd w0 t0 types[m].ins from ints_rd .i64 hI.1)
            have hRO := Lib.hid (show wi.Rd w0 t1 types[m].outs from ints_rd .i64 hO.1)
            obtain ⟨⟨ia, il, ic, rfl⟩, oa, ol, oc, rfl⟩ := open_sig hth
            have tc0 := htc 0 _ rfl
            have tc1 := htc 1 _ rfl
            have hll := c.lens types[m] (List.getElem_mem hm)
            have hlI := Lib.hid (show types[m].ins.length ≤ 16384 by omega)
            have hlO := Lib.hid (show types[m].outs.length ≤ 16384 by omega)
            clear hll
            clear hx hx2 h c h64 h127 h127' hX hX2 hn htc hth hI hO
            go_enter Tryz.func248, Tryz.ntmps248
            go_wp2_with fail
            refine (octet_any HC.out.ctx r e p _ H0.out.rr).mono ?_
            rintro en w1 h1
            obtain ⟨k1, v1, rfl, hv1, r1⟩ := h1.ok_elim HXX.out
            obtain rfl : v1 = .int .i64 cc := hv1
            have C1 := H0.out.go k1 r1
            have b0 := C1.blk.c0
            have b1 := C1.rr.blk.c1
            have g1 := C1.rr.blk.f 1
            have r2 := r1.set p hp (n := p) rfl
            have k2 : Keep (fun k => k = r) w1 (w1.setCell ⟨r, 1, none⟩ (.int .i64 (p : Int))) := (Keep.refl (fun k => k = r) w1).set (p := ⟨r, 1, none⟩) (.inl rfl) _
            have C2 := Lib.hid (C1.go k2 r2)
            have b0' := C2.out.blk.c0
            have K2 := Lib.hid (((Keep.of (made1 w (.cells #[.slice none 0 0, .slice none 0 0] 42))).trans k1).trans k2)
            have HR2 := Lib.hid ((HR0.out.keep k1 (by omega)).keep k2 (by omega))
            clear h1 k1 r1 C1 k2 r2
            go_wp2_with fail
            refine (s64_any HC.out.ctx r e p _ C2.out.rr).mono ?_
            rintro en w3 h3
            obtain ⟨k3, v3, rfl, hv3, r3⟩ := h3.ok_elim HX2.out
            obtain rfl : v3 = .int .i64 m := hv3
            have c3 := C2.out.go k3 r3
            have s1 := c3.blk.c1
            have s0 := c3.blk.c0
            have C3 := Lib.hid c3
            have K3 := Lib.hid (K2.out.trans k3)
            have HR3 := Lib.hid (HR2.out.keep k3 (by omega))
            clear h3 k3 r3 c3
            have low3 := C3.out.rr.low
            have l0 : tb < w0.heap.size := World.block_lt_of_cell? w0 _ tc0
            have m0 : w3.cell? ⟨tb, toff + m * 2 + 0, none⟩ = some (.slice ia il ic) := by rw [low3.cell (p := ⟨tb, toff + m * 2 + 0, none⟩) l0]; exact tc0
            have m1 : w3.cell? ⟨tb, toff + m * 2 + 1, none⟩ = some (.slice oa ol oc) := by rw [low3.cell (p := ⟨tb, toff + m * 2 + 1, none⟩) l0]; exact tc1
            rw [Nat.add_zero] at m0
            have L3 := Lib.hid low3
            clear low3 tc0 tc1 l0
            go_wp2_with fail
            have n0 : (w3.alloc (.cells #[.slice ia il ic, .slice oa ol oc] 42)).cell? ⟨w3.heap.size, 0, none⟩ = some (.slice ia il ic) := by simp [go_sem]
            have n1 : (w3.alloc (.cells #[.slice ia il ic, .slice oa ol oc] 42)).cell? ⟨w3.heap.size, 1, none⟩ = some (.slice oa ol oc) := by simp [go_sem]
            have hne2 : w.heap.size ≠ w3.heap.size := by have := HR3.out.lt; omega
            have hb3 := made1 w3 (.cells #[.slice ia il ic, .slice oa ol oc] 42)
            have HRX := Lib.hid (HR3.out.keep (S := fun _ => False) (.of hb3) (fun x => x))
            have LX := Lib.hid (L3.out.trans (hb3.mono L3.out.size))
            have CX := Lib.hid (C3.out.below hb3)
            have KX := Lib.hid (K3.out.trans (.of hb3))
            generalize w3.heap.size = g2 at n0 n1 hne2 ⊢
            generalize w3.alloc (.cells #[.slice ia il ic, .slice oa ol oc] 42) = wx at n0 n1 HRX LX CX KX ⊢
            clear hb3 m0 m1 s0 s1
            have HI := Lib.hid (fun w' (hb : Below wx.heap.size wx w') => clone_ints _ _ w' (hRI.out.lift (LX.out.trans (hb.mono LX.out.size))) hlI.out)
            have HO := Lib.hid (fun w' (hb : Below wx.heap.size wx w') => clone_ints _ _ w' (hRO.out.lift (LX.out.trans (hb.mono LX.out.size))) hlO.out)
            have bd : Below wx.heap.size wx wx.drew := (Below.refl _ _).drew
            have BD := Lib.hid bd
            clear bd
            go_region_held3 (fun x => x.cell? ⟨g2, 0, none⟩ = some (.slice ia il ic) ∧ x.cell? ⟨g2, 1, none⟩ = some (.slice oa ol oc))
              (first | exact NS2.next (by unfold NS2; assumption) hbI | exact NS2.next (by unfold NS2; assumption) hbO | exact NS2.set (NS2.set (by unfold NS2; assumption) hne2 _) hne2 _ | exact ⟨n0, n1⟩)
              (first
                | (go_at_call 32; (with_reducible refine (HI.out _ ?_).mono ?_); (first | exact BD.out | exact bnext BD.out hbO); rintro e wI ⟨vI, rfl, hvI, hbI⟩; obtain ⟨aI, cI, rfl⟩ := VR.slice hvI; have bI := Lib.hid (show Below wx.heap.size wx wI by first | exact bnext (bnext BD.out hbO) hbI | exact bnext BD.out hbI); have rI := HRX.out.keep (S := fun _ => False) (.of bI.out) (fun x => x); obtain ⟨pI0, qI0⟩ := rI.some (k := 0) (by simp); obtain ⟨pI1, qI1⟩ := rI.some (k := 1) (by simp); have zI0 := rI.fz 0; have zI1 := rI.fz 1; clear rI)
                | (go_at_call 32; (with_reducible refine (HO.out _ ?_).mono ?_); (first | exact BD.out | exact bnext BD.out hbI); rintro e wO ⟨vO, rfl, hvO, hbO⟩; obtain ⟨aO, cO, rfl⟩ := VR.slice hvO; have bO := Lib.hid (show Below wx.heap.size wx wO by first | exact bnext (bnext BD.out hbI) hbO | exact bnext BD.out hbO); have rO := HRX.out.keep (S := fun _ => False) (.of bO.out) (fun x => x); obtain ⟨pO0, qO0⟩ := rO.some (k := 0) (by simp); obtain ⟨pO1, qO1⟩ := rO.some (k := 1) (by simp); have zO0 := rO.fz 0; have zO1 := rO.fz 1; clear rO))
            · have SW := Lib.hid (show wx.heap.size ≤ wO.heap.size from bO.out.size)
              have hgx : w.heap.size < wx.heap.size := HRX.out.lt
              have KS := Lib.hid (((Keep.refl (fun k => k = w.heap.size) wO).set (p := ⟨w.heap.size, 0, none⟩) (.inl rfl) (.slice aI types[m].ins.length cI)).set (p := ⟨w.heap.size, 1, none⟩) (.inl rfl) (.slice aO types[m].outs.length cO))
              go_wp2
              refine bodyPost_ret (v := .agg #[.slice aI types[m].ins.length cI, .slice aO types[m].outs.length cO]) (by simp [results, Tryz.results248, go_sem, qO0, qO1]) rfl (Out.good HX.out ((KX.out.trans (.of bO.out)).new KS.out (fun i hi e => by omega)) ⟨_, _, rfl, ?_⟩ ((CX.out.below bO.out).rr.other KS.out hr))
              have sx : wx.heap.size ≤ wI.heap.size := bI.out.size
              have vx := Gh.is.keep hvI (B' := w.heap.size + 1) (by have := hbI.size; have := BD.out.size; show w.heap.size + 1 ≤ wx.drew.heap.size; omega) (Same.of hbO)
              have vy := Gh.is.keep hvO (B' := w.heap.size + 1) (by omega) (Same.rfl (w := wO))
              have sk : Same (w.heap.size + 1) wO _ := Same.keep KS.out (fun i h1 h2 e => by omega)
              exact (Gh.all_cons rfl).2 ⟨Gh.is.keep vx (by omega) sk, (Gh.all_cons rfl).2 ⟨Gh.is.keep vy (by omega) sk, rfl⟩⟩
end
end Go.Proofs.YtgcmdnkmnghhaaaGreatDoor.wm

/- Readers go forward, and hang on no byte behind what they read, or behind where a byte is wrong. -/
set_option linter.unusedVariables false
namespace Go.Proofs.YtgcmdnkmnghhaaaGreatDoor.wm
open Go.Proofs.YtgcmdnkmnghhaaaGreatDoor.lb

def By (l : List Int) : Prop := ∀ k, 0 ≤ l.getD k 0
def Agree (l l' : List Int) (n : Nat) : Prop := ∀ k, k < n → l'.getD k 0 = l.getD k 0
/-- faults that hang on nothing behind them -/
def Sharp (w : Int) : Prop := w = 5 ∨ w = 8 ∨ w = 11

structure Good {α : Type} (x : P α) : Prop where
  ok : ∀ {l : List Int} {e p q : Nat} {a : α}, By l → p ≤ e → e ≤ l.length → x l e p = .ok a q → p ≤ q ∧ q ≤ e ∧ ∀ l' : List Int, l'.length = l.length → Agree l l' q → x l' e p = .ok a q
  bad : ∀ {l : List Int} {e p : Nat} {w a : Int}, By l → p ≤ e → e ≤ l.length → x l e p = .bad w a → Sharp w → (p : Int) ≤ a + 1 ∧ a < e ∧ 0 ≤ a ∧ ∀ l' : List Int, l'.length = l.length → Agree l l' (a + 1).toNat → x l' e p = .bad w a

theorem Agree.mono {l l' : List Int} {n m : Nat} (h : Agree l l' n) (hm : m ≤ n) : Agree l l' m := fun k hk => h k (by omega)

theorem Good.ret {α : Type} (a : α) : Good (P.ret a) := by
  constructor
  · intro l e p q b hb hp he h
    simp only [P.ret, Res.ok.injEq] at h
    obtain ⟨rfl, rfl⟩ := h
    exact ⟨Nat.le_refl _, hp, fun _ _ _ => rfl⟩
  · intro l e p w a hb hp he h
    cases h
theorem Good.bind {α β : Type} {x : P α} {f : α → P β} (hx : Good x) (hf : ∀ a, Good (f a)) : Good (x.bind f) := by
  constructor
  · intro l e p q b hb hp he h
    cases h1 : x l e p with
    | bad w a => rw [P.bind_bad h1] at h; cases h
    | ok a p' =>
      rw [P.bind_ok h1] at h
      obtain ⟨a1, a2, a3⟩ := hx.ok hb hp he h1
      obtain ⟨b1, b2, b3⟩ := (hf a).ok hb a2 he h
      exact ⟨by omega, b2, fun l' hl ha => by rw [P.bind_ok (a3 l' hl (ha.mono b1))]; exact b3 l' hl ha⟩
  · intro l e p w b hb hp he h hw
    cases h1 : x l e p with
    | bad w' a =>
      rw [P.bind_bad h1] at h
      obtain ⟨rfl, rfl⟩ := Res.bad.inj h
      obtain ⟨a1, a2, a0, a3⟩ := hx.bad hb hp he h1 hw
      exact ⟨a1, a2, a0, fun l' hl ha => P.bind_bad (a3 l' hl ha)⟩
    | ok a p' =>
      rw [P.bind_ok h1] at h
      obtain ⟨a1, a2, a3⟩ := hx.ok hb hp he h1
      obtain ⟨b1, b2, b0, b3⟩ := (hf a).bad hb a2 he h hw
      exact ⟨by omega, b2, b0, fun l' hl ha => by rw [P.bind_ok (a3 l' hl (ha.mono (by omega)))]; exact b3 l' hl ha⟩
theorem Good.ite {α : Type} {c : Prop} [Decidable c] {x y : P α} (hx : Good x) (hy : Good y) : Good (if c then x else y) := by split <;> assumption
/-- a fault that hangs on more -/
theorem Good.fail {α : Type} (w : Int) (a : Int) (hw : ¬ Sharp w) : Good (pFail w a : P α) := by
  constructor
  · intro l e p q b hb hp he h; cases h
  · intro l e p w' b hb hp he h hs
    obtain ⟨rfl, rfl⟩ := Res.bad.inj h
    exact absurd hs hw
theorem Good.back {α : Type} (w : Int) (hw : ¬ Sharp w) : Good (pBack w : P α) := by
  constructor
  · intro l e p q b hb hp he h; cases h
  · intro l e p w' b hb hp he h hs
    obtain ⟨rfl, rfl⟩ := Res.bad.inj h
    exact absurd hs hw
theorem Good.here {α : Type} {f : Int → P α} (h : ∀ a, Good (f a)) : Good (pHere f) := ⟨fun {l e p q a} => (h p).ok, fun {l e p w a} => (h p).bad⟩

/-- a byte, and what comes behind it, which may be wrong at that byte -/
structure Good1 {α : Type} (x : P α) : Prop where
  ok : ∀ {l : List Int} {e p q : Nat} {a : α}, By l → p ≤ e → e ≤ l.length → x l e p = .ok a q → p ≤ q ∧ q ≤ e ∧ ∀ l' : List Int, l'.length = l.length → Agree l l' q → x l' e p = .ok a q
  bad : ∀ {l : List Int} {e p : Nat} {w a : Int}, 0 < p → By l → p ≤ e → e ≤ l.length → x l e p = .bad w a → Sharp w → (p : Int) ≤ a + 1 ∧ a < e ∧ 0 ≤ a ∧ ∀ l' : List Int, l'.length = l.length → Agree l l' (a + 1).toNat → x l' e p = .bad w a
theorem Good.one {α : Type} {x : P α} (h : Good x) : Good1 x := ⟨h.ok, fun _ => h.bad⟩
theorem Good1.back {α : Type} (w : Int) : Good1 (pBack w : P α) := by
  constructor
  · intro l e p q b hb hp he h; cases h
  · intro l e p w' b h0 hb hp he h hs
    obtain ⟨rfl, rfl⟩ := Res.bad.inj h
    exact ⟨by omega, by omega, by omega, fun l' _ _ => rfl⟩
theorem Good1.ite {α : Type} {c : Prop} [Decidable c] {x y : P α} (hx : Good1 x) (hy : Good1 y) : Good1 (if c then x else y) := by split <;> assumption
theorem octet_ok {l : List Int} {e p q : Nat} {x : Int} (h : pOctet l e p = .ok x q) : q = p + 1 ∧ p < e ∧ x = l.getD p 0 := by
  unfold pOctet at h
  split at h
  · simp only [Res.ok.injEq] at h; exact ⟨h.2.symm, by assumption, h.1.symm⟩
  · cases h
theorem Good.octet : Good pOctet := by
  constructor
  · intro l e p q a hb hp he h
    obtain ⟨rfl, h1, rfl⟩ := octet_ok h
    refine ⟨by omega, by omega, fun l' hl ha => ?_⟩
    unfold pOctet; rw [if_pos h1, ha p (by omega)]
  · intro l e p w a hb hp he h hs
    unfold pOctet at h
    split at h
    · cases h
    · obtain ⟨rfl, rfl⟩ := Res.bad.inj h
      rcases hs with h | h | h <;> omega
theorem Good.octet1 {α : Type} {f : Int → P α} (hf : ∀ a, Good1 (f a)) : Good (pOctet.bind f) := by
  constructor
  · intro l e p q b hb hp he h
    cases h1 : pOctet l e p with
    | bad w a => rw [P.bind_bad h1] at h; cases h
    | ok a p' =>
      rw [P.bind_ok h1] at h
      obtain ⟨a1, a2, a3⟩ := Good.octet.ok hb hp he h1
      obtain ⟨b1, b2, b3⟩ := (hf a).ok hb a2 he h
      exact ⟨by omega, b2, fun l' hl ha => by rw [P.bind_ok (a3 l' hl (ha.mono b1))]; exact b3 l' hl ha⟩
  · intro l e p w b hb hp he h hw
    cases h1 : pOctet l e p with
    | bad w' a =>
      rw [P.bind_bad h1] at h
      obtain ⟨rfl, rfl⟩ := Res.bad.inj h
      obtain ⟨a1, a2, a0, a3⟩ := Good.octet.bad hb hp he h1 hw
      exact ⟨a1, a2, a0, fun l' hl ha => P.bind_bad (a3 l' hl ha)⟩
    | ok a p' =>
      rw [P.bind_ok h1] at h
      obtain ⟨a1, a2, a3⟩ := Good.octet.ok hb hp he h1
      obtain ⟨c1, c2, _⟩ := octet_ok h1
      obtain ⟨b1, b2, b0, b3⟩ := (hf a).bad (by omega) hb a2 he h hw
      exact ⟨by omega, b2, b0, fun l' hl ha => by rw [P.bind_ok (a3 l' hl (ha.mono (by omega)))]; exact b3 l' hl ha⟩
theorem Good.pone (these left : List Int) : Good (pOne these left) := .octet1 fun c => .ite (.back 11) (.ite (Good.ret c).one (.back 6))
theorem Good.char : Good pChar := .octet1 fun c => .ite (.back 8) (Good.ret c).one

theorem getD_take {l : List Int} {e k : Nat} (h : k < e) : (l.take e).getD k 0 = l.getD k 0 := by
  rw [List.getD_eq_getElem?_getD, List.getD_eq_getElem?_getD, List.getElem?_take, if_pos h]

/-- where the marked bytes end is where they end in bytes that agree so far -/
theorem mk_agree {l l' : List Int} {p m : Nat} (hp : p ≤ l.length) (hp' : p ≤ l'.length) (hm : lb.mk l p = m) (hlt : p + m < l.length) (hlt' : p + m < l'.length) (ha : ∀ k, k < p + m + 1 → l'.getD k 0 = l.getD k 0) : lb.mk l' p = m := by
  obtain ⟨a1, a2, a3⟩ := mk_spec l p hp
  obtain ⟨b1, b2, b3⟩ := mk_spec l' p hp'
  rw [hm] at a1 a2 a3
  have h3 := a3 hlt
  rcases Nat.lt_trichotomy (lb.mk l' p) m with h | h | h
  · have := b3 (by omega)
    rw [ha _ (by omega)] at this
    have := a2 _ h; omega
  · exact h
  · have := b2 m h
    rw [ha _ (by omega)] at this; omega
theorem vj_agree {l l' : List Int} {p : Nat} : ∀ {n : Nat}, p + n ≤ l.length → p + n ≤ l'.length → (∀ k, k < p + n → l'.getD k 0 = l.getD k 0) → vj l' p n = vj l p n
  | 0, _, _, _ => by rw [vj_zero, vj_zero]
  | n + 1, h1, h2, ha => by rw [vj_succ _ _ _ (by omega), vj_succ _ _ _ (by omega), vj_agree (by omega) (by omega) (fun k hk => ha k (by omega)), ha _ (by omega)]

theorem Good.num (d : List Int → Nat → Int × Int × Int × Int)
    (h1 : ∀ (l : List Int) (p : Nat), By l → p ≤ l.length → ((d l p).2.2.1 = 0 → ∃ q : Nat, (d l p).2.1 = q ∧ p < q ∧ q ≤ l.length) ∧ ((d l p).2.2.1 = 0 ∨ (d l p).2.2.1 = 3 ∨ (d l p).2.2.1 = 4))
    (h2 : ∀ (l l' : List Int) (p q : Nat), By l → p ≤ l.length → l'.length = l.length → (d l p).2.2.1 = 0 → (d l p).2.1 = q → (∀ k, k < q → l'.getD k 0 = l.getD k 0) → d l' p = d l p) : Good (pNum d) := by
  have hby : ∀ {l : List Int} {e : Nat}, By l → By (l.take e) := by
    intro l e hb k
    by_cases hk : k < e
    · rw [getD_take hk]; exact hb k
    · rw [List.getD_eq_getElem?_getD, List.getElem?_take, if_neg hk]; decide
  constructor
  · intro l e p q a hb hp he h
    have hl : (l.take e).length = e := by rw [List.length_take]; omega
    obtain ⟨f1, f2⟩ := h1 (l.take e) p (hby hb) (by omega)
    unfold pNum at h
    simp only at h
    split at h
    · rename_i h0
      obtain ⟨q', g1, g2, g3⟩ := f1 h0
      simp only [Res.ok.injEq] at h
      rw [g1, Int.toNat_natCast] at h
      obtain ⟨rfl, rfl⟩ := h
      refine ⟨by omega, by omega, fun l' hl' ha => ?_⟩
      have := h2 (l.take e) (l'.take e) p q' (hby hb) (by omega) (by rw [List.length_take, List.length_take, hl']) h0 g1 (fun k hk => by rw [getD_take (by omega), getD_take (by omega)]; exact ha k hk)
      unfold pNum
      simp only [this, h0, if_true, g1, Int.toNat_natCast]
    · cases h
  · intro l e p w a hb hp he h hs
    have hl : (l.take e).length = e := by rw [List.length_take]; omega
    obtain ⟨f1, f2⟩ := h1 (l.take e) p (hby hb) (by omega)
    unfold pNum at h
    simp only at h
    split at h
    · cases h
    · obtain ⟨rfl, rfl⟩ := Res.bad.inj h
      rcases f2 with f | f | f <;> rcases hs with g | g | g <;> omega
theorem Good.u : Good pU := by
  refine .num _ (fun l p hb hp => ?_) (fun l l' p q hb hp hl h0 hq ha => ?_)
  · obtain ⟨m1, m2, m3⟩ := mk_spec l p hp
    simp only [decU]
    split
    · simp
    · split
      · simp
      · split
        · simp
        · exact ⟨fun _ => ⟨p + lb.mk l p + 1, rfl, by omega, by omega⟩, .inl rfl⟩
  · obtain ⟨m1, m2, m3⟩ := mk_spec l p hp
    simp only [decU] at h0 hq ⊢
    split at h0
    · simp at h0
    · split at h0
      · simp at h0
      · split at h0
        · simp at h0
        · rename_i a1 a2 a3
          rw [if_neg a1, if_neg a2, if_neg a3] at hq
          simp only at hq
          have hq' : p + lb.mk l p + 1 = q := by omega
          have hm := mk_agree hp (by omega) rfl (by omega) (by omega) (fun k hk => ha k (by omega))
          have hg : l'.getD (p + lb.mk l p) 0 = l.getD (p + lb.mk l p) 0 := ha _ (by omega)
          rw [hm, hg, hl, vj_agree (n := lb.mk l p + 1) (by omega) (by omega) (fun k hk => ha k (by omega))]
theorem Good.sgn (k : Nat) (hk : 0 < k) (good : Int → Bool) : Good (pNum fun l p => decS l p k good) := by
  refine .num _ (fun l p hb hp => ?_) (fun l l' p q hb hp hl h0 hq ha => ?_)
  · obtain ⟨m1, m2, m3⟩ := mk_spec l p hp
    simp only [decS]
    split
    · simp
    · split
      · simp
      · split
        · simp
        · exact ⟨fun _ => ⟨p + lb.mk l p + 1, rfl, by omega, by omega⟩, .inl rfl⟩
  · obtain ⟨m1, m2, m3⟩ := mk_spec l p hp
    simp only [decS] at h0 hq ⊢
    split at h0
    · simp at h0
    · split at h0
      · simp at h0
      · split at h0
        · simp at h0
        · rename_i a1 a2 a3
          rw [if_neg a1, if_neg a2, if_neg a3] at hq
          simp only at hq
          have hq' : p + lb.mk l p + 1 = q := by omega
          have hm := mk_agree hp (by omega) rfl (by omega) (by omega) (fun k hk => ha k (by omega))
          have hg : l'.getD (p + lb.mk l p) 0 = l.getD (p + lb.mk l p) 0 := ha _ (by omega)
          have hs : svj l' p (lb.mk l p + 1) = svj l p (lb.mk l p + 1) := by
            unfold svj
            rw [vj_agree (n := lb.mk l p + 1) (by omega) (by omega) (fun k hk => ha k (by omega)), show p + (lb.mk l p + 1) - 1 = p + lb.mk l p by omega, hg]
          rw [hm, hg, hl, hs]
theorem Good.s32 : Good pS32 := .sgn 5 (by decide) good32
theorem Good.s64 : Good pS64 := .sgn 10 (by decide) good64
theorem not_sharp {w : Int} (h : ¬ (w = 5 ∨ w = 8 ∨ w = 11)) : ¬ Sharp w := h
theorem Good.low : Good pLow := .bind .s32 fun n => .ret _
theorem Good.most (limit : Int) : Good (pMost limit) := .here fun a => .bind .u fun n => .ite (.fail 7 a (not_sharp (by decide))) (.ret n)
theorem Good.kind : Good pKind := .pone _ _
theorem Good.rep {α : Type} {x : P α} (hx : Good x) : ∀ (k : Nat) (acc : List α), Good (pRep x k acc)
  | 0, acc => .ret acc
  | k + 1, acc => .bind hx fun a => .rep hx k (acc ++ [a])
theorem Good.name : Good pName := .bind (.most 32) fun n => .rep .char _ _
theorem Good.list {α : Type} {x : P α} (hx : Good x) (limit : Int) : Good (pList limit x) := .bind (.most limit) fun n => .rep hx _ _
theorem Good.skip (size : Int) (h0 : 0 ≤ size) : Good (pSkip size) := by
  constructor
  · intro l e p q a hb hp he h
    unfold pSkip at h
    split at h
    · cases h
    · simp only [Res.ok.injEq] at h
      obtain ⟨rfl, rfl⟩ := h
      exact ⟨by omega, by omega, fun l' _ _ => by unfold pSkip; rw [if_neg (by assumption)]⟩
  · intro l e p w a hb hp he h hs
    unfold pSkip at h
    split at h
    · obtain ⟨rfl, rfl⟩ := Res.bad.inj h
      rcases hs with h | h | h <;> omega
    · cases h
theorem take_agree {l l' : List Int} {p n : Nat} (hl : l'.length = l.length) (hn : p + n ≤ l.length) (ha : ∀ k, k < p + n → l'.getD k 0 = l.getD k 0) : (l'.drop p).take n = (l.drop p).take n := by
  apply List.ext_getElem?
  intro k
  rw [List.getElem?_take, List.getElem?_take]
  split
  · rename_i hk
    rw [List.getElem?_drop, List.getElem?_drop]
    have := ha (p + k) (by omega)
    rw [List.getD_eq_getElem?_getD, List.getD_eq_getElem?_getD, List.getElem?_eq_getElem (by omega), List.getElem?_eq_getElem (by omega)] at this
    rw [List.getElem?_eq_getElem (by omega), List.getElem?_eq_getElem (by omega)]
    simpa using this
  · rfl
theorem Good.copied (size : Int) (h0 : 0 ≤ size) : Good (pCopied size) := by
  constructor
  · intro l e p q a hb hp he h
    unfold pCopied at h
    split at h
    · cases h
    · simp only [Res.ok.injEq] at h
      obtain ⟨rfl, rfl⟩ := h
      refine ⟨by omega, by omega, fun l' hl ha => ?_⟩
      unfold pCopied
      rw [if_neg (by assumption), take_agree hl (by omega) (fun k hk => ha k hk)]
  · intro l e p w a hb hp he h hs
    unfold pCopied at h
    split at h
    · obtain ⟨rfl, rfl⟩ := Res.bad.inj h
      rcases hs with h | h | h <;> omega
    · cases h
end Go.Proofs.YtgcmdnkmnghhaaaGreatDoor.wm

/- All readers go forward, and hang on nothing behind. -/
set_option linter.unusedVariables false
namespace Go.Proofs.YtgcmdnkmnghhaaaGreatDoor.wm
open Go.Proofs.YtgcmdnkmnghhaaaGreatDoor.lb

theorem Good.bindP {α β : Type} {x : P α} {f : α → P β} {Q : α → Prop} (hx : Good x) (hq : ∀ (l : List Int) (e p : Nat) (a : α) (q : Nat), By l → p ≤ e → e ≤ l.length → x l e p = .ok a q → Q a) (hf : ∀ a, Q a → Good (f a)) : Good (x.bind f) := by
  constructor
  · intro l e p q b hb hp he h
    cases h1 : x l e p with
    | bad w a => rw [P.bind_bad h1] at h; cases h
    | ok a p' =>
      rw [P.bind_ok h1] at h
      obtain ⟨a1, a2, a3⟩ := hx.ok hb hp he h1
      obtain ⟨b1, b2, b3⟩ := (hf a (hq l e p a p' hb hp he h1)).ok hb a2 he h
      exact ⟨by omega, b2, fun l' hl ha => by rw [P.bind_ok (a3 l' hl (ha.mono b1))]; exact b3 l' hl ha⟩
  · intro l e p w b hb hp he h hw
    cases h1 : x l e p with
    | bad w' a =>
      rw [P.bind_bad h1] at h
      obtain ⟨rfl, rfl⟩ := Res.bad.inj h
      obtain ⟨a1, a2, a0, a3⟩ := hx.bad hb hp he h1 hw
      exact ⟨a1, a2, a0, fun l' hl ha => P.bind_bad (a3 l' hl ha)⟩
    | ok a p' =>
      rw [P.bind_ok h1] at h
      obtain ⟨a1, a2, a3⟩ := hx.ok hb hp he h1
      obtain ⟨b1, b2, b0, b3⟩ := (hf a (hq l e p a p' hb hp he h1)).bad hb a2 he h hw
      exact ⟨by omega, b2, b0, fun l' hl ha => by rw [P.bind_ok (a3 l' hl (ha.mono (by omega)))]; exact b3 l' hl ha⟩
theorem Good1.bind {α β : Type} {x : P α} {f : α → P β} (hx : Good1 x) (hf : ∀ a, Good (f a)) : Good1 (x.bind f) := by
  constructor
  · intro l e p q b hb hp he h
    cases h1 : x l e p with
    | bad w a => rw [P.bind_bad h1] at h; cases h
    | ok a p' =>
      rw [P.bind_ok h1] at h
      obtain ⟨a1, a2, a3⟩ := hx.ok hb hp he h1
      obtain ⟨b1, b2, b3⟩ := (hf a).ok hb a2 he h
      exact ⟨by omega, b2, fun l' hl ha => by rw [P.bind_ok (a3 l' hl (ha.mono b1))]; exact b3 l' hl ha⟩
  · intro l e p w b h0 hb hp he h hw
    cases h1 : x l e p with
    | bad w' a =>
      rw [P.bind_bad h1] at h
      obtain ⟨rfl, rfl⟩ := Res.bad.inj h
      obtain ⟨a1, a2, a0, a3⟩ := hx.bad h0 hb hp he h1 hw
      exact ⟨a1, a2, a0, fun l' hl ha => P.bind_bad (a3 l' hl ha)⟩
    | ok a p' =>
      rw [P.bind_ok h1] at h
      obtain ⟨a1, a2, a3⟩ := hx.ok hb hp he h1
      obtain ⟨b1, b2, b0, b3⟩ := (hf a).bad hb a2 he h hw
      exact ⟨by omega, b2, b0, fun l' hl ha => by rw [P.bind_ok (a3 l' hl (ha.mono (by omega)))]; exact b3 l' hl ha⟩
theorem Good.sig : Good pSig := .bind (.pone _ _) fun _ => .bind (.list .kind _) fun i => .bind (.list .kind _) fun o => .ret _
theorem Good.import' : Good pImport := .bind .name fun m => .bind .name fun n => .bind (.pone _ _) fun _ => .bind .u fun t => .ret _
theorem Good.declared : Good pDeclared := .bind .u fun t => .ret _
theorem Good.first (k : Int) : Good (pFirst k) := by
  constructor
  · intro l e p q b hb hp he h
    cases h1 : pOne [65, 66] [] l e p with
    | bad w a => rw [show pFirst k l e p = .bad w a from P.bind_bad h1] at h; cases h
    | ok op p' =>
      have hX : ∀ l, pOne [65, 66] [] l e p = .ok op p' → pFirst k l e p = (if (op == 65) != (k == 127) then pBack 10 else if op = 65 then pLow else pS64.bind fun n => P.ret (n % 18446744073709551616)) l e p' := fun l h => P.bind_ok h
      rw [hX l h1] at h
      obtain ⟨a1, a2, a3⟩ := (Good.pone _ _).ok hb hp he h1
      have hg : Good (if (op == 65) != (k == 127) then pBack 10 else if op = 65 then pLow else pS64.bind fun n => P.ret (n % 18446744073709551616)) := .ite (.back 10 (not_sharp (by decide))) (.ite .low (.bind .s64 fun n => .ret _))
      obtain ⟨b1, b2, b3⟩ := hg.ok hb a2 he h
      exact ⟨by omega, b2, fun l' hl ha => by rw [hX l' (a3 l' hl (ha.mono b1))]; exact b3 l' hl ha⟩
  · intro l e p w b hb hp he h hw
    have hg : Good (pFirst k) := .bind (.pone _ _) fun op => .ite (.back 10 (not_sharp (by decide))) (.ite .low (.bind .s64 fun n => .ret _))
    exact hg.bad hb hp he h hw
theorem Good.global : Good pGlobal := .bind .kind fun k => .bind (.pone _ _) fun m => .bind (.first k) fun n => .bind (.pone _ _) fun _ => .ret _
theorem Good.exportG : Good pExport := .bind .name fun n => .bind (.pone _ _) fun k => .bind .u fun x => .ret _
theorem Good.data : Good pData := .here fun a => .bind .u fun z => .ite (.fail 6 a (not_sharp (by decide))) (.bind (.pone _ _) fun _ => .bind .low fun b => .bind (.pone _ _) fun _ =>
  .bindP (Q := fun n => 0 ≤ n) (.most 4096) (fun l e p n q hb hp he h => (most_bd hb hp he h).1) fun n hn => .bind (.copied n hn) fun bs => .ret _)
theorem Good.memory (was : Int × Int) : Good (pMemory was) := .bind (.most 1) fun n => .ite (.ret _) (.bind (.pone _ _) fun told => .bind (.most 16) fun pages => .ite (.ret _) (.here fun a => .bind (.most 16) fun most => .ite (.fail 6 a (not_sharp (by decide))) (.ret _)))
theorem Good.rows : ∀ (k : Nat) (acc : List Int), Good (pRows k acc)
  | 0, acc => .ret acc
  | k + 1, acc => .bind (.most _) fun c => .bind .kind fun t => .rows k _
theorem Good.locals : Good pLocals := .bind (.most 32) fun n => .rows _ _
theorem s64_lt {l : List Int} {e p q : Nat} {n : Int} (hp : p ≤ e) (he : e ≤ l.length) (h : pS64 l e p = .ok n q) : p < q := by
  have hl : (l.take e).length = e := by rw [List.length_take]; omega
  obtain ⟨n', nx, why, a, hD⟩ : ∃ n nx why a, decS (l.take e) p 10 good64 = (n, nx, why, a) := ⟨_, _, _, _, rfl⟩
  obtain ⟨hf, _⟩ := decS_place (l.take e) p 10 (by decide) good64 (by omega) hD
  unfold pS64 pNum at h
  simp only [hD] at h
  split at h
  · rename_i h0
    obtain ⟨q', rfl, h1, h2⟩ := hf h0
    simp only [Res.ok.injEq, Int.toNat_natCast] at h
    omega
  · cases h
theorem kind_go {l : List Int} {e p q : Nat} {c : Int} (h : pOctet l e p = .ok c q) : pKind l e p = (if [125, 124].contains c then pBack 11 else if [127, 126].contains c then P.ret c else pBack 6 : P Int) l e q := P.bind_ok h
theorem kind_lt {l : List Int} {e p q : Nat} {k : Int} (h : pKind l e p = .ok k q) : q = p + 1 ∧ k = l.getD p 0 := by
  cases h1 : pOctet l e p with
  | bad w a => rw [show pKind l e p = .bad w a from P.bind_bad h1] at h; cases h
  | ok c q' =>
    obtain ⟨rfl, hlt, rfl⟩ := octet_ok h1
    rw [kind_go h1] at h
    split at h
    · cases h
    · split at h
      · simp only [P.ret, Res.ok.injEq] at h
        exact ⟨h.2.symm, h.1.symm⟩
      · cases h
theorem Good.blockType (types : List GSig) : Good (pBlockType types) := by
  have hg : ∀ a, Good (pS64.bind fun n => if n < 0 ∨ (types.length : Int) ≤ n then pFail 9 a else P.ret (types.getD n.toNat ⟨[], []⟩)) := fun a => .bind .s64 fun n => .ite (.fail 9 a (not_sharp (by decide))) (.ret _)
  have hk : Good (pKind.bind fun k => P.ret (⟨[], [k]⟩ : GSig)) := .bind .kind fun k => .ret _
  have hX : ∀ {l : List Int} {e p : Nat}, p < e → ∀ l', l'.length = l.length → Agree l l' (p + 1) → pBlockType types l' e p = if l.getD p 0 = 64 then .ok ⟨[], []⟩ (p + 1) else if l.getD p 0 = 127 ∨ l.getD p 0 = 126 ∨ l.getD p 0 = 125 ∨ l.getD p 0 = 124 then (pKind.bind fun k => P.ret ⟨[], [k]⟩) l' e p
      else (pS64.bind fun n => if n < 0 ∨ (types.length : Int) ≤ n then pFail 9 p else P.ret (types.getD n.toNat ⟨[], []⟩)) l' e p := by
    intro l e p hlt l' hl ha
    have h2 : pOctet l' e p = .ok (l.getD p 0) (p + 1) := by unfold pOctet; rw [if_pos hlt, ha p (by omega)]
    unfold pBlockType pHere; simp only [h2]
  constructor
  · intro l e p q b hb hp he h
    cases h1 : pOctet l e p with
    | bad w a => unfold pBlockType pHere at h; simp only [h1] at h; cases h
    | ok c p' =>
      obtain ⟨rfl, hlt, rfl⟩ := octet_ok h1
      have hX := hX (l := l) hlt
      rw [hX l rfl (fun _ _ => rfl)] at h
      by_cases c1 : l.getD p 0 = 64
      · rw [if_pos c1] at h
        obtain ⟨rfl, rfl⟩ := Res.ok.inj h
        exact ⟨by omega, by omega, fun l' hl ha => by rw [hX l' hl ha, if_pos c1]⟩
      · rw [if_neg c1] at h
        by_cases c2 : l.getD p 0 = 127 ∨ l.getD p 0 = 126 ∨ l.getD p 0 = 125 ∨ l.getD p 0 = 124
        · rw [if_pos c2] at h
          obtain ⟨b1, b2, b3⟩ := hk.ok hb hp he h
          have hq : p < q := by
            cases hs : pKind l e p with
            | bad w a => rw [P.bind_bad hs] at h; cases h
            | ok n q' =>
              have := (kind_lt hs).1
              rw [P.bind_ok hs] at h
              simp only [P.ret, Res.ok.injEq] at h; omega
          exact ⟨b1, b2, fun l' hl ha => by rw [hX l' hl (ha.mono (by omega)), if_neg c1, if_pos c2]; exact b3 l' hl ha⟩
        · rw [if_neg c2] at h
          obtain ⟨b1, b2, b3⟩ := (hg p).ok hb hp he h
          have hq : p < q := by
            cases hs : pS64 l e p with
            | bad w a => rw [P.bind_bad hs] at h; cases h
            | ok n q' =>
              have := s64_lt hp he hs
              rw [P.bind_ok hs] at h
              split at h
              · cases h
              · simp only [P.ret, Res.ok.injEq] at h; omega
          exact ⟨b1, b2, fun l' hl ha => by rw [hX l' hl (ha.mono (by omega)), if_neg c1, if_neg c2]; exact b3 l' hl ha⟩
  · intro l e p w b hb hp he h hw
    cases h1 : pOctet l e p with
    | bad w' a =>
      exfalso
      unfold pBlockType pHere at h; simp only [h1] at h
      obtain ⟨rfl, rfl⟩ := Res.bad.inj h
      exact absurd hw (by unfold pOctet at h1; split at h1; · cases h1
                          · obtain ⟨rfl, _⟩ := Res.bad.inj h1; unfold Sharp; decide)
    | ok c p' =>
      obtain ⟨rfl, hlt, rfl⟩ := octet_ok h1
      have hX := hX (l := l) hlt
      rw [hX l rfl (fun _ _ => rfl)] at h
      by_cases c1 : l.getD p 0 = 64
      · rw [if_pos c1] at h; cases h
      · rw [if_neg c1] at h
        by_cases c2 : l.getD p 0 = 127 ∨ l.getD p 0 = 126 ∨ l.getD p 0 = 125 ∨ l.getD p 0 = 124
        · rw [if_pos c2] at h
          obtain ⟨d1, d2, d3, d4⟩ := hk.bad hb hp he h hw
          have hpb : (p : Int) ≤ b := by
            cases hs : pKind l e p with
            | bad w' a =>
              rw [P.bind_bad hs] at h
              obtain ⟨rfl, rfl⟩ := Res.bad.inj h
              rw [kind_go h1] at hs
              split at hs
              · obtain ⟨_, rfl⟩ := Res.bad.inj hs; omega
              · split at hs
                · cases hs
                · obtain ⟨_, rfl⟩ := Res.bad.inj hs; omega
            | ok n q' => rw [P.bind_ok hs] at h; cases h
          exact ⟨d1, d2, d3, fun l' hl ha => by rw [hX l' hl (ha.mono (by omega)), if_neg c1, if_pos c2]; exact d4 l' hl ha⟩
        · exfalso
          rw [if_neg c2] at h
          cases hs : pS64 l e p with
          | bad w' a =>
            rw [P.bind_bad hs] at h
            obtain ⟨rfl, rfl⟩ := Res.bad.inj h
            have hl : (l.take e).length = e := by rw [List.length_take]; omega
            obtain ⟨n', nx, why, a', hD⟩ : ∃ n nx why a, decS (l.take e) p 10 good64 = (n, nx, why, a) := ⟨_, _, _, _, rfl⟩
            have hf := (decS_place (l.take e) p 10 (by decide) good64 (by omega) hD).2
            unfold pS64 pNum at hs
            simp only [hD] at hs
            split at hs
            · cases hs
            · obtain ⟨rfl, rfl⟩ := Res.bad.inj hs
              rcases hw with h | h | h <;> omega
          | ok n q' =>
            rw [P.bind_ok hs] at h
            split at h
            · obtain ⟨rfl, _⟩ := Res.bad.inj h; exact absurd hw (by unfold Sharp; decide)
            · cases h
theorem Good.align (w : Int) : Good (pAlign w) := .here fun a => .bind .u fun n => .ite (.fail 6 a (not_sharp (by decide))) (.ret n)
theorem Good.targets : Good pTargets := .bind (.list .u 64) fun ts => .bind .u fun t => .ret _
theorem Good1.other (op : Int) : Good1 (pOther op) := by
  unfold pOther
  split
  · exact (Good.ret _).one
  · split
    · exact (Good.bind (.align _) fun m => .bind .u fun n => .ret _).one
    · exact .ite (.back 11) (.back 6)
theorem Good1.plain (op : Int) : Good1 (pPlain op) := by
  unfold pPlain
  exact .ite (Good.ret _).one (.ite (Good.bind .u fun n => .ret _).one (.ite (Good.bind .targets fun t => .ret _).one (.ite (Good.bind (.pone _ _) fun _ => .ret _).one (.ite (Good.bind .low fun n => .ret _).one (.ite (Good.bind .s64 fun n => .ret _).one (.bind (.other op) fun x => .ret _))))))
theorem Good.run (types : List GSig) : ∀ (fuel depth : Nat) (parted : Bool) (ops : Nat) (acc : List GInstr), Good (pRun types fuel depth parted ops acc)
  | 0, _, _, _, _ => .fail 0 0 (not_sharp (by decide))
  | fuel + 1, depth, parted, ops, acc => by
    unfold pRun
    refine .octet1 fun op => .ite (Good.ret _).one (.ite (Good.ret _).one ?_)
    simp only
    refine .ite (.back 7) (.ite (Good.bind (.blockType types) fun t => .bind (.run types fuel _ _ _ _) fun r => ?_).one (.bind (.plain op) fun i => .run types fuel _ _ _ _))
    exact .ite (.bind (.run types fuel _ _ _ _) fun s => .run types fuel _ _ _ _) (.run types fuel _ _ _ _)
theorem Good.body (types : List GSig) : Good (pBody types) := by
  constructor
  · intro l e p q b hb hp he h
    unfold pBody at h
    split at h
    · rename_i r q' hr
      obtain ⟨rfl, rfl⟩ := Res.ok.inj h
      obtain ⟨a1, a2, a3⟩ := (Good.run types _ _ _ _ _).ok hb hp he hr
      exact ⟨a1, a2, fun l' hl ha => by unfold pBody; rw [a3 l' hl ha]⟩
    · cases h
  · intro l e p w b hb hp he h hw
    unfold pBody at h
    split at h
    · cases h
    · rename_i w' a hr
      obtain ⟨rfl, rfl⟩ := Res.bad.inj h
      obtain ⟨a1, a2, a0, a3⟩ := (Good.run types _ _ _ _ _).bad hb hp he hr hw
      exact ⟨a1, a2, a0, fun l' hl ha => by unfold pBody; rw [a3 l' hl ha]⟩
theorem Good.part {α : Type} {x : P α} (hx : Good x) : Good (pPart x) := by
  refine .bindP (Q := fun n => 0 ≤ n) .u (fun l e p n q hb hp he h => (u_bd hb hp he h).1) fun size h0 => ?_
  obtain ⟨s, rfl⟩ := Int.eq_ofNat_of_zero_le h0
  simp only [Int.toNat_natCast]
  constructor
  · intro l e p q b hb hp he h
    split at h
    · cases h
    · rename_i hs
      split at h
      · cases h
      · rename_i a q' hr
        split at h
        · cases h
        · rename_i hq
          obtain ⟨rfl, rfl⟩ := Res.ok.inj h
          obtain ⟨a1, a2, a3⟩ := hx.ok hb (by omega) (by omega) hr
          exact ⟨by omega, by omega, fun l' hl ha => by rw [if_neg hs, a3 l' hl (ha.mono a2)]; simp only [if_neg hq]⟩
  · intro l e p w b hb hp he h hw
    split at h
    · obtain ⟨rfl, rfl⟩ := Res.bad.inj h; exact absurd hw (by unfold Sharp; decide)
    · rename_i hs
      split at h
      · rename_i w' a hr
        obtain ⟨rfl, rfl⟩ := Res.bad.inj h
        obtain ⟨a1, a2, a0, a3⟩ := hx.bad hb (by omega) (by omega) hr hw
        exact ⟨a1, by omega, a0, fun l' hl ha => by rw [if_neg hs, a3 l' hl ha]⟩
      · rename_i a q' hr
        split at h
        · obtain ⟨rfl, rfl⟩ := Res.bad.inj h; exact absurd hw (by unfold Sharp; decide)
        · cases h
theorem Good.bodies (types : List GSig) : ∀ (fs acc : List GFunc), Good (pBodies types fs acc)
  | [], acc => .ret acc
  | f :: fs, acc => .bind (.part (.bind .locals fun lo => .bind (.body types) fun b => .ret _)) fun x => .bodies types fs _
theorem Good.fill (d : DSt) (sec : Int) : Good (pFill d sec) := by
  unfold pFill
  exact .ite (.bind (.list .sig _) fun x => .ret _) (.ite (.bind (.list .import' _) fun x => .ret _) (.ite (.bind (.list .declared _) fun x => .ret _) (.ite (.bind (.memory _) fun x => .ret _) (.ite (.bind (.list .global _) fun x => .ret _)
    (.ite (.bind (.list .exportG _) fun x => .ret _) (.ite (.bind .u fun x => .ret _) (.ite (.here fun a => .bind .u fun n => .ite (.fail 6 a (not_sharp (by decide))) (.bind (.bodies _ _ _) fun x => .ret _)) (.ite (.bind (.list .data _) fun x => .ret _) (.ret d)))))))))
theorem Good.section' (d : DSt) : Good (pSection d) := .octet1 fun sec => .ite (.back 11) (.ite (.back 6) (.ite
  (Good.bindP (Q := fun n => 0 ≤ n) .u (fun l e p n q hb hp he h => (u_bd hb hp he h).1) fun size h0 => .bind (.skip size h0) fun _ => .ret d).one (Good.part (.fill _ sec)).one))
theorem Good.sections : ∀ (fuel : Nat) (d : DSt), Good (pSections fuel d)
  | 0, d => .fail 0 0 (not_sharp (by decide))
  | fuel + 1, d => by
    have hg : Good ((pSection d).bind (pSections fuel)) := .bind (.section' d) fun d => .sections fuel d
    constructor
    · intro l e p q b hb hp he h
      simp only [pSections] at h
      split at h
      · rename_i hlt
        obtain ⟨a1, a2, a3⟩ := hg.ok hb hp he h
        exact ⟨a1, a2, fun l' hl ha => by simp only [pSections]; rw [if_pos hlt]; exact a3 l' hl ha⟩
      · rename_i hlt
        obtain ⟨rfl, rfl⟩ := Res.ok.inj h
        exact ⟨Nat.le_refl _, hp, fun l' hl ha => by simp only [pSections]; rw [if_neg hlt]⟩
    · intro l e p w b hb hp he h hw
      simp only [pSections] at h
      split at h
      · rename_i hlt
        obtain ⟨a1, a2, a0, a3⟩ := hg.bad hb hp he h hw
        exact ⟨a1, a2, a0, fun l' hl ha => by simp only [pSections]; rw [if_pos hlt]; exact a3 l' hl ha⟩
      · cases h
theorem Good.magic : ∀ cs : List Int, Good (pMagic cs)
  | [] => .ret ()
  | c :: cs => .octet1 fun x => .ite (.back 5) (Good.magic cs).one
theorem Good.module : Good pModule := by
  refine .bind (.magic _) fun _ => ?_
  constructor
  · intro l e p q b hb hp he h
    split at h
    · cases h
    · rename_i d q' hr
      obtain ⟨a1, a2, a3⟩ := (Good.sections _ _).ok hb hp he hr
      split at h
      · cases h
      · rename_i hc
        obtain ⟨rfl, rfl⟩ := Res.ok.inj h
        exact ⟨a1, a2, fun l' hl ha => by rw [a3 l' hl ha]; simp only [if_neg hc]⟩
  · intro l e p w b hb hp he h hw
    split at h
    · rename_i w' a hr
      obtain ⟨rfl, rfl⟩ := Res.bad.inj h
      obtain ⟨a1, a2, a0, a3⟩ := (Good.sections _ _).bad hb hp he hr hw
      exact ⟨a1, a2, a0, fun l' hl ha => by rw [a3 l' hl ha]⟩
    · split at h
      · obtain ⟨rfl, rfl⟩ := Res.bad.inj h; exact absurd hw (by unfold Sharp; decide)
      · cases h

/-- WasmFirst, in plain words -/
theorem first_wrong {l l' : List Int} {w a : Int} (hb : By l) (h : decodeM l = .bad w a) (hw : Sharp w) (hl : l'.length = l.length) (ha : ∀ k : Nat, (k : Int) ≤ a → l'.getD k 0 = l.getD k 0) : decodeM l' = .bad w a := by
  unfold decodeM at h ⊢
  rw [hl]
  split at h
  · obtain ⟨rfl, _⟩ := Res.bad.inj h; exact absurd hw (by unfold Sharp; decide)
  · rename_i hc
    rw [if_neg hc]
    exact (Good.module.bad hb (Nat.zero_le _) (Nat.le_refl _) h hw).2.2.2 l' hl (fun k hk => ha k (by omega))
end Go.Proofs.YtgcmdnkmnghhaaaGreatDoor.wm

/- What a coder's calls leave; an operator's model. -/
set_option linter.unusedVariables false
set_option linter.unusedSimpArgs false
namespace Go.Proofs.YtgcmdnkmnghhaaaGreatDoor.wm
open Go.RowKit Go.Proofs.YtgcmdnkmnghhaaaGreatDoor.lb

/-- the operators up to an end, as one reader with the count behind it -/
def pRun2 (types : List GSig) (fuel depth : Nat) (parted : Bool) (ops : Nat) (acc : List GInstr) : P ((List GInstr × Bool) × Nat) := fun l e p => match pRun types fuel depth parted ops acc l e p with
  | .ok r q => .ok ((r.1, r.2.1), r.2.2) q
  | .bad w a => .bad w a
/-- an operator, behind its byte -/
def pOper (types : List GSig) (fuel depth : Nat) (op : Int) (ops : Nat) : P (GInstr × Nat) := if isBlock op then
    (pBlockType types).bind fun t => (pRun2 types fuel (depth + 1) (op == 4) ops []).bind fun r =>
      if r.1.2 then (pRun2 types fuel (depth + 1) false r.2 []).bind fun s => P.ret (.mk op 0 0 t r.1.1 s.1.1 true [], s.2)
      else P.ret (.mk op 0 0 t r.1.1 [] false [], r.2)
  else (pPlain op).bind fun i => P.ret (i, ops)

theorem run2_ok {types : List GSig} {fuel depth : Nat} {parted : Bool} {ops : Nat} {acc : List GInstr} {l : List Int} {e p q : Nat} {r : List GInstr × Bool × Nat} (h : pRun types fuel depth parted ops acc l e p = .ok r q) : pRun2 types fuel depth parted ops acc l e p = .ok ((r.1, r.2.1), r.2.2) q := by unfold pRun2; rw [h]
theorem run2_bad {types : List GSig} {fuel depth : Nat} {parted : Bool} {ops : Nat} {acc : List GInstr} {l : List Int} {e p : Nat} {w a : Int} (h : pRun types fuel depth parted ops acc l e p = .bad w a) : pRun2 types fuel depth parted ops acc l e p = .bad w a := by unfold pRun2; rw [h]

/-- one round of the loop -/
theorem run_step {types : List GSig} {fuel depth : Nat} {parted : Bool} {ops : Nat} {acc : List GInstr} {l : List Int} {e p q : Nat} {op : Int} (ho : pOctet l e p = .ok op q) :
    pRun2 types (fuel + 1) depth parted ops acc l e p =
      if op = 11 then .ok ((acc, false), ops) q
      else if op = 5 ∧ parted = true then .ok ((acc, true), ops) q
      else
        let ops' := if op = 5 then ops else ops + 1
        if op ≠ 5 ∧ (512 < ops' ∨ (isBlock op = true ∧ 16 ≤ depth)) then .bad 7 p
        else ((pOper types fuel depth op ops').bind fun x => pRun2 types fuel depth parted x.2 (acc ++ [x.1])) l e q := by
  obtain ⟨rfl, _, _⟩ := octet_ok ho
  have hback : (((p + 1 : Nat) : Int) - 1) = p := by omega
  have hmap : ∀ y : Res (List GInstr × Bool × Nat), pRun types (fuel + 1) depth parted ops acc l e p = y → pRun2 types (fuel + 1) depth parted ops acc l e p = (match y with
    | .ok r q => .ok ((r.1, r.2.1), r.2.2) q
    | .bad w a => .bad w a) := fun y h => by unfold pRun2; rw [h]
  have h2map : ∀ (ops' : Nat) (acc' : List GInstr) (q : Nat), (match pRun types fuel depth parted ops' acc' l e q with
    | .ok r q => .ok ((r.1, r.2.1), r.2.2) q
    | .bad w a => .bad w a) = pRun2 types fuel depth parted ops' acc' l e q := fun _ _ _ => rfl
  rw [hmap _ rfl, pRun, P.bind_ok ho]
  by_cases h1 : op = 11
  · rw [if_pos h1, if_pos h1]; rfl
  rw [if_neg h1, if_neg h1]
  by_cases h2 : op = 5 ∧ parted = true
  · rw [if_pos h2, if_pos h2]; rfl
  rw [if_neg h2, if_neg h2]
  simp only
  generalize (if op = 5 then ops else ops + 1) = ops'
  by_cases h3 : op ≠ 5 ∧ (512 < ops' ∨ (isBlock op = true ∧ 16 ≤ depth))
  · rw [if_pos h3, if_pos h3]; simp only [pBack, hback]
  rw [if_neg h3, if_neg h3]
  unfold pOper
  by_cases h4 : isBlock op = true
  · rw [if_pos h4, if_pos h4]
    cases hb : pBlockType types l e (p + 1) with
    | bad w a => rw [P.bind_bad hb, P.bind_bad (P.bind_bad hb)]
    | ok t q1 =>
      rw [P.bind_ok hb]
      cases hr : pRun types fuel (depth + 1) (op == 4) ops' [] l e q1 with
      | bad w a => rw [P.bind_bad hr, P.bind_bad ((P.bind_ok hb).trans (P.bind_bad (run2_bad hr)))]
      | ok r q2 =>
        rw [P.bind_ok hr]
        cases hb2 : r.2.1 with
        | false =>
          rw [if_neg (by decide), P.bind_ok (a := (.mk op 0 0 t r.1 [] false [], r.2.2)) (p' := q2) ((P.bind_ok hb).trans ((P.bind_ok (run2_ok hr)).trans (by simp only [hb2]; rfl)))]
          rfl
        | true =>
          rw [if_pos rfl]
          cases hs : pRun types fuel (depth + 1) false r.2.2 [] l e q2 with
          | bad w a => rw [P.bind_bad hs, P.bind_bad ((P.bind_ok hb).trans ((P.bind_ok (run2_ok hr)).trans (by simp only [hb2, if_true]; exact P.bind_bad (run2_bad hs))))]
          | ok s q3 =>
            rw [P.bind_ok hs, P.bind_ok (a := (.mk op 0 0 t r.1 s.1 true [], s.2.2)) (p' := q3) ((P.bind_ok hb).trans ((P.bind_ok (run2_ok hr)).trans (by simp only [hb2, if_true]; exact (P.bind_ok (run2_ok hs)).trans rfl)))]
            rfl
  · rw [if_neg h4, if_neg h4]
    cases hp : pPlain op l e (p + 1) with
    | bad w a => rw [P.bind_bad hp, P.bind_bad (P.bind_bad hp)]
    | ok i q1 =>
      rw [P.bind_ok hp, P.bind_ok (a := (i, ops')) (p' := q1) ((P.bind_ok hp).trans rfl)]
      rfl
theorem run_octet_bad {types : List GSig} {fuel depth : Nat} {parted : Bool} {ops : Nat} {acc : List GInstr} {l : List Int} {e p : Nat} {w a : Int} (ho : pOctet l e p = .bad w a) : pRun2 types (fuel + 1) depth parted ops acc l e p = .bad w a := by
  unfold pRun2
  rw [pRun, P.bind_bad ho]

section
variable {w0 : World} {ao : Option Addr} {cap : Nat} {l : List Int} {ta : Option Addr} {tc : Nat} {types : List GSig}
/-- what a call of a coder leaves that counts operators -/
def OutC {α : Type} (w0 : World) (ao : Option Addr) (cap : Nat) (l : List Int) (ta : Option Addr) (tc : Nat) (types : List GSig) (r k e : Nat) (w : World) (V : World → Value → α → Prop) (x : Res (α × Nat)) (en : Ending) (w' : World) : Prop :=
  Keep (fun i => i = r ∨ i = k) w w' ∧ match x with
  | .ok a p => ∃ v, en = .returned v ∧ V w' v a.1 ∧ Cr w0 ao cap l ta tc types r k e p a.2 w'
  | .bad why a => en = thrown why a
variable {α : Type} {r k e : Nat} {w : World} {V : World → Value → α → Prop} {x : Res (α × Nat)} {en : Ending} {w' : World}
theorem OutC.good {a : α} {n p : Nat} {v : Value} (hx : x = .ok (a, n) p) (hk : Keep (fun i => i = r ∨ i = k) w w') (hv : V w' v a) (hr : Cr w0 ao cap l ta tc types r k e p n w') : OutC w0 ao cap l ta tc types r k e w V x (.returned v) w' := by
  subst hx; exact ⟨hk, v, rfl, hv, hr⟩
theorem OutC.wrong {why a : Int} (hx : x = .bad why a) (hk : Keep (fun i => i = r ∨ i = k) w w') : OutC w0 ao cap l ta tc types r k e w V x (thrown why a) w' := by
  subst hx; exact ⟨hk, rfl⟩
theorem OutC.ok_elim {a : α} {n p : Nat} (h : OutC w0 ao cap l ta tc types r k e w V x en w') (hx : x = .ok (a, n) p) : Keep (fun i => i = r ∨ i = k) w w' ∧ ∃ v, en = .returned v ∧ V w' v a ∧ Cr w0 ao cap l ta tc types r k e p n w' := by
  subst hx; exact h
theorem OutC.bad_elim {why a : Int} (h : OutC w0 ao cap l ta tc types r k e w V x en w') (hx : x = .bad why a) : Keep (fun i => i = r ∨ i = k) w w' ∧ en = thrown why a := by
  subst hx; exact h
end

/-- a block of known cells -/
def Blk (T : TypeId) (w : World) (g : Nat) (cs : Array Value) : Prop := w.heap[g]? = some (.cells cs T (0, 0))
theorem Blk.new (T : TypeId) (w : World) (cs : Array Value) : Blk T (w.alloc (.cells cs T)) w.heap.size cs := heap_alloc_new w _
theorem Blk.lt {T : TypeId} {w : World} {g : Nat} {cs : Array Value} (h : Blk T w g cs) : g < w.heap.size := (Array.getElem?_eq_some_iff.1 h).1
theorem Blk.c {T : TypeId} {w : World} {g : Nat} {cs : Array Value} (h : Blk T w g cs) (i : Nat) {v : Value} (hv : cs[i]? = some v) : w.cell? ⟨g, i, none⟩ = some v := by
  unfold Blk at h; simp [World.cell?, h, hv]
theorem Blk.f {T : TypeId} {w : World} {g : Nat} {cs : Array Value} (h : Blk T w g cs) (o : Nat) : w.frozen? ⟨g, o, none⟩ = false := by unfold Blk at h; simp [World.frozen?, h]
theorem Blk.keep {T : TypeId} {S : Nat → Prop} {w w' : World} {g : Nat} {cs : Array Value} (h : Blk T w g cs) (k : Keep S w w') (hs : ¬ S g) : Blk T w' g cs := (k.block g h.lt hs).trans h
theorem Blk.below {T : TypeId} {w w' : World} {g : Nat} {cs : Array Value} (h : Blk T w g cs) (k : Below w.heap.size w w') : Blk T w' g cs := (k.block g h.lt).trans h
theorem Blk.set {T : TypeId} {w : World} {g : Nat} {cs : Array Value} (h : Blk T w g cs) (i : Nat) (v : Value) : Blk T (w.setCell ⟨g, i, none⟩ v) g (cs.setIfInBounds i v) := by
  unfold Blk at h ⊢
  simp [World.setCell, Array.getElem?_modify, h]

/-- an operator's value -/
def VIn (B : Nat) : World → Value → GInstr → Prop := fun w v i => match i with
  | .mk op n m t b es h ts => ∃ a1 k1 a2 k2 a3 k3 a4 k4 a5 k5, v = .agg #[.int .i64 op, .int .u64 n, .int .u64 m, .slice a1 t.ins.length k1, .slice a2 t.outs.length k2, .slice a3 b.length k3, .slice a4 es.length k4, .bool h, .slice a5 ts.length k5] ∧
    (gIs t.ins).is B w (.slice a1 t.ins.length k1) ∧ (gIs t.outs).is B w (.slice a2 t.outs.length k2) ∧ VR 9 gInstr B w (.slice a3 b.length k3) b ∧ VR 9 gInstr B w (.slice a4 es.length k4) es ∧ (gIs ts).is B w (.slice a5 ts.length k5)
def VRun (B : Nat) : World → Value → List GInstr × Bool → Prop := fun w v x => ∃ a c, v = .tuple #[.slice a x.1.length c, .bool x.2] ∧ VR 9 gInstr B w (.slice a x.1.length c) x.1
end Go.Proofs.YtgcmdnkmnghhaaaGreatDoor.wm
