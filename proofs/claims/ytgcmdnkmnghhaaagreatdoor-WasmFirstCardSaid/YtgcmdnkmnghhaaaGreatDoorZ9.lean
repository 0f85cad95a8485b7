/- Put together by program: WOpC WOpD WOpE. -/
import Derived.Test.YtgcmdnkmnghhaaaGreatDoorZ8
/- The contracts of operator, an operator at a time: printed by gen_oper.py. -/
set_option linter.unusedVariables false
set_option linter.unusedSimpArgs false
namespace Go.Proofs.YtgcmdnkmnghhaaaGreatDoor.wm
open Go.RowKit Go.Proofs.YtgcmdnkmnghhaaaGreatDoor.lb
section
variable {w0 : World} {ao : Option Addr} {cap : Nat} {l : List Int} {ta : Option Addr} {tc : Nat} {types : List GSig}

set_option maxRecDepth 100000 in
set_option maxHeartbeats 1000000 in
theorem oper_14 (c : CC w0 ao cap l ta tc types) (fuel r k e p ops : Nat) (depth : Nat) (w : World) (h : Cr w0 ao cap l ta tc types r k e p ops w) :
    Calls Tryz.prog 238 #[.pointer (some ⟨k, 0, none⟩), .int .i64 ((p : Int) - 1), .int .i64 14, .int .i64 depth] w (OutC w0 ao cap l ta tc types r k e w (VIn w.heap.size) (pOper types fuel depth 14 ops l e p)) := by
  have hr := h.rr.blk.lt
  have hk := h.blk.lt
  have hb := fun k => (c.ctx.bd k).1
  have hp := h.rr.hp
  have he := h.rr.he
  have HC := Lib.hid c
  have H2 := Lib.hid (h.below (made2 w (.cells #[.int .i64 0, .int .u64 0, .int .u64 0, .slice none 0 0, .slice none 0 0, .slice none 0 0, .slice none 0 0, .bool false, .slice none 0 0] 61) (.cells #[.int .i64 14, .int .u64 0, .int .u64 0, .slice none 0 0, .slice none 0 0, .slice none 0 0, .slice none 0 0, .bool false, .slice none 0 0] 61)))
  have hsz : (w.alloc (.cells #[.int .i64 0, .int .u64 0, .int .u64 0, .slice none 0 0, .slice none 0 0, .slice none 0 0, .slice none 0 0, .bool false, .slice none 0 0] 61)).heap.size = w.heap.size + 1 := by simp [go_sem]
  have BR2 := Lib.hid ((Blk.new 61 w #[.int .i64 0, .int .u64 0, .int .u64 0, .slice none 0 0, .slice none 0 0, .slice none 0 0, .slice none 0 0, .bool false, .slice none 0 0]).below (made1 _ (.cells #[.int .i64 14, .int .u64 0, .int .u64 0, .slice none 0 0, .slice none 0 0, .slice none 0 0, .slice none 0 0, .bool false, .slice none 0 0] 61)))
  have BI2 := Lib.hid (hsz ▸ Blk.new 61 (w.alloc (.cells #[.int .i64 0, .int .u64 0, .int .u64 0, .slice none 0 0, .slice none 0 0, .slice none 0 0, .slice none 0 0, .bool false, .slice none 0 0] 61)) #[.int .i64 14, .int .u64 0, .int .u64 0, .slice none 0 0, .slice none 0 0, .slice none 0 0, .slice none 0 0, .bool false, .slice none 0 0] : Blk 61 ((w.alloc (.cells #[.int .i64 0, .int .u64 0, .int .u64 0, .slice none 0 0, .slice none 0 0, .slice none 0 0, .slice none 0 0, .bool false, .slice none 0 0] 61)).alloc (.cells #[.int .i64 14, .int .u64 0, .int .u64 0, .slice none 0 0, .slice none 0 0, .slice none 0 0, .slice none 0 0, .bool false, .slice none 0 0] 61)) (w.heap.size + 1) #[.int .i64 14, .int .u64 0, .int .u64 0, .slice none 0 0, .slice none 0 0, .slice none 0 0, .slice none 0 0, .bool false, .slice none 0 0])
  have K2 := Lib.hid (Keep.of (S := fun i => i = r ∨ i = k) (made2 w (.cells #[.int .i64 0, .int .u64 0, .int .u64 0, .slice none 0 0, .slice none 0 0, .slice none 0 0, .slice none 0 0, .bool false, .slice none 0 0] 61) (.cells #[.int .i64 14, .int .u64 0, .int .u64 0, .slice none 0 0, .slice none 0 0, .slice none 0 0, .slice none 0 0, .bool false, .slice none 0 0] 61)))
  have S2 := Lib.hid (made2 w (.cells #[.int .i64 0, .int .u64 0, .int .u64 0, .slice none 0 0, .slice none 0 0, .slice none 0 0, .slice none 0 0, .bool false, .slice none 0 0] 61) (.cells #[.int .i64 14, .int .u64 0, .int .u64 0, .slice none 0 0, .slice none 0 0, .slice none 0 0, .slice none 0 0, .bool false, .slice none 0 0] 61)).size
  clear hsz
  have hP : pPlain 14 = pTargets.bind fun t => P.ret (.mk 14 0 0 ⟨[], []⟩ [] [] false t) := rfl
  have a0 := H2.out.blk.c0
  cases hx : pTargets l e p with
  | bad why a =>
    have HX := Lib.hid (show pOper types fuel depth 14 ops l e p = .bad why a from P.bind_bad (by rw [hP]; exact P.bind_bad hx))
    have HX1 := Lib.hid hx
    clear hx h c hb hP
    go_enter Tryz.func238, Tryz.ntmps238
    go_wp2_with fail
    refine (targets_any HC.out r k e p ops _ H2.out).mono ?_
    rintro en w3 h3
    obtain ⟨k3, rfl⟩ := h3.bad_elim HX1.out
    exact ⟨rfl, OutC.wrong HX.out (K2.out.trans (k3.mono (fun i _ hi => .inl hi)))⟩
  | ok n q =>
    have HX := Lib.hid (show pOper types fuel depth 14 ops l e p = .ok (GInstr.mk 14 0 0 ⟨[], []⟩ [] [] false n, ops) q from (P.bind_ok (by rw [hP]; exact P.bind_ok hx)).trans rfl)
    have HX1 := Lib.hid hx
    clear hx h c hb hP
    go_enter Tryz.func238, Tryz.ntmps238
    go_wp2_with fail
    refine (targets_any HC.out r k e p ops _ H2.out).mono ?_
    rintro en w3 h3
    obtain ⟨k3, v3, rfl, hv3, r3⟩ := h3.ok_elim HX1.out
    obtain ⟨ao3, cap3, rfl⟩ := VR.slice hv3
    have V3 := Lib.hid hv3
    clear hv3
    have H3 := Lib.hid (H2.out.go k3 r3)
    have BI3 := Lib.hid (BI2.out.keep k3 (by omega))
    have BR3 := Lib.hid (BR2.out.keep k3 (by omega))
    have K3 := Lib.hid (K2.out.trans (k3.mono (fun i _ hi => .inl hi)))
    have KK3 := Lib.hid k3
    clear k3 r3 h3
    have c0 := BI3.out.c 0 rfl
    have r0 := BR3.out.c 0 rfl
    have f0 := BI3.out.f 0
    have z0 := BR3.out.f 0
    have c1 := BI3.out.c 1 rfl
    have r1 := BR3.out.c 1 rfl
    have f1 := BI3.out.f 1
    have z1 := BR3.out.f 1
    have c2 := BI3.out.c 2 rfl
    have r2 := BR3.out.c 2 rfl
    have f2 := BI3.out.f 2
    have z2 := BR3.out.f 2
    have c3 := BI3.out.c 3 rfl
    have r3 := BR3.out.c 3 rfl
    have f3 := BI3.out.f 3
    have z3 := BR3.out.f 3
    have c4 := BI3.out.c 4 rfl
    have r4 := BR3.out.c 4 rfl
    have f4 := BI3.out.f 4
    have z4 := BR3.out.f 4
    have c5 := BI3.out.c 5 rfl
    have r5 := BR3.out.c 5 rfl
    have f5 := BI3.out.f 5
    have z5 := BR3.out.f 5
    have c6 := BI3.out.c 6 rfl
    have r6 := BR3.out.c 6 rfl
    have f6 := BI3.out.f 6
    have z6 := BR3.out.f 6
    have c7 := BI3.out.c 7 rfl
    have r7 := BR3.out.c 7 rfl
    have f7 := BI3.out.f 7
    have z7 := BR3.out.f 7
    have c8 := BI3.out.c 8 rfl
    have r8 := BR3.out.c 8 rfl
    have f8 := BI3.out.f 8
    have z8 := BR3.out.f 8
    have KS := Lib.hid (((((((((((Keep.refl (fun i => i = w.heap.size ∨ i = w.heap.size + 1) (w3)).set (p := ⟨w.heap.size + 1, 8, none⟩) (.inl (.inr rfl)) (.slice ao3 n.length cap3)).set (p := ⟨w.heap.size, 0, none⟩) (.inl (.inl rfl)) (.int .i64 14)).set (p := ⟨w.heap.size, 1, none⟩) (.inl (.inl rfl)) (.int .u64 0)).set (p := ⟨w.heap.size, 2, none⟩) (.inl (.inl rfl)) (.int .u64 0)).set (p := ⟨w.heap.size, 3, none⟩) (.inl (.inl rfl)) (.slice none 0 0)).set (p := ⟨w.heap.size, 4, none⟩) (.inl (.inl rfl)) (.slice none 0 0)).set (p := ⟨w.heap.size, 5, none⟩) (.inl (.inl rfl)) (.slice none 0 0)).set (p := ⟨w.heap.size, 6, none⟩) (.inl (.inl rfl)) (.slice none 0 0)).set (p := ⟨w.heap.size, 7, none⟩) (.inl (.inl rfl)) (.bool false)).set (p := ⟨w.heap.size, 8, none⟩) (.inl (.inl rfl)) (.slice ao3 n.length cap3))
    have SZ := H3.out.rr.low.size
    go_wp2
    refine bodyPost_ret (v := .agg #[.int .i64 14, .int .u64 0, .int .u64 0, .slice none 0 0, .slice none 0 0, .slice none 0 0, .slice none 0 0, .bool false, .slice ao3 n.length cap3]) (by simp [results, Tryz.results238, go_sem, r0, r1, r2, r3, r4, r5, r6, r7, r8]) rfl (OutC.good HX.out (K3.out.new KS.out (fun i hi e => by omega)) ?_ (H3.out.free KS.out (fun i hi => by omega) hr hk))
    exact ⟨_, _, _, _, _, _, _, _, _, _, rfl, VR.nil 1 gI _ _, VR.nil 1 gI _ _, VR.nil 9 gInstr _ _, VR.nil 9 gInstr _ _, (Gh.is.keep V3.out (by have := S2.out; omega) (Same.keep KS.out (fun i h1 h2 e => by have := BI2.out.lt; omega)))⟩

set_option maxRecDepth 100000 in
set_option maxHeartbeats 1000000 in
theorem oper_63 (c : CC w0 ao cap l ta tc types) (fuel r k e p ops : Nat) (depth : Nat) (w : World) (h : Cr w0 ao cap l ta tc types r k e p ops w) :
    Calls Tryz.prog 238 #[.pointer (some ⟨k, 0, none⟩), .int .i64 ((p : Int) - 1), .int .i64 63, .int .i64 depth] w (OutC w0 ao cap l ta tc types r k e w (VIn w.heap.size) (pOper types fuel depth 63 ops l e p)) := by
  have hr := h.rr.blk.lt
  have hk := h.blk.lt
  have hb := fun k => (c.ctx.bd k).1
  have hp := h.rr.hp
  have he := h.rr.he
  have HC := Lib.hid c
  have H2 := Lib.hid (h.below (made2 w (.cells #[.int .i64 0, .int .u64 0, .int .u64 0, .slice none 0 0, .slice none 0 0, .slice none 0 0, .slice none 0 0, .bool false, .slice none 0 0] 61) (.cells #[.int .i64 63, .int .u64 0, .int .u64 0, .slice none 0 0, .slice none 0 0, .slice none 0 0, .slice none 0 0, .bool false, .slice none 0 0] 61)))
  have hsz : (w.alloc (.cells #[.int .i64 0, .int .u64 0, .int .u64 0, .slice none 0 0, .slice none 0 0, .slice none 0 0, .slice none 0 0, .bool false, .slice none 0 0] 61)).heap.size = w.heap.size + 1 := by simp [go_sem]
  have BR2 := Lib.hid ((Blk.new 61 w #[.int .i64 0, .int .u64 0, .int .u64 0, .slice none 0 0, .slice none 0 0, .slice none 0 0, .slice none 0 0, .bool false, .slice none 0 0]).below (made1 _ (.cells #[.int .i64 63, .int .u64 0, .int .u64 0, .slice none 0 0, .slice none 0 0, .slice none 0 0, .slice none 0 0, .bool false, .slice none 0 0] 61)))
  have BI2 := Lib.hid (hsz ▸ Blk.new 61 (w.alloc (.cells #[.int .i64 0, .int .u64 0, .int .u64 0, .slice none 0 0, .slice none 0 0, .slice none 0 0, .slice none 0 0, .bool false, .slice none 0 0] 61)) #[.int .i64 63, .int .u64 0, .int .u64 0, .slice none 0 0, .slice none 0 0, .slice none 0 0, .slice none 0 0, .bool false, .slice none 0 0] : Blk 61 ((w.alloc (.cells #[.int .i64 0, .int .u64 0, .int .u64 0, .slice none 0 0, .slice none 0 0, .slice none 0 0, .slice none 0 0, .bool false, .slice none 0 0] 61)).alloc (.cells #[.int .i64 63, .int .u64 0, .int .u64 0, .slice none 0 0, .slice none 0 0, .slice none 0 0, .slice none 0 0, .bool false, .slice none 0 0] 61)) (w.heap.size + 1) #[.int .i64 63, .int .u64 0, .int .u64 0, .slice none 0 0, .slice none 0 0, .slice none 0 0, .slice none 0 0, .bool false, .slice none 0 0])
  have K2 := Lib.hid (Keep.of (S := fun i => i = r ∨ i = k) (made2 w (.cells #[.int .i64 0, .int .u64 0, .int .u64 0, .slice none 0 0, .slice none 0 0, .slice none 0 0, .slice none 0 0, .bool false, .slice none 0 0] 61) (.cells #[.int .i64 63, .int .u64 0, .int .u64 0, .slice none 0 0, .slice none 0 0, .slice none 0 0, .slice none 0 0, .bool false, .slice none 0 0] 61)))
  have S2 := Lib.hid (made2 w (.cells #[.int .i64 0, .int .u64 0, .int .u64 0, .slice none 0 0, .slice none 0 0, .slice none 0 0, .slice none 0 0, .bool false, .slice none 0 0] 61) (.cells #[.int .i64 63, .int .u64 0, .int .u64 0, .slice none 0 0, .slice none 0 0, .slice none 0 0, .slice none 0 0, .bool false, .slice none 0 0] 61)).size
  clear hsz
  have hP : pPlain 63 = (pOne [0] []).bind fun _ => P.ret (simple 63) := rfl
  have a0 := H2.out.blk.c0
  cases hx : pOne [0] [] l e p with
  | bad why a =>
    have HX := Lib.hid (show pOper types fuel depth 63 ops l e p = .bad why a from P.bind_bad (by rw [hP]; exact P.bind_bad hx))
    have HX1 := Lib.hid hx
    clear hx h c hb hP
    go_enter Tryz.func238, Tryz.ntmps238
    go_wp2_with fail
    refine (one1' HC.out.ctx r e p _ H2.out.rr _ (by simp [go_sem]) [0] #[.int .i64 0] rfl 1 rfl (by decide)).mono ?_
    rintro en w3 h3
    obtain ⟨k3, rfl⟩ := h3.bad_elim HX1.out
    exact ⟨rfl, OutC.wrong HX.out (K2.out.trans (k3.mono (fun i _ hi => .inl hi)))⟩
  | ok n q =>
    have HX := Lib.hid (show pOper types fuel depth 63 ops l e p = .ok (simple 63, ops) q from (P.bind_ok (by rw [hP]; exact P.bind_ok hx)).trans rfl)
    have HX1 := Lib.hid hx
    clear hx h c hb hP
    go_enter Tryz.func238, Tryz.ntmps238
    go_wp2_with fail
    refine (one1' HC.out.ctx r e p _ H2.out.rr _ (by simp [go_sem]) [0] #[.int .i64 0] rfl 1 rfl (by decide)).mono ?_
    rintro en w3 h3
    obtain ⟨k3, v3, rfl, hv3, r3⟩ := h3.ok_elim HX1.out
    obtain rfl : v3 = .int .i64 n := hv3
    have H3 := Lib.hid (H2.out.go k3 r3)
    have BI3 := Lib.hid (BI2.out.keep k3 (by omega))
    have BR3 := Lib.hid (BR2.out.keep k3 (by omega))
    have K3 := Lib.hid (K2.out.trans (k3.mono (fun i _ hi => .inl hi)))
    have KK3 := Lib.hid k3
    clear k3 r3 h3
    have c0 := BI3.out.c 0 rfl
    have r0 := BR3.out.c 0 rfl
    have f0 := BI3.out.f 0
    have z0 := BR3.out.f 0
    have c1 := BI3.out.c 1 rfl
    have r1 := BR3.out.c 1 rfl
    have f1 := BI3.out.f 1
    have z1 := BR3.out.f 1
    have c2 := BI3.out.c 2 rfl
    have r2 := BR3.out.c 2 rfl
    have f2 := BI3.out.f 2
    have z2 := BR3.out.f 2
    have c3 := BI3.out.c 3 rfl
    have r3 := BR3.out.c 3 rfl
    have f3 := BI3.out.f 3
    have z3 := BR3.out.f 3
    have c4 := BI3.out.c 4 rfl
    have r4 := BR3.out.c 4 rfl
    have f4 := BI3.out.f 4
    have z4 := BR3.out.f 4
    have c5 := BI3.out.c 5 rfl
    have r5 := BR3.out.c 5 rfl
    have f5 := BI3.out.f 5
    have z5 := BR3.out.f 5
    have c6 := BI3.out.c 6 rfl
    have r6 := BR3.out.c 6 rfl
    have f6 := BI3.out.f 6
    have z6 := BR3.out.f 6
    have c7 := BI3.out.c 7 rfl
    have r7 := BR3.out.c 7 rfl
    have f7 := BI3.out.f 7
    have z7 := BR3.out.f 7
    have c8 := BI3.out.c 8 rfl
    have r8 := BR3.out.c 8 rfl
    have f8 := BI3.out.f 8
    have z8 := BR3.out.f 8
    have KS := Lib.hid ((((((((((Keep.refl (fun i => i = w.heap.size ∨ i = w.heap.size + 1) (w3)).set (p := ⟨w.heap.size, 0, none⟩) (.inl (.inl rfl)) (.int .i64 63)).set (p := ⟨w.heap.size, 1, none⟩) (.inl (.inl rfl)) (.int .u64 0)).set (p := ⟨w.heap.size, 2, none⟩) (.inl (.inl rfl)) (.int .u64 0)).set (p := ⟨w.heap.size, 3, none⟩) (.inl (.inl rfl)) (.slice none 0 0)).set (p := ⟨w.heap.size, 4, none⟩) (.inl (.inl rfl)) (.slice none 0 0)).set (p := ⟨w.heap.size, 5, none⟩) (.inl (.inl rfl)) (.slice none 0 0)).set (p := ⟨w.heap.size, 6, none⟩) (.inl (.inl rfl)) (.slice none 0 0)).set (p := ⟨w.heap.size, 7, none⟩) (.inl (.inl rfl)) (.bool false)).set (p := ⟨w.heap.size, 8, none⟩) (.inl (.inl rfl)) (.slice none 0 0))
    have SZ := H3.out.rr.low.size
    go_wp2
    refine bodyPost_ret (v := .agg #[.int .i64 63, .int .u64 0, .int .u64 0, .slice none 0 0, .slice none 0 0, .slice none 0 0, .slice none 0 0, .bool false, .slice none 0 0]) (by simp [results, Tryz.results238, go_sem, r0, r1, r2, r3, r4, r5, r6, r7, r8]) rfl (OutC.good HX.out (K3.out.new KS.out (fun i hi e => by omega)) ?_ (H3.out.free KS.out (fun i hi => by omega) hr hk))
    exact ⟨_, _, _, _, _, _, _, _, _, _, rfl, VR.nil 1 gI _ _, VR.nil 1 gI _ _, VR.nil 9 gInstr _ _, VR.nil 9 gInstr _ _, VR.nil 1 gI _ _⟩

set_option maxRecDepth 100000 in
set_option maxHeartbeats 1000000 in
theorem oper_64 (c : CC w0 ao cap l ta tc types) (fuel r k e p ops : Nat) (depth : Nat) (w : World) (h : Cr w0 ao cap l ta tc types r k e p ops w) :
    Calls Tryz.prog 238 #[.pointer (some ⟨k, 0, none⟩), .int .i64 ((p : Int) - 1), .int .i64 64, .int .i64 depth] w (OutC w0 ao cap l ta tc types r k e w (VIn w.heap.size) (pOper types fuel depth 64 ops l e p)) := by
  have hr := h.rr.blk.lt
  have hk := h.blk.lt
  have hb := fun k => (c.ctx.bd k).1
  have hp := h.rr.hp
  have he := h.rr.he
  have HC := Lib.hid c
  have H2 := Lib.hid (h.below (made2 w (.cells #[.int .i64 0, .int .u64 0, .int .u64 0, .slice none 0 0, .slice none 0 0, .slice none 0 0, .slice none 0 0, .bool false, .slice none 0 0] 61) (.cells #[.int .i64 64, .int .u64 0, .int .u64 0, .slice none 0 0, .slice none 0 0, .slice none 0 0, .slice none 0 0, .bool false, .slice none 0 0] 61)))
  have hsz : (w.alloc (.cells #[.int .i64 0, .int .u64 0, .int .u64 0, .slice none 0 0, .slice none 0 0, .slice none 0 0, .slice none 0 0, .bool false, .slice none 0 0] 61)).heap.size = w.heap.size + 1 := by simp [go_sem]
  have BR2 := Lib.hid ((Blk.new 61 w #[.int .i64 0, .int .u64 0, .int .u64 0, .slice none 0 0, .slice none 0 0, .slice none 0 0, .slice none 0 0, .bool false, .slice none 0 0]).below (made1 _ (.cells #[.int .i64 64, .int .u64 0, .int .u64 0, .slice none 0 0, .slice none 0 0, .slice none 0 0, .slice none 0 0, .bool false, .slice none 0 0] 61)))
  have BI2 := Lib.hid (hsz ▸ Blk.new 61 (w.alloc (.cells #[.int .i64 0, .int .u64 0, .int .u64 0, .slice none 0 0, .slice none 0 0, .slice none 0 0, .slice none 0 0, .bool false, .slice none 0 0] 61)) #[.int .i64 64, .int .u64 0, .int .u64 0, .slice none 0 0, .slice none 0 0, .slice none 0 0, .slice none 0 0, .bool false, .slice none 0 0] : Blk 61 ((w.alloc (.cells #[.int .i64 0, .int .u64 0, .int .u64 0, .slice none 0 0, .slice none 0 0, .slice none 0 0, .slice none 0 0, .bool false, .slice none 0 0] 61)).alloc (.cells #[.int .i64 64, .int .u64 0, .int .u64 0, .slice none 0 0, .slice none 0 0, .slice none 0 0, .slice none 0 0, .bool false, .slice none 0 0] 61)) (w.heap.size + 1) #[.int .i64 64, .int .u64 0, .int .u64 0, .slice none 0 0, .slice none 0 0, .slice none 0 0, .slice none 0 0, .bool false, .slice none 0 0])
  have K2 := Lib.hid (Keep.of (S := fun i => i = r ∨ i = k) (made2 w (.cells #[.int .i64 0, .int .u64 0, .int .u64 0, .slice none 0 0, .slice none 0 0, .slice none 0 0, .slice none 0 0, .bool false, .slice none 0 0] 61) (.cells #[.int .i64 64, .int .u64 0, .int .u64 0, .slice none 0 0, .slice none 0 0, .slice none 0 0, .slice none 0 0, .bool false, .slice none 0 0] 61)))
  have S2 := Lib.hid (made2 w (.cells #[.int .i64 0, .int .u64 0, .int .u64 0, .slice none 0 0, .slice none 0 0, .slice none 0 0, .slice none 0 0, .bool false, .slice none 0 0] 61) (.cells #[.int .i64 64, .int .u64 0, .int .u64 0, .slice none 0 0, .slice none 0 0, .slice none 0 0, .slice none 0 0, .bool false, .slice none 0 0] 61)).size
  clear hsz
  have hP : pPlain 64 = (pOne [0] []).bind fun _ => P.ret (simple 64) := rfl
  have a0 := H2.out.blk.c0
  cases hx : pOne [0] [] l e p with
  | bad why a =>
    have HX := Lib.hid (show pOper types fuel depth 64 ops l e p = .bad why a from P.bind_bad (by rw [hP]; exact P.bind_bad hx))
    have HX1 := Lib.hid hx
    clear hx h c hb hP
    go_enter Tryz.func238, Tryz.ntmps238
    go_wp2_with fail
    refine (one1' HC.out.ctx r e p _ H2.out.rr _ (by simp [go_sem]) [0] #[.int .i64 0] rfl 1 rfl (by decide)).mono ?_
    rintro en w3 h3
    obtain ⟨k3, rfl⟩ := h3.bad_elim HX1.out
    exact ⟨rfl, OutC.wrong HX.out (K2.out.trans (k3.mono (fun i _ hi => .inl hi)))⟩
  | ok n q =>
    have HX := Lib.hid (show pOper types fuel depth 64 ops l e p = .ok (simple 64, ops) q from (P.bind_ok (by rw [hP]; exact P.bind_ok hx)).trans rfl)
    have HX1 := Lib.hid hx
    clear hx h c hb hP
    go_enter Tryz.func238, Tryz.ntmps238
    go_wp2_with fail
    refine (one1' HC.out.ctx r e p _ H2.out.rr _ (by simp [go_sem]) [0] #[.int .i64 0] rfl 1 rfl (by decide)).mono ?_
    rintro en w3 h3
    obtain ⟨k3, v3, rfl, hv3, r3⟩ := h3.ok_elim HX1.out
    obtain rfl : v3 = .int .i64 n := hv3
    have H3 := Lib.hid (H2.out.go k3 r3)
    have BI3 := Lib.hid (BI2.out.keep k3 (by omega))
    have BR3 := Lib.hid (BR2.out.keep k3 (by omega))
    have K3 := Lib.hid (K2.out.trans (k3.mono (fun i _ hi => .inl hi)))
    have KK3 := Lib.hid k3
    clear k3 r3 h3
    have c0 := BI3.out.c 0 rfl
    have r0 := BR3.out.c 0 rfl
    have f0 := BI3.out.f 0
    have z0 := BR3.out.f 0
    have c1 := BI3.out.c 1 rfl
    have r1 := BR3.out.c 1 rfl
    have f1 := BI3.out.f 1
    have z1 := BR3.out.f 1
    have c2 := BI3.out.c 2 rfl
    have r2 := BR3.out.c 2 rfl
    have f2 := BI3.out.f 2
    have z2 := BR3.out.f 2
    have c3 := BI3.out.c 3 rfl
    have r3 := BR3.out.c 3 rfl
    have f3 := BI3.out.f 3
    have z3 := BR3.out.f 3
    have c4 := BI3.out.c 4 rfl
    have r4 := BR3.out.c 4 rfl
    have f4 := BI3.out.f 4
    have z4 := BR3.out.f 4
    have c5 := BI3.out.c 5 rfl
    have r5 := BR3.out.c 5 rfl
    have f5 := BI3.out.f 5
    have z5 := BR3.out.f 5
    have c6 := BI3.out.c 6 rfl
    have r6 := BR3.out.c 6 rfl
    have f6 := BI3.out.f 6
    have z6 := BR3.out.f 6
    have c7 := BI3.out.c 7 rfl
    have r7 := BR3.out.c 7 rfl
    have f7 := BI3.out.f 7
    have z7 := BR3.out.f 7
    have c8 := BI3.out.c 8 rfl
    have r8 := BR3.out.c 8 rfl
    have f8 := BI3.out.f 8
    have z8 := BR3.out.f 8
    have KS := Lib.hid ((((((((((Keep.refl (fun i => i = w.heap.size ∨ i = w.heap.size + 1) (w3)).set (p := ⟨w.heap.size, 0, none⟩) (.inl (.inl rfl)) (.int .i64 64)).set (p := ⟨w.heap.size, 1, none⟩) (.inl (.inl rfl)) (.int .u64 0)).set (p := ⟨w.heap.size, 2, none⟩) (.inl (.inl rfl)) (.int .u64 0)).set (p := ⟨w.heap.size, 3, none⟩) (.inl (.inl rfl)) (.slice none 0 0)).set (p := ⟨w.heap.size, 4, none⟩) (.inl (.inl rfl)) (.slice none 0 0)).set (p := ⟨w.heap.size, 5, none⟩) (.inl (.inl rfl)) (.slice none 0 0)).set (p := ⟨w.heap.size, 6, none⟩) (.inl (.inl rfl)) (.slice none 0 0)).set (p := ⟨w.heap.size, 7, none⟩) (.inl (.inl rfl)) (.bool false)).set (p := ⟨w.heap.size, 8, none⟩) (.inl (.inl rfl)) (.slice none 0 0))
    have SZ := H3.out.rr.low.size
    go_wp2
    refine bodyPost_ret (v := .agg #[.int .i64 64, .int .u64 0, .int .u64 0, .slice none 0 0, .slice none 0 0, .slice none 0 0, .slice none 0 0, .bool false, .slice none 0 0]) (by simp [results, Tryz.results238, go_sem, r0, r1, r2, r3, r4, r5, r6, r7, r8]) rfl (OutC.good HX.out (K3.out.new KS.out (fun i hi e => by omega)) ?_ (H3.out.free KS.out (fun i hi => by omega) hr hk))
    exact ⟨_, _, _, _, _, _, _, _, _, _, rfl, VR.nil 1 gI _ _, VR.nil 1 gI _ _, VR.nil 9 gInstr _ _, VR.nil 9 gInstr _ _, VR.nil 1 gI _ _⟩

set_option maxRecDepth 100000 in
set_option maxHeartbeats 1000000 in
theorem oper_65 (c : CC w0 ao cap l ta tc types) (fuel r k e p ops : Nat) (depth : Nat) (w : World) (h : Cr w0 ao cap l ta tc types r k e p ops w) :
    Calls Tryz.prog 238 #[.pointer (some ⟨k, 0, none⟩), .int .i64 ((p : Int) - 1), .int .i64 65, .int .i64 depth] w (OutC w0 ao cap l ta tc types r k e w (VIn w.heap.size) (pOper types fuel depth 65 ops l e p)) := by
  have hr := h.rr.blk.lt
  have hk := h.blk.lt
  have hb := fun k => (c.ctx.bd k).1
  have hp := h.rr.hp
  have he := h.rr.he
  have HC := Lib.hid c
  have H2 := Lib.hid (h.below (made2 w (.cells #[.int .i64 0, .int .u64 0, .int .u64 0, .slice none 0 0, .slice none 0 0, .slice none 0 0, .slice none 0 0, .bool false, .slice none 0 0] 61) (.cells #[.int .i64 65, .int .u64 0, .int .u64 0, .slice none 0 0, .slice none 0 0, .slice none 0 0, .slice none 0 0, .bool false, .slice none 0 0] 61)))
  have hsz : (w.alloc (.cells #[.int .i64 0, .int .u64 0, .int .u64 0, .slice none 0 0, .slice none 0 0, .slice none 0 0, .slice none 0 0, .bool false, .slice none 0 0] 61)).heap.size = w.heap.size + 1 := by simp [go_sem]
  have BR2 := Lib.hid ((Blk.new 61 w #[.int .i64 0, .int .u64 0, .int .u64 0, .slice none 0 0, .slice none 0 0, .slice none 0 0, .slice none 0 0, .bool false, .slice none 0 0]).below (made1 _ (.cells #[.int .i64 65, .int .u64 0, .int .u64 0, .slice none 0 0, .slice none 0 0, .slice none 0 0, .slice none 0 0, .bool false, .slice none 0 0] 61)))
  have BI2 := Lib.hid (hsz ▸ Blk.new 61 (w.alloc (.cells #[.int .i64 0, .int .u64 0, .int .u64 0, .slice none 0 0, .slice none 0 0, .slice none 0 0, .slice none 0 0, .bool false, .slice none 0 0] 61)) #[.int .i64 65, .int .u64 0, .int .u64 0, .slice none 0 0, .slice none 0 0, .slice none 0 0, .slice none 0 0, .bool false, .slice none 0 0] : Blk 61 ((w.alloc (.cells #[.int .i64 0, .int .u64 0, .int .u64 0, .slice none 0 0, .slice none 0 0, .slice none 0 0, .slice none 0 0, .bool false, .slice none 0 0] 61)).alloc (.cells #[.int .i64 65, .int .u64 0, .int .u64 0, .slice none 0 0, .slice none 0 0, .slice none 0 0, .slice none 0 0, .bool false, .slice none 0 0] 61)) (w.heap.size + 1) #[.int .i64 65, .int .u64 0, .int .u64 0, .slice none 0 0, .slice none 0 0, .slice none 0 0, .slice none 0 0, .bool false, .slice none 0 0])
  have K2 := Lib.hid (Keep.of (S := fun i => i = r ∨ i = k) (made2 w (.cells #[.int .i64 0, .int .u64 0, .int .u64 0, .slice none 0 0, .slice none 0 0, .slice none 0 0, .slice none 0 0, .bool false, .slice none 0 0] 61) (.cells #[.int .i64 65, .int .u64 0, .int .u64 0, .slice none 0 0, .slice none 0 0, .slice none 0 0, .slice none 0 0, .bool false, .slice none 0 0] 61)))
  have S2 := Lib.hid (made2 w (.cells #[.int .i64 0, .int .u64 0, .int .u64 0, .slice none 0 0, .slice none 0 0, .slice none 0 0, .slice none 0 0, .bool false, .slice none 0 0] 61) (.cells #[.int .i64 65, .int .u64 0, .int .u64 0, .slice none 0 0, .slice none 0 0, .slice none 0 0, .slice none 0 0, .bool false, .slice none 0 0] 61)).size
  clear hsz
  have hP : pPlain 65 = pLow.bind fun n => P.ret (.mk 65 n 0 ⟨[], []⟩ [] [] false []) := rfl
  have a0 := H2.out.blk.c0
  cases hx : pLow l e p with
  | bad why a =>
    have HX := Lib.hid (show pOper types fuel depth 65 ops l e p = .bad why a from P.bind_bad (by rw [hP]; exact P.bind_bad hx))
    have HX1 := Lib.hid hx
    clear hx h c hb hP
    go_enter Tryz.func238, Tryz.ntmps238
    go_wp2_with fail
    refine (low_any HC.out.ctx r e p _ H2.out.rr).mono ?_
    rintro en w3 h3
    obtain ⟨k3, rfl⟩ := h3.bad_elim HX1.out
    exact ⟨rfl, OutC.wrong HX.out (K2.out.trans (k3.mono (fun i _ hi => .inl hi)))⟩
  | ok n q =>
    have HX := Lib.hid (show pOper types fuel depth 65 ops l e p = .ok (GInstr.mk 65 n 0 ⟨[], []⟩ [] [] false [], ops) q from (P.bind_ok (by rw [hP]; exact P.bind_ok hx)).trans rfl)
    have HX1 := Lib.hid hx
    clear hx h c hb hP
    go_enter Tryz.func238, Tryz.ntmps238
    go_wp2_with fail
    refine (low_any HC.out.ctx r e p _ H2.out.rr).mono ?_
    rintro en w3 h3
    obtain ⟨k3, v3, rfl, hv3, r3⟩ := h3.ok_elim HX1.out
    obtain rfl : v3 = .int .u64 n := hv3
    have H3 := Lib.hid (H2.out.go k3 r3)
    have BI3 := Lib.hid (BI2.out.keep k3 (by omega))
    have BR3 := Lib.hid (BR2.out.keep k3 (by omega))
    have K3 := Lib.hid (K2.out.trans (k3.mono (fun i _ hi => .inl hi)))
    have KK3 := Lib.hid k3
    clear k3 r3 h3
    have c0 := BI3.out.c 0 rfl
    have r0 := BR3.out.c 0 rfl
    have f0 := BI3.out.f 0
    have z0 := BR3.out.f 0
    have c1 := BI3.out.c 1 rfl
    have r1 := BR3.out.c 1 rfl
    have f1 := BI3.out.f 1
    have z1 := BR3.out.f 1
    have c2 := BI3.out.c 2 rfl
    have r2 := BR3.out.c 2 rfl
    have f2 := BI3.out.f 2
    have z2 := BR3.out.f 2
    have c3 := BI3.out.c 3 rfl
    have r3 := BR3.out.c 3 rfl
    have f3 := BI3.out.f 3
    have z3 := BR3.out.f 3
    have c4 := BI3.out.c 4 rfl
    have r4 := BR3.out.c 4 rfl
    have f4 := BI3.out.f 4
    have z4 := BR3.out.f 4
    have c5 := BI3.out.c 5 rfl
    have r5 := BR3.out.c 5 rfl
    have f5 := BI3.out.f 5
    have z5 := BR3.out.f 5
    have c6 := BI3.out.c 6 rfl
    have r6 := BR3.out.c 6 rfl
    have f6 := BI3.out.f 6
    have z6 := BR3.out.f 6
    have c7 := BI3.out.c 7 rfl
    have r7 := BR3.out.c 7 rfl
    have f7 := BI3.out.f 7
    have z7 := BR3.out.f 7
    have c8 := BI3.out.c 8 rfl
    have r8 := BR3.out.c 8 rfl
    have f8 := BI3.out.f 8
    have z8 := BR3.out.f 8
    have KS := Lib.hid (((((((((((Keep.refl (fun i => i = w.heap.size ∨ i = w.heap.size + 1) (w3)).set (p := ⟨w.heap.size + 1, 1, none⟩) (.inl (.inr rfl)) (.int .u64 n)).set (p := ⟨w.heap.size, 0, none⟩) (.inl (.inl rfl)) (.int .i64 65)).set (p := ⟨w.heap.size, 1, none⟩) (.inl (.inl rfl)) (.int .u64 n)).set (p := ⟨w.heap.size, 2, none⟩) (.inl (.inl rfl)) (.int .u64 0)).set (p := ⟨w.heap.size, 3, none⟩) (.inl (.inl rfl)) (.slice none 0 0)).set (p := ⟨w.heap.size, 4, none⟩) (.inl (.inl rfl)) (.slice none 0 0)).set (p := ⟨w.heap.size, 5, none⟩) (.inl (.inl rfl)) (.slice none 0 0)).set (p := ⟨w.heap.size, 6, none⟩) (.inl (.inl rfl)) (.slice none 0 0)).set (p := ⟨w.heap.size, 7, none⟩) (.inl (.inl rfl)) (.bool false)).set (p := ⟨w.heap.size, 8, none⟩) (.inl (.inl rfl)) (.slice none 0 0))
    have SZ := H3.out.rr.low.size
    go_wp2
    refine bodyPost_ret (v := .agg #[.int .i64 65, .int .u64 n, .int .u64 0, .slice none 0 0, .slice none 0 0, .slice none 0 0, .slice none 0 0, .bool false, .slice none 0 0]) (by simp [results, Tryz.results238, go_sem, r0, r1, r2, r3, r4, r5, r6, r7, r8]) rfl (OutC.good HX.out (K3.out.new KS.out (fun i hi e => by omega)) ?_ (H3.out.free KS.out (fun i hi => by omega) hr hk))
    exact ⟨_, _, _, _, _, _, _, _, _, _, rfl, VR.nil 1 gI _ _, VR.nil 1 gI _ _, VR.nil 9 gInstr _ _, VR.nil 9 gInstr _ _, VR.nil 1 gI _ _⟩

set_option maxRecDepth 100000 in
set_option maxHeartbeats 1000000 in
theorem oper_66 (c : CC w0 ao cap l ta tc types) (fuel r k e p ops : Nat) (depth : Nat) (w : World) (h : Cr w0 ao cap l ta tc types r k e p ops w) :
    Calls Tryz.prog 238 #[.pointer (some ⟨k, 0, none⟩), .int .i64 ((p : Int) - 1), .int .i64 66, .int .i64 depth] w (OutC w0 ao cap l ta tc types r k e w (VIn w.heap.size) (pOper types fuel depth 66 ops l e p)) := by
  have hr := h.rr.blk.lt
  have hk := h.blk.lt
  have hb := fun k => (c.ctx.bd k).1
  have hp := h.rr.hp
  have he := h.rr.he
  have HC := Lib.hid c
  have H2 := Lib.hid (h.below (made2 w (.cells #[.int .i64 0, .int .u64 0, .int .u64 0, .slice none 0 0, .slice none 0 0, .slice none 0 0, .slice none 0 0, .bool false, .slice none 0 0] 61) (.cells #[.int .i64 66, .int .u64 0, .int .u64 0, .slice none 0 0, .slice none 0 0, .slice none 0 0, .slice none 0 0, .bool false, .slice none 0 0] 61)))
  have hsz : (w.alloc (.cells #[.int .i64 0, .int .u64 0, .int .u64 0, .slice none 0 0, .slice none 0 0, .slice none 0 0, .slice none 0 0, .bool false, .slice none 0 0] 61)).heap.size = w.heap.size + 1 := by simp [go_sem]
  have BR2 := Lib.hid ((Blk.new 61 w #[.int .i64 0, .int .u64 0, .int .u64 0, .slice none 0 0, .slice none 0 0, .slice none 0 0, .slice none 0 0, .bool false, .slice none 0 0]).below (made1 _ (.cells #[.int .i64 66, .int .u64 0, .int .u64 0, .slice none 0 0, .slice none 0 0, .slice none 0 0, .slice none 0 0, .bool false, .slice none 0 0] 61)))
  have BI2 := Lib.hid (hsz ▸ Blk.new 61 (w.alloc (.cells #[.int .i64 0, .int .u64 0, .int .u64 0, .slice none 0 0, .slice none 0 0, .slice none 0 0, .slice none 0 0, .bool false, .slice none 0 0] 61)) #[.int .i64 66, .int .u64 0, .int .u64 0, .slice none 0 0, .slice none 0 0, .slice none 0 0, .slice none 0 0, .bool false, .slice none 0 0] : Blk 61 ((w.alloc (.cells #[.int .i64 0, .int .u64 0, .int .u64 0, .slice none 0 0, .slice none 0 0, .slice none 0 0, .slice none 0 0, .bool false, .slice none 0 0] 61)).alloc (.cells #[.int .i64 66, .int .u64 0, .int .u64 0, .slice none 0 0, .slice none 0 0, .slice none 0 0, .slice none 0 0, .bool false, .slice none 0 0] 61)) (w.heap.size + 1) #[.int .i64 66, .int .u64 0, .int .u64 0, .slice none 0 0, .slice none 0 0, .slice none 0 0, .slice none 0 0, .bool false, .slice none 0 0])
  have K2 := Lib.hid (Keep.of (S := fun i => i = r ∨ i = k) (made2 w (.cells #[.int .i64 0, .int .u64 0, .int .u64 0, .slice none 0 0, .slice none 0 0, .slice none 0 0, .slice none 0 0, .bool false, .slice none 0 0] 61) (.cells #[.int .i64 66, .int .u64 0, .int .u64 0, .slice none 0 0, .slice none 0 0, .slice none 0 0, .slice none 0 0, .bool false, .slice none 0 0] 61)))
  have S2 := Lib.hid (made2 w (.cells #[.int .i64 0, .int .u64 0, .int .u64 0, .slice none 0 0, .slice none 0 0, .slice none 0 0, .slice none 0 0, .bool false, .slice none 0 0] 61) (.cells #[.int .i64 66, .int .u64 0, .int .u64 0, .slice none 0 0, .slice none 0 0, .slice none 0 0, .slice none 0 0, .bool false, .slice none 0 0] 61)).size
  clear hsz
  have hP : pPlain 66 = pS64.bind fun n => P.ret (.mk 66 (n % 18446744073709551616) 0 ⟨[], []⟩ [] [] false []) := rfl
  have a0 := H2.out.blk.c0
  cases hx : pS64 l e p with
  | bad why a =>
    have HX := Lib.hid (show pOper types fuel depth 66 ops l e p = .bad why a from P.bind_bad (by rw [hP]; exact P.bind_bad hx))
    have HX1 := Lib.hid hx
    clear hx h c hb hP
    go_enter Tryz.func238, Tryz.ntmps238
    go_wp2_with fail
    refine (s64_any HC.out.ctx r e p _ H2.out.rr).mono ?_
    rintro en w3 h3
    obtain ⟨k3, rfl⟩ := h3.bad_elim HX1.out
    exact ⟨rfl, OutC.wrong HX.out (K2.out.trans (k3.mono (fun i _ hi => .inl hi)))⟩
  | ok n q =>
    have HX := Lib.hid (show pOper types fuel depth 66 ops l e p = .ok (GInstr.mk 66 (n % 18446744073709551616) 0 ⟨[], []⟩ [] [] false [], ops) q from (P.bind_ok (by rw [hP]; exact P.bind_ok hx)).trans rfl)
    have HX1 := Lib.hid hx
    clear hx h c hb hP
    go_enter Tryz.func238, Tryz.ntmps238
    go_wp2_with fail
    refine (s64_any HC.out.ctx r e p _ H2.out.rr).mono ?_
    rintro en w3 h3
    obtain ⟨k3, v3, rfl, hv3, r3⟩ := h3.ok_elim HX1.out
    obtain rfl : v3 = .int .i64 n := hv3
    have H3 := Lib.hid (H2.out.go k3 r3)
    have BI3 := Lib.hid (BI2.out.keep k3 (by omega))
    have BR3 := Lib.hid (BR2.out.keep k3 (by omega))
    have K3 := Lib.hid (K2.out.trans (k3.mono (fun i _ hi => .inl hi)))
    have KK3 := Lib.hid k3
    clear k3 r3 h3
    have c0 := BI3.out.c 0 rfl
    have r0 := BR3.out.c 0 rfl
    have f0 := BI3.out.f 0
    have z0 := BR3.out.f 0
    have c1 := BI3.out.c 1 rfl
    have r1 := BR3.out.c 1 rfl
    have f1 := BI3.out.f 1
    have z1 := BR3.out.f 1
    have c2 := BI3.out.c 2 rfl
    have r2 := BR3.out.c 2 rfl
    have f2 := BI3.out.f 2
    have z2 := BR3.out.f 2
    have c3 := BI3.out.c 3 rfl
    have r3 := BR3.out.c 3 rfl
    have f3 := BI3.out.f 3
    have z3 := BR3.out.f 3
    have c4 := BI3.out.c 4 rfl
    have r4 := BR3.out.c 4 rfl
    have f4 := BI3.out.f 4
    have z4 := BR3.out.f 4
    have c5 := BI3.out.c 5 rfl
    have r5 := BR3.out.c 5 rfl
    have f5 := BI3.out.f 5
    have z5 := BR3.out.f 5
    have c6 := BI3.out.c 6 rfl
    have r6 := BR3.out.c 6 rfl
    have f6 := BI3.out.f 6
    have z6 := BR3.out.f 6
    have c7 := BI3.out.c 7 rfl
    have r7 := BR3.out.c 7 rfl
    have f7 := BI3.out.f 7
    have z7 := BR3.out.f 7
    have c8 := BI3.out.c 8 rfl
    have r8 := BR3.out.c 8 rfl
    have f8 := BI3.out.f 8
    have z8 := BR3.out.f 8
    have KS := Lib.hid (((((((((((Keep.refl (fun i => i = w.heap.size ∨ i = w.heap.size + 1) (w3)).set (p := ⟨w.heap.size + 1, 1, none⟩) (.inl (.inr rfl)) (.int .u64 (IntKind.u64.wrap n))).set (p := ⟨w.heap.size, 0, none⟩) (.inl (.inl rfl)) (.int .i64 66)).set (p := ⟨w.heap.size, 1, none⟩) (.inl (.inl rfl)) (.int .u64 (IntKind.u64.wrap n))).set (p := ⟨w.heap.size, 2, none⟩) (.inl (.inl rfl)) (.int .u64 0)).set (p := ⟨w.heap.size, 3, none⟩) (.inl (.inl rfl)) (.slice none 0 0)).set (p := ⟨w.heap.size, 4, none⟩) (.inl (.inl rfl)) (.slice none 0 0)).set (p := ⟨w.heap.size, 5, none⟩) (.inl (.inl rfl)) (.slice none 0 0)).set (p := ⟨w.heap.size, 6, none⟩) (.inl (.inl rfl)) (.slice none 0 0)).set (p := ⟨w.heap.size, 7, none⟩) (.inl (.inl rfl)) (.bool false)).set (p := ⟨w.heap.size, 8, none⟩) (.inl (.inl rfl)) (.slice none 0 0))
    have SZ := H3.out.rr.low.size
    go_wp2
    refine bodyPost_ret (v := .agg #[.int .i64 66, .int .u64 (IntKind.u64.wrap n), .int .u64 0, .slice none 0 0, .slice none 0 0, .slice none 0 0, .slice none 0 0, .bool false, .slice none 0 0]) (by simp [results, Tryz.results238, go_sem, r0, r1, r2, r3, r4, r5, r6, r7, r8]) rfl (OutC.good HX.out (K3.out.new KS.out (fun i hi e => by omega)) ?_ (H3.out.free KS.out (fun i hi => by omega) hr hk))
    exact ⟨_, _, _, _, _, _, _, _, _, _, rfl, VR.nil 1 gI _ _, VR.nil 1 gI _ _, VR.nil 9 gInstr _ _, VR.nil 9 gInstr _ _, VR.nil 1 gI _ _⟩
end
end Go.Proofs.YtgcmdnkmnghhaaaGreatDoor.wm

/- The contracts of operator, an operator at a time: printed by gen_oper.py. -/
set_option linter.unusedVariables false
set_option linter.unusedSimpArgs false
namespace Go.Proofs.YtgcmdnkmnghhaaaGreatDoor.wm
open Go.RowKit Go.Proofs.YtgcmdnkmnghhaaaGreatDoor.lb
section
variable {w0 : World} {ao : Option Addr} {cap : Nat} {l : List Int} {ta : Option Addr} {tc : Nat} {types : List GSig}

set_option maxRecDepth 100000 in
set_option maxHeartbeats 1000000 in
theorem oper_other (c : CC w0 ao cap l ta tc types) (fuel r k e p ops : Nat) (depth : Nat) (op : Int) (w : World) (h : Cr w0 ao cap l ta tc types r k e p ops w) (hn : op ≠ 0 ∧ op ≠ 1 ∧ op ≠ 15 ∧ op ≠ 26 ∧ op ≠ 27 ∧ op ≠ 2 ∧ op ≠ 3 ∧ op ≠ 4 ∧ op ≠ 12 ∧ op ≠ 13 ∧ op ≠ 16 ∧ op ≠ 32 ∧ op ≠ 33 ∧ op ≠ 34 ∧ op ≠ 35 ∧ op ≠ 36 ∧ op ≠ 14 ∧ op ≠ 63 ∧ op ≠ 64 ∧ op ≠ 65 ∧ op ≠ 66) :
    Calls Tryz.prog 238 #[.pointer (some ⟨k, 0, none⟩), .int .i64 ((p : Int) - 1), .int .i64 op, .int .i64 depth] w (OutC w0 ao cap l ta tc types r k e w (VIn w.heap.size) (pOper types fuel depth op ops l e p)) := by
  have hr := h.rr.blk.lt
  have hk := h.blk.lt
  have hb := fun k => (c.ctx.bd k).1
  have hp := h.rr.hp
  have he := h.rr.he
  have HC := Lib.hid c
  have H2 := Lib.hid (h.below (made2 w (.cells #[.int .i64 0, .int .u64 0, .int .u64 0, .slice none 0 0, .slice none 0 0, .slice none 0 0, .slice none 0 0, .bool false, .slice none 0 0] 61) (.cells #[.int .i64 op, .int .u64 0, .int .u64 0, .slice none 0 0, .slice none 0 0, .slice none 0 0, .slice none 0 0, .bool false, .slice none 0 0] 61)))
  have hsz : (w.alloc (.cells #[.int .i64 0, .int .u64 0, .int .u64 0, .slice none 0 0, .slice none 0 0, .slice none 0 0, .slice none 0 0, .bool false, .slice none 0 0] 61)).heap.size = w.heap.size + 1 := by simp [go_sem]
  have BR2 := Lib.hid ((Blk.new 61 w #[.int .i64 0, .int .u64 0, .int .u64 0, .slice none 0 0, .slice none 0 0, .slice none 0 0, .slice none 0 0, .bool false, .slice none 0 0]).below (made1 _ (.cells #[.int .i64 op, .int .u64 0, .int .u64 0, .slice none 0 0, .slice none 0 0, .slice none 0 0, .slice none 0 0, .bool false, .slice none 0 0] 61)))
  have BI2 := Lib.hid (hsz ▸ Blk.new 61 (w.alloc (.cells #[.int .i64 0, .int .u64 0, .int .u64 0, .slice none 0 0, .slice none 0 0, .slice none 0 0, .slice none 0 0, .bool false, .slice none 0 0] 61)) #[.int .i64 op, .int .u64 0, .int .u64 0, .slice none 0 0, .slice none 0 0, .slice none 0 0, .slice none 0 0, .bool false, .slice none 0 0] : Blk 61 ((w.alloc (.cells #[.int .i64 0, .int .u64 0, .int .u64 0, .slice none 0 0, .slice none 0 0, .slice none 0 0, .slice none 0 0, .bool false, .slice none 0 0] 61)).alloc (.cells #[.int .i64 op, .int .u64 0, .int .u64 0, .slice none 0 0, .slice none 0 0, .slice none 0 0, .slice none 0 0, .bool false, .slice none 0 0] 61)) (w.heap.size + 1) #[.int .i64 op, .int .u64 0, .int .u64 0, .slice none 0 0, .slice none 0 0, .slice none 0 0, .slice none 0 0, .bool false, .slice none 0 0])
  have K2 := Lib.hid (Keep.of (S := fun i => i = r ∨ i = k) (made2 w (.cells #[.int .i64 0, .int .u64 0, .int .u64 0, .slice none 0 0, .slice none 0 0, .slice none 0 0, .slice none 0 0, .bool false, .slice none 0 0] 61) (.cells #[.int .i64 op, .int .u64 0, .int .u64 0, .slice none 0 0, .slice none 0 0, .slice none 0 0, .slice none 0 0, .bool false, .slice none 0 0] 61)))
  have S2 := Lib.hid (made2 w (.cells #[.int .i64 0, .int .u64 0, .int .u64 0, .slice none 0 0, .slice none 0 0, .slice none 0 0, .slice none 0 0, .bool false, .slice none 0 0] 61) (.cells #[.int .i64 op, .int .u64 0, .int .u64 0, .slice none 0 0, .slice none 0 0, .slice none 0 0, .slice none 0 0, .bool false, .slice none 0 0] 61)).size
  clear hsz
  obtain ⟨n0, n1, n15, n26, n27, n2, n3, n4, n12, n13, n16, n32, n33, n34, n35, n36, n14, n63, n64, n65, n66⟩ := hn
  have e0 : (op == 0) = false := by simpa using n0
  have e1 : (op == 1) = false := by simpa using n1
  have e15 : (op == 15) = false := by simpa using n15
  have e26 : (op == 26) = false := by simpa using n26
  have e27 : (op == 27) = false := by simpa using n27
  have e2 : (op == 2) = false := by simpa using n2
  have e3 : (op == 3) = false := by simpa using n3
  have e4 : (op == 4) = false := by simpa using n4
  have e12 : (op == 12) = false := by simpa using n12
  have e13 : (op == 13) = false := by simpa using n13
  have e16 : (op == 16) = false := by simpa using n16
  have e32 : (op == 32) = false := by simpa using n32
  have e33 : (op == 33) = false := by simpa using n33
  have e34 : (op == 34) = false := by simpa using n34
  have e35 : (op == 35) = false := by simpa using n35
  have e36 : (op == 36) = false := by simpa using n36
  have e14 : (op == 14) = false := by simpa using n14
  have e63 : (op == 63) = false := by simpa using n63
  have e64 : (op == 64) = false := by simpa using n64
  have e65 : (op == 65) = false := by simpa using n65
  have e66 : (op == 66) = false := by simpa using n66
  have hX : pOper types fuel depth op ops l e p = ((pOther op).bind fun x => P.ret (.mk op x.1 x.2 ⟨[], []⟩ [] [] false [])).bind (fun i => P.ret (i, ops)) l e p := by
    unfold pOper
    rw [if_neg (by simp [isBlock, n2, n3, n4])]
    unfold pPlain
    rw [if_neg (by omega), if_neg (by omega), if_neg n14, if_neg (by omega), if_neg n65, if_neg n66]
  clear n0 n1 n15 n26 n27 n2 n3 n4 n12 n13 n16 n32 n33 n34 n35 n36 n14 n63 n64 n65 n66
  have HO := other_any c r k e p ops (w.heap.size + 1) op _ H2.out (by have := h.rr.low.size; omega) (by omega) (by omega) BI2.out
  cases hx : pOther op l e p with
  | bad why a =>
    have HX := Lib.hid (hX.trans (P.bind_bad (P.bind_bad hx)))
    rw [hx] at HO
    have HO := Lib.hid HO
    clear hx h c hb hX
    go_enter Tryz.func238, Tryz.ntmps238
    go_wp2_with fail
    refine HO.out.mono ?_
    rintro en w3 ⟨k3, rfl⟩
    exact ⟨rfl, OutC.wrong HX.out (K2.out.new k3 (fun i h1 h2 => by omega))⟩
  | ok x q =>
    have HX := Lib.hid (show pOper types fuel depth op ops l e p = .ok (.mk op x.1 x.2 ⟨[], []⟩ [] [] false [], ops) q from hX.trans ((P.bind_ok ((P.bind_ok hx).trans rfl)).trans rfl))
    rw [hx] at HO
    have HO := Lib.hid HO
    clear hx h c hb hX
    go_enter Tryz.func238, Tryz.ntmps238
    go_wp2_with fail
    refine HO.out.mono ?_
    rintro en w3 ⟨k3, rfl, h3, hi3⟩
    have H3 := Lib.hid h3
    have BI3 := Lib.hid (show Blk 61 w3 (w.heap.size + 1) #[.int .i64 op, .int .u64 x.1, .int .u64 x.2, .slice none 0 0, .slice none 0 0, .slice none 0 0, .slice none 0 0, .bool false, .slice none 0 0] from hi3)
    have BR3 := Lib.hid (BR2.out.keep k3 (by omega))
    have K3 := Lib.hid (K2.out.new k3 (fun i h1 h2 => by omega))
    clear k3 h3 hi3
    have c0 := BI3.out.c 0 rfl
    have r0 := BR3.out.c 0 rfl
    have f0 := BI3.out.f 0
    have z0 := BR3.out.f 0
    have c1 := BI3.out.c 1 rfl
    have r1 := BR3.out.c 1 rfl
    have f1 := BI3.out.f 1
    have z1 := BR3.out.f 1
    have c2 := BI3.out.c 2 rfl
    have r2 := BR3.out.c 2 rfl
    have f2 := BI3.out.f 2
    have z2 := BR3.out.f 2
    have c3 := BI3.out.c 3 rfl
    have r3 := BR3.out.c 3 rfl
    have f3 := BI3.out.f 3
    have z3 := BR3.out.f 3
    have c4 := BI3.out.c 4 rfl
    have r4 := BR3.out.c 4 rfl
    have f4 := BI3.out.f 4
    have z4 := BR3.out.f 4
    have c5 := BI3.out.c 5 rfl
    have r5 := BR3.out.c 5 rfl
    have f5 := BI3.out.f 5
    have z5 := BR3.out.f 5
    have c6 := BI3.out.c 6 rfl
    have r6 := BR3.out.c 6 rfl
    have f6 := BI3.out.f 6
    have z6 := BR3.out.f 6
    have c7 := BI3.out.c 7 rfl
    have r7 := BR3.out.c 7 rfl
    have f7 := BI3.out.f 7
    have z7 := BR3.out.f 7
    have c8 := BI3.out.c 8 rfl
    have r8 := BR3.out.c 8 rfl
    have f8 := BI3.out.f 8
    have z8 := BR3.out.f 8
    have KS := Lib.hid ((((((((((Keep.refl (fun i => i = w.heap.size ∨ i = w.heap.size + 1) (w3)).set (p := ⟨w.heap.size, 0, none⟩) (.inl (.inl rfl)) (.int .i64 op)).set (p := ⟨w.heap.size, 1, none⟩) (.inl (.inl rfl)) (.int .u64 x.1)).set (p := ⟨w.heap.size, 2, none⟩) (.inl (.inl rfl)) (.int .u64 x.2)).set (p := ⟨w.heap.size, 3, none⟩) (.inl (.inl rfl)) (.slice none 0 0)).set (p := ⟨w.heap.size, 4, none⟩) (.inl (.inl rfl)) (.slice none 0 0)).set (p := ⟨w.heap.size, 5, none⟩) (.inl (.inl rfl)) (.slice none 0 0)).set (p := ⟨w.heap.size, 6, none⟩) (.inl (.inl rfl)) (.slice none 0 0)).set (p := ⟨w.heap.size, 7, none⟩) (.inl (.inl rfl)) (.bool false)).set (p := ⟨w.heap.size, 8, none⟩) (.inl (.inl rfl)) (.slice none 0 0))
    have SZ := H3.out.rr.low.size
    go_wp2
    refine bodyPost_ret (v := .agg #[.int .i64 op, .int .u64 x.1, .int .u64 x.2, .slice none 0 0, .slice none 0 0, .slice none 0 0, .slice none 0 0, .bool false, .slice none 0 0]) (by simp [results, Tryz.results238, go_sem, r0, r1, r2, r3, r4, r5, r6, r7, r8]) rfl (OutC.good HX.out (K3.out.new KS.out (fun i hi e => by omega)) ?_ (H3.out.free KS.out (fun i hi => by omega) hr hk))
    exact ⟨_, _, _, _, _, _, _, _, _, _, rfl, VR.nil 1 gI _ _, VR.nil 1 gI _ _, VR.nil 9 gInstr _ _, VR.nil 9 gInstr _ _, VR.nil 1 gI _ _⟩
end
end Go.Proofs.YtgcmdnkmnghhaaaGreatDoor.wm

/- The contracts of operator at blocks: printed by gen_block.py. -/
set_option linter.unusedVariables false
set_option linter.unusedSimpArgs false
namespace Go.Proofs.YtgcmdnkmnghhaaaGreatDoor.wm
open Go.RowKit Go.Proofs.YtgcmdnkmnghhaaaGreatDoor.lb
theorem run2_ops {types : List GSig} : ∀ (fuel depth : Nat) (parted : Bool) (ops : Nat) (acc : List GInstr) (l : List Int) (e p : Nat) (r : List GInstr × Bool) (n q : Nat), ops ≤ 512 → pRun2 types fuel depth parted ops acc l e p = .ok (r, n) q → n ≤ 512
  | 0, _, _, _, _, _, _, _, _, _, _, _, h => by unfold pRun2 pRun pFail at h; cases h
  | fuel + 1, depth, parted, ops, acc, l, e, p, r, n, q, ho, h => by
    cases hc : pOctet l e p with
    | bad w a => rw [run_octet_bad hc] at h; cases h
    | ok op q1 =>
      rw [run_step hc] at h
      split at h
      · simp only [Res.ok.injEq, Prod.mk.injEq] at h; omega
      · split at h
        · simp only [Res.ok.injEq, Prod.mk.injEq] at h; omega
        · simp only at h
          generalize hops : (if op = 5 then ops else ops + 1) = ops' at h
          split at h
          · cases h
          · rename_i h3
            have ho' : ops' ≤ 512 := by
              by_cases h5 : op = 5
              · rw [if_pos h5] at hops; omega
              · by_cases h6 : 512 < ops'
                · exact absurd ⟨h5, .inl h6⟩ h3
                · omega
            cases hop : pOper types fuel depth op ops' l e q1 with
            | bad w a => rw [P.bind_bad hop] at h; cases h
            | ok x q2 =>
              rw [P.bind_ok hop] at h
              refine run2_ops fuel _ _ _ _ _ _ _ _ _ _ ?_ h
              unfold pOper at hop
              split at hop
              · cases hb : pBlockType types l e q1 with
                | bad w a => rw [P.bind_bad hb] at hop; cases hop
                | ok t q3 =>
                  rw [P.bind_ok hb] at hop
                  cases hr : pRun2 types fuel (depth + 1) (op == 4) ops' [] l e q3 with
                  | bad w a => rw [P.bind_bad hr] at hop; cases hop
                  | ok r' q4 =>
                    rw [P.bind_ok hr] at hop
                    have h4 := run2_ops fuel _ _ _ _ _ _ _ _ _ _ ho' hr
                    split at hop
                    · cases hs : pRun2 types fuel (depth + 1) false r'.2 [] l e q4 with
                      | bad w a => rw [P.bind_bad hs] at hop; cases hop
                      | ok s q5 =>
                        rw [P.bind_ok hs] at hop
                        have h5 := run2_ops fuel _ _ _ _ _ _ _ _ _ _ h4 hs
                        simp only [P.ret, Res.ok.injEq] at hop
                        rw [← hop.1]; exact h5
                    · simp only [P.ret, Res.ok.injEq] at hop
                      rw [← hop.1]; exact h4
              · cases hp : pPlain op l e q1 with
                | bad w a => rw [P.bind_bad hp] at hop; cases hop
                | ok i q3 =>
                  rw [P.bind_ok hp] at hop
                  simp only [P.ret, Res.ok.injEq] at hop
                  rw [← hop.1]; exact ho'
theorem run2_le {types : List GSig} {fuel depth : Nat} {parted : Bool} {ops : Nat} {acc : List GInstr} {l : List Int} {e p : Nat} {r : (List GInstr × Bool) × Nat} {q : Nat} (hb : By l) (hp : p ≤ e) (he : e ≤ l.length) (h : pRun2 types fuel depth parted ops acc l e p = .ok r q) : p ≤ q ∧ q ≤ e := by
  unfold pRun2 at h
  split at h
  · rename_i r' q' hr
    have := (Good.run types _ _ _ _ _).ok hb hp he hr
    simp only [Res.ok.injEq] at h
    omega
  · cases h

theorem VR.slice_len {xs : List Int} {B n c : Nat} {a : Option Addr} {w : World} (h : (gIs xs).is B w (.slice a n c)) : xs.length = n := by
  obtain ⟨ao, cap, h1, _⟩ := h
  simp at h1
  exact h1.2.1.symm
/-- run's contract, at so much fuel -/
def RunOK (w0 : World) (ao : Option Addr) (cap : Nat) (l : List Int) (ta : Option Addr) (tc : Nat) (types : List GSig) (r k e fuel : Nat) : Prop :=
  ∀ (depth : Nat) (dI : Int) (parted : Bool) (ops p : Nat) (w : World), dI = depth → Cr w0 ao cap l ta tc types r k e p ops w → depth ≤ 16 → ops ≤ 512 → e - p < fuel →
    Calls Tryz.prog 221 #[.pointer (some ⟨k, 0, none⟩), .int .i64 dI, .bool parted] w (OutC w0 ao cap l ta tc types r k e w (VRun w.heap.size) (pRun2 types fuel depth parted ops [] l e p))
section
variable {w0 : World} {ao : Option Addr} {cap : Nat} {l : List Int} {ta : Option Addr} {tc : Nat} {types : List GSig}

set_option maxRecDepth 100000 in
set_option maxHeartbeats 1000000 in
theorem oper_2 (c : CC w0 ao cap l ta tc types) (fuel r k e p ops : Nat) (depth : Nat) (w : World) (h : Cr w0 ao cap l ta tc types r k e p ops w) (hrun : RunOK w0 ao cap l ta tc types r k e fuel) (hd : depth + 1 ≤ 16) (ho : ops ≤ 512) (hf : e - p < fuel) :
    Calls Tryz.prog 238 #[.pointer (some ⟨k, 0, none⟩), .int .i64 ((p : Int) - 1), .int .i64 2, .int .i64 depth] w (OutC w0 ao cap l ta tc types r k e w (VIn w.heap.size) (pOper types fuel depth 2 ops l e p)) := by
  have hr := h.rr.blk.lt
  have hk := h.blk.lt
  have hb := fun k => (c.ctx.bd k).1
  have hp := h.rr.hp
  have he := h.rr.he
  have HC := Lib.hid c
  have H2 := Lib.hid (h.below (made2 w (.cells #[.int .i64 0, .int .u64 0, .int .u64 0, .slice none 0 0, .slice none 0 0, .slice none 0 0, .slice none 0 0, .bool false, .slice none 0 0] 61) (.cells #[.int .i64 2, .int .u64 0, .int .u64 0, .slice none 0 0, .slice none 0 0, .slice none 0 0, .slice none 0 0, .bool false, .slice none 0 0] 61)))
  have hsz : (w.alloc (.cells #[.int .i64 0, .int .u64 0, .int .u64 0, .slice none 0 0, .slice none 0 0, .slice none 0 0, .slice none 0 0, .bool false, .slice none 0 0] 61)).heap.size = w.heap.size + 1 := by simp [go_sem]
  have BR2 := Lib.hid ((Blk.new 61 w #[.int .i64 0, .int .u64 0, .int .u64 0, .slice none 0 0, .slice none 0 0, .slice none 0 0, .slice none 0 0, .bool false, .slice none 0 0]).below (made1 _ (.cells #[.int .i64 2, .int .u64 0, .int .u64 0, .slice none 0 0, .slice none 0 0, .slice none 0 0, .slice none 0 0, .bool false, .slice none 0 0] 61)))
  have BI2 := Lib.hid (hsz ▸ Blk.new 61 (w.alloc (.cells #[.int .i64 0, .int .u64 0, .int .u64 0, .slice none 0 0, .slice none 0 0, .slice none 0 0, .slice none 0 0, .bool false, .slice none 0 0] 61)) #[.int .i64 2, .int .u64 0, .int .u64 0, .slice none 0 0, .slice none 0 0, .slice none 0 0, .slice none 0 0, .bool false, .slice none 0 0] : Blk 61 ((w.alloc (.cells #[.int .i64 0, .int .u64 0, .int .u64 0, .slice none 0 0, .slice none 0 0, .slice none 0 0, .slice none 0 0, .bool false, .slice none 0 0] 61)).alloc (.cells #[.int .i64 2, .int .u64 0, .int .u64 0, .slice none 0 0, .slice none 0 0, .slice none 0 0, .slice none 0 0, .bool false, .slice none 0 0] 61)) (w.heap.size + 1) #[.int .i64 2, .int .u64 0, .int .u64 0, .slice none 0 0, .slice none 0 0, .slice none 0 0, .slice none 0 0, .bool false, .slice none 0 0])
  have K2 := Lib.hid (Keep.of (S := fun i => i = r ∨ i = k) (made2 w (.cells #[.int .i64 0, .int .u64 0, .int .u64 0, .slice none 0 0, .slice none 0 0, .slice none 0 0, .slice none 0 0, .bool false, .slice none 0 0] 61) (.cells #[.int .i64 2, .int .u64 0, .int .u64 0, .slice none 0 0, .slice none 0 0, .slice none 0 0, .slice none 0 0, .bool false, .slice none 0 0] 61)))
  have S2 := Lib.hid (made2 w (.cells #[.int .i64 0, .int .u64 0, .int .u64 0, .slice none 0 0, .slice none 0 0, .slice none 0 0, .slice none 0 0, .bool false, .slice none 0 0] 61) (.cells #[.int .i64 2, .int .u64 0, .int .u64 0, .slice none 0 0, .slice none 0 0, .slice none 0 0, .slice none 0 0, .bool false, .slice none 0 0] 61)).size
  clear hsz
  have HRUN := Lib.hid hrun
  have hX : pOper types fuel depth 2 ops l e p = ((pBlockType types).bind fun t => (pRun2 types fuel (depth + 1) false ops []).bind fun r =>
      if r.1.2 then (pRun2 types fuel (depth + 1) false r.2 []).bind fun s => P.ret (.mk 2 0 0 t r.1.1 s.1.1 true [], s.2)
      else P.ret (.mk 2 0 0 t r.1.1 [] false [], r.2)) l e p := rfl
  have hdI : (depth : Int) + 1 ≤ 16 := by omega
  cases hx1 : pBlockType types l e p with
  | bad why a =>
    have HX := Lib.hid (hX.trans (P.bind_bad hx1))
    have HX1 := Lib.hid hx1
    clear hx1 h c hb hX hrun
    go_enter Tryz.func238, Tryz.ntmps238
    go_wp2_with fail
    refine (blockType_any HC.out r k e p ops _ H2.out).mono ?_
    rintro en w3 h3
    obtain ⟨k3, rfl⟩ := h3.bad_elim HX1.out
    exact ⟨rfl, OutC.wrong HX.out (K2.out.trans (k3.mono (fun i _ hi => .inl hi)))⟩
  | ok t q1 =>
    have hq1 := (Good.blockType types).ok hb hp he hx1
    have HX1 := Lib.hid hx1
    cases hx2 : pRun2 types fuel (depth + 1) false ops [] l e q1 with
    | bad why a =>
      have HX := Lib.hid (hX.trans ((P.bind_ok hx1).trans (P.bind_bad hx2)))
      have HX2 := Lib.hid hx2
      clear hx1 hx2 h c hb hX hrun
      go_enter Tryz.func238, Tryz.ntmps238
      go_wp2_with fail
      refine (blockType_any HC.out r k e p ops _ H2.out).mono ?_
      rintro en w3 h3
      obtain ⟨k3, v3, rfl, ⟨t0, t1, rfl, hv3⟩, r3⟩ := h3.ok_elim HX1.out
      obtain ⟨⟨ia, il, ic, rfl⟩, oa, ol, oc, rfl⟩ := open_sig hv3
      have V3 := Lib.hid hv3
      have hi3 := BI2.out.keep k3 (by omega)
      have c3 := hi3.c 3 rfl
      have c4 := hi3.c 4 rfl
      have f3 := hi3.f 3
      have f4 := hi3.f 4
      have kS : Keep (fun i => i = w.heap.size + 1) w3 ((w3.setCell ⟨w.heap.size + 1, 3, none⟩ (.slice ia il ic)).setCell ⟨w.heap.size + 1, 4, none⟩ (.slice oa ol oc)) := ((Keep.refl (fun i => i = w.heap.size + 1) w3).set (p := ⟨w.heap.size + 1, 3, none⟩) (.inl rfl) _).set (p := ⟨w.heap.size + 1, 4, none⟩) (.inl rfl) _
      have BI4 := Lib.hid ((hi3.set 3 (.slice ia il ic)).set 4 (.slice oa ol oc))
      have BR4 := Lib.hid ((BR2.out.keep k3 (by omega)).keep kS (by omega))
      have H4 := Lib.hid ((H2.out.go k3 r3).free kS (n := w.heap.size) (fun i hi => by omega) hr hk)
      have K4 := Lib.hid ((K2.out.trans (k3.mono (fun i _ hi => .inl hi))).new kS (fun i h1 h2 => by omega))
      have Z3 := Lib.hid (show w.heap.size + 2 ≤ _ from BI2.out.lt)
      have Q4 := Lib.hid kS
      clear h3 k3 r3 hi3 kS hv3
      go_wp2_with fail
      refine (HRUN.out (depth + 1) _ false ops q1 _ (by omega) H4.out hd ho (by omega)).mono ?_
      rintro en w5 h5
      obtain ⟨k5, rfl⟩ := h5.bad_elim HX2.out
      exact ⟨rfl, OutC.wrong HX.out (K4.out.trans k5)⟩
    | ok r1 q2 =>
      obtain ⟨⟨bs, el⟩, ops2⟩ := r1
      have hq2 := run2_le hb hq1.2.1 he hx2
      have ho2 := run2_ops _ _ _ _ _ _ _ _ _ _ _ ho hx2
      have HX2 := Lib.hid hx2
      cases el with
      | false =>
        have HX := Lib.hid (show pOper types fuel depth 2 ops l e p = .ok (.mk 2 0 0 t bs [] false [], ops2) q2 from hX.trans ((P.bind_ok hx1).trans ((P.bind_ok hx2).trans rfl)))
        clear hx1 hx2 h c hb hX hrun
        go_enter Tryz.func238, Tryz.ntmps238
        go_wp2_with fail
        refine (blockType_any HC.out r k e p ops _ H2.out).mono ?_
        rintro en w3 h3
        obtain ⟨k3, v3, rfl, ⟨t0, t1, rfl, hv3⟩, r3⟩ := h3.ok_elim HX1.out
        obtain ⟨⟨ia, il, ic, rfl⟩, oa, ol, oc, rfl⟩ := open_sig hv3
        have V3 := Lib.hid hv3
        have hi3 := BI2.out.keep k3 (by omega)
        have c3 := hi3.c 3 rfl
        have c4 := hi3.c 4 rfl
        have f3 := hi3.f 3
        have f4 := hi3.f 4
        have kS : Keep (fun i => i = w.heap.size + 1) w3 ((w3.setCell ⟨w.heap.size + 1, 3, none⟩ (.slice ia il ic)).setCell ⟨w.heap.size + 1, 4, none⟩ (.slice oa ol oc)) := ((Keep.refl (fun i => i = w.heap.size + 1) w3).set (p := ⟨w.heap.size + 1, 3, none⟩) (.inl rfl) _).set (p := ⟨w.heap.size + 1, 4, none⟩) (.inl rfl) _
        have BI4 := Lib.hid ((hi3.set 3 (.slice ia il ic)).set 4 (.slice oa ol oc))
        have BR4 := Lib.hid ((BR2.out.keep k3 (by omega)).keep kS (by omega))
        have H4 := Lib.hid ((H2.out.go k3 r3).free kS (n := w.heap.size) (fun i hi => by omega) hr hk)
        have K4 := Lib.hid ((K2.out.trans (k3.mono (fun i _ hi => .inl hi))).new kS (fun i h1 h2 => by omega))
        have Z3 := Lib.hid (show w.heap.size + 2 ≤ _ from BI2.out.lt)
        have Q4 := Lib.hid kS
        clear h3 k3 r3 hi3 kS hv3
        go_wp2_with fail
        refine (HRUN.out (depth + 1) _ false ops q1 _ (by omega) H4.out hd ho (by omega)).mono ?_
        rintro en w5 h5
        obtain ⟨k5, v5, rfl, ⟨ba, bc, rfl, hv5⟩, r5⟩ := h5.ok_elim HX2.out
        have V5 := Lib.hid hv5
        have BI5 := Lib.hid (BI4.out.keep k5 (by omega))
        have BR5 := Lib.hid (BR4.out.keep k5 (by omega))
        have H5 := Lib.hid r5
        have K5 := Lib.hid (K4.out.trans k5)
        have Z5 := Lib.hid (show w.heap.size + 2 ≤ _ from BI4.out.lt)
        have Q5 := Lib.hid k5
        clear h5 k5 r5 hv5
        have c0 := BI5.out.c 0 rfl
        have r0 := BR5.out.c 0 rfl
        have f0 := BI5.out.f 0
        have z0 := BR5.out.f 0
        have c1 := BI5.out.c 1 rfl
        have r1 := BR5.out.c 1 rfl
        have f1 := BI5.out.f 1
        have z1 := BR5.out.f 1
        have c2 := BI5.out.c 2 rfl
        have r2 := BR5.out.c 2 rfl
        have f2 := BI5.out.f 2
        have z2 := BR5.out.f 2
        have c3 := BI5.out.c 3 rfl
        have r3 := BR5.out.c 3 rfl
        have f3 := BI5.out.f 3
        have z3 := BR5.out.f 3
        have c4 := BI5.out.c 4 rfl
        have r4 := BR5.out.c 4 rfl
        have f4 := BI5.out.f 4
        have z4 := BR5.out.f 4
        have c5 := BI5.out.c 5 rfl
        have r5 := BR5.out.c 5 rfl
        have f5 := BI5.out.f 5
        have z5 := BR5.out.f 5
        have c6 := BI5.out.c 6 rfl
        have r6 := BR5.out.c 6 rfl
        have f6 := BI5.out.f 6
        have z6 := BR5.out.f 6
        have c7 := BI5.out.c 7 rfl
        have r7 := BR5.out.c 7 rfl
        have f7 := BI5.out.f 7
        have z7 := BR5.out.f 7
        have c8 := BI5.out.c 8 rfl
        have r8 := BR5.out.c 8 rfl
        have f8 := BI5.out.f 8
        have z8 := BR5.out.f 8
        have KS := Lib.hid ((((((((((((Keep.refl (fun i => i = w.heap.size ∨ i = w.heap.size + 1) (w5)).set (p := ⟨w.heap.size + 1, 5, none⟩) (.inl (.inr rfl)) (.slice ba bs.length bc)).set (p := ⟨w.heap.size + 1, 7, none⟩) (.inl (.inr rfl)) (.bool false)).set (p := ⟨w.heap.size, 0, none⟩) (.inl (.inl rfl)) (.int .i64 2)).set (p := ⟨w.heap.size, 1, none⟩) (.inl (.inl rfl)) (.int .u64 0)).set (p := ⟨w.heap.size, 2, none⟩) (.inl (.inl rfl)) (.int .u64 0)).set (p := ⟨w.heap.size, 3, none⟩) (.inl (.inl rfl)) (.slice ia il ic)).set (p := ⟨w.heap.size, 4, none⟩) (.inl (.inl rfl)) (.slice oa ol oc)).set (p := ⟨w.heap.size, 5, none⟩) (.inl (.inl rfl)) (.slice ba bs.length bc)).set (p := ⟨w.heap.size, 6, none⟩) (.inl (.inl rfl)) (.slice none 0 0)).set (p := ⟨w.heap.size, 7, none⟩) (.inl (.inl rfl)) (.bool false)).set (p := ⟨w.heap.size, 8, none⟩) (.inl (.inl rfl)) (.slice none 0 0))
        have SZ := H5.out.rr.low.size
        go_wp2
        refine bodyPost_ret (v := .agg #[.int .i64 2, .int .u64 0, .int .u64 0, .slice ia il ic, .slice oa ol oc, .slice ba bs.length bc, .slice none 0 0, .bool false, .slice none 0 0]) (by simp [results, Tryz.results238, go_sem, r0, r1, r2, r3, r4, r5, r6, r7, r8]) rfl (OutC.good HX.out (K5.out.new KS.out (fun i hi e => by omega)) ?_ (H5.out.free KS.out (fun i hi => by omega) hr hk))
        have hI := (Gh.all_cons rfl).1 V3.out
        have hO := (Gh.all_cons rfl).1 hI.2
        have li := (VR.slice_len hI.1)
        have lo := (VR.slice_len hO.1)
        subst li lo
        exact ⟨_, _, _, _, _, _, _, _, _, _, rfl, (Gh.is.keep (Gh.is.keep (Gh.is.keep hI.1 (Nat.le_refl _) (Same.keep Q4.out (fun i h1 h2 e => by have := Z3.out; omega))) (Nat.le_refl _) (Same.keep Q5.out (fun i h1 h2 e => by have := Z3.out; omega))) (by have := Z3.out; omega) (Same.keep KS.out (fun i h1 h2 e => by have := Z3.out; omega))), (Gh.is.keep (Gh.is.keep (Gh.is.keep hO.1 (Nat.le_refl _) (Same.keep Q4.out (fun i h1 h2 e => by have := Z3.out; omega))) (Nat.le_refl _) (Same.keep Q5.out (fun i h1 h2 e => by have := Z3.out; omega))) (by have := Z3.out; omega) (Same.keep KS.out (fun i h1 h2 e => by have := Z3.out; omega))), (Gh.is.keep V5.out (by have := Z5.out; omega) (Same.keep KS.out (fun i h1 h2 e => by have := Z5.out; omega))), VR.nil 9 gInstr _ _, VR.nil 1 gI _ _⟩
      | true =>
        cases hx3 : pRun2 types fuel (depth + 1) false ops2 [] l e q2 with
        | bad why a =>
          have HX := Lib.hid (show pOper types fuel depth 2 ops l e p = .bad why a from hX.trans ((P.bind_ok hx1).trans ((P.bind_ok hx2).trans (P.bind_bad hx3))))
          have HX3 := Lib.hid hx3
          clear hx1 hx2 hx3 h c hb hX hrun
          go_enter Tryz.func238, Tryz.ntmps238
          go_wp2_with fail
          refine (blockType_any HC.out r k e p ops _ H2.out).mono ?_
          rintro en w3 h3
          obtain ⟨k3, v3, rfl, ⟨t0, t1, rfl, hv3⟩, r3⟩ := h3.ok_elim HX1.out
          obtain ⟨⟨ia, il, ic, rfl⟩, oa, ol, oc, rfl⟩ := open_sig hv3
          have V3 := Lib.hid hv3
          have hi3 := BI2.out.keep k3 (by omega)
          have c3 := hi3.c 3 rfl
          have c4 := hi3.c 4 rfl
          have f3 := hi3.f 3
          have f4 := hi3.f 4
          have kS : Keep (fun i => i = w.heap.size + 1) w3 ((w3.setCell ⟨w.heap.size + 1, 3, none⟩ (.slice ia il ic)).setCell ⟨w.heap.size + 1, 4, none⟩ (.slice oa ol oc)) := ((Keep.refl (fun i => i = w.heap.size + 1) w3).set (p := ⟨w.heap.size + 1, 3, none⟩) (.inl rfl) _).set (p := ⟨w.heap.size + 1, 4, none⟩) (.inl rfl) _
          have BI4 := Lib.hid ((hi3.set 3 (.slice ia il ic)).set 4 (.slice oa ol oc))
          have BR4 := Lib.hid ((BR2.out.keep k3 (by omega)).keep kS (by omega))
          have H4 := Lib.hid ((H2.out.go k3 r3).free kS (n := w.heap.size) (fun i hi => by omega) hr hk)
          have K4 := Lib.hid ((K2.out.trans (k3.mono (fun i _ hi => .inl hi))).new kS (fun i h1 h2 => by omega))
          have Z3 := Lib.hid (show w.heap.size + 2 ≤ _ from BI2.out.lt)
          have Q4 := Lib.hid kS
          clear h3 k3 r3 hi3 kS hv3
          go_wp2_with fail
          refine (HRUN.out (depth + 1) _ false ops q1 _ (by omega) H4.out hd ho (by omega)).mono ?_
          rintro en w5 h5
          obtain ⟨k5, v5, rfl, ⟨ba, bc, rfl, hv5⟩, r5⟩ := h5.ok_elim HX2.out
          have V5 := Lib.hid hv5
          have hi5 := BI4.out.keep k5 (by omega)
          have c5 := hi5.c 5 rfl
          have c7 := hi5.c 7 rfl
          have f5 := hi5.f 5
          have f7 := hi5.f 7
          have kS : Keep (fun i => i = w.heap.size + 1) w5 ((w5.setCell ⟨w.heap.size + 1, 5, none⟩ (.slice ba bs.length bc)).setCell ⟨w.heap.size + 1, 7, none⟩ (.bool true)) := ((Keep.refl (fun i => i = w.heap.size + 1) w5).set (p := ⟨w.heap.size + 1, 5, none⟩) (.inl rfl) _).set (p := ⟨w.heap.size + 1, 7, none⟩) (.inl rfl) _
          have BI6 := Lib.hid ((hi5.set 5 (.slice ba bs.length bc)).set 7 (.bool true))
          have BR6 := Lib.hid ((BR4.out.keep k5 (by omega)).keep kS (by omega))
          have H6 := Lib.hid (r5.free kS (n := w.heap.size) (fun i hi => by omega) hr hk)
          have K6 := Lib.hid ((K4.out.trans k5).new kS (fun i h1 h2 => by omega))
          have Z5 := Lib.hid (show w.heap.size + 2 ≤ _ from BI4.out.lt)
          have Q5 := Lib.hid k5
          have Q6 := Lib.hid kS
          clear h5 k5 r5 hi5 kS hv5
          have e7 := BI6.out.c 7 rfl
          go_wp2_with fail
          refine (HRUN.out (depth + 1) _ false ops2 q2 _ (by omega) H6.out hd ho2 (by omega)).mono ?_
          rintro en w7 h7
          obtain ⟨k7, rfl⟩ := h7.bad_elim HX3.out
          exact ⟨rfl, OutC.wrong HX.out (K6.out.trans k7)⟩
        | ok s1 q3 =>
          obtain ⟨⟨es, el2⟩, ops3⟩ := s1
          have HX := Lib.hid (show pOper types fuel depth 2 ops l e p = .ok (.mk 2 0 0 t bs es true [], ops3) q3 from hX.trans ((P.bind_ok hx1).trans ((P.bind_ok hx2).trans ((P.bind_ok hx3).trans rfl))))
          have HX3 := Lib.hid hx3
          clear hx1 hx2 hx3 h c hb hX hrun
          go_enter Tryz.func238, Tryz.ntmps238
          go_wp2_with fail
          refine (blockType_any HC.out r k e p ops _ H2.out).mono ?_
          rintro en w3 h3
          obtain ⟨k3, v3, rfl, ⟨t0, t1, rfl, hv3⟩, r3⟩ := h3.ok_elim HX1.out
          obtain ⟨⟨ia, il, ic, rfl⟩, oa, ol, oc, rfl⟩ := open_sig hv3
          have V3 := Lib.hid hv3
          have hi3 := BI2.out.keep k3 (by omega)
          have c3 := hi3.c 3 rfl
          have c4 := hi3.c 4 rfl
          have f3 := hi3.f 3
          have f4 := hi3.f 4
          have kS : Keep (fun i => i = w.heap.size + 1) w3 ((w3.setCell ⟨w.heap.size + 1, 3, none⟩ (.slice ia il ic)).setCell ⟨w.heap.size + 1, 4, none⟩ (.slice oa ol oc)) := ((Keep.refl (fun i => i = w.heap.size + 1) w3).set (p := ⟨w.heap.size + 1, 3, none⟩) (.inl rfl) _).set (p := ⟨w.heap.size + 1, 4, none⟩) (.inl rfl) _
          have BI4 := Lib.hid ((hi3.set 3 (.slice ia il ic)).set 4 (.slice oa ol oc))
          have BR4 := Lib.hid ((BR2.out.keep k3 (by omega)).keep kS (by omega))
          have H4 := Lib.hid ((H2.out.go k3 r3).free kS (n := w.heap.size) (fun i hi => by omega) hr hk)
          have K4 := Lib.hid ((K2.out.trans (k3.mono (fun i _ hi => .inl hi))).new kS (fun i h1 h2 => by omega))
          have Z3 := Lib.hid (show w.heap.size + 2 ≤ _ from BI2.out.lt)
          have Q4 := Lib.hid kS
          clear h3 k3 r3 hi3 kS hv3
          go_wp2_with fail
          refine (HRUN.out (depth + 1) _ false ops q1 _ (by omega) H4.out hd ho (by omega)).mono ?_
          rintro en w5 h5
          obtain ⟨k5, v5, rfl, ⟨ba, bc, rfl, hv5⟩, r5⟩ := h5.ok_elim HX2.out
          have V5 := Lib.hid hv5
          have hi5 := BI4.out.keep k5 (by omega)
          have c5 := hi5.c 5 rfl
          have c7 := hi5.c 7 rfl
          have f5 := hi5.f 5
          have f7 := hi5.f 7
          have kS : Keep (fun i => i = w.heap.size + 1) w5 ((w5.setCell ⟨w.heap.size + 1, 5, none⟩ (.slice ba bs.length bc)).setCell ⟨w.heap.size + 1, 7, none⟩ (.bool true)) := ((Keep.refl (fun i => i = w.heap.size + 1) w5).set (p := ⟨w.heap.size + 1, 5, none⟩) (.inl rfl) _).set (p := ⟨w.heap.size + 1, 7, none⟩) (.inl rfl) _
          have BI6 := Lib.hid ((hi5.set 5 (.slice ba bs.length bc)).set 7 (.bool true))
          have BR6 := Lib.hid ((BR4.out.keep k5 (by omega)).keep kS (by omega))
          have H6 := Lib.hid (r5.free kS (n := w.heap.size) (fun i hi => by omega) hr hk)
          have K6 := Lib.hid ((K4.out.trans k5).new kS (fun i h1 h2 => by omega))
          have Z5 := Lib.hid (show w.heap.size + 2 ≤ _ from BI4.out.lt)
          have Q5 := Lib.hid k5
          have Q6 := Lib.hid kS
          clear h5 k5 r5 hi5 kS hv5
          have e7 := BI6.out.c 7 rfl
          go_wp2_with fail
          refine (HRUN.out (depth + 1) _ false ops2 q2 _ (by omega) H6.out hd ho2 (by omega)).mono ?_
          rintro en w7 h7
          obtain ⟨k7, v7, rfl, ⟨ea, ec, rfl, hv7⟩, r7⟩ := h7.ok_elim HX3.out
          have V7 := Lib.hid hv7
          have Z7 := Lib.hid (show w.heap.size + 2 ≤ _ from BI6.out.lt)
          have BI7 := Lib.hid (BI6.out.keep k7 (by omega))
          have BR7 := Lib.hid (BR6.out.keep k7 (by omega))
          have H7 := Lib.hid r7
          have K7 := Lib.hid (K6.out.trans k7)
          have Q7 := Lib.hid k7
          clear h7 k7 r7 hv7
          have c0 := BI7.out.c 0 rfl
          have r0 := BR7.out.c 0 rfl
          have f0 := BI7.out.f 0
          have z0 := BR7.out.f 0
          have c1 := BI7.out.c 1 rfl
          have r1 := BR7.out.c 1 rfl
          have f1 := BI7.out.f 1
          have z1 := BR7.out.f 1
          have c2 := BI7.out.c 2 rfl
          have r2 := BR7.out.c 2 rfl
          have f2 := BI7.out.f 2
          have z2 := BR7.out.f 2
          have c3 := BI7.out.c 3 rfl
          have r3 := BR7.out.c 3 rfl
          have f3 := BI7.out.f 3
          have z3 := BR7.out.f 3
          have c4 := BI7.out.c 4 rfl
          have r4 := BR7.out.c 4 rfl
          have f4 := BI7.out.f 4
          have z4 := BR7.out.f 4
          have c5 := BI7.out.c 5 rfl
          have r5 := BR7.out.c 5 rfl
          have f5 := BI7.out.f 5
          have z5 := BR7.out.f 5
          have c6 := BI7.out.c 6 rfl
          have r6 := BR7.out.c 6 rfl
          have f6 := BI7.out.f 6
          have z6 := BR7.out.f 6
          have c7 := BI7.out.c 7 rfl
          have r7 := BR7.out.c 7 rfl
          have f7 := BI7.out.f 7
          have z7 := BR7.out.f 7
          have c8 := BI7.out.c 8 rfl
          have r8 := BR7.out.c 8 rfl
          have f8 := BI7.out.f 8
          have z8 := BR7.out.f 8
          have KS := Lib.hid (((((((((((Keep.refl (fun i => i = w.heap.size ∨ i = w.heap.size + 1) (w7)).set (p := ⟨w.heap.size + 1, 6, none⟩) (.inl (.inr rfl)) (.slice ea es.length ec)).set (p := ⟨w.heap.size, 0, none⟩) (.inl (.inl rfl)) (.int .i64 2)).set (p := ⟨w.heap.size, 1, none⟩) (.inl (.inl rfl)) (.int .u64 0)).set (p := ⟨w.heap.size, 2, none⟩) (.inl (.inl rfl)) (.int .u64 0)).set (p := ⟨w.heap.size, 3, none⟩) (.inl (.inl rfl)) (.slice ia il ic)).set (p := ⟨w.heap.size, 4, none⟩) (.inl (.inl rfl)) (.slice oa ol oc)).set (p := ⟨w.heap.size, 5, none⟩) (.inl (.inl rfl)) (.slice ba bs.length bc)).set (p := ⟨w.heap.size, 6, none⟩) (.inl (.inl rfl)) (.slice ea es.length ec)).set (p := ⟨w.heap.size, 7, none⟩) (.inl (.inl rfl)) (.bool true)).set (p := ⟨w.heap.size, 8, none⟩) (.inl (.inl rfl)) (.slice none 0 0))
          have SZ := H7.out.rr.low.size
          go_wp2
          refine bodyPost_ret (v := .agg #[.int .i64 2, .int .u64 0, .int .u64 0, .slice ia il ic, .slice oa ol oc, .slice ba bs.length bc, .slice ea es.length ec, .bool true, .slice none 0 0]) (by simp [results, Tryz.results238, go_sem, r0, r1, r2, r3, r4, r5, r6, r7, r8]) rfl (OutC.good HX.out (K7.out.new KS.out (fun i hi e => by omega)) ?_ (H7.out.free KS.out (fun i hi => by omega) hr hk))
          have hI := (Gh.all_cons rfl).1 V3.out
          have hO := (Gh.all_cons rfl).1 hI.2
          have li := (VR.slice_len hI.1)
          have lo := (VR.slice_len hO.1)
          subst li lo
          exact ⟨_, _, _, _, _, _, _, _, _, _, rfl, (Gh.is.keep (Gh.is.keep (Gh.is.keep (Gh.is.keep (Gh.is.keep hI.1 (Nat.le_refl _) (Same.keep Q4.out (fun i h1 h2 e => by have := Z3.out; omega))) (Nat.le_refl _) (Same.keep Q5.out (fun i h1 h2 e => by have := Z3.out; omega))) (Nat.le_refl _) (Same.keep Q6.out (fun i h1 h2 e => by have := Z3.out; omega))) (Nat.le_refl _) (Same.keep Q7.out (fun i h1 h2 e => by have := Z3.out; omega))) (by have := Z3.out; omega) (Same.keep KS.out (fun i h1 h2 e => by have := Z3.out; omega))), (Gh.is.keep (Gh.is.keep (Gh.is.keep (Gh.is.keep (Gh.is.keep hO.1 (Nat.le_refl _) (Same.keep Q4.out (fun i h1 h2 e => by have := Z3.out; omega))) (Nat.le_refl _) (Same.keep Q5.out (fun i h1 h2 e => by have := Z3.out; omega))) (Nat.le_refl _) (Same.keep Q6.out (fun i h1 h2 e => by have := Z3.out; omega))) (Nat.le_refl _) (Same.keep Q7.out (fun i h1 h2 e => by have := Z3.out; omega))) (by have := Z3.out; omega) (Same.keep KS.out (fun i h1 h2 e => by have := Z3.out; omega))), (Gh.is.keep (Gh.is.keep (Gh.is.keep V5.out (Nat.le_refl _) (Same.keep Q6.out (fun i h1 h2 e => by have := Z5.out; omega))) (Nat.le_refl _) (Same.keep Q7.out (fun i h1 h2 e => by have := Z5.out; omega))) (by have := Z5.out; omega) (Same.keep KS.out (fun i h1 h2 e => by have := Z5.out; omega))), (Gh.is.keep V7.out (by have := Z7.out; omega) (Same.keep KS.out (fun i h1 h2 e => by have := Z7.out; omega))), VR.nil 1 gI _ _⟩
end
end Go.Proofs.YtgcmdnkmnghhaaaGreatDoor.wm
