/- Put together by program: WOpA WOpB. -/
import Derived.Test.YtgcmdnkmnghhaaaGreatDoorZ6
/- The contracts of operator, an operator at a time: printed by gen_oper.py. -/
set_option linter.unusedVariables false
set_option linter.unusedSimpArgs false
namespace Go.Proofs.YtgcmdnkmnghhaaaGreatDoor.wm
open Go.RowKit Go.Proofs.YtgcmdnkmnghhaaaGreatDoor.lb
theorem Cr.free {w0 : World} {ao : Option Addr} {cap : Nat} {l : List Int} {ta : Option Addr} {tc : Nat} {types : List GSig} {r k e p ops n : Nat} {S : Nat → Prop} {w w' : World} (h : Cr w0 ao cap l ta tc types r k e p ops w) (kp : Keep S w w') (hS : ∀ i, S i → n ≤ i) (h1 : r < n) (h2 : k < n) : Cr w0 ao cap l ta tc types r k e p ops w' :=
  ⟨h.rr.keep kp (fun x => by have := hS r x; omega) (fun i hi => by have := hS i hi; have := h.rr.hB; omega), h.blk.keep kp (fun x => by have := hS k x; omega), h.hk, h.ne⟩
section
variable {w0 : World} {ao : Option Addr} {cap : Nat} {l : List Int} {ta : Option Addr} {tc : Nat} {types : List GSig}

set_option maxRecDepth 100000 in
set_option maxHeartbeats 1000000 in
theorem oper_0 (c : CC w0 ao cap l ta tc types) (fuel r k e p ops : Nat) (depth : Nat) (w : World) (h : Cr w0 ao cap l ta tc types r k e p ops w) :
    Calls Tryz.prog 238 #[.pointer (some ⟨k, 0, none⟩), .int .i64 ((p : Int) - 1), .int .i64 0, .int .i64 depth] w (OutC w0 ao cap l ta tc types r k e w (VIn w.heap.size) (pOper types fuel depth 0 ops l e p)) := by
  have hr := h.rr.blk.lt
  have hk := h.blk.lt
  have hb := fun k => (c.ctx.bd k).1
  have hp := h.rr.hp
  have he := h.rr.he
  have HC := Lib.hid c
  have H2 := Lib.hid (h.below (made2 w (.cells #[.int .i64 0, .int .u64 0, .int .u64 0, .slice none 0 0, .slice none 0 0, .slice none 0 0, .slice none 0 0, .bool false, .slice none 0 0] 61) (.cells #[.int .i64 0, .int .u64 0, .int .u64 0, .slice none 0 0, .slice none 0 0, .slice none 0 0, .slice none 0 0, .bool false, .slice none 0 0] 61)))
  have hsz : (w.alloc (.cells #[.int .i64 0, .int .u64 0, .int .u64 0, .slice none 0 0, .slice none 0 0, .slice none 0 0, .slice none 0 0, .bool false, .slice none 0 0] 61)).heap.size = w.heap.size + 1 := by simp [go_sem]
  have BR2 := Lib.hid ((Blk.new 61 w #[.int .i64 0, .int .u64 0, .int .u64 0, .slice none 0 0, .slice none 0 0, .slice none 0 0, .slice none 0 0, .bool false, .slice none 0 0]).below (made1 _ (.cells #[.int .i64 0, .int .u64 0, .int .u64 0, .slice none 0 0, .slice none 0 0, .slice none 0 0, .slice none 0 0, .bool false, .slice none 0 0] 61)))
  have BI2 := Lib.hid (hsz ▸ Blk.new 61 (w.alloc (.cells #[.int .i64 0, .int .u64 0, .int .u64 0, .slice none 0 0, .slice none 0 0, .slice none 0 0, .slice none 0 0, .bool false, .slice none 0 0] 61)) #[.int .i64 0, .int .u64 0, .int .u64 0, .slice none 0 0, .slice none 0 0, .slice none 0 0, .slice none 0 0, .bool false, .slice none 0 0] : Blk 61 ((w.alloc (.cells #[.int .i64 0, .int .u64 0, .int .u64 0, .slice none 0 0, .slice none 0 0, .slice none 0 0, .slice none 0 0, .bool false, .slice none 0 0] 61)).alloc (.cells #[.int .i64 0, .int .u64 0, .int .u64 0, .slice none 0 0, .slice none 0 0, .slice none 0 0, .slice none 0 0, .bool false, .slice none 0 0] 61)) (w.heap.size + 1) #[.int .i64 0, .int .u64 0, .int .u64 0, .slice none 0 0, .slice none 0 0, .slice none 0 0, .slice none 0 0, .bool false, .slice none 0 0])
  have K2 := Lib.hid (Keep.of (S := fun i => i = r ∨ i = k) (made2 w (.cells #[.int .i64 0, .int .u64 0, .int .u64 0, .slice none 0 0, .slice none 0 0, .slice none 0 0, .slice none 0 0, .bool false, .slice none 0 0] 61) (.cells #[.int .i64 0, .int .u64 0, .int .u64 0, .slice none 0 0, .slice none 0 0, .slice none 0 0, .slice none 0 0, .bool false, .slice none 0 0] 61)))
  have S2 := Lib.hid (made2 w (.cells #[.int .i64 0, .int .u64 0, .int .u64 0, .slice none 0 0, .slice none 0 0, .slice none 0 0, .slice none 0 0, .bool false, .slice none 0 0] 61) (.cells #[.int .i64 0, .int .u64 0, .int .u64 0, .slice none 0 0, .slice none 0 0, .slice none 0 0, .slice none 0 0, .bool false, .slice none 0 0] 61)).size
  clear hsz
  have HX := Lib.hid (show pOper types fuel depth 0 ops l e p = .ok (simple 0, ops) p from rfl)
  have H3 := Lib.hid (h.below (made2 w (.cells #[.int .i64 0, .int .u64 0, .int .u64 0, .slice none 0 0, .slice none 0 0, .slice none 0 0, .slice none 0 0, .bool false, .slice none 0 0] 61) (.cells #[.int .i64 0, .int .u64 0, .int .u64 0, .slice none 0 0, .slice none 0 0, .slice none 0 0, .slice none 0 0, .bool false, .slice none 0 0] 61)))
  clear h c hb
  go_enter Tryz.func238, Tryz.ntmps238
  go_wp2
  refine bodyPost_ret (v := .agg #[.int .i64 0, .int .u64 0, .int .u64 0, .slice none 0 0, .slice none 0 0, .slice none 0 0, .slice none 0 0, .bool false, .slice none 0 0]) (by simp [results, Tryz.results238, go_sem]) rfl (OutC.good HX.out (Keep.of (made2 w (.cells #[.int .i64 0, .int .u64 0, .int .u64 0, .slice none 0 0, .slice none 0 0, .slice none 0 0, .slice none 0 0, .bool false, .slice none 0 0] 61) (.cells #[.int .i64 0, .int .u64 0, .int .u64 0, .slice none 0 0, .slice none 0 0, .slice none 0 0, .slice none 0 0, .bool false, .slice none 0 0] 61))) ?_ H3.out)
  exact ⟨_, _, _, _, _, _, _, _, _, _, rfl, VR.nil 1 gI _ _, VR.nil 1 gI _ _, VR.nil 9 gInstr _ _, VR.nil 9 gInstr _ _, VR.nil 1 gI _ _⟩

set_option maxRecDepth 100000 in
set_option maxHeartbeats 1000000 in
theorem oper_1 (c : CC w0 ao cap l ta tc types) (fuel r k e p ops : Nat) (depth : Nat) (w : World) (h : Cr w0 ao cap l ta tc types r k e p ops w) :
    Calls Tryz.prog 238 #[.pointer (some ⟨k, 0, none⟩), .int .i64 ((p : Int) - 1), .int .i64 1, .int .i64 depth] w (OutC w0 ao cap l ta tc types r k e w (VIn w.heap.size) (pOper types fuel depth 1 ops l e p)) := by
  have hr := h.rr.blk.lt
  have hk := h.blk.lt
  have hb := fun k => (c.ctx.bd k).1
  have hp := h.rr.hp
  have he := h.rr.he
  have HC := Lib.hid c
  have H2 := Lib.hid (h.below (made2 w (.cells #[.int .i64 0, .int .u64 0, .int .u64 0, .slice none 0 0, .slice none 0 0, .slice none 0 0, .slice none 0 0, .bool false, .slice none 0 0] 61) (.cells #[.int .i64 1, .int .u64 0, .int .u64 0, .slice none 0 0, .slice none 0 0, .slice none 0 0, .slice none 0 0, .bool false, .slice none 0 0] 61)))
  have hsz : (w.alloc (.cells #[.int .i64 0, .int .u64 0, .int .u64 0, .slice none 0 0, .slice none 0 0, .slice none 0 0, .slice none 0 0, .bool false, .slice none 0 0] 61)).heap.size = w.heap.size + 1 := by simp [go_sem]
  have BR2 := Lib.hid ((Blk.new 61 w #[.int .i64 0, .int .u64 0, .int .u64 0, .slice none 0 0, .slice none 0 0, .slice none 0 0, .slice none 0 0, .bool false, .slice none 0 0]).below (made1 _ (.cells #[.int .i64 1, .int .u64 0, .int .u64 0, .slice none 0 0, .slice none 0 0, .slice none 0 0, .slice none 0 0, .bool false, .slice none 0 0] 61)))
  have BI2 := Lib.hid (hsz ▸ Blk.new 61 (w.alloc (.cells #[.int .i64 0, .int .u64 0, .int .u64 0, .slice none 0 0, .slice none 0 0, .slice none 0 0, .slice none 0 0, .bool false, .slice none 0 0] 61)) #[.int .i64 1, .int .u64 0, .int .u64 0, .slice none 0 0, .slice none 0 0, .slice none 0 0, .slice none 0 0, .bool false, .slice none 0 0] : Blk 61 ((w.alloc (.cells #[.int .i64 0, .int .u64 0, .int .u64 0, .slice none 0 0, .slice none 0 0, .slice none 0 0, .slice none 0 0, .bool false, .slice none 0 0] 61)).alloc (.cells #[.int .i64 1, .int .u64 0, .int .u64 0, .slice none 0 0, .slice none 0 0, .slice none 0 0, .slice none 0 0, .bool false, .slice none 0 0] 61)) (w.heap.size + 1) #[.int .i64 1, .int .u64 0, .int .u64 0, .slice none 0 0, .slice none 0 0, .slice none 0 0, .slice none 0 0, .bool false, .slice none 0 0])
  have K2 := Lib.hid (Keep.of (S := fun i => i = r ∨ i = k) (made2 w (.cells #[.int .i64 0, .int .u64 0, .int .u64 0, .slice none 0 0, .slice none 0 0, .slice none 0 0, .slice none 0 0, .bool false, .slice none 0 0] 61) (.cells #[.int .i64 1, .int .u64 0, .int .u64 0, .slice none 0 0, .slice none 0 0, .slice none 0 0, .slice none 0 0, .bool false, .slice none 0 0] 61)))
  have S2 := Lib.hid (made2 w (.cells #[.int .i64 0, .int .u64 0, .int .u64 0, .slice none 0 0, .slice none 0 0, .slice none 0 0, .slice none 0 0, .bool false, .slice none 0 0] 61) (.cells #[.int .i64 1, .int .u64 0, .int .u64 0, .slice none 0 0, .slice none 0 0, .slice none 0 0, .slice none 0 0, .bool false, .slice none 0 0] 61)).size
  clear hsz
  have HX := Lib.hid (show pOper types fuel depth 1 ops l e p = .ok (simple 1, ops) p from rfl)
  have H3 := Lib.hid (h.below (made2 w (.cells #[.int .i64 1, .int .u64 0, .int .u64 0, .slice none 0 0, .slice none 0 0, .slice none 0 0, .slice none 0 0, .bool false, .slice none 0 0] 61) (.cells #[.int .i64 1, .int .u64 0, .int .u64 0, .slice none 0 0, .slice none 0 0, .slice none 0 0, .slice none 0 0, .bool false, .slice none 0 0] 61)))
  clear h c hb
  go_enter Tryz.func238, Tryz.ntmps238
  go_wp2
  refine bodyPost_ret (v := .agg #[.int .i64 1, .int .u64 0, .int .u64 0, .slice none 0 0, .slice none 0 0, .slice none 0 0, .slice none 0 0, .bool false, .slice none 0 0]) (by simp [results, Tryz.results238, go_sem]) rfl (OutC.good HX.out (Keep.of (made2 w (.cells #[.int .i64 1, .int .u64 0, .int .u64 0, .slice none 0 0, .slice none 0 0, .slice none 0 0, .slice none 0 0, .bool false, .slice none 0 0] 61) (.cells #[.int .i64 1, .int .u64 0, .int .u64 0, .slice none 0 0, .slice none 0 0, .slice none 0 0, .slice none 0 0, .bool false, .slice none 0 0] 61))) ?_ H3.out)
  exact ⟨_, _, _, _, _, _, _, _, _, _, rfl, VR.nil 1 gI _ _, VR.nil 1 gI _ _, VR.nil 9 gInstr _ _, VR.nil 9 gInstr _ _, VR.nil 1 gI _ _⟩

set_option maxRecDepth 100000 in
set_option maxHeartbeats 1000000 in
theorem oper_15 (c : CC w0 ao cap l ta tc types) (fuel r k e p ops : Nat) (depth : Nat) (w : World) (h : Cr w0 ao cap l ta tc types r k e p ops w) :
    Calls Tryz.prog 238 #[.pointer (some ⟨k, 0, none⟩), .int .i64 ((p : Int) - 1), .int .i64 15, .int .i64 depth] w (OutC w0 ao cap l ta tc types r k e w (VIn w.heap.size) (pOper types fuel depth 15 ops l e p)) := by
  have hr := h.rr.blk.lt
  have hk := h.blk.lt
  have hb := fun k => (c.ctx.bd k).1
  have hp := h.rr.hp
  have he := h.rr.he
  have HC := Lib.hid c
  have H2 := Lib.hid (h.below (made2 w (.cells #[.int .i64 0, .int .u64 0, .int .u64 0, .slice none 0 0, .slice none 0 0, .slice none 0 0, .slice none 0 0, .bool false, .slice none 0 0] 61) (.cells #[.int .i64 15, .int .u64 0, .int .u64 0, .slice none 0 0, .slice none 0 0, .slice none 0 0, .slice none 0 0, .bool false, .slice none 0 0] 61)))
  have hsz : (w.alloc (.cells #[.int .i64 0, .int .u64 0, .int .u64 0, .slice none 0 0, .slice none 0 0, .slice none 0 0, .slice none 0 0, .bool false, .slice none 0 0] 61)).heap.size = w.heap.size + 1 := by simp [go_sem]
  have BR2 := Lib.hid ((Blk.new 61 w #[.int .i64 0, .int .u64 0, .int .u64 0, .slice none 0 0, .slice none 0 0, .slice none 0 0, .slice none 0 0, .bool false, .slice none 0 0]).below (made1 _ (.cells #[.int .i64 15, .int .u64 0, .int .u64 0, .slice none 0 0, .slice none 0 0, .slice none 0 0, .slice none 0 0, .bool false, .slice none 0 0] 61)))
  have BI2 := Lib.hid (hsz ▸ Blk.new 61 (w.alloc (.cells #[.int .i64 0, .int .u64 0, .int .u64 0, .slice none 0 0, .slice none 0 0, .slice none 0 0, .slice none 0 0, .bool false, .slice none 0 0] 61)) #[.int .i64 15, .int .u64 0, .int .u64 0, .slice none 0 0, .slice none 0 0, .slice none 0 0, .slice none 0 0, .bool false, .slice none 0 0] : Blk 61 ((w.alloc (.cells #[.int .i64 0, .int .u64 0, .int .u64 0, .slice none 0 0, .slice none 0 0, .slice none 0 0, .slice none 0 0, .bool false, .slice none 0 0] 61)).alloc (.cells #[.int .i64 15, .int .u64 0, .int .u64 0, .slice none 0 0, .slice none 0 0, .slice none 0 0, .slice none 0 0, .bool false, .slice none 0 0] 61)) (w.heap.size + 1) #[.int .i64 15, .int .u64 0, .int .u64 0, .slice none 0 0, .slice none 0 0, .slice none 0 0, .slice none 0 0, .bool false, .slice none 0 0])
  have K2 := Lib.hid (Keep.of (S := fun i => i = r ∨ i = k) (made2 w (.cells #[.int .i64 0, .int .u64 0, .int .u64 0, .slice none 0 0, .slice none 0 0, .slice none 0 0, .slice none 0 0, .bool false, .slice none 0 0] 61) (.cells #[.int .i64 15, .int .u64 0, .int .u64 0, .slice none 0 0, .slice none 0 0, .slice none 0 0, .slice none 0 0, .bool false, .slice none 0 0] 61)))
  have S2 := Lib.hid (made2 w (.cells #[.int .i64 0, .int .u64 0, .int .u64 0, .slice none 0 0, .slice none 0 0, .slice none 0 0, .slice none 0 0, .bool false, .slice none 0 0] 61) (.cells #[.int .i64 15, .int .u64 0, .int .u64 0, .slice none 0 0, .slice none 0 0, .slice none 0 0, .slice none 0 0, .bool false, .slice none 0 0] 61)).size
  clear hsz
  have HX := Lib.hid (show pOper types fuel depth 15 ops l e p = .ok (simple 15, ops) p from rfl)
  have H3 := Lib.hid (h.below (made2 w (.cells #[.int .i64 15, .int .u64 0, .int .u64 0, .slice none 0 0, .slice none 0 0, .slice none 0 0, .slice none 0 0, .bool false, .slice none 0 0] 61) (.cells #[.int .i64 15, .int .u64 0, .int .u64 0, .slice none 0 0, .slice none 0 0, .slice none 0 0, .slice none 0 0, .bool false, .slice none 0 0] 61)))
  clear h c hb
  go_enter Tryz.func238, Tryz.ntmps238
  go_wp2
  refine bodyPost_ret (v := .agg #[.int .i64 15, .int .u64 0, .int .u64 0, .slice none 0 0, .slice none 0 0, .slice none 0 0, .slice none 0 0, .bool false, .slice none 0 0]) (by simp [results, Tryz.results238, go_sem]) rfl (OutC.good HX.out (Keep.of (made2 w (.cells #[.int .i64 15, .int .u64 0, .int .u64 0, .slice none 0 0, .slice none 0 0, .slice none 0 0, .slice none 0 0, .bool false, .slice none 0 0] 61) (.cells #[.int .i64 15, .int .u64 0, .int .u64 0, .slice none 0 0, .slice none 0 0, .slice none 0 0, .slice none 0 0, .bool false, .slice none 0 0] 61))) ?_ H3.out)
  exact ⟨_, _, _, _, _, _, _, _, _, _, rfl, VR.nil 1 gI _ _, VR.nil 1 gI _ _, VR.nil 9 gInstr _ _, VR.nil 9 gInstr _ _, VR.nil 1 gI _ _⟩

set_option maxRecDepth 100000 in
set_option maxHeartbeats 1000000 in
theorem oper_26 (c : CC w0 ao cap l ta tc types) (fuel r k e p ops : Nat) (depth : Nat) (w : World) (h : Cr w0 ao cap l ta tc types r k e p ops w) :
    Calls Tryz.prog 238 #[.pointer (some ⟨k, 0, none⟩), .int .i64 ((p : Int) - 1), .int .i64 26, .int .i64 depth] w (OutC w0 ao cap l ta tc types r k e w (VIn w.heap.size) (pOper types fuel depth 26 ops l e p)) := by
  have hr := h.rr.blk.lt
  have hk := h.blk.lt
  have hb := fun k => (c.ctx.bd k).1
  have hp := h.rr.hp
  have he := h.rr.he
  have HC := Lib.hid c
  have H2 := Lib.hid (h.below (made2 w (.cells #[.int .i64 0, .int .u64 0, .int .u64 0, .slice none 0 0, .slice none 0 0, .slice none 0 0, .slice none 0 0, .bool false, .slice none 0 0] 61) (.cells #[.int .i64 26, .int .u64 0, .int .u64 0, .slice none 0 0, .slice none 0 0, .slice none 0 0, .slice none 0 0, .bool false, .slice none 0 0] 61)))
  have hsz : (w.alloc (.cells #[.int .i64 0, .int .u64 0, .int .u64 0, .slice none 0 0, .slice none 0 0, .slice none 0 0, .slice none 0 0, .bool false, .slice none 0 0] 61)).heap.size = w.heap.size + 1 := by simp [go_sem]
  have BR2 := Lib.hid ((Blk.new 61 w #[.int .i64 0, .int .u64 0, .int .u64 0, .slice none 0 0, .slice none 0 0, .slice none 0 0, .slice none 0 0, .bool false, .slice none 0 0]).below (made1 _ (.cells #[.int .i64 26, .int .u64 0, .int .u64 0, .slice none 0 0, .slice none 0 0, .slice none 0 0, .slice none 0 0, .bool false, .slice none 0 0] 61)))
  have BI2 := Lib.hid (hsz ▸ Blk.new 61 (w.alloc (.cells #[.int .i64 0, .int .u64 0, .int .u64 0, .slice none 0 0, .slice none 0 0, .slice none 0 0, .slice none 0 0, .bool false, .slice none 0 0] 61)) #[.int .i64 26, .int .u64 0, .int .u64 0, .slice none 0 0, .slice none 0 0, .slice none 0 0, .slice none 0 0, .bool false, .slice none 0 0] : Blk 61 ((w.alloc (.cells #[.int .i64 0, .int .u64 0, .int .u64 0, .slice none 0 0, .slice none 0 0, .slice none 0 0, .slice none 0 0, .bool false, .slice none 0 0] 61)).alloc (.cells #[.int .i64 26, .int .u64 0, .int .u64 0, .slice none 0 0, .slice none 0 0, .slice none 0 0, .slice none 0 0, .bool false, .slice none 0 0] 61)) (w.heap.size + 1) #[.int .i64 26, .int .u64 0, .int .u64 0, .slice none 0 0, .slice none 0 0, .slice none 0 0, .slice none 0 0, .bool false, .slice none 0 0])
  have K2 := Lib.hid (Keep.of (S := fun i => i = r ∨ i = k) (made2 w (.cells #[.int .i64 0, .int .u64 0, .int .u64 0, .slice none 0 0, .slice none 0 0, .slice none 0 0, .slice none 0 0, .bool false, .slice none 0 0] 61) (.cells #[.int .i64 26, .int .u64 0, .int .u64 0, .slice none 0 0, .slice none 0 0, .slice none 0 0, .slice none 0 0, .bool false, .slice none 0 0] 61)))
  have S2 := Lib.hid (made2 w (.cells #[.int .i64 0, .int .u64 0, .int .u64 0, .slice none 0 0, .slice none 0 0, .slice none 0 0, .slice none 0 0, .bool false, .slice none 0 0] 61) (.cells #[.int .i64 26, .int .u64 0, .int .u64 0, .slice none 0 0, .slice none 0 0, .slice none 0 0, .slice none 0 0, .bool false, .slice none 0 0] 61)).size
  clear hsz
  have HX := Lib.hid (show pOper types fuel depth 26 ops l e p = .ok (simple 26, ops) p from rfl)
  have H3 := Lib.hid (h.below (made2 w (.cells #[.int .i64 26, .int .u64 0, .int .u64 0, .slice none 0 0, .slice none 0 0, .slice none 0 0, .slice none 0 0, .bool false, .slice none 0 0] 61) (.cells #[.int .i64 26, .int .u64 0, .int .u64 0, .slice none 0 0, .slice none 0 0, .slice none 0 0, .slice none 0 0, .bool false, .slice none 0 0] 61)))
  clear h c hb
  go_enter Tryz.func238, Tryz.ntmps238
  go_wp2
  refine bodyPost_ret (v := .agg #[.int .i64 26, .int .u64 0, .int .u64 0, .slice none 0 0, .slice none 0 0, .slice none 0 0, .slice none 0 0, .bool false, .slice none 0 0]) (by simp [results, Tryz.results238, go_sem]) rfl (OutC.good HX.out (Keep.of (made2 w (.cells #[.int .i64 26, .int .u64 0, .int .u64 0, .slice none 0 0, .slice none 0 0, .slice none 0 0, .slice none 0 0, .bool false, .slice none 0 0] 61) (.cells #[.int .i64 26, .int .u64 0, .int .u64 0, .slice none 0 0, .slice none 0 0, .slice none 0 0, .slice none 0 0, .bool false, .slice none 0 0] 61))) ?_ H3.out)
  exact ⟨_, _, _, _, _, _, _, _, _, _, rfl, VR.nil 1 gI _ _, VR.nil 1 gI _ _, VR.nil 9 gInstr _ _, VR.nil 9 gInstr _ _, VR.nil 1 gI _ _⟩

set_option maxRecDepth 100000 in
set_option maxHeartbeats 1000000 in
theorem oper_27 (c : CC w0 ao cap l ta tc types) (fuel r k e p ops : Nat) (depth : Nat) (w : World) (h : Cr w0 ao cap l ta tc types r k e p ops w) :
    Calls Tryz.prog 238 #[.pointer (some ⟨k, 0, none⟩), .int .i64 ((p : Int) - 1), .int .i64 27, .int .i64 depth] w (OutC w0 ao cap l ta tc types r k e w (VIn w.heap.size) (pOper types fuel depth 27 ops l e p)) := by
  have hr := h.rr.blk.lt
  have hk := h.blk.lt
  have hb := fun k => (c.ctx.bd k).1
  have hp := h.rr.hp
  have he := h.rr.he
  have HC := Lib.hid c
  have H2 := Lib.hid (h.below (made2 w (.cells #[.int .i64 0, .int .u64 0, .int .u64 0, .slice none 0 0, .slice none 0 0, .slice none 0 0, .slice none 0 0, .bool false, .slice none 0 0] 61) (.cells #[.int .i64 27, .int .u64 0, .int .u64 0, .slice none 0 0, .slice none 0 0, .slice none 0 0, .slice none 0 0, .bool false, .slice none 0 0] 61)))
  have hsz : (w.alloc (.cells #[.int .i64 0, .int .u64 0, .int .u64 0, .slice none 0 0, .slice none 0 0, .slice none 0 0, .slice none 0 0, .bool false, .slice none 0 0] 61)).heap.size = w.heap.size + 1 := by simp [go_sem]
  have BR2 := Lib.hid ((Blk.new 61 w #[.int .i64 0, .int .u64 0, .int .u64 0, .slice none 0 0, .slice none 0 0, .slice none 0 0, .slice none 0 0, .bool false, .slice none 0 0]).below (made1 _ (.cells #[.int .i64 27, .int .u64 0, .int .u64 0, .slice none 0 0, .slice none 0 0, .slice none 0 0, .slice none 0 0, .bool false, .slice none 0 0] 61)))
  have BI2 := Lib.hid (hsz ▸ Blk.new 61 (w.alloc (.cells #[.int .i64 0, .int .u64 0, .int .u64 0, .slice none 0 0, .slice none 0 0, .slice none 0 0, .slice none 0 0, .bool false, .slice none 0 0] 61)) #[.int .i64 27, .int .u64 0, .int .u64 0, .slice none 0 0, .slice none 0 0, .slice none 0 0, .slice none 0 0, .bool false, .slice none 0 0] : Blk 61 ((w.alloc (.cells #[.int .i64 0, .int .u64 0, .int .u64 0, .slice none 0 0, .slice none 0 0, .slice none 0 0, .slice none 0 0, .bool false, .slice none 0 0] 61)).alloc (.cells #[.int .i64 27, .int .u64 0, .int .u64 0, .slice none 0 0, .slice none 0 0, .slice none 0 0, .slice none 0 0, .bool false, .slice none 0 0] 61)) (w.heap.size + 1) #[.int .i64 27, .int .u64 0, .int .u64 0, .slice none 0 0, .slice none 0 0, .slice none 0 0, .slice none 0 0, .bool false, .slice none 0 0])
  have K2 := Lib.hid (Keep.of (S := fun i => i = r ∨ i = k) (made2 w (.cells #[.int .i64 0, .int .u64 0, .int .u64 0, .slice none 0 0, .slice none 0 0, .slice none 0 0, .slice none 0 0, .bool false, .slice none 0 0] 61) (.cells #[.int .i64 27, .int .u64 0, .int .u64 0, .slice none 0 0, .slice none 0 0, .slice none 0 0, .slice none 0 0, .bool false, .slice none 0 0] 61)))
  have S2 := Lib.hid (made2 w (.cells #[.int .i64 0, .int .u64 0, .int .u64 0, .slice none 0 0, .slice none 0 0, .slice none 0 0, .slice none 0 0, .bool false, .slice none 0 0] 61) (.cells #[.int .i64 27, .int .u64 0, .int .u64 0, .slice none 0 0, .slice none 0 0, .slice none 0 0, .slice none 0 0, .bool false, .slice none 0 0] 61)).size
  clear hsz
  have HX := Lib.hid (show pOper types fuel depth 27 ops l e p = .ok (simple 27, ops) p from rfl)
  have H3 := Lib.hid (h.below (made2 w (.cells #[.int .i64 27, .int .u64 0, .int .u64 0, .slice none 0 0, .slice none 0 0, .slice none 0 0, .slice none 0 0, .bool false, .slice none 0 0] 61) (.cells #[.int .i64 27, .int .u64 0, .int .u64 0, .slice none 0 0, .slice none 0 0, .slice none 0 0, .slice none 0 0, .bool false, .slice none 0 0] 61)))
  clear h c hb
  go_enter Tryz.func238, Tryz.ntmps238
  go_wp2
  refine bodyPost_ret (v := .agg #[.int .i64 27, .int .u64 0, .int .u64 0, .slice none 0 0, .slice none 0 0, .slice none 0 0, .slice none 0 0, .bool false, .slice none 0 0]) (by simp [results, Tryz.results238, go_sem]) rfl (OutC.good HX.out (Keep.of (made2 w (.cells #[.int .i64 27, .int .u64 0, .int .u64 0, .slice none 0 0, .slice none 0 0, .slice none 0 0, .slice none 0 0, .bool false, .slice none 0 0] 61) (.cells #[.int .i64 27, .int .u64 0, .int .u64 0, .slice none 0 0, .slice none 0 0, .slice none 0 0, .slice none 0 0, .bool false, .slice none 0 0] 61))) ?_ H3.out)
  exact ⟨_, _, _, _, _, _, _, _, _, _, rfl, VR.nil 1 gI _ _, VR.nil 1 gI _ _, VR.nil 9 gInstr _ _, VR.nil 9 gInstr _ _, VR.nil 1 gI _ _⟩

set_option maxRecDepth 100000 in
set_option maxHeartbeats 1000000 in
theorem oper_12 (c : CC w0 ao cap l ta tc types) (fuel r k e p ops : Nat) (depth : Nat) (w : World) (h : Cr w0 ao cap l ta tc types r k e p ops w) :
    Calls Tryz.prog 238 #[.pointer (some ⟨k, 0, none⟩), .int .i64 ((p : Int) - 1), .int .i64 12, .int .i64 depth] w (OutC w0 ao cap l ta tc types r k e w (VIn w.heap.size) (pOper types fuel depth 12 ops l e p)) := by
  have hr := h.rr.blk.lt
  have hk := h.blk.lt
  have hb := fun k => (c.ctx.bd k).1
  have hp := h.rr.hp
  have he := h.rr.he
  have HC := Lib.hid c
  have H2 := Lib.hid (h.below (made2 w (.cells #[.int .i64 0, .int .u64 0, .int .u64 0, .slice none 0 0, .slice none 0 0, .slice none 0 0, .slice none 0 0, .bool false, .slice none 0 0] 61) (.cells #[.int .i64 12, .int .u64 0, .int .u64 0, .slice none 0 0, .slice none 0 0, .slice none 0 0, .slice none 0 0, .bool false, .slice none 0 0] 61)))
  have hsz : (w.alloc (.cells #[.int .i64 0, .int .u64 0, .int .u64 0, .slice none 0 0, .slice none 0 0, .slice none 0 0, .slice none 0 0, .bool false, .slice none 0 0] 61)).heap.size = w.heap.size + 1 := by simp [go_sem]
  have BR2 := Lib.hid ((Blk.new 61 w #[.int .i64 0, .int .u64 0, .int .u64 0, .slice none 0 0, .slice none 0 0, .slice none 0 0, .slice none 0 0, .bool false, .slice none 0 0]).below (made1 _ (.cells #[.int .i64 12, .int .u64 0, .int .u64 0, .slice none 0 0, .slice none 0 0, .slice none 0 0, .slice none 0 0, .bool false, .slice none 0 0] 61)))
  have BI2 := Lib.hid (hsz ▸ Blk.new 61 (w.alloc (.cells #[.int .i64 0, .int .u64 0, .int .u64 0, .slice none 0 0, .slice none 0 0, .slice none 0 0, .slice none 0 0, .bool false, .slice none 0 0] 61)) #[.int .i64 12, .int .u64 0, .int .u64 0, .slice none 0 0, .slice none 0 0, .slice none 0 0, .slice none 0 0, .bool false, .slice none 0 0] : Blk 61 ((w.alloc (.cells #[.int .i64 0, .int .u64 0, .int .u64 0, .slice none 0 0, .slice none 0 0, .slice none 0 0, .slice none 0 0, .bool false, .slice none 0 0] 61)).alloc (.cells #[.int .i64 12, .int .u64 0, .int .u64 0, .slice none 0 0, .slice none 0 0, .slice none 0 0, .slice none 0 0, .bool false, .slice none 0 0] 61)) (w.heap.size + 1) #[.int .i64 12, .int .u64 0, .int .u64 0, .slice none 0 0, .slice none 0 0, .slice none 0 0, .slice none 0 0, .bool false, .slice none 0 0])
  have K2 := Lib.hid (Keep.of (S := fun i => i = r ∨ i = k) (made2 w (.cells #[.int .i64 0, .int .u64 0, .int .u64 0, .slice none 0 0, .slice none 0 0, .slice none 0 0, .slice none 0 0, .bool false, .slice none 0 0] 61) (.cells #[.int .i64 12, .int .u64 0, .int .u64 0, .slice none 0 0, .slice none 0 0, .slice none 0 0, .slice none 0 0, .bool false, .slice none 0 0] 61)))
  have S2 := Lib.hid (made2 w (.cells #[.int .i64 0, .int .u64 0, .int .u64 0, .slice none 0 0, .slice none 0 0, .slice none 0 0, .slice none 0 0, .bool false, .slice none 0 0] 61) (.cells #[.int .i64 12, .int .u64 0, .int .u64 0, .slice none 0 0, .slice none 0 0, .slice none 0 0, .slice none 0 0, .bool false, .slice none 0 0] 61)).size
  clear hsz
  have hP : pPlain 12 = pU.bind fun n => P.ret (.mk 12 n 0 ⟨[], []⟩ [] [] false []) := rfl
  have a0 := H2.out.blk.c0
  cases hx : pU l e p with
  | bad why a =>
    have HX := Lib.hid (show pOper types fuel depth 12 ops l e p = .bad why a from P.bind_bad (by rw [hP]; exact P.bind_bad hx))
    have HX1 := Lib.hid hx
    clear hx h c hb hP
    go_enter Tryz.func238, Tryz.ntmps238
    go_wp2_with fail
    refine (u_any HC.out.ctx r e p _ H2.out.rr).mono ?_
    rintro en w3 h3
    obtain ⟨k3, rfl⟩ := h3.bad_elim HX1.out
    exact ⟨rfl, OutC.wrong HX.out (K2.out.trans (k3.mono (fun i _ hi => .inl hi)))⟩
  | ok n q =>
    have HX := Lib.hid (show pOper types fuel depth 12 ops l e p = .ok (GInstr.mk 12 n 0 ⟨[], []⟩ [] [] false [], ops) q from (P.bind_ok (by rw [hP]; exact P.bind_ok hx)).trans rfl)
    have HX1 := Lib.hid hx
    obtain ⟨n0, n1, _, _⟩ := u_bd hb hp he hx
    clear hx h c hb hP
    go_enter Tryz.func238, Tryz.ntmps238
    go_wp2_with fail
    refine (u_any HC.out.ctx r e p _ H2.out.rr).mono ?_
    rintro en w3 h3
    obtain ⟨k3, v3, rfl, hv3, r3⟩ := h3.ok_elim HX1.out
    obtain rfl : v3 = .int .i64 n := hv3
    have H3 := Lib.hid (H2.out.go k3 r3)
    have BI3 := Lib.hid (BI2.out.keep k3 (by omega))
    have BR3 := Lib.hid (BR2.out.keep k3 (by omega))
    have K3 := Lib.hid (K2.out.trans (k3.mono (fun i _ hi => .inl hi)))
    have KK3 := Lib.hid k3
    clear k3 r3 h3
    have c0 := BI3.out.c 0 rfl
    have r0 := BR3.out.c 0 rfl
    have f0 := BI3.out.f 0
    have z0 := BR3.out.f 0
    have c1 := BI3.out.c 1 rfl
    have r1 := BR3.out.c 1 rfl
    have f1 := BI3.out.f 1
    have z1 := BR3.out.f 1
    have c2 := BI3.out.c 2 rfl
    have r2 := BR3.out.c 2 rfl
    have f2 := BI3.out.f 2
    have z2 := BR3.out.f 2
    have c3 := BI3.out.c 3 rfl
    have r3 := BR3.out.c 3 rfl
    have f3 := BI3.out.f 3
    have z3 := BR3.out.f 3
    have c4 := BI3.out.c 4 rfl
    have r4 := BR3.out.c 4 rfl
    have f4 := BI3.out.f 4
    have z4 := BR3.out.f 4
    have c5 := BI3.out.c 5 rfl
    have r5 := BR3.out.c 5 rfl
    have f5 := BI3.out.f 5
    have z5 := BR3.out.f 5
    have c6 := BI3.out.c 6 rfl
    have r6 := BR3.out.c 6 rfl
    have f6 := BI3.out.f 6
    have z6 := BR3.out.f 6
    have c7 := BI3.out.c 7 rfl
    have r7 := BR3.out.c 7 rfl
    have f7 := BI3.out.f 7
    have z7 := BR3.out.f 7
    have c8 := BI3.out.c 8 rfl
    have r8 := BR3.out.c 8 rfl
    have f8 := BI3.out.f 8
    have z8 := BR3.out.f 8
    have KS := Lib.hid (((((((((((Keep.refl (fun i => i = w.heap.size ∨ i = w.heap.size + 1) (w3)).set (p := ⟨w.heap.size + 1, 1, none⟩) (.inl (.inr rfl)) (.int .u64 n)).set (p := ⟨w.heap.size, 0, none⟩) (.inl (.inl rfl)) (.int .i64 12)).set (p := ⟨w.heap.size, 1, none⟩) (.inl (.inl rfl)) (.int .u64 n)).set (p := ⟨w.heap.size, 2, none⟩) (.inl (.inl rfl)) (.int .u64 0)).set (p := ⟨w.heap.size, 3, none⟩) (.inl (.inl rfl)) (.slice none 0 0)).set (p := ⟨w.heap.size, 4, none⟩) (.inl (.inl rfl)) (.slice none 0 0)).set (p := ⟨w.heap.size, 5, none⟩) (.inl (.inl rfl)) (.slice none 0 0)).set (p := ⟨w.heap.size, 6, none⟩) (.inl (.inl rfl)) (.slice none 0 0)).set (p := ⟨w.heap.size, 7, none⟩) (.inl (.inl rfl)) (.bool false)).set (p := ⟨w.heap.size, 8, none⟩) (.inl (.inl rfl)) (.slice none 0 0))
    have SZ := H3.out.rr.low.size
    go_wp2
    refine bodyPost_ret (v := .agg #[.int .i64 12, .int .u64 n, .int .u64 0, .slice none 0 0, .slice none 0 0, .slice none 0 0, .slice none 0 0, .bool false, .slice none 0 0]) (by simp [results, Tryz.results238, go_sem, r0, r1, r2, r3, r4, r5, r6, r7, r8]) rfl (OutC.good HX.out (K3.out.new KS.out (fun i hi e => by omega)) ?_ (H3.out.free KS.out (fun i hi => by omega) hr hk))
    exact ⟨_, _, _, _, _, _, _, _, _, _, rfl, VR.nil 1 gI _ _, VR.nil 1 gI _ _, VR.nil 9 gInstr _ _, VR.nil 9 gInstr _ _, VR.nil 1 gI _ _⟩

set_option maxRecDepth 100000 in
set_option maxHeartbeats 1000000 in
theorem oper_13 (c : CC w0 ao cap l ta tc types) (fuel r k e p ops : Nat) (depth : Nat) (w : World) (h : Cr w0 ao cap l ta tc types r k e p ops w) :
    Calls Tryz.prog 238 #[.pointer (some ⟨k, 0, none⟩), .int .i64 ((p : Int) - 1), .int .i64 13, .int .i64 depth] w (OutC w0 ao cap l ta tc types r k e w (VIn w.heap.size) (pOper types fuel depth 13 ops l e p)) := by
  have hr := h.rr.blk.lt
  have hk := h.blk.lt
  have hb := fun k => (c.ctx.bd k).1
  have hp := h.rr.hp
  have he := h.rr.he
  have HC := Lib.hid c
  have H2 := Lib.hid (h.below (made2 w (.cells #[.int .i64 0, .int .u64 0, .int .u64 0, .slice none 0 0, .slice none 0 0, .slice none 0 0, .slice none 0 0, .bool false, .slice none 0 0] 61) (.cells #[.int .i64 13, .int .u64 0, .int .u64 0, .slice none 0 0, .slice none 0 0, .slice none 0 0, .slice none 0 0, .bool false, .slice none 0 0] 61)))
  have hsz : (w.alloc (.cells #[.int .i64 0, .int .u64 0, .int .u64 0, .slice none 0 0, .slice none 0 0, .slice none 0 0, .slice none 0 0, .bool false, .slice none 0 0] 61)).heap.size = w.heap.size + 1 := by simp [go_sem]
  have BR2 := Lib.hid ((Blk.new 61 w #[.int .i64 0, .int .u64 0, .int .u64 0, .slice none 0 0, .slice none 0 0, .slice none 0 0, .slice none 0 0, .bool false, .slice none 0 0]).below (made1 _ (.cells #[.int .i64 13, .int .u64 0, .int .u64 0, .slice none 0 0, .slice none 0 0, .slice none 0 0, .slice none 0 0, .bool false, .slice none 0 0] 61)))
  have BI2 := Lib.hid (hsz ▸ Blk.new 61 (w.alloc (.cells #[.int .i64 0, .int .u64 0, .int .u64 0, .slice none 0 0, .slice none 0 0, .slice none 0 0, .slice none 0 0, .bool false, .slice none 0 0] 61)) #[.int .i64 13, .int .u64 0, .int .u64 0, .slice none 0 0, .slice none 0 0, .slice none 0 0, .slice none 0 0, .bool false, .slice none 0 0] : Blk 61 ((w.alloc (.cells #[.int .i64 0, .int .u64 0, .int .u64 0, .slice none 0 0, .slice none 0 0, .slice none 0 0, .slice none 0 0, .bool false, .slice none 0 0] 61)).alloc (.cells #[.int .i64 13, .int .u64 0, .int .u64 0, .slice none 0 0, .slice none 0 0, .slice none 0 0, .slice none 0 0, .bool false, .slice none 0 0] 61)) (w.heap.size + 1) #[.int .i64 13, .int .u64 0, .int .u64 0, .slice none 0 0, .slice none 0 0, .slice none 0 0, .slice none 0 0, .bool false, .slice none 0 0])
  have K2 := Lib.hid (Keep.of (S := fun i => i = r ∨ i = k) (made2 w (.cells #[.int .i64 0, .int .u64 0, .int .u64 0, .slice none 0 0, .slice none 0 0, .slice none 0 0, .slice none 0 0, .bool false, .slice none 0 0] 61) (.cells #[.int .i64 13, .int .u64 0, .int .u64 0, .slice none 0 0, .slice none 0 0, .slice none 0 0, .slice none 0 0, .bool false, .slice none 0 0] 61)))
  have S2 := Lib.hid (made2 w (.cells #[.int .i64 0, .int .u64 0, .int .u64 0, .slice none 0 0, .slice none 0 0, .slice none 0 0, .slice none 0 0, .bool false, .slice none 0 0] 61) (.cells #[.int .i64 13, .int .u64 0, .int .u64 0, .slice none 0 0, .slice none 0 0, .slice none 0 0, .slice none 0 0, .bool false, .slice none 0 0] 61)).size
  clear hsz
  have hP : pPlain 13 = pU.bind fun n => P.ret (.mk 13 n 0 ⟨[], []⟩ [] [] false []) := rfl
  have a0 := H2.out.blk.c0
  cases hx : pU l e p with
  | bad why a =>
    have HX := Lib.hid (show pOper types fuel depth 13 ops l e p = .bad why a from P.bind_bad (by rw [hP]; exact P.bind_bad hx))
    have HX1 := Lib.hid hx
    clear hx h c hb hP
    go_enter Tryz.func238, Tryz.ntmps238
    go_wp2_with fail
    refine (u_any HC.out.ctx r e p _ H2.out.rr).mono ?_
    rintro en w3 h3
    obtain ⟨k3, rfl⟩ := h3.bad_elim HX1.out
    exact ⟨rfl, OutC.wrong HX.out (K2.out.trans (k3.mono (fun i _ hi => .inl hi)))⟩
  | ok n q =>
    have HX := Lib.hid (show pOper types fuel depth 13 ops l e p = .ok (GInstr.mk 13 n 0 ⟨[], []⟩ [] [] false [], ops) q from (P.bind_ok (by rw [hP]; exact P.bind_ok hx)).trans rfl)
    have HX1 := Lib.hid hx
    obtain ⟨n0, n1, _, _⟩ := u_bd hb hp he hx
    clear hx h c hb hP
    go_enter Tryz.func238, Tryz.ntmps238
    go_wp2_with fail
    refine (u_any HC.out.ctx r e p _ H2.out.rr).mono ?_
    rintro en w3 h3
    obtain ⟨k3, v3, rfl, hv3, r3⟩ := h3.ok_elim HX1.out
    obtain rfl : v3 = .int .i64 n := hv3
    have H3 := Lib.hid (H2.out.go k3 r3)
    have BI3 := Lib.hid (BI2.out.keep k3 (by omega))
    have BR3 := Lib.hid (BR2.out.keep k3 (by omega))
    have K3 := Lib.hid (K2.out.trans (k3.mono (fun i _ hi => .inl hi)))
    have KK3 := Lib.hid k3
    clear k3 r3 h3
    have c0 := BI3.out.c 0 rfl
    have r0 := BR3.out.c 0 rfl
    have f0 := BI3.out.f 0
    have z0 := BR3.out.f 0
    have c1 := BI3.out.c 1 rfl
    have r1 := BR3.out.c 1 rfl
    have f1 := BI3.out.f 1
    have z1 := BR3.out.f 1
    have c2 := BI3.out.c 2 rfl
    have r2 := BR3.out.c 2 rfl
    have f2 := BI3.out.f 2
    have z2 := BR3.out.f 2
    have c3 := BI3.out.c 3 rfl
    have r3 := BR3.out.c 3 rfl
    have f3 := BI3.out.f 3
    have z3 := BR3.out.f 3
    have c4 := BI3.out.c 4 rfl
    have r4 := BR3.out.c 4 rfl
    have f4 := BI3.out.f 4
    have z4 := BR3.out.f 4
    have c5 := BI3.out.c 5 rfl
    have r5 := BR3.out.c 5 rfl
    have f5 := BI3.out.f 5
    have z5 := BR3.out.f 5
    have c6 := BI3.out.c 6 rfl
    have r6 := BR3.out.c 6 rfl
    have f6 := BI3.out.f 6
    have z6 := BR3.out.f 6
    have c7 := BI3.out.c 7 rfl
    have r7 := BR3.out.c 7 rfl
    have f7 := BI3.out.f 7
    have z7 := BR3.out.f 7
    have c8 := BI3.out.c 8 rfl
    have r8 := BR3.out.c 8 rfl
    have f8 := BI3.out.f 8
    have z8 := BR3.out.f 8
    have KS := Lib.hid (((((((((((Keep.refl (fun i => i = w.heap.size ∨ i = w.heap.size + 1) (w3)).set (p := ⟨w.heap.size + 1, 1, none⟩) (.inl (.inr rfl)) (.int .u64 n)).set (p := ⟨w.heap.size, 0, none⟩) (.inl (.inl rfl)) (.int .i64 13)).set (p := ⟨w.heap.size, 1, none⟩) (.inl (.inl rfl)) (.int .u64 n)).set (p := ⟨w.heap.size, 2, none⟩) (.inl (.inl rfl)) (.int .u64 0)).set (p := ⟨w.heap.size, 3, none⟩) (.inl (.inl rfl)) (.slice none 0 0)).set (p := ⟨w.heap.size, 4, none⟩) (.inl (.inl rfl)) (.slice none 0 0)).set (p := ⟨w.heap.size, 5, none⟩) (.inl (.inl rfl)) (.slice none 0 0)).set (p := ⟨w.heap.size, 6, none⟩) (.inl (.inl rfl)) (.slice none 0 0)).set (p := ⟨w.heap.size, 7, none⟩) (.inl (.inl rfl)) (.bool false)).set (p := ⟨w.heap.size, 8, none⟩) (.inl (.inl rfl)) (.slice none 0 0))
    have SZ := H3.out.rr.low.size
    go_wp2
    refine bodyPost_ret (v := .agg #[.int .i64 13, .int .u64 n, .int .u64 0, .slice none 0 0, .slice none 0 0, .slice none 0 0, .slice none 0 0, .bool false, .slice none 0 0]) (by simp [results, Tryz.results238, go_sem, r0, r1, r2, r3, r4, r5, r6, r7, r8]) rfl (OutC.good HX.out (K3.out.new KS.out (fun i hi e => by omega)) ?_ (H3.out.free KS.out (fun i hi => by omega) hr hk))
    exact ⟨_, _, _, _, _, _, _, _, _, _, rfl, VR.nil 1 gI _ _, VR.nil 1 gI _ _, VR.nil 9 gInstr _ _, VR.nil 9 gInstr _ _, VR.nil 1 gI _ _⟩

set_option maxRecDepth 100000 in
set_option maxHeartbeats 1000000 in
theorem oper_16 (c : CC w0 ao cap l ta tc types) (fuel r k e p ops : Nat) (depth : Nat) (w : World) (h : Cr w0 ao cap l ta tc types r k e p ops w) :
    Calls Tryz.prog 238 #[.pointer (some ⟨k, 0, none⟩), .int .i64 ((p : Int) - 1), .int .i64 16, .int .i64 depth] w (OutC w0 ao cap l ta tc types r k e w (VIn w.heap.size) (pOper types fuel depth 16 ops l e p)) := by
  have hr := h.rr.blk.lt
  have hk := h.blk.lt
  have hb := fun k => (c.ctx.bd k).1
  have hp := h.rr.hp
  have he := h.rr.he
  have HC := Lib.hid c
  have H2 := Lib.hid (h.below (made2 w (.cells #[.int .i64 0, .int .u64 0, .int .u64 0, .slice none 0 0, .slice none 0 0, .slice none 0 0, .slice none 0 0, .bool false, .slice none 0 0] 61) (.cells #[.int .i64 16, .int .u64 0, .int .u64 0, .slice none 0 0, .slice none 0 0, .slice none 0 0, .slice none 0 0, .bool false, .slice none 0 0] 61)))
  have hsz : (w.alloc (.cells #[.int .i64 0, .int .u64 0, .int .u64 0, .slice none 0 0, .slice none 0 0, .slice none 0 0, .slice none 0 0, .bool false, .slice none 0 0] 61)).heap.size = w.heap.size + 1 := by simp [go_sem]
  have BR2 := Lib.hid ((Blk.new 61 w #[.int .i64 0, .int .u64 0, .int .u64 0, .slice none 0 0, .slice none 0 0, .slice none 0 0, .slice none 0 0, .bool false, .slice none 0 0]).below (made1 _ (.cells #[.int .i64 16, .int .u64 0, .int .u64 0, .slice none 0 0, .slice none 0 0, .slice none 0 0, .slice none 0 0, .bool false, .slice none 0 0] 61)))
  have BI2 := Lib.hid (hsz ▸ Blk.new 61 (w.alloc (.cells #[.int .i64 0, .int .u64 0, .int .u64 0, .slice none 0 0, .slice none 0 0, .slice none 0 0, .slice none 0 0, .bool false, .slice none 0 0] 61)) #[.int .i64 16, .int .u64 0, .int .u64 0, .slice none 0 0, .slice none 0 0, .slice none 0 0, .slice none 0 0, .bool false, .slice none 0 0] : Blk 61 ((w.alloc (.cells #[.int .i64 0, .int .u64 0, .int .u64 0, .slice none 0 0, .slice none 0 0, .slice none 0 0, .slice none 0 0, .bool false, .slice none 0 0] 61)).alloc (.cells #[.int .i64 16, .int .u64 0, .int .u64 0, .slice none 0 0, .slice none 0 0, .slice none 0 0, .slice none 0 0, .bool false, .slice none 0 0] 61)) (w.heap.size + 1) #[.int .i64 16, .int .u64 0, .int .u64 0, .slice none 0 0, .slice none 0 0, .slice none 0 0, .slice none 0 0, .bool false, .slice none 0 0])
  have K2 := Lib.hid (Keep.of (S := fun i => i = r ∨ i = k) (made2 w (.cells #[.int .i64 0, .int .u64 0, .int .u64 0, .slice none 0 0, .slice none 0 0, .slice none 0 0, .slice none 0 0, .bool false, .slice none 0 0] 61) (.cells #[.int .i64 16, .int .u64 0, .int .u64 0, .slice none 0 0, .slice none 0 0, .slice none 0 0, .slice none 0 0, .bool false, .slice none 0 0] 61)))
  have S2 := Lib.hid (made2 w (.cells #[.int .i64 0, .int .u64 0, .int .u64 0, .slice none 0 0, .slice none 0 0, .slice none 0 0, .slice none 0 0, .bool false, .slice none 0 0] 61) (.cells #[.int .i64 16, .int .u64 0, .int .u64 0, .slice none 0 0, .slice none 0 0, .slice none 0 0, .slice none 0 0, .bool false, .slice none 0 0] 61)).size
  clear hsz
  have hP : pPlain 16 = pU.bind fun n => P.ret (.mk 16 n 0 ⟨[], []⟩ [] [] false []) := rfl
  have a0 := H2.out.blk.c0
  cases hx : pU l e p with
  | bad why a =>
    have HX := Lib.hid (show pOper types fuel depth 16 ops l e p = .bad why a from P.bind_bad (by rw [hP]; exact P.bind_bad hx))
    have HX1 := Lib.hid hx
    clear hx h c hb hP
    go_enter Tryz.func238, Tryz.ntmps238
    go_wp2_with fail
    refine (u_any HC.out.ctx r e p _ H2.out.rr).mono ?_
    rintro en w3 h3
    obtain ⟨k3, rfl⟩ := h3.bad_elim HX1.out
    exact ⟨rfl, OutC.wrong HX.out (K2.out.trans (k3.mono (fun i _ hi => .inl hi)))⟩
  | ok n q =>
    have HX := Lib.hid (show pOper types fuel depth 16 ops l e p = .ok (GInstr.mk 16 n 0 ⟨[], []⟩ [] [] false [], ops) q from (P.bind_ok (by rw [hP]; exact P.bind_ok hx)).trans rfl)
    have HX1 := Lib.hid hx
    obtain ⟨n0, n1, _, _⟩ := u_bd hb hp he hx
    clear hx h c hb hP
    go_enter Tryz.func238, Tryz.ntmps238
    go_wp2_with fail
    refine (u_any HC.out.ctx r e p _ H2.out.rr).mono ?_
    rintro en w3 h3
    obtain ⟨k3, v3, rfl, hv3, r3⟩ := h3.ok_elim HX1.out
    obtain rfl : v3 = .int .i64 n := hv3
    have H3 := Lib.hid (H2.out.go k3 r3)
    have BI3 := Lib.hid (BI2.out.keep k3 (by omega))
    have BR3 := Lib.hid (BR2.out.keep k3 (by omega))
    have K3 := Lib.hid (K2.out.trans (k3.mono (fun i _ hi => .inl hi)))
    have KK3 := Lib.hid k3
    clear k3 r3 h3
    have c0 := BI3.out.c 0 rfl
    have r0 := BR3.out.c 0 rfl
    have f0 := BI3.out.f 0
    have z0 := BR3.out.f 0
    have c1 := BI3.out.c 1 rfl
    have r1 := BR3.out.c 1 rfl
    have f1 := BI3.out.f 1
    have z1 := BR3.out.f 1
    have c2 := BI3.out.c 2 rfl
    have r2 := BR3.out.c 2 rfl
    have f2 := BI3.out.f 2
    have z2 := BR3.out.f 2
    have c3 := BI3.out.c 3 rfl
    have r3 := BR3.out.c 3 rfl
    have f3 := BI3.out.f 3
    have z3 := BR3.out.f 3
    have c4 := BI3.out.c 4 rfl
    have r4 := BR3.out.c 4 rfl
    have f4 := BI3.out.f 4
    have z4 := BR3.out.f 4
    have c5 := BI3.out.c 5 rfl
    have r5 := BR3.out.c 5 rfl
    have f5 := BI3.out.f 5
    have z5 := BR3.out.f 5
    have c6 := BI3.out.c 6 rfl
    have r6 := BR3.out.c 6 rfl
    have f6 := BI3.out.f 6
    have z6 := BR3.out.f 6
    have c7 := BI3.out.c 7 rfl
    have r7 := BR3.out.c 7 rfl
    have f7 := BI3.out.f 7
    have z7 := BR3.out.f 7
    have c8 := BI3.out.c 8 rfl
    have r8 := BR3.out.c 8 rfl
    have f8 := BI3.out.f 8
    have z8 := BR3.out.f 8
    have KS := Lib.hid (((((((((((Keep.refl (fun i => i = w.heap.size ∨ i = w.heap.size + 1) (w3)).set (p := ⟨w.heap.size + 1, 1, none⟩) (.inl (.inr rfl)) (.int .u64 n)).set (p := ⟨w.heap.size, 0, none⟩) (.inl (.inl rfl)) (.int .i64 16)).set (p := ⟨w.heap.size, 1, none⟩) (.inl (.inl rfl)) (.int .u64 n)).set (p := ⟨w.heap.size, 2, none⟩) (.inl (.inl rfl)) (.int .u64 0)).set (p := ⟨w.heap.size, 3, none⟩) (.inl (.inl rfl)) (.slice none 0 0)).set (p := ⟨w.heap.size, 4, none⟩) (.inl (.inl rfl)) (.slice none 0 0)).set (p := ⟨w.heap.size, 5, none⟩) (.inl (.inl rfl)) (.slice none 0 0)).set (p := ⟨w.heap.size, 6, none⟩) (.inl (.inl rfl)) (.slice none 0 0)).set (p := ⟨w.heap.size, 7, none⟩) (.inl (.inl rfl)) (.bool false)).set (p := ⟨w.heap.size, 8, none⟩) (.inl (.inl rfl)) (.slice none 0 0))
    have SZ := H3.out.rr.low.size
    go_wp2
    refine bodyPost_ret (v := .agg #[.int .i64 16, .int .u64 n, .int .u64 0, .slice none 0 0, .slice none 0 0, .slice none 0 0, .slice none 0 0, .bool false, .slice none 0 0]) (by simp [results, Tryz.results238, go_sem, r0, r1, r2, r3, r4, r5, r6, r7, r8]) rfl (OutC.good HX.out (K3.out.new KS.out (fun i hi e => by omega)) ?_ (H3.out.free KS.out (fun i hi => by omega) hr hk))
    exact ⟨_, _, _, _, _, _, _, _, _, _, rfl, VR.nil 1 gI _ _, VR.nil 1 gI _ _, VR.nil 9 gInstr _ _, VR.nil 9 gInstr _ _, VR.nil 1 gI _ _⟩
end
end Go.Proofs.YtgcmdnkmnghhaaaGreatDoor.wm

/- The contracts of operator, an operator at a time: printed by gen_oper.py. -/
set_option linter.unusedVariables false
set_option linter.unusedSimpArgs false
namespace Go.Proofs.YtgcmdnkmnghhaaaGreatDoor.wm
open Go.RowKit Go.Proofs.YtgcmdnkmnghhaaaGreatDoor.lb
section
variable {w0 : World} {ao : Option Addr} {cap : Nat} {l : List Int} {ta : Option Addr} {tc : Nat} {types : List GSig}

set_option maxRecDepth 100000 in
set_option maxHeartbeats 1000000 in
theorem oper_32 (c : CC w0 ao cap l ta tc types) (fuel r k e p ops : Nat) (depth : Nat) (w : World) (h : Cr w0 ao cap l ta tc types r k e p ops w) :
    Calls Tryz.prog 238 #[.pointer (some ⟨k, 0, none⟩), .int .i64 ((p : Int) - 1), .int .i64 32, .int .i64 depth] w (OutC w0 ao cap l ta tc types r k e w (VIn w.heap.size) (pOper types fuel depth 32 ops l e p)) := by
  have hr := h.rr.blk.lt
  have hk := h.blk.lt
  have hb := fun k => (c.ctx.bd k).1
  have hp := h.rr.hp
  have he := h.rr.he
  have HC := Lib.hid c
  have H2 := Lib.hid (h.below (made2 w (.cells #[.int .i64 0, .int .u64 0, .int .u64 0, .slice none 0 0, .slice none 0 0, .slice none 0 0, .slice none 0 0, .bool false, .slice none 0 0] 61) (.cells #[.int .i64 32, .int .u64 0, .int .u64 0, .slice none 0 0, .slice none 0 0, .slice none 0 0, .slice none 0 0, .bool false, .slice none 0 0] 61)))
  have hsz : (w.alloc (.cells #[.int .i64 0, .int .u64 0, .int .u64 0, .slice none 0 0, .slice none 0 0, .slice none 0 0, .slice none 0 0, .bool false, .slice none 0 0] 61)).heap.size = w.heap.size + 1 := by simp [go_sem]
  have BR2 := Lib.hid ((Blk.new 61 w #[.int .i64 0, .int .u64 0, .int .u64 0, .slice none 0 0, .slice none 0 0, .slice none 0 0, .slice none 0 0, .bool false, .slice none 0 0]).below (made1 _ (.cells #[.int .i64 32, .int .u64 0, .int .u64 0, .slice none 0 0, .slice none 0 0, .slice none 0 0, .slice none 0 0, .bool false, .slice none 0 0] 61)))
  have BI2 := Lib.hid (hsz ▸ Blk.new 61 (w.alloc (.cells #[.int .i64 0, .int .u64 0, .int .u64 0, .slice none 0 0, .slice none 0 0, .slice none 0 0, .slice none 0 0, .bool false, .slice none 0 0] 61)) #[.int .i64 32, .int .u64 0, .int .u64 0, .slice none 0 0, .slice none 0 0, .slice none 0 0, .slice none 0 0, .bool false, .slice none 0 0] : Blk 61 ((w.alloc (.cells #[.int .i64 0, .int .u64 0, .int .u64 0, .slice none 0 0, .slice none 0 0, .slice none 0 0, .slice none 0 0, .bool false, .slice none 0 0] 61)).alloc (.cells #[.int .i64 32, .int .u64 0, .int .u64 0, .slice none 0 0, .slice none 0 0, .slice none 0 0, .slice none 0 0, .bool false, .slice none 0 0] 61)) (w.heap.size + 1) #[.int .i64 32, .int .u64 0, .int .u64 0, .slice none 0 0, .slice none 0 0, .slice none 0 0, .slice none 0 0, .bool false, .slice none 0 0])
  have K2 := Lib.hid (Keep.of (S := fun i => i = r ∨ i = k) (made2 w (.cells #[.int .i64 0, .int .u64 0, .int .u64 0, .slice none 0 0, .slice none 0 0, .slice none 0 0, .slice none 0 0, .bool false, .slice none 0 0] 61) (.cells #[.int .i64 32, .int .u64 0, .int .u64 0, .slice none 0 0, .slice none 0 0, .slice none 0 0, .slice none 0 0, .bool false, .slice none 0 0] 61)))
  have S2 := Lib.hid (made2 w (.cells #[.int .i64 0, .int .u64 0, .int .u64 0, .slice none 0 0, .slice none 0 0, .slice none 0 0, .slice none 0 0, .bool false, .slice none 0 0] 61) (.cells #[.int .i64 32, .int .u64 0, .int .u64 0, .slice none 0 0, .slice none 0 0, .slice none 0 0, .slice none 0 0, .bool false, .slice none 0 0] 61)).size
  clear hsz
  have hP : pPlain 32 = pU.bind fun n => P.ret (.mk 32 n 0 ⟨[], []⟩ [] [] false []) := rfl
  have a0 := H2.out.blk.c0
  cases hx : pU l e p with
  | bad why a =>
    have HX := Lib.hid (show pOper types fuel depth 32 ops l e p = .bad why a from P.bind_bad (by rw [hP]; exact P.bind_bad hx))
    have HX1 := Lib.hid hx
    clear hx h c hb hP
    go_enter Tryz.func238, Tryz.ntmps238
    go_wp2_with fail
    refine (u_any HC.out.ctx r e p _ H2.out.rr).mono ?_
    rintro en w3 h3
    obtain ⟨k3, rfl⟩ := h3.bad_elim HX1.out
    exact ⟨rfl, OutC.wrong HX.out (K2.out.trans (k3.mono (fun i _ hi => .inl hi)))⟩
  | ok n q =>
    have HX := Lib.hid (show pOper types fuel depth 32 ops l e p = .ok (GInstr.mk 32 n 0 ⟨[], []⟩ [] [] false [], ops) q from (P.bind_ok (by rw [hP]; exact P.bind_ok hx)).trans rfl)
    have HX1 := Lib.hid hx
    obtain ⟨n0, n1, _, _⟩ := u_bd hb hp he hx
    clear hx h c hb hP
    go_enter Tryz.func238, Tryz.ntmps238
    go_wp2_with fail
    refine (u_any HC.out.ctx r e p _ H2.out.rr).mono ?_
    rintro en w3 h3
    obtain ⟨k3, v3, rfl, hv3, r3⟩ := h3.ok_elim HX1.out
    obtain rfl : v3 = .int .i64 n := hv3
    have H3 := Lib.hid (H2.out.go k3 r3)
    have BI3 := Lib.hid (BI2.out.keep k3 (by omega))
    have BR3 := Lib.hid (BR2.out.keep k3 (by omega))
    have K3 := Lib.hid (K2.out.trans (k3.mono (fun i _ hi => .inl hi)))
    have KK3 := Lib.hid k3
    clear k3 r3 h3
    have c0 := BI3.out.c 0 rfl
    have r0 := BR3.out.c 0 rfl
    have f0 := BI3.out.f 0
    have z0 := BR3.out.f 0
    have c1 := BI3.out.c 1 rfl
    have r1 := BR3.out.c 1 rfl
    have f1 := BI3.out.f 1
    have z1 := BR3.out.f 1
    have c2 := BI3.out.c 2 rfl
    have r2 := BR3.out.c 2 rfl
    have f2 := BI3.out.f 2
    have z2 := BR3.out.f 2
    have c3 := BI3.out.c 3 rfl
    have r3 := BR3.out.c 3 rfl
    have f3 := BI3.out.f 3
    have z3 := BR3.out.f 3
    have c4 := BI3.out.c 4 rfl
    have r4 := BR3.out.c 4 rfl
    have f4 := BI3.out.f 4
    have z4 := BR3.out.f 4
    have c5 := BI3.out.c 5 rfl
    have r5 := BR3.out.c 5 rfl
    have f5 := BI3.out.f 5
    have z5 := BR3.out.f 5
    have c6 := BI3.out.c 6 rfl
    have r6 := BR3.out.c 6 rfl
    have f6 := BI3.out.f 6
    have z6 := BR3.out.f 6
    have c7 := BI3.out.c 7 rfl
    have r7 := BR3.out.c 7 rfl
    have f7 := BI3.out.f 7
    have z7 := BR3.out.f 7
    have c8 := BI3.out.c 8 rfl
    have r8 := BR3.out.c 8 rfl
    have f8 := BI3.out.f 8
    have z8 := BR3.out.f 8
    have KS := Lib.hid (((((((((((Keep.refl (fun i => i = w.heap.size ∨ i = w.heap.size + 1) (w3)).set (p := ⟨w.heap.size + 1, 1, none⟩) (.inl (.inr rfl)) (.int .u64 n)).set (p := ⟨w.heap.size, 0, none⟩) (.inl (.inl rfl)) (.int .i64 32)).set (p := ⟨w.heap.size, 1, none⟩) (.inl (.inl rfl)) (.int .u64 n)).set (p := ⟨w.heap.size, 2, none⟩) (.inl (.inl rfl)) (.int .u64 0)).set (p := ⟨w.heap.size, 3, none⟩) (.inl (.inl rfl)) (.slice none 0 0)).set (p := ⟨w.heap.size, 4, none⟩) (.inl (.inl rfl)) (.slice none 0 0)).set (p := ⟨w.heap.size, 5, none⟩) (.inl (.inl rfl)) (.slice none 0 0)).set (p := ⟨w.heap.size, 6, none⟩) (.inl (.inl rfl)) (.slice none 0 0)).set (p := ⟨w.heap.size, 7, none⟩) (.inl (.inl rfl)) (.bool false)).set (p := ⟨w.heap.size, 8, none⟩) (.inl (.inl rfl)) (.slice none 0 0))
    have SZ := H3.out.rr.low.size
    go_wp2
    refine bodyPost_ret (v := .agg #[.int .i64 32, .int .u64 n, .int .u64 0, .slice none 0 0, .slice none 0 0, .slice none 0 0, .slice none 0 0, .bool false, .slice none 0 0]) (by simp [results, Tryz.results238, go_sem, r0, r1, r2, r3, r4, r5, r6, r7, r8]) rfl (OutC.good HX.out (K3.out.new KS.out (fun i hi e => by omega)) ?_ (H3.out.free KS.out (fun i hi => by omega) hr hk))
    exact ⟨_, _, _, _, _, _, _, _, _, _, rfl, VR.nil 1 gI _ _, VR.nil 1 gI _ _, VR.nil 9 gInstr _ _, VR.nil 9 gInstr _ _, VR.nil 1 gI _ _⟩

set_option maxRecDepth 100000 in
set_option maxHeartbeats 1000000 in
theorem oper_33 (c : CC w0 ao cap l ta tc types) (fuel r k e p ops : Nat) (depth : Nat) (w : World) (h : Cr w0 ao cap l ta tc types r k e p ops w) :
    Calls Tryz.prog 238 #[.pointer (some ⟨k, 0, none⟩), .int .i64 ((p : Int) - 1), .int .i64 33, .int .i64 depth] w (OutC w0 ao cap l ta tc types r k e w (VIn w.heap.size) (pOper types fuel depth 33 ops l e p)) := by
  have hr := h.rr.blk.lt
  have hk := h.blk.lt
  have hb := fun k => (c.ctx.bd k).1
  have hp := h.rr.hp
  have he := h.rr.he
  have HC := Lib.hid c
  have H2 := Lib.hid (h.below (made2 w (.cells #[.int .i64 0, .int .u64 0, .int .u64 0, .slice none 0 0, .slice none 0 0, .slice none 0 0, .slice none 0 0, .bool false, .slice none 0 0] 61) (.cells #[.int .i64 33, .int .u64 0, .int .u64 0, .slice none 0 0, .slice none 0 0, .slice none 0 0, .slice none 0 0, .bool false, .slice none 0 0] 61)))
  have hsz : (w.alloc (.cells #[.int .i64 0, .int .u64 0, .int .u64 0, .slice none 0 0, .slice none 0 0, .slice none 0 0, .slice none 0 0, .bool false, .slice none 0 0] 61)).heap.size = w.heap.size + 1 := by simp [go_sem]
  have BR2 := Lib.hid ((Blk.new 61 w #[.int .i64 0, .int .u64 0, .int .u64 0, .slice none 0 0, .slice none 0 0, .slice none 0 0, .slice none 0 0, .bool false, .slice none 0 0]).below (made1 _ (.cells #[.int .i64 33, .int .u64 0, .int .u64 0, .slice none 0 0, .slice none 0 0, .slice none 0 0, .slice none 0 0, .bool false, .slice none 0 0] 61)))
  have BI2 := Lib.hid (hsz ▸ Blk.new 61 (w.alloc (.cells #[.int .i64 0, .int .u64 0, .int .u64 0, .slice none 0 0, .slice none 0 0, .slice none 0 0, .slice none 0 0, .bool false, .slice none 0 0] 61)) #[.int .i64 33, .int .u64 0, .int .u64 0, .slice none 0 0, .slice none 0 0, .slice none 0 0, .slice none 0 0, .bool false, .slice none 0 0] : Blk 61 ((w.alloc (.cells #[.int .i64 0, .int .u64 0, .int .u64 0, .slice none 0 0, .slice none 0 0, .slice none 0 0, .slice none 0 0, .bool false, .slice none 0 0] 61)).alloc (.cells #[.int .i64 33, .int .u64 0, .int .u64 0, .slice none 0 0, .slice none 0 0, .slice none 0 0, .slice none 0 0, .bool false, .slice none 0 0] 61)) (w.heap.size + 1) #[.int .i64 33, .int .u64 0, .int .u64 0, .slice none 0 0, .slice none 0 0, .slice none 0 0, .slice none 0 0, .bool false, .slice none 0 0])
  have K2 := Lib.hid (Keep.of (S := fun i => i = r ∨ i = k) (made2 w (.cells #[.int .i64 0, .int .u64 0, .int .u64 0, .slice none 0 0, .slice none 0 0, .slice none 0 0, .slice none 0 0, .bool false, .slice none 0 0] 61) (.cells #[.int .i64 33, .int .u64 0, .int .u64 0, .slice none 0 0, .slice none 0 0, .slice none 0 0, .slice none 0 0, .bool false, .slice none 0 0] 61)))
  have S2 := Lib.hid (made2 w (.cells #[.int .i64 0, .int .u64 0, .int .u64 0, .slice none 0 0, .slice none 0 0, .slice none 0 0, .slice none 0 0, .bool false, .slice none 0 0] 61) (.cells #[.int .i64 33, .int .u64 0, .int .u64 0, .slice none 0 0, .slice none 0 0, .slice none 0 0, .slice none 0 0, .bool false, .slice none 0 0] 61)).size
  clear hsz
  have hP : pPlain 33 = pU.bind fun n => P.ret (.mk 33 n 0 ⟨[], []⟩ [] [] false []) := rfl
  have a0 := H2.out.blk.c0
  cases hx : pU l e p with
  | bad why a =>
    have HX := Lib.hid (show pOper types fuel depth 33 ops l e p = .bad why a from P.bind_bad (by rw [hP]; exact P.bind_bad hx))
    have HX1 := Lib.hid hx
    clear hx h c hb hP
    go_enter Tryz.func238, Tryz.ntmps238
    go_wp2_with fail
    refine (u_any HC.out.ctx r e p _ H2.out.rr).mono ?_
    rintro en w3 h3
    obtain ⟨k3, rfl⟩ := h3.bad_elim HX1.out
    exact ⟨rfl, OutC.wrong HX.out (K2.out.trans (k3.mono (fun i _ hi => .inl hi)))⟩
  | ok n q =>
    have HX := Lib.hid (show pOper types fuel depth 33 ops l e p = .ok (GInstr.mk 33 n 0 ⟨[], []⟩ [] [] false [], ops) q from (P.bind_ok (by rw [hP]; exact P.bind_ok hx)).trans rfl)
    have HX1 := Lib.hid hx
    obtain ⟨n0, n1, _, _⟩ := u_bd hb hp he hx
    clear hx h c hb hP
    go_enter Tryz.func238, Tryz.ntmps238
    go_wp2_with fail
    refine (u_any HC.out.ctx r e p _ H2.out.rr).mono ?_
    rintro en w3 h3
    obtain ⟨k3, v3, rfl, hv3, r3⟩ := h3.ok_elim HX1.out
    obtain rfl : v3 = .int .i64 n := hv3
    have H3 := Lib.hid (H2.out.go k3 r3)
    have BI3 := Lib.hid (BI2.out.keep k3 (by omega))
    have BR3 := Lib.hid (BR2.out.keep k3 (by omega))
    have K3 := Lib.hid (K2.out.trans (k3.mono (fun i _ hi => .inl hi)))
    have KK3 := Lib.hid k3
    clear k3 r3 h3
    have c0 := BI3.out.c 0 rfl
    have r0 := BR3.out.c 0 rfl
    have f0 := BI3.out.f 0
    have z0 := BR3.out.f 0
    have c1 := BI3.out.c 1 rfl
    have r1 := BR3.out.c 1 rfl
    have f1 := BI3.out.f 1
    have z1 := BR3.out.f 1
    have c2 := BI3.out.c 2 rfl
    have r2 := BR3.out.c 2 rfl
    have f2 := BI3.out.f 2
    have z2 := BR3.out.f 2
    have c3 := BI3.out.c 3 rfl
    have r3 := BR3.out.c 3 rfl
    have f3 := BI3.out.f 3
    have z3 := BR3.out.f 3
    have c4 := BI3.out.c 4 rfl
    have r4 := BR3.out.c 4 rfl
    have f4 := BI3.out.f 4
    have z4 := BR3.out.f 4
    have c5 := BI3.out.c 5 rfl
    have r5 := BR3.out.c 5 rfl
    have f5 := BI3.out.f 5
    have z5 := BR3.out.f 5
    have c6 := BI3.out.c 6 rfl
    have r6 := BR3.out.c 6 rfl
    have f6 := BI3.out.f 6
    have z6 := BR3.out.f 6
    have c7 := BI3.out.c 7 rfl
    have r7 := BR3.out.c 7 rfl
    have f7 := BI3.out.f 7
    have z7 := BR3.out.f 7
    have c8 := BI3.out.c 8 rfl
    have r8 := BR3.out.c 8 rfl
    have f8 := BI3.out.f 8
    have z8 := BR3.out.f 8
    have KS := Lib.hid (((((((((((Keep.refl (fun i => i = w.heap.size ∨ i = w.heap.size + 1) (w3)).set (p := ⟨w.heap.size + 1, 1, none⟩) (.inl (.inr rfl)) (.int .u64 n)).set (p := ⟨w.heap.size, 0, none⟩) (.inl (.inl rfl)) (.int .i64 33)).set (p := ⟨w.heap.size, 1, none⟩) (.inl (.inl rfl)) (.int .u64 n)).set (p := ⟨w.heap.size, 2, none⟩) (.inl (.inl rfl)) (.int .u64 0)).set (p := ⟨w.heap.size, 3, none⟩) (.inl (.inl rfl)) (.slice none 0 0)).set (p := ⟨w.heap.size, 4, none⟩) (.inl (.inl rfl)) (.slice none 0 0)).set (p := ⟨w.heap.size, 5, none⟩) (.inl (.inl rfl)) (.slice none 0 0)).set (p := ⟨w.heap.size, 6, none⟩) (.inl (.inl rfl)) (.slice none 0 0)).set (p := ⟨w.heap.size, 7, none⟩) (.inl (.inl rfl)) (.bool false)).set (p := ⟨w.heap.size, 8, none⟩) (.inl (.inl rfl)) (.slice none 0 0))
    have SZ := H3.out.rr.low.size
    go_wp2
    refine bodyPost_ret (v := .agg #[.int .i64 33, .int .u64 n, .int .u64 0, .slice none 0 0, .slice none 0 0, .slice none 0 0, .slice none 0 0, .bool false, .slice none 0 0]) (by simp [results, Tryz.results238, go_sem, r0, r1, r2, r3, r4, r5, r6, r7, r8]) rfl (OutC.good HX.out (K3.out.new KS.out (fun i hi e => by omega)) ?_ (H3.out.free KS.out (fun i hi => by omega) hr hk))
    exact ⟨_, _, _, _, _, _, _, _, _, _, rfl, VR.nil 1 gI _ _, VR.nil 1 gI _ _, VR.nil 9 gInstr _ _, VR.nil 9 gInstr _ _, VR.nil 1 gI _ _⟩

set_option maxRecDepth 100000 in
set_option maxHeartbeats 1000000 in
theorem oper_34 (c : CC w0 ao cap l ta tc types) (fuel r k e p ops : Nat) (depth : Nat) (w : World) (h : Cr w0 ao cap l ta tc types r k e p ops w) :
    Calls Tryz.prog 238 #[.pointer (some ⟨k, 0, none⟩), .int .i64 ((p : Int) - 1), .int .i64 34, .int .i64 depth] w (OutC w0 ao cap l ta tc types r k e w (VIn w.heap.size) (pOper types fuel depth 34 ops l e p)) := by
  have hr := h.rr.blk.lt
  have hk := h.blk.lt
  have hb := fun k => (c.ctx.bd k).1
  have hp := h.rr.hp
  have he := h.rr.he
  have HC := Lib.hid c
  have H2 := Lib.hid (h.below (made2 w (.cells #[.int .i64 0, .int .u64 0, .int .u64 0, .slice none 0 0, .slice none 0 0, .slice none 0 0, .slice none 0 0, .bool false, .slice none 0 0] 61) (.cells #[.int .i64 34, .int .u64 0, .int .u64 0, .slice none 0 0, .slice none 0 0, .slice none 0 0, .slice none 0 0, .bool false, .slice none 0 0] 61)))
  have hsz : (w.alloc (.cells #[.int .i64 0, .int .u64 0, .int .u64 0, .slice none 0 0, .slice none 0 0, .slice none 0 0, .slice none 0 0, .bool false, .slice none 0 0] 61)).heap.size = w.heap.size + 1 := by simp [go_sem]
  have BR2 := Lib.hid ((Blk.new 61 w #[.int .i64 0, .int .u64 0, .int .u64 0, .slice none 0 0, .slice none 0 0, .slice none 0 0, .slice none 0 0, .bool false, .slice none 0 0]).below (made1 _ (.cells #[.int .i64 34, .int .u64 0, .int .u64 0, .slice none 0 0, .slice none 0 0, .slice none 0 0, .slice none 0 0, .bool false, .slice none 0 0] 61)))
  have BI2 := Lib.hid (hsz ▸ Blk.new 61 (w.alloc (.cells #[.int .i64 0, .int .u64 0, .int .u64 0, .slice none 0 0, .slice none 0 0, .slice none 0 0, .slice none 0 0, .bool false, .slice none 0 0] 61)) #[.int .i64 34, .int .u64 0, .int .u64 0, .slice none 0 0, .slice none 0 0, .slice none 0 0, .slice none 0 0, .bool false, .slice none 0 0] : Blk 61 ((w.alloc (.cells #[.int .i64 0, .int .u64 0, .int .u64 0, .slice none 0 0, .slice none 0 0, .slice none 0 0, .slice none 0 0, .bool false, .slice none 0 0] 61)).alloc (.cells #[.int .i64 34, .int .u64 0, .int .u64 0, .slice none 0 0, .slice none 0 0, .slice none 0 0, .slice none 0 0, .bool false, .slice none 0 0] 61)) (w.heap.size + 1) #[.int .i64 34, .int .u64 0, .int .u64 0, .slice none 0 0, .slice none 0 0, .slice none 0 0, .slice none 0 0, .bool false, .slice none 0 0])
  have K2 := Lib.hid (Keep.of (S := fun i => i = r ∨ i = k) (made2 w (.cells #[.int .i64 0, .int .u64 0, .int .u64 0, .slice none 0 0, .slice none 0 0, .slice none 0 0, .slice none 0 0, .bool false, .slice none 0 0] 61) (.cells #[.int .i64 34, .int .u64 0, .int .u64 0, .slice none 0 0, .slice none 0 0, .slice none 0 0, .slice none 0 0, .bool false, .slice none 0 0] 61)))
  have S2 := Lib.hid (made2 w (.cells #[.int .i64 0, .int .u64 0, .int .u64 0, .slice none 0 0, .slice none 0 0, .slice none 0 0, .slice none 0 0, .bool false, .slice none 0 0] 61) (.cells #[.int .i64 34, .int .u64 0, .int .u64 0, .slice none 0 0, .slice none 0 0, .slice none 0 0, .slice none 0 0, .bool false, .slice none 0 0] 61)).size
  clear hsz
  have hP : pPlain 34 = pU.bind fun n => P.ret (.mk 34 n 0 ⟨[], []⟩ [] [] false []) := rfl
  have a0 := H2.out.blk.c0
  cases hx : pU l e p with
  | bad why a =>
    have HX := Lib.hid (show pOper types fuel depth 34 ops l e p = .bad why a from P.bind_bad (by rw [hP]; exact P.bind_bad hx))
    have HX1 := Lib.hid hx
    clear hx h c hb hP
    go_enter Tryz.func238, Tryz.ntmps238
    go_wp2_with fail
    refine (u_any HC.out.ctx r e p _ H2.out.rr).mono ?_
    rintro en w3 h3
    obtain ⟨k3, rfl⟩ := h3.bad_elim HX1.out
    exact ⟨rfl, OutC.wrong HX.out (K2.out.trans (k3.mono (fun i _ hi => .inl hi)))⟩
  | ok n q =>
    have HX := Lib.hid (show pOper types fuel depth 34 ops l e p = .ok (GInstr.mk 34 n 0 ⟨[], []⟩ [] [] false [], ops) q from (P.bind_ok (by rw [hP]; exact P.bind_ok hx)).trans rfl)
    have HX1 := Lib.hid hx
    obtain ⟨n0, n1, _, _⟩ := u_bd hb hp he hx
    clear hx h c hb hP
    go_enter Tryz.func238, Tryz.ntmps238
    go_wp2_with fail
    refine (u_any HC.out.ctx r e p _ H2.out.rr).mono ?_
    rintro en w3 h3
    obtain ⟨k3, v3, rfl, hv3, r3⟩ := h3.ok_elim HX1.out
    obtain rfl : v3 = .int .i64 n := hv3
    have H3 := Lib.hid (H2.out.go k3 r3)
    have BI3 := Lib.hid (BI2.out.keep k3 (by omega))
    have BR3 := Lib.hid (BR2.out.keep k3 (by omega))
    have K3 := Lib.hid (K2.out.trans (k3.mono (fun i _ hi => .inl hi)))
    have KK3 := Lib.hid k3
    clear k3 r3 h3
    have c0 := BI3.out.c 0 rfl
    have r0 := BR3.out.c 0 rfl
    have f0 := BI3.out.f 0
    have z0 := BR3.out.f 0
    have c1 := BI3.out.c 1 rfl
    have r1 := BR3.out.c 1 rfl
    have f1 := BI3.out.f 1
    have z1 := BR3.out.f 1
    have c2 := BI3.out.c 2 rfl
    have r2 := BR3.out.c 2 rfl
    have f2 := BI3.out.f 2
    have z2 := BR3.out.f 2
    have c3 := BI3.out.c 3 rfl
    have r3 := BR3.out.c 3 rfl
    have f3 := BI3.out.f 3
    have z3 := BR3.out.f 3
    have c4 := BI3.out.c 4 rfl
    have r4 := BR3.out.c 4 rfl
    have f4 := BI3.out.f 4
    have z4 := BR3.out.f 4
    have c5 := BI3.out.c 5 rfl
    have r5 := BR3.out.c 5 rfl
    have f5 := BI3.out.f 5
    have z5 := BR3.out.f 5
    have c6 := BI3.out.c 6 rfl
    have r6 := BR3.out.c 6 rfl
    have f6 := BI3.out.f 6
    have z6 := BR3.out.f 6
    have c7 := BI3.out.c 7 rfl
    have r7 := BR3.out.c 7 rfl
    have f7 := BI3.out.f 7
    have z7 := BR3.out.f 7
    have c8 := BI3.out.c 8 rfl
    have r8 := BR3.out.c 8 rfl
    have f8 := BI3.out.f 8
    have z8 := BR3.out.f 8
    have KS := Lib.hid (((((((((((Keep.refl (fun i => i = w.heap.size ∨ i = w.heap.size + 1) (w3)).set (p := ⟨w.heap.size + 1, 1, none⟩) (.inl (.inr rfl)) (.int .u64 n)).set (p := ⟨w.heap.size, 0, none⟩) (.inl (.inl rfl)) (.int .i64 34)).set (p := ⟨w.heap.size, 1, none⟩) (.inl (.inl rfl)) (.int .u64 n)).set (p := ⟨w.heap.size, 2, none⟩) (.inl (.inl rfl)) (.int .u64 0)).set (p := ⟨w.heap.size, 3, none⟩) (.inl (.inl rfl)) (.slice none 0 0)).set (p := ⟨w.heap.size, 4, none⟩) (.inl (.inl rfl)) (.slice none 0 0)).set (p := ⟨w.heap.size, 5, none⟩) (.inl (.inl rfl)) (.slice none 0 0)).set (p := ⟨w.heap.size, 6, none⟩) (.inl (.inl rfl)) (.slice none 0 0)).set (p := ⟨w.heap.size, 7, none⟩) (.inl (.inl rfl)) (.bool false)).set (p := ⟨w.heap.size, 8, none⟩) (.inl (.inl rfl)) (.slice none 0 0))
    have SZ := H3.out.rr.low.size
    go_wp2
    refine bodyPost_ret (v := .agg #[.int .i64 34, .int .u64 n, .int .u64 0, .slice none 0 0, .slice none 0 0, .slice none 0 0, .slice none 0 0, .bool false, .slice none 0 0]) (by simp [results, Tryz.results238, go_sem, r0, r1, r2, r3, r4, r5, r6, r7, r8]) rfl (OutC.good HX.out (K3.out.new KS.out (fun i hi e => by omega)) ?_ (H3.out.free KS.out (fun i hi => by omega) hr hk))
    exact ⟨_, _, _, _, _, _, _, _, _, _, rfl, VR.nil 1 gI _ _, VR.nil 1 gI _ _, VR.nil 9 gInstr _ _, VR.nil 9 gInstr _ _, VR.nil 1 gI _ _⟩

set_option maxRecDepth 100000 in
set_option maxHeartbeats 1000000 in
theorem oper_35 (c : CC w0 ao cap l ta tc types) (fuel r k e p ops : Nat) (depth : Nat) (w : World) (h : Cr w0 ao cap l ta tc types r k e p ops w) :
    Calls Tryz.prog 238 #[.pointer (some ⟨k, 0, none⟩), .int .i64 ((p : Int) - 1), .int .i64 35, .int .i64 depth] w (OutC w0 ao cap l ta tc types r k e w (VIn w.heap.size) (pOper types fuel depth 35 ops l e p)) := by
  have hr := h.rr.blk.lt
  have hk := h.blk.lt
  have hb := fun k => (c.ctx.bd k).1
  have hp := h.rr.hp
  have he := h.rr.he
  have HC := Lib.hid c
  have H2 := Lib.hid (h.below (made2 w (.cells #[.int .i64 0, .int .u64 0, .int .u64 0, .slice none 0 0, .slice none 0 0, .slice none 0 0, .slice none 0 0, .bool false, .slice none 0 0] 61) (.cells #[.int .i64 35, .int .u64 0, .int .u64 0, .slice none 0 0, .slice none 0 0, .slice none 0 0, .slice none 0 0, .bool false, .slice none 0 0] 61)))
  have hsz : (w.alloc (.cells #[.int .i64 0, .int .u64 0, .int .u64 0, .slice none 0 0, .slice none 0 0, .slice none 0 0, .slice none 0 0, .bool false, .slice none 0 0] 61)).heap.size = w.heap.size + 1 := by simp [go_sem]
  have BR2 := Lib.hid ((Blk.new 61 w #[.int .i64 0, .int .u64 0, .int .u64 0, .slice none 0 0, .slice none 0 0, .slice none 0 0, .slice none 0 0, .bool false, .slice none 0 0]).below (made1 _ (.cells #[.int .i64 35, .int .u64 0, .int .u64 0, .slice none 0 0, .slice none 0 0, .slice none 0 0, .slice none 0 0, .bool false, .slice none 0 0] 61)))
  have BI2 := Lib.hid (hsz ▸ Blk.new 61 (w.alloc (.cells #[.int .i64 0, .int .u64 0, .int .u64 0, .slice none 0 0, .slice none 0 0, .slice none 0 0, .slice none 0 0, .bool false, .slice none 0 0] 61)) #[.int .i64 35, .int .u64 0, .int .u64 0, .slice none 0 0, .slice none 0 0, .slice none 0 0, .slice none 0 0, .bool false, .slice none 0 0] : Blk 61 ((w.alloc (.cells #[.int .i64 0, .int .u64 0, .int .u64 0, .slice none 0 0, .slice none 0 0, .slice none 0 0, .slice none 0 0, .bool false, .slice none 0 0] 61)).alloc (.cells #[.int .i64 35, .int .u64 0, .int .u64 0, .slice none 0 0, .slice none 0 0, .slice none 0 0, .slice none 0 0, .bool false, .slice none 0 0] 61)) (w.heap.size + 1) #[.int .i64 35, .int .u64 0, .int .u64 0, .slice none 0 0, .slice none 0 0, .slice none 0 0, .slice none 0 0, .bool false, .slice none 0 0])
  have K2 := Lib.hid (Keep.of (S := fun i => i = r ∨ i = k) (made2 w (.cells #[.int .i64 0, .int .u64 0, .int .u64 0, .slice none 0 0, .slice none 0 0, .slice none 0 0, .slice none 0 0, .bool false, .slice none 0 0] 61) (.cells #[.int .i64 35, .int .u64 0, .int .u64 0, .slice none 0 0, .slice none 0 0, .slice none 0 0, .slice none 0 0, .bool false, .slice none 0 0] 61)))
  have S2 := Lib.hid (made2 w (.cells #[.int .i64 0, .int .u64 0, .int .u64 0, .slice none 0 0, .slice none 0 0, .slice none 0 0, .slice none 0 0, .bool false, .slice none 0 0] 61) (.cells #[.int .i64 35, .int .u64 0, .int .u64 0, .slice none 0 0, .slice none 0 0, .slice none 0 0, .slice none 0 0, .bool false, .slice none 0 0] 61)).size
  clear hsz
  have hP : pPlain 35 = pU.bind fun n => P.ret (.mk 35 n 0 ⟨[], []⟩ [] [] false []) := rfl
  have a0 := H2.out.blk.c0
  cases hx : pU l e p with
  | bad why a =>
    have HX := Lib.hid (show pOper types fuel depth 35 ops l e p = .bad why a from P.bind_bad (by rw [hP]; exact P.bind_bad hx))
    have HX1 := Lib.hid hx
    clear hx h c hb hP
    go_enter Tryz.func238, Tryz.ntmps238
    go_wp2_with fail
    refine (u_any HC.out.ctx r e p _ H2.out.rr).mono ?_
    rintro en w3 h3
    obtain ⟨k3, rfl⟩ := h3.bad_elim HX1.out
    exact ⟨rfl, OutC.wrong HX.out (K2.out.trans (k3.mono (fun i _ hi => .inl hi)))⟩
  | ok n q =>
    have HX := Lib.hid (show pOper types fuel depth 35 ops l e p = .ok (GInstr.mk 35 n 0 ⟨[], []⟩ [] [] false [], ops) q from (P.bind_ok (by rw [hP]; exact P.bind_ok hx)).trans rfl)
    have HX1 := Lib.hid hx
    obtain ⟨n0, n1, _, _⟩ := u_bd hb hp he hx
    clear hx h c hb hP
    go_enter Tryz.func238, Tryz.ntmps238
    go_wp2_with fail
    refine (u_any HC.out.ctx r e p _ H2.out.rr).mono ?_
    rintro en w3 h3
    obtain ⟨k3, v3, rfl, hv3, r3⟩ := h3.ok_elim HX1.out
    obtain rfl : v3 = .int .i64 n := hv3
    have H3 := Lib.hid (H2.out.go k3 r3)
    have BI3 := Lib.hid (BI2.out.keep k3 (by omega))
    have BR3 := Lib.hid (BR2.out.keep k3 (by omega))
    have K3 := Lib.hid (K2.out.trans (k3.mono (fun i _ hi => .inl hi)))
    have KK3 := Lib.hid k3
    clear k3 r3 h3
    have c0 := BI3.out.c 0 rfl
    have r0 := BR3.out.c 0 rfl
    have f0 := BI3.out.f 0
    have z0 := BR3.out.f 0
    have c1 := BI3.out.c 1 rfl
    have r1 := BR3.out.c 1 rfl
    have f1 := BI3.out.f 1
    have z1 := BR3.out.f 1
    have c2 := BI3.out.c 2 rfl
    have r2 := BR3.out.c 2 rfl
    have f2 := BI3.out.f 2
    have z2 := BR3.out.f 2
    have c3 := BI3.out.c 3 rfl
    have r3 := BR3.out.c 3 rfl
    have f3 := BI3.out.f 3
    have z3 := BR3.out.f 3
    have c4 := BI3.out.c 4 rfl
    have r4 := BR3.out.c 4 rfl
    have f4 := BI3.out.f 4
    have z4 := BR3.out.f 4
    have c5 := BI3.out.c 5 rfl
    have r5 := BR3.out.c 5 rfl
    have f5 := BI3.out.f 5
    have z5 := BR3.out.f 5
    have c6 := BI3.out.c 6 rfl
    have r6 := BR3.out.c 6 rfl
    have f6 := BI3.out.f 6
    have z6 := BR3.out.f 6
    have c7 := BI3.out.c 7 rfl
    have r7 := BR3.out.c 7 rfl
    have f7 := BI3.out.f 7
    have z7 := BR3.out.f 7
    have c8 := BI3.out.c 8 rfl
    have r8 := BR3.out.c 8 rfl
    have f8 := BI3.out.f 8
    have z8 := BR3.out.f 8
    have KS := Lib.hid (((((((((((Keep.refl (fun i => i = w.heap.size ∨ i = w.heap.size + 1) (w3)).set (p := ⟨w.heap.size + 1, 1, none⟩) (.inl (.inr rfl)) (.int .u64 n)).set (p := ⟨w.heap.size, 0, none⟩) (.inl (.inl rfl)) (.int .i64 35)).set (p := ⟨w.heap.size, 1, none⟩) (.inl (.inl rfl)) (.int .u64 n)).set (p := ⟨w.heap.size, 2, none⟩) (.inl (.inl rfl)) (.int .u64 0)).set (p := ⟨w.heap.size, 3, none⟩) (.inl (.inl rfl)) (.slice none 0 0)).set (p := ⟨w.heap.size, 4, none⟩) (.inl (.inl rfl)) (.slice none 0 0)).set (p := ⟨w.heap.size, 5, none⟩) (.inl (.inl rfl)) (.slice none 0 0)).set (p := ⟨w.heap.size, 6, none⟩) (.inl (.inl rfl)) (.slice none 0 0)).set (p := ⟨w.heap.size, 7, none⟩) (.inl (.inl rfl)) (.bool false)).set (p := ⟨w.heap.size, 8, none⟩) (.inl (.inl rfl)) (.slice none 0 0))
    have SZ := H3.out.rr.low.size
    go_wp2
    refine bodyPost_ret (v := .agg #[.int .i64 35, .int .u64 n, .int .u64 0, .slice none 0 0, .slice none 0 0, .slice none 0 0, .slice none 0 0, .bool false, .slice none 0 0]) (by simp [results, Tryz.results238, go_sem, r0, r1, r2, r3, r4, r5, r6, r7, r8]) rfl (OutC.good HX.out (K3.out.new KS.out (fun i hi e => by omega)) ?_ (H3.out.free KS.out (fun i hi => by omega) hr hk))
    exact ⟨_, _, _, _, _, _, _, _, _, _, rfl, VR.nil 1 gI _ _, VR.nil 1 gI _ _, VR.nil 9 gInstr _ _, VR.nil 9 gInstr _ _, VR.nil 1 gI _ _⟩

set_option maxRecDepth 100000 in
set_option maxHeartbeats 1000000 in
theorem oper_36 (c : CC w0 ao cap l ta tc types) (fuel r k e p ops : Nat) (depth : Nat) (w : World) (h : Cr w0 ao cap l ta tc types r k e p ops w) :
    Calls Tryz.prog 238 #[.pointer (some ⟨k, 0, none⟩), .int .i64 ((p : Int) - 1), .int .i64 36, .int .i64 depth] w (OutC w0 ao cap l ta tc types r k e w (VIn w.heap.size) (pOper types fuel depth 36 ops l e p)) := by
  have hr := h.rr.blk.lt
  have hk := h.blk.lt
  have hb := fun k => (c.ctx.bd k).1
  have hp := h.rr.hp
  have he := h.rr.he
  have HC := Lib.hid c
  have H2 := Lib.hid (h.below (made2 w (.cells #[.int .i64 0, .int .u64 0, .int .u64 0, .slice none 0 0, .slice none 0 0, .slice none 0 0, .slice none 0 0, .bool false, .slice none 0 0] 61) (.cells #[.int .i64 36, .int .u64 0, .int .u64 0, .slice none 0 0, .slice none 0 0, .slice none 0 0, .slice none 0 0, .bool false, .slice none 0 0] 61)))
  have hsz : (w.alloc (.cells #[.int .i64 0, .int .u64 0, .int .u64 0, .slice none 0 0, .slice none 0 0, .slice none 0 0, .slice none 0 0, .bool false, .slice none 0 0] 61)).heap.size = w.heap.size + 1 := by simp [go_sem]
  have BR2 := Lib.hid ((Blk.new 61 w #[.int .i64 0, .int .u64 0, .int .u64 0, .slice none 0 0, .slice none 0 0, .slice none 0 0, .slice none 0 0, .bool false, .slice none 0 0]).below (made1 _ (.cells #[.int .i64 36, .int .u64 0, .int .u64 0, .slice none 0 0, .slice none 0 0, .slice none 0 0, .slice none 0 0, .bool false, .slice none 0 0] 61)))
  have BI2 := Lib.hid (hsz ▸ Blk.new 61 (w.alloc (.cells #[.int .i64 0, .int .u64 0, .int .u64 0, .slice none 0 0, .slice none 0 0, .slice none 0 0, .slice none 0 0, .bool false, .slice none 0 0] 61)) #[.int .i64 36, .int .u64 0, .int .u64 0, .slice none 0 0, .slice none 0 0, .slice none 0 0, .slice none 0 0, .bool false, .slice none 0 0] : Blk 61 ((w.alloc (.cells #[.int .i64 0, .int .u64 0, .int .u64 0, .slice none 0 0, .slice none 0 0, .slice none 0 0, .slice none 0 0, .bool false, .slice none 0 0] 61)).alloc (.cells #[.int .i64 36, .int .u64 0, .int .u64 0, .slice none 0 0, .slice none 0 0, .slice none 0 0, .slice none 0 0, .bool false, .slice none 0 0] 61)) (w.heap.size + 1) #[.int .i64 36, .int .u64 0, .int .u64 0, .slice none 0 0, .slice none 0 0, .slice none 0 0, .slice none 0 0, .bool false, .slice none 0 0])
  have K2 := Lib.hid (Keep.of (S := fun i => i = r ∨ i = k) (made2 w (.cells #[.int .i64 0, .int .u64 0, .int .u64 0, .slice none 0 0, .slice none 0 0, .slice none 0 0, .slice none 0 0, .bool false, .slice none 0 0] 61) (.cells #[.int .i64 36, .int .u64 0, .int .u64 0, .slice none 0 0, .slice none 0 0, .slice none 0 0, .slice none 0 0, .bool false, .slice none 0 0] 61)))
  have S2 := Lib.hid (made2 w (.cells #[.int .i64 0, .int .u64 0, .int .u64 0, .slice none 0 0, .slice none 0 0, .slice none 0 0, .slice none 0 0, .bool false, .slice none 0 0] 61) (.cells #[.int .i64 36, .int .u64 0, .int .u64 0, .slice none 0 0, .slice none 0 0, .slice none 0 0, .slice none 0 0, .bool false, .slice none 0 0] 61)).size
  clear hsz
  have hP : pPlain 36 = pU.bind fun n => P.ret (.mk 36 n 0 ⟨[], []⟩ [] [] false []) := rfl
  have a0 := H2.out.blk.c0
  cases hx : pU l e p with
  | bad why a =>
    have HX := Lib.hid (show pOper types fuel depth 36 ops l e p = .bad why a from P.bind_bad (by rw [hP]; exact P.bind_bad hx))
    have HX1 := Lib.hid hx
    clear hx h c hb hP
    go_enter Tryz.func238, Tryz.ntmps238
    go_wp2_with fail
    refine (u_any HC.out.ctx r e p _ H2.out.rr).mono ?_
    rintro en w3 h3
    obtain ⟨k3, rfl⟩ := h3.bad_elim HX1.out
    exact ⟨rfl, OutC.wrong HX.out (K2.out.trans (k3.mono (fun i _ hi => .inl hi)))⟩
  | ok n q =>
    have HX := Lib.hid (show pOper types fuel depth 36 ops l e p = .ok (GInstr.mk 36 n 0 ⟨[], []⟩ [] [] false [], ops) q from (P.bind_ok (by rw [hP]; exact P.bind_ok hx)).trans rfl)
    have HX1 := Lib.hid hx
    obtain ⟨n0, n1, _, _⟩ := u_bd hb hp he hx
    clear hx h c hb hP
    go_enter Tryz.func238, Tryz.ntmps238
    go_wp2_with fail
    refine (u_any HC.out.ctx r e p _ H2.out.rr).mono ?_
    rintro en w3 h3
    obtain ⟨k3, v3, rfl, hv3, r3⟩ := h3.ok_elim HX1.out
    obtain rfl : v3 = .int .i64 n := hv3
    have H3 := Lib.hid (H2.out.go k3 r3)
    have BI3 := Lib.hid (BI2.out.keep k3 (by omega))
    have BR3 := Lib.hid (BR2.out.keep k3 (by omega))
    have K3 := Lib.hid (K2.out.trans (k3.mono (fun i _ hi => .inl hi)))
    have KK3 := Lib.hid k3
    clear k3 r3 h3
    have c0 := BI3.out.c 0 rfl
    have r0 := BR3.out.c 0 rfl
    have f0 := BI3.out.f 0
    have z0 := BR3.out.f 0
    have c1 := BI3.out.c 1 rfl
    have r1 := BR3.out.c 1 rfl
    have f1 := BI3.out.f 1
    have z1 := BR3.out.f 1
    have c2 := BI3.out.c 2 rfl
    have r2 := BR3.out.c 2 rfl
    have f2 := BI3.out.f 2
    have z2 := BR3.out.f 2
    have c3 := BI3.out.c 3 rfl
    have r3 := BR3.out.c 3 rfl
    have f3 := BI3.out.f 3
    have z3 := BR3.out.f 3
    have c4 := BI3.out.c 4 rfl
    have r4 := BR3.out.c 4 rfl
    have f4 := BI3.out.f 4
    have z4 := BR3.out.f 4
    have c5 := BI3.out.c 5 rfl
    have r5 := BR3.out.c 5 rfl
    have f5 := BI3.out.f 5
    have z5 := BR3.out.f 5
    have c6 := BI3.out.c 6 rfl
    have r6 := BR3.out.c 6 rfl
    have f6 := BI3.out.f 6
    have z6 := BR3.out.f 6
    have c7 := BI3.out.c 7 rfl
    have r7 := BR3.out.c 7 rfl
    have f7 := BI3.out.f 7
    have z7 := BR3.out.f 7
    have c8 := BI3.out.c 8 rfl
    have r8 := BR3.out.c 8 rfl
    have f8 := BI3.out.f 8
    have z8 := BR3.out.f 8
    have KS := Lib.hid (((((((((((Keep.refl (fun i => i = w.heap.size ∨ i = w.heap.size + 1) (w3)).set (p := ⟨w.heap.size + 1, 1, none⟩) (.inl (.inr rfl)) (.int .u64 n)).set (p := ⟨w.heap.size, 0, none⟩) (.inl (.inl rfl)) (.int .i64 36)).set (p := ⟨w.heap.size, 1, none⟩) (.inl (.inl rfl)) (.int .u64 n)).set (p := ⟨w.heap.size, 2, none⟩) (.inl (.inl rfl)) (.int .u64 0)).set (p := ⟨w.heap.size, 3, none⟩) (.inl (.inl rfl)) (.slice none 0 0)).set (p := ⟨w.heap.size, 4, none⟩) (.inl (.inl rfl)) (.slice none 0 0)).set (p := ⟨w.heap.size, 5, none⟩) (.inl (.inl rfl)) (.slice none 0 0)).set (p := ⟨w.heap.size, 6, none⟩) (.inl (.inl rfl)) (.slice none 0 0)).set (p := ⟨w.heap.size, 7, none⟩) (.inl (.inl rfl)) (.bool false)).set (p := ⟨w.heap.size, 8, none⟩) (.inl (.inl rfl)) (.slice none 0 0))
    have SZ := H3.out.rr.low.size
    go_wp2
    refine bodyPost_ret (v := .agg #[.int .i64 36, .int .u64 n, .int .u64 0, .slice none 0 0, .slice none 0 0, .slice none 0 0, .slice none 0 0, .bool false, .slice none 0 0]) (by simp [results, Tryz.results238, go_sem, r0, r1, r2, r3, r4, r5, r6, r7, r8]) rfl (OutC.good HX.out (K3.out.new KS.out (fun i hi e => by omega)) ?_ (H3.out.free KS.out (fun i hi => by omega) hr hk))
    exact ⟨_, _, _, _, _, _, _, _, _, _, rfl, VR.nil 1 gI _ _, VR.nil 1 gI _ _, VR.nil 9 gInstr _ _, VR.nil 9 gInstr _ _, VR.nil 1 gI _ _⟩
end
end Go.Proofs.YtgcmdnkmnghhaaaGreatDoor.wm
