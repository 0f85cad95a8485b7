/- What is reached without going through a node; the document's order. -/
import Derived.Test.YtcghekbbaeejaaaGWalk
import Derived.Laws.Tables
import Derived.Laws.NewBlocks
import Derived.Deep.Cut
set_option linter.unusedVariables false
set_option linter.unusedSimpArgs false
namespace Go.Proofs.Ytcghekbbaeejaaa.gr
open Go.RowKit Go.Proofs.Ytcghekbbaeejaaa.Gr

/-- what is reached without a node (-1: all) -/
def wo (G : List (List Nat)) (a : Int) : List Bool :=
  let s0 : List Bool := if 0 ≤ a then (List.replicate G.length false).set a.toNat true else List.replicate G.length false
  let s1 : List Bool := if a = 0 then s0 else (go G G.length 0 (s0, [])).1
  if 0 ≤ a then s1.set a.toNat false else s1
theorem wo_len (G : List (List Nat)) (wf : WF G) (a : Int) (ha : a < G.length) : (wo G a).length = G.length := by
  have h0 : 0 < G.length := wf.pos
  have hl : ∀ s0 : List Bool, s0.length = G.length → met s0 0 = false → (go G G.length 0 (s0, [])).1.length = G.length := fun s0 hs hm => by
    have := (go_fwd G G.length 0 (s0, []) (by have := U_le s0; simp; omega) hm).1.len
    rw [this]; exact hs
  unfold wo
  by_cases h : 0 ≤ a
  · simp only [if_pos h, List.length_set]
    by_cases h1 : a = 0
    · simp [if_pos h1]
    · rw [if_neg h1]
      exact hl _ (by simp) (by rw [met_set, if_neg (by omega)]; exact met_none h0)
  · simp only [if_neg h]
    rw [if_neg (by omega)]
    exact hl _ (by simp) (met_none h0)

theorem build_walker (a b : Option Addr) (n c m d : Nat) (w : World) : (Instr.build 52 #[(0, .slice a n c), (1, .slice b m d)]).run Try.prog w = .ok (.agg #[.slice a n c, .slice b m d, .slice none 0 0]) w := run_build w _ _ _ (by kernel_rfl)

theorem ws_start {w : World} {n : Nat} {gv : Value} (hn : n ≤ 256) : WS w ((w.alloc (.cells (Array.replicate n (Value.bool false)) 4)).alloc (.cells #[gv, .slice (some ⟨w.heap.size, 0, none⟩) n n, .slice none 0 0] 52)) (w.heap.size + 1) w.heap.size (w.heap.size + 2) n gv (.slice none 0 0) (List.replicate n false) [] := by
  have m0 : Ow (w.alloc (.cells (Array.replicate n (Value.bool false)) 4)) w.heap.size 4 (.slice (some ⟨w.heap.size, 0, none⟩) n n) ((List.replicate n false).map .bool) := by
    have := ow_new (w := w.alloc (.cells (Array.replicate n (Value.bool false)) 4)) (B := w.heap.size) (g := w.heap.size) (cap := n) (T := 4) (cs := Array.replicate n (Value.bool false)) (Nat.le_refl _) (heap_alloc_new w _) (by simp) (by unfold maxLen; omega)
    simpa using this
  have g3 := World.grownBy_alloc (w.alloc (.cells (Array.replicate n (Value.bool false)) 4)) (.cells #[gv, .slice (some ⟨w.heap.size, 0, none⟩) n n, .slice none 0 0] 52) none
  have hsz : (w.alloc (.cells (Array.replicate n (Value.bool false)) 4)).heap.size = w.heap.size + 1 := by simp
  refine ⟨?_, m0.kept g3 (.inr (by simp [Value.ownBlock])), gi.Own.nil _ _, bnextA (bnextA (Below.refl _ _) _) _, Nat.le_refl _, by omega, by omega, by simp⟩
  have := heap_alloc_new (w.alloc (.cells (Array.replicate n (Value.bool false)) 4)) (.cells #[gv, .slice (some ⟨w.heap.size, 0, none⟩) n n, .slice none 0 0] 52)
  rw [hsz] at this; exact this

set_option maxRecDepth 100000 in
set_option maxHeartbeats 8000000 in
theorem without_any (v : Value) (G : List (List Nat)) (wf : WF G) (hn : G.length ≤ 256) (hE : ∀ x, (adj G x).length ≤ 128) (a : Int) (ha : -1 ≤ a) (ha2 : a < G.length) (w : World) (h : RdG w v (upp G)) :
    Calls Try.prog 24 #[v, .int .i64 a] w fun e w' => ∃ g, e = .returned (.slice (some ⟨g, 0, none⟩) G.length G.length) ∧ Ow w' w.heap.size 4 (.slice (some ⟨g, 0, none⟩) G.length G.length) ((wo G a).map .bool) ∧ Below w.heap.size w w' := by
  have hp := wf.pos
  have HR := Lib.hid h
  obtain ⟨ao, cap, rfl, hcap, _, hd⟩ := h
  rw [upp_len] at hcap HR ⊢
  obtain ⟨bg, og, rfl⟩ : ∃ bg og, ao = some ⟨bg, og, none⟩ := by
    rcases hd with e | ⟨bg, og, e, _⟩
    · have := upp_len G; rw [e] at this; simp at this; omega
    · exact ⟨bg, og, e⟩
  have hmk := make_bools G.length (by omega)
  have HS := Lib.hid (ws_start (w := w) (n := G.length) (gv := .slice (some ⟨bg, og, none⟩) G.length cap) hn)
  have HK := Lib.hid (walk_any G wf hn hE w bg og cap (w.heap.size + 1) w.heap.size (w.heap.size + 2) HR.out G.length)
  have hbd := build_walker
  clear hd hE wf
  have hnl : (List.replicate G.length false).length = G.length := List.length_replicate ..
  by_cases h1 : 0 ≤ a
  · obtain ⟨an, rfl⟩ : ∃ n : Nat, a = (n : Int) := ⟨a.toNat, by omega⟩
    have han : an < G.length := by omega
    by_cases h2 : an = 0
    · have h2' : ((an : Int) != 0) = false := by rw [bne_eq_false_iff_eq]; omega
      have HW : Hid (((List.replicate G.length false).set an true).set an false = wo G (an : Int)) := by
        show _ = _
        unfold wo; simp [h2]
      clear h2
      go_enter Try.func24, Try.ntmps24
      go_upto_region 2 with (fail)
      generalize (w.alloc _).alloc _ = W1 at HS ⊢
      obtain ⟨c0, c1, c2⟩ := HS.out.cells
      obtain ⟨m1, m2⟩ := HS.out.met han hnl
      have HQ := Lib.hid ((HS.out.marked an true).marked an false)
      obtain ⟨d0, d1, d2⟩ := (HS.out.marked an true).cells
      obtain ⟨e0, e1, e2⟩ := HQ.out.cells
      obtain ⟨n1, n2⟩ := (HS.out.marked an true).met han (by rw [List.length_set]; exact hnl)
      clear hmk hbd hnl
      go_wp2
      go_ret
      exact ⟨w.heap.size, rfl, by rw [← HW.out]; exact HQ.out.mt, HQ.out.below⟩
    · have h2' : ((an : Int) != 0) = true := by rw [bne_iff_ne]; omega
      have HW : Hid ((go G G.length 0 ((List.replicate G.length false).set an true, [])).1.set an false = wo G (an : Int)) := by
        show _ = _
        unfold wo; rw [if_pos (by omega : (0 : Int) ≤ (an : Int)), if_neg (by omega : ¬ (an : Int) = 0), if_pos (by omega : (0 : Int) ≤ (an : Int))]; simp
      have hl2 : ((List.replicate G.length false).set an true).length = G.length := by rw [List.length_set]; exact hnl
      have hm0 : met ((List.replicate G.length false).set an true) 0 = false := by rw [met_set, if_neg (by omega)]; exact met_none hp
      have hu0 : U ((List.replicate G.length false).set an true) ≤ G.length := by have := U_le ((List.replicate G.length false).set an true); omega
      have hgl : (go G G.length 0 ((List.replicate G.length false).set an true, [])).1.length = G.length := ((go_fwd G G.length 0 (_, []) hu0 hm0).1.len).trans hl2
      have HL2 := Lib.hid hl2
      have HM0 := Lib.hid hm0
      have HU0 := Lib.hid hu0
      have HGL := Lib.hid hgl
      clear h2 hl2 hm0 hu0 hgl
      go_enter Try.func24, Try.ntmps24
      go_upto_region 2 with (fail)
      generalize (w.alloc _).alloc _ = W1 at HS ⊢
      obtain ⟨c0, c1, c2⟩ := HS.out.cells
      obtain ⟨m1, m2⟩ := HS.out.met han hnl
      have HQ := Lib.hid (HS.out.marked an true)
      clear hmk hbd hnl
      go_wp2_with (go_at_call 26; refine (HK.out 0 _ _ _ _ HQ.out HL2.out HM0.out HU0.out (by have := HU0.out; simpa using this)).mono ?_; rintro e w2 ⟨rfl, v7, hW⟩; have HWS := Lib.hid hW; clear hW; obtain ⟨d0, d1, d2⟩ := HWS.out.cells; obtain ⟨n1, n2⟩ := HWS.out.met han HGL.out; have HE := Lib.hid (HWS.out.marked an false); obtain ⟨e0, e1, e2⟩ := HE.out.cells)
      go_ret
      exact ⟨w.heap.size, rfl, by rw [← HW.out]; exact HE.out.mt, HE.out.below⟩
  · have h2' : (a != 0) = true := by rw [bne_iff_ne]; omega
    have HW : Hid ((go G G.length 0 (List.replicate G.length false, [])).1 = wo G a) := by
      show _ = _
      unfold wo; rw [if_neg h1, if_neg (by omega : ¬ a = 0), if_neg h1]
    have hm0 : met (List.replicate G.length false) 0 = false := met_none hp
    have hu0 : U (List.replicate G.length false) ≤ G.length := by have := U_le (List.replicate G.length false); omega
    have HL2 := Lib.hid hnl
    have HM0 := Lib.hid hm0
    have HU0 := Lib.hid hu0
    clear hm0 hu0 hnl
    go_enter Try.func24, Try.ntmps24
    go_upto_region 2 with (fail)
    generalize (w.alloc _).alloc _ = W1 at HS ⊢
    clear hmk hbd
    go_wp2_with (go_at_call 26; refine (HK.out 0 _ _ _ _ HS.out HL2.out HM0.out HU0.out (by have := HU0.out; simpa using this)).mono ?_; rintro e w2 ⟨rfl, v7, hW⟩; have HWS := Lib.hid hW; clear hW; obtain ⟨d0, d1, d2⟩ := HWS.out.cells)
    go_ret
    exact ⟨w.heap.size, rfl, by rw [← HW.out]; exact HWS.out.mt, HWS.out.below⟩
end Go.Proofs.Ytcghekbbaeejaaa.gr
