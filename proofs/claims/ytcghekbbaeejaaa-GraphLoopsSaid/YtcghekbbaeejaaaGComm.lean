/- What the laws share: the same numbers, a graph that may be, From of one that may not. -/
import Derived.Test.YtcghekbbaeejaaaGAlive
set_option linter.unusedVariables false
set_option linter.unusedSimpArgs false
namespace Go.Proofs.Ytcghekbbaeejaaa.gr
open Go.RowKit Go.Proofs.Ytcghekbbaeejaaa.Gr

theorem ints_same (w : World) (v1 v2 : Value) (l : List Int) (h1 : gi.Rd w v1 l) (h2 : gi.Rd w v2 l) (hl : l.length ≤ 1048576) :
    Calls Try.prog 16 #[v1, v2] w fun e w' => e = .returned (.bool true) ∧ Below w.heap.size w w' := by
  have h := ints_any v1 v2 l l w h1 h2 hl
  rwa [decide_eq_true rfl] at h
theorem natG_rd {w : World} {v : Value} {L : List (List Int)} (h : RdG w v L) (hr : rightB L = true) : ∃ G, L = upp G ∧ Fine G := ⟨natG L, right_nat hr⟩


set_option maxRecDepth 100000 in
set_option maxHeartbeats 4000000 in
theorem refFrom_bad (v : Value) (L : List (List Int)) (w : World) (h : RdG w v L) (hl : L.length ≤ 140737488351232) (hr : rightB L = false) :
    Calls Try.prog 13 #[v] w fun e w' => e = .returned (.tuple #[.slice none 0 0, .int .i64 1]) ∧ w = w' := by
  have HR := Lib.hid (refRight_any v L w h hl)
  rw [hr] at HR
  clear hr
  go_enter Try.func13, Try.ntmps13
  go_wp2_with (go_at_call 15; refine HR.out.mono ?_; rintro e w1 ⟨rfl, rfl⟩)
  go_ret2
  exact ⟨rfl, rfl⟩

theorem RdG.at_ {w : World} {g n c : Nat} {O : List (List Nat)} (h : RdG w (.slice (some ⟨g, 0, none⟩) n c) (upp O)) {k : Nat} (hk : k < n) : ∃ u, w.cell? ⟨g, k, none⟩ = some u ∧ gi.Rd w u (up (O.getD k [])) := by
  obtain ⟨ao, cap, e, hc, _, h⟩ := h
  simp only [Value.slice.injEq, upp_len] at e
  obtain ⟨rfl, rfl, rfl⟩ := e
  rcases h with h | ⟨b, off, e, h⟩
  · have := upp_len O; rw [h] at this; simp at this; omega
  · cases e
    obtain ⟨u, h1, h2⟩ := h k (by rw [upp_len]; exact hk)
    rw [Nat.zero_add] at h1
    rw [upp_getD] at h2
    exact ⟨u, h1, h2⟩
end Go.Proofs.Ytcghekbbaeejaaa.gr
