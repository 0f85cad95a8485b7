/- The program's Loops. -/
import Derived.Test.YtcghekbbaeejaaaGLoopW
set_option linter.unusedVariables false
set_option linter.unusedSimpArgs false
namespace Go.Proofs.Ytcghekbbaeejaaa.gr
open Go.RowKit Go.Proofs.Ytcghekbbaeejaaa.Gr

set_option maxRecDepth 100000 in
set_option maxHeartbeats 4000000 in
theorem loops_bad (v : Value) (L : List (List Int)) (w : World) (h : RdG w v L) (hl : L.length ≤ 140737488351232) (hr : rightB L = false) :
    Calls Try.prog 22 #[v] w fun e w' => e = .returned (.tuple #[.slice none 0 0, .int .i64 1]) ∧ w = w' := by
  have HR := Lib.hid (right_any v L w h hl)
  rw [hr] at HR
  clear hr
  go_enter Try.func22, Try.ntmps22
  go_wp2_with (go_at_call 14; refine HR.out.mono ?_; rintro e w1 ⟨rfl, rfl⟩)
  go_ret2
  exact ⟨rfl, rfl⟩
def LoopsT (G : List (List Nat)) (w : World) (e : Ending) (w' : World) : Prop := ∃ v, e = .returned (.tuple #[v, .int .i64 0]) ∧ LP w' w.heap.size v (loopsL G) ∧ Below w.heap.size w w'
set_option maxRecDepth 100000 in
set_option maxHeartbeats 4000000 in
theorem Loops_any (v : Value) (G : List (List Nat)) (F : Fine G) (w : World) (h : RdG w v (upp G)) (hr : rightB (upp G) = true) :
    Calls Try.prog 22 #[v] w (LoopsT G w) := by
  have HR := Lib.hid (right_any v (upp G) w h (by rw [upp_len]; have := F.n; omega))
  rw [hr] at HR
  have HO := Lib.hid (loops_any v G F w h)
  clear hr
  go_enter Try.func22, Try.ntmps22
  go_wp2_with (first
    | (go_at_call 14; refine HR.out.mono ?_; rintro e w1 ⟨rfl, rfl⟩)
    | (go_at_call 32; refine HO.out.mono ?_; rintro e w1 ⟨lv, rfl, ho, hb⟩))
  go_ret2
  exact ⟨lv, rfl, ho, hb⟩
end Go.Proofs.Ytcghekbbaeejaaa.gr
