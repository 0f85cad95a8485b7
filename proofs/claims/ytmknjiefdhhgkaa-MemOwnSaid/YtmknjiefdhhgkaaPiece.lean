/- The contracts of an access' piece, and of the range over a number's bytes from the last one on. -/
import Derived.Test.YtmknjiefdhhgkaaIn
import Derived.RangeFuncNested
import Derived.RangeFuncBound
import Derived.RangeFuncCalls
import Derived.RangeFuncLeaves
import Derived.RangeFuncBox
import Derived.Shelf.Abstract
import Derived.Shelf.RegionOpen
import Derived.OwnWalkIn
import Derived.TacticsInMore
import Derived.LoopNIn
import Derived.LoopIn
set_option linter.unusedVariables false
namespace Go.Proofs.Ytmknjiefdhhgkaa.mm
open Go.RowKit Go.Shelf

theorem piece_any (A : Acc) (b o n cap p : Nat) (a f : Int) (w : World) (hp : a + f = p) (a0 : 0 ≤ a) (f0 : 0 ≤ f) (hfit : p + A.width ≤ n) (h1 : 1 ≤ A.width) (hc : n ≤ cap) (hn : n ≤ 140737488355328) :
    Calls Try.prog 25 #[aggV A, .slice (some ⟨b, o, none⟩) n cap, .int .u64 a, .int .u64 f] w fun r w' => r = .returned (.slice (some ⟨b, o + p, none⟩) A.width (cap - p)) ∧ Below w.heap.size w w' := by
  obtain ⟨k, wd, st, sg⟩ := A
  unfold aggV
  simp only at hfit h1 ⊢
  have hs : IntKind.u64.wrap (a + f) = (p : Int) := by rw [IntKind.wrap_u64]; omega
  have Hp := Lib.hid hp
  have q1 : a + f ≤ n := by omega
  have q2 : (0:Int) ≤ p := by omega
  have q3 : (p : Int).toNat = p := Int.toNat_natCast p
  clear hp
  go_enter Try.func25, Try.ntmps25
  go_wp2
  go_quiet (fail)
  go_wp2
  go_ret
  exact ⟨rfl, (made_below _ _).trans (belowN _ nq)⟩

attribute [local go_sem] Oper.semAt_some

set_option maxRecDepth 100000 in
set_option maxHeartbeats 2000000 in
theorem back1_in (F : Fence) (n : Nat) (h38 : F.fn 38) (hro : F.round = none) (hn : 1 ≤ n) (l Bs k cap : Nat) (ao : Option Addr) (hk : k ≤ 8) (J Jx : List (Fin k) → World → Prop)
    (hY : ∀ pre x W, J pre W → pre.length < k → YieldAt F (n - 1) Try.prog l #[.int .i64 (x.val : Int)] W fun e W' =>
      (e = .returned (.bool true) ∧ J (pre ++ [x]) W' ∧ True) ∨ (e = .returned (.bool false) ∧ Jx (pre ++ [x]) W'))
    (W : World) (hBs : W.cell? ⟨Bs, 0, none⟩ = some (.slice ao k cap)) (h0 : J [] W) :
    CallsIn F n Try.prog 38 #[.func (.yield l) #[] #[], .pointer (some ⟨Bs, 0, none⟩)] W fun e W' => (∃ v, e = .returned v) ∧
      ((∃ ys : List (Fin k), ys.map (fun x => x.val) = down k k ∧ J ys W') ∨ (∃ pre, True ∧ Jx pre W')) := by
  refine callsIn_of_wp Try.func38 rfl h38 ?_ hro
  simp only [Try.ntmps38, List.size_toArray, List.length_cons, List.length_nil, Nat.reduceAdd, Nat.reduceSub, Array.replicate_succ, Array.replicate_zero, List.push_toArray, List.append_toArray, List.nil_append, List.cons_append]
  gi_wp2
  gi_loopw [3] (fun i wr => ∃ (q : Nat) (pre : List (Fin k)) (z : Int), i = .int .i64 z ∧ z = (k : Int) - 1 - q ∧ q ≤ k ∧ pre.map (fun x => x.val) = down k q ∧ J pre wr)
    (fun i _ => (intOf i + 1).toNat)
  case atStart => exact ⟨0, [], _, rfl, by omega, Nat.zero_le _, rfl, h0⟩
  case round =>
    obtain ⟨q, pre, z, rfl, hz, hq, hp, hJ⟩ := hrel
    have Hp := Lib.hid hp
    have hpl : pre.length = q := by have := congrArg List.length hp; rw [List.length_map, down_length] at this; exact this
    clear hp
    by_cases hlt : q < k
    · obtain ⟨j, hj⟩ : ∃ j : Nat, z = j := ⟨z.toNat, by omega⟩
      subst hj
      have hjk : j < k := by omega
      obtain ⟨fn, tmps, assign, body, hy, hR⟩ := hY pre ⟨j, hjk⟩ wr hJ (by omega)
      dsimp only at hy
      have Hz := Lib.hid hz
      clear hz hpl
      gi_wp2
      refine hR.mono ?_
      rintro e W3 (⟨rfl, hJ3, _⟩ | ⟨rfl, hJx3⟩)
      · gi_wp2
        go_roundw
        case rel => exact ⟨q + 1, pre ++ [⟨j, hjk⟩], _, rfl, by have := Hz.out; omega, by omega, by rw [List.map_append, Hp.out, down]; have := Hz.out; simp; omega, hJ3⟩
        case measure => simp [intOf]
      · gi_wp2
        refine bodyPost_ret (results_none rfl _ _ _) rfl ?_
        exact ⟨⟨_, rfl⟩, .inr ⟨_, trivial, hJx3⟩⟩
    · obtain rfl : q = k := by omega
      obtain rfl : z = -1 := by omega
      gi_wp2
      go_end0
      exact ⟨⟨_, rfl⟩, .inl ⟨pre, Hp.out, hJ⟩⟩

set_option maxHeartbeats 1000000 in
theorem backward_in (F : Fence) (n : Nat) (h34 : F.fn 34) (hro : F.round = none) (a : Option Addr) (len cap : Nat) (w : World) :
    CallsIn F n Try.prog 34 #[.slice a len cap] w fun e w' => e = .returned (.func (.func 38) #[] #[.pointer (some ⟨w.heap.size, 0, none⟩)]) ∧ w' = w.alloc (.cells #[.slice a len cap] 22) := by
  refine callsIn_of_wp Try.func34 rfl h34 ?_ hro
  simp only [Try.ntmps34, List.size_toArray, List.length_cons, List.length_nil, Nat.reduceAdd, Nat.reduceSub, Array.replicate_succ, Array.replicate_zero, List.push_toArray, List.append_toArray, List.nil_append, List.cons_append]
  gi_wp2
  go_ret
  exact ⟨rfl, rfl⟩

theorem back_stops (F : Fence) (n : Nat) (h38 : F.fn 38) (hro : F.round = none) (hn : 1 ≤ n) (Bs k cap : Nat) (ao : Option Addr) (hk : k ≤ 8) (w : World) (hBs : Bs < w.heap.size) (hc : w.cell? ⟨Bs, 0, none⟩ = some (.slice ao k cap)) :
    SeqStopsK F n Try.prog 38 #[.pointer (some ⟨Bs, 0, none⟩)] (fun x : Fin k => #[Value.int .i64 (x.val : Int)]) (fun _ _ => True) (fun ys => ys.map (fun x => x.val) = down k k) (fun _ => True) k w := fun l J Jx W hW _ _ hY h0 =>
  back1_in F n h38 hro hn l Bs k cap ao hk J Jx hY W ((hW.cell (p := ⟨Bs, 0, none⟩) hBs).trans hc) h0
end Go.Proofs.Ytmknjiefdhhgkaa.mm
