/- A Try, and an array of two numbers, that came in. -/
import Derived.Test.YtmknjiefdhhgkaaLaw
import Derived.Lib.SmallJoins
namespace Go.Proofs.Ytmknjiefdhhgkaa.mm
open Go.ChangeShapes Go.WideShapes Go.ChangeAt Go.RowKit
set_option linter.unusedVariables false

theorem cells_try : Try.prog.cellsOf 31 = 4 := by kernel_rfl
theorem open_try {H : Type} {enc : TypeId × Value → H} {W : World} {base : Nat} {v : Value} {d : DataW H} {p : List MemPlace}
    (hv : Value.okWide Try.prog W .any base 31 v) (h : DataW.Trod enc Try.prog W 0 (fun _ => true) true 31 v d p) :
    ∃ o a f n : Int, v = .agg #[.int .i64 o, .int .u64 a, .int .u64 f, .int .u64 n] ∧ (-9223372036854775808 ≤ o ∧ o < 9223372036854775808) ∧ (0 ≤ a ∧ a < 18446744073709551616) ∧ (0 ≤ f ∧ f < 18446744073709551616) ∧ (0 ≤ n ∧ n < 18446744073709551616) := by
  obtain ⟨c0, c1, c2, c3, y0, y1, y2, y3, m, rfl, rfl, rfl, h0, h1, h2, h3⟩ := Go.Joins.open_agg4 Try.underlying31 (by kernel_rfl) cells_try hv h
  obtain ⟨o, eo, rfl, wo⟩ := DataW.trod_int Try.underlying3 h0
  obtain ⟨a, ea, rfl, wa⟩ := DataW.trod_int Try.underlying23 h1
  obtain ⟨f, ef, rfl, wf⟩ := DataW.trod_int Try.underlying23 h2
  obtain ⟨n, en, rfl, wn⟩ := DataW.trod_int Try.underlying23 h3
  simp only [List.cons.injEq, and_true] at eo ea ef en
  subst eo ea ef en
  simp [Lit.wf, IntKind.min, IntKind.max, IntKind.signed, IntKind.bits] at wo wa wf wn
  exact ⟨o, a, f, n, rfl, by omega, by omega, by omega, by omega⟩

theorem trod_array2 {H : Type} {enc : TypeId × Value → H} {P : Program} {w : World} {base : Nat} {spare : Nat → Bool} {held : Bool} {t e : TypeId} {fuel : Nat} {c0 c1 : Value} {x : DataW H × List MemPlace} (ht : P.underlying t = some (.array 2 e)) (hce : P.cellsOf e = 1)
    (h : DataW.trod enc P w base spare held fuel t [c0, c1] = some x) :
    ∃ y0 y1 n, x = (.agg [y0.1, y1.1], y0.2 ++ y1.2) ∧ DataW.trod enc P w base spare held n e [c0] = some y0 ∧ DataW.trod enc P w base spare held n e [c1] = some y1 := by
  cases fuel with
  | zero => simp [DataW.trod] at h
  | succ n =>
    unfold DataW.trod at h
    rw [ht] at h
    have r2 : List.range 2 = [0, 1] := rfl
    simp [r2, hce] at h
    obtain ⟨_, h⟩ := h
    cases h0 : DataW.trod enc P w base spare held n e [c0] with
    | none => simp [h0] at h
    | some y0 =>
      cases h1 : DataW.trod enc P w base spare held n e [c1] with
      | none => simp [h0, h1] at h
      | some y1 =>
        simp [h0, h1] at h
        exact ⟨y0, y1, n, h.symm, h0, h1⟩
theorem cells_two : Try.prog.cellsOf 24 = 2 := by kernel_rfl
theorem cells_u64 : Try.prog.cellsOf 23 = 1 := by kernel_rfl
theorem open_two {H : Type} {enc : TypeId × Value → H} {W : World} {base : Nat} {v : Value} {d : DataW H} {p : List MemPlace}
    (hv : Value.okWide Try.prog W .any base 24 v) (h : DataW.Trod enc Try.prog W 0 (fun _ => true) true 24 v d p) :
    ∃ a b : Int, v = .agg #[.int .u64 a, .int .u64 b] ∧ (0 ≤ a ∧ a < 18446744073709551616) ∧ (0 ≤ b ∧ b < 18446744073709551616) := by
  simp only [Value.okWide, Try.underlying24] at hv
  obtain ⟨cs, rfl, hn, _⟩ := hv
  obtain ⟨c0, c1, rfl⟩ := Go.Joins.array2 (hn.trans cells_two)
  obtain ⟨fuel, hf⟩ := h
  obtain ⟨y0, y1, m, hx, h0, h1⟩ := trod_array2 Try.underlying24 cells_u64 hf
  obtain ⟨a, ea, rfl, wa⟩ := DataW.trod_int Try.underlying23 h0
  obtain ⟨b, eb, rfl, wb⟩ := DataW.trod_int Try.underlying23 h1
  simp only [List.cons.injEq, and_true] at ea eb
  subst ea eb
  simp [Lit.wf, IntKind.min, IntKind.max, IntKind.signed, IntKind.bits] at wa wb
  exact ⟨a, b, rfl, by omega, by omega⟩

/-- a block of the call's own holds a Try -/
def TBox (w : World) (g : Nat) (o a f n : Int) : Prop := w.heap[g]? = some (.cells #[.int .i64 o, .int .u64 a, .int .u64 f, .int .u64 n] 31 (0, 0))
theorem TBox.new (w : World) (o a f n : Int) : TBox (w.alloc (.cells #[.int .i64 o, .int .u64 a, .int .u64 f, .int .u64 n] 31)) w.heap.size o a f n := heap_alloc_new w _
theorem TBox.lt {w : World} {g : Nat} {o a f n : Int} (h : TBox w g o a f n) : g < w.heap.size := (Array.getElem?_eq_some_iff.1 h).1
theorem TBox.lift {w w' : World} {g : Nat} {o a f n : Int} (h : TBox w g o a f n) (hb : Below w.heap.size w w') : TBox w' g o a f n := (hb.block g h.lt).trans h
theorem TBox.cells {w : World} {g : Nat} {o a f n : Int} (h : TBox w g o a f n) : w.cell? ⟨g, 0, none⟩ = some (.int .i64 o) ∧ w.cell? ⟨g, 1, none⟩ = some (.int .u64 a) ∧ w.cell? ⟨g, 2, none⟩ = some (.int .u64 f) ∧ w.cell? ⟨g, 3, none⟩ = some (.int .u64 n) := by
  unfold TBox at h
  simp [World.cell?, h]
end Go.Proofs.Ytmknjiefdhhgkaa.mm
