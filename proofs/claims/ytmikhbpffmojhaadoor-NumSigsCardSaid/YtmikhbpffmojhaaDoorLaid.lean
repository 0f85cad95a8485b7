/- From the condition that the program's two tables lie as its text lays them to what the walks ask of the world. -/
import Derived.Test.YtmikhbpffmojhaaDoorAlive
import Derived.ProofKit
import Derived.LaidMore
import Derived.OpenShut
set_option linter.unusedVariables false
namespace Go.Proofs.YtmikhbpffmojhaaDoor.nm
open Go.ChangeShapes Go.WideShapes Go.ChangeAt Go.RowKit

theorem gTab : Tryd.prog.globalNamed "math/bits.deBruijn64tab" = some 1 := by kernel_rfl
theorem gRuns : Tryd.prog.globalNamed "bellcrank/num.runs" = some 0 := by kernel_rfl
theorem tTab : (Tryd.prog.globals[1]?).map (·.type) = some 82 := by kernel_rfl
theorem tRuns : (Tryd.prog.globals[0]?).map (·.type) = some 48 := by kernel_rfl
theorem cellsU8 : Tryd.prog.cellsOf 5 = 1 := by kernel_rfl
theorem cellsInt : Tryd.prog.cellsOf 3 = 1 := by kernel_rfl
theorem cellsRun : Tryd.prog.cellsOf 43 = 6 := by kernel_rfl

theorem add_lit (b o j : Nat) : (⟨b, o, none⟩ : Addr).add j = ⟨b, o + j, none⟩ := by unfold Addr.add; split <;> simp_all

theorem take_one {α : Type} {l : List α} {k : Nat} {v : α} (h : (l.drop k).take 1 = [v]) : l[k]? = some v := by
  have : ((l.drop k).take 1)[0]? = some v := by rw [h]; rfl
  rw [List.getElem?_take, if_pos (by decide), List.getElem?_drop] at this
  simpa using this

/-- a whole number that reads as n -/
theorem cell_int {H : Type} {enc : TypeId × Value → H} {W : World} {sp : Nat → Bool} {fuel : Nat} {t : TypeId} {q : IntKind} (ht : Tryd.prog.underlying t = some (.int q)) {l : List Value} {k : Nat} {x : DataW H × List MemPlace} {n : Int}
    (h : DataW.trod enc Tryd.prog W 0 sp false fuel t ((l.drop k).take 1) = some x) (hx : x.1 = .lit (.int q n)) : l[k]? = some (.int q n) := by
  obtain ⟨m, e1, e2, _⟩ := DataW.trod_int ht h
  rw [e2] at hx
  have : m = n := by simpa using hx
  subst this
  exact take_one e1

def aggR {H : Type} (r : Rn) : DataW H := .agg [.lit (.int .i64 r.first), .lit (.int .i64 r.last), .lit (.int .i64 r.like), .lit (.int .i64 r.of), .lit (.int .i64 r.takes), .lit (.int .i64 r.answers)]

theorem of_laid {W : World} (h : laidMetH Tryd.prog [("math/bits.deBruijn64tab", Rows.laid_math_bits_deBruijn64tab), ("bellcrank/num.runs", Rows.laid_bellcrank_num_runs)] W) : Laid W := by
  rw [MakeChecks.laidMetH_plain _ _ _ (by kernel_rfl)] at h
  obtain ⟨ps, ⟨g0, t0, cs0, f0, p0, q0, hg0, ht0, hv0, hd0, ⟨g1, t1, cs1, f1, p1, q1, hg1, ht1, hv1, hd1, _, _⟩, _⟩, _, _⟩ := h
  obtain rfl := Option.some.inj (gTab.symm.trans hg0)
  obtain rfl := Option.some.inj (gRuns.symm.trans hg1)
  obtain rfl := Option.some.inj (tTab.symm.trans ht0)
  obtain rfl := Option.some.inj (tRuns.symm.trans ht1)
  constructor
  · rcases DataW.trod_slice Tryd.underlying48 hd1 with ⟨_, hx⟩ | ⟨a, len, cap, elems, rest, n, _, hcs, hx, _, hl, _, hlen, hel, _, _⟩
    · simp [Rows.laid_bellcrank_num_runs] at hx
    simp only [Prod.mk.injEq] at hx
    have hel1 : elems.map (·.1) = runsL.map aggR := by
      have := hx.1
      have e : (Rows.laid_bellcrank_num_runs : DataW Unit) = .slice (runsL.map aggR) [] := rfl
      rw [e] at this
      simp only [DataW.slice.injEq] at this
      exact this.1.symm
    have hl12 : len = 12 := by
      have := congrArg List.length hel1
      rw [List.length_map, List.length_map] at this
      rw [← hlen, this]; rfl
    subst hl12
    have hcell0 : W.cell? ⟨0, 0, none⟩ = some (.slice (some a) 12 cap) := by
      have := World.var?_cell hg1 hv1 0
      rw [this, ← Array.getElem?_toList, hcs]; rfl
    have key : ∀ i : Nat, i < 12 → ∀ j : Nat, j < 6 → W.cell? ((a.add (i * 6)).add j) = (cellsR (runsL.getD i zeroR))[j]? := by
      intro i hi j hj
      have h1 := hel i hi
      rw [cellsRun] at h1
      have hi' : i < elems.length := by omega
      rw [List.getElem?_eq_getElem hi'] at h1
      obtain ⟨cs', hc1, hc2⟩ := Option.bind_eq_some_iff.1 h1
      obtain ⟨hn, hc3⟩ := World.cells?_some hc1
      have he : elems[i].1 = aggR (runsL.getD i zeroR) := by
        have h2 := congrArg (fun l => l[i]?) hel1
        simp only [List.getElem?_map] at h2
        have hi2 : i < runsL.length := hi
        rw [List.getElem?_eq_getElem hi', List.getElem?_eq_getElem hi2] at h2
        rw [List.getD_eq_getElem?_getD, List.getElem?_eq_getElem hi2]
        simpa using h2
      obtain ⟨xs, m, _, hx2, _, hxl, hxf⟩ := DataW.trod_struct Tryd.underlying43 hc2
      rw [hx2] at he
      have hxs : xs.map (·.1) = [.lit (.int .i64 (runsL.getD i zeroR).first), .lit (.int .i64 (runsL.getD i zeroR).last), .lit (.int .i64 (runsL.getD i zeroR).like), .lit (.int .i64 (runsL.getD i zeroR).of), .lit (.int .i64 (runsL.getD i zeroR).takes), .lit (.int .i64 (runsL.getD i zeroR).answers)] := by
        simpa [aggR] using he
      generalize runsL.getD i zeroR = r at hxs ⊢
      rw [hc3.2 j hj]
      have hx6 : xs.length = 6 := hxl
      match xs, hx6, hxs, hxf with
      | [x0, x1, x2, x3, x4, x5], _, hxs, hxf =>
        simp only [List.map_cons, List.map_nil, List.cons.injEq, and_true] at hxs
        obtain ⟨e0, e1, e2, e3, e4, e5⟩ := hxs
        have k0 := cell_int Tryd.underlying3 (hxf 0 _ rfl) e0
        have k1 := cell_int Tryd.underlying3 (hxf 1 _ rfl) e1
        have k2 := cell_int Tryd.underlying3 (hxf 2 _ rfl) e2
        have k3 := cell_int Tryd.underlying3 (hxf 3 _ rfl) e3
        have k4 := cell_int Tryd.underlying3 (hxf 4 _ rfl) e4
        have k5 := cell_int Tryd.underlying3 (hxf 5 _ rfl) e5
        match j, hj with
        | 0, _ => exact k0
        | 1, _ => exact k1
        | 2, _ => exact k2
        | 3, _ => exact k3
        | 4, _ => exact k4
        | 5, _ => exact k5
    obtain ⟨b, off, spot⟩ := a
    have hspot : spot = none := by
      have := key 0 (by decide) 0 (by decide)
      have h2 := World.cell?_spot (this.trans (show _ = some (Value.int .i64 69) from rfl))
      simpa [Addr.add] using h2
    subst hspot
    refine ⟨b, off, cap, hcell0, fun i hi j hj => ?_⟩
    have := key i hi j hj
    rw [add_lit, add_lit] at this
    exact this
  · intro k hk
    obtain ⟨xs, m, _, hx1, _, hlen, hel⟩ := DataW.trod_array Tryd.underlying82 hd0
    have h1 := hel k hk
    rw [cellsU8, Nat.mul_one] at h1
    have hxs : xs.map (·.1) = tabL.map (fun n => .lit (.int .u8 n)) := by
      have := congrArg Prod.fst hx1
      have e : (Rows.laid_math_bits_deBruijn64tab : DataW Unit) = .agg (tabL.map (fun n => .lit (.int .u8 n))) := rfl
      simp only [e, DataW.agg.injEq] at this
      exact this.symm
    have hi' : k < xs.length := by omega
    have hi2 : k < tabL.length := hk
    rw [List.getElem?_eq_getElem hi'] at h1
    have h2 := congrArg (fun l => l[k]?) hxs
    simp only [List.getElem?_map] at h2
    rw [List.getElem?_eq_getElem hi', List.getElem?_eq_getElem hi2] at h2
    have h3 : xs[k].1 = .lit (.int .u8 (tabL.getD k 0)) := by
      rw [List.getD_eq_getElem?_getD, List.getElem?_eq_getElem hi2]
      simpa using h2
    have := cell_int Tryd.underlying5 h1 h3
    rw [World.var?_cell hg0 hv0 k, ← Array.getElem?_toList]
    exact this

end Go.Proofs.YtmikhbpffmojhaaDoor.nm
