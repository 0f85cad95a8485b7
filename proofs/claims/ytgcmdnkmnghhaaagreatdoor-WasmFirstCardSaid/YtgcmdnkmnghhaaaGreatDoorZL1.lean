/- Put together by program: WLaw. -/
import Derived.Test.YtgcmdnkmnghhaaaGreatDoorZ5
import Derived.Test.YtgcmdnkmnghhaaaGreatDoorZ1
import Derived.ProofKit
import Derived.LaidMore
import Derived.OpenShut
import Derived.SizedLaws
import Derived.Stop.Joined
import Derived.SevenTiedAt
import Derived.Test.YtgcmdnkmnghhaaaGreatDoorTie
import Derived.Test.YtgcmdnkmnghhaaaGreatDoorCards
/- From the condition that the package's table lies as its text lays it, and that a contract says 'true, and nothing old has turned', to a law's row and its tied card. -/
set_option linter.unusedVariables false
namespace Go.Proofs.YtgcmdnkmnghhaaaGreatDoor.nm
open Go.ChangeShapes Go.WideShapes Go.ChangeAt Go.RowKit

theorem gRuns : Tryz.prog.globalNamed "bellcrank/num.runs" = some 0 := by kernel_rfl
theorem tRuns : (Tryz.prog.globals[0]?).map (·.type) = some 278 := by kernel_rfl
theorem cellsRun : Tryz.prog.cellsOf 273 = 6 := by kernel_rfl
theorem add_lit (b o j : Nat) : (⟨b, o, none⟩ : Addr).add j = ⟨b, o + j, none⟩ := by unfold Addr.add; split <;> simp_all

theorem take_one {α : Type} {l : List α} {k : Nat} {v : α} (h : (l.drop k).take 1 = [v]) : l[k]? = some v := by
  have : ((l.drop k).take 1)[0]? = some v := by rw [h]; rfl
  rw [List.getElem?_take, if_pos (by decide), List.getElem?_drop] at this
  simpa using this

/-- a whole number that reads as n -/
theorem cell_int {H : Type} {enc : TypeId × Value → H} {W : World} {sp : Nat → Bool} {fuel : Nat} {t : TypeId} {q : IntKind} (ht : Tryz.prog.underlying t = some (.int q)) {l : List Value} {k : Nat} {x : DataW H × List MemPlace} {n : Int}
    (h : DataW.trod enc Tryz.prog W 0 sp false fuel t ((l.drop k).take 1) = some x) (hx : x.1 = .lit (.int q n)) : l[k]? = some (.int q n) := by
  obtain ⟨m, e1, e2, _⟩ := DataW.trod_int ht h
  rw [e2] at hx
  have : m = n := by simpa using hx
  subst this
  exact take_one e1

def aggR {H : Type} (r : Rn) : DataW H := .agg [.lit (.int .i64 r.first), .lit (.int .i64 r.last), .lit (.int .i64 r.like), .lit (.int .i64 r.of), .lit (.int .i64 r.takes), .lit (.int .i64 r.answers)]

set_option maxRecDepth 100000 in
theorem of_laid {W : World} (h : laidMetH Tryz.prog [("bellcrank/num.runs", Rows.laid_bellcrank_num_runs)] W) : Runs W := by
  rw [MakeChecks.laidMetH_plain _ _ _ (by kernel_rfl)] at h
  obtain ⟨ps, ⟨g1, t1, cs1, f1, p1, q1, hg1, ht1, hv1, hd1, _, _⟩, _, _⟩ := h
  obtain rfl := Option.some.inj (gRuns.symm.trans hg1)
  obtain rfl := Option.some.inj (tRuns.symm.trans ht1)
  rcases DataW.trod_slice Tryz.underlying278 hd1 with ⟨_, hx⟩ | ⟨a, len, cap, elems, rest, n, _, hcs, hx, _, hl, _, hlen, hel, _, _⟩
  · simp [Rows.laid_bellcrank_num_runs] at hx
  simp only [Prod.mk.injEq] at hx
  have hel1 : elems.map (·.1) = runsL.map aggR := by
    have := hx.1
    have e : (Rows.laid_bellcrank_num_runs : DataW Unit) = .slice (runsL.map aggR) [] := rfl
    rw [e] at this
    simp only [DataW.slice.injEq] at this
    exact this.1.symm
  have hl12 : len = 12 := by
    have := congrArg List.length hel1
    rw [List.length_map, List.length_map] at this
    rw [← hlen, this]; rfl
  subst hl12
  have hcell0 : W.cell? ⟨0, 0, none⟩ = some (.slice (some a) 12 cap) := by
    have := World.var?_cell hg1 hv1 0
    rw [this, ← Array.getElem?_toList, hcs]; rfl
  have key : ∀ i : Nat, i < 12 → ∀ j : Nat, j < 6 → W.cell? ((a.add (i * 6)).add j) = (cellsR (runsL.getD i zeroR))[j]? := by
    intro i hi j hj
    have h1 := hel i hi
    rw [cellsRun] at h1
    have hi' : i < elems.length := by omega
    rw [List.getElem?_eq_getElem hi'] at h1
    obtain ⟨cs', hc1, hc2⟩ := Option.bind_eq_some_iff.1 h1
    obtain ⟨hn, hc3⟩ := World.cells?_some hc1
    have he : elems[i].1 = aggR (runsL.getD i zeroR) := by
      have h2 := congrArg (fun l => l[i]?) hel1
      simp only [List.getElem?_map] at h2
      have hi2 : i < runsL.length := hi
      rw [List.getElem?_eq_getElem hi', List.getElem?_eq_getElem hi2] at h2
      rw [List.getD_eq_getElem?_getD, List.getElem?_eq_getElem hi2]
      simpa using h2
    obtain ⟨xs, m, _, hx2, _, hxl, hxf⟩ := DataW.trod_struct Tryz.underlying273 hc2
    rw [hx2] at he
    have hxs : xs.map (·.1) = [.lit (.int .i64 (runsL.getD i zeroR).first), .lit (.int .i64 (runsL.getD i zeroR).last), .lit (.int .i64 (runsL.getD i zeroR).like), .lit (.int .i64 (runsL.getD i zeroR).of), .lit (.int .i64 (runsL.getD i zeroR).takes), .lit (.int .i64 (runsL.getD i zeroR).answers)] := by
      simpa [aggR] using he
    generalize runsL.getD i zeroR = r at hxs ⊢
    rw [hc3.2 j hj]
    have hx6 : xs.length = 6 := hxl
    match xs, hx6, hxs, hxf with
    | [x0, x1, x2, x3, x4, x5], _, hxs, hxf =>
      simp only [List.map_cons, List.map_nil, List.cons.injEq, and_true] at hxs
      obtain ⟨e0, e1, e2, e3, e4, e5⟩ := hxs
      have k0 := cell_int Tryz.underlying3 (hxf 0 _ rfl) e0
      have k1 := cell_int Tryz.underlying3 (hxf 1 _ rfl) e1
      have k2 := cell_int Tryz.underlying3 (hxf 2 _ rfl) e2
      have k3 := cell_int Tryz.underlying3 (hxf 3 _ rfl) e3
      have k4 := cell_int Tryz.underlying3 (hxf 4 _ rfl) e4
      have k5 := cell_int Tryz.underlying3 (hxf 5 _ rfl) e5
      match j, hj with
      | 0, _ => exact k0
      | 1, _ => exact k1
      | 2, _ => exact k2
      | 3, _ => exact k3
      | 4, _ => exact k4
      | 5, _ => exact k5
  obtain ⟨b, off, spot⟩ := a
  have hspot : spot = none := by
    have := key 0 (by decide) 0 (by decide)
    have h2 := World.cell?_spot (this.trans (show _ = some (Value.int .i64 69) from rfl))
    simpa [Addr.add] using h2
  subst hspot
  refine ⟨b, off, cap, hcell0, fun i hi j hj => ?_⟩
  have := key i hi j hj
  rw [add_lit, add_lit] at this
  exact this

theorem own : ownKnob Tryz.prog.godebug = none := by kernel_rfl
theorem laidOut : laidOutB Tryz.prog = true := by kernel_rfl

/-- what each row lists -/
def laidL : List (String × DataW Unit) := [("bellcrank/num.runs", Rows.laid_bellcrank_num_runs)]

set_option maxRecDepth 100000 in
/-- the heap that the program's own start leaves meets the condition -/
theorem door_met (os : Os) (args : Array Value) : laidMetH Tryz.prog laidL ((World.doorLaid Tryz.prog 31 os).forCall (fun _ _ => 0) ⟨#[], args, []⟩).memory :=
  laidMetH_of_parts3 (fuel := 8) (laidMet_of_run' 8 (by kernel_rfl) (by kernel_rfl)) (by kernel_rfl) (by kernel_rfl)

theorem trodAll_below {H : Type} {enc : TypeId × Value → H} {W W' : World} (hb : Below W.heap.size W W') : ∀ {ts : List TypeId} {vs : List Value} {ds : List (DataW H)} {ps : List MemPlace},
    (∀ t ∈ ts, Tryz.prog.readableRec t = true ∧ t < Tryz.prog.types.size) → DataW.TrodAll enc Tryz.prog W 0 (fun _ => true) true ts vs ds ps → (∀ x ∈ ps, x.block < W.heap.size) →
    DataW.TrodAll enc Tryz.prog W' 0 (fun b => decide (b < W.heap.size)) true ts vs ds ps
  | [], vs, ds, ps, _, h, _ => by
    obtain ⟨rfl, rfl, rfl⟩ := trodAll_nil h
    exact trodAll_mk0
  | t :: ts, vs, ds, ps, ht, h, hlt => by
    obtain ⟨v0, vs0, d0, ds0, p0, q0, rfl, rfl, rfl, h0, r0⟩ := trodAll_cons h
    refine trodAll_cons_mk (Below.trod laidOut (ht t (List.mem_cons_self ..)).1 (ht t (List.mem_cons_self ..)).2 h0 hb (fun x hx => hlt x (List.mem_append_left _ hx)))
      (trodAll_below hb (fun t' h' => ht t' (List.mem_cons_of_mem _ h')) r0 (fun x hx => hlt x (List.mem_append_right _ hx)))

set_option maxRecDepth 100000 in
/-- the row's post, of a law that answers true and leaves what was there -/
theorem law_done {H : Type} {enc : TypeId × Value → H} {F : Func} {s : ChangeSpec} {W W' : World} {args : Array Value} {ds : List (DataW H)} {before : List MemPlace}
    (hres : F.resultTypes = #[4]) (hvars : s.vars = []) (hts : ∀ t ∈ F.params.toList, Tryz.prog.readableRec t = true ∧ t < Tryz.prog.types.size)
    (hW : DataW.Whole enc Tryz.prog F.params.toList s.vars false W args.toList ds [] before)
    (h1 : (s.fn H (ds ++ [])).results = [.lit (.bool true)]) (h2 : (s.fn H (ds ++ [])).args = ds) (h3 : (s.fn H (ds ++ [])).vars = []) (hb : Below W.heap.size W W') :
    s.post enc Tryz.prog F false true false false W args (.bool true) W' := by
  have hlt : ∀ x ∈ before, x.block < W.heap.size := fun x hx => by simpa using hW.lt x hx
  have hW' := hW
  obtain ⟨p, q, hA, hV, rfl, _, _⟩ := hW'
  refine ⟨ds, [], p ++ q, [], p, [], hW, ?_, ?_, ?_, hb.frame _, fun h => by cases h⟩
  · rw [h1, hres]; exact trodAll_mk1 (shut_bool Tryz.underlying4 true)
  · rw [h2]; exact trodAll_below hb hts hA (fun x hx => hlt x (List.mem_append_left _ hx))
  · rw [h3, hvars]; rfl


theorem cells5 : Tryz.prog.cellsOf 5 = 1 := by kernel_rfl
theorem bytes5 : Tryz.prog.bytesOf 5 = 1 := by kernel_rfl
set_option maxRecDepth 100000 in
/-- bytes that came in -/
theorem open_bytes {H : Type} {enc : TypeId × Value → H} {W : World} {base : Nat} {v : Value} {d : DataW H} {p : List MemPlace}
    (hv : Value.okWide Tryz.prog W .any base 22 v) (h : DataW.Trod enc Tryz.prog W 0 (fun _ => true) true 22 v d p)
    (hw : ∀ elems spare, d = .slice elems spare → (elems.length + spare.length) * Tryz.prog.bytesOf 5 ≤ reachBytes) :
    ∃ l : List Int, lb.Rd W v l ∧ (∀ x ∈ l, 0 ≤ x ∧ x < 256) ∧ l.length ≤ 140737488351232 ∧ (d = .nil ∧ l = [] ∨ ∃ spare, d = .slice (lits .u8 l) spare) := by
  obtain ⟨a0, len, cap, rfl⟩ := okWide_slice Tryz.underlying22 hv
  obtain ⟨fuel, hf⟩ := h
  rcases open_ints Tryz.underlying22 Tryz.underlying5 cells5 hf with ⟨hcs, hx⟩ | ⟨a, len', cap', zs, hcs, _, hl, hm, hz, hx, hcell, hwz⟩
  · simp [Value.cells] at hcs
    obtain ⟨rfl, rfl, rfl⟩ := hcs
    simp only [Prod.mk.injEq] at hx
    obtain ⟨rfl, rfl⟩ := hx
    exact ⟨[], lb.Rd.nil W, by simp, by simp, .inl ⟨rfl, rfl⟩⟩
  · simp [Value.cells] at hcs
    obtain ⟨rfl, rfl, rfl⟩ := hcs
    simp only [Prod.mk.injEq] at hx
    obtain ⟨rfl, rfl⟩ := hx
    simp only [if_true] at hz
    have hreach : len ≤ 140737488351232 := by
      have := hw _ _ rfl
      rw [bytes5] at this
      simp only [lits, List.length_map, List.length_take, List.length_drop, reachBytes] at this
      omega
    have hlen : (zs.take len).length = len := by rw [List.length_take]; omega
    refine ⟨zs.take len, ⟨some a, cap, by rw [hlen], by omega, (fun h => by cases h), ?_⟩, ?_, by omega, .inr ⟨_, rfl⟩⟩
    · by_cases h0 : len = 0
      · left; subst h0; simp
      · right
        obtain ⟨b, off, spot⟩ := a
        have hspot : spot = none := by simpa [Addr.add] using World.cell?_spot (hcell 0 (by omega))
        subst hspot
        refine ⟨b, off, rfl, fun k hk => ?_⟩
        rw [hlen] at hk
        have := hcell k (by omega)
        rw [nm.add_lit] at this
        rw [this, List.getD_eq_getElem?_getD, List.getD_eq_getElem?_getD, List.getElem?_take, if_pos hk]
    · intro x hx
      have := hwz x (List.mem_of_mem_take hx)
      simp [Lit.wf, IntKind.min, IntKind.max, IntKind.signed, IntKind.bits] at this
      omega

end Go.Proofs.YtgcmdnkmnghhaaaGreatDoor.nm
