/- The contract of mem.write: the low bytes of a number laid into a piece of a row of the call's own. -/
import Derived.Test.YtmknjiefdhhgkaaRead
import Derived.IntWalk
set_option linter.unusedVariables false
namespace Go.Proofs.Ytmknjiefdhhgkaa.mm
open Go.RowKit Go.Shelf

attribute [local go_sem] Oper.semAt_some

theorem grownBy_setCell_at (W : World) (b j : Nat) (v : Value) : W.grownBy (W.setCell ⟨b, j, none⟩ v) (some b) :=
  ⟨rfl, rfl, rfl, (KeepsWalks.setCell W _ v).size, fun k _ hk => Below.heap_setCell _ _ _ k (fun e => hk (by rw [e]))⟩
theorem _root_.Go.Boxed.other' {W : World} {B B' : Nat} {t : TypeId} {v : Value} (h : Boxed W B t v) (hne : B ≠ B') (j : Nat) (u : Value) : Boxed (W.setCell ⟨B', j, none⟩ u) B t v := h.kept (grownBy_setCell_at W B' j u) (fun e => hne (by cases e; rfl))
theorem own_own {β : Type} (B : Nat) (v : Value) (f : β → List Int) : Go.Own (fun s W => Own W B v (f s)) := by
  intro s X Y row hr hg hrow
  refine World.ownsRow.kept hr hg ?_
  rcases hr.2 with ⟨rfl, _⟩ | ⟨g, cap, cur, rfl, _, hgb, _⟩
  · exact .inl rfl
  · refine .inr fun e' => ?_
    obtain ⟨o, ho, hc⟩ := hrow g (by simpa [Value.ownBlock] using e'.symm)
    rw [hgb] at ho; cases ho; cases hc

set_option maxRecDepth 100000 in
set_option maxHeartbeats 2000000 in
theorem write_any (B b o cap L capL k : Nat) (xs : List Int) (n : Int) (w : World) (hown : Own w B (.slice (some ⟨b, 0, none⟩) L capL) xs) (hL : xs.length = L) (hk : o + k ≤ L) (hLm : L ≤ 140737488355328) (h8 : 1 ≤ k ∧ k ≤ 8) (hB : B ≤ w.heap.size) (n0 : 0 ≤ n) (n1 : n < 18446744073709551616) :
    Calls Try.prog 29 #[.slice (some ⟨b, o, none⟩) k cap, .int .u64 n] w fun e w' => (∃ v, e = .returned v) ∧ Own w' B (.slice (some ⟨b, 0, none⟩) L capL) (wrB xs o k n) ∧ Below B w w' := by
  have hbw := hown.lt b rfl
  have Hk := Lib.hid hk
  have HL := Lib.hid hL
  have H8 := Lib.hid h8
  have h8' := h8.2
  clear hk hL h8
  have Hown := Lib.hid hown
  clear hown
  refine (callsIn_wide (n := 3)).1 ?_
  refine callsIn_of_wp_marks Try.func29 rfl trivial ?_ rfl
  simp only [Try.ntmps29, List.size_toArray, List.length_cons, List.length_nil, Nat.reduceAdd, Nat.reduceSub, Array.replicate_succ, Array.replicate_zero, List.push_toArray, List.append_toArray, List.nil_append, List.cons_append]
  gi_wp2_with (refine ⟨trivial, ?_⟩; gi_at_call 34; refine (backward_in Fence.wide _ trivial rfl _ _ _ _).mono ?_; rintro e w' ⟨rfl, rfl⟩)
  have bP := Boxed.new w 22 (.slice (some ⟨b, o, none⟩) k cap)
  have bN := Boxed.new (w.alloc (.cells #[.slice (some ⟨b, o, none⟩) k cap] 22)) 23 (.int .u64 n)
  have bQ := Boxed.new ((w.alloc (.cells #[.slice (some ⟨b, o, none⟩) k cap] 22)).alloc (.cells #[.int .u64 n] 23)) 22 (.slice (some ⟨b, o, none⟩) k cap)
  simp only [World.size_alloc] at bP bN bQ
  have B2 : Below B w (((w.alloc (.cells #[.slice (some ⟨b, o, none⟩) k cap] 22)).alloc (.cells #[.int .u64 n] 23)).alloc (.cells #[.slice (some ⟨b, o, none⟩) k cap] 22)) := (((Below.refl B w).alloc hB _).alloc (by simp; omega) _).alloc (by simp; omega) _
  refine wpIn_rangeFunc_ownG rfl (by omega) (gf := 38) (lb := #[.pointer (some ⟨w.heap.size + 1 + 1, 0, none⟩)]) rfl trivial (enters_of Try.func38 (by kernel_rfl) rfl)
    (back_stops Fence.wide _ trivial rfl (by omega) (w.heap.size + 1 + 1) k cap _ h8' _ bQ.lt bQ.cell) (fun _ _ => trivial) (fun _ _ _ _ _ _ _ _ => trivial) (Below.refl _ _) (fun _ => rfl)
    (fun pre W => (Boxed W (w.heap.size + 1) 23 (.int .u64 n) ∧ Boxed W w.heap.size 22 (.slice (some ⟨b, o, none⟩) k cap) ∧ Own W B (.slice (some ⟨b, 0, none⟩) L capL) (setN n o xs (pre.map (fun x => x.val)))) ∧ Below B w W)
    (fun _ _ _ => False)
    (OwnFrom.and (OwnFrom.and (Go.Own.from (boxed_own _ _ _) _) (OwnFrom.and (Go.Own.from (boxed_own _ _ _) _) (Go.Own.from (own_own _ _ _) _))) (ownFrom_below hB (by simp; omega)))
    (fun _ _ _ _ _ hs _ _ => hs)
    ⟨⟨bN.alloc _, (bP.alloc _).alloc _, ((Hown.out.alloc _).alloc _).alloc _⟩, B2⟩
    (fun x => { tmps := #[.slice (some ⟨b, o, none⟩) k cap, .int .u64 n, .pointer (some ⟨w.heap.size, 0, none⟩), .pointer (some ⟨w.heap.size + 1, 0, none⟩), .int .i64 (x.val : Int), .slice (some ⟨b, o, none⟩) k cap, .func (.func 38) #[] #[.pointer (some ⟨w.heap.size + 1 + 1, 0, none⟩)], .int .i64 (x.val : Int), undef, undef, undef, undef, undef, undef, undef, undef], defers := [] }) ?assign ?body ?done ?stop
  case assign =>
    intro lp x W K hK
    gi_wp2
    exact hK
  case body =>
    rintro lp pre x W ⟨⟨bN, bP, hO⟩, hB'⟩ _
    have hmx : Try.prog.follows .mixedOrders = true := by kernel_rfl
    obtain ⟨x, hx⟩ := x
    have cN := bN.cell
    have cP := bP.cell
    have hlen : (setN n o xs (pre.map (fun x => x.val))).length = L := by rw [setN_length, HL.out]
    have hcell := World.ownsRow.cells hO (g := b) rfl (o + x) _ (get_map (by rw [hlen]; have := Hk.out; omega))
    rw [add_lit, Nat.zero_add] at hcell
    have hfr : W.frozen? ⟨b, o + x, none⟩ = false := World.ownsRow.frozenAt (n := L) (by have := hO; unfold Own at this; rw [hlen] at this; exact this) (o + x)
    have HbN := Lib.hid bN
    have HbP := Lib.hid bP
    have HO := Lib.hid hO
    have HB := Lib.hid hB'
    have Hlen := Lib.hid hlen
    have hv : IntKind.u8.wrap (n / 2 ^ (8 * (x : Int)).toNat) = n / 256 ^ x % 256 := by
      rw [show (8 * (x : Int)).toNat = 8 * x from by omega, Int.pow_mul, IntKind.wrap_u8]; rfl
    have Hv := Lib.hid hv
    clear bN bP hO hB' hlen hv
    have e1 : IntKind.i64.wrap (8 * (x : Int)) = 8 * (x : Int) := IntWalk.i64_in _ (by omega)
    have e2 : (0 : Int) ≤ 8 * (x : Int) := by omega
    gi_wp2
    gi_region_with_o (fail)
    all_goals gi_wp2
    all_goals
      refine ⟨((KeepsOthers.setCell _ _ _).trans (KeepsOthers.drew _)).from _, trivial, ⟨?_, ?_, ?_⟩, ?_⟩
      · exact HbN.out.other' (by omega) _ _
      · exact HbP.out.other' (by omega) _ _
      · rw [List.map_append, List.map_singleton, setN_snoc, ← Hv.out]; exact (HO.out.store Hlen.out.symm (o + x) _).drew
      · exact (HB.out.setCell (p := ⟨b, o + x, none⟩) (by simp; omega) _).drew
  case done =>
    rintro D ys W hD hS ⟨⟨bN, bP, hO⟩, hB'⟩ hK
    gi_wp2
    refine ⟨by simp, .inl ⟨_, _, rfl, run_takeDeferred hK, ?_⟩⟩
    have hwr : setN n o xs (ys.map (fun x => x.val)) = wrB xs o k n := by
      refine setN_wrB (by rw [HL.out]; exact Hk.out) (fun i => ?_)
      rw [hS, mem_down k k i (Nat.le_refl _)]; omega
    rw [hwr] at hO
    exact ⟨_, results_none rfl _ _ _, ⟨_, rfl⟩, ownsRow_putObj hO _ hK rfl, hB'.trans (belowK_b (w := w) hB W D _ _ (by simp at hD; omega) hK rfl rfl)⟩
  case stop =>
    rintro D c pre W _ _ h _
    exact h.elim
end Go.Proofs.Ytmknjiefdhhgkaa.mm
