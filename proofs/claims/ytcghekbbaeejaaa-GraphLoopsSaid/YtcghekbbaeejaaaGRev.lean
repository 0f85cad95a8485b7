/- slices.Reverse over a row of the call's own. -/
import Derived.Test.YtcghekbbaeejaaaGOwn
import Derived.RegionTactic
import Derived.Shelf.RegionOpenPlain
set_option linter.unusedVariables false
set_option linter.unusedSimpArgs false
namespace Go.Proofs.Ytcghekbbaeejaaa.gr
open Go.RowKit

/-- between i and j still as it was, outside turned -/
def Half (xs ys : List Int) (i : Nat) (j : Int) : Prop := ys.length = xs.length ∧ (i : Int) + j + 1 = xs.length ∧ ∀ k, k < xs.length → ys.getD k 0 = if k < i ∨ j < k then xs.getD (xs.length - 1 - k) 0 else xs.getD k 0
theorem Half.done {xs ys : List Int} {i : Nat} {j : Int} (h : Half xs ys i j) (hij : ¬ (i : Int) < j) : ys = xs.reverse := by
  obtain ⟨h1, h2, h3⟩ := h
  refine List.ext_getElem (by simpa using h1) fun k k1 k2 => ?_
  have hk : k < xs.length := by omega
  have h := h3 k hk
  rw [List.getD_eq_getElem?_getD, List.getElem?_eq_getElem k1] at h
  rw [List.getElem_reverse]
  have e : xs.getD (xs.length - 1 - k) 0 = xs[xs.length - 1 - k]'(by omega) := by rw [List.getD_eq_getElem?_getD, List.getElem?_eq_getElem (by omega)]; rfl
  rw [← e]
  split at h
  · exact h
  · have hm : xs.length - 1 - k = k := by omega
    rw [hm]; exact h
theorem Half.step {xs ys : List Int} {i : Nat} {j : Nat} (h : Half xs ys i j) (hij : i < j) : Half xs ((ys.set i (ys.getD j 0)).set j (ys.getD i 0)) (i + 1) ((j : Int) - 1) := by
  obtain ⟨h1, h2, h3⟩ := h
  refine ⟨by simpa using h1, by omega, fun k hk => ?_⟩
  rw [Gr.getD_set, Gr.getD_set, List.length_set, h1]
  by_cases e1 : j = k
  · subst e1
    rw [if_pos ⟨rfl, hk⟩, h3 i (by omega), if_neg (by omega), if_pos (by omega)]
    congr 1; omega
  · rw [if_neg (fun h => e1 h.1)]
    by_cases e2 : i = k
    · subst e2
      rw [if_pos ⟨rfl, hk⟩, h3 j (by omega), if_neg (by omega), if_pos (by omega)]
      congr 1; omega
    · rw [if_neg (fun h => e2 h.1), h3 k hk]
      by_cases e3 : k < i ∨ (j : Int) < k
      · rw [if_pos e3, if_pos (by omega)]
      · rw [if_neg e3, if_neg (by omega)]

set_option maxRecDepth 100000 in
set_option maxHeartbeats 2000000 in
theorem reverse_any (g cap B : Nat) (xs : List Int) (w : World) (h : gi.Own w B (.slice (some ⟨g, 0, none⟩) xs.length cap) xs) (hB : B ≤ w.heap.size) (hl : xs.length ≤ 1048576) :
    Calls Try.prog 34 #[.slice (some ⟨g, 0, none⟩) xs.length cap] w fun e w' => e = .returned (.tuple #[]) ∧ gi.Own w' B (.slice (some ⟨g, 0, none⟩) xs.length cap) xs.reverse ∧ w.grownBy w' (some g) := by
  have hcap := (gi_ow.1 h).len.2
  have HO := Lib.hid h
  clear h
  go_enter Try.func34, Try.ntmps34
  go_wp2
  go_loopw [2, 3] (fun a b wr => ∃ (i : Nat) (j : Int) (ys : List Int), a = .int .i64 i ∧ b = .int .i64 j ∧ Hid (Half xs ys i j) ∧ Hid (gi.Own wr B (.slice (some ⟨g, 0, none⟩) xs.length cap) ys) ∧ Hid (w.grownBy wr (some g)) ∧ i ≤ xs.length ∧ -1 ≤ j ∧ j < xs.length) (fun a b _ => (xs.length + 1) - (intOf a).toNat)
  case atStart => exact ⟨0, (xs.length : Int) - 1, xs, rfl, rfl, Lib.hid ⟨rfl, by omega, fun k hk => by rw [if_neg (by omega)]⟩, HO, Lib.hid ⟨rfl, rfl, rfl, Nat.le_refl _, fun _ _ _ => rfl⟩, by omega, by omega, by omega⟩
  case round =>
    obtain ⟨i, j, ys, rfl, rfl, HH, HY, HG, b1, b2, b3⟩ := hrel
    by_cases hlt : (i : Int) < j
    · obtain ⟨jn, rfl⟩ : ∃ n : Nat, j = (n : Int) := ⟨j.toNat, by omega⟩
      have hyl := HH.out.1
      have HS := Lib.hid (HH.out.step (by omega))
      have ci : wr.cell? ⟨g, i, none⟩ = some (.int .i64 (ys.getD i 0)) := (gi_ow.1 HY.out).cell (gi.get_map (by omega))
      have cj : wr.cell? ⟨g, jn, none⟩ = some (.int .i64 (ys.getD jn 0)) := (gi_ow.1 HY.out).cell (gi.get_map (by omega))
      have fi := (gi_ow.1 HY.out).fz i
      have fj := (gi_ow.1 HY.out).fz jn
      have HYL := Lib.hid hyl
      have hne : i ≠ jn := by omega
      have hil : i < xs.length := by omega
      have hjl : jn < xs.length := by omega
      clear hyl
      generalize ys.getD i 0 = x at ci HS
      generalize ys.getD jn 0 = y at cj HS
      go_wp2
      go_region
      go_wp2
      have h1 := Ow.stored (w := wr.drew) (gi_ow.1 HY.out) i (.int .i64 y)
      have h2 := h1.1.stored jn (.int .i64 x)
      refine ⟨⟨i + 1, (jn : Int) - 1, (ys.set i y).set jn x, by go_num, rfl, HS, Lib.hid ?_, Lib.hid ?_, by omega, by omega, by omega⟩, by simp [intOf]; omega⟩
      · rw [gi_ow, List.map_set, List.map_set]; exact h2.1
      · exact grown_same HG.out (grown_same (show wr.grownBy _ (some g) from ⟨h1.2.os, h1.2.tape, h1.2.output, h1.2.size, h1.2.block⟩) h2.2)
    · have HS := Lib.hid (HH.out.done hlt)
      go_wp2
      go_end0
      exact ⟨rfl, by rw [← HS.out]; exact HY.out, HG.out⟩
end Go.Proofs.Ytcghekbbaeejaaa.gr
