/- What goes to each node: the program's contract. -/
import Derived.Test.YtcghekbbaeejaaaGFrom
set_option linter.unusedVariables false
set_option linter.unusedSimpArgs false
namespace Go.Proofs.Ytcghekbbaeejaaa.gr
open Go.RowKit Go.Proofs.Ytcghekbbaeejaaa.Gr

def FromP (G : List (List Nat)) (w : World) (e : Ending) (w' : World) : Prop := ∃ g, e = .returned (.slice (some ⟨g, 0, none⟩) G.length G.length) ∧ RdG w' (.slice (some ⟨g, 0, none⟩) G.length G.length) (upp (fromL G)) ∧ Below w.heap.size w w'

set_option maxRecDepth 100000 in
set_option maxHeartbeats 8000000 in
theorem from_any (v : Value) (G : List (List Nat)) (F : Fine G) (w : World) (h : RdG w v (upp G)) :
    Calls Try.prog 27 #[v] w (FromP G w) := by
  have hn := F.n
  have hp := F.wf.pos
  have HF := Lib.hid F
  obtain ⟨ao, cap, rfl, hcap, _, hd⟩ := h
  rw [upp_len] at hcap ⊢
  obtain ⟨bg, og, rfl, hq⟩ : ∃ bg og, ao = some ⟨bg, og, none⟩ ∧ ∀ k, k < (upp G).length → ∃ u, w.cell? ⟨bg, og + k, none⟩ = some u ∧ gi.Rd w u ((upp G).getD k []) := by
    rcases hd with e | ⟨bg, og, e, hd⟩
    · have := upp_len G; rw [e] at this; simp at this; omega
    · exact ⟨bg, og, e, hd⟩
  rw [upp_len] at hq
  have HD := Lib.hid hq
  have HC := Lib.hid hcap
  have hmk := make_rows G.length (by omega)
  have HS := Lib.hid (rw_start (w := w) hn)
  clear hd hq hcap F
  go_enter Try.func27, Try.ntmps27
  go_upto_region 2 with (fail)
  generalize w.alloc _ = W1 at HS ⊢
  clear hmk
  go_wp2
  go_loopw [13] (fun y wr => ∃ (i : Nat) (vs : List Value), y = .int .i64 i ∧ i ≤ G.length ∧ Hid (RW w wr w.heap.size (w.heap.size + 1) G.length vs (fromI G i))) (fun y _ => G.length - (intOf y).toNat)
  case atStart => exact ⟨0, _, rfl, Nat.zero_le _, HS⟩
  case round =>
    obtain ⟨i, vs, rfl, hi, HO⟩ := hrel
    by_cases hlt : i < G.length
    · obtain ⟨u, g1, g2⟩ := HD.out i hlt
      rw [← HO.out.below.cell (p := ⟨bg, og + i, none⟩) (World.block_lt_of_cell? w _ g1)] at g1
      rw [upp_getD] at g2
      change gi.Rd w u (up (adj G i)) at g2
      have hcap := HC.out
      have hE := HF.out.e i
      obtain ⟨ao2, cap2, rfl, hc2, _, hd2⟩ := g2
      rw [up_len] at g1 hc2
      have HD2 := Lib.hid hd2
      have HC2 := Lib.hid hc2
      have hilt : (i : Int) < G.length := by omega
      clear hd2 hc2
      go_wp2
      go_loopw [20] (fun y wx => ∃ (j : Nat) (vs : List Value), y = .int .i64 j ∧ j ≤ (adj G i).length ∧ Hid (RW w wx w.heap.size (w.heap.size + 1) G.length vs (fromJ G i j))) (fun y _ => (adj G i).length - (intOf y).toNat)
      case atStart => exact ⟨0, vs, rfl, Nat.zero_le _, HO⟩
      case round =>
        clear g1
        obtain ⟨j, vs', rfl, hj, HJ⟩ := hrel
        by_cases hjt : j < (adj G i).length
        · have hju : j < (up (adj G i)).length := by rw [up_len]; exact hjt
          rcases HD2.out with e | ⟨b2, o2, rfl, hg2⟩
          · rw [e] at hju; simp at hju
          have g2 := hg2 j hju
          rw [← HJ.out.below.cell (p := ⟨b2, o2 + j, none⟩) (World.block_lt_of_cell? w _ g2)] at g2
          rw [up_getD hjt, List.getD_eq_getElem?_getD, List.getElem?_eq_getElem hjt] at g2
          have hy := HF.out.wf.lt i _ (List.getElem_mem hjt)
          have hS := fromJ_succ G i j hjt
          have hrow := fromJ_row G HF.out.e i j (adj G i)[j] (by omega)
          change _ = some (Value.int .i64 ((adj G i)[j] : Nat)) at g2
          generalize (adj G i)[j] = y at g2 hy hS hrow
          obtain ⟨v, v1, v2, v3, v4⟩ := HJ.out.get hy
          have HV := Lib.hid v1
          have HO3 := Lib.hid v3
          have HSS := Lib.hid hS
          have Hb1 := HJ.out.b1
          have hpl : (up ((fromJ G i j).getD y [])).length + 1 ≤ 4398046511104 := by rw [up_len]; omega
          have hjlt : (j : Int) < (adj G i).length := by omega
          have hcap2 := HC2.out
          clear hg2 hju hS v1 v3 hrow
          go_wp2_with (at_builtin; refine app1 (.tmp 29) (.tmp 31) rfl rfl rfl HO3.out (i : Int) rfl rfl hpl Hb1 ?_; intro g9 cap8 w9 k1 k2 k3 k4; obtain ⟨q1, q2, q3⟩ := HJ.out.add hy HV.out k2 (k3.imp id Nat.le_of_lt) k1; have HQ := Lib.hid q3; clear q3)
          exact ⟨⟨j + 1, _, by go_num, by omega, by rw [HSS.out]; exact HQ⟩, by simp [intOf]; omega⟩
        · obtain rfl : j = (adj G i).length := by omega
          have HN : Hid (RW w wr w.heap.size (w.heap.size + 1) G.length vs' (fromI G (i + 1))) := by rw [← fromJ_all]; exact HJ
          clear HJ
          go_wp2
          exact ⟨⟨i + 1, vs', by go_num, by omega, HN⟩, by simp [intOf]; omega⟩
    · obtain rfl : i = G.length := by omega
      go_wp2
      go_ret
      exact ⟨w.heap.size, rfl, HO.out.rd, HO.out.below⟩

set_option maxRecDepth 100000 in
set_option maxHeartbeats 4000000 in
theorem from_bad (v : Value) (L : List (List Int)) (w : World) (h : RdG w v L) (hl : L.length ≤ 140737488351232) (hr : rightB L = false) :
    Calls Try.prog 12 #[v] w fun e w' => e = .returned (.tuple #[.slice none 0 0, .int .i64 1]) ∧ w = w' := by
  have HR := Lib.hid (right_any v L w h hl)
  rw [hr] at HR
  clear hr
  go_enter Try.func12, Try.ntmps12
  go_wp2_with (go_at_call 14; refine HR.out.mono ?_; rintro e w1 ⟨rfl, rfl⟩)
  go_ret2
  exact ⟨rfl, rfl⟩
def FromT (G : List (List Nat)) (w : World) (e : Ending) (w' : World) : Prop := ∃ g, e = .returned (.tuple #[.slice (some ⟨g, 0, none⟩) G.length G.length, .int .i64 0]) ∧ RdG w' (.slice (some ⟨g, 0, none⟩) G.length G.length) (upp (fromL G)) ∧ Below w.heap.size w w'
set_option maxRecDepth 100000 in
set_option maxHeartbeats 4000000 in
theorem From_any (v : Value) (G : List (List Nat)) (F : Fine G) (w : World) (h : RdG w v (upp G)) (hr : rightB (upp G) = true) :
    Calls Try.prog 12 #[v] w (FromT G w) := by
  have HR := Lib.hid (right_any v (upp G) w h (by rw [upp_len]; have := F.n; omega))
  rw [hr] at HR
  have HO := Lib.hid (from_any v G F w h)
  clear hr
  go_enter Try.func12, Try.ntmps12
  go_wp2_with (first
    | (go_at_call 14; refine HR.out.mono ?_; rintro e w1 ⟨rfl, rfl⟩)
    | (go_at_call 27; refine HO.out.mono ?_; rintro e w1 ⟨g, rfl, ho, hb⟩))
  go_ret2
  exact ⟨g, rfl, ho, hb⟩
end Go.Proofs.Ytcghekbbaeejaaa.gr
