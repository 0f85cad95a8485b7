/- GraphLoops: the graphs that are right. -/
import Derived.Test.YtcghekbbaeejaaaGLoops
import Derived.Deep.RegionHeld3
set_option linter.unusedVariables false
set_option linter.unusedSimpArgs false
namespace Go.Proofs.Ytcghekbbaeejaaa.gr
open Go.ChangeShapes Go.WideShapes Go.ChangeAt Go.RowKit Go.Proofs.Ytcghekbbaeejaaa.Gr

set_option maxRecDepth 100000 in
set_option maxHeartbeats 8000000 in
theorem loops7_good (v : Value) (G : List (List Nat)) (F : Fine G) (w : World) (h : RdG w v (upp G)) (hr : rightB (upp G) = true) :
    Calls Try.prog 6 #[v] w fun e w' => e = .returned (.bool true) ∧ Below w.heap.size w w' := by
  have HA := Lib.hid (fun w' => alive_any w')
  have HI := Lib.hid ints_same
  have HP := Lib.hid (Loops_any v G F w h hr)
  have HH := Lib.hid h
  have HR := Lib.hid (fun w' h' => refLoops_any v G F w' h' hr)
  have hn := F.n
  have HND := Lib.hid (loopsL_nodes (G := G))
  have hll : (loopsL G).length ≤ G.length := loopsI_len G _
  clear hr h F
  go_enter Try.func6, Try.ntmps6
  go_wp2_with fail
  refine HP.out.mono ?_
  rintro e w1 ⟨nv, rfl, ho, hb⟩
  have HO1 := Lib.hid ho.rdP
  have HB1 := Lib.hid hb
  have HH1 := Lib.hid (HH.out.lift hb)
  clear ho hb
  obtain ⟨ao1, c1, e1, hc1, _⟩ := HO1.out
  subst e1
  go_wp2_with fail
  refine (HR.out _ HH1.out).mono ?_
  rintro e w2 ⟨rv, rfl, ho, hb⟩
  have HO2 := Lib.hid ho.rdP
  have HO12 := Lib.hid (HO1.out.lift hb)
  have HB2 := Lib.hid (HB1.out.trans (hb.mono HB1.out.size))
  clear ho hb HO1 HH1 HP HR
  obtain ⟨ao2, c2, e2, hc2, _⟩ := HO2.out
  subst e2
  go_wp2
  go_loopw [30] (fun y wx => ∃ k : Nat, y = .int .i64 k ∧ k ≤ (loopsL G).length ∧ Hid (Below w2.heap.size w2 wx)) (fun y _ => (loopsL G).length - (intOf y).toNat)
  case atStart => exact ⟨0, rfl, Nat.zero_le _, Lib.hid (Below.refl _ _)⟩
  case round =>
    obtain ⟨k, rfl, hk, HBX⟩ := hrel
    by_cases hlt : k < (loopsL G).length
    · have hkl : (k : Int) < (loopsL G).length := by omega
      obtain ⟨x1, y1, e1, _, hd1⟩ := HO12.out.lift HBX.out
      obtain ⟨x2, y2, e2, _, hd2⟩ := HO2.out.lift HBX.out
      simp only [Value.slice.injEq, true_and] at e1 e2
      obtain ⟨rfl, rfl⟩ := e1
      obtain ⟨rfl, rfl⟩ := e2
      rcases hd1 with e | ⟨g1, rfl, hd1⟩
      · rw [e] at hlt; simp at hlt
      rcases hd2 with e | ⟨g2, rfl, hd2⟩
      · rw [e] at hlt; simp at hlt
      obtain ⟨u, a1, a2, a3⟩ := hd1 k hlt
      obtain ⟨u', b1, b2, b3⟩ := hd2 k hlt
      have hnl := HND.out k hlt
      clear hd1 hd2
      generalize (loopsL G)[k] = t at a1 a2 a3 b1 b2 b3 hnl
      obtain ⟨th, tn⟩ := t
      have HIN := Lib.hid (HI.out wr.drew u u' (up tn) a3.drew b3.drew (by rw [up_len]; show tn.length ≤ _; simp at hnl; omega))
      clear a3 b3 hnl
      change wr.cell? ⟨g1, k * 2, none⟩ = some (.int .i64 (th : Nat)) at a1
      change wr.cell? ⟨g2, k * 2, none⟩ = some (.int .i64 (th : Nat)) at b1
      have hgd : ((th : Int) != (th : Int)) = false := by simp
      go_wp2_with fail
      go_region_held3 (fun x => x.cell? ⟨g1, k * 2, none⟩ = some (.int .i64 (th : Nat)) ∧ x.cell? ⟨g2, k * 2, none⟩ = some (.int .i64 (th : Nat)) ∧ x.cell? ⟨g1, k * 2 + 1, none⟩ = some u ∧ x.cell? ⟨g2, k * 2 + 1, none⟩ = some u') (first | exact ⟨a1, b1, a2, b2⟩ | go_keep) (first
        | (go_at_call 16; refine HIN.out.mono ?_; rintro e w6 ⟨rfl, hb⟩; have a1 := grown_cell (grown_of hb : wr.drew.grownBy w6 none) (p := ⟨g1, k * 2, none⟩) a1 (by simp); have b1 := grown_cell (grown_of hb : wr.drew.grownBy w6 none) (p := ⟨g2, k * 2, none⟩) b1 (by simp); have a2 := grown_cell (grown_of hb : wr.drew.grownBy w6 none) (p := ⟨g1, k * 2 + 1, none⟩) a2 (by simp); have b2 := grown_cell (grown_of hb : wr.drew.grownBy w6 none) (p := ⟨g2, k * 2 + 1, none⟩) b2 (by simp); have HB6 := Lib.hid (HBX.out.trans (((Below.refl wr.heap.size wr).drew.trans hb).mono HBX.out.size)); clear hb))
      go_wp2
      exact ⟨⟨k + 1, by go_num, by omega, HB6⟩, by simp [intOf]; omega⟩
    · obtain rfl : k = (loopsL G).length := by omega
      go_wp2_with fail
      refine (HA.out _).mono ?_
      rintro e w4 ⟨rfl, hb⟩
      go_wp2
      go_ret
      have a1 := HB2.out.trans (HBX.out.mono HB2.out.size)
      exact ⟨rfl, a1.trans (hb.mono a1.size)⟩

theorem loops7_any (v : Value) (L : List (List Int)) (w : World) (h : RdG w v L) (hl : L.length ≤ 140737488351232) :
    Calls Try.prog 6 #[v] w fun e w' => e = .returned (.bool true) ∧ Below w.heap.size w w' := by
  cases hr : rightB L with
  | false => exact loops7_bad v L w h hl hr
  | true =>
    obtain ⟨G, rfl, F⟩ := natG_rd h hr
    exact loops7_good v G F w h hr

-- LAW
set_option maxRecDepth 100000 in
theorem loops7_lifted (os : Os) (started : os.Started) (H : Type) (enc : TypeId × Value → H) :
    ReturnsInHanded {} Try.checked os 6 .any (Rows.graphLoopsSpec.pre6 enc Try.prog Try.f6 Rows.graphLoopsRow.domain false) (Rows.graphLoopsSpec.post enc Try.prog Try.f6 false true false false) := by
  refine returnsInHanded_of_change_sized (C := Try.checked) own started (by kernel_rfl) Try.func6
    (ChangeSpec.witness6 (enc := enc) (C := Try.checked) false ⟨#[], #[.slice none 0 0], []⟩ 8 (by kernel_rfl) (by kernel_rfl) (by kernel_rfl) (by kernel_rfl)) ?_
  intro W base args ds gs before hval0 hW _ hsz0 _
  have hsz : (DataW.weightsEach Try.prog (Try.f6.params.toList ++ Rows.graphLoopsSpec.plain.varTypes Try.prog) (ds ++ gs)).all (· ≤ reachBytes) = true := hsz0
  clear hsz0
  have hval : ∀ (j : Nat) t v, Try.f6.params[j]? = some t → args[j]? = some v → Value.okWide Try.prog W .any base t v := hval0
  clear hval0
  have hW' := hW
  obtain ⟨p, q, hA0, hV, rfl, _, _⟩ := hW
  have hA : DataW.TrodAll enc Try.prog W 0 (fun _ => true) true Try.f6.params.toList args.toList ds p := hA0
  rw [Try.params6] at hA hval hsz
  obtain ⟨v0, vs0, d0, ds0, p0, q0, hargs, rfl, rfl, h0, r0⟩ := trodAll_cons hA
  obtain ⟨rfl, rfl, rfl⟩ := trodAll_nil r0
  obtain rfl : args = #[v0] := by cases args; simp_all
  obtain ⟨rfl, rfl⟩ := trodVars_none hV
  obtain ⟨l0, hr0, hl0⟩ := open_graph (hval 0 22 v0 rfl rfl) h0 (fun elems spare hd => sized_slice hsz (j := 0) (t := 22) (e := 23) rfl (by rw [hd]; rfl) Try.underlying22)
  refine (loops7_any v0 l0 W hr0 hl0).mono fun e W' ⟨he, hb⟩ => ?_
  subst he
  exact ⟨_, rfl, law_done rfl rfl (by rw [Try.params6]; intro t ht; simp at ht; subst ht; exact ⟨by kernel_rfl, of_decide_eq_true (by kernel_rfl)⟩) hW' rfl rfl rfl hb⟩

theorem loops7_holds : Rows.GraphLoopsSaid :=
  OpenClaim.holds_of_wide 6 Try.f6 rfl rfl rfl rfl rfl rfl rfl ⟨rfl, rfl, rfl, rfl, rfl⟩ rfl rfl rfl rfl rfl (by kernel_rfl) Try.func6 (by kernel_rfl)
    (of_decide_eq_true (by kernel_rfl)) (by unfold Func.isWrapper; first | (rw [if_pos (by decide +kernel)]; kernel_rfl) | (rw [if_neg (by decide +kernel)]; exact ⟨rfl, rfl⟩))
    (fun os started H enc _ => loops7_lifted os started H enc)
end Go.Proofs.Ytcghekbbaeejaaa.gr
