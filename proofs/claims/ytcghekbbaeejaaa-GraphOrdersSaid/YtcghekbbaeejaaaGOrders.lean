/- GraphOrders: whatever the graph, which may be, its order, and what goes to each node, the program tells as the document does. -/
import Derived.Test.YtcghekbbaeejaaaGComm
import Derived.Deep.RegionHeld3
set_option linter.unusedVariables false
set_option linter.unusedSimpArgs false
namespace Go.Proofs.Ytcghekbbaeejaaa.gr
open Go.ChangeShapes Go.WideShapes Go.ChangeAt Go.RowKit Go.Proofs.Ytcghekbbaeejaaa.Gr

set_option maxRecDepth 100000 in
set_option maxHeartbeats 16000000 in
theorem orders7_bad (v : Value) (L : List (List Int)) (w : World) (h : RdG w v L) (hl : L.length ≤ 140737488351232) (hr : rightB L = false) :
    Calls Try.prog 3 #[v] w fun e w' => e = .returned (.bool true) ∧ Below w.heap.size w w' := by
  have HA := Lib.hid (fun w' => alive_any w')
  have HI := Lib.hid ints_same
  have HRP := Lib.hid (fun w' h => right_any v L w' h hl)
  have HRR := Lib.hid (fun w' h => refRight_any v L w' h hl)
  rw [hr] at HRP HRR
  have H1 := Lib.hid (order_bad v L w h hl hr)
  have H2 := Lib.hid (refOrder_bad v L w h hl hr)
  have H3 := Lib.hid (from_bad v L w h hl hr)
  have H4 := Lib.hid (refFrom_bad v L w h hl hr)
  have H5 := Lib.hid (HRP.out w h)
  have H6 := Lib.hid (HRR.out w h)
  have HIN := Lib.hid (HI.out w (.slice none 0 0) (.slice none 0 0) [] (gi.Rd.nil w) (gi.Rd.nil w) (by decide))
  clear hr h
  go_enter Try.func3, Try.ntmps3
  go_wp2_with fail
  refine H1.out.mono ?_
  rintro e w1 ⟨rfl, rfl⟩
  go_wp2_with fail
  refine H2.out.mono ?_
  rintro e w1 ⟨rfl, rfl⟩
  go_wp2_with fail
  refine H3.out.mono ?_
  rintro e w1 ⟨rfl, rfl⟩
  go_wp2_with fail
  refine H4.out.mono ?_
  rintro e w1 ⟨rfl, rfl⟩
  go_wp2_with fail
  refine H5.out.mono ?_
  rintro e w1 ⟨rfl, rfl⟩
  go_wp2_with fail
  refine H6.out.mono ?_
  rintro e w1 ⟨rfl, rfl⟩
  go_wp2_with fail
  refine HIN.out.mono ?_
  rintro e w1 ⟨rfl, hb⟩
  have HB := Lib.hid hb
  clear hb
  go_wp2_with fail
  go_loopw [62] (fun y wr => y = .int .i64 0 ∧ Hid (Below w.heap.size w wr)) (fun _ _ => 0)
  case atStart => exact ⟨rfl, HB⟩
  case round =>
    obtain ⟨rfl, HBW⟩ := hrel
    go_wp2_with fail
    refine (HA.out _).mono ?_
    rintro e w2 ⟨rfl, hb⟩
    go_wp2
    go_ret
    exact ⟨rfl, HBW.out.trans (hb.mono HBW.out.size)⟩

set_option maxRecDepth 100000 in
set_option maxHeartbeats 16000000 in
theorem orders7_good (v : Value) (L : List (List Int)) (w : World) (h : RdG w v L) (hl : L.length ≤ 140737488351232) (hr : rightB L = true) :
    Calls Try.prog 3 #[v] w fun e w' => e = .returned (.bool true) ∧ Below w.heap.size w w' := by
  have HA := Lib.hid (fun w' => alive_any w')
  have HI := Lib.hid ints_same
  have HRP := Lib.hid (fun w' h => right_any v L w' h hl)
  have HRR := Lib.hid (fun w' h => refRight_any v L w' h hl)
  obtain ⟨G, rfl, F⟩ := natG_rd h hr
  rw [hr] at HRP HRR
  have H1 := Lib.hid (fun w' h' => Order_any v G F w' h' hr)
  have H2 := Lib.hid (fun w' h' => refOrder_any v G F w' h' hr)
  have H3 := Lib.hid (fun w' h' => From_any v G F w' h' hr)
  have H4 := Lib.hid (fun w' h' => refFrom_any v G F w' h' hr)
  have HH := Lib.hid h
  have hn := F.n
  have hol : (orderL G).length ≤ 1048576 := by have := nodup_le G.length (orderL G) (order_is G F.wf.pos).nodup (fun y hy => (((order_is G F.wf.pos).mem y).1 hy).lt); have := F.n; omega
  have HOL := Lib.hid hol
  have HPL := Lib.hid (fun b => preds_len F b)
  clear hr h F hol
  go_enter Try.func3, Try.ntmps3
  go_wp2_with fail
  refine (H1.out _ HH.out).mono ?_
  rintro e w1 ⟨o1, rfl, ho, hb⟩
  have HO1 := Lib.hid ho.rd
  have HB1 := Lib.hid hb
  have HH1 := Lib.hid (HH.out.lift hb)
  clear ho hb
  go_wp2_with fail
  refine (H2.out _ HH1.out).mono ?_
  rintro e w2 ⟨o2, rfl, ho, hb⟩
  have HO12 := Lib.hid (HO1.out.lift hb)
  have HO2 := Lib.hid ho.rd
  have HB2 := Lib.hid (HB1.out.trans (hb.mono HB1.out.size))
  have HH2 := Lib.hid (HH1.out.lift hb)
  clear ho hb
  go_wp2_with fail
  refine (H3.out _ HH2.out).mono ?_
  rintro e w3 ⟨g3, rfl, ho, hb⟩
  have HO13 := Lib.hid (HO12.out.lift hb)
  have HO23 := Lib.hid (HO2.out.lift hb)
  have HX := Lib.hid ho
  have HB3 := Lib.hid (HB2.out.trans (hb.mono HB2.out.size))
  have HH3 := Lib.hid (HH2.out.lift hb)
  clear ho hb
  go_wp2_with fail
  refine (H4.out _ HH3.out).mono ?_
  rintro e w4 ⟨g4, rfl, ho, hb⟩
  have HO14 := Lib.hid (HO13.out.lift hb)
  have HO24 := Lib.hid (HO23.out.lift hb)
  have HX4 := Lib.hid (HX.out.lift hb)
  have HY := Lib.hid ho
  have HB4 := Lib.hid (HB3.out.trans (hb.mono HB3.out.size))
  have HH4 := Lib.hid (HH3.out.lift hb)
  clear ho hb
  go_wp2_with fail
  refine (HRP.out _ HH4.out).mono ?_
  rintro e w5 ⟨rfl, rfl⟩
  go_wp2_with fail
  refine (HRR.out _ HH4.out).mono ?_
  rintro e w5 ⟨rfl, rfl⟩
  go_wp2_with fail
  refine (HI.out _ _ _ _ HO14.out HO24.out (by rw [up_len]; exact HOL.out)).mono ?_
  rintro e w5 ⟨rfl, hb⟩
  have HX5 := Lib.hid (HX4.out.lift hb)
  have HY5 := Lib.hid (HY.out.lift hb)
  have HB5 := Lib.hid (HB4.out.trans (hb.mono HB4.out.size))
  clear hb HO1 HO12 HO13 HO14 HO2 HO23 HO24 HX HX4 HY HH HH1 HH2 HH3 HH4
  go_wp2_with fail
  go_loopw [62] (fun y wr => ∃ i : Nat, y = .int .i64 i ∧ i ≤ G.length ∧ Hid (Below w5.heap.size w5 wr)) (fun y _ => G.length - (intOf y).toNat)
  case atStart => exact ⟨0, rfl, Nat.zero_le _, Lib.hid (Below.refl _ _)⟩
  case round =>
    obtain ⟨i, rfl, hi, HBW⟩ := hrel
    by_cases hlt : i < G.length
    · have hilt : (i : Int) < G.length := by omega
      obtain ⟨u, u1, u2⟩ := (HX5.out.lift HBW.out).at_ hlt
      obtain ⟨z, z1, z2⟩ := (HY5.out.lift HBW.out).at_ hlt
      have hrl := HPL.out i
      have HIN := Lib.hid (HI.out wr.drew u z _ u2.drew z2.drew (by rw [up_len]; exact hrl))
      clear u2 z2 hrl
      go_wp2_with fail
      go_region_held3 (fun x => x.cell? ⟨g3, i, none⟩ = some u ∧ x.cell? ⟨g4, i, none⟩ = some z) (first | exact ⟨u1, z1⟩ | go_keep) (first
        | (go_at_call 16; refine HIN.out.mono ?_; rintro e w6 ⟨rfl, hb⟩; have u1 := grown_cell (grown_of hb : wr.drew.grownBy w6 none) (p := ⟨g3, i, none⟩) u1 (by simp); have z1 := grown_cell (grown_of hb : wr.drew.grownBy w6 none) (p := ⟨g4, i, none⟩) z1 (by simp); have HB6 := Lib.hid (HBW.out.trans (((Below.refl wr.heap.size wr).drew.trans hb).mono HBW.out.size)); clear hb))
      go_wp2
      exact ⟨⟨i + 1, by go_num, by omega, HB6⟩, by simp [intOf]; omega⟩
    · obtain rfl : i = G.length := by omega
      go_wp2_with fail
      refine (HA.out _).mono ?_
      rintro e w7 ⟨rfl, hb⟩
      go_wp2
      go_ret
      have h1 := HB5.out.trans (HBW.out.mono HB5.out.size)
      exact ⟨rfl, h1.trans (hb.mono h1.size)⟩


theorem orders7_any (v : Value) (L : List (List Int)) (w : World) (h : RdG w v L) (hl : L.length ≤ 140737488351232) :
    Calls Try.prog 3 #[v] w fun e w' => e = .returned (.bool true) ∧ Below w.heap.size w w' := by
  cases hr : rightB L with
  | false => exact orders7_bad v L w h hl hr
  | true => exact orders7_good v L w h hl hr

-- LAW
set_option maxRecDepth 100000 in
theorem orders7_lifted (os : Os) (started : os.Started) (H : Type) (enc : TypeId × Value → H) :
    ReturnsInHanded {} Try.checked os 3 .any (Rows.graphOrdersSpec.pre6 enc Try.prog Try.f3 Rows.graphOrdersRow.domain false) (Rows.graphOrdersSpec.post enc Try.prog Try.f3 false true false false) := by
  refine returnsInHanded_of_change_sized (C := Try.checked) own started (by kernel_rfl) Try.func3
    (ChangeSpec.witness6 (enc := enc) (C := Try.checked) false ⟨#[], #[.slice none 0 0], []⟩ 8 (by kernel_rfl) (by kernel_rfl) (by kernel_rfl) (by kernel_rfl)) ?_
  intro W base args ds gs before hval0 hW _ hsz0 _
  have hsz : (DataW.weightsEach Try.prog (Try.f3.params.toList ++ Rows.graphOrdersSpec.plain.varTypes Try.prog) (ds ++ gs)).all (· ≤ reachBytes) = true := hsz0
  clear hsz0
  have hval : ∀ (j : Nat) t v, Try.f3.params[j]? = some t → args[j]? = some v → Value.okWide Try.prog W .any base t v := hval0
  clear hval0
  have hW' := hW
  obtain ⟨p, q, hA0, hV, rfl, _, _⟩ := hW
  have hA : DataW.TrodAll enc Try.prog W 0 (fun _ => true) true Try.f3.params.toList args.toList ds p := hA0
  rw [Try.params3] at hA hval hsz
  obtain ⟨v0, vs0, d0, ds0, p0, q0, hargs, rfl, rfl, h0, r0⟩ := trodAll_cons hA
  obtain ⟨rfl, rfl, rfl⟩ := trodAll_nil r0
  obtain rfl : args = #[v0] := by cases args; simp_all
  obtain ⟨rfl, rfl⟩ := trodVars_none hV
  obtain ⟨l0, hr0, hl0⟩ := open_graph (hval 0 22 v0 rfl rfl) h0 (fun elems spare hd => sized_slice hsz (j := 0) (t := 22) (e := 23) rfl (by rw [hd]; rfl) Try.underlying22)
  refine (orders7_any v0 l0 W hr0 hl0).mono fun e W' ⟨he, hb⟩ => ?_
  subst he
  exact ⟨_, rfl, law_done rfl rfl (by rw [Try.params3]; intro t ht; simp at ht; subst ht; exact ⟨by kernel_rfl, of_decide_eq_true (by kernel_rfl)⟩) hW' rfl rfl rfl hb⟩

theorem orders7_holds : Rows.GraphOrdersSaid :=
  OpenClaim.holds_of_wide 3 Try.f3 rfl rfl rfl rfl rfl rfl rfl ⟨rfl, rfl, rfl, rfl, rfl⟩ rfl rfl rfl rfl rfl (by kernel_rfl) Try.func3 (by kernel_rfl)
    (of_decide_eq_true (by kernel_rfl)) (by unfold Func.isWrapper; first | (rw [if_pos (by decide +kernel)]; kernel_rfl) | (rw [if_neg (by decide +kernel)]; exact ⟨rfl, rfl⟩))
    (fun os started H enc _ => orders7_lifted os started H enc)
end Go.Proofs.Ytcghekbbaeejaaa.gr
