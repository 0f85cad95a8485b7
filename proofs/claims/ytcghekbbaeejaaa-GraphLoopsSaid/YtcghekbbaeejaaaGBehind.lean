/- GraphBehind: whatever the graph, in the program's order each node stands once, behind all others that dominate it, 0 first. -/
import Derived.Test.YtcghekbbaeejaaaGComm
set_option linter.unusedVariables false
set_option linter.unusedSimpArgs false
namespace Go.Proofs.Ytcghekbbaeejaaa.gr
open Go.ChangeShapes Go.WideShapes Go.ChangeAt Go.RowKit Go.Proofs.Ytcghekbbaeejaaa.Gr

theorem dom_before {G : List (List Nat)} {ord : List Nat} (wf : WF G) (ho : IsOrder G ord) : ∀ (n x m : Nat), ord.idxOf x < n → x ∈ ord → Dom G m x → m ≠ x → ord.idxOf m < ord.idxOf x
  | 0, x, m, h, _, _, _ => by omega
  | n + 1, x, m, h, hx, hd, hn => by
    have h0 : x ≠ 0 := fun e => by subst e; exact hn (dom_zero hd)
    obtain ⟨l1, l2, e⟩ := List.append_of_mem hx
    rcases ho.back l1 x l2 e with h' | ⟨p, hp, hpx⟩
    · exact absurd h' h0
    · have hnd := ho.nodup
      have hpo : p ∈ ord := by rw [e]; exact List.mem_append_left _ hp
      have hlt : ord.idxOf p < ord.idxOf x := by
        rw [e] at hnd ⊢
        have hbn : x ∉ l1 := fun hm => (List.nodup_append.1 hnd).2.2 x hm x (List.mem_cons_self ..) rfl
        rw [List.idxOf_append, List.idxOf_append, if_pos hp, if_neg hbn]
        have := List.idxOf_lt_length_of_mem hp
        omega
      obtain ⟨k, hk⟩ := (reached_r wf).1 ((ho.mem p).1 hpo)
      have hdp := hd.back (Ne.symm hn) hpx hk
      by_cases e2 : m = p
      · subst e2; exact hlt
      · have := dom_before wf ho n p m (by omega) hpo hdp e2
        omega

/-- where the first i of the order stand, and one more; 0 elsewhere -/
def AtI (ord : List Nat) (n i : Nat) (A : List Int) : Prop := A.length = n ∧ ∀ x, x < n → A.getD x 0 = if ord.idxOf x < i then (ord.idxOf x : Int) + 1 else 0
theorem AtI.step {ord : List Nat} {n i : Nat} {A : List Int} (h : AtI ord n i A) (hn : ord.Nodup) (hi : i < ord.length) (hx : ord[i] < n) : A.getD ord[i] 0 = 0 ∧ AtI ord n (i + 1) (A.set ord[i] ((i : Int) + 1)) := by
  have hix : ord.idxOf ord[i] = i := hn.idxOf_getElem _ hi
  refine ⟨by rw [h.2 _ hx, hix, if_neg (by omega)], by rw [List.length_set]; exact h.1, fun x hxn => ?_⟩
  rw [Gr.getD_set, h.1]
  by_cases e : ord[i] = x
  · subst e
    rw [if_pos ⟨rfl, hx⟩, hix, if_pos (by omega)]
  · rw [if_neg (fun h => e h.1), h.2 x hxn]
    have : ord.idxOf x ≠ i := fun e' => e (by
      have h1 : ord.idxOf x < ord.length := by omega
      have := List.getElem_idxOf h1
      rw [← this]; congr 1; exact e'.symm)
    by_cases e2 : ord.idxOf x < i
    · rw [if_pos e2, if_pos (by omega)]
    · rw [if_neg e2, if_neg (by omega)]

/-- what the law asks of each node and its nearest dominator -/
theorem behind_of {G : List (List Nat)} (wf : WF G) {A : List Int} (hA : AtI (orderL G) G.length (orderL G).length A) {x : Nat} (hx : x < G.length) :
    ((nearL G).getD x 0 = -1 ∧ (x = 0 ∨ A.getD x 0 = 0)) ∨ ∃ m : Nat, (nearL G).getD x 0 = (m : Int) ∧ m < G.length ∧ A.getD x 0 ≠ 0 ∧ A.getD m 0 ≠ 0 ∧ A.getD m 0 < A.getD x 0 := by
  have ho := order_is G wf.pos
  have hN := nearL_is wf
  have hgd : (nearL G).getD x 0 = (nearL G).getD x (-1) := getD_dflt (by rw [hN.len]; exact hx) _ _
  rw [hgd]
  by_cases hr : Reached G x
  · by_cases h0 : x = 0
    · exact .inl ⟨hN.none x (.inl h0), .inl h0⟩
    · obtain ⟨m, e, hn, hd, _⟩ := hN.some x hr h0
      right
      obtain ⟨k, hk⟩ := hd.left
      have hm := hk.lt wf
      have hxo := (ho.mem x).2 hr
      have hmo := (ho.mem m).2 ((reached_r wf).2 ⟨k, hk⟩)
      have hlt := dom_before wf ho ((orderL G).idxOf x + 1) x m (by omega) hxo hd hn
      have h1 := List.idxOf_lt_length_of_mem hxo
      have h2 := List.idxOf_lt_length_of_mem hmo
      refine ⟨m, e, hm, ?_, ?_, ?_⟩
      · rw [hA.2 x hx, if_pos h1]; omega
      · rw [hA.2 m hm, if_pos h2]; omega
      · rw [hA.2 x hx, hA.2 m hm, if_pos h1, if_pos h2]; omega
  · refine .inl ⟨hN.none x (.inr hr), .inr ?_⟩
    rw [hA.2 x hx, if_neg]
    intro h
    exact hr ((ho.mem x).1 (List.idxOf_lt_length_iff.1 h))

set_option maxRecDepth 100000 in
set_option maxHeartbeats 8000000 in
theorem behind_bad (v : Value) (L : List (List Int)) (w : World) (h : RdG w v L) (hl : L.length ≤ 140737488351232) (hr : rightB L = false) :
    Calls Try.prog 7 #[v] w fun e w' => e = .returned (.bool true) ∧ Below w.heap.size w w' := by
  have HA := Lib.hid (alive_any w)
  have H1 := Lib.hid (order_bad v L w h hl hr)
  have H2 := Lib.hid (near_bad v L w h hl hr)
  clear h hr
  go_enter Try.func7, Try.ntmps7
  go_wp2_with fail
  refine H1.out.mono ?_
  rintro e w1 ⟨rfl, rfl⟩
  go_wp2_with fail
  refine H2.out.mono ?_
  rintro e w1 ⟨rfl, rfl⟩
  go_wp2_with fail
  refine HA.out.mono ?_
  rintro e w2 ⟨rfl, hb⟩
  go_wp2
  go_ret
  exact ⟨rfl, hb⟩

set_option maxRecDepth 100000 in
set_option maxHeartbeats 16000000 in
theorem behind_good (v : Value) (G : List (List Nat)) (F : Fine G) (w : World) (h : RdG w v (upp G)) (hr : rightB (upp G) = true) :
    Calls Try.prog 7 #[v] w fun e w' => e = .returned (.bool true) ∧ Below w.heap.size w w' := by
  have HA := Lib.hid (fun w' => alive_any w')
  have H1 := Lib.hid (Order_any v G F w h hr)
  have H2 := Lib.hid (fun w' h' => Near_any v G F w' h' hr)
  have HH := Lib.hid h
  have hn := F.n
  have hp := F.wf.pos
  have HWF := Lib.hid F.wf
  have hio := order_is G hp
  have hol : (orderL G).length ≤ 256 := by have := nodup_le G.length (orderL G) hio.nodup (fun y hy => ((hio.mem y).1 hy).lt); omega
  have hol0 : 0 < (orderL G).length := by obtain ⟨tl, e⟩ := hio.first; rw [e]; simp
  have HIO := Lib.hid hio
  have HNL : Hid ((nearL G).length = G.length) := nearI_len G _
  obtain ⟨ag, cg, rfl, _, _, _⟩ := h
  rw [upp_len] at H1 H2 HH ⊢
  have hmk := make_ints G.length (by omega)
  clear hr F hio
  go_enter Try.func7, Try.ntmps7
  go_wp2_with fail
  refine H1.out.mono ?_
  rintro e w1 ⟨o1, rfl, ho, hb⟩
  have HO1 := Lib.hid ho.rd
  have HB1 := Lib.hid hb
  have HH1 := Lib.hid (HH.out.lift hb)
  clear ho hb
  go_wp2_with fail
  refine (H2.out _ HH1.out).mono ?_
  rintro e w2 ⟨n2, rfl, ho, hb⟩
  obtain ⟨ao, co, rfl, hco, _, hdo⟩ := HO1.out.lift hb
  obtain ⟨an, cn, rfl, hcn, _, hdn⟩ := ho.rd
  have HB2 := Lib.hid (HB1.out.trans (hb.mono HB1.out.size))
  rw [up_len] at hco ⊢
  rw [HNL.out] at hcn ⊢
  obtain ⟨bo, oo, rfl, hgo⟩ : ∃ bo oo, ao = some ⟨bo, oo, none⟩ ∧ ∀ k, k < (orderL G).length → w2.cell? ⟨bo, oo + k, none⟩ = some (.int .i64 ((orderL G).getD k 0 : Nat)) := by
    rcases hdo with e | ⟨b, o, e, hg⟩
    · have := up_len (orderL G); rw [e] at this; simp at this; omega
    · exact ⟨b, o, e, fun k hk => by rw [hg k (by rw [up_len]; exact hk), up_getD hk]⟩
  obtain ⟨bn, on, rfl, hgn⟩ : ∃ bn on, an = some ⟨bn, on, none⟩ ∧ ∀ k, k < G.length → w2.cell? ⟨bn, on + k, none⟩ = some (.int .i64 ((nearL G).getD k 0)) := by
    rcases hdn with e | ⟨b, o, e, hg⟩
    · have := HNL.out; rw [e] at this; simp at this; omega
    · exact ⟨b, o, e, fun k hk => hg k (by rw [HNL.out]; exact hk)⟩
  have h00 : w2.cell? ⟨bo, oo, none⟩ = some (.int .i64 0) := by
    have := hgo 0 hol0
    obtain ⟨tl, e⟩ := HIO.out.first
    rw [e] at this
    simpa using this
  have HGO := Lib.hid hgo
  have HGN := Lib.hid hgn
  have HCO := Lib.hid hco
  have HCN := Lib.hid hcn
  have hz : ((((orderL G).length : Nat) : Int) == 0) = false := by rw [beq_eq_false_iff_ne]; omega
  have hge : (((G.length : Nat) : Int) != (G.length : Int)) = false := by rw [bne_eq_false_iff_eq]
  clear ho hb hdo hdn hgo hgn
  go_upto_region 8 with (fail)
  have HAT : Hid (AtI (orderL G) G.length 0 (List.replicate G.length 0)) := ⟨by simp, fun x hx => by rw [if_neg (by omega), List.getD_eq_getElem?_getD, List.getElem?_replicate]; split <;> rfl⟩
  have HOW : Hid (gi.Own (w2.alloc (.cells (Array.replicate G.length (Value.int .i64 0)) 3)) w2.heap.size (.slice (some ⟨w2.heap.size, 0, none⟩) G.length G.length) (List.replicate G.length 0)) := by
    have := ow_new (w := w2.alloc (.cells (Array.replicate G.length (Value.int .i64 0)) 3)) (B := w2.heap.size) (g := w2.heap.size) (cap := G.length) (T := 3) (cs := Array.replicate G.length (.int .i64 0)) (Nat.le_refl _) (heap_alloc_new w2 _) (by simp) (by unfold maxLen; omega)
    show gi.Own _ _ _ _
    rw [gi_ow]; simpa using this
  have HBW0 : Hid (Below w2.heap.size w2 (w2.alloc (.cells (Array.replicate G.length (Value.int .i64 0)) 3))) := bnextA (Below.refl _ _) _
  generalize w2.alloc _ = W2 at HOW HBW0 ⊢
  clear hmk h00 hz
  go_wp2
  go_loopw [55] (fun y wr => ∃ (i : Nat) (A : List Int), y = .int .i64 i ∧ i ≤ (orderL G).length ∧ Hid (AtI (orderL G) G.length i A) ∧ Hid (gi.Own wr w2.heap.size (.slice (some ⟨w2.heap.size, 0, none⟩) G.length G.length) A) ∧ Hid (Below w2.heap.size w2 wr)) (fun y _ => (orderL G).length - (intOf y).toNat)
  case atStart => exact ⟨0, _, rfl, Nat.zero_le _, HAT, HOW, HBW0⟩
  case round =>
    clear HAT HOW HBW0
    obtain ⟨i, A, rfl, hi, HAT, HOW, HBW⟩ := hrel
    by_cases hlt : i < (orderL G).length
    · have hilt : (i : Int) < (orderL G).length := by omega
      have g1 := HGO.out i hlt
      rw [← HBW.out.cell (p := ⟨bo, oo + i, none⟩) (World.block_lt_of_cell? w2 _ g1), List.getD_eq_getElem?_getD, List.getElem?_eq_getElem hlt] at g1
      change wr.cell? ⟨bo, oo + i, none⟩ = some (.int .i64 ((orderL G)[i] : Nat)) at g1
      have hx : (orderL G)[i] < G.length := ((HIO.out.mem _).1 (List.getElem_mem hlt)).lt
      obtain ⟨hz0, hst⟩ := HAT.out.step HIO.out.nodup hlt hx
      have hix : (orderL G).idxOf (orderL G)[i] = i := HIO.out.nodup.idxOf_getElem _ hlt
      have hx0 : (orderL G)[i] = 0 → i = 0 := fun e => by
        rw [e] at hix
        obtain ⟨tl, et⟩ := HIO.out.first
        rw [et] at hix; simpa using hix.symm
      have a1 : wr.cell? ⟨w2.heap.size, (orderL G)[i], none⟩ = some (.int .i64 (A.getD (orderL G)[i] 0)) := (gi_ow.1 HOW.out).cell (gi.get_map (by rw [HAT.out.1]; exact hx))
      rw [hz0] at a1
      have a2 := (gi_ow.1 HOW.out).fz (orderL G)[i]
      have hS := (gi_ow.1 HOW.out).stored (orderL G)[i] (.int .i64 ((i : Int) + 1))
      have HNW := Lib.hid (below_grown HBW.out hS.2 HBW.out.size (fun j hj => by have hj : w2.heap.size = j := Option.some.inj hj; omega))
      have HNO : Hid (gi.Own (wr.setCell ⟨w2.heap.size, (orderL G)[i], none⟩ (.int .i64 ((i : Int) + 1))) w2.heap.size (.slice (some ⟨w2.heap.size, 0, none⟩) G.length G.length) (A.set (orderL G)[i] ((i : Int) + 1))) := by
        show gi.Own _ _ _ _
        rw [gi_ow, List.map_set]; exact hS.1
      have HNA := Lib.hid hst
      have hco := HCO.out
      clear hS hst hz0 hix
      generalize (orderL G)[i] = x at g1 hx a1 a2 HNW HNO HNA hx0
      have hxi : (x : Int) < G.length := by omega
      by_cases h0 : x = 0
      · have hi0 := hx0 h0
        have hxe : ((x : Int) == 0) = true := by rw [beq_iff_eq]; omega
        have hig : ¬ (0 : Int) < (i : Int) := by omega
        clear hx0 hi0 h0
        go_wp2
        exact ⟨⟨i + 1, _, by go_num, by omega, HNA, HNO, HNW⟩, by simp [intOf]; omega⟩
      · have hxe : ((x : Int) == 0) = false := by rw [beq_eq_false_iff_ne]; omega
        clear hx0 h0
        go_wp2
        exact ⟨⟨i + 1, _, by go_num, by omega, HNA, HNO, HNW⟩, by simp [intOf]; omega⟩
    · obtain rfl : i = (orderL G).length := by omega
      have HBO := Lib.hid (fun (x : Nat) hx => behind_of HWF.out HAT.out (x := x) hx)
      have HAC : Hid (∀ y : World, Below wr.heap.size wr y → ∀ k, k < G.length → y.cell? ⟨w2.heap.size, k, none⟩ = some (.int .i64 (A.getD k 0))) := fun y hb k hk => by
        have h1 := (gi_ow.1 HOW.out).cell (gi.get_map (l := A) (k := k) (by rw [HAT.out.1]; exact hk))
        exact grown_cell (grown_of hb : wr.grownBy y none) h1 (by simp)
      have HOLD := Lib.hid (fun (y : World) (hb : Below wr.heap.size wr y) => HBW.out.trans (hb.mono HBW.out.size))
      have hcn := HCN.out
      clear HAT HOW
      go_wp2
      go_loopw [91] (fun y wx => ∃ x : Nat, y = .int .i64 x ∧ x ≤ G.length ∧ Hid (Below wr.heap.size wr wx)) (fun y _ => G.length - (intOf y).toNat)
      case atStart => exact ⟨0, rfl, Nat.zero_le _, Lib.hid (Below.refl _ _)⟩
      case round =>
        obtain ⟨x, rfl, hx, HBX⟩ := hrel
        have HO2 := Lib.hid (HOLD.out _ HBX.out)
        by_cases hxt : x < G.length
        · have hxi : (x : Int) < G.length := by omega
          have g1 := HGN.out x hxt
          rw [← HO2.out.cell (p := ⟨bn, on + x, none⟩) (World.block_lt_of_cell? w2 _ g1)] at g1
          have a1 := HAC.out _ HBX.out x hxt
          rcases HBO.out x hxt with ⟨hd, hor⟩ | ⟨m, hd, hm, hax, ham, hlt⟩
          · rw [hd] at g1
            clear hd
            have hgm : ¬ (G.length : Int) ≤ -1 := by omega
            by_cases h0 : x = 0
            · have hxe : ((x : Int) != 0) = false := by rw [bne_eq_false_iff_eq]; omega
              generalize A.getD x 0 = ax at a1 hor
              clear h0 hor
              go_wp2
              (refine wp_region_quiet_lit (by kernel_rfl) (by kernel_rfl) ?_; (repeat (first | go_big_quiet_step (fail) | (refine wpQuiet_step (fun K hK => ?_); go_simp; (refine hK _ ?_; clear hK K)))); refine wpQuiet_nil ?_; intro _ hw'; obtain ⟨nq, hw''⟩ := hw'; subst hw'')
              go_wp2
              exact ⟨⟨x + 1, by go_num, by omega, Lib.hid (HBX.out.trans (belowN _ _))⟩, by simp [intOf]; omega⟩
            · have hxe : ((x : Int) != 0) = true := by rw [bne_iff_ne]; omega
              have ha0 : A.getD x 0 = 0 := hor.resolve_left h0
              rw [ha0] at a1
              clear ha0 hor h0
              go_wp2
              (refine wp_region_quiet_lit (by kernel_rfl) (by kernel_rfl) ?_; (repeat (first | go_big_quiet_step (fail) | (refine wpQuiet_step (fun K hK => ?_); go_simp; (refine hK _ ?_; clear hK K)))); refine wpQuiet_nil ?_; intro _ hw'; obtain ⟨nq, hw''⟩ := hw'; subst hw'')
              go_wp2
              exact ⟨⟨x + 1, by go_num, by omega, Lib.hid (HBX.out.trans (belowN _ _))⟩, by simp [intOf]; omega⟩
          · rw [hd] at g1
            have a2 := HAC.out _ HBX.out m hm
            have hmi : (m : Int) < G.length := by omega
            have hgm : ¬ G.length ≤ m := by omega
            have hm0 : (0 : Int) ≤ (m : Int) := by omega
            have hm1 : ¬ (m : Int) < 0 := by omega
            have e1 : (A.getD x 0 == 0) = false := by rw [beq_eq_false_iff_ne]; exact hax
            have e2 : (A.getD m 0 == 0) = false := by rw [beq_eq_false_iff_ne]; exact ham
            have e3 : ¬ A.getD x 0 ≤ A.getD m 0 := by omega
            generalize A.getD x 0 = ax at a1 e1 e3
            generalize A.getD m 0 = am at a2 e2 e3
            clear hd hax ham hlt
            go_wp2
            (refine wp_region_quiet_lit (by kernel_rfl) (by kernel_rfl) ?_; (repeat (first | go_big_quiet_step (fail) | (refine wpQuiet_step (fun K hK => ?_); go_simp; (refine hK _ ?_; clear hK K)))); refine wpQuiet_nil ?_; intro _ hw'; obtain ⟨nq, hw''⟩ := hw'; subst hw'')
            go_wp2
            exact ⟨⟨x + 1, by go_num, by omega, Lib.hid (HBX.out.trans (belowN _ _))⟩, by simp [intOf]; omega⟩
        · obtain rfl : x = G.length := by omega
          go_wp2_with fail
          refine (HA.out _).mono ?_
          rintro e w7 ⟨rfl, hb⟩
          go_wp2
          go_ret
          have h1 := HB2.out.trans (HO2.out.mono HB2.out.size)
          exact ⟨rfl, h1.trans (hb.mono h1.size)⟩

theorem behind7_any (v : Value) (L : List (List Int)) (w : World) (h : RdG w v L) (hl : L.length ≤ 140737488351232) :
    Calls Try.prog 7 #[v] w fun e w' => e = .returned (.bool true) ∧ Below w.heap.size w w' := by
  cases hr : rightB L with
  | false => exact behind_bad v L w h hl hr
  | true =>
    obtain ⟨G, rfl, F⟩ := natG_rd h hr
    exact behind_good v G F w h hr

-- LAW
set_option maxRecDepth 100000 in
theorem behind7_lifted (os : Os) (started : os.Started) (H : Type) (enc : TypeId × Value → H) :
    ReturnsInHanded {} Try.checked os 7 .any (Rows.graphBehindSpec.pre6 enc Try.prog Try.f7 Rows.graphBehindRow.domain false) (Rows.graphBehindSpec.post enc Try.prog Try.f7 false true false false) := by
  refine returnsInHanded_of_change_sized (C := Try.checked) own started (by kernel_rfl) Try.func7
    (ChangeSpec.witness6 (enc := enc) (C := Try.checked) false ⟨#[], #[.slice none 0 0], []⟩ 8 (by kernel_rfl) (by kernel_rfl) (by kernel_rfl) (by kernel_rfl)) ?_
  intro W base args ds gs before hval0 hW _ hsz0 _
  have hsz : (DataW.weightsEach Try.prog (Try.f7.params.toList ++ Rows.graphBehindSpec.plain.varTypes Try.prog) (ds ++ gs)).all (· ≤ reachBytes) = true := hsz0
  clear hsz0
  have hval : ∀ (j : Nat) t v, Try.f7.params[j]? = some t → args[j]? = some v → Value.okWide Try.prog W .any base t v := hval0
  clear hval0
  have hW' := hW
  obtain ⟨p, q, hA0, hV, rfl, _, _⟩ := hW
  have hA : DataW.TrodAll enc Try.prog W 0 (fun _ => true) true Try.f7.params.toList args.toList ds p := hA0
  rw [Try.params7] at hA hval hsz
  obtain ⟨v0, vs0, d0, ds0, p0, q0, hargs, rfl, rfl, h0, r0⟩ := trodAll_cons hA
  obtain ⟨rfl, rfl, rfl⟩ := trodAll_nil r0
  obtain rfl : args = #[v0] := by cases args; simp_all
  obtain ⟨rfl, rfl⟩ := trodVars_none hV
  obtain ⟨l0, hr0, hl0⟩ := open_graph (hval 0 22 v0 rfl rfl) h0 (fun elems spare hd => sized_slice hsz (j := 0) (t := 22) (e := 23) rfl (by rw [hd]; rfl) Try.underlying22)
  refine (behind7_any v0 l0 W hr0 hl0).mono fun e W' ⟨he, hb⟩ => ?_
  subst he
  exact ⟨_, rfl, law_done rfl rfl (by rw [Try.params7]; intro t ht; simp at ht; subst ht; exact ⟨by kernel_rfl, of_decide_eq_true (by kernel_rfl)⟩) hW' rfl rfl rfl hb⟩

theorem behind7_holds : Rows.GraphBehindSaid :=
  OpenClaim.holds_of_wide 7 Try.f7 rfl rfl rfl rfl rfl rfl rfl ⟨rfl, rfl, rfl, rfl, rfl⟩ rfl rfl rfl rfl rfl (by kernel_rfl) Try.func7 (by kernel_rfl)
    (of_decide_eq_true (by kernel_rfl)) (by unfold Func.isWrapper; first | (rw [if_pos (by decide +kernel)]; kernel_rfl) | (rw [if_neg (by decide +kernel)]; exact ⟨rfl, rfl⟩))
    (fun os started H enc _ => behind7_lifted os started H enc)
end Go.Proofs.Ytcghekbbaeejaaa.gr
