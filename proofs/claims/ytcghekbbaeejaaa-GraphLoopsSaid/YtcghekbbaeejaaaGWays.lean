/- GraphWays: whatever the graph and the node, by the program's nearest dominators the node dominates another one just if without it that is not reached. -/
import Derived.Test.YtcghekbbaeejaaaGBehind
import Derived.Deep.RegionHeld3
set_option linter.unusedVariables false
set_option linter.unusedSimpArgs false
namespace Go.Proofs.Ytcghekbbaeejaaa.gr
open Go.ChangeShapes Go.WideShapes Go.ChangeAt Go.RowKit Go.Proofs.Ytcghekbbaeejaaa.Gr

/-- by the nearest ones a is met on the way from b just if it dominates b, or is b -/
theorem dm_near {G : List (List Nat)} (wf : WF G) {a : Nat} : ∀ (k b : Nat), b < G.length → (orderL G).idxOf b ≤ k → (Reached G b → True) → dm (nearL G) (a : Int) k (b : Int) = true → a = b ∨ Dom G a b
  | 0, b, hb, hk, _, h => by
    left
    have : (b : Int) = (a : Int) := by simpa [dm] using h
    omega
  | k + 1, b, hb, hk, _, h => by
    have hN := nearL_is wf
    have ho := order_is G wf.pos
    by_cases e : b = a
    · exact .inl e.symm
    · have hne : (b : Int) ≠ (a : Int) := by omega
      rw [dm_step hne (by rw [hN.len]; omega), Int.toNat_natCast, getD_dflt (by rw [hN.len]; exact hb) 0 (-1)] at h
      by_cases hr : b = 0 ∨ ¬ Reached G b
      · rw [hN.none b hr] at h
        rw [dm_out (by omega) (by omega)] at h; cases h
      · have hb0 : b ≠ 0 := fun e => hr (.inl e)
        have hbr : Reached G b := Classical.byContradiction fun e => hr (.inr e)
        obtain ⟨m, em, hmn, hmd, _⟩ := hN.some b hbr hb0
        rw [em] at h
        obtain ⟨km, hkm⟩ := hmd.left
        have hlt := dom_before wf ho ((orderL G).idxOf b + 1) b m (by omega) ((ho.mem b).2 hbr) hmd hmn
        rcases dm_near wf k m (hkm.lt wf) (by omega) (fun _ => trivial) h with rfl | h'
        · exact .inr hmd
        · exact .inr (h'.trans hmd)
theorem near_dm {G : List (List Nat)} (wf : WF G) {a : Nat} : ∀ (k b : Nat), b < G.length → (orderL G).idxOf b ≤ k → a = b ∨ Dom G a b → dm (nearL G) (a : Int) k (b : Int) = true
  | 0, b, hb, hk, h => by
    have ho := order_is G wf.pos
    rcases h with rfl | h
    · simp [dm]
    · have hbr : Reached G b := (reached_r wf).2 h.1
      have : b = 0 := by
        have h1 := List.idxOf_lt_length_of_mem ((ho.mem b).2 hbr)
        have e1 := List.getElem_idxOf h1
        obtain ⟨tl, et⟩ := ho.first
        have h0 : (orderL G).idxOf b = 0 := by omega
        simp only [h0] at e1
        rw [← e1]; simp [et]
      subst this
      rw [dom_zero h]; simp [dm]
  | k + 1, b, hb, hk, h => by
    have hN := nearL_is wf
    have ho := order_is G wf.pos
    by_cases e : b = a
    · subst e; exact dm_same _ _ _
    · have hd : Dom G a b := h.resolve_left (fun x => e x.symm)
      have hne : (b : Int) ≠ (a : Int) := by omega
      have hbr : Reached G b := (reached_r wf).2 hd.1
      have hb0 : b ≠ 0 := fun e0 => by subst e0; exact e (dom_zero hd).symm
      obtain ⟨m, em, hmn, hmd, hmax⟩ := hN.some b hbr hb0
      rw [dm_step hne (by rw [hN.len]; omega), Int.toNat_natCast, getD_dflt (by rw [hN.len]; exact hb) 0 (-1), em]
      obtain ⟨km, hkm⟩ := hmd.left
      have hlt := dom_before wf ho ((orderL G).idxOf b + 1) b m (by omega) ((ho.mem b).2 hbr) hmd hmn
      exact near_dm wf k m (hkm.lt wf) (by omega) (.inr (hmax a hd (Ne.symm e)))
/-- what Dominates answers over the nearest ones -/
theorem domB_near {G : List (List Nat)} (F : Fine G) {a b : Nat} (ha : a < G.length) (hb : b < G.length) : domB (nearL G) (a : Int) (b : Int) = true ↔ a = b ∨ Dom G a b := by
  have hN := nearL_is F.wf
  have ho := order_is G F.wf.pos
  have hk : (orderL G).idxOf b ≤ 256 := by
    have h1 := nodup_le G.length (orderL G) ho.nodup (fun y hy => ((ho.mem y).1 hy).lt)
    have h2 : (orderL G).idxOf b ≤ (orderL G).length := List.idxOf_le_length
    have := F.n; omega
  unfold domB
  rw [if_pos (by rw [hN.len]; omega)]
  exact ⟨fun h => dm_near F.wf 256 b hb hk (fun _ => trivial) h, fun h => near_dm F.wf 256 b hb hk h⟩
/-- .. as the law asks it -/
theorem ways_eq {G : List (List Nat)} (F : Fine G) {a b : Nat} (ha : a < G.length) (hb : b < G.length) :
    domB (nearL G) (a : Int) (b : Int) = ((((wo G (-1)).getD a false && (wo G (-1)).getD b false) && !(wo G (a : Int)).getD b false) || decide (a = b)) := by
  rw [Bool.eq_iff_iff, domB_near F ha hb, Bool.or_eq_true, decide_eq_true_eq]
  have h := tB_iff F.wf (a := a) (b := b) ha
  unfold tB allB woB at h
  rw [← h, Bool.and_assoc]
  exact or_comm

set_option maxRecDepth 100000 in
set_option maxHeartbeats 8000000 in
theorem ways_bad (v : Value) (L : List (List Int)) (a : Int) (w : World) (h : RdG w v L) (hl : L.length ≤ 140737488351232) (hr : rightB L = false) :
    Calls Try.prog 8 #[v, .int .i64 a] w fun e w' => e = .returned (.bool true) ∧ Below w.heap.size w w' := by
  have HA := Lib.hid (alive_any w)
  have H2 := Lib.hid (near_bad v L w h hl hr)
  clear h hr
  go_enter Try.func8, Try.ntmps8
  go_wp2_with fail
  refine H2.out.mono ?_
  rintro e w1 ⟨rfl, rfl⟩
  go_wp2_with fail
  refine HA.out.mono ?_
  rintro e w2 ⟨rfl, hb⟩
  go_wp2
  go_ret
  exact ⟨rfl, hb⟩

set_option maxRecDepth 100000 in
set_option maxHeartbeats 16000000 in
theorem ways_good (v : Value) (G : List (List Nat)) (F : Fine G) (a : Int) (ha : -9223372036854775808 ≤ a ∧ a < 9223372036854775808) (w : World) (h : RdG w v (upp G)) (hr : rightB (upp G) = true) :
    Calls Try.prog 8 #[v, .int .i64 a] w fun e w' => e = .returned (.bool true) ∧ Below w.heap.size w w' := by
  have HA := Lib.hid (fun w' => alive_any w')
  have H1 := Lib.hid (Near_any v G F w h hr)
  have H2 := Lib.hid (fun w' h' => refRight_any v (upp G) w' h' (by rw [upp_len]; have := F.n; omega))
  rw [hr] at H2
  have HWO := Lib.hid (fun a h1 h2 w' hw => without_any v G F.wf F.n F.e a h1 h2 w' hw)
  have HH := Lib.hid h
  have HF := Lib.hid F
  have hn := F.n
  have hp := F.wf.pos
  obtain ⟨ag, cg, rfl, _, _, _⟩ := h
  rw [upp_len] at H1 H2 HWO HH ⊢
  have hpn : (0 : Int) < G.length := by omega
  obtain ⟨r, hr1, hr2, hr3, hr4⟩ : ∃ r : Int, a.tmod (G.length : Int) = r ∧ -256 < r ∧ r < 256 ∧ -(G.length : Int) < r := ⟨_, rfl, by have := Int.lt_tmod_of_pos a hpn; omega, by have := Int.tmod_lt_of_pos a hpn; omega, Int.lt_tmod_of_pos a hpn⟩
  obtain ⟨q, hq1, hq2⟩ : ∃ q : Nat, (r + (G.length : Int)).tmod (G.length : Int) = (q : Int) ∧ q < G.length := by
    have h1 := Int.tmod_lt_of_pos (r + (G.length : Int)) hpn
    have h2 := Int.tmod_nonneg (a := r + (G.length : Int)) (G.length : Int) (by omega)
    exact ⟨((r + (G.length : Int)).tmod (G.length : Int)).toNat, by omega, by omega⟩
  have HWE := Lib.hid (fun (b : Nat) hb => ways_eq F (a := q) (b := b) hq2 hb)
  have HDO := Lib.hid (fun w' v' (b : Nat) h' => dominates_any v' (nearL G) (q : Int) (b : Int) w' h' (by have := nearI_len G G.length; show (nearI G G.length).length ≤ _; omega))
  clear hr F
  go_enter Try.func8, Try.ntmps8
  go_wp2_with fail
  refine H1.out.mono ?_
  rintro e w1 ⟨n1, rfl, ho, hb⟩
  have HN1 := Lib.hid ho.rd
  have HB1 := Lib.hid hb
  have HH1 := Lib.hid (HH.out.lift hb)
  clear ho hb
  go_wp2_with fail
  refine (H2.out _ HH1.out).mono ?_
  rintro e w2 ⟨rfl, rfl⟩
  go_wp2_with fail
  refine (HWO.out (-1) (by omega) (by omega) _ HH1.out).mono ?_
  rintro e w2 ⟨g1, rfl, ho, hb⟩
  have HA1 := Lib.hid (fun b hb' => wo_cell HF.out.wf (by omega) ho (b := b) hb')
  have HB2 := Lib.hid hb
  have HH2 := Lib.hid (HH1.out.lift hb)
  clear ho hb
  go_wp2_with fail
  refine (HWO.out (q : Int) (by omega) (by omega) _ HH2.out).mono ?_
  rintro e w3 ⟨g2, rfl, ho, hb⟩
  have HA2 := Lib.hid (fun b hb' => wo_cell HF.out.wf (by omega) ho (b := b) hb')
  have HA13 : Hid (∀ b, b < G.length → w3.cell? ⟨g1, b, none⟩ = some (.bool ((wo G (-1)).getD b false))) := fun b hb' => grown_cell (grown_of hb : w2.grownBy w3 none) (HA1.out b hb') (by simp)
  have HN3 := Lib.hid ((HN1.out.lift HB2.out).lift hb)
  have HB3 := Lib.hid ((HB1.out.trans (HB2.out.mono HB1.out.size)).trans (hb.mono (Nat.le_trans HB1.out.size HB2.out.size)))
  clear ho hb HA1 HN1
  go_wp2_with fail
  go_loopw [44] (fun y wr => ∃ b : Nat, y = .int .i64 b ∧ b ≤ G.length ∧ Hid (Below w3.heap.size w3 wr)) (fun y _ => G.length - (intOf y).toNat)
  case atStart => exact ⟨0, rfl, Nat.zero_le _, Lib.hid (Below.refl _ _)⟩
  case round =>
    obtain ⟨b, rfl, hb, HBW⟩ := hrel
    by_cases hlt : b < G.length
    · have hblt : (b : Int) < G.length := by omega
      have hqi : (q : Int) < G.length := by omega
      have wc : ∀ (g k : Nat) (u : Value), w3.cell? ⟨g, k, none⟩ = some u → wr.cell? ⟨g, k, none⟩ = some u := fun g k u hu => grown_cell (grown_of HBW.out : w3.grownBy wr none) hu (by simp)
      have c1 := wc _ _ _ (HA13.out q hq2)
      have c2 := wc _ _ _ (HA13.out b hlt)
      have c3 := wc _ _ _ (HA2.out b hlt)
      have HDC := Lib.hid (fun n => HDO.out (wr.drewN n) n1 b ((HN3.out.lift HBW.out).lift (belowN _ _)))
      have hwe := HWE.out b hlt
      rw [hwe] at HDC
      generalize (wo G (-1)).getD q false = x1 at c1 HDC
      generalize (wo G (-1)).getD b false = x2 at c2 HDC
      generalize (wo G (q : Int)).getD b false = x3 at c3 HDC
      clear wc hwe
      cases x1 with
      | false =>
        by_cases hqb : q = b
        · have hqd : decide (q = b) = true := decide_eq_true hqb
          have hqe : ((q : Int) == (b : Int)) = true := by rw [beq_iff_eq]; omega
          clear hqb
          have HDE : Hid (∀ n, Calls Try.prog 20 #[n1, .int .i64 (q : Nat), .int .i64 (b : Nat)] (wr.drewN n) fun e w' => e = .returned (.bool true) ∧ ∃ m, w' = wr.drewN m) := fun n => by have h := HDC.out n; simp [hqd] at h; exact h.mono fun e w' h => ⟨h.1, n, h.2.symm⟩
          clear hqd HDC
          go_wp2
          (refine wp_region_quiet_lit (by kernel_rfl) (by kernel_rfl) ?_; (repeat (first | go_big_quiet_step (exact HDE.out _) | (refine wpQuiet_step (fun K hK => ?_); go_simp; (refine hK _ ?_; clear hK K)))); refine wpQuiet_nil ?_; intro _ hw'; obtain ⟨nq, hw''⟩ := hw'; subst hw'')
          go_wp2
          exact ⟨⟨b + 1, by go_num, by omega, Lib.hid (HBW.out.trans (belowN _ _))⟩, by simp [intOf]; omega⟩
        · have hqd : decide (q = b) = false := decide_eq_false hqb
          have hqe : ((q : Int) == (b : Int)) = false := by rw [beq_eq_false_iff_ne]; omega
          clear hqb
          have HDE : Hid (∀ n, Calls Try.prog 20 #[n1, .int .i64 (q : Nat), .int .i64 (b : Nat)] (wr.drewN n) fun e w' => e = .returned (.bool false) ∧ ∃ m, w' = wr.drewN m) := fun n => by have h := HDC.out n; simp [hqd] at h; exact h.mono fun e w' h => ⟨h.1, n, h.2.symm⟩
          clear hqd HDC
          go_wp2
          (refine wp_region_quiet_lit (by kernel_rfl) (by kernel_rfl) ?_; (repeat (first | go_big_quiet_step (exact HDE.out _) | (refine wpQuiet_step (fun K hK => ?_); go_simp; (refine hK _ ?_; clear hK K)))); refine wpQuiet_nil ?_; intro _ hw'; obtain ⟨nq, hw''⟩ := hw'; subst hw'')
          go_wp2
          exact ⟨⟨b + 1, by go_num, by omega, Lib.hid (HBW.out.trans (belowN _ _))⟩, by simp [intOf]; omega⟩
      | true =>
        cases x2 with
        | false =>
          by_cases hqb : q = b
          · have hqd : decide (q = b) = true := decide_eq_true hqb
            have hqe : ((q : Int) == (b : Int)) = true := by rw [beq_iff_eq]; omega
            clear hqb
            have HDE : Hid (∀ n, Calls Try.prog 20 #[n1, .int .i64 (q : Nat), .int .i64 (b : Nat)] (wr.drewN n) fun e w' => e = .returned (.bool true) ∧ ∃ m, w' = wr.drewN m) := fun n => by have h := HDC.out n; simp [hqd] at h; exact h.mono fun e w' h => ⟨h.1, n, h.2.symm⟩
            clear hqd HDC
            go_wp2
            (refine wp_region_quiet_lit (by kernel_rfl) (by kernel_rfl) ?_; (repeat (first | go_big_quiet_step (exact HDE.out _) | (refine wpQuiet_step (fun K hK => ?_); go_simp; (refine hK _ ?_; clear hK K)))); refine wpQuiet_nil ?_; intro _ hw'; obtain ⟨nq, hw''⟩ := hw'; subst hw'')
            go_wp2
            exact ⟨⟨b + 1, by go_num, by omega, Lib.hid (HBW.out.trans (belowN _ _))⟩, by simp [intOf]; omega⟩
          · have hqd : decide (q = b) = false := decide_eq_false hqb
            have hqe : ((q : Int) == (b : Int)) = false := by rw [beq_eq_false_iff_ne]; omega
            clear hqb
            have HDE : Hid (∀ n, Calls Try.prog 20 #[n1, .int .i64 (q : Nat), .int .i64 (b : Nat)] (wr.drewN n) fun e w' => e = .returned (.bool false) ∧ ∃ m, w' = wr.drewN m) := fun n => by have h := HDC.out n; simp [hqd] at h; exact h.mono fun e w' h => ⟨h.1, n, h.2.symm⟩
            clear hqd HDC
            go_wp2
            (refine wp_region_quiet_lit (by kernel_rfl) (by kernel_rfl) ?_; (repeat (first | go_big_quiet_step (exact HDE.out _) | (refine wpQuiet_step (fun K hK => ?_); go_simp; (refine hK _ ?_; clear hK K)))); refine wpQuiet_nil ?_; intro _ hw'; obtain ⟨nq, hw''⟩ := hw'; subst hw'')
            go_wp2
            exact ⟨⟨b + 1, by go_num, by omega, Lib.hid (HBW.out.trans (belowN _ _))⟩, by simp [intOf]; omega⟩
        | true =>
          cases x3 with
          | true =>
            by_cases hqb : q = b
            · have hqd : decide (q = b) = true := decide_eq_true hqb
              have hqe : ((q : Int) == (b : Int)) = true := by rw [beq_iff_eq]; omega
              clear hqb
              have HDE : Hid (∀ n, Calls Try.prog 20 #[n1, .int .i64 (q : Nat), .int .i64 (b : Nat)] (wr.drewN n) fun e w' => e = .returned (.bool true) ∧ ∃ m, w' = wr.drewN m) := fun n => by have h := HDC.out n; simp [hqd] at h; exact h.mono fun e w' h => ⟨h.1, n, h.2.symm⟩
              clear hqd HDC
              go_wp2
              (refine wp_region_quiet_lit (by kernel_rfl) (by kernel_rfl) ?_; (repeat (first | go_big_quiet_step (exact HDE.out _) | (refine wpQuiet_step (fun K hK => ?_); go_simp; (refine hK _ ?_; clear hK K)))); refine wpQuiet_nil ?_; intro _ hw'; obtain ⟨nq, hw''⟩ := hw'; subst hw'')
              go_wp2
              exact ⟨⟨b + 1, by go_num, by omega, Lib.hid (HBW.out.trans (belowN _ _))⟩, by simp [intOf]; omega⟩
            · have hqd : decide (q = b) = false := decide_eq_false hqb
              have hqe : ((q : Int) == (b : Int)) = false := by rw [beq_eq_false_iff_ne]; omega
              clear hqb
              have HDE : Hid (∀ n, Calls Try.prog 20 #[n1, .int .i64 (q : Nat), .int .i64 (b : Nat)] (wr.drewN n) fun e w' => e = .returned (.bool false) ∧ ∃ m, w' = wr.drewN m) := fun n => by have h := HDC.out n; simp [hqd] at h; exact h.mono fun e w' h => ⟨h.1, n, h.2.symm⟩
              clear hqd HDC
              go_wp2
              (refine wp_region_quiet_lit (by kernel_rfl) (by kernel_rfl) ?_; (repeat (first | go_big_quiet_step (exact HDE.out _) | (refine wpQuiet_step (fun K hK => ?_); go_simp; (refine hK _ ?_; clear hK K)))); refine wpQuiet_nil ?_; intro _ hw'; obtain ⟨nq, hw''⟩ := hw'; subst hw'')
              go_wp2
              exact ⟨⟨b + 1, by go_num, by omega, Lib.hid (HBW.out.trans (belowN _ _))⟩, by simp [intOf]; omega⟩
          | false =>
            have hqd : True := trivial
            have HDE : Hid (∀ n, Calls Try.prog 20 #[n1, .int .i64 (q : Nat), .int .i64 (b : Nat)] (wr.drewN n) fun e w' => e = .returned (.bool true) ∧ ∃ m, w' = wr.drewN m) := fun n => by have h := HDC.out n; simp [hqd] at h; exact h.mono fun e w' h => ⟨h.1, n, h.2.symm⟩
            clear hqd HDC
            go_wp2
            (refine wp_region_quiet_lit (by kernel_rfl) (by kernel_rfl) ?_; (repeat (first | go_big_quiet_step (exact HDE.out _) | (refine wpQuiet_step (fun K hK => ?_); go_simp; (refine hK _ ?_; clear hK K)))); refine wpQuiet_nil ?_; intro _ hw'; obtain ⟨nq, hw''⟩ := hw'; subst hw'')
            go_wp2
            exact ⟨⟨b + 1, by go_num, by omega, Lib.hid (HBW.out.trans (belowN _ _))⟩, by simp [intOf]; omega⟩
    · obtain rfl : b = G.length := by omega
      go_wp2_with fail
      refine (HA.out _).mono ?_
      rintro e w7 ⟨rfl, hb⟩
      go_wp2
      go_ret
      have h1 := HB3.out.trans (HBW.out.mono HB3.out.size)
      exact ⟨rfl, h1.trans (hb.mono h1.size)⟩
theorem ways7_any (v : Value) (L : List (List Int)) (a : Int) (w : World) (h : RdG w v L) (hl : L.length ≤ 140737488351232) (ha : -9223372036854775808 ≤ a ∧ a < 9223372036854775808) :
    Calls Try.prog 8 #[v, .int .i64 a] w fun e w' => e = .returned (.bool true) ∧ Below w.heap.size w w' := by
  cases hr : rightB L with
  | false => exact ways_bad v L a w h hl hr
  | true =>
    obtain ⟨G, rfl, F⟩ := natG_rd h hr
    exact ways_good v G F a ha w h hr

-- LAW
set_option maxRecDepth 100000 in
theorem ways7_lifted (os : Os) (started : os.Started) (H : Type) (enc : TypeId × Value → H) :
    ReturnsInHanded {} Try.checked os 8 .any (Rows.graphWaysSpec.pre6 enc Try.prog Try.f8 Rows.graphWaysRow.domain false) (Rows.graphWaysSpec.post enc Try.prog Try.f8 false true false false) := by
  refine returnsInHanded_of_change_sized (C := Try.checked) own started (by kernel_rfl) Try.func8
    (ChangeSpec.witness6 (enc := enc) (C := Try.checked) false ⟨#[], #[.slice none 0 0, .int .i64 0], []⟩ 8 (by kernel_rfl) (by kernel_rfl) (by kernel_rfl) (by kernel_rfl)) ?_
  intro W base args ds gs before hval0 hW _ hsz0 _
  have hsz : (DataW.weightsEach Try.prog (Try.f8.params.toList ++ Rows.graphWaysSpec.plain.varTypes Try.prog) (ds ++ gs)).all (· ≤ reachBytes) = true := hsz0
  clear hsz0
  have hval : ∀ (j : Nat) t v, Try.f8.params[j]? = some t → args[j]? = some v → Value.okWide Try.prog W .any base t v := hval0
  clear hval0
  have hW' := hW
  obtain ⟨p, q, hA0, hV, rfl, _, _⟩ := hW
  have hA : DataW.TrodAll enc Try.prog W 0 (fun _ => true) true Try.f8.params.toList args.toList ds p := hA0
  rw [Try.params8] at hA hval hsz
  obtain ⟨v0, vs0, d0, ds0, p0, q0, hargs, rfl, rfl, h0, r0⟩ := trodAll_cons hA
  obtain ⟨v1, vs1, d1, ds1, p1, q1, rfl, rfl, rfl, h1, r1⟩ := trodAll_cons r0
  obtain ⟨rfl, rfl, rfl⟩ := trodAll_nil r1
  obtain rfl : args = #[v0, v1] := by cases args; simp_all
  obtain ⟨rfl, rfl⟩ := trodVars_none hV
  obtain ⟨l0, hr0, hl0⟩ := open_graph (hval 0 22 v0 rfl rfl) h0 (fun elems spare hd => sized_slice hsz (j := 0) (t := 22) (e := 23) rfl (by rw [hd]; rfl) Try.underlying22)
  obtain ⟨n1, rfl, rfl, rfl, wn1⟩ := open_int Try.underlying3 (hval 1 3 v1 rfl rfl) h1
  have hn1 : -9223372036854775808 ≤ n1 ∧ n1 < 9223372036854775808 := by
    simp [Lit.wf, IntKind.min, IntKind.max, IntKind.signed, IntKind.bits] at wn1; omega
  refine (ways7_any v0 l0 n1 W hr0 hl0 hn1).mono fun e W' ⟨he, hb⟩ => ?_
  subst he
  exact ⟨_, rfl, law_done rfl rfl (by rw [Try.params8]; intro t ht; simp at ht; rcases ht with rfl | rfl <;> exact ⟨by kernel_rfl, of_decide_eq_true (by kernel_rfl)⟩) hW' rfl rfl rfl hb⟩

theorem ways7_holds : Rows.GraphWaysSaid :=
  OpenClaim.holds_of_wide 8 Try.f8 rfl rfl rfl rfl rfl rfl rfl ⟨rfl, rfl, rfl, rfl, rfl⟩ rfl rfl rfl rfl rfl (by kernel_rfl) Try.func8 (by kernel_rfl)
    (of_decide_eq_true (by kernel_rfl)) (by unfold Func.isWrapper; first | (rw [if_pos (by decide +kernel)]; kernel_rfl) | (rw [if_neg (by decide +kernel)]; exact ⟨rfl, rfl⟩))
    (fun os started H enc _ => ways7_lifted os started H enc)
end Go.Proofs.Ytcghekbbaeejaaa.gr
