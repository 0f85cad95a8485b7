/- The document's answer of an operator of one number. -/
import Derived.Test.YtmikhbpffmojhaaDoorRefF
import Derived.Test.YtmikhbpffmojhaaDoorRefSig
set_option linter.unusedVariables false
namespace Go.Proofs.YtmikhbpffmojhaaDoor.nm
open Go.RowKit

set_option maxRecDepth 100000 in
set_option maxHeartbeats 4000000 in
theorem refEval_one (op : Int) (v : Value) (l : List Int) (w : World) (r : Rn) (h : runAt op = some r) (hv : Rd .u64 w v l) (hl : ∀ x ∈ l, 0 ≤ x ∧ x < 18446744073709551616) (ht : r.takes = 1) (hn : l.length = 1) :
    Calls Tryd.prog 21 #[.int .i64 op, v] w fun e w' => e = evR (ev op l) ∧ Below w.heap.size w w' := by
  have HS := Lib.hid (refSig_some op w r h)
  rw [if_pos ht] at HS
  obtain ⟨ao, cap, rfl, hcap, _, hc⟩ := hv
  rcases hc with rfl | ⟨bk, off, rfl, hc⟩
  · cases hn
  have Hc := Lib.hid hc
  have HF := Lib.hid (fun t n w' => refFits_any t n w')
  have Hl := Lib.hid hl
  have Hb0 := Lib.hid (made_below w (.cells #[.int .i64 r.of, .int .i64 r.of] 3))
  have Hnot := Lib.hid (fun (hf : ¬ l.all (fits r.of) = true) => ev_not h (fun hh => hf hh.2))
  have HI := Lib.hid (fun a b w' => in_any op a b w')
  have HWd := Lib.hid (fun t w' => refWidth_any t w')
  have hlen : (l.length : Int) = 1 := by omega
  have H := Lib.hid h
  clear hc hl hcap h
  go_enter Tryd.func21, Tryd.ntmps21
  go_wp2_with (go_at_call 11; refine HS.out.mono ?_; rintro e w' ⟨rfl, rfl⟩)
  go_loopw [9] (fun x wr => ∃ i : Nat, x = .int .i64 i ∧ i ≤ 1 ∧ Hid ((l.take i).all (fits r.of) = true) ∧ ∃ m, wr = (w.alloc (.cells #[.int .i64 r.of, .int .i64 r.of] 3)).drewN m) (fun x _ => 1 - (intOf x).toNat)
  case atStart => exact ⟨0, rfl, by omega, by show _ = _; simp, 0, rfl⟩
  case round =>
    obtain ⟨i, rfl, hi, Ht, m, rfl⟩ := hrel
    by_cases hlt : i < 1
    · have hlt' : i < l.length := by omega
      have k0 : (w.alloc (.cells #[.int .i64 r.of, .int .i64 r.of] 3)).cell? ⟨w.heap.size, i, none⟩ = some (.int .i64 r.of) := by
        rw [cell_of_row _ w.heap.size i _ 3 (0, 0) (heap_alloc_new w _)]
        match i, hlt with
        | 0, _ => rfl
      have k1 := keeps Hb0.out (Hc.out i hlt')
      have hx := Hl.out (l.getD i 0) (by rw [List.getD_eq_getElem?_getD, List.getElem?_eq_getElem hlt']; exact List.getElem_mem hlt')
      have hget : l[i]? = some (l.getD i 0) := by rw [List.getD_eq_getElem?_getD, List.getElem?_eq_getElem hlt']; rfl
      have Hget := Lib.hid hget
      have hd : l.drop i = l.getD i 0 :: l.drop (i + 1) := by
        rw [List.drop_eq_getElem_cons hlt', List.getD_eq_getElem?_getD, List.getElem?_eq_getElem hlt']; rfl
      have Hd := Lib.hid hd
      clear hget hd
      generalize l.getD i 0 = x at k1 hx Hget Hd
      have t0 : (0 : Int) ≤ i ∧ (i : Int) < 1 := by omega
      have k0' : ((w.alloc (.cells #[.int .i64 r.of, .int .i64 r.of] 3)).drewN m).cell? ⟨w.heap.size, i, none⟩ = some (.int .i64 r.of) := k0
      have k1' : ((w.alloc (.cells #[.int .i64 r.of, .int .i64 r.of] 3)).drewN m).cell? ⟨bk, off + i, none⟩ = some (.int .u64 x) := k1
      have Hbb := Lib.hid (show Below w.heap.size w ((w.alloc (.cells #[.int .i64 r.of, .int .i64 r.of] 3)).drewN m) from bnext Hb0.out (belowN _ _))
      clear k0 k1
      generalize hwb : (w.alloc (.cells #[.int .i64 r.of, .int .i64 r.of] 3)).drewN m = wb at k0' k1' Hbb ⊢
      have Hwb := Lib.hid hwb
      clear hwb
      generalize w.heap.size = g at k0'
      have HFx := Lib.hid (fun w' => (HF.out r.of x w').mono (fun _ _ ⟨he, hw⟩ => And.intro he hw.symm))
      cases hf : fits r.of x with
      | false =>
        have hall : ¬ l.all (fits r.of) = true := by
          rw [← List.take_append_drop i l, List.all_append, Hd.out, List.all_cons, hf]; simp
        have Hev := Lib.hid (Hnot.out hall)
        rw [hf] at HFx
        clear hall hf
        go_wp2_with fail
        go_quiet ((go_at_call 23; exact Calls.quiet_of_same (HFx.out _)))
        go_wp2
        go_ret2
        exact ⟨by rw [Hev.out]; rfl, bnext Hbb.out (belowN _ _)⟩
      | true =>
        have hnext : (l.take (i + 1)).all (fits r.of) = true := by
          rw [List.take_add_one, Hget.out, List.all_append, Ht.out]; simp [hf]
        have Hnext := Lib.hid hnext
        rw [hf] at HFx
        clear hnext hf
        go_wp2_with fail
        go_quiet ((go_at_call 23; exact Calls.quiet_of_same (HFx.out _)))
        go_wp2
        exact ⟨⟨i + 1, rfl, by omega, Hnext, m + nq, by rw [← Hwb.out, World.drewN_drewN]⟩, by simp only [intOf]; omega⟩
    · have he : i = 1 := by omega
      subst he
      obtain ⟨a, rfl⟩ : ∃ a, l = [a] := by
        match l, hn with
        | [a], _ => exact ⟨a, rfl⟩
      have ha := Hl.out a (by simp)
      have hfa : fits r.of a = true := by
        have h9 : [a].all (fits r.of) = true := Ht.out
        simpa using h9
      have hev := ev_one (a := a) H.out ht (by simp [hfa])
      have c0 := keeps Hb0.out (Hc.out 0 (by simp))
      rw [Nat.add_zero] at c0
      have k0 : (w.alloc (.cells #[.int .i64 r.of, .int .i64 r.of] 3)).cell? ⟨w.heap.size, 0, none⟩ = some (.int .i64 r.of) := by
        rw [cell_of_row _ w.heap.size 0 _ 3 (0, 0) (heap_alloc_new w _)]; rfl
      obtain ⟨hmem, ho1, ho2⟩ := runAt_spec H.out
      have c0' : (w.alloc (.cells #[.int .i64 r.of, .int .i64 r.of] 3)).cell? ⟨bk, off, none⟩ = some (.int .u64 a) := c0
      clear c0
      generalize hW : w.alloc (.cells #[.int .i64 r.of, .int .i64 r.of] 3) = wa at k0 c0' Hb0 ⊢
      clear hW HS
      generalize w.heap.size = g at k0
      generalize hI : inB op = I at HI
      have d0 : (wa.drewN m).cell? ⟨bk, off, none⟩ = some (.int .u64 a) := c0'
      have d2 : (wa.drewN m).cell? ⟨g, 0, none⟩ = some (.int .i64 r.of) := k0
      have d3 : Below w.heap.size w (wa.drewN m) := bnext Hb0.out (belowN _ _)
      have u0 : (0 : Int) < ([a].length : Nat) := by simp
      generalize wa.drewN m = wb at d0 d2 d3 ⊢
      have hg : g < wb.heap.size := World.block_lt_of_cell? wb _ d2
      have hbk : bk < wb.heap.size := World.block_lt_of_cell? wb _ d0
      clear k0 c0' Hb0 Hc Hl Ht hlen hlt hi HF Hnot
      obtain ⟨ha0, ha1⟩ := ha
      have HB := Lib.hid (fun b w' => bool1_any b w')
      rcases run_cases hmem with rfl | rfl | rfl | rfl | rfl | rfl | rfl | rfl | rfl | rfl | rfl | rfl
      · simp only [Rn.first, Rn.last] at ho1 ho2
        have hfa' : a < 4294967296 := of_decide_eq_true hfa
        have d2' : wb.cell? ⟨g, 0, none⟩ = some (.int .i64 127) := d2
        have HWd' : Hid (∀ w', Same 36 #[.int .i64 127] w' (.int .i64 32)) := Lib.hid (fun w' => HWd.out 127 w')
        clear d2 HWd
        obtain rfl : op = 69 := by omega
        have e0 : ev 69 [a] = (raw1 69 32 a % 4294967296, 0) := hev
        have e : ev 69 [a] = (b2i (a == 0), 0) := by
          rw [e0]
          show ((if a = 0 then (1 : Int) else 0) % 4294967296, (0 : Int)) = _
          by_cases h9 : a = 0
          · rw [if_pos h9, h9]; rfl
          · rw [if_neg h9, show (a == 0) = false from by simp [h9]]; rfl
        have i70 : I 70 79 = false := by rw [← hI]; rfl
        have i81 : I 81 90 = false := by rw [← hI]; rfl
        have i103 : I 103 105 = false := by rw [← hI]; rfl
        have i121 : I 121 123 = false := by rw [← hI]; rfl
        have i106 : I 106 120 = false := by rw [← hI]; rfl
        have i124 : I 124 138 = false := by rw [← hI]; rfl
        have He := Lib.hid e
        clear e e0 hev hI hfa hfa'
        go_wp2_with (first
          | (go_at_call 27; refine (HI.out _ _ _).mono ?_; rintro e w' ⟨rfl, rfl⟩)
          | (go_at_call 36; refine (HWd'.out _).mono ?_; rintro e w' ⟨rfl, rfl⟩)
          | (go_at_call 37; refine (HB.out _ _).mono ?_; rintro e w' ⟨rfl, rfl⟩))
        go_ret2
        exact ⟨by rw [He.out]; rfl, d3⟩
      · exact absurd ht (by decide)
      · simp only [Rn.first, Rn.last] at ho1 ho2
        have hfa' : a < 18446744073709551616 := ha1
        have d2' : wb.cell? ⟨g, 0, none⟩ = some (.int .i64 126) := d2
        have HWd' : Hid (∀ w', Same 36 #[.int .i64 126] w' (.int .i64 64)) := Lib.hid (fun w' => HWd.out 126 w')
        clear d2 HWd
        obtain rfl : op = 80 := by omega
        have e0 : ev 80 [a] = (raw1 69 64 a % 4294967296, 0) := hev
        have e : ev 80 [a] = (b2i (a == 0), 0) := by
          rw [e0]
          show ((if a = 0 then (1 : Int) else 0) % 4294967296, (0 : Int)) = _
          by_cases h9 : a = 0
          · rw [if_pos h9, h9]; rfl
          · rw [if_neg h9, show (a == 0) = false from by simp [h9]]; rfl
        have i70 : I 70 79 = false := by rw [← hI]; rfl
        have i81 : I 81 90 = false := by rw [← hI]; rfl
        have i103 : I 103 105 = false := by rw [← hI]; rfl
        have i121 : I 121 123 = false := by rw [← hI]; rfl
        have i106 : I 106 120 = false := by rw [← hI]; rfl
        have i124 : I 124 138 = false := by rw [← hI]; rfl
        have He := Lib.hid e
        clear e e0 hev hI hfa hfa'
        go_wp2_with (first
          | (go_at_call 27; refine (HI.out _ _ _).mono ?_; rintro e w' ⟨rfl, rfl⟩)
          | (go_at_call 36; refine (HWd'.out _).mono ?_; rintro e w' ⟨rfl, rfl⟩)
          | (go_at_call 37; refine (HB.out _ _).mono ?_; rintro e w' ⟨rfl, rfl⟩))
        go_ret2
        exact ⟨by rw [He.out]; rfl, d3⟩
      · exact absurd ht (by decide)
      · simp only [Rn.first, Rn.last] at ho1 ho2
        have hfa' : a < 4294967296 := of_decide_eq_true hfa
        have d2' : wb.cell? ⟨g, 0, none⟩ = some (.int .i64 127) := d2
        have HWd' : Hid (∀ w', Same 36 #[.int .i64 127] w' (.int .i64 32)) := Lib.hid (fun w' => HWd.out 127 w')
        clear d2 HWd
        have hop : op = 103 ∨ op = 104 ∨ op = 105 := by omega
        rcases hop with rfl | rfl | rfl
        · skip
          have e0 : ev 103 [a] = (raw1 103 32 a % 4294967296, 0) := hev
          have hr : 0 ≤ raw1 103 32 a ∧ raw1 103 32 a < 4294967296 := by
              have h8 := Lib.bitLen_le a.toNat 32 (by decide) (by omega)
              show 0 ≤ (32 : Int) - (Lib.bitLen a.toNat : Int) ∧ (32 : Int) - (Lib.bitLen a.toNat : Int) < 4294967296
              omega
          have e : ev 103 [a] = (raw1 103 32 a, 0) := by rw [e0, Int.emod_eq_of_lt hr.1 hr.2]
          have HX : Hid (∀ w', Calls Tryd.prog 39 #[.int .i64 0, .int .u64 a, .int .i64 32] w' fun e w'' => e = .returned (.int .u64 (raw1 103 32 a)) ∧ Below w'.heap.size w' w'') := Lib.hid (by
            obtain ⟨na, rfl⟩ : ∃ n : Nat, a = n := ⟨a.toNat, by omega⟩
            exact fun w' => bits_any 0 na 32 w' (by decide) (by decide) (by omega))
          generalize raw1 103 32 a = x at HX e
          have i70 : I 70 79 = false := by rw [← hI]; rfl
          have i81 : I 81 90 = false := by rw [← hI]; rfl
          have i103 : I 103 105 = true := by rw [← hI]; rfl
          have i121 : I 121 123 = false := by rw [← hI]; rfl
          have i106 : I 106 120 = false := by rw [← hI]; rfl
          have i124 : I 124 138 = false := by rw [← hI]; rfl
          have He := Lib.hid e
          clear e e0 hev hI hfa hfa'
          go_wp2_with (first
            | (go_at_call 27; refine (HI.out _ _ _).mono ?_; rintro e w' ⟨rfl, rfl⟩)
            | (go_at_call 36; refine (HWd'.out _).mono ?_; rintro e w' ⟨rfl, rfl⟩)
            | (go_at_call 39; refine (HX.out _).mono ?_; rintro e w9 ⟨rfl, hb9⟩))
          go_ret2
          exact ⟨by rw [He.out]; rfl, bnext d3 hb9⟩
        · skip
          have e0 : ev 104 [a] = (raw1 104 32 a % 4294967296, 0) := hev
          have hr : 0 ≤ raw1 104 32 a ∧ raw1 104 32 a < 4294967296 := by
              show 0 ≤ (if a = 0 then (32 : Int) else (tz 64 a.toNat : Int)) ∧ (if a = 0 then (32 : Int) else (tz 64 a.toNat : Int)) < 4294967296
              by_cases h9 : a = 0
              · rw [if_pos h9]; decide
              · have h8 := tz_lt 64 32 a.toNat (by decide) (by rw [Nat.mod_eq_of_lt (by omega)]; omega)
                rw [if_neg h9]; omega
          have e : ev 104 [a] = (raw1 104 32 a, 0) := by rw [e0, Int.emod_eq_of_lt hr.1 hr.2]
          have HX : Hid (∀ w', Calls Tryd.prog 39 #[.int .i64 1, .int .u64 a, .int .i64 32] w' fun e w'' => e = .returned (.int .u64 (raw1 104 32 a)) ∧ Below w'.heap.size w' w'') := Lib.hid (by
            obtain ⟨na, rfl⟩ : ∃ n : Nat, a = n := ⟨a.toNat, by omega⟩
            exact fun w' => bits_any 1 na 32 w' (by decide) (by decide) (by omega))
          generalize raw1 104 32 a = x at HX e
          have i70 : I 70 79 = false := by rw [← hI]; rfl
          have i81 : I 81 90 = false := by rw [← hI]; rfl
          have i103 : I 103 105 = true := by rw [← hI]; rfl
          have i121 : I 121 123 = false := by rw [← hI]; rfl
          have i106 : I 106 120 = false := by rw [← hI]; rfl
          have i124 : I 124 138 = false := by rw [← hI]; rfl
          have He := Lib.hid e
          clear e e0 hev hI hfa hfa'
          go_wp2_with (first
            | (go_at_call 27; refine (HI.out _ _ _).mono ?_; rintro e w' ⟨rfl, rfl⟩)
            | (go_at_call 36; refine (HWd'.out _).mono ?_; rintro e w' ⟨rfl, rfl⟩)
            | (go_at_call 39; refine (HX.out _).mono ?_; rintro e w9 ⟨rfl, hb9⟩))
          go_ret2
          exact ⟨by rw [He.out]; rfl, bnext d3 hb9⟩
        · skip
          have e0 : ev 105 [a] = (raw1 105 32 a % 4294967296, 0) := hev
          have hr : 0 ≤ raw1 105 32 a ∧ raw1 105 32 a < 4294967296 := by
              have h8 := pop_le 64 a.toNat
              show 0 ≤ (pop 64 a.toNat : Int) ∧ (pop 64 a.toNat : Int) < 4294967296
              omega
          have e : ev 105 [a] = (raw1 105 32 a, 0) := by rw [e0, Int.emod_eq_of_lt hr.1 hr.2]
          have HX : Hid (∀ w', Calls Tryd.prog 39 #[.int .i64 2, .int .u64 a, .int .i64 32] w' fun e w'' => e = .returned (.int .u64 (raw1 105 32 a)) ∧ Below w'.heap.size w' w'') := Lib.hid (by
            obtain ⟨na, rfl⟩ : ∃ n : Nat, a = n := ⟨a.toNat, by omega⟩
            exact fun w' => bits_any 2 na 32 w' (by decide) (by decide) (by omega))
          generalize raw1 105 32 a = x at HX e
          have i70 : I 70 79 = false := by rw [← hI]; rfl
          have i81 : I 81 90 = false := by rw [← hI]; rfl
          have i103 : I 103 105 = true := by rw [← hI]; rfl
          have i121 : I 121 123 = false := by rw [← hI]; rfl
          have i106 : I 106 120 = false := by rw [← hI]; rfl
          have i124 : I 124 138 = false := by rw [← hI]; rfl
          have He := Lib.hid e
          clear e e0 hev hI hfa hfa'
          go_wp2_with (first
            | (go_at_call 27; refine (HI.out _ _ _).mono ?_; rintro e w' ⟨rfl, rfl⟩)
            | (go_at_call 36; refine (HWd'.out _).mono ?_; rintro e w' ⟨rfl, rfl⟩)
            | (go_at_call 39; refine (HX.out _).mono ?_; rintro e w9 ⟨rfl, hb9⟩))
          go_ret2
          exact ⟨by rw [He.out]; rfl, bnext d3 hb9⟩
      · exact absurd ht (by decide)
      · simp only [Rn.first, Rn.last] at ho1 ho2
        have hfa' : a < 18446744073709551616 := ha1
        have d2' : wb.cell? ⟨g, 0, none⟩ = some (.int .i64 126) := d2
        have HWd' : Hid (∀ w', Same 36 #[.int .i64 126] w' (.int .i64 64)) := Lib.hid (fun w' => HWd.out 126 w')
        clear d2 HWd
        have hop : op = 121 ∨ op = 122 ∨ op = 123 := by omega
        rcases hop with rfl | rfl | rfl
        · skip
          have e0 : ev 121 [a] = (raw1 103 64 a % 18446744073709551616, 0) := hev
          have hr : 0 ≤ raw1 103 64 a ∧ raw1 103 64 a < 18446744073709551616 := by
              have h8 := Lib.bitLen_le a.toNat 64 (by decide) (by omega)
              show 0 ≤ (64 : Int) - (Lib.bitLen a.toNat : Int) ∧ (64 : Int) - (Lib.bitLen a.toNat : Int) < 18446744073709551616
              omega
          have e : ev 121 [a] = (raw1 103 64 a, 0) := by rw [e0, Int.emod_eq_of_lt hr.1 hr.2]
          have HX : Hid (∀ w', Calls Tryd.prog 39 #[.int .i64 0, .int .u64 a, .int .i64 64] w' fun e w'' => e = .returned (.int .u64 (raw1 103 64 a)) ∧ Below w'.heap.size w' w'') := Lib.hid (by
            obtain ⟨na, rfl⟩ : ∃ n : Nat, a = n := ⟨a.toNat, by omega⟩
            exact fun w' => bits_any 0 na 64 w' (by decide) (by decide) (by omega))
          generalize raw1 103 64 a = x at HX e
          have i70 : I 70 79 = false := by rw [← hI]; rfl
          have i81 : I 81 90 = false := by rw [← hI]; rfl
          have i103 : I 103 105 = false := by rw [← hI]; rfl
          have i121 : I 121 123 = true := by rw [← hI]; rfl
          have i106 : I 106 120 = false := by rw [← hI]; rfl
          have i124 : I 124 138 = false := by rw [← hI]; rfl
          have He := Lib.hid e
          clear e e0 hev hI hfa hfa'
          go_wp2_with (first
            | (go_at_call 27; refine (HI.out _ _ _).mono ?_; rintro e w' ⟨rfl, rfl⟩)
            | (go_at_call 36; refine (HWd'.out _).mono ?_; rintro e w' ⟨rfl, rfl⟩)
            | (go_at_call 39; refine (HX.out _).mono ?_; rintro e w9 ⟨rfl, hb9⟩))
          go_ret2
          exact ⟨by rw [He.out]; rfl, bnext d3 hb9⟩
        · skip
          have e0 : ev 122 [a] = (raw1 104 64 a % 18446744073709551616, 0) := hev
          have hr : 0 ≤ raw1 104 64 a ∧ raw1 104 64 a < 18446744073709551616 := by
              show 0 ≤ (if a = 0 then (64 : Int) else (tz 64 a.toNat : Int)) ∧ (if a = 0 then (64 : Int) else (tz 64 a.toNat : Int)) < 18446744073709551616
              by_cases h9 : a = 0
              · rw [if_pos h9]; decide
              · have h8 := tz_lt 64 64 a.toNat (by decide) (by rw [Nat.mod_eq_of_lt (by omega)]; omega)
                rw [if_neg h9]; omega
          have e : ev 122 [a] = (raw1 104 64 a, 0) := by rw [e0, Int.emod_eq_of_lt hr.1 hr.2]
          have HX : Hid (∀ w', Calls Tryd.prog 39 #[.int .i64 1, .int .u64 a, .int .i64 64] w' fun e w'' => e = .returned (.int .u64 (raw1 104 64 a)) ∧ Below w'.heap.size w' w'') := Lib.hid (by
            obtain ⟨na, rfl⟩ : ∃ n : Nat, a = n := ⟨a.toNat, by omega⟩
            exact fun w' => bits_any 1 na 64 w' (by decide) (by decide) (by omega))
          generalize raw1 104 64 a = x at HX e
          have i70 : I 70 79 = false := by rw [← hI]; rfl
          have i81 : I 81 90 = false := by rw [← hI]; rfl
          have i103 : I 103 105 = false := by rw [← hI]; rfl
          have i121 : I 121 123 = true := by rw [← hI]; rfl
          have i106 : I 106 120 = false := by rw [← hI]; rfl
          have i124 : I 124 138 = false := by rw [← hI]; rfl
          have He := Lib.hid e
          clear e e0 hev hI hfa hfa'
          go_wp2_with (first
            | (go_at_call 27; refine (HI.out _ _ _).mono ?_; rintro e w' ⟨rfl, rfl⟩)
            | (go_at_call 36; refine (HWd'.out _).mono ?_; rintro e w' ⟨rfl, rfl⟩)
            | (go_at_call 39; refine (HX.out _).mono ?_; rintro e w9 ⟨rfl, hb9⟩))
          go_ret2
          exact ⟨by rw [He.out]; rfl, bnext d3 hb9⟩
        · skip
          have e0 : ev 123 [a] = (raw1 105 64 a % 18446744073709551616, 0) := hev
          have hr : 0 ≤ raw1 105 64 a ∧ raw1 105 64 a < 18446744073709551616 := by
              have h8 := pop_le 64 a.toNat
              show 0 ≤ (pop 64 a.toNat : Int) ∧ (pop 64 a.toNat : Int) < 18446744073709551616
              omega
          have e : ev 123 [a] = (raw1 105 64 a, 0) := by rw [e0, Int.emod_eq_of_lt hr.1 hr.2]
          have HX : Hid (∀ w', Calls Tryd.prog 39 #[.int .i64 2, .int .u64 a, .int .i64 64] w' fun e w'' => e = .returned (.int .u64 (raw1 105 64 a)) ∧ Below w'.heap.size w' w'') := Lib.hid (by
            obtain ⟨na, rfl⟩ : ∃ n : Nat, a = n := ⟨a.toNat, by omega⟩
            exact fun w' => bits_any 2 na 64 w' (by decide) (by decide) (by omega))
          generalize raw1 105 64 a = x at HX e
          have i70 : I 70 79 = false := by rw [← hI]; rfl
          have i81 : I 81 90 = false := by rw [← hI]; rfl
          have i103 : I 103 105 = false := by rw [← hI]; rfl
          have i121 : I 121 123 = true := by rw [← hI]; rfl
          have i106 : I 106 120 = false := by rw [← hI]; rfl
          have i124 : I 124 138 = false := by rw [← hI]; rfl
          have He := Lib.hid e
          clear e e0 hev hI hfa hfa'
          go_wp2_with (first
            | (go_at_call 27; refine (HI.out _ _ _).mono ?_; rintro e w' ⟨rfl, rfl⟩)
            | (go_at_call 36; refine (HWd'.out _).mono ?_; rintro e w' ⟨rfl, rfl⟩)
            | (go_at_call 39; refine (HX.out _).mono ?_; rintro e w9 ⟨rfl, hb9⟩))
          go_ret2
          exact ⟨by rw [He.out]; rfl, bnext d3 hb9⟩
      · exact absurd ht (by decide)
      · simp only [Rn.first, Rn.last] at ho1 ho2
        have hfa' : a < 18446744073709551616 := ha1
        have d2' : wb.cell? ⟨g, 0, none⟩ = some (.int .i64 126) := d2
        have HWd' : Hid (∀ w', Same 36 #[.int .i64 126] w' (.int .i64 64)) := Lib.hid (fun w' => HWd.out 126 w')
        clear d2 HWd
        obtain rfl : op = 167 := by omega
        have e0 : ev 167 [a] = (raw1 167 64 a % 4294967296, 0) := hev
        have e : ev 167 [a] = (a % 4294967296, 0) := e0
        have HLo : Hid (∀ w', Same 41 #[.int .u64 a, .int .i64 32] w' (.int .u64 (a % 4294967296))) := Lib.hid (fun w' => refLow_any 32 a w' (by decide) ha0 ha1)
        have i70 : I 70 79 = false := by rw [← hI]; rfl
        have i81 : I 81 90 = false := by rw [← hI]; rfl
        have i103 : I 103 105 = false := by rw [← hI]; rfl
        have i121 : I 121 123 = false := by rw [← hI]; rfl
        have i106 : I 106 120 = false := by rw [← hI]; rfl
        have i124 : I 124 138 = false := by rw [← hI]; rfl
        have He := Lib.hid e
        clear e e0 hev hI hfa hfa'
        go_wp2_with (first
          | (go_at_call 27; refine (HI.out _ _ _).mono ?_; rintro e w' ⟨rfl, rfl⟩)
          | (go_at_call 36; refine (HWd'.out _).mono ?_; rintro e w' ⟨rfl, rfl⟩)
          | (go_at_call 41; refine (HLo.out _).mono ?_; rintro e w' ⟨rfl, rfl⟩))
        go_ret2
        exact ⟨by rw [He.out]; rfl, d3⟩
      · simp only [Rn.first, Rn.last] at ho1 ho2
        have hfa' : a < 4294967296 := of_decide_eq_true hfa
        have d2' : wb.cell? ⟨g, 0, none⟩ = some (.int .i64 127) := d2
        have HWd' : Hid (∀ w', Same 36 #[.int .i64 127] w' (.int .i64 32)) := Lib.hid (fun w' => HWd.out 127 w')
        clear d2 HWd
        have hop : op = 172 ∨ op = 173 := by omega
        rcases hop with rfl | rfl
        · skip
          have e0 : ev 172 [a] = (raw1 172 32 a % 18446744073709551616, 0) := hev
          have e : ev 172 [a] = (IntKind.u64.wrap (sgn 32 a), 0) := by
            rw [e0, IntKind.wrap_u64]
            show (sgn 32 a % 18446744073709551616 % 18446744073709551616, (0 : Int)) = _
            rw [Int.emod_emod_of_dvd _ (Int.dvd_refl _)]
          have HS2 : Hid (∀ w', Same 42 #[.int .u64 a, .int .i64 32] w' (.int .i64 (sgn 32 a))) := Lib.hid (fun w' => refSigned_any 32 a w' (by decide) ha0 ha1)
          have i70 : I 70 79 = false := by rw [← hI]; rfl
          have i81 : I 81 90 = false := by rw [← hI]; rfl
          have i103 : I 103 105 = false := by rw [← hI]; rfl
          have i121 : I 121 123 = false := by rw [← hI]; rfl
          have i106 : I 106 120 = false := by rw [← hI]; rfl
          have i124 : I 124 138 = false := by rw [← hI]; rfl
          have He := Lib.hid e
          clear e e0 hev hI hfa hfa'
          go_wp2_with (first
            | (go_at_call 27; refine (HI.out _ _ _).mono ?_; rintro e w' ⟨rfl, rfl⟩)
            | (go_at_call 36; refine (HWd'.out _).mono ?_; rintro e w' ⟨rfl, rfl⟩)
            | (go_at_call 42; refine (HS2.out _).mono ?_; rintro e w' ⟨rfl, rfl⟩))
          go_ret2
          exact ⟨by rw [He.out]; rfl, d3⟩
        · skip
          have e0 : ev 173 [a] = (raw1 173 32 a % 18446744073709551616, 0) := hev
          have e : ev 173 [a] = (a, 0) := by
            rw [e0]
            show (a % 18446744073709551616, (0 : Int)) = _
            rw [Int.emod_eq_of_lt ha0 ha1]
          have i70 : I 70 79 = false := by rw [← hI]; rfl
          have i81 : I 81 90 = false := by rw [← hI]; rfl
          have i103 : I 103 105 = false := by rw [← hI]; rfl
          have i121 : I 121 123 = false := by rw [← hI]; rfl
          have i106 : I 106 120 = false := by rw [← hI]; rfl
          have i124 : I 124 138 = false := by rw [← hI]; rfl
          have He := Lib.hid e
          clear e e0 hev hI hfa hfa'
          go_wp2_with (first
            | (go_at_call 27; refine (HI.out _ _ _).mono ?_; rintro e w' ⟨rfl, rfl⟩)
            | (go_at_call 36; refine (HWd'.out _).mono ?_; rintro e w' ⟨rfl, rfl⟩))
          go_ret2
          exact ⟨by rw [He.out]; rfl, d3⟩
      · simp only [Rn.first, Rn.last] at ho1 ho2
        have hfa' : a < 4294967296 := of_decide_eq_true hfa
        have d2' : wb.cell? ⟨g, 0, none⟩ = some (.int .i64 127) := d2
        have HWd' : Hid (∀ w', Same 36 #[.int .i64 127] w' (.int .i64 32)) := Lib.hid (fun w' => HWd.out 127 w')
        clear d2 HWd
        have hop : op = 192 ∨ op = 193 := by omega
        rcases hop with rfl | rfl
        · skip
          have e0 : ev 192 [a] = (raw1 192 32 a % 4294967296, 0) := hev
          have e : ev 192 [a] = (IntKind.u64.wrap (sgn 8 a) % 4294967296, 0) := by
            rw [e0, IntKind.wrap_u64]
            rfl
          have HS2 : Hid (∀ w', Same 42 #[.int .u64 a, .int .i64 8] w' (.int .i64 (sgn 8 a))) := Lib.hid (fun w' => refSigned_any 8 a w' (by decide) ha0 ha1)
          have HLo : Hid (∀ w', Same 41 #[.int .u64 (IntKind.u64.wrap (sgn 8 a)), .int .i64 32] w' (.int .u64 (IntKind.u64.wrap (sgn 8 a) % 4294967296))) := Lib.hid (fun w' => refLow_any 32 _ w' (by decide) (wr_range _).1 (wr_range _).2)
          have hz : IntKind.u64.wrap (sgn 8 a) = IntKind.u64.wrap (sgn 8 a) := rfl
          clear hz
          have i70 : I 70 79 = false := by rw [← hI]; rfl
          have i81 : I 81 90 = false := by rw [← hI]; rfl
          have i103 : I 103 105 = false := by rw [← hI]; rfl
          have i121 : I 121 123 = false := by rw [← hI]; rfl
          have i106 : I 106 120 = false := by rw [← hI]; rfl
          have i124 : I 124 138 = false := by rw [← hI]; rfl
          have He := Lib.hid e
          clear e e0 hev hI hfa hfa'
          go_wp2_with (first
            | (go_at_call 27; refine (HI.out _ _ _).mono ?_; rintro e w' ⟨rfl, rfl⟩)
            | (go_at_call 36; refine (HWd'.out _).mono ?_; rintro e w' ⟨rfl, rfl⟩)
            | (go_at_call 42; refine (HS2.out _).mono ?_; rintro e w' ⟨rfl, rfl⟩)
            | (go_at_call 41; refine (HLo.out _).mono ?_; rintro e w' ⟨rfl, rfl⟩))
          go_ret2
          exact ⟨by rw [He.out]; rfl, bnextA d3 _⟩
        · skip
          have e0 : ev 193 [a] = (raw1 193 32 a % 4294967296, 0) := hev
          have e : ev 193 [a] = (IntKind.u64.wrap (sgn 16 a) % 4294967296, 0) := by
            rw [e0, IntKind.wrap_u64]
            rfl
          have HS2 : Hid (∀ w', Same 42 #[.int .u64 a, .int .i64 16] w' (.int .i64 (sgn 16 a))) := Lib.hid (fun w' => refSigned_any 16 a w' (by decide) ha0 ha1)
          have HLo : Hid (∀ w', Same 41 #[.int .u64 (IntKind.u64.wrap (sgn 16 a)), .int .i64 32] w' (.int .u64 (IntKind.u64.wrap (sgn 16 a) % 4294967296))) := Lib.hid (fun w' => refLow_any 32 _ w' (by decide) (wr_range _).1 (wr_range _).2)
          have hz : IntKind.u64.wrap (sgn 16 a) = IntKind.u64.wrap (sgn 16 a) := rfl
          clear hz
          have i70 : I 70 79 = false := by rw [← hI]; rfl
          have i81 : I 81 90 = false := by rw [← hI]; rfl
          have i103 : I 103 105 = false := by rw [← hI]; rfl
          have i121 : I 121 123 = false := by rw [← hI]; rfl
          have i106 : I 106 120 = false := by rw [← hI]; rfl
          have i124 : I 124 138 = false := by rw [← hI]; rfl
          have He := Lib.hid e
          clear e e0 hev hI hfa hfa'
          go_wp2_with (first
            | (go_at_call 27; refine (HI.out _ _ _).mono ?_; rintro e w' ⟨rfl, rfl⟩)
            | (go_at_call 36; refine (HWd'.out _).mono ?_; rintro e w' ⟨rfl, rfl⟩)
            | (go_at_call 42; refine (HS2.out _).mono ?_; rintro e w' ⟨rfl, rfl⟩)
            | (go_at_call 41; refine (HLo.out _).mono ?_; rintro e w' ⟨rfl, rfl⟩))
          go_ret2
          exact ⟨by rw [He.out]; rfl, bnextA d3 _⟩
      · simp only [Rn.first, Rn.last] at ho1 ho2
        have hfa' : a < 18446744073709551616 := ha1
        have d2' : wb.cell? ⟨g, 0, none⟩ = some (.int .i64 126) := d2
        have HWd' : Hid (∀ w', Same 36 #[.int .i64 126] w' (.int .i64 64)) := Lib.hid (fun w' => HWd.out 126 w')
        clear d2 HWd
        have hop : op = 194 ∨ op = 195 ∨ op = 196 := by omega
        rcases hop with rfl | rfl | rfl
        · skip
          have e0 : ev 194 [a] = (raw1 192 64 a % 18446744073709551616, 0) := hev
          have e : ev 194 [a] = (IntKind.u64.wrap (sgn 8 a) % 18446744073709551616, 0) := by
            rw [e0, IntKind.wrap_u64]
            rfl
          have HS2 : Hid (∀ w', Same 42 #[.int .u64 a, .int .i64 8] w' (.int .i64 (sgn 8 a))) := Lib.hid (fun w' => refSigned_any 8 a w' (by decide) ha0 ha1)
          have HLo : Hid (∀ w', Same 41 #[.int .u64 (IntKind.u64.wrap (sgn 8 a)), .int .i64 64] w' (.int .u64 (IntKind.u64.wrap (sgn 8 a) % 18446744073709551616))) := Lib.hid (fun w' => refLow_any 64 _ w' (by decide) (wr_range _).1 (wr_range _).2)
          have hz : IntKind.u64.wrap (sgn 8 a) = IntKind.u64.wrap (sgn 8 a) := rfl
          clear hz
          have i70 : I 70 79 = false := by rw [← hI]; rfl
          have i81 : I 81 90 = false := by rw [← hI]; rfl
          have i103 : I 103 105 = false := by rw [← hI]; rfl
          have i121 : I 121 123 = false := by rw [← hI]; rfl
          have i106 : I 106 120 = false := by rw [← hI]; rfl
          have i124 : I 124 138 = false := by rw [← hI]; rfl
          have He := Lib.hid e
          clear e e0 hev hI hfa hfa'
          go_wp2_with (first
            | (go_at_call 27; refine (HI.out _ _ _).mono ?_; rintro e w' ⟨rfl, rfl⟩)
            | (go_at_call 36; refine (HWd'.out _).mono ?_; rintro e w' ⟨rfl, rfl⟩)
            | (go_at_call 42; refine (HS2.out _).mono ?_; rintro e w' ⟨rfl, rfl⟩)
            | (go_at_call 41; refine (HLo.out _).mono ?_; rintro e w' ⟨rfl, rfl⟩))
          go_ret2
          exact ⟨by rw [He.out]; rfl, bnextA d3 _⟩
        · skip
          have e0 : ev 195 [a] = (raw1 193 64 a % 18446744073709551616, 0) := hev
          have e : ev 195 [a] = (IntKind.u64.wrap (sgn 16 a) % 18446744073709551616, 0) := by
            rw [e0, IntKind.wrap_u64]
            rfl
          have HS2 : Hid (∀ w', Same 42 #[.int .u64 a, .int .i64 16] w' (.int .i64 (sgn 16 a))) := Lib.hid (fun w' => refSigned_any 16 a w' (by decide) ha0 ha1)
          have HLo : Hid (∀ w', Same 41 #[.int .u64 (IntKind.u64.wrap (sgn 16 a)), .int .i64 64] w' (.int .u64 (IntKind.u64.wrap (sgn 16 a) % 18446744073709551616))) := Lib.hid (fun w' => refLow_any 64 _ w' (by decide) (wr_range _).1 (wr_range _).2)
          have hz : IntKind.u64.wrap (sgn 16 a) = IntKind.u64.wrap (sgn 16 a) := rfl
          clear hz
          have i70 : I 70 79 = false := by rw [← hI]; rfl
          have i81 : I 81 90 = false := by rw [← hI]; rfl
          have i103 : I 103 105 = false := by rw [← hI]; rfl
          have i121 : I 121 123 = false := by rw [← hI]; rfl
          have i106 : I 106 120 = false := by rw [← hI]; rfl
          have i124 : I 124 138 = false := by rw [← hI]; rfl
          have He := Lib.hid e
          clear e e0 hev hI hfa hfa'
          go_wp2_with (first
            | (go_at_call 27; refine (HI.out _ _ _).mono ?_; rintro e w' ⟨rfl, rfl⟩)
            | (go_at_call 36; refine (HWd'.out _).mono ?_; rintro e w' ⟨rfl, rfl⟩)
            | (go_at_call 42; refine (HS2.out _).mono ?_; rintro e w' ⟨rfl, rfl⟩)
            | (go_at_call 41; refine (HLo.out _).mono ?_; rintro e w' ⟨rfl, rfl⟩))
          go_ret2
          exact ⟨by rw [He.out]; rfl, bnextA d3 _⟩
        · skip
          have e0 : ev 196 [a] = (raw1 194 64 a % 18446744073709551616, 0) := hev
          have e : ev 196 [a] = (IntKind.u64.wrap (sgn 32 a) % 18446744073709551616, 0) := by
            rw [e0, IntKind.wrap_u64]
            rfl
          have HS2 : Hid (∀ w', Same 42 #[.int .u64 a, .int .i64 32] w' (.int .i64 (sgn 32 a))) := Lib.hid (fun w' => refSigned_any 32 a w' (by decide) ha0 ha1)
          have HLo : Hid (∀ w', Same 41 #[.int .u64 (IntKind.u64.wrap (sgn 32 a)), .int .i64 64] w' (.int .u64 (IntKind.u64.wrap (sgn 32 a) % 18446744073709551616))) := Lib.hid (fun w' => refLow_any 64 _ w' (by decide) (wr_range _).1 (wr_range _).2)
          have hz : IntKind.u64.wrap (sgn 32 a) = IntKind.u64.wrap (sgn 32 a) := rfl
          clear hz
          have i70 : I 70 79 = false := by rw [← hI]; rfl
          have i81 : I 81 90 = false := by rw [← hI]; rfl
          have i103 : I 103 105 = false := by rw [← hI]; rfl
          have i121 : I 121 123 = false := by rw [← hI]; rfl
          have i106 : I 106 120 = false := by rw [← hI]; rfl
          have i124 : I 124 138 = false := by rw [← hI]; rfl
          have He := Lib.hid e
          clear e e0 hev hI hfa hfa'
          go_wp2_with (first
            | (go_at_call 27; refine (HI.out _ _ _).mono ?_; rintro e w' ⟨rfl, rfl⟩)
            | (go_at_call 36; refine (HWd'.out _).mono ?_; rintro e w' ⟨rfl, rfl⟩)
            | (go_at_call 42; refine (HS2.out _).mono ?_; rintro e w' ⟨rfl, rfl⟩)
            | (go_at_call 41; refine (HLo.out _).mono ?_; rintro e w' ⟨rfl, rfl⟩))
          go_ret2
          exact ⟨by rw [He.out]; rfl, bnextA d3 _⟩

end Go.Proofs.YtmikhbpffmojhaaDoor.nm
