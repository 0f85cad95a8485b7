/- The document's answer of whatever operator and numbers. -/
import Derived.Test.YtmikhbpffmojhaaDoorRefF
import Derived.Test.YtmikhbpffmojhaaDoorRefSig
import Derived.Deep.RegionHeld3
set_option linter.unusedVariables false
namespace Go.Proofs.YtmikhbpffmojhaaDoor.nm
open Go.RowKit

set_option maxRecDepth 100000 in
set_option maxHeartbeats 2000000 in
theorem refEval_none (op : Int) (v : Value) (w : World) (h : runAt op = none) :
    Calls Tryd.prog 21 #[.int .i64 op, v] w fun e w' => e = evR (0, 1) ∧ Below w.heap.size w w' := by
  have HS := Lib.hid (refSig_none op w h)
  clear h
  go_enter Tryd.func21, Tryd.ntmps21
  go_wp2_with (go_at_call 11; refine HS.out.mono ?_; rintro e w' ⟨rfl, rfl⟩)
  go_ret2
  exact ⟨rfl, Below.refl _ _⟩

set_option maxRecDepth 100000 in
set_option maxHeartbeats 2000000 in
theorem refEval_many (op : Int) (v : Value) (l : List Int) (w : World) (r : Rn) (h : runAt op = some r) (hv : Rd .u64 w v l) (hn : (l.length : Int) ≠ r.takes) :
    Calls Tryd.prog 21 #[.int .i64 op, v] w fun e w' => e = evR (0, 1) ∧ Below w.heap.size w w' := by
  have HS := Lib.hid (refSig_some op w r h)
  obtain ⟨hmem, _, _⟩ := runAt_spec h
  obtain ⟨_, _, _, _, _, ht⟩ := run_facts r hmem
  have hne : (((if r.takes = 1 then 1 else 2 : Nat) : Int) != (l.length : Int)) = true := by
    rcases ht with h | h
    · rw [if_pos h]; simp; omega
    · rw [if_neg (by omega)]; simp; omega
  obtain ⟨ao, cap, rfl, hcap, _, hc⟩ := hv
  clear h hc hn hmem ht
  generalize (if r.takes = 1 then 1 else 2 : Nat) = n at HS hne
  go_enter Tryd.func21, Tryd.ntmps21
  go_wp2_with (go_at_call 11; refine HS.out.mono ?_; rintro e w' ⟨rfl, rfl⟩)
  go_ret2
  exact ⟨rfl, made_below _ _⟩

theorem raw2_bit (k : Int) (d : Nat) (a b : Int) (hk : 0 ≤ k ∧ k ≤ 9) : 0 ≤ raw2 (70 + k) d a b ∧ raw2 (70 + k) d a b < 4294967296 := by
  have hb : ∀ x : Bool, 0 ≤ b2i x ∧ b2i x < 4294967296 := fun x => by cases x <;> decide
  have hk' : k = 0 ∨ k = 1 ∨ k = 2 ∨ k = 3 ∨ k = 4 ∨ k = 5 ∨ k = 6 ∨ k = 7 ∨ k = 8 ∨ k = 9 := by omega
  rcases hk' with rfl | rfl | rfl | rfl | rfl | rfl | rfl | rfl | rfl | rfl <;> exact hb _

set_option maxRecDepth 100000 in
set_option maxHeartbeats 1000000 in
theorem refEval_two (op : Int) (v : Value) (l : List Int) (w : World) (r : Rn) (h : runAt op = some r) (hv : Rd .u64 w v l) (hl : ∀ x ∈ l, 0 ≤ x ∧ x < 18446744073709551616) (ht : r.takes = 2) (hn : l.length = 2) :
    Calls Tryd.prog 21 #[.int .i64 op, v] w fun e w' => e = evR (ev op l) ∧ Below w.heap.size w w' := by
  have HS := Lib.hid (refSig_some op w r h)
  rw [if_neg (show ¬ r.takes = 1 by omega)] at HS
  obtain ⟨ao, cap, rfl, hcap, _, hc⟩ := hv
  rcases hc with rfl | ⟨bk, off, rfl, hc⟩
  · cases hn
  have Hc := Lib.hid hc
  have HF := Lib.hid (fun t n w' => refFits_any t n w')
  have Hl := Lib.hid hl
  have Hb0 := Lib.hid (made_below w (.cells #[.int .i64 r.of, .int .i64 r.of] 3))
  have Hnot := Lib.hid (fun (hf : ¬ l.all (fits r.of) = true) => ev_not h (fun hh => hf hh.2))
  have HI := Lib.hid (fun a b w' => in_any op a b w')
  have HWd := Lib.hid (fun t w' => refWidth_any t w')
  have hlen : (l.length : Int) = 2 := by omega
  have H := Lib.hid h
  clear hc hl hcap h
  go_enter Tryd.func21, Tryd.ntmps21
  go_wp2_with (go_at_call 11; refine HS.out.mono ?_; rintro e w' ⟨rfl, rfl⟩)
  go_loopw [9] (fun x wr => ∃ i : Nat, x = .int .i64 i ∧ i ≤ 2 ∧ Hid ((l.take i).all (fits r.of) = true) ∧ ∃ m, wr = (w.alloc (.cells #[.int .i64 r.of, .int .i64 r.of] 3)).drewN m) (fun x _ => 2 - (intOf x).toNat)
  case atStart => exact ⟨0, rfl, by omega, by show _ = _; simp, 0, rfl⟩
  case round =>
    obtain ⟨i, rfl, hi, Ht, m, rfl⟩ := hrel
    by_cases hlt : i < 2
    · have hlt' : i < l.length := by omega
      have k0 : (w.alloc (.cells #[.int .i64 r.of, .int .i64 r.of] 3)).cell? ⟨w.heap.size, i, none⟩ = some (.int .i64 r.of) := by
        rw [cell_of_row _ w.heap.size i _ 3 (0, 0) (heap_alloc_new w _)]
        match i, hlt with
        | 0, _ => rfl
        | 1, _ => rfl
      have k1 := keeps Hb0.out (Hc.out i hlt')
      have hx := Hl.out (l.getD i 0) (by rw [List.getD_eq_getElem?_getD, List.getElem?_eq_getElem hlt']; exact List.getElem_mem hlt')
      have hget : l[i]? = some (l.getD i 0) := by rw [List.getD_eq_getElem?_getD, List.getElem?_eq_getElem hlt']; rfl
      have Hget := Lib.hid hget
      have hd : l.drop i = l.getD i 0 :: l.drop (i + 1) := by
        rw [List.drop_eq_getElem_cons hlt', List.getD_eq_getElem?_getD, List.getElem?_eq_getElem hlt']; rfl
      have Hd := Lib.hid hd
      clear hget hd
      generalize l.getD i 0 = x at k1 hx Hget Hd
      have t0 : (0 : Int) ≤ i ∧ (i : Int) < 2 := by omega
      have k0' : ((w.alloc (.cells #[.int .i64 r.of, .int .i64 r.of] 3)).drewN m).cell? ⟨w.heap.size, i, none⟩ = some (.int .i64 r.of) := k0
      have k1' : ((w.alloc (.cells #[.int .i64 r.of, .int .i64 r.of] 3)).drewN m).cell? ⟨bk, off + i, none⟩ = some (.int .u64 x) := k1
      have Hbb := Lib.hid (show Below w.heap.size w ((w.alloc (.cells #[.int .i64 r.of, .int .i64 r.of] 3)).drewN m) from bnext Hb0.out (belowN _ _))
      clear k0 k1
      generalize hwb : (w.alloc (.cells #[.int .i64 r.of, .int .i64 r.of] 3)).drewN m = wb at k0' k1' Hbb ⊢
      have Hwb := Lib.hid hwb
      clear hwb
      generalize w.heap.size = g at k0'
      have HFx := Lib.hid (fun w' => (HF.out r.of x w').mono (fun _ _ ⟨he, hw⟩ => And.intro he hw.symm))
      cases hf : fits r.of x with
      | false =>
        have hall : ¬ l.all (fits r.of) = true := by
          rw [← List.take_append_drop i l, List.all_append, Hd.out, List.all_cons, hf]; simp
        have Hev := Lib.hid (Hnot.out hall)
        rw [hf] at HFx
        clear hall hf
        go_wp2_with fail
        go_quiet ((go_at_call 23; exact Calls.quiet_of_same (HFx.out _)))
        go_wp2
        go_ret2
        exact ⟨by rw [Hev.out]; rfl, bnext Hbb.out (belowN _ _)⟩
      | true =>
        have hnext : (l.take (i + 1)).all (fits r.of) = true := by
          rw [List.take_add_one, Hget.out, List.all_append, Ht.out]; simp [hf]
        have Hnext := Lib.hid hnext
        rw [hf] at HFx
        clear hnext hf
        go_wp2_with fail
        go_quiet ((go_at_call 23; exact Calls.quiet_of_same (HFx.out _)))
        go_wp2
        exact ⟨⟨i + 1, rfl, by omega, Hnext, m + nq, by rw [← Hwb.out, World.drewN_drewN]⟩, by simp only [intOf]; omega⟩
    · have he : i = 2 := by omega
      subst he
      obtain ⟨a, b, rfl⟩ : ∃ a b, l = [a, b] := by
        match l, hn with
        | [a, b], _ => exact ⟨a, b, rfl⟩
      have ha := Hl.out a (by simp)
      have hb := Hl.out b (by simp)
      have hfab : fits r.of a = true ∧ fits r.of b = true := by
        have h9 : [a, b].all (fits r.of) = true := Ht.out
        simpa using h9
      have hev := ev_two (a := a) (b := b) H.out ht (by simp [hfab])
      have c0 := keeps Hb0.out (Hc.out 0 (by simp))
      have c1 := keeps Hb0.out (Hc.out 1 (by simp))
      rw [Nat.add_zero] at c0
      have k0 : (w.alloc (.cells #[.int .i64 r.of, .int .i64 r.of] 3)).cell? ⟨w.heap.size, 0, none⟩ = some (.int .i64 r.of) := by
        rw [cell_of_row _ w.heap.size 0 _ 3 (0, 0) (heap_alloc_new w _)]; rfl
      obtain ⟨hmem, ho1, ho2⟩ := runAt_spec H.out
      have c0' : (w.alloc (.cells #[.int .i64 r.of, .int .i64 r.of] 3)).cell? ⟨bk, off, none⟩ = some (.int .u64 a) := c0
      have c1' : (w.alloc (.cells #[.int .i64 r.of, .int .i64 r.of] 3)).cell? ⟨bk, off + 1, none⟩ = some (.int .u64 b) := c1
      clear c0 c1
      generalize hW : w.alloc (.cells #[.int .i64 r.of, .int .i64 r.of] 3) = wa at k0 c0' c1' Hb0 ⊢
      clear hW HS
      generalize w.heap.size = g at k0
      generalize hI : inB op = I at HI
      have d0 : (wa.drewN m).cell? ⟨bk, off, none⟩ = some (.int .u64 a) := c0'
      have d1 : (wa.drewN m).cell? ⟨bk, off + 1, none⟩ = some (.int .u64 b) := c1'
      have d2 : (wa.drewN m).cell? ⟨g, 0, none⟩ = some (.int .i64 r.of) := k0
      have d3 : Below w.heap.size w (wa.drewN m) := bnext Hb0.out (belowN _ _)
      have u0 : (0 : Int) < ([a, b].length : Nat) := by simp
      have u1 : (1 : Int) < ([a, b].length : Nat) := by simp
      generalize wa.drewN m = wb at d0 d1 d2 d3 ⊢
      clear k0 c0' c1' Hb0 Hc Hl Ht hlen hlt hi HF Hnot
      have hdr : ∀ x : World, Below w.heap.size w x → Below w.heap.size w x.drew := fun x h => h.drew
      have hdn : ∀ (x : World) (n : Nat), Below w.heap.size w x → Below w.heap.size w (x.drewN n) := fun x n h => bnext h (belowN _ _)
      obtain ⟨ha0, ha1⟩ := ha
      obtain ⟨hb0, hb1⟩ := hb
      rcases run_cases hmem with rfl | rfl | rfl | rfl | rfl | rfl | rfl | rfl | rfl | rfl | rfl | rfl
      · exact absurd ht (by decide)
      · simp only [Rn.first, Rn.last] at ho1 ho2
        have e : ev op [a, b] = (raw2 (70 + (op - 70)) 32 a b, 0) := by
          rw [hev]
          show (if trapOf (op - 70 + 70) 32 a b = 0 then (raw2 (op - 70 + 70) 32 a b % 2 ^ 32, 0) else (0, trapOf (op - 70 + 70) 32 a b)) = _
          rw [show op - 70 + 70 = 70 + (op - 70) from by omega, trap_no (by omega), if_pos rfl]
          have hr := raw2_bit (op - 70) 32 a b (by omega)
          rw [show (2 : Int) ^ 32 = 4294967296 from rfl, Int.emod_eq_of_lt hr.1 hr.2]
        have HX := Lib.hid (fun w' => compare_any (op - 70) a b 32 w' (by omega) (by decide) ha0 ha1 hb0 hb1)
        have HX2 : Hid (∀ w', Calls Tryd.prog 38 #[.int .i64 (op - 70), .int .u64 a, .int .u64 b, .int .i64 32] w' fun e w'' => e = .returned (.int .u64 (raw2 (70 + (op - 70)) 32 a b)) ∧ Below w'.heap.size w' w'') := HX
        have He := Lib.hid e
        generalize raw2 (70 + (op - 70)) 32 a b = x at HX2 He
        have b69 : (op == 69) = false := by simp; omega
        have b80 : (op == 80) = false := by simp; omega
        have i70 : I 70 79 = true := by rw [← hI]; exact inB_t (by omega)
        have i81 : I 81 90 = false := by rw [← hI]; exact inB_f (by omega)
        have i103 : I 103 105 = false := by rw [← hI]; exact inB_f (by omega)
        have i121 : I 121 123 = false := by rw [← hI]; exact inB_f (by omega)
        have i106 : I 106 120 = false := by rw [← hI]; exact inB_f (by omega)
        have i124 : I 124 138 = false := by rw [← hI]; exact inB_f (by omega)
        have b167 : (op == 167) = false := by simp; omega
        have b172 : (op == 172) = false := by simp; omega
        have b173 : (op == 173) = false := by simp; omega
        have q0 : (0 : Int) ≤ op - 70 := by omega
        have q1 : op - 70 ≤ 100 := by omega
        have hwk : IntKind.i64.wrap (op - 70) = op - 70 := by rw [IntKind.wrap_i64]; omega
        have hwd : wd (Rn.of ((70, 79, 70, 127, 2, 127) : Rn)) = 32 := rfl
        have HWd' : Hid (∀ w', Same 36 #[.int .i64 127] w' (.int .i64 32)) := Lib.hid (fun w' => HWd.out 127 w')
        have d2' : wb.cell? ⟨g, 0, none⟩ = some (.int .i64 127) := d2
        clear d2 HWd
        clear e hev ho1 ho2 hI hfab
        obtain ⟨k, hk1⟩ : ∃ k, op - 70 = k := ⟨_, rfl⟩
        rw [hk1] at HX2 q0 q1
        have hwk3 : IntKind.i64.wrap k = k := by rw [IntKind.wrap_i64]; omega
        have hwk2 : IntKind.i64.wrap (op - 70) = k := by rw [hk1]; exact hwk3
        clear hwk
        go_wp2_with (first
          | (go_at_call 27; refine (HI.out _ _ _).mono ?_; rintro e w' ⟨rfl, rfl⟩)
          | (go_at_call 36; refine (HWd'.out _).mono ?_; rintro e w' ⟨rfl, rfl⟩))
        go_region_held3 (fun y => y.cell? ⟨bk, off, none⟩ = some (.int .u64 a) ∧ y.cell? ⟨bk, off + 1, none⟩ = some (.int .u64 b) ∧ Below w.heap.size w y)
          (first | go_keep | exact ⟨keeps hb9 (by go_keep), keeps hb9 (by go_keep), bnext (by go_keep) hb9⟩)
          (first | (go_at_call 38; refine (HX2.out _).mono ?_; rintro e w9 ⟨rfl, hb9⟩))
        go_wp2
        go_ret2
        exact ⟨by rw [He.out]; rfl, (‹_ ∧ _ ∧ Below w.heap.size w _›).2.2⟩
      · exact absurd ht (by decide)
      · simp only [Rn.first, Rn.last] at ho1 ho2
        have e : ev op [a, b] = (raw2 (70 + (op - 81)) 64 a b, 0) := by
          rw [hev]
          show (if trapOf (op - 81 + 70) 64 a b = 0 then (raw2 (op - 81 + 70) 64 a b % 2 ^ 32, 0) else (0, trapOf (op - 81 + 70) 64 a b)) = _
          rw [show op - 81 + 70 = 70 + (op - 81) from by omega, trap_no (by omega), if_pos rfl]
          have hr := raw2_bit (op - 81) 64 a b (by omega)
          rw [show (2 : Int) ^ 32 = 4294967296 from rfl, Int.emod_eq_of_lt hr.1 hr.2]
        have HX := Lib.hid (fun w' => compare_any (op - 81) a b 64 w' (by omega) (by decide) ha0 ha1 hb0 hb1)
        have HX2 : Hid (∀ w', Calls Tryd.prog 38 #[.int .i64 (op - 81), .int .u64 a, .int .u64 b, .int .i64 64] w' fun e w'' => e = .returned (.int .u64 (raw2 (70 + (op - 81)) 64 a b)) ∧ Below w'.heap.size w' w'') := HX
        have He := Lib.hid e
        generalize raw2 (70 + (op - 81)) 64 a b = x at HX2 He
        have b69 : (op == 69) = false := by simp; omega
        have b80 : (op == 80) = false := by simp; omega
        have i70 : I 70 79 = false := by rw [← hI]; exact inB_f (by omega)
        have i81 : I 81 90 = true := by rw [← hI]; exact inB_t (by omega)
        have i103 : I 103 105 = false := by rw [← hI]; exact inB_f (by omega)
        have i121 : I 121 123 = false := by rw [← hI]; exact inB_f (by omega)
        have i106 : I 106 120 = false := by rw [← hI]; exact inB_f (by omega)
        have i124 : I 124 138 = false := by rw [← hI]; exact inB_f (by omega)
        have b167 : (op == 167) = false := by simp; omega
        have b172 : (op == 172) = false := by simp; omega
        have b173 : (op == 173) = false := by simp; omega
        have q0 : (0 : Int) ≤ op - 81 := by omega
        have q1 : op - 81 ≤ 100 := by omega
        have hwk : IntKind.i64.wrap (op - 81) = op - 81 := by rw [IntKind.wrap_i64]; omega
        have hwd : wd (Rn.of ((81, 90, 70, 126, 2, 127) : Rn)) = 64 := rfl
        have HWd' : Hid (∀ w', Same 36 #[.int .i64 126] w' (.int .i64 64)) := Lib.hid (fun w' => HWd.out 126 w')
        have d2' : wb.cell? ⟨g, 0, none⟩ = some (.int .i64 126) := d2
        clear d2 HWd
        clear e hev ho1 ho2 hI hfab
        obtain ⟨k, hk1⟩ : ∃ k, op - 81 = k := ⟨_, rfl⟩
        rw [hk1] at HX2 q0 q1
        have hwk3 : IntKind.i64.wrap k = k := by rw [IntKind.wrap_i64]; omega
        have hwk2 : IntKind.i64.wrap (op - 81) = k := by rw [hk1]; exact hwk3
        clear hwk
        go_wp2_with (first
          | (go_at_call 27; refine (HI.out _ _ _).mono ?_; rintro e w' ⟨rfl, rfl⟩)
          | (go_at_call 36; refine (HWd'.out _).mono ?_; rintro e w' ⟨rfl, rfl⟩))
        go_region_held3 (fun y => y.cell? ⟨bk, off, none⟩ = some (.int .u64 a) ∧ y.cell? ⟨bk, off + 1, none⟩ = some (.int .u64 b) ∧ Below w.heap.size w y)
          (first | go_keep | exact ⟨keeps hb9 (by go_keep), keeps hb9 (by go_keep), bnext (by go_keep) hb9⟩)
          (first | (go_at_call 38; refine (HX2.out _).mono ?_; rintro e w9 ⟨rfl, hb9⟩))
        go_wp2
        go_ret2
        exact ⟨by rw [He.out]; rfl, (‹_ ∧ _ ∧ Below w.heap.size w _›).2.2⟩
      · exact absurd ht (by decide)
      · simp only [Rn.first, Rn.last] at ho1 ho2
        have hfa : a < 4294967296 := of_decide_eq_true hfab.1
        have hfb : b < 4294967296 := of_decide_eq_true hfab.2
        have e : ev op [a, b] = ans2 (106 + (op - 106)) 32 a b := by
          rw [hev]
          show (if trapOf (op - 106 + 106) 32 a b = 0 then (raw2 (op - 106 + 106) 32 a b % 2 ^ 32, 0) else (0, trapOf (op - 106 + 106) 32 a b)) = _
          rw [show op - 106 + 106 = 106 + (op - 106) from by omega]; rfl
        have HX2 : Hid (∀ w', Same2 40 #[.int .i64 (op - 106), .int .u64 a, .int .u64 b, .int .i64 32] w' (ans2 (106 + (op - 106)) 32 a b)) := Lib.hid (by
          obtain ⟨na, rfl⟩ : ∃ n : Nat, a = n := ⟨a.toNat, by omega⟩
          obtain ⟨nb, rfl⟩ : ∃ n : Nat, b = n := ⟨b.toNat, by omega⟩
          exact fun w' => whole_32 (op - 106) na nb w' (by omega) (by omega) (by omega))
        have He := Lib.hid e
        generalize ans2 (106 + (op - 106)) 32 a b = x at HX2 He
        have b69 : (op == 69) = false := by simp; omega
        have b80 : (op == 80) = false := by simp; omega
        have i70 : I 70 79 = false := by rw [← hI]; exact inB_f (by omega)
        have i81 : I 81 90 = false := by rw [← hI]; exact inB_f (by omega)
        have i103 : I 103 105 = false := by rw [← hI]; exact inB_f (by omega)
        have i121 : I 121 123 = false := by rw [← hI]; exact inB_f (by omega)
        have i106 : I 106 120 = true := by rw [← hI]; exact inB_t (by omega)
        have i124 : I 124 138 = false := by rw [← hI]; exact inB_f (by omega)
        have b167 : (op == 167) = false := by simp; omega
        have b172 : (op == 172) = false := by simp; omega
        have b173 : (op == 173) = false := by simp; omega
        have q0 : (0 : Int) ≤ op - 106 := by omega
        have q1 : op - 106 ≤ 100 := by omega
        have hwk : IntKind.i64.wrap (op - 106) = op - 106 := by rw [IntKind.wrap_i64]; omega
        have hwd : wd (Rn.of ((106, 120, 106, 127, 2, 127) : Rn)) = 32 := rfl
        have HWd' : Hid (∀ w', Same 36 #[.int .i64 127] w' (.int .i64 32)) := Lib.hid (fun w' => HWd.out 127 w')
        have d2' : wb.cell? ⟨g, 0, none⟩ = some (.int .i64 127) := d2
        clear d2 HWd
        clear e hev ho1 ho2 hI hfab
        obtain ⟨k, hk1⟩ : ∃ k, op - 106 = k := ⟨_, rfl⟩
        rw [hk1] at HX2 q0 q1
        have hwk3 : IntKind.i64.wrap k = k := by rw [IntKind.wrap_i64]; omega
        have hwk2 : IntKind.i64.wrap (op - 106) = k := by rw [hk1]; exact hwk3
        clear hwk
        go_wp2_with (first
          | (go_at_call 27; refine (HI.out _ _ _).mono ?_; rintro e w' ⟨rfl, rfl⟩)
          | (go_at_call 36; refine (HWd'.out _).mono ?_; rintro e w' ⟨rfl, rfl⟩))
        go_quiet ((go_at_call 40; exact Calls.quiet_of_same ((HX2.out _).mono (fun _ _ ⟨he, hw⟩ => And.intro he hw.symm))))
        go_wp2
        go_ret2
        exact ⟨by rw [He.out]; rfl, hdn _ _ d3⟩
      · exact absurd ht (by decide)
      · simp only [Rn.first, Rn.last] at ho1 ho2
        have hfa : a < 18446744073709551616 := ha1
        have hfb : b < 18446744073709551616 := hb1
        have e : ev op [a, b] = ans2 (106 + (op - 124)) 64 a b := by
          rw [hev]
          show (if trapOf (op - 124 + 106) 64 a b = 0 then (raw2 (op - 124 + 106) 64 a b % 2 ^ 64, 0) else (0, trapOf (op - 124 + 106) 64 a b)) = _
          rw [show op - 124 + 106 = 106 + (op - 124) from by omega]; rfl
        have HX2 : Hid (∀ w', Same2 40 #[.int .i64 (op - 124), .int .u64 a, .int .u64 b, .int .i64 64] w' (ans2 (106 + (op - 124)) 64 a b)) := Lib.hid (by
          obtain ⟨na, rfl⟩ : ∃ n : Nat, a = n := ⟨a.toNat, by omega⟩
          obtain ⟨nb, rfl⟩ : ∃ n : Nat, b = n := ⟨b.toNat, by omega⟩
          exact fun w' => whole_64 (op - 124) na nb w' (by omega) (by omega) (by omega))
        have He := Lib.hid e
        generalize ans2 (106 + (op - 124)) 64 a b = x at HX2 He
        have b69 : (op == 69) = false := by simp; omega
        have b80 : (op == 80) = false := by simp; omega
        have i70 : I 70 79 = false := by rw [← hI]; exact inB_f (by omega)
        have i81 : I 81 90 = false := by rw [← hI]; exact inB_f (by omega)
        have i103 : I 103 105 = false := by rw [← hI]; exact inB_f (by omega)
        have i121 : I 121 123 = false := by rw [← hI]; exact inB_f (by omega)
        have i106 : I 106 120 = false := by rw [← hI]; exact inB_f (by omega)
        have i124 : I 124 138 = true := by rw [← hI]; exact inB_t (by omega)
        have b167 : (op == 167) = false := by simp; omega
        have b172 : (op == 172) = false := by simp; omega
        have b173 : (op == 173) = false := by simp; omega
        have q0 : (0 : Int) ≤ op - 124 := by omega
        have q1 : op - 124 ≤ 100 := by omega
        have hwk : IntKind.i64.wrap (op - 124) = op - 124 := by rw [IntKind.wrap_i64]; omega
        have hwd : wd (Rn.of ((124, 138, 106, 126, 2, 126) : Rn)) = 64 := rfl
        have HWd' : Hid (∀ w', Same 36 #[.int .i64 126] w' (.int .i64 64)) := Lib.hid (fun w' => HWd.out 126 w')
        have d2' : wb.cell? ⟨g, 0, none⟩ = some (.int .i64 126) := d2
        clear d2 HWd
        clear e hev ho1 ho2 hI hfab
        obtain ⟨k, hk1⟩ : ∃ k, op - 124 = k := ⟨_, rfl⟩
        rw [hk1] at HX2 q0 q1
        have hwk3 : IntKind.i64.wrap k = k := by rw [IntKind.wrap_i64]; omega
        have hwk2 : IntKind.i64.wrap (op - 124) = k := by rw [hk1]; exact hwk3
        clear hwk
        go_wp2_with (first
          | (go_at_call 27; refine (HI.out _ _ _).mono ?_; rintro e w' ⟨rfl, rfl⟩)
          | (go_at_call 36; refine (HWd'.out _).mono ?_; rintro e w' ⟨rfl, rfl⟩))
        go_quiet ((go_at_call 40; exact Calls.quiet_of_same ((HX2.out _).mono (fun _ _ ⟨he, hw⟩ => And.intro he hw.symm))))
        go_wp2
        go_ret2
        exact ⟨by rw [He.out]; rfl, hdn _ _ d3⟩
      · exact absurd ht (by decide)
      · exact absurd ht (by decide)
      · exact absurd ht (by decide)
      · exact absurd ht (by decide)

end Go.Proofs.YtmikhbpffmojhaaDoor.nm
