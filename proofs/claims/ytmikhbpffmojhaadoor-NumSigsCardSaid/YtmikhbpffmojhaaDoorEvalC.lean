/- num.Eval of one number that fits. -/
import Derived.Test.YtmikhbpffmojhaaDoorEvalB
set_option linter.unusedVariables false
namespace Go.Proofs.YtmikhbpffmojhaaDoor.nm
open Go.RowKit

theorem ev_one {op a : Int} {r : Rn} (h : runAt op = some r) (ht : r.takes = 1) (hf : [a].all (fits r.of) = true) :
    ev op [a] = (raw1 (op - r.first + r.like) (wd r.of) a % 2 ^ wd r.answers, 0) := by
  unfold ev; rw [h]; simp only; rw [if_pos ⟨by rw [ht]; rfl, hf⟩]

/-- what is known of a world while the operator's run lies in block g: its cells, the number, and that nothing old has turned -/
def St1 (w : World) (g : Nat) (r : Rn) (bk off : Nat) (a : Int) (x : World) : Prop :=
  x.cell? ⟨g, 0, none⟩ = some (.int .i64 r.first) ∧ x.cell? ⟨g, 1, none⟩ = some (.int .i64 r.last) ∧ x.cell? ⟨g, 2, none⟩ = some (.int .i64 r.like) ∧ x.cell? ⟨g, 3, none⟩ = some (.int .i64 r.of) ∧
  x.cell? ⟨g, 4, none⟩ = some (.int .i64 r.takes) ∧ x.cell? ⟨g, 5, none⟩ = some (.int .i64 r.answers) ∧ x.cell? ⟨bk, off, none⟩ = some (.int .u64 a) ∧ Below w.heap.size w x
theorem St1.next {w x y : World} {g : Nat} {r : Rn} {bk off : Nat} {a : Int} (h : St1 w g r bk off a x) (hb : Below x.heap.size x y) : St1 w g r bk off a y := by
  obtain ⟨h0, h1, h2, h3, h4, h5, h6, h8⟩ := h
  exact ⟨keeps hb h0, keeps hb h1, keeps hb h2, keeps hb h3, keeps hb h4, keeps hb h5, keeps hb h6, bnext h8 hb⟩

theorem St1.low {w x : World} {g : Nat} {r : Rn} {bk off : Nat} {a : Int} (h : St1 w g r bk off a x) : Below w.heap.size w x := h.2.2.2.2.2.2.2

set_option maxRecDepth 100000 in
set_option maxHeartbeats 4000000 in
theorem eval_one (op a : Int) (v : Value) (w : World) (R : Runs w) (T : Tab w) (r : Rn) (h : runAt op = some r) (hv : Rd .u64 w v [a]) (ht : r.takes = 1) (d : Int) (hwd : (wd r.of : Int) = d)
    (ha0 : 0 ≤ a) (ha : a < 2 ^ d.toNat) (hf : [a].all (fits r.of) = true)
    (hk : op - r.first + r.like = 69 ∨ op - r.first + r.like = 103 ∨ op - r.first + r.like = 104 ∨ op - r.first + r.like = 105 ∨ op - r.first + r.like = 167 ∨ op - r.first + r.like = 172 ∨ op - r.first + r.like = 173 ∨ op - r.first + r.like = 192 ∨ op - r.first + r.like = 193 ∨ op - r.first + r.like = 194) :
    Calls Tryd.prog 20 #[.int .i64 op, v] w fun e w' => e = evR (ev op [a]) ∧ Below w.heap.size w w' := by
  have hd : d = 32 ∨ d = 64 := by rw [← hwd]; unfold wd; split <;> simp
  obtain ⟨hmem, ho1, ho2⟩ := runAt_spec h
  obtain ⟨f1, f2, f3, _, _, _⟩ := run_facts r hmem
  have ha' := pw hd ha
  have HR := Lib.hid (runOf_some R h)
  have HL := Lib.hid (fun w' => likeOf_any r op w' f1 f2 (by omega))
  have HW := Lib.hid (fun w' => widthOf_wd r.of w')
  have HWa := Lib.hid (fun w' => widthOf_wd r.answers w')
  have hev := ev_one h ht hf
  have hdn : wd r.of = d.toNat := by omega
  rw [hdn] at hev
  have Hev := Lib.hid hev
  rw [hwd] at HW
  have hne : ((1 : Int) != r.takes) = false := by rw [ht]; rfl
  have ht1 : (r.takes == 1) = true := by rw [ht]; rfl
  have HF := Lib.hid (fun w' (hb : Below w.heap.size w w') => hf ▸ fitAll_any r.of v [a] w' (hv.lift hb) (by simp; omega) (by simp))
  obtain ⟨ao, cap, rfl, hcap, _, hc⟩ := hv
  rcases hc with hc | ⟨bk, off, rfl, hc⟩
  · cases hc
  have c0 : w.cell? ⟨bk, off, none⟩ = some (.int .u64 a) := hc 0 (by simp)
  have hA := ha
  clear h R hc hf ha hmem ho1 ho2 f1 f2 f3 ht hwd hev hdn
  generalize op - r.first + r.like = k at HL hk Hev
  generalize ev op [a] = res at Hev
  have HOne := Lib.hid (fun w' (hT : Tab w') => one_does k d a w' hk hd ha0 hA hT)
  have hr := raw1_range k d.toNat a hk (by omega) ha0 hA
  generalize raw1 k d.toNat a = x at HOne Hev hr
  have hda : (wd r.answers : Int) = 32 ∨ (wd r.answers : Int) = 64 := by unfold wd; split <;> simp
  have HC := Lib.hid (fun w' => cut_any (wd r.answers) x w' hda hr.1 hr.2)
  rw [Int.toNat_natCast] at HC
  generalize x % 2 ^ wd r.answers = y at HC Hev
  clear hr hA
  go_enter Tryd.func20, Tryd.ntmps20
  go_wp2_with (first
    | (go_at_call 24; refine HR.out.mono ?_; rintro e w1 ⟨rfl, hb1⟩)
    | (go_at_call 30; refine (HF.out _ (bnextA hb1 _)).mono ?_; rintro e w2 ⟨rfl, m, rfl⟩))
  have hst : St1 w w1.heap.size r bk off a ((w1.alloc (.cells #[.int .i64 r.first, .int .i64 r.last, .int .i64 r.like, .int .i64 r.of, .int .i64 r.takes, .int .i64 r.answers] 43)).drewN m) := by
    have hb2 := (bnext (bnextA hb1 (.cells #[.int .i64 r.first, .int .i64 r.last, .int .i64 r.like, .int .i64 r.of, .int .i64 r.takes, .int .i64 r.answers] 43)) (belowN _ m))
    refine ⟨?_, ?_, ?_, ?_, ?_, ?_, keeps hb2 c0, hb2⟩ <;> simp [go_sem]
  generalize (w1.alloc (.cells #[.int .i64 r.first, .int .i64 r.last, .int .i64 r.like, .int .i64 r.of, .int .i64 r.takes, .int .i64 r.answers] 43)).drewN m = w3 at hst ⊢
  generalize w1.heap.size = g at hst ⊢
  obtain ⟨s0, s1, s2, s3, s4, s5, s6, s8⟩ := hst
  clear HR HF c0 hb1
  have hdr : ∀ x : World, Below w.heap.size w x → Below w.heap.size w x.drew := fun x h => h.drew
  have hdn : ∀ (x : World) (n : Nat), Below w.heap.size w x → Below w.heap.size w (x.drewN n) := fun x n h => bnext h (belowN _ _)
  have HTb := Lib.hid T
  clear T
  go_region_held3 (fun x => x.cell? ⟨g, 0, none⟩ = some (.int .i64 r.first) ∧ x.cell? ⟨g, 1, none⟩ = some (.int .i64 r.last) ∧ x.cell? ⟨g, 2, none⟩ = some (.int .i64 r.like) ∧ x.cell? ⟨g, 3, none⟩ = some (.int .i64 r.of) ∧
      x.cell? ⟨g, 4, none⟩ = some (.int .i64 r.takes) ∧ x.cell? ⟨g, 5, none⟩ = some (.int .i64 r.answers) ∧ x.cell? ⟨bk, off, none⟩ = some (.int .u64 a) ∧ Below w.heap.size w x)
    (first | go_keep | exact St1.next (by unfold St1; go_keep) hb4)
    (first
      | (go_at_call 31; refine (HW.out _).mono ?_; rintro e w4 ⟨rfl, m4, rfl⟩)
      | (go_at_call 29; refine (HL.out _).mono ?_; rintro e w4 ⟨rfl, hb4⟩))
  have hHeld : St1 w g r bk off a w4 := by unfold St1; assumption
  clear HW HL s0 s1 s2 s3 s4 s5 s6 s8
  obtain ⟨q0, q1, q2, q3, q4, q5, q6, q8⟩ := hHeld
  go_wp2_with fail
  have T5 : Tab w4 := HTb.out.lift q8
  have HOne' := Lib.hid (fun (n : Nat) => HOne.out (w4.drewN n) T5)
  have q9 : St1 w g r bk off a (w4.drewN 0) := ⟨q0, q1, q2, q3, q4, q5, q6, q8⟩
  clear HTb hb4 HOne
  go_region_held3 (fun x => x.cell? ⟨g, 0, none⟩ = some (.int .i64 r.first) ∧ x.cell? ⟨g, 1, none⟩ = some (.int .i64 r.last) ∧ x.cell? ⟨g, 2, none⟩ = some (.int .i64 r.like) ∧ x.cell? ⟨g, 3, none⟩ = some (.int .i64 r.of) ∧
        x.cell? ⟨g, 4, none⟩ = some (.int .i64 r.takes) ∧ x.cell? ⟨g, 5, none⟩ = some (.int .i64 r.answers) ∧ x.cell? ⟨bk, off, none⟩ = some (.int .u64 a) ∧ Below w.heap.size w x)
      (first | (rw [← World.drewN_drewN]; exact St1.next (by unfold St1; assumption) (belowN _ _)) | go_keep | exact St1.next (by unfold St1; go_keep) hb6)
      (first
        | (go_at_call 31; refine (HWa.out _).mono ?_; rintro e w6 ⟨rfl, m6, rfl⟩)
        | (go_at_call 33; refine (HOne'.out _).mono ?_; rintro e w6 ⟨⟨vv, rfl, f, cp, rfl, hE, hD⟩, hb6⟩; unfold Enters at hE)
        | (go_at_call 32; refine (HC.out _).mono ?_; rintro e w7 ⟨rfl, m7, rfl⟩)
        | (refine (hD _ (by first | exact belowN _ _ | exact Below.refl _ _ | exact (Below.refl _ _).drew)).mono ?_; rintro e w7 ⟨rfl, m7, rfl⟩))
  go_wp2
  go_ret2
  refine ⟨by rw [Hev.out]; rfl, ?_⟩
  exact (St1.low (g := g) (r := r) (bk := bk) (off := off) (a := a) (by unfold St1; assumption))
end Go.Proofs.YtmikhbpffmojhaaDoor.nm
