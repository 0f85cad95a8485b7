/- num.Eval of two numbers that fit. -/
import Derived.Test.YtmikhbpffmojhaaDoorEvalA
import Derived.Test.YtmikhbpffmojhaaDoorRange
set_option linter.unusedVariables false
namespace Go.Proofs.YtmikhbpffmojhaaDoor.nm
open Go.RowKit

theorem widthOf_wd (t : Int) (w : World) : Tells 31 #[.int .i64 t] w (.int .i64 (wd t : Int)) := by
  have := widthOf_any t w
  unfold wd
  by_cases h : t = 127
  · rw [if_pos h] at this ⊢; exact this
  · rw [if_neg h] at this ⊢; exact this

theorem ev_two {op a b : Int} {r : Rn} (h : runAt op = some r) (ht : r.takes = 2) (hf : [a, b].all (fits r.of) = true) :
    ev op [a, b] = if trapOf (op - r.first + r.like) (wd r.of) a b = 0 then (raw2 (op - r.first + r.like) (wd r.of) a b % 2 ^ wd r.answers, 0) else (0, trapOf (op - r.first + r.like) (wd r.of) a b) := by
  unfold ev; rw [h]; simp only; rw [if_pos ⟨by rw [ht]; rfl, hf⟩]

/-- what is known of a world while the operator's run lies in block g: its cells, the two numbers, and that nothing old has turned -/
def St (w : World) (g : Nat) (r : Rn) (bk off : Nat) (a b : Int) (x : World) : Prop :=
  x.cell? ⟨g, 0, none⟩ = some (.int .i64 r.first) ∧ x.cell? ⟨g, 1, none⟩ = some (.int .i64 r.last) ∧ x.cell? ⟨g, 2, none⟩ = some (.int .i64 r.like) ∧ x.cell? ⟨g, 3, none⟩ = some (.int .i64 r.of) ∧
  x.cell? ⟨g, 4, none⟩ = some (.int .i64 r.takes) ∧ x.cell? ⟨g, 5, none⟩ = some (.int .i64 r.answers) ∧ x.cell? ⟨bk, off, none⟩ = some (.int .u64 a) ∧ x.cell? ⟨bk, off + 1, none⟩ = some (.int .u64 b) ∧ Below w.heap.size w x
theorem keeps {x y : World} (hb : Below x.heap.size x y) {p : Addr} {v : Value} (hp : x.cell? p = some v) : y.cell? p = some v := by
  have := World.block_lt_of_cell? x _ hp
  rw [hb.cell this]; exact hp
theorem St.next {w x y : World} {g : Nat} {r : Rn} {bk off : Nat} {a b : Int} (h : St w g r bk off a b x) (hb : Below x.heap.size x y) : St w g r bk off a b y := by
  obtain ⟨h0, h1, h2, h3, h4, h5, h6, h7, h8⟩ := h
  exact ⟨keeps hb h0, keeps hb h1, keeps hb h2, keeps hb h3, keeps hb h4, keeps hb h5, keeps hb h6, keeps hb h7, bnext h8 hb⟩

theorem St.low {w x : World} {g : Nat} {r : Rn} {bk off : Nat} {a b : Int} (h : St w g r bk off a b x) : Below w.heap.size w x := h.2.2.2.2.2.2.2.2

set_option maxRecDepth 100000 in
set_option maxHeartbeats 4000000 in
theorem eval_two (op a b : Int) (v : Value) (w : World) (R : Runs w) (T : Tab w) (r : Rn) (h : runAt op = some r) (hv : Rd .u64 w v [a, b]) (ht : r.takes = 2) (d : Int) (hwd : (wd r.of : Int) = d)
    (ha0 : 0 ≤ a) (ha : a < 2 ^ d.toNat) (hb0 : 0 ≤ b) (hb : b < 2 ^ d.toNat) (hf : [a, b].all (fits r.of) = true)
    (hk : 70 ≤ op - r.first + r.like ∧ op - r.first + r.like ≤ 79 ∨ 106 ≤ op - r.first + r.like ∧ op - r.first + r.like ≤ 120) :
    Calls Tryd.prog 20 #[.int .i64 op, v] w fun e w' => e = evR (ev op [a, b]) ∧ Below w.heap.size w w' := by
  have hd : d = 32 ∨ d = 64 := by rw [← hwd]; unfold wd; split <;> simp
  obtain ⟨hmem, ho1, ho2⟩ := runAt_spec h
  obtain ⟨f1, f2, f3, _, _, _⟩ := run_facts r hmem
  have ha' := pw hd ha
  have hb' := pw hd hb
  have HR := Lib.hid (runOf_some R h)
  have HL := Lib.hid (fun w' => likeOf_any r op w' f1 f2 (by omega))
  have HW := Lib.hid (fun w' => widthOf_wd r.of w')
  have HWa := Lib.hid (fun w' => widthOf_wd r.answers w')
  have HT := Lib.hid (fun w' => trap_any (op - r.first + r.like) d a b w' hd ha0 ha hb0 hb)
  have hev := ev_two h ht hf
  have hdn : wd r.of = d.toNat := by omega
  rw [hdn] at hev
  have Hev := Lib.hid hev
  rw [hwd] at HW
  have hne : ((2 : Int) != r.takes) = false := by rw [ht]; rfl
  have ht1 : (r.takes == 1) = false := by rw [ht]; rfl
  have HF := Lib.hid (fun w' (hb : Below w.heap.size w w') => hf ▸ fitAll_any r.of v [a, b] w' (hv.lift hb) (by simp; omega) (by simp))
  obtain ⟨ao, cap, rfl, hcap, _, hc⟩ := hv
  rcases hc with hc | ⟨bk, off, rfl, hc⟩
  · cases hc
  have c0 : w.cell? ⟨bk, off, none⟩ = some (.int .u64 a) := hc 0 (by simp)
  have c1 : w.cell? ⟨bk, off + 1, none⟩ = some (.int .u64 b) := hc 1 (by simp)
  have hA := ha
  have hB := hb
  clear h R hc hf ha hb hmem ho1 ho2 f1 f2 f3 ht hwd hev hdn
  generalize op - r.first + r.like = k at HL hk Hev HT
  generalize ev op [a, b] = res at Hev
  have HTwo0 := fun w' (hz : 109 ≤ k → k ≤ 112 → b ≠ 0) => two_does k d a b w' hk hd ha0 hA hb0 hB hz
  have hz0 : trapOf k d.toNat a b = 0 → 109 ≤ k → k ≤ 112 → b ≠ 0 := by
    intro h1 h2 h3 h4
    rw [trapOf, if_pos ⟨h2, h3⟩, if_pos h4] at h1
    cases h1
  have HTwo := Lib.hid (fun w' (h : trapOf k d.toNat a b = 0) => HTwo0 w' (hz0 h))
  have hr := raw2_range k d.toNat a b hk ha0 ha' hb0 hb'
  generalize raw2 k d.toNat a b = x at HTwo Hev hr
  generalize trapOf k d.toNat a b = t at HT HTwo Hev
  have hda : (wd r.answers : Int) = 32 ∨ (wd r.answers : Int) = 64 := by unfold wd; split <;> simp
  have HC := Lib.hid (fun w' => cut_any (wd r.answers) x w' hda hr.1 hr.2)
  rw [Int.toNat_natCast] at HC
  generalize x % 2 ^ wd r.answers = y at HC Hev
  clear HTwo0 hz0 hr hA hB
  go_enter Tryd.func20, Tryd.ntmps20
  go_wp2_with (first
    | (go_at_call 24; refine HR.out.mono ?_; rintro e w1 ⟨rfl, hb1⟩)
    | (go_at_call 30; refine (HF.out _ (bnextA hb1 _)).mono ?_; rintro e w2 ⟨rfl, m, rfl⟩))
  have hst : St w w1.heap.size r bk off a b ((w1.alloc (.cells #[.int .i64 r.first, .int .i64 r.last, .int .i64 r.like, .int .i64 r.of, .int .i64 r.takes, .int .i64 r.answers] 43)).drewN m) := by
    have hb2 := (bnext (bnextA hb1 (.cells #[.int .i64 r.first, .int .i64 r.last, .int .i64 r.like, .int .i64 r.of, .int .i64 r.takes, .int .i64 r.answers] 43)) (belowN _ m))
    refine ⟨?_, ?_, ?_, ?_, ?_, ?_, keeps hb2 c0, keeps hb2 c1, hb2⟩ <;> simp [go_sem]
  generalize (w1.alloc (.cells #[.int .i64 r.first, .int .i64 r.last, .int .i64 r.like, .int .i64 r.of, .int .i64 r.takes, .int .i64 r.answers] 43)).drewN m = w3 at hst ⊢
  generalize w1.heap.size = g at hst ⊢
  obtain ⟨s0, s1, s2, s3, s4, s5, s6, s7, s8⟩ := hst
  clear HR HF c0 c1 hb1
  have hdr : ∀ x : World, Below w.heap.size w x → Below w.heap.size w x.drew := fun x h => h.drew
  have hdn : ∀ (x : World) (n : Nat), Below w.heap.size w x → Below w.heap.size w (x.drewN n) := fun x n h => bnext h (belowN _ _)
  go_region_held3 (fun x => x.cell? ⟨g, 0, none⟩ = some (.int .i64 r.first) ∧ x.cell? ⟨g, 1, none⟩ = some (.int .i64 r.last) ∧ x.cell? ⟨g, 2, none⟩ = some (.int .i64 r.like) ∧ x.cell? ⟨g, 3, none⟩ = some (.int .i64 r.of) ∧
      x.cell? ⟨g, 4, none⟩ = some (.int .i64 r.takes) ∧ x.cell? ⟨g, 5, none⟩ = some (.int .i64 r.answers) ∧ x.cell? ⟨bk, off, none⟩ = some (.int .u64 a) ∧ x.cell? ⟨bk, off + 1, none⟩ = some (.int .u64 b) ∧ Below w.heap.size w x)
    (first | go_keep | exact St.next (by unfold St; go_keep) hb4)
    (first
      | (go_at_call 31; refine (HW.out _).mono ?_; rintro e w4 ⟨rfl, m4, rfl⟩)
      | (go_at_call 29; refine (HL.out _).mono ?_; rintro e w4 ⟨rfl, hb4⟩))
  go_wp2_with fail
  go_quiet ((go_at_call 34; exact Calls.quiet_of (HT.out _)))
  by_cases ht0 : t = 0
  · have hb0' : (t != 0) = false := by simp [ht0]
    have hres := Hev.out
    rw [if_pos ht0] at hres
    have Hres := Lib.hid hres
    have HTwo' := Lib.hid (fun w' => HTwo.out w' ht0)
    clear hres ht0 HTwo Hev HT HW HL
    go_wp2_with fail
    have hHeld : St w g r bk off a b (w4.drewN nq) := St.next (by unfold St; assumption) (belowN _ _)
    generalize w4.drewN nq = w5 at hHeld ⊢
    obtain ⟨q0, q1, q2, q3, q4, q5, q6, q7, q8⟩ := hHeld
    clear s0 s1 s2 s3 s4 s5 s6 s7 s8 hb4
    have t01 : (0 : Int) < ([a, b].length : Nat) := by simp
    have t02 : (1 : Int) < ([a, b].length : Nat) := by simp
    go_region_held3 (fun x => x.cell? ⟨g, 0, none⟩ = some (.int .i64 r.first) ∧ x.cell? ⟨g, 1, none⟩ = some (.int .i64 r.last) ∧ x.cell? ⟨g, 2, none⟩ = some (.int .i64 r.like) ∧ x.cell? ⟨g, 3, none⟩ = some (.int .i64 r.of) ∧
        x.cell? ⟨g, 4, none⟩ = some (.int .i64 r.takes) ∧ x.cell? ⟨g, 5, none⟩ = some (.int .i64 r.answers) ∧ x.cell? ⟨bk, off, none⟩ = some (.int .u64 a) ∧ x.cell? ⟨bk, off + 1, none⟩ = some (.int .u64 b) ∧ Below w.heap.size w x)
      (first | (rw [← World.drewN_drewN]; exact St.next (by unfold St; assumption) (belowN _ _)) | go_keep | exact St.next (by unfold St; go_keep) hb6)
      (first
        | (go_at_call 31; refine (HWa.out _).mono ?_; rintro e w6 ⟨rfl, m6, rfl⟩)
        | (go_at_call 35; refine (HTwo'.out _).mono ?_; rintro e w6 ⟨⟨vv, rfl, f, cp, rfl, hE, hD⟩, hb6⟩; unfold Enters at hE)
        | (go_at_call 32; refine (HC.out _).mono ?_; rintro e w7 ⟨rfl, m7, rfl⟩)
        | (refine (hD _ (by first | exact belowN _ _ | exact Below.refl _ _ | exact (Below.refl _ _).drew)).mono ?_; rintro e w7 ⟨rfl, m7, rfl⟩))
    go_wp2
    go_ret2
    refine ⟨by rw [Hres.out]; rfl, ?_⟩
    exact (St.low (g := g) (r := r) (bk := bk) (off := off) (a := a) (b := b) (by unfold St; assumption))
  · have hb0' : (t != 0) = true := by simp [ht0]
    have hres := Hev.out
    rw [if_neg ht0] at hres
    subst hres
    clear ht0
    go_wp2
    go_ret2
    refine ⟨rfl, hdn _ _ ?_⟩
    have hh : St w g r bk off a b w4 := by unfold St; assumption
    exact hh.2.2.2.2.2.2.2.2
end Go.Proofs.YtmikhbpffmojhaaDoor.nm
