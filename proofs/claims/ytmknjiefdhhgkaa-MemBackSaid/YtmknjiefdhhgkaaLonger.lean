/- MemLonger holds: a memory that grew has its bytes, and 0 behind; what was inside is inside, and reads as before: the law returns true. No condition. -/
import Derived.Test.YtmknjiefdhhgkaaOpen
import Derived.Test.YtmknjiefdhhgkaaAlive
namespace Go.Proofs.Ytmknjiefdhhgkaa.mm
open Go.ChangeShapes Go.WideShapes Go.ChangeAt Go.RowKit

theorem getD_back (l : List Int) (k i : Nat) : (l ++ List.replicate k 0).getD i 0 = if i < l.length then l.getD i 0 else 0 := by
  simp only [List.getD_eq_getElem?_getD]
  by_cases h : i < l.length
  · rw [if_pos h, List.getElem?_append_left h]
  · rw [if_neg h, List.getElem?_append_right (by omega), List.getElem?_replicate]; split <;> rfl
/-- what a growth answers is the bytes, and zeros behind -/
theorem growR_back (l : List Int) (most pages : Int) : ∃ k, (growR l most pages).1 = l ++ List.replicate k 0 := by
  unfold growR; split
  · exact ⟨_, rfl⟩
  · exact ⟨0, by simp⟩
theorem loadR_back {l : List Int} (k : Nat) {o a f : Int} (a0 : 0 ≤ a) (f0 : 0 ≤ f) (h : (loadR l o a f).2 = 0) : loadR (l ++ List.replicate k 0) o a f = loadR l o a f := by
  unfold loadR at h ⊢
  cases hacc : acc o with
  | none => rfl
  | some A =>
    rw [hacc] at h
    simp only at h ⊢
    split
    · rfl
    · rename_i h1
      rw [if_neg h1] at h
      split at h
      · rename_i h2
        rw [if_pos (by rw [List.length_append]; omega)]
        rw [List.drop_append_of_le_length (by omega), List.take_append_of_le_length (by rw [List.length_drop]; omega), if_pos h2]
      · cases h
theorem insB_back {n k : Nat} {a e : Int} (h : insB n a e = true) : insB (n + k) a e = true := by
  simp [insB] at h ⊢; omega

/-- where a slice lies that has a byte -/
theorem Rd.head {w : World} {ao : Option Addr} {n cap : Nat} {l : List Int} (h : Rd w (.slice ao n cap) l) (hn : n = l.length) {q : Nat} (hq : q < n) : ∃ b off, ao = some ⟨b, off, none⟩ ∧ ∀ j, j < n → w.cell? ⟨b, off + j, none⟩ = some (.int .u8 (l.getD j 0)) := by
  subst hn
  obtain ⟨ao', cap', e, _, _, h⟩ := h
  simp only [Value.slice.injEq] at e
  obtain ⟨rfl, _, _⟩ := e
  rcases h with rfl | ⟨b, off, rfl, h⟩
  · simp at hq
  · exact ⟨b, off, rfl, h⟩

set_option maxRecDepth 100000 in
set_option maxHeartbeats 4000000 in
theorem longer_any (v : Value) (l : List Int) (pages o a f n : Int) (w : World) (hv : Rd w v l) (hr : Bs l) (hl : l.length ≤ 140737488351232) (p0 : 0 ≤ pages) (p1 : pages < 18446744073709551616) (a0 : 0 ≤ a) (a1 : a < 18446744073709551616) (f0 : 0 ≤ f) (f1 : f < 18446744073709551616) :
    Calls Try.prog 8 #[v, .int .u64 pages, .agg #[.int .i64 o, .int .u64 a, .int .u64 f, .int .u64 n]] w fun e w' => e = .returned (.bool true) ∧ Below w.heap.size w w' := by
  obtain ⟨k, hk⟩ := growR_back l 4096 pages
  have HG := Lib.hid (fun w' (hb : Below w.heap.size w w') => Grow_any v l 4096 pages w' (hv.lift hb) (by omega) p0 p1 (by decide) (by decide))
  rw [hk] at HG
  have hlk : (l ++ List.replicate k (0:Int)).length = l.length + k := by simp
  have hk' : l.length + k ≤ 140737488355328 := by
    have := congrArg List.length hk
    rw [hlk] at this
    unfold growR at this
    split at this
    · rename_i h; simp [growB] at h; simp at this; omega
    · simp at this; omega
  have hr2 : Bs (l ++ List.replicate k 0) := hr.append (Bs.zeros k)
  have hgd := getD_back l k
  have hld := fun h => loadR_back (l := l) k (o := o) a0 f0 h
  have hib := fun h => insB_back (n := l.length) (k := k) (a := a) (e := f) h
  obtain ⟨L, hL⟩ : ∃ L, l ++ List.replicate k (0:Int) = L := ⟨_, rfl⟩
  rw [hL] at HG hlk hr2 hgd hld
  have HL := Lib.hid (fun w' (hb : Below w.heap.size w w') => Load_any v l o a f w' (hv.lift hb) hr (by omega) a0 f0)
  have HM := Lib.hid (fun vb w' (hb : Rd w' vb L) => Load_any vb L o a f w' hb hr2 (by omega) a0 f0)
  have HI := Lib.hid (fun w' (hb : Below w.heap.size w w') => Inside_any v l a f w' (hv.lift hb) (by omega) a0 a1 f0 f1)
  have HJ := Lib.hid (fun vb w' (hb : Rd w' vb L) => hlk ▸ Inside_any vb L a f w' hb (by omega) a0 a1 f0 f1)
  have Hgd := Lib.hid hgd
  have Hlk := Lib.hid hlk
  clear hk hL hr2 hgd hlk
  obtain ⟨g1, hg1⟩ : ∃ x, (growR l 4096 pages).2 = x := ⟨_, rfl⟩
  rw [hg1] at HG
  clear hg1
  obtain ⟨x, hx⟩ : ∃ x, loadR l o a f = x := ⟨_, rfl⟩
  obtain ⟨y, hy⟩ : ∃ y, loadR L o a f = y := ⟨_, rfl⟩
  obtain ⟨i, hi⟩ : ∃ i, insB l.length a f = i := ⟨_, rfl⟩
  obtain ⟨j, hj⟩ : ∃ j, insB (l.length + k) a f = j := ⟨_, rfl⟩
  rw [hx] at HL hld
  rw [hy] at HM hld
  rw [hi] at HI hib
  rw [hj] at HJ hib
  obtain ⟨x1, x2⟩ := x
  obtain ⟨y1, y2⟩ := y
  simp only at HL HM hld
  clear hx hy hi hj
  have hcase : (x2 = 0 ∧ y1 = x1 ∧ y2 = 0) ∨ (x2 != 0) = true := by
    by_cases h : x2 = 0
    · have e := hld h
      simp only [Prod.mk.injEq] at e
      exact .inl ⟨h, e.1, e.2.trans h⟩
    · exact .inr (by simpa using h)
  have hcase2 : (i = true ∧ j = true) ∨ i = false := by
    cases i
    · exact .inr rfl
    · exact .inl ⟨rfl, hib rfl⟩
  clear hld hib
  rcases hcase with ⟨rfl, rfl, rfl⟩ | hx2 <;> rcases hcase2 with ⟨rfl, rfl⟩ | rfl
  all_goals
    obtain ⟨ao, cap, rfl, hcap, _⟩ := hv.data
    have Hv := Lib.hid hv
    go_enter Try.func8, Try.ntmps8
    go_wp2_with fail
    refine (HG.out _ (made_below _ _)).mono ?_
    rintro e w1 ⟨v1, rfl, ho1, hb1⟩
    have hB1 := bnext (made_below w _) hb1
    have hT := (TBox.new w o a f n).lift hb1
    have hd1 := ho1.rd
    obtain ⟨ao1, cap1, rfl, hcap1, _⟩ := hd1.data
    have Hd1 := Lib.hid hd1
    have HT := Lib.hid hT
    clear hT hb1 ho1 hd1 hv
    obtain ⟨N, hN⟩ : ∃ N, L.length = N := ⟨_, rfl⟩
    have HN := Lib.hid hN
    have hNk : N = l.length + k := by rw [← hN]; exact Hlk.out
    rw [hN] at Hd1 hcap1 ⊢
    clear hN
    have hlN : l.length ≤ N := by omega
    have hN2 : N ≤ 140737488355328 := by omega
    clear hNk
    go_wp2_with fail
    go_loopw [27] (fun i wr => ∃ q : Nat, q ≤ N ∧ i = .int .i64 q ∧ Below w1.heap.size w1 wr) (fun i _ => N - (intOf i).toNat)
    case atStart => exact ⟨0, Nat.zero_le _, rfl, Below.refl _ _⟩
    case round =>
      obtain ⟨q, hq, rfl, hB⟩ := hrel
      have HB := Lib.hid hB
      clear hB
      by_cases hlt : q < N
      · obtain ⟨b1, off1, rfl, hc1⟩ := (Hd1.out.lift HB.out).head HN.out.symm hlt
        have c1 := hc1 q hlt
        rw [Hgd.out q] at c1
        clear hc1
        by_cases hq2 : q < l.length
        · rw [if_pos hq2] at c1
          obtain ⟨b0, off0, rfl, hc0⟩ := (Hv.out.lift (bnext hB1 HB.out)).head rfl hq2
          have c0 := hc0 q hq2
          clear hc0
          generalize l.getD q 0 = x at c0 c1
          have hne : (x != x) = false := by simp
          have hd2 : decide (l.length ≤ q) = false := decide_eq_false (by omega)
          go_wp2_with fail
          go_quiet (fail)
          go_wp2
          go_roundw
          case rel => exact ⟨q + 1, by omega, by go_num, HB.out.trans (belowN _ _)⟩
          case measure => simp [intOf]; omega
        · rw [if_neg hq2] at c1
          have hd2 : decide (q < l.length) = false := decide_eq_false hq2
          have hd3 : l.length ≤ q := by omega
          clear hq2
          go_wp2_with fail
          go_quiet (fail)
          go_wp2
          go_roundw
          case rel => exact ⟨q + 1, by omega, by go_num, HB.out.trans (belowN _ _)⟩
          case measure => simp [intOf]; omega
      · obtain rfl : q = N := by omega
        have hB2 := bnext hB1 HB.out
        have hT2 := HT.out.lift HB.out
        obtain ⟨c0, c1, c2, c3⟩ := hT2.cells
        clear hlt hq
        go_wp2_with fail
        refine (HL.out _ hB2).mono ?_
        rintro e w3 ⟨rfl, hb3⟩
        have hB3 := bnext hB2 hb3
        have hT3 := hT2.lift hb3
        obtain ⟨c0, c1, c2, c3⟩ := hT3.cells
        have hd3 := Lib.hid ((Hd1.out.lift HB.out).lift hb3)
        go_wp2_with fail
        refine (HM.out _ _ hd3.out).mono ?_
        rintro e w4 ⟨rfl, hb4⟩
        have hB4 := bnext hB3 hb4
        have hT4 := hT3.lift hb4
        obtain ⟨c0, c1, c2, c3⟩ := hT4.cells
        have hd4 := Lib.hid (hd3.out.lift hb4)
        clear hT2 hT3 hb3 hb4
        go_wp2_with (first
          | (go_at_call 12; (with_reducible refine (HI.out _ hB4).mono ?_); rintro e w5 ⟨rfl, rfl⟩)
          | (go_at_call 12; (with_reducible refine (HJ.out _ _ hd4.out).mono ?_); rintro e w5 ⟨rfl, rfl⟩)
          | (go_at_call 14; refine (alive_any _).mono ?_; rintro e w6 ⟨rfl, hb6⟩))
        go_ret
        exact ⟨rfl, bnext hB4 hb6⟩

-- LAW
set_option maxRecDepth 100000 in
theorem longer_lifted (os : Os) (started : os.Started) (H : Type) (enc : TypeId × Value → H) :
    ReturnsInHanded {} Try.checked os 8 .any (Rows.memLongerSpec.pre6 enc Try.prog Try.f8 Rows.memLongerRow.domain false) (Rows.memLongerSpec.post enc Try.prog Try.f8 false true false false) := by
  refine returnsInHanded_of_change_sized (C := Try.checked) own started (by kernel_rfl) Try.func8
    (ChangeSpec.witness6 (enc := enc) (C := Try.checked) false ⟨#[], #[.slice none 0 0, .int .u64 0, .agg #[.int .i64 0, .int .u64 0, .int .u64 0, .int .u64 0]], []⟩ 8 (by kernel_rfl) (by kernel_rfl) (by kernel_rfl) (by kernel_rfl)) ?_
  intro W base args ds gs before hval0 hW _ hsz0 _
  have hsz : (DataW.weightsEach Try.prog (Try.f8.params.toList ++ Rows.memLongerSpec.plain.varTypes Try.prog) (ds ++ gs)).all (· ≤ reachBytes) = true := hsz0
  clear hsz0
  have hval : ∀ (j : Nat) t v, Try.f8.params[j]? = some t → args[j]? = some v → Value.okWide Try.prog W .any base t v := hval0
  clear hval0
  have hW' := hW
  obtain ⟨p, q, hA0, hV, rfl, _, _⟩ := hW
  have hA : DataW.TrodAll enc Try.prog W 0 (fun _ => true) true Try.f8.params.toList args.toList ds p := hA0
  rw [Try.params8] at hA hval hsz
  obtain ⟨v0, vs0, d0, ds0, p0, q0, hargs, rfl, rfl, h0, r0⟩ := trodAll_cons hA
  obtain ⟨v1, vs1, d1, ds1, p1, q1, rfl, rfl, rfl, h1, r1⟩ := trodAll_cons r0
  obtain ⟨v2, vs2, d2, ds2, p2, q2, rfl, rfl, rfl, h2, r2⟩ := trodAll_cons r1
  obtain ⟨rfl, rfl, rfl⟩ := trodAll_nil r2
  obtain rfl : args = #[v0, v1, v2] := by cases args; simp_all
  obtain ⟨rfl, rfl⟩ := trodVars_none hV
  obtain ⟨l0, hrd0, hr0, hl0, _⟩ := open_bytes (hval 0 22 v0 rfl rfl) h0 (fun elems spare hd => sized_slice hsz (j := 0) (t := 22) (e := 5) rfl (by rw [hd]; rfl) Try.underlying22)
  obtain ⟨n1, rfl, rfl, rfl, wn1⟩ := open_int Try.underlying23 (hval 1 23 v1 rfl rfl) h1
  have hn1 : 0 ≤ n1 ∧ n1 < 18446744073709551616 := by
    simp [Lit.wf, IntKind.min, IntKind.max, IntKind.signed, IntKind.bits] at wn1; omega
  obtain ⟨o2, a2, f2, n2, rfl, ho2, ha2, hf2, hn2⟩ := open_try (hval 2 31 v2 rfl rfl) h2
  refine (longer_any v0 l0 n1 o2 a2 f2 n2 W hrd0 hr0 hl0 hn1.1 hn1.2 ha2.1 ha2.2 hf2.1 hf2.2).mono fun e W' ⟨he, hb⟩ => ?_
  subst he
  exact ⟨_, rfl, law_done rfl rfl (by rw [Try.params8]; intro t ht; simp at ht; rcases ht with rfl | rfl | rfl <;> exact ⟨by kernel_rfl, of_decide_eq_true (by kernel_rfl)⟩) hW' rfl rfl rfl hb⟩

theorem longer_holds : Rows.MemLongerSaid :=
  OpenClaim.holds_of_wide 8 Try.f8 rfl rfl rfl rfl rfl rfl rfl ⟨rfl, rfl, rfl, rfl, rfl⟩ rfl rfl rfl rfl rfl (by kernel_rfl) Try.func8 (by kernel_rfl)
    (of_decide_eq_true (by kernel_rfl)) (by unfold Func.isWrapper; first | (rw [if_pos (by decide +kernel)]; kernel_rfl) | (rw [if_neg (by decide +kernel)]; exact ⟨rfl, rfl⟩))
    (fun os started H enc _ => longer_lifted os started H enc)
end Go.Proofs.Ytmknjiefdhhgkaa.mm
