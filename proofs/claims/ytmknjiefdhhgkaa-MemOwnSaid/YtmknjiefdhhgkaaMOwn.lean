/- MemOwn holds: memories are not written, and what was answered may be written over: the law returns true. No condition. -/
import Derived.Test.YtmknjiefdhhgkaaOpen
import Derived.Test.YtmknjiefdhhgkaaAlive
import Derived.Lib.Small
namespace Go.Proofs.Ytmknjiefdhhgkaa.mm
open Go.ChangeShapes Go.WideShapes Go.ChangeAt Go.RowKit
set_option linter.unusedVariables false

def pick3 {α : Type} (a b c : α) : Nat → α
  | 0 => a
  | 1 => b
  | _ => c
def pick4 {α : Type} (a b c d : α) : Nat → α
  | 0 => a
  | 1 => b
  | 2 => c
  | _ => d
/-- the rows from the k-th on are the call's own, each in a block between two numbers; the list of the three lies in block g -/
def Rows3 (vs : Nat → Value) (Bs : Nat → Nat) (g : Nat) (w : World) (k : Nat) : Prop :=
  (∀ j, k ≤ j → j < 3 → ∃ xs, Own w (Bs j) (vs j) xs ∧ ∀ b, (vs j).ownBlock = some b → b < Bs (j + 1)) ∧ (∀ j, j < 3 → w.cell? ⟨g, j, none⟩ = some (vs j)) ∧ (∀ j, j < 3 → Bs j ≤ Bs (j + 1)) ∧ Bs 3 ≤ g
theorem Rows3.mono {vs : Nat → Value} {Bs : Nat → Nat} {g : Nat} {w : World} {k k' : Nat} (h : Rows3 vs Bs g w k) (hk : k ≤ k') : Rows3 vs Bs g w k' := ⟨fun j h1 h2 => h.1 j (by omega) h2, h.2⟩
theorem Bs_le {Bs : Nat → Nat} (h : ∀ j, j < 3 → Bs j ≤ Bs (j + 1)) {j k : Nat} (hk : k ≤ j) (hj : j ≤ 3) : Bs k ≤ Bs j := by
  induction j with
  | zero => obtain rfl : k = 0 := by omega
            exact Nat.le_refl _
  | succ j ih =>
    by_cases e : k = j + 1
    · subst e; exact Nat.le_refl _
    · exact Nat.le_trans (ih (by omega) (by omega)) (h j (by omega))
/-- a store into the k-th row -/
theorem Rows3.store {vs : Nat → Value} {Bs : Nat → Nat} {g : Nat} {w : World} {k : Nat} (h : Rows3 vs Bs g w (k + 1)) (hk : k < 3) {b : Nat} (hb : b < Bs (k + 1)) (o : Nat) (u : Value) : Rows3 vs Bs g (w.setCell ⟨b, o, none⟩ u) (k + 1) := by
  obtain ⟨h1, h2, h3, h4⟩ := h
  refine ⟨fun j hj hj3 => ?_, fun j hj => ?_, h3, h4⟩
  · obtain ⟨xs, ho, hlt⟩ := h1 j hj hj3
    exact ⟨xs, ho.setCell_below (p := ⟨b, o, none⟩) (Nat.lt_of_lt_of_le hb (Bs_le h3 hj (by omega))) u, hlt⟩
  · have hg : b < g := Nat.lt_of_lt_of_le hb (Nat.le_trans (Bs_le h3 (show k + 1 ≤ 3 by omega) (Nat.le_refl _)) h4)
    rw [World.cell?_of_block (w' := w.setCell ⟨b, o, none⟩ u) (w := w) (a := ⟨g, j, none⟩) (Below.heap_setCell _ _ _ g (by show g ≠ b; omega))]
    exact h2 j hj

theorem Own.le_max {w : World} {B : Nat} {ao : Option Addr} {n cap : Nat} {xs : List Int} (h : Own w B (.slice ao n cap) xs) : xs.length ≤ maxLen := by
  rcases h.2 with ⟨_, hn⟩ | ⟨g, cap', cur, _, _, _, hn, hm, _⟩
  · rw [hn]; exact Nat.zero_le _
  · exact Nat.le_trans hn hm
theorem Own.start {w : World} {B : Nat} {ao : Option Addr} {n cap : Nat} {xs : List Int} (h : Own w B (.slice ao n cap) xs) (hn : xs.length = n) (h1 : 1 ≤ n) : ∃ b, ao = some ⟨b, 0, none⟩ ∧ B ≤ b := by
  rcases h.2 with ⟨_, hn⟩ | ⟨g, cap', cur, e, hb, _⟩
  · omega
  · simp only [Value.slice.injEq] at e
    exact ⟨g, e.1, hb⟩

set_option maxRecDepth 100000 in
set_option maxHeartbeats 4000000 in
theorem own_any (v : Value) (l : List Int) (o a f n : Int) (w : World) (hv : Rd w v l) (hl : l.length ≤ 140737488351232) (a0 : 0 ≤ a) (f0 : 0 ≤ f) (n0 : 0 ≤ n) (n1 : n < 18446744073709551616) :
    Calls Try.prog 9 #[v, .agg #[.int .i64 o, .int .u64 a, .int .u64 f, .int .u64 n]] w fun e w' => e = .returned (.bool true) ∧ Below w.heap.size w w' := by
  have HS := Lib.hid (fun w' (hb : Below w.heap.size w w') => Store_any v l o a f n w' (hv.lift hb) (by omega) a0 f0 n0 n1)
  have HG0 := Lib.hid (fun w' (hb : Below w.heap.size w w') => Grow_any v l 4096 0 w' (hv.lift hb) (by omega) (by decide) (by decide) (by decide) (by decide))
  have HG1 := Lib.hid (fun w' (hb : Below w.heap.size w w') => Grow_any v l 4096 1 w' (hv.lift hb) (by omega) (by decide) (by decide) (by decide) (by decide))
  generalize storeR l o a f n = x at HS
  generalize growR l 4096 0 = y at HG0
  generalize growR l 4096 1 = z at HG1
  obtain ⟨x1, x2⟩ := x
  obtain ⟨y1, y2⟩ := y
  obtain ⟨z1, z2⟩ := z
  simp only at HS HG0 HG1
  have hv1 := hv.alloc (.cells #[.int .i64 o, .int .u64 a, .int .u64 f, .int .u64 n] 31)
  have hT := TBox.new w o a f n
  go_enter Try.func9, Try.ntmps9
  go_wp2_with (at_builtin; refine wpList_append_bytes (.const (.slice none 0 0)) (.tmp 15) rfl rfl rfl (Own.nil _ (w.alloc (.cells #[.int .i64 o, .int .u64 a, .int .u64 f, .int .u64 n] 31)).heap.size) rfl hv1 (by simp; omega) (Nat.le_refl _) (Below.refl _ _) ?_; intro v2 w2 hown hb2; simp only [List.nil_append] at hown; have hT2 := hT.lift hb2; obtain ⟨c0, c1, c2, c3⟩ := hT2.cells)
  have hB2 : Below w.heap.size w w2 := bnext (made_below w _) hb2
  have hv2 := hv.lift hB2
  have hwas := hown.rd
  clear hb2 hT hv1 hown
  refine (HS.out _ hB2).mono ?_
  rintro e w3 ⟨vb, rfl, hob, hb3⟩
  obtain ⟨aob, capb, rfl, _⟩ := hob.rd.data
  have hB3 := bnext hB2 hb3
  clear c0 c1 c2 c3
  go_wp2_with fail
  refine (HG0.out _ hB3).mono ?_
  rintro e w4 ⟨vc, rfl, hoc, hb4⟩
  obtain ⟨aoc, capc, rfl, _⟩ := hoc.rd.data
  have hB4 := bnext hB3 hb4
  go_wp2_with fail
  refine (HG1.out _ hB4).mono ?_
  rintro e w5 ⟨vd, rfl, hod, hb5⟩
  obtain ⟨aod, capd, rfl, _⟩ := hod.rd.data
  have hB5 := bnext hB4 hb5
  have hz3 := hb3.size
  have hz4 := hb4.size
  have hz5 := hb5.size
  have hrows : Rows3 (pick3 (Value.slice aob x1.length capb) (Value.slice aoc y1.length capc) (Value.slice aod z1.length capd)) (pick4 w2.heap.size w3.heap.size w4.heap.size w5.heap.size) w5.heap.size (w5.alloc (.cells #[.slice aob x1.length capb, .slice aoc y1.length capc, .slice aod z1.length capd] 22)) 0 := by
    refine ⟨fun j _ hj => ?_, fun j hj => ?_, fun j hj => ?_, ?_⟩
    · have : j = 0 ∨ j = 1 ∨ j = 2 := by omega
      rcases this with rfl | rfl | rfl
      · exact ⟨x1, ((hob.lift hb4).lift hb5).alloc _, fun b hb => (hob.lt b hb).2⟩
      · exact ⟨y1, (hoc.lift hb5).alloc _, fun b hb => by simpa [pick4] using (hoc.lt b hb).2⟩
      · exact ⟨z1, hod.alloc _, fun b hb => by simpa [pick4] using (hod.lt b hb).2⟩
    · have : j = 0 ∨ j = 1 ∨ j = 2 := by omega
      rcases this with rfl | rfl | rfl <;> simp [go_sem, pick3]
    · have : j = 0 ∨ j = 1 ∨ j = 2 := by omega
      rcases this with rfl | rfl | rfl <;> simp only [pick4] <;> omega
    · exact Nat.le_refl _
  have hB0 : w2.heap.size ≤ (pick4 w2.heap.size w3.heap.size w4.heap.size w5.heap.size) 0 := Nat.le_refl _
  have hlist : Below w2.heap.size w2 (w5.alloc (.cells #[.slice aob x1.length capb, .slice aoc y1.length capc, .slice aod z1.length capd] 22)) := (hb3.trans ((hb4.mono hz3).trans (hb5.mono (by omega)))).alloc (by omega) _
  generalize (pick4 w2.heap.size w3.heap.size w4.heap.size w5.heap.size) = Bs at hrows hB0
  generalize pick3 (Value.slice aob x1.length capb) (Value.slice aoc y1.length capc) (Value.slice aod z1.length capd) = vs at hrows
  clear hob hoc hod hb3 hb4 hb5 hB3 hB4 hB5 hT2
  have Hrows := Lib.hid hrows
  have Hlist := Lib.hid hlist
  have Hwas := Lib.hid hwas
  have Hv2 := Lib.hid hv2
  clear hrows hlist hwas hv2 hv
  generalize hg : w5.heap.size = g at Hrows
  go_wp2_with fail
  go_loopw [45] (fun i wr => ∃ k : Nat, k ≤ 3 ∧ i = .int .i64 k ∧ Hid (Rows3 vs Bs g wr k) ∧ Hid (Below w2.heap.size w2 wr)) (fun i _ => 3 - (intOf i).toNat)
  case atStart => exact ⟨0, by decide, rfl, Hrows.out, Hlist.out⟩
  case round =>
    obtain ⟨k, hk, rfl, HR, HB⟩ := hrel
    clear Hrows Hlist
    by_cases hlt : k < 3
    · obtain ⟨xs, ho, hblk⟩ := HR.out.1 k (Nat.le_refl _) hlt
      have hc := HR.out.2.1 k hlt
      obtain ⟨aox, capx, hvx, _⟩ := ho.rd.data
      rw [hvx] at hc ho hblk
      obtain ⟨N, hN⟩ : ∃ N, xs.length = N := ⟨_, rfl⟩
      rw [hN] at hc ho hblk
      have HN := Lib.hid hN
      have Ho := Lib.hid ho
      have hNm : N ≤ maxLen := by rw [← hN]; exact Own.le_max ho
      have Hblk := Lib.hid hblk
      have Hvx := Lib.hid hvx
      obtain ⟨wo, hwo⟩ : ∃ wo : World, wo = wr := ⟨_, rfl⟩
      subst hwo
      clear hN ho hblk hvx
      unfold maxLen at hNm
      go_wp2_with fail
      go_loopw [51] (fun i wq => ∃ (q : Nat) (ys : List Int), q ≤ N ∧ i = .int .i64 q ∧ Hid (ys.length = N) ∧ Hid (Own wq (Bs k) (.slice aox N capx) ys) ∧ Hid (Rows3 vs Bs g wq (k + 1)) ∧ Hid (Below w2.heap.size w2 wq)) (fun i _ => N - (intOf i).toNat)
      case atStart => exact ⟨0, xs, Nat.zero_le _, rfl, HN.out, Ho.out, HR.out.mono (Nat.le_succ _), HB.out⟩
      case round =>
        obtain ⟨q, ys, hq, rfl, Hyl, Hy, HRq, HBq⟩ := hrel
        by_cases hlq : q < N
        · obtain ⟨b, rfl, hbk⟩ := Hy.out.start Hyl.out (by omega)
          have hbl : b < Bs (k + 1) := Hblk.out b rfl
          have hb2 : w2.heap.size ≤ b := Nat.le_trans hB0 (Nat.le_trans (Bs_le HRq.out.2.2.1 (Nat.zero_le k) (by omega)) hbk)
          have hcell := World.ownsRow.cells Hy.out (g := b) rfl q _ (get_map (by rw [Hyl.out]; exact hlq))
          rw [add_lit, Nat.zero_add] at hcell
          have hfr : wr.frozen? ⟨b, q, none⟩ = false := World.ownsRow.frozenAt (n := N) (by have := Hy.out; unfold Own at this; rw [Hyl.out] at this; exact this) q
          go_wp2
          go_roundw
          case rel => exact ⟨q + 1, ys.set q _, by omega, by go_num, by show _ = _; rw [List.length_set]; exact Hyl.out, Hy.out.store Hyl.out.symm q _, HRq.out.store hlt hbl _ _, HBq.out.setCell (p := ⟨b, q, none⟩) hb2 _⟩
          case measure => simp [intOf]; omega
        · go_wp2
          go_roundw
          case rel => exact ⟨k + 1, by omega, by go_num, HRq.out, HBq.out⟩
          case measure => simp [intOf]; omega
    · have h1 := Hv2.out.lift HB.out
      have h2 := Hwas.out.lift HB.out
      go_wp2_with fail
      refine (same_any v v2 l _ h1 h2).mono ?_
      rintro e w8 ⟨rfl, rfl⟩
      go_wp2_with fail
      refine (alive_any _).mono ?_
      rintro e w9 ⟨rfl, hb9⟩
      go_wp2
      go_ret
      exact ⟨rfl, bnext (bnext hB2 HB.out) hb9⟩

-- LAW
set_option maxRecDepth 100000 in
theorem own_lifted (os : Os) (started : os.Started) (H : Type) (enc : TypeId × Value → H) :
    ReturnsInHanded {} Try.checked os 9 .any (Rows.memOwnSpec.pre6 enc Try.prog Try.f9 Rows.memOwnRow.domain false) (Rows.memOwnSpec.post enc Try.prog Try.f9 false true false false) := by
  refine returnsInHanded_of_change_sized (C := Try.checked) own started (by kernel_rfl) Try.func9
    (ChangeSpec.witness6 (enc := enc) (C := Try.checked) false ⟨#[], #[.slice none 0 0, .agg #[.int .i64 0, .int .u64 0, .int .u64 0, .int .u64 0]], []⟩ 8 (by kernel_rfl) (by kernel_rfl) (by kernel_rfl) (by kernel_rfl)) ?_
  intro W base args ds gs before hval0 hW _ hsz0 _
  have hsz : (DataW.weightsEach Try.prog (Try.f9.params.toList ++ Rows.memOwnSpec.plain.varTypes Try.prog) (ds ++ gs)).all (· ≤ reachBytes) = true := hsz0
  clear hsz0
  have hval : ∀ (j : Nat) t v, Try.f9.params[j]? = some t → args[j]? = some v → Value.okWide Try.prog W .any base t v := hval0
  clear hval0
  have hW' := hW
  obtain ⟨p, q, hA0, hV, rfl, _, _⟩ := hW
  have hA : DataW.TrodAll enc Try.prog W 0 (fun _ => true) true Try.f9.params.toList args.toList ds p := hA0
  rw [Try.params9] at hA hval hsz
  obtain ⟨v0, vs0, d0, ds0, p0, q0, hargs, rfl, rfl, h0, r0⟩ := trodAll_cons hA
  obtain ⟨v1, vs1, d1, ds1, p1, q1, rfl, rfl, rfl, h1, r1⟩ := trodAll_cons r0
  obtain ⟨rfl, rfl, rfl⟩ := trodAll_nil r1
  obtain rfl : args = #[v0, v1] := by cases args; simp_all
  obtain ⟨rfl, rfl⟩ := trodVars_none hV
  obtain ⟨l0, hrd0, hr0, hl0, _⟩ := open_bytes (hval 0 22 v0 rfl rfl) h0 (fun elems spare hd => sized_slice hsz (j := 0) (t := 22) (e := 5) rfl (by rw [hd]; rfl) Try.underlying22)
  obtain ⟨o1, a1, f1, n1, rfl, ho1, ha1, hf1, hn1⟩ := open_try (hval 1 31 v1 rfl rfl) h1
  refine (own_any v0 l0 o1 a1 f1 n1 W hrd0 hl0 ha1.1 hf1.1 hn1.1 hn1.2).mono fun e W' ⟨he, hb⟩ => ?_
  subst he
  exact ⟨_, rfl, law_done rfl rfl (by rw [Try.params9]; intro t ht; simp at ht; rcases ht with rfl | rfl <;> exact ⟨by kernel_rfl, of_decide_eq_true (by kernel_rfl)⟩) hW' rfl rfl rfl hb⟩

theorem own_holds : Rows.MemOwnSaid :=
  OpenClaim.holds_of_wide 9 Try.f9 rfl rfl rfl rfl rfl rfl rfl ⟨rfl, rfl, rfl, rfl, rfl⟩ rfl rfl rfl rfl rfl (by kernel_rfl) Try.func9 (by kernel_rfl)
    (of_decide_eq_true (by kernel_rfl)) (by unfold Func.isWrapper; first | (rw [if_pos (by decide +kernel)]; kernel_rfl) | (rw [if_neg (by decide +kernel)]; exact ⟨rfl, rfl⟩))
    (fun os started H enc _ => own_lifted os started H enc)
end Go.Proofs.Ytmknjiefdhhgkaa.mm
