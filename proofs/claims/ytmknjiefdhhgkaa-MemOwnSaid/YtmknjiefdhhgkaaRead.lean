/- The contract of an access' read: the number that a piece's bytes say. -/
import Derived.Test.YtmknjiefdhhgkaaPiece
set_option linter.unusedVariables false
namespace Go.Proofs.Ytmknjiefdhhgkaa.mm
open Go.RowKit Go.Shelf

attribute [local go_sem] Oper.semAt_some

theorem abox_own {β : Type} (B : Nat) (a : Acc) : Go.Own (fun (_ : β) W => ABox W B a) := fun s X Y row hs hg hrow =>
  (hg.block B hs.lt (fun e' => by obtain ⟨o, ho, hc⟩ := hrow B e'.symm; rw [show X.heap[B]? = _ from hs] at ho; cases ho; cases hc)).trans hs
theorem ABox.set_other {W : World} {B B' : Nat} {a : Acc} (h : ABox W B a) (hne : B ≠ B') (u : Value) : ABox (W.setCell ⟨B', 0, none⟩ u) B a :=
  ((grownBy_setCell' W B' u).block B h.lt (fun e => hne (by cases e; rfl))).trans h


theorem shl_or (q c : Int) (q0 : 0 ≤ q) (q1 : q < 18446744073709551616) (c0 : 0 ≤ c) (c1 : c < 256) : bits .or .u64 (IntKind.u64.wrap (q * 256)) (IntKind.u64.wrap c) = (q * 256 + c) % 18446744073709551616 := by
  rw [show IntKind.u64.wrap c = c from by rw [IntKind.wrap_u64]; omega]
  have e : IntKind.u64.wrap (q * 256) = (q * 256) % 18446744073709551616 := IntKind.wrap_u64 _
  rw [e, u64_or _ _ (by omega) (by omega) c0 (by omega)]
  obtain ⟨c, rfl⟩ : ∃ n : Nat, c = n := ⟨c.toNat, by omega⟩
  obtain ⟨m, hm⟩ : ∃ m : Nat, q * 256 % 18446744073709551616 = ((m * 256 ^ 1 : Nat) : Int) := ⟨(q * 256 % 18446744073709551616 / 256).toNat, by omega⟩
  rw [hm, Int.toNat_natCast, Int.toNat_natCast, Nat.or_comm, or_low 1 c m (by omega)]
  omega

theorem and32 {m : Int} (h0 : 0 ≤ m) (h1 : m < 18446744073709551616) : bits .and .u64 m 4294967295 = m % 4294967296 := by
  rw [u64_and m _ h0 h1 (by decide) (by decide)]
  have := Nat.and_two_pow_sub_one_eq_mod m.toNat 32
  rw [show (2 ^ 32 - 1 : Nat) = (4294967295 : Int).toNat from rfl] at this
  rw [this]; omega
theorem sgn1 {m : Int} (h0 : 0 ≤ m) (h1 : m < 256) : IntKind.u64.wrap (wrap64 (m * 72057594037927936) / 72057594037927936) = sgn 1 m := by
  unfold sgn wrap64; rw [IntKind.wrap_u64]; simp only [Int.reducePow]; split <;> omega
theorem sgn2 {m : Int} (h0 : 0 ≤ m) (h1 : m < 65536) : IntKind.u64.wrap (wrap64 (m * 281474976710656) / 281474976710656) = sgn 2 m := by
  unfold sgn wrap64; rw [IntKind.wrap_u64]; simp only [Int.reducePow]; split <;> omega
theorem sgn4 {m : Int} (h0 : 0 ≤ m) (h1 : m < 4294967296) : IntKind.u64.wrap (wrap64 (m * 4294967296) / 4294967296) = sgn 4 m := by
  unfold sgn wrap64; rw [IntKind.wrap_u64]; simp only [Int.reducePow]; split <;> omega
theorem sgn8 {m : Int} (h0 : 0 ≤ m) (h1 : m < 18446744073709551616) : IntKind.u64.wrap (wrap64 m) = sgn 8 m := by
  unfold sgn wrap64; rw [IntKind.wrap_u64]; simp only [Int.reducePow]; split <;> omega

set_option maxRecDepth 100000 in
set_option maxHeartbeats 2000000 in
theorem read_any (k : Int) (st sg : Bool) (b off cap : Nat) (l : List Int) (w : World) (hcs : ∀ k, k < l.length → w.cell? ⟨b, off + k, none⟩ = some (.int .u8 (l.getD k 0))) (hb : Bs l) (hk : k = 127 ∨ k = 126) (hw : l.length = 1 ∨ l.length = 2 ∨ l.length = 4 ∨ l.length = 8) :
    Calls Try.prog 24 #[aggV ⟨k, l.length, st, sg⟩, .slice (some ⟨b, off, none⟩) l.length cap] w fun e w' => e = .returned (.int .u64 (readV k sg l)) ∧ Below w.heap.size w w' := by
  have h8 : l.length ≤ 8 := by omega
  have hbw : b < w.heap.size := World.block_lt_of_cell? w _ (hcs 0 (by omega))
  have Hcs := Lib.hid hcs
  have Hw := Lib.hid hw
  have Hk := Lib.hid hk
  have Hb := Lib.hid hb
  clear hcs hw hk hb
  refine (callsIn_wide (n := 3)).1 ?_
  refine callsIn_of_wp_marks Try.func24 rfl trivial ?_ rfl
  simp only [Try.ntmps24, List.size_toArray, List.length_cons, List.length_nil, Nat.reduceAdd, Nat.reduceSub, Array.replicate_succ, Array.replicate_zero, List.push_toArray, List.append_toArray, List.nil_append, List.cons_append]
  unfold aggV
  gi_wp2_with (refine ⟨trivial, ?_⟩; gi_at_call 34; refine (backward_in Fence.wide _ trivial rfl _ _ _ _).mono ?_; rintro e w' ⟨rfl, rfl⟩)
  have bA := ABox.new w ⟨k, l.length, st, sg⟩
  simp only at bA
  generalize hW1 : w.alloc (.cells #[.int .i64 k, .int .i64 (l.length : Int), .bool st, .bool sg] 50) = W1 at bA ⊢
  have s1 : W1.heap.size = w.heap.size + 1 := by rw [← hW1]; simp
  have B1 : Below w.heap.size w W1 := by rw [← hW1]; exact made_below _ _
  have bP := Boxed.new W1 22 (.slice (some ⟨b, off, none⟩) l.length cap)
  have bN := Boxed.new (W1.alloc (.cells #[.slice (some ⟨b, off, none⟩) l.length cap] 22)) 23 (.int .u64 0)
  have bQ := Boxed.new ((W1.alloc (.cells #[.slice (some ⟨b, off, none⟩) l.length cap] 22)).alloc (.cells #[.int .u64 0] 23)) 22 (.slice (some ⟨b, off, none⟩) l.length cap)
  simp only [World.size_alloc, s1] at bP bN bQ
  have B2 := (bnextA (bnextA (bnextA B1 (.cells #[.slice (some ⟨b, off, none⟩) l.length cap] 22)) (.cells #[.int .u64 0] 23)) (.cells #[.slice (some ⟨b, off, none⟩) l.length cap] 22))
  clear hW1
  refine wpIn_rangeFunc_ownG rfl (by omega) (gf := 38) (lb := #[.pointer (some ⟨w.heap.size + 1 + 1 + 1, 0, none⟩)]) rfl trivial (enters_of Try.func38 (by kernel_rfl) rfl)
    (back_stops Fence.wide _ trivial rfl (by omega) (w.heap.size + 1 + 1 + 1) l.length cap _ h8 _ bQ.lt bQ.cell) (fun _ _ => trivial) (fun _ _ _ _ _ _ _ _ => trivial) (Below.refl _ _) (fun _ => rfl)
    (fun pre W => (Boxed W (w.heap.size + 1 + 1) 23 (.int .u64 (accN l (pre.map (fun x => x.val)))) ∧ Boxed W (w.heap.size + 1) 22 (.slice (some ⟨b, off, none⟩) l.length cap) ∧ ABox W w.heap.size ⟨k, l.length, st, sg⟩) ∧ Below w.heap.size w W)
    (fun _ _ _ => False)
    (OwnFrom.and (OwnFrom.and (Go.Own.from (boxed_own _ _ _) _) (OwnFrom.and (Go.Own.from (boxed_own _ _ _) _) (Go.Own.from (abox_own _ _) _))) (ownFrom_below (Nat.le_refl _) (by simp; omega)))
    (fun _ _ _ _ _ hs _ _ => hs)
    ⟨⟨bN.alloc _, (bP.alloc _).alloc _, ((bA.lift (made_below _ _)).lift (made_below _ _)).lift (made_below _ _)⟩, B2⟩
    (fun x => { tmps := #[.agg #[.int .i64 k, .int .i64 (l.length : Int), .bool st, .bool sg], .slice (some ⟨b, off, none⟩) l.length cap, .pointer (some ⟨w.heap.size, 0, none⟩), .pointer (some ⟨w.heap.size + 1, 0, none⟩), .int .u64 0, .pointer (some ⟨w.heap.size + 1 + 1, 0, none⟩), .int .i64 (x.val : Int), undef, .slice (some ⟨b, off, none⟩) l.length cap, .func (.func 38) #[] #[.pointer (some ⟨w.heap.size + 1 + 1 + 1, 0, none⟩)], .int .i64 (x.val : Int), undef, undef, undef, undef, undef, undef, undef, undef, undef, undef, undef, undef, undef, undef, undef, undef, undef, undef, undef, undef, undef, undef, undef, undef, undef, undef, undef], defers := [] }) ?assign ?body ?done ?stop
  case assign =>
    intro lp x W K hK
    gi_wp2
    exact hK
  case body =>
    rintro lp pre x W ⟨⟨bN, bP, bA⟩, hB⟩ _
    have hmx : Try.prog.follows .mixedOrders = true := by kernel_rfl
    obtain ⟨x, hx⟩ := x
    have cN := bN.cell
    have fN := bN.frozen
    have cP := bP.cell
    have cX : W.cell? ⟨b, off + x, none⟩ = some (.int .u8 (l.getD x 0)) := by rw [hB.cell (p := ⟨b, off + x, none⟩) hbw]; exact Hcs.out x hx
    have HbN := Lib.hid bN
    have HbP := Lib.hid bP
    have HbA := Lib.hid bA
    have HB := Lib.hid hB
    clear bN bP bA hB
    have c01 := Hb.out.getD x
    have q01 := accN_bd l (pre.map (fun x => x.val))
    have He := Lib.hid (accN_snoc l (pre.map (fun x => x.val)) x)
    generalize accN l (pre.map (fun x => x.val)) = q at cN q01 He HbN ⊢
    generalize l.getD x 0 = c at cX c01 He
    obtain ⟨c0, c1⟩ := c01
    obtain ⟨q0, q1⟩ := q01
    have ho := shl_or q c q0 q1 c0 c1
    gi_wp2
    gi_region_with_o (fail)
    all_goals gi_wp2
    all_goals
      refine ⟨((KeepsOthers.setCell _ _ _).trans (KeepsOthers.drew _)).from _, trivial, ⟨?_, ?_, ?_⟩, ?_⟩
      · rw [List.map_append, List.map_singleton, He.out, ← ho]; exact HbN.out.set _
      · exact HbP.out.other (by omega) _
      · exact HbA.out.set_other (by omega) _
      · exact (HB.out.setCell (p := ⟨w.heap.size + 1 + 1, 0, none⟩) (by simp; omega) _).drew
  case done =>
    rintro D ys W hD hS ⟨⟨bN, bP, bA⟩, hB⟩ hK
    rw [hS, accN_all Hb.out h8] at bN
    have cN := bN.cell
    have fN := bN.frozen
    obtain ⟨a0, a1, a2, a3, _⟩ := bA.cells
    simp only at a0 a1 a2 a3
    have HbN := Lib.hid bN
    have HK := Lib.hid hK
    have HB := Lib.hid hB
    have HD := Lib.hid hD
    have hbd := leN_bd Hb.out
    obtain ⟨m, hm⟩ : ∃ m, leN l = m := ⟨_, rfl⟩
    rw [hm] at cN HbN hbd
    have Hm := Lib.hid hm
    clear hm
    have hk := Hk.out
    have hD' : w.heap.size ≤ D := by have := HD.out; simp at this; omega
    clear bA bP bN bQ B2 hB hK hD Hk HD
    have h0 : 0 ≤ m ∧ m < 18446744073709551616 := ⟨hbd.1, Int.lt_of_lt_of_le hbd.2 (pow_le8 h8)⟩
    have ha := and32 h0.1 h0.2
    cases sg
    · rcases hk with rfl | rfl
      · have HE : Hid (bits .and .u64 m 4294967295 = readV 127 false l) := by show _ = _; rw [readV, Hm.out]; exact ha
        clear ha
        gi_wp2
        refine ⟨by simp, .inl ⟨_, _, rfl, run_takeDeferred ((KeepsOthers.setCell _ _ _).same D _ HK.out rfl), ?_⟩⟩
        exact ⟨_, results_tmp rfl _ _ _, by exact congrArg (fun x => Ending.returned (.int .u64 x)) HE.out, (HB.out.setCell (p := ⟨w.heap.size + 1 + 1, 0, none⟩) (by simp; omega) _).trans (belowK_b (w := w) (Nat.le_refl _) _ D _ _ hD' ((KeepsOthers.setCell _ _ _).same D _ HK.out rfl) rfl rfl)⟩
      · have HE : Hid (m = readV 126 false l) := by show _ = _; rw [readV, Hm.out]; rfl
        clear ha
        gi_wp2
        refine ⟨by simp, .inl ⟨_, _, rfl, run_takeDeferred HK.out, ?_⟩⟩
        exact ⟨_, results_tmp rfl _ _ _, by exact congrArg (fun x => Ending.returned (.int .u64 x)) HE.out, HB.out.trans (belowK_b (w := w) (Nat.le_refl _) _ D _ _ hD' HK.out rfl rfl)⟩
    · have hw := Hw.out
      rcases hw with hw | hw | hw | hw
      · have Hl := Lib.hid hw
        rw [hw] at hbd a1
        simp only [Int.reducePow] at hbd
        clear hw
        have hs := sgn1 hbd.1 hbd.2
        have hs2 : sgn 1 m = readV 126 true l := by rw [readV, Hm.out, Hl.out]; rfl
        have hs3 : sgn 1 m % 4294967296 = readV 127 true l := by rw [readV, Hm.out, Hl.out]; rfl
        have hs4 : 0 ≤ IntKind.u64.wrap (wrap64 (m * 72057594037927936) / 72057594037927936) ∧ IntKind.u64.wrap (wrap64 (m * 72057594037927936) / 72057594037927936) < 18446744073709551616 := by rw [IntKind.wrap_u64]; omega
        have ha := and32 hs4.1 hs4.2
        rcases hk with rfl | rfl
        · have HE : Hid (bits .and .u64 (IntKind.u64.wrap (wrap64 (m * 72057594037927936) / 72057594037927936)) 4294967295 = readV 127 true l) := by show _ = _; rw [ha, hs]; exact hs3
          clear ha hs hs2 hs3 hs4
          gi_wp2
          refine ⟨by simp, .inl ⟨_, _, rfl, run_takeDeferred (((KeepsOthers.setCell _ _ _).trans (KeepsOthers.setCell _ _ _)).same D _ HK.out rfl), ?_⟩⟩
          exact ⟨_, results_tmp rfl _ _ _, by exact congrArg (fun x => Ending.returned (.int .u64 x)) HE.out, ((HB.out.setCell (p := ⟨w.heap.size + 1 + 1, 0, none⟩) (by simp; omega) _).setCell (p := ⟨w.heap.size + 1 + 1, 0, none⟩) (by simp; omega) _).trans (belowK_b (w := w) (Nat.le_refl _) _ D _ _ hD' (((KeepsOthers.setCell _ _ _).trans (KeepsOthers.setCell _ _ _)).same D _ HK.out rfl) rfl rfl)⟩
        · have HE : Hid (IntKind.u64.wrap (wrap64 (m * 72057594037927936) / 72057594037927936) = readV 126 true l) := by show _ = _; rw [hs]; exact hs2
          clear ha hs hs2 hs3 hs4
          gi_wp2
          refine ⟨by simp, .inl ⟨_, _, rfl, run_takeDeferred ((KeepsOthers.setCell _ _ _).same D _ HK.out rfl), ?_⟩⟩
          exact ⟨_, results_tmp rfl _ _ _, by exact congrArg (fun x => Ending.returned (.int .u64 x)) HE.out, (HB.out.setCell (p := ⟨w.heap.size + 1 + 1, 0, none⟩) (by simp; omega) _).trans (belowK_b (w := w) (Nat.le_refl _) _ D _ _ hD' ((KeepsOthers.setCell _ _ _).same D _ HK.out rfl) rfl rfl)⟩
      · have Hl := Lib.hid hw
        rw [hw] at hbd a1
        simp only [Int.reducePow] at hbd
        clear hw
        have hs := sgn2 hbd.1 hbd.2
        have hs2 : sgn 2 m = readV 126 true l := by rw [readV, Hm.out, Hl.out]; rfl
        have hs3 : sgn 2 m % 4294967296 = readV 127 true l := by rw [readV, Hm.out, Hl.out]; rfl
        have hs4 : 0 ≤ IntKind.u64.wrap (wrap64 (m * 281474976710656) / 281474976710656) ∧ IntKind.u64.wrap (wrap64 (m * 281474976710656) / 281474976710656) < 18446744073709551616 := by rw [IntKind.wrap_u64]; omega
        have ha := and32 hs4.1 hs4.2
        rcases hk with rfl | rfl
        · have HE : Hid (bits .and .u64 (IntKind.u64.wrap (wrap64 (m * 281474976710656) / 281474976710656)) 4294967295 = readV 127 true l) := by show _ = _; rw [ha, hs]; exact hs3
          clear ha hs hs2 hs3 hs4
          gi_wp2
          refine ⟨by simp, .inl ⟨_, _, rfl, run_takeDeferred (((KeepsOthers.setCell _ _ _).trans (KeepsOthers.setCell _ _ _)).same D _ HK.out rfl), ?_⟩⟩
          exact ⟨_, results_tmp rfl _ _ _, by exact congrArg (fun x => Ending.returned (.int .u64 x)) HE.out, ((HB.out.setCell (p := ⟨w.heap.size + 1 + 1, 0, none⟩) (by simp; omega) _).setCell (p := ⟨w.heap.size + 1 + 1, 0, none⟩) (by simp; omega) _).trans (belowK_b (w := w) (Nat.le_refl _) _ D _ _ hD' (((KeepsOthers.setCell _ _ _).trans (KeepsOthers.setCell _ _ _)).same D _ HK.out rfl) rfl rfl)⟩
        · have HE : Hid (IntKind.u64.wrap (wrap64 (m * 281474976710656) / 281474976710656) = readV 126 true l) := by show _ = _; rw [hs]; exact hs2
          clear ha hs hs2 hs3 hs4
          gi_wp2
          refine ⟨by simp, .inl ⟨_, _, rfl, run_takeDeferred ((KeepsOthers.setCell _ _ _).same D _ HK.out rfl), ?_⟩⟩
          exact ⟨_, results_tmp rfl _ _ _, by exact congrArg (fun x => Ending.returned (.int .u64 x)) HE.out, (HB.out.setCell (p := ⟨w.heap.size + 1 + 1, 0, none⟩) (by simp; omega) _).trans (belowK_b (w := w) (Nat.le_refl _) _ D _ _ hD' ((KeepsOthers.setCell _ _ _).same D _ HK.out rfl) rfl rfl)⟩
      · have Hl := Lib.hid hw
        rw [hw] at hbd a1
        simp only [Int.reducePow] at hbd
        clear hw
        have hs := sgn4 hbd.1 hbd.2
        have hs2 : sgn 4 m = readV 126 true l := by rw [readV, Hm.out, Hl.out]; rfl
        have hs3 : sgn 4 m % 4294967296 = readV 127 true l := by rw [readV, Hm.out, Hl.out]; rfl
        have hs4 : 0 ≤ IntKind.u64.wrap (wrap64 (m * 4294967296) / 4294967296) ∧ IntKind.u64.wrap (wrap64 (m * 4294967296) / 4294967296) < 18446744073709551616 := by rw [IntKind.wrap_u64]; omega
        have ha := and32 hs4.1 hs4.2
        rcases hk with rfl | rfl
        · have HE : Hid (bits .and .u64 (IntKind.u64.wrap (wrap64 (m * 4294967296) / 4294967296)) 4294967295 = readV 127 true l) := by show _ = _; rw [ha, hs]; exact hs3
          clear ha hs hs2 hs3 hs4
          gi_wp2
          refine ⟨by simp, .inl ⟨_, _, rfl, run_takeDeferred (((KeepsOthers.setCell _ _ _).trans (KeepsOthers.setCell _ _ _)).same D _ HK.out rfl), ?_⟩⟩
          exact ⟨_, results_tmp rfl _ _ _, by exact congrArg (fun x => Ending.returned (.int .u64 x)) HE.out, ((HB.out.setCell (p := ⟨w.heap.size + 1 + 1, 0, none⟩) (by simp; omega) _).setCell (p := ⟨w.heap.size + 1 + 1, 0, none⟩) (by simp; omega) _).trans (belowK_b (w := w) (Nat.le_refl _) _ D _ _ hD' (((KeepsOthers.setCell _ _ _).trans (KeepsOthers.setCell _ _ _)).same D _ HK.out rfl) rfl rfl)⟩
        · have HE : Hid (IntKind.u64.wrap (wrap64 (m * 4294967296) / 4294967296) = readV 126 true l) := by show _ = _; rw [hs]; exact hs2
          clear ha hs hs2 hs3 hs4
          gi_wp2
          refine ⟨by simp, .inl ⟨_, _, rfl, run_takeDeferred ((KeepsOthers.setCell _ _ _).same D _ HK.out rfl), ?_⟩⟩
          exact ⟨_, results_tmp rfl _ _ _, by exact congrArg (fun x => Ending.returned (.int .u64 x)) HE.out, (HB.out.setCell (p := ⟨w.heap.size + 1 + 1, 0, none⟩) (by simp; omega) _).trans (belowK_b (w := w) (Nat.le_refl _) _ D _ _ hD' ((KeepsOthers.setCell _ _ _).same D _ HK.out rfl) rfl rfl)⟩
      · have Hl := Lib.hid hw
        rw [hw] at hbd a1
        simp only [Int.reducePow] at hbd
        clear hw
        have hs := sgn8 hbd.1 hbd.2
        have hs2 : sgn 8 m = readV 126 true l := by rw [readV, Hm.out, Hl.out]; rfl
        have hs3 : sgn 8 m % 4294967296 = readV 127 true l := by rw [readV, Hm.out, Hl.out]; rfl
        have hs4 : 0 ≤ IntKind.u64.wrap (wrap64 m) ∧ IntKind.u64.wrap (wrap64 m) < 18446744073709551616 := by rw [IntKind.wrap_u64]; omega
        have ha := and32 hs4.1 hs4.2
        rcases hk with rfl | rfl
        · have HE : Hid (bits .and .u64 (IntKind.u64.wrap (wrap64 m)) 4294967295 = readV 127 true l) := by show _ = _; rw [ha, hs]; exact hs3
          clear ha hs hs2 hs3 hs4
          gi_wp2
          refine ⟨by simp, .inl ⟨_, _, rfl, run_takeDeferred (((KeepsOthers.setCell _ _ _).trans (KeepsOthers.setCell _ _ _)).same D _ HK.out rfl), ?_⟩⟩
          exact ⟨_, results_tmp rfl _ _ _, by exact congrArg (fun x => Ending.returned (.int .u64 x)) HE.out, ((HB.out.setCell (p := ⟨w.heap.size + 1 + 1, 0, none⟩) (by simp; omega) _).setCell (p := ⟨w.heap.size + 1 + 1, 0, none⟩) (by simp; omega) _).trans (belowK_b (w := w) (Nat.le_refl _) _ D _ _ hD' (((KeepsOthers.setCell _ _ _).trans (KeepsOthers.setCell _ _ _)).same D _ HK.out rfl) rfl rfl)⟩
        · have HE : Hid (IntKind.u64.wrap (wrap64 m) = readV 126 true l) := by show _ = _; rw [hs]; exact hs2
          clear ha hs hs2 hs3 hs4
          gi_wp2
          refine ⟨by simp, .inl ⟨_, _, rfl, run_takeDeferred ((KeepsOthers.setCell _ _ _).same D _ HK.out rfl), ?_⟩⟩
          exact ⟨_, results_tmp rfl _ _ _, by exact congrArg (fun x => Ending.returned (.int .u64 x)) HE.out, (HB.out.setCell (p := ⟨w.heap.size + 1 + 1, 0, none⟩) (by simp; omega) _).trans (belowK_b (w := w) (Nat.le_refl _) _ D _ _ hD' ((KeepsOthers.setCell _ _ _).same D _ HK.out rfl) rfl rfl)⟩
  case stop =>
    rintro D c pre W _ _ h _
    exact h.elim
end Go.Proofs.Ytmknjiefdhhgkaa.mm
