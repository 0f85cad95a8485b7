/- LebPadded holds: groups of 0 put behind a number turn nothing of it, as long as there is room, and the law returns true. No condition. -/
import Derived.Test.YtllnbifdapgnoaaLaw
import Derived.Test.YtllnbifdapgnoaaEnc
import Derived.Test.YtllnbifdapgnoaaHeads
namespace Go.Proofs.Ytllnbifdapgnoaa.lb
open Go.ChangeShapes Go.WideShapes Go.ChangeAt Go.RowKit

/-- a number padded with so many groups of 0: marked bytes, and one behind them -/
def Pad (n : Int) (j : Nat) (P : List Int) (c : Int) : Prop := Marked P ∧ 0 ≤ c ∧ c < 128 ∧ valB (P ++ [c]) = n ∧ P.length ≤ 4 + j ∧ (P.length = 4 → c < 16) ∧ (P.length = 9 → c < 2)

theorem Pad.zero {n : Int} (h0 : 0 ≤ n) (h1 : n < 4294967296) : ∃ P c, encU n = P ++ [c] ∧ Pad n 0 P c := by
  obtain ⟨p, c, he, hp, hc0, hc, hv, hl, hk⟩ := encU_form32 n h0 h1
  exact ⟨p, c, he, hp, hc0, hc, hv, by omega, hk, fun h => by omega⟩
theorem Pad.succ {n c : Int} {j : Nat} {P : List Int} (h : Pad n j P c) : Pad n (j + 1) (P ++ [c + 128]) 0 := by
  obtain ⟨hp, hc0, hc, hv, hl, hk, hk'⟩ := h
  refine ⟨?_, by omega, by omega, ?_, by simp; omega, fun _ => by omega, fun _ => by omega⟩
  · intro x hx
    rcases List.mem_append.1 hx with h | h
    · exact hp x h
    · simp at h; omega
  · rw [valB_snoc, valB_snoc, ← hv, valB_snoc, show (c + 128) % 128 = c % 128 from by omega]; simp
theorem Pad.bytes {n c : Int} {j : Nat} {P : List Int} (h : Pad n j P c) : ∀ x ∈ P ++ [c], 0 ≤ x ∧ x < 256 := by
  obtain ⟨hp, hc0, hc, _⟩ := h
  intro x hx
  rcases List.mem_append.1 hx with h | h
  · have := hp x h; omega
  · simp at h; omega
theorem Pad.u64 {n c : Int} {j : Nat} {P : List Int} (h : Pad n j P c) (hj : j ≤ 5) : fullU (P ++ [c]) 0 64 = (n, ((P.length + 1 : Nat) : Int), 0, 0) := by
  obtain ⟨hp, hc0, hc, hv, hl, hk, hk'⟩ := h
  unfold fullU
  rw [if_pos ⟨by omega, by omega⟩, if_neg (by decide), if_pos rfl]
  show decU ([] ++ (P ++ [c])) ([] : List Int).length _ _ = _
  rw [decU_at [] P [] c 10 2 hp hc (by omega) (fun h => hk' (by omega)), hv]
  simp
theorem Pad.u32 {n c : Int} {j : Nat} {P : List Int} (h : Pad n j P c) (hs : P.length ≤ 4) : fullU (P ++ [c]) 0 32 = (n, ((P.length + 1 : Nat) : Int), 0, 0) := by
  obtain ⟨hp, hc0, hc, hv, hl, hk, hk'⟩ := h
  unfold fullU
  rw [if_pos ⟨by omega, by omega⟩, if_pos rfl]
  show decU ([] ++ (P ++ [c])) ([] : List Int).length _ _ = _
  rw [decU_at [] P [] c 5 16 hp hc (by omega) (fun h => hk (by omega)), hv]
  simp
theorem Pad.u32' {n c : Int} {j : Nat} {P : List Int} (h : Pad n j P c) (hs : ¬ P.length ≤ 4) : fullU (P ++ [c]) 0 32 = (0, 0, 3, 4) := by
  obtain ⟨hp, hc0, hc, hv, hl, hk, hk'⟩ := h
  unfold fullU
  rw [if_pos ⟨by omega, by omega⟩, if_pos rfl]
  show decU ([] ++ (P ++ [c])) ([] : List Int).length _ _ = _
  have hm := mk_at [] P [c] hp (by intro x hx; simp at hx; omega)
  rw [decU_leb _ _ _ _ (by rw [hm]; omega)]
  rfl

theorem Own.store {w : World} {B b n cap : Nat} {xs : List Int} (h : Own w B (.slice (some ⟨b, 0, none⟩) n cap) xs) (hn : n = xs.length) (j : Nat) (x : Int) : Own (w.setCell ⟨b, j, none⟩ (.int .u8 x)) B (.slice (some ⟨b, 0, none⟩) n cap) (xs.set j x) := by
  subst hn
  have h' := (World.ownsRow.stored h j (.int .u8 x)).1
  unfold Own
  rw [List.map_set, List.length_set]
  exact h'

set_option maxHeartbeats 2000000 in
theorem padded_any (n more : Int) (w : World) (h0 : 0 ≤ n) (h1 : n < 4294967296) :
    Calls Try.prog 8 #[.int .u32 n, .int .i64 more] w fun e w' => e = .returned (.bool true) ∧ Below w.heap.size w w' := by
  obtain ⟨M, hM, rM0⟩ := idx_bd more 6 (by decide) (by decide)
  have rM : (wrap64 (more.tmod 6 + 6)).tmod 6 = (M : Int) := rM0
  clear rM0
  obtain ⟨P0, c0, he, hP0⟩ := Pad.zero h0 h1
  have HP0 := Lib.hid hP0
  have pl : P0.length ≤ 4 := by have := hP0.2.2.2.2.1; omega
  clear hP0
  have e1 : ((P0.length : Int) + 1 == 0) = false := by rw [beq_eq_false_iff_ne]; omega
  have e5 : decide ((5 : Int) < (P0.length : Int) + 1) = false := by rw [decide_eq_false_iff_not]; omega
  have HE := Lib.hid he
  clear he
  go_enter Try.func8, Try.ntmps8
  go_wp2_with fail
  refine (PutU_any _ [] n _ (Rd.nil _) (by decide) h0 (by omega)).mono ?_
  rintro e w1 ⟨v1, rfl, ho1, hb1⟩
  rw [List.nil_append, HE.out] at ho1
  obtain ⟨b1, cp1, rfl, _, _, _⟩ := ho1.cells' (by simp)
  have Ho1 := Lib.hid ho1
  clear ho1
  go_wp2
  go_loopw [5, 28] (fun v i wr => ∃ (j : Nat) (P : List Int) (c : Int), Pad n j P c ∧ j ≤ M ∧ Own wr w.heap.size v (P ++ [c]) ∧ Below w.heap.size w wr ∧ i = .int .i64 j) (fun _ i _ => M - (intOf i).toNat)
  case atStart => exact ⟨0, P0, c0, HP0.out, by omega, by simpa using Ho1.out, hb1, rfl⟩
  case round =>
    obtain ⟨j, P, c, hp, hj, ho, hb, rfl⟩ := hrel
    have hc0 : 0 ≤ c := hp.2.1
    have hc1 : c < 128 := hp.2.2.1
    have hl : P.length ≤ 4 + j := hp.2.2.2.2.1
    obtain ⟨b, cp, rfl, hB, hbs, hcells⟩ := ho.cells' (by simp)
    have Ho := Lib.hid ho
    clear ho
    have hcell : wr.cell? ⟨b, P.length, none⟩ = some (.int .u8 c) := by
      rw [hcells P.length (by simp)]; simp
    have hfr : wr.frozen? ⟨b, P.length, none⟩ = false := World.ownsRow.frozenAt (n := (P ++ [c]).length) Ho.out P.length
    have hll : (P ++ [c]).length = P.length + 1 := by simp
    rw [hll] at Ho ⊢
    have Hll := Lib.hid hll
    clear hcells hll
    by_cases hlt : j < M
    · have hb8 : bits .or .u8 c 128 = c + 128 := by rw [b8_or128 c hc0 (by omega)]; omega
      have Hst : Hid (Own (wr.setCell ⟨b, P.length, none⟩ (.int .u8 (c + 128))) w.heap.size (.slice (some ⟨b, 0, none⟩) (P.length + 1) cp) (P ++ [c + 128])) := by
        have := Ho.out.store (by simp) P.length (c + 128)
        rw [List.set_append_right _ _ (Nat.le_refl _), Nat.sub_self] at this
        exact this
      have Hbs := hb.setCell (p := ⟨b, P.length, none⟩) hB (.int .u8 (c + 128))
      have hsz : w.heap.size ≤ (wr.setCell ⟨b, P.length, none⟩ (.int .u8 (c + 128))).heap.size := Hbs.size
      have hln : (P ++ [c + 128]).length + 1 ≤ 140737488355328 := by simp; omega
      go_wp2_with (at_builtin; refine wpList_append_byte_at (.tmp 38) (.tmp 39) rfl rfl rfl Hst.out 0 rfl (by simp [World.setCell]) hln hsz Hbs ?_; intro v2 w2 ho2 hb2)
      go_roundw
      case rel => exact ⟨j + 1, P ++ [c + 128], 0, hp.succ, by omega, ho2, hb2, by go_num⟩
      case measure => simp [intOf]; omega
    · have hx : Rd wr (.slice (some ⟨b, 0, none⟩) (P.length + 1) cp) (P ++ [c]) := Ho.out.rd
      have Hby := Lib.hid hp.bytes
      have f64 := Lib.hid (hp.u64 (by omega))
      have Hlen : Hid ((P ++ [c]).length ≤ 281474976710656) := by show _ ≤ _; simp; omega
      have e10 : decide ((10 : Int) < (P.length : Int) + 1) = false := by rw [decide_eq_false_iff_not]; omega
      by_cases hs : P.length ≤ 4
      all_goals
        first
        | (have f32 := Lib.hid (hp.u32 hs); have e5' : decide ((P.length : Int) + 1 ≤ 5) = true := by (rw [decide_eq_true_eq]; omega))
        | (have f32 := Lib.hid (hp.u32' hs); have e5' : decide ((P.length : Int) + 1 ≤ 5) = false := by (rw [decide_eq_false_iff_not]; omega))
        go_wp2_with fail
        refine (U_any _ (P ++ [c]) 0 64 _ hx Hby.out Hlen.out).mono ?_
        rintro e w3 ⟨rfl, hb3⟩
        rw [f64.out]
        have hB3 := bnext hb hb3
        have hx := hx.lift hb3
        have k3 := Box.new w3 0 0 32
        unfold res
        go_wp2_with fail
        refine (U_any _ (P ++ [c]) 0 32 _ (hx.alloc _) Hby.out Hlen.out).mono ?_
        rintro e w4 ⟨rfl, hb4⟩
        rw [f32.out]
        have hB4 := bnext (bnextA hB3 _) hb4
        have k3 := k3.lift hb4
        have b3 : w3.heap.size < w4.heap.size := World.block_lt_of_cell? w4 _ k3.1
        obtain ⟨a30, a31, a32⟩ := k3
        unfold res
        go_wp2_with fail
        refine (alive_any _).mono ?_
        rintro e w9 ⟨rfl, hb9⟩
        go_wp2
        go_ret
        exact ⟨rfl, bnext (bnextA hB4 _) hb9⟩

set_option maxRecDepth 100000 in
theorem padded_lifted (os : Os) (started : os.Started) (H : Type) (enc : TypeId × Value → H) :
    ReturnsInHanded {} Try.checked os 8 .any (Rows.lebPaddedSpec.pre6 enc Try.prog Try.f8 Rows.lebPaddedRow.domain false) (Rows.lebPaddedSpec.post enc Try.prog Try.f8 false true false false) := by
  refine returnsInHanded_of_change_sized (C := Try.checked) own started (by kernel_rfl) Try.func8
    (ChangeSpec.witness6 (enc := enc) (C := Try.checked) false ⟨#[], #[.int .u32 0, .int .i64 0], []⟩ 8 (by kernel_rfl) (by kernel_rfl) (by kernel_rfl) (by kernel_rfl)) ?_
  intro W base args ds gs before hval0 hW _ hsz0 _
  have hsz : (DataW.weightsEach Try.prog (Try.f8.params.toList ++ Rows.lebPaddedSpec.plain.varTypes Try.prog) (ds ++ gs)).all (· ≤ reachBytes) = true := hsz0
  clear hsz0
  have hval : ∀ (j : Nat) t v, Try.f8.params[j]? = some t → args[j]? = some v → Value.okWide Try.prog W .any base t v := hval0
  clear hval0
  have hW' := hW
  obtain ⟨p, q, hA0, hV, rfl, _, _⟩ := hW
  have hA : DataW.TrodAll enc Try.prog W 0 (fun _ => true) true Try.f8.params.toList args.toList ds p := hA0
  rw [Try.params8] at hA hval
  obtain ⟨v0, vs0, d0, ds0, p0, q0, hargs, rfl, rfl, h0, r0⟩ := trodAll_cons hA
  obtain ⟨v1, vs1, d1, ds1, p1, q1, rfl, rfl, rfl, h1, r1⟩ := trodAll_cons r0
  obtain ⟨rfl, rfl, rfl⟩ := trodAll_nil r1
  obtain rfl : args = #[v0, v1] := by cases args; simp_all
  obtain ⟨rfl, rfl⟩ := trodVars_none hV
  obtain ⟨n0, rfl, rfl, rfl, wn0⟩ := open_int Try.underlying39 (hval 0 39 v0 rfl rfl) h0
  have hn0 : 0 ≤ n0 ∧ n0 < 4294967296 := by
    simp [Lit.wf, IntKind.min, IntKind.max, IntKind.signed, IntKind.bits] at wn0; omega
  obtain ⟨n1, rfl, rfl, rfl, wn1⟩ := open_int Try.underlying3 (hval 1 3 v1 rfl rfl) h1
  have hn1 : -9223372036854775808 ≤ n1 ∧ n1 < 9223372036854775808 := by
    simp [Lit.wf, IntKind.min, IntKind.max, IntKind.signed, IntKind.bits] at wn1; omega
  refine (padded_any n0 n1 W hn0.1 hn0.2).mono fun e W' ⟨he, hb⟩ => ?_
  subst he
  exact ⟨_, rfl, law_done rfl rfl (by rw [Try.params8]; intro t ht; simp at ht; rcases ht with rfl | rfl <;> exact ⟨by kernel_rfl, of_decide_eq_true (by kernel_rfl)⟩) hW' rfl rfl rfl hb⟩

theorem padded_holds : Rows.LebPaddedSaid :=
  OpenClaim.holds_of_wide 8 Try.f8 rfl rfl rfl rfl rfl rfl rfl ⟨rfl, rfl, rfl, rfl, rfl⟩ rfl rfl rfl rfl rfl (by kernel_rfl) Try.func8 (by kernel_rfl)
    (of_decide_eq_true (by kernel_rfl)) (by unfold Func.isWrapper; first | (rw [if_pos (by decide +kernel)]; kernel_rfl) | (rw [if_neg (by decide +kernel)]; exact ⟨rfl, rfl⟩))
    (fun os started H enc _ => padded_lifted os started H enc)
end Go.Proofs.Ytllnbifdapgnoaa.lb
