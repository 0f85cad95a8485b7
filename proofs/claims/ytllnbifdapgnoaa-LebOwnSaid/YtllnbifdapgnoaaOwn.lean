/- LebOwn holds: bytes that were handed in, or answered, may be written over, and the law returns true. No condition. -/
import Derived.Test.YtllnbifdapgnoaaLaw
import Derived.Test.YtllnbifdapgnoaaEnc
import Derived.Test.YtllnbifdapgnoaaPadded
namespace Go.Proofs.Ytllnbifdapgnoaa.lb
open Go.ChangeShapes Go.WideShapes Go.ChangeAt Go.RowKit

/-- all of a block is known -/
def Full (w : World) (g : Nat) (l : List Int) : Prop := w.heap[g]? = some (.cells (l.map (.int .u8)).toArray 5 (0, 0))
theorem Full.lt {w : World} {g : Nat} {l : List Int} (h : Full w g l) : g < w.heap.size := (Array.getElem?_eq_some_iff.1 h).1
theorem Full.lift {w w' : World} {g : Nat} {l : List Int} (h : Full w g l) (hb : Below w.heap.size w w') : Full w' g l := by
  unfold Full; rw [hb.block g h.lt]; exact h
theorem Full.lift' {w w' : World} {B g : Nat} {l : List Int} (h : Full w g l) (hg : g < B) (hb : Below B w w') : Full w' g l := by
  unfold Full; rw [hb.block g hg]; exact h
theorem getD_zeros (l : List Int) (i : Nat) (h : l.length ≤ i) : (l ++ List.replicate 12 0).getD i 0 = 0 := by
  rw [List.getD_eq_getElem?_getD, List.getElem?_append_right h, List.getElem?_replicate]; split <;> rfl
theorem Full.at {w : World} {g : Nat} {l : List Int} (h : Full w g l) (k : Nat) (hk : k < l.length) : w.cell? ⟨g, k, none⟩ = some (.int .u8 (l.getD k 0)) := by
  rw [cell_of_row _ g k _ 5 (0, 0) h, List.getElem?_toArray]; exact get_map hk
theorem Full.rd {w : World} {g : Nat} {l r : List Int} (h : Full w g (l ++ r)) (cap : Nat) (hc : l.length ≤ cap) : Rd w (.slice (some ⟨g, 0, none⟩) l.length cap) l := by
  refine ⟨_, _, rfl, hc, (fun h => by cases h), .inr ⟨g, 0, rfl, fun k hk => ?_⟩⟩
  rw [Nat.zero_add, h.at k (by simp; omega), List.getD_eq_getElem?_getD, List.getD_eq_getElem?_getD, List.getElem?_append_left hk]

section
variable {ops : Array Oper} {rest : List Oper} {o : Oper} {a : Act} {Q : Exit → Act → World → Prop} {w w0 : World} {B : Nat}
/-- append of bytes into a row of the call's own that is known whole, and has room -/
theorem wpList_append_fill (s x : Operand) (hgd : o.guard = none) (ho : o.op = .call { callee := .builtin .append, args := #[s, x], argTypes := #[22, 22] })
    {g cap : Nat} {zs : List Value} (hg : w.heap[g]? = some (.cells zs.toArray 5 (0, 0))) (hz : zs.length = cap) (hm : cap ≤ maxLen) (hs : a.eval s = .slice (some ⟨g, 0, none⟩) 0 cap)
    {u : Value} {ys : List Int} (hx : a.eval x = u) (hrd : Rd w u ys) (hfit : ys.length ≤ cap) (hb : Below B w0 w) (hB : B ≤ g)
    (h : ∀ w', Hid (w'.heap[g]? = some (.cells (ys.map (Value.int .u8) ++ zs.drop ys.length).toArray 5 (0, 0))) → Below B w0 w' → wpList Try.prog ops Q rest (a.put o.dst (.slice (some ⟨g, 0, none⟩) ys.length cap)) w') :
    wpList Try.prog ops Q (o :: rest) a w := by
  obtain ⟨i0, hi, hz0, hz1, hz2⟩ := info_parts info5
  obtain ⟨ao, c, rfl, hcap, hn, hd⟩ := hrd.data
  cases ao with
  | some ad =>
    refine wpList_plain hgd fun K hK => ?_
    have hr := run_append_room (P := Try.prog) w 22 o.type 5 i0 Try.underlying22 hi g 0 cap zs.toArray hg ad ys.length c (ys.map (.int .u8)) (by rw [hz1]; simp) (fun j v hv => by
      obtain ⟨ad', he, hc⟩ := hd j v hv
      cases he; exact hc) (ints_oneCell _ _) (by omega) (by simp; omega)
    unfold Oper.wp
    simp [execOp, ho, resolve, invoke, builtin, hs, hx, hr, Result.andThen]
    refine hK _ _ (h _ ?_ (below_setRow hb hB _))
    show _ = _
    rw [setRow_heap w g _ _ 5 _ hg]
  | none =>
    have hys : ys = [] := by
      cases ys with
      | nil => rfl
      | cons y r => obtain ⟨_, he, _⟩ := hd 0 (.int .u8 y) rfl; cases he
    subst hys
    obtain rfl : c = 0 := hn rfl
    refine wpList_append_own_none hgd s x 22 ho B 5 i0 1 Try.underlying22 hi (.slice (some ⟨g, 0, none⟩) 0 cap) 0 [] hs ⟨by simp, .inr ⟨g, cap, zs.toArray, rfl, hB, hg, Nat.zero_le _, hm, by simp [hz], by simp⟩⟩ hx ?_
    exact h w (show _ = _ by simpa using hg) hb
end

/-- the make, ahead of the walk -/
theorem make_cap (n : Nat) (ni : Int) (hni : ni = n) (hn : n ≤ 281474976710656) (u : World) : (Instr.makeSlice 22 (.int .i64 0) (.int .i64 ni)).run Try.prog u =
    .ok (.slice (some ⟨u.heap.size, 0, none⟩) 0 n) (u.alloc (.cells (List.replicate n (Value.int .u8 0)).toArray 5)) := by
  subst hni
  obtain ⟨i0, hi, hz0, hz1, hz2⟩ := info_parts info5
  have h := run_make (P := Try.prog) u 22 5 i0 (.int .u8 0) Try.underlying22 hi hz0 .i64 .i64 0 (n : Int) (by omega) (by omega) (by rw [hz2]; omega) (by omega)
  rw [← toList_madeCells_one]
  simpa [hz1, Value.cells] using h

set_option maxHeartbeats 4000000 in
theorem own_any (v : Value) (l : List Int) (n : Int) (w : World) (hv : Rd w v l) (hr : ∀ x ∈ l, 0 ≤ x ∧ x < 256) (hl : l.length ≤ 140737488351232) (h0 : 0 ≤ n) (h1 : n < 18446744073709551616) :
    Calls Try.prog 9 #[v, .int .u64 n] w fun e w' => e = .returned (.bool true) ∧ Below w.heap.size w w' := by
  obtain ⟨hs0, hs1⟩ := wrap64_bd n
  obtain ⟨s, hs⟩ : ∃ s, wrap64 n = s := ⟨_, rfl⟩
  rw [hs] at hs0 hs1
  have hmk := make_cap (l.length + 12) ((l.length : Int) + 12) (by omega) (by omega)
  obtain ⟨zs, hzs⟩ : ∃ zs, zs = List.replicate (l.length + 12) (Value.int .u8 0) := ⟨_, rfl⟩
  rw [← hzs] at hmk
  have Hzs := Lib.hid hzs
  have Hzl : Hid (zs.length = l.length + 12) := by show _ = _; rw [hzs]; exact List.length_replicate
  have Hr := Lib.hid hr
  clear hzs hr
  have u1 := encU_len h0 h1
  have u2 := encS_len hs0 hs1
  obtain ⟨ao, cp, rfl, _, _⟩ := hv.data
  have hv0 := hv
  go_enter Try.func9, Try.ntmps9
  go_wp2_with (at_builtin; refine wpList_append_fill (.tmp 15) (.tmp 16) rfl rfl (heap_alloc_new w _) Hzl.out (by unfold maxLen; omega) rfl rfl (hv.alloc _) (by omega) ((Below.refl w.heap.size w).alloc (Nat.le_refl _) _) (Nat.le_refl _) ?_; intro w2 hg2 hb2)
  have hF : Full w2 w.heap.size (l ++ List.replicate 12 0) := by
    unfold Full
    have := hg2.out
    rw [Hzs.out, List.drop_replicate, show l.length + 12 - l.length = 12 from by omega] at this
    rw [List.map_append, List.map_replicate]; exact this
  clear hg2 Hzs Hzl hmk
  have hg2 : w.heap.size < w2.heap.size := hF.lt
  have hv := hv.lift hb2
  have hc := hF.rd (l.length + 12) (by omega)
  go_wp2_with fail
  refine (PutU_any _ l n _ hc (by omega) h0 h1).mono ?_
  rintro e w3 ⟨v3, rfl, ho3, hb3⟩
  have hB3 := bnext hb2 hb3
  have hF := hF.lift hb3
  have hv := hv.lift hb3
  have hc := hc.lift hb3
  obtain ⟨b3, c3, rfl, hb30, hb31, _⟩ := ho3.cells' (by intro h; have e := congrArg List.length h; rw [List.length_append, List.length_nil] at e; have := encU_pos n; omega)
  have Ho3 := Lib.hid ho3
  clear ho3
  obtain ⟨L3, hL3⟩ : ∃ x, (l ++ encU n).length = x := ⟨_, rfl⟩
  rw [hL3] at Ho3 ⊢
  go_wp2_with fail
  refine (PutS_any _ l s _ hc (by omega) hs0 hs1).mono ?_
  rintro e w4 ⟨v4, rfl, ho4, hb4⟩
  have hB4 := bnext hB3 hb4
  have hF := hF.lift hb4
  have hv := hv.lift hb4
  obtain ⟨b4, c4, rfl, hb40, hb41, _⟩ := ho4.cells' (by intro h; have e := congrArg List.length h; rw [List.length_append, List.length_nil] at e; have := encS_pos s; omega)
  have Ho3 := Lib.hid (Ho3.out.lift hb4)
  have Ho4 := Lib.hid ho4
  clear ho4
  obtain ⟨L4, hL4⟩ : ∃ x, (l ++ encS s).length = x := ⟨_, rfl⟩
  rw [hL4] at Ho4 ⊢
  have HL3 := Lib.hid hL3
  have HL4 := Lib.hid hL4
  have HL3' : L3 ≤ 140737488355232 := by rw [← hL3, List.length_append]; omega
  have HL4' : L4 ≤ 140737488355232 := by rw [← hL4, List.length_append]; omega
  clear hL3 hL4
  have hw2 : w2.heap.size ≤ w4.heap.size := Nat.le_trans hb3.size hb4.size
  go_wp2
  go_loopw [8, 27] (fun _ i wr => ∃ (k : Nat) (xs : List Int), i = .int .i64 k ∧ k ≤ L3 ∧ Hid (xs.length = L3) ∧ Own wr w2.heap.size (.slice (some ⟨b3, 0, none⟩) L3 c3) xs ∧ Own wr w3.heap.size (.slice (some ⟨b4, 0, none⟩) L4 c4) (l ++ encS s) ∧ Below w2.heap.size w4 wr) (fun _ i _ => L3 - (intOf i).toNat)
  case atStart => exact ⟨0, l ++ encU n, rfl, by omega, HL3.out, Ho3.out, Ho4.out, Below.refl _ _⟩
  case round =>
    obtain ⟨k, xs, rfl, hk, Hxl, ho, ho', hb⟩ := hrel
    have Ho := Lib.hid ho
    have Ho' := Lib.hid ho'
    clear ho ho'
    by_cases hlt : k < L3
    · have hcell := World.ownsRow.cells Ho.out (g := b3) rfl k _ (get_map (by rw [Hxl.out]; exact hlt))
      rw [add_lit, Nat.zero_add] at hcell
      have hfr : wr.frozen? ⟨b3, k, none⟩ = false := World.ownsRow.frozenAt (n := xs.length) (by have := Ho.out; rw [← Hxl.out] at this; exact this) k
      go_wp2
      go_roundw
      case rel => exact ⟨k + 1, xs.set k 1, by go_num, by omega, by show _ = _; rw [List.length_set]; exact Hxl.out, Ho.out.store Hxl.out.symm k 1, Ho'.out.setCell_below (by exact hb31) _, hb.setCell (p := ⟨b3, k, none⟩) hb30 _⟩
      case measure => simp [intOf]; omega
    · clear Ho HL3
      have Hb := Lib.hid hb
      clear hb
      go_wp2
      go_loopw [9, 36] (fun _ i wq => ∃ (k : Nat) (ys : List Int), i = .int .i64 k ∧ k ≤ L4 ∧ Hid (ys.length = L4) ∧ Own wq w3.heap.size (.slice (some ⟨b4, 0, none⟩) L4 c4) ys ∧ Below w2.heap.size w4 wq) (fun _ i _ => L4 - (intOf i).toNat)
      case atStart => exact ⟨0, l ++ encS s, rfl, by omega, HL4.out, Ho'.out, Hb.out⟩
      case round =>
        obtain ⟨q, ys, rfl, hq, Hyl, ho, hb⟩ := hrel
        have Ho := Lib.hid ho
        clear ho
        by_cases hlq : q < L4
        · have hcell := World.ownsRow.cells Ho.out (g := b4) rfl q _ (get_map (by rw [Hyl.out]; exact hlq))
          rw [add_lit, Nat.zero_add] at hcell
          have hfr : wr.frozen? ⟨b4, q, none⟩ = false := World.ownsRow.frozenAt (n := ys.length) (by have := Ho.out; rw [← Hyl.out] at this; exact this) q
          have hb40' : w2.heap.size ≤ b4 := Nat.le_trans hb3.size hb40
          go_wp2
          go_roundw
          case rel => exact ⟨q + 1, ys.set q 2, by go_num, by omega, by show _ = _; rw [List.length_set]; exact Hyl.out, Ho.out.store Hyl.out.symm q 2, hb.setCell (p := ⟨b4, q, none⟩) hb40' _⟩
          case measure => simp [intOf]; omega
        · have hBq : Below w.heap.size w wr := hB4.trans (hb.mono (Nat.le_of_lt hg2))
          have hF := hF.lift' hg2 hb
          have hv := hv0.lift hBq
          have hc := hF.rd (l.length + 12) (by omega)
          have HB := Lib.hid hBq
          clear hb Hb Ho Hyl hBq
          have hfc : ∀ i : Nat, l.length ≤ i → i < l.length + 12 → wr.cell? ⟨w.heap.size, i, none⟩ = some (.int .u8 0) := fun i h1 h2 => by
            rw [hF.at i (by simp; omega), getD_zeros l i h1]
          have Hfc := Lib.hid hfc
          have Hcr := Lib.hid hc
          have Hvr := Lib.hid hv
          clear hfc hF hc hv
          go_wp2
          go_loop [11] (fun x => ∃ i : Nat, l.length ≤ i ∧ i ≤ l.length + 12 ∧ x = .int .i64 i) (fun x => l.length + 12 - (intOf x).toNat)
          case atStart => exact ⟨l.length, by omega, by omega, rfl⟩
          case round =>
            obtain ⟨i, hi0, hi1, rfl⟩ := hrel
            by_cases hl12 : i < l.length + 12
            · have hcell := Hfc.out i hi0 hl12
              go_wp2
              go_round
              case rel => exact ⟨i + 1, by omega, by omega, by go_num⟩
              case measure => simp [intOf]; omega
            · go_wp2_with fail
              refine (U_any _ l 0 32 _ Hcr.out Hr.out (by omega)).mono ?_
              rintro e w5 ⟨rfl, hb5⟩
              have hB5 := bnext HB.out hb5
              have hc := Hcr.out.lift hb5
              have hv := Hvr.out.lift hb5
              unfold res
              go_wp2_with fail
              refine (S_any _ l 0 64 _ hc Hr.out (by omega)).mono ?_
              rintro e w6 ⟨rfl, hb6⟩
              have hB6 := bnext hB5 hb6
              have hc := hc.lift hb6
              have hv := hv.lift hb6
              unfold res
              go_wp2_with fail
              refine (same_any _ _ l _ hc hv).mono ?_
              rintro e w7 ⟨rfl, rfl⟩
              go_wp2_with fail
              refine (alive_any _).mono ?_
              rintro e w9 ⟨rfl, hb9⟩
              go_wp2
              go_ret
              exact ⟨rfl, bnext hB6 hb9⟩

set_option maxRecDepth 100000 in
theorem own_lifted (os : Os) (started : os.Started) (H : Type) (enc : TypeId × Value → H) :
    ReturnsInHanded {} Try.checked os 9 .any (Rows.lebOwnSpec.pre6 enc Try.prog Try.f9 Rows.lebOwnRow.domain false) (Rows.lebOwnSpec.post enc Try.prog Try.f9 false true false false) := by
  refine returnsInHanded_of_change_sized (C := Try.checked) own started (by kernel_rfl) Try.func9
    (ChangeSpec.witness6 (enc := enc) (C := Try.checked) false ⟨#[], #[.slice none 0 0, .int .u64 0], []⟩ 8 (by kernel_rfl) (by kernel_rfl) (by kernel_rfl) (by kernel_rfl)) ?_
  intro W base args ds gs before hval0 hW _ hsz0 _
  have hsz : (DataW.weightsEach Try.prog (Try.f9.params.toList ++ Rows.lebOwnSpec.plain.varTypes Try.prog) (ds ++ gs)).all (· ≤ reachBytes) = true := hsz0
  clear hsz0
  have hval : ∀ (j : Nat) t v, Try.f9.params[j]? = some t → args[j]? = some v → Value.okWide Try.prog W .any base t v := hval0
  clear hval0
  have hW' := hW
  obtain ⟨p, q, hA0, hV, rfl, _, _⟩ := hW
  have hA : DataW.TrodAll enc Try.prog W 0 (fun _ => true) true Try.f9.params.toList args.toList ds p := hA0
  rw [Try.params9] at hA hval hsz
  obtain ⟨v0, vs0, d0, ds0, p0, q0, hargs, rfl, rfl, h0, r0⟩ := trodAll_cons hA
  obtain ⟨v1, vs1, d1, ds1, p1, q1, rfl, rfl, rfl, h1, r1⟩ := trodAll_cons r0
  obtain ⟨rfl, rfl, rfl⟩ := trodAll_nil r1
  obtain rfl : args = #[v0, v1] := by cases args; simp_all
  obtain ⟨rfl, rfl⟩ := trodVars_none hV
  obtain ⟨l0, hrd0, hr0, hl0, _⟩ := open_bytes (hval 0 22 v0 rfl rfl) h0 (fun elems spare hd => sized_slice hsz (j := 0) (t := 22) (e := 5) rfl (by rw [hd]; rfl) Try.underlying22)
  obtain ⟨n1, rfl, rfl, rfl, wn1⟩ := open_int Try.underlying23 (hval 1 23 v1 rfl rfl) h1
  have hn1 : 0 ≤ n1 ∧ n1 < 18446744073709551616 := by
    simp [Lit.wf, IntKind.min, IntKind.max, IntKind.signed, IntKind.bits] at wn1; omega
  refine (own_any v0 l0 n1 W hrd0 hr0 hl0 hn1.1 hn1.2).mono fun e W' ⟨he, hb⟩ => ?_
  subst he
  exact ⟨_, rfl, law_done rfl rfl (by rw [Try.params9]; intro t ht; simp at ht; rcases ht with rfl | rfl <;> exact ⟨by kernel_rfl, of_decide_eq_true (by kernel_rfl)⟩) hW' rfl rfl rfl hb⟩

theorem own_holds : Rows.LebOwnSaid :=
  OpenClaim.holds_of_wide 9 Try.f9 rfl rfl rfl rfl rfl rfl rfl ⟨rfl, rfl, rfl, rfl, rfl⟩ rfl rfl rfl rfl rfl (by kernel_rfl) Try.func9 (by kernel_rfl)
    (of_decide_eq_true (by kernel_rfl)) (by unfold Func.isWrapper; first | (rw [if_pos (by decide +kernel)]; kernel_rfl) | (rw [if_neg (by decide +kernel)]; exact ⟨rfl, rfl⟩))
    (fun os started H enc _ => own_lifted os started H enc)
end Go.Proofs.Ytllnbifdapgnoaa.lb
