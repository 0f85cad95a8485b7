/- MemBack holds: what was written is read, its low bits, by an access of as many bytes; other bytes stay: the law returns true. No condition. -/
import Derived.Test.YtmknjiefdhhgkaaLonger
namespace Go.Proofs.Ytmknjiefdhhgkaa.mm
open Go.ChangeShapes Go.WideShapes Go.ChangeAt Go.RowKit
set_option linter.unusedVariables false

theorem storeR_ok {l : List Int} {op a f n : Int} (h : (storeR l op a f n).2 = 0) : ∃ k wd sg, acc op = some ⟨k, wd, true, sg⟩ ∧ a ≤ 4294967295 ∧ f ≤ 4294967295 ∧ a + f + wd ≤ l.length ∧ (storeR l op a f n).1 = wrB l (a + f).toNat wd n := by
  unfold storeR at h ⊢
  cases hacc : acc op with
  | none => rw [hacc] at h; cases h
  | some A =>
    rw [hacc] at h
    obtain ⟨k, wd, st, sg⟩ := A
    simp only at h ⊢
    split at h
    · cases h
    · rename_i h1
      rw [if_neg h1]
      split at h
      · rename_i h2
        rw [if_pos h2]
        simp only [not_or, Int.not_lt] at h1
        obtain ⟨h3, h4, h5, _⟩ := h1
        cases st
        · exact absurd rfl h3
        · exact ⟨k, wd, sg, rfl, h4, h5, h2, rfl⟩
      · cases h
def opOf (wd : Nat) : Int := if wd = 1 then 49 else if wd = 2 then 51 else if wd = 4 then 53 else 41
theorem load_wr {l : List Int} {a f n : Int} {wd : Nat} (hw : wd = 1 ∨ wd = 2 ∨ wd = 4 ∨ wd = 8) (a0 : 0 ≤ a) (f0 : 0 ≤ f) (h1 : a ≤ 4294967295) (h2 : f ≤ 4294967295) (h3 : a + f + wd ≤ l.length) :
    loadR (wrB l (a + f).toNat wd n) (opOf wd) a f = (n % 256 ^ wd, 0) := by
  have hacc : acc (opOf wd) = some ⟨126, wd, false, false⟩ := by rcases hw with rfl | rfl | rfl | rfl <;> decide
  unfold loadR
  rw [hacc]
  simp only
  rw [if_neg (by simp; omega), wrB_length (by omega), if_pos h3, wrB_read (by omega), readV, leN_leB]; rfl
theorem wrB_getD {l : List Int} {p k : Nat} {n : Int} (h : p + k ≤ l.length) {i : Nat} (h1 : i < p ∨ p + k ≤ i) : (wrB l p k n).getD i 0 = l.getD i 0 := by
  rw [List.getD_eq_getElem?_getD, wrB_out h h1, List.getD_eq_getElem?_getD]

def mapL : List (Int × Value) := [(1, .int .i64 49), (2, .int .i64 51), (4, .int .i64 53), (8, .int .i64 41)]
theorem and_low {n : Int} (n0 : 0 ≤ n) (n1 : n < 18446744073709551616) (k : Nat) (hk : k < 64) {c : Int} (hc : c = ((2 ^ k - 1 : Nat) : Int)) : bits .and .u64 n c = n % ((2 ^ k : Nat) : Int) := by
  obtain ⟨N, rfl⟩ : ∃ N : Nat, n = N := ⟨n.toNat, by omega⟩
  have h7 : (2 : Nat) ^ k ≤ 2 ^ 63 := Nat.pow_le_pow_right (by decide) (by omega)
  subst hc
  rw [u64_and_nat N (2 ^ k - 1) (by omega) (by omega), Nat.and_two_pow_sub_one_eq_mod]; rfl

set_option maxHeartbeats 1000000 in
theorem back_why (v : Value) (l : List Int) (o a f n : Int) (w : World) (hv : Rd w v l) (hl : l.length ≤ 140737488351232) (a0 : 0 ≤ a) (f0 : 0 ≤ f) (n0 : 0 ≤ n) (n1 : n < 18446744073709551616) (hz : (storeR l o a f n).2 ≠ 0) :
    Calls Try.prog 7 #[v, .agg #[.int .i64 o, .int .u64 a, .int .u64 f, .int .u64 n]] w fun e w' => e = .returned (.bool true) ∧ Below w.heap.size w w' := by
  have HS := Lib.hid (fun w' (hb : Below w.heap.size w w') => Store_any v l o a f n w' (hv.lift hb) (by omega) a0 f0 n0 n1)
  have HA := Lib.hid (fun w' => Access_any o w')
  unfold accR at HA
  generalize storeR l o a f n = x at HS hz
  obtain ⟨x1, x2⟩ := x
  simp only at HS hz
  generalize ((acc o).getD noAcc).kind = k at HA
  generalize (((acc o).getD noAcc).width : Int) = wd at HA
  generalize ((acc o).getD noAcc).store = st at HA
  generalize (acc o).isSome = ok at HA
  have hzb : (x2 != 0) = true := by simpa using hz
  clear hz
  go_enter Try.func7, Try.ntmps7
  go_wp2_with fail
  refine (HS.out _ (made_below _ _)).mono ?_
  rintro e w1 ⟨v1, rfl, ho1, hb1⟩
  have hB1 := bnext (made_below w _) hb1
  have hT := (TBox.new w o a f n).lift hb1
  obtain ⟨c0, c1, c2, c3⟩ := hT.cells
  clear ho1 hb1
  go_wp2_with fail
  refine (HA.out _).mono ?_
  rintro e w2 ⟨rfl, hb2⟩
  go_wp2_with fail
  refine (alive_any _).mono ?_
  rintro e w3 ⟨rfl, hb3⟩
  go_wp2
  go_ret
  exact ⟨rfl, bnext (bnext hB1 hb2) hb3⟩

theorem access_x {o k wi : Int} {wd : Nat} {st sg : Bool} (h : acc o = some ⟨k, wd, st, sg⟩) (hwi : wi = wd) (w : World) : Calls Try.prog 10 #[.int .i64 o] w fun e w' => e = .returned (.tuple #[.int .i64 k, .int .i64 wi, .bool st, .bool true]) ∧ Below w.heap.size w w' :=
  (Access_any o w).mono fun e w' ⟨he, hb⟩ => ⟨by rw [he, accR, h, hwi]; rfl, hb⟩

set_option maxRecDepth 100000 in
set_option maxHeartbeats 4000000 in
theorem back_1 (v : Value) (l : List Int) (o a f n : Int) (w : World) (hv : Rd w v l) (hr : Bs l) (hl : l.length ≤ 140737488351232) (a0 : 0 ≤ a) (f0 : 0 ≤ f) (n0 : 0 ≤ n) (n1 : n < 18446744073709551616) (hz : (storeR l o a f n).2 = 0)
    {k : Int} {sg : Bool} (hacc : acc o = some ⟨k, 1, true, sg⟩) (h1 : a ≤ 4294967295) (h2 : f ≤ 4294967295) (h3 : a + f + (1 : Nat) ≤ l.length) (hs : (storeR l o a f n).1 = wrB l (a + f).toNat 1 n) :
    Calls Try.prog 7 #[v, .agg #[.int .i64 o, .int .u64 a, .int .u64 f, .int .u64 n]] w fun e w' => e = .returned (.bool true) ∧ Below w.heap.size w w' := by
  have hS := Store_any v l o a f n _ (hv.alloc (.cells #[.int .i64 o, .int .u64 a, .int .u64 f, .int .u64 n] 31)) (by omega) a0 f0 n0 n1
  rw [hs, hz] at hS
  have hfit : (a + f).toNat + 1 ≤ l.length := by omega
  have hld : loadR (wrB l (a + f).toNat 1 n) 49 a f = (n % 256, 0) := by
    have : loadR (wrB l (a + f).toNat 1 n) 49 a f = (n % 256 ^ 1, 0) := load_wr (n := n) (wd := 1) (by omega) a0 f0 h1 h2 h3
    rw [this]; rfl
  have hLl := wrB_length (n := n) hfit
  have hLb := wrB_bs hr (a + f).toNat 1 n
  have hgd := fun i (h : i < (a + f).toNat ∨ (a + f).toNat + 1 ≤ i) => wrB_getD (n := n) hfit (i := i) h
  obtain ⟨L, hL⟩ : ∃ L, wrB l (a + f).toNat 1 n = L := ⟨_, rfl⟩
  rw [hL] at hS hld hLl hLb hgd
  have hLd := fun vb w' (hb : Rd w' vb L) => Load_any vb L 49 a f w' hb hLb (by omega) a0 f0
  rw [hld] at hLd
  have hlow : bits .and .u64 n 255 = n % 256 := and_low n0 n1 8 (by decide) (c := 255) rfl
  obtain ⟨x, hx⟩ : ∃ x, n % 256 = x := ⟨_, rfl⟩
  rw [hx] at hLd hlow
  simp only at hLd hS
  have HL := Lib.hid hLd
  have HS := Lib.hid hS
  have HA := Lib.hid (fun w' => access_x (wi := 1) hacc rfl w')
  have Hgd := Lib.hid hgd
  have Hll := Lib.hid hLl
  have s1 : (0 : Int) ≤ a + f := by omega
  have E1 := Lib.hid (show IntKind.u64.wrap (a + f) = a + f by rw [IntKind.wrap_u64]; omega)
  have E2 := Lib.hid (show IntKind.u64.wrap (a + f + 1) = a + f + 1 by rw [IntKind.wrap_u64]; omega)
  have hl1 : 1 ≤ l.length := by omega
  have hL1 : 1 ≤ L.length := by omega
  have hmm := @run_makeMap Try.prog
  obtain ⟨b0, off0, cap, rfl, hcap, hc0⟩ : ∃ b off cap, v = .slice (some ⟨b, off, none⟩) l.length cap ∧ l.length ≤ cap ∧ ∀ k, k < l.length → w.cell? ⟨b, off + k, none⟩ = some (.int .u8 (l.getD k 0)) := by
    obtain ⟨ao, cap, rfl, hc, _, h⟩ := hv
    rcases h with rfl | ⟨b, off, rfl, h⟩
    · simp at hl1
    · exact ⟨b, off, cap, rfl, hc, h⟩
  have Hc0 := Lib.hid hc0
  clear hz hs hld hLl hLb hgd hL hacc hLd hS hc0 hx h3 hfit
  go_enter Try.func7, Try.ntmps7
  go_wp2_with fail
  refine HS.out.mono ?_
  rintro e w1 ⟨v1, rfl, ho1, hb1⟩
  have hB1 := bnext (made_below w _) hb1
  have hT := (TBox.new w o a f n).lift hb1
  obtain ⟨b1, cap1, rfl, hb10, hb11, hcap1⟩ := ho1.row hL1
  have hR1 := Lib.hid ho1.rd
  obtain ⟨c0, c1, c2, c3⟩ := hT.cells
  clear ho1 hb1
  go_wp2_with fail
  refine (HA.out _).mono ?_
  rintro e w2 ⟨rfl, hb2⟩
  have hB2 := bnext hB1 hb2
  have hT := hT.lift hb2
  obtain ⟨c0, c1, c2, c3⟩ := hT.cells
  have hR2 := Lib.hid (hR1.out.lift hb2)
  clear hb2 hR1
  go_wp2_with (first
    | (refine wpList_insert rfl rfl Try.underlying46 Try.underlying3 rfl rfl rfl (by first | assumption | exact Maps.made _) rfl (by first | assumption | exact made_below _ _) (Nat.le_refl _) ?_; intro w3 hm3 hb3)
    | (at_lookup; refine wpList_look (val := .int .i64 49) rfl rfl Try.underlying46 Try.underlying3 rfl rfl hm3 rfl ?_; clear hm3; have hT3 := hT.lift hb3; obtain ⟨c0, c1, c2, c3⟩ := hT3.cells))
  have hB3 := bnext hB2 hb3
  have hR3 := Lib.hid (hR2.out.lift hb3)
  clear hR2 hb3
  refine (HL.out _ _ hR3.out).mono ?_
  rintro e w4 ⟨rfl, hb4⟩
  have hB4 := bnext hB3 hb4
  have hT4 := hT3.lift hb4
  obtain ⟨c0, c1, c2, c3⟩ := hT4.cells
  have hR4 := hR3.out.lift hb4
  obtain ⟨b9, off9, e9, hc1⟩ := hR4.head rfl hL1
  simp only [Option.some.injEq, Addr.mk.injEq, and_true] at e9
  obtain ⟨rfl, rfl⟩ := e9
  have Hc1 := Lib.hid hc1
  rw [Hll.out] at hc1 hcap1 ⊢
  have Hc1 := Lib.hid hc1
  clear hc1 hR3 hR4 hb4
  have hT4 := Lib.hid hT4
  go_wp2_with fail
  go_loopw [93] (fun i wr => ∃ q : Nat, q ≤ l.length ∧ i = .int .i64 q ∧ Below w4.heap.size w4 wr) (fun i _ => l.length - (intOf i).toNat)
  case atStart => exact ⟨0, Nat.zero_le _, rfl, Below.refl _ _⟩
  case round =>
    obtain ⟨q, hq, rfl, hB⟩ := hrel
    have HB := Lib.hid hB
    have hT5 := hT4.out.lift hB
    obtain ⟨c0, c1, c2, c3⟩ := hT5.cells
    clear hB hT5
    by_cases hlt : q < l.length
    · have cm := keeps (bnext hB4 HB.out) (Hc0.out q hlt)
      have cb := keeps HB.out (Hc1.out q hlt)
      rw [Nat.zero_add] at cb
      have e1 := E1.out
      have e2 := E2.out
      by_cases hA : (q : Int) < a + f
      · rw [Hgd.out q (.inl (by omega))] at cb
        generalize l.getD q 0 = y at cm cb
        have hne : (y != y) = false := by simp
        go_wp2_with fail
        go_quiet (fail)
        go_wp2
        go_roundw
        case rel => exact ⟨q + 1, by omega, by go_num, HB.out.trans (belowN _ _)⟩
        case measure => simp [intOf]; omega
      · have hdA := decide_eq_false hA
        by_cases hC : a + f + 1 ≤ (q : Int)
        · rw [Hgd.out q (.inr (by omega))] at cb
          generalize l.getD q 0 = y at cm cb
          have hne : (y != y) = false := by simp
          clear hA
          go_wp2_with fail
          go_quiet (fail)
          go_wp2
          go_roundw
          case rel => exact ⟨q + 1, by omega, by go_num, HB.out.trans (belowN _ _)⟩
          case measure => simp [intOf]; omega
        · have hdC := decide_eq_false hC
          clear hA hC
          go_wp2_with fail
          go_quiet (fail)
          go_wp2
          go_roundw
          case rel => exact ⟨q + 1, by omega, by go_num, HB.out.trans (belowN _ _)⟩
          case measure => simp [intOf]; omega
    · clear c0 c1 c2 c3
      go_wp2_with (go_at_call 14; refine (alive_any _).mono ?_; rintro e w6 ⟨rfl, hb6⟩)
      go_ret
      exact ⟨rfl, bnext (bnext hB4 HB.out) hb6⟩

set_option maxRecDepth 100000 in
set_option maxHeartbeats 4000000 in
theorem back_2 (v : Value) (l : List Int) (o a f n : Int) (w : World) (hv : Rd w v l) (hr : Bs l) (hl : l.length ≤ 140737488351232) (a0 : 0 ≤ a) (f0 : 0 ≤ f) (n0 : 0 ≤ n) (n1 : n < 18446744073709551616) (hz : (storeR l o a f n).2 = 0)
    {k : Int} {sg : Bool} (hacc : acc o = some ⟨k, 2, true, sg⟩) (h1 : a ≤ 4294967295) (h2 : f ≤ 4294967295) (h3 : a + f + (2 : Nat) ≤ l.length) (hs : (storeR l o a f n).1 = wrB l (a + f).toNat 2 n) :
    Calls Try.prog 7 #[v, .agg #[.int .i64 o, .int .u64 a, .int .u64 f, .int .u64 n]] w fun e w' => e = .returned (.bool true) ∧ Below w.heap.size w w' := by
  have hS := Store_any v l o a f n _ (hv.alloc (.cells #[.int .i64 o, .int .u64 a, .int .u64 f, .int .u64 n] 31)) (by omega) a0 f0 n0 n1
  rw [hs, hz] at hS
  have hfit : (a + f).toNat + 2 ≤ l.length := by omega
  have hld : loadR (wrB l (a + f).toNat 2 n) 51 a f = (n % 65536, 0) := by
    have : loadR (wrB l (a + f).toNat 2 n) 51 a f = (n % 256 ^ 2, 0) := load_wr (n := n) (wd := 2) (by omega) a0 f0 h1 h2 h3
    rw [this]; rfl
  have hLl := wrB_length (n := n) hfit
  have hLb := wrB_bs hr (a + f).toNat 2 n
  have hgd := fun i (h : i < (a + f).toNat ∨ (a + f).toNat + 2 ≤ i) => wrB_getD (n := n) hfit (i := i) h
  obtain ⟨L, hL⟩ : ∃ L, wrB l (a + f).toNat 2 n = L := ⟨_, rfl⟩
  rw [hL] at hS hld hLl hLb hgd
  have hLd := fun vb w' (hb : Rd w' vb L) => Load_any vb L 51 a f w' hb hLb (by omega) a0 f0
  rw [hld] at hLd
  have hlow : bits .and .u64 n 65535 = n % 65536 := and_low n0 n1 16 (by decide) (c := 65535) rfl
  obtain ⟨x, hx⟩ : ∃ x, n % 65536 = x := ⟨_, rfl⟩
  rw [hx] at hLd hlow
  simp only at hLd hS
  have HL := Lib.hid hLd
  have HS := Lib.hid hS
  have HA := Lib.hid (fun w' => access_x (wi := 2) hacc rfl w')
  have Hgd := Lib.hid hgd
  have Hll := Lib.hid hLl
  have s1 : (0 : Int) ≤ a + f := by omega
  have E1 := Lib.hid (show IntKind.u64.wrap (a + f) = a + f by rw [IntKind.wrap_u64]; omega)
  have E2 := Lib.hid (show IntKind.u64.wrap (a + f + 2) = a + f + 2 by rw [IntKind.wrap_u64]; omega)
  have hl1 : 1 ≤ l.length := by omega
  have hL1 : 1 ≤ L.length := by omega
  have hmm := @run_makeMap Try.prog
  obtain ⟨b0, off0, cap, rfl, hcap, hc0⟩ : ∃ b off cap, v = .slice (some ⟨b, off, none⟩) l.length cap ∧ l.length ≤ cap ∧ ∀ k, k < l.length → w.cell? ⟨b, off + k, none⟩ = some (.int .u8 (l.getD k 0)) := by
    obtain ⟨ao, cap, rfl, hc, _, h⟩ := hv
    rcases h with rfl | ⟨b, off, rfl, h⟩
    · simp at hl1
    · exact ⟨b, off, cap, rfl, hc, h⟩
  have Hc0 := Lib.hid hc0
  clear hz hs hld hLl hLb hgd hL hacc hLd hS hc0 hx h3 hfit
  go_enter Try.func7, Try.ntmps7
  go_wp2_with fail
  refine HS.out.mono ?_
  rintro e w1 ⟨v1, rfl, ho1, hb1⟩
  have hB1 := bnext (made_below w _) hb1
  have hT := (TBox.new w o a f n).lift hb1
  obtain ⟨b1, cap1, rfl, hb10, hb11, hcap1⟩ := ho1.row hL1
  have hR1 := Lib.hid ho1.rd
  obtain ⟨c0, c1, c2, c3⟩ := hT.cells
  clear ho1 hb1
  go_wp2_with fail
  refine (HA.out _).mono ?_
  rintro e w2 ⟨rfl, hb2⟩
  have hB2 := bnext hB1 hb2
  have hT := hT.lift hb2
  obtain ⟨c0, c1, c2, c3⟩ := hT.cells
  have hR2 := Lib.hid (hR1.out.lift hb2)
  clear hb2 hR1
  go_wp2_with (first
    | (refine wpList_insert rfl rfl Try.underlying46 Try.underlying3 rfl rfl rfl (by first | assumption | exact Maps.made _) rfl (by first | assumption | exact made_below _ _) (Nat.le_refl _) ?_; intro w3 hm3 hb3)
    | (at_lookup; refine wpList_look (val := .int .i64 51) rfl rfl Try.underlying46 Try.underlying3 rfl rfl hm3 rfl ?_; clear hm3; have hT3 := hT.lift hb3; obtain ⟨c0, c1, c2, c3⟩ := hT3.cells))
  have hB3 := bnext hB2 hb3
  have hR3 := Lib.hid (hR2.out.lift hb3)
  clear hR2 hb3
  refine (HL.out _ _ hR3.out).mono ?_
  rintro e w4 ⟨rfl, hb4⟩
  have hB4 := bnext hB3 hb4
  have hT4 := hT3.lift hb4
  obtain ⟨c0, c1, c2, c3⟩ := hT4.cells
  have hR4 := hR3.out.lift hb4
  obtain ⟨b9, off9, e9, hc1⟩ := hR4.head rfl hL1
  simp only [Option.some.injEq, Addr.mk.injEq, and_true] at e9
  obtain ⟨rfl, rfl⟩ := e9
  have Hc1 := Lib.hid hc1
  rw [Hll.out] at hc1 hcap1 ⊢
  have Hc1 := Lib.hid hc1
  clear hc1 hR3 hR4 hb4
  have hT4 := Lib.hid hT4
  go_wp2_with fail
  go_loopw [93] (fun i wr => ∃ q : Nat, q ≤ l.length ∧ i = .int .i64 q ∧ Below w4.heap.size w4 wr) (fun i _ => l.length - (intOf i).toNat)
  case atStart => exact ⟨0, Nat.zero_le _, rfl, Below.refl _ _⟩
  case round =>
    obtain ⟨q, hq, rfl, hB⟩ := hrel
    have HB := Lib.hid hB
    have hT5 := hT4.out.lift hB
    obtain ⟨c0, c1, c2, c3⟩ := hT5.cells
    clear hB hT5
    by_cases hlt : q < l.length
    · have cm := keeps (bnext hB4 HB.out) (Hc0.out q hlt)
      have cb := keeps HB.out (Hc1.out q hlt)
      rw [Nat.zero_add] at cb
      have e1 := E1.out
      have e2 := E2.out
      by_cases hA : (q : Int) < a + f
      · rw [Hgd.out q (.inl (by omega))] at cb
        generalize l.getD q 0 = y at cm cb
        have hne : (y != y) = false := by simp
        go_wp2_with fail
        go_quiet (fail)
        go_wp2
        go_roundw
        case rel => exact ⟨q + 1, by omega, by go_num, HB.out.trans (belowN _ _)⟩
        case measure => simp [intOf]; omega
      · have hdA := decide_eq_false hA
        by_cases hC : a + f + 2 ≤ (q : Int)
        · rw [Hgd.out q (.inr (by omega))] at cb
          generalize l.getD q 0 = y at cm cb
          have hne : (y != y) = false := by simp
          clear hA
          go_wp2_with fail
          go_quiet (fail)
          go_wp2
          go_roundw
          case rel => exact ⟨q + 1, by omega, by go_num, HB.out.trans (belowN _ _)⟩
          case measure => simp [intOf]; omega
        · have hdC := decide_eq_false hC
          clear hA hC
          go_wp2_with fail
          go_quiet (fail)
          go_wp2
          go_roundw
          case rel => exact ⟨q + 1, by omega, by go_num, HB.out.trans (belowN _ _)⟩
          case measure => simp [intOf]; omega
    · clear c0 c1 c2 c3
      go_wp2_with (go_at_call 14; refine (alive_any _).mono ?_; rintro e w6 ⟨rfl, hb6⟩)
      go_ret
      exact ⟨rfl, bnext (bnext hB4 HB.out) hb6⟩

set_option maxRecDepth 100000 in
set_option maxHeartbeats 4000000 in
theorem back_4 (v : Value) (l : List Int) (o a f n : Int) (w : World) (hv : Rd w v l) (hr : Bs l) (hl : l.length ≤ 140737488351232) (a0 : 0 ≤ a) (f0 : 0 ≤ f) (n0 : 0 ≤ n) (n1 : n < 18446744073709551616) (hz : (storeR l o a f n).2 = 0)
    {k : Int} {sg : Bool} (hacc : acc o = some ⟨k, 4, true, sg⟩) (h1 : a ≤ 4294967295) (h2 : f ≤ 4294967295) (h3 : a + f + (4 : Nat) ≤ l.length) (hs : (storeR l o a f n).1 = wrB l (a + f).toNat 4 n) :
    Calls Try.prog 7 #[v, .agg #[.int .i64 o, .int .u64 a, .int .u64 f, .int .u64 n]] w fun e w' => e = .returned (.bool true) ∧ Below w.heap.size w w' := by
  have hS := Store_any v l o a f n _ (hv.alloc (.cells #[.int .i64 o, .int .u64 a, .int .u64 f, .int .u64 n] 31)) (by omega) a0 f0 n0 n1
  rw [hs, hz] at hS
  have hfit : (a + f).toNat + 4 ≤ l.length := by omega
  have hld : loadR (wrB l (a + f).toNat 4 n) 53 a f = (n % 4294967296, 0) := by
    have : loadR (wrB l (a + f).toNat 4 n) 53 a f = (n % 256 ^ 4, 0) := load_wr (n := n) (wd := 4) (by omega) a0 f0 h1 h2 h3
    rw [this]; rfl
  have hLl := wrB_length (n := n) hfit
  have hLb := wrB_bs hr (a + f).toNat 4 n
  have hgd := fun i (h : i < (a + f).toNat ∨ (a + f).toNat + 4 ≤ i) => wrB_getD (n := n) hfit (i := i) h
  obtain ⟨L, hL⟩ : ∃ L, wrB l (a + f).toNat 4 n = L := ⟨_, rfl⟩
  rw [hL] at hS hld hLl hLb hgd
  have hLd := fun vb w' (hb : Rd w' vb L) => Load_any vb L 53 a f w' hb hLb (by omega) a0 f0
  rw [hld] at hLd
  have hlow : bits .and .u64 n 4294967295 = n % 4294967296 := and_low n0 n1 32 (by decide) (c := 4294967295) rfl
  obtain ⟨x, hx⟩ : ∃ x, n % 4294967296 = x := ⟨_, rfl⟩
  rw [hx] at hLd hlow
  simp only at hLd hS
  have HL := Lib.hid hLd
  have HS := Lib.hid hS
  have HA := Lib.hid (fun w' => access_x (wi := 4) hacc rfl w')
  have Hgd := Lib.hid hgd
  have Hll := Lib.hid hLl
  have s1 : (0 : Int) ≤ a + f := by omega
  have E1 := Lib.hid (show IntKind.u64.wrap (a + f) = a + f by rw [IntKind.wrap_u64]; omega)
  have E2 := Lib.hid (show IntKind.u64.wrap (a + f + 4) = a + f + 4 by rw [IntKind.wrap_u64]; omega)
  have hl1 : 1 ≤ l.length := by omega
  have hL1 : 1 ≤ L.length := by omega
  have hmm := @run_makeMap Try.prog
  obtain ⟨b0, off0, cap, rfl, hcap, hc0⟩ : ∃ b off cap, v = .slice (some ⟨b, off, none⟩) l.length cap ∧ l.length ≤ cap ∧ ∀ k, k < l.length → w.cell? ⟨b, off + k, none⟩ = some (.int .u8 (l.getD k 0)) := by
    obtain ⟨ao, cap, rfl, hc, _, h⟩ := hv
    rcases h with rfl | ⟨b, off, rfl, h⟩
    · simp at hl1
    · exact ⟨b, off, cap, rfl, hc, h⟩
  have Hc0 := Lib.hid hc0
  clear hz hs hld hLl hLb hgd hL hacc hLd hS hc0 hx h3 hfit
  go_enter Try.func7, Try.ntmps7
  go_wp2_with fail
  refine HS.out.mono ?_
  rintro e w1 ⟨v1, rfl, ho1, hb1⟩
  have hB1 := bnext (made_below w _) hb1
  have hT := (TBox.new w o a f n).lift hb1
  obtain ⟨b1, cap1, rfl, hb10, hb11, hcap1⟩ := ho1.row hL1
  have hR1 := Lib.hid ho1.rd
  obtain ⟨c0, c1, c2, c3⟩ := hT.cells
  clear ho1 hb1
  go_wp2_with fail
  refine (HA.out _).mono ?_
  rintro e w2 ⟨rfl, hb2⟩
  have hB2 := bnext hB1 hb2
  have hT := hT.lift hb2
  obtain ⟨c0, c1, c2, c3⟩ := hT.cells
  have hR2 := Lib.hid (hR1.out.lift hb2)
  clear hb2 hR1
  go_wp2_with (first
    | (refine wpList_insert rfl rfl Try.underlying46 Try.underlying3 rfl rfl rfl (by first | assumption | exact Maps.made _) rfl (by first | assumption | exact made_below _ _) (Nat.le_refl _) ?_; intro w3 hm3 hb3)
    | (at_lookup; refine wpList_look (val := .int .i64 53) rfl rfl Try.underlying46 Try.underlying3 rfl rfl hm3 rfl ?_; clear hm3; have hT3 := hT.lift hb3; obtain ⟨c0, c1, c2, c3⟩ := hT3.cells))
  have hB3 := bnext hB2 hb3
  have hR3 := Lib.hid (hR2.out.lift hb3)
  clear hR2 hb3
  refine (HL.out _ _ hR3.out).mono ?_
  rintro e w4 ⟨rfl, hb4⟩
  have hB4 := bnext hB3 hb4
  have hT4 := hT3.lift hb4
  obtain ⟨c0, c1, c2, c3⟩ := hT4.cells
  have hR4 := hR3.out.lift hb4
  obtain ⟨b9, off9, e9, hc1⟩ := hR4.head rfl hL1
  simp only [Option.some.injEq, Addr.mk.injEq, and_true] at e9
  obtain ⟨rfl, rfl⟩ := e9
  have Hc1 := Lib.hid hc1
  rw [Hll.out] at hc1 hcap1 ⊢
  have Hc1 := Lib.hid hc1
  clear hc1 hR3 hR4 hb4
  have hT4 := Lib.hid hT4
  go_wp2_with fail
  go_loopw [93] (fun i wr => ∃ q : Nat, q ≤ l.length ∧ i = .int .i64 q ∧ Below w4.heap.size w4 wr) (fun i _ => l.length - (intOf i).toNat)
  case atStart => exact ⟨0, Nat.zero_le _, rfl, Below.refl _ _⟩
  case round =>
    obtain ⟨q, hq, rfl, hB⟩ := hrel
    have HB := Lib.hid hB
    have hT5 := hT4.out.lift hB
    obtain ⟨c0, c1, c2, c3⟩ := hT5.cells
    clear hB hT5
    by_cases hlt : q < l.length
    · have cm := keeps (bnext hB4 HB.out) (Hc0.out q hlt)
      have cb := keeps HB.out (Hc1.out q hlt)
      rw [Nat.zero_add] at cb
      have e1 := E1.out
      have e2 := E2.out
      by_cases hA : (q : Int) < a + f
      · rw [Hgd.out q (.inl (by omega))] at cb
        generalize l.getD q 0 = y at cm cb
        have hne : (y != y) = false := by simp
        go_wp2_with fail
        go_quiet (fail)
        go_wp2
        go_roundw
        case rel => exact ⟨q + 1, by omega, by go_num, HB.out.trans (belowN _ _)⟩
        case measure => simp [intOf]; omega
      · have hdA := decide_eq_false hA
        by_cases hC : a + f + 4 ≤ (q : Int)
        · rw [Hgd.out q (.inr (by omega))] at cb
          generalize l.getD q 0 = y at cm cb
          have hne : (y != y) = false := by simp
          clear hA
          go_wp2_with fail
          go_quiet (fail)
          go_wp2
          go_roundw
          case rel => exact ⟨q + 1, by omega, by go_num, HB.out.trans (belowN _ _)⟩
          case measure => simp [intOf]; omega
        · have hdC := decide_eq_false hC
          clear hA hC
          go_wp2_with fail
          go_quiet (fail)
          go_wp2
          go_roundw
          case rel => exact ⟨q + 1, by omega, by go_num, HB.out.trans (belowN _ _)⟩
          case measure => simp [intOf]; omega
    · clear c0 c1 c2 c3
      go_wp2_with (go_at_call 14; refine (alive_any _).mono ?_; rintro e w6 ⟨rfl, hb6⟩)
      go_ret
      exact ⟨rfl, bnext (bnext hB4 HB.out) hb6⟩

set_option maxRecDepth 100000 in
set_option maxHeartbeats 4000000 in
theorem back_8 (v : Value) (l : List Int) (o a f n : Int) (w : World) (hv : Rd w v l) (hr : Bs l) (hl : l.length ≤ 140737488351232) (a0 : 0 ≤ a) (f0 : 0 ≤ f) (n0 : 0 ≤ n) (n1 : n < 18446744073709551616) (hz : (storeR l o a f n).2 = 0)
    {k : Int} {sg : Bool} (hacc : acc o = some ⟨k, 8, true, sg⟩) (h1 : a ≤ 4294967295) (h2 : f ≤ 4294967295) (h3 : a + f + (8 : Nat) ≤ l.length) (hs : (storeR l o a f n).1 = wrB l (a + f).toNat 8 n) :
    Calls Try.prog 7 #[v, .agg #[.int .i64 o, .int .u64 a, .int .u64 f, .int .u64 n]] w fun e w' => e = .returned (.bool true) ∧ Below w.heap.size w w' := by
  have hS := Store_any v l o a f n _ (hv.alloc (.cells #[.int .i64 o, .int .u64 a, .int .u64 f, .int .u64 n] 31)) (by omega) a0 f0 n0 n1
  rw [hs, hz] at hS
  have hfit : (a + f).toNat + 8 ≤ l.length := by omega
  have hld : loadR (wrB l (a + f).toNat 8 n) 41 a f = (n, 0) := by
    have : loadR (wrB l (a + f).toNat 8 n) 41 a f = (n % 256 ^ 8, 0) := load_wr (n := n) (wd := 8) (by omega) a0 f0 h1 h2 h3
    rw [this, show n % 256 ^ 8 = n from Int.emod_eq_of_lt n0 (by simpa using n1)]
  have hLl := wrB_length (n := n) hfit
  have hLb := wrB_bs hr (a + f).toNat 8 n
  have hgd := fun i (h : i < (a + f).toNat ∨ (a + f).toNat + 8 ≤ i) => wrB_getD (n := n) hfit (i := i) h
  obtain ⟨L, hL⟩ : ∃ L, wrB l (a + f).toNat 8 n = L := ⟨_, rfl⟩
  rw [hL] at hS hld hLl hLb hgd
  have hLd := fun vb w' (hb : Rd w' vb L) => Load_any vb L 41 a f w' hb hLb (by omega) a0 f0
  rw [hld] at hLd
  simp only at hLd hS
  have HL := Lib.hid hLd
  have HS := Lib.hid hS
  have HA := Lib.hid (fun w' => access_x (wi := 8) hacc rfl w')
  have Hgd := Lib.hid hgd
  have Hll := Lib.hid hLl
  have s1 : (0 : Int) ≤ a + f := by omega
  have E1 := Lib.hid (show IntKind.u64.wrap (a + f) = a + f by rw [IntKind.wrap_u64]; omega)
  have E2 := Lib.hid (show IntKind.u64.wrap (a + f + 8) = a + f + 8 by rw [IntKind.wrap_u64]; omega)
  have hl1 : 1 ≤ l.length := by omega
  have hL1 : 1 ≤ L.length := by omega
  have hmm := @run_makeMap Try.prog
  obtain ⟨b0, off0, cap, rfl, hcap, hc0⟩ : ∃ b off cap, v = .slice (some ⟨b, off, none⟩) l.length cap ∧ l.length ≤ cap ∧ ∀ k, k < l.length → w.cell? ⟨b, off + k, none⟩ = some (.int .u8 (l.getD k 0)) := by
    obtain ⟨ao, cap, rfl, hc, _, h⟩ := hv
    rcases h with rfl | ⟨b, off, rfl, h⟩
    · simp at hl1
    · exact ⟨b, off, cap, rfl, hc, h⟩
  have Hc0 := Lib.hid hc0
  clear hz hs hld hLl hLb hgd hL hacc hLd hS hc0 h3 hfit
  go_enter Try.func7, Try.ntmps7
  go_wp2_with fail
  refine HS.out.mono ?_
  rintro e w1 ⟨v1, rfl, ho1, hb1⟩
  have hB1 := bnext (made_below w _) hb1
  have hT := (TBox.new w o a f n).lift hb1
  obtain ⟨b1, cap1, rfl, hb10, hb11, hcap1⟩ := ho1.row hL1
  have hR1 := Lib.hid ho1.rd
  obtain ⟨c0, c1, c2, c3⟩ := hT.cells
  clear ho1 hb1
  go_wp2_with fail
  refine (HA.out _).mono ?_
  rintro e w2 ⟨rfl, hb2⟩
  have hB2 := bnext hB1 hb2
  have hT := hT.lift hb2
  obtain ⟨c0, c1, c2, c3⟩ := hT.cells
  have hR2 := Lib.hid (hR1.out.lift hb2)
  clear hb2 hR1
  go_wp2_with (first
    | (refine wpList_insert rfl rfl Try.underlying46 Try.underlying3 rfl rfl rfl (by first | assumption | exact Maps.made _) rfl (by first | assumption | exact made_below _ _) (Nat.le_refl _) ?_; intro w3 hm3 hb3)
    | (at_lookup; refine wpList_look (val := .int .i64 41) rfl rfl Try.underlying46 Try.underlying3 rfl rfl hm3 rfl ?_; clear hm3; have hT3 := hT.lift hb3; obtain ⟨c0, c1, c2, c3⟩ := hT3.cells))
  have hB3 := bnext hB2 hb3
  have hR3 := Lib.hid (hR2.out.lift hb3)
  clear hR2 hb3
  refine (HL.out _ _ hR3.out).mono ?_
  rintro e w4 ⟨rfl, hb4⟩
  have hB4 := bnext hB3 hb4
  have hT4 := hT3.lift hb4
  obtain ⟨c0, c1, c2, c3⟩ := hT4.cells
  have hR4 := hR3.out.lift hb4
  obtain ⟨b9, off9, e9, hc1⟩ := hR4.head rfl hL1
  simp only [Option.some.injEq, Addr.mk.injEq, and_true] at e9
  obtain ⟨rfl, rfl⟩ := e9
  have Hc1 := Lib.hid hc1
  rw [Hll.out] at hc1 hcap1 ⊢
  have Hc1 := Lib.hid hc1
  clear hc1 hR3 hR4 hb4
  have hT4 := Lib.hid hT4
  go_wp2_with fail
  go_loopw [93] (fun i wr => ∃ q : Nat, q ≤ l.length ∧ i = .int .i64 q ∧ Below w4.heap.size w4 wr) (fun i _ => l.length - (intOf i).toNat)
  case atStart => exact ⟨0, Nat.zero_le _, rfl, Below.refl _ _⟩
  case round =>
    obtain ⟨q, hq, rfl, hB⟩ := hrel
    have HB := Lib.hid hB
    have hT5 := hT4.out.lift hB
    obtain ⟨c0, c1, c2, c3⟩ := hT5.cells
    clear hB hT5
    by_cases hlt : q < l.length
    · have cm := keeps (bnext hB4 HB.out) (Hc0.out q hlt)
      have cb := keeps HB.out (Hc1.out q hlt)
      rw [Nat.zero_add] at cb
      have e1 := E1.out
      have e2 := E2.out
      by_cases hA : (q : Int) < a + f
      · rw [Hgd.out q (.inl (by omega))] at cb
        generalize l.getD q 0 = y at cm cb
        have hne : (y != y) = false := by simp
        go_wp2_with fail
        go_quiet (fail)
        go_wp2
        go_roundw
        case rel => exact ⟨q + 1, by omega, by go_num, HB.out.trans (belowN _ _)⟩
        case measure => simp [intOf]; omega
      · have hdA := decide_eq_false hA
        by_cases hC : a + f + 8 ≤ (q : Int)
        · rw [Hgd.out q (.inr (by omega))] at cb
          generalize l.getD q 0 = y at cm cb
          have hne : (y != y) = false := by simp
          clear hA
          go_wp2_with fail
          go_quiet (fail)
          go_wp2
          go_roundw
          case rel => exact ⟨q + 1, by omega, by go_num, HB.out.trans (belowN _ _)⟩
          case measure => simp [intOf]; omega
        · have hdC := decide_eq_false hC
          clear hA hC
          go_wp2_with fail
          go_quiet (fail)
          go_wp2
          go_roundw
          case rel => exact ⟨q + 1, by omega, by go_num, HB.out.trans (belowN _ _)⟩
          case measure => simp [intOf]; omega
    · clear c0 c1 c2 c3
      go_wp2_with (go_at_call 14; refine (alive_any _).mono ?_; rintro e w6 ⟨rfl, hb6⟩)
      go_ret
      exact ⟨rfl, bnext (bnext hB4 HB.out) hb6⟩

-- ALL
theorem back_any (v : Value) (l : List Int) (o a f n : Int) (w : World) (hv : Rd w v l) (hr : Bs l) (hl : l.length ≤ 140737488351232) (a0 : 0 ≤ a) (f0 : 0 ≤ f) (n0 : 0 ≤ n) (n1 : n < 18446744073709551616) :
    Calls Try.prog 7 #[v, .agg #[.int .i64 o, .int .u64 a, .int .u64 f, .int .u64 n]] w fun e w' => e = .returned (.bool true) ∧ Below w.heap.size w w' := by
  by_cases hz : (storeR l o a f n).2 = 0
  · obtain ⟨k, wd, sg, hacc, h1, h2, h3, hs⟩ := storeR_ok hz
    have hw := (acc_cases hacc).2.1
    simp only at hw
    rcases hw with rfl | rfl | rfl | rfl
    · exact back_1 v l o a f n w hv hr hl a0 f0 n0 n1 hz hacc h1 h2 h3 hs
    · exact back_2 v l o a f n w hv hr hl a0 f0 n0 n1 hz hacc h1 h2 h3 hs
    · exact back_4 v l o a f n w hv hr hl a0 f0 n0 n1 hz hacc h1 h2 h3 hs
    · exact back_8 v l o a f n w hv hr hl a0 f0 n0 n1 hz hacc h1 h2 h3 hs
  · exact back_why v l o a f n w hv hl a0 f0 n0 n1 hz

-- LAW
set_option maxRecDepth 100000 in
theorem back_lifted (os : Os) (started : os.Started) (H : Type) (enc : TypeId × Value → H) :
    ReturnsInHanded {} Try.checked os 7 .any (Rows.memBackSpec.pre6 enc Try.prog Try.f7 Rows.memBackRow.domain false) (Rows.memBackSpec.post enc Try.prog Try.f7 false true false false) := by
  refine returnsInHanded_of_change_sized (C := Try.checked) own started (by kernel_rfl) Try.func7
    (ChangeSpec.witness6 (enc := enc) (C := Try.checked) false ⟨#[], #[.slice none 0 0, .agg #[.int .i64 0, .int .u64 0, .int .u64 0, .int .u64 0]], []⟩ 8 (by kernel_rfl) (by kernel_rfl) (by kernel_rfl) (by kernel_rfl)) ?_
  intro W base args ds gs before hval0 hW _ hsz0 _
  have hsz : (DataW.weightsEach Try.prog (Try.f7.params.toList ++ Rows.memBackSpec.plain.varTypes Try.prog) (ds ++ gs)).all (· ≤ reachBytes) = true := hsz0
  clear hsz0
  have hval : ∀ (j : Nat) t v, Try.f7.params[j]? = some t → args[j]? = some v → Value.okWide Try.prog W .any base t v := hval0
  clear hval0
  have hW' := hW
  obtain ⟨p, q, hA0, hV, rfl, _, _⟩ := hW
  have hA : DataW.TrodAll enc Try.prog W 0 (fun _ => true) true Try.f7.params.toList args.toList ds p := hA0
  rw [Try.params7] at hA hval hsz
  obtain ⟨v0, vs0, d0, ds0, p0, q0, hargs, rfl, rfl, h0, r0⟩ := trodAll_cons hA
  obtain ⟨v1, vs1, d1, ds1, p1, q1, rfl, rfl, rfl, h1, r1⟩ := trodAll_cons r0
  obtain ⟨rfl, rfl, rfl⟩ := trodAll_nil r1
  obtain rfl : args = #[v0, v1] := by cases args; simp_all
  obtain ⟨rfl, rfl⟩ := trodVars_none hV
  obtain ⟨l0, hrd0, hr0, hl0, _⟩ := open_bytes (hval 0 22 v0 rfl rfl) h0 (fun elems spare hd => sized_slice hsz (j := 0) (t := 22) (e := 5) rfl (by rw [hd]; rfl) Try.underlying22)
  obtain ⟨o1, a1, f1, n1, rfl, ho1, ha1, hf1, hn1⟩ := open_try (hval 1 31 v1 rfl rfl) h1
  refine (back_any v0 l0 o1 a1 f1 n1 W hrd0 hr0 hl0 ha1.1 hf1.1 hn1.1 hn1.2).mono fun e W' ⟨he, hb⟩ => ?_
  subst he
  exact ⟨_, rfl, law_done rfl rfl (by rw [Try.params7]; intro t ht; simp at ht; rcases ht with rfl | rfl <;> exact ⟨by kernel_rfl, of_decide_eq_true (by kernel_rfl)⟩) hW' rfl rfl rfl hb⟩

theorem back_holds : Rows.MemBackSaid :=
  OpenClaim.holds_of_wide 7 Try.f7 rfl rfl rfl rfl rfl rfl rfl ⟨rfl, rfl, rfl, rfl, rfl⟩ rfl rfl rfl rfl rfl (by kernel_rfl) Try.func7 (by kernel_rfl)
    (of_decide_eq_true (by kernel_rfl)) (by unfold Func.isWrapper; first | (rw [if_pos (by decide +kernel)]; kernel_rfl) | (rw [if_neg (by decide +kernel)]; exact ⟨rfl, rfl⟩))
    (fun os started H enc _ => back_lifted os started H enc)
end Go.Proofs.Ytmknjiefdhhgkaa.mm
