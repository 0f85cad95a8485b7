/- The contract of the document's own U. -/
import Derived.Test.YtllnbifdapgnoaaGroups
namespace Go.Proofs.Ytllnbifdapgnoaa.lb
open Go.RowKit

/-- a fault's cells, made ahead of a call, read behind it as they were made -/
theorem box3 {w w2 : World} {x y z : Value} {T : TypeId} (hb : Below (w.alloc (.cells #[x, y, z] T)).heap.size (w.alloc (.cells #[x, y, z] T)) w2) :
    w2.cell? ⟨w.heap.size, 0, none⟩ = some x ∧ w2.cell? ⟨w.heap.size, 1, none⟩ = some y ∧ w2.cell? ⟨w.heap.size, 2, none⟩ = some z ∧
    w2.frozen? ⟨w.heap.size, 0, none⟩ = false ∧ w2.frozen? ⟨w.heap.size, 1, none⟩ = false ∧ w2.frozen? ⟨w.heap.size, 2, none⟩ = false := by
  obtain ⟨hc, hf⟩ := bcell hb
  have h : w.heap.size < (w.alloc (.cells #[x, y, z] T)).heap.size := by simp
  refine ⟨?_, ?_, ?_, ?_, ?_, ?_⟩
  · rw [hc _ _ h]; simp [go_sem]
  · rw [hc _ _ h]; simp [go_sem]
  · rw [hc _ _ h]; simp [go_sem]
  · rw [hf _ _ h]; simp [go_sem]
  · rw [hf _ _ h]; simp [go_sem]
  · rw [hf _ _ h]; simp [go_sem]

theorem Below.setC {B : Nat} {a w : World} (b o : Nat) (u : Value) (hp : B ≤ b) (h : Below B a w) : Below B a (w.setCell ⟨b, o, none⟩ u) := h.setCell hp u
theorem Below.al {B : Nat} {a w : World} (o : Obj) (hB : B ≤ w.heap.size) (h : Below B a w) : Below B a (w.alloc o) := h.alloc hB o

theorem Own.cells' {w : World} {B : Nat} {v : Value} {xs : List Int} (h : Own w B v xs) (hx : xs ≠ []) : ∃ b cap, v = .slice (some ⟨b, 0, none⟩) xs.length cap ∧ B ≤ b ∧ b < w.heap.size ∧ ∀ k, k < xs.length → w.cell? ⟨b, k, none⟩ = some (.int .u8 (xs.getD k 0)) := by
  have hl := h.lt
  have hc := fun (g : Nat) hg => World.ownsRow.cells h (g := g) hg
  rcases h.2 with ⟨_, h0⟩ | ⟨g, cap, cur, rfl, hb, _⟩
  · exact absurd (List.eq_nil_of_length_eq_zero h0) hx
  · refine ⟨g, cap, rfl, hb, (hl g rfl).2, fun k hk => ?_⟩
    have := hc g rfl k _ (get_map hk)
    rwa [add_lit, Nat.zero_add] at this

set_option maxHeartbeats 4000000 in
theorem refU_32 (v : Value) (l : List Int) (a : Nat) (w : World) (hv : Rd w v l) (hr : ∀ x ∈ l, 0 ≤ x ∧ x < 256) (hl : l.length ≤ 281474976710656) (ha : a ≤ l.length) :
    Calls Try.prog 18 #[v, .int .i64 a, .int .i64 32] w fun e w' => e = res .u64 (decU l a 5 16) ∧ Below w.heap.size w w' := by
  have HG := fun o => groups_any v l a 5 (w.alloc o) (hv.alloc o) hr hl ha (by decide) (by decide)
  obtain ⟨ao, cap, rfl, hcap, _, hcells⟩ := hv
  obtain ⟨m1, m2, m3⟩ := mk_spec l a ha
  obtain ⟨m, hm⟩ : ∃ m, m = mk l a := ⟨_, rfl⟩
  rw [← hm] at m1
  have Hm := Lib.hid hm
  have M2 := Lib.hid m2
  have M3 := Lib.hid m3
  have Hr := Lib.hid hr
  have HGG := Lib.hid HG
  clear hcells m2 m3 hr hm HG
  have ha0 : decide ((a : Int) < 0) = false := by rw [decide_eq_false_iff_not]; omega
  have ha1 : decide (l.length < a) = false := by rw [decide_eq_false_iff_not]; omega
  go_enter Try.func18, Try.ntmps18
  go_wp2_with (go_at_call 24; refine (most_any _ _).mono ?_; rintro e w' ⟨rfl, rfl⟩; rw [show mostOf 32 = 5 from rfl])
  refine (HGG.out _).mono ?_
  rintro e w2 ⟨hG, hb2⟩
  obtain ⟨hc20, hc21, hc22, hf20, hf21, hf22⟩ := box3 hb2
  have hbase : Below w.heap.size w w2 := ((Below.refl _ _).alloc (Nat.le_refl _) _).trans (hb2.mono (by simp))
  have hsz : w.heap.size < w2.heap.size := by have := hb2.size; simp at this; omega
  rcases hG with ⟨hk, rfl⟩ | ⟨hk, hk2, rfl⟩ | ⟨hk, hk2, v', rfl, hown⟩
  · have HD := Lib.hid (decU_leb l a 5 16 hk)
    unfold gres
    go_wp2
    go_region
    go_wp2
    exact bodyPost_ret (v := .tuple #[.int .u64 0, .int .i64 0, .agg #[.int .i64 3, .int .i64 ((a : Int) + 4), .int .i64 0]]) (by simp [results, Try.results18, go_sem, hsz, hc20, hc21, hc22]) rfl
      ⟨by rw [HD.out]; rfl, by repeat (first | exact hbase | refine Below.drew ?_ | refine Below.setC _ _ _ (Nat.le_refl _) ?_ | refine Below.al _ (by simp [World.setCell]; omega) ?_)⟩
  · have HD := Lib.hid (decU_end l a 5 16 hk hk2)
    unfold gres
    clear hk hk2
    go_wp2
    go_region
    go_wp2
    exact bodyPost_ret (v := .tuple #[.int .u64 0, .int .i64 0, .agg #[.int .i64 4, .int .i64 l.length, .int .i64 0]]) (by simp [results, Try.results18, go_sem, hsz, hc20, hc21, hc22]) rfl
      ⟨by rw [HD.out]; rfl, by repeat (first | exact hbase | refine Below.drew ?_ | refine Below.setC _ _ _ (Nat.le_refl _) ?_ | refine Below.al _ (by simp [World.setCell]; omega) ?_)⟩
  · rw [← Hm.out] at hk hk2 hown
    have hdl0 := digs_len l a (m + 1) (by omega)
    obtain ⟨b, cp, rfl, hbb, hbs, hcells⟩ := hown.cells' (by intro h; rw [h] at hdl0; simp at hdl0)
    have hbne : w.heap.size ≠ b := by simp at hbb; omega
    rw [hdl0] at hcells ⊢
    have Hcells := Lib.hid hcells
    clear hdl0 hcells hown
    rw [show (((a + mk l a : Nat) + 1 : Int)) = ((a + m + 1 : Nat) : Int) from by rw [Hm.out]; rfl]
    obtain ⟨nx, hnx⟩ : ∃ nx : Nat, nx = a + m + 1 := ⟨_, rfl⟩
    rw [← hnx]
    have Hnx := Lib.hid hnx
    have hnxb : 1 ≤ nx ∧ nx ≤ l.length := by omega
    obtain ⟨hnx1, hnx2⟩ := hnxb
    clear hnx
    unfold gres
    go_wp2
    go_loop [13, 14] (fun n x => ∃ (j : Nat) (t : Int), St l a j (a + j) (7 * (j : Int)) t ∧ j ≤ m + 1 ∧ 0 ≤ t ∧ t < 18446744073709551616 ∧ Hid (j = 5 → l.getD (a + 4) 0 < 16) ∧ n = .int .u64 t ∧ x = .int .i64 j) (fun _ x => m + 1 - (intOf x).toNat)
    case atStart => exact ⟨0, 0, St.zero l a, by omega, by omega, by omega, (fun h => by omega), rfl, rfl⟩
    case round =>
      obtain ⟨j, t, HE, hj, ht0, ht1, HF, rfl, rfl⟩ := hrel
      by_cases hlt : j < m + 1
      · obtain ⟨c, hcc⟩ : ∃ c, c = l.getD (a + j) 0 := ⟨_, rfl⟩
        have hil : a + j < l.length := by omega
        have hc0 : 0 ≤ c ∧ c < 256 := by
          rw [hcc, List.getD_eq_getElem?_getD, List.getElem?_eq_getElem hil]; exact Hr.out _ (List.getElem_mem hil)
        obtain ⟨hc0, hc1⟩ := hc0
        obtain ⟨d, hd⟩ : ∃ d, d = c % 128 := ⟨_, rfl⟩
        have hd0 : 0 ≤ d := by omega
        have hd1 : d < 128 := by omega
        have hcell : w2.cell? ⟨b, j, none⟩ = some (.int .u8 d) := by
          rw [Hcells.out j hlt, digs_get l a (m + 1) j (by omega) hlt, ← hcc, ← hd]
        have HS := HE.succ hil hcc
        have HB := HE.bd
        obtain ⟨t', ht'⟩ : ∃ t', t' = t + d * 2 ^ (7 * (j : Int)).toNat := ⟨_, rfl⟩
        rw [← hd, ← ht'] at HS
        have Hd := Lib.hid hd
        have Hcc := Lib.hid hcc
        have HT := Lib.hid ht'
        have hHS : St l a (j + 1) (a + (j + 1)) (7 * ((j + 1 : Nat) : Int)) t' := by
          rw [show (7 * ((j + 1 : Nat) : Int)) = 7 * (j : Int) + 7 from by omega]; exact HS
        clear hd hcc ht' HS
        by_cases hk1 : j = 4
        · have hmj : m = 4 := by omega
          subst hk1
          have Hmj := Lib.hid hmj
          clear hmj
          have hc7 : c < 128 := by
            have := M3.out (by rw [← Hm.out]; omega)
            rw [← Hm.out, Hmj.out, ← Hcc.out] at this; exact this
          have hdc : d = c := by rw [Hd.out]; omega
          have Hdc := Lib.hid hdc
          clear hdc
          by_cases hfit : c < 16
          · have hdf : d < 16 := by rw [Hdc.out]; exact hfit
            have hpn : (2 : Int) ^ (28 : Nat) = 268435456 := rfl
            have hB2 : t < 268435456 := by have := HB.2; rw [show (7 * ((4 : Nat) : Int)).toNat = 28 from rfl, hpn] at this; exact this
            have HT2 : Hid (t' = t + d * 268435456) := by show _ = _; rw [HT.out, show (7 * ((4 : Nat) : Int)).toNat = 28 from rfl, hpn]
            have hor : bits BinOp.or IntKind.u64 t (d * 268435456) = t' := by
              rw [u64_or t _ ht0 ht1 (by omega) (by omega), HT2.out]
              have h := or_add t d 28 ht0 (by rw [hpn]; exact hB2) hd0
              rw [hpn] at h
              exact h
            have ht'0 : 0 ≤ t' := by have := HT2.out; omega
            have ht'1 : t' < 18446744073709551616 := by have := HT2.out; omega
            have HF' : Hid ((5 : Nat) = 5 → l.getD (a + 4) 0 < 16) := fun _ => by rw [← Hcc.out]; exact hfit
            clear hpn hB2 HT2 HT HB
            go_wp2
            go_round
            case rel => exact ⟨5, t', hHS, by have := Hmj.out; omega, ht'0, ht'1, fun _ => HF'.out rfl, rfl, rfl⟩
            case measure => have := Hmj.out; simp [intOf]; omega
          · have hdf : 16 ≤ d := by rw [Hdc.out]; omega
            have HD := Lib.hid (decU_fin_leb (k := 5) (lim := 16) HE Hm.out (by omega) hil Hcc.out (by omega) (by omega))
            have HDN : Hid ((nx : Int) - 1 = ((a + 4 : Nat) : Int)) := by show _ = _; have := Hnx.out; have := Hmj.out; omega
            clear HT HB
            go_wp2
            exact bodyPost_ret (v := .tuple #[.int .u64 0, .int .i64 0, .agg #[.int .i64 3, .int .i64 ((nx : Int) - 1), .int .i64 0]]) (by simp [results, Try.results18, go_sem, hsz, hc20, hc21, hc22]) rfl
              ⟨by rw [HD.out, HDN.out]; rfl, by repeat (first | exact hbase | refine Below.drew ?_ | refine Below.setC _ _ _ (Nat.le_refl _) ?_ | refine Below.al _ (by simp [World.setCell]; omega) ?_)⟩
        · have hstep := HE.step hil Hcc.out (by omega) (by omega)
          rw [← Hd.out, ← HT.out] at hstep
          obtain ⟨hs0, hs1, hs2, hs3, hs4⟩ := hstep
          have hor : bits BinOp.or IntKind.u64 t (IntKind.u64.wrap (d * 2 ^ (7 * j))) = t' := by
            rw [← show (7 * (j : Int)).toNat = 7 * j from by omega, wrap_u64, Int.emod_eq_of_lt hs3 (by omega), u64_or t _ ht0 ht1 hs3 (by omega), or_add _ _ _ ht0 HB.2 hd0, ← HT.out]
          have hq : ((j : Int) == 4) = false := by rw [beq_eq_false_iff_ne]; omega
          have ht'1 : t' < 18446744073709551616 := by omega
          clear HB hs1 hs3 hs4
          go_wp2
          go_round
          case rel => exact ⟨j + 1, t', hHS, by omega, hs0, ht'1, (fun h => by omega), rfl, by go_num⟩
          case measure => simp [intOf]; omega
      · have hjm : j = m + 1 := by omega
        have HDV : Hid (decU l a 5 16 = (t, (nx : Int), 0, 0)) := by
          show _ = _
          rw [decU_ok l a 5 16 (by rw [← Hm.out]; exact hk) (by rw [← Hm.out]; omega) (fun h => by rw [← Hm.out] at h ⊢; have := HF.out (by omega); rw [show m = 4 from by omega]; exact this), ← Hm.out, ← hjm, ← HE.2.2, Hnx.out]
        clear hjm
        go_wp2
        exact bodyPost_ret (v := .tuple #[.int .u64 t, .int .i64 nx, .agg #[.int .i64 0, .int .i64 0, .int .i64 0]]) (by simp [results, Try.results18, go_sem, hsz, hc20, hc21, hc22]) rfl
          ⟨by rw [HDV.out]; rfl, by repeat (first | exact hbase | refine Below.drew ?_ | refine Below.setC _ _ _ (Nat.le_refl _) ?_ | refine Below.al _ (by simp [World.setCell]; omega) ?_)⟩
set_option maxHeartbeats 4000000 in
theorem refU_64 (v : Value) (l : List Int) (a : Nat) (w : World) (hv : Rd w v l) (hr : ∀ x ∈ l, 0 ≤ x ∧ x < 256) (hl : l.length ≤ 281474976710656) (ha : a ≤ l.length) :
    Calls Try.prog 18 #[v, .int .i64 a, .int .i64 64] w fun e w' => e = res .u64 (decU l a 10 2) ∧ Below w.heap.size w w' := by
  have HG := fun o => groups_any v l a 10 (w.alloc o) (hv.alloc o) hr hl ha (by decide) (by decide)
  obtain ⟨ao, cap, rfl, hcap, _, hcells⟩ := hv
  obtain ⟨m1, m2, m3⟩ := mk_spec l a ha
  obtain ⟨m, hm⟩ : ∃ m, m = mk l a := ⟨_, rfl⟩
  rw [← hm] at m1
  have Hm := Lib.hid hm
  have M2 := Lib.hid m2
  have M3 := Lib.hid m3
  have Hr := Lib.hid hr
  have HGG := Lib.hid HG
  clear hcells m2 m3 hr hm HG
  have ha0 : decide ((a : Int) < 0) = false := by rw [decide_eq_false_iff_not]; omega
  have ha1 : decide (l.length < a) = false := by rw [decide_eq_false_iff_not]; omega
  go_enter Try.func18, Try.ntmps18
  go_wp2_with (go_at_call 24; refine (most_any _ _).mono ?_; rintro e w' ⟨rfl, rfl⟩; rw [show mostOf 64 = 10 from rfl])
  refine (HGG.out _).mono ?_
  rintro e w2 ⟨hG, hb2⟩
  obtain ⟨hc20, hc21, hc22, hf20, hf21, hf22⟩ := box3 hb2
  have hbase : Below w.heap.size w w2 := ((Below.refl _ _).alloc (Nat.le_refl _) _).trans (hb2.mono (by simp))
  have hsz : w.heap.size < w2.heap.size := by have := hb2.size; simp at this; omega
  rcases hG with ⟨hk, rfl⟩ | ⟨hk, hk2, rfl⟩ | ⟨hk, hk2, v', rfl, hown⟩
  · have HD := Lib.hid (decU_leb l a 10 2 hk)
    unfold gres
    go_wp2
    go_region
    go_wp2
    exact bodyPost_ret (v := .tuple #[.int .u64 0, .int .i64 0, .agg #[.int .i64 3, .int .i64 ((a : Int) + 9), .int .i64 0]]) (by simp [results, Try.results18, go_sem, hsz, hc20, hc21, hc22]) rfl
      ⟨by rw [HD.out]; rfl, by repeat (first | exact hbase | refine Below.drew ?_ | refine Below.setC _ _ _ (Nat.le_refl _) ?_ | refine Below.al _ (by simp [World.setCell]; omega) ?_)⟩
  · have HD := Lib.hid (decU_end l a 10 2 hk hk2)
    unfold gres
    clear hk hk2
    go_wp2
    go_region
    go_wp2
    exact bodyPost_ret (v := .tuple #[.int .u64 0, .int .i64 0, .agg #[.int .i64 4, .int .i64 l.length, .int .i64 0]]) (by simp [results, Try.results18, go_sem, hsz, hc20, hc21, hc22]) rfl
      ⟨by rw [HD.out]; rfl, by repeat (first | exact hbase | refine Below.drew ?_ | refine Below.setC _ _ _ (Nat.le_refl _) ?_ | refine Below.al _ (by simp [World.setCell]; omega) ?_)⟩
  · rw [← Hm.out] at hk hk2 hown
    have hdl0 := digs_len l a (m + 1) (by omega)
    obtain ⟨b, cp, rfl, hbb, hbs, hcells⟩ := hown.cells' (by intro h; rw [h] at hdl0; simp at hdl0)
    have hbne : w.heap.size ≠ b := by simp at hbb; omega
    rw [hdl0] at hcells ⊢
    have Hcells := Lib.hid hcells
    clear hdl0 hcells hown
    rw [show (((a + mk l a : Nat) + 1 : Int)) = ((a + m + 1 : Nat) : Int) from by rw [Hm.out]; rfl]
    obtain ⟨nx, hnx⟩ : ∃ nx : Nat, nx = a + m + 1 := ⟨_, rfl⟩
    rw [← hnx]
    have Hnx := Lib.hid hnx
    have hnxb : 1 ≤ nx ∧ nx ≤ l.length := by omega
    obtain ⟨hnx1, hnx2⟩ := hnxb
    clear hnx
    unfold gres
    go_wp2
    go_loop [13, 14] (fun n x => ∃ (j : Nat) (t : Int), St l a j (a + j) (7 * (j : Int)) t ∧ j ≤ m + 1 ∧ 0 ≤ t ∧ t < 18446744073709551616 ∧ Hid (j = 10 → l.getD (a + 9) 0 < 2) ∧ n = .int .u64 t ∧ x = .int .i64 j) (fun _ x => m + 1 - (intOf x).toNat)
    case atStart => exact ⟨0, 0, St.zero l a, by omega, by omega, by omega, (fun h => by omega), rfl, rfl⟩
    case round =>
      obtain ⟨j, t, HE, hj, ht0, ht1, HF, rfl, rfl⟩ := hrel
      by_cases hlt : j < m + 1
      · obtain ⟨c, hcc⟩ : ∃ c, c = l.getD (a + j) 0 := ⟨_, rfl⟩
        have hil : a + j < l.length := by omega
        have hc0 : 0 ≤ c ∧ c < 256 := by
          rw [hcc, List.getD_eq_getElem?_getD, List.getElem?_eq_getElem hil]; exact Hr.out _ (List.getElem_mem hil)
        obtain ⟨hc0, hc1⟩ := hc0
        obtain ⟨d, hd⟩ : ∃ d, d = c % 128 := ⟨_, rfl⟩
        have hd0 : 0 ≤ d := by omega
        have hd1 : d < 128 := by omega
        have hcell : w2.cell? ⟨b, j, none⟩ = some (.int .u8 d) := by
          rw [Hcells.out j hlt, digs_get l a (m + 1) j (by omega) hlt, ← hcc, ← hd]
        have HS := HE.succ hil hcc
        have HB := HE.bd
        obtain ⟨t', ht'⟩ : ∃ t', t' = t + d * 2 ^ (7 * (j : Int)).toNat := ⟨_, rfl⟩
        rw [← hd, ← ht'] at HS
        have Hd := Lib.hid hd
        have Hcc := Lib.hid hcc
        have HT := Lib.hid ht'
        have hHS : St l a (j + 1) (a + (j + 1)) (7 * ((j + 1 : Nat) : Int)) t' := by
          rw [show (7 * ((j + 1 : Nat) : Int)) = 7 * (j : Int) + 7 from by omega]; exact HS
        clear hd hcc ht' HS
        by_cases hk1 : j = 9
        · have hmj : m = 9 := by omega
          subst hk1
          have Hmj := Lib.hid hmj
          clear hmj
          have hc7 : c < 128 := by
            have := M3.out (by rw [← Hm.out]; omega)
            rw [← Hm.out, Hmj.out, ← Hcc.out] at this; exact this
          have hdc : d = c := by rw [Hd.out]; omega
          have Hdc := Lib.hid hdc
          clear hdc
          by_cases hfit : c < 2
          · have hdf : d < 2 := by rw [Hdc.out]; exact hfit
            have hpn : (2 : Int) ^ (63 : Nat) = 9223372036854775808 := rfl
            have hB2 : t < 9223372036854775808 := by have := HB.2; rw [show (7 * ((9 : Nat) : Int)).toNat = 63 from rfl, hpn] at this; exact this
            have HT2 : Hid (t' = t + d * 9223372036854775808) := by show _ = _; rw [HT.out, show (7 * ((9 : Nat) : Int)).toNat = 63 from rfl, hpn]
            have hor : bits BinOp.or IntKind.u64 t (d * 9223372036854775808) = t' := by
              rw [u64_or t _ ht0 ht1 (by omega) (by omega), HT2.out]
              have h := or_add t d 63 ht0 (by rw [hpn]; exact hB2) hd0
              rw [hpn] at h
              exact h
            have ht'0 : 0 ≤ t' := by have := HT2.out; omega
            have ht'1 : t' < 18446744073709551616 := by have := HT2.out; omega
            have HF' : Hid ((5 : Nat) = 5 → l.getD (a + 9) 0 < 2) := fun _ => by rw [← Hcc.out]; exact hfit
            clear hpn hB2 HT2 HT HB
            go_wp2
            go_round
            case rel => exact ⟨10, t', hHS, by have := Hmj.out; omega, ht'0, ht'1, fun _ => HF'.out rfl, rfl, rfl⟩
            case measure => have := Hmj.out; simp [intOf]; omega
          · have hdf : 2 ≤ d := by rw [Hdc.out]; omega
            have HD := Lib.hid (decU_fin_leb (k := 10) (lim := 2) HE Hm.out (by omega) hil Hcc.out (by omega) (by omega))
            have HDN : Hid ((nx : Int) - 1 = ((a + 9 : Nat) : Int)) := by show _ = _; have := Hnx.out; have := Hmj.out; omega
            clear HT HB
            go_wp2
            exact bodyPost_ret (v := .tuple #[.int .u64 0, .int .i64 0, .agg #[.int .i64 3, .int .i64 ((nx : Int) - 1), .int .i64 0]]) (by simp [results, Try.results18, go_sem, hsz, hc20, hc21, hc22]) rfl
              ⟨by rw [HD.out, HDN.out]; rfl, by repeat (first | exact hbase | refine Below.drew ?_ | refine Below.setC _ _ _ (Nat.le_refl _) ?_ | refine Below.al _ (by simp [World.setCell]; omega) ?_)⟩
        · have hstep := HE.step hil Hcc.out (by omega) (by omega)
          rw [← Hd.out, ← HT.out] at hstep
          obtain ⟨hs0, hs1, hs2, hs3, hs4⟩ := hstep
          have hor : bits BinOp.or IntKind.u64 t (IntKind.u64.wrap (d * 2 ^ (7 * j))) = t' := by
            rw [← show (7 * (j : Int)).toNat = 7 * j from by omega, wrap_u64, Int.emod_eq_of_lt hs3 (by omega), u64_or t _ ht0 ht1 hs3 (by omega), or_add _ _ _ ht0 HB.2 hd0, ← HT.out]
          have hq : ((j : Int) == 9) = false := by rw [beq_eq_false_iff_ne]; omega
          have ht'1 : t' < 18446744073709551616 := by omega
          clear HB hs1 hs3 hs4
          go_wp2
          go_round
          case rel => exact ⟨j + 1, t', hHS, by omega, hs0, ht'1, (fun h => by omega), rfl, by go_num⟩
          case measure => simp [intOf]; omega
      · have hjm : j = m + 1 := by omega
        have HDV : Hid (decU l a 10 2 = (t, (nx : Int), 0, 0)) := by
          show _ = _
          rw [decU_ok l a 10 2 (by rw [← Hm.out]; exact hk) (by rw [← Hm.out]; omega) (fun h => by rw [← Hm.out] at h ⊢; have := HF.out (by omega); rw [show m = 9 from by omega]; exact this), ← Hm.out, ← hjm, ← HE.2.2, Hnx.out]
        clear hjm
        go_wp2
        exact bodyPost_ret (v := .tuple #[.int .u64 t, .int .i64 nx, .agg #[.int .i64 0, .int .i64 0, .int .i64 0]]) (by simp [results, Try.results18, go_sem, hsz, hc20, hc21, hc22]) rfl
          ⟨by rw [HDV.out]; rfl, by repeat (first | exact hbase | refine Below.drew ?_ | refine Below.setC _ _ _ (Nat.le_refl _) ?_ | refine Below.al _ (by simp [World.setCell]; omega) ?_)⟩
set_option maxHeartbeats 1000000 in
theorem refU_arg (v : Value) (l : List Int) (at' bits : Int) (w : World) (hv : Rd w v l) (h : (bits ≠ 32 ∧ bits ≠ 64) ∨ at' < 0 ∨ (l.length : Int) < at') :
    Calls Try.prog 18 #[v, .int .i64 at', .int .i64 bits] w fun e w' => e = res .u64 (fullU l at' bits) ∧ Below w.heap.size w w' := by
  rw [fullU_arg l at' bits h]
  obtain ⟨ao, cap, rfl, hcap, _, hcells⟩ := hv
  clear hcells
  by_cases hm : bits ≠ 32 ∧ bits ≠ 64
  · have hz : mostOf bits = 0 := by unfold mostOf; rw [if_neg hm.1, if_neg hm.2]
    have Hz := Lib.hid hz
    clear hz hm h
    go_enter Try.func18, Try.ntmps18
    go_wp2_with (go_at_call 24; refine (most_any _ _).mono ?_; rintro e w' ⟨rfl, rfl⟩; rw [Hz.out])
    exact bodyPost_ret (v := .tuple #[.int .u64 0, .int .i64 0, .agg #[.int .i64 1, .int .i64 at', .int .i64 0]]) (by simp [results, Try.results18, go_sem]) rfl ⟨rfl, (Below.refl _ _).alloc (Nat.le_refl _) _⟩
  · obtain ⟨k, hk⟩ : ∃ k, k = mostOf bits := ⟨_, rfl⟩
    have hk0 : (k == 0) = false := by
      rw [beq_eq_false_iff_ne, hk]; unfold mostOf
      split
      · decide
      · split
        · decide
        · omega
    have Hk := Lib.hid hk
    clear hk
    by_cases h3 : at' < 0
    · have a1 : decide (at' < 0) = true := by simpa using h3
      clear h hm
      go_enter Try.func18, Try.ntmps18
      go_wp2_with (go_at_call 24; refine (most_any _ _).mono ?_; rintro e w' ⟨rfl, rfl⟩; rw [← Hk.out])
      exact bodyPost_ret (v := .tuple #[.int .u64 0, .int .i64 0, .agg #[.int .i64 1, .int .i64 at', .int .i64 0]]) (by simp [results, Try.results18, go_sem]) rfl ⟨rfl, (Below.refl _ _).alloc (Nat.le_refl _) _⟩
    · have a1 : decide (at' < 0) = false := by simpa using h3
      have h4 : (l.length : Int) < at' := by omega
      have a2 : decide ((l.length : Int) < at') = true := by simpa using h4
      clear h hm
      go_enter Try.func18, Try.ntmps18
      go_wp2_with (go_at_call 24; refine (most_any _ _).mono ?_; rintro e w' ⟨rfl, rfl⟩; rw [← Hk.out])
      exact bodyPost_ret (v := .tuple #[.int .u64 0, .int .i64 0, .agg #[.int .i64 1, .int .i64 at', .int .i64 0]]) (by simp [results, Try.results18, go_sem]) rfl ⟨rfl, (Below.refl _ _).alloc (Nat.le_refl _) _⟩

theorem refU_any (v : Value) (l : List Int) (at' bits : Int) (w : World) (hv : Rd w v l) (hr : ∀ x ∈ l, 0 ≤ x ∧ x < 256) (hl : l.length ≤ 281474976710656) :
    Calls Try.prog 18 #[v, .int .i64 at', .int .i64 bits] w fun e w' => e = res .u64 (fullU l at' bits) ∧ Below w.heap.size w w' := by
  by_cases h : (bits ≠ 32 ∧ bits ≠ 64) ∨ at' < 0 ∨ (l.length : Int) < at'
  · exact refU_arg v l at' bits w hv h
  · have h0 : 0 ≤ at' := by omega
    have h1 : at' ≤ l.length := by omega
    obtain ⟨a, rfl⟩ := Int.eq_ofNat_of_zero_le h0
    have hb : bits = 32 ∨ bits = 64 := by omega
    unfold fullU
    rw [if_pos ⟨h0, h1⟩, Int.toNat_natCast]
    rcases hb with rfl | rfl
    · rw [if_pos rfl]; exact refU_32 v l a w hv hr hl (by omega)
    · rw [if_neg (by decide), if_pos rfl]; exact refU_64 v l a w hv hr hl (by omega)
end Go.Proofs.Ytllnbifdapgnoaa.lb
