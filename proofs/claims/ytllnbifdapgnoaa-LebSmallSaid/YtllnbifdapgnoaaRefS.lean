/- The contract of the document's own S. -/
import Derived.Test.YtllnbifdapgnoaaRefU
namespace Go.Proofs.Ytllnbifdapgnoaa.lb
open Go.RowKit

set_option maxHeartbeats 4000000 in
theorem refS_32 (v : Value) (l : List Int) (a : Nat) (w : World) (hv : Rd w v l) (hr : ∀ x ∈ l, 0 ≤ x ∧ x < 256) (hl : l.length ≤ 281474976710656) (ha : a ≤ l.length) :
    Calls Try.prog 20 #[v, .int .i64 a, .int .i64 32] w fun e w' => e = res .i64 (decS l a 5 good32) ∧ Below w.heap.size w w' := by
  have HG := fun o => groups_any v l a 5 (w.alloc o) (hv.alloc o) hr hl ha (by decide) (by decide)
  obtain ⟨ao, cap, rfl, hcap, _, hcells⟩ := hv
  obtain ⟨m1, m2, m3⟩ := mk_spec l a ha
  obtain ⟨m, hm⟩ : ∃ m, m = mk l a := ⟨_, rfl⟩
  rw [← hm] at m1
  have Hm := Lib.hid hm
  have M2 := Lib.hid m2
  have M3 := Lib.hid m3
  have Hr := Lib.hid hr
  have HGG := Lib.hid HG
  clear hcells m2 m3 hr hm HG
  have ha0 : decide ((a : Int) < 0) = false := by rw [decide_eq_false_iff_not]; omega
  have ha1 : decide (l.length < a) = false := by rw [decide_eq_false_iff_not]; omega
  go_enter Try.func20, Try.ntmps20
  go_wp2_with (go_at_call 24; refine (most_any _ _).mono ?_; rintro e w' ⟨rfl, rfl⟩; rw [show mostOf 32 = 5 from rfl])
  refine (HGG.out _).mono ?_
  rintro e w2 ⟨hG, hb2⟩
  obtain ⟨hc20, hc21, hc22, hf20, hf21, hf22⟩ := box3 hb2
  have hbase : Below w.heap.size w w2 := ((Below.refl _ _).alloc (Nat.le_refl _) _).trans (hb2.mono (by simp))
  have hsz : w.heap.size < w2.heap.size := by have := hb2.size; simp at this; omega
  rcases hG with ⟨hk, rfl⟩ | ⟨hk, hk2, rfl⟩ | ⟨hk, hk2, v', rfl, hown⟩
  · have HD := Lib.hid (decS_leb l a 5 good32 hk)
    unfold gres
    go_wp2
    go_region
    go_wp2
    exact bodyPost_ret (v := .tuple #[.int .i64 0, .int .i64 0, .agg #[.int .i64 3, .int .i64 ((a : Int) + 4), .int .i64 0]]) (by simp [results, Try.results20, go_sem, hsz, hc20, hc21, hc22]) rfl
      ⟨by rw [HD.out]; rfl, by repeat (first | exact hbase | refine Below.drew ?_ | refine Below.setC _ _ _ (Nat.le_refl _) ?_ | refine Below.al _ (by simp [World.setCell]; omega) ?_)⟩
  · have HD := Lib.hid (decS_end l a 5 good32 hk hk2)
    unfold gres
    clear hk hk2
    go_wp2
    go_region
    go_wp2
    exact bodyPost_ret (v := .tuple #[.int .i64 0, .int .i64 0, .agg #[.int .i64 4, .int .i64 l.length, .int .i64 0]]) (by simp [results, Try.results20, go_sem, hsz, hc20, hc21, hc22]) rfl
      ⟨by rw [HD.out]; rfl, by repeat (first | exact hbase | refine Below.drew ?_ | refine Below.setC _ _ _ (Nat.le_refl _) ?_ | refine Below.al _ (by simp [World.setCell]; omega) ?_)⟩
  · rw [← Hm.out] at hk hk2 hown
    have hdl0 := digs_len l a (m + 1) (by omega)
    obtain ⟨b, cp, rfl, hbb, hbs, hcells⟩ := hown.cells' (by intro h; rw [h] at hdl0; simp at hdl0)
    have hbne : w.heap.size ≠ b := by simp at hbb; omega
    rw [hdl0] at hcells ⊢
    have Hcells := Lib.hid hcells
    clear hdl0 hcells hown
    rw [show (((a + mk l a : Nat) + 1 : Int)) = ((a + m + 1 : Nat) : Int) from by rw [Hm.out]; rfl]
    obtain ⟨nx, hnx⟩ : ∃ nx : Nat, nx = a + m + 1 := ⟨_, rfl⟩
    rw [← hnx]
    have Hnx := Lib.hid hnx
    have hnxb : 1 ≤ nx ∧ nx ≤ l.length := by omega
    obtain ⟨hnx1, hnx2⟩ := hnxb
    clear hnx
    unfold gres
    go_wp2
    go_loop [13, 14] (fun n x => ∃ (j : Nat) (t : Int), (St l a j (a + j) (7 * (j : Int)) t ∧ j ≤ m + 1 ∧ j ≤ 5 ∧ 0 ≤ t ∧ t < 9223372036854775808 ∧ Hid (j = 5 → good32 (l.getD (a + 4) 0) = true)) ∧ n = .int .i64 t ∧ x = .int .i64 j) (fun _ x => m + 1 - (intOf x).toNat)
    case atStart => exact ⟨0, 0, ⟨St.zero l a, by omega, by omega, by omega, by omega, (fun h => by omega)⟩, rfl, rfl⟩
    case round =>
      obtain ⟨j, t, ⟨HE, hj, hj9, ht0, ht1, HF⟩, rfl, rfl⟩ := hrel
      by_cases hlt : j < m + 1
      · obtain ⟨c, hcc⟩ : ∃ c, c = l.getD (a + j) 0 := ⟨_, rfl⟩
        have hil : a + j < l.length := by omega
        have hc0 : 0 ≤ c ∧ c < 256 := by
          rw [hcc, List.getD_eq_getElem?_getD, List.getElem?_eq_getElem hil]; exact Hr.out _ (List.getElem_mem hil)
        obtain ⟨hc0, hc1⟩ := hc0
        obtain ⟨d, hd⟩ : ∃ d, d = c % 128 := ⟨_, rfl⟩
        have hd0 : 0 ≤ d := by omega
        have hd1 : d < 128 := by omega
        have hcell : w2.cell? ⟨b, j, none⟩ = some (.int .u8 d) := by
          rw [Hcells.out j hlt, digs_get l a (m + 1) j (by omega) hlt, ← hcc, ← hd]
        have HS := HE.succ hil hcc
        have HB := HE.bd
        obtain ⟨t', ht'⟩ : ∃ t', t' = t + d * 2 ^ (7 * (j : Int)).toNat := ⟨_, rfl⟩
        rw [← hd, ← ht'] at HS
        have Hd := Lib.hid hd
        have Hcc := Lib.hid hcc
        have HT := Lib.hid ht'
        have hHS : St l a (j + 1) (a + (j + 1)) (7 * ((j + 1 : Nat) : Int)) t' := by
          rw [show (7 * ((j + 1 : Nat) : Int)) = 7 * (j : Int) + 7 from by omega]; exact HS
        clear hd hcc ht' HS
        by_cases hk1 : j = 4
        · have hmj : m = 4 := by omega
          subst hk1
          have Hmj := Lib.hid hmj
          clear hmj
          have hc7 : c < 128 := by
            have := M3.out (by rw [← Hm.out]; omega)
            rw [← Hm.out, Hmj.out, ← Hcc.out] at this; exact this
          have hdc : d = c := by rw [Hd.out]; omega
          have Hdc := Lib.hid hdc
          clear hdc
          have hpn : (2 : Int) ^ (28 : Nat) = 268435456 := rfl
          have hB2 : t < 268435456 := by have := HB.2; rw [show (7 * ((4 : Nat) : Int)).toNat = 28 from rfl, hpn] at this; exact this
          have HT2 : Hid (t' = t + d * 268435456) := by show _ = _; rw [HT.out, show (7 * ((4 : Nat) : Int)).toNat = 28 from rfl, hpn]
          have hor : bits BinOp.or IntKind.i64 t (d * 268435456) = t' := by
            rw [bits_or_i64 t _ ht0 ht1 (by omega) (by omega), HT2.out]
            have h := or_add t d 28 ht0 (by rw [hpn]; exact hB2) hd0
            rw [hpn] at h
            exact h
          have ht'0 : 0 ≤ t' := by have := HT2.out; omega
          have ht'1 : t' < 9223372036854775808 := by have := HT2.out; omega
          clear hpn hB2 HT2 HT HB
          by_cases hlo : d < 8
          · have hg : good32 c = true := by rw [← Hdc.out]; unfold good32; simp; omega
            have HF' : Hid ((5 : Nat) = 5 → good32 (l.getD (a + 4) 0) = true) := fun _ => by rw [← Hcc.out]; exact hg
            have hA : (d / 8 != 0) = false := by rw [bne_eq_false_iff_eq]; omega
            clear hg
            go_wp2
            go_round
            case rel => exact ⟨5, t', ⟨hHS, by have := Hmj.out; omega, by omega, ht'0, ht'1, fun _ => HF'.out rfl⟩, rfl, rfl⟩
            case measure => have := Hmj.out; simp [intOf]; omega
          · have hA : (d / 8 != 0) = true := by rw [bne_iff_ne]; omega
            by_cases hhi : 120 ≤ d
            · have hg : good32 c = true := by rw [← Hdc.out]; unfold good32; simp; omega
              have HF' : Hid ((5 : Nat) = 5 → good32 (l.getD (a + 4) 0) = true) := fun _ => by rw [← Hcc.out]; exact hg
              have hA' : (d / 8 != 15) = false := by rw [bne_eq_false_iff_eq]; omega
              clear hg
              go_wp2
              go_round
              case rel => exact ⟨5, t', ⟨hHS, by have := Hmj.out; omega, by omega, ht'0, ht'1, fun _ => HF'.out rfl⟩, rfl, rfl⟩
              case measure => have := Hmj.out; simp [intOf]; omega
            · have hg : good32 c = false := by rw [← Hdc.out]; unfold good32; simp; omega
              have HD := Lib.hid (decS_fin_leb (k := 5) (good := good32) HE Hm.out (by omega) hil Hcc.out (by omega) hg)
              have hA' : (d / 8 != 15) = true := by rw [bne_iff_ne]; omega
              clear hg
              have HDN : Hid ((nx : Int) - 1 = ((a + 4 : Nat) : Int)) := by show _ = _; have := Hnx.out; have := Hmj.out; omega
              go_wp2
              exact bodyPost_ret (v := .tuple #[.int .i64 0, .int .i64 0, .agg #[.int .i64 3, .int .i64 ((nx : Int) - 1), .int .i64 0]]) (by simp [results, Try.results20, go_sem, hsz, hc20, hc21, hc22]) rfl
                ⟨by rw [HD.out, HDN.out]; rfl, by repeat (first | exact hbase | refine Below.drew ?_ | refine Below.setC _ _ _ (Nat.le_refl _) ?_ | refine Below.al _ (by simp [World.setCell]; omega) ?_)⟩
        · have hstep := HE.step hil Hcc.out (by omega) (by omega)
          rw [← Hd.out, ← HT.out] at hstep
          obtain ⟨hs0, hs1, hs2, hs3, hs4⟩ := hstep
          have hor : bits BinOp.or IntKind.i64 t (wrap64 (d * 2 ^ (7 * j))) = t' := by
            rw [← show (7 * (j : Int)).toNat = 7 * j from by omega, IntWalk.wrap64_in _ (by omega), bits_or_i64 t _ ht0 ht1 hs3 hs4, or_add _ _ _ ht0 HB.2 hd0, ← HT.out]
          have hq : ((j : Int) == 4) = false := by rw [beq_eq_false_iff_ne]; omega
          clear HB hs1 hs3 hs4
          go_wp2
          go_round
          case rel => exact ⟨j + 1, t', ⟨hHS, by omega, by omega, hs0, hs2, (fun h => by omega)⟩, rfl, by go_num⟩
          case measure => simp [intOf]; omega
      · have hjm : j = m + 1 := by omega
        obtain ⟨c, hcc⟩ : ∃ c, c = l.getD (a + m) 0 := ⟨_, rfl⟩
        have hc7 : c < 128 := by
          have := M3.out (by rw [← Hm.out]; omega)
          rw [← Hm.out, ← hcc] at this; exact this
        have hc0 : 0 ≤ c := by
          rw [hcc, List.getD_eq_getElem?_getD, List.getElem?_eq_getElem hk2]; exact (Hr.out _ (List.getElem_mem hk2)).1
        have hcell : w2.cell? ⟨b, m, none⟩ = some (.int .u8 c) := by
          rw [Hcells.out m (by omega), digs_get l a (m + 1) m (by omega) (by omega), ← hcc, Int.emod_eq_of_lt hc0 hc7]
        have HDV : Hid (decS l a 5 good32 = (svj l a (m + 1), (nx : Int), 0, 0)) := by
          show _ = _
          rw [decS_ok l a 5 good32 (by rw [← Hm.out]; exact hk) (by rw [← Hm.out]; omega) (fun h => by rw [← Hm.out] at h ⊢; have := HF.out (by omega); rw [show m = 4 from by omega]; exact this), ← Hm.out, Hnx.out]
        have HSV : Hid (svj l a (m + 1) = t - (if 64 ≤ c then 2 ^ (7 * (m + 1)) else 0)) := by
          show _ = _
          unfold svj
          rw [show a + (m + 1) - 1 = a + m from by omega, ← hcc, Int.emod_eq_of_lt hc0 hc7, ← hjm, ← HE.2.2]
        have hp0 : (0 : Int) < 2 ^ (7 * (m + 1)) := Int.pow_pos (by decide)
        have hp1 : (2 : Int) ^ (7 * (m + 1)) ≤ 9223372036854775808 := by
          have := pow_le (show 7 * (m + 1) ≤ 63 by omega)
          exact this
        obtain ⟨p, hp⟩ : ∃ p, p = (2 : Int) ^ (7 * (m + 1)) := ⟨_, rfl⟩
        have Hcc := Lib.hid hcc
        have Hjm := Lib.hid hjm
        have Hp := Lib.hid hp
        clear hcc hjm hp
        by_cases h64 : 64 ≤ c
        · have Hw : Hid (wrap64 (t - wrap64 (2 ^ (7 * (m + 1)))) = svj l a (m + 1)) := by
            show _ = _
            rw [HSV.out, if_pos h64]
            generalize (2 : Int) ^ (7 * (m + 1)) = q at *
            unfold wrap64; omega
          go_wp2
          exact bodyPost_ret (v := .tuple #[.int .i64 (wrap64 (t - wrap64 (2 ^ (7 * (m + 1))))), .int .i64 nx, .agg #[.int .i64 0, .int .i64 0, .int .i64 0]]) (by simp [results, Try.results20, go_sem, hsz, hc20, hc21, hc22]) rfl
            ⟨by rw [HDV.out, Hw.out]; rfl, by repeat (first | exact hbase | refine Below.drew ?_ | refine Below.setC _ _ _ (Nat.le_refl _) ?_ | refine Below.al _ (by simp [World.setCell]; omega) ?_)⟩
        · have hv : Hid (svj l a (m + 1) = t) := by show _ = _; rw [HSV.out, if_neg h64]; omega
          go_wp2
          exact bodyPost_ret (v := .tuple #[.int .i64 (t), .int .i64 nx, .agg #[.int .i64 0, .int .i64 0, .int .i64 0]]) (by simp [results, Try.results20, go_sem, hsz, hc20, hc21, hc22]) rfl
            ⟨by rw [HDV.out, hv.out]; rfl, by repeat (first | exact hbase | refine Below.drew ?_ | refine Below.setC _ _ _ (Nat.le_refl _) ?_ | refine Below.al _ (by simp [World.setCell]; omega) ?_)⟩
set_option maxHeartbeats 4000000 in
theorem refS_64 (v : Value) (l : List Int) (a : Nat) (w : World) (hv : Rd w v l) (hr : ∀ x ∈ l, 0 ≤ x ∧ x < 256) (hl : l.length ≤ 281474976710656) (ha : a ≤ l.length) :
    Calls Try.prog 20 #[v, .int .i64 a, .int .i64 64] w fun e w' => e = res .i64 (decS l a 10 good64) ∧ Below w.heap.size w w' := by
  have HG := fun o => groups_any v l a 10 (w.alloc o) (hv.alloc o) hr hl ha (by decide) (by decide)
  obtain ⟨ao, cap, rfl, hcap, _, hcells⟩ := hv
  obtain ⟨m1, m2, m3⟩ := mk_spec l a ha
  obtain ⟨m, hm⟩ : ∃ m, m = mk l a := ⟨_, rfl⟩
  rw [← hm] at m1
  have Hm := Lib.hid hm
  have M2 := Lib.hid m2
  have M3 := Lib.hid m3
  have Hr := Lib.hid hr
  have HGG := Lib.hid HG
  clear hcells m2 m3 hr hm HG
  have ha0 : decide ((a : Int) < 0) = false := by rw [decide_eq_false_iff_not]; omega
  have ha1 : decide (l.length < a) = false := by rw [decide_eq_false_iff_not]; omega
  go_enter Try.func20, Try.ntmps20
  go_wp2_with (go_at_call 24; refine (most_any _ _).mono ?_; rintro e w' ⟨rfl, rfl⟩; rw [show mostOf 64 = 10 from rfl])
  refine (HGG.out _).mono ?_
  rintro e w2 ⟨hG, hb2⟩
  obtain ⟨hc20, hc21, hc22, hf20, hf21, hf22⟩ := box3 hb2
  have hbase : Below w.heap.size w w2 := ((Below.refl _ _).alloc (Nat.le_refl _) _).trans (hb2.mono (by simp))
  have hsz : w.heap.size < w2.heap.size := by have := hb2.size; simp at this; omega
  rcases hG with ⟨hk, rfl⟩ | ⟨hk, hk2, rfl⟩ | ⟨hk, hk2, v', rfl, hown⟩
  · have HD := Lib.hid (decS_leb l a 10 good64 hk)
    unfold gres
    go_wp2
    go_region
    go_wp2
    exact bodyPost_ret (v := .tuple #[.int .i64 0, .int .i64 0, .agg #[.int .i64 3, .int .i64 ((a : Int) + 9), .int .i64 0]]) (by simp [results, Try.results20, go_sem, hsz, hc20, hc21, hc22]) rfl
      ⟨by rw [HD.out]; rfl, by repeat (first | exact hbase | refine Below.drew ?_ | refine Below.setC _ _ _ (Nat.le_refl _) ?_ | refine Below.al _ (by simp [World.setCell]; omega) ?_)⟩
  · have HD := Lib.hid (decS_end l a 10 good64 hk hk2)
    unfold gres
    clear hk hk2
    go_wp2
    go_region
    go_wp2
    exact bodyPost_ret (v := .tuple #[.int .i64 0, .int .i64 0, .agg #[.int .i64 4, .int .i64 l.length, .int .i64 0]]) (by simp [results, Try.results20, go_sem, hsz, hc20, hc21, hc22]) rfl
      ⟨by rw [HD.out]; rfl, by repeat (first | exact hbase | refine Below.drew ?_ | refine Below.setC _ _ _ (Nat.le_refl _) ?_ | refine Below.al _ (by simp [World.setCell]; omega) ?_)⟩
  · rw [← Hm.out] at hk hk2 hown
    have hdl0 := digs_len l a (m + 1) (by omega)
    obtain ⟨b, cp, rfl, hbb, hbs, hcells⟩ := hown.cells' (by intro h; rw [h] at hdl0; simp at hdl0)
    have hbne : w.heap.size ≠ b := by simp at hbb; omega
    rw [hdl0] at hcells ⊢
    have Hcells := Lib.hid hcells
    clear hdl0 hcells hown
    rw [show (((a + mk l a : Nat) + 1 : Int)) = ((a + m + 1 : Nat) : Int) from by rw [Hm.out]; rfl]
    obtain ⟨nx, hnx⟩ : ∃ nx : Nat, nx = a + m + 1 := ⟨_, rfl⟩
    rw [← hnx]
    have Hnx := Lib.hid hnx
    have hnxb : 1 ≤ nx ∧ nx ≤ l.length := by omega
    obtain ⟨hnx1, hnx2⟩ := hnxb
    clear hnx
    unfold gres
    go_wp2
    go_loop [13, 14] (fun n x => ∃ (j : Nat) (t : Int), ((St l a j (a + j) (7 * (j : Int)) t ∧ j ≤ m + 1 ∧ j ≤ 9 ∧ 0 ≤ t ∧ t < 9223372036854775808 ∧ Hid (j = 10 → good64 (l.getD (a + 9) 0) = true)) ∨ (j = 10 ∧ Hid (m = 9) ∧ -9223372036854775808 ≤ t ∧ t < 9223372036854775808 ∧ Hid (decS l a 10 good64 = (t, (nx : Int), 0, 0)))) ∧ n = .int .i64 t ∧ x = .int .i64 j) (fun _ x => m + 1 - (intOf x).toNat)
    case atStart => exact ⟨0, 0, .inl ⟨St.zero l a, by omega, by omega, by omega, by omega, (fun h => by omega)⟩, rfl, rfl⟩
    case round =>
      obtain ⟨j, t, hrel | ⟨hj10, Hm9, ht0, ht1, HDV⟩, rfl, rfl⟩ := hrel
      · obtain ⟨HE, hj, hj9, ht0, ht1, HF⟩ := hrel
        by_cases hlt : j < m + 1
        · obtain ⟨c, hcc⟩ : ∃ c, c = l.getD (a + j) 0 := ⟨_, rfl⟩
          have hil : a + j < l.length := by omega
          have hc0 : 0 ≤ c ∧ c < 256 := by
            rw [hcc, List.getD_eq_getElem?_getD, List.getElem?_eq_getElem hil]; exact Hr.out _ (List.getElem_mem hil)
          obtain ⟨hc0, hc1⟩ := hc0
          obtain ⟨d, hd⟩ : ∃ d, d = c % 128 := ⟨_, rfl⟩
          have hd0 : 0 ≤ d := by omega
          have hd1 : d < 128 := by omega
          have hcell : w2.cell? ⟨b, j, none⟩ = some (.int .u8 d) := by
            rw [Hcells.out j hlt, digs_get l a (m + 1) j (by omega) hlt, ← hcc, ← hd]
          have HS := HE.succ hil hcc
          have HB := HE.bd
          obtain ⟨t', ht'⟩ : ∃ t', t' = t + d * 2 ^ (7 * (j : Int)).toNat := ⟨_, rfl⟩
          rw [← hd, ← ht'] at HS
          have Hd := Lib.hid hd
          have Hcc := Lib.hid hcc
          have HT := Lib.hid ht'
          have hHS : St l a (j + 1) (a + (j + 1)) (7 * ((j + 1 : Nat) : Int)) t' := by
            rw [show (7 * ((j + 1 : Nat) : Int)) = 7 * (j : Int) + 7 from by omega]; exact HS
          clear hd hcc ht' HS
          by_cases hk1 : j = 9
          · have hmj : m = 9 := by omega
            subst hk1
            have Hmj := Lib.hid hmj
            clear hmj
            have hc7 : c < 128 := by
              have := M3.out (by rw [← Hm.out]; omega)
              rw [← Hm.out, Hmj.out, ← Hcc.out] at this; exact this
            have hdc : d = c := by rw [Hd.out]; omega
            have Hdc := Lib.hid hdc
            clear hdc
            have hpn : (2 : Int) ^ (63 : Nat) = 9223372036854775808 := rfl
            have hB2 : t < 9223372036854775808 := by have := HB.2; rw [show (7 * ((9 : Nat) : Int)).toNat = 63 from rfl, hpn] at this; exact this
            have HT2 : Hid (t' = t + d * 9223372036854775808) := by show _ = _; rw [HT.out, show (7 * ((9 : Nat) : Int)).toNat = 63 from rfl, hpn]
            have Hs0 : Hid (sgn t 0 63 = t) := by show _ = _; unfold sgn; simp
            have Hs1 : Hid (sgn t 127 63 = t - 9223372036854775808) := by
              show _ = _; unfold sgn
              rw [show (2 : Int) ^ (63 : Int).toNat = 9223372036854775808 from rfl]; simp; omega
            have hor0 : bits BinOp.or IntKind.i64 t 0 = t := by
              rw [bits_or_i64 t 0 ht0 ht1 (by decide) (by decide)]; simp; omega
            have hor1 : bits BinOp.or IntKind.i64 t (wrap64 1171368248680556527616) = t - 9223372036854775808 := by
              rw [show wrap64 1171368248680556527616 = -9223372036854775808 from by unfold wrap64; rfl]; exact bits_or_i64_top t ht0 ht1
            clear hpn hB2 HT2 HT HB
            have HOK : Hid (good64 c = true → decS l a 10 good64 = (sgn t c 63, (nx : Int), 0, 0)) := fun hg => by
              have h := decS_fin_ok (k := 10) (good := good64) HE Hm.out (by omega) hil Hcc.out hc7 (by omega) (fun _ => hg) M2.out
              rw [h, Hnx.out, Hmj.out]; rfl
            by_cases hlo : d = 0
            · have HD : Hid (decS l a 10 good64 = (t, (nx : Int), 0, 0)) := by
                have hc : c = 0 := by rw [← Hdc.out]; exact hlo
                have h := HOK.out (by rw [hc]; rfl)
                rw [hc, Hs0.out] at h; exact h
              subst hlo
              go_wp2
              go_round
              case rel => exact ⟨10, t, .inr ⟨rfl, Hmj, by omega, by omega, HD⟩, rfl, rfl⟩
              case measure => have := Hmj.out; simp [intOf]; omega
            · by_cases hhi : d = 127
              · have HD : Hid (decS l a 10 good64 = (t - 9223372036854775808, (nx : Int), 0, 0)) := by
                  have hc : c = 127 := by rw [← Hdc.out]; exact hhi
                  have h := HOK.out (by rw [hc]; rfl)
                  rw [hc, Hs1.out] at h; exact h
                subst hhi
                go_wp2
                go_round
                case rel => exact ⟨10, t - 9223372036854775808, .inr ⟨rfl, Hmj, by omega, by omega, HD⟩, rfl, rfl⟩
                case measure => have := Hmj.out; simp [intOf]; omega
              · have hg : good64 c = false := by rw [← Hdc.out]; unfold good64; simp; omega
                have HD := Lib.hid (decS_fin_leb (k := 10) (good := good64) HE Hm.out (by omega) hil Hcc.out (by omega) hg)
                have hA : (d != 0) = true := by rw [bne_iff_ne]; omega
                have hA' : (d != 127) = true := by rw [bne_iff_ne]; omega
                clear hg HOK hor0 hor1 hlo hhi
                have HDN : Hid ((nx : Int) - 1 = ((a + 9 : Nat) : Int)) := by show _ = _; have := Hnx.out; have := Hmj.out; omega
                go_wp2
                exact bodyPost_ret (v := .tuple #[.int .i64 0, .int .i64 0, .agg #[.int .i64 3, .int .i64 ((nx : Int) - 1), .int .i64 0]]) (by simp [results, Try.results20, go_sem, hsz, hc20, hc21, hc22]) rfl
                  ⟨by rw [HD.out, HDN.out]; rfl, by repeat (first | exact hbase | refine Below.drew ?_ | refine Below.setC _ _ _ (Nat.le_refl _) ?_ | refine Below.al _ (by simp [World.setCell]; omega) ?_)⟩
          · have hstep := HE.step hil Hcc.out (by omega) (by omega)
            rw [← Hd.out, ← HT.out] at hstep
            obtain ⟨hs0, hs1, hs2, hs3, hs4⟩ := hstep
            have hor : bits BinOp.or IntKind.i64 t (wrap64 (d * 2 ^ (7 * j))) = t' := by
              rw [← show (7 * (j : Int)).toNat = 7 * j from by omega, IntWalk.wrap64_in _ (by omega), bits_or_i64 t _ ht0 ht1 hs3 hs4, or_add _ _ _ ht0 HB.2 hd0, ← HT.out]
            have hq : ((j : Int) == 9) = false := by rw [beq_eq_false_iff_ne]; omega
            clear HB hs1 hs3 hs4
            go_wp2
            go_round
            case rel => exact ⟨j + 1, t', .inl ⟨hHS, by omega, by omega, hs0, hs2, (fun h => by omega)⟩, rfl, by go_num⟩
            case measure => simp [intOf]; omega
        · have hjm : j = m + 1 := by omega
          obtain ⟨c, hcc⟩ : ∃ c, c = l.getD (a + m) 0 := ⟨_, rfl⟩
          have hc7 : c < 128 := by
            have := M3.out (by rw [← Hm.out]; omega)
            rw [← Hm.out, ← hcc] at this; exact this
          have hc0 : 0 ≤ c := by
            rw [hcc, List.getD_eq_getElem?_getD, List.getElem?_eq_getElem hk2]; exact (Hr.out _ (List.getElem_mem hk2)).1
          have hcell : w2.cell? ⟨b, m, none⟩ = some (.int .u8 c) := by
            rw [Hcells.out m (by omega), digs_get l a (m + 1) m (by omega) (by omega), ← hcc, Int.emod_eq_of_lt hc0 hc7]
          have HDV : Hid (decS l a 10 good64 = (svj l a (m + 1), (nx : Int), 0, 0)) := by
            show _ = _
            rw [decS_ok l a 10 good64 (by rw [← Hm.out]; exact hk) (by rw [← Hm.out]; omega) (fun h => by rw [← Hm.out] at h ⊢; have := HF.out (by omega); rw [show m = 9 from by omega]; exact this), ← Hm.out, Hnx.out]
          have HSV : Hid (svj l a (m + 1) = t - (if 64 ≤ c then 2 ^ (7 * (m + 1)) else 0)) := by
            show _ = _
            unfold svj
            rw [show a + (m + 1) - 1 = a + m from by omega, ← hcc, Int.emod_eq_of_lt hc0 hc7, ← hjm, ← HE.2.2]
          have hp0 : (0 : Int) < 2 ^ (7 * (m + 1)) := Int.pow_pos (by decide)
          have hp1 : (2 : Int) ^ (7 * (m + 1)) ≤ 9223372036854775808 := by
            have := pow_le (show 7 * (m + 1) ≤ 63 by omega)
            exact this
          obtain ⟨p, hp⟩ : ∃ p, p = (2 : Int) ^ (7 * (m + 1)) := ⟨_, rfl⟩
          have Hcc := Lib.hid hcc
          have Hjm := Lib.hid hjm
          have Hp := Lib.hid hp
          clear hcc hjm hp
          by_cases h64 : 64 ≤ c
          · have Hw : Hid (wrap64 (t - wrap64 (2 ^ (7 * (m + 1)))) = svj l a (m + 1)) := by
              show _ = _
              rw [HSV.out, if_pos h64]
              generalize (2 : Int) ^ (7 * (m + 1)) = q at *
              unfold wrap64; omega
            go_wp2
            exact bodyPost_ret (v := .tuple #[.int .i64 (wrap64 (t - wrap64 (2 ^ (7 * (m + 1))))), .int .i64 nx, .agg #[.int .i64 0, .int .i64 0, .int .i64 0]]) (by simp [results, Try.results20, go_sem, hsz, hc20, hc21, hc22]) rfl
              ⟨by rw [HDV.out, Hw.out]; rfl, by repeat (first | exact hbase | refine Below.drew ?_ | refine Below.setC _ _ _ (Nat.le_refl _) ?_ | refine Below.al _ (by simp [World.setCell]; omega) ?_)⟩
          · have hv : Hid (svj l a (m + 1) = t) := by show _ = _; rw [HSV.out, if_neg h64]; omega
            go_wp2
            exact bodyPost_ret (v := .tuple #[.int .i64 (t), .int .i64 nx, .agg #[.int .i64 0, .int .i64 0, .int .i64 0]]) (by simp [results, Try.results20, go_sem, hsz, hc20, hc21, hc22]) rfl
              ⟨by rw [HDV.out, hv.out]; rfl, by repeat (first | exact hbase | refine Below.drew ?_ | refine Below.setC _ _ _ (Nat.le_refl _) ?_ | refine Below.al _ (by simp [World.setCell]; omega) ?_)⟩
      · subst hj10
        obtain rfl := Hm9.out
        obtain ⟨c, hcc⟩ : ∃ c, c = l.getD (a + 9) 0 := ⟨_, rfl⟩
        have hc7 : c < 128 := by
          have := M3.out (by rw [← Hm.out]; omega)
          rw [← Hm.out, ← hcc] at this; exact this
        have hc0 : 0 ≤ c := by
          rw [hcc, List.getD_eq_getElem?_getD, List.getElem?_eq_getElem hk2]; exact (Hr.out _ (List.getElem_mem hk2)).1
        have hcell : w2.cell? ⟨b, 9, none⟩ = some (.int .u8 c) := by
          rw [Hcells.out 9 (by omega), digs_get l a (9 + 1) 9 (by omega) (by omega), ← hcc, Int.emod_eq_of_lt hc0 hc7]
        clear hcc
        by_cases h64 : 64 ≤ c
        all_goals
          go_wp2
          exact bodyPost_ret (v := .tuple #[.int .i64 (t), .int .i64 nx, .agg #[.int .i64 0, .int .i64 0, .int .i64 0]]) (by simp [results, Try.results20, go_sem, hsz, hc20, hc21, hc22]) rfl
            ⟨by rw [HDV.out]; rfl, by repeat (first | exact hbase | refine Below.drew ?_ | refine Below.setC _ _ _ (Nat.le_refl _) ?_ | refine Below.al _ (by simp [World.setCell]; omega) ?_)⟩
set_option maxHeartbeats 1000000 in
theorem refS_arg (v : Value) (l : List Int) (at' bits : Int) (w : World) (hv : Rd w v l) (h : (bits ≠ 32 ∧ bits ≠ 64) ∨ at' < 0 ∨ (l.length : Int) < at') :
    Calls Try.prog 20 #[v, .int .i64 at', .int .i64 bits] w fun e w' => e = res .i64 (fullS l at' bits) ∧ Below w.heap.size w w' := by
  rw [fullS_arg l at' bits h]
  obtain ⟨ao, cap, rfl, hcap, _, hcells⟩ := hv
  clear hcells
  by_cases hm : bits ≠ 32 ∧ bits ≠ 64
  · have hz : mostOf bits = 0 := by unfold mostOf; rw [if_neg hm.1, if_neg hm.2]
    have Hz := Lib.hid hz
    clear hz hm h
    go_enter Try.func20, Try.ntmps20
    go_wp2_with (go_at_call 24; refine (most_any _ _).mono ?_; rintro e w' ⟨rfl, rfl⟩; rw [Hz.out])
    exact bodyPost_ret (v := .tuple #[.int .i64 0, .int .i64 0, .agg #[.int .i64 1, .int .i64 at', .int .i64 0]]) (by simp [results, Try.results20, go_sem]) rfl ⟨rfl, (Below.refl _ _).alloc (Nat.le_refl _) _⟩
  · obtain ⟨k, hk⟩ : ∃ k, k = mostOf bits := ⟨_, rfl⟩
    have hk0 : (k == 0) = false := by
      rw [beq_eq_false_iff_ne, hk]; unfold mostOf
      split
      · decide
      · split
        · decide
        · omega
    have Hk := Lib.hid hk
    clear hk
    by_cases h3 : at' < 0
    · have a1 : decide (at' < 0) = true := by simpa using h3
      clear h hm
      go_enter Try.func20, Try.ntmps20
      go_wp2_with (go_at_call 24; refine (most_any _ _).mono ?_; rintro e w' ⟨rfl, rfl⟩; rw [← Hk.out])
      exact bodyPost_ret (v := .tuple #[.int .i64 0, .int .i64 0, .agg #[.int .i64 1, .int .i64 at', .int .i64 0]]) (by simp [results, Try.results20, go_sem]) rfl ⟨rfl, (Below.refl _ _).alloc (Nat.le_refl _) _⟩
    · have a1 : decide (at' < 0) = false := by simpa using h3
      have h4 : (l.length : Int) < at' := by omega
      have a2 : decide ((l.length : Int) < at') = true := by simpa using h4
      clear h hm
      go_enter Try.func20, Try.ntmps20
      go_wp2_with (go_at_call 24; refine (most_any _ _).mono ?_; rintro e w' ⟨rfl, rfl⟩; rw [← Hk.out])
      exact bodyPost_ret (v := .tuple #[.int .i64 0, .int .i64 0, .agg #[.int .i64 1, .int .i64 at', .int .i64 0]]) (by simp [results, Try.results20, go_sem]) rfl ⟨rfl, (Below.refl _ _).alloc (Nat.le_refl _) _⟩

theorem refS_any (v : Value) (l : List Int) (at' bits : Int) (w : World) (hv : Rd w v l) (hr : ∀ x ∈ l, 0 ≤ x ∧ x < 256) (hl : l.length ≤ 281474976710656) :
    Calls Try.prog 20 #[v, .int .i64 at', .int .i64 bits] w fun e w' => e = res .i64 (fullS l at' bits) ∧ Below w.heap.size w w' := by
  by_cases h : (bits ≠ 32 ∧ bits ≠ 64) ∨ at' < 0 ∨ (l.length : Int) < at'
  · exact refS_arg v l at' bits w hv h
  · have h0 : 0 ≤ at' := by omega
    have h1 : at' ≤ l.length := by omega
    obtain ⟨a, rfl⟩ := Int.eq_ofNat_of_zero_le h0
    have hb : bits = 32 ∨ bits = 64 := by omega
    unfold fullS
    rw [if_pos ⟨h0, h1⟩, Int.toNat_natCast]
    rcases hb with rfl | rfl
    · rw [if_pos rfl]; exact refS_32 v l a w hv hr hl (by omega)
    · rw [if_neg (by decide), if_pos rfl]; exact refS_64 v l a w hv hr hl (by omega)
end Go.Proofs.Ytllnbifdapgnoaa.lb
