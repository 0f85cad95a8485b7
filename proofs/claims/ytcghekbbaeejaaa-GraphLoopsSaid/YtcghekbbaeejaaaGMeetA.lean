/- meetAll. -/
import Derived.Test.YtcghekbbaeejaaaGMeet
set_option linter.unusedVariables false
set_option linter.unusedSimpArgs false
namespace Go.Proofs.Ytcghekbbaeejaaa.gr
open Go.RowKit Go.Proofs.Ytcghekbbaeejaaa.Gr

set_option maxRecDepth 100000 in
set_option maxHeartbeats 8000000 in
theorem meetAll_any (G : List (List Nat)) (ord : List Nat) (N P : List Int) (nv pv lv : Value) (l : List Nat) (w : World) (D : Dm G ord N P) (hN : gi.Rd w nv N) (hP : gi.Rd w pv P) (hl : gi.Rd w lv (up l)) (hll : ∀ x ∈ l, x < G.length) (hln : l.length ≤ 1048576) :
    Calls Try.prog 36 #[.agg #[nv, pv], lv] w (MeetAllP N l w) := by
  have HNL := Lib.hid D.nlen
  have HPL := Lib.hid D.plen
  have HD := Lib.hid D
  have HNR := Lib.hid hN
  have HPR := Lib.hid hP
  obtain ⟨an, cn, rfl, hcn, _, hdn⟩ := hN
  obtain ⟨ap, cp, rfl, hcp, _, hdp⟩ := hP
  obtain ⟨al, cl, rfl, hcl, _, hdl⟩ := hl
  rw [HNL.out] at hcn HNR ⊢
  rw [HPL.out] at hcp HPR ⊢
  rw [up_len] at hcl ⊢
  have hn := D.n
  have HL := Lib.hid hdl
  have HCL := Lib.hid hcl
  have HLL := Lib.hid hll
  clear D hdn hdp hdl hcn hcp hcl hll
  go_enter Try.func36, Try.ntmps36
  go_wp2
  have HW1 : Hid (Below w.heap.size w (w.alloc (.cells #[.slice an G.length cn, .slice ap G.length cp] 65))) := bnextA (Below.refl _ _) _
  have C0 : Hid ((w.alloc (.cells #[.slice an G.length cn, .slice ap G.length cp] 65)).cell? ⟨w.heap.size, 0, none⟩ = some (.slice an G.length cn)) := by
    show _ = _
    rw [cell_of_row _ w.heap.size 0 _ 65 (0, 0) (heap_alloc_new w _)]; rfl
  have C1 : Hid ((w.alloc (.cells #[.slice an G.length cn, .slice ap G.length cp] 65)).cell? ⟨w.heap.size, 1, none⟩ = some (.slice ap G.length cp)) := by
    show _ = _
    rw [cell_of_row _ w.heap.size 1 _ 65 (0, 0) (heap_alloc_new w _)]; rfl
  have hsz : (w.alloc (.cells #[.slice an G.length cn, .slice ap G.length cp] 65)).heap.size = w.heap.size + 1 := by simp
  generalize w.alloc _ = W1 at HW1 C0 C1 hsz ⊢
  have HSZ := Lib.hid hsz
  clear hsz
  go_loopw [5, 10] (fun y z wr => ∃ (i : Nat) (r : Int), y = .int .i64 r ∧ z = .int .i64 i ∧ i ≤ l.length ∧ Hid (MeetAll N (l.take i) r) ∧ Hid (Below W1.heap.size W1 wr)) (fun _ z _ => l.length - (intOf z).toNat)
  case atStart => exact ⟨0, -1, rfl, rfl, Nat.zero_le _, Lib.hid (.inl ⟨rfl, by simp⟩), Lib.hid (Below.refl _ _)⟩
  case round =>
    obtain ⟨i, r, rfl, rfl, hi, HM, HBW⟩ := hrel
    by_cases hlt : i < l.length
    · have hiu : i < (up l).length := by rw [up_len]; exact hlt
      rcases HL.out with e | ⟨bl, ol, rfl, hgl⟩
      · rw [e] at hiu; simp at hiu
      have HOLD := Lib.hid (HW1.out.trans (HBW.out.mono HW1.out.size))
      have g1 := hgl i hiu
      rw [← HOLD.out.cell (p := ⟨bl, ol + i, none⟩) (World.block_lt_of_cell? w _ g1)] at g1
      rw [up_getD hlt, List.getD_eq_getElem?_getD, List.getElem?_eq_getElem hlt] at g1
      change wr.cell? ⟨bl, ol + i, none⟩ = some (.int .i64 (l[i] : Nat)) at g1
      have c0 := C0.out
      have c1 := C1.out
      rw [← HBW.out.cell (p := ⟨w.heap.size, 0, none⟩) (by rw [HSZ.out]; exact Nat.lt_succ_self _)] at c0
      rw [← HBW.out.cell (p := ⟨w.heap.size, 1, none⟩) (by rw [HSZ.out]; exact Nat.lt_succ_self _)] at c1
      have hx := HLL.out _ (List.getElem_mem hlt)
      have HN1 := fun h => meet_none HM.out hlt h
      have HF1 : r = -1 → known N l[i] → MeetAll N (l.take (i + 1)) (l[i] : Nat) := fun e h => by have := HM.out; rw [e] at this; exact meet_first this hlt h
      have HR1 : ∀ n m : Nat, r = (n : Int) → known N l[i] → Meets N n l[i] m → MeetAll N (l.take (i + 1)) (m : Int) := fun n m e h hm => by have := HM.out; rw [e] at this; exact meet_more this hlt h hm
      have hilt : (i : Int) < l.length := by omega
      have hcl := HCL.out
      generalize l[i] = x at g1 hx HN1 HF1 HR1
      have HRC := Lib.hid (reached_any (.slice an G.length cn) N x wr (by have := HNR.out.lift HOLD.out; exact this) (by rw [HNL.out]; omega) (by rw [HNL.out]; exact hx))
      have hkd := known_dec (N := N) (x := x) (by rw [HNL.out]; exact hx)
      cases hk : (decide (x = 0) || decide (N.getD x 0 ≠ -1)) with
      | false =>
        rw [hk] at HRC hkd
        have HNX := Lib.hid (HN1 (fun h => by have := hkd.1 h; cases this))
        clear HN1 HF1 HR1 hkd hk hgl hiu
        go_wp2_with (go_at_call 40; refine HRC.out.mono ?_; rintro e w2 ⟨rfl, rfl⟩)
        go_roundw
        case rel => exact ⟨i + 1, r, rfl, by go_num, by omega, HNX, HBW⟩
        case measure => simp [intOf]; omega
      | true =>
        rw [hk] at HRC hkd
        have hkn : known N x := hkd.2 rfl
        by_cases hr : r = -1
        · have hre : (r == -1) = true := by rw [beq_iff_eq]; exact hr
          have HNX := Lib.hid (HF1 hr hkn)
          clear HN1 HF1 HR1 hkd hk hgl hiu hr hkn
          go_wp2_with (go_at_call 40; refine HRC.out.mono ?_; rintro e w2 ⟨rfl, rfl⟩)
          go_roundw
          case rel => exact ⟨i + 1, (x : Int), rfl, by go_num, by omega, HNX, HBW⟩
          case measure => simp [intOf]; omega
        · have hre : (r == -1) = false := by rw [beq_eq_false_iff_ne]; exact hr
          obtain ⟨n, rfl⟩ : ∃ n : Nat, r = (n : Int) := by
            rcases HM.out with ⟨e, _⟩ | ⟨n, e, _⟩
            · exact absurd e hr
            · exact ⟨n, e⟩
          have hnk := meet_known HD.out.tree HM.out
          have HMT := Lib.hid (meet_any G ord N P (.slice an G.length cn) (.slice ap G.length cp) n x wr HD.out (HNR.out.lift HOLD.out) (HPR.out.lift HOLD.out) hnk hkn)
          have HNX : Hid (∀ m : Nat, Meets N n x m → MeetAll N (l.take (i + 1)) (m : Int)) := fun m hm => HR1 n m rfl hkn hm
          clear HN1 HF1 HR1 hkd hk hgl hiu hr hkn hnk
          go_wp2_with (first
            | (go_at_call 40; refine HRC.out.mono ?_; rintro e w2 ⟨rfl, rfl⟩)
            | (go_at_call 41; refine HMT.out.mono ?_; rintro e w2 ⟨m, rfl, hm, hb⟩; have HM2 := Lib.hid hm; have HB2 := Lib.hid hb; clear hm hb))
          go_roundw
          case rel => exact ⟨i + 1, (m : Int), rfl, by go_num, by omega, Lib.hid (HNX.out m HM2.out), Lib.hid (HBW.out.trans (HB2.out.mono HBW.out.size))⟩
          case measure => simp [intOf]; omega
    · obtain rfl : i = l.length := by omega
      have HMM : Hid (MeetAll N l r) := by have := HM.out; rw [List.take_of_length_le (Nat.le_refl _)] at this; exact this
      clear HM
      go_wp2
      go_ret
      exact ⟨r, rfl, HMM.out, HW1.out.trans (HBW.out.mono HW1.out.size)⟩
end Go.Proofs.Ytcghekbbaeejaaa.gr
