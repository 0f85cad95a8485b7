/- The contracts of Grow and Access: the program's. -/
import Derived.Test.YtmknjiefdhhgkaaStore
set_option linter.unusedVariables false
namespace Go.Proofs.Ytmknjiefdhhgkaa.mm
open Go.RowKit

/-- may so many bytes have so many pages more? -/
def growB (n : Nat) (most pages : Int) : Bool := decide (pages ≤ 16) && decide (n % 256 = 0) && decide ((n : Int) + pages * 256 ≤ most) && decide ((n : Int) + pages * 256 ≤ 4096)
/-- what a growth answers: the bytes, and how many pages there were -/
def growR (l : List Int) (most pages : Int) : List Int × Int :=
  if growB l.length most pages = true then (l ++ List.replicate (pages.toNat * 256) 0, (l.length / 256 : Nat)) else (l, 4294967295)

theorem grown_any (ao : Option Addr) (n cap : Nat) (pages : Int) (w : World) (hn : n ≤ 140737488355328) (p0 : 0 ≤ pages) (p1 : pages ≤ 16) :
    Calls Try.prog 32 #[.slice ao n cap, .int .u64 pages] w fun e w' => e = .returned (.int .i64 ((n : Int) + pages * 256)) ∧ w = w' := by
  go_enter Try.func32, Try.ntmps32
  go_wp2
  go_ret
  exact ⟨rfl, rfl⟩

theorem mayGrow_any (ao : Option Addr) (n cap : Nat) (most pages : Int) (w : World) (hn : n ≤ 140737488355328) (p0 : 0 ≤ pages) (p1 : pages < 18446744073709551616) (m0 : -9223372036854775808 ≤ most) (m1 : most ≤ 9223372036854775807) :
    Calls Try.prog 31 #[.slice ao n cap, .int .i64 most, .int .u64 pages] w fun e w' => e = .returned (.bool (growB n most pages)) ∧ w = w' := by
  unfold growB
  by_cases h1 : pages ≤ 16
  · rw [decide_eq_true h1]
    by_cases h2 : n % 256 = 0
    · have h2b : (n : Int) % 256 = 0 := by omega
      have HG := Lib.hid (fun w' => grown_any ao n cap pages w' hn p0 h1)
      obtain ⟨s, hs⟩ : ∃ s, (n : Int) + pages * 256 = s := ⟨_, rfl⟩
      have hs0 : 0 ≤ s ∧ s ≤ 140737488359424 := by omega
      rw [hs] at HG ⊢
      rw [decide_eq_true h2]
      clear hs
      by_cases h3 : s ≤ most
      · rw [decide_eq_true h3]
        by_cases h4 : s ≤ 4096
        · rw [decide_eq_true h4]
          clear h2
          go_enter Try.func31, Try.ntmps31
          go_wp2_with (go_at_call 32; refine (HG.out _).mono ?_; rintro e w1 ⟨rfl, rfl⟩)
          go_ret
          exact ⟨rfl, rfl⟩
        · rw [decide_eq_false h4]
          have h4b := decide_eq_false h4
          clear h2 h4
          go_enter Try.func31, Try.ntmps31
          go_wp2_with (go_at_call 32; refine (HG.out _).mono ?_; rintro e w1 ⟨rfl, rfl⟩)
          go_ret
          exact ⟨rfl, rfl⟩
      · rw [decide_eq_false h3]
        clear h2
        go_enter Try.func31, Try.ntmps31
        go_wp2_with (go_at_call 32; refine (HG.out _).mono ?_; rintro e w1 ⟨rfl, rfl⟩)
        go_ret
        exact ⟨rfl, rfl⟩
    · have h2b : ((n : Int) % 256 != 0) = true := by rw [bne_iff_ne]; omega
      rw [decide_eq_false h2]
      clear h2
      go_enter Try.func31, Try.ntmps31
      go_wp2
      go_ret
      exact ⟨rfl, rfl⟩
  · rw [decide_eq_false h1]
    go_enter Try.func31, Try.ntmps31
    go_wp2
    go_ret
    exact ⟨rfl, rfl⟩

/-- a make of so many bytes, all 0 -/
theorem make_all (n : Nat) (ni : Int) (hni : ni = n) (hn : n ≤ 281474976710656) (u : World) : (Instr.makeSlice 22 (.int .i64 ni) (.int .i64 ni)).run Try.prog u =
    .ok (.slice (some ⟨u.heap.size, 0, none⟩) n n) (u.alloc (.cells (List.replicate n (Value.int .u8 0)).toArray 5)) := by
  subst hni
  obtain ⟨i0, hi, hz0, hz1, hz2⟩ := info_parts info5
  have h := run_make (P := Try.prog) u 22 5 i0 (.int .u8 0) Try.underlying22 hi hz0 .i64 .i64 (n : Int) (n : Int) (by omega) (by omega) (by rw [hz2]; omega) (by omega)
  rw [← toList_madeCells_one]
  simpa [hz1, Value.cells] using h

theorem own_filled {w2 : World} {g n : Nat} {B : Nat} {l : List Int} (hB : B ≤ g) (hl : l.length ≤ n) (hm : n ≤ maxLen)
    (hg : w2.heap[g]? = some (.cells (splice (List.replicate n (Value.int .u8 0)) 0 (l.map (.int .u8))).toArray 5 (0, 0))) : Own w2 B (.slice (some ⟨g, 0, none⟩) n n) (l ++ List.replicate (n - l.length) 0) := by
  have e : splice (List.replicate n (Value.int .u8 0)) 0 (l.map (Value.int .u8)) = (l ++ List.replicate (n - l.length) 0).map (.int .u8) := by
    simp [splice, List.drop_replicate]
  have hlen : (l ++ List.replicate (n - l.length) (0:Int)).length = n := by simp; omega
  rw [e] at hg
  have h : Own w2 B (.slice (some ⟨g, 0, none⟩) (l ++ List.replicate (n - l.length) (0:Int)).length n) (l ++ List.replicate (n - l.length) 0) := by
    refine ⟨?_, .inr ⟨g, n, _, rfl, hB, hg, ?_, hm, ?_, ?_⟩⟩
    · simp
    · rw [hlen]; exact Nat.le_refl _
    · simp; omega
    · simp
      rw [List.take_of_length_le (by simp)]
  rw [hlen] at h
  exact h

set_option maxHeartbeats 1000000 in
theorem Grow_any (v : Value) (l : List Int) (most pages : Int) (w : World) (hv : Rd w v l) (hl : l.length ≤ 140737488355328) (p0 : 0 ≤ pages) (p1 : pages < 18446744073709551616) (m0 : -9223372036854775808 ≤ most) (m1 : most ≤ 9223372036854775807) :
    Calls Try.prog 20 #[v, .int .i64 most, .int .u64 pages] w fun e w' => ∃ v', e = .returned (.tuple #[v', .int .u64 (growR l most pages).2]) ∧ Own w' w.heap.size v' (growR l most pages).1 ∧ Below w.heap.size w w' := by
  have hv0 := hv
  obtain ⟨ao, cap, rfl, hc, hz, hcs⟩ := hv
  have HM := Lib.hid (fun w' => mayGrow_any ao l.length cap most pages w' hl p0 p1 m0 m1)
  unfold growR
  cases hg : growB l.length most pages with
  | false =>
    rw [hg] at HM
    have HC := Lib.hid (fun w' (hb : Below w.heap.size w w') => clone_any (.slice ao l.length cap) l w' (hv0.lift hb) hl)
    clear hcs hz hg
    go_enter Try.func20, Try.ntmps20
    go_wp2_with (first
      | (go_at_call 31; refine (HM.out _).mono ?_; rintro e w1 ⟨rfl, rfl⟩)
      | (go_at_call 28; refine (HC.out _ (Below.refl _ _)).mono ?_; rintro e w2 ⟨v2, rfl, ho, hb⟩))
    go_ret2
    exact ⟨_, rfl, ho, hb⟩
  | true =>
    rw [hg] at HM
    have hg1 : pages ≤ 16 ∧ l.length % 256 = 0 ∧ (l.length : Int) + pages * 256 ≤ 4096 := by
      simp [growB] at hg; omega
    have HG := Lib.hid (fun w' => grown_any ao l.length cap pages w' hl p0 hg1.1)
    obtain ⟨N, hN⟩ : ∃ N : Nat, (l.length : Int) + pages * 256 = N := ⟨((l.length : Int) + pages * 256).toNat, by omega⟩
    rw [hN] at HG
    have hNl : l.length ≤ N := by omega
    have hN4 : N ≤ 4096 := by omega
    have hNp : N - l.length = pages.toNat * 256 := by omega
    have hmk := make_all N N rfl (by omega)
    obtain ⟨zs, hzs⟩ : ∃ zs, zs = List.replicate N (Value.int .u8 0) := ⟨_, rfl⟩
    rw [← hzs] at hmk
    have Hzs := Lib.hid hzs
    have Hzl : Hid (zs.length = N) := by show _ = _; rw [hzs]; exact List.length_replicate
    obtain ⟨cs, hcs0⟩ : ∃ cs, cs = l.map (Value.int .u8) := ⟨_, rfl⟩
    have hcl : cs.length = l.length := by rw [hcs0]; exact List.length_map _
    have Hcs := Lib.hid hcs0
    have Hmin : Hid (cs.length = Nat.min l.length N) := by show _ = _; rw [hcl]; exact (Nat.min_eq_left hNl).symm
    have Hfit : Hid (0 + cs.length ≤ zs.length) := by show _ ≤ _; have := Hzl.out; omega
    have Hone : Hid (∀ u ∈ cs, u.oneCell' = true) := by rw [hcs0]; exact ints_oneCell _ _
    have Hpos : Hid (0 < cs.length → ∃ ad, ao = some ad ∧ ∀ j v, cs[j]? = some v → (w.alloc (.cells zs.toArray 5)).cell? (ad.add j) = some v) := by
      intro hp
      rcases hcs with h | ⟨b, off, rfl, hc'⟩
      · rw [hcl, h] at hp; simp at hp
      · refine ⟨_, rfl, fun j u hu => ?_⟩
        rw [hcs0] at hu
        obtain ⟨hj, rfl⟩ := map_get hu
        rw [add_lit, World.cell?_alloc_past _ _ _ (World.block_lt_of_cell? w _ (hc' j hj))]
        exact hc' j hj
    have HNp := Lib.hid hNp
    have Hll := Lib.hid hg1.2.1
    have hg2 : ((l.length : Int) / 256) = ((l.length / 256 : Nat) : Int) := by omega
    have Hg2 := Lib.hid hg2
    clear hcs hz hg hg1 hzs hcs0 hcl hNp hv0 hN hg2
    go_enter Try.func20, Try.ntmps20
    go_wp2_with (first
      | (go_at_call 31; refine (HM.out _).mono ?_; rintro e w1 ⟨rfl, rfl⟩)
      | (go_at_call 32; refine (HG.out _).mono ?_; rintro e w1 ⟨rfl, rfl⟩)
      | (with_reducible refine wpList_copy_splice rfl (.tmp 20) (.tmp 21) 22 22 rfl 5 Try.underlying22 size5 (some ⟨w.heap.size, 0, none⟩) ao N N l.length cap rfl rfl w.heap.size 0 zs 5 (heap_alloc_new w _) cs Hmin.out (fun h => ⟨rfl, Hpos.out h⟩) Hfit.out Hone.out w.heap.size w ((Below.refl _ _).alloc (Nat.le_refl _) _) (Nat.le_refl _) ?_))
    intro w2 HG2 hB2
    have hown : Own w2 w.heap.size (.slice (some ⟨w.heap.size, 0, none⟩) N N) (l ++ List.replicate (N - l.length) 0) := own_filled (Nat.le_refl _) hNl (by unfold maxLen; omega) (by rw [← Hcs.out, ← Hzs.out]; exact HG2.out)
    rw [HNp.out] at hown
    have Hown := Lib.hid hown
    clear hown HG2 Hpos Hone Hmin Hfit
    go_wp2
    go_ret2
    exact ⟨_, rfl, Hown.out, hB2⟩

def accR (op : Int) : Value := .tuple #[.int .i64 ((acc op).getD noAcc).kind, .int .i64 ((acc op).getD noAcc).width, .bool ((acc op).getD noAcc).store, .bool (acc op).isSome]
set_option maxHeartbeats 1000000 in
theorem Access_any (op : Int) (w : World) : Calls Try.prog 10 #[.int .i64 op] w fun e w' => e = .returned (accR op) ∧ Below w.heap.size w w' := by
  have H := Lib.hid (accessOf_any op w)
  unfold accT aggV at H
  unfold accR
  generalize (acc op).isSome = ok at H ⊢
  generalize (acc op).getD noAcc = A at H ⊢
  obtain ⟨k, wd, st, sg⟩ := A
  simp only at H ⊢
  go_enter Try.func10, Try.ntmps10
  go_wp2_with (go_at_call 22; refine H.out.mono ?_; rintro e w1 ⟨rfl, hb1⟩)
  go_quiet (fail)
  go_wp2
  exact bodyPost_ret (v := .tuple #[.int .i64 k, .int .i64 wd, .bool st, .bool ok]) (by simp [results, Try.results10, go_sem]) rfl ⟨rfl, (bnextA hb1 _).trans (belowN _ _)⟩
end Go.Proofs.Ytmknjiefdhhgkaa.mm
