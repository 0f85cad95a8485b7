/- The contracts of the document's own most and groups. -/
import Derived.Test.YtllnbifdapgnoaaUS
namespace Go.Proofs.Ytllnbifdapgnoaa.lb
open Go.RowKit

def mostOf (bits : Int) : Int := if bits = 32 then 5 else if bits = 64 then 10 else 0

set_option maxHeartbeats 400000 in
theorem most_any (bits : Int) (w : World) : Calls Try.prog 24 #[.int .i64 bits] w fun e w' => e = .returned (.int .i64 (mostOf bits)) ∧ w = w' := by
  unfold mostOf
  by_cases h1 : bits = 32
  · subst h1
    go_enter Try.func24, Try.ntmps24
    go_wp2
    go_ret
    exact ⟨rfl, rfl⟩
  · by_cases h2 : bits = 64
    · subst h2
      go_enter Try.func24, Try.ntmps24
      go_wp2
      go_ret
      exact ⟨rfl, rfl⟩
    · rw [if_neg h1, if_neg h2]
      have b1 : (bits == 32) = false := by rw [beq_eq_false_iff_ne]; exact h1
      have b2 : (bits == 64) = false := by rw [beq_eq_false_iff_ne]; exact h2
      clear h1 h2
      go_enter Try.func24, Try.ntmps24
      go_wp2
      go_ret
      exact ⟨rfl, rfl⟩

/-- the groups of so many bytes from a place on -/
def digs (l : List Int) (a j : Nat) : List Int := ((l.drop a).take j).map (· % 128)

theorem digs_len (l : List Int) (a j : Nat) (h : a + j ≤ l.length) : (digs l a j).length = j := by
  unfold digs; rw [List.length_map, List.length_take, List.length_drop]; omega
theorem digs_succ (l : List Int) (a j : Nat) (h : a + j < l.length) : digs l a (j + 1) = digs l a j ++ [l.getD (a + j) 0 % 128] := by
  unfold digs
  have hl : j < (l.drop a).length := by rw [List.length_drop]; omega
  rw [List.take_succ_eq_append_getElem hl, List.map_append]
  have : (l.drop a)[j] = l.getD (a + j) 0 := by
    rw [← getD_drop, List.getD_eq_getElem?_getD, List.getElem?_eq_getElem hl]; rfl
  rw [← this]; rfl
theorem digs_get (l : List Int) (a n j : Nat) (h : a + n ≤ l.length) (hj : j < n) : (digs l a n).getD j 0 = l.getD (a + j) 0 % 128 := by
  unfold digs
  rw [List.getD_eq_getElem?_getD, List.getElem?_map, List.getElem?_take, if_pos hj, List.getElem?_drop, List.getD_eq_getElem?_getD, List.getElem?_eq_getElem (by omega)]
  rfl

theorem Own.setCell_below {w : World} {B : Nat} {v : Value} {xs : List Int} (h : Own w B v xs) {p : Addr} (hp : p.block < B) (u : Value) : Own (w.setCell p u) B v xs := ownsRow_setCell_below h hp u

theorem Own.shape {w : World} {B : Nat} {v : Value} {xs : List Int} (h : Own w B v xs) : ∃ ao cap, v = .slice ao xs.length cap := by
  obtain ⟨ao, cap, h, _⟩ := h.rd.data
  exact ⟨ao, cap, h⟩

/-- what groups answers: the groups or nil, the place behind them, the fault -/
def gres (v : Value) (x y z : Int) : Ending := .returned (.tuple #[v, .int .i64 x, .agg #[.int .i64 y, .int .i64 z, .int .i64 0]])

/-- the outcome of groups, k at most -/
def GOut (l : List Int) (a k : Nat) (w : World) (e : Ending) (w' : World) : Prop :=
  (k ≤ mk l a ∧ e = gres (.slice none 0 0) 0 3 ((a + (k - 1) : Nat) : Int)) ∨
  (mk l a < k ∧ a + mk l a = l.length ∧ e = gres (.slice none 0 0) 0 4 (l.length : Int)) ∨
  (mk l a < k ∧ a + mk l a < l.length ∧ ∃ v, e = gres v ((a + mk l a : Nat) + 1 : Int) 0 0 ∧ Own w' (w.heap.size + 1) v (digs l a (mk l a + 1)))

set_option maxHeartbeats 2000000 in
theorem groups_any (v : Value) (l : List Int) (a k : Nat) (w : World) (hv : Rd w v l) (hr : ∀ x ∈ l, 0 ≤ x ∧ x < 256) (hl : l.length ≤ 281474976710656) (ha : a ≤ l.length) (hk1 : 1 ≤ k) (hk : k ≤ 10) :
    Calls Try.prog 25 #[v, .int .i64 a, .int .i64 k] w fun e w' => GOut l a k w e w' ∧ Below w.heap.size w w' := by
  obtain ⟨ao, cap, rfl, hcap, _, hcells⟩ := hv
  obtain ⟨m1, m2, m3⟩ := mk_spec l a ha
  obtain ⟨m, hm⟩ : ∃ m, m = mk l a := ⟨_, rfl⟩
  rw [← hm] at m1
  have Hm := Lib.hid hm
  have Hcells := Lib.hid hcells
  have M2 := Lib.hid m2
  have M3 := Lib.hid m3
  have Hr := Lib.hid hr
  clear hcells m2 m3 hr hm
  go_enter Try.func25, Try.ntmps25
  go_wp2
  go_loopw [9, 10] (fun v x wr => ∃ (i j : Nat), Hid (i = a + j) ∧ i ≤ a + m ∧ j < k ∧ x = .int .i64 i ∧ Own wr (w.heap.size + 1) v (digs l a j) ∧ Below (w.heap.size + 1) (w.alloc (.cells #[.int .i64 0, .int .i64 0, .int .i64 0] 32)) wr) (fun _ x _ => l.length + 1 - (intOf x).toNat)
  case atStart => exact ⟨a, 0, rfl, by omega, by omega, rfl, Own.nil _ _, Below.refl _ _⟩
  case round =>
    obtain ⟨i, j, HE, hi, hjk, rfl, hown, hBr⟩ := hrel
    obtain ⟨hc2, hf2⟩ := bcell (W := w.alloc (.cells #[.int .i64 0, .int .i64 0, .int .i64 0] 32)) (by simpa using hBr)
    have hBr0 : Below w.heap.size w wr := ((Below.refl _ _).alloc (Nat.le_refl _) _).trans (hBr.mono (by omega))
    have fin : ∀ y z : Int, Below w.heap.size w (((wr.setCell ⟨w.heap.size, 0, none⟩ (.int .i64 y)).setCell ⟨w.heap.size, 1, none⟩ (.int .i64 z)).setCell ⟨w.heap.size, 2, none⟩ (.int .i64 0)) := fun y z =>
      ((hBr0.setCell (Nat.le_refl _) _).setCell (Nat.le_refl _) _).setCell (Nat.le_refl _) _
    by_cases hlt : i < l.length
    · obtain ⟨b, off, rfl, hcell⟩ : ∃ b off, ao = some ⟨b, off, none⟩ ∧ w.cell? ⟨b, off + i, none⟩ = some (.int .u8 (l.getD i 0)) := by
        rcases Hcells.out with h | ⟨b, off, rfl, h⟩
        · subst h; simp at hlt
        · exact ⟨b, off, rfl, h i hlt⟩
      have hbs : b < w.heap.size := World.block_lt_of_cell? w _ hcell
      obtain ⟨c, hcc⟩ : ∃ c, c = l.getD i 0 := ⟨_, rfl⟩
      rw [← hcc] at hcell
      have hc0 : 0 ≤ c ∧ c < 256 := by
        rw [hcc, List.getD_eq_getElem?_getD, List.getElem?_eq_getElem hlt]; exact Hr.out _ (List.getElem_mem hlt)
      obtain ⟨hc0, hc1⟩ := hc0
      have hcr : wr.cell? ⟨b, off + i, none⟩ = some (.int .u8 c) := by rw [hBr0.cell (p := ⟨b, off + i, none⟩) hbs]; exact hcell
      have hdl : (digs l a j).length = j := digs_len l a j (by have := HE.out; omega)
      have hlen : (digs l a j).length + 1 ≤ 140737488355328 := by omega
      have hB := hBr.size
      simp only [World.size_alloc] at hB
      have Hcc := Lib.hid hcc
      have HS : Hid (digs l a (j + 1) = digs l a j ++ [c % 128]) := by
        have h := digs_succ l a j (by have := HE.out; omega)
        rw [← HE.out, ← Hcc.out] at h; exact h
      have HQ : Hid (∀ w1 : World, Below (w.heap.size + 1) (w.alloc (.cells #[.int .i64 0, .int .i64 0, .int .i64 0] 32)) w1 → w1.cell? ⟨b, off + i, none⟩ = some (.int .u8 c) ∧ (∀ b o, b < (w.alloc (.cells #[.int .i64 0, .int .i64 0, .int .i64 0] 32)).heap.size → w1.cell? ⟨b, o, none⟩ = (w.alloc (.cells #[.int .i64 0, .int .i64 0, .int .i64 0] 32)).cell? ⟨b, o, none⟩) ∧ (∀ b o, b < (w.alloc (.cells #[.int .i64 0, .int .i64 0, .int .i64 0] 32)).heap.size → w1.frozen? ⟨b, o, none⟩ = (w.alloc (.cells #[.int .i64 0, .int .i64 0, .int .i64 0] 32)).frozen? ⟨b, o, none⟩)) := by
        intro w1 hB1
        have h := bcell (W := w.alloc (.cells #[.int .i64 0, .int .i64 0, .int .i64 0] 32)) (by simpa using hB1)
        refine ⟨?_, h⟩
        rw [h.1 b (off + i) (by simp; omega), World.cell?_alloc_past _ _ _ hbs]; exact hcell
      have HB0 : Hid (∀ w1 : World, Below (w.heap.size + 1) (w.alloc (.cells #[.int .i64 0, .int .i64 0, .int .i64 0] 32)) w1 → Below w.heap.size w w1) := fun w1 h => ((Below.refl _ _).alloc (Nat.le_refl _) _).trans (h.mono (by omega))
      clear hcc fin hc2 hf2
      by_cases hm : c < 128
      · have hmi : Hid (mk l a = j) := by
          show _ = _
          have := HE.out
          have := Hm.out
          by_cases h : j < mk l a
          · have := M2.out j h; rw [← HE.out, ← Hcc.out] at this; omega
          · omega
        go_wp2_with (at_builtin; refine wpList_append_byte (.tmp 21) (.tmp 27) rfl rfl rfl hown (c % 128) rfl hlen hB hBr ?_; intro v' w1 Ho1 hB1; obtain ⟨hcr1, hc2, hf2⟩ := HQ.out w1 hB1)
        exact bodyPost_ret (v := .tuple #[v', .int .i64 (i + 1), .agg #[.int .i64 0, .int .i64 0, .int .i64 0]]) (by simp [results, Try.results25, go_sem, hc2]) rfl
          ⟨.inr (.inr ⟨by have := hmi.out; omega, by have := hmi.out; have := HE.out; omega, v', by rw [hmi.out, ← HE.out]; rfl, by rw [hmi.out, HS.out]; exact ((Ho1.setCell_below (by simp) _).setCell_below (by simp) _).setCell_below (by simp) _⟩), (((HB0.out w1 hB1).setCell (Nat.le_refl _) _).setCell (Nat.le_refl _) _).setCell (Nat.le_refl _) _⟩
      · have hon : i + 1 ≤ a + m := by
          have := HE.out
          have := Hm.out
          by_cases h : a + mk l a = i
          · have := M3.out (by omega); rw [h, ← Hcc.out] at this; omega
          · omega
        by_cases hlast : j + 1 = k
        · have hq : ((j : Int) + 1 == (k : Int)) = true := by rw [beq_iff_eq]; omega
          have Hlast := Lib.hid hlast
          clear hlast
          go_wp2_with (at_builtin; refine wpList_append_byte (.tmp 21) (.tmp 27) rfl rfl rfl hown (c % 128) rfl hlen hB hBr ?_; intro v' w1 Ho1 hB1; obtain ⟨hcr1, hc2, hf2⟩ := HQ.out w1 hB1; obtain ⟨ao', cap', rfl⟩ := Ho1.shape)
          exact bodyPost_ret (v := .tuple #[.slice none 0 0, .int .i64 0, .agg #[.int .i64 3, .int .i64 i, .int .i64 0]]) (by simp [results, Try.results25, go_sem, hc2]) rfl
            ⟨.inl ⟨by have := Hm.out; have := HE.out; have := Hlast.out; omega, by rw [show a + (k - 1) = i from by have := HE.out; have := Hlast.out; omega]; rfl⟩, (((HB0.out w1 hB1).setCell (Nat.le_refl _) _).setCell (Nat.le_refl _) _).setCell (Nat.le_refl _) _⟩
        · have hq : ((j : Int) + 1 == (k : Int)) = false := by rw [beq_eq_false_iff_ne]; omega
          go_wp2_with (at_builtin; refine wpList_append_byte (.tmp 21) (.tmp 27) rfl rfl rfl hown (c % 128) rfl hlen hB hBr ?_; intro v' w1 Ho1 hB1; obtain ⟨hcr1, hc2, hf2⟩ := HQ.out w1 hB1; obtain ⟨ao', cap', rfl⟩ := Ho1.shape)
          go_roundw
          case rel => exact ⟨i + 1, j + 1, by show _ = _; have := HE.out; omega, hon, by omega, by go_num, by rw [HS.out]; simpa [hdl] using Ho1, hB1⟩
          case measure => simp [intOf]; omega
    · have hil : i = l.length := by omega
      clear hlt
      have Hil := Lib.hid hil
      clear hil
      have hge : (l.length : Int) ≤ i := by have := Hil.out; omega
      go_wp2
      exact bodyPost_ret (v := .tuple #[.slice none 0 0, .int .i64 0, .agg #[.int .i64 4, .int .i64 l.length, .int .i64 0]]) (by simp [results, Try.results25, go_sem, hc2]) rfl
        ⟨.inr (.inl ⟨by have := Hm.out; have := HE.out; have := Hil.out; omega, by have := Hm.out; have := Hil.out; omega, rfl⟩), fin _ _⟩
end Go.Proofs.Ytllnbifdapgnoaa.lb
