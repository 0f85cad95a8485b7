/- The contracts of leb.PutU, leb.PutS and of alive: two numbers are written, and one read. -/
import Derived.Test.YtllnbifdapgnoaaPut
import Derived.Test.YtllnbifdapgnoaaRefPut
import Derived.Test.YtllnbifdapgnoaaRefS
namespace Go.Proofs.Ytllnbifdapgnoaa.lb
open Go.RowKit

set_option maxHeartbeats 400000 in
theorem PutU_any (v : Value) (l : List Int) (n : Int) (w : World) (hv : Rd w v l) (hl : l.length ≤ 140737488355000) (h0 : 0 ≤ n) (h1 : n < 18446744073709551616) :
    Calls Try.prog 11 #[v, .int .u64 n] w fun e w' => ∃ v', e = .returned v' ∧ Own w' w.heap.size v' (l ++ encU n) ∧ Below w.heap.size w w' := by
  have H := Lib.hid (putU_any v l n w hv hl h0 h1)
  go_enter Try.func11, Try.ntmps11
  go_wp2_with (go_at_call 21; refine H.out.mono ?_; rintro e w' ⟨v', rfl, ho, hb⟩)
  go_ret
  exact ⟨_, rfl, ho, hb⟩

set_option maxHeartbeats 400000 in
theorem PutS_any (v : Value) (l : List Int) (n : Int) (w : World) (hv : Rd w v l) (hl : l.length ≤ 140737488355000) (h0 : -9223372036854775808 ≤ n) (h1 : n < 9223372036854775808) :
    Calls Try.prog 13 #[v, .int .i64 n] w fun e w' => ∃ v', e = .returned v' ∧ Own w' w.heap.size v' (l ++ encS n) ∧ Below w.heap.size w w' := by
  have H := Lib.hid (putS_any v l n w hv hl h0 h1)
  go_enter Try.func13, Try.ntmps13
  go_wp2_with (go_at_call 22; refine H.out.mono ?_; rintro e w' ⟨v', rfl, ho, hb⟩)
  go_ret
  exact ⟨_, rfl, ho, hb⟩

/-- a slice that was just built of numbers -/
theorem Rd.lit (w : World) (xs : List Int) : Rd (w.alloc (.cells (xs.map (.int .u8)).toArray 5)) (.slice (some ⟨w.heap.size, 0, none⟩) xs.length xs.length) xs := by
  refine ⟨_, _, rfl, Nat.le_refl _, (fun h => by cases h), .inr ⟨_, _, rfl, fun k hk => ?_⟩⟩
  rw [cell_of_row _ w.heap.size (0 + k) _ 5 (0, 0) (heap_alloc_new w _)]
  rw [List.getElem?_toArray, Nat.zero_add]
  exact get_map hk

/-- the cells of a fault -/
def Box (w : World) (g : Nat) (y z : Int) : Prop :=
  w.cell? ⟨g, 0, none⟩ = some (.int .i64 y) ∧ w.cell? ⟨g, 1, none⟩ = some (.int .i64 z) ∧ w.cell? ⟨g, 2, none⟩ = some (.int .i64 0)
theorem Box.lift {w w' : World} {g : Nat} {y z : Int} (h : Box w g y z) (hb : Below w.heap.size w w') : Box w' g y z := by
  have hg := World.block_lt_of_cell? w _ h.1
  obtain ⟨hc, _⟩ := bcell hb
  exact ⟨by rw [hc _ _ hg]; exact h.1, by rw [hc _ _ hg]; exact h.2.1, by rw [hc _ _ hg]; exact h.2.2⟩
theorem Box.new (w : World) (y z : Int) (T : TypeId) : Box (w.alloc (.cells #[.int .i64 y, .int .i64 z, .int .i64 0] T)) w.heap.size y z := by
  refine ⟨?_, ?_, ?_⟩ <;> simp [go_sem]
theorem Box.alloc {w : World} {g : Nat} {y z : Int} (h : Box w g y z) (o : Obj) : Box (w.alloc o) g y z := h.lift ((Below.refl _ _).alloc (Nat.le_refl _) _)

theorem bnext {w wa wb : World} (h : Below w.heap.size w wa) (hb : Below wa.heap.size wa wb) : Below w.heap.size w wb := h.trans (hb.mono h.size)
theorem bnextA {w wa : World} (h : Below w.heap.size w wa) (o : Obj) : Below w.heap.size w (wa.alloc o) := h.alloc h.size o

theorem fullU_ex : fullU [9, 229, 142, 38, 9] 1 32 = (624485, 4, 0, 0) := by decide
theorem encU_ex : encU 624485 = [229, 142, 38] := by
  rw [encU_ge (by decide), encU_ge (by decide), encU_lt (by decide)]; decide
theorem encS_ex : encS (-123456) = [192, 187, 120] := by
  rw [encS_out (by decide), encS_out (by decide), encS_in (by decide) (by decide)]; decide

set_option maxHeartbeats 1000000 in
theorem alive_any (w : World) : Calls Try.prog 16 #[] w fun e w' => e = .returned (.bool true) ∧ Below w.heap.size w w' := by
  go_enter Try.func16, Try.ntmps16
  go_wp2_with fail
  refine (U_any _ [9, 229, 142, 38, 9] 1 32 _ (Rd.lit w [9, 229, 142, 38, 9]) (by decide) (by decide)).mono ?_
  rintro e w1 ⟨rfl, hb1⟩
  rw [fullU_ex]
  have hB1 : Below w.heap.size w w1 := bnext (bnextA (Below.refl _ _) _) hb1
  unfold res
  go_wp2_with fail
  refine (PutU_any _ [] 624485 _ (Rd.nil _) (by decide) (by decide) (by decide)).mono ?_
  rintro e w2 ⟨v2, rfl, ho2, hb2⟩
  have hx2 := (Box.new w1 0 0 _).lift hb2
  have hB2 := bnext (bnextA hB1 _) hb2
  rw [List.nil_append, encU_ex] at ho2
  go_wp2_with fail
  refine (same_any _ _ [229, 142, 38] _ (ho2.rd.alloc _) (Rd.lit w2 [229, 142, 38])).mono ?_
  rintro e w3 ⟨rfl, rfl⟩
  go_wp2_with fail
  refine (PutS_any _ [] (-123456) _ (Rd.nil _) (by decide) (by decide) (by decide)).mono ?_
  rintro e w4 ⟨v4, rfl, ho4, hb4⟩
  have hx4 := (hx2.alloc _).lift hb4
  have hB4 := bnext (bnextA hB2 _) hb4
  rw [List.nil_append, encS_ex] at ho4
  go_wp2_with fail
  refine (same_any _ _ [192, 187, 120] _ (ho4.rd.alloc _) (Rd.lit w4 [192, 187, 120])).mono ?_
  rintro e w5 ⟨rfl, rfl⟩
  have hlt : w1.heap.size < w4.heap.size := World.block_lt_of_cell? w4 _ hx4.1
  obtain ⟨hx40, hx41, hx42⟩ := hx4
  go_wp2
  go_ret
  exact ⟨rfl, bnextA hB4 _⟩
end Go.Proofs.Ytllnbifdapgnoaa.lb
