/- The contracts of Go's math/bits at 64 bits: how many zeros ahead, how many behind, how many ones. -/
import Derived.Test.YtmikhbpffmojhaaDoorWidth
import Derived.Test.YtmikhbpffmojhaaDoorLen
import Derived.Lib.Small
import Derived.Lib.Tables
import Derived.Lib.BitFns
namespace Go.Proofs.YtmikhbpffmojhaaDoor.nm
open Go.RowKit

theorem len64_any (x : Int) (w : World) (h0 : 0 ≤ x) (h1 : x ≤ 18446744073709551615) : Tells 90 #[.int .u64 x] w (.int .i64 (Lib.bitLen x.toNat)) :=
  (len64_walk x w h0 h1).mono fun _ _ ⟨he, hw⟩ => ⟨he, 0, hw⟩

theorem clz_any (x : Int) (w : World) (h0 : 0 ≤ x) (h1 : x ≤ 18446744073709551615) : Tells 57 #[.int .u64 x] w (.int .i64 (64 - (Lib.bitLen x.toNat : Int))) := by
  unfold Tells
  have l : Lib.bitLen x.toNat ≤ 64 := Lib.bitLen_le x.toNat 64 (by omega) (by omega)
  have H := Lib.hid (len64_any x w h0 h1)
  go_enter Tryd.func57, Tryd.ntmps57
  go_wp2_with (go_at_call 90; refine H.out.mono ?_; rintro e w' ⟨rfl, m, rfl⟩)
  go_ret
  exact ⟨ret_int rfl, m, rfl⟩

/-- the library's table of places -/
def Tab (w : World) : Prop := ∀ k : Nat, k < 64 → w.cell? ⟨1, k, none⟩ = some (.int .u8 (tabL.getD k 0))

def ctz0 (x : Int) : Int := if x = 0 then 64 else tz 64 x.toNat
theorem ctz_any (x : Int) (w : World) (h0 : 0 ≤ x) (h1 : x ≤ 18446744073709551615) (T : Tab w) : Tells 59 #[.int .u64 x] w (.int .i64 (ctz0 x)) := by
  unfold Tells ctz0
  by_cases h : x = 0
  · subst h
    go_enter Tryd.func59, Tryd.ntmps59
    go_wp2
    go_ret
    exact ⟨rfl, 0, rfl⟩
  · have hb : (x == 0) = false := by simp [h]
    have hx : x.toNat < 2 ^ 64 := by omega
    have hk := tz_lt 64 64 x.toNat (Nat.le_refl _) (by rw [Nat.mod_eq_of_lt hx]; omega)
    have ea : bits .and .u64 x (IntKind.u64.wrap (-x)) = ((2 ^ tz 64 x.toNat : Nat) : Int) := by
      clear hb T w
      obtain ⟨n, rfl⟩ : ∃ n : Nat, x = n := ⟨x.toNat, by omega⟩
      rw [Int.toNat_natCast] at hx ⊢
      have e1 : IntKind.u64.wrap (-(n : Int)) = ((2 ^ 64 - n : Nat) : Int) := by rw [IntKind.wrap_u64]; omega
      rw [e1, u64_and_nat _ _ (by omega) (by omega), and_neg _ (by omega) hx]
    rw [if_neg h]
    generalize tz 64 x.toNat = k at hk ea
    have et := tab_at ⟨k, hk⟩
    simp only at et
    generalize hj : 2 ^ k * 285870213051353865 % 2 ^ 64 / 2 ^ 58 = j at et
    generalize 2 ^ k = p at ea hj
    have hj64 : j < 64 := by omega
    have em : IntKind.u64.wrap ((p : Int) * 285870213051353865) / 288230376151711744 = (j : Int) := by
      have c1 : ((2 ^ 64 : Nat) : Int) = 18446744073709551616 := by decide
      have c2 : ((2 ^ 58 : Nat) : Int) = 288230376151711744 := by decide
      rw [IntKind.wrap_u64, ← hj, Int.natCast_ediv, Int.natCast_emod, Int.natCast_mul, c1, c2]; rfl
    have hcell : w.cell? ⟨1, j, none⟩ = some (.int .u8 k) := by rw [T j hj64, et]
    have hj1 : (decide ((0:Int) ≤ j) && decide ((j:Int) < 64)) = true := by simp; omega
    have hj2 : (0:Int) ≤ j ∧ (j:Int) < 64 := by omega
    have hj3 : (j : Int).toNat = j := Int.toNat_natCast j
    clear hj et
    go_enter Tryd.func59, Tryd.ntmps59
    go_wp2
    go_ret
    exact ⟨rfl, 0, rfl⟩

theorem mask_u64 (m : Nat) (n c : Nat) (hn : n < 2 ^ 64) (hc : c < 2 ^ 64) (hm : c = m) : bits .and .u64 (n : Int) (c : Int) = ((n &&& m : Nat) : Int) := by
  subst hm; exact u64_and_nat n c (by omega) (by omega)

/-- the bytes' counts, folded three times, stand in the lowest byte -/
theorem fold_sum (c0 c1 c2 c3 c4 c5 c6 c7 y : Nat) (b0 : c0 ≤ 8) (b1 : c1 ≤ 8) (b2 : c2 ≤ 8) (b3 : c3 ≤ 8) (b4 : c4 ≤ 8) (b5 : c5 ≤ 8) (b6 : c6 ≤ 8) (b7 : c7 ≤ 8)
    (hy : y = c0 + 256 * (c1 + 256 * (c2 + 256 * (c3 + 256 * (c4 + 256 * (c5 + 256 * (c6 + 256 * c7)))))))
    (z1 z2 z3 : Nat) (hz1 : z1 = y + y / 256) (hz2 : z2 = z1 + z1 / 65536) (hz3 : z3 = z2 + z2 / 4294967296) : z3 % 128 = c0 + c1 + c2 + c3 + c4 + c5 + c6 + c7 := by
  have q1 : y / 256 = c1 + 256 * (c2 + 256 * (c3 + 256 * (c4 + 256 * (c5 + 256 * (c6 + 256 * c7))))) := by clear hz1 hz2 hz3; omega
  have q2 : z1 = ((c0 + c1) + 256 * (c1 + c2)) + 65536 * ((c2 + c3) + 256 * ((c3 + c4) + 256 * ((c4 + c5) + 256 * ((c5 + c6) + 256 * ((c6 + c7) + 256 * c7))))) := by
    rw [hz1, q1, hy]; clear hz1 hz2 hz3 q1 hy; omega
  clear hz1 q1 hy
  have q3 : z1 / 65536 = (c2 + c3) + 256 * ((c3 + c4) + 256 * ((c4 + c5) + 256 * ((c5 + c6) + 256 * ((c6 + c7) + 256 * c7)))) := by
    generalize (c2 + c3) + 256 * ((c3 + c4) + 256 * ((c4 + c5) + 256 * ((c5 + c6) + 256 * ((c6 + c7) + 256 * c7)))) = R at q2
    clear hz2 hz3; omega
  have q4 : z2 = ((c0 + c1 + c2 + c3) + 256 * (c1 + c2 + c3 + c4) + 65536 * (c2 + c3 + c4 + c5) + 16777216 * (c3 + c4 + c5 + c6)) + 4294967296 * ((c4 + c5 + c6 + c7) + 256 * ((c5 + c6 + c7) + 256 * ((c6 + c7) + 256 * c7))) := by
    rw [hz2, q3, q2]; clear hz2 hz3 q3 q2; omega
  clear hz2 q3 q2
  have q5 : z2 / 4294967296 = (c4 + c5 + c6 + c7) + 256 * ((c5 + c6 + c7) + 256 * ((c6 + c7) + 256 * c7)) := by
    generalize (c4 + c5 + c6 + c7) + 256 * ((c5 + c6 + c7) + 256 * ((c6 + c7) + 256 * c7)) = R at q4
    clear hz3; omega
  rw [hz3, q5, q4]; clear hz3 q5 q4
  omega

theorem bits_and_i64 (a b : Nat) (ha : a < 9223372036854775808) (hb : b < 9223372036854775808) : bits .and .i64 (a : Int) (b : Int) = ((a &&& b : Nat) : Int) := by
  have h1 : (BitVec.ofInt 64 (a : Int)).toNat = a := ofInt_u64 a (by omega)
  have h2 : (BitVec.ofInt 64 (b : Int)).toNat = b := ofInt_u64 b (by omega)
  have h3 : a &&& b ≤ a := Nat.and_le_left
  show IntKind.i64.wrap (((BitVec.ofInt 64 (a : Int)) &&& (BitVec.ofInt 64 (b : Int))).toNat : Int) = _
  rw [BitVec.toNat_and, h1, h2]
  simp only [IntKind.wrap, IntKind.bits, IntKind.signed]
  simp
  omega

theorem ones_any (x : Int) (w : World) (h0 : 0 ≤ x) (h1 : x ≤ 18446744073709551615) : Tells 61 #[.int .u64 x] w (.int .i64 (pop 64 x.toNat)) := by
  unfold Tells
  obtain ⟨n, rfl⟩ : ∃ n : Nat, x = n := ⟨x.toNat, by omega⟩
  rw [Int.toNat_natCast]
  obtain ⟨c0, c1, c2, c3, c4, c5, c6, c7, b0, b1, b2, b3, b4, b5, b6, b7, hpop, hy⟩ := swar n
  have hn : n < 2 ^ 64 := by omega
  have lt_and : ∀ a b : Nat, a &&& b ≤ b := fun a b => Nat.and_le_right
  have o1 : ones 8 85 = 6148914691236517205 := by decide
  have o2 : ones 8 51 = 3689348814741910323 := by decide
  have o3 : ones 8 15 = 1085102592571150095 := by decide
  have a1 := lt_and (n / 2) 6148914691236517205
  have a2 := lt_and n 6148914691236517205
  have e1 : IntKind.u64.wrap (bits .and .u64 ((n : Int) / 2) 6148914691236517205 + bits .and .u64 (n : Int) 6148914691236517205) = ((s1 8 n : Nat) : Int) := by
    have t : (n : Int) / 2 = ((n / 2 : Nat) : Int) := by omega
    rw [t, show (6148914691236517205 : Int) = ((6148914691236517205 : Nat) : Int) from rfl, u64_and_nat _ _ (by omega) (by decide), u64_and_nat _ _ (by omega) (by decide), IntKind.wrap_u64, s1, o1]
    omega
  have y1 : s1 8 n ≤ 12297829382473034410 := by rw [s1, o1]; omega
  generalize s1 8 n = r at hy e1 y1
  have a3 := lt_and (r / 4) 3689348814741910323
  have a4 := lt_and r 3689348814741910323
  have e2 : IntKind.u64.wrap (bits .and .u64 ((r : Int) / 4) 3689348814741910323 + bits .and .u64 (r : Int) 3689348814741910323) = ((s2 8 r : Nat) : Int) := by
    have t : (r : Int) / 4 = ((r / 4 : Nat) : Int) := by omega
    rw [t, show (3689348814741910323 : Int) = ((3689348814741910323 : Nat) : Int) from rfl, u64_and_nat _ _ (by omega) (by decide), u64_and_nat _ _ (by omega) (by decide), IntKind.wrap_u64, s2, o2]
    omega
  have y2 : s2 8 r ≤ 7378697629483820646 := by rw [s2, o2]; omega
  generalize s2 8 r = q at hy e2 y2
  have e3 : bits .and .u64 (IntKind.u64.wrap ((q : Int) / 16 + (q : Int))) 1085102592571150095 = ((s3 8 q : Nat) : Int) := by
    have t : IntKind.u64.wrap ((q : Int) / 16 + (q : Int)) = ((q / 16 + q : Nat) : Int) := by rw [IntKind.wrap_u64]; omega
    rw [t, show (1085102592571150095 : Int) = ((1085102592571150095 : Nat) : Int) from rfl, u64_and_nat _ _ (by omega) (by decide), s3, o3]
  generalize s3 8 q = y at hy e3
  obtain ⟨z1, hz1⟩ : ∃ z : Nat, z = y + y / 256 := ⟨_, rfl⟩
  obtain ⟨z2, hz2⟩ : ∃ z : Nat, z = z1 + z1 / 65536 := ⟨_, rfl⟩
  obtain ⟨z3, hz3⟩ : ∃ z : Nat, z = z2 + z2 / 4294967296 := ⟨_, rfl⟩
  have hy' : y ≤ 578721382704613384 := by omega
  have e4 : IntKind.u64.wrap ((y : Int) + (y : Int) / 256) = (z1 : Int) := by rw [IntKind.wrap_u64]; omega
  have e5 : IntKind.u64.wrap ((z1 : Int) + (z1 : Int) / 65536) = (z2 : Int) := by rw [IntKind.wrap_u64]; omega
  have e6 : IntKind.u64.wrap ((z2 : Int) + (z2 : Int) / 4294967296) = (z3 : Int) := by rw [IntKind.wrap_u64]; omega
  have hz4 : z3 < 9223372036854775808 := by omega
  have e7 : wrap64 (z3 : Int) = z3 := by unfold wrap64; omega
  have e8 : bits .and .i64 (z3 : Int) 127 = ((pop 64 n : Nat) : Int) := by
    rw [show (127 : Int) = ((127 : Nat) : Int) from rfl, bits_and_i64 z3 127 hz4 (by decide), show z3 &&& 127 = z3 % 128 from Nat.and_two_pow_sub_one_eq_mod z3 7, hpop, fold_sum c0 c1 c2 c3 c4 c5 c6 c7 y b0 b1 b2 b3 b4 b5 b6 b7 hy z1 z2 z3 hz1 hz2 hz3]
  have K := Lib.hid (And.intro hpop (And.intro hy (And.intro hz1 (And.intro hz2 hz3))))
  clear y1 y2 hy' hz4 hpop hy hz1 hz2 hz3 b0 b1 b2 b3 b4 b5 b6 b7 a1 a2 a3 a4 o1 o2 o3 lt_and
  go_enter Tryd.func61, Tryd.ntmps61
  go_wp2
  go_ret
  exact ⟨rfl, 0, rfl⟩

end Go.Proofs.YtmikhbpffmojhaaDoor.nm
