/- NumAll: what every operator answers of two numbers is the document's. -/
import Derived.Test.YtmikhbpffmojhaaDoorOps
import Derived.Test.YtmikhbpffmojhaaDoorEvals
set_option linter.unusedVariables false
namespace Go.Proofs.YtmikhbpffmojhaaDoor.nm
open Go.ChangeShapes Go.WideShapes Go.ChangeAt Go.RowKit

theorem mask32' (a : Int) (h : 0 ≤ a ∧ a < 18446744073709551616) : bits .and .u64 a 4294967295 = a % 4294967296 := by
  obtain ⟨n, rfl⟩ : ∃ n : Nat, a = n := ⟨a.toNat, by omega⟩
  rw [show (4294967295 : Int) = ((4294967295 : Nat) : Int) from rfl, u64_and_nat n 4294967295 (by omega) (by decide), show n &&& 4294967295 = n % 4294967296 from Nat.and_two_pow_sub_one_eq_mod n 32]
  omega
theorem mask4 (a : Int) (h : 0 ≤ a ∧ a < 18446744073709551616) : bits .and .u64 a 15 = a % 16 := by
  obtain ⟨n, rfl⟩ : ∃ n : Nat, a = n := ⟨a.toNat, by omega⟩
  rw [show (15 : Int) = ((15 : Nat) : Int) from rfl, u64_and_nat n 15 (by omega) (by decide), show n &&& 15 = n % 16 from Nat.and_two_pow_sub_one_eq_mod n 4]
  omega

/-- the first of numbers that were just put side by side -/
theorem Rd.front (w : World) (g : Nat) (hg : g = w.heap.size) (a b : Int) (t : TypeId) : Rd .u64 (w.alloc (.cells #[.int .u64 a, .int .u64 b] t)) (.slice (some ⟨g, 0, none⟩) 1 2) [a] ∧ Rd .u64 (w.alloc (.cells #[.int .u64 a, .int .u64 b] t)) (.slice (some ⟨g, 0, none⟩) 2 2) [a, b] := by
  subst hg
  have h := Rd.lit .u64 w [a, b] t
  obtain ⟨ao, cap, he, hc, hz, hr⟩ := h
  rcases hr with hr | ⟨b', off, rfl, hr⟩
  · cases hr
  have h0 := hr 0 (by simp)
  have e : (⟨w.heap.size, 0, none⟩ : Addr) = ⟨b', off, none⟩ := by injection he with he _ _; exact Option.some.inj he
  injection e with e1 e2
  subst e1; subst e2
  refine ⟨⟨_, _, rfl, by simp, (fun h => by cases h), .inr ⟨_, _, rfl, fun k hk => ?_⟩⟩, Rd.lit .u64 w [a, b] t⟩
  match k, hk with
  | 0, _ => exact h0

/-- two answers of the same numbers -/
theorem both_any (op : Int) (v : Value) (l : List Int) (w : World) (L : Laid w) (hv : Rd .u64 w v l) (hl : ∀ x ∈ l, 0 ≤ x ∧ x < 18446744073709551616) (hlen : l.length ≤ 2) :
    Calls Tryd.prog 20 #[.int .i64 op, v] w fun e w' => e = .returned (.tuple #[.int .u64 (ev op l).1, .int .i64 (ev op l).2]) ∧ Below w.heap.size w w' ∧
      Calls Tryd.prog 21 #[.int .i64 op, v] w' fun e w'' => e = .returned (.tuple #[.int .u64 (ev op l).1, .int .i64 (ev op l).2]) ∧ Below w'.heap.size w' w'' :=
  (Eval_any op v l w L.1 L.2 hv hl (by omega)).mono fun e w' ⟨he, hb⟩ => ⟨he, hb, refEval_any op v l w' (hv.lift hb) hl⟩

theorem two_ok {a b : Int} (ha : 0 ≤ a ∧ a < 18446744073709551616) (hb : 0 ≤ b ∧ b < 18446744073709551616) : (∀ x ∈ [a], 0 ≤ x ∧ x < 18446744073709551616) ∧ (∀ x ∈ [a, b], 0 ≤ x ∧ x < 18446744073709551616) := by
  constructor
  · intro x hx; rw [List.mem_singleton] at hx; subst hx; exact ha
  · intro x hx
    rcases List.mem_cons.1 hx with rfl | hx
    · exact ha
    · rw [List.mem_singleton] at hx; subst hx; exact hb

set_option maxRecDepth 100000 in
set_option maxHeartbeats 4000000 in
theorem numAll_any (a b : Int) (w : World) (L : Laid w) (ha : 0 ≤ a ∧ a < 18446744073709551616) (hb : 0 ≤ b ∧ b < 18446744073709551616) :
    Calls Tryd.prog 5 #[.int .u64 a, .int .u64 b] w fun e w' => e = .returned (.bool true) ∧ Below w.heap.size w w' := by
  have hma := mask32' a ha
  have hmb := mask32' b hb
  have hm4 := mask4 a ha
  have HL := Lib.hid L
  have Ha := Lib.hid ha
  have Hb := Lib.hid hb
  have HO := Lib.hid (refOps_any w)
  have Hlen := Lib.hid (below_len 256)
  clear L
  go_enter Tryd.func5, Tryd.ntmps5
  go_wp2_with fail
  refine HO.out.mono ?_
  rintro e w0 ⟨v, rfl, hv, hb0⟩
  have HV := Lib.hid hv
  have HB0 := Lib.hid hb0
  obtain ⟨ao, cap, rfl, hcap, _, hcl⟩ := hv
  have Hcl := Lib.hid hcl
  have HM := Lib.hid (below_mem 256)
  generalize below 256 = ol at HV Hlen Hcl HM hcap ⊢
  clear hb0 hcl hcap HO
  go_wp2
  go_loopw [17] (fun x wr => ∃ i : Nat, x = .int .i64 i ∧ i ≤ ol.length ∧ Below w0.heap.size w0 wr) (fun x _ => ol.length - (intOf x).toNat)
  case atStart => exact ⟨0, rfl, by omega, Below.refl _ _⟩
  case round =>
    obtain ⟨i, rfl, hi, hB⟩ := hrel
    have HB := Lib.hid hB
    have HBw := Lib.hid (bnext HB0.out hB)
    clear hB
    by_cases hc : i < ol.length
    · rcases Hcl.out with hnil | ⟨bk, off, rfl, hcell⟩
      · rw [hnil] at hc; cases hc
      have c0 := keeps HB.out (hcell i hc)
      have hx := HM.out (ol.getD i 0) (by rw [List.getD_eq_getElem?_getD, List.getElem?_eq_getElem hc]; exact List.getElem_mem hc)
      clear hcell
      generalize ol.getD i 0 = op at c0 hx
      have t0 : (0 : Int) ≤ i ∧ (i : Int) < ol.length := by omega
      have t1 : (ol.length : Int) ≤ 256 := by have := Hlen.out; omega
      have t2 : (i : Int) ≤ 256 := by omega
      cases hr : runAt op with
      | none => rw [of_none hr] at hx; cases hx.1
      | some r =>
        obtain ⟨hmem, _, _⟩ := runAt_spec hr
        obtain ⟨_, _, _, hof, _, htk⟩ := run_facts r hmem
        have HS := Lib.hid (refSig_some op wr r hr)
        clear hx hr hmem
        have Hsz := Lib.hid (show w0.heap.size ≤ wr.heap.size from HB.out.size)
        generalize hof2 : r.of = tt at HS hof
        clear hof2
        have Lr := Lib.hid (HL.out.lift HBw.out)
        rcases htk with htk | htk
        · rw [if_pos htk] at HS
          clear htk
          rcases hof with rfl | rfl
          · have k0 : (wr.alloc (.cells #[.int .i64 127, .int .i64 127] 3)).cell? ⟨wr.heap.size, 0, none⟩ = some (.int .i64 127) := by
              rw [cell_of_row _ wr.heap.size 0 _ 3 (0, 0) (heap_alloc_new wr _)]; rfl
            have b1 := made_below wr (.cells #[.int .i64 127, .int .i64 127] 3)
            have s1 : (wr.alloc (.cells #[.int .i64 127, .int .i64 127] 3)).heap.size = wr.heap.size + 1 := by simp [go_sem]
            generalize wr.alloc (.cells #[.int .i64 127, .int .i64 127] 3) = wa at HS k0 b1 s1
            have B1 := Lib.hid b1
            have S1 := Lib.hid s1
            have hga : wr.heap.size < wa.heap.size := by omega
            clear b1 s1
            have k1 : (wa.alloc (.cells #[.int .u64 a, .int .u64 b] 30)).cell? ⟨wr.heap.size, 0, none⟩ = some (.int .i64 127) := keeps (made_below _ _) k0
            have HU := Lib.hid (show 0 ≤ a % 4294967296 ∧ a % 4294967296 < 18446744073709551616 by omega)
            have HVv := Lib.hid (show 0 ≤ b % 4294967296 ∧ b % 4294967296 < 18446744073709551616 by omega)
            generalize a % 4294967296 = u at hma HU
            generalize b % 4294967296 = z at hmb HVv
            have s2 : (wa.alloc (.cells #[.int .u64 a, .int .u64 b] 30)).heap.size = wa.heap.size + 1 := by simp [go_sem]
            have HE := Lib.hid (both_any op (.slice (some ⟨(wa.heap.size + 1), 0, none⟩) 1 2) [u] ((wa.alloc (.cells #[.int .u64 a, .int .u64 b] 30)).alloc (.cells #[.int .u64 u, .int .u64 z] 30)) (Lr.out.lift (bnext (bnext B1.out (made_below _ _)) (made_below _ _))) ((Rd.front (wa.alloc (.cells #[.int .u64 a, .int .u64 b] 30)) (wa.heap.size + 1) s2.symm u z 30).1) ((two_ok HU.out HVv.out).1) (by simp))
            have BB := Lib.hid (bnext (bnext B1.out (made_below _ _)) (made_below (wa.alloc (.cells #[.int .u64 a, .int .u64 b] 30)) (.cells #[.int .u64 u, .int .u64 z] 30)))
            clear s2
            generalize ev op [u] = p at HE
            obtain ⟨pn, pe⟩ := p
            have n1 : (pn != pn) = false := by simp
            have n2 : (pe != pe) = false := by simp
            clear ha hb
            go_wp2_with (first
              | (go_at_call 11; refine HS.out.mono ?_; rintro e w' ⟨rfl, rfl⟩)
              | (go_at_call 20; refine HE.out.mono ?_; rintro e w1 ⟨rfl, hb1, HR⟩)
              | (go_at_call 21; refine HR.mono ?_; rintro e w2 ⟨rfl, hb2⟩))
            exact ⟨⟨i + 1, rfl, by omega, HB.out.trans ((bnext (bnext BB.out hb1) hb2).mono Hsz.out)⟩, by simp only [intOf]; omega⟩
          · have k0 : (wr.alloc (.cells #[.int .i64 126, .int .i64 126] 3)).cell? ⟨wr.heap.size, 0, none⟩ = some (.int .i64 126) := by
              rw [cell_of_row _ wr.heap.size 0 _ 3 (0, 0) (heap_alloc_new wr _)]; rfl
            have b1 := made_below wr (.cells #[.int .i64 126, .int .i64 126] 3)
            have s1 : (wr.alloc (.cells #[.int .i64 126, .int .i64 126] 3)).heap.size = wr.heap.size + 1 := by simp [go_sem]
            generalize wr.alloc (.cells #[.int .i64 126, .int .i64 126] 3) = wa at HS k0 b1 s1
            have B1 := Lib.hid b1
            have S1 := Lib.hid s1
            have hga : wr.heap.size < wa.heap.size := by omega
            clear b1 s1
            have k1 : (wa.alloc (.cells #[.int .u64 a, .int .u64 b] 30)).cell? ⟨wr.heap.size, 0, none⟩ = some (.int .i64 126) := keeps (made_below _ _) k0
            have HU := Ha
            have HVv := Hb
            have HE := Lib.hid (both_any op (.slice (some ⟨wa.heap.size, 0, none⟩) 1 2) [a] (wa.alloc (.cells #[.int .u64 a, .int .u64 b] 30)) (Lr.out.lift (bnext (B1.out) (made_below _ _))) ((Rd.front wa wa.heap.size rfl a b 30).1) ((two_ok HU.out HVv.out).1) (by simp))
            have BB := Lib.hid (bnext (B1.out) (made_below wa (.cells #[.int .u64 a, .int .u64 b] 30)))
            generalize ev op [a] = p at HE
            obtain ⟨pn, pe⟩ := p
            have n1 : (pn != pn) = false := by simp
            have n2 : (pe != pe) = false := by simp
            clear ha hb
            go_wp2_with (first
              | (go_at_call 11; refine HS.out.mono ?_; rintro e w' ⟨rfl, rfl⟩)
              | (go_at_call 20; refine HE.out.mono ?_; rintro e w1 ⟨rfl, hb1, HR⟩)
              | (go_at_call 21; refine HR.mono ?_; rintro e w2 ⟨rfl, hb2⟩))
            exact ⟨⟨i + 1, rfl, by omega, HB.out.trans ((bnext (bnext BB.out hb1) hb2).mono Hsz.out)⟩, by simp only [intOf]; omega⟩
        · rw [if_neg (by omega)] at HS
          clear htk
          rcases hof with rfl | rfl
          · have k0 : (wr.alloc (.cells #[.int .i64 127, .int .i64 127] 3)).cell? ⟨wr.heap.size, 0, none⟩ = some (.int .i64 127) := by
              rw [cell_of_row _ wr.heap.size 0 _ 3 (0, 0) (heap_alloc_new wr _)]; rfl
            have b1 := made_below wr (.cells #[.int .i64 127, .int .i64 127] 3)
            have s1 : (wr.alloc (.cells #[.int .i64 127, .int .i64 127] 3)).heap.size = wr.heap.size + 1 := by simp [go_sem]
            generalize wr.alloc (.cells #[.int .i64 127, .int .i64 127] 3) = wa at HS k0 b1 s1
            have B1 := Lib.hid b1
            have S1 := Lib.hid s1
            have hga : wr.heap.size < wa.heap.size := by omega
            clear b1 s1
            have k1 : (wa.alloc (.cells #[.int .u64 a, .int .u64 b] 30)).cell? ⟨wr.heap.size, 0, none⟩ = some (.int .i64 127) := keeps (made_below _ _) k0
            have HU := Lib.hid (show 0 ≤ a % 4294967296 ∧ a % 4294967296 < 18446744073709551616 by omega)
            have HVv := Lib.hid (show 0 ≤ b % 4294967296 ∧ b % 4294967296 < 18446744073709551616 by omega)
            generalize a % 4294967296 = u at hma HU
            generalize b % 4294967296 = z at hmb HVv
            have s2 : (wa.alloc (.cells #[.int .u64 a, .int .u64 b] 30)).heap.size = wa.heap.size + 1 := by simp [go_sem]
            have HE := Lib.hid (both_any op (.slice (some ⟨(wa.heap.size + 1), 0, none⟩) 2 2) [u, z] ((wa.alloc (.cells #[.int .u64 a, .int .u64 b] 30)).alloc (.cells #[.int .u64 u, .int .u64 z] 30)) (Lr.out.lift (bnext (bnext B1.out (made_below _ _)) (made_below _ _))) ((Rd.front (wa.alloc (.cells #[.int .u64 a, .int .u64 b] 30)) (wa.heap.size + 1) s2.symm u z 30).2) ((two_ok HU.out HVv.out).2) (by simp))
            have BB := Lib.hid (bnext (bnext B1.out (made_below _ _)) (made_below (wa.alloc (.cells #[.int .u64 a, .int .u64 b] 30)) (.cells #[.int .u64 u, .int .u64 z] 30)))
            clear s2
            generalize ev op [u, z] = p at HE
            obtain ⟨pn, pe⟩ := p
            have n1 : (pn != pn) = false := by simp
            have n2 : (pe != pe) = false := by simp
            clear ha hb
            go_wp2_with (first
              | (go_at_call 11; refine HS.out.mono ?_; rintro e w' ⟨rfl, rfl⟩)
              | (go_at_call 20; refine HE.out.mono ?_; rintro e w1 ⟨rfl, hb1, HR⟩)
              | (go_at_call 21; refine HR.mono ?_; rintro e w2 ⟨rfl, hb2⟩))
            exact ⟨⟨i + 1, rfl, by omega, HB.out.trans ((bnext (bnext BB.out hb1) hb2).mono Hsz.out)⟩, by simp only [intOf]; omega⟩
          · have k0 : (wr.alloc (.cells #[.int .i64 126, .int .i64 126] 3)).cell? ⟨wr.heap.size, 0, none⟩ = some (.int .i64 126) := by
              rw [cell_of_row _ wr.heap.size 0 _ 3 (0, 0) (heap_alloc_new wr _)]; rfl
            have b1 := made_below wr (.cells #[.int .i64 126, .int .i64 126] 3)
            have s1 : (wr.alloc (.cells #[.int .i64 126, .int .i64 126] 3)).heap.size = wr.heap.size + 1 := by simp [go_sem]
            generalize wr.alloc (.cells #[.int .i64 126, .int .i64 126] 3) = wa at HS k0 b1 s1
            have B1 := Lib.hid b1
            have S1 := Lib.hid s1
            have hga : wr.heap.size < wa.heap.size := by omega
            clear b1 s1
            have k1 : (wa.alloc (.cells #[.int .u64 a, .int .u64 b] 30)).cell? ⟨wr.heap.size, 0, none⟩ = some (.int .i64 126) := keeps (made_below _ _) k0
            have HU := Ha
            have HVv := Hb
            have HE := Lib.hid (both_any op (.slice (some ⟨wa.heap.size, 0, none⟩) 2 2) [a, b] (wa.alloc (.cells #[.int .u64 a, .int .u64 b] 30)) (Lr.out.lift (bnext (B1.out) (made_below _ _))) ((Rd.front wa wa.heap.size rfl a b 30).2) ((two_ok HU.out HVv.out).2) (by simp))
            have BB := Lib.hid (bnext (B1.out) (made_below wa (.cells #[.int .u64 a, .int .u64 b] 30)))
            generalize ev op [a, b] = p at HE
            obtain ⟨pn, pe⟩ := p
            have n1 : (pn != pn) = false := by simp
            have n2 : (pe != pe) = false := by simp
            clear ha hb
            go_wp2_with (first
              | (go_at_call 11; refine HS.out.mono ?_; rintro e w' ⟨rfl, rfl⟩)
              | (go_at_call 20; refine HE.out.mono ?_; rintro e w1 ⟨rfl, hb1, HR⟩)
              | (go_at_call 21; refine HR.mono ?_; rintro e w2 ⟨rfl, hb2⟩))
            exact ⟨⟨i + 1, rfl, by omega, HB.out.trans ((bnext (bnext BB.out hb1) hb2).mono Hsz.out)⟩, by simp only [intOf]; omega⟩
    · have he : i = ol.length := by omega
      subst he
      have H1 : Hid (∀ t n w', 0 ≤ n → n < 18446744073709551616 → Tells 22 #[.int .i64 t, .int .u64 n] w' (.bool (fits t n))) := Lib.hid (fun t n w' h0 h1 => fits_any t n w' h0 h1)
      have H2 := Lib.hid (fun t n w' => refFits_any t n w')
      have F0 : Hid (Below wr.heap.size wr wr) := Lib.hid (Below.refl _ _)
      have ff : fits (a % 16) b = false := by unfold fits; rw [if_neg (by omega)]; simp; omega
      have fa : (fits 127 a == fits 127 a) = true := by simp
      have fb : (fits 126 b == fits 126 b) = true := by simp
      have hA := Lib.hid (fun n => alive_any (wr.drewN n) (HL.out.lift (bnext HBw.out (belowN _ _))))
      obtain ⟨ha0, ha1⟩ := ha
      obtain ⟨hb0, hb1⟩ := hb
      go_wp2_with (first
        | (go_at_call 22; refine (H1.out _ _ _ (by assumption) (by assumption)).mono ?_; rintro e w' ⟨rfl, m, rfl⟩)
        | (go_at_call 23; refine (H2.out _ _ _).mono ?_; rintro e w' ⟨rfl, rfl⟩)
        | (go_at_call 19; refine (hA.out _).mono ?_; rintro e w5 ⟨rfl, hb5⟩))
      go_ret
      exact ⟨rfl, bnext HBw.out (bnext (belowN _ _) hb5)⟩

set_option maxRecDepth 100000 in
theorem numAll_lifted (os : Os) (started : os.Started) (H : Type) (enc : TypeId × Value → H) :
    ReturnsInHanded {} Tryd.checked os 5 .any (fun w args => (Rows.numAllSpec.pre enc Tryd.prog Tryd.f5 [] false w args ∧ laidMetH Tryd.prog laidL w) ∧ sizedMet enc Tryd.prog Tryd.f5 (OpenSpec.ofChange Rows.numAllSpec) false w args)
      (Rows.numAllSpec.post enc Tryd.prog Tryd.f5 false true false false) := by
  refine returnsInHanded_of_change_and (C := Tryd.checked) (X := fun w _ => laidMetH Tryd.prog laidL w) (fun _ _ _ hh h => h.of_heap hh) own started (by kernel_rfl) Tryd.func5
    (ChangeSpec.witness_shaped (enc := enc) (C := Tryd.checked) (os := os) (X := fun w _ => laidMetH Tryd.prog laidL w) false (World.doorLaid Tryd.prog 31 os) #[.int .u64 0, .int .u64 0] 8 rfl (World.shaped_of_RefB (by kernel_rfl) (by kernel_rfl)) (by kernel_rfl) (by kernel_rfl) (by kernel_rfl) (door_met os _)) ?_
  intro W base args ds gs before hval0 hW _ hsz0 hL _
  have hval : ∀ (j : Nat) t v, Tryd.f5.params[j]? = some t → args[j]? = some v → Value.okWide Tryd.prog W .any base t v := hval0
  clear hval0
  have hW' := hW
  obtain ⟨p, q, hA0, hV, rfl, _, _⟩ := hW
  have hA : DataW.TrodAll enc Tryd.prog W 0 (fun _ => true) true Tryd.f5.params.toList args.toList ds p := hA0
  rw [Tryd.params5] at hA hval
  obtain ⟨v0, vs0, d0, ds0, p0, q0, hargs, rfl, rfl, h0, r0⟩ := trodAll_cons hA
  obtain ⟨v1, vs1, d1, ds1, p1, q1, rfl, rfl, rfl, h1, r1⟩ := trodAll_cons r0
  obtain ⟨rfl, rfl, rfl⟩ := trodAll_nil r1
  obtain rfl : args = #[v0, v1] := by cases args; simp_all
  obtain ⟨rfl, rfl⟩ := trodVars_none hV
  obtain ⟨n0, rfl, rfl, rfl, wn0⟩ := open_int Tryd.underlying30 (hval 0 30 v0 rfl rfl) h0
  have hn0 : 0 ≤ n0 ∧ n0 < 18446744073709551616 := by
    simp [Lit.wf, IntKind.min, IntKind.max, IntKind.signed, IntKind.bits] at wn0; omega
  obtain ⟨n1, rfl, rfl, rfl, wn1⟩ := open_int Tryd.underlying30 (hval 1 30 v1 rfl rfl) h1
  have hn1 : 0 ≤ n1 ∧ n1 < 18446744073709551616 := by
    simp [Lit.wf, IntKind.min, IntKind.max, IntKind.signed, IntKind.bits] at wn1; omega
  refine (numAll_any n0 n1 W (of_laid hL) hn0 hn1).mono fun e W' ⟨he, hb⟩ => ?_
  subst he
  exact ⟨_, rfl, law_done rfl rfl (by rw [Tryd.params5]; intro t ht; simp at ht; rcases ht with rfl | rfl <;> exact ⟨by kernel_rfl, of_decide_eq_true (by kernel_rfl)⟩) hW' rfl rfl rfl hb⟩

theorem numAll_holds : Rows.NumAllSaid :=
  OpenClaim.holds_of_wide 5 Tryd.f5 rfl rfl rfl rfl rfl rfl rfl ⟨rfl, rfl, rfl, rfl, rfl⟩ rfl rfl rfl rfl rfl (by kernel_rfl) Tryd.func5 (by kernel_rfl)
    (of_decide_eq_true (by kernel_rfl)) (by unfold Func.isWrapper; first | (rw [if_pos (by decide +kernel)]; kernel_rfl) | (rw [if_neg (by decide +kernel)]; exact ⟨rfl, rfl⟩))
    (fun os started H enc _ => numAll_lifted os started H enc)

theorem numAll_card : Rows.NumAllCardSaid :=
  Claim7.holds_tied_plain_at .later [] [.data, .data] true (true, Rows.numAllCard.stood.harness.2) false
    numAll_holds (fun _ h => by cases h) (by kernel_rfl) (fun _ h => by cases h) numAll_row_tie rfl ⟨rfl, rfl⟩ (by kernel_rfl) rfl
    (fun f fn hf hfn => by
      obtain rfl : f = 5 := Option.some.inj ((show Tryd.prog.funcNamed "bellcrank/bellcranklaw02.NumAll" = some 5 by kernel_rfl).symm.trans hf) |>.symm
      obtain rfl : fn = Tryd.f5 := (Option.some.inj (Tryd.func5.symm.trans hfn)).symm
      exact ⟨by kernel_rfl, fun j t ht => by
        rw [Tryd.params5] at ht
        have h3 : t = 30 := by
          rcases j with _ | _ | j
          all_goals simp at ht
          all_goals simp [ht]
        rcases h3 with rfl
        · exact (show Tryd.prog.wantsStandIn 30 = false by kernel_rfl)⟩)
    (by kernel_rfl)

end Go.Proofs.YtmikhbpffmojhaaDoor.nm
