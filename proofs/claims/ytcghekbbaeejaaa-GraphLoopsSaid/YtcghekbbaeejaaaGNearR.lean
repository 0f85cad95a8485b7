/- The document's nearest dominators: its contract; and the program's call. -/
import Derived.Test.YtcghekbbaeejaaaGTableW
import Derived.Test.YtcghekbbaeejaaaGMathD
set_option linter.unusedVariables false
set_option linter.unusedSimpArgs false
namespace Go.Proofs.Ytcghekbbaeejaaa.gr
open Go.RowKit Go.Proofs.Ytcghekbbaeejaaa.Gr

def NearT (G : List (List Nat)) (w : World) (e : Ending) (w' : World) : Prop := ∃ v, e = .returned (.tuple #[v, .int .i64 0]) ∧ gi.Own w' w.heap.size v (nearL G) ∧ Below w.heap.size w w'

set_option maxRecDepth 100000 in
set_option maxHeartbeats 4000000 in
theorem near_bad (v : Value) (L : List (List Int)) (w : World) (h : RdG w v L) (hl : L.length ≤ 140737488351232) (hr : rightB L = false) :
    Calls Try.prog 18 #[v] w fun e w' => e = .returned (.tuple #[.slice none 0 0, .int .i64 1]) ∧ w = w' := by
  have HR := Lib.hid (right_any v L w h hl)
  rw [hr] at HR
  clear hr
  go_enter Try.func18, Try.ntmps18
  go_wp2_with (go_at_call 14; refine HR.out.mono ?_; rintro e w1 ⟨rfl, rfl⟩)
  go_ret2
  exact ⟨rfl, rfl⟩
set_option maxRecDepth 100000 in
set_option maxHeartbeats 4000000 in
theorem refNear_bad (v : Value) (L : List (List Int)) (w : World) (h : RdG w v L) (hl : L.length ≤ 140737488351232) (hr : rightB L = false) :
    Calls Try.prog 19 #[v] w fun e w' => e = .returned (.tuple #[.slice none 0 0, .int .i64 1]) ∧ w = w' := by
  have HR := Lib.hid (refRight_any v L w h hl)
  rw [hr] at HR
  clear hr
  go_enter Try.func19, Try.ntmps19
  go_wp2_with (go_at_call 15; refine HR.out.mono ?_; rintro e w1 ⟨rfl, rfl⟩)
  go_ret2
  exact ⟨rfl, rfl⟩

set_option maxRecDepth 100000 in
set_option maxHeartbeats 4000000 in
theorem Near_any (v : Value) (G : List (List Nat)) (F : Fine G) (w : World) (h : RdG w v (upp G)) (hr : rightB (upp G) = true) :
    Calls Try.prog 18 #[v] w (NearT G w) := by
  have HR := Lib.hid (right_any v (upp G) w h (by rw [upp_len]; have := F.n; omega))
  rw [hr] at HR
  have HO := Lib.hid (from_any v G F w h)
  have HH := Lib.hid h
  have HN := Lib.hid (fun w' bv h1 h2 => nearest_any v bv G F w' h1 h2)
  have HU := Lib.hid (fun N (h : IsNear G N) => h.uniq (nearL_is F.wf))
  clear hr h
  go_enter Try.func18, Try.ntmps18
  go_wp2_with (first
    | (go_at_call 14; refine HR.out.mono ?_; rintro e w1 ⟨rfl, rfl⟩)
    | (go_at_call 27; refine HO.out.mono ?_; rintro e w1 ⟨g, rfl, ho, hb⟩; have HB := Lib.hid hb; have HOO := Lib.hid ho; clear ho hb)
    | (go_at_call 29; refine (HN.out _ _ (HH.out.lift HB.out) HOO.out).mono ?_; rintro e w2 ⟨v2, N2, rfl, ho2, hi2, hb2⟩))
  go_ret2
  refine ⟨_, rfl, ?_, HB.out.trans (hb2.mono HB.out.size)⟩
  rw [← HU.out N2 hi2]; exact ho2.mono HB.out.size

set_option maxRecDepth 100000 in
set_option maxHeartbeats 16000000 in
theorem refNear_any (v : Value) (G : List (List Nat)) (F : Fine G) (w : World) (h : RdG w v (upp G)) (hr : rightB (upp G) = true) :
    Calls Try.prog 19 #[v] w (NearT G w) := by
  have hn := F.n
  have HRT := Lib.hid (refRight_any v (upp G) w h (by rw [upp_len]; omega))
  rw [hr] at HRT
  have HT := Lib.hid (table_any v G F w h)
  obtain ⟨ao, cap, rfl, _, _, _⟩ := h
  rw [upp_len] at HRT HT ⊢
  clear F hr
  go_enter Try.func19, Try.ntmps19
  go_wp2_with (first
    | (go_at_call 15; refine HRT.out.mono ?_; rintro e w1 ⟨rfl, rfl⟩)
    | (go_at_call 30; refine HT.out.mono ?_; rintro e w1 ⟨gb, rfl, ht, hb1⟩; have HTB := Lib.hid ht; have HB1 := Lib.hid hb1; clear ht hb1))
  go_loopw [5, 6] (fun v5 y wr => ∃ b : Nat, y = .int .i64 b ∧ b ≤ G.length ∧ Hid (gi.Own wr w1.heap.size v5 (nearI G b)) ∧ Hid (Below w1.heap.size w1 wr)) (fun _ y _ => G.length - (intOf y).toNat)
  case atStart => exact ⟨0, rfl, Nat.zero_le _, Lib.hid (gi.Own.nil _ _), Lib.hid (Below.refl _ _)⟩
  case round =>
    obtain ⟨b, rfl, hb, HO, HB⟩ := hrel
    by_cases hlt : b < G.length
    · have hblt : (b : Int) < G.length := by omega
      have HTW := Lib.hid (HTB.out.lift HB.out)
      go_wp2
      go_loop [7, 8, 9] (fun x z y => ∃ a : Nat, y = .int .i64 a ∧ a ≤ G.length ∧ x = .int .i64 (bestI G b a).1 ∧ z = .int .i64 ((bestI G b a).2 : Nat) ∧ (bestI G b a).2 ≤ 256) (fun _ _ y => G.length - (intOf y).toNat)
      case atStart => exact ⟨0, rfl, Nat.zero_le _, rfl, rfl, by show 0 ≤ 256; omega⟩
      case round =>
        obtain ⟨a, rfl, ha, rfl, rfl, hm⟩ := hrel
        by_cases hat : a < G.length
        · have halt : (a : Int) < G.length := by omega
          have hS := bestI_succ G b a
          obtain ⟨ga, t1, t2⟩ := HTW.out a hat
          have t3 := t2 b hlt
          by_cases hab : a = b
          · have hae : ((a : Int) == (b : Int)) = true := by rw [beq_iff_eq]; omega
            have HS : Hid (bestI G b (a + 1) = bestI G b a) := by show _ = _; rw [hS]; unfold stepB; rw [if_pos (.inl hab)]
            generalize bestI G b a = s at hm HS ⊢
            clear hS t1 t2 t3 hab
            go_wp2
            go_round
            case rel => exact ⟨a + 1, by go_num, by omega, by rw [HS.out], by rw [HS.out], by rw [HS.out]; exact hm⟩
            case measure => simp [intOf]; omega
          · have hae : ((a : Int) == (b : Int)) = false := by rw [beq_eq_false_iff_ne]; omega
            cases ht : tB G a b with
            | false =>
              rw [ht] at t3
              have HS : Hid (bestI G b (a + 1) = bestI G b a) := by show _ = _; rw [hS]; unfold stepB; rw [if_pos (.inr ht)]
              generalize bestI G b a = s at hm HS ⊢
              clear hS t2 hab ht
              go_wp2
              go_round
              case rel => exact ⟨a + 1, by go_num, by omega, by rw [HS.out], by rw [HS.out], by rw [HS.out]; exact hm⟩
              case measure => simp [intOf]; omega
            | true =>
              rw [ht] at t3
              have HS : Hid (bestI G b (a + 1) = if (bestI G b a).2 < cnt G a then ((a : Int), cnt G a) else bestI G b a) := by show _ = _; rw [hS]; unfold stepB; rw [if_neg (by rintro (h | h); exact hab h; rw [ht] at h; cases h)]
              have hcl := cntI_le G a G.length
              generalize bestI G b a = s at hm HS ⊢
              clear hS t2 hab ht
              go_wp2
              go_loop [10, 11] (fun x y => ∃ c : Nat, y = .int .i64 c ∧ c ≤ G.length ∧ x = .int .i64 (cntI G a c : Nat)) (fun _ y => G.length - (intOf y).toNat)
              case atStart => exact ⟨0, rfl, Nat.zero_le _, rfl⟩
              case round =>
                obtain ⟨c, rfl, hc, rfl⟩ := hrel
                by_cases hct : c < G.length
                · have hclt : (c : Int) < G.length := by omega
                  obtain ⟨gc, s1, s2⟩ := HTW.out c hct
                  have s3 := s2 a hat
                  have hsc := cntI_succ G a c
                  have hcle := cntI_le G a c
                  clear s2 t1 t3
                  cases hx : tB G c a with
                  | false =>
                    rw [hx] at s3 hsc
                    have HSC : Hid (cntI G a (c + 1) = cntI G a c) := hsc
                    generalize cntI G a c = q at HSC hcle ⊢
                    clear hsc hx
                    go_wp2
                    go_round
                    case rel => exact ⟨c + 1, by go_num, by omega, by rw [HSC.out]⟩
                    case measure => simp [intOf]; omega
                  | true =>
                    rw [hx] at s3 hsc
                    have HSC : Hid (cntI G a (c + 1) = cntI G a c + 1) := hsc
                    generalize cntI G a c = q at HSC hcle ⊢
                    clear hsc hx
                    go_wp2
                    go_round
                    case rel => exact ⟨c + 1, by go_num, by omega, by rw [HSC.out]; go_num⟩
                    case measure => simp [intOf]; omega
                · obtain rfl : c = G.length := by omega
                  have HC : Hid (cntI G a G.length = cnt G a) := Lib.hid rfl
                  have hq : cntI G a G.length ≤ 256 := by omega
                  clear hcl t1 t3
                  by_cases hgt : s.2 < cntI G a G.length
                  · have HS2 : Hid (bestI G b (a + 1) = ((a : Int), cnt G a)) := by show _ = _; rw [HS.out, if_pos (by rw [← HC.out]; exact hgt)]
                    generalize cntI G a G.length = q at HC hq hgt ⊢
                    clear HS
                    go_wp2
                    go_round
                    case rel => exact ⟨a + 1, by go_num, by omega, by rw [HS2.out], by rw [HS2.out, ← HC.out], by rw [HS2.out]; show cnt G a ≤ 256; rw [← HC.out]; exact hq⟩
                    case measure => simp [intOf]; omega
                  · have HS2 : Hid (bestI G b (a + 1) = s) := by show _ = _; rw [HS.out, if_neg (by rw [← HC.out]; exact hgt)]
                    generalize cntI G a G.length = q at HC hq hgt ⊢
                    clear HS
                    go_wp2
                    go_round
                    case rel => exact ⟨a + 1, by go_num, by omega, by rw [HS2.out], by rw [HS2.out], by rw [HS2.out]; exact hm⟩
                    case measure => simp [intOf]; omega
        · obtain rfl : a = G.length := by omega
          have HNS := Lib.hid (nearI_succ G b)
          have HNI := Lib.hid (nearI_len G b)
          have hpl : (nearI G b).length + 1 ≤ 4398046511104 := by rw [nearI_len]; omega
          have Hb1 := HB.out.size
          generalize bestI G b G.length = s at hm HNS ⊢
          go_wp2_with (at_builtin; refine app1 (.tmp 62) (.tmp 64) rfl rfl rfl HO.out s.1 rfl rfl hpl Hb1 ?_; intro g9 cap8 w9 k1 k2 k3 k4)
          exact ⟨⟨b + 1, by go_num, by omega, Lib.hid (by rw [HNS.out]; exact k1), Lib.hid (below_grown HB.out k2 Hb1 (fun j hj => (HO.out.lt j hj).1))⟩, by simp [intOf]; omega⟩
    · obtain rfl : b = G.length := by omega
      go_wp2
      go_ret2
      exact ⟨_, rfl, HO.out.mono HB1.out.size, HB1.out.trans (HB.out.mono HB1.out.size)⟩
end Go.Proofs.Ytcghekbbaeejaaa.gr
