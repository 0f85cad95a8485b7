/- Put together by program: WChain LbGroups LbRefU WEnds WNz WHeads. -/
import Derived.Test.YtgcmdnkmnghhaaaGreatDoorZ6
import Derived.Test.YtgcmdnkmnghhaaaGreatDoorZ2
import Derived.Test.YtgcmdnkmnghhaaaGreatDoorZ3
import Derived.Test.YtgcmdnkmnghhaaaGreatDoorZ14
/- A beginning of a module's bytes that is a module ends where a section ends: in plain Lean. -/
set_option linter.unusedVariables false
namespace Go.Proofs.YtgcmdnkmnghhaaaGreatDoor.wm
open Go.Proofs.YtgcmdnkmnghhaaaGreatDoor.lb

/-- the places behind p at which sections end -/
def endsL (l : List Int) : Nat → Nat → List Int
  | 0, _ => []
  | f + 1, p => if p < l.length then
      if (decU l (p + 1) 5 16).2.2.1 ≠ 0 ∨ (l.length : Int) - (decU l (p + 1) 5 16).2.1 < (decU l (p + 1) 5 16).1 then []
      else ((decU l (p + 1) 5 16).2.1 + (decU l (p + 1) 5 16).1) :: endsL l f ((decU l (p + 1) 5 16).2.1 + (decU l (p + 1) 5 16).1).toNat
    else []

theorem decU_prefix {l : List Int} {c p : Nat} (hc : c ≤ l.length) (hp : p ≤ c) (h : (decU (l.take c) p 5 16).2.2.1 = 0) : decU l p 5 16 = decU (l.take c) p 5 16 := by
  have hl : (l.take c).length = c := by rw [List.length_take]; omega
  obtain ⟨m1, m2, m3⟩ := mk_spec (l.take c) p (by omega)
  simp only [decU] at h ⊢
  split at h
  · simp at h
  · split at h
    · simp at h
    · split at h
      · simp at h
      · rename_i a1 a2 a3
        have hm := mk_agree (l := l.take c) (l' := l) (p := p) (by omega) (by omega) rfl (by omega) (by omega) (fun k hk => (getD_take (by omega)).symm)
        have hg : l.getD (p + lb.mk (l.take c) p) 0 = (l.take c).getD (p + lb.mk (l.take c) p) 0 := (getD_take (by omega)).symm
        rw [if_neg a1, if_neg a2, if_neg a3, hm, hg, if_neg a1, if_neg (by omega), if_neg a3, vj_agree (l := l.take c) (l' := l) (n := lb.mk (l.take c) p + 1) (by omega) (by omega) (fun k hk => (getD_take (by omega)).symm)]
theorem magic_q : ∀ {cs : List Int} {l : List Int} {e p q : Nat} {u : Unit}, pMagic cs l e p = .ok u q → p ≤ e → q = p + cs.length ∧ q ≤ e
  | [], l, e, p, q, u, h, hp => by
    simp only [pMagic, P.ret, Res.ok.injEq] at h
    exact ⟨by simp; omega, by omega⟩
  | c :: cs, l, e, p, q, u, h, hp => by
    cases ho : pOctet l e p with
    | bad w a => rw [show pMagic (c :: cs) l e p = .bad w a from P.bind_bad ho] at h; cases h
    | ok x p' =>
      obtain ⟨rfl, hlt, _⟩ := octet_ok ho
      rw [show pMagic (c :: cs) l e p = _ from P.bind_ok ho] at h
      split at h
      · cases h
      · obtain ⟨h1, h2⟩ := magic_q h (by omega)
        exact ⟨by rw [List.length_cons]; omega, h2⟩
/-- a section's head -/
theorem section_head {d d' : DSt} {l : List Int} {e p p' : Nat} (hb : By l) (hp : p ≤ e) (he : e ≤ l.length) (h : pSection d l e p = .ok d' p') : p < e ∧ ∃ size q : Nat, pU l e (p + 1) = .ok (size : Int) q ∧ p' = q + size ∧ q + size ≤ e ∧ p < q := by
  cases ho : pOctet l e p with
  | bad w a => rw [show pSection d l e p = .bad w a from P.bind_bad ho] at h; cases h
  | ok s p1 =>
    obtain ⟨rfl, hlt, _⟩ := octet_ok ho
    refine ⟨hlt, ?_⟩
    have h' := (P.bind_ok (f := fun sec => if sec = 4 ∨ sec = 9 then pBack 11
      else if 11 < sec ∨ (sec ≠ 0 ∧ sec ≤ d.last) then pBack 6
      else if sec = 0 then pU.bind fun size => (pSkip size).bind fun _ => P.ret d
      else pPart (pFill { d with last := sec } sec)) ho).symm.trans h
    by_cases c1 : s = 4 ∨ s = 9
    · have h1 := (P.ite_pos c1).symm.trans h'
      simp [pBack] at h1
    · have h1 := (P.ite_neg c1).symm.trans h'
      by_cases c2 : 11 < s ∨ (s ≠ 0 ∧ s ≤ d.last)
      · have h2 := (P.ite_pos c2).symm.trans h1
        simp [pBack] at h2
      · have h2 := (P.ite_neg c2).symm.trans h1
        have hU : ∀ {n : Int} {q : Nat}, pU l e (p + 1) = .ok n q → ∃ k : Nat, n = k ∧ p < q ∧ q ≤ e := fun {n q} hu => by
          obtain ⟨u1, u2, u3, u4⟩ := u_bd hb (by omega) he hu
          exact ⟨n.toNat, by omega, by omega, by omega⟩
        by_cases c3 : s = 0
        · have h3 := (P.ite_pos c3).symm.trans h2
          cases hu : pU l e (p + 1) with
          | bad w a => rw [P.bind_bad hu] at h3; cases h3
          | ok n q =>
            obtain ⟨k, rfl, h4, h5⟩ := hU hu
            rw [P.bind_ok hu] at h3
            unfold P.bind pSkip at h3
            split at h3
            · rename_i x p2 hs
              split at hs
              · cases hs
              · simp only [Res.ok.injEq, P.ret] at hs h3
                exact ⟨k, q, rfl, by omega, by omega, h4⟩
            · cases h3
        · have h3 := (P.ite_neg c3).symm.trans h2
          cases hu : pU l e (p + 1) with
          | bad w a => rw [show pPart (pFill { d with last := s } s) l e (p + 1) = .bad w a from P.bind_bad hu] at h3; cases h3
          | ok n q =>
            obtain ⟨k, rfl, h4, h5⟩ := hU hu
            rw [show pPart (pFill { d with last := s } s) l e (p + 1) = _ from P.bind_ok hu] at h3
            split at h3
            · cases h3
            · split at h3
              · cases h3
              · split at h3
                · cases h3
                · simp only [Res.ok.injEq, Int.toNat_natCast] at h3
                  exact ⟨k, q, rfl, by omega, by omega, h4⟩
theorem by_take {l : List Int} (hb : By l) (c : Nat) : By (l.take c) := fun k => by
  by_cases hk : k < c
  · rw [getD_take hk]; exact hb k
  · rw [List.getD_eq_getElem?_getD, List.getElem?_take, if_neg hk]; decide
theorem chain {l : List Int} {c : Nat} (hb : By l) (hc : c ≤ l.length) : ∀ (fuel f p : Nat) (d d' : DSt) (q : Nat), p ≤ c → c - p ≤ f → pSections fuel d (l.take c) c p = .ok d' q → (c : Int) ∈ (p : Int) :: endsL l f p
  | 0, f, p, d, d', q, hp, hf, h => by simp [pSections, pFail] at h
  | fuel + 1, f, p, d, d', q, hp, hf, h => by
    have hl : (l.take c).length = c := by rw [List.length_take]; omega
    by_cases hlt : p < c
    · simp only [pSections, if_pos hlt] at h
      cases hs : pSection d (l.take c) c p with
      | bad w a => rw [P.bind_bad hs] at h; cases h
      | ok d1 p1 =>
        rw [P.bind_ok hs] at h
        obtain ⟨_, size, q1, hu, rfl, h2, h3⟩ := section_head (by_take hb c) hp (by omega) hs
        obtain ⟨f', rfl⟩ : ∃ f', f = f' + 1 := ⟨f - 1, by omega⟩
        have ih := chain hb hc fuel f' (q1 + size) d1 d' q h2 (by omega) h
        have ht : (l.take c).take c = l.take c := by rw [List.take_of_length_le (by omega)]
        unfold pU pNum at hu
        simp only [ht] at hu
        split at hu
        · rename_i h0
          have hD := decU_prefix (l := l) (p := p + 1) hc (by omega) h0
          obtain ⟨hf1, _⟩ := (show ((decU (l.take c) (p + 1) 5 16).2.2.1 = 0 → ∃ q : Nat, (decU (l.take c) (p + 1) 5 16).2.1 = q) ∧ True from ⟨fun h0 => by
            simp only [decU] at h0 ⊢
            split at h0
            · simp at h0
            · split at h0
              · simp at h0
              · split at h0
                · simp at h0
                · rename_i a1 a2 a3
                  rw [if_neg a1, if_neg a2, if_neg a3]
                  exact ⟨_, rfl⟩, trivial⟩)
          obtain ⟨q', hq'⟩ := hf1 h0
          simp only [Res.ok.injEq] at hu
          obtain ⟨hu1, hu2⟩ := hu
          rw [hq', Int.toNat_natCast] at hu2
          subst hu2
          right
          rw [endsL, if_pos (by omega), hD, h0, hq', hu1, if_neg (by omega)]
          have e : ((q' : Int) + (size : Int)).toNat = q' + size := by omega
          rw [e]
          have : ((q' + size : Nat) : Int) = (q' : Int) + size := by omega
          rw [← this]
          exact ih
        · cases hu
    · have : p = c := by omega
      subst this
      exact List.mem_cons_self ..
/-- WasmHeads in plain Lean -/
theorem heads_end {l : List Int} {c : Nat} {m : GMod} {q : Nat} (hb : By l) (hc : c ≤ l.length) (h : decodeM (l.take c) = .ok m q) : (c : Int) ∈ (8 : Int) :: endsL l l.length 8 := by
  have hl : (l.take c).length = c := by rw [List.length_take]; omega
  unfold decodeM at h
  split at h
  · cases h
  · rw [hl] at h
    cases hm : pMagic magicL (l.take c) c 0 with
    | bad w a => rw [show pModule (l.take c) c 0 = .bad w a from P.bind_bad hm] at h; cases h
    | ok u q0 =>
      obtain ⟨h1, h2⟩ := magic_q hm (Nat.zero_le _)
      rw [show pModule (l.take c) c 0 = _ from P.bind_ok hm] at h
      have h1 : q0 = 8 := h1
      subst h1
      split at h
      · cases h
      · rename_i d q1 hs
        exact chain hb hc _ l.length 8 _ d q1 h2 (by omega) hs
theorem heads_len {l : List Int} {m : GMod} {q : Nat} (h : decodeM l = .ok m q) : 8 ≤ l.length := by
  unfold decodeM at h
  split at h
  · cases h
  · cases hm : pMagic magicL l l.length 0 with
    | bad w a => rw [show pModule l l.length 0 = .bad w a from P.bind_bad hm] at h; cases h
    | ok u q0 =>
      obtain ⟨h1, h2⟩ := magic_q hm (Nat.zero_le _)
      have h1 : q0 = 8 := h1
      omega
end Go.Proofs.YtgcmdnkmnghhaaaGreatDoor.wm

/- The contracts of the document's own most and groups. -/
namespace Go.Proofs.YtgcmdnkmnghhaaaGreatDoor.lb
open Go.RowKit

def mostOf (bits : Int) : Int := if bits = 32 then 5 else if bits = 64 then 10 else 0

set_option maxHeartbeats 400000 in
theorem most_any (bits : Int) (w : World) : Calls Tryz.prog 52 #[.int .i64 bits] w fun e w' => e = .returned (.int .i64 (mostOf bits)) ∧ w = w' := by
  unfold mostOf
  by_cases h1 : bits = 32
  · subst h1
    go_enter Tryz.func52, Tryz.ntmps52
    go_wp2
    go_ret
    exact ⟨rfl, rfl⟩
  · by_cases h2 : bits = 64
    · subst h2
      go_enter Tryz.func52, Tryz.ntmps52
      go_wp2
      go_ret
      exact ⟨rfl, rfl⟩
    · rw [if_neg h1, if_neg h2]
      have b1 : (bits == 32) = false := by rw [beq_eq_false_iff_ne]; exact h1
      have b2 : (bits == 64) = false := by rw [beq_eq_false_iff_ne]; exact h2
      clear h1 h2
      go_enter Tryz.func52, Tryz.ntmps52
      go_wp2
      go_ret
      exact ⟨rfl, rfl⟩

/-- the groups of so many bytes from a place on -/
def digs (l : List Int) (a j : Nat) : List Int := ((l.drop a).take j).map (· % 128)

theorem digs_len (l : List Int) (a j : Nat) (h : a + j ≤ l.length) : (digs l a j).length = j := by
  unfold digs; rw [List.length_map, List.length_take, List.length_drop]; omega
theorem digs_succ (l : List Int) (a j : Nat) (h : a + j < l.length) : digs l a (j + 1) = digs l a j ++ [l.getD (a + j) 0 % 128] := by
  unfold digs
  have hl : j < (l.drop a).length := by rw [List.length_drop]; omega
  rw [List.take_succ_eq_append_getElem hl, List.map_append]
  have : (l.drop a)[j] = l.getD (a + j) 0 := by
    rw [← getD_drop, List.getD_eq_getElem?_getD, List.getElem?_eq_getElem hl]; rfl
  rw [← this]; rfl
theorem digs_get (l : List Int) (a n j : Nat) (h : a + n ≤ l.length) (hj : j < n) : (digs l a n).getD j 0 = l.getD (a + j) 0 % 128 := by
  unfold digs
  rw [List.getD_eq_getElem?_getD, List.getElem?_map, List.getElem?_take, if_pos hj, List.getElem?_drop, List.getD_eq_getElem?_getD, List.getElem?_eq_getElem (by omega)]
  rfl

theorem Own.setCell_below {w : World} {B : Nat} {v : Value} {xs : List Int} (h : Own w B v xs) {p : Addr} (hp : p.block < B) (u : Value) : Own (w.setCell p u) B v xs := ownsRow_setCell_below h hp u

theorem Own.shape {w : World} {B : Nat} {v : Value} {xs : List Int} (h : Own w B v xs) : ∃ ao cap, v = .slice ao xs.length cap := by
  obtain ⟨ao, cap, h, _⟩ := h.rd.data
  exact ⟨ao, cap, h⟩

/-- what groups answers: the groups or nil, the place behind them, the fault -/
def gres (v : Value) (x y z : Int) : Ending := .returned (.tuple #[v, .int .i64 x, .agg #[.int .i64 y, .int .i64 z, .int .i64 0]])

/-- the outcome of groups, k at most -/
def GOut (l : List Int) (a k : Nat) (w : World) (e : Ending) (w' : World) : Prop :=
  (k ≤ mk l a ∧ e = gres (.slice none 0 0) 0 3 ((a + (k - 1) : Nat) : Int)) ∨
  (mk l a < k ∧ a + mk l a = l.length ∧ e = gres (.slice none 0 0) 0 4 (l.length : Int)) ∨
  (mk l a < k ∧ a + mk l a < l.length ∧ ∃ v, e = gres v ((a + mk l a : Nat) + 1 : Int) 0 0 ∧ Own w' (w.heap.size + 1) v (digs l a (mk l a + 1)))

set_option maxHeartbeats 2000000 in
theorem groups_any (v : Value) (l : List Int) (a k : Nat) (w : World) (hv : Rd w v l) (hr : ∀ x ∈ l, 0 ≤ x ∧ x < 256) (hl : l.length ≤ 281474976710656) (ha : a ≤ l.length) (hk1 : 1 ≤ k) (hk : k ≤ 10) :
    Calls Tryz.prog 53 #[v, .int .i64 a, .int .i64 k] w fun e w' => GOut l a k w e w' ∧ Below w.heap.size w w' := by
  obtain ⟨ao, cap, rfl, hcap, _, hcells⟩ := hv
  obtain ⟨m1, m2, m3⟩ := mk_spec l a ha
  obtain ⟨m, hm⟩ : ∃ m, m = mk l a := ⟨_, rfl⟩
  rw [← hm] at m1
  have Hm := Lib.hid hm
  have Hcells := Lib.hid hcells
  have M2 := Lib.hid m2
  have M3 := Lib.hid m3
  have Hr := Lib.hid hr
  clear hcells m2 m3 hr hm
  go_enter Tryz.func53, Tryz.ntmps53
  go_wp2
  go_loopw [9, 10] (fun v x wr => ∃ (i j : Nat), Hid (i = a + j) ∧ i ≤ a + m ∧ j < k ∧ x = .int .i64 i ∧ Own wr (w.heap.size + 1) v (digs l a j) ∧ Below (w.heap.size + 1) (w.alloc (.cells #[.int .i64 0, .int .i64 0, .int .i64 0] 33)) wr) (fun _ x _ => l.length + 1 - (intOf x).toNat)
  case atStart => exact ⟨a, 0, rfl, by omega, by omega, rfl, Own.nil _ _, Below.refl _ _⟩
  case round =>
    obtain ⟨i, j, HE, hi, hjk, rfl, hown, hBr⟩ := hrel
    obtain ⟨hc2, hf2⟩ := bcell (W := w.alloc (.cells #[.int .i64 0, .int .i64 0, .int .i64 0] 33)) (by simpa using hBr)
    have hBr0 : Below w.heap.size w wr := ((Below.refl _ _).alloc (Nat.le_refl _) _).trans (hBr.mono (by omega))
    have fin : ∀ y z : Int, Below w.heap.size w (((wr.setCell ⟨w.heap.size, 0, none⟩ (.int .i64 y)).setCell ⟨w.heap.size, 1, none⟩ (.int .i64 z)).setCell ⟨w.heap.size, 2, none⟩ (.int .i64 0)) := fun y z =>
      ((hBr0.setCell (Nat.le_refl _) _).setCell (Nat.le_refl _) _).setCell (Nat.le_refl _) _
    by_cases hlt : i < l.length
    · obtain ⟨b, off, rfl, hcell⟩ : ∃ b off, ao = some ⟨b, off, none⟩ ∧ w.cell? ⟨b, off + i, none⟩ = some (.int .u8 (l.getD i 0)) := by
        rcases Hcells.out with h | ⟨b, off, rfl, h⟩
        · subst h; simp at hlt
        · exact ⟨b, off, rfl, h i hlt⟩
      have hbs : b < w.heap.size := World.block_lt_of_cell? w _ hcell
      obtain ⟨c, hcc⟩ : ∃ c, c = l.getD i 0 := ⟨_, rfl⟩
      rw [← hcc] at hcell
      have hc0 : 0 ≤ c ∧ c < 256 := by
        rw [hcc, List.getD_eq_getElem?_getD, List.getElem?_eq_getElem hlt]; exact Hr.out _ (List.getElem_mem hlt)
      obtain ⟨hc0, hc1⟩ := hc0
      have hcr : wr.cell? ⟨b, off + i, none⟩ = some (.int .u8 c) := by rw [hBr0.cell (p := ⟨b, off + i, none⟩) hbs]; exact hcell
      have hdl : (digs l a j).length = j := digs_len l a j (by have := HE.out; omega)
      have hlen : (digs l a j).length + 1 ≤ 140737488355328 := by omega
      have hB := hBr.size
      simp only [World.size_alloc] at hB
      have Hcc := Lib.hid hcc
      have HS : Hid (digs l a (j + 1) = digs l a j ++ [c % 128]) := by
        have h := digs_succ l a j (by have := HE.out; omega)
        rw [← HE.out, ← Hcc.out] at h; exact h
      have HQ : Hid (∀ w1 : World, Below (w.heap.size + 1) (w.alloc (.cells #[.int .i64 0, .int .i64 0, .int .i64 0] 33)) w1 → w1.cell? ⟨b, off + i, none⟩ = some (.int .u8 c) ∧ (∀ b o, b < (w.alloc (.cells #[.int .i64 0, .int .i64 0, .int .i64 0] 33)).heap.size → w1.cell? ⟨b, o, none⟩ = (w.alloc (.cells #[.int .i64 0, .int .i64 0, .int .i64 0] 33)).cell? ⟨b, o, none⟩) ∧ (∀ b o, b < (w.alloc (.cells #[.int .i64 0, .int .i64 0, .int .i64 0] 33)).heap.size → w1.frozen? ⟨b, o, none⟩ = (w.alloc (.cells #[.int .i64 0, .int .i64 0, .int .i64 0] 33)).frozen? ⟨b, o, none⟩)) := by
        intro w1 hB1
        have h := bcell (W := w.alloc (.cells #[.int .i64 0, .int .i64 0, .int .i64 0] 33)) (by simpa using hB1)
        refine ⟨?_, h⟩
        rw [h.1 b (off + i) (by simp; omega), World.cell?_alloc_past _ _ _ hbs]; exact hcell
      have HB0 : Hid (∀ w1 : World, Below (w.heap.size + 1) (w.alloc (.cells #[.int .i64 0, .int .i64 0, .int .i64 0] 33)) w1 → Below w.heap.size w w1) := fun w1 h => ((Below.refl _ _).alloc (Nat.le_refl _) _).trans (h.mono (by omega))
      clear hcc fin hc2 hf2
      by_cases hm : c < 128
      · have hmi : Hid (mk l a = j) := by
          show _ = _
          have := HE.out
          have := Hm.out
          by_cases h : j < mk l a
          · have := M2.out j h; rw [← HE.out, ← Hcc.out] at this; omega
          · omega
        go_wp2_with (at_builtin; refine wpList_append_byte (.tmp 21) (.tmp 27) rfl rfl rfl hown (c % 128) rfl hlen hB hBr ?_; intro v' w1 Ho1 hB1; obtain ⟨hcr1, hc2, hf2⟩ := HQ.out w1 hB1)
        exact bodyPost_ret (v := .tuple #[v', .int .i64 (i + 1), .agg #[.int .i64 0, .int .i64 0, .int .i64 0]]) (by simp [results, Tryz.results53, go_sem, hc2]) rfl
          ⟨.inr (.inr ⟨by have := hmi.out; omega, by have := hmi.out; have := HE.out; omega, v', by rw [hmi.out, ← HE.out]; rfl, by rw [hmi.out, HS.out]; exact ((Ho1.setCell_below (by simp) _).setCell_below (by simp) _).setCell_below (by simp) _⟩), (((HB0.out w1 hB1).setCell (Nat.le_refl _) _).setCell (Nat.le_refl _) _).setCell (Nat.le_refl _) _⟩
      · have hon : i + 1 ≤ a + m := by
          have := HE.out
          have := Hm.out
          by_cases h : a + mk l a = i
          · have := M3.out (by omega); rw [h, ← Hcc.out] at this; omega
          · omega
        by_cases hlast : j + 1 = k
        · have hq : ((j : Int) + 1 == (k : Int)) = true := by rw [beq_iff_eq]; omega
          have Hlast := Lib.hid hlast
          clear hlast
          go_wp2_with (at_builtin; refine wpList_append_byte (.tmp 21) (.tmp 27) rfl rfl rfl hown (c % 128) rfl hlen hB hBr ?_; intro v' w1 Ho1 hB1; obtain ⟨hcr1, hc2, hf2⟩ := HQ.out w1 hB1; obtain ⟨ao', cap', rfl⟩ := Ho1.shape)
          exact bodyPost_ret (v := .tuple #[.slice none 0 0, .int .i64 0, .agg #[.int .i64 3, .int .i64 i, .int .i64 0]]) (by simp [results, Tryz.results53, go_sem, hc2]) rfl
            ⟨.inl ⟨by have := Hm.out; have := HE.out; have := Hlast.out; omega, by rw [show a + (k - 1) = i from by have := HE.out; have := Hlast.out; omega]; rfl⟩, (((HB0.out w1 hB1).setCell (Nat.le_refl _) _).setCell (Nat.le_refl _) _).setCell (Nat.le_refl _) _⟩
        · have hq : ((j : Int) + 1 == (k : Int)) = false := by rw [beq_eq_false_iff_ne]; omega
          go_wp2_with (at_builtin; refine wpList_append_byte (.tmp 21) (.tmp 27) rfl rfl rfl hown (c % 128) rfl hlen hB hBr ?_; intro v' w1 Ho1 hB1; obtain ⟨hcr1, hc2, hf2⟩ := HQ.out w1 hB1; obtain ⟨ao', cap', rfl⟩ := Ho1.shape)
          go_roundw
          case rel => exact ⟨i + 1, j + 1, by show _ = _; have := HE.out; omega, hon, by omega, by go_num, by rw [HS.out]; simpa [hdl] using Ho1, hB1⟩
          case measure => simp [intOf]; omega
    · have hil : i = l.length := by omega
      clear hlt
      have Hil := Lib.hid hil
      clear hil
      have hge : (l.length : Int) ≤ i := by have := Hil.out; omega
      go_wp2
      exact bodyPost_ret (v := .tuple #[.slice none 0 0, .int .i64 0, .agg #[.int .i64 4, .int .i64 l.length, .int .i64 0]]) (by simp [results, Tryz.results53, go_sem, hc2]) rfl
        ⟨.inr (.inl ⟨by have := Hm.out; have := HE.out; have := Hil.out; omega, by have := Hm.out; have := Hil.out; omega, rfl⟩), fin _ _⟩
end Go.Proofs.YtgcmdnkmnghhaaaGreatDoor.lb

/- The contract of the document's own U. -/
namespace Go.Proofs.YtgcmdnkmnghhaaaGreatDoor.lb
open Go.RowKit

/-- a fault's cells, made ahead of a call, read behind it as they were made -/
theorem box3 {w w2 : World} {x y z : Value} {T : TypeId} (hb : Below (w.alloc (.cells #[x, y, z] T)).heap.size (w.alloc (.cells #[x, y, z] T)) w2) :
    w2.cell? ⟨w.heap.size, 0, none⟩ = some x ∧ w2.cell? ⟨w.heap.size, 1, none⟩ = some y ∧ w2.cell? ⟨w.heap.size, 2, none⟩ = some z ∧
    w2.frozen? ⟨w.heap.size, 0, none⟩ = false ∧ w2.frozen? ⟨w.heap.size, 1, none⟩ = false ∧ w2.frozen? ⟨w.heap.size, 2, none⟩ = false := by
  obtain ⟨hc, hf⟩ := bcell hb
  have h : w.heap.size < (w.alloc (.cells #[x, y, z] T)).heap.size := by simp
  refine ⟨?_, ?_, ?_, ?_, ?_, ?_⟩
  · rw [hc _ _ h]; simp [go_sem]
  · rw [hc _ _ h]; simp [go_sem]
  · rw [hc _ _ h]; simp [go_sem]
  · rw [hf _ _ h]; simp [go_sem]
  · rw [hf _ _ h]; simp [go_sem]
  · rw [hf _ _ h]; simp [go_sem]

theorem Below.setC {B : Nat} {a w : World} (b o : Nat) (u : Value) (hp : B ≤ b) (h : Below B a w) : Below B a (w.setCell ⟨b, o, none⟩ u) := h.setCell hp u
theorem Below.al {B : Nat} {a w : World} (o : Obj) (hB : B ≤ w.heap.size) (h : Below B a w) : Below B a (w.alloc o) := h.alloc hB o

theorem Own.cells' {w : World} {B : Nat} {v : Value} {xs : List Int} (h : Own w B v xs) (hx : xs ≠ []) : ∃ b cap, v = .slice (some ⟨b, 0, none⟩) xs.length cap ∧ B ≤ b ∧ b < w.heap.size ∧ ∀ k, k < xs.length → w.cell? ⟨b, k, none⟩ = some (.int .u8 (xs.getD k 0)) := by
  have hl := h.lt
  have hc := fun (g : Nat) hg => World.ownsRow.cells h (g := g) hg
  rcases h.2 with ⟨_, h0⟩ | ⟨g, cap, cur, rfl, hb, _⟩
  · exact absurd (List.eq_nil_of_length_eq_zero h0) hx
  · refine ⟨g, cap, rfl, hb, (hl g rfl).2, fun k hk => ?_⟩
    have := hc g rfl k _ (get_map hk)
    rwa [add_lit, Nat.zero_add] at this

set_option maxHeartbeats 4000000 in
theorem refU_32 (v : Value) (l : List Int) (a : Nat) (w : World) (hv : Rd w v l) (hr : ∀ x ∈ l, 0 ≤ x ∧ x < 256) (hl : l.length ≤ 281474976710656) (ha : a ≤ l.length) :
    Calls Tryz.prog 30 #[v, .int .i64 a, .int .i64 32] w fun e w' => e = res .u64 (decU l a 5 16) ∧ Below w.heap.size w w' := by
  have HG := fun o => groups_any v l a 5 (w.alloc o) (hv.alloc o) hr hl ha (by decide) (by decide)
  obtain ⟨ao, cap, rfl, hcap, _, hcells⟩ := hv
  obtain ⟨m1, m2, m3⟩ := mk_spec l a ha
  obtain ⟨m, hm⟩ : ∃ m, m = mk l a := ⟨_, rfl⟩
  rw [← hm] at m1
  have Hm := Lib.hid hm
  have M2 := Lib.hid m2
  have M3 := Lib.hid m3
  have Hr := Lib.hid hr
  have HGG := Lib.hid HG
  clear hcells m2 m3 hr hm HG
  have ha0 : decide ((a : Int) < 0) = false := by rw [decide_eq_false_iff_not]; omega
  have ha1 : decide (l.length < a) = false := by rw [decide_eq_false_iff_not]; omega
  go_enter Tryz.func30, Tryz.ntmps30
  go_wp2_with (go_at_call 52; refine (most_any _ _).mono ?_; rintro e w' ⟨rfl, rfl⟩; rw [show mostOf 32 = 5 from rfl])
  refine (HGG.out _).mono ?_
  rintro e w2 ⟨hG, hb2⟩
  obtain ⟨hc20, hc21, hc22, hf20, hf21, hf22⟩ := box3 hb2
  have hbase : Below w.heap.size w w2 := ((Below.refl _ _).alloc (Nat.le_refl _) _).trans (hb2.mono (by simp))
  have hsz : w.heap.size < w2.heap.size := by have := hb2.size; simp at this; omega
  rcases hG with ⟨hk, rfl⟩ | ⟨hk, hk2, rfl⟩ | ⟨hk, hk2, v', rfl, hown⟩
  · have HD := Lib.hid (decU_leb l a 5 16 hk)
    unfold gres
    go_wp2
    go_region
    go_wp2
    exact bodyPost_ret (v := .tuple #[.int .u64 0, .int .i64 0, .agg #[.int .i64 3, .int .i64 ((a : Int) + 4), .int .i64 0]]) (by simp [results, Tryz.results30, go_sem, hsz, hc20, hc21, hc22]) rfl
      ⟨by rw [HD.out]; rfl, by repeat (first | exact hbase | refine Below.drew ?_ | refine Below.setC _ _ _ (Nat.le_refl _) ?_ | refine Below.al _ (by simp [World.setCell]; omega) ?_)⟩
  · have HD := Lib.hid (decU_end l a 5 16 hk hk2)
    unfold gres
    clear hk hk2
    go_wp2
    go_region
    go_wp2
    exact bodyPost_ret (v := .tuple #[.int .u64 0, .int .i64 0, .agg #[.int .i64 4, .int .i64 l.length, .int .i64 0]]) (by simp [results, Tryz.results30, go_sem, hsz, hc20, hc21, hc22]) rfl
      ⟨by rw [HD.out]; rfl, by repeat (first | exact hbase | refine Below.drew ?_ | refine Below.setC _ _ _ (Nat.le_refl _) ?_ | refine Below.al _ (by simp [World.setCell]; omega) ?_)⟩
  · rw [← Hm.out] at hk hk2 hown
    have hdl0 := digs_len l a (m + 1) (by omega)
    obtain ⟨b, cp, rfl, hbb, hbs, hcells⟩ := hown.cells' (by intro h; rw [h] at hdl0; simp at hdl0)
    have hbne : w.heap.size ≠ b := by simp at hbb; omega
    rw [hdl0] at hcells ⊢
    have Hcells := Lib.hid hcells
    clear hdl0 hcells hown
    rw [show (((a + mk l a : Nat) + 1 : Int)) = ((a + m + 1 : Nat) : Int) from by rw [Hm.out]; rfl]
    obtain ⟨nx, hnx⟩ : ∃ nx : Nat, nx = a + m + 1 := ⟨_, rfl⟩
    rw [← hnx]
    have Hnx := Lib.hid hnx
    have hnxb : 1 ≤ nx ∧ nx ≤ l.length := by omega
    obtain ⟨hnx1, hnx2⟩ := hnxb
    clear hnx
    unfold gres
    go_wp2
    go_loop [13, 14] (fun n x => ∃ (j : Nat) (t : Int), St l a j (a + j) (7 * (j : Int)) t ∧ j ≤ m + 1 ∧ 0 ≤ t ∧ t < 18446744073709551616 ∧ Hid (j = 5 → l.getD (a + 4) 0 < 16) ∧ n = .int .u64 t ∧ x = .int .i64 j) (fun _ x => m + 1 - (intOf x).toNat)
    case atStart => exact ⟨0, 0, St.zero l a, by omega, by omega, by omega, (fun h => by omega), rfl, rfl⟩
    case round =>
      obtain ⟨j, t, HE, hj, ht0, ht1, HF, rfl, rfl⟩ := hrel
      by_cases hlt : j < m + 1
      · obtain ⟨c, hcc⟩ : ∃ c, c = l.getD (a + j) 0 := ⟨_, rfl⟩
        have hil : a + j < l.length := by omega
        have hc0 : 0 ≤ c ∧ c < 256 := by
          rw [hcc, List.getD_eq_getElem?_getD, List.getElem?_eq_getElem hil]; exact Hr.out _ (List.getElem_mem hil)
        obtain ⟨hc0, hc1⟩ := hc0
        obtain ⟨d, hd⟩ : ∃ d, d = c % 128 := ⟨_, rfl⟩
        have hd0 : 0 ≤ d := by omega
        have hd1 : d < 128 := by omega
        have hcell : w2.cell? ⟨b, j, none⟩ = some (.int .u8 d) := by
          rw [Hcells.out j hlt, digs_get l a (m + 1) j (by omega) hlt, ← hcc, ← hd]
        have HS := HE.succ hil hcc
        have HB := HE.bd
        obtain ⟨t', ht'⟩ : ∃ t', t' = t + d * 2 ^ (7 * (j : Int)).toNat := ⟨_, rfl⟩
        rw [← hd, ← ht'] at HS
        have Hd := Lib.hid hd
        have Hcc := Lib.hid hcc
        have HT := Lib.hid ht'
        have hHS : St l a (j + 1) (a + (j + 1)) (7 * ((j + 1 : Nat) : Int)) t' := by
          rw [show (7 * ((j + 1 : Nat) : Int)) = 7 * (j : Int) + 7 from by omega]; exact HS
        clear hd hcc ht' HS
        by_cases hk1 : j = 4
        · have hmj : m = 4 := by omega
          subst hk1
          have Hmj := Lib.hid hmj
          clear hmj
          have hc7 : c < 128 := by
            have := M3.out (by rw [← Hm.out]; omega)
            rw [← Hm.out, Hmj.out, ← Hcc.out] at this; exact this
          have hdc : d = c := by rw [Hd.out]; omega
          have Hdc := Lib.hid hdc
          clear hdc
          by_cases hfit : c < 16
          · have hdf : d < 16 := by rw [Hdc.out]; exact hfit
            have hpn : (2 : Int) ^ (28 : Nat) = 268435456 := rfl
            have hB2 : t < 268435456 := by have := HB.2; rw [show (7 * ((4 : Nat) : Int)).toNat = 28 from rfl, hpn] at this; exact this
            have HT2 : Hid (t' = t + d * 268435456) := by show _ = _; rw [HT.out, show (7 * ((4 : Nat) : Int)).toNat = 28 from rfl, hpn]
            have hor : bits BinOp.or IntKind.u64 t (d * 268435456) = t' := by
              rw [u64_or t _ ht0 ht1 (by omega) (by omega), HT2.out]
              have h := or_add t d 28 ht0 (by rw [hpn]; exact hB2) hd0
              rw [hpn] at h
              exact h
            have ht'0 : 0 ≤ t' := by have := HT2.out; omega
            have ht'1 : t' < 18446744073709551616 := by have := HT2.out; omega
            have HF' : Hid ((5 : Nat) = 5 → l.getD (a + 4) 0 < 16) := fun _ => by rw [← Hcc.out]; exact hfit
            clear hpn hB2 HT2 HT HB
            go_wp2
            go_round
            case rel => exact ⟨5, t', hHS, by have := Hmj.out; omega, ht'0, ht'1, fun _ => HF'.out rfl, rfl, rfl⟩
            case measure => have := Hmj.out; simp [intOf]; omega
          · have hdf : 16 ≤ d := by rw [Hdc.out]; omega
            have HD := Lib.hid (decU_fin_leb (k := 5) (lim := 16) HE Hm.out (by omega) hil Hcc.out (by omega) (by omega))
            have HDN : Hid ((nx : Int) - 1 = ((a + 4 : Nat) : Int)) := by show _ = _; have := Hnx.out; have := Hmj.out; omega
            clear HT HB
            go_wp2
            exact bodyPost_ret (v := .tuple #[.int .u64 0, .int .i64 0, .agg #[.int .i64 3, .int .i64 ((nx : Int) - 1), .int .i64 0]]) (by simp [results, Tryz.results30, go_sem, hsz, hc20, hc21, hc22]) rfl
              ⟨by rw [HD.out, HDN.out]; rfl, by repeat (first | exact hbase | refine Below.drew ?_ | refine Below.setC _ _ _ (Nat.le_refl _) ?_ | refine Below.al _ (by simp [World.setCell]; omega) ?_)⟩
        · have hstep := HE.step hil Hcc.out (by omega) (by omega)
          rw [← Hd.out, ← HT.out] at hstep
          obtain ⟨hs0, hs1, hs2, hs3, hs4⟩ := hstep
          have hor : bits BinOp.or IntKind.u64 t (IntKind.u64.wrap (d * 2 ^ (7 * j))) = t' := by
            rw [← show (7 * (j : Int)).toNat = 7 * j from by omega, wrap_u64, Int.emod_eq_of_lt hs3 (by omega), u64_or t _ ht0 ht1 hs3 (by omega), or_add _ _ _ ht0 HB.2 hd0, ← HT.out]
          have hq : ((j : Int) == 4) = false := by rw [beq_eq_false_iff_ne]; omega
          have ht'1 : t' < 18446744073709551616 := by omega
          clear HB hs1 hs3 hs4
          go_wp2
          go_round
          case rel => exact ⟨j + 1, t', hHS, by omega, hs0, ht'1, (fun h => by omega), rfl, by go_num⟩
          case measure => simp [intOf]; omega
      · have hjm : j = m + 1 := by omega
        have HDV : Hid (decU l a 5 16 = (t, (nx : Int), 0, 0)) := by
          show _ = _
          rw [decU_ok l a 5 16 (by rw [← Hm.out]; exact hk) (by rw [← Hm.out]; omega) (fun h => by rw [← Hm.out] at h ⊢; have := HF.out (by omega); rw [show m = 4 from by omega]; exact this), ← Hm.out, ← hjm, ← HE.2.2, Hnx.out]
        clear hjm
        go_wp2
        exact bodyPost_ret (v := .tuple #[.int .u64 t, .int .i64 nx, .agg #[.int .i64 0, .int .i64 0, .int .i64 0]]) (by simp [results, Tryz.results30, go_sem, hsz, hc20, hc21, hc22]) rfl
          ⟨by rw [HDV.out]; rfl, by repeat (first | exact hbase | refine Below.drew ?_ | refine Below.setC _ _ _ (Nat.le_refl _) ?_ | refine Below.al _ (by simp [World.setCell]; omega) ?_)⟩
set_option maxHeartbeats 4000000 in
theorem refU_64 (v : Value) (l : List Int) (a : Nat) (w : World) (hv : Rd w v l) (hr : ∀ x ∈ l, 0 ≤ x ∧ x < 256) (hl : l.length ≤ 281474976710656) (ha : a ≤ l.length) :
    Calls Tryz.prog 30 #[v, .int .i64 a, .int .i64 64] w fun e w' => e = res .u64 (decU l a 10 2) ∧ Below w.heap.size w w' := by
  have HG := fun o => groups_any v l a 10 (w.alloc o) (hv.alloc o) hr hl ha (by decide) (by decide)
  obtain ⟨ao, cap, rfl, hcap, _, hcells⟩ := hv
  obtain ⟨m1, m2, m3⟩ := mk_spec l a ha
  obtain ⟨m, hm⟩ : ∃ m, m = mk l a := ⟨_, rfl⟩
  rw [← hm] at m1
  have Hm := Lib.hid hm
  have M2 := Lib.hid m2
  have M3 := Lib.hid m3
  have Hr := Lib.hid hr
  have HGG := Lib.hid HG
  clear hcells m2 m3 hr hm HG
  have ha0 : decide ((a : Int) < 0) = false := by rw [decide_eq_false_iff_not]; omega
  have ha1 : decide (l.length < a) = false := by rw [decide_eq_false_iff_not]; omega
  go_enter Tryz.func30, Tryz.ntmps30
  go_wp2_with (go_at_call 52; refine (most_any _ _).mono ?_; rintro e w' ⟨rfl, rfl⟩; rw [show mostOf 64 = 10 from rfl])
  refine (HGG.out _).mono ?_
  rintro e w2 ⟨hG, hb2⟩
  obtain ⟨hc20, hc21, hc22, hf20, hf21, hf22⟩ := box3 hb2
  have hbase : Below w.heap.size w w2 := ((Below.refl _ _).alloc (Nat.le_refl _) _).trans (hb2.mono (by simp))
  have hsz : w.heap.size < w2.heap.size := by have := hb2.size; simp at this; omega
  rcases hG with ⟨hk, rfl⟩ | ⟨hk, hk2, rfl⟩ | ⟨hk, hk2, v', rfl, hown⟩
  · have HD := Lib.hid (decU_leb l a 10 2 hk)
    unfold gres
    go_wp2
    go_region
    go_wp2
    exact bodyPost_ret (v := .tuple #[.int .u64 0, .int .i64 0, .agg #[.int .i64 3, .int .i64 ((a : Int) + 9), .int .i64 0]]) (by simp [results, Tryz.results30, go_sem, hsz, hc20, hc21, hc22]) rfl
      ⟨by rw [HD.out]; rfl, by repeat (first | exact hbase | refine Below.drew ?_ | refine Below.setC _ _ _ (Nat.le_refl _) ?_ | refine Below.al _ (by simp [World.setCell]; omega) ?_)⟩
  · have HD := Lib.hid (decU_end l a 10 2 hk hk2)
    unfold gres
    clear hk hk2
    go_wp2
    go_region
    go_wp2
    exact bodyPost_ret (v := .tuple #[.int .u64 0, .int .i64 0, .agg #[.int .i64 4, .int .i64 l.length, .int .i64 0]]) (by simp [results, Tryz.results30, go_sem, hsz, hc20, hc21, hc22]) rfl
      ⟨by rw [HD.out]; rfl, by repeat (first | exact hbase | refine Below.drew ?_ | refine Below.setC _ _ _ (Nat.le_refl _) ?_ | refine Below.al _ (by simp [World.setCell]; omega) ?_)⟩
  · rw [← Hm.out] at hk hk2 hown
    have hdl0 := digs_len l a (m + 1) (by omega)
    obtain ⟨b, cp, rfl, hbb, hbs, hcells⟩ := hown.cells' (by intro h; rw [h] at hdl0; simp at hdl0)
    have hbne : w.heap.size ≠ b := by simp at hbb; omega
    rw [hdl0] at hcells ⊢
    have Hcells := Lib.hid hcells
    clear hdl0 hcells hown
    rw [show (((a + mk l a : Nat) + 1 : Int)) = ((a + m + 1 : Nat) : Int) from by rw [Hm.out]; rfl]
    obtain ⟨nx, hnx⟩ : ∃ nx : Nat, nx = a + m + 1 := ⟨_, rfl⟩
    rw [← hnx]
    have Hnx := Lib.hid hnx
    have hnxb : 1 ≤ nx ∧ nx ≤ l.length := by omega
    obtain ⟨hnx1, hnx2⟩ := hnxb
    clear hnx
    unfold gres
    go_wp2
    go_loop [13, 14] (fun n x => ∃ (j : Nat) (t : Int), St l a j (a + j) (7 * (j : Int)) t ∧ j ≤ m + 1 ∧ 0 ≤ t ∧ t < 18446744073709551616 ∧ Hid (j = 10 → l.getD (a + 9) 0 < 2) ∧ n = .int .u64 t ∧ x = .int .i64 j) (fun _ x => m + 1 - (intOf x).toNat)
    case atStart => exact ⟨0, 0, St.zero l a, by omega, by omega, by omega, (fun h => by omega), rfl, rfl⟩
    case round =>
      obtain ⟨j, t, HE, hj, ht0, ht1, HF, rfl, rfl⟩ := hrel
      by_cases hlt : j < m + 1
      · obtain ⟨c, hcc⟩ : ∃ c, c = l.getD (a + j) 0 := ⟨_, rfl⟩
        have hil : a + j < l.length := by omega
        have hc0 : 0 ≤ c ∧ c < 256 := by
          rw [hcc, List.getD_eq_getElem?_getD, List.getElem?_eq_getElem hil]; exact Hr.out _ (List.getElem_mem hil)
        obtain ⟨hc0, hc1⟩ := hc0
        obtain ⟨d, hd⟩ : ∃ d, d = c % 128 := ⟨_, rfl⟩
        have hd0 : 0 ≤ d := by omega
        have hd1 : d < 128 := by omega
        have hcell : w2.cell? ⟨b, j, none⟩ = some (.int .u8 d) := by
          rw [Hcells.out j hlt, digs_get l a (m + 1) j (by omega) hlt, ← hcc, ← hd]
        have HS := HE.succ hil hcc
        have HB := HE.bd
        obtain ⟨t', ht'⟩ : ∃ t', t' = t + d * 2 ^ (7 * (j : Int)).toNat := ⟨_, rfl⟩
        rw [← hd, ← ht'] at HS
        have Hd := Lib.hid hd
        have Hcc := Lib.hid hcc
        have HT := Lib.hid ht'
        have hHS : St l a (j + 1) (a + (j + 1)) (7 * ((j + 1 : Nat) : Int)) t' := by
          rw [show (7 * ((j + 1 : Nat) : Int)) = 7 * (j : Int) + 7 from by omega]; exact HS
        clear hd hcc ht' HS
        by_cases hk1 : j = 9
        · have hmj : m = 9 := by omega
          subst hk1
          have Hmj := Lib.hid hmj
          clear hmj
          have hc7 : c < 128 := by
            have := M3.out (by rw [← Hm.out]; omega)
            rw [← Hm.out, Hmj.out, ← Hcc.out] at this; exact this
          have hdc : d = c := by rw [Hd.out]; omega
          have Hdc := Lib.hid hdc
          clear hdc
          by_cases hfit : c < 2
          · have hdf : d < 2 := by rw [Hdc.out]; exact hfit
            have hpn : (2 : Int) ^ (63 : Nat) = 9223372036854775808 := rfl
            have hB2 : t < 9223372036854775808 := by have := HB.2; rw [show (7 * ((9 : Nat) : Int)).toNat = 63 from rfl, hpn] at this; exact this
            have HT2 : Hid (t' = t + d * 9223372036854775808) := by show _ = _; rw [HT.out, show (7 * ((9 : Nat) : Int)).toNat = 63 from rfl, hpn]
            have hor : bits BinOp.or IntKind.u64 t (d * 9223372036854775808) = t' := by
              rw [u64_or t _ ht0 ht1 (by omega) (by omega), HT2.out]
              have h := or_add t d 63 ht0 (by rw [hpn]; exact hB2) hd0
              rw [hpn] at h
              exact h
            have ht'0 : 0 ≤ t' := by have := HT2.out; omega
            have ht'1 : t' < 18446744073709551616 := by have := HT2.out; omega
            have HF' : Hid ((5 : Nat) = 5 → l.getD (a + 9) 0 < 2) := fun _ => by rw [← Hcc.out]; exact hfit
            clear hpn hB2 HT2 HT HB
            go_wp2
            go_round
            case rel => exact ⟨10, t', hHS, by have := Hmj.out; omega, ht'0, ht'1, fun _ => HF'.out rfl, rfl, rfl⟩
            case measure => have := Hmj.out; simp [intOf]; omega
          · have hdf : 2 ≤ d := by rw [Hdc.out]; omega
            have HD := Lib.hid (decU_fin_leb (k := 10) (lim := 2) HE Hm.out (by omega) hil Hcc.out (by omega) (by omega))
            have HDN : Hid ((nx : Int) - 1 = ((a + 9 : Nat) : Int)) := by show _ = _; have := Hnx.out; have := Hmj.out; omega
            clear HT HB
            go_wp2
            exact bodyPost_ret (v := .tuple #[.int .u64 0, .int .i64 0, .agg #[.int .i64 3, .int .i64 ((nx : Int) - 1), .int .i64 0]]) (by simp [results, Tryz.results30, go_sem, hsz, hc20, hc21, hc22]) rfl
              ⟨by rw [HD.out, HDN.out]; rfl, by repeat (first | exact hbase | refine Below.drew ?_ | refine Below.setC _ _ _ (Nat.le_refl _) ?_ | refine Below.al _ (by simp [World.setCell]; omega) ?_)⟩
        · have hstep := HE.step hil Hcc.out (by omega) (by omega)
          rw [← Hd.out, ← HT.out] at hstep
          obtain ⟨hs0, hs1, hs2, hs3, hs4⟩ := hstep
          have hor : bits BinOp.or IntKind.u64 t (IntKind.u64.wrap (d * 2 ^ (7 * j))) = t' := by
            rw [← show (7 * (j : Int)).toNat = 7 * j from by omega, wrap_u64, Int.emod_eq_of_lt hs3 (by omega), u64_or t _ ht0 ht1 hs3 (by omega), or_add _ _ _ ht0 HB.2 hd0, ← HT.out]
          have hq : ((j : Int) == 9) = false := by rw [beq_eq_false_iff_ne]; omega
          have ht'1 : t' < 18446744073709551616 := by omega
          clear HB hs1 hs3 hs4
          go_wp2
          go_round
          case rel => exact ⟨j + 1, t', hHS, by omega, hs0, ht'1, (fun h => by omega), rfl, by go_num⟩
          case measure => simp [intOf]; omega
      · have hjm : j = m + 1 := by omega
        have HDV : Hid (decU l a 10 2 = (t, (nx : Int), 0, 0)) := by
          show _ = _
          rw [decU_ok l a 10 2 (by rw [← Hm.out]; exact hk) (by rw [← Hm.out]; omega) (fun h => by rw [← Hm.out] at h ⊢; have := HF.out (by omega); rw [show m = 9 from by omega]; exact this), ← Hm.out, ← hjm, ← HE.2.2, Hnx.out]
        clear hjm
        go_wp2
        exact bodyPost_ret (v := .tuple #[.int .u64 t, .int .i64 nx, .agg #[.int .i64 0, .int .i64 0, .int .i64 0]]) (by simp [results, Tryz.results30, go_sem, hsz, hc20, hc21, hc22]) rfl
          ⟨by rw [HDV.out]; rfl, by repeat (first | exact hbase | refine Below.drew ?_ | refine Below.setC _ _ _ (Nat.le_refl _) ?_ | refine Below.al _ (by simp [World.setCell]; omega) ?_)⟩
set_option maxHeartbeats 1000000 in
theorem refU_arg (v : Value) (l : List Int) (at' bits : Int) (w : World) (hv : Rd w v l) (h : (bits ≠ 32 ∧ bits ≠ 64) ∨ at' < 0 ∨ (l.length : Int) < at') :
    Calls Tryz.prog 30 #[v, .int .i64 at', .int .i64 bits] w fun e w' => e = res .u64 (fullU l at' bits) ∧ Below w.heap.size w w' := by
  rw [fullU_arg l at' bits h]
  obtain ⟨ao, cap, rfl, hcap, _, hcells⟩ := hv
  clear hcells
  by_cases hm : bits ≠ 32 ∧ bits ≠ 64
  · have hz : mostOf bits = 0 := by unfold mostOf; rw [if_neg hm.1, if_neg hm.2]
    have Hz := Lib.hid hz
    clear hz hm h
    go_enter Tryz.func30, Tryz.ntmps30
    go_wp2_with (go_at_call 52; refine (most_any _ _).mono ?_; rintro e w' ⟨rfl, rfl⟩; rw [Hz.out])
    exact bodyPost_ret (v := .tuple #[.int .u64 0, .int .i64 0, .agg #[.int .i64 1, .int .i64 at', .int .i64 0]]) (by simp [results, Tryz.results30, go_sem]) rfl ⟨rfl, (Below.refl _ _).alloc (Nat.le_refl _) _⟩
  · obtain ⟨k, hk⟩ : ∃ k, k = mostOf bits := ⟨_, rfl⟩
    have hk0 : (k == 0) = false := by
      rw [beq_eq_false_iff_ne, hk]; unfold mostOf
      split
      · decide
      · split
        · decide
        · omega
    have Hk := Lib.hid hk
    clear hk
    by_cases h3 : at' < 0
    · have a1 : decide (at' < 0) = true := by simpa using h3
      clear h hm
      go_enter Tryz.func30, Tryz.ntmps30
      go_wp2_with (go_at_call 52; refine (most_any _ _).mono ?_; rintro e w' ⟨rfl, rfl⟩; rw [← Hk.out])
      exact bodyPost_ret (v := .tuple #[.int .u64 0, .int .i64 0, .agg #[.int .i64 1, .int .i64 at', .int .i64 0]]) (by simp [results, Tryz.results30, go_sem]) rfl ⟨rfl, (Below.refl _ _).alloc (Nat.le_refl _) _⟩
    · have a1 : decide (at' < 0) = false := by simpa using h3
      have h4 : (l.length : Int) < at' := by omega
      have a2 : decide ((l.length : Int) < at') = true := by simpa using h4
      clear h hm
      go_enter Tryz.func30, Tryz.ntmps30
      go_wp2_with (go_at_call 52; refine (most_any _ _).mono ?_; rintro e w' ⟨rfl, rfl⟩; rw [← Hk.out])
      exact bodyPost_ret (v := .tuple #[.int .u64 0, .int .i64 0, .agg #[.int .i64 1, .int .i64 at', .int .i64 0]]) (by simp [results, Tryz.results30, go_sem]) rfl ⟨rfl, (Below.refl _ _).alloc (Nat.le_refl _) _⟩

theorem refU_any (v : Value) (l : List Int) (at' bits : Int) (w : World) (hv : Rd w v l) (hr : ∀ x ∈ l, 0 ≤ x ∧ x < 256) (hl : l.length ≤ 281474976710656) :
    Calls Tryz.prog 30 #[v, .int .i64 at', .int .i64 bits] w fun e w' => e = res .u64 (fullU l at' bits) ∧ Below w.heap.size w w' := by
  by_cases h : (bits ≠ 32 ∧ bits ≠ 64) ∨ at' < 0 ∨ (l.length : Int) < at'
  · exact refU_arg v l at' bits w hv h
  · have h0 : 0 ≤ at' := by omega
    have h1 : at' ≤ l.length := by omega
    obtain ⟨a, rfl⟩ := Int.eq_ofNat_of_zero_le h0
    have hb : bits = 32 ∨ bits = 64 := by omega
    unfold fullU
    rw [if_pos ⟨h0, h1⟩, Int.toNat_natCast]
    rcases hb with rfl | rfl
    · rw [if_pos rfl]; exact refU_32 v l a w hv hr hl (by omega)
    · rw [if_neg (by decide), if_pos rfl]; exact refU_64 v l a w hv hr hl (by omega)
end Go.Proofs.YtgcmdnkmnghhaaaGreatDoor.lb

/- The contract of ends: where a module's sections end. -/
set_option linter.unusedVariables false
set_option linter.unusedSimpArgs false
namespace Go.Proofs.YtgcmdnkmnghhaaaGreatDoor.wm
open Go.RowKit Go.Proofs.YtgcmdnkmnghhaaaGreatDoor.lb

theorem decU_cases {l : List Int} (hb : By l) {p : Nat} (hp : p ≤ l.length) :
    (∃ n q : Nat, decU l p 5 16 = ((n : Int), (q : Int), 0, 0) ∧ p < q ∧ q ≤ l.length ∧ n < 4294967296) ∨ (∃ a : Int, decU l p 5 16 = (0, 0, 3, a)) ∨ (∃ a : Int, decU l p 5 16 = (0, 0, 4, a)) := by
  obtain ⟨m1, m2, m3⟩ := mk_spec l p hp
  by_cases a1 : 5 ≤ lb.mk l p
  · exact .inr (.inl ⟨_, decU_leb l p 5 16 a1⟩)
  by_cases a2 : p + lb.mk l p = l.length
  · exact .inr (.inr ⟨_, decU_end l p 5 16 (by omega) a2⟩)
  by_cases a3 : lb.mk l p + 1 = 5 ∧ 16 ≤ l.getD (p + lb.mk l p) 0
  · exact .inr (.inl ⟨_, decU_room l p 5 16 a3.1 (by omega) a3.2⟩)
  have hD := decU_ok l p 5 16 (by omega) (by omega) (fun h => by
    rcases Int.lt_or_le (l.getD (p + lb.mk l p) 0) 16 with h' | h'
    · exact h'
    · exact absurd ⟨h, h'⟩ a3)
  have hp' : pU l l.length p = .ok (vj l p (lb.mk l p + 1)) (p + lb.mk l p + 1) := by
    unfold pU pNum
    simp [List.take_length, hD]
    omega
  obtain ⟨h0, h1, _, _⟩ := u_bd hb hp (Nat.le_refl _) hp'
  exact .inl ⟨(vj l p (lb.mk l p + 1)).toNat, p + lb.mk l p + 1, by rw [hD, Int.toNat_of_nonneg h0], by omega, by omega, by omega⟩

/-- what ends leaves -/
def EPost (l : List Int) (w : World) (e : Ending) (w' : World) : Prop := ∃ v', e = .returned v' ∧ wi.Rd w' v' ((8 : Int) :: endsL l l.length 8) ∧ ((8 : Int) :: endsL l l.length 8).length ≤ 32768 ∧ Below w.heap.size w w'
theorem EPost.mk' {l : List Int} {w w' : World} {v : Value} {acc : List Int} (hv : wi.Own w' w.heap.size v acc) (h : (8 : Int) :: endsL l l.length 8 = acc) (hl : acc.length ≤ 32768) (hb : Below w.heap.size w w') : EPost l w (.returned v) w' := by
  subst h; exact ⟨v, rfl, hv.rd, hl, hb⟩
set_option maxRecDepth 100000 in
set_option maxHeartbeats 2000000 in
theorem ends_any (v : Value) (l : List Int) (w : World) (hrd : Rd w v l) (hok : ∀ x ∈ l, 0 ≤ x ∧ x < 256) (hlen : l.length ≤ 16384) :
    Calls Tryz.prog 12 #[v] w (EPost l w) := by
  obtain ⟨ao, cap, rfl, hcap, _⟩ := id hrd
  have hb : By l := fun k => by
    by_cases hk : k < l.length
    · rw [List.getD_eq_getElem?_getD, List.getElem?_eq_getElem hk]; exact (hok _ (List.getElem_mem hk)).1
    · rw [List.getD_eq_getElem?_getD, List.getElem?_eq_none (by omega)]; decide
  have HU := Lib.hid (fun (w' : World) (k : Nat) (hb : Below w.heap.size w w') (hk : k < l.length) => show Calls Tryz.prog 30 #[.slice ao l.length cap, .int .i64 ((k : Int) + 1), .int .i64 32] w' _ from by
    have h := refU_32 (.slice ao l.length cap) l (k + 1) w' (hrd.lift hb) hok (by omega) (by omega)
    rw [show ((k + 1 : Nat) : Int) = (k : Int) + 1 by omega] at h
    exact h)
  have HB := Lib.hid hb
  have hO0 : wi.Own (w.alloc (.cells #[.int .i64 8] 3)) w.heap.size (.slice (some ⟨w.heap.size, 0, none⟩) 1 1) [8] :=
    ⟨by simp, .inr ⟨w.heap.size, 1, _, rfl, Nat.le_refl _, heap_alloc_new w _, Nat.le_refl _, by decide, by simp, by simp⟩⟩
  have HO0 := Lib.hid hO0
  have HB0 := Lib.hid (made1 w (.cells #[.int .i64 8] 3))
  clear hrd hok hb hO0
  go_enter Tryz.func12, Tryz.ntmps12
  go_wp2
  go_loopw [3, 4] (fun x y wr => ∃ (k f : Nat) (acc : List Int), y = .int .i64 k ∧ k ≤ 16384 ∧ l.length - k ≤ f ∧ acc.length ≤ k + 1 ∧ Hid ((8 : Int) :: endsL l l.length 8 = acc ++ endsL l f k) ∧ Hid (wi.Own wr w.heap.size x acc) ∧ Hid (Below w.heap.size w wr)) (fun _ y _ => l.length - (intOf y).toNat)
  case atStart => exact ⟨8, l.length, [8], rfl, by omega, by omega, by simp, rfl, HO0.out, HB0.out⟩
  case round =>
    obtain ⟨k, f, acc, rfl, hk, hf, hacc, HE, HO, HBr⟩ := hrel
    obtain ⟨xa, xc, rfl, _⟩ := HO.out.rd
    by_cases hlt : k < l.length
    · obtain ⟨f', rfl⟩ : ∃ f', f = f' + 1 := ⟨f - 1, by omega⟩
      have hklt : (k : Int) < l.length := by omega
      have HUk := HU.out wr k HBr.out hlt
      have hstop : ∀ (hh : endsL l (f' + 1) k = []), (8 : Int) :: endsL l l.length 8 = acc := fun hh => by rw [HE.out, hh, List.append_nil]
      rcases decU_cases HB.out (p := k + 1) (by omega) with ⟨n, q, hD, hq1, hq2, hn⟩ | ⟨a, hD⟩ | ⟨a, hD⟩
      · rw [hD] at HUk
        have hEq : endsL l (f' + 1) k = if (l.length : Int) - q < n then [] else ((q : Int) + n) :: endsL l f' (q + n) := by
          rw [endsL, if_pos hlt, hD]
          simp only [ne_eq, not_true_eq_false, false_or]
          rw [show ((q : Int) + (n : Int)).toNat = q + n by omega]
        have HUk := Lib.hid HUk
        obtain ⟨R, hR⟩ : ∃ R : Nat, (l.length : Int) - q = R := ⟨l.length - q, by omega⟩
        have hR2 : (R : Int) % 18446744073709551616 = R := by omega
        have hq0 : (q : Int) ≤ l.length := by omega
        have hn' : (n : Int) < 4294967296 := by omega
        by_cases hgt : R < n
        · have HF := Lib.hid (hstop (by rw [hEq, hR, if_pos (by omega)]))
          have hg : (R : Int) < n := by omega
          clear hD hEq hstop
          go_wp2_with fail
          refine HUk.out.mono ?_
          rintro en w1 ⟨rfl, b1⟩
          have HB2 := Lib.hid (HBr.out.trans (b1.mono HBr.out.size))
          have HO2 := Lib.hid (HO.out.lift b1)
          clear b1
          unfold res
          go_wp2
          go_ret
          exact EPost.mk' (HO2.out.lift (made1 w1 _)) HF.out (by omega) (HB2.out.trans ((made1 w1 _).mono HB2.out.size))
        · have HN := Lib.hid (show endsL l (f' + 1) k = ((q : Int) + n) :: endsL l f' (q + n) from by rw [hEq, hR, if_neg (by omega)])
          have hg : ¬ (R : Int) < n := by omega
          have hqn : q + n ≤ l.length := by omega
          clear hD hEq hstop
          go_wp2_with fail
          refine HUk.out.mono ?_
          rintro en w1 ⟨rfl, b1⟩
          have b2 := b1.trans ((made1 w1 (.cells #[.int .i64 0, .int .i64 0, .int .i64 0] 33)).mono b1.size)
          have HB2 := Lib.hid (HBr.out.trans (b2.mono HBr.out.size))
          have hO2 := HO.out.lift b2
          have hsz := HB2.out.size
          have hbb := HB2.out
          clear b1 b2
          unfold res
          go_wp2_with (at_builtin; refine wi.wpList_append_byte_at (.tmp 38) (.tmp 40) rfl rfl rfl hO2 ((q : Int) + n) rfl (by simp) (by omega) hsz hbb ?_; intro v' w3 ho3 hb3)
          go_roundw
          case rel => exact ⟨q + n, f', acc ++ [(q : Int) + n], by go_num, by omega, by omega, by rw [List.length_append, List.length_singleton]; omega, by show _ = _; rw [HE.out, HN.out, List.append_assoc]; rfl, ho3, hb3⟩
          case measure => simp [intOf]; omega
      all_goals
        rw [hD] at HUk
        have HUk := Lib.hid HUk
        have HF := Lib.hid (hstop (by rw [endsL, if_pos hlt, hD]; simp))
        clear hD hstop
        go_wp2_with fail
        refine HUk.out.mono ?_
        rintro en w1 ⟨rfl, b1⟩
        have HB2 := Lib.hid (HBr.out.trans (b1.mono HBr.out.size))
        have HO2 := Lib.hid (HO.out.lift b1)
        clear b1
        unfold res
        go_wp2
        go_ret
        exact EPost.mk' (HO2.out.lift (made1 w1 _)) HF.out (by omega) (HB2.out.trans ((made1 w1 _).mono HB2.out.size))
    · have hnl : ¬ (k : Int) < l.length := by omega
      have hz : endsL l f k = [] := by
        cases f with
        | zero => rfl
        | succ f => rw [endsL, if_neg hlt]
      have HF := Lib.hid (show (8 : Int) :: endsL l l.length 8 = acc by rw [HE.out, hz, List.append_nil])
      clear hz
      go_wp2
      go_ret
      exact EPost.mk' HO.out HF.out (by omega) HBr.out
end Go.Proofs.YtgcmdnkmnghhaaaGreatDoor.wm

/- A wrong byte has a fault that is not 0. -/
set_option linter.unusedVariables false
namespace Go.Proofs.YtgcmdnkmnghhaaaGreatDoor.wm
open Go.Proofs.YtgcmdnkmnghhaaaGreatDoor.lb

/-- what is wrong is told -/
structure NZ {α : Type} (x : P α) : Prop where
  out : ∀ {l : List Int} {e p : Nat} {w b : Int}, By l → p ≤ e → e ≤ l.length → x l e p = .bad w b → w ≠ 0

section
variable {α β : Type}
theorem NZ.ret (a : α) : NZ (P.ret a) := ⟨fun _ _ _ h => by cases h⟩
theorem NZ.bind {x : P α} {f : α → P β} (hg : Good x) (hx : NZ x) (hf : ∀ a, NZ (f a)) : NZ (x.bind f) := ⟨fun {l e p w b} hb hp he h => by
  cases h1 : x l e p with
  | bad w' a => rw [P.bind_bad h1] at h; obtain ⟨rfl, _⟩ := Res.bad.inj h; exact hx.out hb hp he h1
  | ok a q => rw [P.bind_ok h1] at h; exact (hf a).out hb (hg.ok hb hp he h1).2.1 he h⟩
theorem NZ.ite {c : Prop} [Decidable c] {x y : P α} (hx : NZ x) (hy : NZ y) : NZ (if c then x else y) := by split <;> assumption
theorem NZ.fail (w a : Int) (hw : w ≠ 0) : NZ (pFail w a : P α) := ⟨fun _ _ _ h => by obtain ⟨rfl, _⟩ := Res.bad.inj h; exact hw⟩
theorem NZ.back (w : Int) (hw : w ≠ 0) : NZ (pBack w : P α) := ⟨fun _ _ _ h => by obtain ⟨rfl, _⟩ := Res.bad.inj h; exact hw⟩
theorem NZ.here {f : Int → P α} (h : ∀ a, NZ (f a)) : NZ (pHere f) := ⟨fun {l e p w b} hb hp he hx => (h p).out hb hp he hx⟩
theorem NZ.octet : NZ pOctet := ⟨fun _ _ _ h => by
  unfold pOctet at h; split at h
  · cases h
  · obtain ⟨rfl, _⟩ := Res.bad.inj h; decide⟩
theorem NZ.one (these left : List Int) : NZ (pOne these left) := .bind .octet .octet fun c => .ite (.back 11 (by decide)) (.ite (.ret c) (.back 6 (by decide)))
theorem NZ.num (d : List Int → Nat → Int × Int × Int × Int) : NZ (pNum d) := ⟨fun _ _ _ h => by
  unfold pNum at h; simp only at h; split at h
  · cases h
  · rename_i h0; obtain ⟨rfl, _⟩ := Res.bad.inj h; exact h0⟩
theorem NZ.u : NZ pU := .num _
theorem NZ.s32 : NZ pS32 := .num _
theorem NZ.s64 : NZ pS64 := .num _
theorem NZ.low : NZ pLow := .bind .s32 .s32 fun n => .ret _
theorem NZ.most (limit : Int) : NZ (pMost limit) := .here fun a => .bind .u .u fun n => .ite (.fail 7 a (by decide)) (.ret n)
theorem NZ.kind : NZ pKind := .one _ _
theorem NZ.rep {x : P α} (hg : Good x) (hx : NZ x) : ∀ (k : Nat) (acc : List α), NZ (pRep x k acc)
  | 0, acc => .ret acc
  | k + 1, acc => .bind hg hx fun a => .rep hg hx k (acc ++ [a])
theorem NZ.char : NZ pChar := .bind .octet .octet fun c => .ite (.back 8 (by decide)) (.ret c)
theorem NZ.name : NZ pName := .bind (.most 32) (.most 32) fun n => .rep .char .char _ _
theorem NZ.list {x : P α} (hg : Good x) (hx : NZ x) (limit : Int) : NZ (pList limit x) := .bind (.most limit) (.most limit) fun n => .rep hg hx _ _
theorem NZ.skip (size : Int) : NZ (pSkip size) := ⟨fun _ _ _ h => by
  unfold pSkip at h; split at h
  · obtain ⟨rfl, _⟩ := Res.bad.inj h; decide
  · cases h⟩
theorem NZ.copied (size : Int) : NZ (pCopied size) := ⟨fun _ _ _ h => by
  unfold pCopied at h; split at h
  · obtain ⟨rfl, _⟩ := Res.bad.inj h; decide
  · cases h⟩
theorem NZ.sig : NZ pSig := .bind (.pone _ _) (.one _ _) fun _ => .bind (.list .kind _) (.list .kind .kind _) fun i => .bind (.list .kind _) (.list .kind .kind _) fun o => .ret _
theorem NZ.import' : NZ pImport := .bind .name .name fun m => .bind .name .name fun n => .bind (.pone _ _) (.one _ _) fun _ => .bind .u .u fun t => .ret _
theorem NZ.declared : NZ pDeclared := .bind .u .u fun t => .ret _
theorem NZ.first (k : Int) : NZ (pFirst k) := .bind (.pone _ _) (.one _ _) fun op => .ite (.back 10 (by decide)) (.ite .low (.bind .s64 .s64 fun n => .ret _))
theorem NZ.global : NZ pGlobal := .bind .kind .kind fun k => .bind (.pone _ _) (.one _ _) fun m => .bind (.first k) (.first k) fun n => .bind (.pone _ _) (.one _ _) fun _ => .ret _
theorem NZ.exportG : NZ pExport := .bind .name .name fun n => .bind (.pone _ _) (.one _ _) fun k => .bind .u .u fun x => .ret _
theorem NZ.data : NZ pData := .here fun a => .bind .u .u fun z => .ite (.fail 6 a (by decide)) (.bind (.pone _ _) (.one _ _) fun _ => .bind .low .low fun b => .bind (.pone _ _) (.one _ _) fun _ => .bind (.most 4096) (.most 4096) fun n => ⟨fun {l e p w b} hb hp he h => by
  cases h1 : pCopied n l e p with
  | bad w' a => rw [P.bind_bad h1] at h; obtain ⟨rfl, _⟩ := Res.bad.inj h; exact (NZ.copied n).out hb hp he h1
  | ok a q => rw [P.bind_ok h1] at h; cases h⟩)
theorem NZ.memory (was : Int × Int) : NZ (pMemory was) := .bind (.most 1) (.most 1) fun n => .ite (.ret _) (.bind (.pone _ _) (.one _ _) fun told => .bind (.most 16) (.most 16) fun pages => .ite (.ret _) (.here fun a => .bind (.most 16) (.most 16) fun most => .ite (.fail 6 a (by decide)) (.ret _)))
theorem NZ.rows : ∀ (k : Nat) (acc : List Int), NZ (pRows k acc)
  | 0, acc => .ret acc
  | k + 1, acc => .bind (.most _) (.most _) fun c => .bind .kind .kind fun t => .rows k _
theorem NZ.locals : NZ pLocals := .bind (.most 32) (.most 32) fun n => .rows _ _
theorem NZ.blockType (types : List GSig) : NZ (pBlockType types) := .here fun a => ⟨fun {l e p w b} hb hp he h => by
  have hk : NZ (pKind.bind fun k => P.ret (⟨[], [k]⟩ : GSig)) := .bind .kind .kind fun k => .ret _
  have hs : NZ (pS64.bind fun n => if n < 0 ∨ (types.length : Int) ≤ n then pFail 9 a else P.ret (types.getD n.toNat ⟨[], []⟩)) := .bind .s64 .s64 fun n => .ite (.fail 9 a (by decide)) (.ret _)
  cases hx : pOctet l e p with
  | bad w' b' => simp only [hx] at h; obtain ⟨rfl, _⟩ := Res.bad.inj h; exact NZ.octet.out hb hp he hx
  | ok c q =>
    simp only [hx] at h
    by_cases h64 : c = 64
    · rw [if_pos h64] at h; cases h
    · rw [if_neg h64] at h
      by_cases h127 : c = 127 ∨ c = 126 ∨ c = 125 ∨ c = 124
      · rw [if_pos h127] at h; exact hk.out hb hp he h
      · rw [if_neg h127] at h; exact hs.out hb hp he h⟩
theorem NZ.align (w : Int) : NZ (pAlign w) := .here fun a => .bind .u .u fun n => .ite (.fail 6 a (by decide)) (.ret n)
theorem NZ.targets : NZ pTargets := .bind (.list .u 64) (.list .u .u 64) fun ts => .bind .u .u fun t => .ret _
theorem NZ.plain (op : Int) : NZ (pPlain op) := by
  unfold pPlain
  refine .ite (.ret _) (.ite (.bind .u .u fun n => .ret _) (.ite (.bind .targets .targets fun t => .ret _) (.ite (.bind (.pone _ _) (.one _ _) fun _ => .ret _) (.ite (.bind .low .low fun n => .ret _) (.ite (.bind .s64 .s64 fun n => .ret _) ?_)))))
  refine ⟨fun {l e p w b} hb hp he h => ?_⟩
  have ho : NZ (pOther op) := by
    unfold pOther
    split
    · exact .ret _
    · split
      · exact .bind (.align _) (.align _) fun m => .bind .u .u fun n => .ret _
      · exact .ite (.back 11 (by decide)) (.back 6 (by decide))
  cases h1 : pOther op l e p with
  | bad w' a => rw [P.bind_bad h1] at h; obtain ⟨rfl, _⟩ := Res.bad.inj h; exact ho.out hb hp he h1
  | ok a q => rw [P.bind_ok h1] at h; cases h
theorem nz_run (types : List GSig) : ∀ (fuel depth : Nat) (parted : Bool) (ops : Nat) (acc : List GInstr) {l : List Int} {e p : Nat} {w b : Int}, By l → p ≤ e → e ≤ l.length → e - p < fuel → pRun types fuel depth parted ops acc l e p = .bad w b → w ≠ 0
  | 0, _, _, _, _, l, e, p, w, b, _, _, _, hf, _ => by omega
  | fuel + 1, depth, parted, ops, acc, l, e, p, w, b, hb, hp, he, hf, h => by
    unfold pRun at h
    cases ho : pOctet l e p with
    | bad w' a => rw [P.bind_bad ho] at h; obtain ⟨rfl, _⟩ := Res.bad.inj h; exact NZ.octet.out hb hp he ho
    | ok op q1 =>
      obtain ⟨rfl, hlt, _⟩ := octet_ok ho
      rw [P.bind_ok ho] at h
      simp only at h
      split at h
      · cases h
      · split at h
        · cases h
        · generalize (if op = 5 then ops else ops + 1) = ops' at h
          split at h
          · obtain ⟨rfl, _⟩ := Res.bad.inj h; decide
          · split at h
            · cases h1 : pBlockType types l e (p + 1) with
              | bad w' a => rw [P.bind_bad h1] at h; obtain ⟨rfl, _⟩ := Res.bad.inj h; exact (NZ.blockType types).out hb (by omega) he h1
              | ok t q2 =>
                have g1 := (Good.blockType types).ok hb (by omega) he h1
                rw [P.bind_ok h1] at h
                cases h2 : pRun types fuel (depth + 1) (op == 4) ops' [] l e q2 with
                | bad w' a => rw [P.bind_bad h2] at h; obtain ⟨rfl, _⟩ := Res.bad.inj h; exact nz_run types fuel _ _ _ _ hb g1.2.1 he (by omega) h2
                | ok r q3 =>
                  have g2 := (Good.run types fuel _ _ _ _).ok hb g1.2.1 he h2
                  rw [P.bind_ok h2] at h
                  split at h
                  · cases h3 : pRun types fuel (depth + 1) false r.2.2 [] l e q3 with
                    | bad w' a => rw [P.bind_bad h3] at h; obtain ⟨rfl, _⟩ := Res.bad.inj h; exact nz_run types fuel _ _ _ _ hb g2.2.1 he (by omega) h3
                    | ok s q4 =>
                      have g3 := (Good.run types fuel _ _ _ _).ok hb g2.2.1 he h3
                      rw [P.bind_ok h3] at h
                      exact nz_run types fuel _ _ _ _ hb g3.2.1 he (by omega) h
                  · exact nz_run types fuel _ _ _ _ hb g2.2.1 he (by omega) h
            · cases h1 : pPlain op l e (p + 1) with
              | bad w' a => rw [P.bind_bad h1] at h; obtain ⟨rfl, _⟩ := Res.bad.inj h; exact (NZ.plain op).out hb (by omega) he h1
              | ok i q2 =>
                have g1 := (Good1.plain op).ok hb (by omega) he h1
                rw [P.bind_ok h1] at h
                exact nz_run types fuel _ _ _ _ hb g1.2.1 he (by omega) h
theorem NZ.body (types : List GSig) : NZ (pBody types) := ⟨fun {l e p w b} hb hp he h => by
  unfold pBody at h
  split at h
  · cases h
  · rename_i w' a hr
    obtain ⟨rfl, _⟩ := Res.bad.inj h
    exact nz_run types _ _ _ _ _ hb hp he (by omega) hr⟩
theorem NZ.part {x : P α} (hx : NZ x) : NZ (pPart x) := .bind .u .u fun size => ⟨fun {l e p w b} hb hp he h => by
  split at h
  · obtain ⟨rfl, _⟩ := Res.bad.inj h; decide
  · rename_i hs
    split at h
    · rename_i w' a hr
      obtain ⟨rfl, _⟩ := Res.bad.inj h
      exact hx.out hb (by omega) (by omega) hr
    · split at h
      · obtain ⟨rfl, _⟩ := Res.bad.inj h; decide
      · cases h⟩
theorem NZ.bodies (types : List GSig) : ∀ (fs acc : List GFunc), NZ (pBodies types fs acc)
  | [], acc => .ret acc
  | f :: fs, acc => .bind (.part (.bind .locals fun lo => .bind (.body types) fun b => .ret _)) (.part (.bind .locals .locals fun lo => .bind (.body types) (.body types) fun b => .ret _)) fun x => .bodies types fs _
theorem NZ.fill (d : DSt) (sec : Int) : NZ (pFill d sec) := by
  unfold pFill
  exact .ite (.bind (.list .sig _) (.list .sig .sig _) fun x => .ret _) (.ite (.bind (.list .import' _) (.list .import' .import' _) fun x => .ret _) (.ite (.bind (.list .declared _) (.list .declared .declared _) fun x => .ret _) (.ite (.bind (.memory _) (.memory _) fun x => .ret _) (.ite (.bind (.list .global _) (.list .global .global _) fun x => .ret _)
    (.ite (.bind (.list .exportG _) (.list .exportG .exportG _) fun x => .ret _) (.ite (.bind .u .u fun x => .ret _) (.ite (.here fun a => .bind .u .u fun n => .ite (.fail 6 a (by decide)) (.bind (.bodies _ _ _) (.bodies _ _ _) fun x => .ret _)) (.ite (.bind (.list .data _) (.list .data .data _) fun x => .ret _) (.ret d)))))))))
theorem NZ.section' (d : DSt) : NZ (pSection d) := .bind .octet .octet fun sec => .ite (.back 11 (by decide)) (.ite (.back 6 (by decide)) (.ite (.bind .u .u fun size => ⟨fun {l e p w b} hb hp he h => by
  cases h1 : pSkip size l e p with
  | bad w' a => rw [P.bind_bad h1] at h; obtain ⟨rfl, _⟩ := Res.bad.inj h; exact (NZ.skip size).out hb hp he h1
  | ok a q => rw [P.bind_ok h1] at h; cases h⟩) (.part (.fill _ sec))))
theorem nz_sections : ∀ (fuel : Nat) (d : DSt) {l : List Int} {e p : Nat} {w b : Int}, By l → p ≤ e → e ≤ l.length → e - p < fuel → pSections fuel d l e p = .bad w b → w ≠ 0
  | 0, d, l, e, p, w, b, _, _, _, hf, _ => by omega
  | fuel + 1, d, l, e, p, w, b, hb, hp, he, hf, h => by
    simp only [pSections] at h
    split at h
    · cases h1 : pSection d l e p with
      | bad w' a => rw [P.bind_bad h1] at h; obtain ⟨rfl, _⟩ := Res.bad.inj h; exact (NZ.section' d).out hb hp he h1
      | ok d1 p1 =>
        obtain ⟨_, size, q, _, rfl, h2, h3⟩ := section_head hb hp he h1
        rw [P.bind_ok h1] at h
        exact nz_sections fuel d1 hb h2 he (by omega) h
    · cases h
theorem NZ.magic : ∀ cs : List Int, NZ (pMagic cs)
  | [] => .ret ()
  | c :: cs => .bind .octet .octet fun x => .ite (.back 5 (by decide)) (.magic cs)
theorem decode_nz {l : List Int} {w a : Int} (hb : By l) (h : decodeM l = .bad w a) : w ≠ 0 := by
  unfold decodeM at h
  split at h
  · obtain ⟨rfl, _⟩ := Res.bad.inj h; decide
  · cases hm : pMagic magicL l l.length 0 with
    | bad w' a' =>
      rw [show pModule l l.length 0 = .bad w' a' from P.bind_bad hm] at h
      obtain ⟨rfl, _⟩ := Res.bad.inj h
      exact (NZ.magic _).out hb (Nat.zero_le _) (Nat.le_refl _) hm
    | ok u q =>
      obtain ⟨_, h2⟩ := magic_q hm (Nat.zero_le _)
      rw [show pModule l l.length 0 = _ from P.bind_ok hm] at h
      split at h
      · rename_i w' a' hs
        obtain ⟨rfl, _⟩ := Res.bad.inj h
        exact nz_sections _ _ hb h2 (Nat.le_refl _) (by omega) hs
      · split at h
        · obtain ⟨rfl, _⟩ := Res.bad.inj h; decide
        · cases h
end
end Go.Proofs.YtgcmdnkmnghhaaaGreatDoor.wm

/- WasmHeads: the ways of its walk. Printed by gen_wheads.py. -/
set_option linter.unusedVariables false
set_option linter.unusedSimpArgs false
namespace Go.Proofs.YtgcmdnkmnghhaaaGreatDoor.wm
open Go.RowKit Go.Proofs.YtgcmdnkmnghhaaaGreatDoor.lb

theorem by_bytes {l : List Int} (h : ∀ x ∈ l, 0 ≤ x ∧ x < 256) : By l := fun k => by
  by_cases hk : k < l.length
  · rw [List.getD_eq_getElem?_getD, List.getElem?_eq_getElem hk]; exact (h _ (List.getElem_mem hk)).1
  · rw [List.getD_eq_getElem?_getD, List.getElem?_eq_none (by omega)]; decide
theorem cut_bd (cut : Int) (L : Nat) (h1 : 1 ≤ L) (h2 : L ≤ 16384) : ∃ i : Nat, i < L ∧ (wrap64 (cut.tmod (L : Int) + L)).tmod (L : Int) = i := by
  have hL : (0 : Int) < L := by omega
  have a := Int.tmod_lt_of_pos cut hL
  have b : -(L : Int) < cut.tmod L := by
    have := Int.tmod_lt_of_pos (-cut) hL
    rw [Int.neg_tmod] at this; omega
  generalize cut.tmod (L : Int) = q at *
  have e : wrap64 (q + L) = q + L := by unfold wrap64; omega
  rw [e]
  have c := Int.tmod_nonneg (a := q + L) (L : Int) (by omega)
  have d := Int.tmod_lt_of_pos (q + L) hL
  exact ⟨((q + L).tmod L).toNat, by omega, by omega⟩
theorem rd_take {w : World} {ao : Option Addr} {n cap : Nat} {l : List Int} (h : Rd w (.slice ao n cap) l) {i : Nat} (hi : i ≤ l.length) : Rd w (.slice ao i cap) (l.take i) := by
  obtain ⟨ao', cap', h1, h2, h3, h4⟩ := h
  simp only [Value.slice.injEq] at h1
  obtain ⟨rfl, _, rfl⟩ := h1
  have hl : (l.take i).length = i := by rw [List.length_take]; omega
  refine ⟨ao, cap, by rw [hl], by omega, h3, ?_⟩
  rcases h4 with rfl | ⟨b, off, rfl, h5⟩
  · left; simp
  · right
    refine ⟨b, off, rfl, fun k hk => ?_⟩
    rw [hl] at hk
    rw [h5 k (by omega), List.getD_eq_getElem?_getD, List.getD_eq_getElem?_getD, List.getElem?_take, if_pos hk]

set_option maxRecDepth 100000 in
set_option maxHeartbeats 2000000 in
theorem heads_bad (v : Value) (l : List Int) (cut : Int) (w : World) (hrd : Rd w v l) (hok : ∀ x ∈ l, 0 ≤ x ∧ x < 256) (hlen : l.length ≤ 281474976710656) (hr : nm.Runs w) (why a : Int) (hx : decodeM l = .bad why a) :
    Calls Tryz.prog 3 #[v, .int .i64 cut] w fun e w' => e = .returned (.bool true) ∧ Below w.heap.size w w' := by
  have HD := Lib.hid (decode_any v l w hrd hok hlen hr)
  have HR := Lib.hid hr
  have HRD := Lib.hid hrd
  have HOK := Lib.hid hok
  have hz : ¬ why = 0 := decode_nz (by_bytes hok) hx
  have HX := Lib.hid hx
  obtain ⟨ao, cap, rfl, hcap, _⟩ := id hrd
  clear hx hok hrd hr
  go_enter Tryz.func3, Tryz.ntmps3
  go_wp2_with fail
  refine HD.out.mono ?_
  rintro en w1 h1
  rw [HX.out] at h1
  obtain ⟨b1, rfl⟩ := h1
  have hBF := Blk.new 33 (w1.alloc (.cells #[.slice none 0 0, .slice none 0 0, .slice none 0 0, .int .i64 0, .int .i64 0, .slice none 0 0, .slice none 0 0, .int .i64 0, .slice none 0 0] 30)) #[.int .i64 why, .int .i64 a, .int .i64 0]
  rw [show (w1.alloc (.cells #[.slice none 0 0, .slice none 0 0, .slice none 0 0, .int .i64 0, .int .i64 0, .slice none 0 0, .slice none 0 0, .int .i64 0, .slice none 0 0] 30)).heap.size = w1.heap.size + 1 by simp [go_sem]] at hBF
  have B2 := made2 w1 (.cells #[.slice none 0 0, .slice none 0 0, .slice none 0 0, .int .i64 0, .int .i64 0, .slice none 0 0, .slice none 0 0, .int .i64 0, .slice none 0 0] 30) (.cells #[.int .i64 why, .int .i64 a, .int .i64 0] 33)
  have HB2 := Lib.hid (b1.trans (B2.mono b1.size))
  have HR2 := Lib.hid (HR.out.lift HB2.out)
  have HBF := Lib.hid hBF
  clear b1 B2 hBF
  go_wp2_with fail
  refine (alive_any _ HR2.out).mono ?_
  rintro en w9 ⟨rfl, b9⟩
  have HB9 := Lib.hid (HB2.out.trans (b9.mono HB2.out.size))
  have g := HBF.out.below b9
  have q0 := g.c 0 rfl
  have q1 := g.c 1 rfl
  have q2 := g.c 2 rfl
  clear b9 g
  go_wp2
  go_ret
  exact ⟨rfl, HB9.out⟩

set_option maxRecDepth 100000 in
set_option maxHeartbeats 2000000 in
theorem heads_ok (v : Value) (l : List Int) (cut : Int) (w : World) (hrd : Rd w v l) (hok : ∀ x ∈ l, 0 ≤ x ∧ x < 256) (hlen : l.length ≤ 281474976710656) (hr : nm.Runs w) (m : GMod) (q : Nat) (hx : decodeM l = .ok m q) :
    Calls Tryz.prog 3 #[v, .int .i64 cut] w fun e w' => e = .returned (.bool true) ∧ Below w.heap.size w w' := by
  have HD := Lib.hid (decode_any v l w hrd hok hlen hr)
  have HR := Lib.hid hr
  have HRD := Lib.hid hrd
  have HOK := Lib.hid hok
  have h8 := heads_len hx
  have h8' : ¬ (l.length : Int) < 8 := by omega
  have hl : l.length ≤ 16384 := by
    unfold decodeM at hx
    split at hx
    · cases hx
    · omega
  obtain ⟨i, hi, ri⟩ := cut_bd cut l.length (by omega) hl
  have hLz : ((l.length : Int) == 0) = false := by rw [beq_eq_false_iff_ne]; omega
  have hLn : ¬ (l.length : Int) = 0 := by omega
  have hi0 : (0 : Int) ≤ (i : Int) := Int.natCast_nonneg _
  have HX := Lib.hid hx
  obtain ⟨ao, cap, rfl, hcap, _⟩ := id hrd
  have hic : i ≤ cap := by omega
  have hic' : (i : Int) ≤ cap := by omega
  have HRI := Lib.hid ri
  have HBy := Lib.hid (by_bytes hok)
  have HTk := Lib.hid (show ∀ x ∈ l.take i, 0 ≤ x ∧ x < 256 from fun x hx => hok x (List.mem_of_mem_take hx))
  clear hx hok hrd hr ri
  go_enter Tryz.func3, Tryz.ntmps3
  go_wp2_with fail
  refine HD.out.mono ?_
  rintro en w1 h1
  rw [HX.out] at h1
  obtain ⟨b1, tv, iv, fv, gv, ev, dv, rfl, g1, g2, g3, g4, g5, g6⟩ := h1
  obtain ⟨ta, tc, rfl⟩ := g1.slice
  obtain ⟨ia, ic, rfl⟩ := g2.slice
  obtain ⟨fa, fc, rfl⟩ := g3.slice
  obtain ⟨ga, gc, rfl⟩ := g4.slice
  obtain ⟨ea, ec, rfl⟩ := g5.slice
  obtain ⟨da, dc, rfl⟩ := g6.slice
  have B2 := made2 w1 (.cells #[.slice ta m.types.length tc, .slice ia m.imports.length ic, .slice fa m.funcs.length fc, .int .i64 m.pages, .int .i64 m.most, .slice ga m.globals.length gc, .slice ea m.exports.length ec, .int .i64 m.start, .slice da m.datas.length dc] 30) (.cells #[.int .i64 0, .int .i64 0, .int .i64 0] 33)
  have hb2 := b1.trans (B2.mono b1.size)
  have HB2 := Lib.hid hb2
  have ri := HRI.out
  have HD2 := Lib.hid (decode_any (.slice ao i cap) (l.take i) _ (rd_take (HRD.out.lift hb2) (by omega)) HTk.out (by rw [List.length_take]; omega) (HR.out.lift hb2))
  have HRD2 := Lib.hid (HRD.out.lift hb2)
  clear g1 g2 g3 g4 g5 g6 b1 B2 hb2
  go_wp2_with fail
  generalize ((w1.alloc (.cells #[.slice ta m.types.length tc, .slice ia m.imports.length ic, .slice fa m.funcs.length fc, .int .i64 m.pages, .int .i64 m.most, .slice ga m.globals.length gc, .slice ea m.exports.length ec, .int .i64 m.start, .slice da m.datas.length dc] 30)).alloc (.cells #[.int .i64 0, .int .i64 0, .int .i64 0] 33)) = w2 at HB2 HD2 HRD2 ⊢
  refine HD2.out.mono ?_
  rintro en w3 h3
  clear ri
  cases hx2 : decodeM (l.take i) with
  | bad why2 a2 =>
    rw [hx2] at h3
    obtain ⟨b3, rfl⟩ := h3
    have hz : ¬ why2 = 0 := decode_nz (by_bytes HTk.out) hx2
    have hb3 := HB2.out.trans (b3.mono HB2.out.size)
    have B4 := made2 w3 (.cells #[.slice none 0 0, .slice none 0 0, .slice none 0 0, .int .i64 0, .int .i64 0, .slice none 0 0, .slice none 0 0, .int .i64 0, .slice none 0 0] 30) (.cells #[.int .i64 why2, .int .i64 a2, .int .i64 0] 33)
    have HB4 := Lib.hid (hb3.trans (B4.mono hb3.size))
    have HR4 := Lib.hid (HR.out.lift HB4.out)
    clear b3 hb3 B4 hx2 HD2
    go_wp2_with fail
    refine (alive_any _ HR4.out).mono ?_
    rintro en w9 ⟨rfl, b9⟩
    have HB9 := Lib.hid (HB4.out.trans (b9.mono HB4.out.size))
    clear b9
    go_wp2
    go_ret
    exact ⟨rfl, HB9.out⟩
  | ok m2 q2 =>
    rw [hx2] at h3
    obtain ⟨b3, tv, iv, fv, gv, ev, dv, rfl, g1, g2, g3, g4, g5, g6⟩ := h3
    obtain ⟨ta2, tc2, rfl⟩ := g1.slice
    obtain ⟨ia2, ic2, rfl⟩ := g2.slice
    obtain ⟨fa2, fc2, rfl⟩ := g3.slice
    obtain ⟨ga2, gc2, rfl⟩ := g4.slice
    obtain ⟨ea2, ec2, rfl⟩ := g5.slice
    obtain ⟨da2, dc2, rfl⟩ := g6.slice
    have hb3 := HB2.out.trans (b3.mono HB2.out.size)
    have B4 := made2 w3 (.cells #[.slice ta2 m2.types.length tc2, .slice ia2 m2.imports.length ic2, .slice fa2 m2.funcs.length fc2, .int .i64 m2.pages, .int .i64 m2.most, .slice ga2 m2.globals.length gc2, .slice ea2 m2.exports.length ec2, .int .i64 m2.start, .slice da2 m2.datas.length dc2] 30) (.cells #[.int .i64 0, .int .i64 0, .int .i64 0] 33)
    have HB4 := Lib.hid (hb3.trans (B4.mono hb3.size))
    have HE := Lib.hid (ends_any (.slice ao l.length cap) l _ ((HRD2.out.lift b3).lift B4) HOK.out hl)
    have HMem := Lib.hid (heads_end HBy.out (by omega) hx2)
    clear g1 g2 g3 g4 g5 g6 b3 hb3 B4 hx2 HD2
    go_wp2_with fail
    refine HE.out.mono ?_
    rintro en w5 ⟨ve, rfl, hrde, hle, b5⟩
    have HB5 := Lib.hid (HB4.out.trans (b5.mono HB4.out.size))
    have HMem2 := HMem.out
    generalize (8 : Int) :: endsL l l.length 8 = es at hrde hle HMem2
    have HMem := Lib.hid HMem2
    obtain ⟨ea0, ec0, rfl, hce, _, hde⟩ := hrde
    have HDe := Lib.hid hde
    clear b5 HE hde HMem2
    go_wp2
    go_loopw [59] (fun y wr => ∃ k : Nat, y = .int .i64 k ∧ k ≤ es.length ∧ Hid (∀ j : Nat, j < k → es.getD j 0 ≠ (i : Int)) ∧ wr = w5) (fun y _ => es.length - (intOf y).toNat)
    case atStart => exact ⟨0, rfl, Nat.zero_le _, fun j hj => by omega, rfl⟩
    case round =>
      obtain ⟨k, rfl, hk, HN, rfl⟩ := hrel
      by_cases hlt : k < es.length
      · rcases HDe.out with e | ⟨b, off, rfl, hcell⟩
        · subst e; simp at hlt
        have hck := hcell k hlt
        have hklt : (k : Int) < es.length := by omega
        have HN2 := Lib.hid (show es.getD k 0 ≠ (i : Int) → ∀ j : Nat, j < k + 1 → es.getD j 0 ≠ (i : Int) from fun h j hj => by
          by_cases hjk : j = k
          · subst hjk; exact h
          · exact HN.out j (by omega))
        clear hcell
        generalize es.getD k 0 = x at hck HN2
        by_cases hx : x = (i : Int)
        · have hxe : (x == (i : Int)) = true := by simpa using hx
          have HR5 := Lib.hid (HR.out.lift HB5.out)
          subst hx
          go_wp2_with fail
          refine (alive_any _ HR5.out).mono ?_
          rintro en w9 ⟨rfl, b9⟩
          have HB9 := Lib.hid (HB5.out.trans (b9.mono HB5.out.size))
          clear b9 hck
          go_wp2
          go_ret
          exact ⟨rfl, HB9.out⟩
        · have hxe : (x == (i : Int)) = false := by simpa using hx
          have HN3 := Lib.hid (HN2.out hx)
          have hne : ¬ x = (i : Int) := hx
          clear hx
          go_wp2
          go_roundw
          case rel => exact ⟨k + 1, by go_num, by omega, HN3.out, trivial⟩
          case measure => simp [intOf]; omega
      · exfalso
        obtain ⟨j, hj, he⟩ := List.mem_iff_getElem.1 HMem.out
        refine HN.out j (by omega) ?_
        rw [List.getD_eq_getElem?_getD, List.getElem?_eq_getElem hj]; exact he

theorem wasmHeads_any (v : Value) (l : List Int) (cut : Int) (w : World) (hrd : Rd w v l) (hok : ∀ x ∈ l, 0 ≤ x ∧ x < 256) (hlen : l.length ≤ 281474976710656) (hr : nm.Runs w) :
    Calls Tryz.prog 3 #[v, .int .i64 cut] w fun e w' => e = .returned (.bool true) ∧ Below w.heap.size w w' := by
  cases hx : decodeM l with
  | ok m q => exact heads_ok v l cut w hrd hok hlen hr m q hx
  | bad why a => exact heads_bad v l cut w hrd hok hlen hr why a hx
end Go.Proofs.YtgcmdnkmnghhaaaGreatDoor.wm
