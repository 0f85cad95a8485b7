/- Put together by program: WBegin WCatch WRdm. -/
import Derived.Test.YtgcmdnkmnghhaaaGreatDoorZ12
import Derived.Defers
import Derived.Recover
/- begin: printed by gen_begin.py. -/
set_option linter.unusedVariables false
set_option linter.unusedSimpArgs false
namespace Go.Proofs.YtgcmdnkmnghhaaaGreatDoor.wm
open Go.RowKit Go.Proofs.YtgcmdnkmnghhaaaGreatDoor.lb
section
variable {w0 : World} {ao : Option Addr} {cap : Nat} {l : List Int}
theorem magic_at {l : List Int} {e i : Nat} (h : i < 8) : pMagic (magicL.drop i) l e i = if i < e then (if l.getD i 0 ≠ magicL.getD i 0 then .bad 5 i else pMagic (magicL.drop (i + 1)) l e (i + 1)) else .bad 4 i := by
  have hd : magicL.drop i = magicL.getD i 0 :: magicL.drop (i + 1) := by
    match i, h with
    | 0, _ | 1, _ | 2, _ | 3, _ | 4, _ | 5, _ | 6, _ | 7, _ => rfl
  rw [hd]
  by_cases he : i < e
  · rw [if_pos he]
    refine (P.bind_ok (show pOctet l e i = .ok (l.getD i 0) (i + 1) by unfold pOctet; rw [if_pos he])).trans ?_
    by_cases hx : l.getD i 0 ≠ magicL.getD i 0
    · rw [if_pos hx, if_pos hx]
      show Res.bad 5 (((i + 1 : Nat) : Int) - 1) = _
      rw [show ((i + 1 : Nat) : Int) - 1 = i by omega]
    · rw [if_neg hx, if_neg hx]
  · rw [if_neg he]
    exact P.bind_bad (by unfold pOctet; rw [if_neg he])

def BeginPost (w0 : World) (ao : Option Addr) (cap : Nat) (l : List Int) (r dd x e : Nat) (st : DSt) (tv iv fv gv ev dv : Value) (w : World) (res : Res Unit) (en : Ending) (w' : World) : Prop :=
  Below r w w' ∧ match res with
  | .bad why a => en = thrown why a
  | .ok _ q => en = .returned (.tuple #[]) ∧ DI w0 ao cap l r dd x e q st tv iv fv gv ev dv w'

set_option maxRecDepth 100000 in
set_option maxHeartbeats 2000000 in
theorem begin_any (c : Ctx w0 ao cap l) (r dd x e : Nat) (st : DSt) (tv iv fv gv ev dv : Value) (w : World) (h : DI w0 ao cap l r dd x e 0 st tv iv fv gv ev dv w) :
    Calls Tryz.prog 47 #[.pointer (some ⟨dd, 0, none⟩)] w (BeginPost w0 ao cap l r dd x e st tv iv fv gv ev dv w (pMagic magicL l e 0)) := by
  have HC := Lib.hid c
  have HH := Lib.hid h
  have hdl := h.blk.lt
  have hd := h.hd
  clear h c
  go_enter Tryz.func47, Tryz.ntmps47
  go_wp2
  go_loopw [3] (fun y wr => ∃ i : Nat, y = .int .i64 i ∧ i ≤ 8 ∧ Hid (DI w0 ao cap l r dd x e i st tv iv fv gv ev dv wr ∧ Below r w wr ∧ pMagic magicL l e 0 = pMagic (magicL.drop i) l e i)) (fun y _ => 8 - (intOf y).toNat)
  case atStart => exact ⟨0, rfl, by omega, HH.out, Below.refl _ _, rfl⟩
  case round =>
    obtain ⟨i, rfl, hi, HL⟩ := hrel
    by_cases h8 : i = 8
    · subst h8
      go_wp2
      (first | go_end0 | refine bodyPost_ret (results_none rfl _ _ _) rfl ?_)
      obtain ⟨hdi, hb, hm⟩ := HL.out
      exact ⟨hb, by rw [hm]; exact ⟨rfl, hdi⟩⟩
    · have hi8 : i < 8 := by omega
      have hm := HL.out.2.2
      rw [magic_at hi8] at hm
      have HI : i = 0 ∨ i = 1 ∨ i = 2 ∨ i = 3 ∨ i = 4 ∨ i = 5 ∨ i = 6 ∨ i = 7 := by omega
      rcases HI with rfl | rfl | rfl | rfl | rfl | rfl | rfl | rfl
      · have m0 : wr.cell? ⟨dd, 0, none⟩ = some (.pointer (some ⟨r, 0, none⟩)) := HL.out.1.blk.c 0 rfl
        have HO := octet_any HC.out r e 0 wr.drew (HL.out.1.rr.below (Below.refl _ _).drew)
        have hrl := HL.out.1.rr.blk.lt
        by_cases he : 0 < e
        · rw [if_pos he] at hm
          have ho : pOctet l e 0 = .ok (l.getD 0 0) 1 := by unfold pOctet; rw [if_pos he]
          have HX1 := Lib.hid ho
          have HO := Lib.hid HO
          obtain ⟨c, hc⟩ : ∃ c, l.getD 0 0 = c := ⟨_, rfl⟩
          rw [hc] at hm HX1
          by_cases hx : c ≠ 0
          · have HX := Lib.hid (hm.trans (if_pos hx))
            have hne : (c != IntKind.i64.wrap ↑(({ data := #[0, 97, 115, 109, 1, 0, 0, 0] } : ByteArray)[0]'(by decide)).toNat) = true := by rw [show IntKind.i64.wrap ↑(({ data := #[0, 97, 115, 109, 1, 0, 0, 0] } : ByteArray)[0]'(by decide)).toNat = 0 from rfl]; simpa using hx
            clear ho hx hm
            go_wp2_with fail
            go_region_held3 (fun y => y.cell? ⟨dd, 0, none⟩ = some (.pointer (some ⟨r, 0, none⟩))) (first | exact d3 | go_keep) (first | (go_at_call 106; refine HO.out.mono ?_; intro en w2 h2; obtain ⟨k2, v2, rfl, hv2, r2⟩ := h2.ok_elim HX1.out; obtain rfl : v2 = .int .i64 c := hv2; have D2 := Lib.hid ((HL.out.1.below (Below.refl _ _).drew).go k2 r2); have d3 := D2.out.blk.c 0 rfl; have B2 := Lib.hid (HL.out.2.1.trans ((Below.refl r wr).drew.trans (k2.lowR (show r < wr.heap.size from hrl)))); clear k2 r2 h2))
            all_goals
              go_wp2_with fail
              refine (fail_any _ _ _).mono ?_
              rintro en w3 ⟨rfl, rfl⟩
              exact ⟨rfl, B2.out, by rw [HX.out]; rfl⟩
          · have HX := Lib.hid (hm.trans (if_neg hx))
            have hne : (c != IntKind.i64.wrap ↑(({ data := #[0, 97, 115, 109, 1, 0, 0, 0] } : ByteArray)[0]'(by decide)).toNat) = false := by rw [show IntKind.i64.wrap ↑(({ data := #[0, 97, 115, 109, 1, 0, 0, 0] } : ByteArray)[0]'(by decide)).toNat = 0 from rfl]; simpa using hx
            clear ho hx hm
            go_wp2_with fail
            go_region_held3 (fun y => y.cell? ⟨dd, 0, none⟩ = some (.pointer (some ⟨r, 0, none⟩))) (first | exact d3 | go_keep) (first | (go_at_call 106; refine HO.out.mono ?_; intro en w2 h2; obtain ⟨k2, v2, rfl, hv2, r2⟩ := h2.ok_elim HX1.out; obtain rfl : v2 = .int .i64 c := hv2; have D2 := Lib.hid ((HL.out.1.below (Below.refl _ _).drew).go k2 r2); have d3 := D2.out.blk.c 0 rfl; have B2 := Lib.hid (HL.out.2.1.trans ((Below.refl r wr).drew.trans (k2.lowR (show r < wr.heap.size from hrl)))); clear k2 r2 h2))
            all_goals
              go_wp2
              go_roundw
              case rel => exact ⟨1, by go_num, by omega, D2.out, B2.out, HX.out⟩
              case measure => simp [intOf]
        · rw [if_neg he] at hm
          have ho : pOctet l e 0 = .bad 4 0 := by unfold pOctet; rw [if_neg he]; rfl
          have HX1 := Lib.hid ho
          have HX := Lib.hid hm
          have HO := Lib.hid HO
          clear ho hm he
          go_wp2_with fail
          refine wp_region_held_drew (S := fun y => y.cell? ⟨dd, 0, none⟩ = some (.pointer (some ⟨r, 0, none⟩))) (by kernel_rfl) (by go_keep) (fun hHeld => ?_)
          refine wpAnyH_take (i := 0) (v := ?_) rfl (by kernel_rfl) (by kernel_rfl) (by kernel_rfl) (fun _ _ _ h => h) (Or.inl ⟨by rfl, ?_⟩) (by assumption) ?_
          rotate_left
          · intro w hSw; (try dsimp only at hSw); (go_simp <;> with_reducible rfl)
          try simp only [Act.put, List.setIfInBounds_toArray, List.set_cons_zero, List.set_cons_succ]
          refine wpAnyH_take (i := 1) (v := ?_) rfl (by kernel_rfl) (by kernel_rfl) (by kernel_rfl) (fun _ _ _ h => h) (Or.inl ⟨by rfl, ?_⟩) (by assumption) ?_
          rotate_left
          · intro w hSw; (try dsimp only at hSw); (go_simp <;> with_reducible rfl)
          try simp only [Act.put, List.setIfInBounds_toArray, List.set_cons_zero, List.set_cons_succ]
          refine wpAnyH_take (i := 2) (v := ?_) rfl (by kernel_rfl) (by kernel_rfl) (by kernel_rfl) (fun _ _ _ h => h) (Or.inl ⟨by rfl, ?_⟩) (by assumption) ?_
          rotate_left
          · intro w hSw; (try dsimp only at hSw); (go_simp <;> with_reducible rfl)
          try simp only [Act.put, List.setIfInBounds_toArray, List.set_cons_zero, List.set_cons_succ]
          refine wpAnyH_take (i := 3) (v := ?_) rfl (by kernel_rfl) (by kernel_rfl) (by kernel_rfl) (fun _ _ _ h => h) (Or.inl ⟨by rfl, ?_⟩) (by assumption) ?_
          rotate_left
          · intro w hSw; (try dsimp only at hSw); (go_simp <;> with_reducible rfl)
          try simp only [Act.put, List.setIfInBounds_toArray, List.set_cons_zero, List.set_cons_succ]
          refine wpAnyH_take (i := 5) (v := ?_) rfl (by kernel_rfl) (by kernel_rfl) (by kernel_rfl) (fun _ _ _ h => h) (Or.inl ⟨by rfl, ?_⟩) (by assumption) ?_
          rotate_left
          · intro w hSw; (try dsimp only at hSw); (go_simp <;> with_reducible rfl)
          try simp only [Act.put, List.setIfInBounds_toArray, List.set_cons_zero, List.set_cons_succ]
          refine wpAnyH_take (i := 6) (v := ?_) rfl (by kernel_rfl) (by kernel_rfl) (by kernel_rfl) (fun _ _ _ h => h) (Or.inl ⟨by rfl, ?_⟩) (by assumption) ?_
          rotate_left
          · intro w hSw; (try dsimp only at hSw); (go_simp <;> with_reducible rfl)
          try simp only [Act.put, List.setIfInBounds_toArray, List.set_cons_zero, List.set_cons_succ]
          refine wpAnyH_take (i := 7) (v := ?_) rfl (by kernel_rfl) (by kernel_rfl) (by kernel_rfl) (fun _ _ _ h => h) (Or.inl ⟨by rfl, ?_⟩) (by assumption) ?_
          rotate_left
          · intro w hSw; (try dsimp only at hSw); (go_simp <;> with_reducible rfl)
          try simp only [Act.put, List.setIfInBounds_toArray, List.set_cons_zero, List.set_cons_succ]
          refine wpAnyH_ready (rs := [4]) (by kernel_rfl) (by simp) ?_
          refine AllReadyH.cons rfl (fun K hK => ?_) AllReadyH.nil
          go_simp
          refine HO.out.mono ?_
          intro en w2 h2
          obtain ⟨k2, rfl⟩ := h2.bad_elim HX1.out
          exact ⟨rfl, HL.out.2.1.trans ((Below.refl r wr).drew.trans (k2.lowR (show r < wr.heap.size from hrl))), by rw [HX.out]; rfl⟩
      · have m0 : wr.cell? ⟨dd, 0, none⟩ = some (.pointer (some ⟨r, 0, none⟩)) := HL.out.1.blk.c 0 rfl
        have HO := octet_any HC.out r e 1 wr.drew (HL.out.1.rr.below (Below.refl _ _).drew)
        have hrl := HL.out.1.rr.blk.lt
        by_cases he : 1 < e
        · rw [if_pos he] at hm
          have ho : pOctet l e 1 = .ok (l.getD 1 0) 2 := by unfold pOctet; rw [if_pos he]
          have HX1 := Lib.hid ho
          have HO := Lib.hid HO
          obtain ⟨c, hc⟩ : ∃ c, l.getD 1 0 = c := ⟨_, rfl⟩
          rw [hc] at hm HX1
          by_cases hx : c ≠ 97
          · have HX := Lib.hid (hm.trans (if_pos hx))
            have hne : (c != IntKind.i64.wrap ↑(({ data := #[0, 97, 115, 109, 1, 0, 0, 0] } : ByteArray)[1]'(by decide)).toNat) = true := by rw [show IntKind.i64.wrap ↑(({ data := #[0, 97, 115, 109, 1, 0, 0, 0] } : ByteArray)[1]'(by decide)).toNat = 97 from rfl]; simpa using hx
            clear ho hx hm
            go_wp2_with fail
            go_region_held3 (fun y => y.cell? ⟨dd, 0, none⟩ = some (.pointer (some ⟨r, 0, none⟩))) (first | exact d3 | go_keep) (first | (go_at_call 106; refine HO.out.mono ?_; intro en w2 h2; obtain ⟨k2, v2, rfl, hv2, r2⟩ := h2.ok_elim HX1.out; obtain rfl : v2 = .int .i64 c := hv2; have D2 := Lib.hid ((HL.out.1.below (Below.refl _ _).drew).go k2 r2); have d3 := D2.out.blk.c 0 rfl; have B2 := Lib.hid (HL.out.2.1.trans ((Below.refl r wr).drew.trans (k2.lowR (show r < wr.heap.size from hrl)))); clear k2 r2 h2))
            all_goals
              go_wp2_with fail
              refine (fail_any _ _ _).mono ?_
              rintro en w3 ⟨rfl, rfl⟩
              exact ⟨rfl, B2.out, by rw [HX.out]; rfl⟩
          · have HX := Lib.hid (hm.trans (if_neg hx))
            have hne : (c != IntKind.i64.wrap ↑(({ data := #[0, 97, 115, 109, 1, 0, 0, 0] } : ByteArray)[1]'(by decide)).toNat) = false := by rw [show IntKind.i64.wrap ↑(({ data := #[0, 97, 115, 109, 1, 0, 0, 0] } : ByteArray)[1]'(by decide)).toNat = 97 from rfl]; simpa using hx
            clear ho hx hm
            go_wp2_with fail
            go_region_held3 (fun y => y.cell? ⟨dd, 0, none⟩ = some (.pointer (some ⟨r, 0, none⟩))) (first | exact d3 | go_keep) (first | (go_at_call 106; refine HO.out.mono ?_; intro en w2 h2; obtain ⟨k2, v2, rfl, hv2, r2⟩ := h2.ok_elim HX1.out; obtain rfl : v2 = .int .i64 c := hv2; have D2 := Lib.hid ((HL.out.1.below (Below.refl _ _).drew).go k2 r2); have d3 := D2.out.blk.c 0 rfl; have B2 := Lib.hid (HL.out.2.1.trans ((Below.refl r wr).drew.trans (k2.lowR (show r < wr.heap.size from hrl)))); clear k2 r2 h2))
            all_goals
              go_wp2
              go_roundw
              case rel => exact ⟨2, by go_num, by omega, D2.out, B2.out, HX.out⟩
              case measure => simp [intOf]
        · rw [if_neg he] at hm
          have ho : pOctet l e 1 = .bad 4 1 := by unfold pOctet; rw [if_neg he]; rfl
          have HX1 := Lib.hid ho
          have HX := Lib.hid hm
          have HO := Lib.hid HO
          clear ho hm he
          go_wp2_with fail
          refine wp_region_held_drew (S := fun y => y.cell? ⟨dd, 0, none⟩ = some (.pointer (some ⟨r, 0, none⟩))) (by kernel_rfl) (by go_keep) (fun hHeld => ?_)
          refine wpAnyH_take (i := 0) (v := ?_) rfl (by kernel_rfl) (by kernel_rfl) (by kernel_rfl) (fun _ _ _ h => h) (Or.inl ⟨by rfl, ?_⟩) (by assumption) ?_
          rotate_left
          · intro w hSw; (try dsimp only at hSw); (go_simp <;> with_reducible rfl)
          try simp only [Act.put, List.setIfInBounds_toArray, List.set_cons_zero, List.set_cons_succ]
          refine wpAnyH_take (i := 1) (v := ?_) rfl (by kernel_rfl) (by kernel_rfl) (by kernel_rfl) (fun _ _ _ h => h) (Or.inl ⟨by rfl, ?_⟩) (by assumption) ?_
          rotate_left
          · intro w hSw; (try dsimp only at hSw); (go_simp <;> with_reducible rfl)
          try simp only [Act.put, List.setIfInBounds_toArray, List.set_cons_zero, List.set_cons_succ]
          refine wpAnyH_take (i := 2) (v := ?_) rfl (by kernel_rfl) (by kernel_rfl) (by kernel_rfl) (fun _ _ _ h => h) (Or.inl ⟨by rfl, ?_⟩) (by assumption) ?_
          rotate_left
          · intro w hSw; (try dsimp only at hSw); (go_simp <;> with_reducible rfl)
          try simp only [Act.put, List.setIfInBounds_toArray, List.set_cons_zero, List.set_cons_succ]
          refine wpAnyH_take (i := 3) (v := ?_) rfl (by kernel_rfl) (by kernel_rfl) (by kernel_rfl) (fun _ _ _ h => h) (Or.inl ⟨by rfl, ?_⟩) (by assumption) ?_
          rotate_left
          · intro w hSw; (try dsimp only at hSw); (go_simp <;> with_reducible rfl)
          try simp only [Act.put, List.setIfInBounds_toArray, List.set_cons_zero, List.set_cons_succ]
          refine wpAnyH_take (i := 5) (v := ?_) rfl (by kernel_rfl) (by kernel_rfl) (by kernel_rfl) (fun _ _ _ h => h) (Or.inl ⟨by rfl, ?_⟩) (by assumption) ?_
          rotate_left
          · intro w hSw; (try dsimp only at hSw); (go_simp <;> with_reducible rfl)
          try simp only [Act.put, List.setIfInBounds_toArray, List.set_cons_zero, List.set_cons_succ]
          refine wpAnyH_take (i := 6) (v := ?_) rfl (by kernel_rfl) (by kernel_rfl) (by kernel_rfl) (fun _ _ _ h => h) (Or.inl ⟨by rfl, ?_⟩) (by assumption) ?_
          rotate_left
          · intro w hSw; (try dsimp only at hSw); (go_simp <;> with_reducible rfl)
          try simp only [Act.put, List.setIfInBounds_toArray, List.set_cons_zero, List.set_cons_succ]
          refine wpAnyH_take (i := 7) (v := ?_) rfl (by kernel_rfl) (by kernel_rfl) (by kernel_rfl) (fun _ _ _ h => h) (Or.inl ⟨by rfl, ?_⟩) (by assumption) ?_
          rotate_left
          · intro w hSw; (try dsimp only at hSw); (go_simp <;> with_reducible rfl)
          try simp only [Act.put, List.setIfInBounds_toArray, List.set_cons_zero, List.set_cons_succ]
          refine wpAnyH_ready (rs := [4]) (by kernel_rfl) (by simp) ?_
          refine AllReadyH.cons rfl (fun K hK => ?_) AllReadyH.nil
          go_simp
          refine HO.out.mono ?_
          intro en w2 h2
          obtain ⟨k2, rfl⟩ := h2.bad_elim HX1.out
          exact ⟨rfl, HL.out.2.1.trans ((Below.refl r wr).drew.trans (k2.lowR (show r < wr.heap.size from hrl))), by rw [HX.out]; rfl⟩
      · have m0 : wr.cell? ⟨dd, 0, none⟩ = some (.pointer (some ⟨r, 0, none⟩)) := HL.out.1.blk.c 0 rfl
        have HO := octet_any HC.out r e 2 wr.drew (HL.out.1.rr.below (Below.refl _ _).drew)
        have hrl := HL.out.1.rr.blk.lt
        by_cases he : 2 < e
        · rw [if_pos he] at hm
          have ho : pOctet l e 2 = .ok (l.getD 2 0) 3 := by unfold pOctet; rw [if_pos he]
          have HX1 := Lib.hid ho
          have HO := Lib.hid HO
          obtain ⟨c, hc⟩ : ∃ c, l.getD 2 0 = c := ⟨_, rfl⟩
          rw [hc] at hm HX1
          by_cases hx : c ≠ 115
          · have HX := Lib.hid (hm.trans (if_pos hx))
            have hne : (c != IntKind.i64.wrap ↑(({ data := #[0, 97, 115, 109, 1, 0, 0, 0] } : ByteArray)[2]'(by decide)).toNat) = true := by rw [show IntKind.i64.wrap ↑(({ data := #[0, 97, 115, 109, 1, 0, 0, 0] } : ByteArray)[2]'(by decide)).toNat = 115 from rfl]; simpa using hx
            clear ho hx hm
            go_wp2_with fail
            go_region_held3 (fun y => y.cell? ⟨dd, 0, none⟩ = some (.pointer (some ⟨r, 0, none⟩))) (first | exact d3 | go_keep) (first | (go_at_call 106; refine HO.out.mono ?_; intro en w2 h2; obtain ⟨k2, v2, rfl, hv2, r2⟩ := h2.ok_elim HX1.out; obtain rfl : v2 = .int .i64 c := hv2; have D2 := Lib.hid ((HL.out.1.below (Below.refl _ _).drew).go k2 r2); have d3 := D2.out.blk.c 0 rfl; have B2 := Lib.hid (HL.out.2.1.trans ((Below.refl r wr).drew.trans (k2.lowR (show r < wr.heap.size from hrl)))); clear k2 r2 h2))
            all_goals
              go_wp2_with fail
              refine (fail_any _ _ _).mono ?_
              rintro en w3 ⟨rfl, rfl⟩
              exact ⟨rfl, B2.out, by rw [HX.out]; rfl⟩
          · have HX := Lib.hid (hm.trans (if_neg hx))
            have hne : (c != IntKind.i64.wrap ↑(({ data := #[0, 97, 115, 109, 1, 0, 0, 0] } : ByteArray)[2]'(by decide)).toNat) = false := by rw [show IntKind.i64.wrap ↑(({ data := #[0, 97, 115, 109, 1, 0, 0, 0] } : ByteArray)[2]'(by decide)).toNat = 115 from rfl]; simpa using hx
            clear ho hx hm
            go_wp2_with fail
            go_region_held3 (fun y => y.cell? ⟨dd, 0, none⟩ = some (.pointer (some ⟨r, 0, none⟩))) (first | exact d3 | go_keep) (first | (go_at_call 106; refine HO.out.mono ?_; intro en w2 h2; obtain ⟨k2, v2, rfl, hv2, r2⟩ := h2.ok_elim HX1.out; obtain rfl : v2 = .int .i64 c := hv2; have D2 := Lib.hid ((HL.out.1.below (Below.refl _ _).drew).go k2 r2); have d3 := D2.out.blk.c 0 rfl; have B2 := Lib.hid (HL.out.2.1.trans ((Below.refl r wr).drew.trans (k2.lowR (show r < wr.heap.size from hrl)))); clear k2 r2 h2))
            all_goals
              go_wp2
              go_roundw
              case rel => exact ⟨3, by go_num, by omega, D2.out, B2.out, HX.out⟩
              case measure => simp [intOf]
        · rw [if_neg he] at hm
          have ho : pOctet l e 2 = .bad 4 2 := by unfold pOctet; rw [if_neg he]; rfl
          have HX1 := Lib.hid ho
          have HX := Lib.hid hm
          have HO := Lib.hid HO
          clear ho hm he
          go_wp2_with fail
          refine wp_region_held_drew (S := fun y => y.cell? ⟨dd, 0, none⟩ = some (.pointer (some ⟨r, 0, none⟩))) (by kernel_rfl) (by go_keep) (fun hHeld => ?_)
          refine wpAnyH_take (i := 0) (v := ?_) rfl (by kernel_rfl) (by kernel_rfl) (by kernel_rfl) (fun _ _ _ h => h) (Or.inl ⟨by rfl, ?_⟩) (by assumption) ?_
          rotate_left
          · intro w hSw; (try dsimp only at hSw); (go_simp <;> with_reducible rfl)
          try simp only [Act.put, List.setIfInBounds_toArray, List.set_cons_zero, List.set_cons_succ]
          refine wpAnyH_take (i := 1) (v := ?_) rfl (by kernel_rfl) (by kernel_rfl) (by kernel_rfl) (fun _ _ _ h => h) (Or.inl ⟨by rfl, ?_⟩) (by assumption) ?_
          rotate_left
          · intro w hSw; (try dsimp only at hSw); (go_simp <;> with_reducible rfl)
          try simp only [Act.put, List.setIfInBounds_toArray, List.set_cons_zero, List.set_cons_succ]
          refine wpAnyH_take (i := 2) (v := ?_) rfl (by kernel_rfl) (by kernel_rfl) (by kernel_rfl) (fun _ _ _ h => h) (Or.inl ⟨by rfl, ?_⟩) (by assumption) ?_
          rotate_left
          · intro w hSw; (try dsimp only at hSw); (go_simp <;> with_reducible rfl)
          try simp only [Act.put, List.setIfInBounds_toArray, List.set_cons_zero, List.set_cons_succ]
          refine wpAnyH_take (i := 3) (v := ?_) rfl (by kernel_rfl) (by kernel_rfl) (by kernel_rfl) (fun _ _ _ h => h) (Or.inl ⟨by rfl, ?_⟩) (by assumption) ?_
          rotate_left
          · intro w hSw; (try dsimp only at hSw); (go_simp <;> with_reducible rfl)
          try simp only [Act.put, List.setIfInBounds_toArray, List.set_cons_zero, List.set_cons_succ]
          refine wpAnyH_take (i := 5) (v := ?_) rfl (by kernel_rfl) (by kernel_rfl) (by kernel_rfl) (fun _ _ _ h => h) (Or.inl ⟨by rfl, ?_⟩) (by assumption) ?_
          rotate_left
          · intro w hSw; (try dsimp only at hSw); (go_simp <;> with_reducible rfl)
          try simp only [Act.put, List.setIfInBounds_toArray, List.set_cons_zero, List.set_cons_succ]
          refine wpAnyH_take (i := 6) (v := ?_) rfl (by kernel_rfl) (by kernel_rfl) (by kernel_rfl) (fun _ _ _ h => h) (Or.inl ⟨by rfl, ?_⟩) (by assumption) ?_
          rotate_left
          · intro w hSw; (try dsimp only at hSw); (go_simp <;> with_reducible rfl)
          try simp only [Act.put, List.setIfInBounds_toArray, List.set_cons_zero, List.set_cons_succ]
          refine wpAnyH_take (i := 7) (v := ?_) rfl (by kernel_rfl) (by kernel_rfl) (by kernel_rfl) (fun _ _ _ h => h) (Or.inl ⟨by rfl, ?_⟩) (by assumption) ?_
          rotate_left
          · intro w hSw; (try dsimp only at hSw); (go_simp <;> with_reducible rfl)
          try simp only [Act.put, List.setIfInBounds_toArray, List.set_cons_zero, List.set_cons_succ]
          refine wpAnyH_ready (rs := [4]) (by kernel_rfl) (by simp) ?_
          refine AllReadyH.cons rfl (fun K hK => ?_) AllReadyH.nil
          go_simp
          refine HO.out.mono ?_
          intro en w2 h2
          obtain ⟨k2, rfl⟩ := h2.bad_elim HX1.out
          exact ⟨rfl, HL.out.2.1.trans ((Below.refl r wr).drew.trans (k2.lowR (show r < wr.heap.size from hrl))), by rw [HX.out]; rfl⟩
      · have m0 : wr.cell? ⟨dd, 0, none⟩ = some (.pointer (some ⟨r, 0, none⟩)) := HL.out.1.blk.c 0 rfl
        have HO := octet_any HC.out r e 3 wr.drew (HL.out.1.rr.below (Below.refl _ _).drew)
        have hrl := HL.out.1.rr.blk.lt
        by_cases he : 3 < e
        · rw [if_pos he] at hm
          have ho : pOctet l e 3 = .ok (l.getD 3 0) 4 := by unfold pOctet; rw [if_pos he]
          have HX1 := Lib.hid ho
          have HO := Lib.hid HO
          obtain ⟨c, hc⟩ : ∃ c, l.getD 3 0 = c := ⟨_, rfl⟩
          rw [hc] at hm HX1
          by_cases hx : c ≠ 109
          · have HX := Lib.hid (hm.trans (if_pos hx))
            have hne : (c != IntKind.i64.wrap ↑(({ data := #[0, 97, 115, 109, 1, 0, 0, 0] } : ByteArray)[3]'(by decide)).toNat) = true := by rw [show IntKind.i64.wrap ↑(({ data := #[0, 97, 115, 109, 1, 0, 0, 0] } : ByteArray)[3]'(by decide)).toNat = 109 from rfl]; simpa using hx
            clear ho hx hm
            go_wp2_with fail
            go_region_held3 (fun y => y.cell? ⟨dd, 0, none⟩ = some (.pointer (some ⟨r, 0, none⟩))) (first | exact d3 | go_keep) (first | (go_at_call 106; refine HO.out.mono ?_; intro en w2 h2; obtain ⟨k2, v2, rfl, hv2, r2⟩ := h2.ok_elim HX1.out; obtain rfl : v2 = .int .i64 c := hv2; have D2 := Lib.hid ((HL.out.1.below (Below.refl _ _).drew).go k2 r2); have d3 := D2.out.blk.c 0 rfl; have B2 := Lib.hid (HL.out.2.1.trans ((Below.refl r wr).drew.trans (k2.lowR (show r < wr.heap.size from hrl)))); clear k2 r2 h2))
            all_goals
              go_wp2_with fail
              refine (fail_any _ _ _).mono ?_
              rintro en w3 ⟨rfl, rfl⟩
              exact ⟨rfl, B2.out, by rw [HX.out]; rfl⟩
          · have HX := Lib.hid (hm.trans (if_neg hx))
            have hne : (c != IntKind.i64.wrap ↑(({ data := #[0, 97, 115, 109, 1, 0, 0, 0] } : ByteArray)[3]'(by decide)).toNat) = false := by rw [show IntKind.i64.wrap ↑(({ data := #[0, 97, 115, 109, 1, 0, 0, 0] } : ByteArray)[3]'(by decide)).toNat = 109 from rfl]; simpa using hx
            clear ho hx hm
            go_wp2_with fail
            go_region_held3 (fun y => y.cell? ⟨dd, 0, none⟩ = some (.pointer (some ⟨r, 0, none⟩))) (first | exact d3 | go_keep) (first | (go_at_call 106; refine HO.out.mono ?_; intro en w2 h2; obtain ⟨k2, v2, rfl, hv2, r2⟩ := h2.ok_elim HX1.out; obtain rfl : v2 = .int .i64 c := hv2; have D2 := Lib.hid ((HL.out.1.below (Below.refl _ _).drew).go k2 r2); have d3 := D2.out.blk.c 0 rfl; have B2 := Lib.hid (HL.out.2.1.trans ((Below.refl r wr).drew.trans (k2.lowR (show r < wr.heap.size from hrl)))); clear k2 r2 h2))
            all_goals
              go_wp2
              go_roundw
              case rel => exact ⟨4, by go_num, by omega, D2.out, B2.out, HX.out⟩
              case measure => simp [intOf]
        · rw [if_neg he] at hm
          have ho : pOctet l e 3 = .bad 4 3 := by unfold pOctet; rw [if_neg he]; rfl
          have HX1 := Lib.hid ho
          have HX := Lib.hid hm
          have HO := Lib.hid HO
          clear ho hm he
          go_wp2_with fail
          refine wp_region_held_drew (S := fun y => y.cell? ⟨dd, 0, none⟩ = some (.pointer (some ⟨r, 0, none⟩))) (by kernel_rfl) (by go_keep) (fun hHeld => ?_)
          refine wpAnyH_take (i := 0) (v := ?_) rfl (by kernel_rfl) (by kernel_rfl) (by kernel_rfl) (fun _ _ _ h => h) (Or.inl ⟨by rfl, ?_⟩) (by assumption) ?_
          rotate_left
          · intro w hSw; (try dsimp only at hSw); (go_simp <;> with_reducible rfl)
          try simp only [Act.put, List.setIfInBounds_toArray, List.set_cons_zero, List.set_cons_succ]
          refine wpAnyH_take (i := 1) (v := ?_) rfl (by kernel_rfl) (by kernel_rfl) (by kernel_rfl) (fun _ _ _ h => h) (Or.inl ⟨by rfl, ?_⟩) (by assumption) ?_
          rotate_left
          · intro w hSw; (try dsimp only at hSw); (go_simp <;> with_reducible rfl)
          try simp only [Act.put, List.setIfInBounds_toArray, List.set_cons_zero, List.set_cons_succ]
          refine wpAnyH_take (i := 2) (v := ?_) rfl (by kernel_rfl) (by kernel_rfl) (by kernel_rfl) (fun _ _ _ h => h) (Or.inl ⟨by rfl, ?_⟩) (by assumption) ?_
          rotate_left
          · intro w hSw; (try dsimp only at hSw); (go_simp <;> with_reducible rfl)
          try simp only [Act.put, List.setIfInBounds_toArray, List.set_cons_zero, List.set_cons_succ]
          refine wpAnyH_take (i := 3) (v := ?_) rfl (by kernel_rfl) (by kernel_rfl) (by kernel_rfl) (fun _ _ _ h => h) (Or.inl ⟨by rfl, ?_⟩) (by assumption) ?_
          rotate_left
          · intro w hSw; (try dsimp only at hSw); (go_simp <;> with_reducible rfl)
          try simp only [Act.put, List.setIfInBounds_toArray, List.set_cons_zero, List.set_cons_succ]
          refine wpAnyH_take (i := 5) (v := ?_) rfl (by kernel_rfl) (by kernel_rfl) (by kernel_rfl) (fun _ _ _ h => h) (Or.inl ⟨by rfl, ?_⟩) (by assumption) ?_
          rotate_left
          · intro w hSw; (try dsimp only at hSw); (go_simp <;> with_reducible rfl)
          try simp only [Act.put, List.setIfInBounds_toArray, List.set_cons_zero, List.set_cons_succ]
          refine wpAnyH_take (i := 6) (v := ?_) rfl (by kernel_rfl) (by kernel_rfl) (by kernel_rfl) (fun _ _ _ h => h) (Or.inl ⟨by rfl, ?_⟩) (by assumption) ?_
          rotate_left
          · intro w hSw; (try dsimp only at hSw); (go_simp <;> with_reducible rfl)
          try simp only [Act.put, List.setIfInBounds_toArray, List.set_cons_zero, List.set_cons_succ]
          refine wpAnyH_take (i := 7) (v := ?_) rfl (by kernel_rfl) (by kernel_rfl) (by kernel_rfl) (fun _ _ _ h => h) (Or.inl ⟨by rfl, ?_⟩) (by assumption) ?_
          rotate_left
          · intro w hSw; (try dsimp only at hSw); (go_simp <;> with_reducible rfl)
          try simp only [Act.put, List.setIfInBounds_toArray, List.set_cons_zero, List.set_cons_succ]
          refine wpAnyH_ready (rs := [4]) (by kernel_rfl) (by simp) ?_
          refine AllReadyH.cons rfl (fun K hK => ?_) AllReadyH.nil
          go_simp
          refine HO.out.mono ?_
          intro en w2 h2
          obtain ⟨k2, rfl⟩ := h2.bad_elim HX1.out
          exact ⟨rfl, HL.out.2.1.trans ((Below.refl r wr).drew.trans (k2.lowR (show r < wr.heap.size from hrl))), by rw [HX.out]; rfl⟩
      · have m0 : wr.cell? ⟨dd, 0, none⟩ = some (.pointer (some ⟨r, 0, none⟩)) := HL.out.1.blk.c 0 rfl
        have HO := octet_any HC.out r e 4 wr.drew (HL.out.1.rr.below (Below.refl _ _).drew)
        have hrl := HL.out.1.rr.blk.lt
        by_cases he : 4 < e
        · rw [if_pos he] at hm
          have ho : pOctet l e 4 = .ok (l.getD 4 0) 5 := by unfold pOctet; rw [if_pos he]
          have HX1 := Lib.hid ho
          have HO := Lib.hid HO
          obtain ⟨c, hc⟩ : ∃ c, l.getD 4 0 = c := ⟨_, rfl⟩
          rw [hc] at hm HX1
          by_cases hx : c ≠ 1
          · have HX := Lib.hid (hm.trans (if_pos hx))
            have hne : (c != IntKind.i64.wrap ↑(({ data := #[0, 97, 115, 109, 1, 0, 0, 0] } : ByteArray)[4]'(by decide)).toNat) = true := by rw [show IntKind.i64.wrap ↑(({ data := #[0, 97, 115, 109, 1, 0, 0, 0] } : ByteArray)[4]'(by decide)).toNat = 1 from rfl]; simpa using hx
            clear ho hx hm
            go_wp2_with fail
            go_region_held3 (fun y => y.cell? ⟨dd, 0, none⟩ = some (.pointer (some ⟨r, 0, none⟩))) (first | exact d3 | go_keep) (first | (go_at_call 106; refine HO.out.mono ?_; intro en w2 h2; obtain ⟨k2, v2, rfl, hv2, r2⟩ := h2.ok_elim HX1.out; obtain rfl : v2 = .int .i64 c := hv2; have D2 := Lib.hid ((HL.out.1.below (Below.refl _ _).drew).go k2 r2); have d3 := D2.out.blk.c 0 rfl; have B2 := Lib.hid (HL.out.2.1.trans ((Below.refl r wr).drew.trans (k2.lowR (show r < wr.heap.size from hrl)))); clear k2 r2 h2))
            all_goals
              go_wp2_with fail
              refine (fail_any _ _ _).mono ?_
              rintro en w3 ⟨rfl, rfl⟩
              exact ⟨rfl, B2.out, by rw [HX.out]; rfl⟩
          · have HX := Lib.hid (hm.trans (if_neg hx))
            have hne : (c != IntKind.i64.wrap ↑(({ data := #[0, 97, 115, 109, 1, 0, 0, 0] } : ByteArray)[4]'(by decide)).toNat) = false := by rw [show IntKind.i64.wrap ↑(({ data := #[0, 97, 115, 109, 1, 0, 0, 0] } : ByteArray)[4]'(by decide)).toNat = 1 from rfl]; simpa using hx
            clear ho hx hm
            go_wp2_with fail
            go_region_held3 (fun y => y.cell? ⟨dd, 0, none⟩ = some (.pointer (some ⟨r, 0, none⟩))) (first | exact d3 | go_keep) (first | (go_at_call 106; refine HO.out.mono ?_; intro en w2 h2; obtain ⟨k2, v2, rfl, hv2, r2⟩ := h2.ok_elim HX1.out; obtain rfl : v2 = .int .i64 c := hv2; have D2 := Lib.hid ((HL.out.1.below (Below.refl _ _).drew).go k2 r2); have d3 := D2.out.blk.c 0 rfl; have B2 := Lib.hid (HL.out.2.1.trans ((Below.refl r wr).drew.trans (k2.lowR (show r < wr.heap.size from hrl)))); clear k2 r2 h2))
            all_goals
              go_wp2
              go_roundw
              case rel => exact ⟨5, by go_num, by omega, D2.out, B2.out, HX.out⟩
              case measure => simp [intOf]
        · rw [if_neg he] at hm
          have ho : pOctet l e 4 = .bad 4 4 := by unfold pOctet; rw [if_neg he]; rfl
          have HX1 := Lib.hid ho
          have HX := Lib.hid hm
          have HO := Lib.hid HO
          clear ho hm he
          go_wp2_with fail
          refine wp_region_held_drew (S := fun y => y.cell? ⟨dd, 0, none⟩ = some (.pointer (some ⟨r, 0, none⟩))) (by kernel_rfl) (by go_keep) (fun hHeld => ?_)
          refine wpAnyH_take (i := 0) (v := ?_) rfl (by kernel_rfl) (by kernel_rfl) (by kernel_rfl) (fun _ _ _ h => h) (Or.inl ⟨by rfl, ?_⟩) (by assumption) ?_
          rotate_left
          · intro w hSw; (try dsimp only at hSw); (go_simp <;> with_reducible rfl)
          try simp only [Act.put, List.setIfInBounds_toArray, List.set_cons_zero, List.set_cons_succ]
          refine wpAnyH_take (i := 1) (v := ?_) rfl (by kernel_rfl) (by kernel_rfl) (by kernel_rfl) (fun _ _ _ h => h) (Or.inl ⟨by rfl, ?_⟩) (by assumption) ?_
          rotate_left
          · intro w hSw; (try dsimp only at hSw); (go_simp <;> with_reducible rfl)
          try simp only [Act.put, List.setIfInBounds_toArray, List.set_cons_zero, List.set_cons_succ]
          refine wpAnyH_take (i := 2) (v := ?_) rfl (by kernel_rfl) (by kernel_rfl) (by kernel_rfl) (fun _ _ _ h => h) (Or.inl ⟨by rfl, ?_⟩) (by assumption) ?_
          rotate_left
          · intro w hSw; (try dsimp only at hSw); (go_simp <;> with_reducible rfl)
          try simp only [Act.put, List.setIfInBounds_toArray, List.set_cons_zero, List.set_cons_succ]
          refine wpAnyH_take (i := 3) (v := ?_) rfl (by kernel_rfl) (by kernel_rfl) (by kernel_rfl) (fun _ _ _ h => h) (Or.inl ⟨by rfl, ?_⟩) (by assumption) ?_
          rotate_left
          · intro w hSw; (try dsimp only at hSw); (go_simp <;> with_reducible rfl)
          try simp only [Act.put, List.setIfInBounds_toArray, List.set_cons_zero, List.set_cons_succ]
          refine wpAnyH_take (i := 5) (v := ?_) rfl (by kernel_rfl) (by kernel_rfl) (by kernel_rfl) (fun _ _ _ h => h) (Or.inl ⟨by rfl, ?_⟩) (by assumption) ?_
          rotate_left
          · intro w hSw; (try dsimp only at hSw); (go_simp <;> with_reducible rfl)
          try simp only [Act.put, List.setIfInBounds_toArray, List.set_cons_zero, List.set_cons_succ]
          refine wpAnyH_take (i := 6) (v := ?_) rfl (by kernel_rfl) (by kernel_rfl) (by kernel_rfl) (fun _ _ _ h => h) (Or.inl ⟨by rfl, ?_⟩) (by assumption) ?_
          rotate_left
          · intro w hSw; (try dsimp only at hSw); (go_simp <;> with_reducible rfl)
          try simp only [Act.put, List.setIfInBounds_toArray, List.set_cons_zero, List.set_cons_succ]
          refine wpAnyH_take (i := 7) (v := ?_) rfl (by kernel_rfl) (by kernel_rfl) (by kernel_rfl) (fun _ _ _ h => h) (Or.inl ⟨by rfl, ?_⟩) (by assumption) ?_
          rotate_left
          · intro w hSw; (try dsimp only at hSw); (go_simp <;> with_reducible rfl)
          try simp only [Act.put, List.setIfInBounds_toArray, List.set_cons_zero, List.set_cons_succ]
          refine wpAnyH_ready (rs := [4]) (by kernel_rfl) (by simp) ?_
          refine AllReadyH.cons rfl (fun K hK => ?_) AllReadyH.nil
          go_simp
          refine HO.out.mono ?_
          intro en w2 h2
          obtain ⟨k2, rfl⟩ := h2.bad_elim HX1.out
          exact ⟨rfl, HL.out.2.1.trans ((Below.refl r wr).drew.trans (k2.lowR (show r < wr.heap.size from hrl))), by rw [HX.out]; rfl⟩
      · have m0 : wr.cell? ⟨dd, 0, none⟩ = some (.pointer (some ⟨r, 0, none⟩)) := HL.out.1.blk.c 0 rfl
        have HO := octet_any HC.out r e 5 wr.drew (HL.out.1.rr.below (Below.refl _ _).drew)
        have hrl := HL.out.1.rr.blk.lt
        by_cases he : 5 < e
        · rw [if_pos he] at hm
          have ho : pOctet l e 5 = .ok (l.getD 5 0) 6 := by unfold pOctet; rw [if_pos he]
          have HX1 := Lib.hid ho
          have HO := Lib.hid HO
          obtain ⟨c, hc⟩ : ∃ c, l.getD 5 0 = c := ⟨_, rfl⟩
          rw [hc] at hm HX1
          by_cases hx : c ≠ 0
          · have HX := Lib.hid (hm.trans (if_pos hx))
            have hne : (c != IntKind.i64.wrap ↑(({ data := #[0, 97, 115, 109, 1, 0, 0, 0] } : ByteArray)[5]'(by decide)).toNat) = true := by rw [show IntKind.i64.wrap ↑(({ data := #[0, 97, 115, 109, 1, 0, 0, 0] } : ByteArray)[5]'(by decide)).toNat = 0 from rfl]; simpa using hx
            clear ho hx hm
            go_wp2_with fail
            go_region_held3 (fun y => y.cell? ⟨dd, 0, none⟩ = some (.pointer (some ⟨r, 0, none⟩))) (first | exact d3 | go_keep) (first | (go_at_call 106; refine HO.out.mono ?_; intro en w2 h2; obtain ⟨k2, v2, rfl, hv2, r2⟩ := h2.ok_elim HX1.out; obtain rfl : v2 = .int .i64 c := hv2; have D2 := Lib.hid ((HL.out.1.below (Below.refl _ _).drew).go k2 r2); have d3 := D2.out.blk.c 0 rfl; have B2 := Lib.hid (HL.out.2.1.trans ((Below.refl r wr).drew.trans (k2.lowR (show r < wr.heap.size from hrl)))); clear k2 r2 h2))
            all_goals
              go_wp2_with fail
              refine (fail_any _ _ _).mono ?_
              rintro en w3 ⟨rfl, rfl⟩
              exact ⟨rfl, B2.out, by rw [HX.out]; rfl⟩
          · have HX := Lib.hid (hm.trans (if_neg hx))
            have hne : (c != IntKind.i64.wrap ↑(({ data := #[0, 97, 115, 109, 1, 0, 0, 0] } : ByteArray)[5]'(by decide)).toNat) = false := by rw [show IntKind.i64.wrap ↑(({ data := #[0, 97, 115, 109, 1, 0, 0, 0] } : ByteArray)[5]'(by decide)).toNat = 0 from rfl]; simpa using hx
            clear ho hx hm
            go_wp2_with fail
            go_region_held3 (fun y => y.cell? ⟨dd, 0, none⟩ = some (.pointer (some ⟨r, 0, none⟩))) (first | exact d3 | go_keep) (first | (go_at_call 106; refine HO.out.mono ?_; intro en w2 h2; obtain ⟨k2, v2, rfl, hv2, r2⟩ := h2.ok_elim HX1.out; obtain rfl : v2 = .int .i64 c := hv2; have D2 := Lib.hid ((HL.out.1.below (Below.refl _ _).drew).go k2 r2); have d3 := D2.out.blk.c 0 rfl; have B2 := Lib.hid (HL.out.2.1.trans ((Below.refl r wr).drew.trans (k2.lowR (show r < wr.heap.size from hrl)))); clear k2 r2 h2))
            all_goals
              go_wp2
              go_roundw
              case rel => exact ⟨6, by go_num, by omega, D2.out, B2.out, HX.out⟩
              case measure => simp [intOf]
        · rw [if_neg he] at hm
          have ho : pOctet l e 5 = .bad 4 5 := by unfold pOctet; rw [if_neg he]; rfl
          have HX1 := Lib.hid ho
          have HX := Lib.hid hm
          have HO := Lib.hid HO
          clear ho hm he
          go_wp2_with fail
          refine wp_region_held_drew (S := fun y => y.cell? ⟨dd, 0, none⟩ = some (.pointer (some ⟨r, 0, none⟩))) (by kernel_rfl) (by go_keep) (fun hHeld => ?_)
          refine wpAnyH_take (i := 0) (v := ?_) rfl (by kernel_rfl) (by kernel_rfl) (by kernel_rfl) (fun _ _ _ h => h) (Or.inl ⟨by rfl, ?_⟩) (by assumption) ?_
          rotate_left
          · intro w hSw; (try dsimp only at hSw); (go_simp <;> with_reducible rfl)
          try simp only [Act.put, List.setIfInBounds_toArray, List.set_cons_zero, List.set_cons_succ]
          refine wpAnyH_take (i := 1) (v := ?_) rfl (by kernel_rfl) (by kernel_rfl) (by kernel_rfl) (fun _ _ _ h => h) (Or.inl ⟨by rfl, ?_⟩) (by assumption) ?_
          rotate_left
          · intro w hSw; (try dsimp only at hSw); (go_simp <;> with_reducible rfl)
          try simp only [Act.put, List.setIfInBounds_toArray, List.set_cons_zero, List.set_cons_succ]
          refine wpAnyH_take (i := 2) (v := ?_) rfl (by kernel_rfl) (by kernel_rfl) (by kernel_rfl) (fun _ _ _ h => h) (Or.inl ⟨by rfl, ?_⟩) (by assumption) ?_
          rotate_left
          · intro w hSw; (try dsimp only at hSw); (go_simp <;> with_reducible rfl)
          try simp only [Act.put, List.setIfInBounds_toArray, List.set_cons_zero, List.set_cons_succ]
          refine wpAnyH_take (i := 3) (v := ?_) rfl (by kernel_rfl) (by kernel_rfl) (by kernel_rfl) (fun _ _ _ h => h) (Or.inl ⟨by rfl, ?_⟩) (by assumption) ?_
          rotate_left
          · intro w hSw; (try dsimp only at hSw); (go_simp <;> with_reducible rfl)
          try simp only [Act.put, List.setIfInBounds_toArray, List.set_cons_zero, List.set_cons_succ]
          refine wpAnyH_take (i := 5) (v := ?_) rfl (by kernel_rfl) (by kernel_rfl) (by kernel_rfl) (fun _ _ _ h => h) (Or.inl ⟨by rfl, ?_⟩) (by assumption) ?_
          rotate_left
          · intro w hSw; (try dsimp only at hSw); (go_simp <;> with_reducible rfl)
          try simp only [Act.put, List.setIfInBounds_toArray, List.set_cons_zero, List.set_cons_succ]
          refine wpAnyH_take (i := 6) (v := ?_) rfl (by kernel_rfl) (by kernel_rfl) (by kernel_rfl) (fun _ _ _ h => h) (Or.inl ⟨by rfl, ?_⟩) (by assumption) ?_
          rotate_left
          · intro w hSw; (try dsimp only at hSw); (go_simp <;> with_reducible rfl)
          try simp only [Act.put, List.setIfInBounds_toArray, List.set_cons_zero, List.set_cons_succ]
          refine wpAnyH_take (i := 7) (v := ?_) rfl (by kernel_rfl) (by kernel_rfl) (by kernel_rfl) (fun _ _ _ h => h) (Or.inl ⟨by rfl, ?_⟩) (by assumption) ?_
          rotate_left
          · intro w hSw; (try dsimp only at hSw); (go_simp <;> with_reducible rfl)
          try simp only [Act.put, List.setIfInBounds_toArray, List.set_cons_zero, List.set_cons_succ]
          refine wpAnyH_ready (rs := [4]) (by kernel_rfl) (by simp) ?_
          refine AllReadyH.cons rfl (fun K hK => ?_) AllReadyH.nil
          go_simp
          refine HO.out.mono ?_
          intro en w2 h2
          obtain ⟨k2, rfl⟩ := h2.bad_elim HX1.out
          exact ⟨rfl, HL.out.2.1.trans ((Below.refl r wr).drew.trans (k2.lowR (show r < wr.heap.size from hrl))), by rw [HX.out]; rfl⟩
      · have m0 : wr.cell? ⟨dd, 0, none⟩ = some (.pointer (some ⟨r, 0, none⟩)) := HL.out.1.blk.c 0 rfl
        have HO := octet_any HC.out r e 6 wr.drew (HL.out.1.rr.below (Below.refl _ _).drew)
        have hrl := HL.out.1.rr.blk.lt
        by_cases he : 6 < e
        · rw [if_pos he] at hm
          have ho : pOctet l e 6 = .ok (l.getD 6 0) 7 := by unfold pOctet; rw [if_pos he]
          have HX1 := Lib.hid ho
          have HO := Lib.hid HO
          obtain ⟨c, hc⟩ : ∃ c, l.getD 6 0 = c := ⟨_, rfl⟩
          rw [hc] at hm HX1
          by_cases hx : c ≠ 0
          · have HX := Lib.hid (hm.trans (if_pos hx))
            have hne : (c != IntKind.i64.wrap ↑(({ data := #[0, 97, 115, 109, 1, 0, 0, 0] } : ByteArray)[6]'(by decide)).toNat) = true := by rw [show IntKind.i64.wrap ↑(({ data := #[0, 97, 115, 109, 1, 0, 0, 0] } : ByteArray)[6]'(by decide)).toNat = 0 from rfl]; simpa using hx
            clear ho hx hm
            go_wp2_with fail
            go_region_held3 (fun y => y.cell? ⟨dd, 0, none⟩ = some (.pointer (some ⟨r, 0, none⟩))) (first | exact d3 | go_keep) (first | (go_at_call 106; refine HO.out.mono ?_; intro en w2 h2; obtain ⟨k2, v2, rfl, hv2, r2⟩ := h2.ok_elim HX1.out; obtain rfl : v2 = .int .i64 c := hv2; have D2 := Lib.hid ((HL.out.1.below (Below.refl _ _).drew).go k2 r2); have d3 := D2.out.blk.c 0 rfl; have B2 := Lib.hid (HL.out.2.1.trans ((Below.refl r wr).drew.trans (k2.lowR (show r < wr.heap.size from hrl)))); clear k2 r2 h2))
            all_goals
              go_wp2_with fail
              refine (fail_any _ _ _).mono ?_
              rintro en w3 ⟨rfl, rfl⟩
              exact ⟨rfl, B2.out, by rw [HX.out]; rfl⟩
          · have HX := Lib.hid (hm.trans (if_neg hx))
            have hne : (c != IntKind.i64.wrap ↑(({ data := #[0, 97, 115, 109, 1, 0, 0, 0] } : ByteArray)[6]'(by decide)).toNat) = false := by rw [show IntKind.i64.wrap ↑(({ data := #[0, 97, 115, 109, 1, 0, 0, 0] } : ByteArray)[6]'(by decide)).toNat = 0 from rfl]; simpa using hx
            clear ho hx hm
            go_wp2_with fail
            go_region_held3 (fun y => y.cell? ⟨dd, 0, none⟩ = some (.pointer (some ⟨r, 0, none⟩))) (first | exact d3 | go_keep) (first | (go_at_call 106; refine HO.out.mono ?_; intro en w2 h2; obtain ⟨k2, v2, rfl, hv2, r2⟩ := h2.ok_elim HX1.out; obtain rfl : v2 = .int .i64 c := hv2; have D2 := Lib.hid ((HL.out.1.below (Below.refl _ _).drew).go k2 r2); have d3 := D2.out.blk.c 0 rfl; have B2 := Lib.hid (HL.out.2.1.trans ((Below.refl r wr).drew.trans (k2.lowR (show r < wr.heap.size from hrl)))); clear k2 r2 h2))
            all_goals
              go_wp2
              go_roundw
              case rel => exact ⟨7, by go_num, by omega, D2.out, B2.out, HX.out⟩
              case measure => simp [intOf]
        · rw [if_neg he] at hm
          have ho : pOctet l e 6 = .bad 4 6 := by unfold pOctet; rw [if_neg he]; rfl
          have HX1 := Lib.hid ho
          have HX := Lib.hid hm
          have HO := Lib.hid HO
          clear ho hm he
          go_wp2_with fail
          refine wp_region_held_drew (S := fun y => y.cell? ⟨dd, 0, none⟩ = some (.pointer (some ⟨r, 0, none⟩))) (by kernel_rfl) (by go_keep) (fun hHeld => ?_)
          refine wpAnyH_take (i := 0) (v := ?_) rfl (by kernel_rfl) (by kernel_rfl) (by kernel_rfl) (fun _ _ _ h => h) (Or.inl ⟨by rfl, ?_⟩) (by assumption) ?_
          rotate_left
          · intro w hSw; (try dsimp only at hSw); (go_simp <;> with_reducible rfl)
          try simp only [Act.put, List.setIfInBounds_toArray, List.set_cons_zero, List.set_cons_succ]
          refine wpAnyH_take (i := 1) (v := ?_) rfl (by kernel_rfl) (by kernel_rfl) (by kernel_rfl) (fun _ _ _ h => h) (Or.inl ⟨by rfl, ?_⟩) (by assumption) ?_
          rotate_left
          · intro w hSw; (try dsimp only at hSw); (go_simp <;> with_reducible rfl)
          try simp only [Act.put, List.setIfInBounds_toArray, List.set_cons_zero, List.set_cons_succ]
          refine wpAnyH_take (i := 2) (v := ?_) rfl (by kernel_rfl) (by kernel_rfl) (by kernel_rfl) (fun _ _ _ h => h) (Or.inl ⟨by rfl, ?_⟩) (by assumption) ?_
          rotate_left
          · intro w hSw; (try dsimp only at hSw); (go_simp <;> with_reducible rfl)
          try simp only [Act.put, List.setIfInBounds_toArray, List.set_cons_zero, List.set_cons_succ]
          refine wpAnyH_take (i := 3) (v := ?_) rfl (by kernel_rfl) (by kernel_rfl) (by kernel_rfl) (fun _ _ _ h => h) (Or.inl ⟨by rfl, ?_⟩) (by assumption) ?_
          rotate_left
          · intro w hSw; (try dsimp only at hSw); (go_simp <;> with_reducible rfl)
          try simp only [Act.put, List.setIfInBounds_toArray, List.set_cons_zero, List.set_cons_succ]
          refine wpAnyH_take (i := 5) (v := ?_) rfl (by kernel_rfl) (by kernel_rfl) (by kernel_rfl) (fun _ _ _ h => h) (Or.inl ⟨by rfl, ?_⟩) (by assumption) ?_
          rotate_left
          · intro w hSw; (try dsimp only at hSw); (go_simp <;> with_reducible rfl)
          try simp only [Act.put, List.setIfInBounds_toArray, List.set_cons_zero, List.set_cons_succ]
          refine wpAnyH_take (i := 6) (v := ?_) rfl (by kernel_rfl) (by kernel_rfl) (by kernel_rfl) (fun _ _ _ h => h) (Or.inl ⟨by rfl, ?_⟩) (by assumption) ?_
          rotate_left
          · intro w hSw; (try dsimp only at hSw); (go_simp <;> with_reducible rfl)
          try simp only [Act.put, List.setIfInBounds_toArray, List.set_cons_zero, List.set_cons_succ]
          refine wpAnyH_take (i := 7) (v := ?_) rfl (by kernel_rfl) (by kernel_rfl) (by kernel_rfl) (fun _ _ _ h => h) (Or.inl ⟨by rfl, ?_⟩) (by assumption) ?_
          rotate_left
          · intro w hSw; (try dsimp only at hSw); (go_simp <;> with_reducible rfl)
          try simp only [Act.put, List.setIfInBounds_toArray, List.set_cons_zero, List.set_cons_succ]
          refine wpAnyH_ready (rs := [4]) (by kernel_rfl) (by simp) ?_
          refine AllReadyH.cons rfl (fun K hK => ?_) AllReadyH.nil
          go_simp
          refine HO.out.mono ?_
          intro en w2 h2
          obtain ⟨k2, rfl⟩ := h2.bad_elim HX1.out
          exact ⟨rfl, HL.out.2.1.trans ((Below.refl r wr).drew.trans (k2.lowR (show r < wr.heap.size from hrl))), by rw [HX.out]; rfl⟩
      · have m0 : wr.cell? ⟨dd, 0, none⟩ = some (.pointer (some ⟨r, 0, none⟩)) := HL.out.1.blk.c 0 rfl
        have HO := octet_any HC.out r e 7 wr.drew (HL.out.1.rr.below (Below.refl _ _).drew)
        have hrl := HL.out.1.rr.blk.lt
        by_cases he : 7 < e
        · rw [if_pos he] at hm
          have ho : pOctet l e 7 = .ok (l.getD 7 0) 8 := by unfold pOctet; rw [if_pos he]
          have HX1 := Lib.hid ho
          have HO := Lib.hid HO
          obtain ⟨c, hc⟩ : ∃ c, l.getD 7 0 = c := ⟨_, rfl⟩
          rw [hc] at hm HX1
          by_cases hx : c ≠ 0
          · have HX := Lib.hid (hm.trans (if_pos hx))
            have hne : (c != IntKind.i64.wrap ↑(({ data := #[0, 97, 115, 109, 1, 0, 0, 0] } : ByteArray)[7]'(by decide)).toNat) = true := by rw [show IntKind.i64.wrap ↑(({ data := #[0, 97, 115, 109, 1, 0, 0, 0] } : ByteArray)[7]'(by decide)).toNat = 0 from rfl]; simpa using hx
            clear ho hx hm
            go_wp2_with fail
            go_region_held3 (fun y => y.cell? ⟨dd, 0, none⟩ = some (.pointer (some ⟨r, 0, none⟩))) (first | exact d3 | go_keep) (first | (go_at_call 106; refine HO.out.mono ?_; intro en w2 h2; obtain ⟨k2, v2, rfl, hv2, r2⟩ := h2.ok_elim HX1.out; obtain rfl : v2 = .int .i64 c := hv2; have D2 := Lib.hid ((HL.out.1.below (Below.refl _ _).drew).go k2 r2); have d3 := D2.out.blk.c 0 rfl; have B2 := Lib.hid (HL.out.2.1.trans ((Below.refl r wr).drew.trans (k2.lowR (show r < wr.heap.size from hrl)))); clear k2 r2 h2))
            all_goals
              go_wp2_with fail
              refine (fail_any _ _ _).mono ?_
              rintro en w3 ⟨rfl, rfl⟩
              exact ⟨rfl, B2.out, by rw [HX.out]; rfl⟩
          · have HX := Lib.hid (hm.trans (if_neg hx))
            have hne : (c != IntKind.i64.wrap ↑(({ data := #[0, 97, 115, 109, 1, 0, 0, 0] } : ByteArray)[7]'(by decide)).toNat) = false := by rw [show IntKind.i64.wrap ↑(({ data := #[0, 97, 115, 109, 1, 0, 0, 0] } : ByteArray)[7]'(by decide)).toNat = 0 from rfl]; simpa using hx
            clear ho hx hm
            go_wp2_with fail
            go_region_held3 (fun y => y.cell? ⟨dd, 0, none⟩ = some (.pointer (some ⟨r, 0, none⟩))) (first | exact d3 | go_keep) (first | (go_at_call 106; refine HO.out.mono ?_; intro en w2 h2; obtain ⟨k2, v2, rfl, hv2, r2⟩ := h2.ok_elim HX1.out; obtain rfl : v2 = .int .i64 c := hv2; have D2 := Lib.hid ((HL.out.1.below (Below.refl _ _).drew).go k2 r2); have d3 := D2.out.blk.c 0 rfl; have B2 := Lib.hid (HL.out.2.1.trans ((Below.refl r wr).drew.trans (k2.lowR (show r < wr.heap.size from hrl)))); clear k2 r2 h2))
            all_goals
              go_wp2
              go_roundw
              case rel => exact ⟨8, by go_num, by omega, D2.out, B2.out, HX.out⟩
              case measure => simp [intOf]
        · rw [if_neg he] at hm
          have ho : pOctet l e 7 = .bad 4 7 := by unfold pOctet; rw [if_neg he]; rfl
          have HX1 := Lib.hid ho
          have HX := Lib.hid hm
          have HO := Lib.hid HO
          clear ho hm he
          go_wp2_with fail
          refine wp_region_held_drew (S := fun y => y.cell? ⟨dd, 0, none⟩ = some (.pointer (some ⟨r, 0, none⟩))) (by kernel_rfl) (by go_keep) (fun hHeld => ?_)
          refine wpAnyH_take (i := 0) (v := ?_) rfl (by kernel_rfl) (by kernel_rfl) (by kernel_rfl) (fun _ _ _ h => h) (Or.inl ⟨by rfl, ?_⟩) (by assumption) ?_
          rotate_left
          · intro w hSw; (try dsimp only at hSw); (go_simp <;> with_reducible rfl)
          try simp only [Act.put, List.setIfInBounds_toArray, List.set_cons_zero, List.set_cons_succ]
          refine wpAnyH_take (i := 1) (v := ?_) rfl (by kernel_rfl) (by kernel_rfl) (by kernel_rfl) (fun _ _ _ h => h) (Or.inl ⟨by rfl, ?_⟩) (by assumption) ?_
          rotate_left
          · intro w hSw; (try dsimp only at hSw); (go_simp <;> with_reducible rfl)
          try simp only [Act.put, List.setIfInBounds_toArray, List.set_cons_zero, List.set_cons_succ]
          refine wpAnyH_take (i := 2) (v := ?_) rfl (by kernel_rfl) (by kernel_rfl) (by kernel_rfl) (fun _ _ _ h => h) (Or.inl ⟨by rfl, ?_⟩) (by assumption) ?_
          rotate_left
          · intro w hSw; (try dsimp only at hSw); (go_simp <;> with_reducible rfl)
          try simp only [Act.put, List.setIfInBounds_toArray, List.set_cons_zero, List.set_cons_succ]
          refine wpAnyH_take (i := 3) (v := ?_) rfl (by kernel_rfl) (by kernel_rfl) (by kernel_rfl) (fun _ _ _ h => h) (Or.inl ⟨by rfl, ?_⟩) (by assumption) ?_
          rotate_left
          · intro w hSw; (try dsimp only at hSw); (go_simp <;> with_reducible rfl)
          try simp only [Act.put, List.setIfInBounds_toArray, List.set_cons_zero, List.set_cons_succ]
          refine wpAnyH_take (i := 5) (v := ?_) rfl (by kernel_rfl) (by kernel_rfl) (by kernel_rfl) (fun _ _ _ h => h) (Or.inl ⟨by rfl, ?_⟩) (by assumption) ?_
          rotate_left
          · intro w hSw; (try dsimp only at hSw); (go_simp <;> with_reducible rfl)
          try simp only [Act.put, List.setIfInBounds_toArray, List.set_cons_zero, List.set_cons_succ]
          refine wpAnyH_take (i := 6) (v := ?_) rfl (by kernel_rfl) (by kernel_rfl) (by kernel_rfl) (fun _ _ _ h => h) (Or.inl ⟨by rfl, ?_⟩) (by assumption) ?_
          rotate_left
          · intro w hSw; (try dsimp only at hSw); (go_simp <;> with_reducible rfl)
          try simp only [Act.put, List.setIfInBounds_toArray, List.set_cons_zero, List.set_cons_succ]
          refine wpAnyH_take (i := 7) (v := ?_) rfl (by kernel_rfl) (by kernel_rfl) (by kernel_rfl) (fun _ _ _ h => h) (Or.inl ⟨by rfl, ?_⟩) (by assumption) ?_
          rotate_left
          · intro w hSw; (try dsimp only at hSw); (go_simp <;> with_reducible rfl)
          try simp only [Act.put, List.setIfInBounds_toArray, List.set_cons_zero, List.set_cons_succ]
          refine wpAnyH_ready (rs := [4]) (by kernel_rfl) (by simp) ?_
          refine AllReadyH.cons rfl (fun K hK => ?_) AllReadyH.nil
          go_simp
          refine HO.out.mono ?_
          intro en w2 h2
          obtain ⟨k2, rfl⟩ := h2.bad_elim HX1.out
          exact ⟨rfl, HL.out.2.1.trans ((Below.refl r wr).drew.trans (k2.lowR (show r < wr.heap.size from hrl))), by rw [HX.out]; rfl⟩
end
end Go.Proofs.YtgcmdnkmnghhaaaGreatDoor.wm

/- The deferred function of read. -/
set_option linter.unusedVariables false
set_option linter.unusedSimpArgs false
namespace Go.Proofs.YtgcmdnkmnghhaaaGreatDoor.wm
open Go.RowKit Go.Proofs.YtgcmdnkmnghhaaaGreatDoor.lb

theorem doneS {P : Program} {fn : Func} {c₀ : Frame} {cs : List Frame} {R : Ending → FrameMode → World → Prop} {a : Act} {w : World} {u : FrameMode} (ha : a.defers = []) (hr : fn.results = #[]) (h : R (.returned (.tuple #[])) u w) : bodyPostS P fn c₀ cs R .normal a ({ c₀ with mode := u } :: cs) w := ⟨ha, u, rfl, .tuple #[], results_none hr _ _ _, h⟩

set_option maxRecDepth 100000 in
set_option maxHeartbeats 1000000 in
theorem catch_wrong (mm ff : Nat) (why a : Int) (w : World) (hne : mm ≠ ff) {m1 m2 m3 m4 m5 m6 m7 m8 m9 f1 f2 f3 : Value} (hm : Blk 30 w mm #[m1, m2, m3, m4, m5, m6, m7, m8, m9]) (hf : Blk 33 w ff #[f1, f2, f3]) :
    CallsD Tryz.prog 46 #[.pointer (some ⟨mm, 0, none⟩), .pointer (some ⟨ff, 0, none⟩)] (.panicking [{ v := .iface 90 (.agg #[.int .i64 why, .int .i64 a]), recovered := false }]) w fun e u' w' =>
      e = .returned (.tuple #[]) ∧ u' = .panicking [{ v := .iface 90 (.agg #[.int .i64 why, .int .i64 a]), recovered := true }] ∧ Keep (fun i => i = mm ∨ i = ff) w w' ∧ Blk 30 w' mm #[.slice none 0 0, .slice none 0 0, .slice none 0 0, .int .i64 0, .int .i64 0, .slice none 0 0, .slice none 0 0, .int .i64 0, .slice none 0 0] ∧ Blk 33 w' ff #[.int .i64 why, .int .i64 a, .int .i64 0] := by
  have g1 := fun k => hm.f k
  have g2 := fun k => hf.f k
  have d0 := hm.c 0 rfl
  have z0 := hm.f 0
  have d1 := hm.c 1 rfl
  have z1 := hm.f 1
  have d2 := hm.c 2 rfl
  have z2 := hm.f 2
  have d3 := hm.c 3 rfl
  have z3 := hm.f 3
  have d4 := hm.c 4 rfl
  have z4 := hm.f 4
  have d5 := hm.c 5 rfl
  have z5 := hm.f 5
  have d6 := hm.c 6 rfl
  have z6 := hm.f 6
  have d7 := hm.c 7 rfl
  have z7 := hm.f 7
  have d8 := hm.c 8 rfl
  have z8 := hm.f 8
  have e0 := hf.c 0 rfl
  have y0 := hf.f 0
  have e1 := hf.c 1 rfl
  have y1 := hf.f 1
  have e2 := hf.c 2 rfl
  have y2 := hf.f 2
  have hne' := Ne.symm hne
  have lm := hm.lt
  have lf := hf.lt
  have hta : ∀ (v : Value) (t : TypeId) (w : World), (Instr.typeAssert (.iface 90 v) t 90 false).run Tryz.prog w = .ok v w := fun _ _ _ => rfl
  refine callsD_of_wpS Tryz.func46 rfl fun c₀ cs hu => ?_
  apply wpS_seq
  apply wpS_region
  simp [wpOpsS, go_sem, recoverD, hu, Tryz.ntmps46, Exit.thenS]
  simp only [show (Array.replicate 13 undef : Array Value) = #[undef, undef, undef, undef, undef, undef, undef, undef, undef, undef, undef, undef, undef] from rfl, List.append_toArray, List.cons_append, List.nil_append, List.setIfInBounds_toArray, List.set_cons_zero, List.set_cons_succ]
  refine wpS_of_wp ?_
  go_wp2
  refine wp_region_held_drew (S := fun y => y.cell? ⟨w.heap.size, 0, none⟩ = some (.int .i64 why) ∧ y.cell? ⟨w.heap.size, 1, none⟩ = some (.int .i64 a)) (by kernel_rfl) (by constructor <;> simp [go_sem]) (fun hHeld => ?_)
  refine wpAnyH_take (i := 0) (v := ?_) rfl (by kernel_rfl) (by kernel_rfl) (by kernel_rfl) (fun _ _ _ h => h) (Or.inl ⟨by rfl, ?_⟩) (by assumption) ?_
  rotate_left
  · intro w hSw; obtain ⟨hS1, hS2⟩ := hSw; (try dsimp only at hS1 hS2); (go_simp <;> with_reducible rfl)
  try simp only [Act.put, List.setIfInBounds_toArray, List.set_cons_zero, List.set_cons_succ]
  refine wpAnyH_take (i := 1) (v := ?_) rfl (by kernel_rfl) (by kernel_rfl) (by kernel_rfl) (fun _ _ _ h => h) (Or.inl ⟨by rfl, ?_⟩) (by assumption) ?_
  rotate_left
  · intro w hSw; obtain ⟨hS1, hS2⟩ := hSw; (try dsimp only at hS1 hS2); (go_simp <;> with_reducible rfl)
  try simp only [Act.put, List.setIfInBounds_toArray, List.set_cons_zero, List.set_cons_succ]
  refine wpAnyH_take (i := 2) (v := ?_) rfl (by kernel_rfl) (by kernel_rfl) (by kernel_rfl) (fun _ _ _ h => h) (Or.inl ⟨by rfl, ?_⟩) (by assumption) ?_
  rotate_left
  · intro w hSw; obtain ⟨hS1, hS2⟩ := hSw; (try dsimp only at hS1 hS2); (go_simp <;> with_reducible rfl)
  try simp only [Act.put, List.setIfInBounds_toArray, List.set_cons_zero, List.set_cons_succ]
  refine wpAnyH_take (i := 3) (v := ?_) rfl (by kernel_rfl) (by kernel_rfl) (by kernel_rfl) (fun _ _ _ h => h) (Or.inl ⟨by rfl, ?_⟩) (by assumption) ?_
  rotate_left
  · intro w hSw; obtain ⟨hS1, hS2⟩ := hSw; (try dsimp only at hS1 hS2); (go_simp <;> with_reducible rfl)
  try simp only [Act.put, List.setIfInBounds_toArray, List.set_cons_zero, List.set_cons_succ]
  refine wpAnyH_take (i := 4) (v := ?_) rfl (by kernel_rfl) (by kernel_rfl) (by kernel_rfl) (fun _ _ _ h => h) (Or.inl ⟨by rfl, ?_⟩) (by assumption) ?_
  rotate_left
  · intro w hSw; obtain ⟨hS1, hS2⟩ := hSw; (try dsimp only at hS1 hS2); (go_simp <;> with_reducible rfl)
  try simp only [Act.put, List.setIfInBounds_toArray, List.set_cons_zero, List.set_cons_succ]
  refine wpAnyH_take (i := 5) (v := ?_) rfl (by kernel_rfl) (by kernel_rfl) (by kernel_rfl) (fun _ _ _ h => h) (Or.inl ⟨by rfl, ?_⟩) (by assumption) ?_
  rotate_left
  · intro w hSw; obtain ⟨hS1, hS2⟩ := hSw; (try dsimp only at hS1 hS2); (go_simp <;> with_reducible rfl)
  try simp only [Act.put, List.setIfInBounds_toArray, List.set_cons_zero, List.set_cons_succ]
  refine wpAnyH_ready (rs := [6]) (by kernel_rfl) (by simp) ?_
  refine AllReadyH.cons rfl (fun K hK => ?_) AllReadyH.nil
  go_simp
  refine hK _ _ (by constructor <;> simp [go_sem]) (fun hH2 => ?_)
  refine wpAnyH_ready (rs := [7]) (by kernel_rfl) (by simp) ?_
  refine AllReadyH.cons rfl (fun K hK => ?_) AllReadyH.nil
  go_simp
  refine hK _ _ (by constructor <;> simp [go_sem, lm, lf]) (fun hH3 => ?_)
  refine wpAnyH_done (by kernel_rfl) ?_ _
  refine doneS rfl rfl ⟨rfl, rfl, ?_, ?_, ?_⟩
  · repeat (first | with_reducible apply Keep.set | with_reducible apply Keep.alloc | with_reducible apply Keep.drew | with_reducible exact Keep.refl _ _ | exact .inl (.inl rfl) | exact .inl (.inr rfl))
  · clear hK
    have b0 : Blk 30 (w.setCell ⟨mm, 0, none⟩ (.slice none 0 0)) mm #[.slice none 0 0, m2, m3, m4, m5, m6, m7, m8, m9] := hm.set 0 (.slice none 0 0)
    have b1 : Blk 30 ((w.setCell ⟨mm, 0, none⟩ (.slice none 0 0)).setCell ⟨mm, 1, none⟩ (.slice none 0 0)) mm #[.slice none 0 0, .slice none 0 0, m3, m4, m5, m6, m7, m8, m9] := b0.set 1 (.slice none 0 0)
    have b2 : Blk 30 (((w.setCell ⟨mm, 0, none⟩ (.slice none 0 0)).setCell ⟨mm, 1, none⟩ (.slice none 0 0)).setCell ⟨mm, 2, none⟩ (.slice none 0 0)) mm #[.slice none 0 0, .slice none 0 0, .slice none 0 0, m4, m5, m6, m7, m8, m9] := b1.set 2 (.slice none 0 0)
    have b3 : Blk 30 ((((w.setCell ⟨mm, 0, none⟩ (.slice none 0 0)).setCell ⟨mm, 1, none⟩ (.slice none 0 0)).setCell ⟨mm, 2, none⟩ (.slice none 0 0)).setCell ⟨mm, 3, none⟩ (.int .i64 0)) mm #[.slice none 0 0, .slice none 0 0, .slice none 0 0, .int .i64 0, m5, m6, m7, m8, m9] := b2.set 3 (.int .i64 0)
    have b4 : Blk 30 (((((w.setCell ⟨mm, 0, none⟩ (.slice none 0 0)).setCell ⟨mm, 1, none⟩ (.slice none 0 0)).setCell ⟨mm, 2, none⟩ (.slice none 0 0)).setCell ⟨mm, 3, none⟩ (.int .i64 0)).setCell ⟨mm, 4, none⟩ (.int .i64 0)) mm #[.slice none 0 0, .slice none 0 0, .slice none 0 0, .int .i64 0, .int .i64 0, m6, m7, m8, m9] := b3.set 4 (.int .i64 0)
    have b5 : Blk 30 ((((((w.setCell ⟨mm, 0, none⟩ (.slice none 0 0)).setCell ⟨mm, 1, none⟩ (.slice none 0 0)).setCell ⟨mm, 2, none⟩ (.slice none 0 0)).setCell ⟨mm, 3, none⟩ (.int .i64 0)).setCell ⟨mm, 4, none⟩ (.int .i64 0)).setCell ⟨mm, 5, none⟩ (.slice none 0 0)) mm #[.slice none 0 0, .slice none 0 0, .slice none 0 0, .int .i64 0, .int .i64 0, .slice none 0 0, m7, m8, m9] := b4.set 5 (.slice none 0 0)
    have b6 : Blk 30 (((((((w.setCell ⟨mm, 0, none⟩ (.slice none 0 0)).setCell ⟨mm, 1, none⟩ (.slice none 0 0)).setCell ⟨mm, 2, none⟩ (.slice none 0 0)).setCell ⟨mm, 3, none⟩ (.int .i64 0)).setCell ⟨mm, 4, none⟩ (.int .i64 0)).setCell ⟨mm, 5, none⟩ (.slice none 0 0)).setCell ⟨mm, 6, none⟩ (.slice none 0 0)) mm #[.slice none 0 0, .slice none 0 0, .slice none 0 0, .int .i64 0, .int .i64 0, .slice none 0 0, .slice none 0 0, m8, m9] := b5.set 6 (.slice none 0 0)
    have b7 : Blk 30 ((((((((w.setCell ⟨mm, 0, none⟩ (.slice none 0 0)).setCell ⟨mm, 1, none⟩ (.slice none 0 0)).setCell ⟨mm, 2, none⟩ (.slice none 0 0)).setCell ⟨mm, 3, none⟩ (.int .i64 0)).setCell ⟨mm, 4, none⟩ (.int .i64 0)).setCell ⟨mm, 5, none⟩ (.slice none 0 0)).setCell ⟨mm, 6, none⟩ (.slice none 0 0)).setCell ⟨mm, 7, none⟩ (.int .i64 0)) mm #[.slice none 0 0, .slice none 0 0, .slice none 0 0, .int .i64 0, .int .i64 0, .slice none 0 0, .slice none 0 0, .int .i64 0, m9] := b6.set 7 (.int .i64 0)
    have b8 : Blk 30 (((((((((w.setCell ⟨mm, 0, none⟩ (.slice none 0 0)).setCell ⟨mm, 1, none⟩ (.slice none 0 0)).setCell ⟨mm, 2, none⟩ (.slice none 0 0)).setCell ⟨mm, 3, none⟩ (.int .i64 0)).setCell ⟨mm, 4, none⟩ (.int .i64 0)).setCell ⟨mm, 5, none⟩ (.slice none 0 0)).setCell ⟨mm, 6, none⟩ (.slice none 0 0)).setCell ⟨mm, 7, none⟩ (.int .i64 0)).setCell ⟨mm, 8, none⟩ (.slice none 0 0)) mm #[.slice none 0 0, .slice none 0 0, .slice none 0 0, .int .i64 0, .int .i64 0, .slice none 0 0, .slice none 0 0, .int .i64 0, .slice none 0 0] := b7.set 8 (.slice none 0 0)
    refine b8.keep (S := fun i => i = ff) ?_ hne
    repeat (first | with_reducible exact Keep.refl _ _ | with_reducible apply Keep.set | with_reducible apply Keep.alloc | with_reducible apply Keep.drew | exact .inl rfl)
  · clear hK
    have k9 : Keep (fun i => i = mm) w (((((((((w.setCell ⟨mm, 0, none⟩ (.slice none 0 0)).setCell ⟨mm, 1, none⟩ (.slice none 0 0)).setCell ⟨mm, 2, none⟩ (.slice none 0 0)).setCell ⟨mm, 3, none⟩ (.int .i64 0)).setCell ⟨mm, 4, none⟩ (.int .i64 0)).setCell ⟨mm, 5, none⟩ (.slice none 0 0)).setCell ⟨mm, 6, none⟩ (.slice none 0 0)).setCell ⟨mm, 7, none⟩ (.int .i64 0)).setCell ⟨mm, 8, none⟩ (.slice none 0 0)) := by
      repeat (first | with_reducible exact Keep.refl _ _ | with_reducible apply Keep.set | with_reducible apply Keep.alloc | with_reducible apply Keep.drew | exact .inl rfl)
    have c9 := hf.keep k9 hne'
    have c10 : Blk 33 ((((((((((w.setCell ⟨mm, 0, none⟩ (.slice none 0 0)).setCell ⟨mm, 1, none⟩ (.slice none 0 0)).setCell ⟨mm, 2, none⟩ (.slice none 0 0)).setCell ⟨mm, 3, none⟩ (.int .i64 0)).setCell ⟨mm, 4, none⟩ (.int .i64 0)).setCell ⟨mm, 5, none⟩ (.slice none 0 0)).setCell ⟨mm, 6, none⟩ (.slice none 0 0)).setCell ⟨mm, 7, none⟩ (.int .i64 0)).setCell ⟨mm, 8, none⟩ (.slice none 0 0)).setCell ⟨ff, 0, none⟩ (.int .i64 why)) ff #[.int .i64 why, f2, f3] := c9.set 0 (.int .i64 why)
    have c11 : Blk 33 (((((((((((w.setCell ⟨mm, 0, none⟩ (.slice none 0 0)).setCell ⟨mm, 1, none⟩ (.slice none 0 0)).setCell ⟨mm, 2, none⟩ (.slice none 0 0)).setCell ⟨mm, 3, none⟩ (.int .i64 0)).setCell ⟨mm, 4, none⟩ (.int .i64 0)).setCell ⟨mm, 5, none⟩ (.slice none 0 0)).setCell ⟨mm, 6, none⟩ (.slice none 0 0)).setCell ⟨mm, 7, none⟩ (.int .i64 0)).setCell ⟨mm, 8, none⟩ (.slice none 0 0)).setCell ⟨ff, 0, none⟩ (.int .i64 why)).setCell ⟨ff, 1, none⟩ (.int .i64 a)) ff #[.int .i64 why, .int .i64 a, f3] := c10.set 1 (.int .i64 a)
    have c12 : Blk 33 ((((((((((((w.setCell ⟨mm, 0, none⟩ (.slice none 0 0)).setCell ⟨mm, 1, none⟩ (.slice none 0 0)).setCell ⟨mm, 2, none⟩ (.slice none 0 0)).setCell ⟨mm, 3, none⟩ (.int .i64 0)).setCell ⟨mm, 4, none⟩ (.int .i64 0)).setCell ⟨mm, 5, none⟩ (.slice none 0 0)).setCell ⟨mm, 6, none⟩ (.slice none 0 0)).setCell ⟨mm, 7, none⟩ (.int .i64 0)).setCell ⟨mm, 8, none⟩ (.slice none 0 0)).setCell ⟨ff, 0, none⟩ (.int .i64 why)).setCell ⟨ff, 1, none⟩ (.int .i64 a)).setCell ⟨ff, 2, none⟩ (.int .i64 0)) ff #[.int .i64 why, .int .i64 a, .int .i64 0] := c11.set 2 (.int .i64 0)
    refine c12.keep (S := fun _ => False) ?_ id
    repeat (first | with_reducible exact Keep.refl _ _ | with_reducible apply Keep.set | with_reducible apply Keep.alloc | with_reducible apply Keep.drew | exact .inl rfl)

set_option maxHeartbeats 1000000 in
theorem catch_idle (p q : Addr) (w : World) :
    CallsD Tryz.prog 46 #[.pointer (some p), .pointer (some q)] .returning w fun e u' w' => e = .returned (.tuple #[]) ∧ u' = .returning ∧ w' = w := by
  refine callsD_of_wpS Tryz.func46 rfl fun c₀ cs hu => ?_
  apply wpS_seq
  apply wpS_region
  simp [wpOpsS, go_sem, recoverD, hu, Tryz.ntmps46, Exit.thenS]
  simp only [show (Array.replicate 13 undef : Array Value) = #[undef, undef, undef, undef, undef, undef, undef, undef, undef, undef, undef, undef, undef] from rfl, List.append_toArray, List.cons_append, List.nil_append, List.setIfInBounds_toArray, List.set_cons_zero, List.set_cons_succ]
  refine wpS_of_wp ?_
  go_wp2
  obtain ⟨fn, tm, td, de, mo, ki, ro⟩ := c₀
  subst hu
  exact doneS (u := .returning) rfl rfl ⟨rfl, rfl, rfl⟩
end Go.Proofs.YtgcmdnkmnghhaaaGreatDoor.wm

/- read: all of a module. -/
set_option linter.unusedVariables false
set_option linter.unusedSimpArgs false
namespace Go.Proofs.YtgcmdnkmnghhaaaGreatDoor.wm
open Go.RowKit Go.Proofs.YtgcmdnkmnghhaaaGreatDoor.lb
section
variable {w0 : World} {ao : Option Addr} {cap : Nat} {l : List Int}

def st0 : DSt := ⟨mod0, 0, false⟩
def nilV : Value := .slice none 0 0

/-- the decoder as it is made -/
theorem di0 (c : Ctx w0 ao cap l) (a b : Obj) : DI w0 ao cap l (w0.heap.size + 1 + 1) (w0.heap.size + 1 + 1 + 1) (w0.heap.size + 1 + 1 + 1 + 1) l.length 0 st0 (.slice none 0 0) (.slice none 0 0) (.slice none 0 0) (.slice none 0 0) (.slice none 0 0) (.slice none 0 0)
    ((((w0.alloc a).alloc b).alloc (.cells #[.slice ao l.length cap, .int .i64 0] 93)).alloc (.cells #[.pointer (some ⟨w0.heap.size + 1 + 1, 0, none⟩), .slice none 0 0, .slice none 0 0, .slice none 0 0, .int .i64 (-1), .int .i64 0, .slice none 0 0, .slice none 0 0, .int .i64 (-1), .slice none 0 0, .int .i64 0, .bool false] 95)) := by
  have s2 : ((w0.alloc a).alloc b).heap.size = w0.heap.size + 1 + 1 := by simp [go_sem]
  have hr := RB.new ((w0.alloc a).alloc b) ao l.length cap 0
  rw [s2] at hr
  have hr2 : RB _ (w0.heap.size + 1 + 1) ao l.length cap 0 := (made1 _ (.cells #[.pointer (some ⟨w0.heap.size + 1 + 1, 0, none⟩), .slice none 0 0, .slice none 0 0, .slice none 0 0, .int .i64 (-1), .int .i64 0, .slice none 0 0, .slice none 0 0, .int .i64 (-1), .slice none 0 0, .int .i64 0, .bool false] 95)).block _ hr.lt |>.trans hr
  have hd := Blk.new 95 (((w0.alloc a).alloc b).alloc (.cells #[.slice ao l.length cap, .int .i64 0] 93)) #[.pointer (some ⟨w0.heap.size + 1 + 1, 0, none⟩), .slice none 0 0, .slice none 0 0, .slice none 0 0, .int .i64 (-1), .int .i64 0, .slice none 0 0, .slice none 0 0, .int .i64 (-1), .slice none 0 0, .int .i64 0, .bool false]
  have s3 : (((w0.alloc a).alloc b).alloc (.cells #[.slice ao l.length cap, .int .i64 0] 93)).heap.size = w0.heap.size + 1 + 1 + 1 := by simp [go_sem]
  rw [s3] at hd
  have low : Below w0.heap.size w0 _ := (((Below.refl w0.heap.size w0).alloc (Nat.le_refl _) a).alloc (by simp [go_sem]) b).alloc (by simp [go_sem]; omega) (.cells #[.slice ao l.length cap, .int .i64 0] 93)
  refine ⟨⟨low.alloc (by simp [go_sem]; omega) _, hr2, by omega, by omega, Nat.le_refl _⟩, hd, by omega, by omega, ?_, ?_, ?_, ?_, ?_, .inl ⟨rfl, rfl⟩, by decide, by simp [st0, mod0]⟩
  all_goals exact ⟨none, 0, rfl, Nat.le_refl _, fun _ => rfl, .inl rfl⟩

theorem sections_go {fuel : Nat} {st : DSt} {e q : Nat} (hq : q < e) : pSections (fuel + 1) st l e q = (pSection st).bind (pSections fuel) l e q := by
  show (if q < e then _ else _) = _
  rw [if_pos hq]
theorem sections_end {fuel : Nat} {st : DSt} {e q : Nat} (hq : ¬ q < e) : pSections (fuel + 1) st l e q = .ok st q := by
  show (if q < e then _ else _) = _
  rw [if_neg hq]

theorem two0 (w0 : World) (o1 o2 : Obj) : Blk 30 ((((w0.alloc (.cells #[.slice none 0 0, .slice none 0 0, .slice none 0 0, .int .i64 0, .int .i64 0, .slice none 0 0, .slice none 0 0, .int .i64 0, .slice none 0 0] 30)).alloc (.cells #[.int .i64 0, .int .i64 0, .int .i64 0] 33)).alloc o1).alloc o2) w0.heap.size #[.slice none 0 0, .slice none 0 0, .slice none 0 0, .int .i64 0, .int .i64 0, .slice none 0 0, .slice none 0 0, .int .i64 0, .slice none 0 0] ∧ Blk 33 ((((w0.alloc (.cells #[.slice none 0 0, .slice none 0 0, .slice none 0 0, .int .i64 0, .int .i64 0, .slice none 0 0, .slice none 0 0, .int .i64 0, .slice none 0 0] 30)).alloc (.cells #[.int .i64 0, .int .i64 0, .int .i64 0] 33)).alloc o1).alloc o2) (w0.heap.size + 1) #[.int .i64 0, .int .i64 0, .int .i64 0] := by
  have h1 := Blk.new 30 w0 #[.slice none 0 0, .slice none 0 0, .slice none 0 0, .int .i64 0, .int .i64 0, .slice none 0 0, .slice none 0 0, .int .i64 0, .slice none 0 0]
  have h2 := Blk.new 33 (w0.alloc (.cells #[.slice none 0 0, .slice none 0 0, .slice none 0 0, .int .i64 0, .int .i64 0, .slice none 0 0, .slice none 0 0, .int .i64 0, .slice none 0 0] 30)) #[.int .i64 0, .int .i64 0, .int .i64 0]
  rw [show (w0.alloc (.cells #[.slice none 0 0, .slice none 0 0, .slice none 0 0, .int .i64 0, .int .i64 0, .slice none 0 0, .slice none 0 0, .int .i64 0, .slice none 0 0] 30)).heap.size = w0.heap.size + 1 by simp [go_sem]] at h2
  exact ⟨((h1.below (made1 _ _)).below (made1 _ _)).below (made1 _ _), (h2.below (made1 _ _)).below (made1 _ _)⟩
/-- what read leaves -/
def ReadPost (w0 : World) (res : Res GMod) (en : Ending) (w' : World) : Prop := Below w0.heap.size w0 w' ∧ match res with
  | .bad why a => en = .returned (.tuple #[.agg #[.slice none 0 0, .slice none 0 0, .slice none 0 0, .int .i64 0, .int .i64 0, .slice none 0 0, .slice none 0 0, .int .i64 0, .slice none 0 0], .agg #[.int .i64 why, .int .i64 a, .int .i64 0]])
  | .ok m _ => ∃ tv iv fv gv ev dv, en = .returned (.tuple #[.agg #[tv, iv, fv, .int .i64 m.pages, .int .i64 m.most, gv, ev, .int .i64 m.start, dv], .agg #[.int .i64 0, .int .i64 0, .int .i64 0]]) ∧
    LV (fun b => w0.heap.size ≤ b ∧ b < w'.heap.size) 2 gSig w' tv m.types ∧ LV (fun b => w0.heap.size ≤ b ∧ b < w'.heap.size) 3 gImport w' iv m.imports ∧ LV (fun b => w0.heap.size ≤ b ∧ b < w'.heap.size) 3 gFunc w' fv m.funcs ∧
    LV (fun b => w0.heap.size ≤ b ∧ b < w'.heap.size) 3 gGlobal w' gv m.globals ∧ LV (fun b => w0.heap.size ≤ b ∧ b < w'.heap.size) 3 gExport w' ev m.exports ∧ LV (fun b => w0.heap.size ≤ b ∧ b < w'.heap.size) 2 gData w' dv m.datas

theorem read_post {r dd x e q : Nat} {st : DSt} {tv iv fv gv ev dv : Value} {wr w' : World} {en : Ending} (h : DI w0 ao cap l r dd x e q st tv iv fv gv ev dv wr) (hd : w0.heap.size + 1 < dd) (k : Keep (fun i => i = w0.heap.size ∨ i = w0.heap.size + 1) wr w')
    (he : en = .returned (.tuple #[.agg #[tv, iv, fv, .int .i64 st.m.pages, .int .i64 st.m.most, gv, ev, .int .i64 st.m.start, dv], .agg #[.int .i64 0, .int .i64 0, .int .i64 0]])) : ReadPost w0 (.ok st.m q) en w' := by
  have hA : ∀ b, Av dd x fv wr b → (w0.heap.size ≤ b ∧ b < w'.heap.size) ∧ w'.heap[b]? = wr.heap[b]? := fun b ⟨b1, b2, b3, b4⟩ => ⟨⟨by omega, Nat.lt_of_lt_of_le b2 k.size⟩, k.block b b2 (by omega)⟩
  refine ⟨h.rr.low.trans (k.lowD h.rr.low.size (fun i hi => by omega)), tv, iv, fv, gv, ev, dv, he, h.tys.keep hA, h.imps.keep hA, ?_, h.globs.keep hA, h.exps.keep hA, h.dats.keep hA⟩
  rcases h.funs with ⟨rfl, h2⟩ | ⟨g, rfl, g1, g2, g3, g4⟩
  · rw [h2]; exact ⟨none, 0, rfl, Nat.le_refl _, fun _ => rfl, .inl rfl⟩
  · have hlt := g3.lt
    refine ⟨some ⟨g, 0, none⟩, st.m.funcs.length, by simp, by simp, by simp, .inr ⟨g, 0, rfl, ⟨by omega, Nat.lt_of_lt_of_le hlt k.size⟩, ?_⟩⟩
    exact Gh.liesRows_keep (fun b ⟨b1, b2, b3, b4⟩ => ⟨⟨by omega, Nat.lt_of_lt_of_le b2 k.size⟩, k.block b b2 (by omega)⟩) _ g 3 0 (k.block g hlt (by omega)) g4
theorem Blk.under {T : TypeId} {w w' : World} {g B : Nat} {cs : Array Value} (h : Blk T w g cs) (k : Below B w w') (hg : g < B) : Blk T w' g cs := (k.block g hg).trans h

theorem section_lt {d d' : DSt} {e p p' : Nat} (hb : By l) (hp : p ≤ e) (he : e ≤ l.length) (h : pSection d l e p = .ok d' p') : p < p' := by
  cases ho : pOctet l e p with
  | bad w a => rw [show pSection d l e p = .bad w a from P.bind_bad ho] at h; cases h
  | ok s q =>
    have g1 : q = p + 1 ∧ p < e := by
      unfold pOctet at ho
      split at ho
      · simp only [Res.ok.injEq] at ho; exact ⟨ho.2.symm, by assumption⟩
      · cases ho
    obtain ⟨rfl, hlt⟩ := g1
    have h' := (P.bind_ok (f := fun sec => if sec = 4 ∨ sec = 9 then pBack 11
      else if 11 < sec ∨ (sec ≠ 0 ∧ sec ≤ d.last) then pBack 6
      else if sec = 0 then pU.bind fun size => (pSkip size).bind fun _ => P.ret d
      else pPart (pFill { d with last := sec } sec)) ho).symm.trans h
    by_cases c1 : s = 4 ∨ s = 9
    · have h1 := (P.ite_pos c1).symm.trans h'
      simp [pBack] at h1
    · have h1 := (P.ite_neg c1).symm.trans h'
      by_cases c2 : 11 < s ∨ (s ≠ 0 ∧ s ≤ d.last)
      · have h2 := (P.ite_pos c2).symm.trans h1
        simp [pBack] at h2
      · have h2 := (P.ite_neg c2).symm.trans h1
        by_cases c3 : s = 0
        · have h3 := (P.ite_pos c3).symm.trans h2
          have := ((Good.bindP (Q := fun n => 0 ≤ n) .u (fun l e p n q hb hp he h => (u_bd hb hp he h).1) fun size h0 => .bind (.skip size h0) fun _ => .ret d).ok hb (by omega) he h3).1
          omega
        · have h3 := (P.ite_neg c3).symm.trans h2
          have := ((Good.part (.fill _ s)).ok hb (by omega) he h3).1
          omega

set_option maxRecDepth 100000 in
set_option maxHeartbeats 1000000 in
theorem read_any (c : Ctx w0 ao cap l) (hruns : nm.Runs w0) :
    Calls Tryz.prog 28 #[.slice ao l.length cap] w0 (ReadPost w0 (pModule l l.length 0)) := by
  have hmf : ∀ (fn : Fn) (first cap : Array Value) (w : World), (Instr.makeFunc fn first cap).run Tryz.prog w = .ok (.func fn first cap) w := fun _ _ _ _ => rfl
  have HD := Lib.hid (di0 c (.cells #[.slice none 0 0, .slice none 0 0, .slice none 0 0, .int .i64 0, .int .i64 0, .slice none 0 0, .slice none 0 0, .int .i64 0, .slice none 0 0] 30) (.cells #[.int .i64 0, .int .i64 0, .int .i64 0] 33))
  have HC := Lib.hid c
  have HRN := Lib.hid hruns
  have HB := fun w h => begin_any c (w0.heap.size + 1 + 1) (w0.heap.size + 1 + 1 + 1) (w0.heap.size + 1 + 1 + 1 + 1) l.length st0 (.slice none 0 0) (.slice none 0 0) (.slice none 0 0) (.slice none 0 0) (.slice none 0 0) (.slice none 0 0) w h
  cases hb : pMagic magicL l l.length 0 with
  | bad why a =>
    rw [hb] at HB
    have HB := Lib.hid HB
    have D0 := HD.out
    clear c hruns
    go_enter_defers Tryz.func28, Tryz.ntmps28
    go_wp2_with fail
    refine (HB.out _ HD.out).mono ?_
    rintro en w1 ⟨b1, rfl⟩
    have T := two0 w0 (.cells #[.slice ao l.length cap, .int .i64 0] 93) (.cells #[.pointer (some ⟨w0.heap.size + 1 + 1, 0, none⟩), .slice none 0 0, .slice none 0 0, .slice none 0 0, .int .i64 (-1), .int .i64 0, .slice none 0 0, .slice none 0 0, .int .i64 (-1), .slice none 0 0, .int .i64 0, .bool false] 95)
    have T1 := T.1.under b1 (by omega)
    have T2 := T.2.under b1 (by omega)
    refine leaves_cons (f := 46) (args := #[.pointer (some ⟨w0.heap.size, 0, none⟩), .pointer (some ⟨w0.heap.size + 1, 0, none⟩)]) (by simp) (by simp [go_sem]) ?_
    refine (catch_wrong w0.heap.size (w0.heap.size + 1) why a _ (by omega) T1 T2).mono ?_
    rintro e u' w'' ⟨rfl, rfl, k2, bm, bf⟩
    simp [Leaves, settle, results, Tryz.results28, go_sem, bm.c 0 rfl, bm.c 1 rfl, bm.c 2 rfl, bm.c 3 rfl, bm.c 4 rfl, bm.c 5 rfl, bm.c 6 rfl, bm.c 7 rfl, bm.c 8 rfl, bf.c 0 rfl, bf.c 1 rfl, bf.c 2 rfl]
    have low : Below w0.heap.size w0 w'' := (D0.rr.low.trans (b1.mono (by omega))).trans (k2.lowD (by have := D0.rr.low.size; have := b1.size; omega) (fun i hi => by omega))
    refine ⟨low, ?_⟩
    rw [show pModule l l.length 0 = .bad why a from P.bind_bad hb]
  | ok u q =>
    rw [hb] at HB
    have HB := Lib.hid HB
    have D0 := HD.out
    have hlow0 := Lib.hid D0.rr.low
    have HPM := Lib.hid (show pModule l l.length 0 = (match pSections (l.length - q + 1) st0 l l.length q with
      | .bad w a => .bad w a
      | .ok d q => if 0 < d.m.funcs.length ∧ d.bodies = false then .bad 6 l.length else .ok d.m q) from P.bind_ok hb)
    clear c hruns D0
    go_enter_defers Tryz.func28, Tryz.ntmps28
    go_wp2_with fail
    refine (HB.out _ HD.out).mono ?_
    rintro en w1 ⟨b1, rfl, hd1⟩
    have T := two0 w0 (.cells #[.slice ao l.length cap, .int .i64 0] 93) (.cells #[.pointer (some ⟨w0.heap.size + 1 + 1, 0, none⟩), .slice none 0 0, .slice none 0 0, .slice none 0 0, .int .i64 (-1), .int .i64 0, .slice none 0 0, .slice none 0 0, .int .i64 (-1), .slice none 0 0, .int .i64 0, .bool false] 95)
    have T1 := Lib.hid (T.1.under b1 (by omega))
    have T2 := Lib.hid (T.2.under b1 (by omega))
    have D1 := Lib.hid hd1
    clear T b1 hd1
    go_wp2
    go_loopw [] (fun wr => ∃ (x p f : Nat) (st : DSt) (tv iv fv gv ev dv : Value), l.length - p < f ∧ Hid (DI w0 ao cap l (w0.heap.size + 1 + 1) (w0.heap.size + 1 + 1 + 1) x l.length p st tv iv fv gv ev dv wr ∧ Below (w0.heap.size + 1 + 1) w1 wr ∧ pSections (l.length - q + 1) st0 l l.length q = pSections f st l l.length p)) (fun wr => l.length - posOf wr (w0.heap.size + 1 + 1))
    case atStart => exact ⟨_, q, l.length - q + 1, st0, _, _, _, _, _, _, by omega, D1.out, Below.refl _ _, rfl⟩
    case round =>
      obtain ⟨x, p, f, st, tv, iv, fv, gv, ev, dv, hf, HL⟩ := hrel
      obtain ⟨k, rfl⟩ : ∃ k, f = k + 1 := ⟨f - 1, by omega⟩
      have hpe := HL.out.1.rr.hp
      have m0 : wr.cell? ⟨w0.heap.size + 1 + 1 + 1, 0, none⟩ = some (.pointer (some ⟨w0.heap.size + 1 + 1, 0, none⟩)) := HL.out.1.blk.c 0 rfl
      have m1 : wr.cell? ⟨w0.heap.size + 1 + 1, 1, none⟩ = some (.int .i64 p) := HL.out.1.rr.blk.c1
      have T1r := Lib.hid (T1.out.under HL.out.2.1 (by omega))
      have T2r := Lib.hid (T2.out.under HL.out.2.1 (by omega))
      by_cases hp : p < l.length
      · have HS := section_any HC.out HRN.out _ _ x l.length p st tv iv fv gv ev dv wr HL.out.1
        have hlt : (p : Int) < l.length := by omega
        cases hs : pSection st l l.length p with
        | bad why a =>
          rw [hs] at HS
          have HS := Lib.hid HS
          have HX := Lib.hid (show pModule l l.length 0 = .bad why a from HPM.out.trans (by rw [HL.out.2.2, sections_go hp, P.bind_bad hs]))
          clear hs
          go_wp2_with fail
          refine HS.out.mono ?_
          rintro en w3 ⟨b3, rfl⟩
          refine leaves_cons (f := 46) (args := #[.pointer (some ⟨w0.heap.size, 0, none⟩), .pointer (some ⟨w0.heap.size + 1, 0, none⟩)]) (by simp) (by simp [go_sem]) ?_
          refine (catch_wrong w0.heap.size (w0.heap.size + 1) why a _ (by omega) (T1r.out.under b3 (by omega)) (T2r.out.under b3 (by omega))).mono ?_
          rintro e u' w'' ⟨rfl, rfl, k2, bm, bf⟩
          simp [Leaves, settle, results, Tryz.results28, go_sem, bm.c 0 rfl, bm.c 1 rfl, bm.c 2 rfl, bm.c 3 rfl, bm.c 4 rfl, bm.c 5 rfl, bm.c 6 rfl, bm.c 7 rfl, bm.c 8 rfl, bf.c 0 rfl, bf.c 1 rfl, bf.c 2 rfl]
          have l0 := HL.out.1.rr.low
          have low : Below w0.heap.size w0 w'' := (l0.trans (b3.mono (by omega))).trans (k2.lowD (by have := l0.size; have := b3.size; omega) (fun i hi => by omega))
          refine ⟨low, ?_⟩
          rw [HX.out]
        | ok st' p' =>
          rw [hs] at HS
          have HS := Lib.hid HS
          have HX := Lib.hid (show pSections (l.length - q + 1) st0 l l.length q = pSections k st' l l.length p' by rw [HL.out.2.2, sections_go hp, P.bind_ok hs])
          have hpp := section_lt (fun k => (HC.out.bd k).1) hpe (Nat.le_refl _) hs
          clear hs
          go_wp2_with fail
          refine HS.out.mono ?_
          rintro en w3 ⟨b3, rfl, x', tv', iv', fv', gv', ev', dv', d3⟩
          have D3 := Lib.hid d3
          have B3 := Lib.hid (HL.out.2.1.trans b3)
          have hp3 : posOf w3 (w0.heap.size + 1 + 1) = p' := by simp [posOf, d3.rr.blk.c1]
          have hp1 : posOf wr (w0.heap.size + 1 + 1) = p := by simp [posOf, m1]
          clear b3 d3
          go_wp2
          go_roundw
          case rel => exact ⟨x', p', k, st', tv', iv', fv', gv', ev', dv', by omega, D3.out, B3.out, HX.out⟩
          case measure => rw [hp3, hp1]; omega
      · have hlt : ¬ (p : Int) < l.length := by omega
        have HX := HPM.out
        rw [HL.out.2.2, sections_end hp] at HX
        obtain ⟨fo, fc, rfl⟩ : ∃ fo fc, fv = .slice fo st.m.funcs.length fc := by
          rcases HL.out.1.funs with ⟨h1, h2⟩ | ⟨g, h1, _⟩
          · exact ⟨none, 0, by rw [h1, h2]; rfl⟩
          · exact ⟨_, _, h1⟩
        have m3 : wr.cell? ⟨w0.heap.size + 1 + 1 + 1, 3, none⟩ = some (.slice fo st.m.funcs.length fc) := HL.out.1.blk.c 3 rfl
        have m11 : wr.cell? ⟨w0.heap.size + 1 + 1 + 1, 11, none⟩ = some (.bool st.bodies) := HL.out.1.blk.c 11 rfl
        by_cases hF : 0 < st.m.funcs.length ∧ st.bodies = false
        · simp only [if_pos hF] at HX
          have HX := Lib.hid HX
          rw [hF.2] at m11
          have hf0 : (0 : Int) < st.m.funcs.length := by omega
          go_wp2_with fail
          refine (fail_any _ _ _).mono ?_
          rintro en w3 ⟨rfl, rfl⟩
          refine leaves_cons (f := 46) (args := #[.pointer (some ⟨w0.heap.size, 0, none⟩), .pointer (some ⟨w0.heap.size + 1, 0, none⟩)]) (by simp) (by simp [go_sem]) ?_
          refine (catch_wrong w0.heap.size (w0.heap.size + 1) 6 l.length _ (by omega) T1r.out T2r.out).mono ?_
          rintro e u' w'' ⟨rfl, rfl, k2, bm, bf⟩
          simp [Leaves, settle, results, Tryz.results28, go_sem, bm.c 0 rfl, bm.c 1 rfl, bm.c 2 rfl, bm.c 3 rfl, bm.c 4 rfl, bm.c 5 rfl, bm.c 6 rfl, bm.c 7 rfl, bm.c 8 rfl, bf.c 0 rfl, bf.c 1 rfl, bf.c 2 rfl]
          have l0 := HL.out.1.rr.low
          have low : Below w0.heap.size w0 w'' := l0.trans (k2.lowD (by have := l0.size; omega) (fun i hi => by omega))
          refine ⟨low, ?_⟩
          first | rfl | (rw [HX.out])
        · simp only [if_neg hF] at HX
          have HX := Lib.hid HX
          obtain ⟨ta, tc, rfl⟩ := HL.out.1.tys.slice
          obtain ⟨ia, ic, rfl⟩ := HL.out.1.imps.slice
          obtain ⟨ga, gc, rfl⟩ := HL.out.1.globs.slice
          obtain ⟨ea, ec, rfl⟩ := HL.out.1.exps.slice
          obtain ⟨da, dc, rfl⟩ := HL.out.1.dats.slice
          have t0 := T1r.out.c 0 rfl
          have s0 := T1r.out.f 0
          have t1 := T1r.out.c 1 rfl
          have s1 := T1r.out.f 1
          have t2 := T1r.out.c 2 rfl
          have s2 := T1r.out.f 2
          have t3 := T1r.out.c 3 rfl
          have s3 := T1r.out.f 3
          have t4 := T1r.out.c 4 rfl
          have s4 := T1r.out.f 4
          have t5 := T1r.out.c 5 rfl
          have s5 := T1r.out.f 5
          have t6 := T1r.out.c 6 rfl
          have s6 := T1r.out.f 6
          have t7 := T1r.out.c 7 rfl
          have s7 := T1r.out.f 7
          have t8 := T1r.out.c 8 rfl
          have s8 := T1r.out.f 8
          have y0 := T2r.out.c 0 rfl
          have z0 := T2r.out.f 0
          have y1 := T2r.out.c 1 rfl
          have z1 := T2r.out.f 1
          have y2 := T2r.out.c 2 rfl
          have z2 := T2r.out.f 2
          have m1' := HL.out.1.blk.c 1 rfl
          have m2' := HL.out.1.blk.c 2 rfl
          have m4' := HL.out.1.blk.c 4 rfl
          have m5' := HL.out.1.blk.c 5 rfl
          have m6' := HL.out.1.blk.c 6 rfl
          have m7' := HL.out.1.blk.c 7 rfl
          have m8' := HL.out.1.blk.c 8 rfl
          have m9' := HL.out.1.blk.c 9 rfl
          rcases Nat.eq_zero_or_pos st.m.funcs.length with h0 | h0
          · have hf0 : ¬ (0 : Int) < st.m.funcs.length := by omega
            go_wp2_with fail
            refine leaves_cons (f := 46) (args := #[.pointer (some ⟨w0.heap.size, 0, none⟩), .pointer (some ⟨w0.heap.size + 1, 0, none⟩)]) (by simp) (by simp [go_sem]) ?_
            refine (catch_idle ⟨w0.heap.size, 0, none⟩ ⟨w0.heap.size + 1, 0, none⟩ _).mono ?_
            rintro e u' w'' ⟨rfl, rfl, hw⟩
            have kk : Keep (fun i => i = w0.heap.size ∨ i = w0.heap.size + 1) wr w'' := by
              rw [hw]
              repeat (first | with_reducible exact Keep.refl _ _ | with_reducible apply Keep.set | exact .inl (.inl rfl) | exact .inl (.inr rfl))
            subst hw
            simp [Leaves, settle, results, Tryz.results28, go_sem, t0, t1, t2, t3, t4, t5, t6, t7, t8, y0, y1, y2]
            refine read_post HL.out.1 (by omega) kk ?_
            simp [h0]
          · have hf0 : (0 : Int) < st.m.funcs.length := by omega
            have hbt : st.bodies = true := by
              cases hh : st.bodies
              · exact absurd ⟨h0, hh⟩ hF
              · rfl
            rw [hbt] at m11
            go_wp2_with fail
            refine leaves_cons (f := 46) (args := #[.pointer (some ⟨w0.heap.size, 0, none⟩), .pointer (some ⟨w0.heap.size + 1, 0, none⟩)]) (by simp) (by simp [go_sem]) ?_
            refine (catch_idle ⟨w0.heap.size, 0, none⟩ ⟨w0.heap.size + 1, 0, none⟩ _).mono ?_
            rintro e u' w'' ⟨rfl, rfl, hw⟩
            have kk : Keep (fun i => i = w0.heap.size ∨ i = w0.heap.size + 1) wr w'' := by
              rw [hw]
              repeat (first | with_reducible exact Keep.refl _ _ | with_reducible apply Keep.set | exact .inl (.inl rfl) | exact .inl (.inr rfl))
            subst hw
            simp [Leaves, settle, results, Tryz.results28, go_sem, t0, t1, t2, t3, t4, t5, t6, t7, t8, y0, y1, y2]
            refine read_post HL.out.1 (by omega) kk ?_
            simp
end
end Go.Proofs.YtgcmdnkmnghhaaaGreatDoor.wm
