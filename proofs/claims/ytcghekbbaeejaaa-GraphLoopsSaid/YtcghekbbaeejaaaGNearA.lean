/- The program's nearest dominators. -/
import Derived.Test.YtcghekbbaeejaaaGNearS
set_option linter.unusedVariables false
set_option linter.unusedSimpArgs false
namespace Go.Proofs.Ytcghekbbaeejaaa.gr
open Go.RowKit Go.Proofs.Ytcghekbbaeejaaa.Gr

def NearP (G : List (List Nat)) (w : World) (e : Ending) (w' : World) : Prop := ∃ v N, e = .returned v ∧ gi.Own w' w.heap.size v N ∧ IsNear G N ∧ Below w.heap.size w w'

set_option maxRecDepth 100000 in
set_option maxHeartbeats 8000000 in
theorem nearest_any (v bv : Value) (G : List (List Nat)) (F : Fine G) (w : World) (h : RdG w v (upp G)) (hb : RdG w bv (upp (fromL G))) :
    Calls Try.prog 29 #[v, bv] w (NearP G w) := by
  have hn := F.n
  have hp := F.wf.pos
  have HF := Lib.hid F
  have HO := Lib.hid (order_any v G w h F.wf F.n F.mem)
  obtain ⟨ao, cap, rfl, _, _, _⟩ := h
  rw [upp_len] at HO ⊢
  have HB := Lib.hid hb
  obtain ⟨ab, cb, rfl, hcb, _, hdb⟩ := hb
  have hfl : (upp (fromL G)).length = G.length := by rw [upp_len]; exact fromI_len G _
  rw [hfl] at hcb HB ⊢
  obtain ⟨bb, ob, rfl, hqb⟩ : ∃ bb ob, ab = some ⟨bb, ob, none⟩ ∧ ∀ k, k < G.length → ∃ u, w.cell? ⟨bb, ob + k, none⟩ = some u ∧ gi.Rd w u (up (preds G k)) := by
    rcases hdb with e | ⟨bb, ob, e, hq⟩
    · rw [e] at hfl; simp at hfl; omega
    · refine ⟨bb, ob, e, fun k hk => ?_⟩
      obtain ⟨u, u1, u2⟩ := hq k (by rw [hfl]; exact hk)
      rw [upp_getD] at u2
      exact ⟨u, u1, u2⟩
  have HBC := Lib.hid hqb
  have HCB := Lib.hid hcb
  clear hqb hdb hcb hfl
  have hmk := make_ints G.length (by omega)
  have hbd := build_dom
  have F0 := Lib.hid F.n
  have F1 := Lib.hid F.wf.pos
  clear F
  go_enter Try.func29, Try.ntmps29
  go_upto_region 2 with (go_at_call 25; refine HO.out.mono ?_; rintro e w1 ⟨ov, rfl, ho, hb1⟩; have HOV := Lib.hid ho; have HB1 := Lib.hid hb1; clear ho hb1)
  go_cut [6] (fun s6 wx => ∃ h gn gp : Nat, s6 = .pointer (some ⟨h, 0, none⟩) ∧ Hid (NF G.length w1 wx h gn gp (List.replicate G.length (-1)) (List.replicate G.length 0)))
  case first =>
    have H : Hid (NS G.length w1 w1 none none none none) := Lib.hid ⟨Below.refl _ _, (fun b e => by cases e), (fun b e => by cases e), (fun b e => by cases e), (fun b e => by cases e), (fun b c e => by cases e), (fun b c e => by cases e), (fun b c e => by cases e)⟩
    -- REGION
    refine wp_region_held_drew (S := fun _ => True) (by kernel_rfl) trivial (fun hHeld => ?_)
    replace H := Lib.hid (H.out.drew)
    generalize w1.drew = x0 at H ⊢
    refine wpAnyH_take (i := 1) (v := ?_) rfl (by kernel_rfl) (by kernel_rfl) (by kernel_rfl) (fun _ _ _ h => h) (Or.inl ⟨by rfl, ?_⟩) (by assumption) ?_
    rotate_left
    · intro w hSw; (try dsimp only at hSw); (go_simp <;> with_reducible rfl)
    try simp only [Act.put, List.setIfInBounds_toArray, List.set_cons_zero, List.set_cons_succ]
    refine wpAnyH_take (i := 2) (v := ?_) rfl (by kernel_rfl) (by kernel_rfl) (by kernel_rfl) (fun _ _ _ h => h) (Or.inl ⟨by rfl, ?_⟩) (by assumption) ?_
    rotate_left
    · intro w hSw; (try dsimp only at hSw); (go_simp <;> with_reducible rfl)
    try simp only [Act.put, List.setIfInBounds_toArray, List.set_cons_zero, List.set_cons_succ]
    refine wpAnyH_take (i := 4) (v := ?_) rfl (by kernel_rfl) (by kernel_rfl) (by kernel_rfl) (fun _ _ _ h => h) (Or.inl ⟨by rfl, ?_⟩) (by assumption) ?_
    rotate_left
    · intro w hSw; (try dsimp only at hSw); (go_simp <;> with_reducible rfl)
    try simp only [Act.put, List.setIfInBounds_toArray, List.set_cons_zero, List.set_cons_succ]
    refine wpAnyH_take (i := 5) (v := ?_) rfl (by kernel_rfl) (by kernel_rfl) (by kernel_rfl) (fun _ _ _ h => h) (Or.inl ⟨by rfl, ?_⟩) (by assumption) ?_
    rotate_left
    · intro w hSw; (try dsimp only at hSw); (go_simp <;> with_reducible rfl)
    try simp only [Act.put, List.setIfInBounds_toArray, List.set_cons_zero, List.set_cons_succ]
    refine wpAnyH_ready (rs := [0, 6, 8]) (by kernel_rfl) (by simp) ?_
    refine AllReadyH.cons rfl (fun K hK => ?_) ?_
    · go_simp
      refine hK.out _ (x0.alloc (.cells #[.int .i64 (-1)] 3)) trivial (fun hHeld => ?_)
      clear hK K
      try simp only [Act.put, List.setIfInBounds_toArray, List.set_cons_zero, List.set_cons_succ]
      replace H := Lib.hid H.out.mkp
      generalize x0.alloc (.cells #[.int .i64 (-1)] 3) = x1 at H ⊢
      generalize x0.heap.size = p2 at H ⊢
      refine wpAnyH_ready (rs := [3, 6, 8]) (by kernel_rfl) (by simp) ?_
      refine AllReadyH.cons rfl (fun K hK => ?_) ?_
      · go_simp
        refine (H.out.rep F0.out F1.out).mono ?_
        rintro e x3 ⟨g4, rfl, H2⟩
        replace H := Lib.hid H2
        clear H2
        first | (go_wp2_with fail) | skip
        refine hK.out _ _ trivial (fun hHeld => ?_)
        clear hK K
        try simp only [Act.put, List.setIfInBounds_toArray, List.set_cons_zero, List.set_cons_succ]
        refine wpAnyH_ready (rs := [6, 8]) (by kernel_rfl) (by simp) ?_
        refine AllReadyH.cons rfl (fun K hK => ?_) ?_
        · go_simp
          refine hK.out _ (x3.alloc (.cells (Array.replicate G.length (.int .i64 0)) 3)) trivial (fun hHeld => ?_)
          clear hK K
          try simp only [Act.put, List.setIfInBounds_toArray, List.set_cons_zero, List.set_cons_succ]
          replace H := Lib.hid H.out.mkm
          generalize x3.alloc (.cells (Array.replicate G.length (.int .i64 0)) 3) = x5 at H ⊢
          generalize x3.heap.size = m6 at H ⊢
          refine wpAnyH_take (i := 7) (v := ?_) rfl (by kernel_rfl) (by kernel_rfl) (by kernel_rfl) (fun _ _ _ h => h) (Or.inl ⟨by rfl, ?_⟩) (by assumption) ?_
          rotate_left
          · intro w hSw; (try dsimp only at hSw); (go_simp <;> with_reducible rfl)
          try simp only [Act.put, List.setIfInBounds_toArray, List.set_cons_zero, List.set_cons_succ]
          refine wpAnyH_ready (rs := [8]) (by kernel_rfl) (by simp) ?_
          refine AllReadyH.cons rfl (fun K hK => ?_) AllReadyH.nil
          go_simp
          refine hK.out _ (x5.alloc (.cells #[.slice none 0 0, .slice none 0 0] 65)) trivial (fun hHeld => ?_)
          clear hK K
          try simp only [Act.put, List.setIfInBounds_toArray, List.set_cons_zero, List.set_cons_succ]
          replace H := Lib.hid H.out.mkh
          generalize x5.alloc (.cells #[.slice none 0 0, .slice none 0 0] 65) = x7 at H ⊢
          generalize x5.heap.size = h8 at H ⊢
          refine wpAnyH_ready (rs := [9]) (by kernel_rfl) (by simp) ?_
          refine AllReadyH.cons rfl (fun K hK => ?_) AllReadyH.nil
          obtain ⟨z0, z1, z2, z3⟩ := H.out.hcells
          go_simp
          refine hK.out _ _ trivial (fun hHeld => ?_)
          clear hK K
          try simp only [Act.put, List.setIfInBounds_toArray, List.set_cons_zero, List.set_cons_succ]
          refine wpAnyH_done (by kernel_rfl) ?_ _
          first | refine NoPanic.normal ?_ | skip
          first | (go_wp2_with fail) | skip
          first | go_meet | trace_state
          exact ⟨_, _, _, rfl, Lib.hid (H.out.fin F0.out)⟩
        refine AllReadyH.cons rfl (fun K hK => ?_) AllReadyH.nil
        · go_simp
          refine hK.out _ (x3.alloc (.cells #[.slice none 0 0, .slice none 0 0] 65)) trivial (fun hHeld => ?_)
          clear hK K
          try simp only [Act.put, List.setIfInBounds_toArray, List.set_cons_zero, List.set_cons_succ]
          replace H := Lib.hid H.out.mkh
          generalize x3.alloc (.cells #[.slice none 0 0, .slice none 0 0] 65) = x10 at H ⊢
          generalize x3.heap.size = h11 at H ⊢
          refine wpAnyH_ready (rs := [6]) (by kernel_rfl) (by simp) ?_
          refine AllReadyH.cons rfl (fun K hK => ?_) AllReadyH.nil
          go_simp
          refine hK.out _ (x10.alloc (.cells (Array.replicate G.length (.int .i64 0)) 3)) trivial (fun hHeld => ?_)
          clear hK K
          try simp only [Act.put, List.setIfInBounds_toArray, List.set_cons_zero, List.set_cons_succ]
          replace H := Lib.hid H.out.mkm
          generalize x10.alloc (.cells (Array.replicate G.length (.int .i64 0)) 3) = x12 at H ⊢
          generalize x10.heap.size = m13 at H ⊢
          refine wpAnyH_take (i := 7) (v := ?_) rfl (by kernel_rfl) (by kernel_rfl) (by kernel_rfl) (fun _ _ _ h => h) (Or.inl ⟨by rfl, ?_⟩) (by assumption) ?_
          rotate_left
          · intro w hSw; (try dsimp only at hSw); (go_simp <;> with_reducible rfl)
          try simp only [Act.put, List.setIfInBounds_toArray, List.set_cons_zero, List.set_cons_succ]
          refine wpAnyH_ready (rs := [9]) (by kernel_rfl) (by simp) ?_
          refine AllReadyH.cons rfl (fun K hK => ?_) AllReadyH.nil
          obtain ⟨z0, z1, z2, z3⟩ := H.out.hcells
          go_simp
          refine hK.out _ _ trivial (fun hHeld => ?_)
          clear hK K
          try simp only [Act.put, List.setIfInBounds_toArray, List.set_cons_zero, List.set_cons_succ]
          refine wpAnyH_done (by kernel_rfl) ?_ _
          first | refine NoPanic.normal ?_ | skip
          first | (go_wp2_with fail) | skip
          first | go_meet | trace_state
          exact ⟨_, _, _, rfl, Lib.hid (H.out.fin F0.out)⟩
      refine AllReadyH.cons rfl (fun K hK => ?_) ?_
      · go_simp
        refine hK.out _ (x1.alloc (.cells (Array.replicate G.length (.int .i64 0)) 3)) trivial (fun hHeld => ?_)
        clear hK K
        try simp only [Act.put, List.setIfInBounds_toArray, List.set_cons_zero, List.set_cons_succ]
        replace H := Lib.hid H.out.mkm
        generalize x1.alloc (.cells (Array.replicate G.length (.int .i64 0)) 3) = x15 at H ⊢
        generalize x1.heap.size = m16 at H ⊢
        refine wpAnyH_ready (rs := [3, 8]) (by kernel_rfl) (by simp) ?_
        refine AllReadyH.cons rfl (fun K hK => ?_) ?_
        · go_simp
          refine (H.out.rep F0.out F1.out).mono ?_
          rintro e x17 ⟨g18, rfl, H2⟩
          replace H := Lib.hid H2
          clear H2
          first | (go_wp2_with fail) | skip
          refine hK.out _ _ trivial (fun hHeld => ?_)
          clear hK K
          try simp only [Act.put, List.setIfInBounds_toArray, List.set_cons_zero, List.set_cons_succ]
          refine wpAnyH_take (i := 7) (v := ?_) rfl (by kernel_rfl) (by kernel_rfl) (by kernel_rfl) (fun _ _ _ h => h) (Or.inl ⟨by rfl, ?_⟩) (by assumption) ?_
          rotate_left
          · intro w hSw; (try dsimp only at hSw); (go_simp <;> with_reducible rfl)
          try simp only [Act.put, List.setIfInBounds_toArray, List.set_cons_zero, List.set_cons_succ]
          refine wpAnyH_ready (rs := [8]) (by kernel_rfl) (by simp) ?_
          refine AllReadyH.cons rfl (fun K hK => ?_) AllReadyH.nil
          go_simp
          refine hK.out _ (x17.alloc (.cells #[.slice none 0 0, .slice none 0 0] 65)) trivial (fun hHeld => ?_)
          clear hK K
          try simp only [Act.put, List.setIfInBounds_toArray, List.set_cons_zero, List.set_cons_succ]
          replace H := Lib.hid H.out.mkh
          generalize x17.alloc (.cells #[.slice none 0 0, .slice none 0 0] 65) = x19 at H ⊢
          generalize x17.heap.size = h20 at H ⊢
          refine wpAnyH_ready (rs := [9]) (by kernel_rfl) (by simp) ?_
          refine AllReadyH.cons rfl (fun K hK => ?_) AllReadyH.nil
          obtain ⟨z0, z1, z2, z3⟩ := H.out.hcells
          go_simp
          refine hK.out _ _ trivial (fun hHeld => ?_)
          clear hK K
          try simp only [Act.put, List.setIfInBounds_toArray, List.set_cons_zero, List.set_cons_succ]
          refine wpAnyH_done (by kernel_rfl) ?_ _
          first | refine NoPanic.normal ?_ | skip
          first | (go_wp2_with fail) | skip
          first | go_meet | trace_state
          exact ⟨_, _, _, rfl, Lib.hid (H.out.fin F0.out)⟩
        refine AllReadyH.cons rfl (fun K hK => ?_) AllReadyH.nil
        · go_simp
          refine hK.out _ (x15.alloc (.cells #[.slice none 0 0, .slice none 0 0] 65)) trivial (fun hHeld => ?_)
          clear hK K
          try simp only [Act.put, List.setIfInBounds_toArray, List.set_cons_zero, List.set_cons_succ]
          replace H := Lib.hid H.out.mkh
          generalize x15.alloc (.cells #[.slice none 0 0, .slice none 0 0] 65) = x22 at H ⊢
          generalize x15.heap.size = h23 at H ⊢
          refine wpAnyH_ready (rs := [3]) (by kernel_rfl) (by simp) ?_
          refine AllReadyH.cons rfl (fun K hK => ?_) AllReadyH.nil
          go_simp
          refine (H.out.rep F0.out F1.out).mono ?_
          rintro e x24 ⟨g25, rfl, H2⟩
          replace H := Lib.hid H2
          clear H2
          first | (go_wp2_with fail) | skip
          refine hK.out _ _ trivial (fun hHeld => ?_)
          clear hK K
          try simp only [Act.put, List.setIfInBounds_toArray, List.set_cons_zero, List.set_cons_succ]
          refine wpAnyH_take (i := 7) (v := ?_) rfl (by kernel_rfl) (by kernel_rfl) (by kernel_rfl) (fun _ _ _ h => h) (Or.inl ⟨by rfl, ?_⟩) (by assumption) ?_
          rotate_left
          · intro w hSw; (try dsimp only at hSw); (go_simp <;> with_reducible rfl)
          try simp only [Act.put, List.setIfInBounds_toArray, List.set_cons_zero, List.set_cons_succ]
          refine wpAnyH_ready (rs := [9]) (by kernel_rfl) (by simp) ?_
          refine AllReadyH.cons rfl (fun K hK => ?_) AllReadyH.nil
          obtain ⟨z0, z1, z2, z3⟩ := H.out.hcells
          go_simp
          refine hK.out _ _ trivial (fun hHeld => ?_)
          clear hK K
          try simp only [Act.put, List.setIfInBounds_toArray, List.set_cons_zero, List.set_cons_succ]
          refine wpAnyH_done (by kernel_rfl) ?_ _
          first | refine NoPanic.normal ?_ | skip
          first | (go_wp2_with fail) | skip
          first | go_meet | trace_state
          exact ⟨_, _, _, rfl, Lib.hid (H.out.fin F0.out)⟩
      refine AllReadyH.cons rfl (fun K hK => ?_) AllReadyH.nil
      · go_simp
        refine hK.out _ (x1.alloc (.cells #[.slice none 0 0, .slice none 0 0] 65)) trivial (fun hHeld => ?_)
        clear hK K
        try simp only [Act.put, List.setIfInBounds_toArray, List.set_cons_zero, List.set_cons_succ]
        replace H := Lib.hid H.out.mkh
        generalize x1.alloc (.cells #[.slice none 0 0, .slice none 0 0] 65) = x27 at H ⊢
        generalize x1.heap.size = h28 at H ⊢
        refine wpAnyH_ready (rs := [3, 6]) (by kernel_rfl) (by simp) ?_
        refine AllReadyH.cons rfl (fun K hK => ?_) ?_
        · go_simp
          refine (H.out.rep F0.out F1.out).mono ?_
          rintro e x29 ⟨g30, rfl, H2⟩
          replace H := Lib.hid H2
          clear H2
          first | (go_wp2_with fail) | skip
          refine hK.out _ _ trivial (fun hHeld => ?_)
          clear hK K
          try simp only [Act.put, List.setIfInBounds_toArray, List.set_cons_zero, List.set_cons_succ]
          refine wpAnyH_ready (rs := [6]) (by kernel_rfl) (by simp) ?_
          refine AllReadyH.cons rfl (fun K hK => ?_) AllReadyH.nil
          go_simp
          refine hK.out _ (x29.alloc (.cells (Array.replicate G.length (.int .i64 0)) 3)) trivial (fun hHeld => ?_)
          clear hK K
          try simp only [Act.put, List.setIfInBounds_toArray, List.set_cons_zero, List.set_cons_succ]
          replace H := Lib.hid H.out.mkm
          generalize x29.alloc (.cells (Array.replicate G.length (.int .i64 0)) 3) = x31 at H ⊢
          generalize x29.heap.size = m32 at H ⊢
          refine wpAnyH_take (i := 7) (v := ?_) rfl (by kernel_rfl) (by kernel_rfl) (by kernel_rfl) (fun _ _ _ h => h) (Or.inl ⟨by rfl, ?_⟩) (by assumption) ?_
          rotate_left
          · intro w hSw; (try dsimp only at hSw); (go_simp <;> with_reducible rfl)
          try simp only [Act.put, List.setIfInBounds_toArray, List.set_cons_zero, List.set_cons_succ]
          refine wpAnyH_ready (rs := [9]) (by kernel_rfl) (by simp) ?_
          refine AllReadyH.cons rfl (fun K hK => ?_) AllReadyH.nil
          obtain ⟨z0, z1, z2, z3⟩ := H.out.hcells
          go_simp
          refine hK.out _ _ trivial (fun hHeld => ?_)
          clear hK K
          try simp only [Act.put, List.setIfInBounds_toArray, List.set_cons_zero, List.set_cons_succ]
          refine wpAnyH_done (by kernel_rfl) ?_ _
          first | refine NoPanic.normal ?_ | skip
          first | (go_wp2_with fail) | skip
          first | go_meet | trace_state
          exact ⟨_, _, _, rfl, Lib.hid (H.out.fin F0.out)⟩
        refine AllReadyH.cons rfl (fun K hK => ?_) AllReadyH.nil
        · go_simp
          refine hK.out _ (x27.alloc (.cells (Array.replicate G.length (.int .i64 0)) 3)) trivial (fun hHeld => ?_)
          clear hK K
          try simp only [Act.put, List.setIfInBounds_toArray, List.set_cons_zero, List.set_cons_succ]
          replace H := Lib.hid H.out.mkm
          generalize x27.alloc (.cells (Array.replicate G.length (.int .i64 0)) 3) = x34 at H ⊢
          generalize x27.heap.size = m35 at H ⊢
          refine wpAnyH_ready (rs := [3]) (by kernel_rfl) (by simp) ?_
          refine AllReadyH.cons rfl (fun K hK => ?_) AllReadyH.nil
          go_simp
          refine (H.out.rep F0.out F1.out).mono ?_
          rintro e x36 ⟨g37, rfl, H2⟩
          replace H := Lib.hid H2
          clear H2
          first | (go_wp2_with fail) | skip
          refine hK.out _ _ trivial (fun hHeld => ?_)
          clear hK K
          try simp only [Act.put, List.setIfInBounds_toArray, List.set_cons_zero, List.set_cons_succ]
          refine wpAnyH_take (i := 7) (v := ?_) rfl (by kernel_rfl) (by kernel_rfl) (by kernel_rfl) (fun _ _ _ h => h) (Or.inl ⟨by rfl, ?_⟩) (by assumption) ?_
          rotate_left
          · intro w hSw; (try dsimp only at hSw); (go_simp <;> with_reducible rfl)
          try simp only [Act.put, List.setIfInBounds_toArray, List.set_cons_zero, List.set_cons_succ]
          refine wpAnyH_ready (rs := [9]) (by kernel_rfl) (by simp) ?_
          refine AllReadyH.cons rfl (fun K hK => ?_) AllReadyH.nil
          obtain ⟨z0, z1, z2, z3⟩ := H.out.hcells
          go_simp
          refine hK.out _ _ trivial (fun hHeld => ?_)
          clear hK K
          try simp only [Act.put, List.setIfInBounds_toArray, List.set_cons_zero, List.set_cons_succ]
          refine wpAnyH_done (by kernel_rfl) ?_ _
          first | refine NoPanic.normal ?_ | skip
          first | (go_wp2_with fail) | skip
          first | go_meet | trace_state
          exact ⟨_, _, _, rfl, Lib.hid (H.out.fin F0.out)⟩
    refine AllReadyH.cons rfl (fun K hK => ?_) ?_
    · go_simp
      refine hK.out _ (x0.alloc (.cells (Array.replicate G.length (.int .i64 0)) 3)) trivial (fun hHeld => ?_)
      clear hK K
      try simp only [Act.put, List.setIfInBounds_toArray, List.set_cons_zero, List.set_cons_succ]
      replace H := Lib.hid H.out.mkm
      generalize x0.alloc (.cells (Array.replicate G.length (.int .i64 0)) 3) = x39 at H ⊢
      generalize x0.heap.size = m40 at H ⊢
      refine wpAnyH_ready (rs := [0, 8]) (by kernel_rfl) (by simp) ?_
      refine AllReadyH.cons rfl (fun K hK => ?_) ?_
      · go_simp
        refine hK.out _ (x39.alloc (.cells #[.int .i64 (-1)] 3)) trivial (fun hHeld => ?_)
        clear hK K
        try simp only [Act.put, List.setIfInBounds_toArray, List.set_cons_zero, List.set_cons_succ]
        replace H := Lib.hid H.out.mkp
        generalize x39.alloc (.cells #[.int .i64 (-1)] 3) = x41 at H ⊢
        generalize x39.heap.size = p42 at H ⊢
        refine wpAnyH_ready (rs := [3, 8]) (by kernel_rfl) (by simp) ?_
        refine AllReadyH.cons rfl (fun K hK => ?_) ?_
        · go_simp
          refine (H.out.rep F0.out F1.out).mono ?_
          rintro e x43 ⟨g44, rfl, H2⟩
          replace H := Lib.hid H2
          clear H2
          first | (go_wp2_with fail) | skip
          refine hK.out _ _ trivial (fun hHeld => ?_)
          clear hK K
          try simp only [Act.put, List.setIfInBounds_toArray, List.set_cons_zero, List.set_cons_succ]
          refine wpAnyH_take (i := 7) (v := ?_) rfl (by kernel_rfl) (by kernel_rfl) (by kernel_rfl) (fun _ _ _ h => h) (Or.inl ⟨by rfl, ?_⟩) (by assumption) ?_
          rotate_left
          · intro w hSw; (try dsimp only at hSw); (go_simp <;> with_reducible rfl)
          try simp only [Act.put, List.setIfInBounds_toArray, List.set_cons_zero, List.set_cons_succ]
          refine wpAnyH_ready (rs := [8]) (by kernel_rfl) (by simp) ?_
          refine AllReadyH.cons rfl (fun K hK => ?_) AllReadyH.nil
          go_simp
          refine hK.out _ (x43.alloc (.cells #[.slice none 0 0, .slice none 0 0] 65)) trivial (fun hHeld => ?_)
          clear hK K
          try simp only [Act.put, List.setIfInBounds_toArray, List.set_cons_zero, List.set_cons_succ]
          replace H := Lib.hid H.out.mkh
          generalize x43.alloc (.cells #[.slice none 0 0, .slice none 0 0] 65) = x45 at H ⊢
          generalize x43.heap.size = h46 at H ⊢
          refine wpAnyH_ready (rs := [9]) (by kernel_rfl) (by simp) ?_
          refine AllReadyH.cons rfl (fun K hK => ?_) AllReadyH.nil
          obtain ⟨z0, z1, z2, z3⟩ := H.out.hcells
          go_simp
          refine hK.out _ _ trivial (fun hHeld => ?_)
          clear hK K
          try simp only [Act.put, List.setIfInBounds_toArray, List.set_cons_zero, List.set_cons_succ]
          refine wpAnyH_done (by kernel_rfl) ?_ _
          first | refine NoPanic.normal ?_ | skip
          first | (go_wp2_with fail) | skip
          first | go_meet | trace_state
          exact ⟨_, _, _, rfl, Lib.hid (H.out.fin F0.out)⟩
        refine AllReadyH.cons rfl (fun K hK => ?_) AllReadyH.nil
        · go_simp
          refine hK.out _ (x41.alloc (.cells #[.slice none 0 0, .slice none 0 0] 65)) trivial (fun hHeld => ?_)
          clear hK K
          try simp only [Act.put, List.setIfInBounds_toArray, List.set_cons_zero, List.set_cons_succ]
          replace H := Lib.hid H.out.mkh
          generalize x41.alloc (.cells #[.slice none 0 0, .slice none 0 0] 65) = x48 at H ⊢
          generalize x41.heap.size = h49 at H ⊢
          refine wpAnyH_ready (rs := [3]) (by kernel_rfl) (by simp) ?_
          refine AllReadyH.cons rfl (fun K hK => ?_) AllReadyH.nil
          go_simp
          refine (H.out.rep F0.out F1.out).mono ?_
          rintro e x50 ⟨g51, rfl, H2⟩
          replace H := Lib.hid H2
          clear H2
          first | (go_wp2_with fail) | skip
          refine hK.out _ _ trivial (fun hHeld => ?_)
          clear hK K
          try simp only [Act.put, List.setIfInBounds_toArray, List.set_cons_zero, List.set_cons_succ]
          refine wpAnyH_take (i := 7) (v := ?_) rfl (by kernel_rfl) (by kernel_rfl) (by kernel_rfl) (fun _ _ _ h => h) (Or.inl ⟨by rfl, ?_⟩) (by assumption) ?_
          rotate_left
          · intro w hSw; (try dsimp only at hSw); (go_simp <;> with_reducible rfl)
          try simp only [Act.put, List.setIfInBounds_toArray, List.set_cons_zero, List.set_cons_succ]
          refine wpAnyH_ready (rs := [9]) (by kernel_rfl) (by simp) ?_
          refine AllReadyH.cons rfl (fun K hK => ?_) AllReadyH.nil
          obtain ⟨z0, z1, z2, z3⟩ := H.out.hcells
          go_simp
          refine hK.out _ _ trivial (fun hHeld => ?_)
          clear hK K
          try simp only [Act.put, List.setIfInBounds_toArray, List.set_cons_zero, List.set_cons_succ]
          refine wpAnyH_done (by kernel_rfl) ?_ _
          first | refine NoPanic.normal ?_ | skip
          first | (go_wp2_with fail) | skip
          first | go_meet | trace_state
          exact ⟨_, _, _, rfl, Lib.hid (H.out.fin F0.out)⟩
      refine AllReadyH.cons rfl (fun K hK => ?_) AllReadyH.nil
      · go_simp
        refine hK.out _ (x39.alloc (.cells #[.slice none 0 0, .slice none 0 0] 65)) trivial (fun hHeld => ?_)
        clear hK K
        try simp only [Act.put, List.setIfInBounds_toArray, List.set_cons_zero, List.set_cons_succ]
        replace H := Lib.hid H.out.mkh
        generalize x39.alloc (.cells #[.slice none 0 0, .slice none 0 0] 65) = x53 at H ⊢
        generalize x39.heap.size = h54 at H ⊢
        refine wpAnyH_ready (rs := [0]) (by kernel_rfl) (by simp) ?_
        refine AllReadyH.cons rfl (fun K hK => ?_) AllReadyH.nil
        go_simp
        refine hK.out _ (x53.alloc (.cells #[.int .i64 (-1)] 3)) trivial (fun hHeld => ?_)
        clear hK K
        try simp only [Act.put, List.setIfInBounds_toArray, List.set_cons_zero, List.set_cons_succ]
        replace H := Lib.hid H.out.mkp
        generalize x53.alloc (.cells #[.int .i64 (-1)] 3) = x55 at H ⊢
        generalize x53.heap.size = p56 at H ⊢
        refine wpAnyH_ready (rs := [3]) (by kernel_rfl) (by simp) ?_
        refine AllReadyH.cons rfl (fun K hK => ?_) AllReadyH.nil
        go_simp
        refine (H.out.rep F0.out F1.out).mono ?_
        rintro e x57 ⟨g58, rfl, H2⟩
        replace H := Lib.hid H2
        clear H2
        first | (go_wp2_with fail) | skip
        refine hK.out _ _ trivial (fun hHeld => ?_)
        clear hK K
        try simp only [Act.put, List.setIfInBounds_toArray, List.set_cons_zero, List.set_cons_succ]
        refine wpAnyH_take (i := 7) (v := ?_) rfl (by kernel_rfl) (by kernel_rfl) (by kernel_rfl) (fun _ _ _ h => h) (Or.inl ⟨by rfl, ?_⟩) (by assumption) ?_
        rotate_left
        · intro w hSw; (try dsimp only at hSw); (go_simp <;> with_reducible rfl)
        try simp only [Act.put, List.setIfInBounds_toArray, List.set_cons_zero, List.set_cons_succ]
        refine wpAnyH_ready (rs := [9]) (by kernel_rfl) (by simp) ?_
        refine AllReadyH.cons rfl (fun K hK => ?_) AllReadyH.nil
        obtain ⟨z0, z1, z2, z3⟩ := H.out.hcells
        go_simp
        refine hK.out _ _ trivial (fun hHeld => ?_)
        clear hK K
        try simp only [Act.put, List.setIfInBounds_toArray, List.set_cons_zero, List.set_cons_succ]
        refine wpAnyH_done (by kernel_rfl) ?_ _
        first | refine NoPanic.normal ?_ | skip
        first | (go_wp2_with fail) | skip
        first | go_meet | trace_state
        exact ⟨_, _, _, rfl, Lib.hid (H.out.fin F0.out)⟩
    refine AllReadyH.cons rfl (fun K hK => ?_) AllReadyH.nil
    · go_simp
      refine hK.out _ (x0.alloc (.cells #[.slice none 0 0, .slice none 0 0] 65)) trivial (fun hHeld => ?_)
      clear hK K
      try simp only [Act.put, List.setIfInBounds_toArray, List.set_cons_zero, List.set_cons_succ]
      replace H := Lib.hid H.out.mkh
      generalize x0.alloc (.cells #[.slice none 0 0, .slice none 0 0] 65) = x60 at H ⊢
      generalize x0.heap.size = h61 at H ⊢
      refine wpAnyH_ready (rs := [0, 6]) (by kernel_rfl) (by simp) ?_
      refine AllReadyH.cons rfl (fun K hK => ?_) ?_
      · go_simp
        refine hK.out _ (x60.alloc (.cells #[.int .i64 (-1)] 3)) trivial (fun hHeld => ?_)
        clear hK K
        try simp only [Act.put, List.setIfInBounds_toArray, List.set_cons_zero, List.set_cons_succ]
        replace H := Lib.hid H.out.mkp
        generalize x60.alloc (.cells #[.int .i64 (-1)] 3) = x62 at H ⊢
        generalize x60.heap.size = p63 at H ⊢
        refine wpAnyH_ready (rs := [3, 6]) (by kernel_rfl) (by simp) ?_
        refine AllReadyH.cons rfl (fun K hK => ?_) ?_
        · go_simp
          refine (H.out.rep F0.out F1.out).mono ?_
          rintro e x64 ⟨g65, rfl, H2⟩
          replace H := Lib.hid H2
          clear H2
          first | (go_wp2_with fail) | skip
          refine hK.out _ _ trivial (fun hHeld => ?_)
          clear hK K
          try simp only [Act.put, List.setIfInBounds_toArray, List.set_cons_zero, List.set_cons_succ]
          refine wpAnyH_ready (rs := [6]) (by kernel_rfl) (by simp) ?_
          refine AllReadyH.cons rfl (fun K hK => ?_) AllReadyH.nil
          go_simp
          refine hK.out _ (x64.alloc (.cells (Array.replicate G.length (.int .i64 0)) 3)) trivial (fun hHeld => ?_)
          clear hK K
          try simp only [Act.put, List.setIfInBounds_toArray, List.set_cons_zero, List.set_cons_succ]
          replace H := Lib.hid H.out.mkm
          generalize x64.alloc (.cells (Array.replicate G.length (.int .i64 0)) 3) = x66 at H ⊢
          generalize x64.heap.size = m67 at H ⊢
          refine wpAnyH_take (i := 7) (v := ?_) rfl (by kernel_rfl) (by kernel_rfl) (by kernel_rfl) (fun _ _ _ h => h) (Or.inl ⟨by rfl, ?_⟩) (by assumption) ?_
          rotate_left
          · intro w hSw; (try dsimp only at hSw); (go_simp <;> with_reducible rfl)
          try simp only [Act.put, List.setIfInBounds_toArray, List.set_cons_zero, List.set_cons_succ]
          refine wpAnyH_ready (rs := [9]) (by kernel_rfl) (by simp) ?_
          refine AllReadyH.cons rfl (fun K hK => ?_) AllReadyH.nil
          obtain ⟨z0, z1, z2, z3⟩ := H.out.hcells
          go_simp
          refine hK.out _ _ trivial (fun hHeld => ?_)
          clear hK K
          try simp only [Act.put, List.setIfInBounds_toArray, List.set_cons_zero, List.set_cons_succ]
          refine wpAnyH_done (by kernel_rfl) ?_ _
          first | refine NoPanic.normal ?_ | skip
          first | (go_wp2_with fail) | skip
          first | go_meet | trace_state
          exact ⟨_, _, _, rfl, Lib.hid (H.out.fin F0.out)⟩
        refine AllReadyH.cons rfl (fun K hK => ?_) AllReadyH.nil
        · go_simp
          refine hK.out _ (x62.alloc (.cells (Array.replicate G.length (.int .i64 0)) 3)) trivial (fun hHeld => ?_)
          clear hK K
          try simp only [Act.put, List.setIfInBounds_toArray, List.set_cons_zero, List.set_cons_succ]
          replace H := Lib.hid H.out.mkm
          generalize x62.alloc (.cells (Array.replicate G.length (.int .i64 0)) 3) = x69 at H ⊢
          generalize x62.heap.size = m70 at H ⊢
          refine wpAnyH_ready (rs := [3]) (by kernel_rfl) (by simp) ?_
          refine AllReadyH.cons rfl (fun K hK => ?_) AllReadyH.nil
          go_simp
          refine (H.out.rep F0.out F1.out).mono ?_
          rintro e x71 ⟨g72, rfl, H2⟩
          replace H := Lib.hid H2
          clear H2
          first | (go_wp2_with fail) | skip
          refine hK.out _ _ trivial (fun hHeld => ?_)
          clear hK K
          try simp only [Act.put, List.setIfInBounds_toArray, List.set_cons_zero, List.set_cons_succ]
          refine wpAnyH_take (i := 7) (v := ?_) rfl (by kernel_rfl) (by kernel_rfl) (by kernel_rfl) (fun _ _ _ h => h) (Or.inl ⟨by rfl, ?_⟩) (by assumption) ?_
          rotate_left
          · intro w hSw; (try dsimp only at hSw); (go_simp <;> with_reducible rfl)
          try simp only [Act.put, List.setIfInBounds_toArray, List.set_cons_zero, List.set_cons_succ]
          refine wpAnyH_ready (rs := [9]) (by kernel_rfl) (by simp) ?_
          refine AllReadyH.cons rfl (fun K hK => ?_) AllReadyH.nil
          obtain ⟨z0, z1, z2, z3⟩ := H.out.hcells
          go_simp
          refine hK.out _ _ trivial (fun hHeld => ?_)
          clear hK K
          try simp only [Act.put, List.setIfInBounds_toArray, List.set_cons_zero, List.set_cons_succ]
          refine wpAnyH_done (by kernel_rfl) ?_ _
          first | refine NoPanic.normal ?_ | skip
          first | (go_wp2_with fail) | skip
          first | go_meet | trace_state
          exact ⟨_, _, _, rfl, Lib.hid (H.out.fin F0.out)⟩
      refine AllReadyH.cons rfl (fun K hK => ?_) AllReadyH.nil
      · go_simp
        refine hK.out _ (x60.alloc (.cells (Array.replicate G.length (.int .i64 0)) 3)) trivial (fun hHeld => ?_)
        clear hK K
        try simp only [Act.put, List.setIfInBounds_toArray, List.set_cons_zero, List.set_cons_succ]
        replace H := Lib.hid H.out.mkm
        generalize x60.alloc (.cells (Array.replicate G.length (.int .i64 0)) 3) = x74 at H ⊢
        generalize x60.heap.size = m75 at H ⊢
        refine wpAnyH_ready (rs := [0]) (by kernel_rfl) (by simp) ?_
        refine AllReadyH.cons rfl (fun K hK => ?_) AllReadyH.nil
        go_simp
        refine hK.out _ (x74.alloc (.cells #[.int .i64 (-1)] 3)) trivial (fun hHeld => ?_)
        clear hK K
        try simp only [Act.put, List.setIfInBounds_toArray, List.set_cons_zero, List.set_cons_succ]
        replace H := Lib.hid H.out.mkp
        generalize x74.alloc (.cells #[.int .i64 (-1)] 3) = x76 at H ⊢
        generalize x74.heap.size = p77 at H ⊢
        refine wpAnyH_ready (rs := [3]) (by kernel_rfl) (by simp) ?_
        refine AllReadyH.cons rfl (fun K hK => ?_) AllReadyH.nil
        go_simp
        refine (H.out.rep F0.out F1.out).mono ?_
        rintro e x78 ⟨g79, rfl, H2⟩
        replace H := Lib.hid H2
        clear H2
        first | (go_wp2_with fail) | skip
        refine hK.out _ _ trivial (fun hHeld => ?_)
        clear hK K
        try simp only [Act.put, List.setIfInBounds_toArray, List.set_cons_zero, List.set_cons_succ]
        refine wpAnyH_take (i := 7) (v := ?_) rfl (by kernel_rfl) (by kernel_rfl) (by kernel_rfl) (fun _ _ _ h => h) (Or.inl ⟨by rfl, ?_⟩) (by assumption) ?_
        rotate_left
        · intro w hSw; (try dsimp only at hSw); (go_simp <;> with_reducible rfl)
        try simp only [Act.put, List.setIfInBounds_toArray, List.set_cons_zero, List.set_cons_succ]
        refine wpAnyH_ready (rs := [9]) (by kernel_rfl) (by simp) ?_
        refine AllReadyH.cons rfl (fun K hK => ?_) AllReadyH.nil
        obtain ⟨z0, z1, z2, z3⟩ := H.out.hcells
        go_simp
        refine hK.out _ _ trivial (fun hHeld => ?_)
        clear hK K
        try simp only [Act.put, List.setIfInBounds_toArray, List.set_cons_zero, List.set_cons_succ]
        refine wpAnyH_done (by kernel_rfl) ?_ _
        first | refine NoPanic.normal ?_ | skip
        first | (go_wp2_with fail) | skip
        first | go_meet | trace_state
        exact ⟨_, _, _, rfl, Lib.hid (H.out.fin F0.out)⟩
    -- END REGION
  case rest =>
    obtain ⟨h, gn, gp, rfl, HF0⟩ := hcut
    have hio := order_is G hp
    have hol : (orderL G).length ≤ 256 := by have := nodup_le G.length (orderL G) hio.nodup (fun y hy => ((hio.mem y).1 hy).lt); omega
    have hol0 : 0 < (orderL G).length := by obtain ⟨tl, e⟩ := hio.first; rw [e]; simp
    have HIO := Lib.hid hio
    have HOR := Lib.hid HOV.out.rd
    have hov := HOV.out.rd
    obtain ⟨ao, co, rfl, hco, _, hdo⟩ := hov
    rw [up_len] at hco HOR
    have hlu : (up (orderL G)).length = (orderL G).length := up_len _
    have HLU := Lib.hid hlu
    rw [hlu] at HOV ⊢
    obtain ⟨bo, oo, rfl, hgo⟩ : ∃ bo oo, ao = some ⟨bo, oo, none⟩ ∧ ∀ k, k < (up (orderL G)).length → w1.cell? ⟨bo, oo + k, none⟩ = some (.int .i64 ((up (orderL G)).getD k 0)) := by
      rcases hdo with e | h
      · rw [e] at hlu; simp at hlu; omega
      · exact h
    have HGO := Lib.hid hgo
    have HCO := Lib.hid hco
    clear hgo hdo hco hlu hio hmk hbd
    go_wp2
    go_loopw [25] (fun y wr => ∃ (i : Nat) (P : List Int), y = .int .i64 i ∧ i ≤ (orderL G).length ∧ Hid (PL (orderL G) i P) ∧ Hid (NF G.length w1 wr h gn gp (List.replicate G.length (-1)) P)) (fun y _ => (orderL G).length - (intOf y).toNat)
    case atStart => exact ⟨0, _, rfl, Nat.zero_le _, Lib.hid (fun k hk => by omega), HF0⟩
    case round =>
      clear HF0
      obtain ⟨i, P, rfl, hi, HPL, HNF⟩ := hrel
      by_cases hlt : i < (orderL G).length
      · have hilt : (i : Int) < (orderL G).length := by omega
        have hco := HCO.out
        have g1 := HGO.out i (by rw [HLU.out]; exact hlt)
        rw [← HNF.out.below.cell (p := ⟨bo, oo + i, none⟩) (World.block_lt_of_cell? w1 _ g1)] at g1
        rw [up_getD hlt, List.getD_eq_getElem?_getD, List.getElem?_eq_getElem hlt] at g1
        change wr.cell? ⟨bo, oo + i, none⟩ = some (.int .i64 ((orderL G)[i] : Nat)) at g1
        have hx : (orderL G)[i] < G.length := ((HIO.out.mem _).1 (List.getElem_mem hlt)).lt
        have HPN := Lib.hid (HPL.out.step HIO.out.nodup HNF.out.plen hlt hx)
        obtain ⟨c0, c1⟩ := HNF.out.cells
        obtain ⟨d0, d1⟩ := HNF.out.pcell hx
        generalize (orderL G)[i] = x at g1 hx HPN d0 d1
        have HNX := Lib.hid (HNF.out.setP x (i : Int))
        go_wp2
        exact ⟨⟨i + 1, _, by go_num, by omega, HPN, HNX⟩, by simp [intOf]; omega⟩
      · obtain rfl : i = (orderL G).length := by omega
        have HPLI := HPL
        clear HPL
        go_wp2
        go_loopg [9] (G.length + 2) (fun gk t wx => ∃ (k : Nat) (N : List Int) (c : Bool), t = .bool c ∧ gk + k = G.length + 2 ∧ Hid (NF G.length w1 wx h gn gp N P) ∧ Hid (Inv G (orderL G) k 1 N) ∧ (c = true → k ≤ G.length) ∧ Hid (c = false → Still G (orderL G) (orderL G).length N))
        case atStart => exact ⟨0, _, true, rfl, by omega, HNF, Lib.hid (Inv.start HIO.out), fun _ => Nat.zero_le _, Lib.hid (fun e => by cases e)⟩
        case round =>
          clear HNF
          obtain ⟨k, N, c, rfl, hgk, HNF2, HI, hck, HST⟩ := hrel
          cases c with
          | false =>
            obtain ⟨c0, c1⟩ := HNF2.out.cells
            have HNR : Hid (IsNear G N) := pass_end HF.out HIO.out HI.out (HST.out rfl)
            clear hck HST HI
            go_wp2
            go_ret
            exact ⟨_, N, rfl, HNF2.out.nr.mono HB1.out.size, HNR.out, HB1.out.trans (HNF2.out.below.mono HB1.out.size)⟩
          | true =>
            have hkG := hck rfl
            have hco := HCO.out
            clear hck
            by_cases hc1 : co = 1
            · have hl1 : (orderL G).length ≤ 1 := by omega
              have hl0 : (1 : Int) ≤ (orderL G).length := by omega
              go_wp2
              go_loopw [9, 40] (fun t y wx => ∃ (j : Nat) (N : List Int) (c : Bool), t = .bool c ∧ y = .int .i64 j ∧ j + 1 ≤ (orderL G).length ∧ Hid (NF G.length w1 wx h gn gp N P) ∧ Hid (Inv G (orderL G) k (j + 1) N) ∧ Hid (c = true → k < G.length) ∧ Hid (c = false → Still G (orderL G) (j + 1) N)) (fun _ y _ => (orderL G).length - (intOf y).toNat)
              case atStart => exact ⟨0, N, false, rfl, rfl, by omega, HNF2, HI, Lib.hid (fun e => by cases e), Lib.hid (fun _ => still_one HIO.out)⟩
              case round =>
                clear HNF2 HI HST
                obtain ⟨j, N, c, rfl, rfl, hj, HNF2, HI, HCK, HST⟩ := hrel
                by_cases hlt : j + 1 < (orderL G).length
                · exfalso; omega
                · have hje : j + 1 = (orderL G).length := by omega
                  have HI2 : Hid (Inv G (orderL G) (k + 1) 1 N) := by
                    have h := HI.out
                    rw [hje] at h
                    exact Lib.hid (h.turn HIO.out)
                  have HST2 : Hid (c = false → Still G (orderL G) (orderL G).length N) := by have h := HST.out; rw [hje] at h; exact Lib.hid h
                  have hjn2 : ¬ j < (orderL G).length - 1 := by omega
                  have hgk2 := hgk
                  clear HI HST hje
                  go_wp2
                  go_roundg (G.length + 1 - k)
                  case measure => omega
                  case rel => exact ⟨k + 1, N, c, rfl, by omega, HNF2, HI2, fun e => by have := HCK.out e; omega, HST2⟩
            · have hl0 : (1 : Int) ≤ (orderL G).length := by omega
              go_wp2
              go_loopw [9, 40] (fun t y wx => ∃ (j : Nat) (N : List Int) (c : Bool), t = .bool c ∧ y = .int .i64 j ∧ j + 1 ≤ (orderL G).length ∧ Hid (NF G.length w1 wx h gn gp N P) ∧ Hid (Inv G (orderL G) k (j + 1) N) ∧ Hid (c = true → k < G.length) ∧ Hid (c = false → Still G (orderL G) (j + 1) N)) (fun _ y _ => (orderL G).length - (intOf y).toNat)
              case atStart => exact ⟨0, N, false, rfl, rfl, by omega, HNF2, HI, Lib.hid (fun e => by cases e), Lib.hid (fun _ => still_one HIO.out)⟩
              case round =>
                clear HNF2 HI HST
                obtain ⟨j, N, c, rfl, rfl, hj, HNF2, HI, HCK, HST⟩ := hrel
                by_cases hlt : j + 1 < (orderL G).length
                · have hjn : j < (orderL G).length - 1 := by omega
                  have g1 := HGO.out (j + 1) (by rw [HLU.out]; exact hlt)
                  rw [← HNF2.out.below.cell (p := ⟨bo, oo + (j + 1), none⟩) (World.block_lt_of_cell? w1 _ g1)] at g1
                  rw [up_getD hlt, List.getD_eq_getElem?_getD, List.getElem?_eq_getElem hlt, show oo + (j + 1) = oo + 1 + j by omega] at g1
                  change wr.cell? ⟨bo, oo + 1 + j, none⟩ = some (.int .i64 ((orderL G)[j + 1] : Nat)) at g1
                  have hx : (orderL G)[j + 1] < G.length := ((HIO.out.mem _).1 (List.getElem_mem hlt)).lt
                  have HPS : Hid (∀ r, MeetAll N (preds G (orderL G)[j + 1]) r → Inv G (orderL G) k (j + 2) (N.set (orderL G)[j + 1] r) ∧ (N.getD (orderL G)[j + 1] 0 = r → N.set (orderL G)[j + 1] r = N ∧ (Still G (orderL G) (j + 1) N → Still G (orderL G) (j + 2) N)) ∧ (N.getD (orderL G)[j + 1] 0 ≠ r → k < G.length)) := fun r hm => pass_step HF.out HIO.out HI.out hlt hm
                  obtain ⟨u, u1, u2⟩ := HBC.out (orderL G)[j + 1] hx
                  have hbelow := HB1.out.trans (HNF2.out.below.mono HB1.out.size)
                  have ul := World.block_lt_of_cell? w _ u1
                  rw [← hbelow.cell (p := ⟨bb, ob + (orderL G)[j + 1], none⟩) ul] at u1
                  have u2 := u2.lift hbelow
                  have hpl := preds_lt hx
                  have hpn := preds_len HF.out (orderL G)[j + 1]
                  generalize (orderL G)[j + 1] = x at g1 hx HPS u1 u2 hpl hpn
                  have HMA := Lib.hid (meetAll_any G (orderL G) N P (.slice (some ⟨gn, 0, none⟩) G.length G.length) (.slice (some ⟨gp, 0, none⟩) G.length G.length) u (preds G x) wr.drew (dm_of HF.out HIO.out HI.out HNF2.out.plen HPLI.out) HNF2.out.nrd HNF2.out.prd u2 hpl hpn)
                  obtain ⟨c0, c1⟩ := HNF2.out.cells
                  have HX := Lib.hid hx
                  have hcb := HCB.out
                  have hxi : (x : Int) < G.length := by omega
                  have HND := Lib.hid (HNF2.out.lift (Below.refl wr.heap.size wr).drew)
                  have UL : Hid (bb < wr.drew.heap.size) := Nat.lt_of_lt_of_le ul hbelow.size
                  have U1 : Hid (wr.drew.cell? ⟨bb, ob + x, none⟩ = some u) := u1
                  clear hpl hpn hbelow ul u2
                  go_wp2_with fail
                  go_region_held3 (fun z => z.cell? ⟨h, 0, none⟩ = some (.slice (some ⟨gn, 0, none⟩) G.length G.length) ∧ z.cell? ⟨h, 1, none⟩ = some (.slice (some ⟨gp, 0, none⟩) G.length G.length) ∧ z.cell? ⟨bb, ob + x, none⟩ = some u) (first | exact ⟨c0, c1, u1⟩ | go_keep) (first
                    | (go_at_call 36; refine HMA.out.mono ?_; rintro e w2 ⟨r, rfl, hm, hb2⟩; have HMM := Lib.hid hm; have HF2 := Lib.hid (HND.out.lift hb2); obtain ⟨c0, c1⟩ := HF2.out.cells; have u1 : w2.cell? ⟨bb, ob + x, none⟩ = some u := by { rw [hb2.cell (p := ⟨bb, ob + x, none⟩) UL.out]; exact U1.out }; clear hb2))
                  obtain ⟨d0, d1⟩ := HF2.out.ncell HX.out
                  have HPR := Lib.hid (HPS.out r HMM.out)
                  by_cases he : N.getD x 0 = r
                  · have hee : (r != N.getD x 0) = false := by rw [bne_eq_false_iff_eq]; exact he.symm
                    have hs := HPR.out.2.1 he
                    have HI2 : Hid (Inv G (orderL G) k (j + 2) N) := by have h := HPR.out.1; rw [hs.1] at h; exact Lib.hid h
                    have HST2 : Hid (c = false → Still G (orderL G) (j + 2) N) := fun e => hs.2 (HST.out e)
                    generalize N.getD x 0 = nx at d0 hee
                    clear hs he HPR HPS HI HST
                    go_wp2
                    exact ⟨⟨j + 1, N, c, rfl, by go_num, by omega, HF2, HI2, HCK, HST2⟩, by simp [intOf]; omega⟩
                  · have hee : (r != N.getD x 0) = true := by rw [bne_iff_ne]; exact fun e => he e.symm
                    have HKK : Hid (true = true → k < G.length) := fun _ => HPR.out.2.2 he
                    have HI2 : Hid (Inv G (orderL G) k (j + 2) (N.set x r)) := HPR.out.1
                    have HF3 := Lib.hid (HF2.out.setN x r)
                    generalize N.getD x 0 = nx at d0 hee
                    clear he HPR HPS HI HST
                    go_wp2
                    exact ⟨⟨j + 1, _, true, rfl, by go_num, by omega, HF3, HI2, HKK, Lib.hid (fun e => by cases e)⟩, by simp [intOf]; omega⟩
                · have hje : j + 1 = (orderL G).length := by omega
                  have HI2 : Hid (Inv G (orderL G) (k + 1) 1 N) := by
                    have h := HI.out
                    rw [hje] at h
                    exact Lib.hid (h.turn HIO.out)
                  have HST2 : Hid (c = false → Still G (orderL G) (orderL G).length N) := by have h := HST.out; rw [hje] at h; exact Lib.hid h
                  have hjn2 : ¬ j < (orderL G).length - 1 := by omega
                  have hgk2 := hgk
                  clear HI HST hje
                  go_wp2
                  go_roundg (G.length + 1 - k)
                  case measure => omega
                  case rel => exact ⟨k + 1, N, c, rfl, by omega, HNF2, HI2, fun e => by have := HCK.out e; omega, HST2⟩
end Go.Proofs.Ytcghekbbaeejaaa.gr
