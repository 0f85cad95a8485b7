/- Order: the program's, and the document's. -/
import Derived.Test.YtcghekbbaeejaaaGWithout
set_option linter.unusedVariables false
set_option linter.unusedSimpArgs false
namespace Go.Proofs.Ytcghekbbaeejaaa.gr
open Go.RowKit Go.Proofs.Ytcghekbbaeejaaa.Gr

def natG (L : List (List Int)) : List (List Nat) := L.map fun t => t.map Int.toNat
structure Fine (G : List (List Nat)) : Prop where
  wf : WF G
  n : G.length ≤ 256
  e : ∀ x, (adj G x).length ≤ 128
theorem Fine.mem {G : List (List Nat)} (h : Fine G) : ∀ t ∈ G, t.length ≤ 128 := fun t ht => by
  obtain ⟨k, hk, rfl⟩ := List.getElem_of_mem ht
  have := h.e k
  unfold adj at this
  rwa [List.getD_eq_getElem?_getD, List.getElem?_eq_getElem hk] at this
theorem right_nat {L : List (List Int)} (h : rightB L = true) : L = upp (natG L) ∧ Fine (natG L) := by
  unfold rightB at h
  simp only [Bool.and_eq_true, decide_eq_true_eq, List.all_eq_true] at h
  obtain ⟨⟨h0, h1⟩, h2⟩ := h
  have hlen : (natG L).length = L.length := List.length_map _
  have hr : ∀ t ∈ L, t.length ≤ 128 ∧ ∀ x ∈ t, 0 ≤ x ∧ x < L.length := fun t ht => by
    have := h2 t ht
    simp only [placesB, List.all_eq_true, Bool.and_eq_true, decide_eq_true_eq] at this
    exact this
  refine ⟨?_, ⟨⟨by omega, fun x y hy => ?_⟩, by omega, fun x => ?_⟩⟩
  · unfold upp natG up
    rw [List.map_map]
    symm
    have : ∀ t ∈ L, ((fun l => List.map (fun (n : Nat) => (n : Int)) l) ∘ fun t => List.map Int.toNat t) t = id t := fun t ht => by
      simp only [Function.comp, List.map_map, id]
      have hq : ∀ x ∈ t, ((fun (n : Nat) => (n : Int)) ∘ Int.toNat) x = id x := fun x hx => by
        have := (hr t ht).2 x hx
        simp only [Function.comp, id]; omega
      rw [List.map_congr_left hq, List.map_id]
    rw [List.map_congr_left this, List.map_id]
  · have hx := adj_lt hy
    unfold adj natG at hy
    rw [List.getD_eq_getElem?_getD, List.getElem?_map, List.getElem?_eq_getElem (by omega)] at hy
    simp only [Option.map_some, Option.getD_some, List.mem_map] at hy
    obtain ⟨z, hz, rfl⟩ := hy
    have := (hr _ (List.getElem_mem (by omega))).2 z hz
    omega
  · by_cases hx : x < L.length
    · unfold adj natG
      rw [List.getD_eq_getElem?_getD, List.getElem?_map, List.getElem?_eq_getElem hx]
      simp only [Option.map_some, Option.getD_some, List.length_map]
      exact (hr _ (List.getElem_mem hx)).1
    · rw [adj_out (by omega)]; simp

set_option maxRecDepth 100000 in
set_option maxHeartbeats 4000000 in
theorem refOrder_bad (v : Value) (L : List (List Int)) (w : World) (h : RdG w v L) (hl : L.length ≤ 140737488351232) (hr : rightB L = false) :
    Calls Try.prog 11 #[v] w fun e w' => e = .returned (.tuple #[.slice none 0 0, .int .i64 1]) ∧ w = w' := by
  have HR := Lib.hid (refRight_any v L w h hl)
  rw [hr] at HR
  clear hr
  go_enter Try.func11, Try.ntmps11
  go_wp2_with (go_at_call 15; refine HR.out.mono ?_; rintro e w1 ⟨rfl, rfl⟩)
  go_ret2
  exact ⟨rfl, rfl⟩

set_option maxRecDepth 100000 in
set_option maxHeartbeats 4000000 in
theorem order_bad (v : Value) (L : List (List Int)) (w : World) (h : RdG w v L) (hl : L.length ≤ 140737488351232) (hr : rightB L = false) :
    Calls Try.prog 10 #[v] w fun e w' => e = .returned (.tuple #[.slice none 0 0, .int .i64 1]) ∧ w = w' := by
  have HR := Lib.hid (right_any v L w h hl)
  rw [hr] at HR
  clear hr
  go_enter Try.func10, Try.ntmps10
  go_wp2_with (go_at_call 14; refine HR.out.mono ?_; rintro e w1 ⟨rfl, rfl⟩)
  go_ret2
  exact ⟨rfl, rfl⟩

def OrderP (G : List (List Nat)) (w : World) (e : Ending) (w' : World) : Prop := ∃ v', e = .returned (.tuple #[v', .int .i64 0]) ∧ gi.Own w' w.heap.size v' (up (orderL G)) ∧ Below w.heap.size w w'

set_option maxRecDepth 100000 in
set_option maxHeartbeats 4000000 in
theorem Order_any (v : Value) (G : List (List Nat)) (F : Fine G) (w : World) (h : RdG w v (upp G)) (hr : rightB (upp G) = true) :
    Calls Try.prog 10 #[v] w (OrderP G w) := by
  have HR := Lib.hid (right_any v (upp G) w h (by rw [upp_len]; have := F.n; omega))
  rw [hr] at HR
  have HO := Lib.hid (order_any v G w h F.wf F.n F.mem)
  clear hr
  go_enter Try.func10, Try.ntmps10
  go_wp2_with (first
    | (go_at_call 14; refine HR.out.mono ?_; rintro e w1 ⟨rfl, rfl⟩)
    | (go_at_call 25; refine HO.out.mono ?_; rintro e w1 ⟨v1, rfl, ho, hb⟩))
  go_ret2
  exact ⟨_, rfl, ho, hb⟩

theorem up_snoc (l : List Nat) (x : Nat) : up (l ++ [x]) = up l ++ [(x : Int)] := by unfold up; simp
theorem rev_drop {α : Type} (l : List α) (k : Nat) (h : k < l.length) : (l.drop k).reverse = (l.drop (k + 1)).reverse ++ [l[k]] := by
  rw [List.drop_eq_getElem_cons h, List.reverse_cons]

set_option maxRecDepth 100000 in
set_option maxHeartbeats 8000000 in
theorem refOrder_any (v : Value) (G : List (List Nat)) (F : Fine G) (w : World) (h : RdG w v (upp G)) (hr : rightB (upp G) = true) :
    Calls Try.prog 11 #[v] w (OrderP G w) := by
  have wf := F.wf
  have hn := F.n
  have hp := wf.pos
  have HRT := Lib.hid (refRight_any v (upp G) w h (by rw [upp_len]; omega))
  rw [hr] at HRT
  have HR := Lib.hid h
  obtain ⟨ao, cap, rfl, hcap, _, hd⟩ := h
  rw [upp_len] at hcap HR HRT ⊢
  obtain ⟨bg, og, rfl⟩ : ∃ bg og, ao = some ⟨bg, og, none⟩ := by
    rcases hd with e | ⟨bg, og, e, _⟩
    · have := upp_len G; rw [e] at this; simp at this; omega
    · exact ⟨bg, og, e⟩
  have hmk := make_bools G.length (by omega)
  have HS := Lib.hid (ws_start (w := w) (n := G.length) (gv := .slice (some ⟨bg, og, none⟩) G.length cap) hn)
  have HK := Lib.hid (walk_any G wf hn F.e w bg og cap (w.heap.size + 1) w.heap.size (w.heap.size + 2) HR.out G.length)
  have hbd := build_walker
  have hnl : (List.replicate G.length false).length = G.length := List.length_replicate ..
  have hm0 : met (List.replicate G.length false) 0 = false := met_none hp
  have hu0 : U (List.replicate G.length false) ≤ G.length := by have := U_le (List.replicate G.length false); omega
  have hsum := go_sum G G.length 0 (List.replicate G.length false, []) hu0 hm0
  have HSUM : Hid ((go G G.length 0 (List.replicate G.length false, [])).2.length ≤ 256) := by
    show _ ≤ _
    have : ([] : List Nat).length + U (List.replicate G.length false) ≤ G.length := by simpa using hu0
    have h2 : (go G G.length 0 (List.replicate G.length false, [])).2.length + U (go G G.length 0 (List.replicate G.length false, [])).1 = ([] : List Nat).length + U (List.replicate G.length false) := hsum
    omega
  have HOL : Hid ((go G G.length 0 (List.replicate G.length false, [])).2.reverse = orderL G) := Lib.hid rfl
  have HL2 := Lib.hid hnl
  have HM0 := Lib.hid hm0
  have HU0 := Lib.hid hu0
  have HK0 := Lib.hid (fun wr H => HK.out 0 (List.replicate G.length false) [] (.slice none 0 0) wr H HL2.out HM0.out HU0.out (by have := HU0.out; simpa using this))
  clear hd wf F hr hm0 hu0 hnl hsum HK
  generalize go G G.length 0 (List.replicate G.length false, []) = s at HK0 HSUM HOL
  have hs2 := HSUM.out
  go_enter Try.func11, Try.ntmps11
  go_upto_region 4 with (go_at_call 15; refine HRT.out.mono ?_; rintro e w1 ⟨rfl, rfl⟩)
  generalize (w.alloc _).alloc _ = W1 at HS ⊢
  clear hmk hbd
  go_wp2_with (go_at_call 26; refine (HK0.out _ HS.out).mono ?_; rintro e w2 ⟨rfl, v7, hW⟩; have HWS := Lib.hid hW; clear hW; obtain ⟨d0, d1, d2⟩ := HWS.out.cells; obtain ⟨a7, c7, rfl, hl7, _, hd7⟩ := HWS.out.dn.rd; rw [up_len] at d2 hl7; have HD7 := Lib.hid hd7; clear hd7 d0 d1)
  have HD2 := Lib.hid d2
  have HC7 := Lib.hid hl7
  clear d2 hl7
  go_loopw [5, 6] (fun v5 y wr => ∃ k : Nat, y = .int .i64 ((k : Int) - 1) ∧ k ≤ s.2.length ∧ Hid (gi.Own wr w2.heap.size v5 (up (s.2.drop k).reverse)) ∧ Hid (Below w2.heap.size w2 wr)) (fun _ y _ => (intOf y + 1).toNat)
  case atStart => exact ⟨s.2.length, rfl, Nat.le_refl _, Lib.hid (by rw [List.drop_length]; exact gi.Own.nil _ _), Lib.hid (Below.refl _ _)⟩
  case round =>
    obtain ⟨k, rfl, hk, HO, HB⟩ := hrel
    cases k with
    | zero =>
      rw [List.drop_zero] at HO
      have hb := HWS.out.below
      have HBB := Lib.hid (hb.trans (HB.out.mono hb.size))
      have hsz := hb.size
      go_wp2
      go_ret2
      refine ⟨_, rfl, ?_, HBB.out⟩
      rw [← HOL.out]; exact HO.out.mono hsz
    | succ k =>
      have hk' : k < s.2.length := by omega
      have hku : k < (up s.2).length := by rw [up_len]; exact hk'
      have d2 := HD2.out
      rw [← HB.out.cell (p := ⟨w.heap.size + 1, 2, none⟩) (World.block_lt_of_cell? w2 _ d2)] at d2
      rcases HD7.out with e | ⟨b7, o7, rfl, hg7⟩
      · rw [e] at hku; simp at hku
      have g7 := hg7 k hku
      rw [← HB.out.cell (p := ⟨b7, o7 + k, none⟩) (World.block_lt_of_cell? w2 _ g7)] at g7
      rw [up_getD hk', List.getD_eq_getElem?_getD, List.getElem?_eq_getElem hk'] at g7
      change wr.cell? ⟨b7, o7 + k, none⟩ = some (.int .i64 (s.2[k] : Nat)) at g7
      have hrd := rev_drop s.2 k hk'
      generalize s.2[k] = x at g7 hrd
      have hcap7 := HC7.out
      have Hb1 := HB.out.size
      have hpl : (up (s.2.drop (k + 1)).reverse).length + 1 ≤ 4398046511104 := by rw [up_len, List.length_reverse, List.length_drop]; omega
      have HRD := Lib.hid hrd
      have e1 : ((k + 1 : Nat) : Int) - 1 = (k : Int) := by omega
      rw [e1]
      clear hrd hg7 hku e1
      go_wp2_with (at_builtin; refine app1 (.tmp 24) (.tmp 30) rfl rfl rfl HO.out (x : Int) rfl rfl hpl Hb1 ?_; intro g9 cap8 w9 k1 k2 k3 k4)
      exact ⟨⟨k, rfl, by omega, Lib.hid (by rw [HRD.out, up_snoc]; exact k1), Lib.hid (below_grown HB.out k2 Hb1 (fun j hj => (HO.out.lt j hj).1))⟩, by simp [intOf]⟩
end Go.Proofs.Ytcghekbbaeejaaa.gr
