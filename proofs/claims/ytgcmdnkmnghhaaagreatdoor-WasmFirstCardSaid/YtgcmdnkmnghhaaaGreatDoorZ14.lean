/- Put together by program: WDecode WFew WAliveT WAliveA WAlive. -/
import Derived.Test.YtgcmdnkmnghhaaaGreatDoorZ13
import Derived.Test.YtgcmdnkmnghhaaaGreatDoorZ7
import Derived.Lib.SlBytesConst
import Derived.Test.YtgcmdnkmnghhaaaGreatDoorZ5
import Derived.Lib.ConvBytes
/- Decode. -/
set_option linter.unusedVariables false
set_option linter.unusedSimpArgs false
namespace Go.Proofs.YtgcmdnkmnghhaaaGreatDoor.wm
open Go.RowKit Go.Proofs.YtgcmdnkmnghhaaaGreatDoor.lb

def zeroM : Array Value := #[.slice none 0 0, .slice none 0 0, .slice none 0 0, .int .i64 0, .int .i64 0, .slice none 0 0, .slice none 0 0, .int .i64 0, .slice none 0 0]
/-- what was read in a world with two blocks more, those two being turned -/
theorem decode_post {w0 w2 w1 w' : World} {res : Res GMod} {en : Ending} (h : ReadPost w2 res en w1) (hb : Below w0.heap.size w0 w2) (hs : w0.heap.size + 2 ≤ w2.heap.size) (k : Keep (fun i => i = w0.heap.size ∨ i = w0.heap.size + 1) w1 w') : ReadPost w0 res en w' := by
  obtain ⟨b1, h⟩ := h
  have low : Below w0.heap.size w0 w' := (hb.trans (b1.mono (by omega))).trans (k.lowD (by have := hb.size; have := b1.size; omega) (fun i hi => by omega))
  refine ⟨low, ?_⟩
  cases res with
  | bad why a => exact h
  | ok m q =>
    obtain ⟨tv, iv, fv, gv, ev, dv, he, h1, h2, h3, h4, h5, h6⟩ := h
    have hA : ∀ b, (w2.heap.size ≤ b ∧ b < w1.heap.size) → (w0.heap.size ≤ b ∧ b < w'.heap.size) ∧ w'.heap[b]? = w1.heap[b]? := fun b ⟨b1, b2⟩ => ⟨⟨by omega, Nat.lt_of_lt_of_le b2 k.size⟩, k.block b b2 (by omega)⟩
    exact ⟨tv, iv, fv, gv, ev, dv, he, h1.keep hA, h2.keep hA, h3.keep hA, h4.keep hA, h5.keep hA, h6.keep hA⟩
theorem two2 (w0 : World) : Blk 30 ((w0.alloc (.cells zeroM 30)).alloc (.cells #[.int .i64 0, .int .i64 0, .int .i64 0] 33)) w0.heap.size zeroM ∧ Blk 33 ((w0.alloc (.cells zeroM 30)).alloc (.cells #[.int .i64 0, .int .i64 0, .int .i64 0] 33)) (w0.heap.size + 1) #[.int .i64 0, .int .i64 0, .int .i64 0] := by
  have h1 := Blk.new 30 w0 zeroM
  have h2 := Blk.new 33 (w0.alloc (.cells zeroM 30)) #[.int .i64 0, .int .i64 0, .int .i64 0]
  rw [show (w0.alloc (.cells zeroM 30)).heap.size = w0.heap.size + 1 by simp [go_sem]] at h2
  exact ⟨h1.below (made1 _ _), h2⟩

set_option maxRecDepth 100000 in
set_option maxHeartbeats 1000000 in
theorem decode_any (v : Value) (l : List Int) (w0 : World) (hrd : Rd w0 v l) (hok : ∀ x ∈ l, 0 ≤ x ∧ x < 256) (hlen : l.length ≤ 281474976710656) (hruns : nm.Runs w0) :
    Calls Tryz.prog 10 #[v] w0 (ReadPost w0 (decodeM l)) := by
  obtain ⟨ao, cap, rfl, _⟩ := id hrd
  have T := two2 w0
  have b2 : Below w0.heap.size w0 ((w0.alloc (.cells zeroM 30)).alloc (.cells #[.int .i64 0, .int .i64 0, .int .i64 0] 33)) := made2 w0 _ _
  have hs2 : w0.heap.size + 2 ≤ ((w0.alloc (.cells zeroM 30)).alloc (.cells #[.int .i64 0, .int .i64 0, .int .i64 0] 33)).heap.size := by simp [go_sem]
  have B2 := Lib.hid b2
  have S2 := Lib.hid hs2
  by_cases hl : 16384 < l.length
  · have hm := Lib.hid (show decodeM l = .bad 7 0 from if_pos hl)
    have h1 : (16384 : Int) < l.length := by omega
    clear hrd hok hruns hl T b2 hs2
    go_enter Tryz.func10, Tryz.ntmps10
    go_wp2
    refine bodyPost_ret (v := .tuple #[.agg #[.slice none 0 0, .slice none 0 0, .slice none 0 0, .int .i64 0, .int .i64 0, .slice none 0 0, .slice none 0 0, .int .i64 0, .slice none 0 0], .agg #[.int .i64 7, .int .i64 0, .int .i64 0]]) (by simp [results, Tryz.results10, go_sem]) rfl ?_
    rw [hm.out]
    refine ⟨?_, rfl⟩
    repeat (first | with_reducible exact B2.out | exact made2 w0 _ _ | (with_reducible refine Below.setCell ?_ (by simp [go_sem]) _))
  · have hm := Lib.hid (show decodeM l = pModule l l.length 0 from if_neg hl)
    have HR := Lib.hid (read_any ⟨hrd.lift b2, hok, by omega⟩ (hruns.lift b2))
    have h1 : ¬ (16384 : Int) < l.length := by omega
    have T1 := Lib.hid T.1
    have T2 := Lib.hid T.2
    clear hrd hok hruns hl T b2 hs2
    go_enter Tryz.func10, Tryz.ntmps10
    go_wp2_with fail
    refine HR.out.mono ?_
    rintro en w1 hp
    have HP := Lib.hid hp
    have b1 := hp.1
    have hs2 := S2.out
    have T1r := T1.out.under b1 (by omega)
    have T2r := T2.out.under b1 (by omega)
    have t0 := T1r.c 0 rfl
    have s0 := T1r.f 0
    have t1 := T1r.c 1 rfl
    have s1 := T1r.f 1
    have t2 := T1r.c 2 rfl
    have s2 := T1r.f 2
    have t3 := T1r.c 3 rfl
    have s3 := T1r.f 3
    have t4 := T1r.c 4 rfl
    have s4 := T1r.f 4
    have t5 := T1r.c 5 rfl
    have s5 := T1r.f 5
    have t6 := T1r.c 6 rfl
    have s6 := T1r.f 6
    have t7 := T1r.c 7 rfl
    have s7 := T1r.f 7
    have t8 := T1r.c 8 rfl
    have s8 := T1r.f 8
    have y0 := T2r.c 0 rfl
    have z0 := T2r.f 0
    have y1 := T2r.c 1 rfl
    have z1 := T2r.f 1
    have y2 := T2r.c 2 rfl
    have z2 := T2r.f 2
    clear T1r T2r b1 hs2
    obtain ⟨_, h2⟩ := hp
    cases hx : pModule l l.length 0 with
    | bad why a =>
      rw [hx] at h2
      simp only at h2
      subst h2
      have HX := Lib.hid hx
      clear hx
      go_wp2
      refine bodyPost_ret (v := .tuple #[.agg #[.slice none 0 0, .slice none 0 0, .slice none 0 0, .int .i64 0, .int .i64 0, .slice none 0 0, .slice none 0 0, .int .i64 0, .slice none 0 0], .agg #[.int .i64 why, .int .i64 a, .int .i64 0]]) (by simp [results, Tryz.results10, go_sem, t0, t1, t2, t3, t4, t5, t6, t7, t8, y0, y1, y2]) rfl ?_
      rw [hm.out]
      refine decode_post HP.out B2.out S2.out ?_
      repeat (first | with_reducible exact Keep.refl _ _ | with_reducible apply Keep.set | exact .inl (.inl rfl) | exact .inl (.inr rfl))
    | ok m q =>
      rw [hx] at h2
      simp only at h2
      obtain ⟨tv, iv, fv, gv, ev, dv, rfl, g1, g2, g3, g4, g5, g6⟩ := h2
      obtain ⟨ta, tc, rfl⟩ := g1.slice
      obtain ⟨ia, ic, rfl⟩ := g2.slice
      obtain ⟨fa, fc, rfl⟩ := g3.slice
      obtain ⟨ga, gc, rfl⟩ := g4.slice
      obtain ⟨ea, ec, rfl⟩ := g5.slice
      obtain ⟨da, dc, rfl⟩ := g6.slice
      have HX := Lib.hid hx
      clear hx g1 g2 g3 g4 g5 g6
      go_wp2
      refine bodyPost_ret (v := .tuple #[.agg #[.slice ta m.types.length tc, .slice ia m.imports.length ic, .slice fa m.funcs.length fc, .int .i64 m.pages, .int .i64 m.most, .slice ga m.globals.length gc, .slice ea m.exports.length ec, .int .i64 m.start, .slice da m.datas.length dc], .agg #[.int .i64 0, .int .i64 0, .int .i64 0]]) (by simp [results, Tryz.results10, go_sem, t0, t1, t2, t3, t4, t5, t6, t7, t8, y0, y1, y2]) rfl ?_
      rw [hm.out]
      refine decode_post HP.out B2.out S2.out ?_
      repeat (first | with_reducible exact Keep.refl _ _ | with_reducible apply Keep.set | exact .inl (.inl rfl) | exact .inl (.inr rfl))
end Go.Proofs.YtgcmdnkmnghhaaaGreatDoor.wm

/- Modules of types alone: few, the same. Printed by gen_few.py. -/
set_option linter.unusedVariables false
set_option linter.unusedSimpArgs false
namespace Go.Proofs.YtgcmdnkmnghhaaaGreatDoor.wm
open Go.RowKit Go.Proofs.YtgcmdnkmnghhaaaGreatDoor.lb

theorem VR.sv {w0 w : World} {lv : Value} {l : List GSig} {ao : Option Addr} {n cap : Nat} (h : VR 2 gSig 0 w0 (.slice ao n cap) l) (hs : ∀ s ∈ l, s.ins.length ≤ 4096 ∧ s.outs.length ≤ 4096) (hb : Below w0.heap.size w0 w) {i : Nat} (hi : i < l.length) :
    ∃ b off c0 c1, ao = some ⟨b, off, none⟩ ∧ w.cell? ⟨b, off + i * 2, none⟩ = some c0 ∧ w.cell? ⟨b, off + i * 2 + 1, none⟩ = some c1 ∧ SV w c0 c1 l[i] := by
  obtain ⟨b, off, cs, rfl, hcl, hcc, hch⟩ := h.get hi
  obtain ⟨t0, t1, rfl⟩ := list_two hcl
  have hI := (Gh.all_cons rfl).1 hch
  have hO := (Gh.all_cons rfl).1 hI.2
  have := hs _ (List.getElem_mem hi)
  refine ⟨b, off, t0, t1, rfl, cell_below hb (hcc 0 _ rfl), cell_below hb (hcc 1 _ rfl), ?_⟩
  exact SV.lift (w := w0) ⟨ints_rd .i64 hI.1, ints_rd .i64 hO.1, by omega⟩ hb

set_option maxRecDepth 100000 in
set_option maxHeartbeats 1000000 in
theorem equal_sigs (v1 v2 : Value) (l1 l2 : List GSig) (w : World) (h1 : VR 2 gSig 0 w v1 l1) (h2 : VR 2 gSig 0 w v2 l2) (hs1 : ∀ s ∈ l1, s.ins.length ≤ 4096 ∧ s.outs.length ≤ 4096) (hs2 : ∀ s ∈ l2, s.ins.length ≤ 4096 ∧ s.outs.length ≤ 4096) (hl : l1.length ≤ 1048576) (he : l1 = l2) :
    Calls Tryz.prog 97 #[v1, v2, .func (.func 98) #[] #[]] w fun e w' => e = .returned (.bool true) ∧ Below w.heap.size w w' := by
  subst he
  obtain ⟨a1, k1, rfl⟩ := h1.slice
  obtain ⟨a2, k2, rfl⟩ := h2.slice
  have hne : ((l1.length : Int) != (l1.length : Int)) = false := by rw [bne_eq_false_iff_eq]
  have H1 := Lib.hid (fun (w' : World) (hb : Below w.heap.size w w') i (hi : i < l1.length) => VR.sv (lv := .slice a1 l1.length k1) h1 hs1 hb hi)
  have H2 := Lib.hid (fun (w' : World) (hb : Below w.heap.size w w') i (hi : i < l1.length) => VR.sv (lv := .slice a1 l1.length k1) h2 hs2 hb hi)
  have HC1 := Lib.hid h1.length.2
  have HC2 := Lib.hid h2.length.2
  clear h1 h2 hs1 hs2
  go_enter Tryz.func97, Tryz.ntmps97
  go_wp2
  go_loopw [17] (fun y wr => ∃ i : Nat, y = .int .i64 i ∧ i ≤ l1.length ∧ Hid (Below w.heap.size w wr)) (fun y _ => l1.length - (intOf y).toNat)
  case atStart => exact ⟨0, rfl, Nat.zero_le _, Below.refl _ _⟩
  case round =>
    obtain ⟨i, rfl, hi, HB⟩ := hrel
    by_cases hlt : i < l1.length
    · obtain ⟨b1, o1, c0, c1, rfl, m0, m1, sv1⟩ := H1.out wr HB.out i hlt
      obtain ⟨b2, o2, d0, d1, rfl, n0, n1, sv2⟩ := H2.out wr HB.out i hlt
      obtain ⟨x0, y0, rfl, _⟩ := id sv1.ins
      obtain ⟨x1, y1, rfl, _⟩ := id sv1.outs
      obtain ⟨x2, y2, rfl, _⟩ := id sv2.ins
      obtain ⟨x3, y3, rfl, _⟩ := id sv2.outs
      have hilt : (i : Int) < l1.length := by omega
      have hi0 : (0 : Int) ≤ (i : Int) := Int.natCast_nonneg _
      have hcap1 := HC1.out
      have hcap2 := HC2.out
      have bA := made1 wr (.cells #[.slice x0 l1[i].ins.length y0, .slice x1 l1[i].outs.length y1] 42)
      have p0 := cell_below bA n0
      have p1 := cell_below bA n1
      have bB := bnextA bA (.cells #[.slice x2 l1[i].ins.length y2, .slice x3 l1[i].outs.length y3] 42)
      have HE := sameSig_any _ _ _ _ l1[i] l1[i] _ (sv1.lift bB) (sv2.lift bB)
      rw [decide_eq_true rfl] at HE
      have HE := Lib.hid HE
      have HBB := Lib.hid (HB.out.trans (bB.mono HB.out.size))
      clear sv1 sv2 bA bB n0 n1
      go_wp2_with fail
      refine HE.out.mono ?_
      rintro en w2 ⟨rfl, b2'⟩
      have HB3 := Lib.hid (HBB.out.trans (b2'.mono HBB.out.size))
      clear b2' m0 m1 p0 p1
      go_wp2
      go_roundw
      case rel => exact ⟨i + 1, by go_num, by omega, HB3.out⟩
      case measure => simp [intOf]; omega
    · have hnl : ¬ (i : Int) < l1.length := by omega
      go_wp2
      go_ret
      exact ⟨rfl, HB.out⟩

theorem equal_no_imports (a1 a2 : Option Addr) (c1 c2 : Nat) (w : World) : Calls Tryz.prog 99 #[.slice a1 0 c1, .slice a2 0 c2] w fun e w' => e = .returned (.bool true) ∧ w = w' := by
  go_enter Tryz.func99, Tryz.ntmps99
  go_wp2
  go_loopw [13] (fun y wr => y = .int .i64 0 ∧ wr = w) (fun _ _ => 0)
  case atStart => exact ⟨rfl, rfl⟩
  case round =>
    obtain ⟨rfl, rfl⟩ := hrel
    go_wp2
    go_ret
    exact ⟨rfl, rfl⟩

theorem equal_no_globals (a1 a2 : Option Addr) (c1 c2 : Nat) (w : World) : Calls Tryz.prog 102 #[.slice a1 0 c1, .slice a2 0 c2] w fun e w' => e = .returned (.bool true) ∧ w = w' := by
  go_enter Tryz.func102, Tryz.ntmps102
  go_wp2
  go_loopw [13] (fun y wr => y = .int .i64 0 ∧ wr = w) (fun _ _ => 0)
  case atStart => exact ⟨rfl, rfl⟩
  case round =>
    obtain ⟨rfl, rfl⟩ := hrel
    go_wp2
    go_ret
    exact ⟨rfl, rfl⟩

theorem equal_no_exports (a1 a2 : Option Addr) (c1 c2 : Nat) (w : World) : Calls Tryz.prog 103 #[.slice a1 0 c1, .slice a2 0 c2] w fun e w' => e = .returned (.bool true) ∧ w = w' := by
  go_enter Tryz.func103, Tryz.ntmps103
  go_wp2
  go_loopw [13] (fun y wr => y = .int .i64 0 ∧ wr = w) (fun _ _ => 0)
  case atStart => exact ⟨rfl, rfl⟩
  case round =>
    obtain ⟨rfl, rfl⟩ := hrel
    go_wp2
    go_ret
    exact ⟨rfl, rfl⟩

theorem equal_no_funcs (a1 a2 : Option Addr) (c1 c2 : Nat) (f : Value) (w : World) : Calls Tryz.prog 100 #[.slice a1 0 c1, .slice a2 0 c2, f] w fun e w' => e = .returned (.bool true) ∧ w = w' := by
  go_enter Tryz.func100, Tryz.ntmps100
  go_wp2
  go_loopw [17] (fun y wr => y = .int .i64 0 ∧ wr = w) (fun _ _ => 0)
  case atStart => exact ⟨rfl, rfl⟩
  case round =>
    obtain ⟨rfl, rfl⟩ := hrel
    go_wp2
    go_ret
    exact ⟨rfl, rfl⟩

theorem equal_no_datas (a1 a2 : Option Addr) (c1 c2 : Nat) (f : Value) (w : World) : Calls Tryz.prog 104 #[.slice a1 0 c1, .slice a2 0 c2, f] w fun e w' => e = .returned (.bool true) ∧ w = w' := by
  go_enter Tryz.func104, Tryz.ntmps104
  go_wp2
  go_loopw [17] (fun y wr => y = .int .i64 0 ∧ wr = w) (fun _ _ => 0)
  case atStart => exact ⟨rfl, rfl⟩
  case round =>
    obtain ⟨rfl, rfl⟩ := hrel
    go_wp2
    go_ret
    exact ⟨rfl, rfl⟩

/-- a module of types alone, as a value -/
structure TV (w : World) (mv : Value) (types : List GSig) (pages most start : Int) : Prop where
  val : ∃ ta tc ia ic fa fc ga gc ea ec da dc, mv = .agg #[.slice ta types.length tc, .slice ia 0 ic, .slice fa 0 fc, .int .i64 pages, .int .i64 most, .slice ga 0 gc, .slice ea 0 ec, .int .i64 start, .slice da 0 dc] ∧ VR 2 gSig 0 w (.slice ta types.length tc) types
  few : types.length ≤ 64
  lens : ∀ s ∈ types, s.ins.length ≤ 4096 ∧ s.outs.length ≤ 4096
theorem TV.lift {w w' : World} {mv : Value} {types : List GSig} {pages most start : Int} (h : TV w mv types pages most start) (hb : Below w.heap.size w w') : TV w' mv types pages most start := by
  obtain ⟨⟨ta, tc, ia, ic, fa, fc, ga, gc, ea, ec, da, dc, e, hv⟩, h2, h3⟩ := h
  exact ⟨⟨ta, tc, ia, ic, fa, fc, ga, gc, ea, ec, da, dc, e, Gh.is.keep hv (Nat.le_refl _) (Same.of hb)⟩, h2, h3⟩

set_option maxRecDepth 100000 in
theorem fewOfSig_any (c0 c1 : Value) (s : GSig) (w : World) (h : SV w c0 c1 s) (hl : s.ins.length ≤ 4096 ∧ s.outs.length ≤ 4096) :
    Calls Tryz.prog 110 #[.agg #[c0, c1]] w fun e w' => e = .returned (.bool true) ∧ Below w.heap.size w w' := by
  obtain ⟨a0, n0, rfl, _⟩ := id h.ins
  obtain ⟨a1, n1, rfl, _⟩ := id h.outs
  have h1 : (s.ins.length : Int) ≤ 4096 := by omega
  have h2 : (s.outs.length : Int) ≤ 4096 := by omega
  have B := Lib.hid (made1 w (.cells #[.slice a0 s.ins.length n0, .slice a1 s.outs.length n1] 42))
  clear h hl
  go_enter Tryz.func110, Tryz.ntmps110
  go_wp2
  go_ret
  exact ⟨rfl, B.out⟩

section
variable {w : World} {mv : Value} {types : List GSig} {pages most start : Int}
set_option maxRecDepth 100000 in
set_option maxHeartbeats 1000000 in
theorem fewTexts_any (h : TV w mv types pages most start) :
    Calls Tryz.prog 50 #[mv] w fun e w' => e = .returned (.bool true) ∧ Below w.heap.size w w' := by
  obtain ⟨ta, tc, ia, ic, fa, fc, ga, gc, ea, ec, da, dc, rfl, _⟩ := h.val
  have B := Lib.hid (made1 w (.cells #[.slice ta types.length tc, .slice ia 0 ic, .slice fa 0 fc, .int .i64 pages, .int .i64 most, .slice ga 0 gc, .slice ea 0 ec, .int .i64 start, .slice da 0 dc] 30))
  clear h
  go_enter Tryz.func50, Tryz.ntmps50
  go_wp2
  go_loopw [10] (fun y wr => y = .int .i64 0 ∧ wr = w.alloc (.cells #[.slice ta types.length tc, .slice ia 0 ic, .slice fa 0 fc, .int .i64 pages, .int .i64 most, .slice ga 0 gc, .slice ea 0 ec, .int .i64 start, .slice da 0 dc] 30)) (fun _ _ => 0)
  case atStart => exact ⟨rfl, rfl⟩
  case round =>
    obtain ⟨rfl, rfl⟩ := hrel
    go_wp2
    go_loopw [28] (fun y wr => y = .int .i64 0 ∧ wr = w.alloc (.cells #[.slice ta types.length tc, .slice ia 0 ic, .slice fa 0 fc, .int .i64 pages, .int .i64 most, .slice ga 0 gc, .slice ea 0 ec, .int .i64 start, .slice da 0 dc] 30)) (fun _ _ => 0)
    case atStart => exact ⟨rfl, rfl⟩
    case round =>
      obtain ⟨rfl, rfl⟩ := hrel
      go_wp2
      go_ret
      exact ⟨rfl, B.out⟩

set_option maxRecDepth 100000 in
set_option maxHeartbeats 1000000 in
theorem fewElements_any (h : TV w mv types pages most start) :
    Calls Tryz.prog 51 #[mv] w fun e w' => e = .returned (.bool true) ∧ Below w.heap.size w w' := by
  have hfew := h.few
  have hlens := h.lens
  obtain ⟨ta, tc, ia, ic, fa, fc, ga, gc, ea, ec, da, dc, rfl, hv⟩ := h.val
  have B0 := made1 w (.cells #[.slice ta types.length tc, .slice ia 0 ic, .slice fa 0 fc, .int .i64 pages, .int .i64 most, .slice ga 0 gc, .slice ea 0 ec, .int .i64 start, .slice da 0 dc] 30)
  have HM := Lib.hid (Blk.new 30 w #[.slice ta types.length tc, .slice ia 0 ic, .slice fa 0 fc, .int .i64 pages, .int .i64 most, .slice ga 0 gc, .slice ea 0 ec, .int .i64 start, .slice da 0 dc])
  have HV := Lib.hid (fun (w' : World) (hb : Below w.heap.size w w') i (hi : i < types.length) => VR.sv (lv := .slice ta types.length tc) hv hlens hb hi)
  have HCap := Lib.hid hv.length.2
  have HL := Lib.hid hlens
  have HB0 := Lib.hid B0
  clear h hv hlens B0
  go_enter Tryz.func51, Tryz.ntmps51
  go_wp2
  go_loopw [13] (fun y wr => ∃ i : Nat, y = .int .i64 i ∧ i ≤ types.length ∧ Hid (Below (w.heap.size + 1) (w.alloc (.cells #[.slice ta types.length tc, .slice ia 0 ic, .slice fa 0 fc, .int .i64 pages, .int .i64 most, .slice ga 0 gc, .slice ea 0 ec, .int .i64 start, .slice da 0 dc] 30)) wr)) (fun y _ => types.length - (intOf y).toNat)
  case atStart => exact ⟨0, rfl, Nat.zero_le _, Below.refl _ _⟩
  case round =>
    obtain ⟨i, rfl, hi, HB⟩ := hrel
    have HBw := Lib.hid (HB0.out.trans (HB.out.mono (by omega)))
    have hsz : w.heap.size + 1 ≤ wr.heap.size := by have := HB.out.size; simpa [go_sem] using this
    by_cases hlt : i < types.length
    · obtain ⟨b1, o1, c0, c1, rfl, m0, m1, sv1⟩ := HV.out wr HBw.out i hlt
      have hle := HL.out _ (List.getElem_mem hlt)
      obtain ⟨x0, y0, rfl, _⟩ := id sv1.ins
      obtain ⟨x1, y1, rfl, _⟩ := id sv1.outs
      have hilt : (i : Int) < types.length := by omega
      have hcap := HCap.out
      have bA := made1 wr (.cells #[.slice x0 types[i].ins.length y0, .slice x1 types[i].outs.length y1] 42)
      have HK := Lib.hid (fewOfSig_any _ _ types[i] _ (sv1.lift bA) hle)
      have HA := Lib.hid bA
      clear sv1 bA hle
      go_wp2_with fail
      refine HK.out.mono ?_
      rintro en w2 ⟨rfl, b2⟩
      have HB3 := Lib.hid (HB.out.trans ((HA.out.trans (b2.mono HA.out.size)).mono hsz))
      clear b2 m0 m1
      go_wp2
      go_roundw
      case rel => exact ⟨i + 1, by go_num, by omega, HB3.out⟩
      case measure => simp [intOf]; omega
    · have hnl : ¬ (i : Int) < types.length := by omega
      have q8 := (HM.out.under HB.out (by omega)).c 8 rfl
      have q2 := (HM.out.under HB.out (by omega)).c 2 rfl
      clear HV HL
      go_wp2
      obtain ⟨wo, hwo⟩ : ∃ wo : World, wo = wr := ⟨_, rfl⟩
      subst hwo
      go_loopw [24] (fun y w1 => y = .int .i64 0 ∧ w1 = wo) (fun _ _ => 0)
      case atStart => exact ⟨rfl, rfl⟩
      case round =>
        obtain ⟨rfl, rfl⟩ := hrel
        go_wp2
        obtain ⟨wp, hwp⟩ : ∃ wp : World, wp = wr := ⟨_, rfl⟩
        subst hwp
        go_loopw [36] (fun y w1 => y = .int .i64 0 ∧ w1 = wp) (fun _ _ => 0)
        case atStart => exact ⟨rfl, rfl⟩
        case round =>
          obtain ⟨rfl, rfl⟩ := hrel
          go_wp2
          go_ret
          exact ⟨rfl, HBw.out⟩

set_option maxRecDepth 100000 in
set_option maxHeartbeats 1000000 in
theorem few_any (h : TV w mv types pages most start) :
    Calls Tryz.prog 29 #[mv] w fun e w' => e = .returned (.bool true) ∧ Below w.heap.size w w' := by
  have hfew : (types.length : Int) ≤ 64 := by have := h.few; omega
  have HV := Lib.hid h
  obtain ⟨ta, tc, ia, ic, fa, fc, ga, gc, ea, ec, da, dc, rfl, _⟩ := h.val
  have B0 := made1 w (.cells #[.slice ta types.length tc, .slice ia 0 ic, .slice fa 0 fc, .int .i64 pages, .int .i64 most, .slice ga 0 gc, .slice ea 0 ec, .int .i64 start, .slice da 0 dc] 30)
  have HM := Lib.hid (Blk.new 30 w #[.slice ta types.length tc, .slice ia 0 ic, .slice fa 0 fc, .int .i64 pages, .int .i64 most, .slice ga 0 gc, .slice ea 0 ec, .int .i64 start, .slice da 0 dc])
  have HT := Lib.hid (fewTexts_any (h.lift B0))
  have HB0 := Lib.hid B0
  clear h B0
  go_enter Tryz.func29, Tryz.ntmps29
  go_wp2_with fail
  refine HT.out.mono ?_
  rintro en w1 ⟨rfl, b1⟩
  have hm := HM.out.below b1
  have q0 := hm.c 0 rfl
  have q1 := hm.c 1 rfl
  have q2 := hm.c 2 rfl
  have q3 := hm.c 3 rfl
  have q4 := hm.c 4 rfl
  have q5 := hm.c 5 rfl
  have q6 := hm.c 6 rfl
  have q7 := hm.c 7 rfl
  have q8 := hm.c 8 rfl
  have hb1 := HB0.out.trans (b1.mono HB0.out.size)
  have HE := Lib.hid (fewElements_any (HV.out.lift hb1))
  have HB1 := Lib.hid hb1
  clear hm b1 hb1
  go_wp2_with fail
  refine HE.out.mono ?_
  rintro en w2 ⟨rfl, b2⟩
  have HB2 := Lib.hid (HB1.out.trans (b2.mono HB1.out.size))
  clear b2 q0 q1 q2 q3 q4 q5 q6 q7 q8
  go_wp2
  go_ret
  exact ⟨rfl, HB2.out⟩
end
end Go.Proofs.YtgcmdnkmnghhaaaGreatDoor.wm

/- Modules of types alone: held against each other, written. Printed by gen_alive.py. -/
set_option linter.unusedVariables false
set_option linter.unusedSimpArgs false
namespace Go.Proofs.YtgcmdnkmnghhaaaGreatDoor.wm
open Go.RowKit Go.Proofs.YtgcmdnkmnghhaaaGreatDoor.lb
section
variable {w : World} {mv nv : Value} {types : List GSig} {pages most start : Int}
set_option maxRecDepth 100000 in
set_option maxHeartbeats 1000000 in
theorem same_t (h : TV w mv types pages most start) (k : TV w nv types pages most start) :
    Calls Tryz.prog 45 #[mv, nv] w fun e w' => e = .returned (.bool true) ∧ Below w.heap.size w w' := by
  have hl := h.lens
  have hfew := h.few
  obtain ⟨ta, tc, ia, ic, fa, fc, ga, gc, ea, ec, da, dc, rfl, hv⟩ := h.val
  obtain ⟨ta2, tc2, ia2, ic2, fa2, fc2, ga2, gc2, ea2, ec2, da2, dc2, rfl, hv2⟩ := k.val
  have B2 := made2 w (.cells #[.slice ta types.length tc, .slice ia 0 ic, .slice fa 0 fc, .int .i64 pages, .int .i64 most, .slice ga 0 gc, .slice ea 0 ec, .int .i64 start, .slice da 0 dc] 30) (.cells #[.slice ta2 types.length tc2, .slice ia2 0 ic2, .slice fa2 0 fc2, .int .i64 pages, .int .i64 most, .slice ga2 0 gc2, .slice ea2 0 ec2, .int .i64 start, .slice da2 0 dc2] 30)
  have h1 := Blk.new 30 w #[.slice ta types.length tc, .slice ia 0 ic, .slice fa 0 fc, .int .i64 pages, .int .i64 most, .slice ga 0 gc, .slice ea 0 ec, .int .i64 start, .slice da 0 dc]
  have h2 := Blk.new 30 (w.alloc (.cells #[.slice ta types.length tc, .slice ia 0 ic, .slice fa 0 fc, .int .i64 pages, .int .i64 most, .slice ga 0 gc, .slice ea 0 ec, .int .i64 start, .slice da 0 dc] 30)) #[.slice ta2 types.length tc2, .slice ia2 0 ic2, .slice fa2 0 fc2, .int .i64 pages, .int .i64 most, .slice ga2 0 gc2, .slice ea2 0 ec2, .int .i64 start, .slice da2 0 dc2]
  rw [show (w.alloc (.cells #[.slice ta types.length tc, .slice ia 0 ic, .slice fa 0 fc, .int .i64 pages, .int .i64 most, .slice ga 0 gc, .slice ea 0 ec, .int .i64 start, .slice da 0 dc] 30)).heap.size = w.heap.size + 1 by simp [go_sem]] at h2
  have h1 := h1.below (made1 _ (.cells #[.slice ta2 types.length tc2, .slice ia2 0 ic2, .slice fa2 0 fc2, .int .i64 pages, .int .i64 most, .slice ga2 0 gc2, .slice ea2 0 ec2, .int .i64 start, .slice da2 0 dc2] 30))
  have HE := Lib.hid (equal_sigs _ _ types types _ (Gh.is.keep hv (Nat.le_refl _) (Same.of B2)) (Gh.is.keep hv2 (Nat.le_refl _) (Same.of B2)) hl hl (by omega) rfl)
  have HB := Lib.hid B2
  have H1 := Lib.hid h1
  have H2 := Lib.hid h2
  have ep : (pages == pages) = true := by simp
  have em : (most == most) = true := by simp
  have es : (start == start) = true := by simp
  clear h k hv hv2 B2 h1 h2 hl
  go_enter Tryz.func45, Tryz.ntmps45
  go_wp2_with fail
  refine HE.out.mono ?_
  rintro en w1 ⟨rfl, b1⟩
  have k1 := H1.out.below b1
  have k2 := H2.out.below b1
  have q0 := k1.c 0 rfl
  have q1 := k1.c 1 rfl
  have q2 := k1.c 2 rfl
  have q3 := k1.c 3 rfl
  have q4 := k1.c 4 rfl
  have q5 := k1.c 5 rfl
  have q6 := k1.c 6 rfl
  have q7 := k1.c 7 rfl
  have q8 := k1.c 8 rfl
  have r0 := k2.c 0 rfl
  have r1 := k2.c 1 rfl
  have r2 := k2.c 2 rfl
  have r3 := k2.c 3 rfl
  have r4 := k2.c 4 rfl
  have r5 := k2.c 5 rfl
  have r6 := k2.c 6 rfl
  have r7 := k2.c 7 rfl
  have r8 := k2.c 8 rfl
  have HB1 := Lib.hid (HB.out.trans (b1.mono HB.out.size))
  clear b1 k1 k2
  go_wp2_with (first
    | (go_at_call 99; refine (equal_no_imports _ _ _ _ _).mono ?_; rintro e w' ⟨rfl, rfl⟩)
    | (go_at_call 102; refine (equal_no_globals _ _ _ _ _).mono ?_; rintro e w' ⟨rfl, rfl⟩)
    | (go_at_call 103; refine (equal_no_exports _ _ _ _ _).mono ?_; rintro e w' ⟨rfl, rfl⟩)
    | (go_at_call 100; refine (equal_no_funcs _ _ _ _ _ _).mono ?_; rintro e w' ⟨rfl, rfl⟩)
    | (go_at_call 104; refine (equal_no_datas _ _ _ _ _ _).mono ?_; rintro e w' ⟨rfl, rfl⟩))
  go_ret
  exact ⟨rfl, HB1.out⟩

set_option maxRecDepth 100000 in
set_option maxHeartbeats 1000000 in
theorem Same_t (h : TV w mv types pages most start) (k : TV w nv types pages most start) :
    Calls Tryz.prog 27 #[mv, nv] w fun e w' => e = .returned (.bool true) ∧ Below w.heap.size w w' := by
  have HH := Lib.hid h
  have HK := Lib.hid k
  obtain ⟨ta, tc, ia, ic, fa, fc, ga, gc, ea, ec, da, dc, rfl, _⟩ := h.val
  obtain ⟨ta2, tc2, ia2, ic2, fa2, fc2, ga2, gc2, ea2, ec2, da2, dc2, rfl, _⟩ := k.val
  have B2 := made2 w (.cells #[.slice ta types.length tc, .slice ia 0 ic, .slice fa 0 fc, .int .i64 pages, .int .i64 most, .slice ga 0 gc, .slice ea 0 ec, .int .i64 start, .slice da 0 dc] 30) (.cells #[.slice ta2 types.length tc2, .slice ia2 0 ic2, .slice fa2 0 fc2, .int .i64 pages, .int .i64 most, .slice ga2 0 gc2, .slice ea2 0 ec2, .int .i64 start, .slice da2 0 dc2] 30)
  have h1 := Blk.new 30 w #[.slice ta types.length tc, .slice ia 0 ic, .slice fa 0 fc, .int .i64 pages, .int .i64 most, .slice ga 0 gc, .slice ea 0 ec, .int .i64 start, .slice da 0 dc]
  have h2 := Blk.new 30 (w.alloc (.cells #[.slice ta types.length tc, .slice ia 0 ic, .slice fa 0 fc, .int .i64 pages, .int .i64 most, .slice ga 0 gc, .slice ea 0 ec, .int .i64 start, .slice da 0 dc] 30)) #[.slice ta2 types.length tc2, .slice ia2 0 ic2, .slice fa2 0 fc2, .int .i64 pages, .int .i64 most, .slice ga2 0 gc2, .slice ea2 0 ec2, .int .i64 start, .slice da2 0 dc2]
  rw [show (w.alloc (.cells #[.slice ta types.length tc, .slice ia 0 ic, .slice fa 0 fc, .int .i64 pages, .int .i64 most, .slice ga 0 gc, .slice ea 0 ec, .int .i64 start, .slice da 0 dc] 30)).heap.size = w.heap.size + 1 by simp [go_sem]] at h2
  have h1 := h1.below (made1 _ (.cells #[.slice ta2 types.length tc2, .slice ia2 0 ic2, .slice fa2 0 fc2, .int .i64 pages, .int .i64 most, .slice ga2 0 gc2, .slice ea2 0 ec2, .int .i64 start, .slice da2 0 dc2] 30))
  have HF := Lib.hid (few_any (h.lift B2))
  have HB := Lib.hid B2
  have H1 := Lib.hid h1
  have H2 := Lib.hid h2
  clear h k B2 h1 h2
  go_enter Tryz.func27, Tryz.ntmps27
  go_wp2_with fail
  refine HF.out.mono ?_
  rintro en w1 ⟨rfl, b1⟩
  have k1 := Lib.hid (H1.out.below b1)
  have k2 := Lib.hid (H2.out.below b1)
  have k2o := k2.out
  have r0 := k2o.c 0 rfl
  have r1 := k2o.c 1 rfl
  have r2 := k2o.c 2 rfl
  have r3 := k2o.c 3 rfl
  have r4 := k2o.c 4 rfl
  have r5 := k2o.c 5 rfl
  have r6 := k2o.c 6 rfl
  have r7 := k2o.c 7 rfl
  have r8 := k2o.c 8 rfl
  have hb1 := HB.out.trans (b1.mono HB.out.size)
  have HF2 := Lib.hid (few_any (HK.out.lift hb1))
  have HB1 := Lib.hid hb1
  clear b1 hb1 k2o
  go_wp2_with fail
  refine HF2.out.mono ?_
  rintro en w2 ⟨rfl, b2⟩
  clear r0 r1 r2 r3 r4 r5 r6 r7 r8
  have k1o := k1.out.below b2
  have k2o := k2.out.below b2
  have q0 := k1o.c 0 rfl
  have q1 := k1o.c 1 rfl
  have q2 := k1o.c 2 rfl
  have q3 := k1o.c 3 rfl
  have q4 := k1o.c 4 rfl
  have q5 := k1o.c 5 rfl
  have q6 := k1o.c 6 rfl
  have q7 := k1o.c 7 rfl
  have q8 := k1o.c 8 rfl
  have r0 := k2o.c 0 rfl
  have r1 := k2o.c 1 rfl
  have r2 := k2o.c 2 rfl
  have r3 := k2o.c 3 rfl
  have r4 := k2o.c 4 rfl
  have r5 := k2o.c 5 rfl
  have r6 := k2o.c 6 rfl
  have r7 := k2o.c 7 rfl
  have r8 := k2o.c 8 rfl
  have hb2 := HB1.out.trans (b2.mono HB1.out.size)
  have HS := Lib.hid (same_t (HH.out.lift hb2) (HK.out.lift hb2))
  have HB2 := Lib.hid hb2
  clear b2 hb2 k1o k2o
  go_wp2_with fail
  refine HS.out.mono ?_
  rintro en w3 ⟨rfl, b3⟩
  have HB3 := Lib.hid (HB2.out.trans (b3.mono HB2.out.size))
  clear b3
  go_wp2
  go_ret
  exact ⟨rfl, HB3.out⟩

theorem own_magic (w : World) {b : Nat} {cs : Array Value} {fr : Nat × Nat} (hc : cs = (magicL.map (Value.int .u8)).toArray) (h : w.heap[b]? = some (.cells cs 5 fr)) : OwnX w (.slice (some ⟨b, 0, none⟩) 8 8) magicL := by
  subst hc
  refine .inr ⟨b, _, fr, rfl, h, fun k hk => ?_⟩
  rw [cell_of_row _ b k _ 5 fr h, List.getElem?_toArray, List.getElem?_map, List.getElem?_eq_getElem hk, List.getD_eq_getElem?_getD, List.getElem?_eq_getElem hk]
  rfl

set_option maxRecDepth 100000 in
set_option maxHeartbeats 2000000 in
theorem write_t (h : TV w mv types pages most start) (hp : pages < 0) (hs : start < 0) :
    Calls Tryz.prog 44 #[mv] w fun e w' => ∃ v', e = .returned v' ∧ Rd w' v' (sectionL sigL 1 types magicL) ∧ Below w.heap.size w w' := by
  have hl := h.lens
  have hfew := h.few
  obtain ⟨ta, tc, ia, ic, fa, fc, ga, gc, ea, ec, da, dc, rfl, hv⟩ := h.val
  have B1 := made1 w (.cells #[.slice ta types.length tc, .slice ia 0 ic, .slice fa 0 fc, .int .i64 pages, .int .i64 most, .slice ga 0 gc, .slice ea 0 ec, .int .i64 start, .slice da 0 dc] 30)
  have B2 := bnextA B1 (.cells #[.int .u8 0, .int .u8 97, .int .u8 115, .int .u8 109, .int .u8 1, .int .u8 0, .int .u8 0, .int .u8 0] 5 (8, 9))
  have B3 := bnextA B2 (.cells #[.slice (some ⟨w.heap.size + 1, 0, none⟩) 8 8] 119)
  have hM := Blk.new 30 w #[.slice ta types.length tc, .slice ia 0 ic, .slice fa 0 fc, .int .i64 pages, .int .i64 most, .slice ga 0 gc, .slice ea 0 ec, .int .i64 start, .slice da 0 dc]
  have hM3 := (hM.below (made1 _ (.cells #[.int .u8 0, .int .u8 97, .int .u8 115, .int .u8 109, .int .u8 1, .int .u8 0, .int .u8 0, .int .u8 0] 5 (8, 9)))).below (made1 _ (.cells #[.slice (some ⟨w.heap.size + 1, 0, none⟩) 8 8] 119))
  have s1 : (w.alloc (.cells #[.slice ta types.length tc, .slice ia 0 ic, .slice fa 0 fc, .int .i64 pages, .int .i64 most, .slice ga 0 gc, .slice ea 0 ec, .int .i64 start, .slice da 0 dc] 30)).heap.size = w.heap.size + 1 := by simp [go_sem]
  have s2 : ((w.alloc (.cells #[.slice ta types.length tc, .slice ia 0 ic, .slice fa 0 fc, .int .i64 pages, .int .i64 most, .slice ga 0 gc, .slice ea 0 ec, .int .i64 start, .slice da 0 dc] 30)).alloc (.cells #[.int .u8 0, .int .u8 97, .int .u8 115, .int .u8 109, .int .u8 1, .int .u8 0, .int .u8 0, .int .u8 0] 5 (8, 9))).heap.size = w.heap.size + 1 + 1 := by simp [go_sem]
  have hO := heap_alloc_new (w.alloc (.cells #[.slice ta types.length tc, .slice ia 0 ic, .slice fa 0 fc, .int .i64 pages, .int .i64 most, .slice ga 0 gc, .slice ea 0 ec, .int .i64 start, .slice da 0 dc] 30)) (.cells #[.int .u8 0, .int .u8 97, .int .u8 115, .int .u8 109, .int .u8 1, .int .u8 0, .int .u8 0, .int .u8 0] 5 (8, 9))
  rw [s1] at hO
  have hW := Blk.new 119 ((w.alloc (.cells #[.slice ta types.length tc, .slice ia 0 ic, .slice fa 0 fc, .int .i64 pages, .int .i64 most, .slice ga 0 gc, .slice ea 0 ec, .int .i64 start, .slice da 0 dc] 30)).alloc (.cells #[.int .u8 0, .int .u8 97, .int .u8 115, .int .u8 109, .int .u8 1, .int .u8 0, .int .u8 0, .int .u8 0] 5 (8, 9))) #[.slice (some ⟨w.heap.size + 1, 0, none⟩) 8 8]
  rw [s2] at hW
  have hO3 := ((made1 _ (.cells #[.slice (some ⟨w.heap.size + 1, 0, none⟩) 8 8] 119)).block (w.heap.size + 1) (by rw [s2]; omega)).trans hO
  have hwl : Wl w 119 [] (w.heap.size + 1 + 1) (.slice (some ⟨w.heap.size + 1, 0, none⟩) 8 8) magicL _ := ⟨⟨hW, own_magic _ rfl hO3, by decide⟩, B3, fun k hk => by
    rcases hk with rfl | hk
    · omega
    · have : w.heap.size + 1 = k := Option.some.inj hk
      omega⟩
  have HS := Lib.hid (section_sigs hwl 1 (.slice ta types.length tc) types hv (by omega) (fun s hs => by have := hl s hs; omega))
  have HWL := Lib.hid hwl
  have HM := Lib.hid hM3
  have kc : (convert 22 22 (.slice (some ⟨w.heap.size + 1, 0, none⟩) 8 8)).run Tryz.prog ((w.alloc (.cells #[.slice ta types.length tc, .slice ia 0 ic, .slice fa 0 fc, .int .i64 pages, .int .i64 most, .slice ga 0 gc, .slice ea 0 ec, .int .i64 start, .slice da 0 dc] 30)).alloc (.cells #[.int .u8 0, .int .u8 97, .int .u8 115, .int .u8 109, .int .u8 1, .int .u8 0, .int .u8 0, .int .u8 0] 5)) = .ok (.slice (some ⟨w.heap.size + 1, 0, none⟩) 8 8) ((w.alloc (.cells #[.slice ta types.length tc, .slice ia 0 ic, .slice fa 0 fc, .int .i64 pages, .int .i64 most, .slice ga 0 gc, .slice ea 0 ec, .int .i64 start, .slice da 0 dc] 30)).alloc (.cells #[.int .u8 0, .int .u8 97, .int .u8 115, .int .u8 109, .int .u8 1, .int .u8 0, .int .u8 0, .int .u8 0] 5 (8, 9))) := by
    have h := Lib.run_convert_bytes_const (P := Tryz.prog) (w.alloc (.cells #[.slice ta types.length tc, .slice ia 0 ic, .slice fa 0 fc, .int .i64 pages, .int .i64 most, .slice ga 0 gc, .slice ea 0 ec, .int .i64 start, .slice da 0 dc] 30)) 22 5 #[.int .u8 0, .int .u8 97, .int .u8 115, .int .u8 109, .int .u8 1, .int .u8 0, .int .u8 0, .int .u8 0] 8 8 Tryz.underlying22 Tryz.underlying5
    rw [s1] at h; exact h
  clear h hv hl B1 B2 B3 hM hM3 hO hO3 hW hwl s1 s2
  have hp' : ¬ (0 ≤ pages) := by omega
  have hs' : ¬ (0 ≤ start) := by omega
  clear hp hs
  go_enter Tryz.func44, Tryz.ntmps44
  go_wp2_with fail
  refine HS.out.mono ?_
  rintro en w1 ⟨rfl, vx, hx, kx, ax⟩
  have hm1 := HM.out.keep kx (fun e => by
    rcases e with e | e
    · omega
    · have : w.heap.size + 1 = w.heap.size := Option.some.inj e
      omega)
  have q0 := hm1.c 0 rfl
  have q1 := hm1.c 1 rfl
  have q2 := hm1.c 2 rfl
  have q3 := hm1.c 3 rfl
  have q4 := hm1.c 4 rfl
  have q5 := hm1.c 5 rfl
  have q6 := hm1.c 6 rfl
  have q7 := hm1.c 7 rfl
  have q8 := hm1.c 8 rfl
  have HM1 := Lib.hid hm1
  obtain ⟨xa, xc, rfl⟩ := hx.wr.slice
  have x0 := hx.wr.c0
  have HX := Lib.hid hx
  generalize (sectionL sigL 1 types magicL).length = ln at *
  clear hx kx ax hm1
  go_wp2_with (first
    | (go_at_call 81; refine (section_no_imports _ _ _ _ _ _).mono ?_; rintro e w' ⟨rfl, rfl⟩)
    | (go_at_call 87; refine (section_no_globals _ _ _ _ _ _).mono ?_; rintro e w' ⟨rfl, rfl⟩)
    | (go_at_call 89; refine (section_no_exports _ _ _ _ _ _).mono ?_; rintro e w' ⟨rfl, rfl⟩)
    | (go_at_call 83; refine (section_no_funcs _ _ _ _ _ _).mono ?_; rintro e w' ⟨rfl, rfl⟩))
  go_region_held3 (fun y => y.cell? ⟨w.heap.size, 2, none⟩ = some (.slice fa 0 fc) ∧ y.cell? ⟨w.heap.size, 0, none⟩ = some (.slice ta types.length tc))
    (go_keep)
    (first
      | (go_at_call 94; refine (bodies_any _ _ _ _).mono ?_; rintro e w' ⟨rfl, rfl⟩)
      | (go_at_call 83; refine (section_no_funcs _ _ _ _ _ _).mono ?_; rintro e w' ⟨rfl, rfl⟩))
  have b1 := made1 w1 (.cells #[.slice ta types.length tc] 23)
  have b2 : Below w1.heap.size w1 (w1.alloc (.cells #[.slice ta types.length tc] 23)).drew := b1.trans ((Below.refl _ _).drew)
  have e8 := (HM1.out.below b2).c 8 rfl
  have HX2 := Lib.hid (HX.out.below b2)
  have e0 := HX2.out.wr.c0
  clear b1 b2 HX HM1
  go_wp2_with (go_at_call 95; refine (section_no_datas _ _ _ _ _ _).mono ?_; rintro e w' ⟨rfl, rfl⟩)
  go_ret
  exact ⟨_, rfl, HX2.out.wr.own.rd, HX2.out.low⟩
end
end Go.Proofs.YtgcmdnkmnghhaaaGreatDoor.wm

/- A module of one type is read, written, and read again: the laws' own probe. Printed by gen_alive2.py. -/
set_option linter.unusedVariables false
set_option linter.unusedSimpArgs false
namespace Go.Proofs.YtgcmdnkmnghhaaaGreatDoor.wm
open Go.RowKit Go.Proofs.YtgcmdnkmnghhaaaGreatDoor.lb
def typesA : List GSig := [⟨[127], []⟩]
theorem decodeA : decodeM bytesA = .ok modA 15 := by rfl
theorem bytesA_sec : sectionL sigL 1 typesA magicL = bytesA := by decide +kernel
theorem read_A {w0 w' : World} {en : Ending} (h : ReadPost w0 (decodeM bytesA) en w') : ∃ ta tc ia ic fa fc ga gc ea ec da dc, en = .returned (.tuple #[.agg #[.slice ta 1 tc, .slice ia 0 ic, .slice fa 0 fc, .int .i64 (-1), .int .i64 0, .slice ga 0 gc, .slice ea 0 ec, .int .i64 (-1), .slice da 0 dc], .agg #[.int .i64 0, .int .i64 0, .int .i64 0]]) ∧ TV w' (.agg #[.slice ta 1 tc, .slice ia 0 ic, .slice fa 0 fc, .int .i64 (-1), .int .i64 0, .slice ga 0 gc, .slice ea 0 ec, .int .i64 (-1), .slice da 0 dc]) typesA (-1) 0 (-1) ∧ Below w0.heap.size w0 w' := by
  rw [decodeA] at h
  obtain ⟨b, tv, iv, fv, gv, ev, dv, he, g1, g2, g3, g4, g5, g6⟩ := h
  obtain ⟨ta, tc, rfl⟩ := g1.slice
  obtain ⟨ia, ic, rfl⟩ := g2.slice
  obtain ⟨fa, fc, rfl⟩ := g3.slice
  obtain ⟨ga, gc, rfl⟩ := g4.slice
  obtain ⟨ea, ec, rfl⟩ := g5.slice
  obtain ⟨da, dc, rfl⟩ := g6.slice
  exact ⟨ta, tc, ia, ic, fa, fc, ga, gc, ea, ec, da, dc, he, ⟨⟨ta, tc, ia, ic, fa, fc, ga, gc, ea, ec, da, dc, rfl, g1.vr (fun _ _ => Nat.zero_le _)⟩, by decide, by decide⟩, b⟩

set_option maxRecDepth 100000 in
set_option maxHeartbeats 2000000 in
theorem encode_A {w : World} {ta ia fa ga ea da : Option Addr} {tc ic fc gc ec dc : Nat} (h : TV w (.agg #[.slice ta 1 tc, .slice ia 0 ic, .slice fa 0 fc, .int .i64 (-1), .int .i64 0, .slice ga 0 gc, .slice ea 0 ec, .int .i64 (-1), .slice da 0 dc]) typesA (-1) 0 (-1)) (hr : nm.Runs w) :
    Calls Tryz.prog 26 #[.agg #[.slice ta 1 tc, .slice ia 0 ic, .slice fa 0 fc, .int .i64 (-1), .int .i64 0, .slice ga 0 gc, .slice ea 0 ec, .int .i64 (-1), .slice da 0 dc]] w fun e w' => ∃ a c, e = .returned (.tuple #[.slice a 15 c, .int .i64 0]) ∧ Rd w' (.slice a 15 c) bytesA ∧ Below w.heap.size w w' := by
  have B1 := made1 w (.cells #[.slice ta 1 tc, .slice ia 0 ic, .slice fa 0 fc, .int .i64 (-1), .int .i64 0, .slice ga 0 gc, .slice ea 0 ec, .int .i64 (-1), .slice da 0 dc] 30)
  have HM := Lib.hid (Blk.new 30 w #[.slice ta 1 tc, .slice ia 0 ic, .slice fa 0 fc, .int .i64 (-1), .int .i64 0, .slice ga 0 gc, .slice ea 0 ec, .int .i64 (-1), .slice da 0 dc])
  have HF := Lib.hid (few_any (h.lift B1))
  have H := Lib.hid h
  have HR := Lib.hid hr
  have HB1 := Lib.hid B1
  clear h hr B1
  go_enter Tryz.func26, Tryz.ntmps26
  go_wp2_with fail
  refine HF.out.mono ?_
  rintro en w1 ⟨rfl, b1⟩
  have hm := HM.out.below b1
  have q0 := hm.c 0 rfl
  have q1 := hm.c 1 rfl
  have q2 := hm.c 2 rfl
  have q3 := hm.c 3 rfl
  have q4 := hm.c 4 rfl
  have q5 := hm.c 5 rfl
  have q6 := hm.c 6 rfl
  have q7 := hm.c 7 rfl
  have q8 := hm.c 8 rfl
  have HM1 := Lib.hid hm
  have hb := HB1.out.trans (b1.mono HB1.out.size)
  have HW := Lib.hid (write_t (H.out.lift hb) (by decide) (by decide))
  have HB2 := Lib.hid hb
  clear b1 hb hm
  go_wp2_with fail
  refine HW.out.mono ?_
  rintro en w2 ⟨v2, rfl, hrd, b2⟩
  rw [bytesA_sec] at hrd
  obtain ⟨a, c, rfl, _⟩ := id hrd
  have hb := HB2.out.trans (b2.mono HB2.out.size)
  have HD := Lib.hid (decode_any _ bytesA w2 hrd (by decide) (by decide) (HR.out.lift hb))
  have HRd := Lib.hid hrd
  have HM2 := Lib.hid (HM1.out.below b2)
  have HB3 := Lib.hid hb
  clear hrd b2 hb q0 q1 q2 q3 q4 q5 q6 q7 q8
  generalize hln : bytesA.length = ln at *
  obtain rfl : ln = 15 := hln.symm
  clear hln
  go_wp2_with fail
  refine HD.out.mono ?_
  rintro en w3 h3
  obtain ⟨ta2, tc2, ia2, ic2, fa2, fc2, ga2, gc2, ea2, ec2, da2, dc2, rfl, htv, b3⟩ := read_A h3
  have B4 := made2 w3 (.cells #[.slice ta2 1 tc2, .slice ia2 0 ic2, .slice fa2 0 fc2, .int .i64 (-1), .int .i64 0, .slice ga2 0 gc2, .slice ea2 0 ec2, .int .i64 (-1), .slice da2 0 dc2] 30) (.cells #[.int .i64 0, .int .i64 0, .int .i64 0] 33)
  have hm := (HM2.out.below b3).below B4
  have q0 := hm.c 0 rfl
  have q1 := hm.c 1 rfl
  have q2 := hm.c 2 rfl
  have q3 := hm.c 3 rfl
  have q4 := hm.c 4 rfl
  have q5 := hm.c 5 rfl
  have q6 := hm.c 6 rfl
  have q7 := hm.c 7 rfl
  have q8 := hm.c 8 rfl
  have hb := (HB3.out.trans (b3.mono HB3.out.size)).trans (B4.mono (by have := HB3.out.size; have := b3.size; omega))
  have HS := Lib.hid (Same_t (htv.lift B4) (H.out.lift hb))
  have HRd3 := Lib.hid ((HRd.out.lift b3).lift B4)
  have HB4 := Lib.hid hb
  clear h3 htv b3 B4 hm hb
  go_wp2_with fail
  refine HS.out.mono ?_
  rintro en w4 ⟨rfl, b4⟩
  have HB5 := Lib.hid (HB4.out.trans (b4.mono HB4.out.size))
  have HRd4 := Lib.hid (HRd3.out.lift b4)
  clear b4 q0 q1 q2 q3 q4 q5 q6 q7 q8
  go_wp2
  go_ret2
  exact ⟨_, _, rfl, HRd4.out, HB5.out⟩

def strA : ByteArray := ⟨#[0, 97, 115, 109, 1, 0, 0, 0, 1, 5, 1, 96, 1, 127, 0]⟩
theorem strA_nums : strOfNums bytesA = strA := by rfl
end Go.Proofs.YtgcmdnkmnghhaaaGreatDoor.wm

/- The contract of alive. -/
set_option linter.unusedVariables false
set_option linter.unusedSimpArgs false
namespace Go.Proofs.YtgcmdnkmnghhaaaGreatDoor.wm
open Go.RowKit Go.Proofs.YtgcmdnkmnghhaaaGreatDoor.lb
theorem conv_A (w : World) : ∃ c w1, (convert 9 22 (.string { data := #[0, 97, 115, 109, 1, 0, 0, 0, 1, 5, 1, 96, 1, 127, 0] })).run Tryz.prog w = .ok (.slice (some ⟨w.heap.size, 0, none⟩) 15 c) w1 ∧ Rd w1 (.slice (some ⟨w.heap.size, 0, none⟩) 15 c) bytesA ∧ Below w.heap.size w w1 := by
  refine ⟨_, _, Lib.run_convert_string_bytes (P := Tryz.prog) w 9 22 5 strA Tryz.underlying9 Tryz.underlying22 Tryz.underlying5, ?_, ?_⟩
  · refine ⟨_, _, rfl, ?_, (fun h => by cases h), .inr ⟨w.heap.size, 0, rfl, fun k hk => ?_⟩⟩
    · exact grownCap_ge _ _ _ _
    · rw [Nat.zero_add, Lib.bytesWorld_cell w 5 strA k hk]
      have : ∀ k, k < 15 → ((strA.data.toList.getD k 0).toNat : Int) = bytesA.getD k 0 := by decide
      rw [this k hk]
  · exact ⟨rfl, rfl, rfl, by rw [Lib.bytesWorld_size]; omega, fun j hj => Lib.bytesWorld_at_old w 5 strA j hj⟩
set_option maxRecDepth 100000 in
set_option maxHeartbeats 2000000 in
theorem alive_any (w : World) (hr : nm.Runs w) :
    Calls Tryz.prog 11 #[] w fun e w' => e = .returned (.bool true) ∧ Below w.heap.size w w' := by
  obtain ⟨c, w1, hc, hrd, b1⟩ := conv_A w
  have HD := Lib.hid (decode_any _ bytesA w1 hrd (by decide) (by decide) (hr.lift b1))
  have HR := Lib.hid hr
  have HB1 := Lib.hid b1
  clear hr b1 hrd
  go_enter Tryz.func11, Tryz.ntmps11
  go_wp2_with fail
  refine HD.out.mono ?_
  rintro en w2 h2
  obtain ⟨ta, tc, ia, ic, fa, fc, ga, gc, ea, ec, da, dc, rfl, htv, b2⟩ := read_A h2
  have b3 := HB1.out.trans (b2.mono HB1.out.size)
  have B4 := made2 w2 (.cells #[.slice ta 1 tc, .slice ia 0 ic, .slice fa 0 fc, .int .i64 (-1), .int .i64 0, .slice ga 0 gc, .slice ea 0 ec, .int .i64 (-1), .slice da 0 dc] 30) (.cells #[.int .i64 0, .int .i64 0, .int .i64 0] 33)
  have hv : VR 2 gSig 0 w2 (.slice ta 1 tc) typesA := by
    obtain ⟨ta', tc', ia', ic', fa', fc', ga', gc', ea', ec', da', dc', e, hv⟩ := htv.val
    cases e; exact hv
  obtain ⟨b, off, c0, c1, rfl, m0, m1, sv⟩ := VR.sv (lv := .slice ta 1 tc) hv (by decide) B4 (i := 0) (by decide)
  have hcap := hv.length.2
  obtain ⟨x0, y0, rfl, _⟩ := id sv.ins
  rw [Nat.zero_mul, Nat.add_zero] at m0
  change World.cell? _ ⟨b, off, none⟩ = some (.slice x0 1 y0) at m0
  have hm := (Blk.new 30 w2 #[.slice (some ⟨b, off, none⟩) 1 tc, .slice ia 0 ic, .slice fa 0 fc, .int .i64 (-1), .int .i64 0, .slice ga 0 gc, .slice ea 0 ec, .int .i64 (-1), .slice da 0 dc]).below (made1 _ (.cells #[.int .i64 0, .int .i64 0, .int .i64 0] 33))
  have HM := Lib.hid hm
  have HTV := Lib.hid (htv.lift B4)
  have hb := b3.trans (B4.mono b3.size)
  have HE := Lib.hid (encode_A (htv.lift B4) (HR.out.lift hb))
  have HB4 := Lib.hid hb
  clear h2 htv b2 b3 B4 hv m1 sv hm hb
  go_wp2_with fail
  refine HE.out.mono ?_
  rintro en w5 ⟨a5, c5, rfl, hrd, b5⟩
  have hcv := run_convert_rdK (w := w5) (v := .slice a5 15 c5) (l := bytesA) hrd
  rw [strA_nums] at hcv
  unfold strA at hcv
  have hm := HM.out.below b5
  have q0 := hm.c 0 rfl
  have q1 := hm.c 1 rfl
  have q2 := hm.c 2 rfl
  have q3 := hm.c 3 rfl
  have q4 := hm.c 4 rfl
  have q5 := hm.c 5 rfl
  have q6 := hm.c 6 rfl
  have q7 := hm.c 7 rfl
  have q8 := hm.c 8 rfl
  have HTV5 := Lib.hid (HTV.out.lift b5)
  have HS := Lib.hid (Same_t HTV5.out HTV5.out)
  have HB5 := Lib.hid (HB4.out.trans (b5.mono HB4.out.size))
  have HM5 := Lib.hid hm
  clear b5 hrd hm m0
  go_wp2_with fail
  refine HS.out.mono ?_
  rintro en w6 ⟨rfl, b6⟩
  clear q0 q1 q2 q3 q4 q5 q6 q7 q8
  have hm := HM5.out.below b6
  have q0 := hm.c 0 rfl
  have q1 := hm.c 1 rfl
  have q2 := hm.c 2 rfl
  have q3 := hm.c 3 rfl
  have q4 := hm.c 4 rfl
  have q5 := hm.c 5 rfl
  have q6 := hm.c 6 rfl
  have q7 := hm.c 7 rfl
  have q8 := hm.c 8 rfl
  have HF := Lib.hid (few_any (HTV5.out.lift b6))
  have HB6 := Lib.hid (HB5.out.trans (b6.mono HB5.out.size))
  clear b6 hm
  go_wp2_with fail
  refine HF.out.mono ?_
  rintro en w7 ⟨rfl, b7⟩
  have HB7 := Lib.hid (HB6.out.trans (b7.mono HB6.out.size))
  clear b7 q0 q1 q2 q3 q4 q5 q6 q7 q8
  go_wp2
  go_ret
  exact ⟨rfl, HB7.out⟩
end Go.Proofs.YtgcmdnkmnghhaaaGreatDoor.wm
