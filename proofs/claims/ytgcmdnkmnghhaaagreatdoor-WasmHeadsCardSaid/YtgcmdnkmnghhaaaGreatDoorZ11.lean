/- Put together by program: WListF WDec WFill WCode WCodeW WFillB WFillC. -/
import Derived.Test.YtgcmdnkmnghhaaaGreatDoorZ10
/- The contracts of list at its types: printed by gen_list.py. -/
set_option linter.unusedVariables false
namespace Go.Proofs.YtgcmdnkmnghhaaaGreatDoor.wm
open Go.RowKit Go.Proofs.YtgcmdnkmnghhaaaGreatDoor.lb
/-- an answer that is a row of the call's own, each cell of which is there -/
def VRow {α : Type} (T : TypeId) (k : Nat) (gh : α → Gh) (B : Nat) : World → Value → List α → Prop := fun w v xs => ∃ g, v = .slice (some ⟨g, 0, none⟩) xs.length xs.length ∧ B ≤ g ∧ Row T w g (xs.length * k) ∧ Gh.rows (g + 1) w g k 0 (xs.map gh)
theorem LI.vrow {α : Type} {k : Nat} {gh : α → Gh} {T : TypeId} {w0 : World} {ao : Option Addr} {cap : Nat} {l : List Int} {r e q n g : Nat} {w wr : World} {acc : List α} (h : LI k gh T w0 ao cap l r e w g n acc q wr) (hn : acc.length = n) : VRow T k gh w.heap.size wr (.slice (some ⟨g, 0, none⟩) n n) acc := by
  subst hn
  exact ⟨g, rfl, h.hg, h.row, h.rows⟩
section
variable {w0 : World} {ao : Option Addr} {cap : Nat} {l : List Int}

theorem make_funcs2 (n : Nat) (hn : n ≤ 4096) (u : World) : (Instr.makeSlice 25 (.int .i64 n) (.int .i64 n)).run Tryz.prog u =
    .ok (.slice (some ⟨u.heap.size, 0, none⟩) n n) (u.alloc (.cells (madeCells (.agg #[.int .i64 0, .slice none 0 0, .slice none 0 0] : Value).cells (n * 3)) 52)) := by
  obtain ⟨i0, hi, hz0, hz1, hz2⟩ := info_parts (show (Tryz.prog.info? 52).map (fun i => (i.zero, i.size, i.bytes)) = some (some (.agg #[.int .i64 0, .slice none 0 0, .slice none 0 0] : Value), 3, 56) by kernel_rfl)
  have h := run_make (P := Tryz.prog) u 25 52 i0 (.agg #[.int .i64 0, .slice none 0 0, .slice none 0 0]) Tryz.underlying25 hi hz0 .i64 .i64 (n : Int) (n : Int) (by omega) (by omega) (by rw [hz2]; omega) (by omega)
  simpa only [hz1, Int.toNat_natCast] using h

set_option maxRecDepth 100000 in
set_option maxHeartbeats 1000000 in
theorem list_funcs2 (c : Ctx w0 ao cap l) (r e p : Nat) (w : World) (h : Rr w0 ao cap l r e p w) (limit : Int) (hlim : limit ≤ 4096)
    (hx : ∀ q w', Rr w0 ao cap l r e q w' → Calls Tryz.prog 161 #[.pointer (some ⟨r, 0, none⟩)] w' (Out (· = r) w0 ao cap l r e w' (VA3 gFunc w'.heap.size) (pDeclared l e q))) :
    Calls Tryz.prog 160 #[.pointer (some ⟨r, 0, none⟩), .int .i64 limit, .func (.func 161) #[] #[]] w (Out (· = r) w0 ao cap l r e w (VRow 52 3 gFunc w.heap.size) (pList limit pDeclared l e p)) := by
  have HM := most_any c r e p w h limit
  have hr := h.blk.lt
  have hp := h.hp
  have he := h.he
  have hb := fun k => (c.bd k).1
  cases hm : pMost limit l e p with
  | bad why a =>
    have HX := Lib.hid (show pList limit pDeclared l e p = .bad why a from P.bind_bad hm)
    rw [hm] at HM
    have HM := Lib.hid HM
    clear hm h c
    go_enter Tryz.func160, Tryz.ntmps160
    go_wp2_with fail
    refine HM.out.mono ?_
    rintro en w1 ⟨k1, rfl⟩
    exact ⟨rfl, Out.wrong HX.out k1⟩
  | ok m q =>
    rw [hm] at HM
    obtain ⟨m0, m1, _, _⟩ := most_bd hb hp he hm
    obtain ⟨n, rfl⟩ := Int.eq_ofNat_of_zero_le m0
    have hX : pList limit pDeclared l e p = pRep pDeclared n [] l e q := P.bind_ok hm
    have HX := Lib.hid hX
    have HM := Lib.hid HM
    have HF := Lib.hid hx
    have hmk := make_funcs2 n (by omega)
    clear hm h c hX hb m0 hx
    go_enter Tryz.func160, Tryz.ntmps160
    go_wp2_with fail
    refine HM.out.mono ?_
    rintro en w1 ⟨k1, v, rfl, rfl, r1⟩
    have R1 := Lib.hid r1
    have K1 := Lib.hid k1
    clear r1 k1
    go_wp2
    go_loopw [15] (fun y wr => ∃ (i : Nat) (acc : List GFunc) (qi : Nat), y = .int .i64 i ∧ i ≤ n ∧ acc.length = i ∧ Hid (pRep pDeclared n [] l e q = pRep pDeclared (n - i) acc l e qi) ∧ Hid (LI 3 gFunc 52 w0 ao cap l r e w w1.heap.size n acc qi wr)) (fun y _ => n - (intOf y).toNat)
    case atStart => exact ⟨0, [], q, rfl, Nat.zero_le _, rfl, rfl, LI.start R1.out K1.out hr _ _ (by omega)⟩
    case round =>
      obtain ⟨i, acc, qi, rfl, hi, hlen, HQ, HL⟩ := hrel
      generalize w1.heap.size = g at HL ⊢
      by_cases hlt : i < n
      · have hs : n - i = (n - (i + 1)) + 1 := by omega
        have hilt : (i : Int) < n := by omega
        cases hxe : pDeclared l e qi with
        | bad why a =>
          have HX2 := Lib.hid (show pList limit pDeclared l e p = .bad why a from HX.out.trans (HQ.out.trans (by rw [hs]; exact pRep_bad hxe)))
          have HXe := Lib.hid hxe
          clear hs hxe
          go_wp2_with fail
          refine (HF.out qi _ HL.out.rr).mono ?_
          rintro en w2 h2
          obtain ⟨k2, rfl⟩ := h2.bad_elim HXe.out
          exact ⟨rfl, Out.wrong HX2.out (HL.out.keep.trans k2)⟩
        | ok a q2 =>
          have HQ2 := Lib.hid (show pRep pDeclared n [] l e q = pRep pDeclared (n - (i + 1)) (acc ++ [a]) l e q2 from HQ.out.trans (by rw [hs]; exact pRep_ok hxe))
          have HXe := Lib.hid hxe
          clear hs hxe
          go_wp2_with fail
          refine (HF.out qi _ HL.out.rr).mono ?_
          rintro en w2 h2
          obtain ⟨k2, v, rfl, hv, r2⟩ := h2.ok_elim HXe.out
          obtain ⟨c0, c1, c2, rfl, hv⟩ := hv
          obtain ⟨rfl, ⟨a0, n0, k0, rfl⟩, a1, n1, k1, rfl⟩ := open_func hv
          have hrow := HL.out.row.keep k2 (by have := HL.out.hg; have := HL.out.hr; omega)
          obtain ⟨u0, d0⟩ := hrow.some (k := i * 3) (by omega)
          have z0 := hrow.fz (i * 3)
          obtain ⟨u1, d1⟩ := hrow.some (k := i * 3 + 1) (by omega)
          have z1 := hrow.fz (i * 3 + 1)
          obtain ⟨u2, d2⟩ := hrow.some (k := i * 3 + 2) (by omega)
          have z2 := hrow.fz (i * 3 + 2)
          have HN := Lib.hid (HL.out.set3 k2 r2 (a := a) hv hlen.symm hlt)
          have hl2 : (acc ++ [a]).length = i + 1 := by rw [List.length_append, hlen]; rfl
          have HL2 := Lib.hid hl2
          clear hrow k2 r2 hl2 HL hv
          go_wp2
          go_roundw
          case rel => exact ⟨i + 1, acc ++ [a], q2, by go_num, by omega, HL2.out, HQ2.out, HN.out⟩
          case measure => simp [intOf]; omega
      · have hin : i = n := by omega
        subst hin
        have HX2 := Lib.hid (show pList limit pDeclared l e p = .ok acc qi from HX.out.trans (HQ.out.trans (by rw [Nat.sub_self]; rfl)))
        go_wp2
        go_ret
        exact Out.good HX2.out HL.out.keep (HL.out.vrow hlen) HL.out.rr
end
end Go.Proofs.YtgcmdnkmnghhaaaGreatDoor.wm

/- A decoder in memory. -/
set_option linter.unusedVariables false
set_option linter.unusedSimpArgs false
namespace Go.Proofs.YtgcmdnkmnghhaaaGreatDoor.wm
open Go.RowKit Go.Proofs.YtgcmdnkmnghhaaaGreatDoor.lb

/-- a world without its last blocks -/
def trunc (w : World) (n : Nat) : World := { w with heap := w.heap.extract 0 n }
theorem trunc_size (w : World) (n : Nat) (h : n ≤ w.heap.size) : (trunc w n).heap.size = n := by simp [trunc]; omega
theorem trunc_below (w : World) (n : Nat) (h : n ≤ w.heap.size) : Below (trunc w n).heap.size (trunc w n) w := by
  refine ⟨rfl, rfl, rfl, by rw [trunc_size w n h]; exact h, fun k hk => ?_⟩
  rw [trunc_size w n h] at hk
  simp [trunc, Array.getElem?_extract]
  omega
theorem trunc_get (w : World) (n k : Nat) (h : n ≤ w.heap.size) (hk : k < n) : (trunc w n).heap[k]? = w.heap[k]? := by
  have := (trunc_below w n h).block k (by rw [trunc_size w n h]; exact hk)
  exact this.symm
theorem Below.trunc {w0 w : World} {n : Nat} (h : Below w0.heap.size w0 w) (hn : w0.heap.size ≤ n) (hw : n ≤ w.heap.size) : Below w0.heap.size w0 (trunc w n) :=
  ⟨h.os, h.tape, h.output, by rw [trunc_size w n hw]; exact hn, fun k hk => by rw [trunc_get w n k hw (by omega)]; exact h.block k hk⟩

/-- blocks behind the decoder's, but one reader's and the functions' own -/
def Av (dd x : Nat) (fv : Value) (w : World) : Nat → Prop := fun b => dd < b ∧ b < w.heap.size ∧ b ≠ x ∧ fv.ownBlock ≠ some b
/-- the functions' row -/
def FOwn (dd x : Nat) (w : World) (fv : Value) (fs : List GFunc) : Prop :=
  (fv = .slice none 0 0 ∧ fs = []) ∨ ∃ g, fv = .slice (some ⟨g, 0, none⟩) fs.length fs.length ∧ dd < g ∧ g ≠ x ∧ Row 52 w g (fs.length * 3) ∧ Gh.liesRows (fun b => dd < b ∧ b < w.heap.size ∧ b ≠ x ∧ b ≠ g) w g 3 0 (fs.map gFunc)

structure DI (w0 : World) (ao : Option Addr) (cap : Nat) (l : List Int) (r dd x e p : Nat) (st : DSt) (tv iv fv gv ev dv : Value) (w : World) : Prop where
  rr : Rr w0 ao cap l r e p w
  blk : Blk 95 w dd #[.pointer (some ⟨r, 0, none⟩), tv, iv, fv, .int .i64 st.m.pages, .int .i64 st.m.most, gv, ev, .int .i64 st.m.start, dv, .int .i64 st.last, .bool st.bodies]
  hd : r < dd
  hx : dd ≠ x
  tys : LV (Av dd x fv w) 2 gSig w tv st.m.types
  imps : LV (Av dd x fv w) 3 gImport w iv st.m.imports
  globs : LV (Av dd x fv w) 3 gGlobal w gv st.m.globals
  exps : LV (Av dd x fv w) 3 gExport w ev st.m.exports
  dats : LV (Av dd x fv w) 2 gData w dv st.m.datas
  funs : FOwn dd x w fv st.m.funcs
  few : st.m.types.length ≤ 32 ∧ st.m.imports.length ≤ 32 ∧ st.m.funcs.length ≤ 32
  lens : ∀ s ∈ st.m.types, s.ins.length ≤ 8 ∧ s.outs.length ≤ 8

section
variable {w0 : World} {ao : Option Addr} {cap : Nat} {l : List Int} {r dd x e p : Nat} {st : DSt} {tv iv fv gv ev dv : Value} {w w' : World}

/-- what does not turn the decoder's blocks leaves it, with another reader to stay clear of -/
theorem DI.keep (h : DI w0 ao cap l r dd x e p st tv iv fv gv ev dv w) {S : Nat → Prop} (k : Keep S w w') (y q : Nat) (hS : ∀ b, b < w.heap.size → S b → b ≠ dd ∧ (b ≤ dd ∨ b = x)) (hy : y = x ∨ w.heap.size ≤ y) (hr : Rr w0 ao cap l r e q w') : DI w0 ao cap l r dd y e q st tv iv fv gv ev dv w' := by
  have hdlt := h.blk.lt
  have hA : ∀ b, Av dd x fv w b → Av dd y fv w' b ∧ w'.heap[b]? = w.heap[b]? := by
    intro b ⟨b1, b2, b3, b4⟩
    refine ⟨⟨b1, Nat.lt_of_lt_of_le b2 k.size, by omega, b4⟩, k.block b b2 (fun hs => by have := hS b b2 hs; omega)⟩
  refine ⟨hr, (k.block dd hdlt (fun hs => (hS dd hdlt hs).1 rfl)).trans h.blk, h.hd, by have := h.hx; omega, h.tys.keep hA, h.imps.keep hA, h.globs.keep hA, h.exps.keep hA, h.dats.keep hA, ?_, h.few, h.lens⟩
  rcases h.funs with hf | ⟨g, rfl, g1, g2, g3, g4⟩
  · exact .inl hf
  · have hlt := g3.lt
    have hgS : ¬ S g := fun hs => by have := hS g hlt hs; omega
    refine .inr ⟨g, rfl, g1, by omega, g3.keep k hgS, ?_⟩
    refine Gh.liesRows_keep (fun b ⟨b1, b2, b3, b4⟩ => ⟨⟨b1, Nat.lt_of_lt_of_le b2 k.size, by omega, b4⟩, k.block b b2 (fun hs => by have := hS b b2 hs; omega)⟩) _ g 3 0 (k.block g hlt hgS) g4
theorem DI.below (h : DI w0 ao cap l r dd x e p st tv iv fv gv ev dv w) (k : Below w.heap.size w w') : DI w0 ao cap l r dd x e p st tv iv fv gv ev dv w' :=
  h.keep (S := fun _ => False) (.of k) x p (fun _ _ h => h.elim) (.inl rfl) (h.rr.below k)
/-- the outer reader goes on -/
theorem DI.go (h : DI w0 ao cap l r dd x e p st tv iv fv gv ev dv w) {q : Nat} (k : Keep (· = r) w w') (hr : Rr w0 ao cap l r e q w') : DI w0 ao cap l r dd x e q st tv iv fv gv ev dv w' :=
  h.keep k x q (fun b _ hb => by have := h.hd; omega) (.inl rfl) hr
/-- a part's reader is made -/
theorem DI.part (h : DI w0 ao cap l r dd x e p st tv iv fv gv ev dv w) {q y : Nat} (k : Keep (· = r) w w') (hr : Rr w0 ao cap l r e q w') (hy : w.heap.size ≤ y) : DI w0 ao cap l r dd y e q st tv iv fv gv ev dv w' :=
  h.keep k y q (fun b _ hb => by have := h.hd; omega) (.inr hy) hr
/-- the part's reader goes on -/
theorem DI.sub (h : DI w0 ao cap l r dd x e p st tv iv fv gv ev dv w) (k : Keep (· = x) w w') (hx : x ≠ r) (hx0 : w0.heap.size ≤ x) : DI w0 ao cap l r dd x e p st tv iv fv gv ev dv w' :=
  h.keep k x p (fun b _ hb => by have := h.hx; omega) (.inl rfl) (h.rr.keep k (Ne.symm hx) (fun i hi => by omega))
theorem DI.c (h : DI w0 ao cap l r dd x e p st tv iv fv gv ev dv w) : w.cell? ⟨dd, 0, none⟩ = some (.pointer (some ⟨r, 0, none⟩)) ∧ w.cell? ⟨dd, 1, none⟩ = some tv ∧ w.cell? ⟨dd, 2, none⟩ = some iv ∧ w.cell? ⟨dd, 3, none⟩ = some fv ∧ w.cell? ⟨dd, 4, none⟩ = some (.int .i64 st.m.pages) ∧ w.cell? ⟨dd, 5, none⟩ = some (.int .i64 st.m.most) ∧
    w.cell? ⟨dd, 6, none⟩ = some gv ∧ w.cell? ⟨dd, 7, none⟩ = some ev ∧ w.cell? ⟨dd, 8, none⟩ = some (.int .i64 st.m.start) ∧ w.cell? ⟨dd, 9, none⟩ = some dv ∧ w.cell? ⟨dd, 10, none⟩ = some (.int .i64 st.last) ∧ w.cell? ⟨dd, 11, none⟩ = some (.bool st.bodies) :=
  ⟨h.blk.c 0 rfl, h.blk.c 1 rfl, h.blk.c 2 rfl, h.blk.c 3 rfl, h.blk.c 4 rfl, h.blk.c 5 rfl, h.blk.c 6 rfl, h.blk.c 7 rfl, h.blk.c 8 rfl, h.blk.c 9 rfl, h.blk.c 10 rfl, h.blk.c 11 rfl⟩

/-- a store into the decoder's block -/
theorem DI.field (h : DI w0 ao cap l r dd x e p st tv iv fv gv ev dv w) (i : Nat) (u : Value) (st' : DSt) (tv' iv' gv' ev' dv' : Value)
    (hb : (#[.pointer (some ⟨r, 0, none⟩), tv, iv, fv, .int .i64 st.m.pages, .int .i64 st.m.most, gv, ev, .int .i64 st.m.start, dv, .int .i64 st.last, .bool st.bodies] : Array Value).setIfInBounds i u = #[.pointer (some ⟨r, 0, none⟩), tv', iv', fv, .int .i64 st'.m.pages, .int .i64 st'.m.most, gv', ev', .int .i64 st'.m.start, dv', .int .i64 st'.last, .bool st'.bodies])
    (h1 : LV (Av dd x fv w) 2 gSig w tv' st'.m.types) (h2 : LV (Av dd x fv w) 3 gImport w iv' st'.m.imports) (h3 : LV (Av dd x fv w) 3 gGlobal w gv' st'.m.globals) (h4 : LV (Av dd x fv w) 3 gExport w ev' st'.m.exports) (h5 : LV (Av dd x fv w) 2 gData w dv' st'.m.datas)
    (hf : st'.m.funcs = st.m.funcs) (few : st'.m.types.length ≤ 32 ∧ st'.m.imports.length ≤ 32) (lens : ∀ s ∈ st'.m.types, s.ins.length ≤ 8 ∧ s.outs.length ≤ 8) :
    DI w0 ao cap l r dd x e p st' tv' iv' fv gv' ev' dv' (w.setCell ⟨dd, i, none⟩ u) := by
  have k : Keep (fun b => b = dd) w (w.setCell ⟨dd, i, none⟩ u) := (Keep.refl (fun b => b = dd) w).set (p := ⟨dd, i, none⟩) (.inl rfl) u
  have hA : ∀ b, Av dd x fv w b → Av dd x fv (w.setCell ⟨dd, i, none⟩ u) b ∧ (w.setCell ⟨dd, i, none⟩ u).heap[b]? = w.heap[b]? := by
    intro b ⟨b1, b2, b3, b4⟩
    exact ⟨⟨b1, Nat.lt_of_lt_of_le b2 k.size, b3, b4⟩, k.block b b2 (by omega)⟩
  have hd := h.hd
  refine ⟨h.rr.keep k (by omega) (fun j hj => by have := h.rr.hB; omega), by have := h.blk.set i u; rw [hb] at this; exact this, h.hd, h.hx, h1.keep hA, h2.keep hA, h3.keep hA, h4.keep hA, h5.keep hA, ?_, ⟨few.1, few.2, by rw [hf]; exact h.few.2.2⟩, lens⟩
  rw [hf]
  rcases h.funs with hf | ⟨g, rfl, g1, g2, g3, g4⟩
  · exact .inl hf
  · have hlt := g3.lt
    refine .inr ⟨g, rfl, g1, g2, g3.keep k (by omega), ?_⟩
    exact Gh.liesRows_keep (fun b ⟨b1, b2, b3, b4⟩ => ⟨⟨b1, Nat.lt_of_lt_of_le b2 k.size, b3, b4⟩, k.block b b2 (by omega)⟩) _ g 3 0 (k.block g hlt (by omega)) g4

/-- a new list's values, told by where they lie -/
theorem lv_new {α : Type} {k : Nat} {gh : α → Gh} {B : Nat} {w1 : World} {v : Value} {xs : List α} (h : VR k gh B w1 v xs) (hk : 0 < k) (hw : ∀ a, (gh a).wf) (hB : dd < B) (hxB : x < B) (hf : ∀ b, fv.ownBlock = some b → b < B) : LV (Av dd x fv w1) k gh w1 v xs :=
  (h.lv hk hw).keep fun b ⟨b1, b2⟩ => ⟨⟨by omega, b2, by omega, fun e => by have := hf b e; omega⟩, rfl⟩
theorem DI.flt (h : DI w0 ao cap l r dd x e p st tv iv fv gv ev dv w) {b : Nat} (hb : fv.ownBlock = some b) : b < w.heap.size := by
  rcases h.funs with ⟨rfl, _⟩ | ⟨g, rfl, g1, g2, g3, g4⟩
  · cases hb
  · have : g = b := Option.some.inj hb
    have := g3.lt; omega
end

/-- list, of which the length is bounded -/
theorem pList_few {α : Type} {x : P α} {limit : Int} {l : List Int} {e p q : Nat} {xs : List α} (hb : By l) (hp : p ≤ e) (he : e ≤ l.length) (h : pList limit x l e p = .ok xs q) : (xs.length : Int) ≤ limit := list_len hb hp he h
theorem rep_all {α : Type} {x : P α} {Q : α → Prop} {l : List Int} {e : Nat} (hx : Good x) (hb : By l) (he : e ≤ l.length) (hq : ∀ p a q, p ≤ e → x l e p = .ok a q → Q a) : ∀ {k : Nat} {acc : List α} {p q : Nat} {xs : List α}, p ≤ e → (∀ a ∈ acc, Q a) → pRep x k acc l e p = .ok xs q → ∀ a ∈ xs, Q a
  | 0, acc, p, q, xs, hp, ha, h => by
    simp only [pRep, P.ret, Res.ok.injEq] at h
    rw [← h.1]; exact ha
  | k + 1, acc, p, q, xs, hp, ha, h => by
    cases h1 : x l e p with
    | bad w a => rw [pRep_bad h1] at h; cases h
    | ok a q' =>
      rw [pRep_ok h1] at h
      refine rep_all hx hb he hq (hx.ok hb hp he h1).2.1 (fun b hb' => ?_) h
      rcases List.mem_append.1 hb' with hb' | hb'
      · exact ha b hb'
      · simp only [List.mem_singleton] at hb'; subst hb'; exact hq p _ q' hp h1
theorem sig_few {l : List Int} {e p q : Nat} {s : GSig} (hb : By l) (hp : p ≤ e) (he : e ≤ l.length) (h : pSig l e p = .ok s q) : s.ins.length ≤ 8 ∧ s.outs.length ≤ 8 := by
  cases h1 : pOne [96] [] l e p with
  | bad w a => rw [show pSig l e p = .bad w a from P.bind_bad h1] at h; cases h
  | ok z q1 =>
    have g1 := (Good.pone _ _).ok hb hp he h1
    cases h2 : pList 8 pKind l e q1 with
    | bad w a => rw [show pSig l e p = .bad w a from (P.bind_ok h1).trans (P.bind_bad h2)] at h; cases h
    | ok i q2 =>
      have g2 := (Good.list .kind 8).ok hb g1.2.1 he h2
      cases h3 : pList 8 pKind l e q2 with
      | bad w a => rw [show pSig l e p = .bad w a from (P.bind_ok h1).trans ((P.bind_ok h2).trans (P.bind_bad h3))] at h; cases h
      | ok o q3 =>
        rw [show pSig l e p = .ok ⟨i, o⟩ q3 from (P.bind_ok h1).trans ((P.bind_ok h2).trans ((P.bind_ok h3).trans rfl))] at h
        obtain ⟨rfl, _⟩ := Res.ok.inj h
        have := pList_few hb g1.2.1 he h2
        have := pList_few hb g2.2.1 he h3
        simp only; omega
theorem sigs_few {l : List Int} {e p q : Nat} {xs : List GSig} (hb : By l) (hp : p ≤ e) (he : e ≤ l.length) (h : pList 32 pSig l e p = .ok xs q) : ∀ s ∈ xs, s.ins.length ≤ 8 ∧ s.outs.length ≤ 8 := by
  cases h1 : pMost 32 l e p with
  | bad w a => rw [show pList 32 pSig l e p = .bad w a from P.bind_bad h1] at h; cases h
  | ok m q' =>
    rw [show pList 32 pSig l e p = pRep pSig m.toNat [] l e q' from P.bind_ok h1] at h
    exact rep_all .sig hb he (fun p a q hp h => sig_few hb hp he h) ((Good.most 32).ok hb hp he h1).2.1 (by simp) h
end Go.Proofs.YtgcmdnkmnghhaaaGreatDoor.wm

/- The contracts of fill at sections that are lists: printed by gen_fill.py. -/
set_option linter.unusedVariables false
set_option linter.unusedSimpArgs false
namespace Go.Proofs.YtgcmdnkmnghhaaaGreatDoor.wm
open Go.RowKit Go.Proofs.YtgcmdnkmnghhaaaGreatDoor.lb
section
variable {w0 : World} {ao : Option Addr} {cap : Nat} {l : List Int}
/-- what fill leaves -/
def FillPost (w0 : World) (ao : Option Addr) (cap : Nat) (l : List Int) (r dd x e p es : Nat) (w : World) (res : Res DSt) (en : Ending) (w' : World) : Prop :=
  Below dd w w' ∧ match res with
  | .bad why a => en = thrown why a
  | .ok st q => en = .returned (.tuple #[]) ∧ ∃ tv iv fv gv ev dv, DI w0 ao cap l r dd x e p st tv iv fv gv ev dv w' ∧ Rr w0 ao cap l x es q w'
theorem FillPost.wrong {r dd x e p es : Nat} {w w' : World} {res : Res DSt} {why a : Int} (h : res = .bad why a) (hb : Below dd w w') : FillPost w0 ao cap l r dd x e p es w res (thrown why a) w' := by subst h; exact ⟨hb, rfl⟩
theorem FillPost.good {r dd x e p es q : Nat} {w w' : World} {res : Res DSt} {st : DSt} {tv iv fv gv ev dv : Value} (h : res = .ok st q) (hb : Below dd w w') (hd : DI w0 ao cap l r dd x e p st tv iv fv gv ev dv w') (hr : Rr w0 ao cap l x es q w') : FillPost w0 ao cap l r dd x e p es w res (.returned (.tuple #[])) w' := by subst h; exact ⟨hb, rfl, _, _, _, _, _, _, hd, hr⟩
theorem Keep.lowD {S : Nat → Prop} {B : Nat} {a b : World} (h : Keep S a b) (hB : B ≤ a.heap.size) (hs : ∀ i, S i → B ≤ i) : Below B a b := ⟨h.os, h.tape, h.output, h.size, fun i hi => h.block i (by omega) (fun x => by have := hs i x; omega)⟩

set_option maxRecDepth 100000 in
set_option maxHeartbeats 1000000 in
theorem fill_1 (c : Ctx w0 ao cap l) (r dd x e p es b : Nat) (st : DSt) (tv iv fv gv ev dv : Value) (w : World) (h : DI w0 ao cap l r dd x e p st tv iv fv gv ev dv w) (hs : Rr w0 ao cap l x es b w) (hx : dd < x) :
    Calls Tryz.prog 108 #[.pointer (some ⟨dd, 0, none⟩), .int .i64 1, .pointer (some ⟨x, 0, none⟩)] w (FillPost w0 ao cap l r dd x e p es w (pFill st 1 l es b)) := by
  have hd := h.hd
  have hdl := h.blk.lt
  have hxl := hs.blk.lt
  have hx0 := hs.hB
  have hb := fun k => (c.bd k).1
  have HH := Lib.hid h
  have HC := Lib.hid c
  have HL := list_sigs c x es b w hs 32 (by decide) (fun q w' h' => sig_any c x es q w' h')
  cases hm : pList 32 pSig l es b with
  | bad why a =>
    have HX := Lib.hid (show pFill st 1 l es b = .bad why a from P.bind_bad hm)
    have HX1 := Lib.hid hm
    have HL := Lib.hid HL
    clear hm h c hb
    go_enter Tryz.func108, Tryz.ntmps108
    go_wp2_with fail
    refine HL.out.mono ?_
    rintro en w1 h1
    obtain ⟨k1, rfl⟩ := h1.bad_elim HX1.out
    exact ⟨rfl, FillPost.wrong HX.out (k1.lowD (by omega) (fun i hi => by omega))⟩
  | ok xs q =>
    have HX := Lib.hid (show pFill st 1 l es b = .ok { st with m := { st.m with types := xs } } q from (P.bind_ok hm).trans rfl)
    have HX1 := Lib.hid hm
    have hfew := pList_few hb hs.hp hs.he hm
    have hlen := sigs_few hb hs.hp hs.he hm
    have HL := Lib.hid HL
    clear hm h c hb
    go_enter Tryz.func108, Tryz.ntmps108
    go_wp2_with fail
    refine HL.out.mono ?_
    rintro en w1 h1
    obtain ⟨k1, v1, rfl, hv1, r1⟩ := h1.ok_elim HX1.out
    obtain ⟨va, vc, rfl⟩ := VR.slice hv1
    have hn := lv_new (dd := dd) (x := x) (fv := fv) hv1 (by decide) wf_sig (by omega) (by omega) (fun b hb => HH.out.flt hb)
    have h1 := HH.out.sub k1 (by omega) hx0
    have dc := h1.blk.c 1 rfl
    have df := h1.blk.f 1
    have HN := Lib.hid (h1.field 1 (.slice va xs.length vc) { st with m := { st.m with types := xs } } (.slice va xs.length vc) iv gv ev dv rfl hn h1.imps h1.globs h1.exps h1.dats rfl ⟨by simp only; omega, HH.out.few.2.1⟩ hlen)
    have KS : Keep (fun i => i = dd) w1 (w1.setCell ⟨dd, 1, none⟩ (.slice va xs.length vc)) := (Keep.refl (fun i => i = dd) w1).set (p := ⟨dd, 1, none⟩) (.inl rfl) _
    have R2 := Lib.hid (r1.keep KS (by omega) (fun i hi => by have := HH.out.rr.hB; omega))
    have BL := Lib.hid ((k1.lowD (B := dd) (by omega) (fun i hi => by omega)).trans (KS.lowD (by have := k1.size; omega) (fun i hi => by omega)))
    clear hv1 hn h1 k1 r1 KS
    go_wp2
    (first | go_end0 | refine bodyPost_ret (results_none rfl _ _ _) rfl ?_)
    exact FillPost.good HX.out BL.out HN.out R2.out

set_option maxRecDepth 100000 in
set_option maxHeartbeats 1000000 in
theorem fill_2 (c : Ctx w0 ao cap l) (r dd x e p es b : Nat) (st : DSt) (tv iv fv gv ev dv : Value) (w : World) (h : DI w0 ao cap l r dd x e p st tv iv fv gv ev dv w) (hs : Rr w0 ao cap l x es b w) (hx : dd < x) :
    Calls Tryz.prog 108 #[.pointer (some ⟨dd, 0, none⟩), .int .i64 2, .pointer (some ⟨x, 0, none⟩)] w (FillPost w0 ao cap l r dd x e p es w (pFill st 2 l es b)) := by
  have hd := h.hd
  have hdl := h.blk.lt
  have hxl := hs.blk.lt
  have hx0 := hs.hB
  have hb := fun k => (c.bd k).1
  have HH := Lib.hid h
  have HC := Lib.hid c
  have HL := list_imports c x es b w hs 32 (by decide) (fun q w' h' => imported_any c x es q w' h')
  cases hm : pList 32 pImport l es b with
  | bad why a =>
    have HX := Lib.hid (show pFill st 2 l es b = .bad why a from P.bind_bad hm)
    have HX1 := Lib.hid hm
    have HL := Lib.hid HL
    clear hm h c hb
    go_enter Tryz.func108, Tryz.ntmps108
    go_wp2_with fail
    refine HL.out.mono ?_
    rintro en w1 h1
    obtain ⟨k1, rfl⟩ := h1.bad_elim HX1.out
    exact ⟨rfl, FillPost.wrong HX.out (k1.lowD (by omega) (fun i hi => by omega))⟩
  | ok xs q =>
    have HX := Lib.hid (show pFill st 2 l es b = .ok { st with m := { st.m with imports := xs } } q from (P.bind_ok hm).trans rfl)
    have HX1 := Lib.hid hm
    have hfew := pList_few hb hs.hp hs.he hm
    skip
    have HL := Lib.hid HL
    clear hm h c hb
    go_enter Tryz.func108, Tryz.ntmps108
    go_wp2_with fail
    refine HL.out.mono ?_
    rintro en w1 h1
    obtain ⟨k1, v1, rfl, hv1, r1⟩ := h1.ok_elim HX1.out
    obtain ⟨va, vc, rfl⟩ := VR.slice hv1
    have hn := lv_new (dd := dd) (x := x) (fv := fv) hv1 (by decide) wf_import (by omega) (by omega) (fun b hb => HH.out.flt hb)
    have h1 := HH.out.sub k1 (by omega) hx0
    have dc := h1.blk.c 2 rfl
    have df := h1.blk.f 2
    have HN := Lib.hid (h1.field 2 (.slice va xs.length vc) { st with m := { st.m with imports := xs } } tv (.slice va xs.length vc) gv ev dv rfl h1.tys hn h1.globs h1.exps h1.dats rfl ⟨HH.out.few.1, by simp only; omega⟩ HH.out.lens)
    have KS : Keep (fun i => i = dd) w1 (w1.setCell ⟨dd, 2, none⟩ (.slice va xs.length vc)) := (Keep.refl (fun i => i = dd) w1).set (p := ⟨dd, 2, none⟩) (.inl rfl) _
    have R2 := Lib.hid (r1.keep KS (by omega) (fun i hi => by have := HH.out.rr.hB; omega))
    have BL := Lib.hid ((k1.lowD (B := dd) (by omega) (fun i hi => by omega)).trans (KS.lowD (by have := k1.size; omega) (fun i hi => by omega)))
    clear hv1 hn h1 k1 r1 KS
    go_wp2
    (first | go_end0 | refine bodyPost_ret (results_none rfl _ _ _) rfl ?_)
    exact FillPost.good HX.out BL.out HN.out R2.out
end
end Go.Proofs.YtgcmdnkmnghhaaaGreatDoor.wm

/- The contract of code: what is laid ahead of its walk. -/
set_option linter.unusedVariables false
set_option linter.unusedSimpArgs false
namespace Go.Proofs.YtgcmdnkmnghhaaaGreatDoor.wm
open Go.RowKit Go.Proofs.YtgcmdnkmnghhaaaGreatDoor.lb

theorem part0_u {l : List Int} {e p b : Nat} {s : Int} (hu : pU l e p = .ok s b) : pPart0 l e p = if (e : Int) - b < s then .bad 4 e else .ok b (b + s.toNat) := P.bind_ok hu
theorem part_u {α : Type} {y : P α} {l : List Int} {e p b : Nat} {s : Int} (hu : pU l e p = .ok s b) : pPart y l e p = if (e : Int) - b < s then .bad 4 e else match y l (b + s.toNat) b with
    | .bad w a => .bad w a
    | .ok a q => if q < b + s.toNat then .bad 6 q else .ok a (b + s.toNat) := P.bind_ok hu
theorem part0_bad {α : Type} {y : P α} {l : List Int} {e p : Nat} {w a : Int} (h : pPart0 l e p = .bad w a) : pPart y l e p = .bad w a := by
  cases hu : pU l e p with
  | bad w' a' =>
    rw [show pPart0 l e p = .bad w' a' from P.bind_bad hu] at h
    rw [show pPart y l e p = .bad w' a' from P.bind_bad hu]
    obtain ⟨rfl, rfl⟩ := Res.bad.inj h; rfl
  | ok s b =>
    rw [part0_u hu] at h
    rw [part_u hu]
    split at h
    · rename_i hs
      obtain ⟨rfl, rfl⟩ := Res.bad.inj h
      rw [if_pos hs]
    · cases h
theorem part0_ok {α : Type} {y : P α} {l : List Int} {e p b q : Nat} (h : pPart0 l e p = .ok b q) : pPart y l e p = match y l q b with
    | .bad w a => .bad w a
    | .ok a q' => if q' < q then .bad 6 q' else .ok a q := by
  cases hu : pU l e p with
  | bad w' a' => rw [show pPart0 l e p = .bad w' a' from P.bind_bad hu] at h; cases h
  | ok s b' =>
    rw [part0_u hu] at h
    rw [part_u hu]
    split at h
    · cases h
    · rename_i hs
      simp only [Res.ok.injEq] at h
      obtain ⟨rfl, rfl⟩ := h
      rw [if_neg hs]
theorem part0_le {l : List Int} {e p b q : Nat} (hb : By l) (hp : p ≤ e) (he : e ≤ l.length) (h : pPart0 l e p = .ok b q) : p < b ∧ b ≤ q ∧ q ≤ e := by
  cases hu : pU l e p with
  | bad w' a' => rw [show pPart0 l e p = .bad w' a' from P.bind_bad hu] at h; cases h
  | ok s b' =>
    rw [part0_u hu] at h
    have := u_bd hb hp he hu
    split at h
    · cases h
    · simp only [Res.ok.injEq] at h
      omega

theorem rows_set {A A' : Nat → Prop} {w w' : World} {b : Nat} {e' : Gh} {cs' : List Value} (hA : ∀ c, A c → A' c ∧ w'.heap[c]? = w.heap[c]?) (hl : cs'.length = 3) (he : e'.lies A' w' cs') : ∀ (es : List Gh) (i off : Nat), i < es.length → Gh.liesRows A w b 3 off es →
    (∀ o v, (o < off + i * 3 ∨ off + i * 3 + 3 ≤ o) → w.cell? ⟨b, o, none⟩ = some v → w'.cell? ⟨b, o, none⟩ = some v) → (∀ j v, cs'[j]? = some v → w'.cell? ⟨b, off + i * 3 + j, none⟩ = some v) → Gh.liesRows A' w' b 3 off (es.set i e')
  | [], i, off, hi, _, _, _ => by simp at hi
  | e :: es, 0, off, hi, ⟨⟨cs, k1, k2, k3⟩, k4⟩, ho, hc => by
    refine ⟨⟨cs', hl, fun j v hj => by have := hc j v hj; simpa using this, he⟩, ?_⟩
    exact rows_rest hA es (off + 3) (fun o v h1 hv => ho o v (.inr (by omega)) hv) k4
  | e :: es, i + 1, off, hi, ⟨⟨cs, k1, k2, k3⟩, k4⟩, ho, hc => by
    refine ⟨⟨cs, k1, fun j v hj => ho _ v (.inl ?_) (k2 j v hj), Gh.lies_keep hA _ _ k3⟩, rows_set hA hl he es i (off + 3) (by simpa using hi) k4 (fun o v h1 hv => ho o v (by omega) hv) (fun j v hj => ?_)⟩
    · have := (List.getElem?_eq_some_iff.1 hj).1; omega
    · have := hc j v hj
      rw [show off + 3 + i * 3 + j = off + (i + 1) * 3 + j by omega]; exact this
where
  rows_rest {A A' : Nat → Prop} {w w' : World} {b : Nat} (hA : ∀ c, A c → A' c ∧ w'.heap[c]? = w.heap[c]?) : ∀ (es : List Gh) (off : Nat), (∀ o v, off ≤ o → w.cell? ⟨b, o, none⟩ = some v → w'.cell? ⟨b, o, none⟩ = some v) → Gh.liesRows A w b 3 off es → Gh.liesRows A' w' b 3 off es
    | [], off, _, _ => trivial
    | e :: es, off, ho, ⟨⟨cs, k1, k2, k3⟩, k4⟩ => ⟨⟨cs, k1, fun j v hj => ho _ v (by omega) (k2 j v hj), Gh.lies_keep hA _ _ k3⟩, rows_rest hA es (off + 3) (fun o v h1 hv => ho o v (by omega) hv) k4⟩

section
variable {w0 : World} {ao : Option Addr} {cap : Nat} {l : List Int} {r dd x e p : Nat} {st : DSt} {tv iv fv gv ev dv : Value} {w : World}

/-- the types, as a body's coder leans on them -/
theorem DI.cc (c : Ctx w0 ao cap l) (hr : nm.Runs w0) (h : DI w0 ao cap l r dd x e p st tv iv fv gv ev dv w) {w2 : World} {S : Nat → Prop} (k : Keep S w w2) (hS : ∀ b, b < w.heap.size → S b → b ≤ dd ∨ b = x ∨ fv.ownBlock = some b) (low : Below w0.heap.size w0 w2) {ta : Option Addr} {tc : Nat} (ht : tv = .slice ta st.m.types.length tc) : CC (trunc w2 w.heap.size) ao cap l ta tc st.m.types := by
  subst ht
  have hsz := k.size
  have h0 := h.rr.low.size
  have lt := Below.trunc low h0 hsz
  refine ⟨⟨c.rd.lift lt, c.ok, c.len⟩, (h.tys.keep (A' := fun _ => True) (w' := trunc w2 w.heap.size) fun b ⟨b1, b2, b3, b4⟩ => ⟨trivial, ?_⟩).vr (fun _ _ => Nat.zero_le _), by have := h.few.1; omega, fun s hs => by have := h.lens s hs; omega, hr.lift lt⟩
  rw [trunc_get w2 w.heap.size b hsz b2]
  exact k.block b b2 (fun hs => by have := hS b b2 hs; rcases this with h | h | h; · omega
                                   · exact b3 h
                                   · exact b4 h)

/-- a function is filled in -/
theorem DI.fset (h : DI w0 ao cap l r dd x e p st tv iv fv gv ev dv w) {g i : Nat} {f : GFunc} {lo : List Int} {bs : List GInstr} {c1 c2 : Value} {w3 : World} (hx : dd < x)
    (hg : fv = .slice (some ⟨g, 0, none⟩) st.m.funcs.length st.m.funcs.length) (hi : i < st.m.funcs.length) (hf : st.m.funcs[i] = f) (k : Keep (fun b => b = x ∨ b = g) w w3) (hx0 : w0.heap.size ≤ x) (hxr : x ≠ r)
    (hrow : Row 52 w3 g (st.m.funcs.length * 3))
    (ho : ∀ o, (o < i * 3 ∨ i * 3 + 3 ≤ o) → w3.cell? ⟨g, o, none⟩ = w.cell? ⟨g, o, none⟩) (hc0 : w3.cell? ⟨g, i * 3, none⟩ = w.cell? ⟨g, i * 3, none⟩) (hc1 : w3.cell? ⟨g, i * 3 + 1, none⟩ = some c1) (hc2 : w3.cell? ⟨g, i * 3 + 2, none⟩ = some c2)
    {B : Nat} (h1 : VR 1 gI B w3 c1 lo) (h2 : VR 9 gInstr B w3 c2 bs) (hB : dd < B) (hBx : x < B) (hBg : g < B) :
    DI w0 ao cap l r dd x e p { st with m := { st.m with funcs := st.m.funcs.set i ⟨f.type, lo, bs⟩ } } tv iv fv gv ev dv w3 := by
  subst hg
  have hd := h.hd
  have hdl := h.blk.lt
  rcases h.funs with ⟨h0, _⟩ | ⟨g', hg', g1, g2, g3, g4⟩
  · cases h0
  · simp only [Value.slice.injEq, Option.some.injEq, Addr.mk.injEq, and_true] at hg'
    subst hg'
    have hglt := g3.lt
    have hA : ∀ b, Av dd x (.slice (some ⟨g, 0, none⟩) st.m.funcs.length st.m.funcs.length) w b → Av dd x (.slice (some ⟨g, 0, none⟩) st.m.funcs.length st.m.funcs.length) w3 b ∧ w3.heap[b]? = w.heap[b]? := by
      intro b ⟨b1, b2, b3, b4⟩
      have hbg : b ≠ g := fun e => b4 (by subst e; rfl)
      exact ⟨⟨b1, Nat.lt_of_lt_of_le b2 k.size, b3, b4⟩, k.block b b2 (by omega)⟩
    have hB0 := h.rr.hB
    refine ⟨h.rr.keep k (by omega) (fun j hj => by omega), (k.block dd hdl (by have := h.hx; omega)).trans h.blk, hd, h.hx, h.tys.keep hA, h.imps.keep hA, h.globs.keep hA, h.exps.keep hA, h.dats.keep hA, ?_, ⟨h.few.1, h.few.2.1, by simpa using h.few.2.2⟩, h.lens⟩
    refine .inr ⟨g, by simp, g1, g2, by simpa using hrow, ?_⟩
    have hAg : ∀ b, (dd < b ∧ b < w.heap.size ∧ b ≠ x ∧ b ≠ g) → (dd < b ∧ b < w3.heap.size ∧ b ≠ x ∧ b ≠ g) ∧ w3.heap[b]? = w.heap[b]? := fun b ⟨b1, b2, b3, b4⟩ => ⟨⟨b1, Nat.lt_of_lt_of_le b2 k.size, b3, b4⟩, k.block b b2 (by omega)⟩
    have hty : w.cell? ⟨g, i * 3, none⟩ = some (.int .i64 f.type) := by
      obtain ⟨cs, h1, h2, h3⟩ := rows_get (i := i) (e := gFunc f) (Gh.liesRows_to (B := 0) (fun _ _ => Nat.zero_le _) _ g 3 0 g4) (by rw [List.getElem?_map, List.getElem?_eq_getElem hi, hf]; rfl)
      match cs, h1 with
      | [a, b, c], _ =>
        have := (open_func h3).1
        subst this
        have := h2 0 _ rfl
        simpa using this
    have hl1 := h1.lv (by decide) (fun _ => trivial)
    have hl2 := h2.lv (by decide) wf_instr
    rw [List.map_set]
    refine rows_set hAg (cs' := [.int .i64 f.type, c1, c2]) rfl ?_ _ i 0 (by simpa using hi) g4 (fun o v h1 hv => by rw [ho o (by omega)]; exact hv) (fun j v hj => ?_)
    · refine ⟨[.int .i64 f.type], [c1, c2], rfl, rfl, [c1], [c2], rfl, ?_, [c2], [], rfl, ?_, rfl⟩
      · exact Gh.lies_keep (fun b ⟨b1, b2⟩ => ⟨⟨by omega, b2, by omega, by omega⟩, rfl⟩) _ _ hl1
      · exact Gh.lies_keep (fun b ⟨b1, b2⟩ => ⟨⟨by omega, b2, by omega, by omega⟩, rfl⟩) _ _ hl2
    · match j, hj with
      | 0, hj => simp at hj; subst hj; rw [Nat.zero_add, Nat.add_zero, hc0]; exact hty
      | 1, hj => simp at hj; subst hj; rw [Nat.zero_add]; exact hc1
      | 2, hj => simp at hj; subst hj; rw [Nat.zero_add]; exact hc2
end
end Go.Proofs.YtgcmdnkmnghhaaaGreatDoor.wm

/- The contract of code: printed by gen_code.py. -/
set_option linter.unusedVariables false
set_option linter.unusedSimpArgs false
namespace Go.Proofs.YtgcmdnkmnghhaaaGreatDoor.wm
open Go.RowKit Go.Proofs.YtgcmdnkmnghhaaaGreatDoor.lb

structure LC (w0 : World) (ao : Option Addr) (cap : Nat) (l : List Int) (r dd x e p es q0 n : Nat) (st : DSt) (tv iv fv gv ev dv : Value) (w : World) (i qi : Nat) (acc fs : List GFunc) (wr : World) : Prop where
  di : DI w0 ao cap l r dd x e p { st with m := { st.m with funcs := acc ++ fs }, bodies := true } tv iv fv gv ev dv wr
  rs : Rr w0 ao cap l x es qi wr
  low : Below dd w wr
  eq : pBodies st.m.types st.m.funcs [] l es q0 = pBodies st.m.types fs acc l es qi
  ni : acc.length = i
  nl : (acc ++ fs).length = n

section
variable {w0 : World} {ao : Option Addr} {cap : Nat} {l : List Int}
set_option maxRecDepth 100000 in
set_option maxHeartbeats 2000000 in
theorem code_any (c : Ctx w0 ao cap l) (hruns : nm.Runs w0) (r dd x e p es b : Nat) (st : DSt) (tv iv fv gv ev dv : Value) (w : World) (h : DI w0 ao cap l r dd x e p st tv iv fv gv ev dv w) (hs : Rr w0 ao cap l x es b w) (hx : dd < x) :
    Calls Tryz.prog 167 #[.pointer (some ⟨dd, 0, none⟩), .pointer (some ⟨x, 0, none⟩)] w (FillPost w0 ao cap l r dd x e p es w (pFill st 10 l es b)) := by
  have hd := h.hd
  have hdl := h.blk.lt
  have hxl := hs.blk.lt
  have hx0 := hs.hB
  have hb := fun k => (c.bd k).1
  have HB := Lib.hid (show By l from hb)
  have HH := Lib.hid h
  have HC := Lib.hid c
  have HS := Lib.hid hs
  have HRN := Lib.hid hruns
  have HU := u_any c x es b w.drew (hs.below (Below.refl _ _).drew)
  obtain ⟨fo, fc, rfl⟩ : ∃ fo fc, fv = .slice fo st.m.funcs.length fc := by
    rcases h.funs with ⟨rfl, h0⟩ | ⟨g, rfl, _⟩
    · exact ⟨none, 0, by rw [h0]; rfl⟩
    · exact ⟨_, _, rfl⟩
  have c3 := h.blk.c 3 rfl
  have x1 := hs.blk.c1
  cases hu : pU l es b with
  | bad why a =>
    have HX := Lib.hid (show pFill st 10 l es b = .bad why a from P.bind_bad hu)
    have HX1 := Lib.hid hu
    have HU := Lib.hid HU
    clear hu h c hb hs hruns
    go_enter Tryz.func167, Tryz.ntmps167
    go_wp2_with fail
    refine wp_region_held_drew (S := fun y => y.cell? ⟨dd, 3, none⟩ = some (.slice fo st.m.funcs.length fc)) (by kernel_rfl) (by go_keep) (fun hHeld => ?_)
    refine wpAnyH_take (i := 0) (v := ?_) rfl (by kernel_rfl) (by kernel_rfl) (by kernel_rfl) (fun _ _ _ h => h) (Or.inl ⟨by rfl, ?_⟩) (by assumption) ?_
    rotate_left
    · intro w hSw; (try dsimp only at hSw); (go_simp <;> with_reducible rfl)
    try simp only [Act.put, List.setIfInBounds_toArray, List.set_cons_zero, List.set_cons_succ]
    refine wpAnyH_take (i := 2) (v := ?_) rfl (by kernel_rfl) (by kernel_rfl) (by kernel_rfl) (fun _ _ _ h => h) (Or.inl ⟨by rfl, ?_⟩) (by assumption) ?_
    rotate_left
    · intro w hSw; (try dsimp only at hSw); (go_simp <;> with_reducible rfl)
    try simp only [Act.put, List.setIfInBounds_toArray, List.set_cons_zero, List.set_cons_succ]
    refine wpAnyH_take (i := 3) (v := ?_) rfl (by kernel_rfl) (by kernel_rfl) (by kernel_rfl) (fun _ _ _ h => h) (Or.inl ⟨by rfl, ?_⟩) (by assumption) ?_
    rotate_left
    · intro w hSw; (try dsimp only at hSw); (go_simp <;> with_reducible rfl)
    try simp only [Act.put, List.setIfInBounds_toArray, List.set_cons_zero, List.set_cons_succ]
    refine wpAnyH_take (i := 4) (v := ?_) rfl (by kernel_rfl) (by kernel_rfl) (by kernel_rfl) (fun _ _ _ h => h) (Or.inl ⟨by rfl, ?_⟩) (by assumption) ?_
    rotate_left
    · intro w hSw; (try dsimp only at hSw); (go_simp <;> with_reducible rfl)
    try simp only [Act.put, List.setIfInBounds_toArray, List.set_cons_zero, List.set_cons_succ]
    refine wpAnyH_take (i := 5) (v := ?_) rfl (by kernel_rfl) (by kernel_rfl) (by kernel_rfl) (fun _ _ _ h => h) (Or.inl ⟨by rfl, ?_⟩) (by assumption) ?_
    rotate_left
    · intro w hSw; (try dsimp only at hSw); (go_simp <;> with_reducible rfl)
    try simp only [Act.put, List.setIfInBounds_toArray, List.set_cons_zero, List.set_cons_succ]
    refine wpAnyH_take (i := 6) (v := ?_) rfl (by kernel_rfl) (by kernel_rfl) (by kernel_rfl) (fun _ _ _ h => h) (Or.inl ⟨by rfl, ?_⟩) (by assumption) ?_
    rotate_left
    · intro w hSw; (try dsimp only at hSw); (go_simp <;> with_reducible rfl)
    try simp only [Act.put, List.setIfInBounds_toArray, List.set_cons_zero, List.set_cons_succ]
    refine wpAnyH_take (i := 7) (v := ?_) rfl (by kernel_rfl) (by kernel_rfl) (by kernel_rfl) (fun _ _ _ h => h) (Or.inl ⟨by rfl, ?_⟩) (by assumption) ?_
    rotate_left
    · intro w hSw; (try dsimp only at hSw); (go_simp <;> with_reducible rfl)
    try simp only [Act.put, List.setIfInBounds_toArray, List.set_cons_zero, List.set_cons_succ]
    refine wpAnyH_ready (rs := [1]) (by kernel_rfl) (by simp) ?_
    refine AllReadyH.cons rfl (fun K hK => ?_) AllReadyH.nil
    go_simp
    refine HU.out.mono ?_
    intro en w2 h2
    obtain ⟨k2, rfl⟩ := h2.bad_elim HX1.out
    exact ⟨rfl, FillPost.wrong HX.out ((Below.refl dd w).drew.trans (k2.lowD (by show dd ≤ w.heap.size; omega) (fun i hi => by omega)))⟩
  | ok n q0 =>
    obtain ⟨n0, n1, _, hq0⟩ := u_bd hb hs.hp hs.he hu
    have HX1 := Lib.hid hu
    have HU := Lib.hid HU
    have hlen32 := h.few.2.2
    by_cases hn : n ≠ st.m.funcs.length
    · have HX := Lib.hid (show pFill st 10 l es b = .bad 6 b from (P.bind_ok hu).trans ((P.ite_pos hn).trans rfl))
      have hne : (n != (st.m.funcs.length : Int)) = true := by simpa using hn
      clear hu h c hb hs hruns hn
      go_enter Tryz.func167, Tryz.ntmps167
      go_wp2_with fail
      go_region_held3 (fun y => y.cell? ⟨dd, 3, none⟩ = some (.slice fo st.m.funcs.length fc)) (first | exact d3 | go_keep) (first | (go_at_call 154; refine HU.out.mono ?_; intro en w2 h2; obtain ⟨k2, v2, rfl, hv2, r2⟩ := h2.ok_elim HX1.out; obtain rfl : v2 = .int .i64 n := hv2; have d3 := ((HH.out.below (Below.refl _ _).drew).sub k2 (by omega) hx0).blk.c 3 rfl; have B2 := Lib.hid ((Below.refl dd w).drew.trans (k2.lowD (by show dd ≤ w.heap.size; omega) (fun i hi => by omega))); clear k2 r2 h2))
      go_wp2_with fail
      refine (fail_any _ _ _).mono ?_
      rintro en w3 ⟨rfl, rfl⟩
      exact ⟨rfl, FillPost.wrong HX.out B2.out⟩
    · obtain rfl : n = st.m.funcs.length := by omega
      have hX0 : pFill st 10 l es b = ((pBodies st.m.types st.m.funcs []).bind fun x => P.ret { st with m := { st.m with funcs := x }, bodies := true }) l es q0 := (P.bind_ok hu).trans (P.ite_neg hn)
      have HX0 := Lib.hid hX0
      have hne : ((st.m.funcs.length : Int) != (st.m.funcs.length : Int)) = false := by simp
      clear hu h c hb hs hruns hn hX0
      go_enter Tryz.func167, Tryz.ntmps167
      go_wp2_with fail
      go_region_held3 (fun y => y.cell? ⟨dd, 3, none⟩ = some (.slice fo st.m.funcs.length fc)) (first | exact d3 | go_keep) (first | (go_at_call 154; refine HU.out.mono ?_; intro en w2 h2; obtain ⟨k2, v2, rfl, hv2, r2⟩ := h2.ok_elim HX1.out; obtain rfl : v2 = .int .i64 st.m.funcs.length := hv2; have D2 := Lib.hid ((HH.out.below (Below.refl _ _).drew).sub k2 (by omega) hx0); have d3 := D2.out.blk.c 3 rfl; have R2 := Lib.hid r2; have B2 := Lib.hid ((Below.refl dd w).drew.trans (k2.lowD (by show dd ≤ w.heap.size; omega) (fun i hi => by omega))); clear k2 r2 h2))
      have d11 := D2.out.blk.c 11 rfl
      have f11 := D2.out.blk.f 11
      have zl := D2.out.blk.lt
      have D3 := Lib.hid (D2.out.field 11 (.bool true) { st with bodies := true } tv iv gv ev dv rfl D2.out.tys D2.out.imps D2.out.globs D2.out.exps D2.out.dats rfl ⟨D2.out.few.1, D2.out.few.2.1⟩ D2.out.lens)
      have kS : Keep (fun i => i = dd) w2 (w2.setCell ⟨dd, 11, none⟩ (.bool true)) := (Keep.refl (fun i => i = dd) w2).set (p := ⟨dd, 11, none⟩) (.inl rfl) _
      have R3 := Lib.hid (R2.out.keep kS (by omega) (fun i hi => by have := HH.out.rr.hB; omega))
      have B3 := Lib.hid (B2.out.trans (kS.lowD (by omega) (fun i hi => by omega)))
      clear kS
      go_wp2
      go_loopw [32] (fun y wr => ∃ (i qi : Nat) (acc fs : List GFunc), y = .int .i64 i ∧ Hid (LC w0 ao cap l r dd x e p es q0 st.m.funcs.length st tv iv (.slice fo st.m.funcs.length fc) gv ev dv w i qi acc fs wr)) (fun y _ => st.m.funcs.length - (intOf y).toNat)
      case atStart => exact ⟨0, q0, [], st.m.funcs, rfl, ⟨D3.out, R3.out, B3.out, rfl, rfl, rfl⟩⟩
      case round =>
        obtain ⟨i, qi, acc, fs, rfl, HL⟩ := hrel
        have hni := HL.out.ni
        have hnl := HL.out.nl
        match fs, HL with
        | [], HL =>
          obtain rfl : i = st.m.funcs.length := by rw [← hni, ← hnl, List.append_nil]
          have HX := Lib.hid (show pFill st 10 l es b = .ok { st with m := { st.m with funcs := acc }, bodies := true } qi from HX0.out.trans ((P.bind_ok (HL.out.eq.trans rfl)).trans rfl))
          clear hni hnl
          go_wp2
          (first | go_end0 | refine bodyPost_ret (results_none rfl _ _ _) rfl ?_)
          exact FillPost.good HX.out HL.out.low (by have := HL.out.di; rw [List.append_nil] at this; exact this) HL.out.rs
        | f :: fs, HL =>
          have hil : i < st.m.funcs.length := by rw [← hni, ← hnl, List.length_append, List.length_cons]; omega
          have hilt : (i : Int) < st.m.funcs.length := by omega
          obtain ⟨g, hfv, hdg, hgx, hrow, _⟩ : ∃ g, Value.slice fo st.m.funcs.length fc = .slice (some ⟨g, 0, none⟩) (acc ++ f :: fs).length (acc ++ f :: fs).length ∧ dd < g ∧ g ≠ x ∧ Row 52 wr g ((acc ++ f :: fs).length * 3) ∧ True := by
            rcases HL.out.di.funs with ⟨h1, h2⟩ | ⟨g, h1, h2, h3, h4, _⟩
            · have h2' := congrArg List.length h2
              simp at h2'
            · exact ⟨g, h1, h2, h3, h4, trivial⟩
          rw [hnl] at hfv hrow
          simp only [Value.slice.injEq, true_and] at hfv
          obtain ⟨rfl, rfl⟩ := hfv
          have HROW := Lib.hid hrow
          have HNL := Lib.hid hnl
          have m3 : wr.cell? ⟨dd, 3, none⟩ = some (.slice (some ⟨g, 0, none⟩) st.m.funcs.length st.m.funcs.length) := HL.out.di.blk.c 3 rfl
          have hwd := HL.out.di.blk.lt
          have hwx := HL.out.rs.blk.lt
          have hwg := hrow.lt
          have hr0 := HH.out.rr.hB
          have hg0 : w0.heap.size ≤ g := by omega
          obtain ⟨ta, tc, rfl⟩ := HL.out.di.tys.slice
          have hxr : x ≠ r := by omega
          have hq1 := HL.out.rs.hp
          have hes := HL.out.rs.he
          clear hnl hrow
          cases hp0 : pPart0 l es qi with
          | bad why a =>
            have HX := Lib.hid (show pFill st 10 l es b = .bad why a from HX0.out.trans (P.bind_bad (HL.out.eq.trans (P.bind_bad (part0_bad hp0)))))
            have HP := Lib.hid hp0
            clear hp0
            go_wp2_with fail
            refine (part_any HC.out x es qi wr HL.out.rs).mono ?_
            rintro en w1 ⟨k1, h1⟩
            rw [HP.out] at h1
            subst h1
            exact ⟨rfl, FillPost.wrong HX.out (HL.out.low.trans (k1.lowD (by omega) (fun i hi => by omega)))⟩
          | ok bq q =>
            have hle := part0_le HB.out hq1 hes hp0
            have HP := Lib.hid hp0
            have hPE := part0_ok (y := (pLocals.bind fun lo => (pBody st.m.types).bind fun b => P.ret (lo, b))) hp0
            have HPE := Lib.hid hPE
            clear hp0 hPE
            cases hlo : pLocals l q bq with
            | bad why a =>
              have HX := Lib.hid (show pFill st 10 l es b = .bad why a from HX0.out.trans (P.bind_bad (HL.out.eq.trans (P.bind_bad (HPE.out.trans (by rw [P.bind_bad hlo]))))))
              have HLO := Lib.hid hlo
              clear hlo
              go_wp2_with fail
              refine (part_any HC.out x es qi wr HL.out.rs).mono ?_
              rintro en w1 ⟨k1, h1⟩
              rw [HP.out] at h1
              simp only at h1
              obtain ⟨r', rfl, hr', rx, rp⟩ := h1
              have D1 := Lib.hid (HL.out.di.sub k1 hxr hx0)
              have m31 : w1.cell? ⟨dd, 3, none⟩ = some (.slice (some ⟨g, 0, none⟩) st.m.funcs.length st.m.funcs.length) := D1.out.blk.c 3 rfl
              have K1 := Lib.hid k1
              have RP := Lib.hid rp
              have RX := Lib.hid rx
              have B1 := Lib.hid (HL.out.low.trans (k1.lowD (B := dd) (by omega) (fun i hi => by omega)))
              have Z1 : wr.heap.size ≤ w1.heap.size := k1.size
              have ZR : r' < w1.heap.size := rp.blk.lt
              clear k1 rx rp
              go_wp2_with fail
              refine (locals_any HC.out r' q bq w1 RP.out).mono ?_
              rintro en w2 h2
              obtain ⟨k2, rfl⟩ := h2.bad_elim HLO.out
              exact ⟨rfl, FillPost.wrong HX.out (B1.out.trans (k2.lowD (by omega) (fun i hi => by omega)))⟩
            | ok lo q2 =>
              have HLO := Lib.hid hlo
              have hle2 := Good.locals.ok HB.out hle.2.1 (by omega) hlo
              have hle2 := And.intro hle2.1 hle2.2.1
              cases hbo : pBody st.m.types l q q2 with
              | bad why a =>
                have HX := Lib.hid (show pFill st 10 l es b = .bad why a from HX0.out.trans (P.bind_bad (HL.out.eq.trans (P.bind_bad (HPE.out.trans (by rw [P.bind_ok hlo, P.bind_bad hbo]))))))
                have HBO := Lib.hid hbo
                clear hlo hbo
                go_wp2_with fail
                refine (part_any HC.out x es qi wr HL.out.rs).mono ?_
                rintro en w1 ⟨k1, h1⟩
                rw [HP.out] at h1
                simp only at h1
                obtain ⟨r', rfl, hr', rx, rp⟩ := h1
                have D1 := Lib.hid (HL.out.di.sub k1 hxr hx0)
                have m31 : w1.cell? ⟨dd, 3, none⟩ = some (.slice (some ⟨g, 0, none⟩) st.m.funcs.length st.m.funcs.length) := D1.out.blk.c 3 rfl
                have K1 := Lib.hid k1
                have RP := Lib.hid rp
                have RX := Lib.hid rx
                have B1 := Lib.hid (HL.out.low.trans (k1.lowD (B := dd) (by omega) (fun i hi => by omega)))
                have Z1 : wr.heap.size ≤ w1.heap.size := k1.size
                have ZR : r' < w1.heap.size := rp.blk.lt
                clear k1 rx rp
                go_wp2_with fail
                refine (locals_any HC.out r' q bq w1 RP.out).mono ?_
                rintro en w2 h2
                obtain ⟨k2, v2, rfl, hv2, r2⟩ := h2.ok_elim HLO.out
                obtain ⟨la, lc, rfl⟩ := VR.slice hv2
                have K2 := Lib.hid (K1.out.new k2 (fun i h1 h2 => by omega))
                have hro2 := HROW.out.keep K2.out (by omega)
                obtain ⟨u1, g1⟩ := hro2.some (k := i * 3 + 1) (by omega)
                have y1 := hro2.fz (i * 3 + 1)
                have kS : Keep (fun b => b = g) w2 (w2.setCell ⟨g, i * 3 + 1, none⟩ (.slice la lo.length lc)) := (Keep.refl (fun b => b = g) w2).set (p := ⟨g, i * 3 + 1, none⟩) (.inl rfl) _
                have K3 := Lib.hid (show Keep (fun b => b = x ∨ b = g) wr (w2.setCell ⟨g, i * 3 + 1, none⟩ (.slice la lo.length lc)) from (K2.out.mono (fun _ _ h => .inl h)).trans (kS.mono (fun _ _ h => .inr h)))
                have G1 := Lib.hid (show (w2.setCell ⟨g, i * 3 + 1, none⟩ (.slice la lo.length lc)).cell? ⟨g, i * 3 + 1, none⟩ = some (.slice la lo.length lc) by simp [go_sem, g1])
                have O3 := Lib.hid (show ∀ o, o ≠ i * 3 + 1 → (w2.setCell ⟨g, i * 3 + 1, none⟩ (.slice la lo.length lc)).cell? ⟨g, o, none⟩ = wr.cell? ⟨g, o, none⟩ from fun o ho => by
                  rw [show (w2.setCell ⟨g, i * 3 + 1, none⟩ (.slice la lo.length lc)).cell? ⟨g, o, none⟩ = w2.cell? ⟨g, o, none⟩ by simp [go_sem, ho]]
                  exact World.cell?_of_block (w := wr) (K2.out.block g hwg (by omega)))
                have HROW3 := Lib.hid (hro2.set (i * 3 + 1) (.slice la lo.length lc))
                have mt : (w2.setCell ⟨g, i * 3 + 1, none⟩ (.slice la lo.length lc)).cell? ⟨dd, 1, none⟩ = some (.slice ta st.m.types.length tc) := by
                  rw [World.cell?_of_block (w := wr) (K3.out.block dd hwd (by omega))]; exact HL.out.di.blk.c 1 rfl
                have low3 : Below w0.heap.size w0 (w2.setCell ⟨g, i * 3 + 1, none⟩ (.slice la lo.length lc)) := K3.out.low HL.out.rs.low (Nat.le_refl _) (fun i hi => by omega)
                have CCX := Lib.hid (HL.out.di.cc HC.out HRN.out K3.out (fun b _ hb => by rcases hb with hb | hb; · exact .inr (.inl hb)
                                                                                          · subst hb; exact .inr (.inr rfl)) low3 (w2 := w2.setCell ⟨g, i * 3 + 1, none⟩ (.slice la lo.length lc)) rfl)
                have r3 := r2.keep kS (by omega) (fun i hi => by omega)
                have Z3 : wr.heap.size ≤ (w2.setCell ⟨g, i * 3 + 1, none⟩ (.slice la lo.length lc)).heap.size := K3.out.size
                have RT := Lib.hid (show Rr (trunc (w2.setCell ⟨g, i * 3 + 1, none⟩ (.slice la lo.length lc)) wr.heap.size) ao cap l r' q q2 _ from ⟨trunc_below _ _ Z3, r3.blk, by rw [trunc_size _ _ Z3]; exact hr', r3.hp, r3.he⟩)
                have B3' := Lib.hid ((B1.out.trans (k2.lowD (B := dd) (by omega) (fun i hi => by omega))).trans (kS.lowD (B := dd) (by have := k2.size; omega) (fun i hi => by omega)))
                have V2 := Lib.hid (Gh.is.keep hv2 (B' := w1.heap.size) (Nat.le_refl _) (Same.keep kS (fun i h1 h2 => by omega)))
                have R3' := Lib.hid r3
                have RX3 := Lib.hid ((RX.out.keep k2 (by omega) (fun i hi => by omega)).keep kS (by omega) (fun i hi => by omega))
                have Z2 : w1.heap.size ≤ w2.heap.size := k2.size
                have Z23 : w2.heap.size ≤ (w2.setCell ⟨g, i * 3 + 1, none⟩ (.slice la lo.length lc)).heap.size := kS.size
                clear h2 k2 r2 hv2 kS r3 hro2 low3 Z3
                go_wp2_with fail
                refine (body_any CCX.out r' q q2 _ RT.out).mono ?_
                rintro en w4 h4
                obtain ⟨k4, rfl⟩ := h4.bad_elim HBO.out
                exact ⟨rfl, FillPost.wrong HX.out (B3'.out.trans (k4.lowD (by have := K3.out.size; omega) (fun i hi => by omega)))⟩
              | ok bs q3 =>
                have HBO := Lib.hid hbo
                have hle3 := (Good.body st.m.types).ok HB.out hle2.2 (by omega) hbo
                have hle3 := And.intro hle3.1 hle3.2.1
                have hYE : (pLocals.bind fun lo => (pBody st.m.types).bind fun b => P.ret (lo, b)) l q bq = .ok (lo, bs) q3 := (P.bind_ok hlo).trans ((P.bind_ok hbo).trans rfl)
                by_cases hcl : q3 < q
                · have HX := Lib.hid (show pFill st 10 l es b = .bad 6 q3 from HX0.out.trans (P.bind_bad (HL.out.eq.trans (P.bind_bad (HPE.out.trans (by rw [hYE]; simp only [if_pos hcl]))))))
                  clear hlo hbo hYE
                  go_wp2_with fail
                  refine (part_any HC.out x es qi wr HL.out.rs).mono ?_
                  rintro en w1 ⟨k1, h1⟩
                  rw [HP.out] at h1
                  simp only at h1
                  obtain ⟨r', rfl, hr', rx, rp⟩ := h1
                  have D1 := Lib.hid (HL.out.di.sub k1 hxr hx0)
                  have m31 : w1.cell? ⟨dd, 3, none⟩ = some (.slice (some ⟨g, 0, none⟩) st.m.funcs.length st.m.funcs.length) := D1.out.blk.c 3 rfl
                  have K1 := Lib.hid k1
                  have RP := Lib.hid rp
                  have RX := Lib.hid rx
                  have B1 := Lib.hid (HL.out.low.trans (k1.lowD (B := dd) (by omega) (fun i hi => by omega)))
                  have Z1 : wr.heap.size ≤ w1.heap.size := k1.size
                  have ZR : r' < w1.heap.size := rp.blk.lt
                  clear k1 rx rp
                  go_wp2_with fail
                  refine (locals_any HC.out r' q bq w1 RP.out).mono ?_
                  rintro en w2 h2
                  obtain ⟨k2, v2, rfl, hv2, r2⟩ := h2.ok_elim HLO.out
                  obtain ⟨la, lc, rfl⟩ := VR.slice hv2
                  have K2 := Lib.hid (K1.out.new k2 (fun i h1 h2 => by omega))
                  have hro2 := HROW.out.keep K2.out (by omega)
                  obtain ⟨u1, g1⟩ := hro2.some (k := i * 3 + 1) (by omega)
                  have y1 := hro2.fz (i * 3 + 1)
                  have kS : Keep (fun b => b = g) w2 (w2.setCell ⟨g, i * 3 + 1, none⟩ (.slice la lo.length lc)) := (Keep.refl (fun b => b = g) w2).set (p := ⟨g, i * 3 + 1, none⟩) (.inl rfl) _
                  have K3 := Lib.hid (show Keep (fun b => b = x ∨ b = g) wr (w2.setCell ⟨g, i * 3 + 1, none⟩ (.slice la lo.length lc)) from (K2.out.mono (fun _ _ h => .inl h)).trans (kS.mono (fun _ _ h => .inr h)))
                  have G1 := Lib.hid (show (w2.setCell ⟨g, i * 3 + 1, none⟩ (.slice la lo.length lc)).cell? ⟨g, i * 3 + 1, none⟩ = some (.slice la lo.length lc) by simp [go_sem, g1])
                  have O3 := Lib.hid (show ∀ o, o ≠ i * 3 + 1 → (w2.setCell ⟨g, i * 3 + 1, none⟩ (.slice la lo.length lc)).cell? ⟨g, o, none⟩ = wr.cell? ⟨g, o, none⟩ from fun o ho => by
                    rw [show (w2.setCell ⟨g, i * 3 + 1, none⟩ (.slice la lo.length lc)).cell? ⟨g, o, none⟩ = w2.cell? ⟨g, o, none⟩ by simp [go_sem, ho]]
                    exact World.cell?_of_block (w := wr) (K2.out.block g hwg (by omega)))
                  have HROW3 := Lib.hid (hro2.set (i * 3 + 1) (.slice la lo.length lc))
                  have mt : (w2.setCell ⟨g, i * 3 + 1, none⟩ (.slice la lo.length lc)).cell? ⟨dd, 1, none⟩ = some (.slice ta st.m.types.length tc) := by
                    rw [World.cell?_of_block (w := wr) (K3.out.block dd hwd (by omega))]; exact HL.out.di.blk.c 1 rfl
                  have low3 : Below w0.heap.size w0 (w2.setCell ⟨g, i * 3 + 1, none⟩ (.slice la lo.length lc)) := K3.out.low HL.out.rs.low (Nat.le_refl _) (fun i hi => by omega)
                  have CCX := Lib.hid (HL.out.di.cc HC.out HRN.out K3.out (fun b _ hb => by rcases hb with hb | hb; · exact .inr (.inl hb)
                                                                                            · subst hb; exact .inr (.inr rfl)) low3 (w2 := w2.setCell ⟨g, i * 3 + 1, none⟩ (.slice la lo.length lc)) rfl)
                  have r3 := r2.keep kS (by omega) (fun i hi => by omega)
                  have Z3 : wr.heap.size ≤ (w2.setCell ⟨g, i * 3 + 1, none⟩ (.slice la lo.length lc)).heap.size := K3.out.size
                  have RT := Lib.hid (show Rr (trunc (w2.setCell ⟨g, i * 3 + 1, none⟩ (.slice la lo.length lc)) wr.heap.size) ao cap l r' q q2 _ from ⟨trunc_below _ _ Z3, r3.blk, by rw [trunc_size _ _ Z3]; exact hr', r3.hp, r3.he⟩)
                  have B3' := Lib.hid ((B1.out.trans (k2.lowD (B := dd) (by omega) (fun i hi => by omega))).trans (kS.lowD (B := dd) (by have := k2.size; omega) (fun i hi => by omega)))
                  have V2 := Lib.hid (Gh.is.keep hv2 (B' := w1.heap.size) (Nat.le_refl _) (Same.keep kS (fun i h1 h2 => by omega)))
                  have R3' := Lib.hid r3
                  have RX3 := Lib.hid ((RX.out.keep k2 (by omega) (fun i hi => by omega)).keep kS (by omega) (fun i hi => by omega))
                  have Z2 : w1.heap.size ≤ w2.heap.size := k2.size
                  have Z23 : w2.heap.size ≤ (w2.setCell ⟨g, i * 3 + 1, none⟩ (.slice la lo.length lc)).heap.size := kS.size
                  clear h2 k2 r2 hv2 kS r3 hro2 low3 Z3
                  go_wp2_with fail
                  refine (body_any CCX.out r' q q2 _ RT.out).mono ?_
                  rintro en w4 h4
                  obtain ⟨k4, v4, rfl, hv4, r4⟩ := h4.ok_elim HBO.out
                  obtain ⟨ba, bc, rfl⟩ := VR.slice hv4
                  have Z3 := K3.out.size
                  have hro4 := HROW3.out.keep k4 (by omega)
                  obtain ⟨u2, g2⟩ := hro4.some (k := i * 3 + 2) (by omega)
                  have y2 := hro4.fz (i * 3 + 2)
                  have kS : Keep (fun b => b = g) w4 (w4.setCell ⟨g, i * 3 + 2, none⟩ (.slice ba bs.length bc)) := (Keep.refl (fun b => b = g) w4).set (p := ⟨g, i * 3 + 2, none⟩) (.inl rfl) _
                  have K5 := Lib.hid ((K3.out.new k4 (fun i h1 h2 => by omega)).trans (kS.mono (fun _ _ h => .inr h)))
                  have O5' : ∀ o, o ≠ i * 3 + 1 → o ≠ i * 3 + 2 → (w4.setCell ⟨g, i * 3 + 2, none⟩ (.slice ba bs.length bc)).cell? ⟨g, o, none⟩ = wr.cell? ⟨g, o, none⟩ := fun o h1 h2 => by
                    rw [show (w4.setCell ⟨g, i * 3 + 2, none⟩ (.slice ba bs.length bc)).cell? ⟨g, o, none⟩ = w4.cell? ⟨g, o, none⟩ by simp [go_sem, h2], World.cell?_of_block (w := w2.setCell ⟨g, i * 3 + 1, none⟩ (.slice la lo.length lc)) (k4.block g (by omega) (by omega))]
                    exact O3.out o h1
                  have O5 := Lib.hid (show ∀ o, (o < i * 3 ∨ i * 3 + 3 ≤ o) → _ from fun o ho => O5' o (by omega) (by omega))
                  have O50 := Lib.hid (O5' (i * 3) (by omega) (by omega))
                  have O51 := Lib.hid (show (w4.setCell ⟨g, i * 3 + 2, none⟩ (.slice ba bs.length bc)).cell? ⟨g, i * 3 + 1, none⟩ = some (.slice la lo.length lc) by
                    rw [show (w4.setCell ⟨g, i * 3 + 2, none⟩ (.slice ba bs.length bc)).cell? ⟨g, i * 3 + 1, none⟩ = w4.cell? ⟨g, i * 3 + 1, none⟩ by simp [go_sem], World.cell?_of_block (w := w2.setCell ⟨g, i * 3 + 1, none⟩ (.slice la lo.length lc)) (k4.block g (by omega) (by omega))]
                    exact G1.out)
                  have O52 := Lib.hid (show (w4.setCell ⟨g, i * 3 + 2, none⟩ (.slice ba bs.length bc)).cell? ⟨g, i * 3 + 2, none⟩ = some (.slice ba bs.length bc) by simp [go_sem, g2])
                  have HROW5 := Lib.hid (hro4.set (i * 3 + 2) (.slice ba bs.length bc))
                  have s54 : Same (wr.heap.size + 1) w4 (w4.setCell ⟨g, i * 3 + 2, none⟩ (.slice ba bs.length bc)) := Same.keep kS (fun i h1 h2 => by omega)
                  have V51 := Lib.hid (Gh.is.keep (Gh.is.keep (Gh.is.keep V2.out (B' := w1.heap.size) (Nat.le_refl _) (Same.keep k4 (fun i h1 h2 => by omega))) (B' := wr.heap.size + 1) (by omega) (Same.rfl (w := w4))) (B' := wr.heap.size + 1) (Nat.le_refl _) s54)
                  have V52 := Lib.hid (Gh.is.keep (Gh.is.keep hv4 (B' := wr.heap.size + 1) (by omega) (Same.rfl (w := w4))) (B' := wr.heap.size + 1) (Nat.le_refl _) s54)
                  have R5 := Lib.hid (show Rr w0 ao cap l r' q q3 _ from (⟨k4.low R3'.out.low (Nat.le_refl _) (fun i hi => by omega), r4.blk, R3'.out.hB, r4.hp, r4.he⟩ : Rr w0 ao cap l r' q q3 w4).keep kS (by omega) (fun i hi => by omega))
                  have RX5 := Lib.hid ((RX3.out.keep k4 (by omega) (fun i hi => by omega)).keep kS (by omega) (fun i hi => by omega))
                  have B5 := Lib.hid ((B3'.out.trans (k4.lowD (B := dd) (by omega) (fun i hi => by omega))).trans (kS.lowD (B := dd) (by have := k4.size; omega) (fun i hi => by omega)))
                  have Z5 := K5.out.size
                  clear h4 k4 r4 hv4 kS hro4 O5' s54
                  go_wp2_with fail
                  refine (close_any HC.out r' q q3 _ R5.out).mono ?_
                  rintro en w6 ⟨h6, hb6⟩
                  rw [if_pos hcl] at h6
                  subst h6
                  exact ⟨rfl, FillPost.wrong HX.out (B5.out.trans (hb6.mono (by omega)))⟩
                · have HEQ := Lib.hid (show pBodies st.m.types st.m.funcs [] l es q0 = pBodies st.m.types fs (acc ++ [⟨f.type, lo, bs⟩]) l es q from HL.out.eq.trans (P.bind_ok (a := (lo, bs)) (p' := q) (HPE.out.trans (by rw [hYE]; simp only [if_neg hcl]))))
                  clear hlo hbo hYE
                  go_wp2_with fail
                  refine (part_any HC.out x es qi wr HL.out.rs).mono ?_
                  rintro en w1 ⟨k1, h1⟩
                  rw [HP.out] at h1
                  simp only at h1
                  obtain ⟨r', rfl, hr', rx, rp⟩ := h1
                  have D1 := Lib.hid (HL.out.di.sub k1 hxr hx0)
                  have m31 : w1.cell? ⟨dd, 3, none⟩ = some (.slice (some ⟨g, 0, none⟩) st.m.funcs.length st.m.funcs.length) := D1.out.blk.c 3 rfl
                  have K1 := Lib.hid k1
                  have RP := Lib.hid rp
                  have RX := Lib.hid rx
                  have B1 := Lib.hid (HL.out.low.trans (k1.lowD (B := dd) (by omega) (fun i hi => by omega)))
                  have Z1 : wr.heap.size ≤ w1.heap.size := k1.size
                  have ZR : r' < w1.heap.size := rp.blk.lt
                  clear k1 rx rp
                  go_wp2_with fail
                  refine (locals_any HC.out r' q bq w1 RP.out).mono ?_
                  rintro en w2 h2
                  obtain ⟨k2, v2, rfl, hv2, r2⟩ := h2.ok_elim HLO.out
                  obtain ⟨la, lc, rfl⟩ := VR.slice hv2
                  have K2 := Lib.hid (K1.out.new k2 (fun i h1 h2 => by omega))
                  have hro2 := HROW.out.keep K2.out (by omega)
                  obtain ⟨u1, g1⟩ := hro2.some (k := i * 3 + 1) (by omega)
                  have y1 := hro2.fz (i * 3 + 1)
                  have kS : Keep (fun b => b = g) w2 (w2.setCell ⟨g, i * 3 + 1, none⟩ (.slice la lo.length lc)) := (Keep.refl (fun b => b = g) w2).set (p := ⟨g, i * 3 + 1, none⟩) (.inl rfl) _
                  have K3 := Lib.hid (show Keep (fun b => b = x ∨ b = g) wr (w2.setCell ⟨g, i * 3 + 1, none⟩ (.slice la lo.length lc)) from (K2.out.mono (fun _ _ h => .inl h)).trans (kS.mono (fun _ _ h => .inr h)))
                  have G1 := Lib.hid (show (w2.setCell ⟨g, i * 3 + 1, none⟩ (.slice la lo.length lc)).cell? ⟨g, i * 3 + 1, none⟩ = some (.slice la lo.length lc) by simp [go_sem, g1])
                  have O3 := Lib.hid (show ∀ o, o ≠ i * 3 + 1 → (w2.setCell ⟨g, i * 3 + 1, none⟩ (.slice la lo.length lc)).cell? ⟨g, o, none⟩ = wr.cell? ⟨g, o, none⟩ from fun o ho => by
                    rw [show (w2.setCell ⟨g, i * 3 + 1, none⟩ (.slice la lo.length lc)).cell? ⟨g, o, none⟩ = w2.cell? ⟨g, o, none⟩ by simp [go_sem, ho]]
                    exact World.cell?_of_block (w := wr) (K2.out.block g hwg (by omega)))
                  have HROW3 := Lib.hid (hro2.set (i * 3 + 1) (.slice la lo.length lc))
                  have mt : (w2.setCell ⟨g, i * 3 + 1, none⟩ (.slice la lo.length lc)).cell? ⟨dd, 1, none⟩ = some (.slice ta st.m.types.length tc) := by
                    rw [World.cell?_of_block (w := wr) (K3.out.block dd hwd (by omega))]; exact HL.out.di.blk.c 1 rfl
                  have low3 : Below w0.heap.size w0 (w2.setCell ⟨g, i * 3 + 1, none⟩ (.slice la lo.length lc)) := K3.out.low HL.out.rs.low (Nat.le_refl _) (fun i hi => by omega)
                  have CCX := Lib.hid (HL.out.di.cc HC.out HRN.out K3.out (fun b _ hb => by rcases hb with hb | hb; · exact .inr (.inl hb)
                                                                                            · subst hb; exact .inr (.inr rfl)) low3 (w2 := w2.setCell ⟨g, i * 3 + 1, none⟩ (.slice la lo.length lc)) rfl)
                  have r3 := r2.keep kS (by omega) (fun i hi => by omega)
                  have Z3 : wr.heap.size ≤ (w2.setCell ⟨g, i * 3 + 1, none⟩ (.slice la lo.length lc)).heap.size := K3.out.size
                  have RT := Lib.hid (show Rr (trunc (w2.setCell ⟨g, i * 3 + 1, none⟩ (.slice la lo.length lc)) wr.heap.size) ao cap l r' q q2 _ from ⟨trunc_below _ _ Z3, r3.blk, by rw [trunc_size _ _ Z3]; exact hr', r3.hp, r3.he⟩)
                  have B3' := Lib.hid ((B1.out.trans (k2.lowD (B := dd) (by omega) (fun i hi => by omega))).trans (kS.lowD (B := dd) (by have := k2.size; omega) (fun i hi => by omega)))
                  have V2 := Lib.hid (Gh.is.keep hv2 (B' := w1.heap.size) (Nat.le_refl _) (Same.keep kS (fun i h1 h2 => by omega)))
                  have R3' := Lib.hid r3
                  have RX3 := Lib.hid ((RX.out.keep k2 (by omega) (fun i hi => by omega)).keep kS (by omega) (fun i hi => by omega))
                  have Z2 : w1.heap.size ≤ w2.heap.size := k2.size
                  have Z23 : w2.heap.size ≤ (w2.setCell ⟨g, i * 3 + 1, none⟩ (.slice la lo.length lc)).heap.size := kS.size
                  clear h2 k2 r2 hv2 kS r3 hro2 low3 Z3
                  go_wp2_with fail
                  refine (body_any CCX.out r' q q2 _ RT.out).mono ?_
                  rintro en w4 h4
                  obtain ⟨k4, v4, rfl, hv4, r4⟩ := h4.ok_elim HBO.out
                  obtain ⟨ba, bc, rfl⟩ := VR.slice hv4
                  have Z3 := K3.out.size
                  have hro4 := HROW3.out.keep k4 (by omega)
                  obtain ⟨u2, g2⟩ := hro4.some (k := i * 3 + 2) (by omega)
                  have y2 := hro4.fz (i * 3 + 2)
                  have kS : Keep (fun b => b = g) w4 (w4.setCell ⟨g, i * 3 + 2, none⟩ (.slice ba bs.length bc)) := (Keep.refl (fun b => b = g) w4).set (p := ⟨g, i * 3 + 2, none⟩) (.inl rfl) _
                  have K5 := Lib.hid ((K3.out.new k4 (fun i h1 h2 => by omega)).trans (kS.mono (fun _ _ h => .inr h)))
                  have O5' : ∀ o, o ≠ i * 3 + 1 → o ≠ i * 3 + 2 → (w4.setCell ⟨g, i * 3 + 2, none⟩ (.slice ba bs.length bc)).cell? ⟨g, o, none⟩ = wr.cell? ⟨g, o, none⟩ := fun o h1 h2 => by
                    rw [show (w4.setCell ⟨g, i * 3 + 2, none⟩ (.slice ba bs.length bc)).cell? ⟨g, o, none⟩ = w4.cell? ⟨g, o, none⟩ by simp [go_sem, h2], World.cell?_of_block (w := w2.setCell ⟨g, i * 3 + 1, none⟩ (.slice la lo.length lc)) (k4.block g (by omega) (by omega))]
                    exact O3.out o h1
                  have O5 := Lib.hid (show ∀ o, (o < i * 3 ∨ i * 3 + 3 ≤ o) → _ from fun o ho => O5' o (by omega) (by omega))
                  have O50 := Lib.hid (O5' (i * 3) (by omega) (by omega))
                  have O51 := Lib.hid (show (w4.setCell ⟨g, i * 3 + 2, none⟩ (.slice ba bs.length bc)).cell? ⟨g, i * 3 + 1, none⟩ = some (.slice la lo.length lc) by
                    rw [show (w4.setCell ⟨g, i * 3 + 2, none⟩ (.slice ba bs.length bc)).cell? ⟨g, i * 3 + 1, none⟩ = w4.cell? ⟨g, i * 3 + 1, none⟩ by simp [go_sem], World.cell?_of_block (w := w2.setCell ⟨g, i * 3 + 1, none⟩ (.slice la lo.length lc)) (k4.block g (by omega) (by omega))]
                    exact G1.out)
                  have O52 := Lib.hid (show (w4.setCell ⟨g, i * 3 + 2, none⟩ (.slice ba bs.length bc)).cell? ⟨g, i * 3 + 2, none⟩ = some (.slice ba bs.length bc) by simp [go_sem, g2])
                  have HROW5 := Lib.hid (hro4.set (i * 3 + 2) (.slice ba bs.length bc))
                  have s54 : Same (wr.heap.size + 1) w4 (w4.setCell ⟨g, i * 3 + 2, none⟩ (.slice ba bs.length bc)) := Same.keep kS (fun i h1 h2 => by omega)
                  have V51 := Lib.hid (Gh.is.keep (Gh.is.keep (Gh.is.keep V2.out (B' := w1.heap.size) (Nat.le_refl _) (Same.keep k4 (fun i h1 h2 => by omega))) (B' := wr.heap.size + 1) (by omega) (Same.rfl (w := w4))) (B' := wr.heap.size + 1) (Nat.le_refl _) s54)
                  have V52 := Lib.hid (Gh.is.keep (Gh.is.keep hv4 (B' := wr.heap.size + 1) (by omega) (Same.rfl (w := w4))) (B' := wr.heap.size + 1) (Nat.le_refl _) s54)
                  have R5 := Lib.hid (show Rr w0 ao cap l r' q q3 _ from (⟨k4.low R3'.out.low (Nat.le_refl _) (fun i hi => by omega), r4.blk, R3'.out.hB, r4.hp, r4.he⟩ : Rr w0 ao cap l r' q q3 w4).keep kS (by omega) (fun i hi => by omega))
                  have RX5 := Lib.hid ((RX3.out.keep k4 (by omega) (fun i hi => by omega)).keep kS (by omega) (fun i hi => by omega))
                  have B5 := Lib.hid ((B3'.out.trans (k4.lowD (B := dd) (by omega) (fun i hi => by omega))).trans (kS.lowD (B := dd) (by have := k4.size; omega) (fun i hi => by omega)))
                  have Z5 := K5.out.size
                  clear h4 k4 r4 hv4 kS hro4 O5' s54
                  go_wp2_with fail
                  refine (close_any HC.out r' q q3 _ R5.out).mono ?_
                  rintro en w6 ⟨h6, hb6⟩
                  rw [if_neg hcl] at h6
                  subst h6
                  have hfi : (acc ++ f :: fs)[i]'(by rw [HNL.out]; exact hil) = f := by
                    rw [List.getElem_append_right (by omega)]; simp [hni]
                  have hset : (acc ++ f :: fs).set i ⟨f.type, lo, bs⟩ = (acc ++ [⟨f.type, lo, bs⟩]) ++ fs := by
                    rw [List.set_append_right i _ (by omega), hni, Nat.sub_self]; simp
                  have D6 := HL.out.di.fset (g := g) (i := i) (f := f) (lo := lo) (bs := bs) hx (by rw [HNL.out]) (by rw [HNL.out]; exact hil) hfi K5.out hx0 hxr (by rw [HNL.out]; exact HROW5.out) O5.out O50.out O51.out O52.out V51.out V52.out (B := wr.heap.size + 1) (by omega) (by omega) (by omega)
                  have HN := Lib.hid (show LC w0 ao cap l r dd x e p es q0 st.m.funcs.length st (.slice ta st.m.types.length tc) iv (.slice (some ⟨g, 0, none⟩) st.m.funcs.length st.m.funcs.length) gv ev dv w (i + 1) q (acc ++ [⟨f.type, lo, bs⟩]) fs w6 from
                    ⟨by have := D6.below hb6; simp only [hset] at this; exact this, (RX5.out.below hb6), B5.out.trans (hb6.mono (by omega)), HEQ.out, by rw [List.length_append, hni]; rfl, by rw [← HNL.out]; simp⟩)
                  clear D6 hset hfi
                  go_wp2
                  go_roundw
                  case rel => exact ⟨i + 1, q, _, fs, by go_num, HN.out⟩
                  case measure => simp [intOf]; omega
end
end Go.Proofs.YtgcmdnkmnghhaaaGreatDoor.wm

/- The contracts of fill at the other sections: printed by gen_fill.py. -/
set_option linter.unusedVariables false
set_option linter.unusedSimpArgs false
namespace Go.Proofs.YtgcmdnkmnghhaaaGreatDoor.wm
open Go.RowKit Go.Proofs.YtgcmdnkmnghhaaaGreatDoor.lb
section
variable {w0 : World} {ao : Option Addr} {cap : Nat} {l : List Int}

set_option maxRecDepth 100000 in
set_option maxHeartbeats 1000000 in
theorem fill_6 (c : Ctx w0 ao cap l) (r dd x e p es b : Nat) (st : DSt) (tv iv fv gv ev dv : Value) (w : World) (h : DI w0 ao cap l r dd x e p st tv iv fv gv ev dv w) (hs : Rr w0 ao cap l x es b w) (hx : dd < x) :
    Calls Tryz.prog 108 #[.pointer (some ⟨dd, 0, none⟩), .int .i64 6, .pointer (some ⟨x, 0, none⟩)] w (FillPost w0 ao cap l r dd x e p es w (pFill st 6 l es b)) := by
  have hd := h.hd
  have hdl := h.blk.lt
  have hxl := hs.blk.lt
  have hx0 := hs.hB
  have hb := fun k => (c.bd k).1
  have HH := Lib.hid h
  have HC := Lib.hid c
  have HL := list_globals c x es b w hs 32 (by decide) (fun q w' h' => global_any c x es q w' h')
  cases hm : pList 32 pGlobal l es b with
  | bad why a =>
    have HX := Lib.hid (show pFill st 6 l es b = .bad why a from P.bind_bad hm)
    have HX1 := Lib.hid hm
    have HL := Lib.hid HL
    clear hm h c hb
    go_enter Tryz.func108, Tryz.ntmps108
    go_wp2_with fail
    refine HL.out.mono ?_
    rintro en w1 h1
    obtain ⟨k1, rfl⟩ := h1.bad_elim HX1.out
    exact ⟨rfl, FillPost.wrong HX.out (k1.lowD (by omega) (fun i hi => by omega))⟩
  | ok xs q =>
    have HX := Lib.hid (show pFill st 6 l es b = .ok { st with m := { st.m with globals := xs } } q from (P.bind_ok hm).trans rfl)
    have HX1 := Lib.hid hm
    have hfew := pList_few hb hs.hp hs.he hm
    skip
    have HL := Lib.hid HL
    clear hm h c hb
    go_enter Tryz.func108, Tryz.ntmps108
    go_wp2_with fail
    refine HL.out.mono ?_
    rintro en w1 h1
    obtain ⟨k1, v1, rfl, hv1, r1⟩ := h1.ok_elim HX1.out
    obtain ⟨va, vc, rfl⟩ := VR.slice hv1
    have hn := lv_new (dd := dd) (x := x) (fv := fv) hv1 (by decide) wf_global (by omega) (by omega) (fun b hb => HH.out.flt hb)
    have h1 := HH.out.sub k1 (by omega) hx0
    have dc := h1.blk.c 6 rfl
    have df := h1.blk.f 6
    have HN := Lib.hid (h1.field 6 (.slice va xs.length vc) { st with m := { st.m with globals := xs } } tv iv (.slice va xs.length vc) ev dv rfl h1.tys h1.imps hn h1.exps h1.dats rfl ⟨HH.out.few.1, HH.out.few.2.1⟩ HH.out.lens)
    have KS : Keep (fun i => i = dd) w1 (w1.setCell ⟨dd, 6, none⟩ (.slice va xs.length vc)) := (Keep.refl (fun i => i = dd) w1).set (p := ⟨dd, 6, none⟩) (.inl rfl) _
    have R2 := Lib.hid (r1.keep KS (by omega) (fun i hi => by have := HH.out.rr.hB; omega))
    have BL := Lib.hid ((k1.lowD (B := dd) (by omega) (fun i hi => by omega)).trans (KS.lowD (by have := k1.size; omega) (fun i hi => by omega)))
    clear hv1 hn h1 k1 r1 KS
    go_wp2
    (first | go_end0 | refine bodyPost_ret (results_none rfl _ _ _) rfl ?_)
    exact FillPost.good HX.out BL.out HN.out R2.out

set_option maxRecDepth 100000 in
set_option maxHeartbeats 1000000 in
theorem fill_7 (c : Ctx w0 ao cap l) (r dd x e p es b : Nat) (st : DSt) (tv iv fv gv ev dv : Value) (w : World) (h : DI w0 ao cap l r dd x e p st tv iv fv gv ev dv w) (hs : Rr w0 ao cap l x es b w) (hx : dd < x) :
    Calls Tryz.prog 108 #[.pointer (some ⟨dd, 0, none⟩), .int .i64 7, .pointer (some ⟨x, 0, none⟩)] w (FillPost w0 ao cap l r dd x e p es w (pFill st 7 l es b)) := by
  have hd := h.hd
  have hdl := h.blk.lt
  have hxl := hs.blk.lt
  have hx0 := hs.hB
  have hb := fun k => (c.bd k).1
  have HH := Lib.hid h
  have HC := Lib.hid c
  have HL := list_exports c x es b w hs 32 (by decide) (fun q w' h' => export_any c x es q w' h')
  cases hm : pList 32 pExport l es b with
  | bad why a =>
    have HX := Lib.hid (show pFill st 7 l es b = .bad why a from P.bind_bad hm)
    have HX1 := Lib.hid hm
    have HL := Lib.hid HL
    clear hm h c hb
    go_enter Tryz.func108, Tryz.ntmps108
    go_wp2_with fail
    refine HL.out.mono ?_
    rintro en w1 h1
    obtain ⟨k1, rfl⟩ := h1.bad_elim HX1.out
    exact ⟨rfl, FillPost.wrong HX.out (k1.lowD (by omega) (fun i hi => by omega))⟩
  | ok xs q =>
    have HX := Lib.hid (show pFill st 7 l es b = .ok { st with m := { st.m with exports := xs } } q from (P.bind_ok hm).trans rfl)
    have HX1 := Lib.hid hm
    have hfew := pList_few hb hs.hp hs.he hm
    skip
    have HL := Lib.hid HL
    clear hm h c hb
    go_enter Tryz.func108, Tryz.ntmps108
    go_wp2_with fail
    refine HL.out.mono ?_
    rintro en w1 h1
    obtain ⟨k1, v1, rfl, hv1, r1⟩ := h1.ok_elim HX1.out
    obtain ⟨va, vc, rfl⟩ := VR.slice hv1
    have hn := lv_new (dd := dd) (x := x) (fv := fv) hv1 (by decide) wf_export (by omega) (by omega) (fun b hb => HH.out.flt hb)
    have h1 := HH.out.sub k1 (by omega) hx0
    have dc := h1.blk.c 7 rfl
    have df := h1.blk.f 7
    have HN := Lib.hid (h1.field 7 (.slice va xs.length vc) { st with m := { st.m with exports := xs } } tv iv gv (.slice va xs.length vc) dv rfl h1.tys h1.imps h1.globs hn h1.dats rfl ⟨HH.out.few.1, HH.out.few.2.1⟩ HH.out.lens)
    have KS : Keep (fun i => i = dd) w1 (w1.setCell ⟨dd, 7, none⟩ (.slice va xs.length vc)) := (Keep.refl (fun i => i = dd) w1).set (p := ⟨dd, 7, none⟩) (.inl rfl) _
    have R2 := Lib.hid (r1.keep KS (by omega) (fun i hi => by have := HH.out.rr.hB; omega))
    have BL := Lib.hid ((k1.lowD (B := dd) (by omega) (fun i hi => by omega)).trans (KS.lowD (by have := k1.size; omega) (fun i hi => by omega)))
    clear hv1 hn h1 k1 r1 KS
    go_wp2
    (first | go_end0 | refine bodyPost_ret (results_none rfl _ _ _) rfl ?_)
    exact FillPost.good HX.out BL.out HN.out R2.out

set_option maxRecDepth 100000 in
set_option maxHeartbeats 1000000 in
theorem fill_11 (c : Ctx w0 ao cap l) (r dd x e p es b : Nat) (st : DSt) (tv iv fv gv ev dv : Value) (w : World) (h : DI w0 ao cap l r dd x e p st tv iv fv gv ev dv w) (hs : Rr w0 ao cap l x es b w) (hx : dd < x) :
    Calls Tryz.prog 108 #[.pointer (some ⟨dd, 0, none⟩), .int .i64 11, .pointer (some ⟨x, 0, none⟩)] w (FillPost w0 ao cap l r dd x e p es w (pFill st 11 l es b)) := by
  have hd := h.hd
  have hdl := h.blk.lt
  have hxl := hs.blk.lt
  have hx0 := hs.hB
  have hb := fun k => (c.bd k).1
  have HH := Lib.hid h
  have HC := Lib.hid c
  have HL := list_datas c x es b w hs 32 (by decide) (fun q w' h' => data_any c x es q w' h')
  cases hm : pList 32 pData l es b with
  | bad why a =>
    have HX := Lib.hid (show pFill st 11 l es b = .bad why a from P.bind_bad hm)
    have HX1 := Lib.hid hm
    have HL := Lib.hid HL
    clear hm h c hb
    go_enter Tryz.func108, Tryz.ntmps108
    go_wp2_with fail
    refine HL.out.mono ?_
    rintro en w1 h1
    obtain ⟨k1, rfl⟩ := h1.bad_elim HX1.out
    exact ⟨rfl, FillPost.wrong HX.out (k1.lowD (by omega) (fun i hi => by omega))⟩
  | ok xs q =>
    have HX := Lib.hid (show pFill st 11 l es b = .ok { st with m := { st.m with datas := xs } } q from (P.bind_ok hm).trans rfl)
    have HX1 := Lib.hid hm
    have hfew := pList_few hb hs.hp hs.he hm
    skip
    have HL := Lib.hid HL
    clear hm h c hb
    go_enter Tryz.func108, Tryz.ntmps108
    go_wp2_with fail
    refine HL.out.mono ?_
    rintro en w1 h1
    obtain ⟨k1, v1, rfl, hv1, r1⟩ := h1.ok_elim HX1.out
    obtain ⟨va, vc, rfl⟩ := VR.slice hv1
    have hn := lv_new (dd := dd) (x := x) (fv := fv) hv1 (by decide) wf_data (by omega) (by omega) (fun b hb => HH.out.flt hb)
    have h1 := HH.out.sub k1 (by omega) hx0
    have dc := h1.blk.c 9 rfl
    have df := h1.blk.f 9
    have HN := Lib.hid (h1.field 9 (.slice va xs.length vc) { st with m := { st.m with datas := xs } } tv iv gv ev (.slice va xs.length vc) rfl h1.tys h1.imps h1.globs h1.exps hn rfl ⟨HH.out.few.1, HH.out.few.2.1⟩ HH.out.lens)
    have KS : Keep (fun i => i = dd) w1 (w1.setCell ⟨dd, 9, none⟩ (.slice va xs.length vc)) := (Keep.refl (fun i => i = dd) w1).set (p := ⟨dd, 9, none⟩) (.inl rfl) _
    have R2 := Lib.hid (r1.keep KS (by omega) (fun i hi => by have := HH.out.rr.hB; omega))
    have BL := Lib.hid ((k1.lowD (B := dd) (by omega) (fun i hi => by omega)).trans (KS.lowD (by have := k1.size; omega) (fun i hi => by omega)))
    clear hv1 hn h1 k1 r1 KS
    go_wp2
    (first | go_end0 | refine bodyPost_ret (results_none rfl _ _ _) rfl ?_)
    exact FillPost.good HX.out BL.out HN.out R2.out

set_option maxRecDepth 100000 in
set_option maxHeartbeats 1000000 in
theorem fill_8 (c : Ctx w0 ao cap l) (r dd x e p es b : Nat) (st : DSt) (tv iv fv gv ev dv : Value) (w : World) (h : DI w0 ao cap l r dd x e p st tv iv fv gv ev dv w) (hs : Rr w0 ao cap l x es b w) (hx : dd < x) :
    Calls Tryz.prog 108 #[.pointer (some ⟨dd, 0, none⟩), .int .i64 8, .pointer (some ⟨x, 0, none⟩)] w (FillPost w0 ao cap l r dd x e p es w (pFill st 8 l es b)) := by
  have hd := h.hd
  have hdl := h.blk.lt
  have hxl := hs.blk.lt
  have hx0 := hs.hB
  have hb := fun k => (c.bd k).1
  have HH := Lib.hid h
  have HC := Lib.hid c
  have HL := u_any c x es b w hs
  cases hm : pU l es b with
  | bad why a =>
    have HX := Lib.hid (show pFill st 8 l es b = .bad why a from P.bind_bad hm)
    have HX1 := Lib.hid hm
    have HL := Lib.hid HL
    clear hm h c hb
    go_enter Tryz.func108, Tryz.ntmps108
    go_wp2_with fail
    refine HL.out.mono ?_
    rintro en w1 h1
    obtain ⟨k1, rfl⟩ := h1.bad_elim HX1.out
    exact ⟨rfl, FillPost.wrong HX.out (k1.lowD (by omega) (fun i hi => by omega))⟩
  | ok n q =>
    have HX := Lib.hid (show pFill st 8 l es b = .ok { st with m := { st.m with start := n } } q from (P.bind_ok hm).trans rfl)
    have HX1 := Lib.hid hm
    have HL := Lib.hid HL
    clear hm h c hb
    go_enter Tryz.func108, Tryz.ntmps108
    go_wp2_with fail
    refine HL.out.mono ?_
    rintro en w1 h1
    obtain ⟨k1, v1, rfl, hv1, r1⟩ := h1.ok_elim HX1.out
    obtain rfl : v1 = .int .i64 n := hv1
    have h1 := HH.out.sub k1 (by omega) hx0
    have dc := h1.blk.c 8 rfl
    have df := h1.blk.f 8
    have HN := Lib.hid (h1.field 8 (.int .i64 n) { st with m := { st.m with start := n } } tv iv gv ev dv rfl h1.tys h1.imps h1.globs h1.exps h1.dats rfl ⟨HH.out.few.1, HH.out.few.2.1⟩ HH.out.lens)
    have KS : Keep (fun i => i = dd) w1 (w1.setCell ⟨dd, 8, none⟩ (.int .i64 n)) := (Keep.refl (fun i => i = dd) w1).set (p := ⟨dd, 8, none⟩) (.inl rfl) _
    have R2 := Lib.hid (r1.keep KS (by omega) (fun i hi => by have := HH.out.rr.hB; omega))
    have BL := Lib.hid ((k1.lowD (B := dd) (by omega) (fun i hi => by omega)).trans (KS.lowD (by have := k1.size; omega) (fun i hi => by omega)))
    clear h1 k1 r1 KS
    go_wp2
    (first | go_end0 | refine bodyPost_ret (results_none rfl _ _ _) rfl ?_)
    exact FillPost.good HX.out BL.out HN.out R2.out
end
end Go.Proofs.YtgcmdnkmnghhaaaGreatDoor.wm

/- The contracts of fill at the functions' section; of memory. -/
set_option linter.unusedVariables false
set_option linter.unusedSimpArgs false
namespace Go.Proofs.YtgcmdnkmnghhaaaGreatDoor.wm
open Go.RowKit Go.Proofs.YtgcmdnkmnghhaaaGreatDoor.lb
section
variable {w0 : World} {ao : Option Addr} {cap : Nat} {l : List Int}

theorem DI.funcs {r dd x e p : Nat} {st : DSt} {tv iv fv gv ev dv : Value} {w w1 : World} {n g : Nat} {xs : List GFunc} (h : DI w0 ao cap l r dd x e p st tv iv fv gv ev dv w) (k : Keep (· = x) w w1) (hx : dd < x) (hx0 : x < w.heap.size) (hg : w.heap.size ≤ g) (hrow : Row 52 w1 g (xs.length * 3)) (hr : Gh.rows (g + 1) w1 g 3 0 (xs.map gFunc)) (hn : xs.length ≤ 32) :
    DI w0 ao cap l r dd x e p { st with m := { st.m with funcs := xs } } tv iv (.slice (some ⟨g, 0, none⟩) xs.length xs.length) gv ev dv (w1.setCell ⟨dd, 3, none⟩ (.slice (some ⟨g, 0, none⟩) xs.length xs.length)) := by
  have hd := h.hd
  have hdl := h.blk.lt
  have hB := h.rr.hB
  have hglt := hrow.lt
  have h1 := h.sub k (by omega) (by omega)
  have kS : Keep (fun b => b = dd) w1 (w1.setCell ⟨dd, 3, none⟩ (.slice (some ⟨g, 0, none⟩) xs.length xs.length)) := (Keep.refl (fun b => b = dd) w1).set (p := ⟨dd, 3, none⟩) (.inl rfl) _
  have hA : ∀ b, Av dd x fv w b → Av dd x (.slice (some ⟨g, 0, none⟩) xs.length xs.length) (w1.setCell ⟨dd, 3, none⟩ (.slice (some ⟨g, 0, none⟩) xs.length xs.length)) b ∧ (w1.setCell ⟨dd, 3, none⟩ (.slice (some ⟨g, 0, none⟩) xs.length xs.length)).heap[b]? = w.heap[b]? := by
    intro b ⟨b1, b2, b3, b4⟩
    have := k.size
    refine ⟨⟨b1, Nat.lt_of_lt_of_le (Nat.lt_of_lt_of_le b2 k.size) kS.size, b3, ?_⟩, (kS.block b (by omega) (by omega)).trans (k.block b b2 (by omega))⟩
    show ¬ some g = some b
    intro e; have := Option.some.inj e; omega
  refine ⟨h1.rr.keep kS (by omega) (fun j hj => by omega), h1.blk.set 3 _, hd, h.hx, h.tys.keep hA, h.imps.keep hA, h.globs.keep hA, h.exps.keep hA, h.dats.keep hA, ?_, ⟨h.few.1, h.few.2.1, hn⟩, h.lens⟩
  refine .inr ⟨g, rfl, by omega, by omega, hrow.keep kS (by omega), ?_⟩
  have hl := Gh.liesRows_lt _ g 3 0 (wfs_map wf_func xs) (Gh.liesRows_of _ g 3 0 hr)
  refine Gh.liesRows_keep (fun b ⟨b1, b2⟩ => ⟨⟨by omega, Nat.lt_of_lt_of_le b2 kS.size, by omega, by omega⟩, kS.block b b2 (by omega)⟩) _ g 3 0 (kS.block g hglt (by omega)) hl

set_option maxRecDepth 100000 in
set_option maxHeartbeats 1000000 in
theorem fill_3 (c : Ctx w0 ao cap l) (r dd x e p es b : Nat) (st : DSt) (tv iv fv gv ev dv : Value) (w : World) (h : DI w0 ao cap l r dd x e p st tv iv fv gv ev dv w) (hs : Rr w0 ao cap l x es b w) (hx : dd < x) :
    Calls Tryz.prog 108 #[.pointer (some ⟨dd, 0, none⟩), .int .i64 3, .pointer (some ⟨x, 0, none⟩)] w (FillPost w0 ao cap l r dd x e p es w (pFill st 3 l es b)) := by
  have hd := h.hd
  have hdl := h.blk.lt
  have hxl := hs.blk.lt
  have hx0 := hs.hB
  have hb := fun k => (c.bd k).1
  have HH := Lib.hid h
  obtain ⟨ia, ic, rfl⟩ := h.imps.slice
  have i2 := h.blk.c 2 rfl
  have him : ((st.m.imports.length : Int) ≤ 32) := by have := h.few.2.1; omega
  have HL := list_funcs2 c x es b w hs (32 - st.m.imports.length) (by omega) (fun q w' h' => declared_any c x es q w' h')
  cases hm : pList (32 - st.m.imports.length) pDeclared l es b with
  | bad why a =>
    have HX := Lib.hid (show pFill st 3 l es b = .bad why a from P.bind_bad hm)
    have HX1 := Lib.hid hm
    have HL := Lib.hid HL
    clear hm h c hb
    go_enter Tryz.func108, Tryz.ntmps108
    go_wp2_with fail
    refine HL.out.mono ?_
    rintro en w1 h1
    obtain ⟨k1, rfl⟩ := h1.bad_elim HX1.out
    exact ⟨rfl, FillPost.wrong HX.out (k1.lowD (by omega) (fun i hi => by omega))⟩
  | ok xs q =>
    have HX := Lib.hid (show pFill st 3 l es b = .ok { st with m := { st.m with funcs := xs } } q from (P.bind_ok hm).trans rfl)
    have HX1 := Lib.hid hm
    have hfew := pList_few hb hs.hp hs.he hm
    have HL := Lib.hid HL
    clear hm h c hb
    go_enter Tryz.func108, Tryz.ntmps108
    go_wp2_with fail
    refine HL.out.mono ?_
    rintro en w1 h1
    obtain ⟨k1, v1, rfl, ⟨g, rfl, hg, hrow, hrows⟩, r1⟩ := h1.ok_elim HX1.out
    have HN := Lib.hid (HH.out.funcs (n := xs.length) k1 hx hxl hg hrow hrows (by omega))
    have h1 := HH.out.sub k1 (by omega) hx0
    have dc := h1.blk.c 3 rfl
    have df := h1.blk.f 3
    have KS : Keep (fun i => i = dd) w1 (w1.setCell ⟨dd, 3, none⟩ (.slice (some ⟨g, 0, none⟩) xs.length xs.length)) := (Keep.refl (fun i => i = dd) w1).set (p := ⟨dd, 3, none⟩) (.inl rfl) _
    have R2 := Lib.hid (r1.keep KS (by omega) (fun i hi => by have := HH.out.rr.hB; omega))
    have BL := Lib.hid ((k1.lowD (B := dd) (by omega) (fun i hi => by omega)).trans (KS.lowD (by have := k1.size; omega) (fun i hi => by omega)))
    clear h1 k1 r1 KS hrow hrows
    go_wp2
    (first | go_end0 | refine bodyPost_ret (results_none rfl _ _ _) rfl ?_)
    exact FillPost.good HX.out BL.out HN.out R2.out
end
end Go.Proofs.YtgcmdnkmnghhaaaGreatDoor.wm
