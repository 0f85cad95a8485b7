/- Put together by program: WPlace WFirstA WFirstB. -/
import Derived.Test.YtgcmdnkmnghhaaaGreatDoorZ6
import Derived.Test.YtgcmdnkmnghhaaaGreatDoorZ14
import Derived.Deep.QuietTactic
import Derived.BigQuiet
/- Where a byte is wrong lies within the bytes, or right ahead of them. -/
set_option linter.unusedVariables false
namespace Go.Proofs.YtgcmdnkmnghhaaaGreatDoor.wm
open Go.Proofs.YtgcmdnkmnghhaaaGreatDoor.lb

/-- places, a place m that was met being one -/
structure PB {α : Type} (m : Int) (x : P α) : Prop where
  out : ∀ {l : List Int} {e p : Nat}, p ≤ e → e ≤ l.length → -1 ≤ m → m ≤ l.length → match x l e p with
    | .ok _ q => q ≤ e
    | .bad _ b => -1 ≤ b ∧ b ≤ l.length

section
variable {α β : Type} {m : Int}
theorem PB.ret (a : α) : PB m (P.ret a) := ⟨fun hp he _ _ => hp⟩
theorem PB.bind {x : P α} {f : α → P β} (hx : PB m x) (hf : ∀ a, PB m (f a)) : PB m (x.bind f) := by
  refine ⟨?_⟩
  intro l e p hp he h0 h1
  have h := hx.out hp he h0 h1
  unfold P.bind
  cases hx' : x l e p with
  | bad w a => rw [hx'] at h; exact h
  | ok a q => rw [hx'] at h; exact (hf a).out h he h0 h1
theorem PB.ite {c : Prop} [Decidable c] {x y : P α} (hx : PB m x) (hy : PB m y) : PB m (if c then x else y) := by split <;> assumption
theorem PB.iteB {c : Bool} {x y : P α} (hx : PB m x) (hy : PB m y) : PB m (if c = true then x else y) := by split <;> assumption
theorem PB.fail (w : Int) : PB m (pFail w m : P α) := ⟨fun hp he h0 h1 => ⟨h0, h1⟩⟩
theorem PB.fail0 (w : Int) : PB m (pFail w 0 : P α) := ⟨fun hp he h0 h1 => ⟨by decide, by omega⟩⟩
theorem PB.back (w : Int) : PB m (pBack w : P α) := ⟨fun hp he h0 h1 => ⟨by omega, by omega⟩⟩
theorem PB.here {f : Int → P α} (h : ∀ a, PB a (f a)) : PB m (pHere f) := by
  refine ⟨?_⟩
  intro l e p hp he h0 h1
  exact (h p).out hp he (by omega) (by omega)
theorem PB.octet : PB m pOctet := by
  refine ⟨?_⟩
  intro l e p hp he h0 h1
  unfold pOctet
  split
  · rename_i h; split at h
    · simp only [Res.ok.injEq] at h; omega
    · cases h
  · rename_i h; split at h
    · cases h
    · obtain ⟨_, rfl⟩ := Res.bad.inj h; omega
theorem PB.one (these left : List Int) : PB m (pOne these left) := .bind .octet fun c => .ite (.back 11) (.ite (.ret c) (.back 6))
theorem PB.num (d : List Int → Nat → Int × Int × Int × Int)
    (h1 : ∀ (l : List Int) (p : Nat), p ≤ l.length → ((d l p).2.1.toNat ≤ l.length ∧ -1 ≤ (d l p).2.2.2 ∧ (d l p).2.2.2 ≤ l.length)) : PB m (pNum d) := by
  refine ⟨?_⟩
  intro l e p hp he h0 h2
  have hl : (l.take e).length = e := by rw [List.length_take]; omega
  have := h1 (l.take e) p (by omega)
  rw [hl] at this
  unfold pNum
  simp only
  split
  · rename_i h; split at h
    · simp only [Res.ok.injEq] at h; omega
    · cases h
  · rename_i h; split at h
    · cases h
    · obtain ⟨_, rfl⟩ := Res.bad.inj h; omega
theorem PB.u : PB m pU := .num _ fun l p hp => by
  obtain ⟨m1, m2, m3⟩ := mk_spec l p hp
  simp only [decU]
  (repeat' split) <;> simp only [Int.toNat_zero] <;> omega
theorem PB.sgn (k : Nat) (good : Int → Bool) : PB m (pNum fun l p => decS l p k good) := .num _ fun l p hp => by
  obtain ⟨m1, m2, m3⟩ := mk_spec l p hp
  simp only [decS]
  (repeat' split) <;> simp only [Int.toNat_zero] <;> omega
theorem PB.s32 : PB m pS32 := .sgn 5 good32
theorem PB.s64 : PB m pS64 := .sgn 10 good64
theorem PB.low : PB m pLow := .bind .s32 fun n => .ret _
theorem PB.most (limit : Int) : PB m (pMost limit) := .here fun a => .bind .u fun n => .ite (.fail 7) (.ret n)
theorem PB.kind : PB m pKind := .one _ _
theorem PB.rep {x : P α} (hx : PB m x) : ∀ (k : Nat) (acc : List α), PB m (pRep x k acc)
  | 0, acc => .ret acc
  | k + 1, acc => .bind hx fun a => .rep hx k (acc ++ [a])
theorem PB.char : PB m pChar := .bind .octet fun c => .ite (.back 8) (.ret c)
theorem PB.name : PB m pName := .bind (.most 32) fun n => .rep .char _ _
theorem PB.list {x : P α} (hx : PB m x) (limit : Int) : PB m (pList limit x) := .bind (.most limit) fun n => .rep hx _ _
theorem PB.skip (size : Int) : PB m (pSkip size) := by
  refine ⟨?_⟩
  intro l e p hp he h0 h1
  unfold pSkip
  split
  · rename_i h; split at h
    · cases h
    · simp only [Res.ok.injEq] at h; omega
  · rename_i h; split at h
    · obtain ⟨_, rfl⟩ := Res.bad.inj h; omega
    · cases h
theorem PB.copied (size : Int) : PB m (pCopied size) := by
  refine ⟨?_⟩
  intro l e p hp he h0 h1
  unfold pCopied
  split
  · rename_i h; split at h
    · cases h
    · simp only [Res.ok.injEq] at h; omega
  · rename_i h; split at h
    · obtain ⟨_, rfl⟩ := Res.bad.inj h; omega
    · cases h
theorem PB.sig : PB m pSig := .bind (.one _ _) fun _ => .bind (.list .kind _) fun i => .bind (.list .kind _) fun o => .ret _
theorem PB.import' : PB m pImport := .bind .name fun m => .bind .name fun n => .bind (.one _ _) fun _ => .bind .u fun t => .ret _
theorem PB.declared : PB m pDeclared := .bind .u fun t => .ret _
theorem PB.first (k : Int) : PB m (pFirst k) := .bind (.one _ _) fun op => .ite (.back 10) (.ite .low (.bind .s64 fun n => .ret _))
theorem PB.global : PB m pGlobal := .bind .kind fun k => .bind (.one _ _) fun m => .bind (.first k) fun n => .bind (.one _ _) fun _ => .ret _
theorem PB.exportG : PB m pExport := .bind .name fun n => .bind (.one _ _) fun k => .bind .u fun x => .ret _
theorem PB.data : PB m pData := .here fun a => .bind .u fun z => .ite (.fail 6) (.bind (.one _ _) fun _ => .bind .low fun b => .bind (.one _ _) fun _ => .bind (.most 4096) fun n => .bind (.copied n) fun bs => .ret _)
theorem PB.memory (was : Int × Int) : PB m (pMemory was) := .bind (.most 1) fun n => .ite (.ret _) (.bind (.one _ _) fun told => .bind (.most 16) fun pages => .ite (.ret _) (.here fun a => .bind (.most 16) fun most => .ite (.fail 6) (.ret _)))
theorem PB.rows : ∀ (k : Nat) (acc : List Int), PB m (pRows k acc)
  | 0, acc => .ret acc
  | k + 1, acc => .bind (.most _) fun c => .bind .kind fun t => .rows k _
theorem PB.locals : PB m pLocals := .bind (.most 32) fun n => .rows _ _
theorem PB.blockType (types : List GSig) : PB m (pBlockType types) := .here fun a => by
  refine ⟨?_⟩
  intro l e p hp he h0 h1
  have ho := (PB.octet (m := a)).out hp he h0 h1
  have hk : PB a (pKind.bind fun k => P.ret (⟨[], [k]⟩ : GSig)) := .bind .kind fun k => .ret _
  have hs : PB a (pS64.bind fun n => if n < 0 ∨ (types.length : Int) ≤ n then pFail 9 a else P.ret (types.getD n.toNat ⟨[], []⟩)) := .bind .s64 fun n => .ite (.fail 9) (.ret _)
  cases hx : pOctet l e p with
  | bad w b => rw [hx] at ho; exact ho
  | ok c q =>
    rw [hx] at ho
    simp only
    by_cases h64 : c = 64
    · rw [if_pos h64]; exact ho
    · rw [if_neg h64]
      by_cases h127 : c = 127 ∨ c = 126 ∨ c = 125 ∨ c = 124
      · rw [if_pos h127]; exact hk.out hp he h0 h1
      · rw [if_neg h127]; exact hs.out hp he h0 h1
theorem PB.align (w : Int) : PB m (pAlign w) := .here fun a => .bind .u fun n => .ite (.fail 6) (.ret n)
theorem PB.targets : PB m pTargets := .bind (.list .u 64) fun ts => .bind .u fun t => .ret _
theorem PB.other (op : Int) : PB m (pOther op) := by
  unfold pOther
  split
  · exact .ret _
  · split
    · exact .bind (.align _) fun m => .bind .u fun n => .ret _
    · exact .ite (.back 11) (.back 6)
theorem PB.plain (op : Int) : PB m (pPlain op) := by
  unfold pPlain
  exact .ite (.ret _) (.ite (.bind .u fun n => .ret _) (.ite (.bind .targets fun t => .ret _) (.ite (.bind (.one _ _) fun _ => .ret _) (.ite (.bind .low fun n => .ret _) (.ite (.bind .s64 fun n => .ret _) (.bind (.other op) fun x => .ret _))))))
theorem PB.run (types : List GSig) : ∀ (fuel depth : Nat) (parted : Bool) (ops : Nat) (acc : List GInstr), PB m (pRun types fuel depth parted ops acc)
  | 0, _, _, _, _ => .fail0 0
  | fuel + 1, depth, parted, ops, acc => by
    unfold pRun
    refine .bind .octet fun op => .ite (.ret _) (.ite (.ret _) ?_)
    simp only
    refine .ite (.back 7) (.ite (.bind (.blockType types) fun t => .bind (.run types fuel _ _ _ _) fun r => ?_) (.bind (.plain op) fun i => .run types fuel _ _ _ _))
    exact .ite (.bind (.run types fuel _ _ _ _) fun s => .run types fuel _ _ _ _) (.run types fuel _ _ _ _)
theorem PB.body (types : List GSig) : PB m (pBody types) := by
  refine ⟨?_⟩
  intro l e p hp he h0 h1
  have h := (PB.run (m := m) types (e - p + 1) 0 false 0 []).out hp he h0 h1
  unfold pBody
  cases hx : pRun types (e - p + 1) 0 false 0 [] l e p with
  | bad w a => rw [hx] at h; exact h
  | ok r q => rw [hx] at h; exact h
theorem PB.part {x : P α} (hx : PB m x) : PB m (pPart x) := .bind .u fun size => by
  refine ⟨?_⟩
  intro l e p hp he h0 h1
  by_cases hs : (e : Int) - p < size
  · simp only [if_pos hs]; omega
  · simp only [if_neg hs]
    have h := hx.out (l := l) (e := p + size.toNat) (p := p) (by omega) (by omega) h0 h1
    cases hr : x l (p + size.toNat) p with
    | bad w a => rw [hr] at h; exact h
    | ok a q =>
      rw [hr] at h
      simp only
      by_cases hq : q < p + size.toNat
      · rw [if_pos hq]; simp only; omega
      · rw [if_neg hq]; simp only; omega
theorem PB.bodies (types : List GSig) : ∀ (fs acc : List GFunc), PB m (pBodies types fs acc)
  | [], acc => .ret acc
  | f :: fs, acc => .bind (.part (.bind .locals fun lo => .bind (.body types) fun b => .ret _)) fun x => .bodies types fs _
theorem PB.fill (d : DSt) (sec : Int) : PB m (pFill d sec) := by
  unfold pFill
  exact .ite (.bind (.list .sig _) fun x => .ret _) (.ite (.bind (.list .import' _) fun x => .ret _) (.ite (.bind (.list .declared _) fun x => .ret _) (.ite (.bind (.memory _) fun x => .ret _) (.ite (.bind (.list .global _) fun x => .ret _)
    (.ite (.bind (.list .exportG _) fun x => .ret _) (.ite (.bind .u fun x => .ret _) (.ite (.here fun a => .bind .u fun n => .ite (.fail 6) (.bind (.bodies _ _ _) fun x => .ret _)) (.ite (.bind (.list .data _) fun x => .ret _) (.ret d)))))))))
theorem PB.section' (d : DSt) : PB m (pSection d) := .bind .octet fun sec => .ite (.back 11) (.ite (.back 6) (.ite (.bind .u fun size => .bind (.skip size) fun _ => .ret d) (.part (.fill _ sec))))
theorem PB.sections : ∀ (fuel : Nat) (d : DSt), PB m (pSections fuel d)
  | 0, d => .fail0 0
  | fuel + 1, d => by
    refine ⟨?_⟩
    intro l e p hp he h0 h1
    have h := (PB.bind (m := m) (.section' d) fun d => .sections fuel d).out hp he h0 h1
    simp only [pSections]
    by_cases hlt : p < e
    · rw [if_pos hlt]; exact h
    · rw [if_neg hlt]; exact hp
theorem PB.magic : ∀ cs : List Int, PB m (pMagic cs)
  | [] => .ret ()
  | c :: cs => .bind .octet fun x => .ite (.back 5) (.magic cs)
theorem PB.module : PB m pModule := .bind (.magic _) fun _ => by
  refine ⟨?_⟩
  intro l e p hp he h0 h1
  have h := (PB.sections (m := m) (e - p + 1) ⟨mod0, 0, false⟩).out hp he h0 h1
  cases hx : pSections (e - p + 1) ⟨mod0, 0, false⟩ l e p with
  | bad w a => rw [hx] at h; exact h
  | ok d q =>
    rw [hx] at h
    simp only
    by_cases hc : 0 < d.m.funcs.length ∧ d.bodies = false
    · rw [if_pos hc]; simp only; omega
    · rw [if_neg hc]; exact h
theorem decode_place {l : List Int} {w a : Int} (h : decodeM l = .bad w a) : -1 ≤ a ∧ a ≤ l.length := by
  unfold decodeM at h
  split at h
  · obtain ⟨_, rfl⟩ := Res.bad.inj h; omega
  · have := (PB.module (m := 0)).out (l := l) (e := l.length) (p := 0) (Nat.zero_le _) (Nat.le_refl _) (by decide) (by omega)
    rw [h] at this; exact this
end
end Go.Proofs.YtgcmdnkmnghhaaaGreatDoor.wm

/- WasmFirst holds: what stands behind the first wrong byte turns nothing of a fault that lies ahead of it, and the law returns true. The package's table of operators reads as its text lays it. Printed by gen_wfirst.py. -/
set_option linter.unusedVariables false
set_option linter.unusedSimpArgs false
namespace Go.Proofs.YtgcmdnkmnghhaaaGreatDoor.wm
open Go.RowKit Go.Proofs.YtgcmdnkmnghhaaaGreatDoor.lb

theorem own_cells {w : World} {B : Nat} {v : Value} {xs : List Int} (h : Own w B v xs) (hx : xs ≠ []) : ∃ b cap, v = .slice (some ⟨b, 0, none⟩) xs.length cap ∧ B ≤ b ∧ b < w.heap.size ∧ ∀ k, k < xs.length → w.cell? ⟨b, k, none⟩ = some (.int .u8 (xs.getD k 0)) := mm.Own.cells' (w := w) (B := B) (v := v) (xs := xs) h hx
theorem own_store {w : World} {B b n cap : Nat} {xs : List Int} (h : Own w B (.slice (some ⟨b, 0, none⟩) n cap) xs) (hn : n = xs.length) (j : Nat) (x : Int) : Own (w.setCell ⟨b, j, none⟩ (.int .u8 x)) B (.slice (some ⟨b, 0, none⟩) n cap) (xs.set j x) := mm.Own.store (w := w) (B := B) (xs := xs) h hn j x

/-- the place that is written over -/
theorem place_bd (at' a : Int) (L N : Nat) (h0 : 0 ≤ a) (h1 : a + 1 < L) (hL : L ≤ 16384) (hN : (L : Int) - a - 1 = N) :
    ∃ i j : Nat, IntKind.i64.wrap ((L : Int) - a) = (N : Int) + 1 ∧ IntKind.i64.wrap ((N : Int) + 1 - 1) = N ∧ (IntKind.i64.wrap (at'.tmod (N : Int) + N)).tmod (N : Int) = i ∧ IntKind.i64.wrap ((i : Int) + a) = i + a ∧ IntKind.i64.wrap ((i : Int) + a + 1) = j ∧ j < L ∧ a < j := by
  have hN0 : (0 : Int) < N := by omega
  have a1 := Int.tmod_lt_of_pos at' hN0
  have a2 : -(N : Int) < at'.tmod N := by
    have := Int.tmod_lt_of_pos (-at') hN0
    rw [Int.neg_tmod] at this; omega
  generalize at'.tmod (N : Int) = q at *
  have e : IntKind.i64.wrap (q + N) = q + N := IntWalk.i64_in _ (by omega)
  rw [e]
  have c := Int.tmod_nonneg (a := q + N) (N : Int) (by omega)
  have d := Int.tmod_lt_of_pos (q + N) hN0
  refine ⟨((q + N).tmod N).toNat, (((q + N).tmod N) + a + 1).toNat, ?_, ?_, by omega, ?_, ?_, by omega, by omega⟩
  · rw [IntWalk.i64_in _ (by omega)]; omega
  · rw [IntWalk.i64_in _ (by omega)]; omega
  · rw [IntWalk.i64_in _ (by omega)]
  · rw [IntWalk.i64_in _ (by omega)]; omega

set_option maxRecDepth 100000 in
set_option maxHeartbeats 1000000 in
theorem first_ok (v : Value) (l : List Int) (at' c : Int) (w : World) (hrd : Rd w v l) (hok : ∀ x ∈ l, 0 ≤ x ∧ x < 256) (hlen : l.length ≤ 281474976710656) (hc : 0 ≤ c ∧ c < 256) (hr : nm.Runs w) (m : GMod) (q : Nat) (hx : decodeM l = .ok m q) :
    Calls Tryz.prog 4 #[v, .int .i64 at', .int .u8 c] w fun e w' => e = .returned (.bool true) ∧ Below w.heap.size w w' := by
  have HD := Lib.hid (decode_any v l w hrd hok hlen hr)
  have HR := Lib.hid hr
  have HRD := Lib.hid hrd
  have HOK := Lib.hid hok
  obtain ⟨ao, cap, rfl, hcap, _⟩ := id hrd
  clear hrd hr
  have HX := Lib.hid hx
  clear hx hok
  go_enter Tryz.func4, Tryz.ntmps4
  go_wp2_with fail
  refine HD.out.mono ?_
  rintro en w1 h1
  rw [HX.out] at h1
  obtain ⟨b1, tv, iv, fv, gv, ev, dv, rfl, g1, g2, g3, g4, g5, g6⟩ := h1
  obtain ⟨ta, tc, rfl⟩ := g1.slice
  obtain ⟨ia, ic, rfl⟩ := g2.slice
  obtain ⟨fa, fc, rfl⟩ := g3.slice
  obtain ⟨ga, gc, rfl⟩ := g4.slice
  obtain ⟨ea, ec, rfl⟩ := g5.slice
  obtain ⟨da, dc, rfl⟩ := g6.slice
  have B2 := fun x y => made2 w1 x y
  have HB2 := Lib.hid (fun x y => b1.trans ((B2 x y).mono b1.size))
  clear g1 g2 g3 g4 g5 g6 b1 B2
  go_wp2_with fail
  refine (alive_any _ (HR.out.lift (HB2.out _ _))).mono ?_
  rintro en w9 ⟨rfl, b9⟩
  have HB9 := Lib.hid ((HB2.out _ _).trans (b9.mono (HB2.out _ _).size))
  clear b9
  go_wp2
  go_ret
  exact ⟨rfl, HB9.out⟩

set_option maxRecDepth 100000 in
set_option maxHeartbeats 1000000 in
theorem first_zero (v : Value) (l : List Int) (at' c : Int) (w : World) (hrd : Rd w v l) (hok : ∀ x ∈ l, 0 ≤ x ∧ x < 256) (hlen : l.length ≤ 281474976710656) (hc : 0 ≤ c ∧ c < 256) (hr : nm.Runs w) (hx : decodeM l = .bad 0 0) :
    Calls Tryz.prog 4 #[v, .int .i64 at', .int .u8 c] w fun e w' => e = .returned (.bool true) ∧ Below w.heap.size w w' := by
  have HD := Lib.hid (decode_any v l w hrd hok hlen hr)
  have HR := Lib.hid hr
  have HRD := Lib.hid hrd
  have HOK := Lib.hid hok
  obtain ⟨ao, cap, rfl, hcap, _⟩ := id hrd
  clear hrd hr
  have HX := Lib.hid hx
  clear hx hok
  go_enter Tryz.func4, Tryz.ntmps4
  go_wp2_with fail
  refine HD.out.mono ?_
  rintro en w1 h1
  rw [HX.out] at h1
  obtain ⟨b1, rfl⟩ := h1
  have hm := (Blk.new 30 w1 #[.slice none 0 0, .slice none 0 0, .slice none 0 0, .int .i64 0, .int .i64 0, .slice none 0 0, .slice none 0 0, .int .i64 0, .slice none 0 0]).below (made1 _ (.cells #[.int .i64 0, .int .i64 0, .int .i64 0] 33))
  have B2 := made2 w1 (.cells #[.slice none 0 0, .slice none 0 0, .slice none 0 0, .int .i64 0, .int .i64 0, .slice none 0 0, .slice none 0 0, .int .i64 0, .slice none 0 0] 30) (.cells #[.int .i64 0, .int .i64 0, .int .i64 0] 33)
  have HB2 := Lib.hid (b1.trans (B2.mono b1.size))
  have HR2 := Lib.hid (HR.out.lift HB2.out)
  clear b1 B2 hm
  go_wp2_with fail
  refine (alive_any _ HR2.out).mono ?_
  rintro en w9 ⟨rfl, b9⟩
  have HB9 := Lib.hid (HB2.out.trans (b9.mono HB2.out.size))
  clear b9
  go_wp2
  go_ret
  exact ⟨rfl, HB9.out⟩

set_option maxRecDepth 100000 in
set_option maxHeartbeats 1000000 in
theorem first_four (v : Value) (l : List Int) (at' c : Int) (w : World) (hrd : Rd w v l) (hok : ∀ x ∈ l, 0 ≤ x ∧ x < 256) (hlen : l.length ≤ 281474976710656) (hc : 0 ≤ c ∧ c < 256) (hr : nm.Runs w) (a : Int) (hx : decodeM l = .bad 4 a) :
    Calls Tryz.prog 4 #[v, .int .i64 at', .int .u8 c] w fun e w' => e = .returned (.bool true) ∧ Below w.heap.size w w' := by
  have HD := Lib.hid (decode_any v l w hrd hok hlen hr)
  have HR := Lib.hid hr
  have HRD := Lib.hid hrd
  have HOK := Lib.hid hok
  obtain ⟨ao, cap, rfl, hcap, _⟩ := id hrd
  clear hrd hr
  have HX := Lib.hid hx
  clear hx hok
  go_enter Tryz.func4, Tryz.ntmps4
  go_wp2_with fail
  refine HD.out.mono ?_
  rintro en w1 h1
  rw [HX.out] at h1
  obtain ⟨b1, rfl⟩ := h1
  have hm := (Blk.new 30 w1 #[.slice none 0 0, .slice none 0 0, .slice none 0 0, .int .i64 0, .int .i64 0, .slice none 0 0, .slice none 0 0, .int .i64 0, .slice none 0 0]).below (made1 _ (.cells #[.int .i64 4, .int .i64 a, .int .i64 0] 33))
  have B2 := made2 w1 (.cells #[.slice none 0 0, .slice none 0 0, .slice none 0 0, .int .i64 0, .int .i64 0, .slice none 0 0, .slice none 0 0, .int .i64 0, .slice none 0 0] 30) (.cells #[.int .i64 4, .int .i64 a, .int .i64 0] 33)
  have HB2 := Lib.hid (b1.trans (B2.mono b1.size))
  have HR2 := Lib.hid (HR.out.lift HB2.out)
  clear b1 B2 hm
  go_wp2_with fail
  refine (alive_any _ HR2.out).mono ?_
  rintro en w9 ⟨rfl, b9⟩
  have HB9 := Lib.hid (HB2.out.trans (b9.mono HB2.out.size))
  clear b9
  go_wp2
  go_ret
  exact ⟨rfl, HB9.out⟩

set_option maxRecDepth 100000 in
set_option maxHeartbeats 1000000 in
theorem first_low (v : Value) (l : List Int) (at' c : Int) (w : World) (hrd : Rd w v l) (hok : ∀ x ∈ l, 0 ≤ x ∧ x < 256) (hlen : l.length ≤ 281474976710656) (hc : 0 ≤ c ∧ c < 256) (hr : nm.Runs w) (why a : Int) (hx : decodeM l = .bad why a) (hz : ¬ why = 0) (h4 : (why == 4) = false) (ha : a < 0) :
    Calls Tryz.prog 4 #[v, .int .i64 at', .int .u8 c] w fun e w' => e = .returned (.bool true) ∧ Below w.heap.size w w' := by
  have HD := Lib.hid (decode_any v l w hrd hok hlen hr)
  have HR := Lib.hid hr
  have HRD := Lib.hid hrd
  have HOK := Lib.hid hok
  obtain ⟨ao, cap, rfl, hcap, _⟩ := id hrd
  clear hrd hr
  have e1 : decide (a < 0) = true := by simpa using ha
  have HX := Lib.hid hx
  clear hx hok
  go_enter Tryz.func4, Tryz.ntmps4
  go_wp2_with fail
  refine HD.out.mono ?_
  rintro en w1 h1
  rw [HX.out] at h1
  obtain ⟨b1, rfl⟩ := h1
  have hm := (Blk.new 30 w1 #[.slice none 0 0, .slice none 0 0, .slice none 0 0, .int .i64 0, .int .i64 0, .slice none 0 0, .slice none 0 0, .int .i64 0, .slice none 0 0]).below (made1 _ (.cells #[.int .i64 why, .int .i64 a, .int .i64 0] 33))
  have B2 := made2 w1 (.cells #[.slice none 0 0, .slice none 0 0, .slice none 0 0, .int .i64 0, .int .i64 0, .slice none 0 0, .slice none 0 0, .int .i64 0, .slice none 0 0] 30) (.cells #[.int .i64 why, .int .i64 a, .int .i64 0] 33)
  have HB2 := Lib.hid (b1.trans (B2.mono b1.size))
  have HR2 := Lib.hid (HR.out.lift HB2.out)
  clear b1 B2 hm
  go_wp2_with fail
  refine (alive_any _ HR2.out).mono ?_
  rintro en w9 ⟨rfl, b9⟩
  have HB9 := Lib.hid (HB2.out.trans (b9.mono HB2.out.size))
  clear b9
  go_wp2
  go_ret
  exact ⟨rfl, HB9.out⟩

set_option maxRecDepth 100000 in
set_option maxHeartbeats 1000000 in
theorem first_last (v : Value) (l : List Int) (at' c : Int) (w : World) (hrd : Rd w v l) (hok : ∀ x ∈ l, 0 ≤ x ∧ x < 256) (hlen : l.length ≤ 281474976710656) (hc : 0 ≤ c ∧ c < 256) (hr : nm.Runs w) (why a : Int) (hx : decodeM l = .bad why a) (hz : ¬ why = 0) (h4 : (why == 4) = false) (h0 : 0 ≤ a) (ha : (l.length : Int) ≤ a + 1) :
    Calls Tryz.prog 4 #[v, .int .i64 at', .int .u8 c] w fun e w' => e = .returned (.bool true) ∧ Below w.heap.size w w' := by
  have HD := Lib.hid (decode_any v l w hrd hok hlen hr)
  have HR := Lib.hid hr
  have HRD := Lib.hid hrd
  have HOK := Lib.hid hok
  obtain ⟨ao, cap, rfl, hcap, _⟩ := id hrd
  clear hrd hr
  have hpl := decode_place hx
  have e1 : decide (a < 0) = false := by simp; omega
  have e2 : decide ((l.length : Int) ≤ a + 1) = true := by simpa using ha
  have HX := Lib.hid hx
  clear hx hok
  go_enter Tryz.func4, Tryz.ntmps4
  go_wp2_with fail
  refine HD.out.mono ?_
  rintro en w1 h1
  rw [HX.out] at h1
  obtain ⟨b1, rfl⟩ := h1
  have hm := (Blk.new 30 w1 #[.slice none 0 0, .slice none 0 0, .slice none 0 0, .int .i64 0, .int .i64 0, .slice none 0 0, .slice none 0 0, .int .i64 0, .slice none 0 0]).below (made1 _ (.cells #[.int .i64 why, .int .i64 a, .int .i64 0] 33))
  have B2 := made2 w1 (.cells #[.slice none 0 0, .slice none 0 0, .slice none 0 0, .int .i64 0, .int .i64 0, .slice none 0 0, .slice none 0 0, .int .i64 0, .slice none 0 0] 30) (.cells #[.int .i64 why, .int .i64 a, .int .i64 0] 33)
  have HB2 := Lib.hid (b1.trans (B2.mono b1.size))
  have HR2 := Lib.hid (HR.out.lift HB2.out)
  clear b1 B2 hm
  go_wp2_with fail
  refine (alive_any _ HR2.out).mono ?_
  rintro en w9 ⟨rfl, b9⟩
  have HB9 := Lib.hid (HB2.out.trans (b9.mono HB2.out.size))
  clear b9
  go_wp2
  go_ret
  exact ⟨rfl, HB9.out⟩

set_option maxRecDepth 100000 in
set_option maxHeartbeats 1000000 in
theorem first_long (v : Value) (l : List Int) (at' c : Int) (w : World) (hrd : Rd w v l) (hok : ∀ x ∈ l, 0 ≤ x ∧ x < 256) (hlen : l.length ≤ 281474976710656) (hc : 0 ≤ c ∧ c < 256) (hr : nm.Runs w) (why a : Int) (hx : decodeM l = .bad why a) (hz : ¬ why = 0) (h4 : (why == 4) = false) (h0 : 0 ≤ a) (ha : a + 1 < (l.length : Int)) (hl : 16384 < l.length) :
    Calls Tryz.prog 4 #[v, .int .i64 at', .int .u8 c] w fun e w' => e = .returned (.bool true) ∧ Below w.heap.size w w' := by
  have HD := Lib.hid (decode_any v l w hrd hok hlen hr)
  have HR := Lib.hid hr
  have HRD := Lib.hid hrd
  have HOK := Lib.hid hok
  obtain ⟨ao, cap, rfl, hcap, _⟩ := id hrd
  clear hrd hr
  have hpl := decode_place hx
  have e1 : decide (a < 0) = false := by simp; omega
  have e2 : decide ((l.length : Int) ≤ a + 1) = false := by simp; omega
  have e3 : (16384 : Int) < l.length := by omega
  have HX := Lib.hid hx
  clear hx hok
  go_enter Tryz.func4, Tryz.ntmps4
  go_wp2_with fail
  refine HD.out.mono ?_
  rintro en w1 h1
  rw [HX.out] at h1
  obtain ⟨b1, rfl⟩ := h1
  have hm := (Blk.new 30 w1 #[.slice none 0 0, .slice none 0 0, .slice none 0 0, .int .i64 0, .int .i64 0, .slice none 0 0, .slice none 0 0, .int .i64 0, .slice none 0 0]).below (made1 _ (.cells #[.int .i64 why, .int .i64 a, .int .i64 0] 33))
  have B2 := made2 w1 (.cells #[.slice none 0 0, .slice none 0 0, .slice none 0 0, .int .i64 0, .int .i64 0, .slice none 0 0, .slice none 0 0, .int .i64 0, .slice none 0 0] 30) (.cells #[.int .i64 why, .int .i64 a, .int .i64 0] 33)
  have HB2 := Lib.hid (b1.trans (B2.mono b1.size))
  have HR2 := Lib.hid (HR.out.lift HB2.out)
  clear b1 B2 hm
  go_wp2_with fail
  refine (alive_any _ HR2.out).mono ?_
  rintro en w9 ⟨rfl, b9⟩
  have HB9 := Lib.hid (HB2.out.trans (b9.mono HB2.out.size))
  clear b9
  go_wp2
  go_ret
  exact ⟨rfl, HB9.out⟩

set_option maxRecDepth 100000 in
set_option maxHeartbeats 1000000 in
theorem first_low_z (v : Value) (l : List Int) (at' c : Int) (w : World) (hrd : Rd w v l) (hok : ∀ x ∈ l, 0 ≤ x ∧ x < 256) (hlen : l.length ≤ 281474976710656) (hc : 0 ≤ c ∧ c < 256) (hr : nm.Runs w) (a : Int) (hx : decodeM l = .bad 0 a) (hz : ¬ a = 0) (ha : a < 0) :
    Calls Tryz.prog 4 #[v, .int .i64 at', .int .u8 c] w fun e w' => e = .returned (.bool true) ∧ Below w.heap.size w w' := by
  have HD := Lib.hid (decode_any v l w hrd hok hlen hr)
  have HR := Lib.hid hr
  have HRD := Lib.hid hrd
  have HOK := Lib.hid hok
  obtain ⟨ao, cap, rfl, hcap, _⟩ := id hrd
  clear hrd hr
  have e1 : decide (a < 0) = true := by simpa using ha
  have HX := Lib.hid hx
  clear hx hok
  go_enter Tryz.func4, Tryz.ntmps4
  go_wp2_with fail
  refine HD.out.mono ?_
  rintro en w1 h1
  rw [HX.out] at h1
  obtain ⟨b1, rfl⟩ := h1
  have hm := (Blk.new 30 w1 #[.slice none 0 0, .slice none 0 0, .slice none 0 0, .int .i64 0, .int .i64 0, .slice none 0 0, .slice none 0 0, .int .i64 0, .slice none 0 0]).below (made1 _ (.cells #[.int .i64 0, .int .i64 a, .int .i64 0] 33))
  have B2 := made2 w1 (.cells #[.slice none 0 0, .slice none 0 0, .slice none 0 0, .int .i64 0, .int .i64 0, .slice none 0 0, .slice none 0 0, .int .i64 0, .slice none 0 0] 30) (.cells #[.int .i64 0, .int .i64 a, .int .i64 0] 33)
  have HB2 := Lib.hid (b1.trans (B2.mono b1.size))
  have HR2 := Lib.hid (HR.out.lift HB2.out)
  clear b1 B2 hm
  go_wp2_with fail
  refine (alive_any _ HR2.out).mono ?_
  rintro en w9 ⟨rfl, b9⟩
  have HB9 := Lib.hid (HB2.out.trans (b9.mono HB2.out.size))
  clear b9
  go_wp2
  go_ret
  exact ⟨rfl, HB9.out⟩

set_option maxRecDepth 100000 in
set_option maxHeartbeats 1000000 in
theorem first_last_z (v : Value) (l : List Int) (at' c : Int) (w : World) (hrd : Rd w v l) (hok : ∀ x ∈ l, 0 ≤ x ∧ x < 256) (hlen : l.length ≤ 281474976710656) (hc : 0 ≤ c ∧ c < 256) (hr : nm.Runs w) (a : Int) (hx : decodeM l = .bad 0 a) (hz : ¬ a = 0) (h0 : 0 ≤ a) (ha : (l.length : Int) ≤ a + 1) :
    Calls Tryz.prog 4 #[v, .int .i64 at', .int .u8 c] w fun e w' => e = .returned (.bool true) ∧ Below w.heap.size w w' := by
  have HD := Lib.hid (decode_any v l w hrd hok hlen hr)
  have HR := Lib.hid hr
  have HRD := Lib.hid hrd
  have HOK := Lib.hid hok
  obtain ⟨ao, cap, rfl, hcap, _⟩ := id hrd
  clear hrd hr
  have hpl := decode_place hx
  have e1 : decide (a < 0) = false := by simp; omega
  have e2 : decide ((l.length : Int) ≤ a + 1) = true := by simpa using ha
  have HX := Lib.hid hx
  clear hx hok
  go_enter Tryz.func4, Tryz.ntmps4
  go_wp2_with fail
  refine HD.out.mono ?_
  rintro en w1 h1
  rw [HX.out] at h1
  obtain ⟨b1, rfl⟩ := h1
  have hm := (Blk.new 30 w1 #[.slice none 0 0, .slice none 0 0, .slice none 0 0, .int .i64 0, .int .i64 0, .slice none 0 0, .slice none 0 0, .int .i64 0, .slice none 0 0]).below (made1 _ (.cells #[.int .i64 0, .int .i64 a, .int .i64 0] 33))
  have B2 := made2 w1 (.cells #[.slice none 0 0, .slice none 0 0, .slice none 0 0, .int .i64 0, .int .i64 0, .slice none 0 0, .slice none 0 0, .int .i64 0, .slice none 0 0] 30) (.cells #[.int .i64 0, .int .i64 a, .int .i64 0] 33)
  have HB2 := Lib.hid (b1.trans (B2.mono b1.size))
  have HR2 := Lib.hid (HR.out.lift HB2.out)
  clear b1 B2 hm
  go_wp2_with fail
  refine (alive_any _ HR2.out).mono ?_
  rintro en w9 ⟨rfl, b9⟩
  have HB9 := Lib.hid (HB2.out.trans (b9.mono HB2.out.size))
  clear b9
  go_wp2
  go_ret
  exact ⟨rfl, HB9.out⟩

set_option maxRecDepth 100000 in
set_option maxHeartbeats 1000000 in
theorem first_long_z (v : Value) (l : List Int) (at' c : Int) (w : World) (hrd : Rd w v l) (hok : ∀ x ∈ l, 0 ≤ x ∧ x < 256) (hlen : l.length ≤ 281474976710656) (hc : 0 ≤ c ∧ c < 256) (hr : nm.Runs w) (a : Int) (hx : decodeM l = .bad 0 a) (hz : ¬ a = 0) (h0 : 0 ≤ a) (ha : a + 1 < (l.length : Int)) (hl : 16384 < l.length) :
    Calls Tryz.prog 4 #[v, .int .i64 at', .int .u8 c] w fun e w' => e = .returned (.bool true) ∧ Below w.heap.size w w' := by
  have HD := Lib.hid (decode_any v l w hrd hok hlen hr)
  have HR := Lib.hid hr
  have HRD := Lib.hid hrd
  have HOK := Lib.hid hok
  obtain ⟨ao, cap, rfl, hcap, _⟩ := id hrd
  clear hrd hr
  have hpl := decode_place hx
  have e1 : decide (a < 0) = false := by simp; omega
  have e2 : decide ((l.length : Int) ≤ a + 1) = false := by simp; omega
  have e3 : (16384 : Int) < l.length := by omega
  have HX := Lib.hid hx
  clear hx hok
  go_enter Tryz.func4, Tryz.ntmps4
  go_wp2_with fail
  refine HD.out.mono ?_
  rintro en w1 h1
  rw [HX.out] at h1
  obtain ⟨b1, rfl⟩ := h1
  have hm := (Blk.new 30 w1 #[.slice none 0 0, .slice none 0 0, .slice none 0 0, .int .i64 0, .int .i64 0, .slice none 0 0, .slice none 0 0, .int .i64 0, .slice none 0 0]).below (made1 _ (.cells #[.int .i64 0, .int .i64 a, .int .i64 0] 33))
  have B2 := made2 w1 (.cells #[.slice none 0 0, .slice none 0 0, .slice none 0 0, .int .i64 0, .int .i64 0, .slice none 0 0, .slice none 0 0, .int .i64 0, .slice none 0 0] 30) (.cells #[.int .i64 0, .int .i64 a, .int .i64 0] 33)
  have HB2 := Lib.hid (b1.trans (B2.mono b1.size))
  have HR2 := Lib.hid (HR.out.lift HB2.out)
  clear b1 B2 hm
  go_wp2_with fail
  refine (alive_any _ HR2.out).mono ?_
  rintro en w9 ⟨rfl, b9⟩
  have HB9 := Lib.hid (HB2.out.trans (b9.mono HB2.out.size))
  clear b9
  go_wp2
  go_ret
  exact ⟨rfl, HB9.out⟩

end Go.Proofs.YtgcmdnkmnghhaaaGreatDoor.wm

/- WasmFirst: the ways on which a byte is written over. Printed by gen_wfirst2.py. -/
set_option linter.unusedVariables false
set_option linter.unusedSimpArgs false
namespace Go.Proofs.YtgcmdnkmnghhaaaGreatDoor.wm
open Go.RowKit Go.Proofs.YtgcmdnkmnghhaaaGreatDoor.lb
theorem set_byte {l : List Int} (h : ∀ x ∈ l, 0 ≤ x ∧ x < 256) (j : Nat) {c : Int} (hc : 0 ≤ c ∧ c < 256) : ∀ x ∈ l.set j c, 0 ≤ x ∧ x < 256 := fun x hx => by
  rcases List.mem_or_eq_of_mem_set hx with h1 | rfl
  · exact h x h1
  · exact hc
theorem set_ahead (l : List Int) (j : Nat) (c : Int) (k : Nat) (hk : k < j) : (l.set j c).getD k 0 = l.getD k 0 := by
  rw [List.getD_eq_getElem?_getD, List.getD_eq_getElem?_getD, List.getElem?_set_ne (by omega)]
theorem by_of {l : List Int} (h : ∀ x ∈ l, 0 ≤ x ∧ x < 256) : By l := fun k => by
  by_cases hk : k < l.length
  · rw [List.getD_eq_getElem?_getD, List.getElem?_eq_getElem hk]; exact (h _ (List.getElem_mem hk)).1
  · rw [List.getD_eq_getElem?_getD, List.getElem?_eq_none (by omega)]; decide

set_option maxRecDepth 100000 in
set_option maxHeartbeats 1000000 in
theorem first_go5 (v : Value) (l : List Int) (at' c : Int) (w : World) (hrd : Rd w v l) (hok : ∀ x ∈ l, 0 ≤ x ∧ x < 256) (hlen : l.length ≤ 281474976710656) (hc : 0 ≤ c ∧ c < 256) (hr : nm.Runs w) (a : Int) (hx : decodeM l = .bad 5 a) (h0 : 0 ≤ a) (ha : a + 1 < (l.length : Int)) (hl : l.length ≤ 16384) :
    Calls Tryz.prog 4 #[v, .int .i64 at', .int .u8 c] w fun e w' => e = .returned (.bool true) ∧ Below w.heap.size w w' := by
  have HD := Lib.hid (decode_any v l w hrd hok hlen hr)
  have HR := Lib.hid hr
  have HRD := Lib.hid hrd
  have HOK := Lib.hid hok
  obtain ⟨ao, cap, rfl, hcap, _⟩ := id hrd
  clear hrd hr
  have e1 : decide (a < 0) = false := by simp; omega
  have e2 : decide ((l.length : Int) ≤ a + 1) = false := by simp; omega
  have e3 : ¬ (16384 : Int) < l.length := by omega
  obtain ⟨N, hN⟩ : ∃ N : Nat, (l.length : Int) - a - 1 = N := ⟨((l.length : Int) - a - 1).toNat, by omega⟩
  have hN1 : 1 ≤ N := by omega
  have hNz : ((N : Int) == 0) = false := by rw [beq_eq_false_iff_ne]; omega
  obtain ⟨i, j, r1, r2, r3, r4, r5, hj, haj⟩ := place_bd at' a l.length N h0 ha hl hN
  have HIdx := Lib.hid (show wrap64 (wrap64 ((wrap64 (at'.tmod (N : Int) + N)).tmod (N : Int) + a) + 1) = (j : Int) from by
    rw [IntWalk.i64_left] at r3 r4 r5
    rw [r3, r4, r5])
  have r2' : IntKind.i64.wrap (N : Int) = N := IntWalk.i64_in _ (by omega)
  have hNz' : ¬ (N : Int) = 0 := by omega
  have hNn : ¬ (N = 0) := by omega
  have HX := Lib.hid hx
  have HJ := Lib.hid haj
  have HN := Lib.hid hN
  have hj' : (j : Int) < l.length := by omega
  have hj0 : (0 : Int) ≤ (j : Int) := Int.natCast_nonneg _
  clear hx hN haj
  go_enter Tryz.func4, Tryz.ntmps4
  go_wp2_with fail
  refine HD.out.mono ?_
  rintro en w1 h1
  rw [HX.out] at h1
  obtain ⟨b1, rfl⟩ := h1
  have hBF := Blk.new 33 (w1.alloc (.cells #[.slice none 0 0, .slice none 0 0, .slice none 0 0, .int .i64 0, .int .i64 0, .slice none 0 0, .slice none 0 0, .int .i64 0, .slice none 0 0] 30)) #[.int .i64 5, .int .i64 a, .int .i64 0]
  rw [show (w1.alloc (.cells #[.slice none 0 0, .slice none 0 0, .slice none 0 0, .int .i64 0, .int .i64 0, .slice none 0 0, .slice none 0 0, .int .i64 0, .slice none 0 0] 30)).heap.size = w1.heap.size + 1 by simp [go_sem]] at hBF
  have B2 := made2 w1 (.cells #[.slice none 0 0, .slice none 0 0, .slice none 0 0, .int .i64 0, .int .i64 0, .slice none 0 0, .slice none 0 0, .int .i64 0, .slice none 0 0] 30) (.cells #[.int .i64 5, .int .i64 a, .int .i64 0] 33)
  have HB2 := Lib.hid (b1.trans (B2.mono b1.size))
  have HBF := Lib.hid hBF
  clear b1 B2 hBF
  go_wp2_with fail
  generalize (w1.alloc (.cells #[.slice none 0 0, .slice none 0 0, .slice none 0 0, .int .i64 0, .int .i64 0, .slice none 0 0, .slice none 0 0, .int .i64 0, .slice none 0 0] 30)).alloc (.cells #[.int .i64 5, .int .i64 a, .int .i64 0] 33) = wF at HB2 HBF ⊢
  generalize w1.heap.size + 1 = gF at HBF ⊢
  have f1 := HBF.out.c 1 rfl
  go_quiet (fail)
  rw [HIdx.out]
  have BQ : Below wF.heap.size wF (wF.drewN nq) := belowN _ _
  have hrdq := (HRD.out.lift HB2.out).lift BQ
  have HBF2 := Lib.hid (HBF.out.below BQ)
  have HLl := Lib.hid (show l ≠ [] from fun e => by rw [e] at hj; simp at hj)
  have hSz : wF.heap.size ≤ (wF.drewN nq).heap.size := BQ.size
  have HQ := Lib.hid (HB2.out.trans (BQ.mono HB2.out.size))
  clear BQ f1 r1 r2 r2' r3 r4 r5 hNz hNz' hNn
  generalize wF.drewN nq = wQ at hrdq HBF2 HQ hSz ⊢
  go_wp2_with (at_builtin; refine lb.wpList_append_bytes (B := wQ.heap.size) (w0 := wQ) (.const (.slice none 0 0)) (.tmp 70) rfl rfl rfl (Own.nil _ _) rfl hrdq (by simp; omega) (Nat.le_refl _) (Below.refl _ _) ?_; intro v' w3 ho hb3; rw [List.nil_append] at ho; obtain ⟨bb, cp, rfl, hb4, hlt, hcells⟩ := own_cells ho HLl.out; have hcj := hcells j hj; have hfr : w3.frozen? ⟨bb, j, none⟩ = false := World.ownsRow.frozenAt (n := l.length) ho j; have HO := Lib.hid ho; have HB3 := Lib.hid hb3; have HBB := Lib.hid hb4; have HLT := Lib.hid hlt; clear ho hb3 hcells hb4 hlt)
  have hst := own_store HO.out rfl j c
  have hSt : Below wQ.heap.size wQ (w3.setCell ⟨bb, j, none⟩ (.int .u8 c)) := HB3.out.setCell (p := ⟨bb, j, none⟩) HBB.out _
  have HQ3 := Lib.hid (HQ.out.trans (hSt.mono HQ.out.size))
  have HD2 := Lib.hid (decode_any _ (l.set j c) _ (by simpa using hst.rd) (set_byte HOK.out j hc) (by rw [List.length_set]; omega) (HR.out.lift HQ3.out))
  have HBF3 := Lib.hid (HBF2.out.below hSt)
  clear hst hSt hcj hfr
  generalize w3.setCell ⟨bb, j, none⟩ (.int .u8 c) = w4 at HQ3 HD2 HBF3 ⊢
  go_wp2_with fail
  refine HD2.out.mono ?_
  rintro en w5 h5
  rw [first_wrong (l := l) (l' := l.set j c) (by_of HOK.out) HX.out (by unfold Sharp; decide) (by rw [List.length_set]) (fun k hk => set_ahead l j c k (by have := HJ.out; omega))] at h5
  obtain ⟨b5, rfl⟩ := h5
  have hB5 := HQ3.out.trans (b5.mono HQ3.out.size)
  have g0 := (HBF3.out.below b5)
  have B6 := made2 w5 (.cells #[.slice none 0 0, .slice none 0 0, .slice none 0 0, .int .i64 0, .int .i64 0, .slice none 0 0, .slice none 0 0, .int .i64 0, .slice none 0 0] 30) (.cells #[.int .i64 5, .int .i64 a, .int .i64 0] 33)
  have g1 := g0.below B6
  have q0 := g1.c 0 rfl
  have q1 := g1.c 1 rfl
  have q2 := g1.c 2 rfl
  have HB2 := Lib.hid (hB5.trans (B6.mono hB5.size))
  have HR2 := Lib.hid (HR.out.lift HB2.out)
  have ea : (a == a) = true := by simp
  clear b5 hB5 g0 B6 g1 HB3 HQ3 HD2
  go_wp2_with fail
  refine (alive_any _ HR2.out).mono ?_
  rintro en w9 ⟨rfl, b9⟩
  have HB9 := Lib.hid (HB2.out.trans (b9.mono HB2.out.size))
  clear b9
  go_wp2
  go_ret
  exact ⟨rfl, HB9.out⟩

set_option maxRecDepth 100000 in
set_option maxHeartbeats 1000000 in
theorem first_go8 (v : Value) (l : List Int) (at' c : Int) (w : World) (hrd : Rd w v l) (hok : ∀ x ∈ l, 0 ≤ x ∧ x < 256) (hlen : l.length ≤ 281474976710656) (hc : 0 ≤ c ∧ c < 256) (hr : nm.Runs w) (a : Int) (hx : decodeM l = .bad 8 a) (h0 : 0 ≤ a) (ha : a + 1 < (l.length : Int)) (hl : l.length ≤ 16384) :
    Calls Tryz.prog 4 #[v, .int .i64 at', .int .u8 c] w fun e w' => e = .returned (.bool true) ∧ Below w.heap.size w w' := by
  have HD := Lib.hid (decode_any v l w hrd hok hlen hr)
  have HR := Lib.hid hr
  have HRD := Lib.hid hrd
  have HOK := Lib.hid hok
  obtain ⟨ao, cap, rfl, hcap, _⟩ := id hrd
  clear hrd hr
  have e1 : decide (a < 0) = false := by simp; omega
  have e2 : decide ((l.length : Int) ≤ a + 1) = false := by simp; omega
  have e3 : ¬ (16384 : Int) < l.length := by omega
  obtain ⟨N, hN⟩ : ∃ N : Nat, (l.length : Int) - a - 1 = N := ⟨((l.length : Int) - a - 1).toNat, by omega⟩
  have hN1 : 1 ≤ N := by omega
  have hNz : ((N : Int) == 0) = false := by rw [beq_eq_false_iff_ne]; omega
  obtain ⟨i, j, r1, r2, r3, r4, r5, hj, haj⟩ := place_bd at' a l.length N h0 ha hl hN
  have HIdx := Lib.hid (show wrap64 (wrap64 ((wrap64 (at'.tmod (N : Int) + N)).tmod (N : Int) + a) + 1) = (j : Int) from by
    rw [IntWalk.i64_left] at r3 r4 r5
    rw [r3, r4, r5])
  have r2' : IntKind.i64.wrap (N : Int) = N := IntWalk.i64_in _ (by omega)
  have hNz' : ¬ (N : Int) = 0 := by omega
  have hNn : ¬ (N = 0) := by omega
  have HX := Lib.hid hx
  have HJ := Lib.hid haj
  have HN := Lib.hid hN
  have hj' : (j : Int) < l.length := by omega
  have hj0 : (0 : Int) ≤ (j : Int) := Int.natCast_nonneg _
  clear hx hN haj
  go_enter Tryz.func4, Tryz.ntmps4
  go_wp2_with fail
  refine HD.out.mono ?_
  rintro en w1 h1
  rw [HX.out] at h1
  obtain ⟨b1, rfl⟩ := h1
  have hBF := Blk.new 33 (w1.alloc (.cells #[.slice none 0 0, .slice none 0 0, .slice none 0 0, .int .i64 0, .int .i64 0, .slice none 0 0, .slice none 0 0, .int .i64 0, .slice none 0 0] 30)) #[.int .i64 8, .int .i64 a, .int .i64 0]
  rw [show (w1.alloc (.cells #[.slice none 0 0, .slice none 0 0, .slice none 0 0, .int .i64 0, .int .i64 0, .slice none 0 0, .slice none 0 0, .int .i64 0, .slice none 0 0] 30)).heap.size = w1.heap.size + 1 by simp [go_sem]] at hBF
  have B2 := made2 w1 (.cells #[.slice none 0 0, .slice none 0 0, .slice none 0 0, .int .i64 0, .int .i64 0, .slice none 0 0, .slice none 0 0, .int .i64 0, .slice none 0 0] 30) (.cells #[.int .i64 8, .int .i64 a, .int .i64 0] 33)
  have HB2 := Lib.hid (b1.trans (B2.mono b1.size))
  have HBF := Lib.hid hBF
  clear b1 B2 hBF
  go_wp2_with fail
  generalize (w1.alloc (.cells #[.slice none 0 0, .slice none 0 0, .slice none 0 0, .int .i64 0, .int .i64 0, .slice none 0 0, .slice none 0 0, .int .i64 0, .slice none 0 0] 30)).alloc (.cells #[.int .i64 8, .int .i64 a, .int .i64 0] 33) = wF at HB2 HBF ⊢
  generalize w1.heap.size + 1 = gF at HBF ⊢
  have f1 := HBF.out.c 1 rfl
  go_quiet (fail)
  rw [HIdx.out]
  have BQ : Below wF.heap.size wF (wF.drewN nq) := belowN _ _
  have hrdq := (HRD.out.lift HB2.out).lift BQ
  have HBF2 := Lib.hid (HBF.out.below BQ)
  have HLl := Lib.hid (show l ≠ [] from fun e => by rw [e] at hj; simp at hj)
  have hSz : wF.heap.size ≤ (wF.drewN nq).heap.size := BQ.size
  have HQ := Lib.hid (HB2.out.trans (BQ.mono HB2.out.size))
  clear BQ f1 r1 r2 r2' r3 r4 r5 hNz hNz' hNn
  generalize wF.drewN nq = wQ at hrdq HBF2 HQ hSz ⊢
  go_wp2_with (at_builtin; refine lb.wpList_append_bytes (B := wQ.heap.size) (w0 := wQ) (.const (.slice none 0 0)) (.tmp 70) rfl rfl rfl (Own.nil _ _) rfl hrdq (by simp; omega) (Nat.le_refl _) (Below.refl _ _) ?_; intro v' w3 ho hb3; rw [List.nil_append] at ho; obtain ⟨bb, cp, rfl, hb4, hlt, hcells⟩ := own_cells ho HLl.out; have hcj := hcells j hj; have hfr : w3.frozen? ⟨bb, j, none⟩ = false := World.ownsRow.frozenAt (n := l.length) ho j; have HO := Lib.hid ho; have HB3 := Lib.hid hb3; have HBB := Lib.hid hb4; have HLT := Lib.hid hlt; clear ho hb3 hcells hb4 hlt)
  have hst := own_store HO.out rfl j c
  have hSt : Below wQ.heap.size wQ (w3.setCell ⟨bb, j, none⟩ (.int .u8 c)) := HB3.out.setCell (p := ⟨bb, j, none⟩) HBB.out _
  have HQ3 := Lib.hid (HQ.out.trans (hSt.mono HQ.out.size))
  have HD2 := Lib.hid (decode_any _ (l.set j c) _ (by simpa using hst.rd) (set_byte HOK.out j hc) (by rw [List.length_set]; omega) (HR.out.lift HQ3.out))
  have HBF3 := Lib.hid (HBF2.out.below hSt)
  clear hst hSt hcj hfr
  generalize w3.setCell ⟨bb, j, none⟩ (.int .u8 c) = w4 at HQ3 HD2 HBF3 ⊢
  go_wp2_with fail
  refine HD2.out.mono ?_
  rintro en w5 h5
  rw [first_wrong (l := l) (l' := l.set j c) (by_of HOK.out) HX.out (by unfold Sharp; decide) (by rw [List.length_set]) (fun k hk => set_ahead l j c k (by have := HJ.out; omega))] at h5
  obtain ⟨b5, rfl⟩ := h5
  have hB5 := HQ3.out.trans (b5.mono HQ3.out.size)
  have g0 := (HBF3.out.below b5)
  have B6 := made2 w5 (.cells #[.slice none 0 0, .slice none 0 0, .slice none 0 0, .int .i64 0, .int .i64 0, .slice none 0 0, .slice none 0 0, .int .i64 0, .slice none 0 0] 30) (.cells #[.int .i64 8, .int .i64 a, .int .i64 0] 33)
  have g1 := g0.below B6
  have q0 := g1.c 0 rfl
  have q1 := g1.c 1 rfl
  have q2 := g1.c 2 rfl
  have HB2 := Lib.hid (hB5.trans (B6.mono hB5.size))
  have HR2 := Lib.hid (HR.out.lift HB2.out)
  have ea : (a == a) = true := by simp
  clear b5 hB5 g0 B6 g1 HB3 HQ3 HD2
  go_wp2_with fail
  refine (alive_any _ HR2.out).mono ?_
  rintro en w9 ⟨rfl, b9⟩
  have HB9 := Lib.hid (HB2.out.trans (b9.mono HB2.out.size))
  clear b9
  go_wp2
  go_ret
  exact ⟨rfl, HB9.out⟩

set_option maxRecDepth 100000 in
set_option maxHeartbeats 1000000 in
theorem first_go11 (v : Value) (l : List Int) (at' c : Int) (w : World) (hrd : Rd w v l) (hok : ∀ x ∈ l, 0 ≤ x ∧ x < 256) (hlen : l.length ≤ 281474976710656) (hc : 0 ≤ c ∧ c < 256) (hr : nm.Runs w) (a : Int) (hx : decodeM l = .bad 11 a) (h0 : 0 ≤ a) (ha : a + 1 < (l.length : Int)) (hl : l.length ≤ 16384) :
    Calls Tryz.prog 4 #[v, .int .i64 at', .int .u8 c] w fun e w' => e = .returned (.bool true) ∧ Below w.heap.size w w' := by
  have HD := Lib.hid (decode_any v l w hrd hok hlen hr)
  have HR := Lib.hid hr
  have HRD := Lib.hid hrd
  have HOK := Lib.hid hok
  obtain ⟨ao, cap, rfl, hcap, _⟩ := id hrd
  clear hrd hr
  have e1 : decide (a < 0) = false := by simp; omega
  have e2 : decide ((l.length : Int) ≤ a + 1) = false := by simp; omega
  have e3 : ¬ (16384 : Int) < l.length := by omega
  obtain ⟨N, hN⟩ : ∃ N : Nat, (l.length : Int) - a - 1 = N := ⟨((l.length : Int) - a - 1).toNat, by omega⟩
  have hN1 : 1 ≤ N := by omega
  have hNz : ((N : Int) == 0) = false := by rw [beq_eq_false_iff_ne]; omega
  obtain ⟨i, j, r1, r2, r3, r4, r5, hj, haj⟩ := place_bd at' a l.length N h0 ha hl hN
  have HIdx := Lib.hid (show wrap64 (wrap64 ((wrap64 (at'.tmod (N : Int) + N)).tmod (N : Int) + a) + 1) = (j : Int) from by
    rw [IntWalk.i64_left] at r3 r4 r5
    rw [r3, r4, r5])
  have r2' : IntKind.i64.wrap (N : Int) = N := IntWalk.i64_in _ (by omega)
  have hNz' : ¬ (N : Int) = 0 := by omega
  have hNn : ¬ (N = 0) := by omega
  have HX := Lib.hid hx
  have HJ := Lib.hid haj
  have HN := Lib.hid hN
  have hj' : (j : Int) < l.length := by omega
  have hj0 : (0 : Int) ≤ (j : Int) := Int.natCast_nonneg _
  clear hx hN haj
  go_enter Tryz.func4, Tryz.ntmps4
  go_wp2_with fail
  refine HD.out.mono ?_
  rintro en w1 h1
  rw [HX.out] at h1
  obtain ⟨b1, rfl⟩ := h1
  have hBF := Blk.new 33 (w1.alloc (.cells #[.slice none 0 0, .slice none 0 0, .slice none 0 0, .int .i64 0, .int .i64 0, .slice none 0 0, .slice none 0 0, .int .i64 0, .slice none 0 0] 30)) #[.int .i64 11, .int .i64 a, .int .i64 0]
  rw [show (w1.alloc (.cells #[.slice none 0 0, .slice none 0 0, .slice none 0 0, .int .i64 0, .int .i64 0, .slice none 0 0, .slice none 0 0, .int .i64 0, .slice none 0 0] 30)).heap.size = w1.heap.size + 1 by simp [go_sem]] at hBF
  have B2 := made2 w1 (.cells #[.slice none 0 0, .slice none 0 0, .slice none 0 0, .int .i64 0, .int .i64 0, .slice none 0 0, .slice none 0 0, .int .i64 0, .slice none 0 0] 30) (.cells #[.int .i64 11, .int .i64 a, .int .i64 0] 33)
  have HB2 := Lib.hid (b1.trans (B2.mono b1.size))
  have HBF := Lib.hid hBF
  clear b1 B2 hBF
  go_wp2_with fail
  generalize (w1.alloc (.cells #[.slice none 0 0, .slice none 0 0, .slice none 0 0, .int .i64 0, .int .i64 0, .slice none 0 0, .slice none 0 0, .int .i64 0, .slice none 0 0] 30)).alloc (.cells #[.int .i64 11, .int .i64 a, .int .i64 0] 33) = wF at HB2 HBF ⊢
  generalize w1.heap.size + 1 = gF at HBF ⊢
  have f1 := HBF.out.c 1 rfl
  go_quiet (fail)
  rw [HIdx.out]
  have BQ : Below wF.heap.size wF (wF.drewN nq) := belowN _ _
  have hrdq := (HRD.out.lift HB2.out).lift BQ
  have HBF2 := Lib.hid (HBF.out.below BQ)
  have HLl := Lib.hid (show l ≠ [] from fun e => by rw [e] at hj; simp at hj)
  have hSz : wF.heap.size ≤ (wF.drewN nq).heap.size := BQ.size
  have HQ := Lib.hid (HB2.out.trans (BQ.mono HB2.out.size))
  clear BQ f1 r1 r2 r2' r3 r4 r5 hNz hNz' hNn
  generalize wF.drewN nq = wQ at hrdq HBF2 HQ hSz ⊢
  go_wp2_with (at_builtin; refine lb.wpList_append_bytes (B := wQ.heap.size) (w0 := wQ) (.const (.slice none 0 0)) (.tmp 70) rfl rfl rfl (Own.nil _ _) rfl hrdq (by simp; omega) (Nat.le_refl _) (Below.refl _ _) ?_; intro v' w3 ho hb3; rw [List.nil_append] at ho; obtain ⟨bb, cp, rfl, hb4, hlt, hcells⟩ := own_cells ho HLl.out; have hcj := hcells j hj; have hfr : w3.frozen? ⟨bb, j, none⟩ = false := World.ownsRow.frozenAt (n := l.length) ho j; have HO := Lib.hid ho; have HB3 := Lib.hid hb3; have HBB := Lib.hid hb4; have HLT := Lib.hid hlt; clear ho hb3 hcells hb4 hlt)
  have hst := own_store HO.out rfl j c
  have hSt : Below wQ.heap.size wQ (w3.setCell ⟨bb, j, none⟩ (.int .u8 c)) := HB3.out.setCell (p := ⟨bb, j, none⟩) HBB.out _
  have HQ3 := Lib.hid (HQ.out.trans (hSt.mono HQ.out.size))
  have HD2 := Lib.hid (decode_any _ (l.set j c) _ (by simpa using hst.rd) (set_byte HOK.out j hc) (by rw [List.length_set]; omega) (HR.out.lift HQ3.out))
  have HBF3 := Lib.hid (HBF2.out.below hSt)
  clear hst hSt hcj hfr
  generalize w3.setCell ⟨bb, j, none⟩ (.int .u8 c) = w4 at HQ3 HD2 HBF3 ⊢
  go_wp2_with fail
  refine HD2.out.mono ?_
  rintro en w5 h5
  rw [first_wrong (l := l) (l' := l.set j c) (by_of HOK.out) HX.out (by unfold Sharp; decide) (by rw [List.length_set]) (fun k hk => set_ahead l j c k (by have := HJ.out; omega))] at h5
  obtain ⟨b5, rfl⟩ := h5
  have hB5 := HQ3.out.trans (b5.mono HQ3.out.size)
  have g0 := (HBF3.out.below b5)
  have B6 := made2 w5 (.cells #[.slice none 0 0, .slice none 0 0, .slice none 0 0, .int .i64 0, .int .i64 0, .slice none 0 0, .slice none 0 0, .int .i64 0, .slice none 0 0] 30) (.cells #[.int .i64 11, .int .i64 a, .int .i64 0] 33)
  have g1 := g0.below B6
  have q0 := g1.c 0 rfl
  have q1 := g1.c 1 rfl
  have q2 := g1.c 2 rfl
  have HB2 := Lib.hid (hB5.trans (B6.mono hB5.size))
  have HR2 := Lib.hid (HR.out.lift HB2.out)
  have ea : (a == a) = true := by simp
  clear b5 hB5 g0 B6 g1 HB3 HQ3 HD2
  go_wp2_with fail
  refine (alive_any _ HR2.out).mono ?_
  rintro en w9 ⟨rfl, b9⟩
  have HB9 := Lib.hid (HB2.out.trans (b9.mono HB2.out.size))
  clear b9
  go_wp2
  go_ret
  exact ⟨rfl, HB9.out⟩

set_option maxRecDepth 100000 in
set_option maxHeartbeats 1000000 in
theorem first_go_z (v : Value) (l : List Int) (at' c : Int) (w : World) (hrd : Rd w v l) (hok : ∀ x ∈ l, 0 ≤ x ∧ x < 256) (hlen : l.length ≤ 281474976710656) (hc : 0 ≤ c ∧ c < 256) (hr : nm.Runs w) (a : Int) (hx : decodeM l = .bad 0 a) (hz : ¬ a = 0) (h0 : 0 ≤ a) (ha : a + 1 < (l.length : Int)) (hl : l.length ≤ 16384) :
    Calls Tryz.prog 4 #[v, .int .i64 at', .int .u8 c] w fun e w' => e = .returned (.bool true) ∧ Below w.heap.size w w' := by
  have HD := Lib.hid (decode_any v l w hrd hok hlen hr)
  have HR := Lib.hid hr
  have HRD := Lib.hid hrd
  have HOK := Lib.hid hok
  obtain ⟨ao, cap, rfl, hcap, _⟩ := id hrd
  clear hrd hr
  have e1 : decide (a < 0) = false := by simp; omega
  have e2 : decide ((l.length : Int) ≤ a + 1) = false := by simp; omega
  have e3 : ¬ (16384 : Int) < l.length := by omega
  obtain ⟨N, hN⟩ : ∃ N : Nat, (l.length : Int) - a - 1 = N := ⟨((l.length : Int) - a - 1).toNat, by omega⟩
  have hN1 : 1 ≤ N := by omega
  have hNz : ((N : Int) == 0) = false := by rw [beq_eq_false_iff_ne]; omega
  obtain ⟨i, j, r1, r2, r3, r4, r5, hj, haj⟩ := place_bd at' a l.length N h0 ha hl hN
  have HIdx := Lib.hid (show wrap64 (wrap64 ((wrap64 (at'.tmod (N : Int) + N)).tmod (N : Int) + a) + 1) = (j : Int) from by
    rw [IntWalk.i64_left] at r3 r4 r5
    rw [r3, r4, r5])
  have r2' : IntKind.i64.wrap (N : Int) = N := IntWalk.i64_in _ (by omega)
  have hNz' : ¬ (N : Int) = 0 := by omega
  have hNn : ¬ (N = 0) := by omega
  have HX := Lib.hid hx
  have HJ := Lib.hid haj
  have HN := Lib.hid hN
  have hj' : (j : Int) < l.length := by omega
  have hj0 : (0 : Int) ≤ (j : Int) := Int.natCast_nonneg _
  clear hx hN haj
  go_enter Tryz.func4, Tryz.ntmps4
  go_wp2_with fail
  refine HD.out.mono ?_
  rintro en w1 h1
  rw [HX.out] at h1
  obtain ⟨b1, rfl⟩ := h1
  have hBF := Blk.new 33 (w1.alloc (.cells #[.slice none 0 0, .slice none 0 0, .slice none 0 0, .int .i64 0, .int .i64 0, .slice none 0 0, .slice none 0 0, .int .i64 0, .slice none 0 0] 30)) #[.int .i64 0, .int .i64 a, .int .i64 0]
  rw [show (w1.alloc (.cells #[.slice none 0 0, .slice none 0 0, .slice none 0 0, .int .i64 0, .int .i64 0, .slice none 0 0, .slice none 0 0, .int .i64 0, .slice none 0 0] 30)).heap.size = w1.heap.size + 1 by simp [go_sem]] at hBF
  have B2 := made2 w1 (.cells #[.slice none 0 0, .slice none 0 0, .slice none 0 0, .int .i64 0, .int .i64 0, .slice none 0 0, .slice none 0 0, .int .i64 0, .slice none 0 0] 30) (.cells #[.int .i64 0, .int .i64 a, .int .i64 0] 33)
  have HB2 := Lib.hid (b1.trans (B2.mono b1.size))
  have HBF := Lib.hid hBF
  clear b1 B2 hBF
  go_wp2_with fail
  generalize (w1.alloc (.cells #[.slice none 0 0, .slice none 0 0, .slice none 0 0, .int .i64 0, .int .i64 0, .slice none 0 0, .slice none 0 0, .int .i64 0, .slice none 0 0] 30)).alloc (.cells #[.int .i64 0, .int .i64 a, .int .i64 0] 33) = wF at HB2 HBF ⊢
  generalize w1.heap.size + 1 = gF at HBF ⊢
  have f1 := HBF.out.c 1 rfl
  go_quiet (fail)
  rw [HIdx.out]
  have BQ : Below wF.heap.size wF (wF.drewN nq) := belowN _ _
  have hrdq := (HRD.out.lift HB2.out).lift BQ
  have HBF2 := Lib.hid (HBF.out.below BQ)
  have HLl := Lib.hid (show l ≠ [] from fun e => by rw [e] at hj; simp at hj)
  have hSz : wF.heap.size ≤ (wF.drewN nq).heap.size := BQ.size
  have HQ := Lib.hid (HB2.out.trans (BQ.mono HB2.out.size))
  clear BQ f1 r1 r2 r2' r3 r4 r5 hNz hNz' hNn
  generalize wF.drewN nq = wQ at hrdq HBF2 HQ hSz ⊢
  go_wp2_with (at_builtin; refine lb.wpList_append_bytes (B := wQ.heap.size) (w0 := wQ) (.const (.slice none 0 0)) (.tmp 70) rfl rfl rfl (Own.nil _ _) rfl hrdq (by simp; omega) (Nat.le_refl _) (Below.refl _ _) ?_; intro v' w3 ho hb3; rw [List.nil_append] at ho; obtain ⟨bb, cp, rfl, hb4, hlt, hcells⟩ := own_cells ho HLl.out; have hcj := hcells j hj; have hfr : w3.frozen? ⟨bb, j, none⟩ = false := World.ownsRow.frozenAt (n := l.length) ho j; have HO := Lib.hid ho; have HB3 := Lib.hid hb3; have HBB := Lib.hid hb4; have HLT := Lib.hid hlt; clear ho hb3 hcells hb4 hlt)
  have hst := own_store HO.out rfl j c
  have hSt : Below wQ.heap.size wQ (w3.setCell ⟨bb, j, none⟩ (.int .u8 c)) := HB3.out.setCell (p := ⟨bb, j, none⟩) HBB.out _
  have HQ3 := Lib.hid (HQ.out.trans (hSt.mono HQ.out.size))
  have HD2 := Lib.hid (decode_any _ (l.set j c) _ (by simpa using hst.rd) (set_byte HOK.out j hc) (by rw [List.length_set]; omega) (HR.out.lift HQ3.out))
  have HBF3 := Lib.hid (HBF2.out.below hSt)
  clear hst hSt hcj hfr
  generalize w3.setCell ⟨bb, j, none⟩ (.int .u8 c) = w4 at HQ3 HD2 HBF3 ⊢
  go_wp2_with fail
  refine HD2.out.mono ?_
  rintro en w5 h5
  obtain ⟨b5, h5⟩ := h5
  have hB5 := HQ3.out.trans (b5.mono HQ3.out.size)
  have g0 := (HBF3.out.below b5)
  cases hx2 : decodeM (l.set j c) with
  | bad why2 a2 =>
    rw [hx2] at h5
    simp only at h5
    subst h5
    have B6 := made2 w5 (.cells #[.slice none 0 0, .slice none 0 0, .slice none 0 0, .int .i64 0, .int .i64 0, .slice none 0 0, .slice none 0 0, .int .i64 0, .slice none 0 0] 30) (.cells #[.int .i64 why2, .int .i64 a2, .int .i64 0] 33)
    have g1 := g0.below B6
    have q0 := g1.c 0 rfl
    have q1 := g1.c 1 rfl
    have q2 := g1.c 2 rfl
    have HB2 := Lib.hid (hB5.trans (B6.mono hB5.size))
    have HR2 := Lib.hid (HR.out.lift HB2.out)
    clear b5 hB5 g0 B6 g1 HB3 HQ3 HD2 hx2
    go_wp2_with fail
    refine (alive_any _ HR2.out).mono ?_
    rintro en w9 ⟨rfl, b9⟩
    have HB9 := Lib.hid (HB2.out.trans (b9.mono HB2.out.size))
    clear b9
    go_wp2
    go_ret
    exact ⟨rfl, HB9.out⟩
  | ok m2 q2 =>
    rw [hx2] at h5
    simp only at h5
    obtain ⟨tv, iv, fv, gv, ev, dv, rfl, g1, g2, g3, g4, g5, g6⟩ := h5
    obtain ⟨ta, tc, rfl⟩ := g1.slice
    obtain ⟨ia, ic, rfl⟩ := g2.slice
    obtain ⟨fa, fc, rfl⟩ := g3.slice
    obtain ⟨ga, gc, rfl⟩ := g4.slice
    obtain ⟨ea, ec, rfl⟩ := g5.slice
    obtain ⟨da, dc, rfl⟩ := g6.slice
    have B6 := made2 w5 (.cells #[.slice ta m2.types.length tc, .slice ia m2.imports.length ic, .slice fa m2.funcs.length fc, .int .i64 m2.pages, .int .i64 m2.most, .slice ga m2.globals.length gc, .slice ea m2.exports.length ec, .int .i64 m2.start, .slice da m2.datas.length dc] 30) (.cells #[.int .i64 0, .int .i64 0, .int .i64 0] 33)
    have k1 := g0.below B6
    have q0 := k1.c 0 rfl
    have q1 := k1.c 1 rfl
    have q2 := k1.c 2 rfl
    have HB2 := Lib.hid (hB5.trans (B6.mono hB5.size))
    have HR2 := Lib.hid (HR.out.lift HB2.out)
    clear g1 g2 g3 g4 g5 g6 b5 hB5 g0 B6 k1 HB3 HQ3 HD2 hx2
    go_wp2_with fail
    refine (alive_any _ HR2.out).mono ?_
    rintro en w9 ⟨rfl, b9⟩
    have HB9 := Lib.hid (HB2.out.trans (b9.mono HB2.out.size))
    clear b9
    go_wp2
    go_ret
    exact ⟨rfl, HB9.out⟩

set_option maxRecDepth 100000 in
set_option maxHeartbeats 1000000 in
theorem first_go_n (v : Value) (l : List Int) (at' c : Int) (w : World) (hrd : Rd w v l) (hok : ∀ x ∈ l, 0 ≤ x ∧ x < 256) (hlen : l.length ≤ 281474976710656) (hc : 0 ≤ c ∧ c < 256) (hr : nm.Runs w) (why a : Int) (hx : decodeM l = .bad why a) (hz : ¬ why = 0) (n4 : (why == 4) = false) (n5 : (why != 5) = true) (n8 : (why != 8) = true) (n11 : (why != 11) = true) (h0 : 0 ≤ a) (ha : a + 1 < (l.length : Int)) (hl : l.length ≤ 16384) :
    Calls Tryz.prog 4 #[v, .int .i64 at', .int .u8 c] w fun e w' => e = .returned (.bool true) ∧ Below w.heap.size w w' := by
  have HD := Lib.hid (decode_any v l w hrd hok hlen hr)
  have HR := Lib.hid hr
  have HRD := Lib.hid hrd
  have HOK := Lib.hid hok
  obtain ⟨ao, cap, rfl, hcap, _⟩ := id hrd
  clear hrd hr
  have e1 : decide (a < 0) = false := by simp; omega
  have e2 : decide ((l.length : Int) ≤ a + 1) = false := by simp; omega
  have e3 : ¬ (16384 : Int) < l.length := by omega
  obtain ⟨N, hN⟩ : ∃ N : Nat, (l.length : Int) - a - 1 = N := ⟨((l.length : Int) - a - 1).toNat, by omega⟩
  have hN1 : 1 ≤ N := by omega
  have hNz : ((N : Int) == 0) = false := by rw [beq_eq_false_iff_ne]; omega
  obtain ⟨i, j, r1, r2, r3, r4, r5, hj, haj⟩ := place_bd at' a l.length N h0 ha hl hN
  have HIdx := Lib.hid (show wrap64 (wrap64 ((wrap64 (at'.tmod (N : Int) + N)).tmod (N : Int) + a) + 1) = (j : Int) from by
    rw [IntWalk.i64_left] at r3 r4 r5
    rw [r3, r4, r5])
  have r2' : IntKind.i64.wrap (N : Int) = N := IntWalk.i64_in _ (by omega)
  have hNz' : ¬ (N : Int) = 0 := by omega
  have hNn : ¬ (N = 0) := by omega
  have HX := Lib.hid hx
  have HJ := Lib.hid haj
  have HN := Lib.hid hN
  have hj' : (j : Int) < l.length := by omega
  have hj0 : (0 : Int) ≤ (j : Int) := Int.natCast_nonneg _
  clear hx hN haj
  go_enter Tryz.func4, Tryz.ntmps4
  go_wp2_with fail
  refine HD.out.mono ?_
  rintro en w1 h1
  rw [HX.out] at h1
  obtain ⟨b1, rfl⟩ := h1
  have hBF := Blk.new 33 (w1.alloc (.cells #[.slice none 0 0, .slice none 0 0, .slice none 0 0, .int .i64 0, .int .i64 0, .slice none 0 0, .slice none 0 0, .int .i64 0, .slice none 0 0] 30)) #[.int .i64 why, .int .i64 a, .int .i64 0]
  rw [show (w1.alloc (.cells #[.slice none 0 0, .slice none 0 0, .slice none 0 0, .int .i64 0, .int .i64 0, .slice none 0 0, .slice none 0 0, .int .i64 0, .slice none 0 0] 30)).heap.size = w1.heap.size + 1 by simp [go_sem]] at hBF
  have B2 := made2 w1 (.cells #[.slice none 0 0, .slice none 0 0, .slice none 0 0, .int .i64 0, .int .i64 0, .slice none 0 0, .slice none 0 0, .int .i64 0, .slice none 0 0] 30) (.cells #[.int .i64 why, .int .i64 a, .int .i64 0] 33)
  have HB2 := Lib.hid (b1.trans (B2.mono b1.size))
  have HBF := Lib.hid hBF
  clear b1 B2 hBF
  go_wp2_with fail
  generalize (w1.alloc (.cells #[.slice none 0 0, .slice none 0 0, .slice none 0 0, .int .i64 0, .int .i64 0, .slice none 0 0, .slice none 0 0, .int .i64 0, .slice none 0 0] 30)).alloc (.cells #[.int .i64 why, .int .i64 a, .int .i64 0] 33) = wF at HB2 HBF ⊢
  generalize w1.heap.size + 1 = gF at HBF ⊢
  have f1 := HBF.out.c 1 rfl
  go_quiet (fail)
  rw [HIdx.out]
  have BQ : Below wF.heap.size wF (wF.drewN nq) := belowN _ _
  have hrdq := (HRD.out.lift HB2.out).lift BQ
  have HBF2 := Lib.hid (HBF.out.below BQ)
  have HLl := Lib.hid (show l ≠ [] from fun e => by rw [e] at hj; simp at hj)
  have hSz : wF.heap.size ≤ (wF.drewN nq).heap.size := BQ.size
  have HQ := Lib.hid (HB2.out.trans (BQ.mono HB2.out.size))
  clear BQ f1 r1 r2 r2' r3 r4 r5 hNz hNz' hNn
  generalize wF.drewN nq = wQ at hrdq HBF2 HQ hSz ⊢
  go_wp2_with (at_builtin; refine lb.wpList_append_bytes (B := wQ.heap.size) (w0 := wQ) (.const (.slice none 0 0)) (.tmp 70) rfl rfl rfl (Own.nil _ _) rfl hrdq (by simp; omega) (Nat.le_refl _) (Below.refl _ _) ?_; intro v' w3 ho hb3; rw [List.nil_append] at ho; obtain ⟨bb, cp, rfl, hb4, hlt, hcells⟩ := own_cells ho HLl.out; have hcj := hcells j hj; have hfr : w3.frozen? ⟨bb, j, none⟩ = false := World.ownsRow.frozenAt (n := l.length) ho j; have HO := Lib.hid ho; have HB3 := Lib.hid hb3; have HBB := Lib.hid hb4; have HLT := Lib.hid hlt; clear ho hb3 hcells hb4 hlt)
  have hst := own_store HO.out rfl j c
  have hSt : Below wQ.heap.size wQ (w3.setCell ⟨bb, j, none⟩ (.int .u8 c)) := HB3.out.setCell (p := ⟨bb, j, none⟩) HBB.out _
  have HQ3 := Lib.hid (HQ.out.trans (hSt.mono HQ.out.size))
  have HD2 := Lib.hid (decode_any _ (l.set j c) _ (by simpa using hst.rd) (set_byte HOK.out j hc) (by rw [List.length_set]; omega) (HR.out.lift HQ3.out))
  have HBF3 := Lib.hid (HBF2.out.below hSt)
  clear hst hSt hcj hfr
  generalize w3.setCell ⟨bb, j, none⟩ (.int .u8 c) = w4 at HQ3 HD2 HBF3 ⊢
  go_wp2_with fail
  refine HD2.out.mono ?_
  rintro en w5 h5
  obtain ⟨b5, h5⟩ := h5
  have hB5 := HQ3.out.trans (b5.mono HQ3.out.size)
  have g0 := (HBF3.out.below b5)
  cases hx2 : decodeM (l.set j c) with
  | bad why2 a2 =>
    rw [hx2] at h5
    simp only at h5
    subst h5
    have B6 := made2 w5 (.cells #[.slice none 0 0, .slice none 0 0, .slice none 0 0, .int .i64 0, .int .i64 0, .slice none 0 0, .slice none 0 0, .int .i64 0, .slice none 0 0] 30) (.cells #[.int .i64 why2, .int .i64 a2, .int .i64 0] 33)
    have g1 := g0.below B6
    have q0 := g1.c 0 rfl
    have q1 := g1.c 1 rfl
    have q2 := g1.c 2 rfl
    have HB2 := Lib.hid (hB5.trans (B6.mono hB5.size))
    have HR2 := Lib.hid (HR.out.lift HB2.out)
    clear b5 hB5 g0 B6 g1 HB3 HQ3 HD2 hx2
    go_wp2_with fail
    refine (alive_any _ HR2.out).mono ?_
    rintro en w9 ⟨rfl, b9⟩
    have HB9 := Lib.hid (HB2.out.trans (b9.mono HB2.out.size))
    clear b9
    go_wp2
    go_ret
    exact ⟨rfl, HB9.out⟩
  | ok m2 q2 =>
    rw [hx2] at h5
    simp only at h5
    obtain ⟨tv, iv, fv, gv, ev, dv, rfl, g1, g2, g3, g4, g5, g6⟩ := h5
    obtain ⟨ta, tc, rfl⟩ := g1.slice
    obtain ⟨ia, ic, rfl⟩ := g2.slice
    obtain ⟨fa, fc, rfl⟩ := g3.slice
    obtain ⟨ga, gc, rfl⟩ := g4.slice
    obtain ⟨ea, ec, rfl⟩ := g5.slice
    obtain ⟨da, dc, rfl⟩ := g6.slice
    have B6 := made2 w5 (.cells #[.slice ta m2.types.length tc, .slice ia m2.imports.length ic, .slice fa m2.funcs.length fc, .int .i64 m2.pages, .int .i64 m2.most, .slice ga m2.globals.length gc, .slice ea m2.exports.length ec, .int .i64 m2.start, .slice da m2.datas.length dc] 30) (.cells #[.int .i64 0, .int .i64 0, .int .i64 0] 33)
    have k1 := g0.below B6
    have q0 := k1.c 0 rfl
    have q1 := k1.c 1 rfl
    have q2 := k1.c 2 rfl
    have HB2 := Lib.hid (hB5.trans (B6.mono hB5.size))
    have HR2 := Lib.hid (HR.out.lift HB2.out)
    clear g1 g2 g3 g4 g5 g6 b5 hB5 g0 B6 k1 HB3 HQ3 HD2 hx2
    go_wp2_with fail
    refine (alive_any _ HR2.out).mono ?_
    rintro en w9 ⟨rfl, b9⟩
    have HB9 := Lib.hid (HB2.out.trans (b9.mono HB2.out.size))
    clear b9
    go_wp2
    go_ret
    exact ⟨rfl, HB9.out⟩


theorem wasmFirst_any (v : Value) (l : List Int) (at' c : Int) (w : World) (hrd : Rd w v l) (hok : ∀ x ∈ l, 0 ≤ x ∧ x < 256) (hlen : l.length ≤ 281474976710656) (hc : 0 ≤ c ∧ c < 256) (hr : nm.Runs w) :
    Calls Tryz.prog 4 #[v, .int .i64 at', .int .u8 c] w fun e w' => e = .returned (.bool true) ∧ Below w.heap.size w w' := by
  cases hx : decodeM l with
  | ok m q => exact first_ok v l at' c w hrd hok hlen hc hr m q hx
  | bad why a =>
    by_cases h4 : why = 4
    · subst h4; exact first_four v l at' c w hrd hok hlen hc hr a hx
    have e4 : (why == 4) = false := by rw [beq_eq_false_iff_ne]; exact h4
    by_cases hz : why = 0
    · subst hz
      by_cases ha : a = 0
      · subst ha; exact first_zero v l at' c w hrd hok hlen hc hr hx
      by_cases h1 : a < 0
      · exact first_low_z v l at' c w hrd hok hlen hc hr a hx ha h1
      by_cases h2 : (l.length : Int) ≤ a + 1
      · exact first_last_z v l at' c w hrd hok hlen hc hr a hx ha (by omega) h2
      by_cases h3 : 16384 < l.length
      · exact first_long_z v l at' c w hrd hok hlen hc hr a hx ha (by omega) (by omega) h3
      exact first_go_z v l at' c w hrd hok hlen hc hr a hx ha (by omega) (by omega) (by omega)
    · by_cases h1 : a < 0
      · exact first_low v l at' c w hrd hok hlen hc hr why a hx hz e4 h1
      by_cases h2 : (l.length : Int) ≤ a + 1
      · exact first_last v l at' c w hrd hok hlen hc hr why a hx hz e4 (by omega) h2
      by_cases h3 : 16384 < l.length
      · exact first_long v l at' c w hrd hok hlen hc hr why a hx hz e4 (by omega) (by omega) h3
      by_cases h5 : why = 5
      · subst h5; exact first_go5 v l at' c w hrd hok hlen hc hr a hx (by omega) (by omega) (by omega)
      by_cases h8 : why = 8
      · subst h8; exact first_go8 v l at' c w hrd hok hlen hc hr a hx (by omega) (by omega) (by omega)
      by_cases h11 : why = 11
      · subst h11; exact first_go11 v l at' c w hrd hok hlen hc hr a hx (by omega) (by omega) (by omega)
      exact first_go_n v l at' c w hrd hok hlen hc hr why a hx hz e4 (by rw [bne_iff_ne]; exact h5) (by rw [bne_iff_ne]; exact h8) (by rw [bne_iff_ne]; exact h11) (by omega) (by omega) (by omega)
end Go.Proofs.YtgcmdnkmnghhaaaGreatDoor.wm
