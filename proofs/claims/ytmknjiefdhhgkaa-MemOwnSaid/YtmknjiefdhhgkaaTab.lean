/- The tables of accesses that package mem's calls make, and what stands in them. -/
import Derived.Test.YtmknjiefdhhgkaaBytes
import Derived.Maps.OwnOps
import Derived.Laws.EntriesVeiled
set_option linter.unusedVariables false
namespace Go.Proofs.Ytmknjiefdhhgkaa.mm
open Go.RowKit Go.MapKept

/-- block b is a map from ints to values: the entries l, in the order in which they came -/
def Maps (w : World) (b : Nat) (l : List (Int × Value)) : Prop :=
  ∃ es clock, w.heap[b]? = some (.map es clock) ∧ es.toList.map (fun e => (e.key, e.val)) = l.map (fun p => (Value.int .i64 p.1, p.2))

theorem Maps.made (w : World) : Maps (w.alloc (.map #[] 0)) w.heap.size [] := ⟨#[], 0, (heap_alloc w _).1, rfl⟩
theorem Maps.lift {w w' : World} {b : Nat} {l : List (Int × Value)} (h : Maps w b l) (hb : Below w.heap.size w w') : Maps w' b l := by
  obtain ⟨es, clock, h1, h2⟩ := h
  have hlt : b < w.heap.size := by
    rcases Nat.lt_or_ge b w.heap.size with h | h
    · exact h
    · rw [Array.getElem?_eq_none h] at h1; cases h1
  exact ⟨es, clock, by rw [hb.block b hlt]; exact h1, h2⟩

theorem keys_of {es : List MapEntry} {l : List (Int × Value)} (h : es.map (fun e => (e.key, e.val)) = l.map (fun p => (Value.int .i64 p.1, p.2))) : ∀ x ∈ es, IsKey (.int .i64) x.key := by
  intro x hx
  have : (x.key, x.val) ∈ es.map (fun e => (e.key, e.val)) := List.mem_map.2 ⟨x, hx, rfl⟩
  rw [h] at this
  obtain ⟨p, _, hp⟩ := List.mem_map.1 this
  simp only [Prod.mk.injEq] at hp
  rw [← hp.1]; rfl

/-- what a look-up finds -/
def at? : List (Int × Value) → Int → Option Value
  | [], _ => none
  | p :: l, k => if k = p.1 then some p.2 else at? l k

theorem find_at (k : Int) : ∀ (es : List MapEntry) (l : List (Int × Value)) (i : Nat), es.map (fun e => (e.key, e.val)) = l.map (fun p => (Value.int .i64 p.1, p.2)) →
    match at? l k with
    | none => Instr.findNow (.int .i64) (.int .i64 k) es i = some none
    | some v => ∃ j, Instr.findNow (.int .i64) (.int .i64 k) es i = some (some (j, v))
  | [], [], _, _ => rfl
  | [], _ :: _, _, h => by simp at h
  | _ :: _, [], _, h => by simp at h
  | e :: es, p :: l, i, h => by
    simp only [List.map_cons, List.cons.injEq, Prod.mk.injEq] at h
    obtain ⟨⟨h1, h2⟩, h3⟩ := h
    have ih := find_at k es l (i + 1) h3
    rw [at?]
    by_cases hk : k = p.1
    · rw [if_pos hk]
      exact ⟨i, by simp [Instr.findNow, Instr.sameNow, h1, hk, h2]⟩
    · rw [if_neg hk]
      have : Instr.findNow (.int .i64) (.int .i64 k) (e :: es) i = Instr.findNow (.int .i64) (.int .i64 k) es (i + 1) := by
        simp [Instr.findNow, Instr.sameNow, h1, show (k == p.1) = false from by simp [hk]]
      rw [this]; exact ih

section
variable {ops : Array Oper} {rest : List Oper} {o : Oper} {a : Act} {Q : Exit → Act → World → Prop} {w w0 : World} {B b : Nat} {l : List (Int × Value)}

/-- one entry more -/
theorem wpList_insert {m x v : Operand} {t kt et : TypeId} {k : Int} {val : Value} (hgd : o.guard = none) (ho : o.op = Op.insert t m x v)
    (ht : Try.prog.underlying t = some (.map kt et)) (hk : Try.prog.underlying kt = some (.int .i64)) (hm : a.eval m = .map (some b)) (hx : a.eval x = .int .i64 k) (hv : a.eval v = val)
    (h : Maps w b l) (hn : at? l k = none) (hb : Below B w0 w) (hB : B ≤ b)
    (hK : ∀ w', Maps w' b (l ++ [(k, val)]) → Below B w0 w' → wpList Try.prog ops Q rest (a.put o.dst undef) w') : wpList Try.prog ops Q (o :: rest) a w := by
  refine wpList_plain hgd fun K' hK' => ?_
  obtain ⟨es, clock, h1, h2⟩ := h
  have hf := find_at k es.toList l 0 h2
  rw [hn] at hf
  have hkey : IsKey (.int .i64) (.int .i64 k) := rfl
  have hrun : (Instr.mapUpdate t (.map (some b)) (.int .i64 k) val).run Try.prog w = .ok () { w with heap := w.heap.setIfInBounds b (.map (es.push { key := .int .i64 k, val := val, born := clock }) (clock + 1)) } := by
    simp [Instr.mapUpdate, run_underlying ht, MapKept.run_getObj_map h1, run_checkKey hk hkey, run_findKey hk hf, MapKept.run_setObj_map _ h1, Result.andThen]
  unfold Oper.wp
  simp [execOp, ho, hm, hx, hv, hrun, Result.andThen]
  refine hK' _ _ (hK _ ⟨_, _, (heap_set h1).1, by simp [h2]⟩ ⟨hb.os, hb.tape, hb.output, by simpa using hb.size, fun j hj => ?_⟩)
  rw [(heap_set h1).2 j (by omega)]; exact hb.block j hj

/-- a look-up of what stands there -/
theorem wpList_look {m x : Operand} {t kt et : TypeId} {k : Int} {val : Value} (hgd : o.guard = none) (ho : o.op = Op.lookup t m x false)
    (ht : Try.prog.underlying t = some (.map kt et)) (hk : Try.prog.underlying kt = some (.int .i64)) (hm : a.eval m = .map (some b)) (hx : a.eval x = .int .i64 k)
    (h : Maps w b l) (hn : at? l k = some val)
    (hK : wpList Try.prog ops Q rest (a.put o.dst val) w) : wpList Try.prog ops Q (o :: rest) a w := by
  refine wpList_plain hgd fun K' hK' => ?_
  obtain ⟨es, clock, h1, h2⟩ := h
  have hf := find_at k es.toList l 0 h2
  rw [hn] at hf
  obtain ⟨j, hf⟩ := hf
  have hkey : IsKey (.int .i64) (.int .i64 k) := rfl
  have hrun : (Instr.lookup t (.map (some b)) (.int .i64 k) false).run Try.prog w = .ok val w := by
    simp [Instr.lookup, run_underlying ht, MapKept.run_getObj_map h1, run_checkKey hk hkey, run_findKey hk hf, Result.andThen]
  unfold Oper.wp
  simp [execOp, ho, hm, hx, hrun, Result.andThen]
  exact hK' _ _ hK

/-- a look-up that tells whether something stands there -/
theorem wpList_look_ok {m x : Operand} {t kt et : TypeId} {k : Int} {val : Value} {ok : Bool} (hgd : o.guard = none) (ho : o.op = Op.lookup t m x true)
    (ht : Try.prog.underlying t = some (.map kt et)) (hk : Try.prog.underlying kt = some (.int .i64)) {z : Value} (hz : ∀ w : World, (zeroValue et).run Try.prog w = .ok z w) (hm : a.eval m = .map (some b)) (hx : a.eval x = .int .i64 k)
    (h : Maps w b l) (hn : at? l k = if ok then some val else none)
    (hK : wpList Try.prog ops Q rest (a.put o.dst (.tuple #[if ok then val else z, .bool ok])) w) : wpList Try.prog ops Q (o :: rest) a w := by
  refine wpList_plain hgd fun K' hK' => ?_
  obtain ⟨es, clock, h1, h2⟩ := h
  have hf := find_at k es.toList l 0 h2
  have hkey : IsKey (.int .i64) (.int .i64 k) := rfl
  have hrun : (Instr.lookup t (.map (some b)) (.int .i64 k) true).run Try.prog w = .ok (.tuple #[if ok then val else z, .bool ok]) w := by
    cases ok with
    | true =>
      rw [hn] at hf
      obtain ⟨j, hf⟩ := hf
      simp [Instr.lookup, run_underlying ht, MapKept.run_getObj_map h1, run_checkKey hk hkey, run_findKey hk hf, Result.andThen]
    | false =>
      rw [hn] at hf
      simp [Instr.lookup, run_underlying ht, MapKept.run_getObj_map h1, run_checkKey hk hkey, run_findKey hk hf, hz, Result.andThen]
  unfold Oper.wp
  simp [execOp, ho, hm, hx, hrun, Result.andThen]
  exact hK' _ _ hK
end

theorem made_below (w : World) (o : Obj) : Below w.heap.size w (w.alloc o) := (Below.refl _ _).alloc (Nat.le_refl _) _
theorem belowN {B : Nat} (w : World) (n : Nat) : Below B w (w.drewN n) := ⟨rfl, rfl, rfl, Nat.le_refl _, fun _ _ => rfl⟩

/-- an access: its type, how many bytes, whether it writes, whether it brings its sign along -/
structure Acc where
  kind : Int
  width : Nat
  store : Bool
  signed : Bool
deriving DecidableEq
def aggV (a : Acc) : Value := .agg #[.int .i64 a.kind, .int .i64 a.width, .bool a.store, .bool a.signed]
def noAcc : Acc := ⟨0, 0, false, false⟩

def acc (op : Int) : Option Acc :=
  if op = 40 then some ⟨127, 4, false, false⟩
  else if op = 41 then some ⟨126, 8, false, false⟩
  else if op = 44 then some ⟨127, 1, false, true⟩
  else if op = 45 then some ⟨127, 1, false, false⟩
  else if op = 46 then some ⟨127, 2, false, true⟩
  else if op = 47 then some ⟨127, 2, false, false⟩
  else if op = 48 then some ⟨126, 1, false, true⟩
  else if op = 49 then some ⟨126, 1, false, false⟩
  else if op = 50 then some ⟨126, 2, false, true⟩
  else if op = 51 then some ⟨126, 2, false, false⟩
  else if op = 52 then some ⟨126, 4, false, true⟩
  else if op = 53 then some ⟨126, 4, false, false⟩
  else if op = 54 then some ⟨127, 4, true, false⟩
  else if op = 55 then some ⟨126, 8, true, false⟩
  else if op = 58 then some ⟨127, 1, true, false⟩
  else if op = 59 then some ⟨127, 2, true, false⟩
  else if op = 60 then some ⟨126, 1, true, false⟩
  else if op = 61 then some ⟨126, 2, true, false⟩
  else if op = 62 then some ⟨126, 4, true, false⟩
  else none

def readsL : List (Int × Value) := [(40, aggV ⟨127, 4, false, false⟩), (41, aggV ⟨126, 8, false, false⟩), (44, aggV ⟨127, 1, false, true⟩), (45, aggV ⟨127, 1, false, false⟩), (46, aggV ⟨127, 2, false, true⟩), (47, aggV ⟨127, 2, false, false⟩)]
def shortL : List (Int × Value) := [(48, aggV ⟨126, 1, false, true⟩), (49, aggV ⟨126, 1, false, false⟩), (50, aggV ⟨126, 2, false, true⟩), (51, aggV ⟨126, 2, false, false⟩), (52, aggV ⟨126, 4, false, true⟩), (53, aggV ⟨126, 4, false, false⟩)]
def writesL : List (Int × Value) := [(54, aggV ⟨127, 4, true, false⟩), (55, aggV ⟨126, 8, true, false⟩), (58, aggV ⟨127, 1, true, false⟩), (59, aggV ⟨127, 2, true, false⟩), (60, aggV ⟨126, 1, true, false⟩), (61, aggV ⟨126, 2, true, false⟩), (62, aggV ⟨126, 4, true, false⟩)]

theorem acc_low {op : Int} (h : op < 48) : at? readsL op = (acc op).map aggV := by
  by_cases e40 : op = 40
  · subst e40; rfl
  by_cases e41 : op = 41
  · subst e41; rfl
  by_cases e44 : op = 44
  · subst e44; rfl
  by_cases e45 : op = 45
  · subst e45; rfl
  by_cases e46 : op = 46
  · subst e46; rfl
  by_cases e47 : op = 47
  · subst e47; rfl
  have e : acc op = none := by
    unfold acc; rw [if_neg e40, if_neg e41, if_neg e44, if_neg e45, if_neg e46, if_neg e47, if_neg (show ¬ op = 48 by omega), if_neg (show ¬ op = 49 by omega), if_neg (show ¬ op = 50 by omega), if_neg (show ¬ op = 51 by omega), if_neg (show ¬ op = 52 by omega), if_neg (show ¬ op = 53 by omega), if_neg (show ¬ op = 54 by omega), if_neg (show ¬ op = 55 by omega), if_neg (show ¬ op = 58 by omega), if_neg (show ¬ op = 59 by omega), if_neg (show ¬ op = 60 by omega), if_neg (show ¬ op = 61 by omega), if_neg (show ¬ op = 62 by omega)]
  rw [e]; unfold readsL; simp only [at?]; rw [if_neg e40, if_neg e41, if_neg e44, if_neg e45, if_neg e46, if_neg e47]; rfl
theorem acc_mid {op : Int} (h : 48 ≤ op) (h2 : op < 54) : at? shortL op = (acc op).map aggV := by
  by_cases e48 : op = 48
  · subst e48; rfl
  by_cases e49 : op = 49
  · subst e49; rfl
  by_cases e50 : op = 50
  · subst e50; rfl
  by_cases e51 : op = 51
  · subst e51; rfl
  by_cases e52 : op = 52
  · subst e52; rfl
  by_cases e53 : op = 53
  · subst e53; rfl
  have e : acc op = none := by
    unfold acc; rw [if_neg (show ¬ op = 40 by omega), if_neg (show ¬ op = 41 by omega), if_neg (show ¬ op = 44 by omega), if_neg (show ¬ op = 45 by omega), if_neg (show ¬ op = 46 by omega), if_neg (show ¬ op = 47 by omega), if_neg e48, if_neg e49, if_neg e50, if_neg e51, if_neg e52, if_neg e53, if_neg (show ¬ op = 54 by omega), if_neg (show ¬ op = 55 by omega), if_neg (show ¬ op = 58 by omega), if_neg (show ¬ op = 59 by omega), if_neg (show ¬ op = 60 by omega), if_neg (show ¬ op = 61 by omega), if_neg (show ¬ op = 62 by omega)]
  rw [e]; unfold shortL; simp only [at?]; rw [if_neg e48, if_neg e49, if_neg e50, if_neg e51, if_neg e52, if_neg e53]; rfl
theorem acc_high {op : Int} (h : 54 ≤ op) : at? writesL op = (acc op).map aggV := by
  by_cases e54 : op = 54
  · subst e54; rfl
  by_cases e55 : op = 55
  · subst e55; rfl
  by_cases e58 : op = 58
  · subst e58; rfl
  by_cases e59 : op = 59
  · subst e59; rfl
  by_cases e60 : op = 60
  · subst e60; rfl
  by_cases e61 : op = 61
  · subst e61; rfl
  by_cases e62 : op = 62
  · subst e62; rfl
  have e : acc op = none := by
    unfold acc; rw [if_neg (show ¬ op = 40 by omega), if_neg (show ¬ op = 41 by omega), if_neg (show ¬ op = 44 by omega), if_neg (show ¬ op = 45 by omega), if_neg (show ¬ op = 46 by omega), if_neg (show ¬ op = 47 by omega), if_neg (show ¬ op = 48 by omega), if_neg (show ¬ op = 49 by omega), if_neg (show ¬ op = 50 by omega), if_neg (show ¬ op = 51 by omega), if_neg (show ¬ op = 52 by omega), if_neg (show ¬ op = 53 by omega), if_neg e54, if_neg e55, if_neg e58, if_neg e59, if_neg e60, if_neg e61, if_neg e62]
  rw [e]; unfold writesL; simp only [at?]; rw [if_neg e54, if_neg e55, if_neg e58, if_neg e59, if_neg e60, if_neg e61, if_neg e62]; rfl

def accL : List (Int × Acc) := [(40, ⟨127, 4, false, false⟩), (41, ⟨126, 8, false, false⟩), (44, ⟨127, 1, false, true⟩), (45, ⟨127, 1, false, false⟩), (46, ⟨127, 2, false, true⟩), (47, ⟨127, 2, false, false⟩), (48, ⟨126, 1, false, true⟩), (49, ⟨126, 1, false, false⟩), (50, ⟨126, 2, false, true⟩), (51, ⟨126, 2, false, false⟩), (52, ⟨126, 4, false, true⟩), (53, ⟨126, 4, false, false⟩), (54, ⟨127, 4, true, false⟩), (55, ⟨126, 8, true, false⟩), (58, ⟨127, 1, true, false⟩), (59, ⟨127, 2, true, false⟩), (60, ⟨126, 1, true, false⟩), (61, ⟨126, 2, true, false⟩), (62, ⟨126, 4, true, false⟩)]
theorem acc_mem {op : Int} {a : Acc} (h : acc op = some a) : (op, a) ∈ accL := by
  by_cases e40 : op = 40
  · subst e40; have := Option.some.inj (show some (⟨127, 4, false, false⟩ : Acc) = some a from h); subst this; decide
  by_cases e41 : op = 41
  · subst e41; have := Option.some.inj (show some (⟨126, 8, false, false⟩ : Acc) = some a from h); subst this; decide
  by_cases e44 : op = 44
  · subst e44; have := Option.some.inj (show some (⟨127, 1, false, true⟩ : Acc) = some a from h); subst this; decide
  by_cases e45 : op = 45
  · subst e45; have := Option.some.inj (show some (⟨127, 1, false, false⟩ : Acc) = some a from h); subst this; decide
  by_cases e46 : op = 46
  · subst e46; have := Option.some.inj (show some (⟨127, 2, false, true⟩ : Acc) = some a from h); subst this; decide
  by_cases e47 : op = 47
  · subst e47; have := Option.some.inj (show some (⟨127, 2, false, false⟩ : Acc) = some a from h); subst this; decide
  by_cases e48 : op = 48
  · subst e48; have := Option.some.inj (show some (⟨126, 1, false, true⟩ : Acc) = some a from h); subst this; decide
  by_cases e49 : op = 49
  · subst e49; have := Option.some.inj (show some (⟨126, 1, false, false⟩ : Acc) = some a from h); subst this; decide
  by_cases e50 : op = 50
  · subst e50; have := Option.some.inj (show some (⟨126, 2, false, true⟩ : Acc) = some a from h); subst this; decide
  by_cases e51 : op = 51
  · subst e51; have := Option.some.inj (show some (⟨126, 2, false, false⟩ : Acc) = some a from h); subst this; decide
  by_cases e52 : op = 52
  · subst e52; have := Option.some.inj (show some (⟨126, 4, false, true⟩ : Acc) = some a from h); subst this; decide
  by_cases e53 : op = 53
  · subst e53; have := Option.some.inj (show some (⟨126, 4, false, false⟩ : Acc) = some a from h); subst this; decide
  by_cases e54 : op = 54
  · subst e54; have := Option.some.inj (show some (⟨127, 4, true, false⟩ : Acc) = some a from h); subst this; decide
  by_cases e55 : op = 55
  · subst e55; have := Option.some.inj (show some (⟨126, 8, true, false⟩ : Acc) = some a from h); subst this; decide
  by_cases e58 : op = 58
  · subst e58; have := Option.some.inj (show some (⟨127, 1, true, false⟩ : Acc) = some a from h); subst this; decide
  by_cases e59 : op = 59
  · subst e59; have := Option.some.inj (show some (⟨127, 2, true, false⟩ : Acc) = some a from h); subst this; decide
  by_cases e60 : op = 60
  · subst e60; have := Option.some.inj (show some (⟨126, 1, true, false⟩ : Acc) = some a from h); subst this; decide
  by_cases e61 : op = 61
  · subst e61; have := Option.some.inj (show some (⟨126, 2, true, false⟩ : Acc) = some a from h); subst this; decide
  by_cases e62 : op = 62
  · subst e62; have := Option.some.inj (show some (⟨126, 4, true, false⟩ : Acc) = some a from h); subst this; decide
  exfalso; unfold acc at h; rw [if_neg e40, if_neg e41, if_neg e44, if_neg e45, if_neg e46, if_neg e47, if_neg e48, if_neg e49, if_neg e50, if_neg e51, if_neg e52, if_neg e53, if_neg e54, if_neg e55, if_neg e58, if_neg e59, if_neg e60, if_neg e61, if_neg e62] at h; cases h
theorem accL_all : ∀ p ∈ accL, acc p.1 = some p.2 ∧ (p.2.kind = 127 ∨ p.2.kind = 126) ∧ (p.2.width = 1 ∨ p.2.width = 2 ∨ p.2.width = 4 ∨ p.2.width = 8) ∧ (p.2.kind = 127 → p.2.width ≤ 4) := by decide
theorem acc_cases {op : Int} {a : Acc} (h : acc op = some a) : (a.kind = 127 ∨ a.kind = 126) ∧ (a.width = 1 ∨ a.width = 2 ∨ a.width = 4 ∨ a.width = 8) ∧ (a.kind = 127 → a.width ≤ 4) := (accL_all _ (acc_mem h)).2

theorem reads_any (w : World) : Calls Try.prog 35 #[] w fun e w' => ∃ b, e = .returned (.map (some b)) ∧ Maps w' b readsL ∧ Below w.heap.size w w' := by
  have hmm := @run_makeMap Try.prog
  go_enter Try.func35, Try.ntmps35
  go_wp2_with (refine wpList_insert rfl rfl Try.underlying61 Try.underlying3 rfl rfl rfl (by first | assumption | exact Maps.made _) rfl (by first | assumption | exact made_below _ _) (Nat.le_refl _) ?_; intro w' h1 h2)
  go_ret
  exact ⟨_, rfl, h1, h2⟩
theorem short_any (w : World) : Calls Try.prog 36 #[] w fun e w' => ∃ b, e = .returned (.map (some b)) ∧ Maps w' b shortL ∧ Below w.heap.size w w' := by
  have hmm := @run_makeMap Try.prog
  go_enter Try.func36, Try.ntmps36
  go_wp2_with (refine wpList_insert rfl rfl Try.underlying61 Try.underlying3 rfl rfl rfl (by first | assumption | exact Maps.made _) rfl (by first | assumption | exact made_below _ _) (Nat.le_refl _) ?_; intro w' h1 h2)
  go_ret
  exact ⟨_, rfl, h1, h2⟩
theorem writes_any (w : World) : Calls Try.prog 37 #[] w fun e w' => ∃ b, e = .returned (.map (some b)) ∧ Maps w' b writesL ∧ Below w.heap.size w w' := by
  have hmm := @run_makeMap Try.prog
  go_enter Try.func37, Try.ntmps37
  go_wp2_with (refine wpList_insert rfl rfl Try.underlying61 Try.underlying3 rfl rfl rfl (by first | assumption | exact Maps.made _) rfl (by first | assumption | exact made_below _ _) (Nat.le_refl _) ?_; intro w' h1 h2)
  go_ret
  exact ⟨_, rfl, h1, h2⟩

def tabL (op : Int) : List (Int × Value) := if op < 48 then readsL else if op < 54 then shortL else writesL
theorem tab_at (op : Int) : at? (tabL op) op = (acc op).map aggV := by
  unfold tabL
  split
  · exact acc_low ‹_›
  · split
    · exact acc_mid (by omega) ‹_›
    · exact acc_high (by omega)
theorem table_any (op : Int) (w : World) : Calls Try.prog 33 #[.int .i64 op] w fun e w' => ∃ b, e = .returned (.map (some b)) ∧ Maps w' b (tabL op) ∧ Below w.heap.size w w' := by
  unfold tabL
  by_cases h1 : op < 48
  · rw [if_pos h1]
    go_enter Try.func33, Try.ntmps33
    go_wp2_with (go_at_call 35; refine (reads_any _).mono ?_; rintro e w' ⟨b1, rfl, h2, h3⟩)
    go_ret
    exact ⟨_, rfl, h2, h3⟩
  · rw [if_neg h1]
    by_cases h4 : op < 54
    · rw [if_pos h4]
      go_enter Try.func33, Try.ntmps33
      go_wp2_with (go_at_call 36; refine (short_any _).mono ?_; rintro e w' ⟨b1, rfl, h2, h3⟩)
      go_ret
      exact ⟨_, rfl, h2, h3⟩
    · rw [if_neg h4]
      go_enter Try.func33, Try.ntmps33
      go_wp2_with (go_at_call 37; refine (writes_any _).mono ?_; rintro e w' ⟨b1, rfl, h2, h3⟩)
      go_ret
      exact ⟨_, rfl, h2, h3⟩

/-- a block of the call's own holds an access -/
def ABox (w : World) (g : Nat) (a : Acc) : Prop := w.heap[g]? = some (.cells #[.int .i64 a.kind, .int .i64 a.width, .bool a.store, .bool a.signed] 50 (0, 0))
theorem ABox.new (w : World) (a : Acc) : ABox (w.alloc (.cells #[.int .i64 a.kind, .int .i64 a.width, .bool a.store, .bool a.signed] 50)) w.heap.size a := heap_alloc_new w _
theorem ABox.lt {w : World} {g : Nat} {a : Acc} (h : ABox w g a) : g < w.heap.size := (Array.getElem?_eq_some_iff.1 h).1
theorem ABox.lift {w w' : World} {g : Nat} {a : Acc} (h : ABox w g a) (hb : Below w.heap.size w w') : ABox w' g a := (hb.block g h.lt).trans h
theorem ABox.cells {w : World} {g : Nat} {a : Acc} (h : ABox w g a) : w.cell? ⟨g, 0, none⟩ = some (.int .i64 a.kind) ∧ w.cell? ⟨g, 1, none⟩ = some (.int .i64 a.width) ∧ w.cell? ⟨g, 2, none⟩ = some (.bool a.store) ∧ w.cell? ⟨g, 3, none⟩ = some (.bool a.signed) ∧
    w.frozen? ⟨g, 0, none⟩ = false ∧ w.frozen? ⟨g, 1, none⟩ = false ∧ w.frozen? ⟨g, 2, none⟩ = false ∧ w.frozen? ⟨g, 3, none⟩ = false := by
  unfold ABox at h
  simp [World.cell?, World.frozen?, h]

def accT (o : Option Acc) : Value := .tuple #[aggV (o.getD noAcc), .bool o.isSome]
theorem acc_val (o : Option Acc) : (if o.isSome then aggV (o.getD noAcc) else .agg #[.int .i64 0, .int .i64 0, .bool false, .bool false]) = aggV (o.getD noAcc) := by cases o <;> rfl
set_option maxHeartbeats 1000000 in
theorem accessOf_any (op : Int) (w : World) : Calls Try.prog 22 #[.int .i64 op] w fun e w' => e = .returned (accT (acc op)) ∧ Below w.heap.size w w' := by
  have hat : at? (tabL op) op = if (acc op).isSome then some (aggV ((acc op).getD noAcc)) else none := by
    rw [tab_at]; cases acc op <;> rfl
  have HZ := Lib.hid (show ∀ w : World, (zeroValue 50).run Try.prog w = .ok (.agg #[.int .i64 0, .int .i64 0, .bool false, .bool false]) w from fun w => by kernel_rfl)
  generalize acc op = o at hat ⊢
  have Hat := Lib.hid hat
  clear hat
  have hv := acc_val o
  unfold accT
  generalize o.isSome = ok at Hat hv ⊢
  generalize o.getD noAcc = A at Hat hv ⊢
  have Hv := Lib.hid hv
  clear hv
  go_enter Try.func22, Try.ntmps22
  go_wp2_with (first
    | (go_at_call 33; refine (table_any _ _).mono ?_; rintro e w' ⟨b1, rfl, h1, h2⟩; obtain ⟨c0, c1, c2, c3, f0, f1, f2, f3⟩ := ((ABox.new w noAcc).lift h2).cells; have hlt := ((ABox.new w noAcc).lift h2).lt)
    | (at_lookup; refine wpList_look_ok (ok := ok) rfl rfl Try.underlying61 Try.underlying3 HZ.out rfl rfl (by assumption) Hat.out ?_; rw [Hv.out]; unfold aggV))
  have hB := bnext (bnextA (Below.refl w.heap.size w) _) h2
  exact bodyPost_ret (v := .tuple #[aggV A, .bool ok]) (by simp [results, Try.results22, go_sem, aggV, c0, c1, c2, c3, hlt]) rfl ⟨rfl, ((((hB.setCell (p := ⟨w.heap.size, 0, none⟩) (Nat.le_refl _) _).setCell (p := ⟨w.heap.size, 1, none⟩) (Nat.le_refl _) _).setCell (p := ⟨w.heap.size, 2, none⟩) (Nat.le_refl _) _).setCell (p := ⟨w.heap.size, 3, none⟩) (Nat.le_refl _) _).alloc (by simp; omega) _⟩
end Go.Proofs.Ytmknjiefdhhgkaa.mm
