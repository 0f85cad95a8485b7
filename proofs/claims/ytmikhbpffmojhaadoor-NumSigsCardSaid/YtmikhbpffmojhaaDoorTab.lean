/- The tables of functions that package num's calls make, and what stands in them. -/
import Derived.Test.YtmikhbpffmojhaaDoorWidth
import Derived.Maps.OwnOps
import Derived.Laws.EntriesVeiled
set_option linter.unusedVariables false
namespace Go.Proofs.YtmikhbpffmojhaaDoor.nm
open Go.RowKit Go.MapKept

/-- block b is a map from ints to values: the entries l, in the order in which they came -/
def Maps (w : World) (b : Nat) (l : List (Int × Value)) : Prop :=
  ∃ es clock, w.heap[b]? = some (.map es clock) ∧ es.toList.map (fun e => (e.key, e.val)) = l.map (fun p => (Value.int .i64 p.1, p.2))

theorem Maps.made (w : World) : Maps (w.alloc (.map #[] 0)) w.heap.size [] := ⟨#[], 0, (heap_alloc w _).1, rfl⟩
theorem Maps.lift {w w' : World} {b : Nat} {l : List (Int × Value)} (h : Maps w b l) (hb : Below w.heap.size w w') : Maps w' b l := by
  obtain ⟨es, clock, h1, h2⟩ := h
  have hlt : b < w.heap.size := by
    rcases Nat.lt_or_ge b w.heap.size with h | h
    · exact h
    · rw [Array.getElem?_eq_none h] at h1; cases h1
  exact ⟨es, clock, by rw [hb.block b hlt]; exact h1, h2⟩

theorem keys_of {es : List MapEntry} {l : List (Int × Value)} (h : es.map (fun e => (e.key, e.val)) = l.map (fun p => (Value.int .i64 p.1, p.2))) : ∀ x ∈ es, IsKey (.int .i64) x.key := by
  intro x hx
  have : (x.key, x.val) ∈ es.map (fun e => (e.key, e.val)) := List.mem_map.2 ⟨x, hx, rfl⟩
  rw [h] at this
  obtain ⟨p, _, hp⟩ := List.mem_map.1 this
  simp only [Prod.mk.injEq] at hp
  rw [← hp.1]; rfl

/-- what a look-up finds -/
def at? : List (Int × Value) → Int → Option Value
  | [], _ => none
  | p :: l, k => if k = p.1 then some p.2 else at? l k

theorem find_at (k : Int) : ∀ (es : List MapEntry) (l : List (Int × Value)) (i : Nat), es.map (fun e => (e.key, e.val)) = l.map (fun p => (Value.int .i64 p.1, p.2)) →
    match at? l k with
    | none => Instr.findNow (.int .i64) (.int .i64 k) es i = some none
    | some v => ∃ j, Instr.findNow (.int .i64) (.int .i64 k) es i = some (some (j, v))
  | [], [], _, _ => rfl
  | [], _ :: _, _, h => by simp at h
  | _ :: _, [], _, h => by simp at h
  | e :: es, p :: l, i, h => by
    simp only [List.map_cons, List.cons.injEq, Prod.mk.injEq] at h
    obtain ⟨⟨h1, h2⟩, h3⟩ := h
    have ih := find_at k es l (i + 1) h3
    rw [at?]
    by_cases hk : k = p.1
    · rw [if_pos hk]
      exact ⟨i, by simp [Instr.findNow, Instr.sameNow, h1, hk, h2]⟩
    · rw [if_neg hk]
      have : Instr.findNow (.int .i64) (.int .i64 k) (e :: es) i = Instr.findNow (.int .i64) (.int .i64 k) es (i + 1) := by
        simp [Instr.findNow, Instr.sameNow, h1, show (k == p.1) = false from by simp [hk]]
      rw [this]; exact ih

section
variable {ops : Array Oper} {rest : List Oper} {o : Oper} {a : Act} {Q : Exit → Act → World → Prop} {w w0 : World} {B b : Nat} {l : List (Int × Value)}

/-- one entry more -/
theorem wpList_insert {m x v : Operand} {t kt et : TypeId} {k : Int} {val : Value} (hgd : o.guard = none) (ho : o.op = Op.insert t m x v)
    (ht : Tryd.prog.underlying t = some (.map kt et)) (hk : Tryd.prog.underlying kt = some (.int .i64)) (hm : a.eval m = .map (some b)) (hx : a.eval x = .int .i64 k) (hv : a.eval v = val)
    (h : Maps w b l) (hn : at? l k = none) (hb : Below B w0 w) (hB : B ≤ b)
    (hK : ∀ w', Maps w' b (l ++ [(k, val)]) → Below B w0 w' → wpList Tryd.prog ops Q rest (a.put o.dst undef) w') : wpList Tryd.prog ops Q (o :: rest) a w := by
  refine wpList_plain hgd fun K' hK' => ?_
  obtain ⟨es, clock, h1, h2⟩ := h
  have hf := find_at k es.toList l 0 h2
  rw [hn] at hf
  have hkey : IsKey (.int .i64) (.int .i64 k) := rfl
  have hrun : (Instr.mapUpdate t (.map (some b)) (.int .i64 k) val).run Tryd.prog w = .ok () { w with heap := w.heap.setIfInBounds b (.map (es.push { key := .int .i64 k, val := val, born := clock }) (clock + 1)) } := by
    simp [Instr.mapUpdate, run_underlying ht, MapKept.run_getObj_map h1, run_checkKey hk hkey, run_findKey hk hf, MapKept.run_setObj_map _ h1, Result.andThen]
  unfold Oper.wp
  simp [execOp, ho, hm, hx, hv, hrun, Result.andThen]
  refine hK' _ _ (hK _ ⟨_, _, (heap_set h1).1, by simp [h2]⟩ ⟨hb.os, hb.tape, hb.output, by simpa using hb.size, fun j hj => ?_⟩)
  rw [(heap_set h1).2 j (by omega)]; exact hb.block j hj

/-- a look-up of what stands there -/
theorem wpList_look {m x : Operand} {t kt et : TypeId} {k : Int} {val : Value} (hgd : o.guard = none) (ho : o.op = Op.lookup t m x false)
    (ht : Tryd.prog.underlying t = some (.map kt et)) (hk : Tryd.prog.underlying kt = some (.int .i64)) (hm : a.eval m = .map (some b)) (hx : a.eval x = .int .i64 k)
    (h : Maps w b l) (hn : at? l k = some val)
    (hK : wpList Tryd.prog ops Q rest (a.put o.dst val) w) : wpList Tryd.prog ops Q (o :: rest) a w := by
  refine wpList_plain hgd fun K' hK' => ?_
  obtain ⟨es, clock, h1, h2⟩ := h
  have hf := find_at k es.toList l 0 h2
  rw [hn] at hf
  obtain ⟨j, hf⟩ := hf
  have hkey : IsKey (.int .i64) (.int .i64 k) := rfl
  have hrun : (Instr.lookup t (.map (some b)) (.int .i64 k) false).run Tryd.prog w = .ok val w := by
    simp [Instr.lookup, run_underlying ht, MapKept.run_getObj_map h1, run_checkKey hk hkey, run_findKey hk hf, Result.andThen]
  unfold Oper.wp
  simp [execOp, ho, hm, hx, hrun, Result.andThen]
  exact hK' _ _ hK

/-- a look-up that tells whether something stands there -/
theorem wpList_look_ok {m x : Operand} {t kt et : TypeId} {k : Int} {val : Value} {ok : Bool} (hgd : o.guard = none) (ho : o.op = Op.lookup t m x true)
    (ht : Tryd.prog.underlying t = some (.map kt et)) (hk : Tryd.prog.underlying kt = some (.int .i64)) (hz : ∀ w : World, (zeroValue et).run Tryd.prog w = .ok .nilFunc w) (hm : a.eval m = .map (some b)) (hx : a.eval x = .int .i64 k)
    (h : Maps w b l) (hn : at? l k = if ok then some val else none)
    (hK : wpList Tryd.prog ops Q rest (a.put o.dst (.tuple #[if ok then val else .nilFunc, .bool ok])) w) : wpList Tryd.prog ops Q (o :: rest) a w := by
  refine wpList_plain hgd fun K' hK' => ?_
  obtain ⟨es, clock, h1, h2⟩ := h
  have hf := find_at k es.toList l 0 h2
  have hkey : IsKey (.int .i64) (.int .i64 k) := rfl
  have hrun : (Instr.lookup t (.map (some b)) (.int .i64 k) true).run Tryd.prog w = .ok (.tuple #[if ok then val else .nilFunc, .bool ok]) w := by
    cases ok with
    | true =>
      rw [hn] at hf
      obtain ⟨j, hf⟩ := hf
      simp [Instr.lookup, run_underlying ht, MapKept.run_getObj_map h1, run_checkKey hk hkey, run_findKey hk hf, Result.andThen]
    | false =>
      rw [hn] at hf
      simp [Instr.lookup, run_underlying ht, MapKept.run_getObj_map h1, run_checkKey hk hkey, run_findKey hk hf, hz, Result.andThen]
  unfold Oper.wp
  simp [execOp, ho, hm, hx, hrun, Result.andThen]
  exact hK' _ _ hK
end

theorem made_below (w : World) (o : Obj) : Below w.heap.size w (w.alloc o) := (Below.refl _ _).alloc (Nat.le_refl _) _

theorem bnext {w wa wb : World} (h : Below w.heap.size w wa) (hb : Below wa.heap.size wa wb) : Below w.heap.size w wb := h.trans (hb.mono h.size)
theorem bnextA {w wa : World} (h : Below w.heap.size w wa) (o : Obj) : Below w.heap.size w (wa.alloc o) := h.alloc h.size o

/-- a function of the program as a value -/
def fnv (f : FuncId) : Value := .func (.func f) #[] #[]
def countsL : List (Int × Value) := [(69, fnv 54), (103, fnv 56), (104, fnv 58), (105, fnv 60)]
def turnsL : List (Int × Value) := [(167, fnv 62), (172, fnv 63), (173, fnv 65), (192, fnv 66), (193, fnv 67), (194, fnv 68)]
def sumsL : List (Int × Value) := [(106, fnv 77), (107, fnv 78), (108, fnv 79), (113, fnv 80), (114, fnv 81), (115, fnv 82)]
def divisionsL : List (Int × Value) := [(109, fnv 73), (110, fnv 74), (111, fnv 75), (112, fnv 76)]
def shiftsL : List (Int × Value) := [(116, fnv 83), (117, fnv 85), (118, fnv 86), (119, fnv 87), (120, fnv 89)]
def signedOrdersL : List (Int × Value) := [(72, fnv 91), (74, fnv 92), (76, fnv 93), (78, fnv 94)]
def ordersL : List (Int × Value) := [(70, fnv 95), (71, fnv 96), (73, fnv 97), (75, fnv 98), (77, fnv 99), (79, fnv 100)]

theorem counts_any (w : World) : Calls Tryd.prog 44 #[] w fun e w' => ∃ b, e = .returned (.map (some b)) ∧ Maps w' b countsL ∧ Below w.heap.size w w' := by
  have hmm := @run_makeMap Tryd.prog
  go_enter Tryd.func44, Tryd.ntmps44
  go_wp2_with (refine wpList_insert rfl rfl Tryd.underlying64 Tryd.underlying3 rfl rfl rfl (by first | assumption | exact Maps.made _) rfl (by first | assumption | exact made_below _ _) (Nat.le_refl _) ?_; intro w' h1 h2)
  go_ret
  exact ⟨_, rfl, h1, h2⟩

theorem turns_any (w : World) : Calls Tryd.prog 45 #[] w fun e w' => ∃ b, e = .returned (.map (some b)) ∧ Maps w' b turnsL ∧ Below w.heap.size w w' := by
  have hmm := @run_makeMap Tryd.prog
  go_enter Tryd.func45, Tryd.ntmps45
  go_wp2_with (refine wpList_insert rfl rfl Tryd.underlying64 Tryd.underlying3 rfl rfl rfl (by first | assumption | exact Maps.made _) rfl (by first | assumption | exact made_below _ _) (Nat.le_refl _) ?_; intro w' h1 h2)
  go_ret
  exact ⟨_, rfl, h1, h2⟩

theorem sums_any (w : World) : Calls Tryd.prog 50 #[] w fun e w' => ∃ b, e = .returned (.map (some b)) ∧ Maps w' b sumsL ∧ Below w.heap.size w w' := by
  have hmm := @run_makeMap Tryd.prog
  go_enter Tryd.func50, Tryd.ntmps50
  go_wp2_with (refine wpList_insert rfl rfl Tryd.underlying67 Tryd.underlying3 rfl rfl rfl (by first | assumption | exact Maps.made _) rfl (by first | assumption | exact made_below _ _) (Nat.le_refl _) ?_; intro w' h1 h2)
  go_ret
  exact ⟨_, rfl, h1, h2⟩

theorem divisions_any (w : World) : Calls Tryd.prog 49 #[] w fun e w' => ∃ b, e = .returned (.map (some b)) ∧ Maps w' b divisionsL ∧ Below w.heap.size w w' := by
  have hmm := @run_makeMap Tryd.prog
  go_enter Tryd.func49, Tryd.ntmps49
  go_wp2_with (refine wpList_insert rfl rfl Tryd.underlying67 Tryd.underlying3 rfl rfl rfl (by first | assumption | exact Maps.made _) rfl (by first | assumption | exact made_below _ _) (Nat.le_refl _) ?_; intro w' h1 h2)
  go_ret
  exact ⟨_, rfl, h1, h2⟩

theorem shifts_any (w : World) : Calls Tryd.prog 51 #[] w fun e w' => ∃ b, e = .returned (.map (some b)) ∧ Maps w' b shiftsL ∧ Below w.heap.size w w' := by
  have hmm := @run_makeMap Tryd.prog
  go_enter Tryd.func51, Tryd.ntmps51
  go_wp2_with (refine wpList_insert rfl rfl Tryd.underlying67 Tryd.underlying3 rfl rfl rfl (by first | assumption | exact Maps.made _) rfl (by first | assumption | exact made_below _ _) (Nat.le_refl _) ?_; intro w' h1 h2)
  go_ret
  exact ⟨_, rfl, h1, h2⟩

theorem signedOrders_any (w : World) : Calls Tryd.prog 69 #[] w fun e w' => ∃ b, e = .returned (.map (some b)) ∧ Maps w' b signedOrdersL ∧ Below w.heap.size w w' := by
  have hmm := @run_makeMap Tryd.prog
  go_enter Tryd.func69, Tryd.ntmps69
  go_wp2_with (refine wpList_insert rfl rfl Tryd.underlying75 Tryd.underlying3 rfl rfl rfl (by first | assumption | exact Maps.made _) rfl (by first | assumption | exact made_below _ _) (Nat.le_refl _) ?_; intro w' h1 h2)
  go_ret
  exact ⟨_, rfl, h1, h2⟩

theorem orders_any (w : World) : Calls Tryd.prog 71 #[] w fun e w' => ∃ b, e = .returned (.map (some b)) ∧ Maps w' b ordersL ∧ Below w.heap.size w w' := by
  have hmm := @run_makeMap Tryd.prog
  go_enter Tryd.func71, Tryd.ntmps71
  go_wp2_with (refine wpList_insert rfl rfl Tryd.underlying77 Tryd.underlying3 rfl rfl rfl (by first | assumption | exact Maps.made _) rfl (by first | assumption | exact made_below _ _) (Nat.le_refl _) ?_; intro w' h1 h2)
  go_ret
  exact ⟨_, rfl, h1, h2⟩

theorem one_counts (k : Int) (v : Value) (w : World) (hk : k < 167) (hat0 : at? countsL k = some v) :
    Calls Tryd.prog 33 #[.int .i64 k] w fun e w' => e = .returned v ∧ Below w.heap.size w w' := by
  have hat := Lib.hid hat0
  clear hat0
  go_enter Tryd.func33, Tryd.ntmps33
  go_wp2_with (first | (go_at_call 44; refine (counts_any _).mono ?_; rintro e w' ⟨b1, rfl, h1, h2⟩) | (at_lookup; refine wpList_look rfl rfl Tryd.underlying64 Tryd.underlying3 rfl rfl (by assumption) hat.out ?_))
  go_ret
  exact ⟨rfl, h2⟩

theorem one_turns (k : Int) (v : Value) (w : World) (hk : 167 ≤ k) (hat0 : at? turnsL k = some v) :
    Calls Tryd.prog 33 #[.int .i64 k] w fun e w' => e = .returned v ∧ Below w.heap.size w w' := by
  have hat := Lib.hid hat0
  clear hat0
  go_enter Tryd.func33, Tryd.ntmps33
  go_wp2_with (first | (go_at_call 45; refine (turns_any _).mono ?_; rintro e w' ⟨b1, rfl, h1, h2⟩) | (at_lookup; refine wpList_look rfl rfl Tryd.underlying64 Tryd.underlying3 rfl rfl (by assumption) hat.out ?_))
  go_ret
  exact ⟨rfl, h2⟩

theorem compares_signed (k : Int) (f : FuncId) (w : World) (hat0 : at? signedOrdersL k = some (.func (.func f) #[] #[])) :
    Calls Tryd.prog 48 #[.int .i64 k] w fun e w' => (∃ g, e = .returned (.func (.func 70) #[] #[.pointer (some ⟨g, 0, none⟩)]) ∧ w'.cell? ⟨g, 0, none⟩ = some (.func (.func f) #[] #[])) ∧ Below w.heap.size w w' := by
  have hat := Lib.hid hat0
  have hmf : ∀ (fn : Fn) (first cap : Array Value) (w : World), (Instr.makeFunc fn first cap).run Tryd.prog w = .ok (.func fn first cap) w := fun _ _ _ _ => rfl
  have hz : ∀ w : World, (zeroValue 73).run Tryd.prog w = .ok .nilFunc w := fun w => by kernel_rfl
  clear hat0
  go_enter Tryd.func48, Tryd.ntmps48
  go_wp2_with (first | (go_at_call 69; refine (signedOrders_any _).mono ?_; rintro e w' ⟨b1, rfl, h1, h2⟩) | (at_lookup; refine wpList_look_ok (ok := true) rfl rfl Tryd.underlying75 Tryd.underlying3 hz rfl rfl (by assumption) hat.out ?_))
  go_ret
  exact ⟨⟨_, rfl, by simp [go_sem]⟩, h2.alloc h2.size _⟩

theorem compares_plain (k : Int) (f : FuncId) (w : World) (hno0 : at? signedOrdersL k = none) (hat0 : at? ordersL k = some (.func (.func f) #[] #[])) :
    Calls Tryd.prog 48 #[.int .i64 k] w fun e w' => (∃ g, e = .returned (.func (.func 72) #[] #[.pointer (some ⟨g, 0, none⟩)]) ∧ w'.cell? ⟨g, 0, none⟩ = some (.func (.func f) #[] #[])) ∧ Below w.heap.size w w' := by
  have hat := Lib.hid hat0
  have hno := Lib.hid hno0
  have hmf : ∀ (fn : Fn) (first cap : Array Value) (w : World), (Instr.makeFunc fn first cap).run Tryd.prog w = .ok (.func fn first cap) w := fun _ _ _ _ => rfl
  have hz : ∀ w : World, (zeroValue 73).run Tryd.prog w = .ok .nilFunc w := fun w => by kernel_rfl
  clear hat0 hno0
  go_enter Tryd.func48, Tryd.ntmps48
  go_wp2_with (first | (go_at_call 69; refine (signedOrders_any _).mono ?_; rintro e w' ⟨b1, rfl, h1, h2⟩) | (at_lookup; refine wpList_look_ok (ok := false) (val := .nilFunc) rfl rfl Tryd.underlying75 Tryd.underlying3 hz rfl rfl (by assumption) hno.out ?_) | (go_at_call 71; refine (orders_any _).mono ?_; rintro e w' ⟨b2, rfl, h3, h4⟩) | (at_lookup; refine wpList_look rfl rfl Tryd.underlying77 Tryd.underlying3 rfl rfl (by assumption) hat.out ?_))
  go_ret
  exact ⟨⟨_, rfl, by simp [go_sem]⟩, bnextA (bnext (bnextA h2 _) h4) _⟩

theorem belowN {B : Nat} (w : World) (n : Nat) : Below B w (w.drewN n) := ⟨rfl, rfl, rfl, Nat.le_refl _, fun _ _ => rfl⟩

theorem two_divisions (k : Int) (v : Value) (w : World) (h1 : 109 ≤ k) (h2 : k ≤ 112) (hat0 : at? divisionsL k = some v) :
    Calls Tryd.prog 35 #[.int .i64 k] w fun e w' => e = .returned v ∧ Below w.heap.size w w' := by
  have hat := Lib.hid hat0
  have hdv : (decide (109 ≤ k) && decide (k ≤ 112)) = true := by simp; omega
  have HD := Lib.hid (fun w' => hdv ▸ divides_any k w')
  have t1 : 106 ≤ k := by omega

  clear hat0 hdv 
  go_enter Tryd.func35, Tryd.ntmps35
  go_wp2_with (first
    | (go_at_call 28; refine (HD.out _).mono ?_; rintro e w' ⟨rfl, m, rfl⟩)
    | (go_at_call 49; refine (divisions_any _).mono ?_; rintro e w' ⟨b1, rfl, h1, h2⟩)
    | (at_lookup; refine wpList_look rfl rfl Tryd.underlying67 Tryd.underlying3 rfl rfl (by assumption) hat.out ?_))
  go_ret
  exact ⟨rfl, bnext (belowN w m) h2⟩

theorem two_sums (k : Int) (v : Value) (w : World) (h1 : 106 ≤ k) (h2 : k < 109 ∨ 112 < k) (h3 : k < 116) (hat0 : at? sumsL k = some v) :
    Calls Tryd.prog 35 #[.int .i64 k] w fun e w' => e = .returned v ∧ Below w.heap.size w w' := by
  have hat := Lib.hid hat0
  have hdv : (decide (109 ≤ k) && decide (k ≤ 112)) = false := by simp; omega
  have HD := Lib.hid (fun w' => hdv ▸ divides_any k w')
  have t1 : 106 ≤ k := by omega
  have t2 : k < 116 := by omega
  clear hat0 hdv h2
  go_enter Tryd.func35, Tryd.ntmps35
  go_wp2_with (first
    | (go_at_call 28; refine (HD.out _).mono ?_; rintro e w' ⟨rfl, m, rfl⟩)
    | (go_at_call 50; refine (sums_any _).mono ?_; rintro e w' ⟨b1, rfl, h1, h2⟩)
    | (at_lookup; refine wpList_look rfl rfl Tryd.underlying67 Tryd.underlying3 rfl rfl (by assumption) hat.out ?_))
  go_ret
  exact ⟨rfl, bnext (belowN w m) h2⟩

theorem two_shifts (k : Int) (v : Value) (w : World) (h1 : 116 ≤ k) (hat0 : at? shiftsL k = some v) :
    Calls Tryd.prog 35 #[.int .i64 k] w fun e w' => e = .returned v ∧ Below w.heap.size w w' := by
  have hat := Lib.hid hat0
  have hdv : (decide (109 ≤ k) && decide (k ≤ 112)) = false := by simp; omega
  have HD := Lib.hid (fun w' => hdv ▸ divides_any k w')
  have t1 : 106 ≤ k := by omega

  clear hat0 hdv 
  go_enter Tryd.func35, Tryd.ntmps35
  go_wp2_with (first
    | (go_at_call 28; refine (HD.out _).mono ?_; rintro e w' ⟨rfl, m, rfl⟩)
    | (go_at_call 51; refine (shifts_any _).mono ?_; rintro e w' ⟨b1, rfl, h1, h2⟩)
    | (at_lookup; refine wpList_look rfl rfl Tryd.underlying67 Tryd.underlying3 rfl rfl (by assumption) hat.out ?_))
  go_ret
  exact ⟨rfl, bnext (belowN w m) h2⟩

theorem two_compares (k : Int) (w : World) (R : Ending → World → Prop) (h1 : k < 106) (hc : Calls Tryd.prog 48 #[.int .i64 k] w R) (hR : ∀ e w', R e w' → ∃ v, e = .returned v) :
    Calls Tryd.prog 35 #[.int .i64 k] w R := by
  have HC := Lib.hid (hc.mono (fun e w' h => And.intro h (hR e w' h)))
  clear hc hR
  go_enter Tryd.func35, Tryd.ntmps35
  go_wp2_with (go_at_call 48; refine HC.out.mono ?_; rintro e w' ⟨h, v, rfl⟩)
  exact h

end Go.Proofs.YtmikhbpffmojhaaDoor.nm
