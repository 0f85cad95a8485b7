/- A row of loops of the call's own. -/
import Derived.Test.YtcghekbbaeejaaaGArW
import Derived.Laws.Tables
set_option linter.unusedVariables false
set_option linter.unusedSimpArgs false
namespace Go.Proofs.Ytcghekbbaeejaaa.gr
open Go.RowKit Go.Proofs.Ytcghekbbaeejaaa.Gr

theorem infoLp : (Try.prog.info? 44).map (fun i => (i.zero, i.size, i.bytes)) = some (some (.agg #[.int .i64 0, .slice none 0 0]), 2, 32) := by kernel_rfl

def flatL (ls : List (Nat × List Nat × Value)) : List Value := ls.flatMap fun t => [.int .i64 (t.1 : Nat), t.2.2]
theorem flatL_len (ls : List (Nat × List Nat × Value)) : (flatL ls).length = ls.length * 2 := by
  induction ls with
  | nil => rfl
  | cons t ls ih => unfold flatL at ih ⊢; rw [List.flatMap_cons, List.length_append, ih]; simp; omega
theorem flatL_snoc (ls : List (Nat × List Nat × Value)) (t : Nat × List Nat × Value) : flatL (ls ++ [t]) = flatL ls ++ [.int .i64 (t.1 : Nat), t.2.2] := by unfold flatL; rw [List.flatMap_append]; simp
theorem flatL_get : ∀ (ls : List (Nat × List Nat × Value)) (k : Nat) (hk : k < ls.length), (flatL ls)[2 * k]? = some (.int .i64 (ls[k].1 : Nat)) ∧ (flatL ls)[2 * k + 1]? = some ls[k].2.2
  | t :: ls, 0, _ => by simp [flatL]
  | t :: ls, k + 1, hk => by
    have := flatL_get ls k (by simpa using hk)
    have e : flatL (t :: ls) = .int .i64 (t.1 : Nat) :: t.2.2 :: flatL ls := by simp [flatL]
    rw [e, show 2 * (k + 1) = 2 * k + 1 + 1 by omega, show 2 * k + 1 + 1 + 1 = (2 * k + 1) + 1 + 1 by omega]
    simpa using this

/-- v is the call's own row of the loops L, and their nodes are own rows, too -/
def LP (w : World) (B : Nat) (v : Value) (L : List (Nat × List Nat)) : Prop :=
  ∃ ls : List (Nat × List Nat × Value), ls.map (fun t => (t.1, t.2.1)) = L ∧ w.ownsRow B 44 2 v ls.length (flatL ls) ∧ ∀ t ∈ ls, gi.Own w B t.2.2 (up t.2.1)
theorem LP.nil (w : World) (B : Nat) : LP w B (.slice none 0 0) [] := ⟨[], rfl, World.ownsRow_nil _ _ _ _, by simp⟩
theorem row_ne {w : World} {B B' : Nat} {e e' size size' n n' : Nat} {v v' : Value} {xs xs' : List Value} (h : w.ownsRow B e size v n xs) (h' : w.ownsRow B' e' size' v' n' xs') (hne : e ≠ e') : v.ownBlock = none ∨ v.ownBlock ≠ v'.ownBlock := by
  rcases h.2 with ⟨rfl, _⟩ | ⟨g, cap, cur, rfl, _, hgg, _⟩
  · exact .inl rfl
  · rcases h'.2 with ⟨rfl, _⟩ | ⟨g', cap', cur', rfl, _, hgg', _⟩
    · exact .inr (by simp [Value.ownBlock])
    · refine .inr fun he => ?_
      simp only [Value.ownBlock, Option.some.injEq] at he
      subst he
      rw [hgg] at hgg'
      simp only [Option.some.injEq, Obj.cells.injEq] at hgg'
      exact hne hgg'.2.1
theorem LP.lift {w w' : World} {B : Nat} {v : Value} {L : List (Nat × List Nat)} (h : LP w B v L) (hb : Below w.heap.size w w') : LP w' B v L := by
  obtain ⟨ls, h1, h2, h3⟩ := h
  have hg : w.grownBy w' none := ⟨hb.os, hb.tape, hb.output, hb.size, fun i hi _ => hb.block i hi⟩
  refine ⟨ls, h1, h2.kept hg ?_, fun t ht => own_kept (h3 t ht) hg ?_⟩
  · cases h : v.ownBlock with
    | none => exact .inl rfl
    | some _ => exact .inr (by simp)
  · cases h : t.2.2.ownBlock with
    | none => exact .inl rfl
    | some _ => exact .inr (by simp)
theorem row_mono {w : World} {B B' : Nat} {e : TypeId} {size n : Nat} {v : Value} {xs : List Value} (h : w.ownsRow B e size v n xs) (hB : B' ≤ B) : w.ownsRow B' e size v n xs := by
  refine ⟨h.1, ?_⟩
  rcases h.2 with h | ⟨g, cap, cur, rfl, hb, r⟩
  · exact .inl h
  · exact .inr ⟨g, cap, cur, rfl, by omega, r⟩
theorem LP.mono {w : World} {B B' : Nat} {v : Value} {L : List (Nat × List Nat)} (h : LP w B v L) (hB : B' ≤ B) : LP w B' v L := by
  obtain ⟨ls, h1, h2, h3⟩ := h
  exact ⟨ls, h1, row_mono h2 hB, fun t ht => (h3 t ht).mono hB⟩
theorem LP.lt {w : World} {B : Nat} {v : Value} {L : List (Nat × List Nat)} (h : LP w B v L) : ∀ j, v.ownBlock = some j → B ≤ j := by
  obtain ⟨ls, h1, h2, h3⟩ := h
  exact fun j hj => (h2.lt j hj).1
theorem LP.len {w : World} {B : Nat} {v : Value} {L : List (Nat × List Nat)} (h : LP w B v L) : ∃ ao cap, v = .slice ao L.length cap ∧ L.length ≤ cap := by
  obtain ⟨ls, h1, h2, h3⟩ := h
  have hl : ls.length = L.length := by rw [← h1, List.length_map]
  rcases h2.2 with ⟨rfl, e⟩ | ⟨g, cap, cur, rfl, _, _, hn, _⟩
  · exact ⟨none, 0, by rw [← hl, e], by omega⟩
  · exact ⟨_, cap, by rw [← hl], by omega⟩

theorem build_loop (h : Int) (ao : Option Addr) (n c : Nat) (w : World) : (Instr.build 44 #[(0, .int .i64 h), (1, .slice ao n c)]).run Try.prog w = .ok (.agg #[.int .i64 h, .slice ao n c]) w := run_build w _ _ _ (by kernel_rfl)

section
variable {ops : Array Oper} {rest : List Oper} {o : Oper} {a : Act} {Q : Exit → Act → World → Prop} {w : World} {B : Nat}
/-- append of one loop, which lies in a block of its own just made -/
theorem appL (s x : Operand) (hgd : o.guard = none) (ho : o.op = .call { callee := .builtin .append, args := #[s, x], argTypes := #[37, 37] })
    {v : Value} (hs : a.eval s = v) {L : List (Nat × List Nat)} (hown : LP w B v L) {h : Nat} {ns : List Nat} {ao : Option Addr} {n c : Nat} (hN : gi.Own w B (.slice ao n c) (up ns)) {p : Nat} (hx : a.eval x = .slice (some ⟨p, 0, none⟩) 1 1) (hp : p = w.heap.size) (hl : L.length + 1 ≤ 1000) (hB : B ≤ w.heap.size)
    (hq : ∀ v' w', LP w' B v' (L ++ [(h, ns)]) → w.grownBy w' v.ownBlock → wpList Try.prog ops Q rest (a.put o.dst v') w') : wpList Try.prog ops Q (o :: rest) a (w.alloc (.cells #[.int .i64 (h : Nat), .slice ao n c] 44)) := by
  subst hp
  obtain ⟨i0, hi, hz0, hz1, hz2⟩ := info_parts infoLp
  obtain ⟨ls, h1, h2, h3⟩ := hown
  have hll : ls.length = L.length := by rw [← h1, List.length_map]
  have ge : w.grownBy (w.alloc (.cells #[.int .i64 (h : Nat), .slice ao n c] 44)) none := World.grownBy_alloc w _ none
  refine wpList_append_lies _ hgd s x 37 ho B 44 i0 _ 2 32 Try.underlying37 hi hz0 hz1 hz2 rfl (by decide) v ls.length (flatL ls) hs (World.ownsRow.alloc h2 _) ⟨w.heap.size, 0, none⟩ 1 1 [.int .i64 (h : Nat), .slice ao n c] hx rfl ?_ ?_ (by decide) (by unfold maxLen; omega) (by omega) (by simp; omega) (w.heap.size + 1) (by simp) ?_
  · intro j u hj
    match j, hj with
    | 0, hj => simp at hj; subst hj; simp [Addr.add]
    | 1, hj => simp at hj; subst hj; simp [Addr.add]
  · intro u hu; simp at hu; rcases hu with rfl | rfl <;> rfl
  · intro g cap w' k1 k2 k3 k4
    refine hq _ w' ⟨ls ++ [(h, ns, .slice ao n c)], by rw [List.map_append, h1]; rfl, ?_, fun t ht => ?_⟩ (grown_trans ge k2)
    · rw [flatL_snoc, List.length_append]; exact k1
    · have hk : ∀ u xs, gi.Own w B u xs → gi.Own w' B u xs := fun u xs hu => own_kept (World.ownsRow.alloc hu _) k2 (row_ne hu h2 (by decide))
      rcases List.mem_append.1 ht with ht | ht
      · exact hk _ _ (h3 t ht)
      · simp only [List.mem_singleton] at ht; subst ht; exact hk _ _ hN
end
end Go.Proofs.Ytcghekbbaeejaaa.gr
