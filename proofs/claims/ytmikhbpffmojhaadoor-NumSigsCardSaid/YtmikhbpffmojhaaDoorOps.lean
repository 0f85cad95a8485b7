/- Slices of whole numbers that a call makes by appending, and the document's list of all operators. -/
import Derived.Test.YtmikhbpffmojhaaDoorRefSig
import Derived.Laws.AppendOwnNone
set_option linter.unusedVariables false
namespace Go.Proofs.YtmikhbpffmojhaaDoor.nm
open Go.RowKit

theorem infoInt : (Tryd.prog.info? 3).map (fun i => (i.zero, i.size, i.bytes)) = some (some (.int .i64 0), 1, 8) := by kernel_rfl

/-- v is the call's own row, of a block from B on, whose first cells are the numbers xs -/
def Own (w : World) (B : Nat) (v : Value) (xs : List Int) : Prop := w.ownsRow B 3 1 v xs.length (xs.map (.int .i64))

theorem map_get {q : IntKind} {l : List Int} {k : Nat} {u : Value} (h : (l.map (Value.int q))[k]? = some u) : k < l.length ∧ u = .int q (l.getD k 0) := by
  rw [List.getElem?_map] at h
  obtain ⟨x, hx, rfl⟩ := Option.map_eq_some_iff.1 h
  obtain ⟨hk, rfl⟩ := List.getElem?_eq_some_iff.1 hx
  exact ⟨hk, by rw [List.getD_eq_getElem?_getD, List.getElem?_eq_getElem hk]; rfl⟩
theorem get_map {q : IntKind} {l : List Int} {k : Nat} (h : k < l.length) : (l.map (Value.int q))[k]? = some (.int q (l.getD k 0)) := by
  rw [List.getElem?_map, List.getElem?_eq_getElem h, List.getD_eq_getElem?_getD, List.getElem?_eq_getElem h]; rfl
theorem Own.rd {w : World} {B : Nat} {v : Value} {xs : List Int} (h : Own w B v xs) : Rd .i64 w v xs := by
  rcases h.2 with ⟨rfl, hn⟩ | ⟨g, cap, cur, rfl, hb, hg, hn, hm, hs, ht⟩
  · have : xs = [] := List.eq_nil_of_length_eq_zero hn
    subst this; exact ⟨none, 0, rfl, Nat.le_refl _, fun _ => rfl, .inl rfl⟩
  · refine ⟨_, cap, rfl, hn, (fun h => by cases h), .inr ⟨g, 0, rfl, fun k hk => ?_⟩⟩
    have := World.ownsRow.cells h (g := g) rfl k _ (get_map hk)
    rwa [show (⟨g, 0, none⟩ : Addr).add k = ⟨g, 0 + k, none⟩ from add_lit g 0 k] at this
theorem Own.lt {w : World} {B : Nat} {v : Value} {xs : List Int} (h : Own w B v xs) : ∀ k, v.ownBlock = some k → B ≤ k ∧ k < w.heap.size := World.ownsRow.lt h
theorem Own.nil (w : World) (B : Nat) : Own w B (.slice none 0 0) [] := World.ownsRow_nil w B _ _

section
variable {ops : Array Oper} {rest : List Oper} {o : Oper} {a : Act} {Q : Exit → Act → World → Prop} {w w0 : World} {B : Nat} {xs : List Int}
/-- append of one number onto a row of the call's own -/
theorem wpList_append_int (s x : Operand) (hgd : o.guard = none) (ho : o.op = .call { callee := .builtin .append, args := #[s, x], argTypes := #[22, 22] })
    {v : Value} (hs : a.eval s = v) (hown : Own w B v xs) (c : Int) (hx : a.eval x = .slice (some ⟨w.heap.size, 0, none⟩) 1 1) (hl : xs.length + 1 ≤ 1000000) (hB : B ≤ w.heap.size) (hb : Below B w0 w)
    (h : ∀ v' w', Own w' B v' (xs ++ [c]) → Below B w0 w' → wpList Tryd.prog ops Q rest (a.put o.dst v') w') : wpList Tryd.prog ops Q (o :: rest) a (w.alloc (.cells #[.int .i64 c] 3)) := by
  obtain ⟨i0, hi, hz0, hz1, hz2⟩ := info_parts infoInt
  refine wpList_append_own _ hgd s x 22 ho B 3 i0 (.int .i64 0) 1 8 Tryd.underlying22 hi hz0 hz1 hz2 rfl (by decide) v xs.length (xs.map (.int .i64)) hs (World.ownsRow.alloc hown _) ⟨w.heap.size, 0, none⟩ 1 1 [.int .i64 c] hx rfl ?_ ?_ (by unfold maxLen; omega) (by omega) (by simp; omega) ?_
  · intro j u hj
    match j, hj with
    | 0, hj => simp at hj; subst hj; simp [Addr.add]
  · intro u hu; simp at hu; subst hu; rfl
  · intro v' w' h1 h2 _
    refine h v' w' ?_ ?_
    · unfold Own; rw [List.map_append, List.length_append]; exact h1
    · exact (hb.alloc hB _).grown h2 (by simp; omega) (fun k hk => (hown.lt k hk).1)
end

/-- the operators below n, rising -/
def below : Nat → List Int
  | 0 => []
  | n + 1 => if ofT (n : Int) == 0 then below n else below n ++ [(n : Int)]
theorem below_len : ∀ n, (below n).length ≤ n
  | 0 => Nat.le_refl _
  | n + 1 => by
    have := below_len n
    rw [below]; split
    · omega
    · rw [List.length_append]; simp; omega
theorem below_mem : ∀ (n : Nat) (x : Int), x ∈ below n → (ofT x == 0) = false ∧ 0 ≤ x ∧ x < n
  | 0, x, h => by cases h
  | n + 1, x, h => by
    rw [below] at h
    split at h
    · have := below_mem n x h; exact ⟨this.1, this.2.1, by omega⟩
    · rename_i hne
      rcases List.mem_append.1 h with h | h
      · have := below_mem n x h; exact ⟨this.1, this.2.1, by omega⟩
      · rw [List.mem_singleton] at h; subst h
        exact ⟨by simpa using hne, by omega, by omega⟩

set_option maxRecDepth 100000 in
set_option maxHeartbeats 1000000 in
theorem refOps_any (w : World) : Calls Tryd.prog 18 #[] w fun e w' => ∃ v, e = .returned v ∧ Rd .i64 w' v (below 256) ∧ Below w.heap.size w w' := by
  have HO := Lib.hid (fun o w' => of_any o w')
  go_enter Tryd.func18, Tryd.ntmps18
  go_wp2
  go_loopw [1, 2] (fun v x wr => ∃ n : Nat, x = .int .i64 n ∧ n ≤ 256 ∧ Own wr w.heap.size v (below n) ∧ Below w.heap.size w wr) (fun _ x _ => 256 - (intOf x).toNat)
  case atStart => exact ⟨0, rfl, by omega, Own.nil _ _, Below.refl _ _⟩
  case round =>
    obtain ⟨n, rfl, hn, Ho, hB⟩ := hrel
    by_cases hc : n < 256
    · have hlen : (below n).length + 1 ≤ 1000000 := by have := below_len n; omega
      have Hs := hB.size
      cases ho : (ofT (n : Int) == 0) with
      | true =>
        have hx : (ofT (n : Int) != 0) = false := by simp [bne, ho]
        have e : below (n + 1) = below n := by rw [below, if_pos ho]
        have He := Lib.hid e
        clear e ho
        go_wp2_with (go_at_call 25; refine (HO.out _ _).mono ?_; rintro e w' ⟨rfl, rfl⟩)
        exact ⟨⟨n + 1, rfl, by omega, by rw [He.out]; exact Ho, hB⟩, by simp only [intOf]; omega⟩
      | false =>
        have hx : (ofT (n : Int) != 0) = true := by simp [bne, ho]
        have e : below (n + 1) = below n ++ [(n : Int)] := by rw [below, if_neg (by rw [ho]; decide)]
        have He := Lib.hid e
        clear e ho
        go_wp2_with (first
          | (go_at_call 25; refine (HO.out _ _).mono ?_; rintro e w' ⟨rfl, rfl⟩)
          | (at_builtin; refine wpList_append_int (.tmp 10) (.tmp 12) rfl rfl rfl Ho (n : Int) rfl hlen Hs hB ?_; intro v' w1 Ho1 hB1))
        exact ⟨⟨n + 1, rfl, by omega, by rw [He.out]; exact Ho1, hB1⟩, by simp only [intOf]; omega⟩
    · have he : n = 256 := by omega
      subst he
      go_wp2
      go_ret
      exact ⟨_, rfl, Ho.rd, hB⟩

end Go.Proofs.YtmikhbpffmojhaaDoor.nm
