/- num.Eval of whatever operator and numbers. -/
import Derived.Test.YtmikhbpffmojhaaDoorEvalC
set_option linter.unusedVariables false
namespace Go.Proofs.YtmikhbpffmojhaaDoor.nm
open Go.RowKit

theorem run_cases {r : Rn} (h : r ∈ runsL) : r = ((69, 69, 69, 127, 1, 127) : Rn) ∨ r = ((70, 79, 70, 127, 2, 127) : Rn) ∨ r = ((80, 80, 69, 126, 1, 127) : Rn) ∨ r = ((81, 90, 70, 126, 2, 127) : Rn) ∨ r = ((103, 105, 103, 127, 1, 127) : Rn) ∨ r = ((106, 120, 106, 127, 2, 127) : Rn) ∨
    r = ((121, 123, 103, 126, 1, 126) : Rn) ∨ r = ((124, 138, 106, 126, 2, 126) : Rn) ∨ r = ((167, 167, 167, 126, 1, 127) : Rn) ∨ r = ((172, 173, 172, 127, 1, 126) : Rn) ∨ r = ((192, 193, 192, 127, 1, 127) : Rn) ∨ r = ((194, 196, 192, 126, 1, 126) : Rn) := by
  rcases List.mem_cons.1 h with h | h; · exact .inl h
  rcases List.mem_cons.1 h with h | h; · exact .inr (.inl h)
  rcases List.mem_cons.1 h with h | h; · exact .inr (.inr (.inl h))
  rcases List.mem_cons.1 h with h | h; · exact .inr (.inr (.inr (.inl h)))
  rcases List.mem_cons.1 h with h | h; · exact .inr (.inr (.inr (.inr (.inl h))))
  rcases List.mem_cons.1 h with h | h; · exact .inr (.inr (.inr (.inr (.inr (.inl h)))))
  rcases List.mem_cons.1 h with h | h; · exact .inr (.inr (.inr (.inr (.inr (.inr (.inl h))))))
  rcases List.mem_cons.1 h with h | h; · exact .inr (.inr (.inr (.inr (.inr (.inr (.inr (.inl h)))))))
  rcases List.mem_cons.1 h with h | h; · exact .inr (.inr (.inr (.inr (.inr (.inr (.inr (.inr (.inl h))))))))
  rcases List.mem_cons.1 h with h | h; · exact .inr (.inr (.inr (.inr (.inr (.inr (.inr (.inr (.inr (.inl h)))))))))
  rcases List.mem_cons.1 h with h | h; · exact .inr (.inr (.inr (.inr (.inr (.inr (.inr (.inr (.inr (.inr (.inl h))))))))))
  rcases List.mem_cons.1 h with h | h; · exact .inr (.inr (.inr (.inr (.inr (.inr (.inr (.inr (.inr (.inr (.inr h))))))))))
  exact absurd h List.not_mem_nil

theorem run_likes {r : Rn} {op : Int} (h : r ∈ runsL) (h1 : r.first ≤ op) (h2 : op ≤ r.last) :
    (r.takes = 1 → (op - r.first + r.like = 69 ∨ op - r.first + r.like = 103 ∨ op - r.first + r.like = 104 ∨ op - r.first + r.like = 105 ∨ op - r.first + r.like = 167 ∨ op - r.first + r.like = 172 ∨ op - r.first + r.like = 173 ∨ op - r.first + r.like = 192 ∨ op - r.first + r.like = 193 ∨ op - r.first + r.like = 194)) ∧
    (r.takes = 2 → (70 ≤ op - r.first + r.like ∧ op - r.first + r.like ≤ 79 ∨ 106 ≤ op - r.first + r.like ∧ op - r.first + r.like ≤ 120)) := by
  rcases run_cases h with rfl | rfl | rfl | rfl | rfl | rfl | rfl | rfl | rfl | rfl | rfl | rfl <;>
    simp only [Rn.first, Rn.last, Rn.like, Rn.takes] at h1 h2 ⊢ <;> omega

theorem fits_lt {t x : Int} {d : Int} (hd : (wd t : Int) = d) (hx : x < 18446744073709551616) (h : fits t x = true) : x < 2 ^ d.toNat := by
  have e : d.toNat = wd t := by omega
  rw [e]
  unfold fits at h
  unfold wd
  by_cases ht : t = 127
  · rw [if_pos ht] at h ⊢
    have e2 : (2 : Int) ^ 32 = 4294967296 := rfl
    rw [e2]; exact of_decide_eq_true h
  · rw [if_neg ht]
    have e2 : (2 : Int) ^ 64 = 18446744073709551616 := rfl
    rw [e2]; exact hx

theorem Eval_any (op : Int) (v : Value) (l : List Int) (w : World) (R : Runs w) (T : Tab w) (hv : Rd .u64 w v l) (hl : ∀ x ∈ l, 0 ≤ x ∧ x < 18446744073709551616) (hlen : l.length ≤ 4611686018427387904) :
    Calls Tryd.prog 20 #[.int .i64 op, v] w fun e w' => e = evR (ev op l) ∧ Below w.heap.size w w' := by
  cases h : runAt op with
  | none => rw [ev_none h]; exact eval_none op v w R h
  | some r =>
    by_cases hn : (l.length : Int) = r.takes
    · cases hf : l.all (fits r.of) with
      | false => rw [ev_not h (by rw [hf]; simp)]; exact eval_unfit op v l w R r h hv hl hlen hn hf
      | true =>
        obtain ⟨hmem, h1, h2⟩ := runAt_spec h
        obtain ⟨k1, k2⟩ := run_likes hmem h1 h2
        obtain ⟨_, _, _, _, _, ht⟩ := run_facts r hmem
        rcases ht with ht | ht
        · obtain ⟨a, rfl⟩ : ∃ a, l = [a] := by
            rw [ht] at hn
            match l, hn with
            | [a], _ => exact ⟨a, rfl⟩
          have ha := hl a (by simp)
          have fa : fits r.of a = true := by simpa using hf
          exact eval_one op a v w R T r h hv ht _ rfl ha.1 (fits_lt rfl ha.2 fa) hf (k1 ht)
        · obtain ⟨a, b, rfl⟩ : ∃ a b, l = [a, b] := by
            rw [ht] at hn
            match l, hn with
            | [a, b], _ => exact ⟨a, b, rfl⟩
            | [], hn => simp at hn
            | [_], hn => simp at hn
            | _ :: _ :: _ :: _, hn => simp at hn; omega
          have ha := hl a (by simp)
          have hb := hl b (by simp)
          have fab : fits r.of a = true ∧ fits r.of b = true := by simpa using hf
          exact eval_two op a b v w R T r h hv ht _ rfl ha.1 (fits_lt rfl ha.2 fab.1) hb.1 (fits_lt rfl hb.2 fab.2) hf (k2 ht)
    · rw [ev_not h (fun hh => hn hh.1)]; exact eval_many op v l w R r h hv hn

end Go.Proofs.YtmikhbpffmojhaaDoor.nm
