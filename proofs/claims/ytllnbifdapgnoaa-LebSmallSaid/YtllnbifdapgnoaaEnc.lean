/- What was put is read: plain mathematics of the groups that encU and encS make. -/
import Derived.Test.YtllnbifdapgnoaaUS
namespace Go.Proofs.Ytllnbifdapgnoaa.lb

theorem takeWhile_marked (p : List Int) (h : Marked p) : ∀ r : List Int, (∀ x ∈ r.head?, x < 128) → (p ++ r).takeWhile (fun x => decide (128 ≤ x)) = p := by
  induction p with
  | nil =>
    intro r hr
    cases r with
    | nil => rfl
    | cons c r => have := hr c (by simp); rw [List.nil_append, List.takeWhile_cons, if_neg (by simp; omega)]
  | cons x p ih =>
    intro r hr
    rw [List.cons_append, List.takeWhile_cons, if_pos (by have := h x (List.mem_cons_self ..); simp; omega), ih (fun y hy => h y (List.mem_cons_of_mem _ hy)) r hr]

/-- a number's groups stand at a place -/
theorem mk_at (pre p r : List Int) (hp : Marked p) (hr : ∀ x ∈ r.head?, x < 128) : mk (pre ++ (p ++ r)) pre.length = p.length := by
  unfold mk
  rw [List.drop_left, takeWhile_marked p hp r hr]
theorem getD_at (pre p r : List Int) : (pre ++ (p ++ r)).getD (pre.length + p.length) 0 = r.getD 0 0 := by
  rw [← getD_drop, List.drop_left, List.getD_eq_getElem?_getD, List.getElem?_append_right (Nat.le_refl _), Nat.sub_self, ← List.getD_eq_getElem?_getD]
theorem vj_at (pre p r : List Int) (c : Int) : vj (pre ++ (p ++ c :: r)) pre.length (p.length + 1) = valB (p ++ [c]) := by
  unfold vj
  rw [List.drop_left, show p ++ c :: r = (p ++ [c]) ++ r from by simp, List.take_left' (by simp)]

theorem decU_at (pre p r : List Int) (c : Int) (k : Nat) (lim : Int) (hp : Marked p) (hc : c < 128) (hk : p.length < k) (hl : p.length + 1 = k → c < lim) :
    decU (pre ++ (p ++ c :: r)) pre.length k lim = (valB (p ++ [c]), ((pre.length + p.length + 1 : Nat) : Int), 0, 0) := by
  have hm := mk_at pre p (c :: r) hp (by intro x hx; simp at hx; omega)
  rw [decU_ok _ _ _ _ (by rw [hm]; exact hk) (by rw [hm]; simp) (by rw [hm, getD_at]; exact hl), hm, vj_at]
theorem decS_at (pre p r : List Int) (c : Int) (k : Nat) (good : Int → Bool) (hp : Marked p) (hc0 : 0 ≤ c) (hc : c < 128) (hk : p.length < k) (hl : p.length + 1 = k → good c = true) :
    decS (pre ++ (p ++ c :: r)) pre.length k good = (valS p c, ((pre.length + p.length + 1 : Nat) : Int), 0, 0) := by
  have hm := mk_at pre p (c :: r) hp (by intro x hx; simp at hx; omega)
  rw [decS_ok _ _ _ _ (by rw [hm]; exact hk) (by rw [hm]; simp) (by rw [hm, getD_at]; exact hl), hm]
  unfold svj valS
  rw [vj_at, show pre.length + (p.length + 1) - 1 = pre.length + p.length from by omega, getD_at]
  show (_, _) = _
  have : (c :: r).getD 0 0 = c := rfl
  rw [this, Int.emod_eq_of_lt hc0 hc, Int.pow_mul]
  rfl

theorem fullU_64 (pre post : List Int) (n : Int) (h0 : 0 ≤ n) (h1 : n < 18446744073709551616) :
    fullU (pre ++ (encU n ++ post)) pre.length 64 = (n, ((pre.length + (encU n).length : Nat) : Int), 0, 0) := by
  obtain ⟨p, c, he, hp, hc0, hc, hv, hl, hk⟩ := encU_form64 n h0 h1
  unfold fullU
  rw [if_pos ⟨by omega, by simp only [List.length_append]; omega⟩, if_neg (by decide), if_pos rfl, Int.toNat_natCast, he, List.append_assoc]
  show decU (pre ++ (p ++ c :: post)) _ _ _ = _
  rw [decU_at pre p post c 10 2 hp hc (by omega) (fun h => hk (by omega)), hv]
  simp
  omega
theorem fullS_64 (pre post : List Int) (n : Int) (h0 : -9223372036854775808 ≤ n) (h1 : n < 9223372036854775808) :
    fullS (pre ++ (encS n ++ post)) pre.length 64 = (n, ((pre.length + (encS n).length : Nat) : Int), 0, 0) := by
  obtain ⟨p, c, he, hp, hc0, hc, hv, hl, hk⟩ := encS_form64 n h0 h1
  unfold fullS
  rw [if_pos ⟨by omega, by simp only [List.length_append]; omega⟩, if_neg (by decide), if_pos rfl, Int.toNat_natCast, he, List.append_assoc]
  show decS (pre ++ (p ++ c :: post)) _ _ _ = _
  rw [decS_at pre p post c 10 good64 hp hc0 hc (by omega) (fun h => by unfold good64; have := hk (by omega); simp; omega), hv]
  simp
  omega
theorem fullU_32 (post : List Int) (n : Int) (h0 : 0 ≤ n) (h1 : n < 4294967296) :
    fullU (encU n ++ post) 0 32 = (n, ((encU n).length : Int), 0, 0) := by
  obtain ⟨p, c, he, hp, hc0, hc, hv, hl, hk⟩ := encU_form32 n h0 h1
  unfold fullU
  rw [if_pos ⟨by omega, by omega⟩, if_pos rfl, he, List.append_assoc]
  show decU ([] ++ (p ++ c :: post)) ([] : List Int).length _ _ = _
  rw [decU_at [] p post c 5 16 hp hc (by omega) (fun h => hk (by omega)), hv]
  simp
theorem fullS_32 (post : List Int) (n : Int) (h0 : -2147483648 ≤ n) (h1 : n < 2147483648) :
    fullS (encS n ++ post) 0 32 = (n, ((encS n).length : Int), 0, 0) := by
  obtain ⟨p, c, he, hp, hc0, hc, hv, hl, hk⟩ := encS_form32 n h0 h1
  unfold fullS
  rw [if_pos ⟨by omega, by omega⟩, if_pos rfl, he, List.append_assoc]
  show decS ([] ++ (p ++ c :: post)) ([] : List Int).length _ _ = _
  rw [decS_at [] p post c 5 good32 hp hc0 hc (by omega) (fun h => by unfold good32; have := hk (by omega); simp; omega), hv]
  simp

theorem fullU_64z (n : Int) (h0 : 0 ≤ n) (h1 : n < 18446744073709551616) : fullU (encU n) 0 64 = (n, ((encU n).length : Int), 0, 0) := by
  have h := fullU_64 [] [] n h0 h1
  rw [List.append_nil, List.nil_append, List.length_nil, Nat.zero_add] at h
  exact h
theorem fullS_64z (n : Int) (h0 : -9223372036854775808 ≤ n) (h1 : n < 9223372036854775808) : fullS (encS n) 0 64 = (n, ((encS n).length : Int), 0, 0) := by
  have h := fullS_64 [] [] n h0 h1
  rw [List.append_nil, List.nil_append, List.length_nil, Nat.zero_add] at h
  exact h

/-- all that was put are bytes -/
theorem encU_bytes (n : Int) (h0 : 0 ≤ n) (h1 : n < 18446744073709551616) : ∀ x ∈ encU n, 0 ≤ x ∧ x < 256 := by
  obtain ⟨p, c, he, hp, hc0, hc, _⟩ := encU_form64 n h0 h1
  rw [he]; intro x hx
  rcases List.mem_append.1 hx with h | h
  · have := hp x h; omega
  · simp at h; omega
theorem encS_bytes (n : Int) (h0 : -9223372036854775808 ≤ n) (h1 : n < 9223372036854775808) : ∀ x ∈ encS n, 0 ≤ x ∧ x < 256 := by
  obtain ⟨p, c, he, hp, hc0, hc, _⟩ := encS_form64 n h0 h1
  rw [he]; intro x hx
  rcases List.mem_append.1 hx with h | h
  · have := hp x h; omega
  · simp at h; omega

/-- marked bytes alone are the beginning of a number -/
theorem mk_marked (p : List Int) (hp : Marked p) : mk p 0 = p.length := by
  have := mk_at [] p [] hp (by intro x hx; cases hx)
  simpa using this
theorem take_marked (p : List Int) (c : Int) (hp : Marked p) (i : Nat) (hi : i ≤ p.length) : Marked ((p ++ [c]).take i) ∧ ((p ++ [c]).take i).length = i := by
  rw [List.take_append_of_le_length hi]
  exact ⟨fun x hx => hp x (List.mem_of_mem_take hx), by rw [List.length_take]; omega⟩
theorem fullU_head (n : Int) (h0 : 0 ≤ n) (h1 : n < 18446744073709551616) (i : Nat) (hi : i < (encU n).length) : fullU ((encU n).take i) 0 64 = (0, 0, 4, (i : Int)) := by
  obtain ⟨p, c, he, hp, hc0, hc, hv, hl, hk⟩ := encU_form64 n h0 h1
  rw [he] at hi ⊢
  simp at hi
  obtain ⟨t1, t2⟩ := take_marked p c hp i (by omega)
  unfold fullU
  rw [if_pos ⟨by omega, by omega⟩, if_neg (by decide), if_pos rfl]
  show decU _ 0 _ _ = _
  rw [decU_end _ _ _ _ (by rw [mk_marked _ t1, t2]; omega) (by rw [mk_marked _ t1]; omega), t2]
theorem fullS_head (n : Int) (h0 : -9223372036854775808 ≤ n) (h1 : n < 9223372036854775808) (i : Nat) (hi : i < (encS n).length) : fullS ((encS n).take i) 0 64 = (0, 0, 4, (i : Int)) := by
  obtain ⟨p, c, he, hp, hc0, hc, hv, hl, hk⟩ := encS_form64 n h0 h1
  rw [he] at hi ⊢
  simp at hi
  obtain ⟨t1, t2⟩ := take_marked p c hp i (by omega)
  unfold fullS
  rw [if_pos ⟨by omega, by omega⟩, if_neg (by decide), if_pos rfl]
  show decS _ 0 _ _ = _
  rw [decS_end _ _ _ _ (by rw [mk_marked _ t1, t2]; omega) (by rw [mk_marked _ t1]; omega), t2]
end Go.Proofs.Ytllnbifdapgnoaa.lb
