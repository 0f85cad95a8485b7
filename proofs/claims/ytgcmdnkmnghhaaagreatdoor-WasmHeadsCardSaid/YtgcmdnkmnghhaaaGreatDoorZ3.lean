/- Put together by program: WKind WList WListA WGhs WName WClone WPart WCopied WSeq. -/
import Derived.Test.YtgcmdnkmnghhaaaGreatDoorZ2
import Derived.Test.YtgcmdnkmnghhaaaGreatDoorZ1
import Derived.Deep.RegionHeld2
/- The contracts of one at lists that are built in place; kind; skip, close. -/
set_option linter.unusedVariables false
namespace Go.Proofs.YtgcmdnkmnghhaaaGreatDoor.wm
open Go.RowKit Go.Proofs.YtgcmdnkmnghhaaaGreatDoor.lb

theorem P.ite_pos {α : Type} {c : Prop} [Decidable c] {x y : P α} {l : List Int} {e p : Nat} (h : c) : (if c then x else y) l e p = x l e p := by rw [if_pos h]
theorem P.ite_neg {α : Type} {c : Prop} [Decidable c] {x y : P α} {l : List Int} {e p : Nat} (h : ¬ c) : (if c then x else y) l e p = y l e p := by rw [if_neg h]

theorem made1 (w : World) (o : Obj) : Below w.heap.size w (w.alloc o) := (Below.refl _ _).alloc (Nat.le_refl _) o
theorem made2 (w : World) (o o' : Obj) : Below w.heap.size w ((w.alloc o).alloc o') := bnextA (made1 w o) o'

section
variable {α : Type} {S : Nat → Prop} {w0 : World} {ao : Option Addr} {cap : Nat} {l : List Int} {r e : Nat} {w : World} {V : World → Value → α → Prop} {x : Res α} {en : Ending} {w' : World}
theorem Out.ok_elim {a : α} {p : Nat} (h : Out S w0 ao cap l r e w V x en w') (hx : x = .ok a p) : Keep S w w' ∧ ∃ v, en = .returned v ∧ V w' v a ∧ Rr w0 ao cap l r e p w' := by
  subst hx; exact h
theorem Out.bad_elim {why a : Int} (h : Out S w0 ao cap l r e w V x en w') (hx : x = .bad why a) : Keep S w w' ∧ en = thrown why a := by
  subst hx; exact h
theorem Out.after {w2 : World} (h : Out S w0 ao cap l r e w2 V x en w') (k : Keep S w w2) : Out S w0 ao cap l r e w V x en w' := ⟨k.trans h.1, h.2⟩
end

section
variable {w0 : World} {ao : Option Addr} {cap : Nat} {l : List Int}

theorem one1 (c : Ctx w0 ao cap l) (r e p : Nat) (w : World) (h : Rr w0 ao cap l r e p w) (xs : List Int) (A : Array Value) (hA : A = (xs.map (.int .i64)).toArray) (n : Nat) (hn : n = xs.length) (hl : xs.length ≤ 4096) :
    Calls Tryz.prog 190 #[.pointer (some ⟨r, 0, none⟩), .slice (some ⟨w.heap.size, 0, none⟩) n n, .slice none 0 0] (w.alloc (.cells A 3)) (Out (· = r) w0 ao cap l r e w (VI .i64) (pOne xs [] l e p)) := by
  subst hA
  have hr := h.blk.lt
  exact (one_any c r e p _ (h.below (made1 w _)) _ _ xs [] (St.lit xs n hn (heap_alloc_new w _) (by omega)) (St.nil _ _) hl (by decide)).mono fun _ _ h => h.after (.of (made1 w _))
theorem one2 (c : Ctx w0 ao cap l) (r e p : Nat) (w : World) (h : Rr w0 ao cap l r e p w) (xs ys : List Int) (A B : Array Value) (hA : A = (xs.map (.int .i64)).toArray) (hB : B = (ys.map (.int .i64)).toArray) (n m : Nat) (hn : n = xs.length) (hm : m = ys.length) (hl : xs.length ≤ 4096) (hl2 : ys.length ≤ 4096) :
    Calls Tryz.prog 190 #[.pointer (some ⟨r, 0, none⟩), .slice (some ⟨w.heap.size, 0, none⟩) n n, .slice (some ⟨w.heap.size + 1, 0, none⟩) m m] ((w.alloc (.cells A 3)).alloc (.cells B 3)) (Out (· = r) w0 ao cap l r e w (VI .i64) (pOne xs ys l e p)) := by
  subst hA hB
  have hr := h.blk.lt
  have hs : (w.alloc (.cells (xs.map (.int .i64)).toArray 3)).heap.size = w.heap.size + 1 := by simp [go_sem]
  refine (one_any c r e p _ (h.below (made2 w _ _)) _ _ xs ys (St.lit xs n hn ?_ (by omega)) (St.lit ys m hm ?_ (by omega)) hl hl2).mono fun _ _ h => h.after (.of (made2 w _ _))
  · rw [Below.heap_alloc _ _ _ (by rw [hs]; omega)]; exact heap_alloc_new w _
  · rw [← hs]; exact heap_alloc_new _ _

theorem one1' (c : Ctx w0 ao cap l) (r e p : Nat) (w : World) (h : Rr w0 ao cap l r e p w) (b : Nat) (hb : b = w.heap.size) (xs : List Int) (A : Array Value) (hA : A = (xs.map (.int .i64)).toArray) (n : Nat) (hn : n = xs.length) (hl : xs.length ≤ 4096) :
    Calls Tryz.prog 190 #[.pointer (some ⟨r, 0, none⟩), .slice (some ⟨b, 0, none⟩) n n, .slice none 0 0] (w.alloc (.cells A 3)) (Out (· = r) w0 ao cap l r e w (VI .i64) (pOne xs [] l e p)) := by
  subst hb
  exact one1 c r e p w h xs A hA n hn hl

theorem kind_any (c : Ctx w0 ao cap l) (r e p : Nat) (w : World) (h : Rr w0 ao cap l r e p w) :
    Calls Tryz.prog 192 #[.pointer (some ⟨r, 0, none⟩)] w (Out (· = r) w0 ao cap l r e w (VI .i64) (pKind l e p)) := by
  have HO := Lib.hid (one2 c r e p w h [127, 126] [125, 124] #[.int .i64 127, .int .i64 126] #[.int .i64 125, .int .i64 124] rfl rfl 2 2 rfl rfl (by decide) (by decide))
  clear h c
  cases hx : pKind l e p with
  | bad why a =>
    have HX := Lib.hid (show pOne [127, 126] [125, 124] l e p = .bad why a from hx)
    clear hx
    go_enter Tryz.func192, Tryz.ntmps192
    go_wp2_with fail
    refine HO.out.mono ?_
    rintro en w1 h1
    obtain ⟨k1, rfl⟩ := h1.bad_elim HX.out
    exact ⟨rfl, Out.wrong rfl k1⟩
  | ok n q =>
    have HX := Lib.hid (show pOne [127, 126] [125, 124] l e p = .ok n q from hx)
    clear hx
    go_enter Tryz.func192, Tryz.ntmps192
    go_wp2_with fail
    refine HO.out.mono ?_
    rintro en w1 h1
    obtain ⟨k1, v, rfl, hv, r1⟩ := h1.ok_elim HX.out
    obtain rfl : v = .int .i64 n := hv
    go_wp2
    go_ret
    exact Out.good rfl k1 rfl r1

theorem skip_any (c : Ctx w0 ao cap l) (r e p : Nat) (w : World) (h : Rr w0 ao cap l r e p w) (size : Int) (h0 : 0 ≤ size) (h1 : size < 4294967296) :
    Calls Tryz.prog 155 #[.pointer (some ⟨r, 0, none⟩), .int .i64 size] w (Out (· = r) w0 ao cap l r e w (VI .i64) (pSkip size l e p)) := by
  have c0 := h.blk.c0
  have c1 := h.blk.c1
  have f0 := h.blk.f 0
  have f1 := h.blk.f 1
  have hl := c.len
  have he := h.he
  have hp := h.hp
  have HH := Lib.hid h
  have e1 : (e : Int) ≤ 16384 := by omega
  have e2 : (p : Int) ≤ e := by omega
  by_cases hs : (e : Int) - p < size
  · have HX := Lib.hid (show pSkip size l e p = .bad 4 e from if_pos hs)
    clear h c
    go_enter Tryz.func155, Tryz.ntmps155
    go_wp2_with fail
    go_quiet (fail)
    go_wp2_with fail
    refine (fail_any _ _ _).mono ?_
    rintro en w1 ⟨rfl, rfl⟩
    exact ⟨rfl, Out.wrong HX.out (.of (belowN _ _))⟩
  · have HX := Lib.hid (show pSkip size l e p = .ok (p + size) (p + size.toNat) from if_neg hs)
    have hd : decide ((e : Int) - p < size) = false := by simpa using hs
    clear h c
    go_enter Tryz.func155, Tryz.ntmps155
    go_wp2_with fail
    go_quiet (fail)
    go_wp2
    go_ret
    exact Out.good HX.out (((Keep.refl (fun k => k = r) w).drewN nq).set (p := ⟨r, 1, none⟩) (.inl rfl) _) rfl ((HH.out.below (belowN w nq)).set (p + size.toNat) (by omega) (by omega))

theorem close_any (c : Ctx w0 ao cap l) (r e p : Nat) (w : World) (h : Rr w0 ao cap l r e p w) :
    Calls Tryz.prog 109 #[.pointer (some ⟨r, 0, none⟩)] w fun en w' => (en = if p < e then thrown 6 p else .returned (.tuple #[])) ∧ Below w.heap.size w w' := by
  have c0 := h.blk.c0
  have c1 := h.blk.c1
  have f0 := h.blk.f 0
  have f1 := h.blk.f 1
  have hl := c.len
  have he := h.he
  have hp := h.hp
  have e1 : (e : Int) ≤ 16384 := by omega
  have e2 : (p : Int) ≤ e := by omega
  by_cases hs : p < e
  · have e3 : (p : Int) < e := by omega
    rw [if_pos hs]
    clear h c
    go_enter Tryz.func109, Tryz.ntmps109
    go_wp2_with fail
    go_quiet (fail)
    go_wp2_with fail
    refine (fail_any _ _ _).mono ?_
    rintro en w1 ⟨rfl, rfl⟩
    exact ⟨rfl, rfl, belowN _ _⟩
  · have e3 : decide ((p : Int) < e) = false := by simp; omega
    rw [if_neg hs]
    clear h c
    go_enter Tryz.func109, Tryz.ntmps109
    go_wp2_with fail
    go_quiet (fail)
    go_wp2
    first | go_ret | go_end0
    exact ⟨rfl, belowN _ _⟩
end
end Go.Proofs.YtgcmdnkmnghhaaaGreatDoor.wm

/- The contracts of list, at each of its types. -/
set_option linter.unusedVariables false
namespace Go.Proofs.YtgcmdnkmnghhaaaGreatDoor.wm
open Go.RowKit Go.Proofs.YtgcmdnkmnghhaaaGreatDoor.lb

theorem pRep_ok {α : Type} {x : P α} {k : Nat} {acc : List α} {l : List Int} {e p q : Nat} {a : α} (h : x l e p = .ok a q) : pRep x (k + 1) acc l e p = pRep x k (acc ++ [a]) l e q := P.bind_ok h
theorem pRep_bad {α : Type} {x : P α} {k : Nat} {acc : List α} {l : List Int} {e p : Nat} {why a : Int} (h : x l e p = .bad why a) : pRep x (k + 1) acc l e p = .bad why a := P.bind_bad h
theorem most_bd {l : List Int} {e p : Nat} (hb : ∀ k, 0 ≤ l.getD k 0) (hp : p ≤ e) (he : e ≤ l.length) {limit n : Int} {q : Nat} (h : pMost limit l e p = .ok n q) : 0 ≤ n ∧ n ≤ limit ∧ p < q ∧ q ≤ e := by
  cases hx : pU l e p with
  | bad why a =>
    have := show pMost limit l e p = .bad why a from P.bind_bad hx
    rw [this] at h; cases h
  | ok m q' =>
    have hX : pMost limit l e p = (if limit < m then pFail 7 p else P.ret m) l e q' := P.bind_ok hx
    rw [hX] at h
    split at h
    · cases h
    · simp only [P.ret, Res.ok.injEq] at h
      obtain ⟨rfl, rfl⟩ := h
      have := u_bd hb hp he hx
      exact ⟨this.1, by omega, this.2.2.1, this.2.2.2⟩

section
variable {w0 : World} {ao : Option Addr} {cap : Nat} {l : List Int}

/-- where a list's loop stands: so much of the row g is filled -/
structure LI {α : Type} (k : Nat) (gh : α → Gh) (T : TypeId) (w0 : World) (ao : Option Addr) (cap : Nat) (l : List Int) (r e : Nat) (w : World) (g n : Nat) (acc : List α) (q : Nat) (wr : World) : Prop where
  rr : Rr w0 ao cap l r e q wr
  keep : Keep (· = r) w wr
  row : Row T wr g (n * k)
  rows : Gh.rows (g + 1) wr g k 0 (acc.map gh)
  hg : w.heap.size ≤ g
  hr : r < w.heap.size

theorem LI.start {α : Type} {k : Nat} {gh : α → Gh} {T : TypeId} {r e q n : Nat} {w w1 : World} (h : Rr w0 ao cap l r e q w1) (hk : Keep (· = r) w w1) (hr : r < w.heap.size) (z : Array Value) (N : Nat) (hN : N = n * k) : LI k gh T w0 ao cap l r e w w1.heap.size n [] q (w1.alloc (.cells (madeCells z N) T)) := by
  subst hN
  refine ⟨h.below (made1 _ _), hk.alloc _, ?_, trivial, hk.size, hr⟩
  have := Row.new w1 (madeCells z (n * k)) T
  rwa [size_madeCells] at this

theorem LI.step {α : Type} {k : Nat} {gh : α → Gh} {T : TypeId} {r e q q2 n g : Nat} {w wr w2 w3 : World} {acc : List α} {a : α} {cs : List Value} (h : LI k gh T w0 ao cap l r e w g n acc q wr)
    (hk : Keep (· = r) wr w2) (hr : Rr w0 ao cap l r e q2 w2) (ha : (gh a).holds wr.heap.size w2 cs) (hcs : cs.length = k)
    (h3 : Keep (· = g) w2 w3) (hrow : Row T w2 g (n * k) → Row T w3 g (n * k)) (hc : ∀ j v, cs[j]? = some v → w3.cell? ⟨g, k * acc.length + j, none⟩ = some v) (ho : ∀ o, o < k * acc.length → w3.cell? ⟨g, o, none⟩ = w2.cell? ⟨g, o, none⟩) :
    LI k gh T w0 ao cap l r e w g n (acc ++ [a]) q2 w3 := by
  have hlt := h.row.lt
  have hgr : r ≠ g := by have := h.hg; have := h.hr; omega
  have hB := hr.hB
  have hg := h.hg
  have hrr := h.hr
  refine ⟨hr.keep h3 (by omega) (fun k hk => by omega), (h.keep.trans hk).new h3 (fun i hi e => by omega), hrow (h.row.keep hk (by omega)), ?_, h.hg, h.hr⟩
  have s1 : Same (g + 1) wr w2 := Same.keep hk (fun i h1 h2 e => by omega)
  have s2 : Same (g + 1) w2 w3 := Same.keep h3 (fun i h1 h2 e => by omega)
  have s3 : Same wr.heap.size w2 w3 := Same.keep h3 (fun i h1 h2 e => by omega)
  rw [List.map_append]
  refine Gh.rows_snoc _ 0 _ cs (Gh.rows_keep (Nat.le_refl _) s2 _ g k 0 (fun o v _ h1 hv => ?_) (Gh.rows_keep (Nat.le_refl _) s1 _ g k 0 (fun o v _ _ hv => ?_) h.rows)) hcs (fun j v hj => ?_) (Gh.holds_keep (by omega) s3 _ cs ha)
  · rw [ho o (by simpa using h1)]; exact hv
  · rw [World.cell?_of_block (w := wr) (hk.block g hlt (by omega))]; exact hv
  · have := hc j v hj
    rw [List.length_map, Nat.zero_add]; exact this

theorem LI.fin {α : Type} {k : Nat} {gh : α → Gh} {T : TypeId} {r e q n g : Nat} {w wr : World} {acc : List α} (h : LI k gh T w0 ao cap l r e w g n acc q wr) (hn : acc.length = n) : VR k gh w.heap.size wr (.slice (some ⟨g, 0, none⟩) n n) acc := by
  subst hn
  refine ⟨some ⟨g, 0, none⟩, acc.length, by simp, by simp, (fun h => by cases h), .inr ⟨g, 0, rfl, h.hg, ?_⟩⟩
  exact Gh.rows_keep (by have := h.hg; omega) Same.rfl _ g k 0 (fun _ _ _ _ hv => hv) h.rows

theorem LI.own {r e q n g : Nat} {w wr : World} {acc : List Int} (h : LI 1 gI 3 w0 ao cap l r e w g n acc q wr) (hn : acc.length = n) (hm : n ≤ 4096) : wi.Own wr w.heap.size (.slice (some ⟨g, 0, none⟩) n n) acc := by
  subst hn
  have hr := (rows_ints .i64 acc 0).1 h.rows
  obtain ⟨cs, hc, hs⟩ := h.row
  have hcs : cs = (acc.map (Value.int .i64)).toArray := by
    apply Array.ext
    · rw [hs]; simp
    · intro i h1 h2
      have h3 : i < acc.length := by rw [hs] at h1; omega
      have := hr i h3
      simp [World.cell?, hc, h1] at this
      simp [this, h3]
  subst hcs
  exact ⟨by simp, .inr ⟨g, acc.length, _, rfl, h.hg, hc, Nat.le_refl _, by unfold maxLen; omega, by simp, by simp [List.take_of_length_le]⟩⟩

theorem LI.set1 {α : Type} {gh : α → Gh} {T : TypeId} {r e q q2 n g i : Nat} {w wr w2 : World} {acc : List α} {a : α} {c0 : Value} (h : LI 1 gh T w0 ao cap l r e w g n acc q wr)
    (hk : Keep (· = r) wr w2) (hr : Rr w0 ao cap l r e q2 w2) (ha : (gh a).holds wr.heap.size w2 [c0]) (hi : i = acc.length) (hn : i < n) : LI 1 gh T w0 ao cap l r e w g n (acc ++ [a]) q2 (w2.setCell ⟨g, i, none⟩ c0) := by
  subst hi
  have hgr : r ≠ g := by have := h.hg; have := h.hr; omega
  obtain ⟨u, hu⟩ := (h.row.keep hk (by omega)).some (k := acc.length) (by omega)
  refine h.step hk hr ha rfl ((Keep.refl (fun k => k = g) w2).set (p := ⟨g, acc.length, none⟩) (.inl rfl) c0) (fun x => x.set _ _) (fun j v hj => ?_) (fun o ho => ?_)
  · match j, hj with
    | 0, hj =>
      simp at hj; subst hj
      simp [go_sem, hu]
  · have : o ≠ acc.length := by omega
    simp [go_sem]


theorem LI.set2 {α : Type} {gh : α → Gh} {T : TypeId} {r e q q2 n g i : Nat} {w wr w2 : World} {acc : List α} {a : α} {c0 c1 : Value} (h : LI 2 gh T w0 ao cap l r e w g n acc q wr)
    (hk : Keep (· = r) wr w2) (hr : Rr w0 ao cap l r e q2 w2) (ha : (gh a).holds wr.heap.size w2 [c0, c1]) (hi : i = acc.length) (hn : i < n) : LI 2 gh T w0 ao cap l r e w g n (acc ++ [a]) q2 ((w2.setCell ⟨g, i * 2, none⟩ c0).setCell ⟨g, i * 2 + 1, none⟩ c1) := by
  subst hi
  have hgr : r ≠ g := by have := h.hg; have := h.hr; omega
  obtain ⟨u, hu⟩ := (h.row.keep hk (by omega)).some (k := acc.length * 2) (by omega)
  obtain ⟨u1, hu1⟩ := (h.row.keep hk (by omega)).some (k := acc.length * 2 + 1) (by omega)
  refine h.step hk hr ha rfl (((Keep.refl (fun k => k = g) w2).set (p := ⟨g, acc.length * 2, none⟩) (.inl rfl) c0).set (p := ⟨g, acc.length * 2 + 1, none⟩) (.inl rfl) c1) (fun x => (x.set _ _).set _ _) (fun j v hj => ?_) (fun o ho => ?_)
  · match j, hj with
    | 0, hj => simp at hj; subst hj; simp [go_sem, hu, Nat.mul_comm 2]
    | 1, hj => simp at hj; subst hj; simp [go_sem, hu1, Nat.mul_comm 2]
  · have h1 : o ≠ acc.length * 2 := by omega
    have h2 : o ≠ acc.length * 2 + 1 := by omega
    simp [go_sem]

theorem LI.set3 {α : Type} {gh : α → Gh} {T : TypeId} {r e q q2 n g i : Nat} {w wr w2 : World} {acc : List α} {a : α} {c0 c1 c2 : Value} (h : LI 3 gh T w0 ao cap l r e w g n acc q wr)
    (hk : Keep (· = r) wr w2) (hr : Rr w0 ao cap l r e q2 w2) (ha : (gh a).holds wr.heap.size w2 [c0, c1, c2]) (hi : i = acc.length) (hn : i < n) : LI 3 gh T w0 ao cap l r e w g n (acc ++ [a]) q2 (((w2.setCell ⟨g, i * 3, none⟩ c0).setCell ⟨g, i * 3 + 1, none⟩ c1).setCell ⟨g, i * 3 + 2, none⟩ c2) := by
  subst hi
  have hgr : r ≠ g := by have := h.hg; have := h.hr; omega
  obtain ⟨u, hu⟩ := (h.row.keep hk (by omega)).some (k := acc.length * 3) (by omega)
  obtain ⟨u1, hu1⟩ := (h.row.keep hk (by omega)).some (k := acc.length * 3 + 1) (by omega)
  obtain ⟨u2, hu2⟩ := (h.row.keep hk (by omega)).some (k := acc.length * 3 + 2) (by omega)
  refine h.step hk hr ha rfl ((((Keep.refl (fun k => k = g) w2).set (p := ⟨g, acc.length * 3, none⟩) (.inl rfl) c0).set (p := ⟨g, acc.length * 3 + 1, none⟩) (.inl rfl) c1).set (p := ⟨g, acc.length * 3 + 2, none⟩) (.inl rfl) c2) (fun x => ((x.set _ _).set _ _).set _ _) (fun j v hj => ?_) (fun o ho => ?_)
  · match j, hj with
    | 0, hj => simp at hj; subst hj; simp [go_sem, hu, Nat.mul_comm 3]
    | 1, hj => simp at hj; subst hj; simp [go_sem, hu1, Nat.mul_comm 3]
    | 2, hj => simp at hj; subst hj; simp [go_sem, hu2, Nat.mul_comm 3]
  · have h1 : o ≠ acc.length * 3 := by omega
    have h2 : o ≠ acc.length * 3 + 1 := by omega
    have h3 : o ≠ acc.length * 3 + 2 := by omega
    simp [go_sem]
end
end Go.Proofs.YtgcmdnkmnghhaaaGreatDoor.wm

/- The contracts of list at its types: printed by gen_list.py. -/
set_option linter.unusedVariables false
namespace Go.Proofs.YtgcmdnkmnghhaaaGreatDoor.wm
open Go.RowKit Go.Proofs.YtgcmdnkmnghhaaaGreatDoor.lb
section
variable {w0 : World} {ao : Option Addr} {cap : Nat} {l : List Int}

theorem make_kinds (n : Nat) (hn : n ≤ 4096) (u : World) : (Instr.makeSlice 37 (.int .i64 n) (.int .i64 n)).run Tryz.prog u =
    .ok (.slice (some ⟨u.heap.size, 0, none⟩) n n) (u.alloc (.cells (madeCells (.int .i64 0 : Value).cells (n * 1)) 3)) := by
  obtain ⟨i0, hi, hz0, hz1, hz2⟩ := info_parts (show (Tryz.prog.info? 3).map (fun i => (i.zero, i.size, i.bytes)) = some (some (.int .i64 0 : Value), 1, 8) by kernel_rfl)
  have h := run_make (P := Tryz.prog) u 37 3 i0 (.int .i64 0) Tryz.underlying37 hi hz0 .i64 .i64 (n : Int) (n : Int) (by omega) (by omega) (by rw [hz2]; omega) (by omega)
  simpa only [hz1, Int.toNat_natCast] using h

set_option maxRecDepth 100000 in
set_option maxHeartbeats 1000000 in
theorem list_kinds (c : Ctx w0 ao cap l) (r e p : Nat) (w : World) (h : Rr w0 ao cap l r e p w) (limit : Int) (hlim : limit ≤ 4096)
    (hx : ∀ q w', Rr w0 ao cap l r e q w' → Calls Tryz.prog 192 #[.pointer (some ⟨r, 0, none⟩)] w' (Out (· = r) w0 ao cap l r e w' (VI .i64) (pKind l e q))) :
    Calls Tryz.prog 191 #[.pointer (some ⟨r, 0, none⟩), .int .i64 limit, .func (.func 192) #[] #[]] w (Out (· = r) w0 ao cap l r e w (VR 1 gI w.heap.size) (pList limit pKind l e p)) := by
  have HM := most_any c r e p w h limit
  have hr := h.blk.lt
  have hp := h.hp
  have he := h.he
  have hb := fun k => (c.bd k).1
  cases hm : pMost limit l e p with
  | bad why a =>
    have HX := Lib.hid (show pList limit pKind l e p = .bad why a from P.bind_bad hm)
    rw [hm] at HM
    have HM := Lib.hid HM
    clear hm h c
    go_enter Tryz.func191, Tryz.ntmps191
    go_wp2_with fail
    refine HM.out.mono ?_
    rintro en w1 ⟨k1, rfl⟩
    exact ⟨rfl, Out.wrong HX.out k1⟩
  | ok m q =>
    rw [hm] at HM
    obtain ⟨m0, m1, _, _⟩ := most_bd hb hp he hm
    obtain ⟨n, rfl⟩ := Int.eq_ofNat_of_zero_le m0
    have hX : pList limit pKind l e p = pRep pKind n [] l e q := P.bind_ok hm
    have HX := Lib.hid hX
    have HM := Lib.hid HM
    have HF := Lib.hid hx
    have hmk := make_kinds n (by omega)
    clear hm h c hX hb m0 hx
    go_enter Tryz.func191, Tryz.ntmps191
    go_wp2_with fail
    refine HM.out.mono ?_
    rintro en w1 ⟨k1, v, rfl, rfl, r1⟩
    have R1 := Lib.hid r1
    have K1 := Lib.hid k1
    clear r1 k1
    go_wp2
    go_loopw [15] (fun y wr => ∃ (i : Nat) (acc : List Int) (qi : Nat), y = .int .i64 i ∧ i ≤ n ∧ acc.length = i ∧ Hid (pRep pKind n [] l e q = pRep pKind (n - i) acc l e qi) ∧ Hid (LI 1 gI 3 w0 ao cap l r e w w1.heap.size n acc qi wr)) (fun y _ => n - (intOf y).toNat)
    case atStart => exact ⟨0, [], q, rfl, Nat.zero_le _, rfl, rfl, LI.start R1.out K1.out hr _ _ (by omega)⟩
    case round =>
      obtain ⟨i, acc, qi, rfl, hi, hlen, HQ, HL⟩ := hrel
      generalize w1.heap.size = g at HL ⊢
      by_cases hlt : i < n
      · have hs : n - i = (n - (i + 1)) + 1 := by omega
        have hilt : (i : Int) < n := by omega
        cases hxe : pKind l e qi with
        | bad why a =>
          have HX2 := Lib.hid (show pList limit pKind l e p = .bad why a from HX.out.trans (HQ.out.trans (by rw [hs]; exact pRep_bad hxe)))
          have HXe := Lib.hid hxe
          clear hs hxe
          go_wp2_with fail
          refine (HF.out qi _ HL.out.rr).mono ?_
          rintro en w2 h2
          obtain ⟨k2, rfl⟩ := h2.bad_elim HXe.out
          exact ⟨rfl, Out.wrong HX2.out (HL.out.keep.trans k2)⟩
        | ok a q2 =>
          have HQ2 := Lib.hid (show pRep pKind n [] l e q = pRep pKind (n - (i + 1)) (acc ++ [a]) l e q2 from HQ.out.trans (by rw [hs]; exact pRep_ok hxe))
          have HXe := Lib.hid hxe
          clear hs hxe
          go_wp2_with fail
          refine (HF.out qi _ HL.out.rr).mono ?_
          rintro en w2 h2
          obtain ⟨k2, v, rfl, hv, r2⟩ := h2.ok_elim HXe.out
          obtain rfl : v = .int .i64 a := hv
          have hrow := HL.out.row.keep k2 (by have := HL.out.hg; have := HL.out.hr; omega)
          obtain ⟨u0, d0⟩ := hrow.some (k := i) (by omega)
          have z0 := hrow.fz (i)
          have HN := Lib.hid (HL.out.set1 k2 r2 (a := a) (c0 := .int .i64 a) rfl hlen.symm hlt)
          have hl2 : (acc ++ [a]).length = i + 1 := by rw [List.length_append, hlen]; rfl
          have HL2 := Lib.hid hl2
          clear hrow k2 r2 hl2 HL
          go_wp2
          go_roundw
          case rel => exact ⟨i + 1, acc ++ [a], q2, by go_num, by omega, HL2.out, HQ2.out, HN.out⟩
          case measure => simp [intOf]; omega
      · have hin : i = n := by omega
        subst hin
        have HX2 := Lib.hid (show pList limit pKind l e p = .ok acc qi from HX.out.trans (HQ.out.trans (by rw [Nat.sub_self]; rfl)))
        go_wp2
        go_ret
        exact Out.good HX2.out HL.out.keep (HL.out.fin hlen) HL.out.rr

theorem make_us (n : Nat) (hn : n ≤ 4096) (u : World) : (Instr.makeSlice 37 (.int .i64 n) (.int .i64 n)).run Tryz.prog u =
    .ok (.slice (some ⟨u.heap.size, 0, none⟩) n n) (u.alloc (.cells (madeCells (.int .i64 0 : Value).cells (n * 1)) 3)) := by
  obtain ⟨i0, hi, hz0, hz1, hz2⟩ := info_parts (show (Tryz.prog.info? 3).map (fun i => (i.zero, i.size, i.bytes)) = some (some (.int .i64 0 : Value), 1, 8) by kernel_rfl)
  have h := run_make (P := Tryz.prog) u 37 3 i0 (.int .i64 0) Tryz.underlying37 hi hz0 .i64 .i64 (n : Int) (n : Int) (by omega) (by omega) (by rw [hz2]; omega) (by omega)
  simpa only [hz1, Int.toNat_natCast] using h

set_option maxRecDepth 100000 in
set_option maxHeartbeats 1000000 in
theorem list_us (c : Ctx w0 ao cap l) (r e p : Nat) (w : World) (h : Rr w0 ao cap l r e p w) (limit : Int) (hlim : limit ≤ 4096)
    (hx : ∀ q w', Rr w0 ao cap l r e q w' → Calls Tryz.prog 154 #[.pointer (some ⟨r, 0, none⟩)] w' (Out (· = r) w0 ao cap l r e w' (VI .i64) (pU l e q))) :
    Calls Tryz.prog 191 #[.pointer (some ⟨r, 0, none⟩), .int .i64 limit, .func (.func 154) #[] #[]] w (Out (· = r) w0 ao cap l r e w (fun w' v xs => wi.Own w' w.heap.size v xs) (pList limit pU l e p)) := by
  have HM := most_any c r e p w h limit
  have hr := h.blk.lt
  have hp := h.hp
  have he := h.he
  have hb := fun k => (c.bd k).1
  cases hm : pMost limit l e p with
  | bad why a =>
    have HX := Lib.hid (show pList limit pU l e p = .bad why a from P.bind_bad hm)
    rw [hm] at HM
    have HM := Lib.hid HM
    clear hm h c
    go_enter Tryz.func191, Tryz.ntmps191
    go_wp2_with fail
    refine HM.out.mono ?_
    rintro en w1 ⟨k1, rfl⟩
    exact ⟨rfl, Out.wrong HX.out k1⟩
  | ok m q =>
    rw [hm] at HM
    obtain ⟨m0, m1, _, _⟩ := most_bd hb hp he hm
    obtain ⟨n, rfl⟩ := Int.eq_ofNat_of_zero_le m0
    have hX : pList limit pU l e p = pRep pU n [] l e q := P.bind_ok hm
    have HX := Lib.hid hX
    have HM := Lib.hid HM
    have HF := Lib.hid hx
    have hmk := make_us n (by omega)
    clear hm h c hX hb m0 hx
    go_enter Tryz.func191, Tryz.ntmps191
    go_wp2_with fail
    refine HM.out.mono ?_
    rintro en w1 ⟨k1, v, rfl, rfl, r1⟩
    have R1 := Lib.hid r1
    have K1 := Lib.hid k1
    clear r1 k1
    go_wp2
    go_loopw [15] (fun y wr => ∃ (i : Nat) (acc : List Int) (qi : Nat), y = .int .i64 i ∧ i ≤ n ∧ acc.length = i ∧ Hid (pRep pU n [] l e q = pRep pU (n - i) acc l e qi) ∧ Hid (LI 1 gI 3 w0 ao cap l r e w w1.heap.size n acc qi wr)) (fun y _ => n - (intOf y).toNat)
    case atStart => exact ⟨0, [], q, rfl, Nat.zero_le _, rfl, rfl, LI.start R1.out K1.out hr _ _ (by omega)⟩
    case round =>
      obtain ⟨i, acc, qi, rfl, hi, hlen, HQ, HL⟩ := hrel
      generalize w1.heap.size = g at HL ⊢
      by_cases hlt : i < n
      · have hs : n - i = (n - (i + 1)) + 1 := by omega
        have hilt : (i : Int) < n := by omega
        cases hxe : pU l e qi with
        | bad why a =>
          have HX2 := Lib.hid (show pList limit pU l e p = .bad why a from HX.out.trans (HQ.out.trans (by rw [hs]; exact pRep_bad hxe)))
          have HXe := Lib.hid hxe
          clear hs hxe
          go_wp2_with fail
          refine (HF.out qi _ HL.out.rr).mono ?_
          rintro en w2 h2
          obtain ⟨k2, rfl⟩ := h2.bad_elim HXe.out
          exact ⟨rfl, Out.wrong HX2.out (HL.out.keep.trans k2)⟩
        | ok a q2 =>
          have HQ2 := Lib.hid (show pRep pU n [] l e q = pRep pU (n - (i + 1)) (acc ++ [a]) l e q2 from HQ.out.trans (by rw [hs]; exact pRep_ok hxe))
          have HXe := Lib.hid hxe
          clear hs hxe
          go_wp2_with fail
          refine (HF.out qi _ HL.out.rr).mono ?_
          rintro en w2 h2
          obtain ⟨k2, v, rfl, hv, r2⟩ := h2.ok_elim HXe.out
          obtain rfl : v = .int .i64 a := hv
          have hrow := HL.out.row.keep k2 (by have := HL.out.hg; have := HL.out.hr; omega)
          obtain ⟨u0, d0⟩ := hrow.some (k := i) (by omega)
          have z0 := hrow.fz (i)
          have HN := Lib.hid (HL.out.set1 k2 r2 (a := a) (c0 := .int .i64 a) rfl hlen.symm hlt)
          have hl2 : (acc ++ [a]).length = i + 1 := by rw [List.length_append, hlen]; rfl
          have HL2 := Lib.hid hl2
          clear hrow k2 r2 hl2 HL
          go_wp2
          go_roundw
          case rel => exact ⟨i + 1, acc ++ [a], q2, by go_num, by omega, HL2.out, HQ2.out, HN.out⟩
          case measure => simp [intOf]; omega
      · have hin : i = n := by omega
        subst hin
        have HX2 := Lib.hid (show pList limit pU l e p = .ok acc qi from HX.out.trans (HQ.out.trans (by rw [Nat.sub_self]; rfl)))
        go_wp2
        go_ret
        exact Out.good HX2.out HL.out.keep (HL.out.own hlen (by omega)) HL.out.rr
end
end Go.Proofs.YtgcmdnkmnghhaaaGreatDoor.wm

/- What api's types hold, as ghosts. -/
set_option linter.unusedVariables false
namespace Go.Proofs.YtgcmdnkmnghhaaaGreatDoor.wm
open Go.RowKit

def gU (n : Int) : Gh := .val (.int .u64 n)
def gS (s : List Int) : Gh := .val (.string (strOfNums s))
def gSig (s : GSig) : Gh := .agg [gIs s.ins, gIs s.outs]
def gImport (x : GImport) : Gh := .agg [gS x.mod, gS x.name, gI x.type]
def gGlobal (x : GGlobal) : Gh := .agg [gI x.type, .val (.bool x.mut'), gU x.n]
def gExport (x : GExport) : Gh := .agg [gS x.name, gI x.kind, gI x.n]
def gData (x : GData) : Gh := .agg [gI x.at', gBs x.bytes]
mutual
def gInstr : GInstr → Gh
  | .mk op n m t b e h ts => .agg [gI op, gU n, gU m, gSig t, .row 9 (gInstrs b), .row 9 (gInstrs e), .val (.bool h), gIs ts]
def gInstrs : List GInstr → List Gh
  | [] => []
  | i :: is => gInstr i :: gInstrs is
end
theorem gInstrs_map : ∀ l : List GInstr, gInstrs l = l.map gInstr
  | [] => by simp [gInstrs]
  | i :: is => by rw [gInstrs, gInstrs_map is, List.map_cons]
def gFunc (f : GFunc) : Gh := .agg [gI f.type, gIs f.locals, .row 9 (f.body.map gInstr)]

def Gh.single : Gh → Bool
  | .agg _ => false
  | _ => true
theorem Gh.single_cell {B : Nat} {w : World} {g : Gh} {cs : List Value} (hs : g.single = true) (h : g.holds B w cs) : ∃ c, cs = [c] := by
  cases g with
  | val v => exact ⟨v, h⟩
  | row n es => obtain ⟨ao, cap, h1, _⟩ := h; exact ⟨_, h1⟩
  | agg ps => cases hs
theorem Gh.all_cons {B : Nat} {w : World} {p : Gh} {ps : List Gh} {c : Value} {cs : List Value} (hs : p.single = true) : Gh.all B w (p :: ps) (c :: cs) ↔ p.is B w c ∧ Gh.all B w ps cs := by
  constructor
  · rintro ⟨c1, c2, e, h1, h2⟩
    obtain ⟨c', rfl⟩ := Gh.single_cell hs h1
    simp only [List.cons_append, List.nil_append, List.cons.injEq] at e
    obtain ⟨rfl, rfl⟩ := e
    exact ⟨h1, h2⟩
  · rintro ⟨h1, h2⟩
    exact ⟨[c], cs, rfl, h1, h2⟩
theorem Gh.all_nil {B : Nat} {w : World} {cs : List Value} : Gh.all B w [] cs ↔ cs = [] := Iff.rfl
theorem Gh.is_val {B : Nat} {w : World} {u v : Value} : (Gh.val u).is B w v ↔ v = u := by
  show [v] = [u] ↔ v = u
  simp
theorem Gh.is_row {B : Nat} {w : World} {n : Nat} {es : List Gh} {v : Value} (h : (Gh.row n es).is B w v) : ∃ ao cap, v = .slice ao es.length cap := by
  obtain ⟨ao, cap, h1, _⟩ := h
  exact ⟨ao, cap, by simpa using h1⟩
section
variable {B : Nat} {w : World} {c0 c1 c2 : Value}
theorem open_sig {s : GSig} (h : (gSig s).holds B w [c0, c1]) : (∃ a n k, c0 = .slice a n k) ∧ ∃ a n k, c1 = .slice a n k := by
  obtain ⟨h0, h1⟩ := (Gh.all_cons rfl).1 h
  obtain ⟨h1, _⟩ := (Gh.all_cons rfl).1 h1
  obtain ⟨a, k, rfl⟩ := Gh.is_row h0
  obtain ⟨a', k', rfl⟩ := Gh.is_row h1
  exact ⟨⟨_, _, _, rfl⟩, _, _, _, rfl⟩
theorem open_import {x : GImport} (h : (gImport x).holds B w [c0, c1, c2]) : c0 = .string (strOfNums x.mod) ∧ c1 = .string (strOfNums x.name) ∧ c2 = .int .i64 x.type := by
  obtain ⟨h0, h⟩ := (Gh.all_cons rfl).1 h
  obtain ⟨h1, h⟩ := (Gh.all_cons rfl).1 h
  obtain ⟨h2, _⟩ := (Gh.all_cons rfl).1 h
  exact ⟨Gh.is_val.1 h0, Gh.is_val.1 h1, Gh.is_val.1 h2⟩
theorem open_global {x : GGlobal} (h : (gGlobal x).holds B w [c0, c1, c2]) : c0 = .int .i64 x.type ∧ c1 = .bool x.mut' ∧ c2 = .int .u64 x.n := by
  obtain ⟨h0, h⟩ := (Gh.all_cons rfl).1 h
  obtain ⟨h1, h⟩ := (Gh.all_cons rfl).1 h
  obtain ⟨h2, _⟩ := (Gh.all_cons rfl).1 h
  exact ⟨Gh.is_val.1 h0, Gh.is_val.1 h1, Gh.is_val.1 h2⟩
theorem open_export {x : GExport} (h : (gExport x).holds B w [c0, c1, c2]) : c0 = .string (strOfNums x.name) ∧ c1 = .int .i64 x.kind ∧ c2 = .int .i64 x.n := by
  obtain ⟨h0, h⟩ := (Gh.all_cons rfl).1 h
  obtain ⟨h1, h⟩ := (Gh.all_cons rfl).1 h
  obtain ⟨h2, _⟩ := (Gh.all_cons rfl).1 h
  exact ⟨Gh.is_val.1 h0, Gh.is_val.1 h1, Gh.is_val.1 h2⟩
theorem open_func {x : GFunc} (h : (gFunc x).holds B w [c0, c1, c2]) : c0 = .int .i64 x.type ∧ (∃ a n k, c1 = .slice a n k) ∧ ∃ a n k, c2 = .slice a n k := by
  obtain ⟨h0, h⟩ := (Gh.all_cons rfl).1 h
  obtain ⟨h1, h⟩ := (Gh.all_cons rfl).1 h
  obtain ⟨h2, _⟩ := (Gh.all_cons rfl).1 h
  obtain ⟨a, k, rfl⟩ := Gh.is_row h1
  obtain ⟨a', k', rfl⟩ := Gh.is_row h2
  exact ⟨Gh.is_val.1 h0, ⟨_, _, _, rfl⟩, _, _, _, rfl⟩
theorem open_data {x : GData} (h : (gData x).holds B w [c0, c1]) : c0 = .int .i64 x.at' ∧ ∃ a n k, c1 = .slice a n k := by
  obtain ⟨h0, h⟩ := (Gh.all_cons rfl).1 h
  obtain ⟨h1, _⟩ := (Gh.all_cons rfl).1 h
  obtain ⟨a, k, rfl⟩ := Gh.is_row h1
  exact ⟨Gh.is_val.1 h0, _, _, _, rfl⟩
end
end Go.Proofs.YtgcmdnkmnghhaaaGreatDoor.wm

/- The contract of name. -/
set_option linter.unusedVariables false
namespace Go.Proofs.YtgcmdnkmnghhaaaGreatDoor.wm
open Go.RowKit Go.Proofs.YtgcmdnkmnghhaaaGreatDoor.lb

theorem run_convert_rdK {w : World} {v : Value} {l : List Int} (h : RdK .u8 w v l) : (convert 22 9 v).run Tryz.prog w = .ok (.string (strOfNums l)) w := by
  obtain ⟨ao, cap, rfl, hc, hz, h⟩ := h
  rcases h with rfl | ⟨b, off, rfl, h⟩
  · cases ao with
    | none => exact run_convert_bytes_nil w 22 5 Tryz.underlying22 Tryz.underlying5 _ _ _ Tryz.underlying9
    | some ad =>
      rw [run_convert_bytes_string w 22 9 5 _ _ cap Tryz.underlying22 Tryz.underlying5 Tryz.underlying9]
      simp only [List.length_nil]
      rw [run_bytesToString w ad 0 cap [] (by
        have := run_loadCells_list (P := Tryz.prog) w ad [] (fun j v hj => by simp at hj)
        simpa using this)]
      rfl
  · exact run_convert_bytes_arg w 22 5 Tryz.underlying22 Tryz.underlying5 b off l.length cap l rfl h _ Tryz.underlying9

theorem make_bytes (n : Nat) (hn : n ≤ 4096) (u : World) : (Instr.makeSlice 22 (.int .i64 n) (.int .i64 n)).run Tryz.prog u =
    .ok (.slice (some ⟨u.heap.size, 0, none⟩) n n) (u.alloc (.cells (madeCells (.int .u8 0 : Value).cells (n * 1)) 5)) := by
  obtain ⟨i0, hi, hz0, hz1, hz2⟩ := info_parts info5
  have h := run_make (P := Tryz.prog) u 22 5 i0 (.int .u8 0) Tryz.underlying22 hi hz0 .i64 .i64 (n : Int) (n : Int) (by omega) (by omega) (by rw [hz2]; omega) (by omega)
  simpa only [hz1, Int.toNat_natCast] using h

theorem char_ok {l : List Int} {e p q : Nat} {a : Int} (h : pChar l e p = .ok a q) : pOctet l e p = .ok a q ∧ 32 ≤ a ∧ a ≤ 126 := by
  unfold pChar at h
  cases ho : pOctet l e p with
  | bad w b => rw [P.bind_bad ho] at h; cases h
  | ok c q' =>
    rw [P.bind_ok ho] at h
    split at h
    · cases h
    · rename_i hc
      simp only [P.ret, Res.ok.injEq] at h
      obtain ⟨rfl, rfl⟩ := h
      exact ⟨rfl, by omega, by omega⟩
theorem char_bad {l : List Int} {e p : Nat} {why a : Int} (h : pChar l e p = .bad why a) : pOctet l e p = .bad why a ∨ ∃ c q, pOctet l e p = .ok c q ∧ (c < 32 ∨ 126 < c) ∧ why = 8 ∧ a = p := by
  unfold pChar at h
  cases ho : pOctet l e p with
  | bad w b => rw [P.bind_bad ho] at h; left; exact h
  | ok c q' =>
    rw [P.bind_ok ho] at h
    split at h
    · rename_i hc
      right
      have hq : q' = p + 1 := by
        unfold pOctet at ho
        split at ho
        · simp only [Res.ok.injEq] at ho; exact ho.2.symm
        · cases ho
      simp only [pBack, Res.bad.injEq] at h
      exact ⟨c, q', rfl, hc, h.1.symm, by rw [← h.2, hq]; omega⟩
    · cases h

section
variable {w0 : World} {ao : Option Addr} {cap : Nat} {l : List Int}
set_option maxRecDepth 100000 in
set_option maxHeartbeats 1000000 in
theorem name_any (c : Ctx w0 ao cap l) (r e p : Nat) (w : World) (h : Rr w0 ao cap l r e p w) :
    Calls Tryz.prog 193 #[.pointer (some ⟨r, 0, none⟩)] w (Out (· = r) w0 ao cap l r e w (fun _ v s => v = .string (strOfNums s)) (pName l e p)) := by
  have HM := most_any c r e p w h 32
  have hr := h.blk.lt
  have hp := h.hp
  have he := h.he
  have hb := fun k => (c.bd k).1
  cases hm : pMost 32 l e p with
  | bad why a =>
    have HX := Lib.hid (show pName l e p = .bad why a from P.bind_bad hm)
    rw [hm] at HM
    have HM := Lib.hid HM
    clear hm h c
    go_enter Tryz.func193, Tryz.ntmps193
    go_wp2_with fail
    refine HM.out.mono ?_
    rintro en w1 ⟨k1, rfl⟩
    exact ⟨rfl, Out.wrong HX.out k1⟩
  | ok m q =>
    rw [hm] at HM
    obtain ⟨m0, m1, _, _⟩ := most_bd hb hp he hm
    obtain ⟨n, rfl⟩ := Int.eq_ofNat_of_zero_le m0
    have hX : pName l e p = pRep pChar n [] l e q := P.bind_ok hm
    have HX := Lib.hid hX
    have HM := Lib.hid HM
    have HF := Lib.hid (fun q w' h' => octet_any c r e q w' h')
    have hmk := make_bytes n (by omega)
    clear hm h c hX hb m0
    go_enter Tryz.func193, Tryz.ntmps193
    go_wp2_with fail
    refine HM.out.mono ?_
    rintro en w1 ⟨k1, v, rfl, rfl, r1⟩
    have R1 := Lib.hid r1
    have K1 := Lib.hid k1
    clear r1 k1
    go_wp2
    go_loopw [12] (fun y wr => ∃ (i : Nat) (acc : List Int) (qi : Nat), y = .int .i64 i ∧ i ≤ n ∧ acc.length = i ∧ Hid (pRep pChar n [] l e q = pRep pChar (n - i) acc l e qi) ∧ Hid (LI 1 gB 5 w0 ao cap l r e w w1.heap.size n acc qi wr)) (fun y _ => n - (intOf y).toNat)
    case atStart => exact ⟨0, [], q, rfl, Nat.zero_le _, rfl, rfl, LI.start R1.out K1.out hr _ _ (by omega)⟩
    case round =>
      obtain ⟨i, acc, qi, rfl, hi, hlen, HQ, HL⟩ := hrel
      generalize w1.heap.size = g at HL ⊢
      have cq := HL.out.rr.blk.c1
      by_cases hlt : i < n
      · have hs : n - i = (n - (i + 1)) + 1 := by omega
        have hilt : (i : Int) < n := by omega
        cases hxe : pChar l e qi with
        | bad why a =>
          have HX2 := Lib.hid (show pName l e p = .bad why a from HX.out.trans (HQ.out.trans (by rw [hs]; exact pRep_bad hxe)))
          rcases char_bad hxe with ho | ⟨cc, q2, ho, hcc, rfl, rfl⟩
          · have HXe := Lib.hid ho
            clear hs hxe ho
            go_wp2_with fail
            refine (HF.out qi _ HL.out.rr).mono ?_
            rintro en w2 h2
            obtain ⟨k2, rfl⟩ := h2.bad_elim HXe.out
            exact ⟨rfl, Out.wrong HX2.out (HL.out.keep.trans k2)⟩
          · have HXe := Lib.hid ho
            clear hs hxe ho
            by_cases h32 : cc < 32
            · clear hcc
              go_wp2_with fail
              refine (HF.out qi _ HL.out.rr).mono ?_
              rintro en w2 h2
              obtain ⟨k2, v, rfl, hv, r2⟩ := h2.ok_elim HXe.out
              obtain rfl : v = .int .i64 cc := hv
              go_wp2_with fail
              refine (fail_any _ _ _).mono ?_
              rintro en w3 ⟨rfl, rfl⟩
              exact ⟨rfl, Out.wrong HX2.out (HL.out.keep.trans k2)⟩
            · have h126 : 126 < cc := by omega
              have hd : decide (cc < 32) = false := by simpa using h32
              clear hcc
              go_wp2_with fail
              refine (HF.out qi _ HL.out.rr).mono ?_
              rintro en w2 h2
              obtain ⟨k2, v, rfl, hv, r2⟩ := h2.ok_elim HXe.out
              obtain rfl : v = .int .i64 cc := hv
              go_wp2_with fail
              refine (fail_any _ _ _).mono ?_
              rintro en w3 ⟨rfl, rfl⟩
              exact ⟨rfl, Out.wrong HX2.out (HL.out.keep.trans k2)⟩
        | ok a q2 =>
          have HQ2 := Lib.hid (show pRep pChar n [] l e q = pRep pChar (n - (i + 1)) (acc ++ [a]) l e q2 from HQ.out.trans (by rw [hs]; exact pRep_ok hxe))
          obtain ⟨ho, ha1, ha2⟩ := char_ok hxe
          have HXe := Lib.hid ho
          have hd1 : decide (a < 32) = false := by simp; omega
          have hd2 : decide (126 < a) = false := by simp; omega
          clear hs hxe ho
          go_wp2_with fail
          refine (HF.out qi _ HL.out.rr).mono ?_
          rintro en w2 h2
          obtain ⟨k2, v, rfl, hv, r2⟩ := h2.ok_elim HXe.out
          obtain rfl : v = .int .i64 a := hv
          have hrow := HL.out.row.keep k2 (by have := HL.out.hg; have := HL.out.hr; omega)
          obtain ⟨u0, d0⟩ := hrow.some (k := i) (by omega)
          have z0 := hrow.fz i
          have HN := Lib.hid (HL.out.set1 k2 r2 (a := a) (c0 := .int .u8 a) rfl hlen.symm hlt)
          have hl2 : (acc ++ [a]).length = i + 1 := by rw [List.length_append, hlen]; rfl
          have HL2 := Lib.hid hl2
          clear hrow k2 r2 hl2 HL
          go_wp2
          go_roundw
          case rel => exact ⟨i + 1, acc ++ [a], q2, by go_num, by omega, HL2.out, HQ2.out, HN.out⟩
          case measure => simp [intOf]; omega
      · have hin : i = n := by omega
        subst hin
        have HX2 := Lib.hid (show pName l e p = .ok acc qi from HX.out.trans (HQ.out.trans (by rw [Nat.sub_self]; rfl)))
        have hcv := run_convert_rdK (ints_rd .u8 (HL.out.fin hlen))
        go_wp2
        go_ret
        exact Out.good HX2.out HL.out.keep rfl HL.out.rr
end
end Go.Proofs.YtgcmdnkmnghhaaaGreatDoor.wm

/- The contracts of slices.Clone and bytes.Clone. -/
set_option linter.unusedVariables false
namespace Go.Proofs.YtgcmdnkmnghhaaaGreatDoor.wm
open Go.RowKit

theorem own_is {w : World} {B : Nat} {v : Value} {xs : List Int} (h : wi.Own w B v xs) : VR 1 gI B w v xs := by
  refine ints_of_rd (B := B) .i64 h.rd (fun b off hv => ?_)
  exact (h.lt b (by rw [hv]; rfl)).1
theorem own_is_bytes {w : World} {B : Nat} {v : Value} {xs : List Int} (h : lb.Own w B v xs) : VR 1 gB B w v xs := by
  refine ints_of_rd (B := B) .u8 h.rd (fun b off hv => ?_)
  exact (h.lt b (by rw [hv]; rfl)).1
theorem own_empty (w : World) (B : Nat) (hB : B ≤ w.heap.size) : wi.Own (w.alloc (.cells #[] 3)) B (.slice (some ⟨w.heap.size, 0, none⟩) 0 0) [] := by
  refine ⟨rfl, .inr ⟨w.heap.size, 0, #[], rfl, hB, heap_alloc_new w _, Nat.le_refl _, Nat.zero_le _, rfl, rfl⟩⟩
theorem own_empty_bytes (w : World) (B : Nat) (hB : B ≤ w.heap.size) : lb.Own (w.alloc (.cells #[] 5)) B (.slice (some ⟨w.heap.size, 0, none⟩) 0 0) [] := by
  refine ⟨rfl, .inr ⟨w.heap.size, 0, #[], rfl, hB, heap_alloc_new w _, Nat.le_refl _, Nat.zero_le _, rfl, rfl⟩⟩
theorem VR.slice {α : Type} {k : Nat} {gh : α → Gh} {B : Nat} {w : World} {v : Value} {xs : List α} (h : VR k gh B w v xs) : ∃ ao cap, v = .slice ao xs.length cap := by
  obtain ⟨ao, cap, h1, _⟩ := h
  exact ⟨ao, cap, by simpa using h1⟩
theorem VR.nil {α : Type} (k : Nat) (gh : α → Gh) (B : Nat) (w : World) : VR k gh B w (.slice none 0 0) [] := ⟨none, 0, rfl, Nat.le_refl _, fun _ => rfl, .inl rfl⟩

set_option maxRecDepth 100000 in
theorem clone_ints (v : Value) (l : List Int) (w : World) (h : wi.Rd w v l) (hl : l.length ≤ 16384) :
    Calls Tryz.prog 32 #[v] w fun e w' => ∃ v', e = .returned v' ∧ VR 1 gI w.heap.size w' v' l ∧ Below w.heap.size w w' := by
  have heq := fun (w : World) a n c => Lib.run_eql_slice_nil (P := Tryz.prog) w 37 3 a n c 0 0 Tryz.underlying37
  obtain ⟨ao, cap, rfl, hc, hz, hd⟩ := h
  cases ao with
  | none =>
    obtain rfl : l = [] := by
      rcases hd with h | ⟨b, off, h, _⟩
      · exact h
      · cases h
    go_enter Tryz.func32, Tryz.ntmps32
    go_wp2
    go_ret
    exact ⟨_, rfl, VR.nil _ _ _ _, Below.refl _ _⟩
  | some ad =>
    have hrd : wi.Rd w (.slice (some ad) l.length cap) l := ⟨_, _, rfl, hc, hz, hd⟩
    have HR := Lib.hid (hrd.lift (made1 w (.cells #[] 3)))
    have HO := Lib.hid (own_empty w w.heap.size (Nat.le_refl _))
    clear hd hz hrd
    go_enter Tryz.func32, Tryz.ntmps32
    go_wp2_with (at_builtin; refine wi.wpList_append_bytes _ _ rfl rfl rfl HO.out rfl HR.out (by simp; omega) (by simp [go_sem]) (made1 w _) ?_; intro v' w1 ho hb)
    go_ret
    exact ⟨v', rfl, own_is ho, hb⟩
set_option maxRecDepth 100000 in
theorem clone_bytes (v : Value) (l : List Int) (w : World) (h : lb.Rd w v l) (hl : l.length ≤ 16384) :
    Calls Tryz.prog 222 #[v] w fun e w' => ∃ v', e = .returned v' ∧ VR 1 gB w.heap.size w' v' l ∧ Below w.heap.size w w' := by
  have heq := fun (w : World) a n c => Lib.run_eql_slice_nil (P := Tryz.prog) w 22 5 a n c 0 0 Tryz.underlying22
  obtain ⟨ao, cap, rfl, hc, hz, hd⟩ := h
  cases ao with
  | none =>
    obtain rfl : l = [] := by
      rcases hd with h | ⟨b, off, h, _⟩
      · exact h
      · cases h
    go_enter Tryz.func222, Tryz.ntmps222
    go_wp2
    go_ret
    exact ⟨_, rfl, VR.nil _ _ _ _, Below.refl _ _⟩
  | some ad =>
    have hrd : lb.Rd w (.slice (some ad) l.length cap) l := ⟨_, _, rfl, hc, hz, hd⟩
    have HR := Lib.hid (hrd.lift (made1 w (.cells #[] 5)))
    have HO := Lib.hid (own_empty_bytes w w.heap.size (Nat.le_refl _))
    clear hd hz hrd
    go_enter Tryz.func222, Tryz.ntmps222
    go_wp2_with (at_builtin; refine lb.wpList_append_bytes _ _ rfl rfl rfl HO.out rfl HR.out (by simp; omega) (by simp [go_sem]) (made1 w _) ?_; intro v' w1 ho hb)
    go_ret
    exact ⟨v', rfl, own_is_bytes ho, hb⟩
end Go.Proofs.YtgcmdnkmnghhaaaGreatDoor.wm

/- The contracts of part and copied. -/
set_option linter.unusedVariables false
set_option linter.unusedSimpArgs false
namespace Go.Proofs.YtgcmdnkmnghhaaaGreatDoor.wm
open Go.RowKit Go.Proofs.YtgcmdnkmnghhaaaGreatDoor.lb
section
variable {w0 : World} {ao : Option Addr} {cap : Nat} {l : List Int}

/-- where a part lies: its size is told -/
def pPart0 : P Nat := pU.bind fun size => fun l e p => if (e : Int) - p < size then .bad 4 e else .ok p (p + size.toNat)

theorem keepA {w : World} {p : Addr} {v : Value} (h : w.cell? p = some v) (o : Obj) : (w.alloc o).cell? p = some v := by
  rw [(made1 w o).cell (World.block_lt_of_cell? w _ h)]; exact h

set_option maxRecDepth 100000 in
theorem part_any (c : Ctx w0 ao cap l) (r e p : Nat) (w : World) (h : Rr w0 ao cap l r e p w) :
    Calls Tryz.prog 107 #[.pointer (some ⟨r, 0, none⟩)] w fun en w' => Keep (· = r) w w' ∧ match pPart0 l e p with
      | .bad why a => en = thrown why a
      | .ok b q => ∃ r', en = .returned (.pointer (some ⟨r', 0, none⟩)) ∧ w.heap.size ≤ r' ∧ Rr w0 ao cap l r e q w' ∧ Rr w0 ao cap l r' q b w' := by
  have HU := u_any c r e p w h
  have hb := fun k => (c.bd k).1
  have hpe := h.hp
  have hel := h.he
  have hcl := c.len
  have hr := h.blk.lt
  cases hx : pU l e p with
  | bad why a =>
    have hX := show pPart0 l e p = .bad why a from P.bind_bad hx
    rw [hx] at HU
    have HU := Lib.hid HU
    rw [hX]
    clear h c hx hX
    go_enter Tryz.func107, Tryz.ntmps107
    go_wp2_with fail
    refine HU.out.mono ?_
    rintro en w1 ⟨k1, rfl⟩
    exact ⟨rfl, k1, rfl⟩
  | ok size b =>
    obtain ⟨s0, s1, hb1, hb2⟩ := u_bd hb hpe hel hx
    rw [hx] at HU
    have HU := Lib.hid HU
    have hX : pPart0 l e p = if (e : Int) - b < size then .bad 4 e else .ok b (b + size.toNat) := P.bind_ok hx
    rw [hX]
    have HS := Lib.hid (fun w' h' => skip_any c r e b w' h' size s0 s1)
    clear h hx hX hb
    by_cases hs : (e : Int) - b < size
    · rw [if_pos hs]
      have HK := Lib.hid (show pSkip size l e b = .bad 4 e from if_pos hs)
      clear c
      go_enter Tryz.func107, Tryz.ntmps107
      go_wp2_with fail
      refine HU.out.mono ?_
      rintro en w1 ⟨k1, v, rfl, rfl, r1⟩
      have c0 := r1.blk.c0
      have c1 := r1.blk.c1
      have R1 := Lib.hid r1
      have K1 := Lib.hid k1
      clear r1 k1
      go_wp2_with fail
      refine wp_region_held_drew (S := fun x => x.cell? ⟨r, 0, none⟩ = some (.slice ao e cap)) (by kernel_rfl) (by go_keep) (fun hHeld => ?_)
      refine wpAnyH_take (i := 0) (v := ?_) rfl (by kernel_rfl) (by kernel_rfl) (by kernel_rfl) (fun _ _ _ h => h) (Or.inl ⟨by rfl, ?_⟩) (by assumption) ?_
      rotate_left
      · intro w hSw; (try dsimp only at hSw); (go_simp <;> with_reducible rfl)
      try simp only [Act.put, List.setIfInBounds_toArray, List.set_cons_zero, List.set_cons_succ]
      refine wpAnyH_take (i := 1) (v := ?_) rfl (by kernel_rfl) (by kernel_rfl) (by kernel_rfl) (fun _ _ _ h => h) (Or.inl ⟨by rfl, ?_⟩) (by assumption) ?_
      rotate_left
      · intro w hSw; (try dsimp only at hSw); (go_simp <;> with_reducible rfl)
      try simp only [Act.put, List.setIfInBounds_toArray, List.set_cons_zero, List.set_cons_succ]
      refine wpAnyH_take (i := 2) (v := ?_) rfl (by kernel_rfl) (by kernel_rfl) (by kernel_rfl) (fun _ _ _ h => h) (Or.inl ⟨by rfl, ?_⟩) (by assumption) ?_
      rotate_left
      · intro w hSw; (try dsimp only at hSw); (go_simp <;> with_reducible rfl)
      try simp only [Act.put, List.setIfInBounds_toArray, List.set_cons_zero, List.set_cons_succ]
      refine wpAnyH_take (i := 3) (v := ?_) rfl (by kernel_rfl) (by kernel_rfl) (by kernel_rfl) (fun _ _ _ h => h) (Or.inl ⟨by rfl, ?_⟩) (by assumption) ?_
      rotate_left
      · intro w hSw; (try dsimp only at hSw); (go_simp <;> with_reducible rfl)
      try simp only [Act.put, List.setIfInBounds_toArray, List.set_cons_zero, List.set_cons_succ]
      refine wpAnyH_take (i := 4) (v := ?_) rfl (by kernel_rfl) (by kernel_rfl) (by kernel_rfl) (fun _ _ _ h => h) (Or.inl ⟨by rfl, ?_⟩) (by assumption) ?_
      rotate_left
      · intro w hSw; (try dsimp only at hSw); (go_simp <;> with_reducible rfl)
      try simp only [Act.put, List.setIfInBounds_toArray, List.set_cons_zero, List.set_cons_succ]
      refine wpAnyH_take (i := 5) (v := ?_) rfl (by kernel_rfl) (by kernel_rfl) (by kernel_rfl) (fun _ _ _ h => h) (Or.inl ⟨by rfl, ?_⟩) (by assumption) ?_
      rotate_left
      · intro w hSw; (try dsimp only at hSw); (go_simp <;> with_reducible rfl)
      try simp only [Act.put, List.setIfInBounds_toArray, List.set_cons_zero, List.set_cons_succ]
      refine wpAnyH_take (i := 8) (v := ?_) rfl (by kernel_rfl) (by kernel_rfl) (by kernel_rfl) (fun _ _ _ h => h) (Or.inl ⟨by rfl, ?_⟩) (by assumption) ?_
      rotate_left
      · intro w hSw; (try dsimp only at hSw); (go_simp <;> with_reducible rfl)
      try simp only [Act.put, List.setIfInBounds_toArray, List.set_cons_zero, List.set_cons_succ]
      refine wpAnyH_ready (rs := [6]) (by kernel_rfl) (by simp) ?_
      refine AllReadyH.cons rfl (fun K hK => ?_) AllReadyH.nil
      go_simp
      refine (HS.out _ (R1.out.below ((Below.refl _ _).drew))).mono ?_
      intro en w2 h2
      obtain ⟨k2, rfl⟩ := h2.bad_elim HK.out
      exact ⟨rfl, K1.out.drew.trans k2, rfl⟩
    · rw [if_neg hs]
      obtain ⟨sn, rfl⟩ := Int.eq_ofNat_of_zero_le s0
      have hK : pSkip sn l e b = .ok ((b + sn : Nat) : Int) (b + sn) := (if_neg hs).trans (by rw [Int.natCast_add, Int.toNat_natCast])
      rw [Int.toNat_natCast]
      obtain ⟨q, hq⟩ : ∃ q, b + sn = q := ⟨_, rfl⟩
      rw [hq] at hK ⊢
      have HK := Lib.hid hK
      have hqe : (q : Int) ≤ e := by omega
      have hcap : l.length ≤ cap := by obtain ⟨_, _, h1, h2, _⟩ := c.rd; simp only [Value.slice.injEq] at h1; omega
      have hqc : (q : Int) ≤ cap := by omega
      have hqc' : q ≤ cap := by omega
      have hbq : b ≤ q := by omega
      have hq0 : (0 : Int) ≤ q := by omega
      clear hK hq
      clear c
      go_enter Tryz.func107, Tryz.ntmps107
      go_wp2_with fail
      refine HU.out.mono ?_
      rintro en w1 ⟨k1, v, rfl, rfl, r1⟩
      have c0 := r1.blk.c0
      have c1 := r1.blk.c1
      have R1 := Lib.hid r1
      have K1 := Lib.hid k1
      clear r1 k1
      go_wp2_with fail
      go_region_held3 (fun x => x.cell? ⟨r, 0, none⟩ = some (.slice ao e cap)) (first | go_keep | exact d0 | exact keepA d0 _) (first | (go_at_call 155; refine (HS.out _ (R1.out.below ((Below.refl _ _).drew))).mono ?_; intro en w2 h2; obtain ⟨k2, v2, rfl, hv2, r2⟩ := h2.ok_elim HK.out; obtain rfl : v2 = .int .i64 _ := hv2; have d0 := r2.blk.c0; have R2 := Lib.hid r2; have K2 := Lib.hid k2; clear r2 k2))
      go_wp2
      go_ret
      refine ⟨(K1.out.drew.trans K2.out).alloc _, w2.heap.size, rfl, Nat.le_trans K1.out.size K2.out.size, R2.out.below (made1 _ _), ?_⟩
      exact ⟨R2.out.low.alloc R2.out.low.size _, RB.new w2 ao q cap b, R2.out.low.size, hbq, by omega⟩
end
end Go.Proofs.YtgcmdnkmnghhaaaGreatDoor.wm

/- The contract of copied. -/
set_option linter.unusedVariables false
set_option linter.unusedSimpArgs false
namespace Go.Proofs.YtgcmdnkmnghhaaaGreatDoor.wm
open Go.RowKit Go.Proofs.YtgcmdnkmnghhaaaGreatDoor.lb
section
variable {w0 : World} {ao : Option Addr} {cap : Nat} {l : List Int}

theorem Ctx.sub {b off : Nat} (c : Ctx w0 (some ⟨b, off, none⟩) cap l) {w : World} (h : Below w0.heap.size w0 w) {p n : Nat} (hn : p + n ≤ l.length) : Rd w (.slice (some ⟨b, off + p, none⟩) n (cap - p)) ((l.drop p).take n) := by
  obtain ⟨ao', cap', h1, h2, h3, h4⟩ := c.rd.lift h
  simp only [Value.slice.injEq, true_and] at h1
  obtain ⟨rfl, rfl⟩ := h1
  have hl : ((l.drop p).take n).length = n := by rw [List.length_take, List.length_drop]; omega
  refine ⟨_, _, by rw [hl], by omega, (fun h => by cases h), ?_⟩
  rcases h4 with rfl | ⟨b', off', e, h5⟩
  · left; simp
  · right
    simp only [Option.some.injEq, Addr.mk.injEq, and_true] at e
    obtain ⟨rfl, rfl⟩ := e
    refine ⟨b, off + p, rfl, fun k hk => ?_⟩
    rw [hl] at hk
    have := h5 (p + k) (by omega)
    rw [show off + p + k = off + (p + k) by omega, this, List.getD_eq_getElem?_getD, List.getD_eq_getElem?_getD, List.getElem?_take, if_pos hk, List.getElem?_drop]

theorem Ctx.sub' {b off : Nat} (c : Ctx w0 (some ⟨b, off, none⟩) cap l) {w : World} (h : Below w0.heap.size w0 w) {p n : Nat} (hn : p + n ≤ l.length) : Rd w (.slice (if cap = p then some ⟨b, off, none⟩ else some ⟨b, off + p, none⟩) n (cap - p)) ((l.drop p).take n) := by
  split
  · rename_i hcp
    have hl : l.length ≤ cap := by obtain ⟨_, _, h1, h2, _⟩ := c.rd; simp only [Value.slice.injEq] at h1; omega
    obtain rfl : n = 0 := by omega
    refine ⟨_, _, rfl, Nat.zero_le _, (fun h => by cases h), .inl (by simp)⟩
  · exact c.sub h hn

set_option maxRecDepth 100000 in
theorem copied_any (c : Ctx w0 ao cap l) (r e p : Nat) (w : World) (h : Rr w0 ao cap l r e p w) (size : Int) (s0 : 0 ≤ size) (s1 : size < 4294967296) (he0 : 0 < e) :
    Calls Tryz.prog 198 #[.pointer (some ⟨r, 0, none⟩), .int .i64 size] w (Out (· = r) w0 ao cap l r e w (VR 1 gB w.heap.size) (pCopied size l e p)) := by
  have hpe := h.hp
  have hel := h.he
  have hcl := c.len
  have hr := h.blk.lt
  have c0 := h.blk.c0
  have c1 := h.blk.c1
  have HS := skip_any c r e p w.drew (h.below (Below.refl _ _).drew) size s0 s1
  have HH := Lib.hid h
  by_cases hs : (e : Int) - p < size
  · have HX := Lib.hid (show pCopied size l e p = .bad 4 e from if_pos hs)
    have HK := Lib.hid (show pSkip size l e p = .bad 4 e from if_pos hs)
    have HS := Lib.hid HS
    clear h c
    go_enter Tryz.func198, Tryz.ntmps198
    go_wp2_with fail
    refine wp_region_held_drew (S := fun x => x.cell? ⟨r, 0, none⟩ = some (.slice ao e cap)) (by kernel_rfl) (by go_keep) (fun hHeld => ?_)
    refine wpAnyH_take (i := 0) (v := ?_) rfl (by kernel_rfl) (by kernel_rfl) (by kernel_rfl) (fun _ _ _ h => h) (Or.inl ⟨by rfl, ?_⟩) (by assumption) ?_
    rotate_left
    · intro w hSw; (try dsimp only at hSw); (go_simp <;> with_reducible rfl)
    try simp only [Act.put, List.setIfInBounds_toArray, List.set_cons_zero, List.set_cons_succ]
    refine wpAnyH_take (i := 1) (v := ?_) rfl (by kernel_rfl) (by kernel_rfl) (by kernel_rfl) (fun _ _ _ h => h) (Or.inl ⟨by rfl, ?_⟩) (by assumption) ?_
    rotate_left
    · intro w hSw; (try dsimp only at hSw); (go_simp <;> with_reducible rfl)
    try simp only [Act.put, List.setIfInBounds_toArray, List.set_cons_zero, List.set_cons_succ]
    refine wpAnyH_take (i := 2) (v := ?_) rfl (by kernel_rfl) (by kernel_rfl) (by kernel_rfl) (fun _ _ _ h => h) (Or.inl ⟨by rfl, ?_⟩) (by assumption) ?_
    rotate_left
    · intro w hSw; (try dsimp only at hSw); (go_simp <;> with_reducible rfl)
    try simp only [Act.put, List.setIfInBounds_toArray, List.set_cons_zero, List.set_cons_succ]
    refine wpAnyH_take (i := 3) (v := ?_) rfl (by kernel_rfl) (by kernel_rfl) (by kernel_rfl) (fun _ _ _ h => h) (Or.inl ⟨by rfl, ?_⟩) (by assumption) ?_
    rotate_left
    · intro w hSw; (try dsimp only at hSw); (go_simp <;> with_reducible rfl)
    try simp only [Act.put, List.setIfInBounds_toArray, List.set_cons_zero, List.set_cons_succ]
    refine wpAnyH_take (i := 4) (v := ?_) rfl (by kernel_rfl) (by kernel_rfl) (by kernel_rfl) (fun _ _ _ h => h) (Or.inl ⟨by rfl, ?_⟩) (by assumption) ?_
    rotate_left
    · intro w hSw; (try dsimp only at hSw); (go_simp <;> with_reducible rfl)
    try simp only [Act.put, List.setIfInBounds_toArray, List.set_cons_zero, List.set_cons_succ]
    refine wpAnyH_take (i := 5) (v := ?_) rfl (by kernel_rfl) (by kernel_rfl) (by kernel_rfl) (fun _ _ _ h => h) (Or.inl ⟨by rfl, ?_⟩) (by assumption) ?_
    rotate_left
    · intro w hSw; (try dsimp only at hSw); (go_simp <;> with_reducible rfl)
    try simp only [Act.put, List.setIfInBounds_toArray, List.set_cons_zero, List.set_cons_succ]
    refine wpAnyH_take (i := 6) (v := ?_) rfl (by kernel_rfl) (by kernel_rfl) (by kernel_rfl) (fun _ _ _ h => h) (Or.inl ⟨by rfl, ?_⟩) (by assumption) ?_
    rotate_left
    · intro w hSw; (try dsimp only at hSw); (go_simp <;> with_reducible rfl)
    try simp only [Act.put, List.setIfInBounds_toArray, List.set_cons_zero, List.set_cons_succ]
    refine wpAnyH_ready (rs := [7]) (by kernel_rfl) (by simp) ?_
    refine AllReadyH.cons rfl (fun K hK => ?_) AllReadyH.nil
    go_simp
    refine HS.out.mono ?_
    intro en w2 h2
    obtain ⟨k2, rfl⟩ := h2.bad_elim HK.out
    exact ⟨rfl, Out.wrong HX.out (((Keep.refl _ w).drew).trans k2)⟩
  · obtain ⟨sn, rfl⟩ := Int.eq_ofNat_of_zero_le s0
    have hK : pSkip sn l e p = .ok ((p + sn : Nat) : Int) (p + sn) := (if_neg hs).trans (by rw [Int.natCast_add, Int.toNat_natCast])
    have hX : pCopied sn l e p = .ok ((l.drop p).take sn) (p + sn) := (if_neg hs).trans (by rw [Int.toNat_natCast])
    obtain ⟨b, off, rfl, _⟩ := c.byte (Below.refl _ _) (k := 0) (by omega)
    have HC := (fun w' (hb : Below w0.heap.size w0 w') => clone_bytes _ _ w' (c.sub' hb (p := p) (n := sn) (by omega)) (by rw [List.length_take, List.length_drop]; omega))
    obtain ⟨q, hq⟩ : ∃ q, p + sn = q := ⟨_, rfl⟩
    have hsn : sn = q - p := by omega
    rw [hsn] at HC
    rw [hq] at hK hX
    replace hX : pCopied sn l e p = .ok ((l.drop p).take (q - p)) q := hX.trans (by rw [hsn])
    have HK := Lib.hid hK
    have HX := Lib.hid hX
    have HS := Lib.hid HS
    have hcap : l.length ≤ cap := by obtain ⟨_, _, h1, h2, _⟩ := c.rd; simp only [Value.slice.injEq] at h1; omega
    have hqe : (q : Int) ≤ e := by omega
    have hqc : (q : Int) ≤ cap := by omega
    have hqc' : q ≤ cap := by omega
    have hpq : p ≤ q := by omega
    have hpq' : (p : Int) ≤ q := by omega
    have hq0 : (0 : Int) ≤ q := by omega
    clear hK hX h c hs hq
    by_cases hcp : cap = p
    · simp only [if_pos hcp] at HC
      have h1 : e = cap := by omega
      have h2 : e = p := by omega
      have h3 : e = q := by omega
      subst h1 h2 h3
      simp only [Nat.sub_self] at HC HX
      have HC := Lib.hid HC
      clear hsn
      go_enter Tryz.func198, Tryz.ntmps198
      go_wp2_with fail
      go_region_held3 (fun x => x.cell? ⟨r, 0, none⟩ = some (.slice (some ⟨b, off, none⟩) e e)) (first | exact d1 | exact d0 | go_keep)
        (first
          | (go_at_call 155; refine HS.out.mono ?_; intro en w2 h2; obtain ⟨k2, v2, rfl, hv2, r2⟩ := h2.ok_elim HK.out; obtain rfl : v2 = .int .i64 _ := hv2; have d0 := r2.blk.c0; have R2 := Lib.hid r2; have K2 := Lib.hid k2; clear r2 k2 h2)
          | (go_at_call 222; refine (HC.out _ R2.out.low).mono ?_; rintro en w3 ⟨v3, rfl, hv3, hb3⟩; have d1 := (R2.out.below hb3).blk.c0; have B3 := Lib.hid hb3; have V3 := Lib.hid hv3; clear hb3 hv3))
      go_wp2
      go_ret
      exact Out.good HX.out ((((Keep.refl _ w).drew).trans K2.out).trans (.of B3.out)) (Gh.is.keep V3.out (by have := K2.out.size; exact this) Same.rfl) (R2.out.below B3.out)
    · simp only [if_neg hcp] at HC
      have HC := Lib.hid HC
      clear hsn
      go_enter Tryz.func198, Tryz.ntmps198
      go_wp2_with fail
      go_region_held3 (fun x => x.cell? ⟨r, 0, none⟩ = some (.slice (some ⟨b, off, none⟩) e cap)) (first | exact d1 | exact d0 | go_keep)
        (first
          | (go_at_call 155; refine HS.out.mono ?_; intro en w2 h2; obtain ⟨k2, v2, rfl, hv2, r2⟩ := h2.ok_elim HK.out; obtain rfl : v2 = .int .i64 _ := hv2; have d0 := r2.blk.c0; have R2 := Lib.hid r2; have K2 := Lib.hid k2; clear r2 k2 h2)
          | (go_at_call 222; refine (HC.out _ R2.out.low).mono ?_; rintro en w3 ⟨v3, rfl, hv3, hb3⟩; have d1 := (R2.out.below hb3).blk.c0; have B3 := Lib.hid hb3; have V3 := Lib.hid hv3; clear hb3 hv3))
      go_wp2
      go_ret
      exact Out.good HX.out ((((Keep.refl _ w).drew).trans K2.out).trans (.of B3.out)) (Gh.is.keep V3.out (by have := K2.out.size; exact this) Same.rfl) (R2.out.below B3.out)
end
end Go.Proofs.YtgcmdnkmnghhaaaGreatDoor.wm

/- The contracts of what sections are made of: printed by gen_seq.py. -/
set_option linter.unusedVariables false
namespace Go.Proofs.YtgcmdnkmnghhaaaGreatDoor.wm
open Go.RowKit Go.Proofs.YtgcmdnkmnghhaaaGreatDoor.lb
theorem Rr.other {w0 : World} {ao : Option Addr} {cap : Nat} {l : List Int} {r e p g : Nat} {w w' : World} (h : Rr w0 ao cap l r e p w) (k : Keep (fun i => i = g) w w') {n : Nat} (hr : r < n) (hn : g = n := by rfl) : Rr w0 ao cap l r e p w' := by
  have hB := h.hB
  exact h.keep k (by omega) (fun i hi => by omega)
section
variable {w0 : World} {ao : Option Addr} {cap : Nat} {l : List Int}

set_option maxRecDepth 100000 in
theorem declared_any (c : Ctx w0 ao cap l) (r e p : Nat) (w : World) (h : Rr w0 ao cap l r e p w) :
    Calls Tryz.prog 161 #[.pointer (some ⟨r, 0, none⟩)] w (Out (· = r) w0 ao cap l r e w (VA3 gFunc w.heap.size) (pDeclared l e p)) := by
  have hr := h.blk.lt
  have HC := Lib.hid c
  have R0 := Lib.hid h
  have hb := fun k => (c.bd k).1
  have hp := h.hp
  have hel := h.he
  have he0 : p < e → 0 < e := by omega
  have HR0 := Lib.hid (Row.new w #[.int .i64 0, .slice none 0 0, .slice none 0 0] 52)
  cases hx1 : pU l e p with
  | bad why a =>
    have HX := Lib.hid (show pDeclared l e p = .bad why a from P.bind_bad hx1)
    have HX1 := Lib.hid hx1
    clear h c hb hx1
    go_enter Tryz.func161, Tryz.ntmps161
    go_wp2_with fail
    refine (u_any HC.out r e p _ (R0.out.below (made1 w _))).mono ?_
    rintro en w1 h1
    obtain ⟨k1, rfl⟩ := h1.bad_elim HX1.out
    exact ⟨rfl, Out.wrong HX.out ((Keep.of (made1 w _)).trans k1)⟩
  | ok n q1 =>
    have HX := Lib.hid (show pDeclared l e p = .ok ⟨n, [], []⟩ q1 from (P.bind_ok hx1).trans (rfl))
    have HX1 := Lib.hid hx1
    clear h c hb hx1
    go_enter Tryz.func161, Tryz.ntmps161
    go_wp2_with fail
    refine (u_any HC.out r e p _ (R0.out.below (made1 w _))).mono ?_
    rintro en w1 h1
    obtain ⟨k1, v1, rfl, hv1, r1⟩ := h1.ok_elim HX1.out
    obtain rfl : v1 = .int .i64 n := hv1
    have R1 := Lib.hid r1
    have K1 := Lib.hid ((Keep.of (made1 w _)).trans k1)
    have HR1 := Lib.hid (HR0.out.keep k1 (by omega))
    have S1 : w.heap.size + 1 ≤ w1.heap.size := by have := HR1.out.lt; omega
    have KK1 := Lib.hid k1
    clear h1 r1 k1
    obtain ⟨u0, d0⟩ := HR1.out.some (k := 0) (by simp)
    have z0 := HR1.out.fz 0
    obtain ⟨u1, d1⟩ := HR1.out.some (k := 1) (by simp)
    have z1 := HR1.out.fz 1
    obtain ⟨u2, d2⟩ := HR1.out.some (k := 2) (by simp)
    have z2 := HR1.out.fz 2
    have KS := Lib.hid ((((Keep.refl (fun k => k = w.heap.size) w1).set (p := ⟨w.heap.size, 0, none⟩) (.inl rfl) (.int .i64 n)).set (p := ⟨w.heap.size, 1, none⟩) (.inl rfl) (.slice none 0 0)).set (p := ⟨w.heap.size, 2, none⟩) (.inl rfl) (.slice none 0 0))
    go_wp2
    refine bodyPost_ret (v := .agg #[.int .i64 n, .slice none 0 0, .slice none 0 0]) (by simp [results, Tryz.results161, go_sem, d0, d1, d2]) rfl (Out.good HX.out (K1.out.new KS.out (fun i hi e => by omega)) ⟨_, _, _, rfl, ?_⟩ (R1.out.other KS.out hr))
    exact (Gh.all_cons rfl).2 ⟨Gh.is_val.2 rfl, (Gh.all_cons rfl).2 ⟨VR.nil 1 gI _ _, (Gh.all_cons rfl).2 ⟨VR.nil 9 gInstr _ _, rfl⟩⟩⟩

set_option maxRecDepth 100000 in
theorem export_any (c : Ctx w0 ao cap l) (r e p : Nat) (w : World) (h : Rr w0 ao cap l r e p w) :
    Calls Tryz.prog 166 #[.pointer (some ⟨r, 0, none⟩)] w (Out (· = r) w0 ao cap l r e w (VA3 gExport w.heap.size) (pExport l e p)) := by
  have hr := h.blk.lt
  have HC := Lib.hid c
  have R0 := Lib.hid h
  have hb := fun k => (c.bd k).1
  have hp := h.hp
  have hel := h.he
  have he0 : p < e → 0 < e := by omega
  have HR0 := Lib.hid (Row.new w #[.string { data := #[] }, .int .i64 0, .int .i64 0] 46)
  cases hx1 : pName l e p with
  | bad why a =>
    have HX := Lib.hid (show pExport l e p = .bad why a from P.bind_bad hx1)
    have HX1 := Lib.hid hx1
    clear h c hb hx1
    go_enter Tryz.func166, Tryz.ntmps166
    go_wp2_with fail
    refine (name_any HC.out r e p _ (R0.out.below (made1 w _))).mono ?_
    rintro en w1 h1
    obtain ⟨k1, rfl⟩ := h1.bad_elim HX1.out
    exact ⟨rfl, Out.wrong HX.out ((Keep.of (made1 w _)).trans k1)⟩
  | ok s q1 =>
    cases hx2 : pOne [0, 2, 3] [1] l e q1 with
    | bad why a =>
      have HX := Lib.hid (show pExport l e p = .bad why a from (P.bind_ok hx1).trans (P.bind_bad hx2))
      have HX1 := Lib.hid hx1
      have HX2 := Lib.hid hx2
      clear h c hb hx1 hx2
      go_enter Tryz.func166, Tryz.ntmps166
      go_wp2_with fail
      refine (name_any HC.out r e p _ (R0.out.below (made1 w _))).mono ?_
      rintro en w1 h1
      obtain ⟨k1, v1, rfl, hv1, r1⟩ := h1.ok_elim HX1.out
      obtain rfl : v1 = .string (strOfNums s) := hv1
      have R1 := Lib.hid r1
      have K1 := Lib.hid ((Keep.of (made1 w _)).trans k1)
      have HR1 := Lib.hid (HR0.out.keep k1 (by omega))
      have S1 : w.heap.size + 1 ≤ w1.heap.size := by have := HR1.out.lt; omega
      have KK1 := Lib.hid k1
      clear h1 r1 k1
      go_wp2_with fail
      refine (one2 HC.out r e q1 _ R1.out [0, 2, 3] [1] #[.int .i64 0, .int .i64 2, .int .i64 3] #[.int .i64 1] rfl rfl 3 1 rfl rfl (by decide) (by decide)).mono ?_
      rintro en w2 h2
      obtain ⟨k2, rfl⟩ := h2.bad_elim HX2.out
      exact ⟨rfl, Out.wrong HX.out (K1.out.trans k2)⟩
    | ok k q2 =>
      cases hx3 : pU l e q2 with
      | bad why a =>
        have HX := Lib.hid (show pExport l e p = .bad why a from (P.bind_ok hx1).trans ((P.bind_ok hx2).trans (P.bind_bad hx3)))
        have HX1 := Lib.hid hx1
        have HX2 := Lib.hid hx2
        have HX3 := Lib.hid hx3
        clear h c hb hx1 hx2 hx3
        go_enter Tryz.func166, Tryz.ntmps166
        go_wp2_with fail
        refine (name_any HC.out r e p _ (R0.out.below (made1 w _))).mono ?_
        rintro en w1 h1
        obtain ⟨k1, v1, rfl, hv1, r1⟩ := h1.ok_elim HX1.out
        obtain rfl : v1 = .string (strOfNums s) := hv1
        have R1 := Lib.hid r1
        have K1 := Lib.hid ((Keep.of (made1 w _)).trans k1)
        have HR1 := Lib.hid (HR0.out.keep k1 (by omega))
        have S1 : w.heap.size + 1 ≤ w1.heap.size := by have := HR1.out.lt; omega
        have KK1 := Lib.hid k1
        clear h1 r1 k1
        go_wp2_with fail
        refine (one2 HC.out r e q1 _ R1.out [0, 2, 3] [1] #[.int .i64 0, .int .i64 2, .int .i64 3] #[.int .i64 1] rfl rfl 3 1 rfl rfl (by decide) (by decide)).mono ?_
        rintro en w2 h2
        obtain ⟨k2, v2, rfl, hv2, r2⟩ := h2.ok_elim HX2.out
        obtain rfl : v2 = .int .i64 k := hv2
        have R2 := Lib.hid r2
        have K2 := Lib.hid (K1.out.trans k2)
        have HR2 := Lib.hid (HR1.out.keep k2 (by omega))
        have S2 : w.heap.size + 1 ≤ w2.heap.size := by have := HR2.out.lt; omega
        have KK2 := Lib.hid k2
        clear h2 r2 k2
        go_wp2_with fail
        refine (u_any HC.out r e q2 _ R2.out).mono ?_
        rintro en w3 h3
        obtain ⟨k3, rfl⟩ := h3.bad_elim HX3.out
        exact ⟨rfl, Out.wrong HX.out (K2.out.trans k3)⟩
      | ok n q3 =>
        have HX := Lib.hid (show pExport l e p = .ok ⟨s, k, n⟩ q3 from (P.bind_ok hx1).trans ((P.bind_ok hx2).trans ((P.bind_ok hx3).trans (rfl))))
        have HX1 := Lib.hid hx1
        have HX2 := Lib.hid hx2
        have HX3 := Lib.hid hx3
        clear h c hb hx1 hx2 hx3
        go_enter Tryz.func166, Tryz.ntmps166
        go_wp2_with fail
        refine (name_any HC.out r e p _ (R0.out.below (made1 w _))).mono ?_
        rintro en w1 h1
        obtain ⟨k1, v1, rfl, hv1, r1⟩ := h1.ok_elim HX1.out
        obtain rfl : v1 = .string (strOfNums s) := hv1
        have R1 := Lib.hid r1
        have K1 := Lib.hid ((Keep.of (made1 w _)).trans k1)
        have HR1 := Lib.hid (HR0.out.keep k1 (by omega))
        have S1 : w.heap.size + 1 ≤ w1.heap.size := by have := HR1.out.lt; omega
        have KK1 := Lib.hid k1
        clear h1 r1 k1
        go_wp2_with fail
        refine (one2 HC.out r e q1 _ R1.out [0, 2, 3] [1] #[.int .i64 0, .int .i64 2, .int .i64 3] #[.int .i64 1] rfl rfl 3 1 rfl rfl (by decide) (by decide)).mono ?_
        rintro en w2 h2
        obtain ⟨k2, v2, rfl, hv2, r2⟩ := h2.ok_elim HX2.out
        obtain rfl : v2 = .int .i64 k := hv2
        have R2 := Lib.hid r2
        have K2 := Lib.hid (K1.out.trans k2)
        have HR2 := Lib.hid (HR1.out.keep k2 (by omega))
        have S2 : w.heap.size + 1 ≤ w2.heap.size := by have := HR2.out.lt; omega
        have KK2 := Lib.hid k2
        clear h2 r2 k2
        go_wp2_with fail
        refine (u_any HC.out r e q2 _ R2.out).mono ?_
        rintro en w3 h3
        obtain ⟨k3, v3, rfl, hv3, r3⟩ := h3.ok_elim HX3.out
        obtain rfl : v3 = .int .i64 n := hv3
        have R3 := Lib.hid r3
        have K3 := Lib.hid (K2.out.trans k3)
        have HR3 := Lib.hid (HR2.out.keep k3 (by omega))
        have S3 : w.heap.size + 1 ≤ w3.heap.size := by have := HR3.out.lt; omega
        have KK3 := Lib.hid k3
        clear h3 r3 k3
        obtain ⟨u0, d0⟩ := HR3.out.some (k := 0) (by simp)
        have z0 := HR3.out.fz 0
        obtain ⟨u1, d1⟩ := HR3.out.some (k := 1) (by simp)
        have z1 := HR3.out.fz 1
        obtain ⟨u2, d2⟩ := HR3.out.some (k := 2) (by simp)
        have z2 := HR3.out.fz 2
        have KS := Lib.hid ((((Keep.refl (fun k => k = w.heap.size) w3).set (p := ⟨w.heap.size, 0, none⟩) (.inl rfl) (.string (strOfNums s))).set (p := ⟨w.heap.size, 1, none⟩) (.inl rfl) (.int .i64 k)).set (p := ⟨w.heap.size, 2, none⟩) (.inl rfl) (.int .i64 n))
        go_wp2
        refine bodyPost_ret (v := .agg #[.string (strOfNums s), .int .i64 k, .int .i64 n]) (by simp [results, Tryz.results166, go_sem, d0, d1, d2]) rfl (Out.good HX.out (K3.out.new KS.out (fun i hi e => by omega)) ⟨_, _, _, rfl, ?_⟩ (R3.out.other KS.out hr))
        exact (Gh.all_cons rfl).2 ⟨Gh.is_val.2 rfl, (Gh.all_cons rfl).2 ⟨Gh.is_val.2 rfl, (Gh.all_cons rfl).2 ⟨Gh.is_val.2 rfl, rfl⟩⟩⟩

set_option maxRecDepth 100000 in
theorem imported_any (c : Ctx w0 ao cap l) (r e p : Nat) (w : World) (h : Rr w0 ao cap l r e p w) :
    Calls Tryz.prog 159 #[.pointer (some ⟨r, 0, none⟩)] w (Out (· = r) w0 ao cap l r e w (VA3 gImport w.heap.size) (pImport l e p)) := by
  have hr := h.blk.lt
  have HC := Lib.hid c
  have R0 := Lib.hid h
  have hb := fun k => (c.bd k).1
  have hp := h.hp
  have hel := h.he
  have he0 : p < e → 0 < e := by omega
  have HR0 := Lib.hid (Row.new w #[.string { data := #[] }, .string { data := #[] }, .int .i64 0] 77)
  cases hx1 : pName l e p with
  | bad why a =>
    have HX := Lib.hid (show pImport l e p = .bad why a from P.bind_bad hx1)
    have HX1 := Lib.hid hx1
    clear h c hb hx1
    go_enter Tryz.func159, Tryz.ntmps159
    go_wp2_with fail
    refine (name_any HC.out r e p _ (R0.out.below (made1 w _))).mono ?_
    rintro en w1 h1
    obtain ⟨k1, rfl⟩ := h1.bad_elim HX1.out
    exact ⟨rfl, Out.wrong HX.out ((Keep.of (made1 w _)).trans k1)⟩
  | ok s q1 =>
    cases hx2 : pName l e q1 with
    | bad why a =>
      have HX := Lib.hid (show pImport l e p = .bad why a from (P.bind_ok hx1).trans (P.bind_bad hx2))
      have HX1 := Lib.hid hx1
      have HX2 := Lib.hid hx2
      clear h c hb hx1 hx2
      go_enter Tryz.func159, Tryz.ntmps159
      go_wp2_with fail
      refine (name_any HC.out r e p _ (R0.out.below (made1 w _))).mono ?_
      rintro en w1 h1
      obtain ⟨k1, v1, rfl, hv1, r1⟩ := h1.ok_elim HX1.out
      obtain rfl : v1 = .string (strOfNums s) := hv1
      have R1 := Lib.hid r1
      have K1 := Lib.hid ((Keep.of (made1 w _)).trans k1)
      have HR1 := Lib.hid (HR0.out.keep k1 (by omega))
      have S1 : w.heap.size + 1 ≤ w1.heap.size := by have := HR1.out.lt; omega
      have KK1 := Lib.hid k1
      clear h1 r1 k1
      go_wp2_with fail
      refine (name_any HC.out r e q1 _ R1.out).mono ?_
      rintro en w2 h2
      obtain ⟨k2, rfl⟩ := h2.bad_elim HX2.out
      exact ⟨rfl, Out.wrong HX.out (K1.out.trans k2)⟩
    | ok t q2 =>
      cases hx3 : pOne [0] [1, 2, 3] l e q2 with
      | bad why a =>
        have HX := Lib.hid (show pImport l e p = .bad why a from (P.bind_ok hx1).trans ((P.bind_ok hx2).trans (P.bind_bad hx3)))
        have HX1 := Lib.hid hx1
        have HX2 := Lib.hid hx2
        have HX3 := Lib.hid hx3
        clear h c hb hx1 hx2 hx3
        go_enter Tryz.func159, Tryz.ntmps159
        go_wp2_with fail
        refine (name_any HC.out r e p _ (R0.out.below (made1 w _))).mono ?_
        rintro en w1 h1
        obtain ⟨k1, v1, rfl, hv1, r1⟩ := h1.ok_elim HX1.out
        obtain rfl : v1 = .string (strOfNums s) := hv1
        have R1 := Lib.hid r1
        have K1 := Lib.hid ((Keep.of (made1 w _)).trans k1)
        have HR1 := Lib.hid (HR0.out.keep k1 (by omega))
        have S1 : w.heap.size + 1 ≤ w1.heap.size := by have := HR1.out.lt; omega
        have KK1 := Lib.hid k1
        clear h1 r1 k1
        go_wp2_with fail
        refine (name_any HC.out r e q1 _ R1.out).mono ?_
        rintro en w2 h2
        obtain ⟨k2, v2, rfl, hv2, r2⟩ := h2.ok_elim HX2.out
        obtain rfl : v2 = .string (strOfNums t) := hv2
        have R2 := Lib.hid r2
        have K2 := Lib.hid (K1.out.trans k2)
        have HR2 := Lib.hid (HR1.out.keep k2 (by omega))
        have S2 : w.heap.size + 1 ≤ w2.heap.size := by have := HR2.out.lt; omega
        have KK2 := Lib.hid k2
        clear h2 r2 k2
        go_wp2_with fail
        refine (one2 HC.out r e q2 _ R2.out [0] [1, 2, 3] #[.int .i64 0] #[.int .i64 1, .int .i64 2, .int .i64 3] rfl rfl 1 3 rfl rfl (by decide) (by decide)).mono ?_
        rintro en w3 h3
        obtain ⟨k3, rfl⟩ := h3.bad_elim HX3.out
        exact ⟨rfl, Out.wrong HX.out (K2.out.trans k3)⟩
      | ok k q3 =>
        cases hx4 : pU l e q3 with
        | bad why a =>
          have HX := Lib.hid (show pImport l e p = .bad why a from (P.bind_ok hx1).trans ((P.bind_ok hx2).trans ((P.bind_ok hx3).trans (P.bind_bad hx4))))
          have HX1 := Lib.hid hx1
          have HX2 := Lib.hid hx2
          have HX3 := Lib.hid hx3
          have HX4 := Lib.hid hx4
          clear h c hb hx1 hx2 hx3 hx4
          go_enter Tryz.func159, Tryz.ntmps159
          go_wp2_with fail
          refine (name_any HC.out r e p _ (R0.out.below (made1 w _))).mono ?_
          rintro en w1 h1
          obtain ⟨k1, v1, rfl, hv1, r1⟩ := h1.ok_elim HX1.out
          obtain rfl : v1 = .string (strOfNums s) := hv1
          have R1 := Lib.hid r1
          have K1 := Lib.hid ((Keep.of (made1 w _)).trans k1)
          have HR1 := Lib.hid (HR0.out.keep k1 (by omega))
          have S1 : w.heap.size + 1 ≤ w1.heap.size := by have := HR1.out.lt; omega
          have KK1 := Lib.hid k1
          clear h1 r1 k1
          go_wp2_with fail
          refine (name_any HC.out r e q1 _ R1.out).mono ?_
          rintro en w2 h2
          obtain ⟨k2, v2, rfl, hv2, r2⟩ := h2.ok_elim HX2.out
          obtain rfl : v2 = .string (strOfNums t) := hv2
          have R2 := Lib.hid r2
          have K2 := Lib.hid (K1.out.trans k2)
          have HR2 := Lib.hid (HR1.out.keep k2 (by omega))
          have S2 : w.heap.size + 1 ≤ w2.heap.size := by have := HR2.out.lt; omega
          have KK2 := Lib.hid k2
          clear h2 r2 k2
          go_wp2_with fail
          refine (one2 HC.out r e q2 _ R2.out [0] [1, 2, 3] #[.int .i64 0] #[.int .i64 1, .int .i64 2, .int .i64 3] rfl rfl 1 3 rfl rfl (by decide) (by decide)).mono ?_
          rintro en w3 h3
          obtain ⟨k3, v3, rfl, hv3, r3⟩ := h3.ok_elim HX3.out
          obtain rfl : v3 = .int .i64 k := hv3
          have R3 := Lib.hid r3
          have K3 := Lib.hid (K2.out.trans k3)
          have HR3 := Lib.hid (HR2.out.keep k3 (by omega))
          have S3 : w.heap.size + 1 ≤ w3.heap.size := by have := HR3.out.lt; omega
          have KK3 := Lib.hid k3
          clear h3 r3 k3
          go_wp2_with fail
          refine (u_any HC.out r e q3 _ R3.out).mono ?_
          rintro en w4 h4
          obtain ⟨k4, rfl⟩ := h4.bad_elim HX4.out
          exact ⟨rfl, Out.wrong HX.out (K3.out.trans k4)⟩
        | ok n q4 =>
          have HX := Lib.hid (show pImport l e p = .ok ⟨s, t, n⟩ q4 from (P.bind_ok hx1).trans ((P.bind_ok hx2).trans ((P.bind_ok hx3).trans ((P.bind_ok hx4).trans (rfl)))))
          have HX1 := Lib.hid hx1
          have HX2 := Lib.hid hx2
          have HX3 := Lib.hid hx3
          have HX4 := Lib.hid hx4
          clear h c hb hx1 hx2 hx3 hx4
          go_enter Tryz.func159, Tryz.ntmps159
          go_wp2_with fail
          refine (name_any HC.out r e p _ (R0.out.below (made1 w _))).mono ?_
          rintro en w1 h1
          obtain ⟨k1, v1, rfl, hv1, r1⟩ := h1.ok_elim HX1.out
          obtain rfl : v1 = .string (strOfNums s) := hv1
          have R1 := Lib.hid r1
          have K1 := Lib.hid ((Keep.of (made1 w _)).trans k1)
          have HR1 := Lib.hid (HR0.out.keep k1 (by omega))
          have S1 : w.heap.size + 1 ≤ w1.heap.size := by have := HR1.out.lt; omega
          have KK1 := Lib.hid k1
          clear h1 r1 k1
          go_wp2_with fail
          refine (name_any HC.out r e q1 _ R1.out).mono ?_
          rintro en w2 h2
          obtain ⟨k2, v2, rfl, hv2, r2⟩ := h2.ok_elim HX2.out
          obtain rfl : v2 = .string (strOfNums t) := hv2
          have R2 := Lib.hid r2
          have K2 := Lib.hid (K1.out.trans k2)
          have HR2 := Lib.hid (HR1.out.keep k2 (by omega))
          have S2 : w.heap.size + 1 ≤ w2.heap.size := by have := HR2.out.lt; omega
          have KK2 := Lib.hid k2
          clear h2 r2 k2
          go_wp2_with fail
          refine (one2 HC.out r e q2 _ R2.out [0] [1, 2, 3] #[.int .i64 0] #[.int .i64 1, .int .i64 2, .int .i64 3] rfl rfl 1 3 rfl rfl (by decide) (by decide)).mono ?_
          rintro en w3 h3
          obtain ⟨k3, v3, rfl, hv3, r3⟩ := h3.ok_elim HX3.out
          obtain rfl : v3 = .int .i64 k := hv3
          have R3 := Lib.hid r3
          have K3 := Lib.hid (K2.out.trans k3)
          have HR3 := Lib.hid (HR2.out.keep k3 (by omega))
          have S3 : w.heap.size + 1 ≤ w3.heap.size := by have := HR3.out.lt; omega
          have KK3 := Lib.hid k3
          clear h3 r3 k3
          go_wp2_with fail
          refine (u_any HC.out r e q3 _ R3.out).mono ?_
          rintro en w4 h4
          obtain ⟨k4, v4, rfl, hv4, r4⟩ := h4.ok_elim HX4.out
          obtain rfl : v4 = .int .i64 n := hv4
          have R4 := Lib.hid r4
          have K4 := Lib.hid (K3.out.trans k4)
          have HR4 := Lib.hid (HR3.out.keep k4 (by omega))
          have S4 : w.heap.size + 1 ≤ w4.heap.size := by have := HR4.out.lt; omega
          have KK4 := Lib.hid k4
          clear h4 r4 k4
          obtain ⟨u0, d0⟩ := HR4.out.some (k := 0) (by simp)
          have z0 := HR4.out.fz 0
          obtain ⟨u1, d1⟩ := HR4.out.some (k := 1) (by simp)
          have z1 := HR4.out.fz 1
          obtain ⟨u2, d2⟩ := HR4.out.some (k := 2) (by simp)
          have z2 := HR4.out.fz 2
          have KS := Lib.hid ((((Keep.refl (fun k => k = w.heap.size) w4).set (p := ⟨w.heap.size, 0, none⟩) (.inl rfl) (.string (strOfNums s))).set (p := ⟨w.heap.size, 1, none⟩) (.inl rfl) (.string (strOfNums t))).set (p := ⟨w.heap.size, 2, none⟩) (.inl rfl) (.int .i64 n))
          go_wp2
          refine bodyPost_ret (v := .agg #[.string (strOfNums s), .string (strOfNums t), .int .i64 n]) (by simp [results, Tryz.results159, go_sem, d0, d1, d2]) rfl (Out.good HX.out (K4.out.new KS.out (fun i hi e => by omega)) ⟨_, _, _, rfl, ?_⟩ (R4.out.other KS.out hr))
          exact (Gh.all_cons rfl).2 ⟨Gh.is_val.2 rfl, (Gh.all_cons rfl).2 ⟨Gh.is_val.2 rfl, (Gh.all_cons rfl).2 ⟨Gh.is_val.2 rfl, rfl⟩⟩⟩

set_option maxRecDepth 100000 in
theorem sig_any (c : Ctx w0 ao cap l) (r e p : Nat) (w : World) (h : Rr w0 ao cap l r e p w) :
    Calls Tryz.prog 157 #[.pointer (some ⟨r, 0, none⟩)] w (Out (· = r) w0 ao cap l r e w (VA2 gSig w.heap.size) (pSig l e p)) := by
  have hr := h.blk.lt
  have HC := Lib.hid c
  have R0 := Lib.hid h
  have hb := fun k => (c.bd k).1
  have hp := h.hp
  have hel := h.he
  have he0 : p < e → 0 < e := by omega
  have HR0 := Lib.hid (Row.new w #[.slice none 0 0, .slice none 0 0] 42)
  cases hx1 : pOne [96] [] l e p with
  | bad why a =>
    have HX := Lib.hid (show pSig l e p = .bad why a from P.bind_bad hx1)
    have HX1 := Lib.hid hx1
    clear h c hb hx1
    go_enter Tryz.func157, Tryz.ntmps157
    go_wp2_with fail
    refine (one1' HC.out r e p _ (R0.out.below (made1 w _)) _ (by simp [go_sem]) [96] #[.int .i64 96] rfl 1 rfl (by decide)).mono ?_
    rintro en w1 h1
    obtain ⟨k1, rfl⟩ := h1.bad_elim HX1.out
    exact ⟨rfl, Out.wrong HX.out ((Keep.of (made1 w _)).trans k1)⟩
  | ok z q1 =>
    cases hx2 : pList 8 pKind l e q1 with
    | bad why a =>
      have HX := Lib.hid (show pSig l e p = .bad why a from (P.bind_ok hx1).trans (P.bind_bad hx2))
      have HX1 := Lib.hid hx1
      have HX2 := Lib.hid hx2
      clear h c hb hx1 hx2
      go_enter Tryz.func157, Tryz.ntmps157
      go_wp2_with fail
      refine (one1' HC.out r e p _ (R0.out.below (made1 w _)) _ (by simp [go_sem]) [96] #[.int .i64 96] rfl 1 rfl (by decide)).mono ?_
      rintro en w1 h1
      obtain ⟨k1, v1, rfl, hv1, r1⟩ := h1.ok_elim HX1.out
      obtain rfl : v1 = .int .i64 z := hv1
      have R1 := Lib.hid r1
      have K1 := Lib.hid ((Keep.of (made1 w _)).trans k1)
      have HR1 := Lib.hid (HR0.out.keep k1 (by omega))
      have S1 : w.heap.size + 1 ≤ w1.heap.size := by have := HR1.out.lt; omega
      have KK1 := Lib.hid k1
      clear h1 r1 k1
      go_wp2_with fail
      refine (list_kinds HC.out r e q1 _ R1.out 8 (by decide) (fun q w' h' => kind_any HC.out r e q w' h')).mono ?_
      rintro en w2 h2
      obtain ⟨k2, rfl⟩ := h2.bad_elim HX2.out
      exact ⟨rfl, Out.wrong HX.out (K1.out.trans k2)⟩
    | ok is q2 =>
      cases hx3 : pList 8 pKind l e q2 with
      | bad why a =>
        have HX := Lib.hid (show pSig l e p = .bad why a from (P.bind_ok hx1).trans ((P.bind_ok hx2).trans (P.bind_bad hx3)))
        have HX1 := Lib.hid hx1
        have HX2 := Lib.hid hx2
        have HX3 := Lib.hid hx3
        clear h c hb hx1 hx2 hx3
        go_enter Tryz.func157, Tryz.ntmps157
        go_wp2_with fail
        refine (one1' HC.out r e p _ (R0.out.below (made1 w _)) _ (by simp [go_sem]) [96] #[.int .i64 96] rfl 1 rfl (by decide)).mono ?_
        rintro en w1 h1
        obtain ⟨k1, v1, rfl, hv1, r1⟩ := h1.ok_elim HX1.out
        obtain rfl : v1 = .int .i64 z := hv1
        have R1 := Lib.hid r1
        have K1 := Lib.hid ((Keep.of (made1 w _)).trans k1)
        have HR1 := Lib.hid (HR0.out.keep k1 (by omega))
        have S1 : w.heap.size + 1 ≤ w1.heap.size := by have := HR1.out.lt; omega
        have KK1 := Lib.hid k1
        clear h1 r1 k1
        go_wp2_with fail
        refine (list_kinds HC.out r e q1 _ R1.out 8 (by decide) (fun q w' h' => kind_any HC.out r e q w' h')).mono ?_
        rintro en w2 h2
        obtain ⟨k2, v2, rfl, hv2, r2⟩ := h2.ok_elim HX2.out
        obtain ⟨ao2, cap2, rfl⟩ := VR.slice hv2
        have V2 := Lib.hid hv2
        have R2 := Lib.hid r2
        have K2 := Lib.hid (K1.out.trans k2)
        have HR2 := Lib.hid (HR1.out.keep k2 (by omega))
        have S2 : w.heap.size + 1 ≤ w2.heap.size := by have := HR2.out.lt; omega
        have B2 := Lib.hid (show w.heap.size + 1 ≤ _ from S1)
        have KK2 := Lib.hid k2
        clear h2 r2 k2 hv2
        go_wp2_with fail
        refine (list_kinds HC.out r e q2 _ R2.out 8 (by decide) (fun q w' h' => kind_any HC.out r e q w' h')).mono ?_
        rintro en w3 h3
        obtain ⟨k3, rfl⟩ := h3.bad_elim HX3.out
        exact ⟨rfl, Out.wrong HX.out (K2.out.trans k3)⟩
      | ok os q3 =>
        have HX := Lib.hid (show pSig l e p = .ok ⟨is, os⟩ q3 from (P.bind_ok hx1).trans ((P.bind_ok hx2).trans ((P.bind_ok hx3).trans (rfl))))
        have HX1 := Lib.hid hx1
        have HX2 := Lib.hid hx2
        have HX3 := Lib.hid hx3
        clear h c hb hx1 hx2 hx3
        go_enter Tryz.func157, Tryz.ntmps157
        go_wp2_with fail
        refine (one1' HC.out r e p _ (R0.out.below (made1 w _)) _ (by simp [go_sem]) [96] #[.int .i64 96] rfl 1 rfl (by decide)).mono ?_
        rintro en w1 h1
        obtain ⟨k1, v1, rfl, hv1, r1⟩ := h1.ok_elim HX1.out
        obtain rfl : v1 = .int .i64 z := hv1
        have R1 := Lib.hid r1
        have K1 := Lib.hid ((Keep.of (made1 w _)).trans k1)
        have HR1 := Lib.hid (HR0.out.keep k1 (by omega))
        have S1 : w.heap.size + 1 ≤ w1.heap.size := by have := HR1.out.lt; omega
        have KK1 := Lib.hid k1
        clear h1 r1 k1
        go_wp2_with fail
        refine (list_kinds HC.out r e q1 _ R1.out 8 (by decide) (fun q w' h' => kind_any HC.out r e q w' h')).mono ?_
        rintro en w2 h2
        obtain ⟨k2, v2, rfl, hv2, r2⟩ := h2.ok_elim HX2.out
        obtain ⟨ao2, cap2, rfl⟩ := VR.slice hv2
        have V2 := Lib.hid hv2
        have R2 := Lib.hid r2
        have K2 := Lib.hid (K1.out.trans k2)
        have HR2 := Lib.hid (HR1.out.keep k2 (by omega))
        have S2 : w.heap.size + 1 ≤ w2.heap.size := by have := HR2.out.lt; omega
        have B2 := Lib.hid (show w.heap.size + 1 ≤ _ from S1)
        have KK2 := Lib.hid k2
        clear h2 r2 k2 hv2
        go_wp2_with fail
        refine (list_kinds HC.out r e q2 _ R2.out 8 (by decide) (fun q w' h' => kind_any HC.out r e q w' h')).mono ?_
        rintro en w3 h3
        obtain ⟨k3, v3, rfl, hv3, r3⟩ := h3.ok_elim HX3.out
        obtain ⟨ao3, cap3, rfl⟩ := VR.slice hv3
        have V3 := Lib.hid hv3
        have R3 := Lib.hid r3
        have K3 := Lib.hid (K2.out.trans k3)
        have HR3 := Lib.hid (HR2.out.keep k3 (by omega))
        have S3 : w.heap.size + 1 ≤ w3.heap.size := by have := HR3.out.lt; omega
        have B3 := Lib.hid (show w.heap.size + 1 ≤ _ from S2)
        have KK3 := Lib.hid k3
        clear h3 r3 k3 hv3
        obtain ⟨u0, d0⟩ := HR3.out.some (k := 0) (by simp)
        have z0 := HR3.out.fz 0
        obtain ⟨u1, d1⟩ := HR3.out.some (k := 1) (by simp)
        have z1 := HR3.out.fz 1
        have KS := Lib.hid (((Keep.refl (fun k => k = w.heap.size) w3).set (p := ⟨w.heap.size, 0, none⟩) (.inl rfl) (.slice ao2 is.length cap2)).set (p := ⟨w.heap.size, 1, none⟩) (.inl rfl) (.slice ao3 os.length cap3))
        go_wp2
        refine bodyPost_ret (v := .agg #[.slice ao2 is.length cap2, .slice ao3 os.length cap3]) (by simp [results, Tryz.results157, go_sem, d0, d1]) rfl (Out.good HX.out (K3.out.new KS.out (fun i hi e => by omega)) ⟨_, _, rfl, ?_⟩ (R3.out.other KS.out hr))
        exact (Gh.all_cons rfl).2 ⟨(Gh.is.keep ((Gh.is.keep (V2.out) (Nat.le_refl _) (Same.keep KK3.out (fun i h1 h2 e => by have := B2.out; omega)))) (by have := B2.out; omega) (Same.keep KS.out (fun i h1 h2 e => by have := B2.out; omega))), (Gh.all_cons rfl).2 ⟨(Gh.is.keep (V3.out) (by have := B3.out; omega) (Same.keep KS.out (fun i h1 h2 e => by have := B3.out; omega))), rfl⟩⟩
end
end Go.Proofs.YtgcmdnkmnghhaaaGreatDoor.wm
