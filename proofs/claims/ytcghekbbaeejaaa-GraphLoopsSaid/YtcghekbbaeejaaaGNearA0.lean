/- The program's nearest dominators: the struct that it makes first. -/
import Derived.Test.YtcghekbbaeejaaaGMeetA
import Derived.Deep.DeepCutAuto
set_option linter.unusedVariables false
set_option linter.unusedSimpArgs false
namespace Go.Proofs.Ytcghekbbaeejaaa.gr
open Go.RowKit Go.Proofs.Ytcghekbbaeejaaa.Gr

theorem bcell {W w1 : World} (hb : Below W.heap.size W w1) : (∀ b o, b < W.heap.size → w1.cell? ⟨b, o, none⟩ = W.cell? ⟨b, o, none⟩) ∧ (∀ b o, b < W.heap.size → w1.frozen? ⟨b, o, none⟩ = W.frozen? ⟨b, o, none⟩) :=
  ⟨fun b o h => hb.cell (p := ⟨b, o, none⟩) h, fun b o h => hb.frozen (p := ⟨b, o, none⟩) h⟩

theorem build_dom (a b : Option Addr) (n c m d : Nat) (w : World) : (Instr.build 65 #[(0, .slice a n c), (1, .slice b m d)]).run Try.prog w = .ok (.agg #[.slice a n c, .slice b m d]) w := run_build w _ _ _ (by kernel_rfl)
theorem new_cell (w : World) (x : Value) (T : TypeId) : (w.alloc (.cells #[x] T)).cell? ⟨w.heap.size, 0, none⟩ = some x := by
  rw [cell_of_row _ w.heap.size 0 _ T (0, 0) (heap_alloc_new w _)]; rfl

/-- what was made so far, of four things: a row of one number, Repeat's row, the row of places, the struct -/
structure NS (n : Nat) (w1 x : World) (p g m h : Option Nat) : Prop where
  below : Below w1.heap.size w1 x
  fp : ∀ b, p = some b → x.cell? ⟨b, 0, none⟩ = some (.int .i64 (-1))
  fg : ∀ b, g = some b → gi.Own x w1.heap.size (.slice (some ⟨b, 0, none⟩) n n) (List.replicate n (-1))
  fm : ∀ b, m = some b → w1.heap.size ≤ b ∧ x.heap[b]? = some (.cells (Array.replicate n (.int .i64 0)) 3 (0, 0))
  fh : ∀ b, h = some b → w1.heap.size ≤ b ∧ x.heap[b]? = some (.cells #[.slice none 0 0, .slice none 0 0] 65 (0, 0))
  gm : ∀ b c, g = some b → m = some c → b ≠ c
  gh : ∀ b c, g = some b → h = some c → b ≠ c
  mh : ∀ b c, m = some b → h = some c → b ≠ c
section
variable {n : Nat} {w1 x : World} {p g m h : Option Nat}
theorem NS.lift (H : NS n w1 x p g m h) {y : World} (hb : Below x.heap.size x y) : NS n w1 y p g m h := by
  have lt : ∀ {b : Nat} {o : Obj}, x.heap[b]? = some o → y.heap[b]? = some o := fun {b o} e => (hb.block b (Array.getElem?_eq_some_iff.1 e).1).trans e
  exact ⟨H.below.trans (hb.mono H.below.size), fun b e => by rw [hb.cell (p := ⟨b, 0, none⟩) (World.block_lt_of_cell? x _ (H.fp b e))]; exact H.fp b e, fun b e => (H.fg b e).lift hb, fun b e => ⟨(H.fm b e).1, lt (H.fm b e).2⟩, fun b e => ⟨(H.fh b e).1, lt (H.fh b e).2⟩, H.gm, H.gh, H.mh⟩
theorem NS.drew (H : NS n w1 x p g m h) : NS n w1 x.drew p g m h := H.lift (Below.refl _ _).drew
theorem NS.glt (H : NS n w1 x p g m h) {b : Nat} (e : g = some b) : b < x.heap.size := ((H.fg b e).lt b rfl).2
theorem NS.mlt (H : NS n w1 x p g m h) {b : Nat} (e : m = some b) : b < x.heap.size := (Array.getElem?_eq_some_iff.1 (H.fm b e).2).1
theorem NS.hlt (H : NS n w1 x p g m h) {b : Nat} (e : h = some b) : b < x.heap.size := (Array.getElem?_eq_some_iff.1 (H.fh b e).2).1
theorem NS.mkp (H : NS n w1 x none g m h) : NS n w1 (x.alloc (.cells #[.int .i64 (-1)] 3)) (some x.heap.size) g m h := by
  have K := H.lift (bnextA (Below.refl _ _) (.cells #[.int .i64 (-1)] 3))
  exact ⟨K.below, fun b e => by cases e; exact new_cell _ _ _, K.fg, K.fm, K.fh, K.gm, K.gh, K.mh⟩
theorem NS.mkm (H : NS n w1 x p g none h) : NS n w1 (x.alloc (.cells (Array.replicate n (.int .i64 0)) 3)) p g (some x.heap.size) h := by
  have K := H.lift (bnextA (Below.refl _ _) (.cells (Array.replicate n (.int .i64 0)) 3))
  exact ⟨K.below, K.fp, K.fg, fun b e => by cases e; exact ⟨H.below.size, heap_alloc_new x _⟩, K.fh, fun b c e1 e2 => by cases e2; have := H.glt e1; omega, K.gh, fun b c e1 e2 => by cases e1; have := H.hlt e2; omega⟩
theorem NS.mkh (H : NS n w1 x p g m none) : NS n w1 (x.alloc (.cells #[.slice none 0 0, .slice none 0 0] 65)) p g m (some x.heap.size) := by
  have K := H.lift (bnextA (Below.refl _ _) (.cells #[.slice none 0 0, .slice none 0 0] 65))
  exact ⟨K.below, K.fp, K.fg, K.fm, fun b e => by cases e; exact ⟨H.below.size, heap_alloc_new x _⟩, K.gm, fun b c e1 e2 => by cases e2; have := H.glt e1; omega, fun b c e1 e2 => by cases e2; have := H.mlt e1; omega⟩
theorem NS.rep {b : Nat} (H : NS n w1 x (some b) none m h) (hn : n ≤ 256) (h0 : 0 < n) :
    Calls Try.prog 35 #[.slice (some ⟨b, 0, none⟩) 1 1, .int .i64 (n : Int)] x fun e w' => ∃ g, e = .returned (.slice (some ⟨g, 0, none⟩) n n) ∧ NS n w1 w' (some b) (some g) m h := by
  refine (repeat_any (-1) b n x (H.fp b rfl) hn h0).mono ?_
  rintro e w' ⟨g, rfl, ho, hb⟩
  have K := H.lift hb
  have hg := (ho.lt g rfl).1
  exact ⟨g, rfl, K.below, K.fp, fun c e => by cases e; exact ho.mono H.below.size, K.fm, K.fh, fun c d e1 e2 => by cases e1; have := H.mlt e2; omega, fun c d e1 e2 => by cases e1; have := H.hlt e2; omega, K.mh⟩
theorem NS.hcells {b : Nat} (H : NS n w1 x p g m (some b)) : x.cell? ⟨b, 0, none⟩ = some (.slice none 0 0) ∧ x.cell? ⟨b, 1, none⟩ = some (.slice none 0 0) ∧ x.frozen? ⟨b, 0, none⟩ = false ∧ x.frozen? ⟨b, 1, none⟩ = false := by
  have e := (H.fh b rfl).2
  refine ⟨?_, ?_, ?_, ?_⟩ <;> simp [World.cell?, World.frozen?, e]
end
/-- the struct in its block, with its two rows -/
structure NF (n : Nat) (w1 x : World) (h gn gp : Nat) (N P : List Int) : Prop where
  box : x.heap[h]? = some (.cells #[.slice (some ⟨gn, 0, none⟩) n n, .slice (some ⟨gp, 0, none⟩) n n] 65 (0, 0))
  nr : gi.Own x w1.heap.size (.slice (some ⟨gn, 0, none⟩) n n) N
  pl : gi.Own x w1.heap.size (.slice (some ⟨gp, 0, none⟩) n n) P
  below : Below w1.heap.size w1 x
  hb : w1.heap.size ≤ h
  np : gn ≠ gp
  nh : gn ≠ h
  ph : gp ≠ h
theorem NS.fin {n : Nat} {w1 x : World} {p : Option Nat} {g m h : Nat} (H : NS n w1 x p (some g) (some m) (some h)) (hn : n ≤ 256) :
    NF n w1 ((x.setCell ⟨h, 0, none⟩ (.slice (some ⟨g, 0, none⟩) n n)).setCell ⟨h, 1, none⟩ (.slice (some ⟨m, 0, none⟩) n n)) h g m (List.replicate n (-1)) (List.replicate n 0) := by
  have s1 : x.grownBy (x.setCell ⟨h, 0, none⟩ (.slice (some ⟨g, 0, none⟩) n n)) (some h) := ⟨rfl, rfl, rfl, by simp, fun j _ hj => heap_setCell_other x ⟨h, 0, none⟩ j _ (fun e => hj (by simp [e]))⟩
  have s2 : (x.setCell ⟨h, 0, none⟩ (.slice (some ⟨g, 0, none⟩) n n)).grownBy ((x.setCell ⟨h, 0, none⟩ (.slice (some ⟨g, 0, none⟩) n n)).setCell ⟨h, 1, none⟩ (.slice (some ⟨m, 0, none⟩) n n)) (some h) := ⟨rfl, rfl, rfl, by simp, fun j _ hj => heap_setCell_other _ ⟨h, 1, none⟩ j _ (fun e => hj (by simp [e]))⟩
  have ss := grown_same s1 s2
  obtain ⟨hb, hh⟩ := H.fh h rfl
  obtain ⟨mb, mm⟩ := H.fm m rfl
  have e1 := heap_setCell_same x h 0 _ _ (.slice (some ⟨g, 0, none⟩) n n) hh
  have e2 := heap_setCell_same _ h 1 _ _ (.slice (some ⟨m, 0, none⟩) n n) e1
  have om : gi.Own x w1.heap.size (.slice (some ⟨m, 0, none⟩) n n) (List.replicate n 0) := by
    have := ow_new (w := x) (B := w1.heap.size) (g := m) (cap := n) (T := 3) (cs := Array.replicate n (.int .i64 0)) mb mm (by simp) (by unfold maxLen; omega)
    rw [gi_ow]; simpa using this
  have nh := H.gh g h rfl rfl
  have mh := H.mh m h rfl rfl
  refine ⟨by rw [e2]; rfl, own_kept (H.fg g rfl) ss (.inr fun e => nh (Option.some.inj e)), own_kept om ss (.inr fun e => mh (Option.some.inj e)), below_grown H.below ss H.below.size (fun j hj => by have hj : h = j := Option.some.inj hj; omega), hb, H.gm g m rfl rfl, nh, mh⟩

end Go.Proofs.Ytcghekbbaeejaaa.gr
