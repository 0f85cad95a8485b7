/- Put together by program: WFoot WEnc LbPut LbPutW WWr WSecW WSecX WSame. -/
import Derived.Test.YtgcmdnkmnghhaaaGreatDoorZ6
import Derived.Deep.AppendLies
import Derived.Test.YtgcmdnkmnghhaaaGreatDoorZ2
import Derived.Test.YtgcmdnkmnghhaaaGreatDoorZ1
import Derived.Deep.RegionLaw
import Derived.Maps.AppendAt
import Derived.Deep.RegionLawGrows
import Derived.ArgAppend
/- Rows of operators that a call makes by appending: what is in them lies elsewhere. -/
set_option linter.unusedVariables false
set_option linter.unusedSimpArgs false
namespace Go.Proofs.YtgcmdnkmnghhaaaGreatDoor.wm
open Go.RowKit Go.Proofs.YtgcmdnkmnghhaaaGreatDoor.lb

mutual
/-- these cells hold it, in blocks that A allows -/
def Gh.lies (A : Nat → Prop) (w : World) : Gh → List Value → Prop
  | .val v, cs => cs = [v]
  | .row n es, cs => ∃ ao cap, cs = [.slice ao es.length cap] ∧ es.length ≤ cap ∧ (ao = none → cap = 0) ∧ (es = [] ∨ ∃ b off, ao = some ⟨b, off, none⟩ ∧ A b ∧ Gh.liesRows A w b n off es)
  | .agg ps, cs => Gh.liesAll A w ps cs
def Gh.liesAll (A : Nat → Prop) (w : World) : List Gh → List Value → Prop
  | [], cs => cs = []
  | p :: ps, cs => ∃ c1 c2, cs = c1 ++ c2 ∧ p.lies A w c1 ∧ Gh.liesAll A w ps c2
def Gh.liesRows (A : Nat → Prop) (w : World) (b n : Nat) : Nat → List Gh → Prop
  | _, [] => True
  | off, e :: es => (∃ cs, cs.length = n ∧ (∀ j v, cs[j]? = some v → w.cell? ⟨b, off + j, none⟩ = some v) ∧ e.lies A w cs) ∧ Gh.liesRows A w b n (off + n) es
end
mutual
theorem Gh.lies_of {B : Nat} {w : World} : ∀ (g : Gh) (cs : List Value), g.holds B w cs → g.lies (fun b => B ≤ b) w cs
  | .val v, cs, k => k
  | .row n es, cs, k => by
    obtain ⟨ao, cap, h1, h2, h3, h4⟩ := k
    exact ⟨ao, cap, h1, h2, h3, h4.imp id fun ⟨b, off, e, hb, hr⟩ => ⟨b, off, e, hb, Gh.liesRows_of es b n off hr⟩⟩
  | .agg ps, cs, k => Gh.liesAll_of ps cs k
theorem Gh.liesAll_of {B : Nat} {w : World} : ∀ (ps : List Gh) (cs : List Value), Gh.all B w ps cs → Gh.liesAll (fun b => B ≤ b) w ps cs
  | [], cs, k => k
  | p :: ps, cs, k => by
    obtain ⟨c1, c2, e, k1, k2⟩ := k
    exact ⟨c1, c2, e, Gh.lies_of p c1 k1, Gh.liesAll_of ps c2 k2⟩
theorem Gh.liesRows_of {B : Nat} {w : World} : ∀ (es : List Gh) (b n off : Nat), Gh.rows B w b n off es → Gh.liesRows (fun b => B ≤ b) w b n off es
  | [], b, n, off, k => trivial
  | e :: es, b, n, off, k => by
    obtain ⟨⟨cs, k1, k2, k3⟩, k4⟩ := k
    exact ⟨⟨cs, k1, k2, Gh.lies_of e cs k3⟩, Gh.liesRows_of es b n (off + n) k4⟩
end
mutual
theorem Gh.lies_to {B : Nat} {w : World} {A : Nat → Prop} (hA : ∀ b, A b → B ≤ b) : ∀ (g : Gh) (cs : List Value), g.lies A w cs → g.holds B w cs
  | .val v, cs, k => k
  | .row n es, cs, k => by
    obtain ⟨ao, cap, h1, h2, h3, h4⟩ := k
    exact ⟨ao, cap, h1, h2, h3, h4.imp id fun ⟨b, off, e, hb, hr⟩ => ⟨b, off, e, hA b hb, Gh.liesRows_to hA es b n off hr⟩⟩
  | .agg ps, cs, k => Gh.liesAll_to hA ps cs k
theorem Gh.liesAll_to {B : Nat} {w : World} {A : Nat → Prop} (hA : ∀ b, A b → B ≤ b) : ∀ (ps : List Gh) (cs : List Value), Gh.liesAll A w ps cs → Gh.all B w ps cs
  | [], cs, k => k
  | p :: ps, cs, k => by
    obtain ⟨c1, c2, e, k1, k2⟩ := k
    exact ⟨c1, c2, e, Gh.lies_to hA p c1 k1, Gh.liesAll_to hA ps c2 k2⟩
theorem Gh.liesRows_to {B : Nat} {w : World} {A : Nat → Prop} (hA : ∀ b, A b → B ≤ b) : ∀ (es : List Gh) (b n off : Nat), Gh.liesRows A w b n off es → Gh.rows B w b n off es
  | [], b, n, off, k => trivial
  | e :: es, b, n, off, k => by
    obtain ⟨⟨cs, k1, k2, k3⟩, k4⟩ := k
    exact ⟨⟨cs, k1, k2, Gh.lies_to hA e cs k3⟩, Gh.liesRows_to hA es b n (off + n) k4⟩
end
mutual
/-- what lies in blocks that do not turn goes on lying there -/
theorem Gh.lies_keep {A A' : Nat → Prop} {w w' : World} (h : ∀ b, A b → A' b ∧ w'.heap[b]? = w.heap[b]?) : ∀ (g : Gh) (cs : List Value), g.lies A w cs → g.lies A' w' cs
  | .val v, cs, k => k
  | .row n es, cs, k => by
    obtain ⟨ao, cap, h1, h2, h3, h4⟩ := k
    exact ⟨ao, cap, h1, h2, h3, h4.imp id fun ⟨b, off, e, hb, hr⟩ => ⟨b, off, e, (h b hb).1, Gh.liesRows_keep h es b n off (h b hb).2 hr⟩⟩
  | .agg ps, cs, k => Gh.liesAll_keep h ps cs k
theorem Gh.liesAll_keep {A A' : Nat → Prop} {w w' : World} (h : ∀ b, A b → A' b ∧ w'.heap[b]? = w.heap[b]?) : ∀ (ps : List Gh) (cs : List Value), Gh.liesAll A w ps cs → Gh.liesAll A' w' ps cs
  | [], cs, k => k
  | p :: ps, cs, k => by
    obtain ⟨c1, c2, e, k1, k2⟩ := k
    exact ⟨c1, c2, e, Gh.lies_keep h p c1 k1, Gh.liesAll_keep h ps c2 k2⟩
theorem Gh.liesRows_keep {A A' : Nat → Prop} {w w' : World} (h : ∀ b, A b → A' b ∧ w'.heap[b]? = w.heap[b]?) : ∀ (es : List Gh) (b n off : Nat), w'.heap[b]? = w.heap[b]? → Gh.liesRows A w b n off es → Gh.liesRows A' w' b n off es
  | [], b, n, off, _, k => trivial
  | e :: es, b, n, off, hb, k => by
    obtain ⟨⟨cs, k1, k2, k3⟩, k4⟩ := k
    exact ⟨⟨cs, k1, fun j v hj => by rw [World.cell?_of_block (w := w) hb]; exact k2 j v hj, Gh.lies_keep h e cs k3⟩, Gh.liesRows_keep h es b n (off + n) hb k4⟩
end
mutual
/-- no row of no cells -/
def Gh.wf : Gh → Prop
  | .val _ => True
  | .row n es => 0 < n ∧ Gh.wfs es
  | .agg ps => Gh.wfs ps
def Gh.wfs : List Gh → Prop
  | [] => True
  | p :: ps => p.wf ∧ Gh.wfs ps
end
mutual
theorem Gh.lies_lt {A : Nat → Prop} {w : World} : ∀ (g : Gh) (cs : List Value), g.wf → g.lies A w cs → g.lies (fun b => A b ∧ b < w.heap.size) w cs
  | .val v, cs, _, k => k
  | .row n es, cs, hw, k => by
    obtain ⟨ao, cap, h1, h2, h3, h4⟩ := k
    refine ⟨ao, cap, h1, h2, h3, ?_⟩
    rcases h4 with h4 | ⟨b, off, e, hb, hr⟩
    · exact .inl h4
    · match es, hw, hr with
      | [], _, _ => exact .inl rfl
      | x :: es, hw, hr =>
        have hlt : b < w.heap.size := by
          obtain ⟨⟨cs', k1, k2, _⟩, _⟩ := hr
          have hl : 0 < cs'.length := by rw [k1]; exact hw.1
          exact World.block_lt_of_cell? w _ (k2 0 cs'[0] (List.getElem?_eq_getElem hl))
        exact .inr ⟨b, off, e, ⟨hb, hlt⟩, Gh.liesRows_lt (x :: es) b n off hw.2 hr⟩
  | .agg ps, cs, hw, k => Gh.liesAll_lt ps cs hw k
theorem Gh.liesAll_lt {A : Nat → Prop} {w : World} : ∀ (ps : List Gh) (cs : List Value), Gh.wfs ps → Gh.liesAll A w ps cs → Gh.liesAll (fun b => A b ∧ b < w.heap.size) w ps cs
  | [], cs, _, k => k
  | p :: ps, cs, hw, k => by
    obtain ⟨c1, c2, e, k1, k2⟩ := k
    exact ⟨c1, c2, e, Gh.lies_lt p c1 hw.1 k1, Gh.liesAll_lt ps c2 hw.2 k2⟩
theorem Gh.liesRows_lt {A : Nat → Prop} {w : World} : ∀ (es : List Gh) (b n off : Nat), Gh.wfs es → Gh.liesRows A w b n off es → Gh.liesRows (fun b => A b ∧ b < w.heap.size) w b n off es
  | [], b, n, off, _, k => trivial
  | e :: es, b, n, off, hw, k => by
    obtain ⟨⟨cs, k1, k2, k3⟩, k4⟩ := k
    exact ⟨⟨cs, k1, k2, Gh.lies_lt e cs hw.1 k3⟩, Gh.liesRows_lt es b n (off + n) hw.2 k4⟩
end
theorem wfs_map {α : Type} {f : α → Gh} (h : ∀ a, (f a).wf) : ∀ l : List α, Gh.wfs (l.map f)
  | [] => trivial
  | a :: l => ⟨h a, wfs_map h l⟩
theorem wf_ints (l : List Int) : (gIs l).wf := ⟨by decide, wfs_map (f := gI) (fun _ => trivial) l⟩
theorem wf_sig (s : GSig) : (gSig s).wf := ⟨wf_ints _, wf_ints _, trivial⟩
mutual
theorem wf_instr : ∀ i : GInstr, (gInstr i).wf
  | .mk op n m t b e h ts => by
    rw [gInstr]
    exact ⟨trivial, trivial, trivial, wf_sig t, ⟨by decide, wf_instrs b⟩, ⟨by decide, wf_instrs e⟩, trivial, wf_ints ts, trivial⟩
theorem wf_instrs : ∀ l : List GInstr, Gh.wfs (gInstrs l)
  | [] => by rw [gInstrs]; trivial
  | i :: is => by rw [gInstrs]; exact ⟨wf_instr i, wf_instrs is⟩
end

/-- the cells of operators, one behind the other -/
def AllI (A : Nat → Prop) (w : World) : List GInstr → List Value → Prop
  | [], xs => xs = []
  | a :: rs, xs => ∃ cs ys, cs.length = 9 ∧ xs = cs ++ ys ∧ (gInstr a).lies A w cs ∧ AllI A w rs ys
theorem AllI.keep {A A' : Nat → Prop} {w w' : World} (h : ∀ b, A b → A' b ∧ w'.heap[b]? = w.heap[b]?) : ∀ {acc : List GInstr} {xs : List Value}, AllI A w acc xs → AllI A' w' acc xs
  | [], xs, k => k
  | a :: rs, xs, ⟨cs, ys, h1, h2, h3, h4⟩ => ⟨cs, ys, h1, h2, Gh.lies_keep h _ _ h3, AllI.keep h h4⟩
theorem AllI.snoc {A : Nat → Prop} {w : World} {a : GInstr} {cs : List Value} (hl : cs.length = 9) (hc : (gInstr a).lies A w cs) : ∀ {acc : List GInstr} {xs : List Value}, AllI A w acc xs → AllI A w (acc ++ [a]) (xs ++ cs)
  | [], xs, k => by
    have k : xs = [] := k
    subst k
    exact ⟨cs, [], hl, by simp, hc, rfl⟩
  | b :: rs, xs, ⟨ds, ys, h1, h2, h3, h4⟩ => ⟨ds, ys ++ cs, h1, by rw [h2, List.append_assoc], h3, AllI.snoc hl hc h4⟩
theorem AllI.rows {A : Nat → Prop} {w : World} {g : Nat} : ∀ {acc : List GInstr} {xs : List Value} (off : Nat), AllI A w acc xs → (∀ j u, xs[j]? = some u → w.cell? ⟨g, off + j, none⟩ = some u) → Gh.liesRows A w g 9 off (acc.map gInstr)
  | [], xs, off, _, _ => trivial
  | a :: rs, xs, off, ⟨cs, ys, h1, h2, h3, h4⟩, hc => by
    subst h2
    refine ⟨⟨cs, h1, fun j v hj => hc j v (by rw [List.getElem?_append_left (List.getElem?_eq_some_iff.1 hj).1]; exact hj), h3⟩, AllI.rows (off + 9) h4 fun j u hj => ?_⟩
    have := hc (9 + j) u (by rw [List.getElem?_append_right (by omega), h1, Nat.add_sub_cancel_left]; exact hj)
    rw [show off + 9 + j = off + (9 + j) by omega]; exact this

/-- a row of operators of the call's own -/
structure OwnI (w : World) (B : Nat) (v : Value) (acc : List GInstr) (xs : List Value) : Prop where
  own : w.ownsRow B 61 9 v acc.length xs
  all : AllI (fun b => B ≤ b ∧ b < w.heap.size ∧ v.ownBlock ≠ some b) w acc xs
theorem OwnI.nil (w : World) (B : Nat) : OwnI w B (.slice none 0 0) [] [] := ⟨World.ownsRow_nil w B _ _, rfl⟩
theorem OwnI.vr {w : World} {B : Nat} {v : Value} {acc : List GInstr} {xs : List Value} (h : OwnI w B v acc xs) : VR 9 gInstr B w v acc := by
  have hc := fun (g : Nat) hg => World.ownsRow.cells h.own (g := g) hg
  rcases h.own.2 with ⟨rfl, hn⟩ | ⟨g, cap, cur, rfl, hb, hg, hn, hm, hs, ht⟩
  · have : acc = [] := List.eq_nil_of_length_eq_zero hn
    subst this
    exact VR.nil 9 gInstr B w
  · refine ⟨some ⟨g, 0, none⟩, cap, by simp, by simpa using hn, (fun h => by cases h), .inr ⟨g, 0, rfl, hb, ?_⟩⟩
    have := h.all.rows (g := g) 0 (fun j u hj => by have := hc g rfl j u hj; rwa [add_lit] at this)
    exact Gh.liesRows_to (fun b hb => hb.1) _ g 9 0 this
theorem OwnI.keep {S : Nat → Prop} {w w' : World} {B : Nat} {v : Value} {acc : List GInstr} {xs : List Value} (h : OwnI w B v acc xs) (k : Keep S w w') (hs : ∀ i, B ≤ i → i < w.heap.size → ¬ S i) : OwnI w' B v acc xs := by
  refine ⟨?_, h.all.keep fun b hb => ⟨⟨hb.1, Nat.lt_of_lt_of_le hb.2.1 k.size, hb.2.2⟩, k.block b hb.2.1 (hs b hb.1 hb.2.1)⟩⟩
  obtain ⟨h1, h2⟩ := h.own
  refine ⟨h1, ?_⟩
  rcases h2 with h2 | ⟨g, cap, cur, rfl, hb, hg, h3⟩
  · exact .inl h2
  · have hl : g < w.heap.size := (Array.getElem?_eq_some_iff.1 hg).1
    exact .inr ⟨g, cap, cur, rfl, hb, (k.block g hl (hs g hb hl)).trans hg, h3⟩
theorem OwnI.lt {w : World} {B : Nat} {v : Value} {acc : List GInstr} {xs : List Value} (h : OwnI w B v acc xs) {g : Nat} (hg : v.ownBlock = some g) : B ≤ g ∧ g < w.heap.size := World.ownsRow.lt h.own g hg

theorem infoInstr : (Tryz.prog.info? 61).map (fun i => (i.zero, i.size, i.bytes)) = some (some (.agg #[.int .i64 0, .int .u64 0, .int .u64 0, .slice none 0 0, .slice none 0 0, .slice none 0 0, .slice none 0 0, .bool false, .slice none 0 0]), 9, 152) := by kernel_rfl

section
variable {ops : Array Oper} {rest : List Oper} {o : Oper} {a : Act} {Q : Exit → Act → World → Prop} {w : World} {B : Nat} {acc : List GInstr} {xs : List Value}
/-- one operator more -/
theorem wpList_append_instr (s x : Operand) (hgd : o.guard = none) (ho : o.op = .call { callee := .builtin .append, args := #[s, x], argTypes := #[50, 50] })
    {v : Value} (hs : a.eval s = v) (hown : OwnI w B v acc xs) (cs : List Value) (i : GInstr) (hcs : cs.length = 9) (h1 : ∀ u ∈ cs, u.oneCell' = true) (hl : (gInstr i).lies (fun b => B ≤ b ∧ b < w.heap.size ∧ v.ownBlock ≠ some b) w cs)
    (hx : a.eval x = .slice (some ⟨w.heap.size, 0, none⟩) 1 1) (hn : acc.length + 1 ≤ 100000) (hB : B ≤ w.heap.size)
    (h : ∀ g c w', OwnI w' B (.slice (some ⟨g, 0, none⟩) (acc.length + 1) c) (acc ++ [i]) (xs ++ cs) → Below B w w' → wpList Tryz.prog ops Q rest (a.put o.dst (.slice (some ⟨g, 0, none⟩) (acc.length + 1) c)) w') :
    wpList Tryz.prog ops Q (o :: rest) a (w.alloc (.cells cs.toArray 61)) := by
  obtain ⟨i0, hi, hz0, hz1, hz2⟩ := info_parts infoInstr
  have hk := hown.keep (S := fun _ => False) (.of (made1 w (.cells cs.toArray 61))) (fun _ _ _ h => h)
  refine wpList_append_lies (P := Tryz.prog) _ hgd s x 50 ho B 61 i0 _ 9 152 Tryz.underlying50 hi hz0 hz1 hz2 rfl (by decide) v acc.length xs hs hk.own ⟨w.heap.size, 0, none⟩ 1 1 cs hx hcs ?_ h1 (by decide) (by unfold maxLen; omega) (by omega) (by simp; omega) _ rfl ?_
  · intro j u hj
    rw [add_lit, cell_of_row _ w.heap.size (0 + j) _ 61 (0, 0) (heap_alloc_new w _), List.getElem?_toArray, Nat.zero_add]; exact hj
  · intro g c w' hown' hgrow hat hlt
    have hsz : (w.alloc (.cells cs.toArray 61)).heap.size = w.heap.size + 1 := by simp [go_sem]
    have hb : Below B w w' := ((Below.refl B w).alloc hB _).grown hgrow (by rw [hsz]; omega) (fun k hk => (hown.lt hk).1)
    refine h g c w' ⟨by rw [List.length_append]; exact hown', ?_⟩ hb
    have hkeep : ∀ b, (B ≤ b ∧ b < w.heap.size ∧ v.ownBlock ≠ some b) → (B ≤ b ∧ b < w'.heap.size ∧ (Value.slice (some ⟨g, 0, none⟩) (acc.length + 1) c).ownBlock ≠ some b) ∧ w'.heap[b]? = w.heap[b]? := by
      intro b ⟨b1, b2, b3⟩
      refine ⟨⟨b1, by have := hb.size; omega, ?_⟩, ?_⟩
      · show ¬ some g = some b
        intro e
        obtain rfl := Option.some.inj e
        rcases hat with hat | hat
        · exact b3 hat
        · rw [hsz] at hat; omega
      · rw [hgrow.block b (by rw [hsz]; omega) (fun e => b3 e.symm)]
        exact Below.heap_alloc _ _ _ b2
    exact (hown.all.keep hkeep).snoc hcs (Gh.lies_keep hkeep _ _ hl)
end
end Go.Proofs.YtgcmdnkmnghhaaaGreatDoor.wm

/- What a module is written as: writers in plain Lean. -/
namespace Go.Proofs.YtgcmdnkmnghhaaaGreatDoor.wm
open Go.Proofs.YtgcmdnkmnghhaaaGreatDoor.lb

/-- bytes put behind others, if those are not too many already -/
def putL (xs ys : List Int) : List Int := if 16384 < xs.length then xs else xs ++ ys
def unsL (xs : List Int) (n : Int) : List Int := putL xs (encU n)
def uL (xs : List Int) (n : Int) : List Int := unsL xs (n % 18446744073709551616)
def sL (xs : List Int) (n : Int) : List Int := putL xs (encS n)
def kindL (xs : List Int) (t : Int) : List Int := putL xs [t % 256]
def nameL (xs s : List Int) : List Int := putL (uL xs s.length) s
def partL (xs ys : List Int) : List Int := putL (uL xs ys.length) ys
def countedL {α : Type} (one : List Int → α → List Int) (xs : List Int) (l : List α) : List Int := l.foldl one (uL xs l.length)
def sectionL {α : Type} (one : List Int → α → List Int) (sec : Int) (l : List α) (xs : List Int) : List Int := if l.length = 0 then xs else partL (putL xs [sec]) (countedL one [] l)
def const32L (xs : List Int) (n : Int) : List Int := sL (putL xs [65]) (Int.bmod n 4294967296)
def const64L (xs : List Int) (n : Int) : List Int := sL (putL xs [66]) (Int.bmod n 18446744073709551616)
def sigL (xs : List Int) (s : GSig) : List Int := countedL kindL (countedL kindL (putL xs [96]) s.ins) s.outs
def importL (xs : List Int) (i : GImport) : List Int := uL (putL (nameL (nameL xs i.mod) i.name) [0]) i.type
def declaredL (xs : List Int) (f : GFunc) : List Int := uL xs f.type
def memoryL (xs : List Int) (m : GMod) : List Int := uL (uL (putL xs [1]) m.pages) m.most
def globalL (xs : List Int) (g : GGlobal) : List Int :=
  let ys := putL (kindL xs g.type) [if g.mut' then 1 else 0]
  putL (if g.type = 127 then const32L ys g.n else const64L ys g.n) [11]
def exportL (xs : List Int) (x : GExport) : List Int := uL (putL (nameL xs x.name) [x.kind % 256]) x.n
def dataL (xs : List Int) (d : GData) : List Int := putL (uL (putL (const32L (uL xs 0) (d.at' % 18446744073709551616)) [11]) d.bytes.length) d.bytes
def rowL (xs : List Int) (k : Int) : List Int := kindL (uL xs 1) k
/-- the first of the types that is it, or -1 -/
def idxSig : List GSig → GSig → Int → Int
  | [], _, _ => -1
  | t :: ts, s, i => if t = s then i else idxSig ts s (i + 1)
def blockTypeL (types : List GSig) (xs : List Int) (s : GSig) : List Int :=
  if s.ins.length = 0 ∧ s.outs.length = 0 then putL xs [64]
  else if s.ins.length = 0 ∧ s.outs.length = 1 then kindL xs (s.outs.getD 0 0)
  else sL xs (idxSig types s 0)
def isU (op : Int) : Bool := op == 12 || op == 13 || op == 16 || op == 32 || op == 33 || op == 34 || op == 35 || op == 36
def tailL (xs : List Int) (op n m : Int) : List Int := match accW op with
  | some _ => unsL (unsL xs m) n
  | none => xs
mutual
def instrL (types : List GSig) : List Int → GInstr → List Int
  | xs, .mk op n m t b e h ts =>
    let ys := putL xs [op % 256]
    tailL (if isBlock op then
      let zs := runL types (blockTypeL types ys t) b
      putL (if h then runL types (putL zs [5]) e else zs) [11]
    else if isU op then unsL ys n
    else if op = 14 then ts.foldl uL (uL ys ((ts.length : Int) - 1))
    else if op = 63 ∨ op = 64 then putL ys [0]
    else if op = 65 then sL ys (Int.bmod n 4294967296)
    else if op = 66 then sL ys (Int.bmod n 18446744073709551616)
    else ys) op n m
def runL (types : List GSig) : List Int → List GInstr → List Int
  | xs, [] => xs
  | xs, i :: is => runL types (instrL types xs i) is
end
def bodyL (types : List GSig) (xs : List Int) (f : GFunc) : List Int := partL xs (putL (runL types (countedL rowL [] f.locals) f.body) [11])

def writeL (m : GMod) : List Int :=
  let a := sectionL declaredL 3 m.funcs (sectionL importL 2 m.imports (sectionL sigL 1 m.types magicL))
  let b := if 0 ≤ m.pages then sectionL memoryL 5 [m] a else a
  let c := sectionL exportL 7 m.exports (sectionL globalL 6 m.globals b)
  let d := if 0 ≤ m.start then partL (putL c [8]) (uL [] m.start) else c
  sectionL dataL 11 m.datas (sectionL (bodyL m.types) 10 m.funcs d)

/-- the module of one type -/
def modA : GMod := { mod0 with types := [⟨[127], []⟩] }
def bytesA : List Int := [0, 97, 115, 109, 1, 0, 0, 0, 1, 5, 1, 96, 1, 127, 0]
theorem writeA : writeL modA = bytesA := by decide +kernel
theorem putL_len (xs ys : List Int) : (putL xs ys).length ≤ max xs.length (16384 + ys.length) := by
  unfold putL; split
  · omega
  · rw [List.length_append]; omega
end Go.Proofs.YtgcmdnkmnghhaaaGreatDoor.wm

/- The contracts of leb.put: bytes that came in, and a number's groups behind them, in memory of the call's own. -/
namespace Go.Proofs.YtgcmdnkmnghhaaaGreatDoor.lb
open Go.RowKit

/-- the facts for the make and the copy, ahead of the walk -/
theorem put_facts {w : World} {v : Value} {l : List Int} (hv : Rd w v l) (hl : l.length ≤ 140737488355000) (r : Nat) (ri : Int) (hri : ri = r) (hr : r ≤ 100) :
    ∃ ao cap, ∃ zs cs : List Value, v = .slice ao l.length cap ∧ cs = l.map (.int .u8) ∧ zs.length = l.length + r ∧
      (∀ u : World, (Instr.makeSlice 22 (.int .i64 (l.length : Int)) (.int .i64 ((l.length : Int) + ri))).run Tryz.prog u =
        .ok (.slice (some ⟨u.heap.size, 0, none⟩) l.length (l.length + r)) (u.alloc (.cells zs.toArray 5))) ∧
      (0 < cs.length → (some ⟨w.heap.size, 0, none⟩ : Option Addr) = some ⟨w.heap.size, 0, none⟩ ∧ ∃ ad, ao = some ad ∧ ∀ j v, cs[j]? = some v → (w.alloc (.cells zs.toArray 5)).cell? (ad.add j) = some v) ∧
      (∀ u ∈ cs, u.oneCell' = true) ∧ cs.length = Nat.min l.length l.length ∧ 0 + cs.length ≤ zs.length := by
  subst hri
  obtain ⟨i0, hi, hz0, hz1, hz2⟩ := info_parts info5
  obtain ⟨ao, cap, rfl, hcap, _, hcells⟩ := hv
  obtain ⟨zs, hzs⟩ : ∃ zs : List Value, madeCells #[.int .u8 0] (l.length + r) = zs.toArray := ⟨(madeCells #[.int .u8 0] (l.length + r)).toList, by simp⟩
  have hzl : zs.length = l.length + r := by
    have := congrArg Array.size hzs
    rw [size_madeCells] at this
    simpa using this.symm
  have hcl : (l.map (Value.int .u8)).length = l.length := List.length_map _
  refine ⟨ao, cap, zs, _, rfl, rfl, hzl, fun u => ?_, fun hp => ⟨rfl, ?_⟩, ints_oneCell _ _, by rw [hcl]; exact (Nat.min_self _).symm, by rw [hcl, hzl]; omega⟩
  · have h := run_make (P := Tryz.prog) u 22 5 i0 (.int .u8 0) Tryz.underlying22 hi hz0 .i64 .i64 (l.length : Int) ((l.length : Int) + r) (by omega) (by omega) (by rw [hz2]; omega) (by omega)
    have e : ((l.length : Int) + r).toNat = l.length + r := by omega
    rw [e] at h
    rw [← hzs]
    simpa [hz1, Value.cells] using h
  · rw [hcl] at hp
    rcases hcells with h | ⟨b, off, rfl, hc⟩
    · subst h; simp at hp
    · refine ⟨_, rfl, fun j u hu => ?_⟩
      obtain ⟨hj, rfl⟩ := map_get hu
      rw [add_lit, World.cell?_alloc_past _ _ _ (World.block_lt_of_cell? w _ (hc j hj))]
      exact hc j hj

set_option maxHeartbeats 1000000 in
theorem putU_any (v : Value) (l : List Int) (n : Int) (w : World) (hv : Rd w v l) (hl : l.length ≤ 140737488355000) (h0 : 0 ≤ n) (h1 : n < 18446744073709551616) :
    Calls Tryz.prog 215 #[v, .int .u64 n] w fun e w' => ∃ v', e = .returned v' ∧ Own w' w.heap.size v' (l ++ encU n) ∧ Below w.heap.size w w' := by
  obtain ⟨ao, cap, zs, cs, rfl, hcs, hzl, hmk, hpos, hone, hmin, hfit⟩ := put_facts hv hl 10 10 rfl (by omega)
  have Hcs := Lib.hid hcs
  have Hzl := Lib.hid hzl
  have Hpos := Lib.hid hpos
  have Hone := Lib.hid hone
  have Hmin := Lib.hid hmin
  have Hfit := Lib.hid hfit
  clear hcs hzl hpos hone hmin hfit hv
  go_enter Tryz.func215, Tryz.ntmps215
  go_wp2_with (with_reducible refine wpList_copy_splice rfl (.tmp 12) (.tmp 13) 22 22 rfl 5 Tryz.underlying22 size5 (some ⟨w.heap.size, 0, none⟩) ao l.length (l.length + 10) l.length cap rfl rfl w.heap.size 0 zs 5 (heap_alloc_new w _) cs Hmin.out Hpos.out Hfit.out Hone.out w.heap.size w ((Below.refl _ _).alloc (Nat.le_refl _) _) (Nat.le_refl _) ?_)
  intro w2 HG hB2
  have hown : Own w2 w.heap.size (.slice (some ⟨w.heap.size, 0, none⟩) l.length (l.length + 10)) l := own_copied (Nat.le_refl _) rfl Hzl.out (by unfold maxLen; omega) (by rw [← Hcs.out]; exact HG.out)
  clear HG Hpos Hone Hmin Hfit
  go_wp2
  go_loopw [1, 5] (fun i v wr => ∃ (pre : List Int) (m : Int), 0 ≤ m ∧ m < 18446744073709551616 ∧ i = .int .u64 m ∧ Hid (encU n = pre ++ encU m) ∧ Own wr w.heap.size v (l ++ pre) ∧ Below w.heap.size w wr)
    (fun i _ _ => (intOf i).toNat)
  case atStart => exact ⟨[], n, h0, h1, rfl, rfl, by rw [List.append_nil]; exact hown, hB2⟩
  case round =>
    obtain ⟨pre, m, hm0, hm1, rfl, He, Ho, hBr⟩ := hrel
    have hlen : (l ++ pre).length + 1 ≤ 140737488355328 := by
      have := encU_len h0 h1; rw [He.out, List.length_append] at this; have := encU_pos m; rw [List.length_append]; omega
    have Hbase := hBr.size
    by_cases hc : m < 128
    · have hne : ((m % 128 : Int) != m) = false := by rw [bne_eq_false_iff_eq]; omega
      have hb := b8_and127 m hm0 (by omega)
      have He' : Hid (l ++ pre ++ [m % 128] = l ++ encU n) := by show _ = _; rw [He.out, encU_lt hc, List.append_assoc, Int.emod_eq_of_lt hm0 hc]
      go_wp2_with (first
        | (go_at_call 231; refine (lowU_any _ _ _ (by omega) (by omega)).mono ?_; rintro e w' ⟨rfl, rfl⟩)
        | (at_builtin; refine wpList_append_byte (.tmp 27) (.tmp 31) rfl rfl rfl Ho (m % 128) rfl hlen Hbase hBr ?_; intro v' w1 Ho1 hB1))
      go_ret
      exact ⟨_, rfl, by rw [← He'.out]; exact Ho1, hB1⟩
    · have hne : ((m % 128 : Int) != m) = true := by rw [bne_iff_ne]; omega
      have hb : bits .or .u8 (m % 256) 128 = m % 128 + 128 := by rw [b8_or128 _ (by omega) (by omega)]; omega
      go_wp2_with (first
        | (go_at_call 231; refine (lowU_any _ _ _ (by omega) (by omega)).mono ?_; rintro e w' ⟨rfl, rfl⟩)
        | (at_builtin; refine wpList_append_byte (.tmp 19) (.tmp 23) rfl rfl rfl Ho (m % 128 + 128) rfl hlen Hbase hBr ?_; intro v' w1 Ho1 hB1))
      go_roundw
      case rel => exact ⟨pre ++ [m % 128 + 128], m / 128, by omega, by omega, rfl, by show _ = _; rw [He.out, encU_ge (by omega), List.append_assoc]; rfl, by rw [← List.append_assoc]; exact Ho1, hB1⟩
      case measure => simp [intOf]; omega
set_option maxHeartbeats 1000000 in
theorem putS_any (v : Value) (l : List Int) (n : Int) (w : World) (hv : Rd w v l) (hl : l.length ≤ 140737488355000) (h0 : -9223372036854775808 ≤ n) (h1 : n < 9223372036854775808) :
    Calls Tryz.prog 230 #[v, .int .i64 n] w fun e w' => ∃ v', e = .returned v' ∧ Own w' w.heap.size v' (l ++ encS n) ∧ Below w.heap.size w w' := by
  obtain ⟨ao, cap, zs, cs, rfl, hcs, hzl, hmk, hpos, hone, hmin, hfit⟩ := put_facts hv hl 10 10 rfl (by omega)
  have Hcs := Lib.hid hcs
  have Hzl := Lib.hid hzl
  have Hpos := Lib.hid hpos
  have Hone := Lib.hid hone
  have Hmin := Lib.hid hmin
  have Hfit := Lib.hid hfit
  clear hcs hzl hpos hone hmin hfit hv
  go_enter Tryz.func230, Tryz.ntmps230
  go_wp2_with (with_reducible refine wpList_copy_splice rfl (.tmp 12) (.tmp 13) 22 22 rfl 5 Tryz.underlying22 size5 (some ⟨w.heap.size, 0, none⟩) ao l.length (l.length + 10) l.length cap rfl rfl w.heap.size 0 zs 5 (heap_alloc_new w _) cs Hmin.out Hpos.out Hfit.out Hone.out w.heap.size w ((Below.refl _ _).alloc (Nat.le_refl _) _) (Nat.le_refl _) ?_)
  intro w2 HG hB2
  have hown : Own w2 w.heap.size (.slice (some ⟨w.heap.size, 0, none⟩) l.length (l.length + 10)) l := own_copied (Nat.le_refl _) rfl Hzl.out (by unfold maxLen; omega) (by rw [← Hcs.out]; exact HG.out)
  clear HG Hpos Hone Hmin Hfit
  go_wp2
  go_loopw [1, 5] (fun i v wr => ∃ (pre : List Int) (m : Int), -9223372036854775808 ≤ m ∧ m < 9223372036854775808 ∧ i = .int .i64 m ∧ Hid (encS n = pre ++ encS m) ∧ Own wr w.heap.size v (l ++ pre) ∧ Below w.heap.size w wr)
    (fun i _ _ => (intOf i).natAbs)
  case atStart => exact ⟨[], n, h0, h1, rfl, rfl, by rw [List.append_nil]; exact hown, hB2⟩
  case round =>
    obtain ⟨pre, m, hm0, hm1, rfl, He, Ho, hBr⟩ := hrel
    have hlen : (l ++ pre).length + 1 ≤ 140737488355328 := by
      have := encS_len h0 h1; rw [He.out, List.length_append] at this; have := encS_pos m; rw [List.length_append]; omega
    have Hbase := hBr.size
    by_cases hc : -64 ≤ m ∧ m < 64
    · have hne : ((Int.bmod m 128 : Int) != m) = false := by rw [bne_eq_false_iff_eq]; exact (bmod7 m).2 hc
      have hb : bits .and .u8 (m % 256) 127 = m % 128 := by rw [b8_and127 _ (by omega) (by omega)]; omega
      have hc1 := hc.1
      have hc2 := hc.2
      have He' : Hid (l ++ pre ++ [m % 128] = l ++ encS n) := by show _ = _; rw [He.out, encS_in hc.1 hc.2, List.append_assoc]
      go_wp2_with (first
        | (go_at_call 243; refine (lowS_any _ _ _ (by omega) (by omega)).mono ?_; rintro e w' ⟨rfl, rfl⟩)
        | (at_builtin; refine wpList_append_byte (.tmp 27) (.tmp 31) rfl rfl rfl Ho (m % 128) rfl hlen Hbase hBr ?_; intro v' w1 Ho1 hB1))
      go_ret
      exact ⟨_, rfl, by rw [← He'.out]; exact Ho1, hB1⟩
    · have hne : ((Int.bmod m 128 : Int) != m) = true := by rw [bne_iff_ne]; exact fun h => hc ((bmod7 m).1 h)
      have Hc := Lib.hid hc
      clear hc
      have hb : bits .or .u8 (m % 256) 128 = m % 128 + 128 := by rw [b8_or128 _ (by omega) (by omega)]; omega
      go_wp2_with (first
        | (go_at_call 243; refine (lowS_any _ _ _ (by omega) (by omega)).mono ?_; rintro e w' ⟨rfl, rfl⟩)
        | (at_builtin; refine wpList_append_byte (.tmp 19) (.tmp 23) rfl rfl rfl Ho (m % 128 + 128) rfl hlen Hbase hBr ?_; intro v' w1 Ho1 hB1))
      go_roundw
      case rel => exact ⟨pre ++ [m % 128 + 128], m / 128, by omega, by omega, rfl, by show _ = _; rw [He.out, encS_out Hc.out, List.append_assoc]; rfl, by rw [← List.append_assoc]; exact Ho1, hB1⟩
      case measure => have := Hc.out; simp [intOf]; omega
end Go.Proofs.YtgcmdnkmnghhaaaGreatDoor.lb

/- The contracts of leb.PutU, leb.PutS. -/
namespace Go.Proofs.YtgcmdnkmnghhaaaGreatDoor.lb
open Go.RowKit

set_option maxHeartbeats 400000 in
theorem PutU_any (v : Value) (l : List Int) (n : Int) (w : World) (hv : Rd w v l) (hl : l.length ≤ 140737488355000) (h0 : 0 ≤ n) (h1 : n < 18446744073709551616) :
    Calls Tryz.prog 183 #[v, .int .u64 n] w fun e w' => ∃ v', e = .returned v' ∧ Own w' w.heap.size v' (l ++ encU n) ∧ Below w.heap.size w w' := by
  have H := Lib.hid (putU_any v l n w hv hl h0 h1)
  go_enter Tryz.func183, Tryz.ntmps183
  go_wp2_with (go_at_call 215; refine H.out.mono ?_; rintro e w' ⟨v', rfl, ho, hb⟩)
  go_ret
  exact ⟨_, rfl, ho, hb⟩

set_option maxHeartbeats 400000 in
theorem PutS_any (v : Value) (l : List Int) (n : Int) (w : World) (hv : Rd w v l) (hl : l.length ≤ 140737488355000) (h0 : -9223372036854775808 ≤ n) (h1 : n < 9223372036854775808) :
    Calls Tryz.prog 214 #[v, .int .i64 n] w fun e w' => ∃ v', e = .returned v' ∧ Own w' w.heap.size v' (l ++ encS n) ∧ Below w.heap.size w w' := by
  have H := Lib.hid (putS_any v l n w hv hl h0 h1)
  go_enter Tryz.func214, Tryz.ntmps214
  go_wp2_with (go_at_call 230; refine H.out.mono ?_; rintro e w' ⟨v', rfl, ho, hb⟩)
  go_ret
  exact ⟨_, rfl, ho, hb⟩
end Go.Proofs.YtgcmdnkmnghhaaaGreatDoor.lb

/- A writer in memory: its bytes are a row of the call's own. The contracts of full, put, unsigned, u, s. -/
set_option linter.unusedVariables false
set_option linter.unusedSimpArgs false
namespace Go.Proofs.YtgcmdnkmnghhaaaGreatDoor.wm
open Go.RowKit Go.Proofs.YtgcmdnkmnghhaaaGreatDoor.lb

/-- what a writer may turn: its own block, and its row's -/
def TW (g : Nat) (v : Value) (k : Nat) : Prop := k = g ∨ v.ownBlock = some k
/-- a row of bytes -/
def BRow (w : World) (k : Nat) : Prop := ∃ cs fr, w.heap[k]? = some (.cells cs 5 fr)
/-- a row of the call's own, or a full one of which no cell may be written -/
def OwnX (w : World) (v : Value) (xs : List Int) : Prop := Own w 0 v xs ∨ ∃ b cs fr, v = .slice (some ⟨b, 0, none⟩) xs.length xs.length ∧ w.heap[b]? = some (.cells cs 5 fr) ∧ ∀ k, k < xs.length → w.cell? ⟨b, k, none⟩ = some (.int .u8 (xs.getD k 0))
theorem OwnX.rd {w : World} {v : Value} {xs : List Int} (h : OwnX w v xs) : Rd w v xs := by
  rcases h with h | ⟨b, cs, fr, rfl, hb, hc⟩
  · exact h.rd
  · exact ⟨_, _, rfl, Nat.le_refl _, (fun h => by cases h), .inr ⟨b, 0, rfl, fun k hk => by rw [Nat.zero_add]; exact hc k hk⟩⟩
theorem OwnX.row {w : World} {v : Value} {xs : List Int} (h : OwnX w v xs) {k : Nat} (hk : v.ownBlock = some k) : BRow w k := by
  rcases h with h | ⟨b, cs, fr, rfl, hb, _⟩
  · rcases h.2 with ⟨rfl, _⟩ | ⟨r, cap, cur, rfl, hb, hr, _⟩
    · cases hk
    · obtain rfl : r = k := Option.some.inj hk
      exact ⟨cur, _, hr⟩
  · obtain rfl : b = k := Option.some.inj hk
    exact ⟨cs, fr, hb⟩
theorem OwnX.lt {w : World} {v : Value} {xs : List Int} (h : OwnX w v xs) {k : Nat} (hk : v.ownBlock = some k) : k < w.heap.size := by
  obtain ⟨cs, fr, h⟩ := h.row hk
  exact (Array.getElem?_eq_some_iff.1 h).1
theorem OwnX.keep {w w' : World} {v : Value} {xs : List Int} (h : OwnX w v xs) (hk : ∀ i, v.ownBlock = some i → w'.heap[i]? = w.heap[i]?) : OwnX w' v xs := by
  rcases h with h | ⟨b, cs, fr, rfl, hb, hc⟩
  · refine .inl ⟨h.1, ?_⟩
    rcases h.2 with hn | ⟨r, cap, cur, rfl, hb, hg, hr⟩
    · exact .inl hn
    · exact .inr ⟨r, cap, cur, rfl, hb, (hk r rfl).trans hg, hr⟩
  · exact .inr ⟨b, cs, fr, rfl, (hk b rfl).trans hb, fun k hk' => by rw [World.cell?_of_block (w := w) (hk b rfl)]; exact hc k hk'⟩
theorem OwnX.lift {w w' : World} {v : Value} {xs : List Int} (h : OwnX w v xs) (hb : Below w.heap.size w w') : OwnX w' v xs := h.keep fun i hi => hb.block i (h.lt hi)
theorem OwnX.nil (w : World) : OwnX w (.slice none 0 0) [] := .inl (Own.nil w 0)

/-- a writer in block g, of type T, with other cells behind: the slice v of its bytes xs -/
structure Wr (T : TypeId) (rest : List Value) (g : Nat) (v : Value) (xs : List Int) (w : World) : Prop where
  blk : Blk T w g (v :: rest).toArray
  own : OwnX w v xs
  ty : T ≠ 5
section
variable {T : TypeId} {rest : List Value} {g : Nat} {v : Value} {xs : List Int} {w w' : World}
theorem Wr.lt (h : Wr T rest g v xs w) : g < w.heap.size := h.blk.lt
theorem Wr.c0 (h : Wr T rest g v xs w) : w.cell? ⟨g, 0, none⟩ = some v := h.blk.c 0 (by simp)
theorem Wr.f0 (h : Wr T rest g v xs w) : w.frozen? ⟨g, 0, none⟩ = false := h.blk.f 0
theorem OwnX.slice {v : Value} {xs : List Int} {w : World} (h : OwnX w v xs) : ∃ ao cap, v = .slice ao xs.length cap := by
  obtain ⟨ao, cap, rfl, _⟩ := h.rd; exact ⟨ao, cap, rfl⟩
theorem own_slice {B : Nat} {v : Value} {xs : List Int} {w : World} (h : Own w B v xs) : ∃ ao cap, v = .slice ao xs.length cap := by
  obtain ⟨ao, cap, rfl, _⟩ := h.rd; exact ⟨ao, cap, rfl⟩
theorem Wr.slice (h : Wr T rest g v xs w) : ∃ ao cap, v = .slice ao xs.length cap := h.own.slice
theorem Blk.notRow {cs : Array Value} (h : Blk T w g cs) (hT : T ≠ 5) : ¬ BRow w g := fun ⟨cs', fr, hc⟩ => by
  unfold Blk at h
  rw [h] at hc
  simp at hc
  exact hT hc.2.1
theorem Wr.ne (h : Wr T rest g v xs w) : ¬ v.ownBlock = some g := fun e => h.blk.notRow h.ty (h.own.row e)
/-- what turns neither its block nor its row leaves it -/
theorem Wr.keep (h : Wr T rest g v xs w) {S : Nat → Prop} (k : Keep S w w') (hS : ∀ i, TW g v i → ¬ S i) : Wr T rest g v xs w' :=
  ⟨h.blk.keep k (hS g (.inl rfl)), h.own.keep fun i hi => k.block i (h.own.lt hi) (hS i (.inr hi)), h.ty⟩
theorem Wr.below (h : Wr T rest g v xs w) (k : Below w.heap.size w w') : Wr T rest g v xs w' := ⟨h.blk.below k, h.own.lift k, h.ty⟩
theorem Wr.tw (h : Wr T rest g v xs w) {i : Nat} (hi : TW g v i) : i < w.heap.size := by
  rcases hi with rfl | hi
  · exact h.lt
  · exact h.own.lt hi
/-- where the row lies behind a step -/
def At (w : World) (v v' : Value) : Prop := ∀ k, v'.ownBlock = some k → v.ownBlock = some k ∨ w.heap.size ≤ k
/-- a new slice is stored -/
theorem Wr.store {v' : Value} {ys : List Int} {w1 : World} (h : Wr T rest g v xs w) (k : Keep (fun i => v.ownBlock = some i) w w1) (ho : OwnX w1 v' ys) :
    Wr T rest g v' ys (w1.setCell ⟨g, 0, none⟩ v') ∧ Keep (TW g v) w (w1.setCell ⟨g, 0, none⟩ v') := by
  have hb1 := h.blk.keep k h.ne
  refine ⟨⟨?_, ho.keep fun i hi => ?_, h.ty⟩, ?_⟩
  · have := hb1.set 0 v'
    simpa using this
  · refine Below.heap_setCell w1 _ _ _ ?_
    intro e
    subst e
    exact hb1.notRow h.ty (ho.row hi)
  · exact (k.mono (fun i hi e => .inr e)).set (p := ⟨g, 0, none⟩) (.inl (.inl rfl)) v'
/-- what a writer's method leaves -/
def WOut (T : TypeId) (rest : List Value) (g : Nat) (v : Value) (w : World) (xs : List Int) (e : Ending) (w' : World) : Prop := e = .returned (.tuple #[]) ∧ ∃ v', Wr T rest g v' xs w' ∧ Keep (TW g v) w w' ∧ At w v v'
theorem Keep.tw {v1 : Value} {a b c : World} (h : Keep (TW g v) a b) (k : Keep (TW g v1) b c) (ha : At a v v1) : Keep (TW g v) a c :=
  h.new k fun i hi hs => by
    rcases hs with rfl | hs
    · exact .inl rfl
    · rcases ha i hs with e | e
      · exact .inr e
      · omega
theorem At.trans {v1 v2 : Value} {a b : World} (h : At a v v1) (hs : a.heap.size ≤ b.heap.size) (k : At b v1 v2) : At a v v2 := fun i hi => by
  rcases k i hi with e | e
  · exact h i e
  · right; omega
theorem At.refl (v : Value) (a : World) : At a v v := fun _ h => .inl h
theorem WOut.after {w1 : World} {v1 : Value} {ys : List Int} {e : Ending} (h : WOut T rest g v1 w1 ys e w') (k : Keep (TW g v) w w1) (ha : At w v v1) : WOut T rest g v w ys e w' := by
  obtain ⟨h1, v', h2, h3, h4⟩ := h
  exact ⟨h1, v', h2, k.tw h3 ha, ha.trans k.size h4⟩

/-- append of all bytes that a slice reads as; what turns, and where the row lies, is told -/
theorem wpList_append_k {ops : Array Oper} {more : List Oper} {o : Oper} {a : Act} {Q : Exit → Act → World → Prop} (s x : Operand) (hgd : o.guard = none) (ho : o.op = .call { callee := .builtin .append, args := #[s, x], argTypes := #[22, 22] })
    {u : Value} (hs : a.eval s = v) (hown : OwnX w v xs) {ys : List Int} (hx : a.eval x = u) (hrd : Rd w u ys) (hne : 0 < ys.length) (hl : xs.length + ys.length ≤ 140737488355328)
    (h : ∀ v' w', OwnX w' v' (xs ++ ys) → Keep (fun i => v.ownBlock = some i) w w' → At w v v' → wpList Tryz.prog ops Q more (a.put o.dst v') w') : wpList Tryz.prog ops Q (o :: more) a w := by
  obtain ⟨i0, hi, hz0, hz1, hz2⟩ := info_parts lb.info5
  obtain ⟨ao, cap, rfl, hcap, hz, hd⟩ := hrd.data
  cases ao with
  | none =>
    obtain ⟨_, he, _⟩ := hd 0 (.int .u8 (ys.getD 0 0)) (get_map hne)
    cases he
  | some ad =>
    have hn : ∀ j u, (ys.map (Value.int .u8))[j]? = some u → w.cell? (ad.add j) = some u := by
      intro j u hu
      obtain ⟨ad', he, hc⟩ := hd j u hu
      cases he; exact hc
    rcases hown with hown | ⟨b, cs, fr, rfl, hb, hc⟩
    · refine wpList_append_own_at _ hgd s x 22 ho 0 5 i0 (.int .u8 0) 1 1 Tryz.underlying22 hi hz0 hz1 hz2 rfl (by decide) v xs.length (xs.map (.int .u8)) hs hown ad ys.length cap (ys.map (.int .u8)) hx (by simp) hn (ints_oneCell _ _) (by unfold maxLen; omega) (by omega) (Nat.zero_le _) ?_
      intro v' w' h1 h2 _ h5
      refine h v' w' (.inl ?_) ⟨h2.os, h2.tape, h2.output, h2.size, fun k hk hn => h2.block k hk (fun e => hn e.symm)⟩ (fun k hk => ?_)
      · unfold Own; rw [List.map_append, List.length_append]; exact h1
      · rcases h5 with h5 | h5
        · exact .inl (h5 ▸ hk)
        · rw [h5] at hk; cases hk; exact .inr (Nat.le_refl _)
    · refine wpList_append_grows _ hgd s x 22 ho 5 i0 (.int .u8 0) 1 1 Tryz.underlying22 hi hz0 hz1 hz2 rfl (by decide) (some ⟨b, 0, none⟩) xs.length xs.length (xs.map (.int .u8)) hs (fun e => by cases e) (by simp) (fun b' e j u hu => by
        cases e
        obtain ⟨hj, rfl⟩ := map_get hu
        rw [lb.add_lit, Nat.zero_add]; exact hc j hj) ad ys.length cap (ys.map (.int .u8)) hx (by simp) hn (ints_oneCell _ _) (by omega) (by unfold maxLen; omega) (by omega) ?_
      intro v' w' h1 h2
      refine h v' w' (.inl (Own.mono (B := w.heap.size) ?_ (Nat.zero_le _))) ⟨h2.os, h2.tape, h2.output, h2.size, fun k hk hn => h2.block k hk (fun e => by cases e)⟩ (fun k hk => .inr ?_)
      · unfold Own; rw [List.map_append, List.length_append]; exact h1
      · exact (World.ownsRow.lt h1 k hk).1
/-- the same at a step of a region that draws its order -/
theorem step_append_k {ops : Array Oper} {o : Oper} {a : Act} {K : Act → World → Prop} {Q : Exit → Act → World → Prop} {E : Prop} (s x : Operand) (hgd : o.guard = none) (ho : o.op = .call { callee := .builtin .append, args := #[s, x], argTypes := #[22, 22] })
    {u : Value} (hs : a.eval s = v) (hown : OwnX w v xs) {ys : List Int} (hx : a.eval x = u) (hrd : Rd w u ys) (hne : 0 < ys.length) (hl : xs.length + ys.length ≤ 140737488355328)
    (h : ∀ ao cap w', OwnX w' (.slice ao (xs.length + ys.length) cap) (xs ++ ys) → Keep (fun i => v.ownBlock = some i) w w' → At w v (.slice ao (xs.length + ys.length) cap) → K (a.put o.dst (.slice ao (xs.length + ys.length) cap)) w') : if Region.wanted o (yielded ops a.tmps) = true then Oper.wp Tryz.prog o a w K Q else E := by
  obtain ⟨i0, hi, hz0, hz1, hz2⟩ := info_parts lb.info5
  obtain ⟨ao, cap, rfl, hcap, hz, hd⟩ := hrd.data
  cases ao with
  | none =>
    obtain ⟨_, he, _⟩ := hd 0 (.int .u8 (ys.getD 0 0)) (get_map hne)
    cases he
  | some ad =>
    have hn : ∀ j u, (ys.map (Value.int .u8))[j]? = some u → w.cell? (ad.add j) = some u := by
      intro j u hu
      obtain ⟨ad', he, hc⟩ := hd j u hu
      cases he; exact hc
    rcases hown with hown | ⟨b, cs, fr, rfl, hb, hc⟩
    · refine step_append_lies (P := Tryz.prog) w hgd s x 22 ho 0 5 i0 (.int .u8 0) 1 1 Tryz.underlying22 hi hz0 hz1 hz2 rfl (by decide) v xs.length (xs.map (.int .u8)) hs hown ad ys.length cap (ys.map (.int .u8)) hx (by simp) hn (ints_oneCell _ _) hne (by unfold maxLen; omega) (by omega) (Nat.zero_le _) w.heap.size rfl ?_
      intro g' cap' w' h1 h2 h3 _
      refine h _ _ w' (.inl ?_) ⟨h2.os, h2.tape, h2.output, h2.size, fun k hk hn => h2.block k hk (fun e => hn e.symm)⟩ (fun k hk => ?_)
      · unfold Own; rw [List.map_append, List.length_append]; exact h1
      · obtain rfl : g' = k := Option.some.inj hk
        rcases h3 with h3 | h3
        · exact .inl h3
        · exact .inr (by omega)
    · refine step_append_grows (P := Tryz.prog) hgd s x 22 ho 5 i0 (.int .u8 0) 1 1 Tryz.underlying22 hi hz0 hz1 hz2 rfl (by decide) (some ⟨b, 0, none⟩) xs.length xs.length (xs.map (.int .u8)) hs (fun e => by cases e) (by simp) (fun b' e j u hu => by
        cases e
        obtain ⟨hj, rfl⟩ := map_get hu
        rw [lb.add_lit, Nat.zero_add]; exact hc j hj) ad ys.length cap (ys.map (.int .u8)) hx (by simp) hn (ints_oneCell _ _) (by omega) (by unfold maxLen; omega) (by omega) ?_
      intro v' w' h1 h2
      have ho : Own w' w.heap.size v' (xs ++ ys) := by unfold Own; rw [List.map_append, List.length_append]; exact h1
      obtain ⟨a', c', rfl⟩ := own_slice ho
      rw [List.length_append] at ho ⊢
      exact h a' c' w' (.inl (ho.mono (Nat.zero_le _))) ⟨h2.os, h2.tape, h2.output, h2.size, fun k hk hn => h2.block k hk (fun e => by cases e)⟩ (fun k hk => .inr (ho.lt k hk).1)

theorem full_any (h : Wr T rest g v xs w) : Calls Tryz.prog 146 #[.pointer (some ⟨g, 0, none⟩)] w fun e w' => e = .returned (.bool (decide (16384 < xs.length))) ∧ w = w' := by
  obtain ⟨ao, cap, rfl⟩ := h.slice
  have c0 := h.c0
  by_cases hf : 16384 < xs.length
  · have h1 : (16384 : Int) < xs.length := by omega
    rw [decide_eq_true hf]
    clear h hf
    go_enter Tryz.func146, Tryz.ntmps146
    go_wp2
    go_ret
    exact ⟨rfl, rfl⟩
  · have h1 : ¬ (16384 : Int) < xs.length := by omega
    rw [decide_eq_false hf]
    clear h hf
    go_enter Tryz.func146, Tryz.ntmps146
    go_wp2
    go_ret
    exact ⟨rfl, rfl⟩

theorem put_any (h : Wr T rest g v xs w) (u : Value) (ys : List Int) (hu : Rd w u ys) (hn : 0 < ys.length) (hy : ys.length ≤ 1048576) :
    Calls Tryz.prog 92 #[.pointer (some ⟨g, 0, none⟩), u] w (WOut T rest g v w (putL xs ys)) := by
  have HF := full_any h
  by_cases hf : 16384 < xs.length
  · rw [decide_eq_true hf] at HF
    have HF := Lib.hid HF
    have HX := Lib.hid (show Wr T rest g v (putL xs ys) w by unfold putL; rw [if_pos hf]; exact h)
    clear h hu hf
    go_enter Tryz.func92, Tryz.ntmps92
    go_wp2_with fail
    refine HF.out.mono ?_
    rintro en w1 ⟨rfl, rfl⟩
    go_wp2
    (first | go_end0 | refine bodyPost_ret (results_none rfl _ _ _) rfl ?_)
    exact ⟨rfl, v, HX.out, Keep.refl _ _, At.refl _ _⟩
  · rw [decide_eq_false hf] at HF
    have HF := Lib.hid HF
    have HE := Lib.hid (show putL xs ys = xs ++ ys by unfold putL; rw [if_neg hf])
    have H := Lib.hid h
    obtain ⟨ao, cap, rfl⟩ := h.slice
    have c0 := h.c0
    have HL : xs.length + ys.length ≤ 140737488355328 := by omega
    have hown := h.own
    clear h hf
    go_enter Tryz.func92, Tryz.ntmps92
    go_wp2_with fail
    refine HF.out.mono ?_
    rintro en w1 ⟨rfl, rfl⟩
    go_wp2_with (at_builtin; refine wpList_append_k (.tmp 11) (.tmp 12) rfl rfl rfl hown rfl hu hn HL ?_; intro v' w1 ho hk ha; obtain ⟨a', c', rfl⟩ := ho.slice; have hs := H.out.store hk ho; simp only [List.length_append] at hs ha; have hb1 := H.out.blk.keep hk H.out.ne; have e0 := hb1.c 0 (v := .slice ao xs.length cap) (by simp); have f0 := hb1.f 0; have HS := Lib.hid hs; have HA := Lib.hid ha; clear hs hk ho hb1 ha)
    (first | go_end0 | refine bodyPost_ret (results_none rfl _ _ _) rfl ?_)
    rw [HE.out]
    exact ⟨rfl, _, HS.out.1, HS.out.2, HA.out⟩

/-- bytes just built -/
theorem rd_made (w : World) (ys : List Int) : Rd (w.alloc (.cells (ys.map (Value.int .u8)).toArray 5)) (.slice (some ⟨w.heap.size, 0, none⟩) ys.length ys.length) ys := by
  refine ⟨_, _, rfl, Nat.le_refl _, (fun h => by cases h), .inr ⟨w.heap.size, 0, rfl, fun k hk => ?_⟩⟩
  rw [cell_of_row _ w.heap.size (0 + k) _ 5 (0, 0) (heap_alloc_new w _)]
  simp [hk]
/-- put of one byte that the call has just built -/
theorem put1 (h : Wr T rest g v xs w) (c : Int) : Calls Tryz.prog 92 #[.pointer (some ⟨g, 0, none⟩), .slice (some ⟨w.heap.size, 0, none⟩) 1 1] (w.alloc (.cells #[.int .u8 c] 5)) (WOut T rest g v w (putL xs [c])) := by
  have hb : Below w.heap.size w (w.alloc (.cells #[.int .u8 c] 5)) := made1 w _
  exact (put_any (h.below hb) _ [c] (rd_made w [c]) (by simp) (by simp)).mono fun e w' h => h.after (.of hb) (At.refl _ _)
theorem put1' (h : Wr T rest g v xs w) (c : Int) (b : Nat) (hb : w.heap.size = b) : Calls Tryz.prog 92 #[.pointer (some ⟨g, 0, none⟩), .slice (some ⟨b, 0, none⟩) 1 1] (w.alloc (.cells #[.int .u8 c] 5)) (WOut T rest g v w (putL xs [c])) := by
  subst hb; exact put1 h c

set_option maxRecDepth 100000 in
set_option maxHeartbeats 1000000 in
theorem unsigned_any (h : Wr T rest g v xs w) (n : Int) (h0 : 0 ≤ n) (h1 : n < 18446744073709551616) :
    Calls Tryz.prog 145 #[.pointer (some ⟨g, 0, none⟩), .int .u64 n] w (WOut T rest g v w (unsL xs n)) := by
  have HF := full_any h
  by_cases hf : 16384 < xs.length
  · rw [decide_eq_true hf] at HF
    have HF := Lib.hid HF
    have HX := Lib.hid (show Wr T rest g v (unsL xs n) w by unfold unsL putL; rw [if_pos hf]; exact h)
    clear h hf
    go_enter Tryz.func145, Tryz.ntmps145
    go_wp2_with fail
    refine HF.out.mono ?_
    rintro en w1 ⟨rfl, rfl⟩
    go_wp2
    (first | go_end0 | refine bodyPost_ret (results_none rfl _ _ _) rfl ?_)
    exact ⟨rfl, v, HX.out, Keep.refl _ _, At.refl _ _⟩
  · rw [decide_eq_false hf] at HF
    have HF := Lib.hid HF
    have HE := Lib.hid (show unsL xs n = xs ++ encU n by unfold unsL putL; rw [if_neg hf])
    obtain ⟨ao, cap, rfl⟩ := h.slice
    have BD := Lib.hid ((Below.refl w.heap.size w).drew)
    have H := Lib.hid (h.below BD.out)
    have c0 := h.c0
    have hle := encU_len h0 h1
    have hne : Hid (0 < (encU n).length) := encU_pos n
    have HL : Hid (xs.length + (encU n).length ≤ 140737488355328) := by show _ ≤ _; omega
    have HP := Lib.hid (fun w' => PutU_any (.slice none 0 0) [] n w' (Rd.nil w') (by simp) h0 h1)
    clear h hf hle
    go_enter Tryz.func145, Tryz.ntmps145
    go_wp2_with fail
    refine HF.out.mono ?_
    rintro en w1 ⟨rfl, rfl⟩
    go_wp2_with fail
    go_region_law (first
        | (refine step_append_k (.tmp 11) (.tmp 13) (by rfl) (by rfl) (by rfl) H2.out.own (by rfl) O2.out hne.out HL.out ?_; intro a3 k3 w3 ho3 hk3 ha3; have hs3 := H2.out.store hk3 ho3; have hb3 := H2.out.blk.keep hk3 H2.out.ne; have e0 := hb3.c 0 (v := .slice ao xs.length cap) (by simp); have f0 := hb3.f 0; have HS := Lib.hid hs3; have HA := Lib.hid ha3; clear hs3 hk3 ho3 hb3 ha3)
        | (go_simp; refine (HP.out _).mono ?_; rintro e w2 ⟨v2, rfl, ho2, hb2⟩; rw [List.nil_append] at ho2; obtain ⟨a2, k2, rfl⟩ := own_slice ho2; have H2 := Lib.hid (H.out.below hb2); have d1 := H2.out.c0; have O2 := Lib.hid ho2.rd; have B2 := Lib.hid hb2; clear hb2 ho2))
    all_goals
      go_wp2
      (first | go_end0 | refine bodyPost_ret (results_none rfl _ _ _) rfl ?_)
      rw [HE.out]
      exact ⟨rfl, _, HS.out.1, (Keep.of (BD.out.trans (B2.out.mono BD.out.size))).tw HS.out.2 (At.refl _ _), (At.refl _ w).trans (Nat.le_trans BD.out.size B2.out.size) HA.out⟩

set_option maxRecDepth 100000 in
set_option maxHeartbeats 1000000 in
theorem sgn_any (h : Wr T rest g v xs w) (n : Int) (h0 : -9223372036854775808 ≤ n) (h1 : n < 9223372036854775808) :
    Calls Tryz.prog 182 #[.pointer (some ⟨g, 0, none⟩), .int .i64 n] w (WOut T rest g v w (sL xs n)) := by
  have HF := full_any h
  by_cases hf : 16384 < xs.length
  · rw [decide_eq_true hf] at HF
    have HF := Lib.hid HF
    have HX := Lib.hid (show Wr T rest g v (sL xs n) w by unfold sL putL; rw [if_pos hf]; exact h)
    clear h hf
    go_enter Tryz.func182, Tryz.ntmps182
    go_wp2_with fail
    refine HF.out.mono ?_
    rintro en w1 ⟨rfl, rfl⟩
    go_wp2
    (first | go_end0 | refine bodyPost_ret (results_none rfl _ _ _) rfl ?_)
    exact ⟨rfl, v, HX.out, Keep.refl _ _, At.refl _ _⟩
  · rw [decide_eq_false hf] at HF
    have HF := Lib.hid HF
    have HE := Lib.hid (show sL xs n = xs ++ encS n by unfold sL putL; rw [if_neg hf])
    obtain ⟨ao, cap, rfl⟩ := h.slice
    have BD := Lib.hid ((Below.refl w.heap.size w).drew)
    have H := Lib.hid (h.below BD.out)
    have c0 := h.c0
    have hle := encS_len h0 h1
    have hne : Hid (0 < (encS n).length) := encS_pos n
    have HL : Hid (xs.length + (encS n).length ≤ 140737488355328) := by show _ ≤ _; omega
    have HP := Lib.hid (fun w' => PutS_any (.slice none 0 0) [] n w' (Rd.nil w') (by simp) h0 h1)
    clear h hf hle
    go_enter Tryz.func182, Tryz.ntmps182
    go_wp2_with fail
    refine HF.out.mono ?_
    rintro en w1 ⟨rfl, rfl⟩
    go_wp2_with fail
    go_region_law (first
        | (refine step_append_k (.tmp 11) (.tmp 13) (by rfl) (by rfl) (by rfl) H2.out.own (by rfl) O2.out hne.out HL.out ?_; intro a3 k3 w3 ho3 hk3 ha3; have hs3 := H2.out.store hk3 ho3; have hb3 := H2.out.blk.keep hk3 H2.out.ne; have e0 := hb3.c 0 (v := .slice ao xs.length cap) (by simp); have f0 := hb3.f 0; have HS := Lib.hid hs3; have HA := Lib.hid ha3; clear hs3 hk3 ho3 hb3 ha3)
        | (go_simp; refine (HP.out _).mono ?_; rintro e w2 ⟨v2, rfl, ho2, hb2⟩; rw [List.nil_append] at ho2; obtain ⟨a2, k2, rfl⟩ := own_slice ho2; have H2 := Lib.hid (H.out.below hb2); have d1 := H2.out.c0; have O2 := Lib.hid ho2.rd; have B2 := Lib.hid hb2; clear hb2 ho2))
    all_goals
      go_wp2
      (first | go_end0 | refine bodyPost_ret (results_none rfl _ _ _) rfl ?_)
      rw [HE.out]
      exact ⟨rfl, _, HS.out.1, (Keep.of (BD.out.trans (B2.out.mono BD.out.size))).tw HS.out.2 (At.refl _ _), (At.refl _ w).trans (Nat.le_trans BD.out.size B2.out.size) HA.out⟩

theorem wu_any (h : Wr T rest g v xs w) (n : Int) : Calls Tryz.prog 91 #[.pointer (some ⟨g, 0, none⟩), .int .i64 n] w (WOut T rest g v w (uL xs n)) := by
  have HU := Lib.hid (unsigned_any h (n % 18446744073709551616) (by omega) (by omega))
  clear h
  go_enter Tryz.func91, Tryz.ntmps91
  go_wp2_with fail
  refine HU.out.mono ?_
  rintro en w1 ⟨rfl, h1⟩
  have H1 := Lib.hid h1
  clear h1
  go_wp2
  (first | go_end0 | refine bodyPost_ret (results_none rfl _ _ _) rfl ?_)
  exact ⟨rfl, H1.out⟩
theorem wkind_any (h : Wr T rest g v xs w) (t : Int) : Calls Tryz.prog 136 #[.pointer (some ⟨g, 0, none⟩), .int .i64 t] w (WOut T rest g v w (kindL xs t)) := by
  have HU := Lib.hid (put1 h (t % 256))
  clear h
  go_enter Tryz.func136, Tryz.ntmps136
  go_wp2_with fail
  refine HU.out.mono ?_
  rintro en w1 ⟨rfl, h1⟩
  have H1 := Lib.hid h1
  clear h1
  go_wp2
  (first | go_end0 | refine bodyPost_ret (results_none rfl _ _ _) rfl ?_)
  exact ⟨rfl, H1.out⟩
end
end Go.Proofs.YtgcmdnkmnghhaaaGreatDoor.wm

/- Parts and sections written: printed by gen_wsec.py. -/
set_option linter.unusedVariables false
set_option linter.unusedSimpArgs false
namespace Go.Proofs.YtgcmdnkmnghhaaaGreatDoor.wm
open Go.RowKit Go.Proofs.YtgcmdnkmnghhaaaGreatDoor.lb

/-- a writer that was made behind a world, in whose blocks lies what is written -/
structure Wl (w0 : World) (T : TypeId) (rest : List Value) (g : Nat) (v : Value) (xs : List Int) (w : World) : Prop where
  wr : Wr T rest g v xs w
  low : Below w0.heap.size w0 w
  lo : ∀ k, TW g v k → w0.heap.size ≤ k
section
variable {w0 : World} {T : TypeId} {rest : List Value} {g : Nat} {v : Value} {xs : List Int} {w w' : World}
/-- a step of a writer -/
def WS (w0 : World) (T : TypeId) (rest : List Value) (g : Nat) (v : Value) (w : World) (ys : List Int) (w' : World) : Prop := ∃ v', Wl w0 T rest g v' ys w' ∧ Keep (TW g v) w w' ∧ At w v v'
theorem Wl.next (h : Wl w0 T rest g v xs w) {ys : List Int} (o : ∃ v', Wr T rest g v' ys w' ∧ Keep (TW g v) w w' ∧ At w v v') : WS w0 T rest g v w ys w' := by
  obtain ⟨v', h1, k, ha⟩ := o
  refine ⟨v', ⟨h1, k.low h.low (Nat.le_refl _) h.lo, fun i hi => ?_⟩, k, ha⟩
  rcases hi with rfl | hi
  · exact h.lo i (.inl rfl)
  · rcases ha i hi with e | e
    · exact h.lo i (.inr e)
    · exact Nat.le_trans h.low.size e
theorem Wl.below (h : Wl w0 T rest g v xs w) (k : Below w.heap.size w w') : Wl w0 T rest g v xs w' := ⟨h.wr.below k, h.low.trans (k.mono h.low.size), h.lo⟩
theorem Wl.start (h : Wl w0 T rest g v xs w) : WS w0 T rest g v w xs w := ⟨v, h, Keep.refl _ _, At.refl _ _⟩
theorem WS.out {ys : List Int} {e : Ending} (h : WS w0 T rest g v w ys w') (he : e = .returned (.tuple #[])) : WOut T rest g v w ys e w' := by
  obtain ⟨v', h1, k, ha⟩ := h
  exact ⟨he, v', h1.wr, k, ha⟩
theorem WS.trans {w1 : World} {v1 : Value} {ys : List Int} (k : Keep (TW g v) w w1) (ha : At w v v1) (h : WS w0 T rest g v1 w1 ys w') : WS w0 T rest g v w ys w' := by
  obtain ⟨v', h1, k2, ha2⟩ := h
  exact ⟨v', h1, k.tw k2 ha, ha.trans k.size ha2⟩
/-- a step of a writer that was made behind leaves this one -/
theorem Wl.over (h : Wl w0 T rest g v xs w) {w1 : World} {g' : Nat} {v' : Value} (b : Below w.heap.size w w1) (k : Keep (TW g' v') w1 w') (hg : w.heap.size ≤ g') (hv : ∀ i, v'.ownBlock = some i → w.heap.size ≤ i) : Below w.heap.size w w' :=
  k.low b (Nat.le_refl _) fun i hi => by
    rcases hi with rfl | hi
    · exact hg
    · exact hv i hi
/-- a step of this writer leaves one that was made behind -/
theorem Wr.aside {T' : TypeId} {rest' : List Value} {g' : Nat} {v' : Value} {ys : List Int} {w1 w2 : World} (h : Wr T' rest' g' v' ys w1) (k : Keep (TW g v) w1 w2) (hd : ∀ i, TW g' v' i → ¬ TW g v i) : Wr T' rest' g' v' ys w2 := h.keep k hd

theorem own_notBlk {v : Value} {xs : List Int} {w : World} {T' : TypeId} {cs : Array Value} (h : OwnX w v xs) {k : Nat} (hk : v.ownBlock = some k) (hb : Blk T' w k cs) (hT : T' ≠ 5) : False := hb.notRow hT (h.row hk)
theorem foldl_take {α β : Type} (f : β → α → β) (b : β) (l : List α) {i : Nat} (hi : i < l.length) : (l.take (i + 1)).foldl f b = f ((l.take i).foldl f b) l[i] := by
  rw [List.take_succ_eq_append_getElem hi, List.foldl_append]; rfl

/-- how long bytes may become -/
theorem putL_le {xs ys : List Int} {N : Nat} (hx : xs.length ≤ N) (hy : 16384 + ys.length ≤ N) : (putL xs ys).length ≤ N := by
  have := putL_len xs ys; omega
theorem encU_mod_len (n : Int) : (encU (n % 18446744073709551616)).length ≤ 10 := encU_len (by omega) (by omega)
theorem uL_le {xs : List Int} {N : Nat} (hx : xs.length ≤ N) (hN : 16394 ≤ N) (n : Int) : (uL xs n).length ≤ N := putL_le hx (by have := encU_mod_len n; omega)
theorem kindL_le {xs : List Int} {N : Nat} (hx : xs.length ≤ N) (hN : 16394 ≤ N) (n : Int) : (kindL xs n).length ≤ N := putL_le hx (by simp; omega)
theorem fold_le {α : Type} {f : List Int → α → List Int} {N : Nat} (hf : ∀ xs a, xs.length ≤ N → (f xs a).length ≤ N) : ∀ (l : List α) (xs : List Int), xs.length ≤ N → (l.foldl f xs).length ≤ N
  | [], xs, h => h
  | a :: l, xs, h => fold_le hf l _ (hf xs a h)
theorem countedL_le {α : Type} {f : List Int → α → List Int} {N : Nat} (hf : ∀ xs a, xs.length ≤ N → (f xs a).length ≤ N) (l : List α) (xs : List Int) (h : xs.length ≤ N) (hN : 16394 ≤ N) : (countedL f xs l).length ≤ N := fold_le hf l _ (uL_le h hN _)
theorem sigL_le {xs : List Int} {N : Nat} (hN : 16394 ≤ N) (s : GSig) (hx : xs.length ≤ N) : (sigL xs s).length ≤ N :=
  countedL_le (fun xs a h => kindL_le h hN a) _ _ (countedL_le (fun xs a h => kindL_le h hN a) _ _ (putL_le hx (by simp; omega)) hN) hN

set_option maxRecDepth 100000 in
set_option maxHeartbeats 1000000 in
theorem counted_kinds (h : Wl w0 T rest g v xs w) (lv : Value) (l : List Int) (hl : wi.Rd w0 lv l) (hlen : l.length ≤ 1048576) :
    Calls Tryz.prog 135 #[.pointer (some ⟨g, 0, none⟩), lv, .func (.func 136) #[] #[]] w fun e w' => e = .returned (.tuple #[]) ∧ WS w0 T rest g v w (countedL kindL xs l) w' := by
  obtain ⟨ao, cap, rfl, hcap, hz, hd⟩ := hl
  have HU := Lib.hid (wu_any h.wr l.length)
  have H0 := Lib.hid h
  have HD := Lib.hid hd
  have HC := Lib.hid hcap
  clear h hd hz hcap
  go_enter Tryz.func135, Tryz.ntmps135
  go_wp2_with fail
  refine HU.out.mono ?_
  rintro en w1 ⟨rfl, h1⟩
  have HS1 := Lib.hid (H0.out.next h1)
  clear h1
  go_wp2
  go_loopw [14] (fun y wr => ∃ i : Nat, y = .int .i64 i ∧ i ≤ l.length ∧ Hid (WS w0 T rest g v w ((l.take i).foldl kindL (uL xs l.length)) wr)) (fun y _ => l.length - (intOf y).toNat)
  case atStart => exact ⟨0, rfl, Nat.zero_le _, HS1.out⟩
  case round =>
    obtain ⟨i, rfl, hi, HW⟩ := hrel
    by_cases hlt : i < l.length
    · obtain ⟨vi, hw, hk, ha⟩ := HW.out
      have hF := foldl_take kindL (uL xs l.length) l hlt
      rcases HD.out with rfl | ⟨b, off, rfl, hcell⟩
      · simp at hlt
      have hci := hcell i hlt
      rw [← hw.low.cell (p := ⟨b, off + i, none⟩) (World.block_lt_of_cell? w0 _ hci)] at hci
      have hcap := HC.out
      have hilt : (i : Int) < l.length := by omega
      rw [List.getD_eq_getElem?_getD, List.getElem?_eq_getElem hlt] at hci
      have hci : wr.cell? ⟨b, off + i, none⟩ = some (.int .i64 l[i]) := hci
      have HK := Lib.hid (wkind_any hw.wr l[i])
      have HWi := Lib.hid hw
      have HKi := Lib.hid hk
      have HA := Lib.hid ha
      have HF := Lib.hid hF
      clear hw hk ha hF hcell
      go_wp2_with fail
      refine HK.out.mono ?_
      rintro en w2 ⟨rfl, h2⟩
      have HS2 := Lib.hid (WS.trans HKi.out HA.out (HWi.out.next h2))
      clear h2 hci
      go_wp2
      go_roundw
      case rel => exact ⟨i + 1, by go_num, by omega, by rw [HF.out]; exact HS2.out⟩
      case measure => simp [intOf]; omega
    · have hil : i = l.length := by omega
      subst hil
      have HW2 := Lib.hid (show WS w0 T rest g v w (countedL kindL xs l) wr by have := HW.out; rw [List.take_length] at this; exact this)
      clear HW
      go_wp2
      (first | go_end0 | refine bodyPost_ret (results_none rfl _ _ _) rfl ?_)
      exact ⟨rfl, HW2.out⟩

set_option maxRecDepth 100000 in
set_option maxHeartbeats 1000000 in
theorem wsig_any (h : Wl w0 T rest g v xs w) (s : GSig) (c0 c1 : Value) (hi : wi.Rd w0 c0 s.ins) (ho : wi.Rd w0 c1 s.outs) (hl : s.ins.length ≤ 1048576 ∧ s.outs.length ≤ 1048576) :
    Calls Tryz.prog 80 #[.pointer (some ⟨g, 0, none⟩), .agg #[c0, c1]] w fun e w' => e = .returned (.tuple #[]) ∧ WS w0 T rest g v w (sigL xs s) w' := by
  obtain ⟨a0, k0, rfl, _⟩ := id hi
  obtain ⟨a1, k1, rfl, _⟩ := id ho
  have B0 := made1 w (.cells #[.slice a0 s.ins.length k0, .slice a1 s.outs.length k1] 42)
  have hb0 := Blk.new 42 w #[.slice a0 s.ins.length k0, .slice a1 s.outs.length k1]
  have h0 := h.below B0
  have HP := Lib.hid (put1' h0.wr 96 (w.heap.size + 1) (by simp [go_sem]))
  have HT := Lib.hid (fun i => h.wr.tw (i := i))
  have H0 := Lib.hid h0
  have HB0 := Lib.hid B0
  have HBK := Lib.hid hb0
  have HI := Lib.hid hi
  have HO := Lib.hid ho
  clear h h0 B0 hb0 hi ho
  go_enter Tryz.func80, Tryz.ntmps80
  go_wp2_with fail
  refine HP.out.mono ?_
  rintro en w1 ⟨rfl, h1⟩
  obtain ⟨v1, g1, k1', a1'⟩ := H0.out.next h1
  have hn : ∀ (i : Nat), TW g v i → i ≠ w.heap.size := fun i hi => by have := HT.out i hi; omega
  have hbk1 := HBK.out.keep k1' (fun e => hn _ e rfl)
  have d0 := hbk1.c 0 rfl
  have K1 := Lib.hid ((Keep.of HB0.out).tw k1' (At.refl _ _))
  have A1 := Lib.hid ((At.refl v w).trans HB0.out.size a1')
  have HBK1 := Lib.hid hbk1
  have HC := Lib.hid (counted_kinds g1 (.slice a0 s.ins.length k0) s.ins HI.out hl.1)
  have HT1 := Lib.hid (fun i => g1.wr.tw (i := i))
  have HG1 := Lib.hid g1
  clear h1 k1' a1' hbk1 g1 hn
  go_wp2_with fail
  refine HC.out.mono ?_
  rintro en w2 ⟨rfl, v2, g2, k2', a2'⟩
  have hn : ∀ (i : Nat), TW g v1 i → i ≠ w.heap.size := fun i hi => by
    rcases hi with rfl | hi
    · exact fun e => absurd (HT.out i (.inl rfl)) (by omega)
    · rcases A1.out i hi with e | e
      · exact fun e' => absurd (HT.out i (.inr e)) (by omega)
      · intro e'
        subst e'
        exact own_notBlk HG1.out.wr.own hi HBK1.out (by decide)
  have hbk2 := HBK1.out.keep k2' (fun e => hn _ e rfl)
  have d1 := hbk2.c 1 rfl
  have K2 := Lib.hid (K1.out.tw k2' A1.out)
  have A2 := Lib.hid (A1.out.trans K1.out.size a2')
  have HC2 := Lib.hid (counted_kinds g2 (.slice a1 s.outs.length k1) s.outs HO.out hl.2)
  clear k2' a2' hbk2 g2 hn d0
  go_wp2_with fail
  refine HC2.out.mono ?_
  rintro en w3 ⟨rfl, h3⟩
  have HS := Lib.hid (WS.trans K2.out A2.out h3)
  clear h3
  go_wp2
  (first | go_end0 | refine bodyPost_ret (results_none rfl _ _ _) rfl ?_)
  exact ⟨rfl, HS.out⟩
end
end Go.Proofs.YtgcmdnkmnghhaaaGreatDoor.wm

/- Sections of types written; parts; sections of nothing: printed by gen_wsec2.py. -/
set_option linter.unusedVariables false
set_option linter.unusedSimpArgs false
namespace Go.Proofs.YtgcmdnkmnghhaaaGreatDoor.wm
open Go.RowKit Go.Proofs.YtgcmdnkmnghhaaaGreatDoor.lb
section
variable {w0 : World} {T : TypeId} {rest : List Value} {g : Nat} {v : Value} {xs : List Int} {w w' : World}

theorem putL_ge (xs ys : List Int) : xs.length ≤ (putL xs ys).length := by unfold putL; split <;> simp
theorem fold_ge {α : Type} {f : List Int → α → List Int} (hf : ∀ xs a, xs.length ≤ (f xs a).length) : ∀ (l : List α) (xs : List Int), xs.length ≤ (l.foldl f xs).length
  | [], xs => Nat.le_refl _
  | a :: l, xs => Nat.le_trans (hf xs a) (fold_ge hf l _)
theorem countedL_ge {α : Type} (f : List Int → α → List Int) (hf : ∀ xs a, xs.length ≤ (f xs a).length) (l : List α) (xs : List Int) : xs.length ≤ (countedL f xs l).length := Nat.le_trans (putL_ge xs _) (fold_ge hf l _)
theorem countedL_pos {α : Type} (f : List Int → α → List Int) (hf : ∀ xs a, xs.length ≤ (f xs a).length) (l : List α) : 0 < (countedL f [] l).length := by
  have h1 : 0 < (uL [] l.length).length := by
    unfold uL unsL putL
    rw [if_neg (by simp), List.nil_append]
    exact encU_pos _
  exact Nat.lt_of_lt_of_le h1 (fold_ge hf l _)
theorem sigL_ge (xs : List Int) (s : GSig) : xs.length ≤ (sigL xs s).length := Nat.le_trans (putL_ge xs _) (Nat.le_trans (countedL_ge kindL (fun xs a => putL_ge xs _) _ _) (countedL_ge kindL (fun xs a => putL_ge xs _) _ _))
theorem cell_below {w0 w : World} (hb : Below w0.heap.size w0 w) {p : Addr} {u : Value} (h : w0.cell? p = some u) : w.cell? p = some u := by
  rw [hb.cell (World.block_lt_of_cell? w0 _ h)]; exact h

set_option maxRecDepth 100000 in
set_option maxHeartbeats 1000000 in
theorem counted_sigs (h : Wl w0 T rest g v xs w) (lv : Value) (l : List GSig) (hv : VR 2 gSig 0 w0 lv l) (hlen : l.length ≤ 1048576) (hs : ∀ s ∈ l, s.ins.length ≤ 1048576 ∧ s.outs.length ≤ 1048576) :
    Calls Tryz.prog 134 #[.pointer (some ⟨g, 0, none⟩), lv, .func (.func 80) #[] #[]] w fun e w' => e = .returned (.tuple #[]) ∧ WS w0 T rest g v w (countedL sigL xs l) w' := by
  obtain ⟨ao, cap, rfl⟩ := hv.slice
  have HU := Lib.hid (wu_any h.wr l.length)
  have H0 := Lib.hid h
  have HV := Lib.hid hv
  have HC := Lib.hid hv.length.2
  have HL := Lib.hid hs
  clear h hv hs
  go_enter Tryz.func134, Tryz.ntmps134
  go_wp2_with fail
  refine HU.out.mono ?_
  rintro en w1 ⟨rfl, h1⟩
  have HS1 := Lib.hid (H0.out.next h1)
  clear h1
  go_wp2
  go_loopw [14] (fun y wr => ∃ i : Nat, y = .int .i64 i ∧ i ≤ l.length ∧ Hid (WS w0 T rest g v w ((l.take i).foldl sigL (uL xs l.length)) wr)) (fun y _ => l.length - (intOf y).toNat)
  case atStart => exact ⟨0, rfl, Nat.zero_le _, HS1.out⟩
  case round =>
    obtain ⟨i, rfl, hi, HW⟩ := hrel
    by_cases hlt : i < l.length
    · obtain ⟨vi, hw, hk, ha⟩ := HW.out
      have hF := foldl_take sigL (uL xs l.length) l hlt
      obtain ⟨b, off, cs, rfl, hcl, hcc, hch⟩ := HV.out.get hlt
      obtain ⟨t0, t1, rfl⟩ := list_two hcl
      have hI := (Gh.all_cons rfl).1 hch
      have hO := (Gh.all_cons rfl).1 hI.2
      have HRI := Lib.hid (show wi.Rd w0 t0 l[i].ins from ints_rd .i64 hI.1)
      have HRO := Lib.hid (show wi.Rd w0 t1 l[i].outs from ints_rd .i64 hO.1)
      obtain ⟨⟨ia, il, ic, rfl⟩, oa, ol, oc, rfl⟩ := open_sig hch
      have m0 := cell_below hw.low (hcc 0 _ rfl)
      have m1 := cell_below hw.low (hcc 1 _ rfl)
      rw [Nat.add_zero] at m0
      have hcap := HC.out
      have hilt : (i : Int) < l.length := by omega
      have B1 := made1 wr (.cells #[.slice ia il ic, .slice oa ol oc] 42)
      have n0 : (wr.alloc (.cells #[.slice ia il ic, .slice oa ol oc] 42)).cell? ⟨wr.heap.size, 0, none⟩ = some (.slice ia il ic) := by simp [go_sem]
      have n1 : (wr.alloc (.cells #[.slice ia il ic, .slice oa ol oc] 42)).cell? ⟨wr.heap.size, 1, none⟩ = some (.slice oa ol oc) := by simp [go_sem]
      have HK := Lib.hid (wsig_any (hw.below B1) l[i] (.slice ia il ic) (.slice oa ol oc) HRI.out HRO.out (HL.out _ (List.getElem_mem hlt)))
      have HKi := Lib.hid (hk.trans (.of B1))
      have HA := Lib.hid ha
      have HSz := Lib.hid (show w.heap.size ≤ wr.heap.size from hk.size)
      have HF := Lib.hid hF
      clear hw hk ha hF hcc hch hI hO B1
      go_wp2_with fail
      refine HK.out.mono ?_
      rintro en w2 ⟨rfl, h2⟩
      have HS2 := Lib.hid (WS.trans HKi.out HA.out h2)
      clear h2 m0 m1 n0 n1
      go_wp2
      go_roundw
      case rel => exact ⟨i + 1, by go_num, by omega, by rw [HF.out]; exact HS2.out⟩
      case measure => simp [intOf]; omega
    · have hil : i = l.length := by omega
      subst hil
      have HW2 := Lib.hid (show WS w0 T rest g v w (countedL sigL xs l) wr by have := HW.out; rw [List.take_length] at this; exact this)
      clear HW
      go_wp2
      (first | go_end0 | refine bodyPost_ret (results_none rfl _ _ _) rfl ?_)
      exact ⟨rfl, HW2.out⟩

set_option maxRecDepth 100000 in
set_option maxHeartbeats 1000000 in
theorem wpart_any (h : Wr T rest g v xs w) (pv : Value) (ys : List Int) (ho : OwnX w pv ys) (hd : ∀ k, pv.ownBlock = some k → ¬ TW g v k) (hn : 0 < ys.length) (hy : ys.length ≤ 1048576) :
    Calls Tryz.prog 93 #[.pointer (some ⟨g, 0, none⟩), .agg #[pv]] w (WOut T rest g v w (partL xs ys)) := by
  obtain ⟨pa, pc, rfl⟩ := ho.slice
  have B0 := made1 w (.cells #[.slice pa ys.length pc] 119)
  have hb0 := Blk.new 119 w #[.slice pa ys.length pc]
  have h0 := h.below B0
  have HU := Lib.hid (wu_any h0 ys.length)
  have HT := Lib.hid (fun i => h.tw (i := i))
  have HB0 := Lib.hid B0
  have HBK := Lib.hid hb0
  have HO := Lib.hid (ho.lift B0)
  have HD := Lib.hid hd
  clear h h0 B0 hb0 ho hd
  go_enter Tryz.func93, Tryz.ntmps93
  go_wp2_with fail
  refine HU.out.mono ?_
  rintro en w1 ⟨rfl, v1, g1, k1, a1⟩
  have hbk1 := HBK.out.keep k1 (fun e => absurd (HT.out _ e) (by omega))
  have d0 := hbk1.c 0 rfl
  have ho1 := HO.out.keep fun i hi => k1.block i (HO.out.lt hi) (HD.out i hi)
  have HP := Lib.hid (put_any g1 (.slice pa ys.length pc) ys ho1.rd hn hy)
  have K1 := Lib.hid ((Keep.of HB0.out).tw k1 (At.refl _ _))
  have A1 := Lib.hid ((At.refl v w).trans HB0.out.size a1)
  clear g1 k1 a1 hbk1 ho1
  go_wp2_with fail
  refine HP.out.mono ?_
  rintro en w2 h2
  obtain ⟨rfl, h3⟩ := h2.after K1.out A1.out
  have H3 := Lib.hid h3
  clear h3 d0
  go_wp2
  (first | go_end0 | refine bodyPost_ret (results_none rfl _ _ _) rfl ?_)
  exact ⟨rfl, H3.out⟩
end

section
variable {w0 : World} {g : Nat} {v : Value} {xs : List Int} {w w' : World}
set_option maxRecDepth 100000 in
set_option maxHeartbeats 1000000 in
theorem section_sigs (h : Wl w0 119 [] g v xs w) (sec : Int) (lv : Value) (l : List GSig) (hv : VR 2 gSig 0 w0 lv l) (hlen : l.length ≤ 1048576) (hs : ∀ s ∈ l, s.ins.length ≤ 1048576 ∧ s.outs.length ≤ 1048576) :
    Calls Tryz.prog 79 #[.pointer (some ⟨g, 0, none⟩), .int .u8 sec, lv, .func (.func 80) #[] #[]] w fun e w' => e = .returned (.tuple #[]) ∧ WS w0 119 [] g v w (sectionL sigL sec l xs) w' := by
  obtain ⟨ao, cap, rfl⟩ := hv.slice
  by_cases hz : l.length = 0
  · have HS := Lib.hid (show WS w0 119 [] g v w (sectionL sigL sec l xs) w by unfold sectionL; rw [if_pos hz]; exact h.start)
    have hz' : ((l.length : Int) == 0) = true := by simp [hz]
    clear h hv
    go_enter Tryz.func79, Tryz.ntmps79
    go_wp2
    (first | go_end0 | refine bodyPost_ret (results_none rfl _ _ _) rfl ?_)
    exact ⟨rfl, HS.out⟩
  · have HX := Lib.hid (show sectionL sigL sec l xs = partL (putL xs [sec]) (countedL sigL [] l) by unfold sectionL; rw [if_neg hz])
    have hz' : ((l.length : Int) == 0) = false := by rw [beq_eq_false_iff_ne]; omega
    have B0 := made1 w (.cells #[.slice none 0 0] 119)
    have hp0 : Wl w0 119 [] w.heap.size (.slice none 0 0) [] (w.alloc (.cells #[.slice none 0 0] 119)) := ⟨⟨Blk.new 119 w #[.slice none 0 0], OwnX.nil _, by decide⟩, h.low.trans (B0.mono h.low.size), fun k hk => by
      rcases hk with rfl | hk
      · exact h.low.size
      · cases hk⟩
    have HC := Lib.hid (counted_sigs hp0 (.slice ao l.length cap) l hv hlen hs)
    have HB0 := Lib.hid B0
    have H0 := Lib.hid h
    have HY := Lib.hid (show (countedL sigL [] l).length ≤ 1048576 from Nat.le_trans (countedL_le (N := 16394) (fun xs a h => sigL_le (by decide) a h) l [] (by simp) (by decide)) (by decide))
    have HYN := Lib.hid (show 0 < (countedL sigL [] l).length from countedL_pos sigL (fun xs a => sigL_ge xs a) l)
    clear h hv B0 hp0
    go_enter Tryz.func79, Tryz.ntmps79
    go_wp2_with fail
    refine HC.out.mono ?_
    rintro en w1 ⟨rfl, vp, hp1, kp1, ap1⟩
    have B1 := H0.out.over HB0.out kp1 (Nat.le_refl _) (fun i hi => by cases hi)
    have h1 := H0.out.below B1
    have HPV := Lib.hid (show ∀ k, TW w.heap.size vp k → w.heap.size ≤ k from fun k hk => by
      rcases hk with rfl | hk
      · exact Nat.le_refl _
      · rcases ap1 k hk with e | e
        · cases e
        · exact Nat.le_trans HB0.out.size e)
    have HP1 := Lib.hid hp1
    have HB1 := Lib.hid B1
    have HT := Lib.hid (fun i => H0.out.wr.tw (i := i))
    have HPut := Lib.hid (put1 h1.wr sec)
    have H1 := Lib.hid h1
    clear hp1 kp1 ap1 B1 h1
    go_wp2_with fail
    refine HPut.out.mono ?_
    rintro en w2 ⟨rfl, h2⟩
    obtain ⟨v2, g2, k2, a2⟩ := H1.out.next h2
    have hp2 := HP1.out.wr.keep k2 (fun i hi e => by have := HPV.out i hi; have := HT.out i e; omega)
    obtain ⟨pa, pc, rfl⟩ := hp2.slice
    have d0 := hp2.c0
    have HO := Lib.hid hp2.own
    have HDJ := Lib.hid (show ∀ k, (Value.slice pa (countedL sigL [] l).length pc).ownBlock = some k → ¬ TW g v2 k from fun k hk e => by
      have h3 := HPV.out k (.inr hk)
      rcases e with rfl | e
      · have := HT.out k (.inl rfl); omega
      · rcases a2 k e with e | e
        · have := HT.out k (.inr e); omega
        · have := HP1.out.wr.own.lt hk; omega)
    have K2 := Lib.hid ((Keep.of HB1.out).tw k2 (At.refl _ _))
    have A2 := Lib.hid ((At.refl v w).trans HB1.out.size a2)
    have HPart := Lib.hid (wpart_any g2.wr _ _ HO.out HDJ.out HYN.out HY.out)
    have G2 := Lib.hid g2
    clear h2 k2 a2 g2 hp2
    generalize (countedL sigL [] l).length = ln at *
    go_wp2_with fail
    refine HPart.out.mono ?_
    rintro en w3 ⟨rfl, h3⟩
    have HS := Lib.hid (WS.trans K2.out A2.out (G2.out.next h3))
    clear h3 d0
    go_wp2
    (first | go_end0 | refine bodyPost_ret (results_none rfl _ _ _) rfl ?_)
    rw [HX.out]
    exact ⟨rfl, HS.out⟩
end

theorem section_no_imports (p s f : Value) (ao : Option Addr) (cap : Nat) (w : World) : Calls Tryz.prog 81 #[p, s, .slice ao 0 cap, f] w fun e w' => e = .returned (.tuple #[]) ∧ w = w' := by
  go_enter Tryz.func81, Tryz.ntmps81
  go_wp2
  (first | go_end0 | refine bodyPost_ret (results_none rfl _ _ _) rfl ?_)
  exact ⟨rfl, rfl⟩

theorem section_no_funcs (p s f : Value) (ao : Option Addr) (cap : Nat) (w : World) : Calls Tryz.prog 83 #[p, s, .slice ao 0 cap, f] w fun e w' => e = .returned (.tuple #[]) ∧ w = w' := by
  go_enter Tryz.func83, Tryz.ntmps83
  go_wp2
  (first | go_end0 | refine bodyPost_ret (results_none rfl _ _ _) rfl ?_)
  exact ⟨rfl, rfl⟩

theorem section_no_globals (p s f : Value) (ao : Option Addr) (cap : Nat) (w : World) : Calls Tryz.prog 87 #[p, s, .slice ao 0 cap, f] w fun e w' => e = .returned (.tuple #[]) ∧ w = w' := by
  go_enter Tryz.func87, Tryz.ntmps87
  go_wp2
  (first | go_end0 | refine bodyPost_ret (results_none rfl _ _ _) rfl ?_)
  exact ⟨rfl, rfl⟩

theorem section_no_exports (p s f : Value) (ao : Option Addr) (cap : Nat) (w : World) : Calls Tryz.prog 89 #[p, s, .slice ao 0 cap, f] w fun e w' => e = .returned (.tuple #[]) ∧ w = w' := by
  go_enter Tryz.func89, Tryz.ntmps89
  go_wp2
  (first | go_end0 | refine bodyPost_ret (results_none rfl _ _ _) rfl ?_)
  exact ⟨rfl, rfl⟩

theorem section_no_datas (p s f : Value) (ao : Option Addr) (cap : Nat) (w : World) : Calls Tryz.prog 95 #[p, s, .slice ao 0 cap, f] w fun e w' => e = .returned (.tuple #[]) ∧ w = w' := by
  go_enter Tryz.func95, Tryz.ntmps95
  go_wp2
  (first | go_end0 | refine bodyPost_ret (results_none rfl _ _ _) rfl ?_)
  exact ⟨rfl, rfl⟩

theorem bodies_any (ao : Option Addr) (n cap : Nat) (w : World) : Calls Tryz.prog 94 #[.slice ao n cap] w fun e w' => e = .returned (.func (.func 147) #[] #[.pointer (some ⟨w.heap.size, 0, none⟩)]) ∧ w' = w.alloc (.cells #[.slice ao n cap] 23) := by
  have hmf : ∀ (fn : Fn) (first cap : Array Value) (w : World), (Instr.makeFunc fn first cap).run Tryz.prog w = .ok (.func fn first cap) w := fun _ _ _ _ => rfl
  go_enter Tryz.func94, Tryz.ntmps94
  go_wp2
  go_ret
  exact ⟨rfl, rfl⟩
end Go.Proofs.YtgcmdnkmnghhaaaGreatDoor.wm

/- The contracts of what holds two lists of types against each other, and of what looks whether they are few. -/
set_option linter.unusedVariables false
set_option linter.unusedSimpArgs false
namespace Go.Proofs.YtgcmdnkmnghhaaaGreatDoor.wm
open Go.RowKit Go.Proofs.YtgcmdnkmnghhaaaGreatDoor.lb

theorem take_eq_succ {α : Type} {l1 l2 : List α} {i : Nat} (h1 : i < l1.length) (h2 : i < l2.length) : l1.take (i + 1) = l2.take (i + 1) ↔ l1.take i = l2.take i ∧ l1[i] = l2[i] := by
  rw [List.take_succ_eq_append_getElem h1, List.take_succ_eq_append_getElem h2]
  constructor
  · intro h
    have := List.append_inj h (by simp [List.length_take]; omega)
    exact ⟨this.1, by simpa using this.2⟩
  · rintro ⟨h, e⟩; rw [h, e]
theorem ne_of_get {α : Type} {l1 l2 : List α} {i : Nat} (h1 : i < l1.length) (h2 : i < l2.length) (h : l1[i] ≠ l2[i]) : l1 ≠ l2 := fun e => by subst e; exact h rfl

set_option maxRecDepth 100000 in
set_option maxHeartbeats 1000000 in
theorem equal_ints (v1 v2 : Value) (l1 l2 : List Int) (w : World) (h1 : wi.Rd w v1 l1) (h2 : wi.Rd w v2 l2) (hl : l1.length ≤ 1048576) :
    Calls Tryz.prog 151 #[v1, v2] w fun e w' => e = .returned (.bool (decide (l1 = l2))) ∧ Below w.heap.size w w' := by
  obtain ⟨a1, k1, rfl, hc1, _, hd1⟩ := h1
  obtain ⟨a2, k2, rfl, hc2, _, hd2⟩ := h2
  by_cases hlen : l1.length = l2.length
  · have hne : ((l1.length : Int) != (l2.length : Int)) = false := by rw [bne_eq_false_iff_eq]; omega
    have HLen := Lib.hid hlen
    have H1 := Lib.hid hd1
    have H2 := Lib.hid hd2
    have HC1 := Lib.hid hc1
    have HC2 := Lib.hid hc2
    clear hlen hd1 hd2 hc1 hc2
    go_enter Tryz.func151, Tryz.ntmps151
    go_wp2
    go_loopw [13] (fun y wr => ∃ i : Nat, y = .int .i64 i ∧ i ≤ l1.length ∧ Hid (l1.take i = l2.take i) ∧ Hid (Below w.heap.size w wr)) (fun y _ => l1.length - (intOf y).toNat)
    case atStart => exact ⟨0, rfl, Nat.zero_le _, rfl, Below.refl _ _⟩
    case round =>
      obtain ⟨i, rfl, hi, HT, HB⟩ := hrel
      by_cases hlt : i < l1.length
      · have hlt2 : i < l2.length := by have := HLen.out; omega
        rcases H1.out with e | ⟨b1, o1, rfl, hg1⟩
        · subst e; simp at hlt
        rcases H2.out with e | ⟨b2, o2, rfl, hg2⟩
        · subst e; simp at hlt2
        have g1 := hg1 i hlt
        have g2 := hg2 i hlt2
        rw [← HB.out.cell (p := ⟨b1, o1 + i, none⟩) (World.block_lt_of_cell? w _ g1)] at g1
        rw [← HB.out.cell (p := ⟨b2, o2 + i, none⟩) (World.block_lt_of_cell? w _ g2)] at g2
        rw [List.getD_eq_getElem?_getD, List.getElem?_eq_getElem hlt] at g1
        rw [List.getD_eq_getElem?_getD, List.getElem?_eq_getElem hlt2] at g2
        change wr.cell? ⟨b1, o1 + i, none⟩ = some (.int .i64 l1[i]) at g1
        change wr.cell? ⟨b2, o2 + i, none⟩ = some (.int .i64 l2[i]) at g2
        have hilt : (i : Int) < l1.length := by omega
        have hilt2 : (i : Int) < l2.length := by omega
        have hi0 : (0 : Int) ≤ (i : Int) := Int.natCast_nonneg _
        have hcap1 := HC1.out
        have hcap2 := HC2.out
        have hT := take_eq_succ hlt hlt2
        have hN := fun h => ne_of_get hlt hlt2 h
        clear hg1 hg2
        by_cases hx : l1[i] = l2[i]
        · have hxe : (l1[i] != l2[i]) = false := by rw [bne_eq_false_iff_eq]; exact hx
          have HT2 := Lib.hid (hT.2 ⟨HT.out, hx⟩)
          clear hT hN hx HT
          generalize l1[i] = x at g1 hxe
          generalize l2[i] = y at g2 hxe
          go_wp2
          go_quiet (fail)
          go_wp2
          go_roundw
          case rel => exact ⟨i + 1, by go_num, by omega, HT2.out, HB.out.trans (belowN _ _)⟩
          case measure => simp [intOf]; omega
        · have hxe : (l1[i] != l2[i]) = true := by rw [bne_iff_ne]; exact hx
          have HN := Lib.hid (hN hx)
          clear hT hN hx HT
          generalize l1[i] = x at g1 hxe
          generalize l2[i] = y at g2 hxe
          go_wp2
          go_quiet (fail)
          go_wp2
          go_ret
          exact ⟨by rw [decide_eq_false HN.out]; rfl, HB.out.trans (belowN _ _)⟩
      · have hE := Lib.hid (show l1 = l2 by
          have := HT.out
          rw [List.take_of_length_le (by omega), List.take_of_length_le (by have := HLen.out; omega)] at this
          exact this)
        have hnl : ¬ (i : Int) < l1.length := by omega
        go_wp2
        go_ret
        exact ⟨by rw [decide_eq_true hE.out]; rfl, HB.out⟩
  · have hne : ((l1.length : Int) != (l2.length : Int)) = true := by rw [bne_iff_ne]; omega
    have HN := Lib.hid (show l1 ≠ l2 from fun e => hlen (by rw [e]))
    clear hlen hd1 hd2
    go_enter Tryz.func151, Tryz.ntmps151
    go_wp2
    go_ret
    exact ⟨by rw [decide_eq_false HN.out]; rfl, Below.refl _ _⟩

/-- a type's two lists -/
structure SV (w : World) (c0 c1 : Value) (s : GSig) : Prop where
  ins : wi.Rd w c0 s.ins
  outs : wi.Rd w c1 s.outs
  few : s.ins.length ≤ 1048576 ∧ s.outs.length ≤ 1048576
theorem SV.lift {w w' : World} {c0 c1 : Value} {s : GSig} (h : SV w c0 c1 s) (hb : Below w.heap.size w w') : SV w' c0 c1 s := ⟨h.ins.lift hb, h.outs.lift hb, h.few⟩

set_option maxRecDepth 100000 in
set_option maxHeartbeats 1000000 in
theorem sameSig_any (c0 c1 d0 d1 : Value) (s t : GSig) (w : World) (h : SV w c0 c1 s) (k : SV w d0 d1 t) :
    Calls Tryz.prog 98 #[.agg #[c0, c1], .agg #[d0, d1]] w fun e w' => e = .returned (.bool (decide (s = t))) ∧ Below w.heap.size w w' := by
  obtain ⟨a0, n0, rfl, _⟩ := id h.ins
  obtain ⟨a1, n1, rfl, _⟩ := id h.outs
  obtain ⟨a2, n2, rfl, _⟩ := id k.ins
  obtain ⟨a3, n3, rfl, _⟩ := id k.outs
  have B2 := made2 w (.cells #[.slice a0 s.ins.length n0, .slice a1 s.outs.length n1] 42) (.cells #[.slice a2 t.ins.length n2, .slice a3 t.outs.length n3] 42)
  have h1 := Blk.new 42 w #[.slice a0 s.ins.length n0, .slice a1 s.outs.length n1]
  have h2 := Blk.new 42 (w.alloc (.cells #[.slice a0 s.ins.length n0, .slice a1 s.outs.length n1] 42)) #[.slice a2 t.ins.length n2, .slice a3 t.outs.length n3]
  rw [show (w.alloc (.cells #[.slice a0 s.ins.length n0, .slice a1 s.outs.length n1] 42)).heap.size = w.heap.size + 1 by simp [go_sem]] at h2
  have h1 := h1.below (made1 _ (.cells #[.slice a2 t.ins.length n2, .slice a3 t.outs.length n3] 42))
  have HE := equal_ints _ _ s.ins t.ins _ (h.ins.lift B2) (k.ins.lift B2) h.few.1
  have HO := Lib.hid (fun w' hb => equal_ints _ _ s.outs t.outs w' ((h.outs.lift B2).lift hb) ((k.outs.lift B2).lift hb) h.few.2)
  have HB := Lib.hid B2
  have HB1 := Lib.hid h1
  have HB2 := Lib.hid h2
  have hst : s = t ↔ s.ins = t.ins ∧ s.outs = t.outs := by cases s; cases t; simp
  by_cases hi : s.ins = t.ins
  · rw [decide_eq_true hi] at HE
    have HE := Lib.hid HE
    have HX := Lib.hid (show decide (s = t) = decide (s.outs = t.outs) by by_cases ho : s.outs = t.outs <;> simp [hst, hi, ho])
    clear hst hi h k B2 h1 h2
    go_enter Tryz.func98, Tryz.ntmps98
    go_wp2_with fail
    refine HE.out.mono ?_
    rintro en w1 ⟨rfl, b1⟩
    have e1 := (HB1.out.below b1).c 1 rfl
    have e2 := (HB2.out.below b1).c 1 rfl
    have HO1 := Lib.hid (HO.out w1 b1)
    have HBB := Lib.hid (HB.out.trans (b1.mono HB.out.size))
    clear b1
    go_wp2_with fail
    refine HO1.out.mono ?_
    rintro en w2 ⟨rfl, b2⟩
    have HB3 := Lib.hid (HBB.out.trans (b2.mono HBB.out.size))
    clear b2 e1 e2
    go_wp2
    go_ret
    exact ⟨by rw [HX.out]; rfl, HB3.out⟩
  · rw [decide_eq_false hi] at HE
    have HE := Lib.hid HE
    have HX := Lib.hid (show decide (s = t) = false by simp [hst, hi])
    clear hst hi h k B2 h1 h2
    go_enter Tryz.func98, Tryz.ntmps98
    go_wp2_with fail
    refine HE.out.mono ?_
    rintro en w1 ⟨rfl, b1⟩
    have HBB := Lib.hid (HB.out.trans (b1.mono HB.out.size))
    clear b1
    go_wp2
    go_ret
    exact ⟨by rw [HX.out]; rfl, HBB.out⟩
end Go.Proofs.YtgcmdnkmnghhaaaGreatDoor.wm
