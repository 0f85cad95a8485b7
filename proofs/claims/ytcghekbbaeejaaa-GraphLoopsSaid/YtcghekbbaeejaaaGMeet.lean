/- Where the ways of two nodes to 0 meet, and of all of a list. -/
import Derived.Test.YtcghekbbaeejaaaGRep
set_option linter.unusedVariables false
set_option linter.unusedSimpArgs false
namespace Go.Proofs.Ytcghekbbaeejaaa.gr
open Go.RowKit Go.Proofs.Ytcghekbbaeejaaa.Gr

structure Dm (G : List (List Nat)) (ord : List Nat) (N P : List Int) : Prop where
  tree : Tree G ord N
  io : IsOrder G ord
  wf : WF G
  n : G.length ≤ 256
  plen : P.length = G.length
  place : ∀ x ∈ ord, P.getD x 0 = (ord.idxOf x : Int)
theorem Dm.nlen {G : List (List Nat)} {ord : List Nat} {N P : List Int} (D : Dm G ord N P) : N.length = G.length := D.tree.len
theorem Dm.mem {G : List (List Nat)} {ord : List Nat} {N P : List Int} (D : Dm G ord N P) {x : Nat} (h : known N x) : x ∈ ord ∧ x < G.length := by
  have : x ∈ ord := by
    rcases h with rfl | h
    · obtain ⟨tl, e⟩ := D.io.first; rw [e]; exact List.mem_cons_self ..
    · obtain ⟨_, _, h, _⟩ := D.tree.par x h; exact h
  exact ⟨this, ((D.io.mem x).1 this).lt⟩
theorem idx_inj {ord : List Nat} {a b : Nat} (ha : a ∈ ord) (hb : b ∈ ord) (h : ord.idxOf a = ord.idxOf b) : a = b := by
  have h1 := List.idxOf_lt_length_of_mem ha
  have h2 := List.idxOf_lt_length_of_mem hb
  have e1 := List.getElem_idxOf (xs := ord) (x := a) h1
  have e2 := List.getElem_idxOf (xs := ord) (x := b) h2
  rw [← e1, ← e2]; congr 1
theorem Dm.idx {G : List (List Nat)} {ord : List Nat} {N P : List Int} (D : Dm G ord N P) {x : Nat} (h : x ∈ ord) : ord.idxOf x < 256 := by
  have h1 := List.idxOf_lt_length_of_mem h
  have h2 := nodup_le G.length ord D.io.nodup (fun y hy => ((D.io.mem y).1 hy).lt)
  have := D.n; omega
/-- one step of the one that is farther behind -/
theorem Dm.step {G : List (List Nat)} {ord : List Nat} {N P : List Int} (D : Dm G ord N P) {a b : Nat} (ha : known N a) (h : ord.idxOf b < ord.idxOf a) :
    ∃ p : Nat, N.getD a (-1) = (p : Int) ∧ known N p ∧ ord.idxOf p < ord.idxOf a ∧ ∀ x, (Anc N x p ∧ Anc N x b) ↔ (Anc N x a ∧ Anc N x b) := by
  have h0 : a ≠ 0 := fun e => by
    subst e
    obtain ⟨tl, e⟩ := D.io.first
    rw [e] at h; simp at h
  obtain ⟨p, e, h1, h2, h3, h4, h5⟩ := D.tree.par a (by rcases ha with h' | h' <;> first | exact absurd h' h0 | exact h')
  refine ⟨p, e, h5, h4, fun x => ⟨fun ⟨k1, k2⟩ => ⟨.up e k1, k2⟩, fun ⟨k1, k2⟩ => ⟨?_, k2⟩⟩⟩
  rcases k1.cases with rfl | ⟨q, e', k1⟩
  · have := D.tree.le k2; omega
  · rw [e] at e'; have e' : p = q := Int.ofNat.inj e'; subst e'; exact k1

def Meets (N : List Int) (a b n : Nat) : Prop := known N n ∧ ∀ x, Anc N x n ↔ (Anc N x a ∧ Anc N x b)
def MeetP (N : List Int) (a b : Nat) (w : World) (e : Ending) (w' : World) : Prop := ∃ n : Nat, e = .returned (.int .i64 n) ∧ Meets N a b n ∧ Below w.heap.size w w'

theorem getD_dflt {l : List Int} {k : Nat} (h : k < l.length) (d e : Int) : l.getD k d = l.getD k e := by
  rw [List.getD_eq_getElem?_getD, List.getD_eq_getElem?_getD, List.getElem?_eq_getElem h]; rfl

set_option maxRecDepth 100000 in
set_option maxHeartbeats 8000000 in
theorem meet_any (G : List (List Nat)) (ord : List Nat) (N P : List Int) (nv pv : Value) (a b : Nat) (w : World) (D : Dm G ord N P) (hN : gi.Rd w nv N) (hP : gi.Rd w pv P) (ha : known N a) (hb : known N b) :
    Calls Try.prog 41 #[.agg #[nv, pv], .int .i64 (a : Nat), .int .i64 (b : Nat)] w (MeetP N a b w) := by
  have HNL := Lib.hid D.nlen
  have HPL := Lib.hid D.plen
  have HD := Lib.hid D
  obtain ⟨an, cn, rfl, hcn, _, hdn⟩ := hN
  obtain ⟨ap, cp, rfl, hcp, _, hdp⟩ := hP
  rw [HNL.out] at hcn ⊢
  rw [HPL.out] at hcp ⊢
  have hn := D.n
  have HN := Lib.hid hdn
  have HP := Lib.hid hdp
  have HCN := Lib.hid hcn
  have HCP := Lib.hid hcp
  have HA := Lib.hid ha
  have HB := Lib.hid hb
  clear D hdn hdp hcn hcp ha hb
  go_enter Try.func41, Try.ntmps41
  go_wp2
  have HW1 : Hid (Below w.heap.size w (w.alloc (.cells #[.slice an G.length cn, .slice ap G.length cp] 65))) := bnextA (Below.refl _ _) _
  have C0 : Hid ((w.alloc (.cells #[.slice an G.length cn, .slice ap G.length cp] 65)).cell? ⟨w.heap.size, 0, none⟩ = some (.slice an G.length cn)) := by
    show _ = _
    rw [cell_of_row _ w.heap.size 0 _ 65 (0, 0) (heap_alloc_new w _)]; rfl
  have C1 : Hid ((w.alloc (.cells #[.slice an G.length cn, .slice ap G.length cp] 65)).cell? ⟨w.heap.size, 1, none⟩ = some (.slice ap G.length cp)) := by
    show _ = _
    rw [cell_of_row _ w.heap.size 1 _ 65 (0, 0) (heap_alloc_new w _)]; rfl
  have hsz : (w.alloc (.cells #[.slice an G.length cn, .slice ap G.length cp] 65)).heap.size = w.heap.size + 1 := by simp
  generalize w.alloc _ = W1 at HW1 C0 C1 hsz ⊢
  have HSZ := Lib.hid hsz
  clear hsz
  go_loopw [1, 2] (fun y z wr => ∃ x1 x2 : Nat, y = .int .i64 x1 ∧ z = .int .i64 x2 ∧ Hid (known N x1) ∧ Hid (known N x2) ∧ Hid (∀ x, (Anc N x x1 ∧ Anc N x x2) ↔ (Anc N x a ∧ Anc N x b)) ∧ Hid (Below W1.heap.size W1 wr)) (fun y z _ => ord.idxOf (intOf y).toNat + ord.idxOf (intOf z).toNat)
  case atStart => exact ⟨a, b, rfl, rfl, HA, HB, Lib.hid (fun x => Iff.rfl), Lib.hid (Below.refl _ _)⟩
  case round =>
    obtain ⟨x1, x2, rfl, rfl, K1, K2, HI, HBW⟩ := hrel
    by_cases he : x1 = x2
    · subst he
      have hne : ((x1 : Int) != (x1 : Int)) = false := by rw [bne_eq_false_iff_eq]
      have HM : Hid (Meets N a b x1) := ⟨K1.out, fun x => by rw [← HI.out x]; exact ⟨fun h => ⟨h, h⟩, fun h => h.1⟩⟩
      clear K1 K2 HI
      go_wp2
      go_ret
      exact ⟨x1, rfl, HM.out, HW1.out.trans (HBW.out.mono HW1.out.size)⟩
    · have hne : ((x1 : Int) != (x2 : Int)) = true := by rw [bne_iff_ne]; omega
      obtain ⟨o1, l1⟩ := HD.out.mem K1.out
      obtain ⟨o2, l2⟩ := HD.out.mem K2.out
      have i1 := HD.out.idx o1
      have i2 := HD.out.idx o2
      have p1 := HD.out.place x1 o1
      have p2 := HD.out.place x2 o2
      have hidx : ord.idxOf x1 ≠ ord.idxOf x2 := fun e => he (idx_inj o1 o2 e)
      rcases HN.out with e | ⟨bn, on, rfl, hgn⟩
      · have := HNL.out; rw [e] at this; simp at this; omega
      rcases HP.out with e | ⟨bp, op, rfl, hgp⟩
      · have := HPL.out; rw [e] at this; simp at this; omega
      have c0 := C0.out
      have c1 := C1.out
      rw [← HBW.out.cell (p := ⟨w.heap.size, 0, none⟩) (by rw [HSZ.out]; exact Nat.lt_succ_self _)] at c0
      rw [← HBW.out.cell (p := ⟨w.heap.size, 1, none⟩) (by rw [HSZ.out]; exact Nat.lt_succ_self _)] at c1
      have old : ∀ (b o : Nat) (u : Value), w.cell? ⟨b, o, none⟩ = some u → wr.cell? ⟨b, o, none⟩ = some u := fun b o u hu => by
        have hlt := World.block_lt_of_cell? w _ hu
        rw [(HW1.out.trans (HBW.out.mono HW1.out.size)).cell (p := ⟨b, o, none⟩) hlt]; exact hu
      have g1 := old _ _ _ (hgp x1 (by rw [HPL.out]; exact l1))
      have g2 := old _ _ _ (hgp x2 (by rw [HPL.out]; exact l2))
      rw [p1] at g1
      rw [p2] at g2
      have n1 := old _ _ _ (hgn x1 (by rw [HNL.out]; exact l1))
      have n2 := old _ _ _ (hgn x2 (by rw [HNL.out]; exact l2))
      have hcn := HCN.out
      have hcp := HCP.out
      rcases Nat.lt_or_ge (ord.idxOf x2) (ord.idxOf x1) with hlt | hge
      · obtain ⟨p, e1, e2, e3, e4⟩ := HD.out.step (b := x2) K1.out hlt
        rw [getD_dflt (by rw [HNL.out]; exact l1) 0 (-1), e1] at n1
        have HE2 := Lib.hid e2
        have HE4 : Hid (∀ x, (Anc N x p ∧ Anc N x x2) ↔ (Anc N x a ∧ Anc N x b)) := fun x => (e4 x).trans (HI.out x)
        have hltI : ((ord.idxOf x2 : Nat) : Int) < (ord.idxOf x1 : Nat) := by omega
        have HLT := Lib.hid e3
        clear old hgp hgn he p1 p2 hidx e1 e2 e3 e4 o1 o2 n2 HI K1
        go_wp2
        go_quiet (fail)
        go_wp2
        have h3 := HLT.out
        exact ⟨⟨p, x2, rfl, rfl, HE2, K2, HE4, Lib.hid (HBW.out.trans (belowN _ _))⟩, by simp [intOf]; omega⟩
      · have hlt : ord.idxOf x1 < ord.idxOf x2 := by omega
        obtain ⟨p, e1, e2, e3, e4⟩ := HD.out.step (b := x1) K2.out hlt
        rw [getD_dflt (by rw [HNL.out]; exact l2) 0 (-1), e1] at n2
        have HE2 := Lib.hid e2
        have HE4 : Hid (∀ x, (Anc N x x1 ∧ Anc N x p) ↔ (Anc N x a ∧ Anc N x b)) := fun x => by rw [← HI.out x, and_comm, e4 x, and_comm]
        have hltI : ¬ ((ord.idxOf x2 : Nat) : Int) < (ord.idxOf x1 : Nat) := by omega
        have HLT := Lib.hid e3
        clear old hgp hgn he p1 p2 hidx e1 e2 e3 e4 o1 o2 n1 HI K2
        go_wp2
        go_quiet (fail)
        go_wp2
        have h3 := HLT.out
        exact ⟨⟨x1, p, rfl, rfl, K1, HE2, HE4, Lib.hid (HBW.out.trans (belowN _ _))⟩, by simp [intOf]; omega⟩

theorem meet_none {N : List Int} {l : List Nat} {r : Int} {i : Nat} (h : MeetAll N (l.take i) r) (hi : i < l.length) (hk : ¬ known N l[i]) : MeetAll N (l.take (i + 1)) r := by
  rw [List.take_succ_eq_append_getElem hi]
  rcases h with ⟨e, h⟩ | ⟨n, e, ⟨p, hp, hpk⟩, h⟩
  · refine .inl ⟨e, fun p hp => ?_⟩
    rcases List.mem_append.1 hp with hp | hp
    · exact h p hp
    · rw [List.mem_singleton] at hp; subst hp; exact hk
  · refine .inr ⟨n, e, ⟨p, List.mem_append_left _ hp, hpk⟩, fun x => (h x).trans ⟨fun h' q hq hqk => ?_, fun h' q hq => h' q (List.mem_append_left _ hq)⟩⟩
    rcases List.mem_append.1 hq with hq | hq
    · exact h' q hq hqk
    · rw [List.mem_singleton] at hq; subst hq; exact absurd hqk hk
theorem meet_first {N : List Int} {l : List Nat} {i : Nat} (h : MeetAll N (l.take i) (-1)) (hi : i < l.length) (hk : known N l[i]) : MeetAll N (l.take (i + 1)) (l[i] : Nat) := by
  rw [List.take_succ_eq_append_getElem hi]
  rcases h with ⟨_, h⟩ | ⟨n, e, _⟩
  · refine .inr ⟨l[i], rfl, ⟨l[i], List.mem_append_right _ (List.mem_singleton.2 rfl), hk⟩, fun x => ⟨fun h' q hq hqk => ?_, fun h' => h' l[i] (List.mem_append_right _ (List.mem_singleton.2 rfl)) hk⟩⟩
    rcases List.mem_append.1 hq with hq | hq
    · exact absurd hqk (h q hq)
    · rw [List.mem_singleton] at hq; subst hq; exact h'
  · omega
theorem meet_more {N : List Int} {l : List Nat} {i n m : Nat} (h : MeetAll N (l.take i) (n : Int)) (hi : i < l.length) (hk : known N l[i]) (hm : Meets N n l[i] m) : MeetAll N (l.take (i + 1)) (m : Int) := by
  rw [List.take_succ_eq_append_getElem hi]
  rcases h with ⟨e, _⟩ | ⟨n', e, ⟨p, hp, hpk⟩, h⟩
  · omega
  · have e : n = n' := Int.ofNat.inj e
    subst e
    refine .inr ⟨m, rfl, ⟨p, List.mem_append_left _ hp, hpk⟩, fun x => (hm.2 x).trans ⟨fun ⟨k1, k2⟩ q hq hqk => ?_, fun h' => ⟨(h x).2 fun q hq => h' q (List.mem_append_left _ hq), h' l[i] (List.mem_append_right _ (List.mem_singleton.2 rfl)) hk⟩⟩⟩
    rcases List.mem_append.1 hq with hq | hq
    · exact (h x).1 k1 q hq hqk
    · rw [List.mem_singleton] at hq; subst hq; exact k2
theorem meet_known {G : List (List Nat)} {ord : List Nat} {N : List Int} (T : Tree G ord N) {l : List Nat} {n : Nat} (h : MeetAll N l (n : Int)) : known N n := by
  rcases h with ⟨e, _⟩ | ⟨n', e, ⟨p, hp, hpk⟩, h⟩
  · omega
  · have e : n = n' := Int.ofNat.inj e
    subst e
    exact T.kn ((h n).1 .refl p hp hpk) hpk

def MeetAllP (N : List Int) (l : List Nat) (w : World) (e : Ending) (w' : World) : Prop := ∃ r : Int, e = .returned (.int .i64 r) ∧ MeetAll N l r ∧ Below w.heap.size w w'
theorem known_dec {N : List Int} {x : Nat} (h : x < N.length) : known N x ↔ (decide (x = 0) || decide (N.getD x 0 ≠ -1)) = true := by
  unfold known
  rw [Bool.or_eq_true, decide_eq_true_eq, decide_eq_true_eq, getD_dflt h 0 (-1)]
end Go.Proofs.Ytcghekbbaeejaaa.gr
