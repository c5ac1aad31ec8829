/-
  What becomes of a Heavy and a name. Nothing of the program's text is proved here.
  A Heavy that is built up in its box, by appends.
  Contract: spec.l15Less.
  A Heavy of the call's own in its box, and the stores into it.
  Contract: spec.l15Add.
  Contracts: impl.isLetter, impl.isWord, impl.isName: what a name is.
  Contracts: spec.l1In, spec.l3Name.
  Contract: spec.l1In.
-/
import Derived.Test.YticgejaaoamhmaoBundle2
import Derived.Deep.RegionHeld3
import Derived.Deep.DeepCutAuto
import Derived.Laws.OwnMore
import Derived.Shelf.Abstract
import Derived.Test.YticgejaaoamhmaoBundle1
namespace Go.Proofs.Yticgejaaoamhmao.L15H
open Go.RowKit L1 Own Str
set_option linter.unusedVariables false

/-- Who is left of the first ones, when one is taken from each. -/
def lfN (h : Hv) : Nat → List ByteArray
  | 0 => []
  | k + 1 => if 1 < ca h k then lfN h k ++ [na h k] else lfN h k
def lfC (h : Hv) : Nat → List Int
  | 0 => []
  | k + 1 => if 1 < ca h k then lfC h k ++ [ca h k - 1] else lfC h k
theorem lf_len (h : Hv) : ∀ k, (lfN h k).length = (lfC h k).length ∧ (lfC h k).length ≤ k
  | 0 => by simp [lfN, lfC]
  | k + 1 => by
    have h1 := lf_len h k
    unfold lfN lfC
    split
    · simp; omega
    · omega
/-- One taken from each. -/
def lessH (h : Hv) (n : Nat) : Hv := ⟨lfN h n ++ List.replicate (n - (lfC h n).length) e0, lfC h n ++ List.replicate (n - (lfC h n).length) 0, h.g + 1, h.t⟩
def incH (h : Hv) (p : Nat) : Hv := ⟨h.nm, h.ct.set p (ca h p + 1), h.g, h.t⟩
def putL {α : Type} (l : List α) (p : Nat) (s : α) : List α := (l.take p ++ s :: l.drop p).take l.length
def putH (h : Hv) (p : Nat) (s : ByteArray) : Hv := ⟨putL h.nm p s, putL h.ct p 1, h.g, h.t⟩
abbrev upH (h : Hv) : Hv := ⟨h.nm, h.ct, h.g, h.t + 1⟩
/-- What becomes of a Heavy of n places, tk of them taken, and a name whose place is p. -/
def addH (h : Hv) (n tk p : Nat) (s : ByteArray) : Hv :=
  if p < tk ∧ na h p = s then incH (upH h) p else if tk < n then putH (upH h) p s else lessH (upH h) n
theorem putL_len {α : Type} (l : List α) (p : Nat) (s : α) : (putL l p s).length = l.length := by
  unfold putL
  simp
  omega
theorem putL_at {α : Type} (l : List α) (p : Nat) (s d : α) (j : Nat) (hj : j < l.length) : (putL l p s).getD j d = if j < p then l.getD j d else if j = p then s else l.getD (j - 1) d := by
  unfold putL
  simp only [List.getD, List.getElem?_take, hj, if_true]
  by_cases h1 : j < p
  · rw [if_pos h1, List.getElem?_append_left (by simp; omega), List.getElem?_take, if_pos h1]
  · rw [if_neg h1, List.getElem?_append_right (by simp; omega)]
    by_cases hp : p ≤ l.length
    · rw [show (l.take p).length = p by simp; omega]
      by_cases h2 : j = p
      · subst h2
        simp
      · rw [if_neg h2, show j - p = (j - 1 - p) + 1 by omega, List.getElem?_cons_succ, List.getElem?_drop, show p + (j - 1 - p) = j - 1 by omega]
    · omega
theorem ext_getD {α : Type} (d : α) {l m : List α} (hl : l.length = m.length) (h : ∀ j, j < m.length → l.getD j d = m.getD j d) : l = m := by
  apply List.ext_getElem hl
  intro i h1 h2
  have := h i h2
  simpa [List.getD, List.getElem?_eq_getElem h1, List.getElem?_eq_getElem h2] using this
/-- Those behind a place are moved on by one, as far as to the place i. -/
structure Sh {α : Type} (d : α) (l Q : List α) (i : Nat) : Prop where
  len : Q.length = l.length
  at_ : ∀ j, j < l.length → Q.getD j d = if j ≤ i then l.getD j d else l.getD (j - 1) d
theorem sh_start {α : Type} (d : α) (l : List α) : Sh d l l (l.length - 1) := ⟨rfl, fun j hj => by rw [if_pos (by omega)]⟩
theorem getD_setX {α : Type} (d : α) (l : List α) (i j : Nat) (x : α) (hi : i < l.length) : (l.set i x).getD j d = if j = i then x else l.getD j d := by
  by_cases e : j = i
  · subst e
    simp [List.getD, hi]
  · rw [if_neg e]
    simp [List.getD, Ne.symm e]
theorem Sh.step {α : Type} {d : α} {l Q : List α} {i : Nat} (h : Sh d l Q i) (hi : 0 < i) (hl : i < l.length) : Sh d l (Q.set i (Q.getD (i - 1) d)) (i - 1) :=
  ⟨by simp [h.len], fun j hj => by
    rw [getD_setX d Q i j _ (by rw [h.len]; exact hl)]
    by_cases e : j = i
    · subst e
      rw [if_pos rfl, h.at_ (j - 1) (by omega), if_pos (by omega), if_neg (by omega)]
    · rw [if_neg e, h.at_ j hj]
      by_cases h1 : j ≤ i
      · rw [if_pos h1, if_pos (by omega)]
      · rw [if_neg h1, if_neg (by omega)]⟩
theorem Sh.put {α : Type} {d : α} {l Q : List α} {p : Nat} {s : α} (h : Sh d l Q p) (hp : p < l.length) : Q.set p s = putL l p s :=
  ext_getD d (by rw [putL_len]; simp [h.len]) (fun j hj => by
    rw [putL_len] at hj
    rw [getD_setX d Q p j _ (by rw [h.len]; exact hp), putL_at l p s d j hj]
    by_cases e : j = p
    · subst e
      rw [if_pos rfl, if_neg (by omega), if_pos rfl]
    · rw [if_neg e, h.at_ j hj, if_neg e]
      by_cases h1 : j < p
      · rw [if_pos (by omega), if_pos h1]
      · rw [if_neg (by omega), if_neg h1])
/-- Moved on by one between p and tk, where all behind tk are alike. -/
theorem moved_sh {α : Type} {d : α} {l Q : List α} {p tk : Nat} (hl : Q.length = l.length) (hpt : p ≤ tk) (htl : tk < l.length) (hlo : ∀ j, j ≤ p → Q.getD j d = l.getD j d) (hmid : ∀ j, p < j → j ≤ tk → Q.getD j d = l.getD (j - 1) d)
    (hhi : ∀ j, tk < j → j < l.length → Q.getD j d = l.getD j d) (he : ∀ j, tk ≤ j → j < l.length → l.getD j d = d) : Sh d l Q p :=
  ⟨hl, fun j hj => by
    by_cases h1 : j ≤ p
    · rw [if_pos h1, hlo j h1]
    · rw [if_neg h1]
      by_cases h2 : j ≤ tk
      · exact hmid j (by omega) h2
      · rw [hhi j (by omega) hj, he j (by omega) hj, he (j - 1) (by omega) (by omega)]⟩
/-- A name that is there stands at its place. -/
theorem there_at {h : Hv} {n m tk p i : Nat} {s : ByteArray} (g : GoodHv h n m) (hk : IsTk h.nm n tk) (hp : IsAt h.nm tk s p) (hs : s ≠ e0) (hi : i < n) (e : na h i = s) : i = p ∧ p < tk := by
  have ht : i < tk := by
    rcases Nat.lt_or_ge i tk with h1 | h1
    · exact h1
    · exact absurd (e.symm.trans (g.tail hk i h1 hi).1) hs
  have hr := g.rise hk
  have h1 : IsAt h.nm tk s i := ⟨by omega, fun j hj => by
      have := hr j i hj ht
      rw [show h.nm.getD i e0 = s from e] at this
      exact this, fun j hj hjt q => by
      rcases Nat.lt_or_ge i j with h2 | h2
      · have := hr i j h2 hjt
        rw [show h.nm.getD i e0 = s from e] at this
        exact ahead_irrefl _ (ahead_trans this q)
      · obtain rfl : i = j := by omega
        rw [show h.nm.getD i e0 = s from e] at q
        exact ahead_irrefl _ q⟩
  have := at_uniq h1 hp
  exact ⟨this, by omega⟩
theorem addH_len {h : Hv} {n m tk p : Nat} {s : ByteArray} (hn : h.nm.length = n) (hm : h.ct.length = n) : (addH h n tk p s).nm.length = n ∧ (addH h n tk p s).ct.length = n := by
  unfold addH
  have h1 := lf_len (upH h) n
  split
  · simp [incH, hn, hm]
  · split
    · simp [putH, putL_len, hn, hm]
    · simp [lessH]
      omega
end Go.Proofs.Yticgejaaoamhmao.L15H

namespace Go.Proofs.Yticgejaaoamhmao.L15H
open Go.RowKit L1 Own Str
set_option linter.unusedVariables false

/-- The argument in its box, the result's box, what is built in its own. -/
structure LsB (w x : World) (A : Obj) (v u : Value) (q r : Nat) (L1 : List ByteArray) (L2 : List Int) (G T : Int) : Prop where
  A : x.heap[w.heap.size]? = some A
  Z : x.heap[w.heap.size + 1]? = some (hvO (.slice none 0 0) (.slice none 0 0) 0 0)
  R : x.heap[w.heap.size + 1 + 1]? = some (hvO v u G T)
  N : x.ownsRow (w.heap.size + 3) 9 1 v q (mapS L1)
  C : x.ownsRow (w.heap.size + 3) 3 1 u r (ints L2)
  S : w.heap.size + 3 ≤ x.heap.size
  B : Below w.heap.size w x
section
variable {w x y : World} {A : Obj} {v u : Value} {q r : Nat} {L1 : List ByteArray} {L2 : List Int} {G T : Int}
theorem LsB.below (k : LsB w x A v u q r L1 L2 G T) (hb : Below x.heap.size x y) : LsB w y A v u q r L1 L2 G T :=
  ⟨blk_kept k.A hb, blk_kept k.Z hb, blk_kept k.R hb, own_belO k.N hb, own_belO k.C hb, Nat.le_trans k.S hb.size, k.B.trans (hb.mono k.B.size)⟩
theorem LsB.one (k : LsB w x A v u q r L1 L2 G T) (o : Obj) : LsB w (x.alloc o) A v u q r L1 L2 G T := k.below ((Below.refl _ _).alloc (Nat.le_refl _) o)
theorem LsB.lo (k : LsB w x A v u q r L1 L2 G T) : (∀ g, v.ownBlock = some g → w.heap.size + 3 ≤ g) ∧ ∀ g, u.ownBlock = some g → w.heap.size + 3 ≤ g := ⟨fun g h => own_ge k.N g h, fun g h => own_ge k.C g h⟩
theorem LsB.midN (k : LsB w x A v u q r L1 L2 G T) (hg : x.grownBy y v.ownBlock) : y.heap[w.heap.size + 1 + 1]? = some (hvO v u G T) := blk_grownH k.R hg (fun e => by have := k.lo.1 _ e; omega)
theorem LsB.midC (k : LsB w x A v u q r L1 L2 G T) (hg : x.grownBy y u.ownBlock) : y.heap[w.heap.size + 1 + 1]? = some (hvO v u G T) := blk_grownH k.R hg (fun e => by have := k.lo.2 _ e; omega)
theorem LsB.bel (k : LsB w x A v u q r L1 L2 G T) {z : Value} (hz : ∀ g, z.ownBlock = some g → w.heap.size + 3 ≤ g) (hg : x.grownBy y z.ownBlock) : Below w.heap.size w y := k.B.grown hg k.B.size (fun g h => by have := hz g h; omega)
theorem LsB.appN (k : LsB w x A v u q r L1 L2 G T) {v' : Value} {q' : Nat} {L1' : List ByteArray} (hr : y.ownsRow (w.heap.size + 3) 9 1 v' q' (mapS L1')) (hg : x.grownBy y v.ownBlock) : LsB w (y.setCell ⟨w.heap.size + 1 + 1, 0, none⟩ v') A v' u q' r L1' L2 G T := by
  have hl := k.lo.1
  have hC : y.ownsRow (w.heap.size + 3) 3 1 u r (ints L2) := L8.own_kept k.C hg (fun b hb e => L8.own_two k.N k.C st_int b e hb)
  refine ⟨?_, ?_, heap_boxO (k.midN hg) 0 _, L8.own_setC hr _ _ (by simp), L8.own_setC hC _ _ (by simp), ?_, (k.bel hl hg).setCell (by show w.heap.size ≤ w.heap.size + 1 + 1; omega) _⟩
  · rw [Below.heap_setCell _ _ _ _ (by show w.heap.size ≠ w.heap.size + 1 + 1; omega)]; exact blk_grownH k.A hg (fun e => by have := hl _ e; omega)
  · rw [Below.heap_setCell _ _ _ _ (by show w.heap.size + 1 ≠ w.heap.size + 1 + 1; omega)]; exact blk_grownH k.Z hg (fun e => by have := hl _ e; omega)
  · rw [World.size_setCell]; exact Nat.le_trans k.S hg.size
theorem LsB.appC (k : LsB w x A v u q r L1 L2 G T) {u' : Value} {r' : Nat} {L2' : List Int} (hr : y.ownsRow (w.heap.size + 3) 3 1 u' r' (ints L2')) (hg : x.grownBy y u.ownBlock) : LsB w (y.setCell ⟨w.heap.size + 1 + 1, 1, none⟩ u') A v u' q r' L1 L2' G T := by
  have hl := k.lo.2
  have hN : y.ownsRow (w.heap.size + 3) 9 1 v q (mapS L1) := L8.own_kept k.N hg (fun b hb e => L8.own_two k.N k.C st_int b hb e)
  refine ⟨?_, ?_, heap_boxO (k.midC hg) 1 _, L8.own_setC hN _ _ (by simp), L8.own_setC hr _ _ (by simp), ?_, (k.bel hl hg).setCell (by show w.heap.size ≤ w.heap.size + 1 + 1; omega) _⟩
  · rw [Below.heap_setCell _ _ _ _ (by show w.heap.size ≠ w.heap.size + 1 + 1; omega)]; exact blk_grownH k.A hg (fun e => by have := hl _ e; omega)
  · rw [Below.heap_setCell _ _ _ _ (by show w.heap.size + 1 ≠ w.heap.size + 1 + 1; omega)]; exact blk_grownH k.Z hg (fun e => by have := hl _ e; omega)
  · rw [World.size_setCell]; exact Nat.le_trans k.S hg.size
theorem LsB.midA (k : LsB w x A v u q r L1 L2 G T) {z : Value} (hg : x.grownBy y z.ownBlock) (hz : ∀ g, z.ownBlock = some g → w.heap.size + 3 ≤ g) : y.heap[w.heap.size]? = some A := blk_grownH k.A hg (fun e => by have := hz _ e; omega)
theorem oper_append_H {t e : TypeId} {z : Value} {bytes : Nat} (kk : ApT t e z bytes) {o : Oper} {a : Act} {K : Act → World → Prop} {Q : Exit → Act → World → Prop} {w : World} (s x : Operand)
    (ho : o.op = .call { callee := .builtin .append, args := #[s, x], argTypes := #[t, t] })
    (base : Nat) (v : Value) (nv : Nat) (ys : List Value) (hs : a.eval s = v) (hown : w.ownsRow base e 1 v nv ys)
    (ax : Option Addr) (m c : Nat) (hx : a.eval x = .slice ax m c) (zs : List Value) (hz : zs.length = m) (hcells : 0 < m → ∃ ad, ax = some ad ∧ ∀ j u, zs[j]? = some u → w.cell? (ad.add j) = some u) (h1 : ∀ u ∈ zs, u.oneCell' = true)
    (hsm : nv + m ≤ 2097152) (hbase : base ≤ w.heap.size)
    (h : ∀ v' w', w'.ownsRow base e 1 v' (nv + m) (ys ++ zs) → w.grownBy w' v.ownBlock → (v'.ownBlock = v.ownBlock ∨ v'.ownBlock = some w.heap.size) → K (a.put o.dst v') w') : Oper.wp Try.prog o a w K Q := by
  by_cases h0 : m = 0
  · subst h0
    have hz0 : zs = [] := List.eq_nil_of_length_eq_zero (by omega)
    subst hz0
    obtain ⟨av, cv, rfl, hle⟩ := own_capH hown
    unfold Oper.wp execOp
    simp only [ho, resolve, invoke, builtin, Sem.run_bind, Sem.run_pure, Result.andThen_ok, List.map_toArray, List.map_cons, List.map_nil, hs, hx, app_noneH kk o.type av ax nv cv c hle w]
    exact h (.slice av nv cv) w (by rw [List.append_nil]; exact hown) (World.grownBy.refl _ _) (.inl rfl)
  · obtain ⟨i0, hi, hz0, hz1, hz2⟩ := kk.hi
    obtain ⟨ad, rfl, hc⟩ := hcells (by omega)
    have hb := kk.hb
    obtain ⟨v', w', hr, h2, h3, _, h5⟩ := run_append_own_at (P := Try.prog) w base t o.type e i0 z 1 bytes kk.ht hi hz0 hz1 hz2 kk.hz (by decide) v nv ys hown ad m c zs (by omega) hc h1 (by unfold maxLen; omega) (Nat.le_trans (Nat.mul_le_mul (show nv + m ≤ 2097152 from hsm) hb) (by decide)) hbase
    unfold Oper.wp execOp
    simp only [ho, resolve, invoke, builtin, Sem.run_bind, Sem.run_pure, Result.andThen_ok, List.map_toArray, List.map_cons, List.map_nil, hs, hx, hr]
    exact h v' w' h2 h3 h5
theorem mapS_more (l : List ByteArray) (x : ByteArray) : mapS l ++ [.string x] = mapS (l ++ [x]) := by simp [mapS]
theorem ints_more (l : List Int) (x : Int) : ints l ++ [.int .i64 x] = ints (l ++ [x]) := by simp
/-- How long the first row of a box is. -/
def slLen : Option Value → Nat
  | some (.slice _ n _) => n
  | _ => 0
end
end Go.Proofs.Yticgejaaoamhmao.L15H

namespace Go.Proofs.Yticgejaaoamhmao.L15H
open Go.RowKit L1 Own Str
set_option linter.unusedVariables false

set_option maxRecDepth 100000 in
set_option maxHeartbeats 8000000 in
theorem l15Less_any (a : Option Addr) (n c : Nat) (b : Option Addr) (m d : Nat) (G T : Int) (h : Hv) (w : World) (hf : HF w a b n m h) (hmn : m = n) (hn2 : n ≤ 100000) (hG : 0 ≤ G ∧ G ≤ 1000000) (hct : ∀ i, i < n → 0 ≤ ca h i ∧ ca h i ≤ 1000000) (hg : h.g = G) (ht : h.t = T) :
    Calls Try.prog 65 #[.agg #[.slice a n c, .slice b m d, .int .i64 G, .int .i64 T]] w fun e w' => ∃ v u, e = .returned (hvV v u (G + 1) T) ∧ OwH w' w.heap.size v u n m (lessH h n) ∧ Below w.heap.size w w' := by
  obtain ⟨Z, hZ⟩ : ∃ x, x = hvO (.slice none 0 0) (.slice none 0 0) 0 0 := ⟨_, rfl⟩
  obtain ⟨Y, hY⟩ : ∃ x, x = hvO (.slice none 0 0) (.slice none 0 0) (G + 1) T := ⟨_, rfl⟩
  have q1 := L8.blk_new w (hvO (.slice a n c) (.slice b m d) G T)
  have q2 := L8.blk_new (w.alloc (hvO (.slice a n c) (.slice b m d) G T)) Z
  have q3 := L8.blk_new ((w.alloc (hvO (.slice a n c) (.slice b m d) G T)).alloc Z) Y
  have k2 := blk_kept q2 ((Below.refl _ _).alloc (Nat.le_refl _) Y)
  have k1 := blk_kept (blk_kept q1 ((Below.refl _ _).alloc (Nat.le_refl _) Z)) ((Below.refl _ _).alloc (Nat.le_refl _) Y)
  have e1 : (w.alloc (hvO (.slice a n c) (.slice b m d) G T)).heap.size = w.heap.size + 1 := by simp
  have e2 : ((w.alloc (hvO (.slice a n c) (.slice b m d) G T)).alloc Z).heap.size = w.heap.size + 1 + 1 := by simp
  have ez : (((w.alloc (hvO (.slice a n c) (.slice b m d) G T)).alloc Z).alloc Y).heap.size = w.heap.size + 3 := by simp
  have BX := (((Below.refl w.heap.size w).alloc (Nat.le_refl _) (hvO (.slice a n c) (.slice b m d) G T)).alloc (by simp) Z).alloc (by simp; omega) Y
  rw [e1] at k2
  rw [e2] at q3
  have p1 := blk_kept q1 ((Below.refl _ _).alloc (Nat.le_refl _) Z)
  obtain ⟨W0, hW0⟩ : ∃ W0, W0 = ((w.alloc (hvO (.slice a n c) (.slice b m d) G T)).alloc Z).alloc Y := ⟨_, rfl⟩
  rw [← hW0] at BX q3 k1 k2 ez
  rw [hZ] at k2
  rw [hY] at q3
  obtain ⟨V0, hV0⟩ : ∃ V0, V0 = (w.alloc (hvO (.slice a n c) (.slice b m d) G T)).alloc Z := ⟨_, rfl⟩
  rw [← hV0] at hW0 p1 e2
  rw [hZ] at hV0
  rw [hY] at hW0
  have HV := hide hV0
  have HW := hide hW0
  have P1 := hide p1
  have EV := hide e2
  have LB0 := hide (show LsB w W0 (hvO (.slice a n c) (.slice b m d) G T) (.slice none 0 0) (.slice none 0 0) 0 0 (lfN h 0) (lfC h 0) (G + 1) T from ⟨k1, k2, q3, World.ownsRow_nil _ _ _ _, World.ownsRow_nil _ _ _ _, Nat.le_of_eq ez.symm, BX⟩)
  have HF0 := hide hf
  have HCT := hide hct
  have HGT := hide (And.intro hg ht)
  subst hmn
  clear BX hW0 hV0 q1 q2 q3 k1 k2 p1 e1 e2 ez hZ hY hf hct hg ht
  go_enter Try.func65, Try.ntmps65
  go_upto_region 1 with fail
  rw [← HV.out]
  obtain ⟨p0, p1, p2, p3⟩ := blk4 P1.out
  go_upto_region 3 with fail
  rw [← HW.out, EV.out]
  clear p0 p1 p2 p3
  obtain ⟨p0, p1, p2, p3⟩ := blk4 LB0.out.A
  go_wp2
  clear p0 p1 p2 p3
  have hN2 : (m : Int) ≤ 100000 := by omega
  go_loopw [19] (fun i wr => ∃ (k : Nat) (aN aC : Option Addr) (cN cC : Nat), k ≤ m ∧ i = .int .i64 k ∧ Hid (LsB w wr (hvO (.slice a m c) (.slice b m d) G T) (.slice aN (lfC h k).length cN) (.slice aC (lfC h k).length cC) (lfC h k).length (lfC h k).length (lfN h k) (lfC h k) (G + 1) T)) (fun i _ => m - (intOf i).toNat)
  case atStart => exact ⟨0, none, none, 0, 0, Nat.zero_le _, rfl, LB0.out⟩
  case round =>
    obtain ⟨k, aN, aC, cN, cC, hk, rfl, LB⟩ := hrel
    have hlf := lf_len h k
    by_cases hlt : k < m
    · obtain ⟨ba, oa, rfl, hca⟩ := HF0.out.sN k (by rw [HF0.out.ln]; exact hlt)
      obtain ⟨bo, off, rfl, hcc⟩ := HF0.out.sC k (by rw [HF0.out.lc]; exact hlt)
      have hltI : (k : Int) < (m : Int) := by omega
      obtain ⟨x, hx⟩ : ∃ x, x = ca h k := ⟨_, rfl⟩
      rw [show h.ct.getD k 0 = x from hx.symm] at hcc
      have hxb := HCT.out k hlt
      rw [← hx] at hxb
      have hwx := wrapH (x - 1) (by omega) (by omega)
      have HX := hide hx.symm
      have HC := hide (fun wx (hb : Below w.heap.size w wx) => (hb.cell (p := ⟨bo, off + k, none⟩) (blk_ltO hcc)).trans hcc)
      have hcN := (LB.out.B.cell (p := ⟨ba, oa + k, none⟩) (blk_ltO hca)).trans hca
      have hcC := HC.out _ LB.out.B
      obtain ⟨s, hs⟩ : ∃ s, s = na h k := ⟨_, rfl⟩
      rw [show h.nm.getD k e0 = s from hs.symm] at hcN
      have HS := hide hs
      clear hca hcc hs
      obtain ⟨p0, p1, p2, p3⟩ := blk4 LB.out.A
      by_cases hck : 1 < x
      · have hckg : x > 1 := hck
        have HCK := hide (show 1 < ca h k by rw [← hx]; exact hck)
        clear hx
        go_upto_region 7 with fail
        clear p0 p1 p2 p3 hcN hcC
        obtain ⟨p0, p1, p2, p3⟩ := blk4 LB.out.R
        have SZ := LB.out.S
        go_wp2_with (first
          | (at_builtin; refine wpList_append_H apT_str rfl _ _ rfl (w.heap.size + 3) (.slice aN (lfC h k).length cN) ((lfC h k).length) (mapS (lfN h k)) rfl (LB.out.one _).N (some ⟨wr.heap.size, 0, none⟩) 1 1 rfl [.string s] rfl (fun _ => ⟨_, rfl, cell_oneH _ _ _⟩) (by intro u hu; simp at hu; subst hu; rfl) (by omega) (by simp; omega) ?_)
          | go_in)
        intro v4 w4 ho4 hg4 _
        obtain ⟨a4, c4, rfl, _⟩ := own_capH ho4
        have LA4 := hide (LB.out.one (.cells #[.string s] 9))
        rw [mapS_more] at ho4
        clear p0 p1 p2 p3 SZ
        obtain ⟨p0, p1, p2, p3⟩ := blk4 (LA4.out.midN hg4)
        obtain ⟨f0, f1, f2, f3⟩ := frz4 (LA4.out.midN hg4)
        have LB4 := hide (LA4.out.appN ho4 hg4)
        clear ho4 hg4 LA4
        go_upto_region 8 with fail
        clear p0 p1 p2 p3 f0 f1 f2 f3
        obtain ⟨w5, hw5⟩ : ∃ x, x = w4.setCell ⟨w.heap.size + 1 + 1, 0, none⟩ (.slice a4 ((lfC h k).length + 1) c4) := ⟨_, rfl⟩
        rw [← hw5] at LB4
        rw [← hw5]
        clear hw5
        have LB5 := hide (show LsB w w5 (hvO (.slice (some ⟨ba, oa, none⟩) m c) (.slice (some ⟨bo, off, none⟩) m d) G T) (.slice a4 ((lfC h k).length + 1) c4) (.slice aC (lfC h k).length cC) ((lfC h k).length + 1) (lfC h k).length (lfN h k ++ [na h k]) (lfC h k) (G + 1) T by rw [← HS.out]; exact LB4.out)
        refine wp_region_held_drew (S := (fun wx => wx.cell? ⟨w.heap.size, 1, none⟩ = some (.slice (some ⟨bo, off, none⟩) m d) ∧ wx.cell? ⟨bo, off + k, none⟩ = some (.int .i64 x))) (by kernel_rfl) ⟨(blk4 LB5.out.A).2.1, HC.out _ LB5.out.B.drew⟩ (fun hHeld => ?_)
        refine wpAnyH_take (i := 0) (v := ?v1) rfl (by kernel_rfl) (by kernel_rfl) (by kernel_rfl) (fun _ _ _ h => h) (Or.inl ⟨by rfl, ?y1⟩) (by assumption) ?r1
        case y1 => (intro w hSw; (try dsimp only at hSw); go_simp; try (with_reducible rfl))
        simp only [List.getElem_toArray, List.getElem_cons_zero, Act.put, List.setIfInBounds_toArray, List.set_cons_zero, List.set_cons_succ]
        refine wpAnyH_take (i := 2) (v := ?v2) rfl (by kernel_rfl) (by kernel_rfl) (by kernel_rfl) (fun _ _ _ h => h) (Or.inl ⟨by rfl, ?y2⟩) (by assumption) ?r2
        case y2 => (intro w hSw; (try dsimp only at hSw); go_simp; try (with_reducible rfl))
        simp only [List.getElem_toArray, List.getElem_cons_succ, List.getElem_cons_zero, Act.put, List.setIfInBounds_toArray, List.set_cons_zero, List.set_cons_succ]
        refine wpAnyH_take (i := 3) (v := ?v3) rfl (by kernel_rfl) (by kernel_rfl) (by kernel_rfl) (fun _ _ _ h => h) (Or.inl ⟨by rfl, ?y3⟩) (by assumption) ?r3
        case y3 => (intro w hSw; (try dsimp only at hSw); go_simp; try (with_reducible rfl))
        simp only [List.getElem_toArray, List.getElem_cons_succ, List.getElem_cons_zero, Act.put, List.setIfInBounds_toArray, List.set_cons_zero, List.set_cons_succ]
        refine wpAnyH_take (i := 4) (v := ?v4) rfl (by kernel_rfl) (by kernel_rfl) (by kernel_rfl) (fun _ _ _ h => h) (Or.inl ⟨by rfl, ?y4⟩) (by assumption) ?r4
        case y4 => (intro w hSw; (try dsimp only at hSw); go_simp; try (with_reducible rfl))
        simp only [List.getElem_toArray, List.getElem_cons_succ, List.getElem_cons_zero, Act.put, List.setIfInBounds_toArray, List.set_cons_zero, List.set_cons_succ]
        refine wpAnyH_take (i := 5) (v := ?v5) rfl (by kernel_rfl) (by kernel_rfl) (by kernel_rfl) (fun _ _ _ h => h) (Or.inl ⟨by rfl, ?y5⟩) (by assumption) ?r5
        case y5 => (intro w hSw; (try dsimp only at hSw); go_simp; try (with_reducible rfl))
        simp only [List.getElem_toArray, List.getElem_cons_succ, List.getElem_cons_zero, Act.put, List.setIfInBounds_toArray, List.set_cons_zero, List.set_cons_succ]
        refine wpAnyH_take (i := 6) (v := ?v6) rfl (by kernel_rfl) (by kernel_rfl) (by kernel_rfl) (fun _ _ _ h => h) (Or.inl ⟨by rfl, ?y6⟩) (by assumption) ?r6
        case y6 => (intro w hSw; (try dsimp only at hSw); go_simp; try (with_reducible rfl))
        simp only [List.getElem_toArray, List.getElem_cons_succ, List.getElem_cons_zero, Act.put, List.setIfInBounds_toArray, List.set_cons_zero, List.set_cons_succ]
        refine wpAnyH_take (i := 7) (v := ?v7) rfl (by kernel_rfl) (by kernel_rfl) (by kernel_rfl) (fun _ _ _ h => h) (Or.inl ⟨by rfl, ?y7⟩) (by assumption) ?r7
        case y7 => (intro w hSw; (try dsimp only at hSw); go_simp; try (with_reducible rfl))
        simp only [List.getElem_toArray, List.getElem_cons_succ, List.getElem_cons_zero, Act.put, List.setIfInBounds_toArray, List.set_cons_zero, List.set_cons_succ]
        refine wpAnyH_ready (rs := [1, 8]) (by kernel_rfl) (by simp) ?_
        refine AllReadyH.cons rfl (fun K hK => ?_) (AllReadyH.cons rfl (fun K hK => ?_) AllReadyH.nil)
        · simp only [List.getElem_toArray, List.getElem_cons_succ, List.getElem_cons_zero]
          obtain ⟨r0, r1, r2, r3⟩ := blk4 LB5.out.R
          go_simp
          refine hK.out _ _ ?_ (fun hHeld => ?_)
          · exact hHeld
          clear hK K r0 r1 r2 r3
          try simp only [Act.put, List.setIfInBounds_toArray, List.set_cons_zero, List.set_cons_succ]
          refine wpAnyH_ready (rs := [8]) (by kernel_rfl) (by simp) ?_
          refine AllReadyH.cons rfl (fun K hK => ?_) AllReadyH.nil
          simp only [List.getElem_toArray, List.getElem_cons_succ, List.getElem_cons_zero]
          obtain ⟨w6, hw6⟩ : ∃ z, (w5.alloc (.cells #[.int .i64 (x - 1)] 3)).drew = z := ⟨_, rfl⟩
          have LB6 := hide (show LsB w w6 (hvO (.slice (some ⟨ba, oa, none⟩) m c) (.slice (some ⟨bo, off, none⟩) m d) G T) (.slice a4 ((lfC h k).length + 1) c4) (.slice aC (lfC h k).length cC) ((lfC h k).length + 1) (lfC h k).length (lfN h k ++ [na h k]) (lfC h k) (G + 1) T by rw [← hw6]; exact (LB5.out.one _).below (Below.refl _ _).drew)
          have C6 := hide (show ∀ j u, [Value.int .i64 (x - 1)][j]? = some u → w6.cell? ((⟨w5.heap.size, 0, none⟩ : Addr).add j) = some u by rw [← hw6]; exact cell_oneH _ _ _)
          go_simp
          try rw [hwx]
          try rw [hw6]
          refine hK.out _ _ ?_ (fun hHeld => ?_)
          · exact ⟨(blk4 LB6.out.A).2.1, HC.out _ LB6.out.B⟩
          clear hK K hw6
          try simp only [Act.put, List.setIfInBounds_toArray, List.set_cons_zero, List.set_cons_succ]
          refine wpAnyH_ready (rs := [9]) (by kernel_rfl) (by simp) ?_
          refine AllReadyH.cons rfl (fun K hK => ?_) AllReadyH.nil
          simp only [List.getElem_toArray, List.getElem_cons_succ, List.getElem_cons_zero]
          rw [if_pos (show Region.wanted _ _ = true from rfl)]
          refine oper_append_H apT_int _ _ rfl (w.heap.size + 3) (.slice aC (lfC h k).length cC) (lfC h k).length (ints (lfC h k)) rfl LB6.out.C (some ⟨w5.heap.size, 0, none⟩) 1 1 rfl [.int .i64 (x - 1)] rfl (fun _ => ⟨_, rfl, C6.out⟩) (by intro u hu; simp at hu; subst hu; rfl) (by omega) (by have := LB6.out.S; omega) ?_
          intro v7 w7 ho7 hg7 _
          obtain ⟨a7, c7, rfl, _⟩ := own_capH ho7
          rw [ints_more] at ho7
          have MA := hide (LB6.out.midA hg7 LB6.out.lo.2)
          have LB7 := hide (LB6.out.appC ho7 hg7)
          have R7 := hide (LB6.out.midC hg7)
          have BB7 := hide (LB6.out.bel LB6.out.lo.2 hg7)
          refine hK.out _ _ ?_ (fun hHeld => ?_)
          · exact ⟨(blk4 MA.out).2.1, HC.out _ BB7.out⟩
          clear hK K ho7 hg7
          try simp only [Act.put, List.setIfInBounds_toArray, List.set_cons_zero, List.set_cons_succ]
          refine wpAnyH_take (i := 10) (v := ?v8) rfl (by kernel_rfl) (by kernel_rfl) (by kernel_rfl) (fun _ _ _ h => h) (Or.inl ⟨by rfl, ?y8⟩) (by assumption) ?r8
          case y8 => (intro w hSw; (try dsimp only at hSw); go_simp; try (with_reducible rfl))
          simp only [List.getElem_toArray, List.getElem_cons_succ, List.getElem_cons_zero, Act.put, List.setIfInBounds_toArray, List.set_cons_zero, List.set_cons_succ]
          refine wpAnyH_ready (rs := [11]) (by kernel_rfl) (by simp) ?_
          refine AllReadyH.cons rfl (fun K hK => ?_) AllReadyH.nil
          simp only [List.getElem_toArray, List.getElem_cons_succ, List.getElem_cons_zero]
          obtain ⟨r0, r1, r2, r3⟩ := blk4 R7.out
          obtain ⟨f0, f1, f2, f3⟩ := frz4 R7.out
          go_simp
          obtain ⟨w9, hw9⟩ : ∃ z, z = w7.setCell ⟨w.heap.size + 1 + 1, 1, none⟩ (.slice a7 ((lfC h k).length + 1) c7) := ⟨_, rfl⟩
          rw [← hw9] at LB7
          rw [← hw9]
          refine hK.out _ _ ?_ (fun hHeld => ?_)
          · exact ⟨(blk4 LB7.out.A).2.1, HC.out _ LB7.out.B⟩
          clear hK K hw9 r0 r1 r2 r3 f0 f1 f2 f3 MA R7 BB7
          try simp only [Act.put, List.setIfInBounds_toArray, List.set_cons_zero, List.set_cons_succ]
          refine wpAnyH_done (by kernel_rfl) ?_ _
          clear hHeld
          have LE := hide (show LsB w w9 (hvO (.slice (some ⟨ba, oa, none⟩) m c) (.slice (some ⟨bo, off, none⟩) m d) G T) (.slice a4 (lfC h (k + 1)).length c4) (.slice a7 (lfC h (k + 1)).length c7) (lfC h (k + 1)).length (lfC h (k + 1)).length (lfN h (k + 1)) (lfC h (k + 1)) (G + 1) T by
            have e1 : lfN h (k + 1) = lfN h k ++ [na h k] := by simp only [lfN]; rw [if_pos HCK.out]
            have e2 : lfC h (k + 1) = lfC h k ++ [x - 1] := by simp only [lfC]; rw [if_pos HCK.out, HX.out]
            have e3 : (lfC h (k + 1)).length = (lfC h k).length + 1 := by rw [e2]; simp
            rw [e3, e1, e2]
            exact LB7.out)
          go_wp2
          go_roundw
          case rel => exact ⟨k + 1, _, _, _, _, by omega, by go_num, LE.out⟩
          case measure => simp [intOf]; omega
        · simp only [List.getElem_toArray, List.getElem_cons_succ, List.getElem_cons_zero]
          obtain ⟨w6, hw6⟩ : ∃ z, (w5.alloc (.cells #[.int .i64 (x - 1)] 3)).drew = z := ⟨_, rfl⟩
          have LB6 := hide (show LsB w w6 (hvO (.slice (some ⟨ba, oa, none⟩) m c) (.slice (some ⟨bo, off, none⟩) m d) G T) (.slice a4 ((lfC h k).length + 1) c4) (.slice aC (lfC h k).length cC) ((lfC h k).length + 1) (lfC h k).length (lfN h k ++ [na h k]) (lfC h k) (G + 1) T by rw [← hw6]; exact (LB5.out.one _).below (Below.refl _ _).drew)
          have C6 := hide (show ∀ j u, [Value.int .i64 (x - 1)][j]? = some u → w6.cell? ((⟨w5.heap.size, 0, none⟩ : Addr).add j) = some u by rw [← hw6]; exact cell_oneH _ _ _)
          go_simp
          try rw [hwx]
          try rw [hw6]
          refine hK.out _ _ ?_ (fun hHeld => ?_)
          · exact ⟨(blk4 LB6.out.A).2.1, HC.out _ LB6.out.B⟩
          clear hK K hw6
          try simp only [Act.put, List.setIfInBounds_toArray, List.set_cons_zero, List.set_cons_succ]
          refine wpAnyH_ready (rs := [1]) (by kernel_rfl) (by simp) ?_
          refine AllReadyH.cons rfl (fun K hK => ?_) AllReadyH.nil
          simp only [List.getElem_toArray, List.getElem_cons_succ, List.getElem_cons_zero]
          obtain ⟨r0, r1, r2, r3⟩ := blk4 LB6.out.R
          go_simp
          refine hK.out _ _ ?_ (fun hHeld => ?_)
          · exact hHeld
          clear hK K r0 r1 r2 r3
          try simp only [Act.put, List.setIfInBounds_toArray, List.set_cons_zero, List.set_cons_succ]
          refine wpAnyH_ready (rs := [9]) (by kernel_rfl) (by simp) ?_
          refine AllReadyH.cons rfl (fun K hK => ?_) AllReadyH.nil
          simp only [List.getElem_toArray, List.getElem_cons_succ, List.getElem_cons_zero]
          rw [if_pos (show Region.wanted _ _ = true from rfl)]
          refine oper_append_H apT_int _ _ rfl (w.heap.size + 3) (.slice aC (lfC h k).length cC) (lfC h k).length (ints (lfC h k)) rfl LB6.out.C (some ⟨w5.heap.size, 0, none⟩) 1 1 rfl [.int .i64 (x - 1)] rfl (fun _ => ⟨_, rfl, C6.out⟩) (by intro u hu; simp at hu; subst hu; rfl) (by omega) (by have := LB6.out.S; omega) ?_
          intro v7 w7 ho7 hg7 _
          obtain ⟨a7, c7, rfl, _⟩ := own_capH ho7
          rw [ints_more] at ho7
          have MA := hide (LB6.out.midA hg7 LB6.out.lo.2)
          have LB7 := hide (LB6.out.appC ho7 hg7)
          have R7 := hide (LB6.out.midC hg7)
          have BB7 := hide (LB6.out.bel LB6.out.lo.2 hg7)
          refine hK.out _ _ ?_ (fun hHeld => ?_)
          · exact ⟨(blk4 MA.out).2.1, HC.out _ BB7.out⟩
          clear hK K ho7 hg7
          try simp only [Act.put, List.setIfInBounds_toArray, List.set_cons_zero, List.set_cons_succ]
          refine wpAnyH_take (i := 10) (v := ?v9) rfl (by kernel_rfl) (by kernel_rfl) (by kernel_rfl) (fun _ _ _ h => h) (Or.inl ⟨by rfl, ?y9⟩) (by assumption) ?r9
          case y9 => (intro w hSw; (try dsimp only at hSw); go_simp; try (with_reducible rfl))
          simp only [List.getElem_toArray, List.getElem_cons_succ, List.getElem_cons_zero, Act.put, List.setIfInBounds_toArray, List.set_cons_zero, List.set_cons_succ]
          refine wpAnyH_ready (rs := [11]) (by kernel_rfl) (by simp) ?_
          refine AllReadyH.cons rfl (fun K hK => ?_) AllReadyH.nil
          simp only [List.getElem_toArray, List.getElem_cons_succ, List.getElem_cons_zero]
          obtain ⟨r0, r1, r2, r3⟩ := blk4 R7.out
          obtain ⟨f0, f1, f2, f3⟩ := frz4 R7.out
          go_simp
          obtain ⟨w9, hw9⟩ : ∃ z, z = w7.setCell ⟨w.heap.size + 1 + 1, 1, none⟩ (.slice a7 ((lfC h k).length + 1) c7) := ⟨_, rfl⟩
          rw [← hw9] at LB7
          rw [← hw9]
          refine hK.out _ _ ?_ (fun hHeld => ?_)
          · exact ⟨(blk4 LB7.out.A).2.1, HC.out _ LB7.out.B⟩
          clear hK K hw9 r0 r1 r2 r3 f0 f1 f2 f3 MA R7 BB7
          try simp only [Act.put, List.setIfInBounds_toArray, List.set_cons_zero, List.set_cons_succ]
          refine wpAnyH_done (by kernel_rfl) ?_ _
          clear hHeld
          have LE := hide (show LsB w w9 (hvO (.slice (some ⟨ba, oa, none⟩) m c) (.slice (some ⟨bo, off, none⟩) m d) G T) (.slice a4 (lfC h (k + 1)).length c4) (.slice a7 (lfC h (k + 1)).length c7) (lfC h (k + 1)).length (lfC h (k + 1)).length (lfN h (k + 1)) (lfC h (k + 1)) (G + 1) T by
            have e1 : lfN h (k + 1) = lfN h k ++ [na h k] := by simp only [lfN]; rw [if_pos HCK.out]
            have e2 : lfC h (k + 1) = lfC h k ++ [x - 1] := by simp only [lfC]; rw [if_pos HCK.out, HX.out]
            have e3 : (lfC h (k + 1)).length = (lfC h k).length + 1 := by rw [e2]; simp
            rw [e3, e1, e2]
            exact LB7.out)
          go_wp2
          go_roundw
          case rel => exact ⟨k + 1, _, _, _, _, by omega, by go_num, LE.out⟩
          case measure => simp [intOf]; omega
      · have hckg : ¬ x > 1 := hck
        have LE := hide (show LsB w wr (hvO (.slice (some ⟨ba, oa, none⟩) m c) (.slice (some ⟨bo, off, none⟩) m d) G T) (.slice aN (lfC h (k + 1)).length cN) (.slice aC (lfC h (k + 1)).length cC) (lfC h (k + 1)).length (lfC h (k + 1)).length (lfN h (k + 1)) (lfC h (k + 1)) (G + 1) T by
          have e1 : lfN h (k + 1) = lfN h k := by simp only [lfN]; rw [if_neg (by rw [HX.out]; exact hck)]
          have e2 : lfC h (k + 1) = lfC h k := by simp only [lfC]; rw [if_neg (by rw [HX.out]; exact hck)]
          rw [e1, e2]
          exact LB.out)
        clear hx
        go_wp2
        go_roundw
        case rel => exact ⟨k + 1, _, _, _, _, by omega, by go_num, LE.out⟩
        case measure => simp [intOf]; omega
    · obtain rfl : k = m := by omega
      have hltI : ¬ (k : Int) < (k : Int) := by omega
      go_wp2
      obtain ⟨q0, hq0⟩ : ∃ q, q = (lfC h k).length := ⟨_, rfl⟩
      have LB1 := hide (show LsB w wr (hvO (.slice a k c) (.slice b k d) G T) (.slice aN (q0 + 0) cN) (.slice aC (q0 + 0) cC) (q0 + 0) (q0 + 0) (lfN h k ++ List.replicate 0 e0) (lfC h k ++ List.replicate 0 0) (G + 1) T by rw [hq0]; simpa using LB.out)
      have HQ := hide hq0
      have hq1 : q0 ≤ k := by rw [hq0]; exact hlf.2
      clear hq0 LB hlf
      go_loopw [48] (fun i wr => ∃ (j : Nat) (aN aC : Option Addr) (cN cC : Nat), q0 + j ≤ k ∧ Hid (LsB w wr (hvO (.slice a k c) (.slice b k d) G T) (.slice aN (q0 + j) cN) (.slice aC (q0 + j) cC) (q0 + j) (q0 + j) (lfN h k ++ List.replicate j e0) (lfC h k ++ List.replicate j 0) (G + 1) T)) (fun _ wr => k - slLen (wr.cell? ⟨w.heap.size + 1 + 1, 0, none⟩))
      case atStart => exact ⟨0, _, _, _, _, by omega, LB1.out⟩
      case round =>
        clear aN aC cN cC LB1
        obtain ⟨j, aN, aC, cN, cC, hj, LB⟩ := hrel
        have HME := hide ((blk4 LB.out.R).1)
        obtain ⟨qj, hqj⟩ : ∃ q, q = q0 + j := ⟨_, rfl⟩
        rw [← hqj] at LB HME hj
        obtain ⟨X1, hP1⟩ : ∃ P, P = lfN h k ++ List.replicate j e0 := ⟨_, rfl⟩
        obtain ⟨X2, hP2⟩ : ∃ P, P = lfC h k ++ List.replicate j 0 := ⟨_, rfl⟩
        rw [← hP1, ← hP2] at LB
        have HP1 := hide hP1
        have HP2 := hide hP2
        clear hP1 hP2
        have HQJ := hide hqj
        clear hqj
        by_cases hlt : qj < k
        · have hltI : (qj : Int) < (k : Int) := by omega
          obtain ⟨p0, p1, p2, p3⟩ := blk4 LB.out.R
          go_upto_region 11 with fail
          clear p0 p1 p2 p3
          obtain ⟨p0, p1, p2, p3⟩ := blk4 LB.out.R
          have SZ := LB.out.S
          go_wp2_with (first
            | (at_builtin; refine wpList_append_H apT_str rfl _ _ rfl (w.heap.size + 3) (.slice aN qj cN) (qj) (mapS (X1)) rfl (LB.out.one _).N (some ⟨wr.heap.size, 0, none⟩) 1 1 rfl [.string e0] rfl (fun _ => ⟨_, rfl, cell_oneH _ _ _⟩) (by intro u hu; simp at hu; subst hu; rfl) (by omega) (by simp; omega) ?_)
            | go_in)
          intro v4 w4 ho4 hg4 _
          obtain ⟨a4, c4, rfl, _⟩ := own_capH ho4
          have LA4 := hide (LB.out.one (.cells #[.string e0] 9))
          rw [mapS_more] at ho4
          clear p0 p1 p2 p3 SZ
          obtain ⟨p0, p1, p2, p3⟩ := blk4 (LA4.out.midN hg4)
          obtain ⟨f0, f1, f2, f3⟩ := frz4 (LA4.out.midN hg4)
          have LB4 := hide (LA4.out.appN ho4 hg4)
          clear ho4 hg4 LA4
          go_upto_region 12 with fail
          clear p0 p1 p2 p3 f0 f1 f2 f3
          obtain ⟨w5, hw5⟩ : ∃ x, x = w4.setCell ⟨w.heap.size + 1 + 1, 0, none⟩ (.slice a4 (qj + 1) c4) := ⟨_, rfl⟩
          rw [← hw5] at LB4
          rw [← hw5]
          clear hw5
          obtain ⟨p0, p1, p2, p3⟩ := blk4 LB4.out.R
          have SZ := LB4.out.S
          go_wp2_with (first
            | (at_builtin; refine wpList_append_H apT_int rfl _ _ rfl (w.heap.size + 3) (.slice aC qj cC) (qj) (ints (X2)) rfl (LB4.out.one _).C (some ⟨w5.heap.size, 0, none⟩) 1 1 rfl [.int .i64 (0)] rfl (fun _ => ⟨_, rfl, cell_oneH _ _ _⟩) (by intro u hu; simp at hu; subst hu; rfl) (by omega) (by simp; omega) ?_)
            | go_in)
          intro v6 w6 ho6 hg6 _
          obtain ⟨a6, c6, rfl, _⟩ := own_capH ho6
          have LA6 := hide (LB4.out.one (.cells #[.int .i64 (0)] 3))
          rw [ints_more] at ho6
          clear p0 p1 p2 p3 SZ
          obtain ⟨p0, p1, p2, p3⟩ := blk4 (LA6.out.midC hg6)
          obtain ⟨f0, f1, f2, f3⟩ := frz4 (LA6.out.midC hg6)
          have LB6 := hide (LA6.out.appC ho6 hg6)
          clear ho6 hg6 LA6
          have LE := hide (show LsB w (w6.setCell ⟨w.heap.size + 1 + 1, 1, none⟩ (.slice a6 (qj + 1) c6)) (hvO (.slice a k c) (.slice b k d) G T) (.slice a4 (q0 + (j + 1)) c4) (.slice a6 (q0 + (j + 1)) c6) (q0 + (j + 1)) (q0 + (j + 1)) (lfN h k ++ List.replicate (j + 1) e0) (lfC h k ++ List.replicate (j + 1) 0) (G + 1) T by
            rw [show q0 + (j + 1) = qj + 1 by have := HQJ.out; omega, List.replicate_succ', List.replicate_succ', ← List.append_assoc, ← List.append_assoc, ← HP1.out, ← HP2.out]
            exact LB6.out)
          have HMF := hide ((blk4 LE.out.R).1)
          go_wp2
          go_roundw
          case rel => exact ⟨j + 1, _, _, _, _, by have := HQJ.out; omega, LE.out⟩
          case measure =>
            rw [HMF.out, HME.out]
            show k - (q0 + (j + 1)) < k - qj
            have := HQJ.out
            omega
        · obtain rfl : qj = k := by omega
          have hltI : ¬ (qj : Int) < (qj : Int) := by omega
          obtain ⟨p0, p1, p2, p3⟩ := blk4 LB.out.R
          obtain ⟨y0, y1, y2, y3⟩ := blk4 LB.out.Z
          obtain ⟨f0, f1, f2, f3⟩ := frz4 LB.out.Z
          have R9 := hide (set4 (a' := .slice aN qj cN) (b' := .slice aC qj cC) (c' := .int .i64 (G + 1)) (d' := .int .i64 T) LB.out.Z)
          have LL := hide (show lessH h qj = ⟨X1, X2, G + 1, T⟩ by
            unfold lessH
            rw [show qj - (lfC h qj).length = j by rw [← HQ.out]; have := HQJ.out; omega, HGT.out.1, HGT.out.2, HP1.out, HP2.out])
          have O9 := hide (OwH.setC4 (h := lessH h qj) (w := wr) (base := w.heap.size + 3) (v := .slice aN qj cN) (u := .slice aC qj cC) (n := qj) (m := qj) (by rw [LL.out]; exact ⟨LB.out.N, LB.out.C⟩) (w.heap.size + 1) (by omega) (.slice aN qj cN) (.slice aC qj cC) (.int .i64 (G + 1)) (.int .i64 T))
          have B9 := hide (below4 LB.out.B (w.heap.size + 1) (by omega) (.slice aN qj cN) (.slice aC qj cC) (.int .i64 (G + 1)) (.int .i64 T))
          go_wp2
          clear p0 p1 p2 p3 y0 y1 y2 y3 f0 f1 f2 f3
          obtain ⟨d0', d1, d2, d3⟩ := blk4 R9.out
          refine bodyPost_ret (v := hvV (.slice aN qj cN) (.slice aC qj cC) (G + 1) T) (by simp [results, Try.f65, go_sem, d0', d1, d2, d3]) rfl ⟨_, _, rfl, O9.out.toBase (by omega), B9.out⟩
end Go.Proofs.Yticgejaaoamhmao.L15H

namespace Go.Proofs.Yticgejaaoamhmao.L15H
open Go.RowKit L1 Own Str
set_option linter.unusedVariables false

/-- A row at an index: its block, its cell, that it is not frozen. -/
theorem own_cellH {w : World} {base n cap : Nat} {t : TypeId} {a : Option Addr} {xs : List Value} (h : w.ownsRow base t 1 (.slice a n cap) n xs) (hn : 0 < n) : ∃ g, a = some ⟨g, 0, none⟩ ∧ base ≤ g ∧ g < w.heap.size ∧ n ≤ cap ∧ ∀ i, i < n → w.frozen? ⟨g, i, none⟩ = false ∧ w.cell? ⟨g, i, none⟩ = xs[i]? := by
  have hl := h.1
  rcases h.2 with ⟨e, h0⟩ | ⟨g, c2, cur, e, hb, hh, hle, hm, hsz, hxs⟩
  · omega
  · injection e with e1 e2 e3
    subst e1
    subst e3
    have hlt := (Array.getElem?_eq_some_iff.1 hh).1
    refine ⟨g, rfl, hb, hlt, hle, fun i hi => ⟨by simp [World.frozen?, hh], ?_⟩⟩
    have hcs : i < cur.size := by omega
    simp [World.cell?, hh]
    rw [← hxs]
    simp [List.getElem?_take]
    omega
theorem own_neH {w : World} {base c n : Nat} {t : TypeId} {v : Value} {ys : List Value} (h : w.ownsRow base t c v n ys) (p : Addr) (u : Value) (hp : ∀ g, v.ownBlock = some g → g ≠ p.block) : (w.setCell p u).ownsRow base t c v n ys :=
  own_at h (fun q hq => Below.heap_setCell _ _ _ _ (hp q hq))
/-- A Heavy of the call's own: its box, the result's box, its rows. -/
structure AdB (w x : World) (base gN cN gC cC n : Nat) (G T : Int) (L1 : List ByteArray) (L2 : List Int) : Prop where
  X : x.heap[w.heap.size]? = some (hvO (.slice (some ⟨gN, 0, none⟩) n cN) (.slice (some ⟨gC, 0, none⟩) n cC) G T)
  Z : x.heap[w.heap.size + 1]? = some (hvO (.slice none 0 0) (.slice none 0 0) 0 0)
  N : x.ownsRow base 9 1 (.slice (some ⟨gN, 0, none⟩) n cN) n (mapS L1)
  C : x.ownsRow base 3 1 (.slice (some ⟨gC, 0, none⟩) n cC) n (ints L2)
  lN : gN < w.heap.size
  lC : gC < w.heap.size
  S : w.heap.size + 2 ≤ x.heap.size
  b : base ≤ w.heap.size
  B : Below base w x
  O : ∀ q, q < w.heap.size → q ≠ gN → q ≠ gC → x.heap[q]? = w.heap[q]?
section
variable {w x y : World} {base gN cN gC cC n : Nat} {G T : Int} {L1 : List ByteArray} {L2 : List Int}
theorem AdB.bN (k : AdB w x base gN cN gC cC n G T L1 L2) : base ≤ gN := own_ge k.N gN rfl
theorem AdB.bC (k : AdB w x base gN cN gC cC n G T L1 L2) : base ≤ gC := own_ge k.C gC rfl
theorem AdB.two (k : AdB w x base gN cN gC cC n G T L1 L2) : gN ≠ gC := fun e => L8.own_two k.N k.C st_int gN rfl (by rw [e]; rfl)
theorem AdB.lenN (k : AdB w x base gN cN gC cC n G T L1 L2) : L1.length = n := by have := k.N.1; simpa [mapS] using this
theorem AdB.lenC (k : AdB w x base gN cN gC cC n G T L1 L2) : L2.length = n := by have := k.C.1; simpa using this
theorem AdB.atN (k : AdB w x base gN cN gC cC n G T L1 L2) (i : Nat) (hi : i < n) : x.cell? ⟨gN, i, none⟩ = some (.string (L1.getD i e0)) ∧ x.frozen? ⟨gN, i, none⟩ = false := by
  obtain ⟨g, e, _, _, _, h⟩ := own_cellH k.N (by omega)
  injection e with e1
  injection e1 with e2
  subst e2
  have hl := k.lenN
  refine ⟨?_, (h i hi).1⟩
  rw [(h i hi).2]
  simp [mapS, List.getD, List.getElem?_eq_getElem (show i < L1.length by omega)]
theorem AdB.atC (k : AdB w x base gN cN gC cC n G T L1 L2) (i : Nat) (hi : i < n) : x.cell? ⟨gC, i, none⟩ = some (.int .i64 (L2.getD i 0)) ∧ x.frozen? ⟨gC, i, none⟩ = false := by
  obtain ⟨g, e, _, _, _, h⟩ := own_cellH k.C (by omega)
  injection e with e1
  injection e1 with e2
  subst e2
  have hl := k.lenC
  refine ⟨?_, (h i hi).1⟩
  rw [(h i hi).2]
  simp [List.getD, List.getElem?_eq_getElem (show i < L2.length by omega)]
theorem AdB.setN (k : AdB w x base gN cN gC cC n G T L1 L2) (i : Nat) (s : ByteArray) : AdB w (x.setCell ⟨gN, i, none⟩ (.string s)) base gN cN gC cC n G T (L1.set i s) L2 := by
  have h1 := k.lN
  have h2 := k.two
  refine ⟨?_, ?_, ?_, own_neH k.C _ _ (fun g hg => by cases hg; exact h2.symm), k.lN, k.lC, ?_, k.b, k.B.setCell k.bN _, fun q q1 q2 q3 => (Below.heap_setCell _ _ _ _ (by show q ≠ gN; exact q2)).trans (k.O q q1 q2 q3)⟩
  · rw [Below.heap_setCell _ _ _ _ (by show w.heap.size ≠ gN; omega)]; exact k.X
  · rw [Below.heap_setCell _ _ _ _ (by show w.heap.size + 1 ≠ gN; omega)]; exact k.Z
  · have := (k.N.stored i (.string s)).1
    rw [show (mapS L1).set i (.string s) = mapS (L1.set i s) by simp [mapS, List.map_set]] at this
    exact this
  · rw [World.size_setCell]; exact k.S
theorem AdB.setC (k : AdB w x base gN cN gC cC n G T L1 L2) (i : Nat) (z : Int) : AdB w (x.setCell ⟨gC, i, none⟩ (.int .i64 z)) base gN cN gC cC n G T L1 (L2.set i z) := by
  have h1 := k.lC
  have h2 := k.two
  refine ⟨?_, ?_, own_neH k.N _ _ (fun g hg => by cases hg; exact h2), ?_, k.lN, k.lC, ?_, k.b, k.B.setCell k.bC _, fun q q1 q2 q3 => (Below.heap_setCell _ _ _ _ (by show q ≠ gC; exact q3)).trans (k.O q q1 q2 q3)⟩
  · rw [Below.heap_setCell _ _ _ _ (by show w.heap.size ≠ gC; omega)]; exact k.X
  · rw [Below.heap_setCell _ _ _ _ (by show w.heap.size + 1 ≠ gC; omega)]; exact k.Z
  · have := (k.C.stored i (.int .i64 z)).1
    rw [show (ints L2).set i (.int .i64 z) = ints (L2.set i z) by simp [List.map_set]] at this
    exact this
  · rw [World.size_setCell]; exact k.S
theorem AdB.setT (k : AdB w x base gN cN gC cC n G T L1 L2) (T2 : Int) : AdB w (x.setCell ⟨w.heap.size, 3, none⟩ (.int .i64 T2)) base gN cN gC cC n G T2 L1 L2 := by
  have h1 := k.lN
  have h2 := k.lC
  refine ⟨heap_boxO k.X 3 _, ?_, own_neH k.N _ _ (fun g hg => by cases hg; show gN ≠ w.heap.size; omega), own_neH k.C _ _ (fun g hg => by cases hg; show gC ≠ w.heap.size; omega), k.lN, k.lC, ?_, k.b, k.B.setCell k.b _, fun q q1 q2 q3 => (Below.heap_setCell _ _ _ _ (by show q ≠ w.heap.size; omega)).trans (k.O q q1 q2 q3)⟩
  · rw [Below.heap_setCell _ _ _ _ (by show w.heap.size + 1 ≠ w.heap.size; omega)]; exact k.Z
  · rw [World.size_setCell]; exact k.S
theorem AdB.ow (k : AdB w x base gN cN gC cC n G T L1 L2) (g t : Int) : OwH x base (.slice (some ⟨gN, 0, none⟩) n cN) (.slice (some ⟨gC, 0, none⟩) n cC) n n ⟨L1, L2, g, t⟩ := ⟨k.N, k.C⟩
/-- The result's box is filled. -/
theorem own_put4 {w : World} {base c n : Nat} {t : TypeId} {v : Value} {ys : List Value} (h : w.ownsRow base t c v n ys) (z : Nat) (hz : ∀ g, v.ownBlock = some g → g ≠ z) (a b c' d : Value) : ((((w.setCell ⟨z, 0, none⟩ a).setCell ⟨z, 1, none⟩ b).setCell ⟨z, 2, none⟩ c').setCell ⟨z, 3, none⟩ d).ownsRow base t c v n ys :=
  own_neH (own_neH (own_neH (own_neH h _ _ hz) _ _ hz) _ _ hz) _ _ hz
theorem AdB.out (k : AdB w x base gN cN gC cC n G T L1 L2) (g t : Int) (a b c d : Value) : OwH ((((x.setCell ⟨w.heap.size + 1, 0, none⟩ a).setCell ⟨w.heap.size + 1, 1, none⟩ b).setCell ⟨w.heap.size + 1, 2, none⟩ c).setCell ⟨w.heap.size + 1, 3, none⟩ d) base (.slice (some ⟨gN, 0, none⟩) n cN) (.slice (some ⟨gC, 0, none⟩) n cC) n n ⟨L1, L2, g, t⟩ := by
  have h1 := k.lN
  have h2 := k.lC
  exact ⟨own_put4 k.N _ (fun g hg => by cases hg; show gN ≠ _; omega) a b c d, own_put4 k.C _ (fun g hg => by cases hg; show gC ≠ _; omega) a b c d⟩
end
end Go.Proofs.Yticgejaaoamhmao.L15H

namespace Go.Proofs.Yticgejaaoamhmao.L15H
open Go.RowKit L1 Own Str
set_option linter.unusedVariables false

theorem keep4O {x : World} {q : Nat} (z : Nat) (hz : q ≠ z) (a b c d : Value) : ((((x.setCell ⟨z, 0, none⟩ a).setCell ⟨z, 1, none⟩ b).setCell ⟨z, 2, none⟩ c).setCell ⟨z, 3, none⟩ d).heap[q]? = x.heap[q]? := by
  rw [Below.heap_setCell _ _ _ _ hz, Below.heap_setCell _ _ _ _ hz, Below.heap_setCell _ _ _ _ hz, Below.heap_setCell _ _ _ _ hz]
theorem AdB.drew {w x : World} {base gN cN gC cC n : Nat} {G T : Int} {L1 : List ByteArray} {L2 : List Int} (k : AdB w x base gN cN gC cC n G T L1 L2) : AdB w x.drew base gN cN gC cC n G T L1 L2 := ⟨k.X, k.Z, k.N, k.C, k.lN, k.lC, k.S, k.b, k.B.drew, k.O⟩
theorem cell_neH (w : World) (g i r : Nat) (u : Value) (h : r ≠ i) : (w.setCell ⟨g, i, none⟩ u).cell? ⟨g, r, none⟩ = w.cell? ⟨g, r, none⟩ := by
  rw [World.cell?_setCell_other]
  intro e
  cases e
  exact h rfl
theorem e0_emp : e0.toList.isEmpty = true := by
  rw [ByteArray.toList_eq]
  rfl
set_option maxRecDepth 100000 in
set_option maxHeartbeats 8000000 in
theorem l15Add_anyO (base : Nat) (aN : Option Addr) (n cN : Nat) (aC : Option Addr) (cC : Nat) (G T : Int) (h : Hv) (s : ByteArray) (tk p : Nat) (w : World) (ho : OwH w base (.slice aN n cN) (.slice aC n cC) n n h) (hbs : base ≤ w.heap.size) (hg : h.g = G) (ht : h.t = T) (gd : GoodHv h n n) (hk : IsTk h.nm n tk) (hp : IsAt h.nm tk s p) (hs : s ≠ e0) (hT : 0 ≤ T ∧ T ≤ 10000000) (h' : Hv) (hh : h' = addH h n tk p s) :
    Calls Try.prog 36 #[.agg #[.slice aN n cN, .slice aC n cC, .int .i64 G, .int .i64 T], .string s] w fun e w' => ∃ v u, e = .returned (hvV v u h'.g h'.t) ∧ OwH w' base v u n n h' ∧ Below base w w' ∧ (∀ q, q < w.heap.size → (Value.slice aN n cN).ownBlock ≠ some q → (Value.slice aC n cC).ownBlock ≠ some q → w'.heap[q]? = w.heap[q]?) := by
  obtain ⟨gN, rfl, hN1, hN2, hN3, _⟩ := own_cellH ho.oN gd.n1
  obtain ⟨gC, rfl, hC1, hC2, hC3, _⟩ := own_cellH ho.oC gd.n1
  obtain ⟨Z, hZ⟩ : ∃ x, x = hvO (.slice none 0 0) (.slice none 0 0) 0 0 := ⟨_, rfl⟩
  have q1 := L8.blk_new w (hvO (.slice (some ⟨gN, 0, none⟩) n cN) (.slice (some ⟨gC, 0, none⟩) n cC) G T)
  have q2 := L8.blk_new (w.alloc (hvO (.slice (some ⟨gN, 0, none⟩) n cN) (.slice (some ⟨gC, 0, none⟩) n cC) G T)) Z
  have k1 := blk_kept q1 ((Below.refl _ _).alloc (Nat.le_refl _) Z)
  have e1 : (w.alloc (hvO (.slice (some ⟨gN, 0, none⟩) n cN) (.slice (some ⟨gC, 0, none⟩) n cC) G T)).heap.size = w.heap.size + 1 := by simp
  have ez : ((w.alloc (hvO (.slice (some ⟨gN, 0, none⟩) n cN) (.slice (some ⟨gC, 0, none⟩) n cC) G T)).alloc Z).heap.size = w.heap.size + 2 := by simp
  have BX := ((Below.refl w.heap.size w).alloc (Nat.le_refl _) (hvO (.slice (some ⟨gN, 0, none⟩) n cN) (.slice (some ⟨gC, 0, none⟩) n cC) G T)).alloc (by simp) Z
  rw [e1] at q2
  obtain ⟨W0, hW0⟩ : ∃ W0, W0 = (w.alloc (hvO (.slice (some ⟨gN, 0, none⟩) n cN) (.slice (some ⟨gC, 0, none⟩) n cC) G T)).alloc Z := ⟨_, rfl⟩
  rw [← hW0] at BX q2 k1 ez
  rw [hZ] at q2 hW0
  have HW := hide hW0
  have A0 := hide (show AdB w W0 base gN cN gC cC n G T h.nm h.ct from ⟨k1, q2, own_belO ho.oN BX, own_belO ho.oC BX, hN2, hC2, Nat.le_of_eq ez.symm, hbs, BX.mono hbs, fun q q1 _ _ => BX.block q q1⟩)
  have HGT := hide (And.intro hg ht)
  have HGD := hide gd
  have HK := hide hk
  have HP := hide hp
  have HSN := hide hs
  have HH := hide hh
  have hn1 := gd.n1
  have hn6 := gd.n6
  clear hh ho hbs hg ht gd hk hp hs BX hW0 q1 q2 k1 e1 ez hZ hN1 hN2 hN3 hC1 hC2 hC3
  go_enter Try.func36, Try.ntmps36
  go_upto_region 1 with fail
  rw [← HW.out]
  obtain ⟨p0, p1, p2, p3⟩ := blk4 A0.out.X
  obtain ⟨f0, f1, f2, f3⟩ := frz4 A0.out.X
  have A1 := hide (A0.out.setT (T + 1))
  go_upto_region 2 with fail
  obtain ⟨W1, hW1⟩ : ∃ x, x = W0.setCell ⟨w.heap.size, 3, none⟩ (.int .i64 (T + 1)) := ⟨_, rfl⟩
  rw [← hW1] at A1
  rw [← hW1]
  clear hW1 p0 p1 p2 p3 f0 f1 f2 f3
  obtain ⟨p0, p1, p2, p3⟩ := blk4 A1.out.X
  obtain ⟨f0, f1, f2, f3⟩ := frz4 A1.out.X
  go_wp2
  go_loop [17] (fun t => ∃ k : Nat, k ≤ n ∧ t = .int .i64 k ∧ Hid (∀ j, j < k → na h j ≠ s)) (fun t => n - (intOf t).toNat)
  case atStart => exact ⟨0, Nat.zero_le _, rfl, fun j hj => absurd hj (Nat.not_lt_zero _)⟩
  case round =>
    obtain ⟨k, hk, rfl, HJ⟩ := hrel
    by_cases hlt : k < n
    · have hltI : (k : Int) < (n : Int) := by omega
      have hk0 : (0 : Int) ≤ (k : Int) := by omega
      obtain ⟨hc, _⟩ := A1.out.atN k hlt
      obtain ⟨z, hz⟩ : ∃ z, z = na h k := ⟨_, rfl⟩
      rw [show h.nm.getD k e0 = z from hz.symm] at hc
      have HZ := hide hz
      clear hz
      by_cases hps : z = s
      · obtain ⟨hkp, hpt⟩ := there_at HGD.out HK.out HP.out HSN.out hlt (show na h k = s by rw [← HZ.out]; exact hps)
        obtain ⟨x, hx⟩ : ∃ x, x = ca h k := ⟨_, rfl⟩
        have hxb : 0 ≤ x ∧ x ≤ 100000 := by rw [hx]; exact (HGD.out.p k hlt).ct
        obtain ⟨hd, hfz⟩ := A1.out.atC k hlt
        rw [show h.ct.getD k 0 = x from hx.symm] at hd
        have A2 := hide (A1.out.setC k (x + 1))
        have HE := hide (show h' = ⟨h.nm, h.ct.set k (x + 1), G, T + 1⟩ by
          rw [HH.out]
          unfold addH
          rw [if_pos ⟨hpt, by rw [← hkp, ← HZ.out]; exact hps⟩]
          simp only [incH, upH]
          rw [← hkp, HGT.out.1, HGT.out.2, hx])
        subst hps
        clear hx hkp hpt
        have hee : (z.toList == z.toList) = true := by simp
        go_upto_region 7 with fail
        obtain ⟨W2, hW2⟩ : ∃ y, y = W1.setCell ⟨gC, k, none⟩ (.int .i64 (x + 1)) := ⟨_, rfl⟩
        rw [← hW2] at A2
        rw [← hW2]
        clear hW2 p0 p1 p2 p3 f0 f1 f2 f3 hc hd hfz
        obtain ⟨p0, p1, p2, p3⟩ := blk4 A2.out.X
        obtain ⟨y0, y1, y2, y3⟩ := blk4 A2.out.Z
        obtain ⟨f0, f1, f2, f3⟩ := frz4 A2.out.Z
        have R9 := hide (set4 (a' := (.slice (some ⟨gN, 0, none⟩) n cN)) (b' := (.slice (some ⟨gC, 0, none⟩) n cC)) (c' := .int .i64 G) (d' := .int .i64 (T + 1)) A2.out.Z)
        have O9 := hide (A2.out.out G (T + 1) (.slice (some ⟨gN, 0, none⟩) n cN) (.slice (some ⟨gC, 0, none⟩) n cC) (.int .i64 G) (.int .i64 (T + 1)))
        have B9 := hide (below4 A2.out.B (w.heap.size + 1) (by have := A2.out.b; omega) (.slice (some ⟨gN, 0, none⟩) n cN) (.slice (some ⟨gC, 0, none⟩) n cC) (.int .i64 G) (.int .i64 (T + 1)))
        have K9 := hide (fun (q : Nat) (q1 : q < w.heap.size) (q2 : (Value.slice (some ⟨gN, 0, none⟩) n cN).ownBlock ≠ some q) (q3 : (Value.slice (some ⟨gC, 0, none⟩) n cC).ownBlock ≠ some q) => (keep4O (w.heap.size + 1) (show q ≠ w.heap.size + 1 by omega) (.slice (some ⟨gN, 0, none⟩) n cN) (.slice (some ⟨gC, 0, none⟩) n cC) (.int .i64 G) (.int .i64 (T + 1))).trans (A2.out.O q q1 (fun e => q2 (by rw [e]; rfl)) (fun e => q3 (by rw [e]; rfl))))
        go_wp2
        clear p0 p1 p2 p3 y0 y1 y2 y3 f0 f1 f2 f3
        obtain ⟨d0, d1, d2, d3⟩ := blk4 R9.out
        refine bodyPost_ret (v := hvV (.slice (some ⟨gN, 0, none⟩) n cN) (.slice (some ⟨gC, 0, none⟩) n cC) G (T + 1)) (by simp [results, Try.f36, go_sem, d0, d1, d2, d3]) rfl ⟨_, _, by rw [HE.out], by rw [HE.out]; exact O9.out, B9.out, K9.out⟩
      · have hbe : (z.toList == s.toList) = false := by
          cases e : (z.toList == s.toList) with
          | false => rfl
          | true => exact absurd (ptr_eq.1 (beq_iff_eq.1 e)) hps
        have hbe2 : ¬ z.toList = s.toList := fun e => hps (ptr_eq.1 e)
        go_wp2
        go_round
        case rel => exact ⟨k + 1, by omega, by go_num, fun j hj => by
          by_cases e : j = k
          · subst e; rw [← HZ.out]; exact hps
          · exact HJ.out j (by omega)⟩
        case measure => simp [intOf]; omega
    · obtain rfl : k = n := by omega
      have hltI : ¬ (k : Int) < (k : Int) := by omega
      have hno : ¬ (p < tk ∧ na h p = s) := fun q => HJ.out p (by have := HK.out.le; omega) q.2
      have hkn := HK.out.le
      have hpk := HP.out.le
      obtain ⟨q, hq⟩ : ∃ q, q = k - 1 := ⟨_, rfl⟩
      have hq1 : (k : Int) - 1 = (q : Int) := by omega
      have hqk : (q : Int) < (k : Int) := by omega
      have hq0 : (0 : Int) ≤ (q : Int) := by omega
      obtain ⟨hc, _⟩ := A1.out.atN q (by omega)
      obtain ⟨z, hz⟩ : ∃ z, z = na h q := ⟨_, rfl⟩
      rw [show h.nm.getD q e0 = z from hz.symm] at hc
      by_cases htk : tk < k
      rotate_left
      · obtain rfl : tk = k := by omega
        have hze := ne_list (show z ≠ e0 by rw [hz]; exact HK.out.ne q (by omega))
        have HE := hide (show h' = lessH ⟨h.nm, h.ct, G, T + 1⟩ tk by
          rw [HH.out]
          unfold addH
          rw [if_neg hno, if_neg (by omega)]
          simp only [upH]
          rw [HGT.out.1, HGT.out.2])
        have CL := hide (l15Less_any (some ⟨gN, 0, none⟩) tk cN (some ⟨gC, 0, none⟩) tk cC G (T + 1) ⟨h.nm, h.ct, G, T + 1⟩ W1 (A1.out.ow G (T + 1)).hf rfl (by omega) (by have h1 := HGT.out.1; have h2 := HGD.out.g0; have h3 := HGD.out.g1; omega) (fun i hi => by have := (HGD.out.p i hi).ct; exact ⟨this.1, Int.le_trans this.2 (by decide)⟩) rfl rfl)
        clear hz hno HJ hq
        go_upto_region 11 with fail
        go_wp2_with fail
        refine CL.out.mono ?_
        rintro e w2 ⟨v, u, rfl, ho, hb⟩
        obtain ⟨a1, c1, a2, c2, rfl, rfl, _⟩ := ho.form
        have Z2 := hide (blk_kept A1.out.Z hb)
        obtain ⟨y0, y1, y2, y3⟩ := blk4 Z2.out
        obtain ⟨f0, f1, f2, f3⟩ := frz4 Z2.out
        have R9 := hide (set4 (a' := .slice a1 tk c1) (b' := .slice a2 tk c2) (c' := .int .i64 (G + 1)) (d' := .int .i64 (T + 1)) Z2.out)
        have O9 := hide (ho.setC4 (w.heap.size + 1) (by have := A1.out.S; omega) (.slice a1 tk c1) (.slice a2 tk c2) (.int .i64 (G + 1)) (.int .i64 (T + 1)))
        have B9 := hide (below4 (A1.out.B.trans (hb.mono (by have := A1.out.S; have := A1.out.b; omega))) (w.heap.size + 1) (by have := A1.out.b; omega) (.slice a1 tk c1) (.slice a2 tk c2) (.int .i64 (G + 1)) (.int .i64 (T + 1)))
        have K9 := hide (fun (q : Nat) (q1 : q < w.heap.size) (q2 : (Value.slice (some ⟨gN, 0, none⟩) tk cN).ownBlock ≠ some q) (q3 : (Value.slice (some ⟨gC, 0, none⟩) tk cC).ownBlock ≠ some q) => (keep4O (w.heap.size + 1) (show q ≠ w.heap.size + 1 by omega) (.slice a1 tk c1) (.slice a2 tk c2) (.int .i64 (G + 1)) (.int .i64 (T + 1))).trans ((hb.block q (by have := A1.out.S; omega)).trans (A1.out.O q q1 (fun e => q2 (by rw [e]; rfl)) (fun e => q3 (by rw [e]; rfl)))))
        clear ho hb
        go_wp2
        clear p0 p1 p2 p3 y0 y1 y2 y3 hc
        obtain ⟨d0, d1, d2, d3⟩ := blk4 R9.out
        refine bodyPost_ret (v := hvV (.slice a1 tk c1) (.slice a2 tk c2) (G + 1) (T + 1)) (by simp [results, Try.f36, go_sem, d0, d1, d2, d3]) rfl ⟨_, _, by rw [HE.out]; rfl, by rw [HE.out]; exact O9.out.toBase (by have := A1.out.S; have := A1.out.b; omega), B9.out, K9.out⟩
      · have hze : z.toList.isEmpty = true := by
          rw [hz, (HGD.out.tail HK.out q (by omega) (by omega)).1]
          exact e0_emp
        have HE := hide (show h' = ⟨putL h.nm p s, putL h.ct p 1, G, T + 1⟩ by
          rw [HH.out]
          unfold addH
          rw [if_neg hno, if_pos htk]
          simp only [putH]
          rw [HGT.out.1, HGT.out.2])
        have HQ := hide hq
        have hpn : p < k := by omega
        clear hz hno HJ hq
        go_wp2
        clear hc
        go_loop [8] (fun t => ∃ j : Nat, j ≤ p ∧ t = .int .i64 j ∧ Hid True) (fun t => p - (intOf t).toNat)
        case atStart => exact ⟨0, Nat.zero_le _, rfl, hide trivial⟩
        case round =>
          obtain ⟨j, hj, rfl, HTR⟩ := hrel
          have hjk : (j : Int) < (k : Int) := by omega
          have hj0 : (0 : Int) ≤ (j : Int) := by omega
          obtain ⟨hc, _⟩ := A1.out.atN j (by omega)
          obtain ⟨x, hx⟩ : ∃ x, x = na h j := ⟨_, rfl⟩
          rw [show h.nm.getD j e0 = x from hx.symm] at hc
          by_cases hjp : j < p
          · have hxe := ne_list (show x ≠ e0 by rw [hx]; exact HK.out.ne j (by omega))
            have hbl : Op.bytesLess x.toList s.toList = true := by rw [hx]; exact HP.out.lo j hjp
            clear hx
            go_wp2
            go_round
            case rel => exact ⟨j + 1, by omega, by go_num, HTR⟩
            case measure => simp [intOf]; omega
          · obtain rfl : j = p := by omega
            by_cases hpt : j < tk
            · have hxe := ne_list (show x ≠ e0 by rw [hx]; exact HK.out.ne j hpt)
              have hbl : Op.bytesLess x.toList s.toList = false := by
                have := HP.out.hi j (Nat.le_refl _) hpt
                rw [← show x = h.nm.getD j e0 from hx] at this
                unfold L3.Ahead at this
                simpa using this
              clear hx
              have S1 := hide (show Sh e0 h.nm h.nm q by have e := A1.out.lenN; have := sh_start e0 h.nm; rw [e, ← HQ.out] at this; exact this)
              have S2 := hide (show Sh 0 h.ct h.ct q by have e := A1.out.lenC; have := sh_start (0 : Int) h.ct; rw [e, ← HQ.out] at this; exact this)
              have hpq : j ≤ q := by have := HQ.out; omega
              have hqn : q < k := by have := HQ.out; omega
              go_wp2
              clear p0 p1 p2 p3 f0 f1 f2 f3 hc hq1
              go_loopw [9] (fun t wr => ∃ (i : Nat) (Q1 : List ByteArray) (Q2 : List Int), j ≤ i ∧ i < k ∧ t = .int .i64 i ∧ Hid (Sh e0 h.nm Q1 i) ∧ Hid (Sh 0 h.ct Q2 i) ∧ Hid (AdB w wr base gN cN gC cC k G (T + 1) Q1 Q2)) (fun t _ => (intOf t).toNat)
              case atStart => exact ⟨q, _, _, hpq, hqn, rfl, S1.out, S2.out, A1.out⟩
              case round =>
                clear S1 S2
                obtain ⟨i, Q1, Q2, hji, hik, rfl, S1, S2, AD⟩ := hrel
                by_cases hgt : j < i
                · have hgtI : (i : Int) > (j : Int) := by omega
                  obtain ⟨r, hr⟩ : ∃ r, r = i - 1 := ⟨_, rfl⟩
                  have hr1 : (i : Int) - 1 = (r : Int) := by omega
                  have hwr := wrapH (r : Int) (by omega) (by omega)
                  have hwi := wrapH ((i : Int) - 1) (by omega) (by omega)
                  have hri : r ≠ i := by omega
                  have hrk : (r : Int) < (k : Int) := by omega
                  have hr0 : (0 : Int) ≤ (r : Int) := by omega
                  have hikI : (i : Int) < (k : Int) := by omega
                  have hi0 : (0 : Int) ≤ (i : Int) := by omega
                  have HR := hide hr
                  clear hr
                  obtain ⟨x1, hx1⟩ : ∃ y, y = Q1.getD r e0 := ⟨_, rfl⟩
                  obtain ⟨hcr, _⟩ := AD.out.atN r (by omega)
                  rw [← hx1] at hcr
                  have Hx1 := hide hx1
                  clear hx1
                  have p0 := (blk4 AD.out.X).1
                  go_upto_region 18 with fail
                  refine wp_region_held_drew (S := fun wx => wx.cell? ⟨w.heap.size, 0, none⟩ = some (.slice (some ⟨gN, 0, none⟩) k cN) ∧ wx.cell? ⟨gN, r, none⟩ = some (.string x1)) (by kernel_rfl) ⟨p0, hcr⟩ (fun hHeld => ?_)
                  refine wpAnyH_take (i := 0) (v := ?v1) rfl (by kernel_rfl) (by kernel_rfl) (by kernel_rfl) (fun _ _ _ h => h) (Or.inl ⟨by rfl, ?y1⟩) (by assumption) ?r1
                  case y1 => (intro w hSw; (try dsimp only at hSw); go_simp; try (with_reducible rfl))
                  simp only [List.getElem_toArray, List.getElem_cons_zero, Act.put, List.setIfInBounds_toArray, List.set_cons_zero, List.set_cons_succ]
                  refine wpAnyH_take (i := 1) (v := ?v2) rfl (by kernel_rfl) (by kernel_rfl) (by kernel_rfl) (fun _ _ _ h => h) (Or.inl ⟨by rfl, ?y2⟩) (by assumption) ?r2
                  case y2 => (intro w hSw; (try dsimp only at hSw); go_simp; try (with_reducible rfl))
                  simp only [List.getElem_toArray, List.getElem_cons_succ, List.getElem_cons_zero, Act.put, List.setIfInBounds_toArray, List.set_cons_zero, List.set_cons_succ]
                  refine wpAnyH_take (i := 2) (v := ?v3) rfl (by kernel_rfl) (by kernel_rfl) (by kernel_rfl) (fun _ _ _ h => h) (Or.inl ⟨by rfl, ?y3⟩) (by assumption) ?r3
                  case y3 => (intro w hSw; (try dsimp only at hSw); go_simp; try (with_reducible rfl))
                  simp only [List.getElem_toArray, List.getElem_cons_succ, List.getElem_cons_zero, Act.put, List.setIfInBounds_toArray, List.set_cons_zero, List.set_cons_succ]
                  refine wpAnyH_take (i := 3) (v := ?v4) rfl (by kernel_rfl) (by kernel_rfl) (by kernel_rfl) (fun _ _ _ h => h) (Or.inl ⟨by rfl, ?y4⟩) (by assumption) ?r4
                  case y4 => (intro w hSw; (try dsimp only at hSw); go_simp; try (with_reducible rfl))
                  simp only [List.getElem_toArray, List.getElem_cons_succ, List.getElem_cons_zero, Act.put, List.setIfInBounds_toArray, List.set_cons_zero, List.set_cons_succ]
                  refine wpAnyH_take (i := 4) (v := ?v5) rfl (by kernel_rfl) (by kernel_rfl) (by kernel_rfl) (fun _ _ _ h => h) (Or.inl ⟨by rfl, ?y5⟩) (by assumption) ?r5
                  case y5 => (intro w hSw; (try dsimp only at hSw); go_simp; try (with_reducible rfl))
                  simp only [List.getElem_toArray, List.getElem_cons_succ, List.getElem_cons_zero, Act.put, List.setIfInBounds_toArray, List.set_cons_zero, List.set_cons_succ]
                  refine wpAnyH_take (i := 5) (v := ?v6) rfl (by kernel_rfl) (by kernel_rfl) (by kernel_rfl) (fun _ _ _ h => h) (Or.inl ⟨by rfl, ?y6⟩) (by assumption) ?r6
                  case y6 => (intro w hSw; (try dsimp only at hSw); go_simp; try (with_reducible rfl))
                  simp only [List.getElem_toArray, List.getElem_cons_succ, List.getElem_cons_zero, Act.put, List.setIfInBounds_toArray, List.set_cons_zero, List.set_cons_succ]
                  refine wpAnyH_take (i := 6) (v := ?v7) rfl (by kernel_rfl) (by kernel_rfl) (by kernel_rfl) (fun _ _ _ h => h) (Or.inl ⟨by rfl, ?y7⟩) (by assumption) ?r7
                  case y7 => (intro w hSw; (try dsimp only at hSw); go_simp; try (with_reducible rfl))
                  simp only [List.getElem_toArray, List.getElem_cons_succ, List.getElem_cons_zero, Act.put, List.setIfInBounds_toArray, List.set_cons_zero, List.set_cons_succ]
                  refine wpAnyH_take (i := 7) (v := ?v8) rfl (by kernel_rfl) (by kernel_rfl) (by kernel_rfl) (fun _ _ _ h => h) (Or.inl ⟨by rfl, ?y8⟩) (by assumption) ?r8
                  case y8 => (intro w hSw; (try dsimp only at hSw); go_simp; try (with_reducible rfl))
                  simp only [List.getElem_toArray, List.getElem_cons_succ, List.getElem_cons_zero, Act.put, List.setIfInBounds_toArray, List.set_cons_zero, List.set_cons_succ]
                  refine wpAnyH_take (i := 8) (v := ?v9) rfl (by kernel_rfl) (by kernel_rfl) (by kernel_rfl) (fun _ _ _ h => h) (Or.inl ⟨by rfl, ?y9⟩) (by assumption) ?r9
                  case y9 => (intro w hSw; (try dsimp only at hSw); go_simp; try (with_reducible rfl))
                  simp only [List.getElem_toArray, List.getElem_cons_succ, List.getElem_cons_zero, Act.put, List.setIfInBounds_toArray, List.set_cons_zero, List.set_cons_succ]
                  refine wpAnyH_take (i := 9) (v := ?v10) rfl (by kernel_rfl) (by kernel_rfl) (by kernel_rfl) (fun _ _ _ h => h) (Or.inl ⟨by rfl, ?y10⟩) (by assumption) ?r10
                  case y10 => (intro w hSw; (try dsimp only at hSw); go_simp; try (with_reducible rfl))
                  simp only [List.getElem_toArray, List.getElem_cons_succ, List.getElem_cons_zero, Act.put, List.setIfInBounds_toArray, List.set_cons_zero, List.set_cons_succ]
                  refine wpAnyH_ready (rs := [10]) (by kernel_rfl) (by simp) ?_
                  refine AllReadyH.cons rfl (fun K hK => ?_) AllReadyH.nil
                  simp only [List.getElem_toArray, List.getElem_cons_succ, List.getElem_cons_zero]
                  obtain ⟨hci, hfi⟩ := AD.out.atN i (by omega)
                  go_simp
                  obtain ⟨w5, hw5⟩ : ∃ y, y = (wr.setCell ⟨gN, i, none⟩ (.string x1)).drew := ⟨_, rfl⟩
                  have ADx := hide (show AdB w w5 base gN cN gC cC k G (T + 1) (Q1.set i x1) Q2 by rw [hw5]; exact (AD.out.setN i x1).drew)
                  try rw [← hw5]
                  refine hK.out _ _ ?_ (fun hHeld => ?_)
                  · refine ⟨(blk4 ADx.out.X).1, ?_⟩
                    rw [hw5]
                    show (wr.setCell ⟨gN, i, none⟩ (.string x1)).cell? ⟨gN, r, none⟩ = _
                    rw [cell_neH _ _ _ _ _ (by omega)]
                    exact hcr
                  clear hK K hw5 hci hfi hcr p0
                  try simp only [Act.put, List.setIfInBounds_toArray, List.set_cons_zero, List.set_cons_succ]
                  refine wpAnyH_done (by kernel_rfl) ?_ _
                  clear hHeld
                  obtain ⟨x2, hx2⟩ : ∃ y, y = Q2.getD r 0 := ⟨_, rfl⟩
                  obtain ⟨hcr, _⟩ := ADx.out.atC r (by omega)
                  rw [← hx2] at hcr
                  have Hx2 := hide hx2
                  clear hx2
                  have p1 := (blk4 ADx.out.X).2.1
                  go_upto_region 19 with fail
                  refine wp_region_held_drew (S := fun wx => wx.cell? ⟨w.heap.size, 1, none⟩ = some (.slice (some ⟨gC, 0, none⟩) k cC) ∧ wx.cell? ⟨gC, r, none⟩ = some (.int .i64 x2)) (by kernel_rfl) ⟨p1, hcr⟩ (fun hHeld => ?_)
                  refine wpAnyH_take (i := 0) (v := ?v11) rfl (by kernel_rfl) (by kernel_rfl) (by kernel_rfl) (fun _ _ _ h => h) (Or.inl ⟨by rfl, ?y11⟩) (by assumption) ?r11
                  case y11 => (intro w hSw; (try dsimp only at hSw); go_simp; try (with_reducible rfl))
                  simp only [List.getElem_toArray, List.getElem_cons_zero, Act.put, List.setIfInBounds_toArray, List.set_cons_zero, List.set_cons_succ]
                  refine wpAnyH_take (i := 1) (v := ?v12) rfl (by kernel_rfl) (by kernel_rfl) (by kernel_rfl) (fun _ _ _ h => h) (Or.inl ⟨by rfl, ?y12⟩) (by assumption) ?r12
                  case y12 => (intro w hSw; (try dsimp only at hSw); go_simp; try (with_reducible rfl))
                  simp only [List.getElem_toArray, List.getElem_cons_succ, List.getElem_cons_zero, Act.put, List.setIfInBounds_toArray, List.set_cons_zero, List.set_cons_succ]
                  refine wpAnyH_take (i := 2) (v := ?v13) rfl (by kernel_rfl) (by kernel_rfl) (by kernel_rfl) (fun _ _ _ h => h) (Or.inl ⟨by rfl, ?y13⟩) (by assumption) ?r13
                  case y13 => (intro w hSw; (try dsimp only at hSw); go_simp; try (with_reducible rfl))
                  simp only [List.getElem_toArray, List.getElem_cons_succ, List.getElem_cons_zero, Act.put, List.setIfInBounds_toArray, List.set_cons_zero, List.set_cons_succ]
                  refine wpAnyH_take (i := 3) (v := ?v14) rfl (by kernel_rfl) (by kernel_rfl) (by kernel_rfl) (fun _ _ _ h => h) (Or.inl ⟨by rfl, ?y14⟩) (by assumption) ?r14
                  case y14 => (intro w hSw; (try dsimp only at hSw); go_simp; try (with_reducible rfl))
                  simp only [List.getElem_toArray, List.getElem_cons_succ, List.getElem_cons_zero, Act.put, List.setIfInBounds_toArray, List.set_cons_zero, List.set_cons_succ]
                  refine wpAnyH_take (i := 4) (v := ?v15) rfl (by kernel_rfl) (by kernel_rfl) (by kernel_rfl) (fun _ _ _ h => h) (Or.inl ⟨by rfl, ?y15⟩) (by assumption) ?r15
                  case y15 => (intro w hSw; (try dsimp only at hSw); go_simp; try (with_reducible rfl))
                  simp only [List.getElem_toArray, List.getElem_cons_succ, List.getElem_cons_zero, Act.put, List.setIfInBounds_toArray, List.set_cons_zero, List.set_cons_succ]
                  refine wpAnyH_take (i := 5) (v := ?v16) rfl (by kernel_rfl) (by kernel_rfl) (by kernel_rfl) (fun _ _ _ h => h) (Or.inl ⟨by rfl, ?y16⟩) (by assumption) ?r16
                  case y16 => (intro w hSw; (try dsimp only at hSw); go_simp; try (with_reducible rfl))
                  simp only [List.getElem_toArray, List.getElem_cons_succ, List.getElem_cons_zero, Act.put, List.setIfInBounds_toArray, List.set_cons_zero, List.set_cons_succ]
                  refine wpAnyH_take (i := 6) (v := ?v17) rfl (by kernel_rfl) (by kernel_rfl) (by kernel_rfl) (fun _ _ _ h => h) (Or.inl ⟨by rfl, ?y17⟩) (by assumption) ?r17
                  case y17 => (intro w hSw; (try dsimp only at hSw); go_simp; try (with_reducible rfl))
                  simp only [List.getElem_toArray, List.getElem_cons_succ, List.getElem_cons_zero, Act.put, List.setIfInBounds_toArray, List.set_cons_zero, List.set_cons_succ]
                  refine wpAnyH_take (i := 7) (v := ?v18) rfl (by kernel_rfl) (by kernel_rfl) (by kernel_rfl) (fun _ _ _ h => h) (Or.inl ⟨by rfl, ?y18⟩) (by assumption) ?r18
                  case y18 => (intro w hSw; (try dsimp only at hSw); go_simp; try (with_reducible rfl))
                  simp only [List.getElem_toArray, List.getElem_cons_succ, List.getElem_cons_zero, Act.put, List.setIfInBounds_toArray, List.set_cons_zero, List.set_cons_succ]
                  refine wpAnyH_take (i := 8) (v := ?v19) rfl (by kernel_rfl) (by kernel_rfl) (by kernel_rfl) (fun _ _ _ h => h) (Or.inl ⟨by rfl, ?y19⟩) (by assumption) ?r19
                  case y19 => (intro w hSw; (try dsimp only at hSw); go_simp; try (with_reducible rfl))
                  simp only [List.getElem_toArray, List.getElem_cons_succ, List.getElem_cons_zero, Act.put, List.setIfInBounds_toArray, List.set_cons_zero, List.set_cons_succ]
                  refine wpAnyH_take (i := 9) (v := ?v20) rfl (by kernel_rfl) (by kernel_rfl) (by kernel_rfl) (fun _ _ _ h => h) (Or.inl ⟨by rfl, ?y20⟩) (by assumption) ?r20
                  case y20 => (intro w hSw; (try dsimp only at hSw); go_simp; try (with_reducible rfl))
                  simp only [List.getElem_toArray, List.getElem_cons_succ, List.getElem_cons_zero, Act.put, List.setIfInBounds_toArray, List.set_cons_zero, List.set_cons_succ]
                  refine wpAnyH_ready (rs := [10]) (by kernel_rfl) (by simp) ?_
                  refine AllReadyH.cons rfl (fun K hK => ?_) AllReadyH.nil
                  simp only [List.getElem_toArray, List.getElem_cons_succ, List.getElem_cons_zero]
                  obtain ⟨hci, hfi⟩ := ADx.out.atC i (by omega)
                  go_simp
                  obtain ⟨w6, hw6⟩ : ∃ y, y = (w5.setCell ⟨gC, i, none⟩ (.int .i64 x2)).drew := ⟨_, rfl⟩
                  have ADxx := hide (show AdB w w6 base gN cN gC cC k G (T + 1) (Q1.set i x1) (Q2.set i x2) by rw [hw6]; exact (ADx.out.setC i x2).drew)
                  try rw [← hw6]
                  refine hK.out _ _ ?_ (fun hHeld => ?_)
                  · refine ⟨(blk4 ADxx.out.X).2.1, ?_⟩
                    rw [hw6]
                    show (w5.setCell ⟨gC, i, none⟩ (.int .i64 x2)).cell? ⟨gC, r, none⟩ = _
                    rw [cell_neH _ _ _ _ _ (by omega)]
                    exact hcr
                  clear hK K hw6 hci hfi hcr p1
                  try simp only [Act.put, List.setIfInBounds_toArray, List.set_cons_zero, List.set_cons_succ]
                  refine wpAnyH_done (by kernel_rfl) ?_ _
                  clear hHeld
                  have S3 := hide (S1.out.step (by omega) (by have := A1.out.lenN; omega))
                  have S4 := hide (S2.out.step (by omega) (by have := A1.out.lenC; omega))
                  rw [← HR.out, ← Hx1.out] at S3
                  rw [← HR.out, ← Hx2.out] at S4
                  go_wp2
                  go_roundw
                  case rel => exact ⟨r, _, _, by have := HR.out; omega, by omega, by go_num, S3.out, S4.out, ADxx.out⟩
                  case measure => have := HR.out; simp [intOf]; omega
                · obtain rfl : i = j := by omega
                  have hgtI : ¬ (i : Int) > (i : Int) := by omega
                  have hikI : (i : Int) < (k : Int) := by omega
                  have hi0 : (0 : Int) ≤ (i : Int) := by omega
                  obtain ⟨p0, p1, p2, p3⟩ := blk4 AD.out.X
                  obtain ⟨hci, hfi⟩ := AD.out.atN i hik
                  have A5 := hide (AD.out.setN i s)
                  have HE2 := hide (show h' = ⟨Q1.set i s, Q2.set i 1, G, T + 1⟩ by rw [HE.out, S1.out.put (by have := A1.out.lenN; omega), S2.out.put (by have := A1.out.lenC; omega)])
                  clear S1 S2 HE
                  go_upto_region 21 with fail
                  obtain ⟨w5, hw5⟩ : ∃ y, y = wr.setCell ⟨gN, i, none⟩ (.string s) := ⟨_, rfl⟩
                  rw [← hw5] at A5
                  rw [← hw5]
                  clear hw5 p0 p1 p2 p3 hci hfi
                  obtain ⟨p0, p1, p2, p3⟩ := blk4 A5.out.X
                  obtain ⟨hci, hfi⟩ := A5.out.atC i hik
                  have A6 := hide (A5.out.setC i 1)
                  go_upto_region 22 with fail
                  obtain ⟨w6, hw6⟩ : ∃ y, y = w5.setCell ⟨gC, i, none⟩ (.int .i64 1) := ⟨_, rfl⟩
                  rw [← hw6] at A6
                  rw [← hw6]
                  clear hw6 p0 p1 p2 p3 hci hfi
                  obtain ⟨p0, p1, p2, p3⟩ := blk4 A6.out.X
                  obtain ⟨y0, y1, y2, y3⟩ := blk4 A6.out.Z
                  obtain ⟨f0, f1, f2, f3⟩ := frz4 A6.out.Z
                  have R9 := hide (set4 (a' := (.slice (some ⟨gN, 0, none⟩) k cN)) (b' := (.slice (some ⟨gC, 0, none⟩) k cC)) (c' := .int .i64 G) (d' := .int .i64 (T + 1)) A6.out.Z)
                  have O9 := hide (A6.out.out G (T + 1) (.slice (some ⟨gN, 0, none⟩) k cN) (.slice (some ⟨gC, 0, none⟩) k cC) (.int .i64 G) (.int .i64 (T + 1)))
                  have B9 := hide (below4 A6.out.B (w.heap.size + 1) (by have := A6.out.b; omega) (.slice (some ⟨gN, 0, none⟩) k cN) (.slice (some ⟨gC, 0, none⟩) k cC) (.int .i64 G) (.int .i64 (T + 1)))
                  have K9 := hide (fun (q : Nat) (q1 : q < w.heap.size) (q2 : (Value.slice (some ⟨gN, 0, none⟩) k cN).ownBlock ≠ some q) (q3 : (Value.slice (some ⟨gC, 0, none⟩) k cC).ownBlock ≠ some q) => (keep4O (w.heap.size + 1) (show q ≠ w.heap.size + 1 by omega) (.slice (some ⟨gN, 0, none⟩) k cN) (.slice (some ⟨gC, 0, none⟩) k cC) (.int .i64 G) (.int .i64 (T + 1))).trans (A6.out.O q q1 (fun e => q2 (by rw [e]; rfl)) (fun e => q3 (by rw [e]; rfl))))
                  go_wp2
                  clear p0 p1 p2 p3 y0 y1 y2 y3 f0 f1 f2 f3
                  obtain ⟨d0, d1, d2, d3⟩ := blk4 R9.out
                  refine bodyPost_ret (v := hvV (.slice (some ⟨gN, 0, none⟩) k cN) (.slice (some ⟨gC, 0, none⟩) k cC) G (T + 1)) (by simp [results, Try.f36, go_sem, d0, d1, d2, d3]) rfl ⟨_, _, by rw [HE2.out], by rw [HE2.out]; exact O9.out, B9.out, K9.out⟩
            · have hxe : x.toList.isEmpty = true := by
                rw [hx, HK.out.emp htk |> fun e => (show na h j = e0 by rw [show j = tk by omega]; exact e)]
                exact e0_emp
              clear hx
              have S1 := hide (show Sh e0 h.nm h.nm q by have e := A1.out.lenN; have := sh_start e0 h.nm; rw [e, ← HQ.out] at this; exact this)
              have S2 := hide (show Sh 0 h.ct h.ct q by have e := A1.out.lenC; have := sh_start (0 : Int) h.ct; rw [e, ← HQ.out] at this; exact this)
              have hpq : j ≤ q := by have := HQ.out; omega
              have hqn : q < k := by have := HQ.out; omega
              go_wp2
              clear p0 p1 p2 p3 f0 f1 f2 f3 hc hq1
              go_loopw [9] (fun t wr => ∃ (i : Nat) (Q1 : List ByteArray) (Q2 : List Int), j ≤ i ∧ i < k ∧ t = .int .i64 i ∧ Hid (Sh e0 h.nm Q1 i) ∧ Hid (Sh 0 h.ct Q2 i) ∧ Hid (AdB w wr base gN cN gC cC k G (T + 1) Q1 Q2)) (fun t _ => (intOf t).toNat)
              case atStart => exact ⟨q, _, _, hpq, hqn, rfl, S1.out, S2.out, A1.out⟩
              case round =>
                clear S1 S2
                obtain ⟨i, Q1, Q2, hji, hik, rfl, S1, S2, AD⟩ := hrel
                by_cases hgt : j < i
                · have hgtI : (i : Int) > (j : Int) := by omega
                  obtain ⟨r, hr⟩ : ∃ r, r = i - 1 := ⟨_, rfl⟩
                  have hr1 : (i : Int) - 1 = (r : Int) := by omega
                  have hwr := wrapH (r : Int) (by omega) (by omega)
                  have hwi := wrapH ((i : Int) - 1) (by omega) (by omega)
                  have hri : r ≠ i := by omega
                  have hrk : (r : Int) < (k : Int) := by omega
                  have hr0 : (0 : Int) ≤ (r : Int) := by omega
                  have hikI : (i : Int) < (k : Int) := by omega
                  have hi0 : (0 : Int) ≤ (i : Int) := by omega
                  have HR := hide hr
                  clear hr
                  obtain ⟨x1, hx1⟩ : ∃ y, y = Q1.getD r e0 := ⟨_, rfl⟩
                  obtain ⟨hcr, _⟩ := AD.out.atN r (by omega)
                  rw [← hx1] at hcr
                  have Hx1 := hide hx1
                  clear hx1
                  have p0 := (blk4 AD.out.X).1
                  go_upto_region 18 with fail
                  refine wp_region_held_drew (S := fun wx => wx.cell? ⟨w.heap.size, 0, none⟩ = some (.slice (some ⟨gN, 0, none⟩) k cN) ∧ wx.cell? ⟨gN, r, none⟩ = some (.string x1)) (by kernel_rfl) ⟨p0, hcr⟩ (fun hHeld => ?_)
                  refine wpAnyH_take (i := 0) (v := ?v21) rfl (by kernel_rfl) (by kernel_rfl) (by kernel_rfl) (fun _ _ _ h => h) (Or.inl ⟨by rfl, ?y21⟩) (by assumption) ?r21
                  case y21 => (intro w hSw; (try dsimp only at hSw); go_simp; try (with_reducible rfl))
                  simp only [List.getElem_toArray, List.getElem_cons_zero, Act.put, List.setIfInBounds_toArray, List.set_cons_zero, List.set_cons_succ]
                  refine wpAnyH_take (i := 1) (v := ?v22) rfl (by kernel_rfl) (by kernel_rfl) (by kernel_rfl) (fun _ _ _ h => h) (Or.inl ⟨by rfl, ?y22⟩) (by assumption) ?r22
                  case y22 => (intro w hSw; (try dsimp only at hSw); go_simp; try (with_reducible rfl))
                  simp only [List.getElem_toArray, List.getElem_cons_succ, List.getElem_cons_zero, Act.put, List.setIfInBounds_toArray, List.set_cons_zero, List.set_cons_succ]
                  refine wpAnyH_take (i := 2) (v := ?v23) rfl (by kernel_rfl) (by kernel_rfl) (by kernel_rfl) (fun _ _ _ h => h) (Or.inl ⟨by rfl, ?y23⟩) (by assumption) ?r23
                  case y23 => (intro w hSw; (try dsimp only at hSw); go_simp; try (with_reducible rfl))
                  simp only [List.getElem_toArray, List.getElem_cons_succ, List.getElem_cons_zero, Act.put, List.setIfInBounds_toArray, List.set_cons_zero, List.set_cons_succ]
                  refine wpAnyH_take (i := 3) (v := ?v24) rfl (by kernel_rfl) (by kernel_rfl) (by kernel_rfl) (fun _ _ _ h => h) (Or.inl ⟨by rfl, ?y24⟩) (by assumption) ?r24
                  case y24 => (intro w hSw; (try dsimp only at hSw); go_simp; try (with_reducible rfl))
                  simp only [List.getElem_toArray, List.getElem_cons_succ, List.getElem_cons_zero, Act.put, List.setIfInBounds_toArray, List.set_cons_zero, List.set_cons_succ]
                  refine wpAnyH_take (i := 4) (v := ?v25) rfl (by kernel_rfl) (by kernel_rfl) (by kernel_rfl) (fun _ _ _ h => h) (Or.inl ⟨by rfl, ?y25⟩) (by assumption) ?r25
                  case y25 => (intro w hSw; (try dsimp only at hSw); go_simp; try (with_reducible rfl))
                  simp only [List.getElem_toArray, List.getElem_cons_succ, List.getElem_cons_zero, Act.put, List.setIfInBounds_toArray, List.set_cons_zero, List.set_cons_succ]
                  refine wpAnyH_take (i := 5) (v := ?v26) rfl (by kernel_rfl) (by kernel_rfl) (by kernel_rfl) (fun _ _ _ h => h) (Or.inl ⟨by rfl, ?y26⟩) (by assumption) ?r26
                  case y26 => (intro w hSw; (try dsimp only at hSw); go_simp; try (with_reducible rfl))
                  simp only [List.getElem_toArray, List.getElem_cons_succ, List.getElem_cons_zero, Act.put, List.setIfInBounds_toArray, List.set_cons_zero, List.set_cons_succ]
                  refine wpAnyH_take (i := 6) (v := ?v27) rfl (by kernel_rfl) (by kernel_rfl) (by kernel_rfl) (fun _ _ _ h => h) (Or.inl ⟨by rfl, ?y27⟩) (by assumption) ?r27
                  case y27 => (intro w hSw; (try dsimp only at hSw); go_simp; try (with_reducible rfl))
                  simp only [List.getElem_toArray, List.getElem_cons_succ, List.getElem_cons_zero, Act.put, List.setIfInBounds_toArray, List.set_cons_zero, List.set_cons_succ]
                  refine wpAnyH_take (i := 7) (v := ?v28) rfl (by kernel_rfl) (by kernel_rfl) (by kernel_rfl) (fun _ _ _ h => h) (Or.inl ⟨by rfl, ?y28⟩) (by assumption) ?r28
                  case y28 => (intro w hSw; (try dsimp only at hSw); go_simp; try (with_reducible rfl))
                  simp only [List.getElem_toArray, List.getElem_cons_succ, List.getElem_cons_zero, Act.put, List.setIfInBounds_toArray, List.set_cons_zero, List.set_cons_succ]
                  refine wpAnyH_take (i := 8) (v := ?v29) rfl (by kernel_rfl) (by kernel_rfl) (by kernel_rfl) (fun _ _ _ h => h) (Or.inl ⟨by rfl, ?y29⟩) (by assumption) ?r29
                  case y29 => (intro w hSw; (try dsimp only at hSw); go_simp; try (with_reducible rfl))
                  simp only [List.getElem_toArray, List.getElem_cons_succ, List.getElem_cons_zero, Act.put, List.setIfInBounds_toArray, List.set_cons_zero, List.set_cons_succ]
                  refine wpAnyH_take (i := 9) (v := ?v30) rfl (by kernel_rfl) (by kernel_rfl) (by kernel_rfl) (fun _ _ _ h => h) (Or.inl ⟨by rfl, ?y30⟩) (by assumption) ?r30
                  case y30 => (intro w hSw; (try dsimp only at hSw); go_simp; try (with_reducible rfl))
                  simp only [List.getElem_toArray, List.getElem_cons_succ, List.getElem_cons_zero, Act.put, List.setIfInBounds_toArray, List.set_cons_zero, List.set_cons_succ]
                  refine wpAnyH_ready (rs := [10]) (by kernel_rfl) (by simp) ?_
                  refine AllReadyH.cons rfl (fun K hK => ?_) AllReadyH.nil
                  simp only [List.getElem_toArray, List.getElem_cons_succ, List.getElem_cons_zero]
                  obtain ⟨hci, hfi⟩ := AD.out.atN i (by omega)
                  go_simp
                  obtain ⟨w5, hw5⟩ : ∃ y, y = (wr.setCell ⟨gN, i, none⟩ (.string x1)).drew := ⟨_, rfl⟩
                  have ADx := hide (show AdB w w5 base gN cN gC cC k G (T + 1) (Q1.set i x1) Q2 by rw [hw5]; exact (AD.out.setN i x1).drew)
                  try rw [← hw5]
                  refine hK.out _ _ ?_ (fun hHeld => ?_)
                  · refine ⟨(blk4 ADx.out.X).1, ?_⟩
                    rw [hw5]
                    show (wr.setCell ⟨gN, i, none⟩ (.string x1)).cell? ⟨gN, r, none⟩ = _
                    rw [cell_neH _ _ _ _ _ (by omega)]
                    exact hcr
                  clear hK K hw5 hci hfi hcr p0
                  try simp only [Act.put, List.setIfInBounds_toArray, List.set_cons_zero, List.set_cons_succ]
                  refine wpAnyH_done (by kernel_rfl) ?_ _
                  clear hHeld
                  obtain ⟨x2, hx2⟩ : ∃ y, y = Q2.getD r 0 := ⟨_, rfl⟩
                  obtain ⟨hcr, _⟩ := ADx.out.atC r (by omega)
                  rw [← hx2] at hcr
                  have Hx2 := hide hx2
                  clear hx2
                  have p1 := (blk4 ADx.out.X).2.1
                  go_upto_region 19 with fail
                  refine wp_region_held_drew (S := fun wx => wx.cell? ⟨w.heap.size, 1, none⟩ = some (.slice (some ⟨gC, 0, none⟩) k cC) ∧ wx.cell? ⟨gC, r, none⟩ = some (.int .i64 x2)) (by kernel_rfl) ⟨p1, hcr⟩ (fun hHeld => ?_)
                  refine wpAnyH_take (i := 0) (v := ?v31) rfl (by kernel_rfl) (by kernel_rfl) (by kernel_rfl) (fun _ _ _ h => h) (Or.inl ⟨by rfl, ?y31⟩) (by assumption) ?r31
                  case y31 => (intro w hSw; (try dsimp only at hSw); go_simp; try (with_reducible rfl))
                  simp only [List.getElem_toArray, List.getElem_cons_zero, Act.put, List.setIfInBounds_toArray, List.set_cons_zero, List.set_cons_succ]
                  refine wpAnyH_take (i := 1) (v := ?v32) rfl (by kernel_rfl) (by kernel_rfl) (by kernel_rfl) (fun _ _ _ h => h) (Or.inl ⟨by rfl, ?y32⟩) (by assumption) ?r32
                  case y32 => (intro w hSw; (try dsimp only at hSw); go_simp; try (with_reducible rfl))
                  simp only [List.getElem_toArray, List.getElem_cons_succ, List.getElem_cons_zero, Act.put, List.setIfInBounds_toArray, List.set_cons_zero, List.set_cons_succ]
                  refine wpAnyH_take (i := 2) (v := ?v33) rfl (by kernel_rfl) (by kernel_rfl) (by kernel_rfl) (fun _ _ _ h => h) (Or.inl ⟨by rfl, ?y33⟩) (by assumption) ?r33
                  case y33 => (intro w hSw; (try dsimp only at hSw); go_simp; try (with_reducible rfl))
                  simp only [List.getElem_toArray, List.getElem_cons_succ, List.getElem_cons_zero, Act.put, List.setIfInBounds_toArray, List.set_cons_zero, List.set_cons_succ]
                  refine wpAnyH_take (i := 3) (v := ?v34) rfl (by kernel_rfl) (by kernel_rfl) (by kernel_rfl) (fun _ _ _ h => h) (Or.inl ⟨by rfl, ?y34⟩) (by assumption) ?r34
                  case y34 => (intro w hSw; (try dsimp only at hSw); go_simp; try (with_reducible rfl))
                  simp only [List.getElem_toArray, List.getElem_cons_succ, List.getElem_cons_zero, Act.put, List.setIfInBounds_toArray, List.set_cons_zero, List.set_cons_succ]
                  refine wpAnyH_take (i := 4) (v := ?v35) rfl (by kernel_rfl) (by kernel_rfl) (by kernel_rfl) (fun _ _ _ h => h) (Or.inl ⟨by rfl, ?y35⟩) (by assumption) ?r35
                  case y35 => (intro w hSw; (try dsimp only at hSw); go_simp; try (with_reducible rfl))
                  simp only [List.getElem_toArray, List.getElem_cons_succ, List.getElem_cons_zero, Act.put, List.setIfInBounds_toArray, List.set_cons_zero, List.set_cons_succ]
                  refine wpAnyH_take (i := 5) (v := ?v36) rfl (by kernel_rfl) (by kernel_rfl) (by kernel_rfl) (fun _ _ _ h => h) (Or.inl ⟨by rfl, ?y36⟩) (by assumption) ?r36
                  case y36 => (intro w hSw; (try dsimp only at hSw); go_simp; try (with_reducible rfl))
                  simp only [List.getElem_toArray, List.getElem_cons_succ, List.getElem_cons_zero, Act.put, List.setIfInBounds_toArray, List.set_cons_zero, List.set_cons_succ]
                  refine wpAnyH_take (i := 6) (v := ?v37) rfl (by kernel_rfl) (by kernel_rfl) (by kernel_rfl) (fun _ _ _ h => h) (Or.inl ⟨by rfl, ?y37⟩) (by assumption) ?r37
                  case y37 => (intro w hSw; (try dsimp only at hSw); go_simp; try (with_reducible rfl))
                  simp only [List.getElem_toArray, List.getElem_cons_succ, List.getElem_cons_zero, Act.put, List.setIfInBounds_toArray, List.set_cons_zero, List.set_cons_succ]
                  refine wpAnyH_take (i := 7) (v := ?v38) rfl (by kernel_rfl) (by kernel_rfl) (by kernel_rfl) (fun _ _ _ h => h) (Or.inl ⟨by rfl, ?y38⟩) (by assumption) ?r38
                  case y38 => (intro w hSw; (try dsimp only at hSw); go_simp; try (with_reducible rfl))
                  simp only [List.getElem_toArray, List.getElem_cons_succ, List.getElem_cons_zero, Act.put, List.setIfInBounds_toArray, List.set_cons_zero, List.set_cons_succ]
                  refine wpAnyH_take (i := 8) (v := ?v39) rfl (by kernel_rfl) (by kernel_rfl) (by kernel_rfl) (fun _ _ _ h => h) (Or.inl ⟨by rfl, ?y39⟩) (by assumption) ?r39
                  case y39 => (intro w hSw; (try dsimp only at hSw); go_simp; try (with_reducible rfl))
                  simp only [List.getElem_toArray, List.getElem_cons_succ, List.getElem_cons_zero, Act.put, List.setIfInBounds_toArray, List.set_cons_zero, List.set_cons_succ]
                  refine wpAnyH_take (i := 9) (v := ?v40) rfl (by kernel_rfl) (by kernel_rfl) (by kernel_rfl) (fun _ _ _ h => h) (Or.inl ⟨by rfl, ?y40⟩) (by assumption) ?r40
                  case y40 => (intro w hSw; (try dsimp only at hSw); go_simp; try (with_reducible rfl))
                  simp only [List.getElem_toArray, List.getElem_cons_succ, List.getElem_cons_zero, Act.put, List.setIfInBounds_toArray, List.set_cons_zero, List.set_cons_succ]
                  refine wpAnyH_ready (rs := [10]) (by kernel_rfl) (by simp) ?_
                  refine AllReadyH.cons rfl (fun K hK => ?_) AllReadyH.nil
                  simp only [List.getElem_toArray, List.getElem_cons_succ, List.getElem_cons_zero]
                  obtain ⟨hci, hfi⟩ := ADx.out.atC i (by omega)
                  go_simp
                  obtain ⟨w6, hw6⟩ : ∃ y, y = (w5.setCell ⟨gC, i, none⟩ (.int .i64 x2)).drew := ⟨_, rfl⟩
                  have ADxx := hide (show AdB w w6 base gN cN gC cC k G (T + 1) (Q1.set i x1) (Q2.set i x2) by rw [hw6]; exact (ADx.out.setC i x2).drew)
                  try rw [← hw6]
                  refine hK.out _ _ ?_ (fun hHeld => ?_)
                  · refine ⟨(blk4 ADxx.out.X).2.1, ?_⟩
                    rw [hw6]
                    show (w5.setCell ⟨gC, i, none⟩ (.int .i64 x2)).cell? ⟨gC, r, none⟩ = _
                    rw [cell_neH _ _ _ _ _ (by omega)]
                    exact hcr
                  clear hK K hw6 hci hfi hcr p1
                  try simp only [Act.put, List.setIfInBounds_toArray, List.set_cons_zero, List.set_cons_succ]
                  refine wpAnyH_done (by kernel_rfl) ?_ _
                  clear hHeld
                  have S3 := hide (S1.out.step (by omega) (by have := A1.out.lenN; omega))
                  have S4 := hide (S2.out.step (by omega) (by have := A1.out.lenC; omega))
                  rw [← HR.out, ← Hx1.out] at S3
                  rw [← HR.out, ← Hx2.out] at S4
                  go_wp2
                  go_roundw
                  case rel => exact ⟨r, _, _, by have := HR.out; omega, by omega, by go_num, S3.out, S4.out, ADxx.out⟩
                  case measure => have := HR.out; simp [intOf]; omega
                · obtain rfl : i = j := by omega
                  have hgtI : ¬ (i : Int) > (i : Int) := by omega
                  have hikI : (i : Int) < (k : Int) := by omega
                  have hi0 : (0 : Int) ≤ (i : Int) := by omega
                  obtain ⟨p0, p1, p2, p3⟩ := blk4 AD.out.X
                  obtain ⟨hci, hfi⟩ := AD.out.atN i hik
                  have A5 := hide (AD.out.setN i s)
                  have HE2 := hide (show h' = ⟨Q1.set i s, Q2.set i 1, G, T + 1⟩ by rw [HE.out, S1.out.put (by have := A1.out.lenN; omega), S2.out.put (by have := A1.out.lenC; omega)])
                  clear S1 S2 HE
                  go_upto_region 21 with fail
                  obtain ⟨w5, hw5⟩ : ∃ y, y = wr.setCell ⟨gN, i, none⟩ (.string s) := ⟨_, rfl⟩
                  rw [← hw5] at A5
                  rw [← hw5]
                  clear hw5 p0 p1 p2 p3 hci hfi
                  obtain ⟨p0, p1, p2, p3⟩ := blk4 A5.out.X
                  obtain ⟨hci, hfi⟩ := A5.out.atC i hik
                  have A6 := hide (A5.out.setC i 1)
                  go_upto_region 22 with fail
                  obtain ⟨w6, hw6⟩ : ∃ y, y = w5.setCell ⟨gC, i, none⟩ (.int .i64 1) := ⟨_, rfl⟩
                  rw [← hw6] at A6
                  rw [← hw6]
                  clear hw6 p0 p1 p2 p3 hci hfi
                  obtain ⟨p0, p1, p2, p3⟩ := blk4 A6.out.X
                  obtain ⟨y0, y1, y2, y3⟩ := blk4 A6.out.Z
                  obtain ⟨f0, f1, f2, f3⟩ := frz4 A6.out.Z
                  have R9 := hide (set4 (a' := (.slice (some ⟨gN, 0, none⟩) k cN)) (b' := (.slice (some ⟨gC, 0, none⟩) k cC)) (c' := .int .i64 G) (d' := .int .i64 (T + 1)) A6.out.Z)
                  have O9 := hide (A6.out.out G (T + 1) (.slice (some ⟨gN, 0, none⟩) k cN) (.slice (some ⟨gC, 0, none⟩) k cC) (.int .i64 G) (.int .i64 (T + 1)))
                  have B9 := hide (below4 A6.out.B (w.heap.size + 1) (by have := A6.out.b; omega) (.slice (some ⟨gN, 0, none⟩) k cN) (.slice (some ⟨gC, 0, none⟩) k cC) (.int .i64 G) (.int .i64 (T + 1)))
                  have K9 := hide (fun (q : Nat) (q1 : q < w.heap.size) (q2 : (Value.slice (some ⟨gN, 0, none⟩) k cN).ownBlock ≠ some q) (q3 : (Value.slice (some ⟨gC, 0, none⟩) k cC).ownBlock ≠ some q) => (keep4O (w.heap.size + 1) (show q ≠ w.heap.size + 1 by omega) (.slice (some ⟨gN, 0, none⟩) k cN) (.slice (some ⟨gC, 0, none⟩) k cC) (.int .i64 G) (.int .i64 (T + 1))).trans (A6.out.O q q1 (fun e => q2 (by rw [e]; rfl)) (fun e => q3 (by rw [e]; rfl))))
                  go_wp2
                  clear p0 p1 p2 p3 y0 y1 y2 y3 f0 f1 f2 f3
                  obtain ⟨d0, d1, d2, d3⟩ := blk4 R9.out
                  refine bodyPost_ret (v := hvV (.slice (some ⟨gN, 0, none⟩) k cN) (.slice (some ⟨gC, 0, none⟩) k cC) G (T + 1)) (by simp [results, Try.f36, go_sem, d0, d1, d2, d3]) rfl ⟨_, _, by rw [HE2.out], by rw [HE2.out]; exact O9.out, B9.out, K9.out⟩
theorem l15Add_any (base : Nat) (aN : Option Addr) (n cN : Nat) (aC : Option Addr) (cC : Nat) (G T : Int) (h : Hv) (s : ByteArray) (tk p : Nat) (w : World) (ho : OwH w base (.slice aN n cN) (.slice aC n cC) n n h) (hbs : base ≤ w.heap.size) (hg : h.g = G) (ht : h.t = T) (gd : GoodHv h n n) (hk : IsTk h.nm n tk) (hp : IsAt h.nm tk s p) (hs : s ≠ e0) (hT : 0 ≤ T ∧ T ≤ 10000000) (h' : Hv) (hh : h' = addH h n tk p s) :
    Calls Try.prog 36 #[.agg #[.slice aN n cN, .slice aC n cC, .int .i64 G, .int .i64 T], .string s] w fun e w' => ∃ v u, e = .returned (hvV v u h'.g h'.t) ∧ OwH w' base v u n n h' ∧ Below base w w' :=
  (l15Add_anyO base aN n cN aC cC G T h s tk p w ho hbs hg ht gd hk hp hs hT h' hh).mono fun e w' ⟨v, u, h1, h2, h3, _⟩ => ⟨v, u, h1, h2, h3⟩
end Go.Proofs.Yticgejaaoamhmao.L15H

namespace Go.Proofs.Yticgejaaoamhmao.L3
open Go.RowKit L1
set_option linter.unusedVariables false

theorem bts_at (s : ByteArray) (k : Nat) (h : k < s.size) : (bts s 0).getD k 0 = ((s[k]'h).toNat : Int) := by
  have := bts_get s 0 k (by omega)
  simp only [Nat.zero_add] at this
  exact this
set_option maxRecDepth 100000 in
set_option maxHeartbeats 400000 in
theorem isLetter_any (r : Int) (w : World) (bb : Bool) (hb : bb = true ↔ okB false r) :
    Calls Try.prog 70 #[.int .i32 r] w fun e w' => e = .returned (.bool bb) ∧ w = w' := by
  by_cases h1 : 97 ≤ r
  · by_cases h2 : r ≤ 122
    · obtain rfl : bb = true := hb.2 (.inl ⟨h1, h2⟩)
      clear hb
      go_enter Try.func70, Try.ntmps70
      go_wp2
      go_ret
      exact ⟨rfl, rfl⟩
    · obtain rfl : bb = false := bool_noT hb (by unfold okB; simp; omega)
      clear hb
      go_enter Try.func70, Try.ntmps70
      go_wp2
      go_ret
      exact ⟨by first | rfl | simp [h2], rfl⟩
  · obtain rfl : bb = false := bool_noT hb (by unfold okB; simp; omega)
    clear hb
    go_enter Try.func70, Try.ntmps70
    go_wp2
    go_ret
    exact ⟨by first | rfl | simp [h1], rfl⟩
set_option maxRecDepth 100000 in
set_option maxHeartbeats 1000000 in
theorem isWord_any (g : Nat) (dig : Bool) (hg : ∀ r w bb, (bb = true ↔ okB dig r) → Calls Try.prog g #[.int .i32 r] w fun e w' => e = .returned (.bool bb) ∧ w = w') (eg : ∀ args w, (callFunc g args).run Try.prog w = .ok (.enter g args) w)
    (s : ByteArray) (w : World) (hs : s.size ≤ 9223372036854775807) (bb : Bool) (hbb : bb = true ↔ Word dig s) :
    Calls Try.prog 69 #[.string s, .func (.func g) #[] #[]] w fun e w' => e = .returned (.bool bb) ∧ Below w.heap.size w w' := by
  have HBB := hide hbb
  have HG := hide hg
  clear hbb hg
  by_cases h1 : (s.size : Int) < 1
  · have E := hide (bool_noT HBB.out (fun h => by have := h.1.1; omega))
    go_enter Try.func69, Try.ntmps69
    go_wp2
    go_ret
    exact ⟨by rw [E.out]; rfl, Below.refl _ _⟩
  · by_cases h8 : 8 < (s.size : Int)
    · have E := hide (bool_noT HBB.out (fun h => by have := h.1.2; omega))
      go_enter Try.func69, Try.ntmps69
      go_wp2
      go_ret
      exact ⟨by rw [E.out]; rfl, Below.refl _ _⟩
    · go_enter Try.func69, Try.ntmps69
      go_wp2
      go_loopw [] (fun w' => ∃ pos : Nat, w' = w.iter s pos ∧ pos ≤ s.size ∧ Hid (∀ k, k < pos → okB dig ((bts s 0).getD k 0))) (fun w' => s.size - w'.iterPos w.heap.size)
      case atStart => exact ⟨0, rfl, Nat.zero_le _, fun k hk => absurd hk (Nat.not_lt_zero _)⟩
      case round =>
        obtain ⟨pos, rfl, hpos, HJ⟩ := hrel
        by_cases hp : pos < s.size
        · have hnx : ∀ ty, (Instr.next (.pointer (some ⟨w.heap.size, 0, none⟩)) true ty).run Try.prog (w.iter s pos) = _ := fun ty => run_next_any w s pos ty hp
          have hdec : okB dig ((Utf8.decode s pos).1 : Nat) → (Utf8.decode s pos).2 = 1 ∧ ((Utf8.decode s pos).1 : Int) = (bts s 0).getD pos 0 := fun h => by
            by_cases ha : (s[pos]'hp).toNat < 128
            · rw [decode_ascii s pos hp ha, bts_at s pos hp]; simp
            · have := (decode_high s pos hp (by omega)).1
              unfold okB at h
              omega
          have hdec2 : okB dig ((bts s 0).getD pos 0) → okB dig ((Utf8.decode s pos).1 : Nat) := fun h => by
            rw [bts_at s pos hp] at h
            have ha : (s[pos]'hp).toNat < 128 := by unfold okB at h; omega
            rw [decode_ascii s pos hp ha]
            exact h
          obtain ⟨r, hr⟩ : ∃ r, r = (Utf8.decode s pos).1 := ⟨_, rfl⟩
          obtain ⟨wd, hwd⟩ : ∃ wd, wd = (Utf8.decode s pos).2 := ⟨_, rfl⟩
          rw [← hr, ← hwd] at hdec hnx
          rw [← hr] at hdec2
          by_cases hok : okB dig (r : Int)
          · have C := hide (fun w => HG.out (r : Int) w true (by simp [hok]))
            have HD := hide (hdec hok)
            have HOK := hide hok
            clear hr hwd hdec hdec2 hok
            go_wp2_with fail
            refine (C.out _).mono ?_
            rintro e w1 ⟨rfl, rfl⟩
            go_wp2
            go_roundw
            case rel =>
              refine ⟨pos + 1, by rw [HD.out.1], by omega, ?_⟩
              intro k hk
              by_cases e : k = pos
              · subst e; rw [← HD.out.2]; exact HOK.out
              · exact HJ.out k (by omega)
            case measure =>
              have := HD.out.1
              simp
              omega
          · have C := hide (fun w => HG.out (r : Int) w false (by simp [hok]))
            have E := hide (bool_noT HBB.out (fun h => hok (hdec2 (h.2 pos hp))))
            clear hr hwd hdec hdec2 hok
            go_wp2_with fail
            refine (C.out _).mono ?_
            rintro e w1 ⟨rfl, rfl⟩
            go_wp2
            go_ret
            exact ⟨by rw [E.out]; rfl, (Below.refl _ _).alloc (Nat.le_refl _) _⟩
        · have hnx : ∀ ty, (Instr.next (.pointer (some ⟨w.heap.size, 0, none⟩)) true ty).run Try.prog (w.iter s pos) = _ := fun ty => run_next_end w s pos ty hp
          have E := hide (HBB.out.2 ⟨by omega, fun k hk => HJ.out k (by omega)⟩)
          go_wp2
          go_ret
          exact ⟨by rw [E.out]; rfl, (Below.refl _ _).alloc (Nat.le_refl _) _⟩
set_option maxRecDepth 100000 in
set_option maxHeartbeats 400000 in
theorem isName_any (s : ByteArray) (w : World) (hs : s.size ≤ 9223372036854775807) (bb : Bool) (hbb : bb = true ↔ Word false s) :
    Calls Try.prog 40 #[.string s] w fun e w' => e = .returned (.bool bb) ∧ Below w.heap.size w w' := by
  have C := hide (fun w => isWord_any 70 false (fun r w bb h => isLetter_any r w bb h) (enters_of Try.func70 (by kernel_rfl) rfl) s w hs bb hbb)
  clear hbb
  go_enter Try.func40, Try.ntmps40
  go_wp2_with fail
  refine (C.out _).mono ?_
  rintro e w1 ⟨rfl, hb1⟩
  go_wp2
  go_ret
  exact ⟨rfl, hb1⟩
end Go.Proofs.Yticgejaaoamhmao.L3

namespace Go.Proofs.Yticgejaaoamhmao.L3
open Go.RowKit L1
set_option linter.unusedVariables false

set_option maxRecDepth 100000 in
set_option maxHeartbeats 400000 in
theorem l1In_yes (x lo hi : Int) (w : World) (h1 : lo ≤ x) (h2 : x ≤ hi) :
    Calls Try.prog 63 #[.int .i64 x, .int .i64 lo, .int .i64 hi] w fun e w' => e = .returned (.bool true) ∧ w = w' := by
  go_enter Try.func63, Try.ntmps63
  go_wp2
  go_ret
  exact ⟨rfl, rfl⟩
set_option maxRecDepth 100000 in
set_option maxHeartbeats 400000 in
theorem l1In_no (x lo hi : Int) (w : World) (h : ¬ (lo ≤ x ∧ x ≤ hi)) :
    Calls Try.prog 63 #[.int .i64 x, .int .i64 lo, .int .i64 hi] w fun e w' => e = .returned (.bool false) ∧ w = w' := by
  by_cases h1 : lo ≤ x
  · have h2 : ¬ x ≤ hi := fun h2 => h ⟨h1, h2⟩
    clear h
    go_enter Try.func63, Try.ntmps63
    go_wp2
    go_ret
    exact ⟨rfl, rfl⟩
  · clear h
    go_enter Try.func63, Try.ntmps63
    go_wp2
    go_ret
    exact ⟨rfl, rfl⟩

set_option maxRecDepth 100000 in
set_option maxHeartbeats 2000000 in
theorem l3Name_any (s : ByteArray) (dig : Bool) (w : World) (hs : s.size ≤ 9223372036854775807) (bb : Bool) (hbb : bb = true ↔ Word dig s) :
    Calls Try.prog 35 #[.string s, .bool dig] w fun e w' => e = .returned (.bool bb) ∧ w = w' := by
  have HBB := hide hbb
  clear hbb
  go_enter Try.func35, Try.ntmps35
  go_wp2
  go_loop [5] (fun i => ∃ k : Nat, k ≤ s.size ∧ i = .int .i64 k ∧ Hid (∀ j, j < k → okB dig ((bts s 0).getD j 0))) (fun i => s.size - (intOf i).toNat)
  case atStart => exact ⟨0, Nat.zero_le _, rfl, fun j hj => absurd hj (Nat.not_lt_zero _)⟩
  case round =>
    obtain ⟨k, hk, rfl, HJ⟩ := hrel
    by_cases hlt : k < s.size
    · have hltI : (k : Int) < (s.size : Int) := by omega
      have hb := bts_at s k hlt
      obtain ⟨b, hbe⟩ : ∃ b, b = (bts s 0).getD k 0 := ⟨_, rfl⟩
      rw [← hbe] at hb
      have hb' := hb.symm
      have HBE := hide hbe.symm
      clear hbe hb
      by_cases hok : okB dig b
      · have R : Hid (∀ j, j < k + 1 → okB dig ((bts s 0).getD j 0)) := fun j hj => by
          by_cases e : j = k
          · subst e; rw [HBE.out]; exact hok
          · exact HJ.out j (by omega)
        by_cases ha : 97 ≤ b ∧ b ≤ 122
        · obtain ⟨ha1, ha2⟩ := ha
          clear hok
          go_wp2
          go_round
          case rel => exact ⟨k + 1, by omega, by go_num, R.out⟩
          case measure => simp [intOf]; omega
        · have hd : dig = true ∧ 48 ≤ b ∧ b ≤ 57 := hok.resolve_left ha
          obtain ⟨hd0, hd1, hd2⟩ := hd
          subst hd0
          have ha1 : ¬ 97 ≤ b := by omega
          clear hok ha
          go_wp2
          go_round
          case rel => exact ⟨k + 1, by omega, by go_num, R.out⟩
          case measure => simp [intOf]; omega
      · have E := hide (bool_noT HBB.out (fun h => hok (by rw [← HBE.out]; exact h.2 k hlt)))
        unfold okB at hok
        by_cases ha1 : 97 ≤ b
        · have ha2 : ¬ b ≤ 122 := by omega
          cases dig with
          | false =>
            clear hok
            go_wp2
            go_ret
            exact ⟨by rw [E.out]; rfl, rfl⟩
          | true =>
            have hd1 : 48 ≤ b := by omega
            have hd2 : ¬ b ≤ 57 := by omega
            clear hok
            go_wp2
            go_ret
            exact ⟨by rw [E.out]; rfl, rfl⟩
        · cases dig with
          | false =>
            clear hok
            go_wp2
            go_ret
            exact ⟨by rw [E.out]; rfl, rfl⟩
          | true =>
            by_cases hd1 : 48 ≤ b
            · have hd2 : ¬ b ≤ 57 := by simp at hok; omega
              clear hok
              go_wp2
              go_ret
              exact ⟨by rw [E.out]; rfl, rfl⟩
            · clear hok
              go_wp2
              go_ret
              exact ⟨by rw [E.out]; rfl, rfl⟩
    · obtain rfl : k = s.size := by omega
      have hltI : ¬ (s.size : Int) < (s.size : Int) := by omega
      by_cases h8 : 1 ≤ (s.size : Int) ∧ (s.size : Int) ≤ 8
      · have C := hide (fun w => l1In_yes (s.size : Int) 1 8 w h8.1 h8.2)
        have E := hide (HBB.out.2 ⟨by omega, HJ.out⟩)
        clear h8
        go_wp2_with fail
        refine (C.out _).mono ?_
        rintro e w1 ⟨rfl, rfl⟩
        go_wp2
        go_ret
        exact ⟨by rw [E.out]; rfl, rfl⟩
      · have C := hide (fun w => l1In_no (s.size : Int) 1 8 w h8)
        have E := hide (bool_noT HBB.out (fun h => h8 (by have := h.1; omega)))
        clear h8
        go_wp2_with fail
        refine (C.out _).mono ?_
        rintro e w1 ⟨rfl, rfl⟩
        go_wp2
        go_ret
        exact ⟨by rw [E.out]; rfl, rfl⟩

end Go.Proofs.Yticgejaaoamhmao.L3

namespace Go.Proofs.Yticgejaaoamhmao.Own
open Go.RowKit L1
set_option linter.unusedVariables false

theorem bool_noT {b : Bool} {p : Prop} (h : b = true ↔ p) (hp : ¬ p) : b = false := by
  cases b with
  | false => rfl
  | true => exact absurd (h.1 rfl) hp
set_option maxRecDepth 100000 in
set_option maxHeartbeats 400000 in
theorem l1In_any (x lo hi : Int) (w : World) (b : Bool) (hb : b = true ↔ lo ≤ x ∧ x ≤ hi) :
    Calls Try.prog 63 #[.int .i64 x, .int .i64 lo, .int .i64 hi] w fun e w' => e = .returned (.bool b) ∧ w = w' := by
  by_cases h1 : lo ≤ x
  · by_cases h2 : x ≤ hi
    · obtain rfl : b = true := hb.2 ⟨h1, h2⟩
      clear hb
      go_enter Try.func63, Try.ntmps63
      go_wp2
      go_ret
      exact ⟨rfl, rfl⟩
    · obtain rfl : b = false := bool_noT hb (fun h => h2 h.2)
      clear hb
      go_enter Try.func63, Try.ntmps63
      go_wp2
      go_ret
      exact ⟨rfl, rfl⟩
  · obtain rfl : b = false := bool_noT hb (fun h => h1 h.1)
    clear hb
    go_enter Try.func63, Try.ntmps63
    go_wp2
    go_ret
    exact ⟨rfl, rfl⟩

end Go.Proofs.Yticgejaaoamhmao.Own
