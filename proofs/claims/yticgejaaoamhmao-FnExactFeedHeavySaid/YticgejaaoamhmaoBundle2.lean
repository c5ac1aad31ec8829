/-
  A Heavy in memory: names, counts. Nothing of the program's text is proved here but closed facts on its types.
  'append' of texts, or of ints, behind a row of the call's own. Nothing of the program's text is proved here but closed facts on its types.
  Contract: spec.l15OwnHeavy.
  Texts as lists of bytes. Nothing of the program's text is proved here.
  What a word is; how texts are ordered. Nothing of the program's text is proved here.
  What is good of a Heavy. Nothing of the program's text is proved here.
  Contracts: cmp.Less and slices.BinarySearch of texts that rise.
  Where a name stands in a good Heavy. Nothing of the program's text is proved here.
-/
import Derived.Test.YticgejaaoamhmaoBundle1
import Derived.Maps.AppendAt
import Derived.Deep.Upon
import Derived.Deep.DeepCutAuto
import Derived.Deep.QuietTactic
import Derived.BigQuiet
import Derived.Deep.RegionHeld3
import Derived.Laws.Cover1
import Derived.Laws.RangeAny
namespace Go.Proofs.Yticgejaaoamhmao.L15H
open Go.RowKit L1 Own Str
set_option linter.unusedVariables false

/-- A Heavy: Names, Counts, Gone, Total. -/
structure Hv where
  nm : List ByteArray
  ct : List Int
  g : Int
  t : Int
def e0H : Hv := ⟨[], [], 0, 0⟩
abbrev ints (l : List Int) : List Value := l.map (Value.int .i64)
abbrev hvV (v u : Value) (G T : Int) : Value := .agg #[v, u, .int .i64 G, .int .i64 T]
abbrev hvO (v u : Value) (G T : Int) : Obj := .cells #[v, u, .int .i64 G, .int .i64 T] 27 (0, 0)
theorem st_int : 9 ≠ 3 := by decide
theorem hv_int : 27 ≠ 3 := by decide
theorem hv_str : 27 ≠ 9 := by decide
theorem blk4 {w : World} {b : Nat} {c0 c1 c2 c3 : Value} {t : TypeId} (h : w.heap[b]? = some (.cells #[c0, c1, c2, c3] t (0, 0))) :
    w.cell? ⟨b, 0, none⟩ = some c0 ∧ w.cell? ⟨b, 1, none⟩ = some c1 ∧ w.cell? ⟨b, 2, none⟩ = some c2 ∧ w.cell? ⟨b, 3, none⟩ = some c3 := by
  simp [World.cell?, h]
theorem frz4 {w : World} {b : Nat} {c0 c1 c2 c3 : Value} {t : TypeId} (h : w.heap[b]? = some (.cells #[c0, c1, c2, c3] t (0, 0))) :
    w.frozen? ⟨b, 0, none⟩ = false ∧ w.frozen? ⟨b, 1, none⟩ = false ∧ w.frozen? ⟨b, 2, none⟩ = false ∧ w.frozen? ⟨b, 3, none⟩ = false := by
  simp [World.frozen?, h]
/-- What is read of it. -/
structure HF (w : World) (aN aC : Option Addr) (n m : Nat) (h : Hv) : Prop where
  sN : SlS w aN h.nm
  sC : Sl w aC h.ct
  ln : h.nm.length = n
  lc : h.ct.length = m
theorem HF.below {w w' : World} {aN aC : Option Addr} {n m : Nat} {h : Hv} (k : HF w aN aC n m h) (hb : Below w.heap.size w w') : HF w' aN aC n m h := ⟨k.sN.below hb, k.sC.below hb, k.ln, k.lc⟩
/-- A Heavy that is owned. -/
structure OwH (w : World) (base : Nat) (v u : Value) (n m : Nat) (h : Hv) : Prop where
  oN : w.ownsRow base 9 1 v n (mapS h.nm)
  oC : w.ownsRow base 3 1 u m (ints h.ct)
section
variable {w w' : World} {base : Nat} {v u : Value} {n m : Nat} {h : Hv}
theorem OwH.below (k : OwH w base v u n m h) (hb : Below w.heap.size w w') : OwH w' base v u n m h := ⟨own_belO k.oN hb, own_belO k.oC hb⟩
theorem OwH.toBase {b2 : Nat} (k : OwH w base v u n m h) (hb : b2 ≤ base) : OwH w b2 v u n m h := ⟨own_baseS k.oN hb, own_baseS k.oC hb⟩
theorem OwH.setC (k : OwH w base v u n m h) (p : Addr) (x : Value) (hp : p.block < base) : OwH (w.setCell p x) base v u n m h := ⟨L8.own_setC k.oN p x hp, L8.own_setC k.oC p x hp⟩
theorem OwH.form (k : OwH w base v u n m h) : ∃ aN cN aC cC, v = .slice aN n cN ∧ u = .slice aC m cC ∧ HF w aN aC n m h := by
  obtain ⟨aN, cN, e1, s1, l1⟩ := own_formS k.oN
  obtain ⟨aC, cC, e2, s2, l2⟩ := own_form k.oC
  exact ⟨aN, cN, aC, cC, e1, e2, s1, s2, l1, l2⟩
theorem OwH.hf {aN aC : Option Addr} {cN cC : Nat} (k : OwH w base (.slice aN n cN) (.slice aC m cC) n m h) : HF w aN aC n m h := by
  obtain ⟨_, _, _, _, e1, e2, f⟩ := k.form
  cases e1
  cases e2
  exact f
/-- What a call hands back, in new memory. -/
def RH (w w' : World) (v u : Value) (h : Hv) : Prop := OwH w' w.heap.size v u h.nm.length h.ct.length h ∧ Below w.heap.size w w'
theorem rh_nil (hb : Below w.heap.size w w') : RH w w' (.slice none 0 0) (.slice none 0 0) e0H := ⟨⟨World.ownsRow_nil _ _ _ _, World.ownsRow_nil _ _ _ _⟩, hb⟩
/-- A Heavy in its box. -/
structure HG (base : Nat) (w : World) (b : Nat) (v u : Value) (n m : Nat) (h : Hv) : Prop where
  box : w.heap[b]? = some (hvO v u h.g h.t)
  bs : base ≤ b
  ow : OwH w base v u n m h
  iv : ∀ g, v.ownBlock = some g → g < b
  iu : ∀ g, u.ownBlock = some g → g < b
theorem HG.below {b : Nat} (k : HG base w b v u n m h) (hb : Below w.heap.size w w') : HG base w' b v u n m h :=
  ⟨(hb.block b (Array.getElem?_eq_some_iff.1 k.box).1).trans k.box, k.bs, k.ow.below hb, k.iv, k.iu⟩
theorem HG.lt {b : Nat} (k : HG base w b v u n m h) : b < w.heap.size := (Array.getElem?_eq_some_iff.1 k.box).1
theorem hg_made (k : RH w w' v u h) : (∃ aN cN aC cC, v = .slice aN h.nm.length cN ∧ u = .slice aC h.ct.length cC ∧ HG w.heap.size (w'.alloc (hvO v u h.g h.t)) w'.heap.size v u h.nm.length h.ct.length h) ∧ Below w.heap.size w w' := by
  obtain ⟨ho, hb⟩ := k
  obtain ⟨aN, cN, aC, cC, e1, e2, _⟩ := ho.form
  exact ⟨⟨aN, cN, aC, cC, e1, e2, L8.blk_new _ _, hb.size, ho.below ((Below.refl _ _).alloc (Nat.le_refl _) _), fun g hg => own_ltO ho.oN g hg, fun g hg => own_ltO ho.oC g hg⟩, hb⟩
theorem hg_copy {wp : World} (ho : OwH w' wp.heap.size v u n m h) (hb : Below wp.heap.size wp w') : HG wp.heap.size (w'.alloc (hvO v u h.g h.t)) w'.heap.size v u n m h :=
  ⟨L8.blk_new _ _, hb.size, ho.below ((Below.refl _ _).alloc (Nat.le_refl _) _), fun g hg => own_ltO ho.oN g hg, fun g hg => own_ltO ho.oC g hg⟩
theorem HG.only {b lo hi : Nat} (k : HG base w b v u n m h) (ho : L8.Only lo hi w w') (hd : b < lo ∨ hi ≤ base) : HG base w' b v u n m h := by
  have hr : ∀ {t : TypeId} {c q : Nat} {x : Value} {xs : List Value}, w.ownsRow base t c x q xs → (∀ g, x.ownBlock = some g → g < b) → w'.ownsRow base t c x q xs := fun hu hlt =>
    own_at hu (fun q hq => ho.block q (own_ltO hu q hq) (by have h1 := hlt q hq; have h2 := own_ge hu q hq; rcases hd with hd | hd <;> omega))
  exact ⟨(ho.block b k.lt (by have := k.bs; omega)).trans k.box, k.bs, ⟨hr k.ow.oN k.iv, hr k.ow.oC k.iu⟩, k.iv, k.iu⟩
theorem HG.marked {b : Nat} {h' : Hv} (k : HG base w b v u n m h) (ho : L8.Only base b w w') (hw : OwH w' base v u n m h') (hg : h'.g = h.g) (ht : h'.t = h.t) : HG base w' b v u n m h' :=
  ⟨by rw [ho.block b k.lt (.inr (Nat.le_refl _)), hg, ht]; exact k.box, k.bs, hw, k.iv, k.iu⟩
end
theorem only_rowH {lo hi : Nat} {w w' : World} (ho : L8.Only lo hi w w') {base n c : Nat} {t : TypeId} {v : Value} {xs : List Value} (hu : w.ownsRow base t c v n xs) (hl : ∀ g, v.ownBlock = some g → g < lo ∨ hi ≤ g) : w'.ownsRow base t c v n xs := own_at hu (fun q hq => ho.block q (own_ltO hu q hq) (hl q hq))
theorem blk_kept {w w' : World} {g : Nat} {o : Obj} (h : w.heap[g]? = some o) (hb : Below w.heap.size w w') : w'.heap[g]? = some o := (hb.block g (Array.getElem?_eq_some_iff.1 h).1).trans h
theorem set4 {W : World} {g : Nat} {a b c d a' b' c' d' : Value} {t : TypeId} (h : W.heap[g]? = some (.cells #[a, b, c, d] t (0, 0))) : ((((W.setCell ⟨g, 0, none⟩ a').setCell ⟨g, 1, none⟩ b').setCell ⟨g, 2, none⟩ c').setCell ⟨g, 3, none⟩ d').heap[g]? = some (.cells #[a', b', c', d'] t (0, 0)) :=
  heap_boxO (heap_boxO (heap_boxO (heap_boxO h 0 a') 1 b') 2 c') 3 d'
theorem OwH.setC4 {w : World} {base : Nat} {v u : Value} {n m : Nat} {h : Hv} (k : OwH w base v u n m h) (z : Nat) (hz : z < base) (a b c d : Value) : OwH ((((w.setCell ⟨z, 0, none⟩ a).setCell ⟨z, 1, none⟩ b).setCell ⟨z, 2, none⟩ c).setCell ⟨z, 3, none⟩ d) base v u n m h :=
  (((k.setC _ a hz).setC _ b hz).setC _ c hz).setC _ d hz
theorem below4 {N : Nat} {w w' : World} (h : Below N w w') (z : Nat) (hz : N ≤ z) (a b c d : Value) : Below N w ((((w'.setCell ⟨z, 0, none⟩ a).setCell ⟨z, 1, none⟩ b).setCell ⟨z, 2, none⟩ c).setCell ⟨z, 3, none⟩ d) :=
  (((h.setCell (p := ⟨z, 0, none⟩) hz a).setCell (p := ⟨z, 1, none⟩) hz b).setCell (p := ⟨z, 2, none⟩) hz c).setCell (p := ⟨z, 3, none⟩) hz d
end Go.Proofs.Yticgejaaoamhmao.L15H

namespace Go.Proofs.Yticgejaaoamhmao.L15H
open Go.RowKit L1 Own Str
set_option linter.unusedVariables false

theorem add_atA (b off i : Nat) : (⟨b, off, none⟩ : Addr).add i = ⟨b, off + i, none⟩ := by unfold Addr.add; split <;> simp_all
theorem own_capH {w : World} {base c n : Nat} {t : TypeId} {v : Value} {ys : List Value} (h : w.ownsRow base t c v n ys) : ∃ a cap, v = .slice a n cap ∧ n ≤ cap := by
  rcases h.2 with ⟨rfl, h0⟩ | ⟨g, cap, cur, rfl, _, _, r, _⟩
  · subst h0; exact ⟨none, 0, rfl, Nat.le_refl _⟩
  · exact ⟨_, cap, rfl, r⟩
theorem own_emptyH (w : World) (t : TypeId) (base : Nat) (hb : base ≤ w.heap.size) : (w.alloc (.cells #[] t)).ownsRow base t 1 (.slice (some ⟨w.heap.size, 0, none⟩) 0 0) 0 [] :=
  ⟨rfl, .inr ⟨w.heap.size, 0, #[], rfl, hb, L8.blk_new _ _, Nat.le_refl _, by unfold maxLen; omega, rfl, rfl⟩⟩
theorem cell_oneH (w : World) (a : Value) (t : TypeId) : ∀ j u, [a][j]? = some u → (w.alloc (.cells #[a] t)).cell? ((⟨w.heap.size, 0, none⟩ : Addr).add j) = some u := by
  intro j u hj
  rw [add_atA]
  match j, hj with
  | 0, hj => simp at hj; subst hj; simp
  | j + 1, hj => simp at hj
/-- Of any type of one cell: what is needed of it. -/
structure ApT (t e : TypeId) (z : Value) (bytes : Nat) : Prop where
  ht : Try.prog.underlying t = some (.slice e)
  hi : ∃ i, Try.prog.info? e = some i ∧ i.zero = some z ∧ i.size = 1 ∧ i.bytes = bytes
  hz : z.cells.size = 1
  hb : bytes ≤ 16
theorem apT_str : ApT 22 9 (.string ByteArray.empty) 16 := ⟨Try.underlying22, info_parts info_strS, rfl, by decide⟩
theorem apT_int : ApT 23 3 (.int .i64 0) 8 := ⟨Try.underlying23, info_parts info_int, rfl, by decide⟩
theorem app_noneH {t e : TypeId} {z : Value} {bytes : Nat} (k : ApT t e z bytes) (ty : TypeId) (base ax : Option Addr) (n cap c : Nat) (h : n ≤ cap) (w : World) :
    (Builtin.append_ #[t, t] ty #[.slice base n cap, .slice ax 0 c]).run Try.prog w = .ok (.slice base n cap) w := by
  obtain ⟨i1, hi1, _, _, _⟩ := k.hi
  refine run_append_nothing w t t ty e i1 k.ht hi1 base n cap h _ ?_
  cases ax with
  | none => exact Src.ofNil _ k.ht c
  | some x => exact Src.ofSlice _ k.ht x 0 c [] (by simp) (fun j u hu => by simp at hu) (fun u hu => by simp at hu)
theorem wpList_append_H {t e : TypeId} {z : Value} {bytes : Nat} (kk : ApT t e z bytes) {ops : Array Oper} {rest : List Oper} {o : Oper} {a : Act} {Q : Exit → Act → World → Prop} {w : World} (hgd : o.guard = none) (s x : Operand)
    (ho : o.op = .call { callee := .builtin .append, args := #[s, x], argTypes := #[t, t] })
    (base : Nat) (v : Value) (nv : Nat) (ys : List Value) (hs : a.eval s = v) (hown : w.ownsRow base e 1 v nv ys)
    (ax : Option Addr) (m c : Nat) (hx : a.eval x = .slice ax m c) (zs : List Value) (hz : zs.length = m) (hcells : 0 < m → ∃ ad, ax = some ad ∧ ∀ j u, zs[j]? = some u → w.cell? (ad.add j) = some u) (h1 : ∀ u ∈ zs, u.oneCell' = true)
    (hsm : nv + m ≤ 2097152) (hbase : base ≤ w.heap.size)
    (h : ∀ v' w', w'.ownsRow base e 1 v' (nv + m) (ys ++ zs) → w.grownBy w' v.ownBlock → (v'.ownBlock = v.ownBlock ∨ v'.ownBlock = some w.heap.size) → wpList Try.prog ops Q rest (a.put o.dst v') w') : wpList Try.prog ops Q (o :: rest) a w := by
  by_cases h0 : m = 0
  · subst h0
    have hz0 : zs = [] := List.eq_nil_of_length_eq_zero (by omega)
    subst hz0
    obtain ⟨av, cv, rfl, hle⟩ := own_capH hown
    refine wpList_plain hgd fun K hK => ?_
    unfold Oper.wp execOp
    simp only [ho, resolve, invoke, builtin, Sem.run_bind, Sem.run_pure, Result.andThen_ok, List.map_toArray, List.map_cons, List.map_nil, hs, hx, app_noneH kk o.type av ax nv cv c hle w]
    exact hK _ _ (h (.slice av nv cv) w (by rw [List.append_nil]; exact hown) (World.grownBy.refl _ _) (.inl rfl))
  · obtain ⟨i0, hi, hz0, hz1, hz2⟩ := kk.hi
    obtain ⟨ad, rfl, hc⟩ := hcells (by omega)
    have hb := kk.hb
    refine wpList_append_own_at w hgd s x t ho base e i0 z 1 bytes kk.ht hi hz0 hz1 hz2 kk.hz (by decide) v nv ys hs hown ad m c zs hx (by omega) hc h1 (by unfold maxLen; omega) (Nat.le_trans (Nat.mul_le_mul (show nv + m ≤ 2097152 from hsm) hb) (by decide)) hbase ?_
    intro v' w' h1 h2 _ h4
    exact h v' w' h1 h2 h4
theorem cellsS_H {w : World} {a : Option Addr} {xs : List ByteArray} {n : Nat} (h : SlS w a xs) (hn : xs.length = n) : 0 < n → ∃ ad, a = some ad ∧ ∀ j u, (mapS xs)[j]? = some u → w.cell? (ad.add j) = some u := fun h0 => by
  obtain ⟨b, off, rfl, _⟩ := h 0 (by omega)
  refine ⟨_, rfl, fun j u hu => ?_⟩
  have hj : j < xs.length := by
    by_cases hj : j < xs.length
    · exact hj
    · rw [List.getElem?_eq_none (by simp [mapS]; omega)] at hu; cases hu
  rw [add_atA]
  obtain ⟨b', off', ha, hc⟩ := h j hj
  cases ha
  rw [hc, ← hu]
  simp [mapS, List.getD, List.getElem?_eq_getElem hj]
theorem cellsI_H {w : World} {a : Option Addr} {xs : List Int} {n : Nat} (h : Sl w a xs) (hn : xs.length = n) : 0 < n → ∃ ad, a = some ad ∧ ∀ j u, (ints xs)[j]? = some u → w.cell? (ad.add j) = some u := fun h0 => by
  obtain ⟨b, off, rfl, _⟩ := h 0 (by omega)
  refine ⟨_, rfl, fun j u hu => ?_⟩
  have hj : j < xs.length := by
    by_cases hj : j < xs.length
    · exact hj
    · rw [List.getElem?_eq_none (by simp; omega)] at hu; cases hu
  rw [add_atA]
  obtain ⟨b', off', ha, hc⟩ := h j hj
  cases ha
  rw [hc, ← hu]
  simp [List.getD, List.getElem?_eq_getElem hj]
theorem onesS_H (xs : List ByteArray) : ∀ u ∈ mapS xs, u.oneCell' = true := fun u hu => by
  obtain ⟨x, _, rfl⟩ := List.mem_map.1 hu
  rfl
theorem onesI_H (xs : List Int) : ∀ u ∈ ints xs, u.oneCell' = true := fun u hu => by
  obtain ⟨x, _, rfl⟩ := List.mem_map.1 hu
  rfl
end Go.Proofs.Yticgejaaoamhmao.L15H

namespace Go.Proofs.Yticgejaaoamhmao.L15H
open Go.RowKit L1 Own Str
set_option linter.unusedVariables false

theorem blk_grownH {w w' : World} {g : Nat} {o : Obj} {r : Option Nat} (h : w.heap[g]? = some o) (hg : w.grownBy w' r) (hne : r ≠ some g) : w'.heap[g]? = some o :=
  (hg.block g (Array.getElem?_eq_some_iff.1 h).1 (fun e => hne e.symm)).trans h
set_option maxRecDepth 100000 in
set_option maxHeartbeats 2000000 in
theorem l15OwnHeavy_any (a : Option Addr) (n c : Nat) (b : Option Addr) (m d : Nat) (G T : Int) (h : Hv) (w : World) (hf : HF w a b n m h) (hn2 : n ≤ 1048576) (hm2 : m ≤ 1048576) :
    Calls Try.prog 37 #[.agg #[.slice a n c, .slice b m d, .int .i64 G, .int .i64 T]] w fun e w' => ∃ v u, e = .returned (hvV v u G T) ∧ OwH w' w.heap.size v u n m h ∧ Below w.heap.size w w' := by
  obtain ⟨Z, hZ⟩ : ∃ x, x = hvO (.slice none 0 0) (.slice none 0 0) 0 0 := ⟨_, rfl⟩
  have q1 := L8.blk_new w (hvO (.slice a n c) (.slice b m d) G T)
  have q2 := L8.blk_new (w.alloc (hvO (.slice a n c) (.slice b m d) G T)) Z
  have k1 := blk_kept q1 ((Below.refl _ _).alloc (Nat.le_refl _) Z)
  have e1 : (w.alloc (hvO (.slice a n c) (.slice b m d) G T)).heap.size = w.heap.size + 1 := by simp
  have ez : ((w.alloc (hvO (.slice a n c) (.slice b m d) G T)).alloc Z).heap.size = w.heap.size + 2 := by simp
  have BX := ((Below.refl w.heap.size w).alloc (Nat.le_refl _) (hvO (.slice a n c) (.slice b m d) G T)).alloc (by simp) Z
  rw [e1] at q2
  obtain ⟨W0, hW0⟩ : ∃ W0, W0 = (w.alloc (hvO (.slice a n c) (.slice b m d) G T)).alloc Z := ⟨_, rfl⟩
  rw [← hW0] at BX q2 k1 ez
  rw [hZ] at q2 hW0
  have HW := hide hW0
  have BQ := hide BX
  have K1 := hide k1
  have K2 := hide q2
  have EZ := hide ez
  have F0 := hide (hf.below BX)
  have hfC := hide hf.sC
  clear BX hW0 q1 q2 k1 e1 ez hZ hf
  go_enter Try.func37, Try.ntmps37
  go_upto_region 1 with fail
  rw [← HW.out]
  obtain ⟨p0, p1, p2, p3⟩ := blk4 K1.out
  have lt0 : w.heap.size < W0.heap.size := by have := EZ.out; omega
  have ne0 : ¬ w.heap.size = W0.heap.size := by omega
  have E1 := hide ((Below.refl W0.heap.size W0).alloc (Nat.le_refl _) (.cells #[] 9))
  obtain ⟨z0, z1, z2, z3⟩ := blk4 (blk_kept K1.out E1.out)
  go_wp2_with (first
    | (at_builtin; refine wpList_append_H apT_str rfl _ _ rfl W0.heap.size (.slice (some ⟨W0.heap.size, 0, none⟩) 0 0) 0 [] rfl (own_emptyH W0 9 _ (Nat.le_refl _)) a n c rfl (mapS h.nm) (by simp [mapS]; exact F0.out.ln) (cellsS_H (F0.out.sN.below E1.out) F0.out.ln) (onesS_H _) (by omega) (by simp) ?_)
    | go_in)
  intro v1 w1 ho1 hg1 _
  have hb1 : Below W0.heap.size W0 w1 := E1.out.grown hg1 (by simp) (fun q hq => by cases hq; exact Nat.le_refl _)
  obtain ⟨a1, c1, rfl, _⟩ := own_capH ho1
  have O1 := hide ho1
  have B1 := hide hb1
  clear ho1 hg1 hb1 p0 p1 p2 p3 z0 z1 z2 z3
  obtain ⟨p0, p1, p2, p3⟩ := blk4 (blk_kept K1.out B1.out)
  obtain ⟨f0, f1, f2, f3⟩ := frz4 (blk_kept K1.out B1.out)
  go_upto_region 2 with fail
  clear p0 p1 p2 p3 f0 f1 f2 f3
  obtain ⟨w2, hw2⟩ : ∃ x, x = w1.setCell ⟨w.heap.size, 0, none⟩ (.slice a1 n c1) := ⟨_, rfl⟩
  have R1 := hide (show w2.heap[w.heap.size]? = some (hvO (.slice a1 n c1) (.slice b m d) G T) by rw [hw2]; exact heap_boxO (blk_kept K1.out B1.out) 0 _)
  have R2 := hide (show w2.heap[w.heap.size + 1]? = some (hvO (.slice none 0 0) (.slice none 0 0) 0 0) by rw [hw2, Below.heap_setCell _ _ _ _ (by simp)]; exact blk_kept K2.out B1.out)
  have S2 := hide (show W0.heap.size ≤ w2.heap.size by rw [hw2]; simp; exact B1.out.size)
  have O2 := hide (show w2.ownsRow (w.heap.size + 2) 9 1 (.slice a1 n c1) n (mapS h.nm) by rw [hw2]; exact L8.own_setC (own_baseS O1.out (by have := EZ.out; omega)) _ _ (by simp))
  have B2 := hide (show Below w.heap.size w w2 by rw [hw2]; exact (BQ.out.trans (B1.out.mono BQ.out.size)).setCell (Nat.le_refl _) _)
  rw [← hw2]
  have lt2 : w.heap.size < w2.heap.size := by have := EZ.out; have := S2.out; omega
  have ne2 : ¬ w.heap.size = w2.heap.size := by omega
  have E2 := hide ((Below.refl w2.heap.size w2).alloc (Nat.le_refl _) (.cells #[] 3))
  have F2 := hide (show Sl (w2.alloc (.cells #[] 3)) b h.ct from (hfC.out.below B2.out).below E2.out)
  obtain ⟨p0, p1, p2, p3⟩ := blk4 R1.out
  obtain ⟨z0, z1, z2, z3⟩ := blk4 (blk_kept R1.out E2.out)
  clear hw2
  go_wp2_with (first
    | (at_builtin; refine wpList_append_H apT_int rfl _ _ rfl w2.heap.size (.slice (some ⟨w2.heap.size, 0, none⟩) 0 0) 0 [] rfl (own_emptyH w2 3 _ (Nat.le_refl _)) b m d rfl (ints h.ct) (by simp; exact F0.out.lc) (cellsI_H F2.out F0.out.lc) (onesI_H _) (by omega) (by simp) ?_)
    | go_in)
  intro V3 w3 ho3 hg3 _
  have hb3 : Below w2.heap.size w2 w3 := E2.out.grown hg3 (by simp) (fun q hq => by cases hq; exact Nat.le_refl _)
  obtain ⟨a3, c3, rfl, _⟩ := own_capH ho3
  have O3 := hide ho3
  have B3 := hide hb3
  clear ho3 hg3 hb3 p0 p1 p2 p3 z0 z1 z2 z3
  obtain ⟨p0, p1, p2, p3⟩ := blk4 (blk_kept R1.out B3.out)
  obtain ⟨f0, f1, f2, f3⟩ := frz4 (blk_kept R1.out B3.out)
  go_upto_region 3 with fail
  clear p0 p1 p2 p3 f0 f1 f2 f3
  obtain ⟨w4, hw4⟩ : ∃ x, x = w3.setCell ⟨w.heap.size, 1, none⟩ (.slice a3 m c3) := ⟨_, rfl⟩
  have U1 := hide (show w4.heap[w.heap.size]? = some (hvO (.slice a1 n c1) (.slice a3 m c3) G T) by rw [hw4]; exact heap_boxO (blk_kept R1.out B3.out) 1 _)
  have U2 := hide (show w4.heap[w.heap.size + 1]? = some (hvO (.slice none 0 0) (.slice none 0 0) 0 0) by rw [hw4, Below.heap_setCell _ _ _ _ (by simp)]; exact blk_kept R2.out B3.out)
  have O4 := hide (show OwH w4 (w.heap.size + 2) (.slice a1 n c1) (.slice a3 m c3) n m h by
    rw [hw4]
    exact OwH.setC ⟨own_belO O2.out B3.out, own_baseS O3.out (by have := EZ.out; have := S2.out; omega)⟩ _ _ (by simp))
  have B4 := hide (show Below w.heap.size w w4 by rw [hw4]; exact (B2.out.trans (B3.out.mono (by omega))).setCell (Nat.le_refl _) _)
  rw [← hw4]
  obtain ⟨p0, p1, p2, p3⟩ := blk4 U1.out
  obtain ⟨y0, y1, y2, y3⟩ := blk4 U2.out
  obtain ⟨f0, f1, f2, f3⟩ := frz4 U2.out
  have R9 := hide (set4 (a' := (.slice a1 n c1)) (b' := (.slice a3 m c3)) (c' := .int .i64 G) (d' := .int .i64 T) U2.out)
  have O9 := hide (O4.out.setC4 (w.heap.size + 1) (by omega) (.slice a1 n c1) (.slice a3 m c3) (.int .i64 G) (.int .i64 T))
  have B9 := hide (below4 B4.out (w.heap.size + 1) (by omega) (.slice a1 n c1) (.slice a3 m c3) (.int .i64 G) (.int .i64 T))
  clear hw4 U1 U2 O4 B4
  go_wp2
  clear p0 p1 p2 p3 y0 y1 y2 y3 f0 f1 f2 f3
  obtain ⟨d0, d1, d2, d3⟩ := blk4 R9.out
  refine bodyPost_ret (v := hvV (.slice a1 n c1) (.slice a3 m c3) G T) (by simp [results, Try.f37, go_sem, d0, d1, d2, d3]) rfl ⟨_, _, rfl, O9.out.toBase (by omega), B9.out⟩
end Go.Proofs.Yticgejaaoamhmao.L15H

namespace Go.Proofs.Yticgejaaoamhmao.L1
open Go.RowKit
set_option linter.unusedVariables false

/-- A text's bytes from a place on. -/
def bts (s : ByteArray) (a : Nat) : List Int := (s.data.toList.drop a).map fun c => (c.toNat : Int)
theorem bts_len (s : ByteArray) (a : Nat) : (bts s a).length = s.size - a := by simp [bts]
theorem bts_get (s : ByteArray) (a k : Nat) (h : a + k < s.size) : (bts s a).getD k 0 = ((s[a + k]'h).toNat : Int) := by
  have h2 : a + k < s.data.toList.length := by simpa using h
  simp only [bts, List.getD, List.getElem?_map, List.getElem?_drop, List.getElem?_eq_getElem h2, Option.map_some, Option.getD_some]
  rfl
theorem bts_byte (s : ByteArray) (a k : Nat) : 0 ≤ (bts s a).getD k 0 ∧ (bts s a).getD k 0 < 256 := by
  by_cases h : a + k < s.size
  · rw [bts_get s a k h]
    have := (s[a + k]'h).toNat_lt
    omega
  · simp only [List.getD, List.getElem?_eq_none (show (bts s a).length ≤ k by rw [bts_len]; omega)]
    simp

/-- The text of digits that stand in a text is that piece of it. -/
theorem str_piece (s : ByteArray) (a j : Nat) (h : a + j ≤ s.size) : strOfNums ((bts s a).take j) = s.extract a (a + j) := by
  apply ByteArray.ext
  apply Array.toList_inj.1
  simp only [strOfNums, bts, ByteArray.data_extract, Array.toList_extract]
  rw [← List.map_take, List.map_map]
  have e : (fun n : Int => UInt8.ofNat n.toNat) ∘ (fun c : UInt8 => (c.toNat : Int)) = id := by
    funext c
    simp
  rw [e]
  simp
theorem str_inj : ∀ {l m : List Int}, (∀ x ∈ l, 0 ≤ x ∧ x < 256) → (∀ x ∈ m, 0 ≤ x ∧ x < 256) → strOfNums l = strOfNums m → l = m := by
  intro l m hl hm h
  have h2 : l.map (fun n : Int => UInt8.ofNat n.toNat) = m.map (fun n : Int => UInt8.ofNat n.toNat) := by
    have := congrArg (fun b => b.data.toList) h
    simpa [strOfNums] using this
  clear h
  induction l generalizing m with
  | nil => cases m with
    | nil => rfl
    | cons y m => simp at h2
  | cons x l ih =>
    cases m with
    | nil => simp at h2
    | cons y m =>
      simp only [List.map_cons, List.cons.injEq] at h2
      have hx := hl x (by simp)
      have hy := hm y (by simp)
      have e : x = y := by
        have := congrArg UInt8.toNat h2.1
        simp only [UInt8.toNat_ofNat'] at this
        omega
      rw [e, ih (fun u hu => hl u (by simp [hu])) (fun u hu => hm u (by simp [hu])) h2.2]
theorem toList_inj {A B : ByteArray} (h : A.toList = B.toList) : A = B := by
  rw [ByteArray.toList_eq, ByteArray.toList_eq] at h
  exact ByteArray.ext (Array.toList_inj.1 h)
theorem bts_mem (s : ByteArray) (a : Nat) : ∀ x ∈ bts s a, 0 ≤ x ∧ x < 256 := by
  intro x hx
  simp only [bts, List.mem_map] at hx
  obtain ⟨c, _, rfl⟩ := hx
  have := c.toNat_lt
  omega
end Go.Proofs.Yticgejaaoamhmao.L1

namespace Go.Proofs.Yticgejaaoamhmao.L3
open Go.RowKit L1
set_option linter.unusedVariables false

theorem bl_irrefl : ∀ x : List UInt8, Op.bytesLess x x = false
  | [] => rfl
  | a :: x => by simp [Op.bytesLess, bl_irrefl x]
theorem bl_trans : ∀ x y z : List UInt8, Op.bytesLess x y = true → Op.bytesLess y z = true → Op.bytesLess x z = true
  | _, [], _, h, _ => by simp [Op.bytesLess] at h
  | _, _ :: _, [], _, h => by simp [Op.bytesLess] at h
  | [], _ :: _, _ :: _, _, _ => rfl
  | a :: x, b :: y, c :: z, h1, h2 => by
    simp only [Op.bytesLess, Bool.or_eq_true, decide_eq_true_eq, Bool.and_eq_true, beq_iff_eq] at *
    rcases h1 with h1 | ⟨rfl, h1⟩ <;> rcases h2 with h2 | ⟨rfl, h2⟩
    · exact .inl (UInt8.lt_trans h1 h2)
    · exact .inl h1
    · exact .inl h2
    · exact .inr ⟨rfl, bl_trans x y z h1 h2⟩
theorem bl_tri : ∀ x y : List UInt8, Op.bytesLess x y = false → Op.bytesLess y x = false → x = y
  | [], [], _, _ => rfl
  | [], _ :: _, h, _ => by simp [Op.bytesLess] at h
  | _ :: _, [], _, h => by simp [Op.bytesLess] at h
  | a :: x, b :: y, h1, h2 => by
    simp only [Op.bytesLess, Bool.or_eq_false_iff, decide_eq_false_iff_not, Bool.and_eq_false_iff, beq_eq_false_iff_ne] at *
    have e : a = b := UInt8.le_antisymm (UInt8.not_lt.1 h2.1) (UInt8.not_lt.1 h1.1)
    subst e
    rw [bl_tri x y (h1.2.resolve_left (by simp)) (h2.2.resolve_left (by simp))]
/-- A text comes ahead of another one. -/
def Ahead (a b : ByteArray) : Prop := Op.bytesLess a.toList b.toList = true
instance (a b : ByteArray) : Decidable (Ahead a b) := by unfold Ahead; infer_instance
theorem ahead_not {a b : ByteArray} (h : Ahead a b) : Op.bytesLess b.toList a.toList = false ∧ (b.toList == a.toList) = false := by
  unfold Ahead at h
  constructor
  · cases e : Op.bytesLess b.toList a.toList with
    | false => rfl
    | true => have := bl_trans _ _ _ h e; rw [bl_irrefl] at this; cases this
  · cases e : (b.toList == a.toList) with
    | false => rfl
    | true =>
      rw [beq_iff_eq] at e
      rw [e, bl_irrefl] at h
      cases h
theorem not_ahead {a b : ByteArray} (h : ¬ Ahead a b) : (Op.bytesLess b.toList a.toList || b.toList == a.toList) = true := by
  unfold Ahead at h
  cases e : Op.bytesLess b.toList a.toList with
  | true => rfl
  | false => rw [bl_tri _ _ e (by simpa using h)]; simp
/-- What a byte of a word is. -/
def okB (dig : Bool) (b : Int) : Prop := (97 ≤ b ∧ b ≤ 122) ∨ (dig = true ∧ 48 ≤ b ∧ b ≤ 57)
instance (dig : Bool) (b : Int) : Decidable (okB dig b) := by unfold okB; infer_instance
/-- A word: 1 to 8 letters, or letters and digits. -/
def Word (dig : Bool) (s : ByteArray) : Prop := (1 ≤ s.size ∧ s.size ≤ 8) ∧ ∀ k, k < s.size → okB dig ((bts s 0).getD k 0)
theorem own_belowT {w w' : World} {base n : Nat} {t : TypeId} {c : Nat} {v : Value} {ys : List Value} (h : w.ownsRow base t c v n ys) (hb : Below w.heap.size w w') : w'.ownsRow base t c v n ys := by
  refine ⟨h.1, ?_⟩
  rcases h.2 with h0 | ⟨g, cap, cur, rfl, hbg, hg, r⟩
  · exact .inl h0
  · exact .inr ⟨g, cap, cur, rfl, hbg, by rw [hb.block g (Array.getElem?_eq_some_iff.1 hg).1]; exact hg, r⟩
theorem own_baseT {w : World} {b c n size : Nat} {e : TypeId} {v : Value} {xs : List Value} (h : w.ownsRow c e size v n xs) (hbc : b ≤ c) : w.ownsRow b e size v n xs := by
  refine ⟨h.1, ?_⟩
  rcases h.2 with h0 | ⟨g, cap, cur, hv, hg, r⟩
  · exact .inl h0
  · exact .inr ⟨g, cap, cur, hv, Nat.le_trans hbc hg, r⟩
theorem bool_noT {b : Bool} {p : Prop} (h : b = true ↔ p) (hp : ¬ p) : b = false := by
  cases b with
  | false => rfl
  | true => exact absurd (h.1 rfl) hp
end Go.Proofs.Yticgejaaoamhmao.L3

namespace Go.Proofs.Yticgejaaoamhmao.L15H
open Go.RowKit L1 Own Str
set_option linter.unusedVariables false

theorem dec_exH (p : Prop) : ∃ b : Bool, b = true ↔ p := by classical exact ⟨decide p, by simp⟩
theorem bool_noG {b : Bool} {p : Prop} (h : b = true ↔ p) (hp : ¬ p) : b = false := by
  cases b with
  | true => exact absurd (h.1 rfl) hp
  | false => rfl
/-- The first numbers together. -/
def sm (l : List Int) : Nat → Int
  | 0 => 0
  | k + 1 => sm l k + l.getD k 0
theorem sm_bd {l : List Int} : ∀ k, (∀ j, j < k → 0 ≤ l.getD j 0 ∧ l.getD j 0 ≤ 100000) → 0 ≤ sm l k ∧ sm l k ≤ 100000 * (k : Int)
  | 0, _ => by simp [sm]
  | k + 1, h => by
    have h1 := sm_bd k (fun j hj => h j (by omega))
    have h2 := h k (by omega)
    simp only [sm]
    rw [show ((k + 1 : Nat) : Int) = (k : Int) + 1 by omega]
    omega
abbrev na (h : Hv) (i : Nat) : ByteArray := h.nm.getD i e0
abbrev ca (h : Hv) (i : Nat) : Int := h.ct.getD i 0
/-- A place is good: empty, or a name behind a name that comes ahead of it. -/
def PlOk (h : Hv) (i : Nat) : Prop := (na h i = e0 ∧ ca h i = 0) ∨ ((L3.Word false (na h i) ∧ 1 ≤ ca h i ∧ ca h i ≤ 100000) ∧ (0 < i → na h (i - 1) ≠ e0 ∧ L3.Ahead (na h (i - 1)) (na h i)))
/-- A good Heavy. -/
structure GoodHv (h : Hv) (n m : Nat) : Prop where
  n1 : 1 ≤ n
  n6 : n ≤ 6
  m : m = n
  g0 : 0 ≤ h.g
  g1 : h.g ≤ 100000
  p : ∀ i, i < n → PlOk h i
  t : h.t = sm h.ct n + h.g * ((n : Int) + 1)
  t1 : h.t ≤ 1000000
theorem word_ne {s : ByteArray} (h : L3.Word false s) : s ≠ e0 := fun e => by
  have := h.1.1
  rw [e] at this
  exact absurd this (by decide)
theorem PlOk.ct {h : Hv} {i : Nat} (k : PlOk h i) : 0 ≤ ca h i ∧ ca h i ≤ 100000 := by
  rcases k with ⟨_, h0⟩ | ⟨⟨_, h1, h2⟩, _⟩ <;> omega
theorem mul_bd {G : Int} {n : Nat} (g0 : 0 ≤ G) (g1 : G ≤ 100000) (n6 : n ≤ 6) : 0 ≤ G * ((n : Int) + 1) ∧ G * ((n : Int) + 1) ≤ 700000 := by
  have h1 : 0 ≤ G * ((n : Int) + 1) := Int.mul_nonneg g0 (by omega)
  have h2 : G * ((n : Int) + 1) ≤ 100000 * 7 := Int.mul_le_mul g1 (by omega) (by omega) (by omega)
  omega
theorem GoodHv.t0 {h : Hv} {n m : Nat} (k : GoodHv h n m) : 0 ≤ h.t := by
  have h1 := sm_bd (l := h.ct) n (fun j hj => (k.p j hj).ct)
  have h2 := mul_bd k.g0 k.g1 k.n6
  rw [k.t]
  omega
/-- How many names stand ahead of the first empty one. -/
structure IsTk (l : List ByteArray) (n k : Nat) : Prop where
  le : k ≤ n
  ne : ∀ j, j < k → l.getD j e0 ≠ e0
  emp : k < n → l.getD k e0 = e0
theorem tk_ex (l : List ByteArray) : ∀ n, ∃ k, IsTk l n k
  | 0 => ⟨0, Nat.le_refl _, fun j hj => absurd hj (Nat.not_lt_zero _), fun h => absurd h (Nat.lt_irrefl _)⟩
  | n + 1 => by
    obtain ⟨k, h1, h2, h3⟩ := tk_ex l n
    by_cases e : k < n
    · exact ⟨k, by omega, h2, fun _ => h3 e⟩
    · obtain rfl : k = n := by omega
      by_cases e2 : l.getD k e0 = e0
      · exact ⟨k, by omega, h2, fun _ => e2⟩
      · exact ⟨k + 1, Nat.le_refl _, fun j hj => by
          by_cases e3 : j = k
          · subst e3; exact e2
          · exact h2 j (by omega), fun h => absurd h (Nat.lt_irrefl _)⟩
/-- In a good one all are empty behind the first empty one. -/
theorem GoodHv.tail {h : Hv} {n m k : Nat} (g : GoodHv h n m) (hk : IsTk h.nm n k) : ∀ j, k ≤ j → j < n → na h j = e0 ∧ ca h j = 0
  | 0, h1, h2 => by
    obtain rfl : k = 0 := by omega
    have h3 := hk.emp h2
    rcases g.p 0 h2 with h4 | ⟨⟨h4, _⟩, _⟩
    · exact h4
    · exact absurd h3 (word_ne h4)
  | j + 1, h1, h2 => by
    rcases g.p (j + 1) h2 with h4 | ⟨⟨h4, _⟩, h5⟩
    · exact h4
    · by_cases e : k = j + 1
      · subst e
        exact absurd (hk.emp h2) (word_ne h4)
      · have h6 := g.tail hk j (by omega) (by omega)
        exact absurd h6.1 (h5 (by omega)).1
theorem ptr_eq {x y : ByteArray} : x.toList = y.toList ↔ x = y := by
  constructor
  · intro h
    apply ByteArray.ext
    apply Array.toList_inj.1
    rw [← ByteArray.toList_eq, ← ByteArray.toList_eq, h]
  · rintro rfl
    rfl
theorem ne_list {x : ByteArray} (h : x ≠ e0) : x.toList.isEmpty = false := by
  cases e : x.toList.isEmpty with
  | false => rfl
  | true =>
    have h1 : x.toList = [] := List.isEmpty_iff.1 e
    have h2 : e0.toList = [] := by
      rw [ByteArray.toList_eq]
      rfl
    exact absurd (ptr_eq.1 (h1.trans h2.symm)) h
end Go.Proofs.Yticgejaaoamhmao.L15H

namespace Go.Proofs.Yticgejaaoamhmao.L15H
open Go.RowKit L1 Own Str
set_option linter.unusedVariables false

theorem wrapH (z : Int) (h1 : -9223372036854775808 ≤ z) (h2 : z ≤ 9223372036854775807) : IntKind.i64.wrap z = z := by
  simp only [IntKind.wrap, IntKind.bits, IntKind.signed]
  simp
  omega
theorem ahead_trans {a b c : ByteArray} (h1 : L3.Ahead a b) (h2 : L3.Ahead b c) : L3.Ahead a c := L3.bl_trans _ _ _ h1 h2
/-- Where a text stands, or would stand, among texts that rise. -/
structure IsAt (l : List ByteArray) (n : Nat) (o : ByteArray) (i : Nat) : Prop where
  le : i ≤ n
  lo : ∀ j, j < i → L3.Ahead (l.getD j e0) o
  hi : ∀ j, i ≤ j → j < n → ¬ L3.Ahead (l.getD j e0) o
def Rise (l : List ByteArray) (n : Nat) : Prop := ∀ i j, i < j → j < n → L3.Ahead (l.getD i e0) (l.getD j e0)
theorem at_uniq {l : List ByteArray} {n i k : Nat} {o : ByteArray} (h1 : IsAt l n o i) (h2 : IsAt l n o k) : i = k := by
  rcases Nat.lt_trichotomy i k with h | h | h
  · exact absurd (h2.lo i h) (h1.hi i (Nat.le_refl _) (Nat.lt_of_lt_of_le h h2.le))
  · exact h
  · exact absurd (h1.lo k h) (h2.hi k (Nat.le_refl _) (Nat.lt_of_lt_of_le h h1.le))
theorem at_ex {l : List ByteArray} (o : ByteArray) : ∀ n, Rise l n → ∃ i, IsAt l n o i
  | 0, _ => ⟨0, Nat.le_refl _, fun j hj => absurd hj (Nat.not_lt_zero _), fun j _ hj => absurd hj (Nat.not_lt_zero _)⟩
  | n + 1, hr => by
    obtain ⟨i, h1, h2, h3⟩ := at_ex o n (fun a b hab hb => hr a b hab (by omega))
    by_cases hi : i < n
    · refine ⟨i, by omega, h2, fun j hj hjn => ?_⟩
      by_cases e : j = n
      · subst e
        intro q
        exact h3 i (Nat.le_refl _) hi (ahead_trans (hr i j hi (by omega)) q)
      · exact h3 j hj (by omega)
    · obtain rfl : i = n := by omega
      by_cases ha : L3.Ahead (l.getD i e0) o
      · exact ⟨i + 1, Nat.le_refl _, fun j hj => by
          by_cases e : j = i
          · subst e; exact ha
          · exact h2 j (by omega), fun j hj hjn => absurd hjn (by omega)⟩
      · exact ⟨i, by omega, h2, fun j hj hjn => by
          obtain rfl : j = i := by omega
          exact ha⟩
set_option maxRecDepth 100000 in
set_option maxHeartbeats 400000 in
theorem isNaNC_any (s : ByteArray) (w : World) : Calls Try.prog 80 #[.string s] w fun e w' => e = .returned (.bool false) ∧ w = w' := by
  go_enter Try.func80, Try.ntmps80
  go_wp2
  go_ret
  exact ⟨by simp, rfl⟩
set_option maxRecDepth 100000 in
set_option maxHeartbeats 400000 in
theorem isNaNS_any (s : ByteArray) (w : World) : Calls Try.prog 79 #[.string s] w fun e w' => e = .returned (.bool false) ∧ w = w' := by
  go_enter Try.func79, Try.ntmps79
  go_wp2
  go_ret
  exact ⟨by simp, rfl⟩
set_option maxRecDepth 100000 in
set_option maxHeartbeats 400000 in
theorem lessS_any (x y : ByteArray) (w : World) : Calls Try.prog 78 #[.string x, .string y] w fun e w' => e = .returned (.bool (Op.bytesLess x.toList y.toList)) ∧ w = w' := by
  have C := hide (fun wx => isNaNC_any x wx)
  go_enter Try.func78, Try.ntmps78
  go_wp2_with fail
  refine (C.out _).mono ?_
  rintro e w1 ⟨rfl, rfl⟩
  go_wp2
  go_ret
  exact ⟨rfl, rfl⟩
set_option maxRecDepth 100000 in
set_option maxHeartbeats 4000000 in
theorem searchS_any (a : Option Addr) (l : List ByteArray) (n cap : Nat) (o : ByteArray) (w : World) (hn : n ≤ l.length) (hn2 : n ≤ 1048576) (hs : ∀ i, i < n → ∃ b off, a = some ⟨b, off, none⟩ ∧ w.cell? ⟨b, off + i, none⟩ = some (.string (l.getD i e0))) (hr : Rise l n) (p : Nat) (hp : IsAt l n o p) (ok : Bool) (hok : ok = true ↔ p < n ∧ l.getD p e0 = o) :
    Calls Try.prog 71 #[.slice a n cap, .string o] w fun e w' => e = .returned (.tuple #[.int .i64 (p : Int), .bool ok]) ∧ w = w' := by
  have HPP := hide hp
  have HOK := hide hok
  clear hp hok
  have HS := hide hs
  have HR := hide hr
  clear hs hr
  go_enter Try.func71, Try.ntmps71
  go_wp2
  go_loop [7, 8] (fun iv jv => ∃ i j : Nat, iv = .int .i64 i ∧ jv = .int .i64 j ∧ i ≤ j ∧ j ≤ n ∧ Hid ((∀ t, t < i → L3.Ahead (l.getD t e0) o) ∧ ∀ t, j ≤ t → t < n → ¬ L3.Ahead (l.getD t e0) o)) (fun iv jv => (intOf jv).toNat - (intOf iv).toNat)
  case atStart => exact ⟨0, n, rfl, rfl, Nat.zero_le _, Nat.le_refl _, ⟨fun t ht => absurd ht (Nat.not_lt_zero _), fun t h1 h2 => absurd h2 (by omega)⟩⟩
  case round =>
    obtain ⟨i, j, rfl, rfl, hij, hjn, HP⟩ := hrel
    by_cases hlt : i < j
    · have hltI : (i : Int) < (j : Int) := by omega
      obtain ⟨h, hh⟩ : ∃ h, h = (i + j) / 2 := ⟨_, rfl⟩
      have hih : i ≤ h ∧ h < j := by omega
      obtain ⟨b, off, rfl, hc⟩ := HS.out h (by omega)
      have hhe : ((i : Int) + (j : Int)) / 2 = (h : Int) := by omega
      have hhI : ((i : Int) + (j : Int)) / 2 < (n : Int) := by omega
      have hh0 : (0 : Int) ≤ ((i : Int) + (j : Int)) / 2 := by omega
      have hht : (((i : Int) + (j : Int)) / 2).toNat = h := by omega
      have hw1 : IntKind.i64.wrap ((i : Int) + (j : Int)) = (i : Int) + (j : Int) := wrapH _ (by omega) (by omega)
      have hh1 : IntKind.i64.wrap (((i : Int) + (j : Int)) / 2 + 1) = ((h + 1 : Nat) : Int) := by rw [wrapH _ (by omega) (by omega)]; omega
      have HHE := hide hhe
      obtain ⟨x, hx⟩ : ∃ x, x = l.getD h e0 := ⟨_, rfl⟩
      rw [← hx] at hc
      have HX := hide hx
      have C := hide (fun wx => lessS_any x o wx)
      clear hh hhe hx
      by_cases hah : L3.Ahead x o
      · have hlb : Op.bytesLess x.toList o.toList = true := hah
        rw [hlb] at C
        go_wp2_with fail
        refine (C.out _).mono ?_
        rintro e w1 ⟨rfl, rfl⟩
        go_wp2
        go_round
        case rel => exact ⟨h + 1, j, by rw [← hh1]; first | rfl | (congr 1; omega), rfl, by omega, hjn, ⟨fun t ht => by
          by_cases e : t = h
          · subst e; rw [← HX.out]; exact hah
          · have h1 := HR.out t h (by omega) (by omega)
            rw [← HX.out] at h1
            exact ahead_trans h1 hah, HP.out.2⟩⟩
        case measure => simp [intOf]; omega
      · have hlb : Op.bytesLess x.toList o.toList = false := by
          cases e : Op.bytesLess x.toList o.toList with
          | false => rfl
          | true => exact absurd e hah
        rw [hlb] at C
        go_wp2_with fail
        refine (C.out _).mono ?_
        rintro e w1 ⟨rfl, rfl⟩
        go_wp2
        go_round
        case rel => exact ⟨i, h, rfl, by rw [HHE.out], hih.1, by omega, ⟨HP.out.1, fun t h1 h2 => by
          by_cases e : t = h
          · subst e; rw [← HX.out]; exact hah
          · intro q
            have h3 := HR.out h t (by omega) h2
            rw [← HX.out] at h3
            exact hah (ahead_trans h3 q)⟩⟩
        case measure => simp [intOf]; omega
    · obtain rfl : i = j := by omega
      have hltI : ¬ (i : Int) < (i : Int) := by omega
      have hip : i = p := at_uniq ⟨hjn, HP.out.1, HP.out.2⟩ HPP.out
      subst hip
      by_cases hin : i < n
      · have hinI : (i : Int) < (n : Int) := by omega
        have hi0 : (0 : Int) ≤ (i : Int) := by omega
        obtain ⟨b, off, rfl, hc⟩ := HS.out i hin
        obtain ⟨x, hx⟩ : ∃ x, x = l.getD i e0 := ⟨_, rfl⟩
        rw [← hx] at hc
        have HX := hide hx
        have C := hide (fun wx => isNaNS_any x wx)
        clear hx
        by_cases hxo : x = o
        · subst hxo
          have E : Hid (ok = true) := hide (HOK.out.2 ⟨hin, HX.out.symm⟩)
          go_wp2
          go_ret2
          exact ⟨by rw [E.out]; rfl, rfl⟩
        · have hbe : (x.toList == o.toList) = false := by
            cases e : (x.toList == o.toList) with
            | false => rfl
            | true => exact absurd (ptr_eq.1 (beq_iff_eq.1 e)) hxo
          have E : Hid (ok = false) := hide (bool_noG HOK.out (fun q => hxo (HX.out.trans q.2)))
          have hbe2 : ¬ x.toList = o.toList := fun e => hxo (ptr_eq.1 e)
          go_wp2_with fail
          refine (C.out _).mono ?_
          rintro e w1 ⟨rfl, rfl⟩
          go_wp2
          go_ret2
          exact ⟨by rw [E.out]; rfl, rfl⟩
      · have hinI : ¬ (i : Int) < (n : Int) := by omega
        have E : Hid (ok = false) := hide (bool_noG HOK.out (fun q => hin q.1))
        go_wp2
        go_ret2
        exact ⟨by rw [E.out]; rfl, rfl⟩
end Go.Proofs.Yticgejaaoamhmao.L15H

namespace Go.Proofs.Yticgejaaoamhmao.L15H
open Go.RowKit L1 Own Str
set_option linter.unusedVariables false

theorem GoodHv.rise {h : Hv} {n m tk : Nat} (g : GoodHv h n m) (hk : IsTk h.nm n tk) : Rise h.nm tk := fun i j hij hj => by
  have step : ∀ q, q + 1 < tk → L3.Ahead (na h q) (na h (q + 1)) := fun q hq => by
    rcases g.p (q + 1) (by have := hk.le; omega) with ⟨h0, _⟩ | ⟨_, h1⟩
    · exact absurd h0 (hk.ne (q + 1) hq)
    · have := (h1 (by omega)).2
      rw [Nat.add_sub_cancel] at this
      exact this
  induction j with
  | zero => omega
  | succ j ih =>
    by_cases e : i = j
    · subst e; exact step i hj
    · exact ahead_trans (ih (by omega) (by omega)) (step j hj)
theorem ahead_irrefl (x : ByteArray) : ¬ L3.Ahead x x := by
  unfold L3.Ahead
  rw [L3.bl_irrefl]
  exact fun h => by cases h
/-- What is told of a name: its count, and the first place where it stands. -/
structure CntIs (h : Hv) (n : Nat) (s : ByteArray) (c : Int) : Prop where
  yes : ∀ i, i < n → na h i = s → c = ca h i
  no : (∀ i, i < n → na h i ≠ s) → c = 0
theorem cnt_ex {h : Hv} {n m tk : Nat} (g : GoodHv h n m) (hk : IsTk h.nm n tk) {s : ByteArray} (hs : s ≠ e0) : ∃ c, CntIs h n s c := by
  classical
  by_cases e : ∃ i, i < n ∧ na h i = s
  · obtain ⟨i, hi, e⟩ := e
    refine ⟨ca h i, fun j hj ej => ?_, fun q => absurd e (q i hi)⟩
    have lt : ∀ q, q < n → na h q = s → q < tk := fun q hq eq => by
      rcases Nat.lt_or_ge q tk with h1 | h1
      · exact h1
      · exact absurd (eq.symm.trans (g.tail hk q h1 hq).1) hs
    have hr := g.rise hk
    rcases Nat.lt_trichotomy i j with h1 | h1 | h1
    · have := hr i j h1 (lt j hj ej)
      rw [show h.nm.getD i e0 = s from e, show h.nm.getD j e0 = s from ej] at this
      exact absurd this (ahead_irrefl s)
    · rw [h1]
    · have := hr j i h1 (lt i hi e)
      rw [show h.nm.getD i e0 = s from e, show h.nm.getD j e0 = s from ej] at this
      exact absurd this (ahead_irrefl s)
  · exact ⟨0, fun i hi ei => absurd ⟨i, hi, ei⟩ e, fun _ => rfl⟩
theorem least_ex (h : Hv) (n m : Nat) (s : ByteArray) (G : Int) (ok : Bool) (hok : ok = true ↔ GoodHv h n m ∧ L3.Word false s) : ∃ x y : Int, (ok = true → CntIs h n s x ∧ y = x + G) ∧ (ok = false → x = 0 ∧ y = 0) := by
  cases ok with
  | true =>
    obtain ⟨g, hw⟩ := hok.1 rfl
    obtain ⟨tk, hk⟩ := tk_ex h.nm n
    obtain ⟨c, hc⟩ := cnt_ex g hk (word_ne hw)
    exact ⟨c, c + G, fun _ => ⟨hc, rfl⟩, fun q => (by cases q)⟩
  | false => exact ⟨0, 0, fun q => (by cases q), fun _ => ⟨rfl, rfl⟩⟩
end Go.Proofs.Yticgejaaoamhmao.L15H
