/-
  A bank in memory. Nothing of the program's text is proved here but closed facts on its types.
-/
import Derived.Test.YtfjbiihiaoobhaiSI
import Derived.Test.YtfjbiihiaoobhaiSB
namespace Go.Proofs.Ytfjbiihiaoobhai.L12
open Go.RowKit L1 L9 Own Sli
set_option linter.unusedVariables false

/-- A bank: Coins, Ways, Kept, Heard, Found. -/
structure Bk where
  c : List Int
  W : List (List Int)
  k : List Int
  H : List (List Bool)
  F : List (List Int)
/-- The rows of ints of a bank. -/
inductive Tg where
  | c | k | w (i : Nat) | f (i : Nat)
deriving DecidableEq
def Bk.row (m : Bk) : Tg → List Int
  | .c => m.c
  | .k => m.k
  | .w i => m.W.getD i []
  | .f i => m.F.getD i []
def Bk.put (m : Bk) (l : List Int) : Tg → Bk
  | .c => { m with c := l }
  | .k => { m with k := l }
  | .w i => { m with W := m.W.set i l }
  | .f i => { m with F := m.F.set i l }
/-- There is such a row. -/
def Bk.has (m : Bk) : Tg → Prop
  | .c => True
  | .k => True
  | .w i => i < m.W.length
  | .f i => i < m.F.length
theorem getD_setL {α : Type} (G : List α) (d : α) (k i : Nat) (x : α) (hk : k < G.length) : (G.set k x).getD i d = if i = k then x else G.getD i d := by
  simp only [List.getD, List.getElem?_set]
  by_cases h : k = i
  · subst h; simp [hk]
  · simp [h, Ne.symm h]
theorem row_put (m : Bk) (l : List Int) (t s : Tg) (h : m.has t) : (m.put l t).row s = if s = t then l else m.row s := by
  cases t <;> cases s <;> simp [Bk.put, Bk.row]
  · rename_i i j; rw [show (m.W.set i l)[j]?.getD [] = (m.W.set i l).getD j [] from rfl, getD_setL _ _ _ _ _ h]; rfl
  · rename_i i j; rw [show (m.F.set i l)[j]?.getD [] = (m.F.set i l).getD j [] from rfl, getD_setL _ _ _ _ _ h]; rfl
theorem put_lenW (m : Bk) (l : List Int) (t : Tg) : (m.put l t).W.length = m.W.length := by cases t <;> simp [Bk.put]
theorem put_lenF (m : Bk) (l : List Int) (t : Tg) : (m.put l t).F.length = m.F.length := by cases t <;> simp [Bk.put]
theorem put_H (m : Bk) (l : List Int) (t : Tg) : (m.put l t).H = m.H := by cases t <;> rfl
abbrev bkV (aC : Option Addr) (nC cC : Nat) (aW : Option Addr) (nW cW : Nat) (aK : Option Addr) (nK cK : Nat) (aH : Option Addr) (nH cH : Nat) (aF : Option Addr) (nF cF : Nat) : Value := .agg #[.slice aC nC cC, .slice aW nW cW, .slice aK nK cK, .slice aH nH cH, .slice aF nF cF]
abbrev bkO (aC : Option Addr) (nC cC : Nat) (aW : Option Addr) (nW cW : Nat) (aK : Option Addr) (nK cK : Nat) (aH : Option Addr) (nH cH : Nat) (aF : Option Addr) (nF cF : Nat) : Obj := .cells #[.slice aC nC cC, .slice aW nW cW, .slice aK nK cK, .slice aH nH cH, .slice aF nF cF] 39 (0, 0)
abbrev bkL (aC : Option Addr) (nC cC : Nat) (aW : Option Addr) (nW cW : Nat) (aK : Option Addr) (nK cK : Nat) (aH : Option Addr) (nH cH : Nat) (aF : Option Addr) (nF cF : Nat) : Obj := .cells #[.slice aC nC cC, .slice aW nW cW, .slice aK nK cK, .slice aH nH cH, .slice aF nF cF] 45 (0, 0)
abbrev zB : Obj := .cells #[.slice none 0 0, .slice none 0 0, .slice none 0 0, .slice none 0 0, .slice none 0 0] 39 (0, 0)
/-- What is read of it. -/
structure BkF (w : World) (aC aW aK aH aF : Option Addr) (m : Bk) : Prop where
  c : Sl w aC m.c
  W : SlSI w aW m.W
  k : Sl w aK m.k
  H : SlSB w aH m.H
  F : SlSI w aF m.F
theorem BkF.below {w w' : World} {aC aW aK aH aF : Option Addr} {m : Bk} (h : BkF w aC aW aK aH aF m) (hb : Below w.heap.size w w') : BkF w' aC aW aK aH aF m := ⟨h.c.below hb, h.W.below hb, h.k.below hb, h.H.below hb, h.F.below hb⟩
/-- It is not great. -/
structure BkZ (m : Bk) (nC nW nK nH nF : Nat) : Prop where
  c : m.c.length = nC
  W : m.W.length = nW
  k : m.k.length = nK
  H : m.H.length = nH
  F : m.F.length = nF
  bc : nC ≤ 1048576
  bW : nW ≤ 1048576
  bk : nK ≤ 1048576
  bH : nH ≤ 1048576
  bF : nF ≤ 1048576
  sW : ∀ i, i < m.W.length → (m.W.getD i []).length ≤ 1048576
  sH : ∀ i, i < m.H.length → (m.H.getD i []).length ≤ 1048576
  sF : ∀ i, i < m.F.length → (m.F.getD i []).length ≤ 1048576
/-- The values of a bank that is owned: its five fields, the rows of Ways, Found and Heard. -/
structure Vs where
  c : Value
  W : Value
  k : Value
  H : Value
  F : Value
  VW : List Value
  VF : List Value
  VH : List Value
def Vs.at (v : Vs) : Tg → Value
  | .c => v.c
  | .k => v.k
  | .w i => v.VW.getD i nilV
  | .f i => v.VF.getD i nilV
def Vs.put (v : Vs) (x : Value) : Tg → Vs
  | .c => { v with c := x }
  | .k => { v with k := x }
  | .w i => { v with VW := v.VW.set i x }
  | .f i => { v with VF := v.VF.set i x }
def Vs.has (v : Vs) : Tg → Prop
  | .c => True
  | .k => True
  | .w i => i < v.VW.length
  | .f i => i < v.VF.length
theorem at_put (v : Vs) (x : Value) (t s : Tg) (h : v.has t) : (v.put x t).at s = if s = t then x else v.at s := by
  cases t <;> cases s <;> simp [Vs.put, Vs.at]
  · rename_i i j; rw [show (v.VW.set i x)[j]?.getD nilV = (v.VW.set i x).getD j nilV from rfl, getD_setL _ _ _ _ _ h]; rfl
  · rename_i i j; rw [show (v.VF.set i x)[j]?.getD nilV = (v.VF.set i x).getD j nilV from rfl, getD_setL _ _ _ _ _ h]; rfl
structure BW (w : World) (S : Nat → Prop) (v : Vs) (m : Bk) : Prop where
  r : ∀ t, w.ownsRow 0 3 1 (v.at t) (m.row t).length ((m.row t).map (Value.int .i64))
  ap : ∀ s t q, s ≠ t → (v.at s).ownBlock = some q → (v.at t).ownBlock ≠ some q
  W : w.ownsRow 0 24 1 v.W m.W.length v.VW
  F : w.ownsRow 0 24 1 v.F m.F.length v.VF
  WF : ∀ q, v.W.ownBlock = some q → v.F.ownBlock ≠ some q
  H : w.ownsRow 0 58 1 v.H m.H.length v.VH
  h : ∀ i, w.ownsRow 0 4 1 (v.VH.getD i nilV) (m.H.getD i []).length ((m.H.getD i []).map Value.bool)
  hp : ∀ i j q, i ≠ j → (v.VH.getD i nilV).ownBlock = some q → (v.VH.getD j nilV).ownBlock ≠ some q
  sr : ∀ t, InS S (v.at t)
  sW : InS S v.W
  sF : InS S v.F
  sH : InS S v.H
  sh : ∀ i, InS S (v.VH.getD i nilV)
theorem t_i2 : 24 ≠ 3 := by decide
theorem t_ib2 : 24 ≠ 58 := by decide
theorem t_i2b : 24 ≠ 4 := by decide
theorem t_ib : 3 ≠ 4 := by decide
theorem t_i_b2 : 3 ≠ 58 := by decide
theorem t_b2 : 58 ≠ 4 := by decide
theorem t_Bi : 39 ≠ 3 := by decide
theorem t_Bi2 : 39 ≠ 24 := by decide
theorem t_Bb : 39 ≠ 4 := by decide
theorem t_Bb2 : 39 ≠ 58 := by decide
theorem own_cellB {w : World} {base n cap : Nat} {t : TypeId} {g : Nat} {xs : List Value} (h : w.ownsRow base t 1 (.slice (some ⟨g, 0, none⟩) n cap) n xs) (i : Nat) (u : Value) (hu : xs[i]? = some u) : w.cell? ⟨g, i, none⟩ = some u := by
  have := h.cells (g := g) rfl i u hu
  rw [addr_add] at this
  simpa using this
section
variable {w w' : World} {S S' : Nat → Prop} {v : Vs} {m : Bk}
theorem BW.lenW (h : BW w S v m) : v.VW.length = m.W.length := by have := h.W.1; omega
theorem BW.lenF (h : BW w S v m) : v.VF.length = m.F.length := by have := h.F.1; omega
theorem BW.lenH (h : BW w S v m) : v.VH.length = m.H.length := by have := h.H.1; omega
theorem BW.at (h : BW w S v m) (hb : ∀ q, S q → q < w.heap.size → w'.heap[q]? = w.heap[q]?) : BW w' S v m :=
  ⟨fun t => own_at (h.r t) fun q hq => hb q (h.sr t q hq) (own_ltO (h.r t) q hq), h.ap, own_at h.W fun q hq => hb q (h.sW q hq) (own_ltO h.W q hq), own_at h.F fun q hq => hb q (h.sF q hq) (own_ltO h.F q hq), h.WF, own_at h.H fun q hq => hb q (h.sH q hq) (own_ltO h.H q hq), fun i => own_at (h.h i) fun q hq => hb q (h.sh i q hq) (own_ltO (h.h i) q hq), h.hp, h.sr, h.sW, h.sF, h.sH, h.sh⟩
theorem BW.below (h : BW w S v m) (hb : Below w.heap.size w w') : BW w' S v m := h.at fun q _ hq => hb.block q hq
theorem BW.mono (h : BW w S v m) (hS : ∀ q, S q → S' q) : BW w S' v m :=
  ⟨h.r, h.ap, h.W, h.F, h.WF, h.H, h.h, h.hp, fun t q hq => hS q (h.sr t q hq), fun q hq => hS q (h.sW q hq), fun q hq => hS q (h.sF q hq), fun q hq => hS q (h.sH q hq), fun i q hq => hS q (h.sh i q hq)⟩
theorem BW.tight (h : BW w S v m) : BW w (fun q => S q ∧ q < w.heap.size) v m :=
  ⟨h.r, h.ap, h.W, h.F, h.WF, h.H, h.h, h.hp, fun t q hq => ⟨h.sr t q hq, own_ltO (h.r t) q hq⟩, fun q hq => ⟨h.sW q hq, own_ltO h.W q hq⟩, fun q hq => ⟨h.sF q hq, own_ltO h.F q hq⟩, fun q hq => ⟨h.sH q hq, own_ltO h.H q hq⟩, fun i q hq => ⟨h.sh i q hq, own_ltO (h.h i) q hq⟩⟩
theorem slSI_of {a : Option Addr} {n c : Nat} {G : List (List Int)} {V : List Value} (ho : w.ownsRow 0 24 1 (.slice a n c) G.length V) (hr : ∀ i, w.ownsRow 0 3 1 (V.getD i nilV) (G.getD i []).length ((G.getD i []).map (Value.int .i64))) : SlSI w a G := fun i hi => by
  have hV : V.length = G.length := by have := ho.1; omega
  rcases ho.2 with ⟨hv, h0⟩ | ⟨g, cap, cur, hv, _⟩
  · omega
  · obtain ⟨rfl, hnn, _⟩ := Value.slice.inj hv
    obtain ⟨ai, ci, e, hs, _⟩ := own_form (hr i)
    refine ⟨g, 0, rfl, ai, ci, ?_, hs⟩
    rw [Nat.zero_add]
    have ht := ho
    rw [hnn] at ht
    exact own_cellB ht i _ (by rw [List.getElem?_eq_getElem (show i < V.length by omega)]; rw [← e]; simp [List.getD, List.getElem?_eq_getElem (show i < V.length by omega)])
theorem slSB_of {a : Option Addr} {n c : Nat} {G : List (List Bool)} {V : List Value} (ho : w.ownsRow 0 58 1 (.slice a n c) G.length V) (hr : ∀ i, w.ownsRow 0 4 1 (V.getD i nilV) (G.getD i []).length ((G.getD i []).map Value.bool)) : SlSB w a G := fun i hi => by
  have hV : V.length = G.length := by have := ho.1; omega
  rcases ho.2 with ⟨hv, h0⟩ | ⟨g, cap, cur, hv, _⟩
  · omega
  · obtain ⟨rfl, hnn, _⟩ := Value.slice.inj hv
    obtain ⟨ai, ci, e, hs, _⟩ := own_formB (hr i)
    refine ⟨g, 0, rfl, ai, ci, ?_, hs⟩
    rw [Nat.zero_add]
    have ht := ho
    rw [hnn] at ht
    exact own_cellB ht i _ (by rw [List.getElem?_eq_getElem (show i < V.length by omega)]; rw [← e]; simp [List.getD, List.getElem?_eq_getElem (show i < V.length by omega)])
/-- The values are slices so. -/
structure Fits (v : Vs) (aC : Option Addr) (nC cC : Nat) (aW : Option Addr) (nW cW : Nat) (aK : Option Addr) (nK cK : Nat) (aH : Option Addr) (nH cH : Nat) (aF : Option Addr) (nF cF : Nat) : Prop where
  c : v.c = .slice aC nC cC
  W : v.W = .slice aW nW cW
  k : v.k = .slice aK nK cK
  H : v.H = .slice aH nH cH
  F : v.F = .slice aF nF cF
theorem BW.bkf {aC aW aK aH aF : Option Addr} {nC cC nW cW nK cK nH cH nF cF : Nat} (h : BW w S v m) (f : Fits v aC nC cC aW nW cW aK nK cK aH nH cH aF nF cF) : BkF w aC aW aK aH aF m := by
  refine ⟨?_, ?_, ?_, ?_, ?_⟩
  · obtain ⟨a, cap, e, hs, _⟩ := own_form (h.r .c)
    have e' : v.c = .slice a (m.row .c).length cap := e
    rw [f.c] at e'
    obtain ⟨rfl, _, _⟩ := Value.slice.inj e'
    exact hs
  · have ho := h.W
    rw [f.W] at ho
    exact slSI_of ho (fun i => h.r (.w i))
  · obtain ⟨a, cap, e, hs, _⟩ := own_form (h.r .k)
    have e' : v.k = .slice a (m.row .k).length cap := e
    rw [f.k] at e'
    obtain ⟨rfl, _, _⟩ := Value.slice.inj e'
    exact hs
  · have ho := h.H
    rw [f.H] at ho
    exact slSB_of ho h.h
  · have ho := h.F
    rw [f.F] at ho
    exact slSI_of ho (fun i => h.r (.f i))
theorem BW.shape (h : BW w S v m) : ∃ aC cC aW cW aK cK aH cH aF cF, Fits v aC m.c.length cC aW m.W.length cW aK m.k.length cK aH m.H.length cH aF m.F.length cF := by
  obtain ⟨a1, c1, e1⟩ := own_shapeO (h.r .c)
  obtain ⟨a2, c2, e2⟩ := own_shapeO h.W
  obtain ⟨a3, c3, e3⟩ := own_shapeO (h.r .k)
  obtain ⟨a4, c4, e4⟩ := own_shapeO h.H
  obtain ⟨a5, c5, e5⟩ := own_shapeO h.F
  exact ⟨a1, c1, a2, c2, a3, c3, a4, c4, a5, c5, ⟨e1, e2, e3, e4, e5⟩⟩
/-- A row of ints is put anew: only its own block may have turned; its place in Ways or Found is not stored yet. -/
theorem BW.rowput (h : BW w S v m) (t : Tg) (ht : m.has t) (x : Value) (l : List Int) (ho : w'.ownsRow 0 3 1 x l.length (l.map (Value.int .i64))) (hg : w.grownBy w' (v.at t).ownBlock) (hnew : ∀ q, x.ownBlock = some q → (v.at t).ownBlock = some q ∨ w.heap.size ≤ q) :
    (∀ s, w'.ownsRow 0 3 1 ((v.put x t).at s) ((m.put l t).row s).length (((m.put l t).row s).map (Value.int .i64))) ∧ (∀ s u q, s ≠ u → ((v.put x t).at s).ownBlock = some q → ((v.put x t).at u).ownBlock ≠ some q) := by
  have hv : v.has t := by
    cases t with
    | c => trivial
    | k => trivial
    | w i => show i < v.VW.length; rw [h.lenW]; exact ht
    | f i => show i < v.VF.length; rw [h.lenF]; exact ht
  refine ⟨fun s => ?_, fun s u q hsu e => ?_⟩
  · rw [at_put v x t s hv, row_put m l t s ht]
    by_cases e : s = t
    · rw [if_pos e, if_pos e]; exact ho
    · rw [if_neg e, if_neg e]
      exact own_pastO (h.r s) hg (fun q hq e2 => h.ap s t q e hq e2)
  · rw [at_put v x t s hv] at e
    rw [at_put v x t u hv]
    by_cases e1 : s = t
    · rw [if_pos e1] at e
      rw [if_neg (fun e2 => hsu (e1.trans e2.symm))]
      intro e3
      rcases hnew q e with e4 | e4
      · exact h.ap t u q (fun e2 => hsu (e1.trans e2)) e4 e3
      · have := own_ltO (h.r u) q e3; omega
    · rw [if_neg e1] at e
      by_cases e2 : u = t
      · rw [if_pos e2]
        intro e3
        rcases hnew q e3 with e4 | e4
        · exact h.ap s t q e1 e e4
        · have := own_ltO (h.r s) q e; omega
      · rw [if_neg e2]
        exact h.ap s u q hsu e
theorem BW.rowS (h : BW w S v m) (t : Tg) (ht : m.has t) (x : Value) (hS : ∀ q, S q → S' q) (hx : InS S' x) : ∀ s, InS S' ((v.put x t).at s) := fun s => by
  have hv : v.has t := by
    cases t with
    | c => trivial
    | k => trivial
    | w i => show i < v.VW.length; rw [h.lenW]; exact ht
    | f i => show i < v.VF.length; rw [h.lenF]; exact ht
  rw [at_put v x t s hv]
  split
  · exact hx
  · exact fun q hq => hS q (h.sr s q hq)
/-- A store into a row of ints, in place. -/
theorem BW.set (h : BW w S v m) (t : Tg) (ht : m.has t) (g n c : Nat) (hv : v.at t = .slice (some ⟨g, 0, none⟩) n c) (k : Nat) (x : Int) : BW (w.setCell ⟨g, k, none⟩ (.int .i64 x)) S v (m.put ((m.row t).set k x) t) := by
  have hb : (v.at t).ownBlock = some g := by rw [hv]; rfl
  have st : ∀ {c n : Nat} {t : TypeId} {u : Value} {xs : List Value}, w.ownsRow 0 t c u n xs → u.ownBlock ≠ some g → (w.setCell ⟨g, k, none⟩ (.int .i64 x)).ownsRow 0 t c u n xs := fun ho hn => own_at ho fun q hq => Below.heap_setCell _ _ _ _ (fun e => hn (by rw [hq]; exact congrArg some e))
  have ne : ∀ {c n : Nat} {t2 : TypeId} {u : Value} {xs : List Value}, w.ownsRow 0 t2 c u n xs → 3 ≠ t2 → u.ownBlock ≠ some g := fun ho hn => own_twoO (h.r t) ho hn g hb
  have ho : (w.setCell ⟨g, k, none⟩ (.int .i64 x)).ownsRow 0 3 1 (v.at t) ((m.row t).set k x).length (((m.row t).set k x).map (Value.int .i64)) := by
    have h1 := h.r t
    obtain ⟨a0, c0, e0⟩ := own_shapeO h1
    rw [hv] at e0
    obtain ⟨_, e1, _⟩ := Value.slice.inj e0
    rw [hv, e1] at h1 ⊢
    rw [List.length_set, List.map_set]
    exact (h1.stored k (.int .i64 x)).1
  refine ⟨fun s => ?_, h.ap, ?_, ?_, h.WF, ?_, ?_, h.hp, h.sr, h.sW, h.sF, h.sH, h.sh⟩
  · rw [row_put m _ t s ht]
    by_cases e : s = t
    · subst e; rw [if_pos rfl]; exact ho
    · rw [if_neg e]; exact st (h.r s) (h.ap t s g (Ne.symm e) hb)
  · rw [put_lenW]; exact st h.W (ne h.W t_i2.symm)
  · rw [put_lenF]; exact st h.F (ne h.F t_i2.symm)
  · rw [put_H]; exact st h.H (ne h.H t_i_b2)
  · intro i; rw [put_H]; exact st (h.h i) (ne (h.h i) t_ib)
/-- A row of ints written over, in place. -/
theorem BW.over (h : BW w S v m) (t : Tg) (ht : m.has t) (l : List Int) (hown : w'.ownsRow 0 3 1 (v.at t) l.length (l.map (Value.int .i64))) (hg : w.grownBy w' (v.at t).ownBlock) : BW w' S v (m.put l t) := by
  have ne : ∀ {c n : Nat} {t2 : TypeId} {u : Value} {xs : List Value}, w.ownsRow 0 t2 c u n xs → 3 ≠ t2 → ∀ q, u.ownBlock = some q → (v.at t).ownBlock ≠ some q := fun ho hn q hq e => own_twoO (h.r t) ho hn q e hq
  refine ⟨fun s => ?_, h.ap, ?_, ?_, h.WF, ?_, ?_, h.hp, h.sr, h.sW, h.sF, h.sH, h.sh⟩
  · rw [row_put m _ t s ht]
    by_cases e : s = t
    · subst e; rw [if_pos rfl]; exact hown
    · rw [if_neg e]; exact own_pastO (h.r s) hg (fun q hq e2 => h.ap s t q e hq e2)
  · rw [put_lenW]; exact own_pastO h.W hg (ne h.W t_i2.symm)
  · rw [put_lenF]; exact own_pastO h.F hg (ne h.F t_i2.symm)
  · rw [put_H]; exact own_pastO h.H hg (ne h.H t_i_b2)
  · intro i; rw [put_H]; exact own_pastO (h.h i) hg (ne (h.h i) t_ib)
/-- A row of bools written over, in place. -/
theorem BW.overH (h : BW w S v m) (k : Nat) (hk : k < m.H.length) (l : List Bool) (hown : w'.ownsRow 0 4 1 (v.VH.getD k nilV) l.length (l.map Value.bool)) (hg : w.grownBy w' (v.VH.getD k nilV).ownBlock) : BW w' S v { m with H := m.H.set k l } := by
  have ne : ∀ {c n : Nat} {t2 : TypeId} {u : Value} {xs : List Value}, w.ownsRow 0 t2 c u n xs → 4 ≠ t2 → ∀ q, u.ownBlock = some q → (v.VH.getD k nilV).ownBlock ≠ some q := fun ho hn q hq e => own_twoO (h.h k) ho hn q e hq
  refine ⟨fun s => own_pastO (h.r s) hg (ne (h.r s) t_ib.symm), h.ap, own_pastO h.W hg (ne h.W t_i2b.symm), own_pastO h.F hg (ne h.F t_i2b.symm), h.WF, ?_, fun i => ?_, h.hp, h.sr, h.sW, h.sF, h.sH, h.sh⟩
  · show World.ownsRow _ 0 _ 1 v.H (m.H.set k l).length v.VH
    rw [List.length_set]
    exact own_pastO h.H hg (ne h.H t_b2.symm)
  · show World.ownsRow _ 0 _ 1 _ ((m.H.set k l).getD i []).length (((m.H.set k l).getD i []).map Value.bool)
    rw [getD_setL _ _ _ _ _ hk]
    by_cases e : i = k
    · subst e; rw [if_pos rfl]; exact hown
    · rw [if_neg e]; exact own_pastO (h.h i) hg (fun q hq e2 => h.hp i k q e hq e2)
/-- A store into a row of bools, in place. -/
theorem BW.setH (h : BW w S v m) (i : Nat) (hi : i < m.H.length) (g n c : Nat) (hv : v.VH.getD i nilV = .slice (some ⟨g, 0, none⟩) n c) (k : Nat) (x : Bool) : BW (w.setCell ⟨g, k, none⟩ (.bool x)) S v { m with H := m.H.set i ((m.H.getD i []).set k x) } := by
  have hb : (v.VH.getD i nilV).ownBlock = some g := by rw [hv]; rfl
  have st : ∀ {c n : Nat} {t : TypeId} {u : Value} {xs : List Value}, w.ownsRow 0 t c u n xs → u.ownBlock ≠ some g → (w.setCell ⟨g, k, none⟩ (.bool x)).ownsRow 0 t c u n xs := fun ho hn => own_at ho fun q hq => Below.heap_setCell _ _ _ _ (fun e => hn (by rw [hq]; exact congrArg some e))
  have ne : ∀ {c n : Nat} {t2 : TypeId} {u : Value} {xs : List Value}, w.ownsRow 0 t2 c u n xs → 4 ≠ t2 → u.ownBlock ≠ some g := fun ho hn => own_twoO (h.h i) ho hn g hb
  have ho : (w.setCell ⟨g, k, none⟩ (.bool x)).ownsRow 0 4 1 (v.VH.getD i nilV) ((m.H.getD i []).set k x).length (((m.H.getD i []).set k x).map Value.bool) := by
    have h1 := h.h i
    obtain ⟨a0, c0, e0⟩ := own_shapeO h1
    rw [hv] at e0
    obtain ⟨_, e1, _⟩ := Value.slice.inj e0
    rw [hv, e1] at h1 ⊢
    rw [List.length_set, List.map_set]
    exact (h1.stored k (.bool x)).1
  refine ⟨fun s => st (h.r s) (ne (h.r s) t_ib.symm), h.ap, st h.W (ne h.W t_i2b.symm), st h.F (ne h.F t_i2b.symm), h.WF, ?_, fun j => ?_, h.hp, h.sr, h.sW, h.sF, h.sH, h.sh⟩
  · show World.ownsRow _ 0 _ 1 v.H (m.H.set i _).length v.VH
    rw [List.length_set]
    exact st h.H (ne h.H t_b2.symm)
  · show World.ownsRow _ 0 _ 1 _ ((m.H.set i _).getD j []).length (((m.H.set i _).getD j []).map Value.bool)
    rw [getD_setL _ _ _ _ _ hi]
    by_cases e : j = i
    · subst e; rw [if_pos rfl]; exact ho
    · rw [if_neg e]; exact st (h.h j) (h.hp i j g (Ne.symm e) hb)
/-- A way is put anew: its row, then its place in Ways. -/
theorem BW.way (h : BW w S v m) (gb cg : Nat) (hvW : v.W = .slice (some ⟨gb, 0, none⟩) m.W.length cg) (k : Nat) (hk : k < m.W.length) (x : Value) (l : List Int) (hown : w'.ownsRow 0 3 1 x l.length (l.map (Value.int .i64))) (hg : w.grownBy w' (v.at (.w k)).ownBlock)
    (hnew : ∀ q, x.ownBlock = some q → (v.at (.w k)).ownBlock = some q ∨ w.heap.size ≤ q) (hS : ∀ q, S q → S' q) (hx : InS S' x) : BW (w'.setCell ⟨gb, k, none⟩ x) S' (v.put x (.w k)) (m.put l (.w k)) := by
  have ne : ∀ {c n : Nat} {t2 : TypeId} {u : Value} {xs : List Value}, w.ownsRow 0 t2 c u n xs → 3 ≠ t2 → ∀ q, u.ownBlock = some q → (v.at (.w k)).ownBlock ≠ some q := fun ho hn q hq e => own_twoO (h.r (.w k)) ho hn q e hq
  obtain ⟨q1, q2⟩ := h.rowput (.w k) hk x l hown hg hnew
  have W' : w'.ownsRow 0 24 1 v.W m.W.length v.VW := own_pastO h.W hg (ne h.W t_i2.symm)
  have F' : w'.ownsRow 0 24 1 v.F m.F.length v.VF := own_pastO h.F hg (ne h.F t_i2.symm)
  have H' : w'.ownsRow 0 58 1 v.H m.H.length v.VH := own_pastO h.H hg (ne h.H t_i_b2)
  have hWb : v.W.ownBlock = some gb := by rw [hvW]; rfl
  have st : ∀ {c n : Nat} {t : TypeId} {u : Value} {xs : List Value}, w'.ownsRow 0 t c u n xs → u.ownBlock ≠ some gb → (w'.setCell ⟨gb, k, none⟩ x).ownsRow 0 t c u n xs := fun ho hn => own_at ho fun q hq => Below.heap_setCell _ _ _ _ (fun e => hn (by rw [hq]; exact congrArg some e))
  have ne2 : ∀ {c n : Nat} {t2 : TypeId} {u : Value} {xs : List Value}, w'.ownsRow 0 t2 c u n xs → 24 ≠ t2 → u.ownBlock ≠ some gb := fun ho hn => own_twoO W' ho hn gb hWb
  refine ⟨fun s => st (q1 s) (ne2 (q1 s) t_i2), q2, ?_, ?_, h.WF, ?_, fun i => ?_, h.hp, h.rowS (.w k) hk x hS hx, fun q hq => hS q (h.sW q hq), fun q hq => hS q (h.sF q hq), fun q hq => hS q (h.sH q hq), fun i q hq => hS q (h.sh i q hq)⟩
  · show World.ownsRow _ 0 _ 1 v.W (m.put l (.w k)).W.length (v.VW.set k x)
    rw [put_lenW]
    have h1 := W'
    rw [hvW] at h1 ⊢
    exact (h1.stored k x).1
  · show World.ownsRow _ 0 _ 1 v.F (m.put l (.w k)).F.length v.VF
    rw [put_lenF]
    exact st F' (h.WF gb hWb)
  · rw [put_H]; exact st H' (ne2 H' t_ib2)
  · rw [put_H]
    have hh : w'.ownsRow 0 4 1 (v.VH.getD i nilV) (m.H.getD i []).length ((m.H.getD i []).map Value.bool) := own_pastO (h.h i) hg (ne (h.h i) t_ib)
    exact st hh (ne2 hh t_i2b)
/-- A store into the struct's block. -/
theorem BW.setB (h : BW w S v m) {b : Nat} {cur : Array Value} (hb : w.heap[b]? = some (.cells cur 39 (0, 0))) (j : Nat) (u : Value) : BW (w.setCell ⟨b, j, none⟩ u) S v m := by
  have key : ∀ {c n : Nat} {t : TypeId} {x : Value} {xs : List Value}, w.ownsRow 0 t c x n xs → 39 ≠ t → (w.setCell ⟨b, j, none⟩ u).ownsRow 0 t c x n xs := fun ho ht => own_at ho fun q hq => Below.heap_setCell _ _ _ _ (fun e => own_boxO ho hb ht (by rw [hq]; exact congrArg some e))
  exact ⟨fun t => key (h.r t) t_Bi, h.ap, key h.W t_Bi2, key h.F t_Bi2, h.WF, key h.H t_Bb2, fun i => key (h.h i) t_Bb, h.hp, h.sr, h.sW, h.sF, h.sH, h.sh⟩
end
end Go.Proofs.Ytfjbiihiaoobhai.L12
