/-
  A world of tellers in memory. Nothing of the program's text is proved here but closed facts on its types.
-/
import Derived.Test.YthmekhhfihjclagOwnG
import Derived.Test.YthmekhhfihjclagSS
import Derived.Test.YthmekhhfihjclagNote
import Derived.Test.YthmekhhfihjclagTri
namespace Go.Proofs.Ythmekhhfihjclag.L10
open Go.RowKit L1 Own Str Nte Tri
set_option linter.unusedVariables false

/-- A world of tellers: Texts, Heard, Line, Log, Next. -/
structure Tm where
  T : List (List ByteArray)
  hd : List Int
  ln : List Nt
  lg : List Tr
  nx : List Int
abbrev tlV (aT : Option Addr) (nT cT : Nat) (aH : Option Addr) (nH cH : Nat) (aL : Option Addr) (nL cL : Nat) (aG : Option Addr) (nG cG : Nat) (aN : Option Addr) (nN cN : Nat) : Value := .agg #[.slice aT nT cT, .slice aH nH cH, .slice aL nL cL, .slice aG nG cG, .slice aN nN cN]
abbrev tlO (aT : Option Addr) (nT cT : Nat) (aH : Option Addr) (nH cH : Nat) (aL : Option Addr) (nL cL : Nat) (aG : Option Addr) (nG cG : Nat) (aN : Option Addr) (nN cN : Nat) : Obj := .cells #[.slice aT nT cT, .slice aH nH cH, .slice aL nL cL, .slice aG nG cG, .slice aN nN cN] 33 (0, 0)
abbrev zT : Obj := .cells #[.slice none 0 0, .slice none 0 0, .slice none 0 0, .slice none 0 0, .slice none 0 0] 33 (0, 0)
/-- What is read of it. -/
structure TlF (w : World) (aT aH aL aG aN : Option Addr) (m : Tm) : Prop where
  t : SlSS w aT m.T
  h : Sl w aH m.hd
  l : Sl4 w aL m.ln
  g : Sl3 w aG m.lg
  n : Sl w aN m.nx
theorem TlF.below {w w' : World} {aT aH aL aG aN : Option Addr} {m : Tm} (h : TlF w aT aH aL aG aN m) (hb : Below w.heap.size w w') : TlF w' aT aH aL aG aN m := ⟨h.t.below hb, h.h.below hb, h.l.below hb, h.g.below hb, h.n.below hb⟩
/-- It is not great. -/
structure TlZ (m : Tm) (nT nH nL nG nN : Nat) : Prop where
  t : m.T.length = nT
  h : m.hd.length = nH
  l : m.ln.length = nL
  g : m.lg.length = nG
  n : m.nx.length = nN
  bt : nT ≤ 1048576
  bh : nH ≤ 1048576
  bl : nL ≤ 1048576
  bg : nG ≤ 1048576
  bn : nN ≤ 1048576
  bs : ∀ i, i < m.T.length → (m.T.getD i []).length ≤ 1048576
  xs : ∀ i, i < m.T.length → ∀ j, j < (m.T.getD i []).length → ((m.T.getD i []).getD j e0).size ≤ 1048576
  xl : ∀ i, i < m.ln.length → (m.ln.getD i e4).2.2.2.size ≤ 1048576
  xg : ∀ i, i < m.lg.length → (m.lg.getD i e3).2.2.size ≤ 1048576
structure TW (w : World) (S : Nat → Prop) (V : List Value) (vT vH vL vG vN : Value) (m : Tm) : Prop where
  t : w.ownsRow 0 58 1 vT m.T.length V
  s : ∀ i, i < m.T.length → w.ownsRow 0 9 1 (V.getD i nilV) (m.T.getD i []).length (mapS (m.T.getD i []))
  ap : ∀ i k q, i < m.T.length → k < m.T.length → i ≠ k → (V.getD i nilV).ownBlock = some q → (V.getD k nilV).ownBlock ≠ some q
  h : w.ownsRow 0 3 1 vH m.hd.length (m.hd.map (Value.int .i64))
  l : w.ownsRow 0 77 4 vL m.ln.length (flat4 m.ln)
  g : w.ownsRow 0 75 3 vG m.lg.length (flat3 m.lg)
  n : w.ownsRow 0 3 1 vN m.nx.length (m.nx.map (Value.int .i64))
  hn : ∀ q, vH.ownBlock = some q → vN.ownBlock ≠ some q
  sT : InS S vT
  sV : ∀ i, i < m.T.length → InS S (V.getD i nilV)
  sH : InS S vH
  sL : InS S vL
  sG : InS S vG
  sN : InS S vN
theorem t_ts : 58 ≠ 9 := by decide
theorem t_ti : 58 ≠ 3 := by decide
theorem t_tn : 58 ≠ 77 := by decide
theorem t_tg : 58 ≠ 75 := by decide
theorem t_si : 9 ≠ 3 := by decide
theorem t_sn : 9 ≠ 77 := by decide
theorem t_sg : 9 ≠ 75 := by decide
theorem t_in : 3 ≠ 77 := by decide
theorem t_ig : 3 ≠ 75 := by decide
theorem t_ng : 77 ≠ 75 := by decide
theorem t_bt : 33 ≠ 58 := by decide
theorem t_bs : 33 ≠ 9 := by decide
theorem t_bi : 33 ≠ 3 := by decide
theorem t_bn : 33 ≠ 77 := by decide
theorem t_bg : 33 ≠ 75 := by decide
section
variable {w w' : World} {S S' : Nat → Prop} {V : List Value} {vT vH vL vG vN : Value} {m : Tm}
theorem TW.lenV (h : TW w S V vT vH vL vG vN m) : V.length = m.T.length := by have := h.t.1; omega
theorem TW.at (h : TW w S V vT vH vL vG vN m) (hb : ∀ q, S q → q < w.heap.size → w'.heap[q]? = w.heap[q]?) : TW w' S V vT vH vL vG vN m :=
  ⟨own_at h.t fun q hq => hb q (h.sT q hq) (own_ltO h.t q hq), fun i hi => own_at (h.s i hi) fun q hq => hb q (h.sV i hi q hq) (own_ltO (h.s i hi) q hq), h.ap, own_at h.h fun q hq => hb q (h.sH q hq) (own_ltO h.h q hq), own_at h.l fun q hq => hb q (h.sL q hq) (own_ltO h.l q hq), own_at h.g fun q hq => hb q (h.sG q hq) (own_ltO h.g q hq), own_at h.n fun q hq => hb q (h.sN q hq) (own_ltO h.n q hq), h.hn, h.sT, h.sV, h.sH, h.sL, h.sG, h.sN⟩
theorem TW.below (h : TW w S V vT vH vL vG vN m) (hb : Below w.heap.size w w') : TW w' S V vT vH vL vG vN m := h.at fun q _ hq => hb.block q hq
theorem TW.mono (h : TW w S V vT vH vL vG vN m) (hS : ∀ q, S q → S' q) : TW w S' V vT vH vL vG vN m :=
  ⟨h.t, h.s, h.ap, h.h, h.l, h.g, h.n, h.hn, fun q hq => hS q (h.sT q hq), fun i hi q hq => hS q (h.sV i hi q hq), fun q hq => hS q (h.sH q hq), fun q hq => hS q (h.sL q hq), fun q hq => hS q (h.sG q hq), fun q hq => hS q (h.sN q hq)⟩
theorem TW.tight (h : TW w S V vT vH vL vG vN m) : TW w (fun q => S q ∧ q < w.heap.size) V vT vH vL vG vN m :=
  ⟨h.t, h.s, h.ap, h.h, h.l, h.g, h.n, h.hn, fun q hq => ⟨h.sT q hq, own_ltO h.t q hq⟩, fun i hi q hq => ⟨h.sV i hi q hq, own_ltO (h.s i hi) q hq⟩, fun q hq => ⟨h.sH q hq, own_ltO h.h q hq⟩, fun q hq => ⟨h.sL q hq, own_ltO h.l q hq⟩, fun q hq => ⟨h.sG q hq, own_ltO h.g q hq⟩, fun q hq => ⟨h.sN q hq, own_ltO h.n q hq⟩⟩
theorem own_cellO {base n cap : Nat} {t : TypeId} {g : Nat} {xs : List Value} (h : w.ownsRow base t 1 (.slice (some ⟨g, 0, none⟩) n cap) n xs) (i : Nat) (u : Value) (hu : xs[i]? = some u) : w.cell? ⟨g, i, none⟩ = some u := by
  have := h.cells (g := g) rfl i u hu
  rw [addr_add] at this
  simpa using this
theorem TW.texts {aT : Option Addr} {n cT : Nat} (h : TW w S V (.slice aT n cT) vH vL vG vN m) : SlSS w aT m.T := fun i hi => by
  have hV := h.lenV
  rcases h.t.2 with ⟨hv, h0⟩ | ⟨g, cap, cur, hv, _⟩
  · omega
  · obtain ⟨rfl, hnn, _⟩ := Value.slice.inj hv
    obtain ⟨ai, ci, e, hs, _⟩ := own_formS (h.s i hi)
    refine ⟨g, 0, rfl, ai, ci, ?_, hs⟩
    rw [Nat.zero_add]
    have ht := h.t
    rw [hnn] at ht
    exact own_cellO ht i _ (by simp [List.getElem?_eq_getElem (show i < V.length by omega)]; simpa [List.getD, List.getElem?_eq_getElem (show i < V.length by omega)] using e)
theorem TW.tlf {aT aH aL aG aN : Option Addr} {nT cT nH cH nL cL nG cG nN cN : Nat} (h : TW w S V (.slice aT nT cT) (.slice aH nH cH) (.slice aL nL cL) (.slice aG nG cG) (.slice aN nN cN) m) : TlF w aT aH aL aG aN m := by
  refine ⟨h.texts, ?_, ?_, ?_, ?_⟩
  · obtain ⟨a, cap, e, hs, _⟩ := own_form h.h
    obtain ⟨rfl, _, _⟩ := Value.slice.inj e
    exact hs
  · obtain ⟨a, cap, e, hs, _⟩ := own_form4 h.l
    obtain ⟨rfl, _, _⟩ := Value.slice.inj e
    exact hs
  · obtain ⟨a, cap, e, hs, _⟩ := own_form3 h.g
    obtain ⟨rfl, _, _⟩ := Value.slice.inj e
    exact hs
  · obtain ⟨a, cap, e, hs, _⟩ := own_form h.n
    obtain ⟨rfl, _, _⟩ := Value.slice.inj e
    exact hs
theorem TW.shape (h : TW w S V vT vH vL vG vN m) : ∃ aT cT aH cH aL cL aG cG aN cN, vT = .slice aT m.T.length cT ∧ vH = .slice aH m.hd.length cH ∧ vL = .slice aL m.ln.length cL ∧ vG = .slice aG m.lg.length cG ∧ vN = .slice aN m.nx.length cN := by
  obtain ⟨a1, c1, e1⟩ := own_shapeO h.t
  obtain ⟨a2, c2, e2⟩ := own_shapeO h.h
  obtain ⟨a3, c3, e3⟩ := own_shapeO h.l
  obtain ⟨a4, c4, e4⟩ := own_shapeO h.g
  obtain ⟨a5, c5, e5⟩ := own_shapeO h.n
  exact ⟨a1, c1, a2, c2, a3, c3, a4, c4, a5, c5, e1, e2, e3, e4, e5⟩
end
end Go.Proofs.Ythmekhhfihjclag.L10
