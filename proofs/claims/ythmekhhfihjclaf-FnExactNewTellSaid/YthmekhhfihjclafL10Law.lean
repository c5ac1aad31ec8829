/-
  What the laws of chapter 10 keep of a world of tellers: its box, its rows. Nothing of the program's text is proved here.
-/
import Derived.Test.YthmekhhfihjclafL10Mem
import Derived.Test.YthmekhhfihjclafL10New
import Derived.Test.YthmekhhfihjclafL10Mark
namespace Go.Proofs.Ythmekhhfihjclaf.L10
open Go.RowKit L1 Own Str Nte Tri
set_option linter.unusedVariables false

structure TG (c : Nat) (wi : World) (b : Nat) (S : Nat → Prop) (V : List Value) (aT : Option Addr) (nT cT : Nat) (aH : Option Addr) (nH cH : Nat) (aL : Option Addr) (nL cL : Nat) (aG : Option Addr) (nG cG : Nat) (aN : Option Addr) (nN cN : Nat) (m : Tm) : Prop where
  box : wi.heap[b]? = some (tlO aT nT cT aH nH cH aL nL cL aG nG cG aN nN cN)
  tw : TW wi S V (.slice aT nT cT) (.slice aH nH cH) (.slice aL nL cL) (.slice aG nG cG) (.slice aN nN cN) m
  lo : ∀ q, S q → c ≤ q ∧ q < wi.heap.size
  bl : c ≤ b ∧ ¬ S b
section
variable {c : Nat} {wi wj : World} {b : Nat} {S : Nat → Prop} {V : List Value} {aT : Option Addr} {nT cT : Nat} {aH : Option Addr} {nH cH : Nat} {aL : Option Addr} {nL cL : Nat} {aG : Option Addr} {nG cG : Nat} {aN : Option Addr} {nN cN : Nat} {m : Tm}
theorem TG.keep (h : TG c wi b S V aT nT cT aH nH cH aL nL cL aG nG cG aN nN cN m) (hs : wi.heap.size ≤ wj.heap.size) (hb : ∀ q, c ≤ q → q < wi.heap.size → wj.heap[q]? = wi.heap[q]?) : TG c wj b S V aT nT cT aH nH cH aL nL cL aG nG cG aN nN cN m :=
  ⟨(hb b h.bl.1 (Array.getElem?_eq_some_iff.1 h.box).1).trans h.box, h.tw.at (fun q hq hl => hb q (h.lo q hq).1 hl), fun q hq => ⟨(h.lo q hq).1, Nat.lt_of_lt_of_le (h.lo q hq).2 hs⟩, h.bl⟩
theorem TG.below (h : TG c wi b S V aT nT cT aH nH cH aL nL cL aG nG cG aN nN cN m) (hb : Below wi.heap.size wi wj) : TG c wj b S V aT nT cT aH nH cH aL nL cL aG nG cG aN nN cN m := h.keep hb.size (fun q _ hq => hb.block q hq)
theorem TG.tlf (h : TG c wi b S V aT nT cT aH nH cH aL nL cL aG nG cG aN nN cN m) : TlF wi aT aH aL aG aN m := h.tw.tlf
theorem TG.mark (h : TG c wi b S V aT nT cT aH nH cH aL nL cL aG nG cG aN nN cN m) {m' : Tm} (hW : TW wj S V (.slice aT nT cT) (.slice aH nH cH) (.slice aL nL cL) (.slice aG nG cG) (.slice aN nN cN) m') (hK : Kept S wi wj) : TG c wj b S V aT nT cT aH nH cH aL nL cL aG nG cG aN nN cN m' :=
  ⟨(hK.block b (Array.getElem?_eq_some_iff.1 h.box).1 h.bl.2).trans h.box, hW, fun q hq => ⟨(h.lo q hq).1, Nat.lt_of_lt_of_le (h.lo q hq).2 hK.size⟩, h.bl⟩
end
theorem tg_made {c : Nat} {w w1 : World} {m : Tm} {ok : Bool} {e : Ending} (hc : c ≤ w.heap.size) (h : RetT w m ok e w1) : ∃ V aT cT aH cH aL cL aG cG aN cN S, e = .returned (.tuple #[tlV aT m.T.length cT aH m.hd.length cH aL m.ln.length cL aG m.lg.length cG aN m.nx.length cN, .bool ok]) ∧ Below w.heap.size w w1 ∧ TG c (w1.alloc (tlO aT m.T.length cT aH m.hd.length cH aL m.ln.length cL aG m.lg.length cG aN m.nx.length cN)) w1.heap.size S V aT m.T.length cT aH m.hd.length cH aL m.ln.length cL aG m.lg.length cG aN m.nx.length cN m := by
  obtain ⟨V, aT, cT, aH, cH, aL, cL, aG, cG, aN, cN, h1, h2, h3⟩ := h
  have hA := (Below.refl w1.heap.size w1).alloc (Nat.le_refl _) (tlO aT m.T.length cT aH m.hd.length cH aL m.ln.length cL aG m.lg.length cG aN m.nx.length cN)
  have hs := h3.size
  exact ⟨V, aT, cT, aH, cH, aL, cL, aG, cG, aN, cN, _, h1, h3, ⟨blk_newO _ _, h2.below hA, fun q hq => ⟨Nat.le_trans hc hq.1, Nat.lt_of_lt_of_le hq.2 hA.size⟩, ⟨by omega, fun hq => Nat.lt_irrefl _ hq.2⟩⟩⟩
/-- Few texts, notes and numbers. -/
theorem pre_bound {T : List (List ByteArray)} {B : Nat} (h : ∀ i, i < T.length → (T.getD i []).length ≤ B) : ∀ j, j ≤ T.length → pre T j ≤ B * j
  | 0, _ => by simp [pre]
  | j + 1, hj => by
    have h1 := pre_bound h j (by omega)
    have h2 := h j (by omega)
    simp only [pre]
    rw [Nat.mul_add]
    omega
theorem sm_new (m : Nat) (h : m ≤ 4) : SmT (newT m) := by
  obtain ⟨e1, e2, e3, e4, e5⟩ := new_lens m
  have hr : ∀ i, (newT m).T.getD i [] = [] := fun i => by
    show (List.replicate m ([] : List ByteArray)).getD i [] = []
    simp only [List.getD, List.getElem?_replicate]
    split <;> rfl
  have hp := pre_bound (T := (newT m).T) (B := 0) (fun i hi => by rw [hr i]; simp) (newT m).T.length (Nat.le_refl _)
  exact ⟨by omega, by omega, fun i _ => by rw [hr i]; simp, by omega, by omega, by omega, by omega⟩
theorem sm_zero : SmT zeroT := ⟨by simp [pre], by simp, fun i hi => absurd hi (Nat.not_lt_zero _), by simp, by simp, by simp, by simp⟩
theorem tlz_new (m : Nat) (h : m ≤ 4) : TlZ (newT m) (newT m).T.length (newT m).hd.length (newT m).ln.length (newT m).lg.length (newT m).nx.length := by
  obtain ⟨e1, e2, e3, e4, e5⟩ := new_lens m
  have hr : ∀ i, (newT m).T.getD i [] = [] := fun i => by
    show (List.replicate m ([] : List ByteArray)).getD i [] = []
    simp only [List.getD, List.getElem?_replicate]
    split <;> rfl
  exact ⟨rfl, rfl, rfl, rfl, rfl, by omega, by omega, by omega, by omega, by omega, fun i _ => by rw [hr i]; simp, fun i _ j hj => by rw [hr i] at hj; exact absurd hj (Nat.not_lt_zero _), fun i hi => by rw [e3] at hi; omega, fun i hi => by rw [e4] at hi; omega⟩
theorem tlz_zero : TlZ zeroT 0 0 0 0 0 := ⟨rfl, rfl, rfl, rfl, rfl, by omega, by omega, by omega, by omega, by omega, fun i hi => absurd hi (Nat.not_lt_zero _), fun i hi => absurd hi (Nat.not_lt_zero _), fun i hi => absurd hi (Nat.not_lt_zero _), fun i hi => absurd hi (Nat.not_lt_zero _)⟩
theorem nw_small {k : Int} {m : Tm} {ok : Bool} (h : NwIs k m ok) : SmT m ∧ TlZ m m.T.length m.hd.length m.ln.length m.lg.length m.nx.length := by
  by_cases hc : 1 ≤ k ∧ k ≤ 4
  · obtain ⟨rfl, _⟩ := h.yes hc
    exact ⟨sm_new _ (by omega), tlz_new _ (by omega)⟩
  · obtain ⟨rfl, _⟩ := h.no hc
    exact ⟨sm_zero, tlz_zero⟩
end Go.Proofs.Ythmekhhfihjclaf.L10
