/-
  What the laws of chapter 12 keep of a bank. Nothing of the program's text is proved here.
-/
import Derived.Test.YtfjbiihiaoobhaiL12Grow
import Derived.Test.YtfjbiihiaoobhaiL12MarkM
import Derived.Deep.DeepCutAuto
namespace Go.Proofs.Ytfjbiihiaoobhai.L12
open Go.RowKit L1 L4 L9 Own Sli
set_option linter.unusedVariables false

/-- What the laws of chapter 12 keep of a bank: its box, its rows. -/
structure BG (c : Nat) (wi : World) (b : Nat) (S : Nat → Prop) (v : Vs) (aC : Option Addr) (nC cC : Nat) (aW : Option Addr) (nW cW : Nat) (aK : Option Addr) (nK cK : Nat) (aH : Option Addr) (nH cH : Nat) (aF : Option Addr) (nF cF : Nat) (m : Bk) : Prop where
  box : wi.heap[b]? = some (bkO aC nC cC aW nW cW aK nK cK aH nH cH aF nF cF)
  f : Fits v aC nC cC aW nW cW aK nK cK aH nH cH aF nF cF
  bw : BW wi S v m
  lo : ∀ q, S q → c ≤ q ∧ q < wi.heap.size
  bl : c ≤ b ∧ ¬ S b
section
variable {c : Nat} {wi wj : World} {b : Nat} {S : Nat → Prop} {v : Vs} {aC : Option Addr} {nC cC : Nat} {aW : Option Addr} {nW cW : Nat} {aK : Option Addr} {nK cK : Nat} {aH : Option Addr} {nH cH : Nat} {aF : Option Addr} {nF cF : Nat} {m : Bk}
theorem BG.keep (h : BG c wi b S v aC nC cC aW nW cW aK nK cK aH nH cH aF nF cF m) (hs : wi.heap.size ≤ wj.heap.size) (hb : ∀ q, c ≤ q → q < wi.heap.size → wj.heap[q]? = wi.heap[q]?) : BG c wj b S v aC nC cC aW nW cW aK nK cK aH nH cH aF nF cF m :=
  ⟨(hb b h.bl.1 (Array.getElem?_eq_some_iff.1 h.box).1).trans h.box, h.f, h.bw.at (fun q hq hl => hb q (h.lo q hq).1 hl), fun q hq => ⟨(h.lo q hq).1, Nat.lt_of_lt_of_le (h.lo q hq).2 hs⟩, h.bl⟩
theorem BG.below (h : BG c wi b S v aC nC cC aW nW cW aK nK cK aH nH cH aF nF cF m) (hb : Below wi.heap.size wi wj) : BG c wj b S v aC nC cC aW nW cW aK nK cK aH nH cH aF nF cF m := h.keep hb.size (fun q _ hq => hb.block q hq)
theorem BG.bkf (h : BG c wi b S v aC nC cC aW nW cW aK nK cK aH nH cH aF nF cF m) : BkF wi aC aW aK aH aF m := h.bw.bkf h.f
theorem BG.mark (h : BG c wi b S v aC nC cC aW nW cW aK nK cK aH nH cH aF nF cF m) {m' : Bk} (hW : BW wj S v m') (hK : Kept S wi wj) : BG c wj b S v aC nC cC aW nW cW aK nK cK aH nH cH aF nF cF m' :=
  ⟨(hK.block b (Array.getElem?_eq_some_iff.1 h.box).1 h.bl.2).trans h.box, h.f, hW, fun q hq => ⟨(h.lo q hq).1, Nat.lt_of_lt_of_le (h.lo q hq).2 hK.size⟩, h.bl⟩
end
theorem bg_made {c : Nat} {w w1 : World} {m : Bk} {ok : Bool} {e : Ending} (hc : c ≤ w.heap.size) (h : RetB w m ok e w1) : ∃ v aC cC aW cW aK cK aH cH aF cF S, e = .returned (.tuple #[bkV aC m.c.length cC aW m.W.length cW aK m.k.length cK aH m.H.length cH aF m.F.length cF, .bool ok]) ∧ Below w.heap.size w w1 ∧ BG c (w1.alloc (bkO aC m.c.length cC aW m.W.length cW aK m.k.length cK aH m.H.length cH aF m.F.length cF)) w1.heap.size S v aC m.c.length cC aW m.W.length cW aK m.k.length cK aH m.H.length cH aF m.F.length cF m := by
  obtain ⟨v, h1, h2, h3⟩ := h
  obtain ⟨aC, cC, aW, cW, aK, cK, aH, cH, aF, cF, f⟩ := h2.shape
  rw [f.c, f.W, f.k, f.H, f.F] at h1
  have hA := (Below.refl w1.heap.size w1).alloc (Nat.le_refl _) (bkO aC m.c.length cC aW m.W.length cW aK m.k.length cK aH m.H.length cH aF m.F.length cF)
  have hs := h3.size
  exact ⟨v, aC, cC, aW, cW, aK, cK, aH, cH, aF, cF, _, h1, h3, ⟨blk_newO _ _, f, h2.below hA, fun q hq => ⟨Nat.le_trans hc hq.1, Nat.lt_of_lt_of_le hq.2 hA.size⟩, ⟨by omega, fun hq => Nat.lt_irrefl _ hq.2⟩⟩⟩
theorem pre_bound {α : Type} {T : List (List α)} {B : Nat} (h : ∀ i, (T.getD i []).length ≤ B) : ∀ j, pre T j ≤ B * j
  | 0 => by simp [pre]
  | j + 1 => by
    have h1 := pre_bound h j
    have h2 := h j
    simp only [pre]
    rw [Nat.mul_add]
    omega
theorem rep_len {α : Type} (n k i : Nat) (x : α) : ((List.replicate k (List.replicate n x)).getD i []).length ≤ n := by
  simp only [List.getD, List.getElem?_replicate]
  split <;> simp
theorem sms_rep {α : Type} (n k : Nat) (x : α) (hn : n ≤ 25) (hk : k ≤ 25) : SmS (List.replicate k (List.replicate n x)) := by
  have hp := pre_bound (T := List.replicate k (List.replicate n x)) (B := n) (fun i => rep_len n k i x) (List.replicate k (List.replicate n x)).length
  have hm : n * (List.replicate k (List.replicate n x)).length ≤ 25 * 25 := Nat.mul_le_mul hn (by simp; exact hk)
  exact ⟨by simp; omega, by omega, fun i _ => by have := rep_len n k i x; omega⟩
theorem nw_small12 {cs : List Int} {m : Bk} {ok : Bool} (h : NwIs cs m ok) : SmB m ∧ BkZ m m.c.length m.W.length m.k.length m.H.length m.F.length := by
  by_cases hc : NewOk cs
  · obtain ⟨rfl, _⟩ := h.yes hc
    have n5 := hc.1.2
    have nn : cs.length * cs.length ≤ 25 := Nat.mul_le_mul n5 n5
    have s1 : SmS (newB cs).W := sms_rep (α := Int) 0 (cs.length * cs.length) 0 (by omega) nn
    have s2 : SmS (newB cs).H := sms_rep cs.length cs.length false (by omega) (by omega)
    have s3 : SmS (newB cs).F := sms_rep cs.length cs.length 0 (by omega) (by omega)
    have l1 : (newB cs).c.length ≤ 5 := by show (cs.take cs.length).length ≤ 5; rw [List.length_take]; omega
    have l3 : (newB cs).k.length ≤ 5 := by show (List.replicate cs.length (-1 : Int)).length ≤ 5; simp; omega
    exact ⟨⟨by omega, s1, by omega, s2, s3⟩, ⟨rfl, rfl, rfl, rfl, rfl, by omega, s1.n, by omega, s2.n, s3.n, s1.s, s2.s, s3.s⟩⟩
  · obtain ⟨rfl, _⟩ := h.no hc
    have s0 : ∀ {α : Type}, SmS ([] : List (List α)) := fun {α} => ⟨by simp, by simp [pre], fun i hi => absurd hi (Nat.not_lt_zero _)⟩
    exact ⟨⟨by simp, s0, by simp, s0, s0⟩, ⟨rfl, rfl, rfl, rfl, rfl, by simp, by simp, by simp, by simp, by simp, s0.s, s0.s, s0.s⟩⟩
end Go.Proofs.Ytfjbiihiaoobhai.L12
