/-
  The model's new bank under way in memory.
-/
import Derived.Test.YtfjbiihiaoobhaiL12NB
import Derived.Deep.DeepCutAuto
namespace Go.Proofs.Ytfjbiihiaoobhai.L12
open Go.RowKit L1 L9 Own Sli
set_option linter.unusedVariables false

/-- The model's new bank behind so many nodes. -/
def sbk (cs : List Int) (n k : Nat) : Bk := ⟨cs, List.replicate (n * n) [], List.replicate k (-1), List.replicate k (List.replicate n false), List.replicate k (List.replicate n 0)⟩
theorem sbk_step (cs : List Int) (n k : Nat) : (⟨cs, List.replicate (n * n) [], List.replicate k (-1) ++ [-1], List.replicate k (List.replicate n false) ++ [List.replicate n false], List.replicate k (List.replicate n 0) ++ [List.replicate n 0]⟩ : Bk) = sbk cs n (k + 1) := by
  unfold sbk
  rw [rep_snoc, rep_snoc, rep_snoc]
theorem sbk_all (cs : List Int) (n : Nat) (h : cs.length = n) : newB cs = sbk cs n n := by
  unfold newB nbk sbk
  rw [h, List.take_of_length_le (by omega)]
/-- Coins and Ways are made, nothing else. -/
theorem bw_cw {w : World} {S : Nat → Prop} {g n : Nat} {x : Value} (cs : List Int) (hx : w.ownsRow 0 3 1 x cs.length (cs.map (Value.int .i64))) (h : w.heap[g]? = some (oSS (n * n))) (hn : n * n ≤ 25) (hS : S g) (hxS : InS S x) : BW w S ⟨x, .slice (some ⟨g, 0, none⟩) (n * n) (n * n), nilV, nilV, nilV, List.replicate (n * n) nilV, [], []⟩ (sbk cs n 0) := by
  have o1 := own_made12 (base := 0) (t := 24) (z := .slice none 0 0) rfl h (Nat.zero_le _) (by unfold maxLen; omega)
  have hat : ∀ t, t ≠ .c → (⟨x, .slice (some ⟨g, 0, none⟩) (n * n) (n * n), nilV, nilV, nilV, List.replicate (n * n) nilV, [], []⟩ : Vs).at t = nilV := fun t ht => by
    cases t with
    | c => exact absurd rfl ht
    | k => rfl
    | w i => exact rep_nil _ _
    | f i => rfl
  have hro : ∀ t, t ≠ .c → (sbk cs n 0).row t = [] := fun t ht => by
    cases t with
    | c => exact absurd rfl ht
    | k => rfl
    | w i => exact rep_emp _ _
    | f i => rfl
  refine ⟨fun t => ?_, fun s t q hst e => ?_, ?_, World.ownsRow_nil _ _ _ _, fun q _ e => (by cases e), World.ownsRow_nil _ _ _ _, fun i => World.ownsRow_nil _ _ _ _, fun i j q _ e => (by cases e), fun t => ?_, fun q e => ?_, fun q e => (by cases e), fun q e => (by cases e), fun i q e => (by cases e)⟩
  · by_cases ht : t = .c
    · subst ht; exact hx
    · rw [hat t ht, hro t ht]; exact World.ownsRow_nil _ _ _ _
  · by_cases hs : s = .c
    · rw [hat t (fun h => hst (hs.trans h.symm))]; exact fun e2 => (by cases e2)
    · rw [hat s hs] at e; cases e
  · show World.ownsRow _ 0 _ 1 _ (List.replicate (n * n) []).length _
    rw [List.length_replicate]; exact o1
  · by_cases ht : t = .c
    · subst ht; exact hxS
    · rw [hat t ht]; exact fun q e => (by cases e)
  · have e' : g = q := Option.some.inj e
    rw [← e']; exact hS
/-- What is made so far. -/
structure N4 (w : World) (cs : List Int) (n : Nat) (xc : Option Value) (e g b : Option Nat) (u : World) : Prop where
  bel : Below w.heap.size w u
  lt : w.heap.size < u.heap.size
  res : u.heap[w.heap.size]? = some zB
  c : ∀ x, xc = some x → u.ownsRow (w.heap.size + 1) 3 1 x n (cs.map (Value.int .i64))
  e : ∀ q, e = some q → u.heap[q]? = some (.cells #[] 3 (0, 0)) ∧ w.heap.size < q
  g : ∀ q, g = some q → u.heap[q]? = some (oSS (n * n)) ∧ w.heap.size < q
  b : ∀ q, b = some q → u.heap[q]? = some zB ∧ w.heap.size < q
section
variable {w u w4 : World} {cs : List Int} {n : Nat} {xc : Option Value} {e g b : Option Nat}
theorem blk_al {u : World} {q : Nat} {o p : Obj} (h : u.heap[q]? = some p) : (u.alloc o).heap[q]? = some p := (((Below.refl u.heap.size u).alloc (Nat.le_refl _) o).block q (Array.getElem?_eq_some_iff.1 h).1).trans h
theorem N4.al (h : N4 w cs n xc e g b u) (o : Obj) : N4 w cs n xc e g b (u.alloc o) :=
  ⟨h.bel.alloc h.bel.size o, by have := h.lt; simp; omega, blk_al h.res, fun x hx => own_belO (h.c x hx) ((Below.refl _ _).alloc (Nat.le_refl _) o), fun q hq => ⟨blk_al (h.e q hq).1, (h.e q hq).2⟩, fun q hq => ⟨blk_al (h.g q hq).1, (h.g q hq).2⟩, fun q hq => ⟨blk_al (h.b q hq).1, (h.b q hq).2⟩⟩
theorem N4.newE (h : N4 w cs n xc none g b u) (o : Obj) (ho : o = .cells #[] 3 (0, 0)) : N4 w cs n xc (some u.heap.size) g b (u.alloc o) := by
  have h1 := h.al o
  exact ⟨h1.bel, h1.lt, h1.res, h1.c, fun q hq => by cases hq; exact ⟨by rw [← ho]; exact blk_newO _ _, h.lt⟩, h1.g, h1.b⟩
theorem N4.newG (h : N4 w cs n xc e none b u) (o : Obj) (ho : o = oSS (n * n)) : N4 w cs n xc e (some u.heap.size) b (u.alloc o) := by
  have h1 := h.al o
  exact ⟨h1.bel, h1.lt, h1.res, h1.c, h1.e, fun q hq => by cases hq; exact ⟨by rw [← ho]; exact blk_newO _ _, h.lt⟩, h1.b⟩
theorem N4.newB (h : N4 w cs n xc e g none u) (o : Obj) (ho : o = zB) : N4 w cs n xc e g (some u.heap.size) (u.alloc o) := by
  have h1 := h.al o
  exact ⟨h1.bel, h1.lt, h1.res, h1.c, h1.e, h1.g, fun q hq => by cases hq; exact ⟨by rw [← ho]; exact blk_newO _ _, h.lt⟩⟩
theorem N4.own0 {q : Nat} (h : N4 w cs n none (some q) g b u) : u.ownsRow 0 3 1 (.slice (some ⟨q, 0, none⟩) 0 0) 0 [] :=
  ⟨rfl, .inr ⟨q, 0, #[], rfl, Nat.zero_le _, (h.e q rfl).1, Nat.le_refl _, by unfold maxLen; omega, rfl, rfl⟩⟩
theorem N4.app {q g4 c4 : Nat} (h : N4 w cs n none (some q) g b u) (h4 : w4.ownsRow 0 3 1 (.slice (some ⟨g4, 0, none⟩) n c4) n (cs.map (Value.int .i64))) (hg : u.grownBy w4 (some q)) (hn : some q = some g4 ∨ g4 = u.heap.size) : N4 w cs n (some (.slice (some ⟨g4, 0, none⟩) n c4)) none g b w4 := by
  have hlt := h.lt
  have hq := (h.e q rfl).2
  have kp : ∀ {p : Nat} {o : Obj}, u.heap[p]? = some o → p ≠ q → w4.heap[p]? = some o := fun hp hne => (hg.block _ (Array.getElem?_eq_some_iff.1 hp).1 (fun e => hne (Option.some.inj e))).trans hp
  have hz := hg.size
  refine ⟨h.bel.grown hg h.bel.size (fun k hk => by have e' : q = k := Option.some.inj hk; omega), by omega, kp h.res (by omega), fun x hx => ?_, fun p hp => (by cases hp), fun p hp => ⟨kp (h.g p hp).1 (fun e2 => ?_), (h.g p hp).2⟩, fun p hp => ⟨kp (h.b p hp).1 (fun e2 => ?_), (h.b p hp).2⟩⟩
  · cases hx
    exact own_from h4 (fun p hp => by
      have e' : g4 = p := Option.some.inj hp
      rcases hn with e2 | e2
      · have e3 : q = g4 := Option.some.inj e2
        omega
      · omega)
  · subst e2
    have h1 := (h.g p hp).1
    rw [(h.e p rfl).1] at h1
    simp at h1
  · subst e2
    have h1 := (h.b p hp).1
    rw [(h.e p rfl).1] at h1
    simp at h1
theorem N4.fin {x : Value} {q p : Nat} (h : N4 w cs n (some x) none (some q) (some p) u) (hn : cs.length = n) (hN : n * n ≤ 25) : NB w p ⟨x, .slice (some ⟨q, 0, none⟩) (n * n) (n * n), nilV, nilV, nilV, List.replicate (n * n) nilV, [], []⟩ (sbk cs n 0) (((((u.setCell ⟨p, 0, none⟩ x).setCell ⟨p, 1, none⟩ (.slice (some ⟨q, 0, none⟩) (n * n) (n * n))).setCell ⟨p, 2, none⟩ nilV).setCell ⟨p, 3, none⟩ nilV).setCell ⟨p, 4, none⟩ nilV) := by
  have hb := (h.b p rfl).1
  have hlt := (h.b p rfl).2
  have hx := h.c x rfl
  have hW : BW u (fun z => w.heap.size ≤ z) ⟨x, .slice (some ⟨q, 0, none⟩) (n * n) (n * n), nilV, nilV, nilV, List.replicate (n * n) nilV, [], []⟩ (sbk cs n 0) := bw_cw cs (by rw [hn]; exact own_zero hx) (h.g q rfl).1 hN (Nat.le_of_lt (h.g q rfl).2) (fun z hz => by have := own_ge hx z hz; omega)
  have b0 := hW.setB hb 0 x
  have h1 := heap_boxO hb 0 x
  have b1 := b0.setB h1 1 (.slice (some ⟨q, 0, none⟩) (n * n) (n * n))
  have h2 := heap_boxO h1 1 (.slice (some ⟨q, 0, none⟩) (n * n) (n * n))
  have b2 := b1.setB h2 2 nilV
  have h3 := heap_boxO h2 2 nilV
  have b3 := b2.setB h3 3 nilV
  have h4 := heap_boxO h3 3 nilV
  have b4 := b3.setB h4 4 nilV
  have h5 := heap_boxO h4 4 nilV
  refine ⟨h5, ?_, b4, ((((h.bel.setCell (p := ⟨p, 0, none⟩) (Nat.le_of_lt hlt) _).setCell (p := ⟨p, 1, none⟩) (Nat.le_of_lt hlt) _).setCell (p := ⟨p, 2, none⟩) (Nat.le_of_lt hlt) _).setCell (p := ⟨p, 3, none⟩) (Nat.le_of_lt hlt) _).setCell (p := ⟨p, 4, none⟩) (Nat.le_of_lt hlt) _, hlt⟩
  have ne : w.heap.size ≠ p := by omega
  rw [Below.heap_setCell _ _ _ _ ne, Below.heap_setCell _ _ _ _ ne, Below.heap_setCell _ _ _ _ ne, Below.heap_setCell _ _ _ _ ne, Below.heap_setCell _ _ _ _ ne]
  exact h.res
end
end Go.Proofs.Ytfjbiihiaoobhai.L12
