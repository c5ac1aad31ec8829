/-
  Lists of entries in memory; what is good of them.
-/
import Derived.Test.YtbcljhafdpnjbbdL1Sl
import Derived.Deep.QuietTactic
import Derived.BigQuiet
import Derived.Deep.RegionHeld3
namespace Go.Proofs.Ytbcljhafdpnjbbd.L7
open Go.RowKit L1
set_option linter.unusedVariables false
/-- An entry: its Epoch and its Text. -/
abbrev En := Int × ByteArray
def eE : En := (0, ByteArray.empty)
/-- A entry as a value. -/
def svE (p : En) : Value := .agg #[.int .i64 p.1, .string p.2]
/-- A list of entries lies in memory from an address on. -/
def SlE (w : World) (a : Option Addr) (l : List En) : Prop := ∀ i, i < l.length → ∃ b off, a = some ⟨b, off, none⟩ ∧ w.cell? ⟨b, off + i * 2, none⟩ = some (.int .i64 (l.getD i eE).1) ∧ w.cell? ⟨b, off + i * 2 + 1, none⟩ = some (.string (l.getD i eE).2)
theorem SlE.below {w w' : World} {a : Option Addr} {xs : List En} (h : SlE w a xs) (hb : Below w.heap.size w w') : SlE w' a xs := fun i hi => by
  obtain ⟨b, off, ha, hc, hd⟩ := h i hi
  refine ⟨b, off, ha, ?_, ?_⟩
  · rw [hb.cell (p := ⟨b, off + i * 2, none⟩) (blk_lt hc)]; exact hc
  · rw [hb.cell (p := ⟨b, off + i * 2 + 1, none⟩) (blk_lt hd)]; exact hd

/-- What a walk is told of a slice of entries that came in. -/
def IsRowE (w : World) (a : Option Addr) (len : Nat) (l : List En) : Prop := l.length = len ∧ len ≤ maxLen ∧ SlE w a l
open Classical in
theorem rowE_of_pairs {w : World} {a : Addr} {len cap : Nat} (hl : len ≤ cap) (hm : cap ≤ maxLen) (h : ∀ i, i < len → ∃ n0 n1, w.cell? (a.add (i * 2)) = some (.int .i64 n0) ∧ w.cell? (a.add (i * 2 + 1)) = some (.string n1)) : ∃ l, IsRowE w (some a) len l := by
  have hc : ∃ f : Nat → En, ∀ i, i < len → w.cell? (a.add (i * 2)) = some (.int .i64 (f i).1) ∧ w.cell? (a.add (i * 2 + 1)) = some (.string (f i).2) := by
    refine ⟨fun i => if hi : i < len then (Classical.choose (h i hi), Classical.choose (Classical.choose_spec (h i hi))) else eE, fun i hi => ?_⟩
    simp only [dif_pos hi]
    exact Classical.choose_spec (Classical.choose_spec (h i hi))
  obtain ⟨f, hf⟩ := hc
  refine ⟨(List.range len).map f, by simp, Nat.le_trans hl hm, fun i hi => ?_⟩
  have hi' : i < len := by simpa using hi
  obtain ⟨b, off, spot⟩ := a
  have hspot : spot = none := by
    have h00 := (hf 0 (by omega)).1
    have := World.cell?_spot h00
    simpa [Addr.add] using this
  subst hspot
  have e0 : ∀ j, (⟨b, off, none⟩ : Addr).add j = ⟨b, off + j, none⟩ := fun j => by unfold Addr.add; split <;> simp_all
  have hg : ((List.range len).map f).getD i eE = f i := by simp [List.getD, hi']
  have := hf i hi'
  rw [e0, e0] at this
  rw [hg]
  exact ⟨b, off, rfl, this.1, this.2⟩



/-- The cells of entries, one behind the other. -/
def flatE : List En → List Value
  | [] => []
  | p :: l => .int .i64 p.1 :: .string p.2 :: flatE l
theorem flatE_len : ∀ l : List En, (flatE l).length = l.length * 2
  | [] => rfl
  | p :: l => by simp [flatE, flatE_len l]; omega
theorem flatE_get : ∀ (l : List En) (i : Nat), i < l.length → (flatE l)[i * 2]? = some (.int .i64 (l.getD i eE).1) ∧ (flatE l)[i * 2 + 1]? = some (.string (l.getD i eE).2)
  | [], i, h => by simp at h
  | p :: l, 0, _ => ⟨rfl, rfl⟩
  | p :: l, i + 1, h => by
    have := flatE_get l i (by simpa using h)
    have e1 : (i + 1) * 2 = i * 2 + 1 + 1 := by omega
    rw [e1]
    simpa only [flatE, List.getElem?_cons_succ, List.getD_cons_succ] using this
theorem flatE_append (l m : List En) : flatE (l ++ m) = flatE l ++ flatE m := by
  induction l with
  | nil => rfl
  | cons p l ih => simp [flatE, ih]
theorem flatE_set : ∀ (l : List En) (i : Nat) (p : En), flatE (l.set i p) = ((flatE l).set (i * 2) (.int .i64 p.1)).set (i * 2 + 1) (.string p.2)
  | [], _, _ => rfl
  | q :: l, 0, p => rfl
  | q :: l, i + 1, p => by
    have := flatE_set l i p
    have e1 : (i + 1) * 2 = i * 2 + 1 + 1 := by omega
    rw [e1]
    simp only [List.set_cons_succ, flatE, this]
theorem own_formE {w : World} {base n : Nat} {v : Value} {l : List En} (h : w.ownsRow base 93 2 v n (flatE l)) : ∃ a cap, v = .slice a n cap ∧ SlE w a l ∧ l.length = n := by
  have hl := h.1
  rw [flatE_len] at hl
  have hl' : l.length = n := by omega
  rcases h.2 with ⟨hv, h0⟩ | ⟨g, cap, cur, hv, _⟩
  · subst h0
    exact ⟨none, 0, hv, fun i hi => by omega, hl'⟩
  · subst hv
    refine ⟨_, cap, rfl, fun i hi => ?_, hl'⟩
    have hf := flatE_get l i hi
    have h1 := h.cells (g := g) rfl (i * 2) _ hf.1
    have h2 := h.cells (g := g) rfl (i * 2 + 1) _ hf.2
    rw [addr_add] at h1 h2
    exact ⟨g, 0, rfl, by simpa using h1, by simpa using h2⟩
theorem own_belowE {w w' : World} {base n : Nat} {v : Value} {ys : List Value} (h : w.ownsRow base 93 2 v n ys) (hb : Below w.heap.size w w') : w'.ownsRow base 93 2 v n ys := by
  refine ⟨h.1, ?_⟩
  rcases h.2 with h0 | ⟨g, cap, cur, rfl, hbg, hg, r⟩
  · exact .inl h0
  · exact .inr ⟨g, cap, cur, rfl, hbg, by rw [hb.block g (Array.getElem?_eq_some_iff.1 hg).1]; exact hg, r⟩
theorem info_ent : (Try.prog.info? 93).map (fun i => (i.zero, i.size, i.bytes)) = some (some (.agg #[.int .i64 0, .string ByteArray.empty]), 2, 24) := by kernel_rfl



theorem own_slE {w : World} {base n cap : Nat} {a : Option Addr} {l : List En} (h : w.ownsRow base 93 2 (.slice a n cap) n (flatE l)) : SlE w a l := by
  obtain ⟨b, q, e, s, _⟩ := own_formE h
  cases e
  exact s



/-- What a walk is told of a slice of entries that came in. -/
def IsRowES (w : World) (a : Option Addr) (len : Nat) (l : List En) : Prop := IsRowE w a len l ∧ ∀ j, j < l.length → (l.getD j eE).2.size ≤ 9223372036854775807
theorem rowES_of_pairs {w : World} {a : Addr} {len cap : Nat} (hl : len ≤ cap) (hm : cap ≤ maxLen) (h : ∀ i, i < len → ∃ (n0 : Int) (n1 : ByteArray), w.cell? (a.add (i * 2)) = some (.int .i64 n0) ∧ w.cell? (a.add (i * 2 + 1)) = some (.string n1) ∧ n1.size ≤ maxLen) : ∃ l, IsRowES w (some a) len l := by
  obtain ⟨l, hr⟩ := rowE_of_pairs hl hm (fun i hi => by obtain ⟨n0, n1, h1, h2, _⟩ := h i hi; exact ⟨n0, n1, h1, h2⟩)
  refine ⟨l, hr, fun j hj => ?_⟩
  obtain ⟨b, off, ha, hc, hd⟩ := hr.2.2 j hj
  obtain ⟨n0, n1, h1, h2, s2⟩ := h j (by rw [← hr.1]; exact hj)
  cases ha
  have e0 : ∀ j, (⟨b, off, none⟩ : Addr).add j = ⟨b, off + j, none⟩ := fun j => by unfold Addr.add; split <;> simp_all
  rw [e0] at h2
  rw [← Nat.add_assoc] at h2
  rw [h2] at hd
  simp only [Option.some.injEq, Value.string.injEq] at hd
  unfold maxLen at s2
  rw [← hd]
  omega
theorem own_belowT {w w' : World} {base n : Nat} {t : TypeId} {c : Nat} {v : Value} {ys : List Value} (h : w.ownsRow base t c v n ys) (hb : Below w.heap.size w w') : w'.ownsRow base t c v n ys := by
  refine ⟨h.1, ?_⟩
  rcases h.2 with h0 | ⟨g, cap, cur, rfl, hbg, hg, r⟩
  · exact .inl h0
  · exact .inr ⟨g, cap, cur, rfl, hbg, by rw [hb.block g (Array.getElem?_eq_some_iff.1 hg).1]; exact hg, r⟩
theorem own_baseT {w : World} {b c n size : Nat} {e : TypeId} {v : Value} {xs : List Value} (h : w.ownsRow c e size v n xs) (hbc : b ≤ c) : w.ownsRow b e size v n xs := by
  refine ⟨h.1, ?_⟩
  rcases h.2 with h0 | ⟨g, cap, cur, hv, hg, r⟩
  · exact .inl h0
  · exact .inr ⟨g, cap, cur, hv, Nat.le_trans hbc hg, r⟩
theorem bool_noT {b : Bool} {p : Prop} (h : b = true ↔ p) (hp : ¬ p) : b = false := by
  cases b with
  | false => rfl
  | true => exact absurd (h.1 rfl) hp
/-- Good entries: few, Epochs in their bounds that do not fall, short texts. -/
def okE (p : En) : Prop := 1 ≤ p.1 ∧ p.1 ≤ 1000 ∧ p.2.size ≤ 20
def GoodE (l : List En) : Prop := l.length ≤ 40 ∧ ∀ j, j < l.length → okE (l.getD j eE) ∧ (0 < j → (l.getD (j - 1) eE).1 ≤ (l.getD j eE).1)
end Go.Proofs.Ytbcljhafdpnjbbd.L7
