/-
  Windows that a call hands back, in new memory.
-/
import Derived.Test.YticgejaaoamhmapL16WinM
import Derived.Test.YticgejaaoamhmapL16RsM
import Derived.Test.YticgejaaoamhmapL16Ret
import Derived.Test.YticgejaaoamhmapL16Row
import Derived.Deep.RegionHeld3
namespace Go.Proofs.Yticgejaaoamhmap.L16
open Go.RowKit L1
set_option linter.unusedVariables false

/-- Windows as cells. -/
def flatW : List Wn → List Value
  | [] => []
  | x :: l => .int .i64 x.f :: .int .i64 x.a :: .int .i64 x.z :: .int .i64 x.c :: .int .i64 x.r :: flatW l
theorem flatW_append (l m : List Wn) : flatW (l ++ m) = flatW l ++ flatW m := by
  induction l with
  | nil => rfl
  | cons x l ih => simp [flatW, ih]
theorem flatW_len : ∀ l : List Wn, (flatW l).length = l.length * 5
  | [] => rfl
  | x :: l => by simp [flatW, flatW_len l]; omega
def WinOk (l : List (Int × Int)) (s : Int) : Prop := Ctr l ∧ 1 ≤ s ∧ s ≤ 1000000
open Classical in
/-- What WindowsOf answers. -/
noncomputable def winR (l : List (Int × Int)) (s : Int) : Option (List Wn) := if WinOk l s then some (winK l s l.length) else none
theorem winK_le (l : List (Int × Int)) (s : Int) : ∀ k, (winK l s k).length ≤ k
  | 0 => Nat.le_refl _
  | k + 1 => by
    have ih := winK_le l s k
    unfold winK
    split
    · simp; omega
    · split
      · simp; omega
      · simp
theorem winR_le (l : List (Int × Int)) (s : Int) : ((winR l s).getD []).length ≤ 40 := by
  unfold winR
  split
  · rename_i h
    have := winK_le l s l.length
    have := h.1.len
    simp only [Option.getD_some]
    omega
  · simp
/-- Windows that a call hands back, in new memory, and whether. -/
def RetW (w : World) (r : Option (List Wn)) (e : Ending) (w' : World) : Prop :=
  ∃ v, e = .returned (.tuple #[v, .bool r.isSome]) ∧ w'.ownsRow w.heap.size 52 5 v (r.getD []).length (flatW (r.getD [])) ∧ Below w.heap.size w w'
theorem retW_none {w w' : World} {r : Option (List Wn)} (h : r = none) (hb : Below w.heap.size w w') : RetW w r (.returned (.tuple #[.slice none 0 0, .bool false])) w' :=
  ⟨.slice none 0 0, by rw [h]; rfl, by rw [h]; exact World.ownsRow_nil _ _ _ _, hb⟩
theorem info_Win : (Try.prog.info? 52).map (fun i => (i.zero, i.size, i.bytes)) = some (some (.agg #[.int .i64 0, .int .i64 0, .int .i64 0, .int .i64 0, .int .i64 0]), 5, 40) := by kernel_rfl
theorem cell_five16 (w : World) (a b c d f : Value) (t : TypeId) : ∀ j u, [a, b, c, d, f][j]? = some u → (w.alloc (.cells #[a, b, c, d, f] t)).cell? ((⟨w.heap.size, 0, none⟩ : Addr).add j) = some u := by
  intro j u h
  rw [add_at16]
  match j, h with
  | 0, h => simp at h; subst h; simp
  | 1, h => simp at h; subst h; simp
  | 2, h => simp at h; subst h; simp
  | 3, h => simp at h; subst h; simp
  | 4, h => simp at h; subst h; simp
  | j + 5, h => simp at h
theorem own_cellsW {w : World} {base n c cap : Nat} {a : Option Addr} {t : TypeId} {xs : List Value} (h : w.ownsRow base t c (.slice a n cap) n xs) (hn : 0 < n) : ∃ g q, a = some ⟨g, q, none⟩ ∧ ∀ j u, xs[j]? = some u → w.cell? ⟨g, q + j, none⟩ = some u := by
  rcases h.2 with ⟨_, h0⟩ | ⟨g, cap2, cur, hv, _⟩
  · omega
  · cases hv
    refine ⟨g, 0, rfl, fun j u hu => ?_⟩
    have h1 := h.cells (g := g) rfl j _ hu
    rw [add_at16] at h1
    exact h1
theorem sl2_takeW {w : World} {a : Option Addr} {l : List (Int × Int)} (h : Sl2 w a l) (m : Nat) : Sl2 w a (l.take m) := fun i hi => by
  have hi2 : i < m ∧ i < l.length := by simp at hi; omega
  rw [getD_take16 l m i hi2.1]
  exact h i hi2.2
/-- The samples of a window. -/
def wl (l : List (Int × Int)) (s : Int) (p : Nat) : List (Int × Int) := (l.drop p).take (nxt l s p - p)
theorem wl_is {l : List (Int × Int)} (h : Ctr l) {s : Int} (hs : 1 ≤ s) {p : Nat} (hp : p < l.length) : (wl l s p).length = nxt l s p - p ∧ Ctr (wl l s p) ∧ 0 < nxt l s p - p ∧
    wnAt l s p = ⟨fr s (at_ l p), vl (wl l s p) 0, vl (wl l s p) (nxt l s p - p - 1), ((nxt l s p - p : Nat) : Int), ris (wl l s p) (nxt l s p - p)⟩ := by
  obtain ⟨h1, h2, _, _⟩ := nxt_spec h hs hp
  have e0 : vl (wl l s p) 0 = vl l p := by unfold vl wl; rw [getD_take16 _ _ _ (by omega), getD_drop16, Nat.add_zero]
  have e1 : vl (wl l s p) (nxt l s p - p - 1) = vl l (nxt l s p - 1) := by unfold vl wl; rw [getD_take16 _ _ _ (by omega), getD_drop16, show p + (nxt l s p - p - 1) = nxt l s p - 1 by omega]
  have e2 : ris (wl l s p) (nxt l s p - p) = ris l (nxt l s p) - ris l (p + 1) := by
    unfold wl
    rw [ris_take]
    have := ris_drop l p (nxt l s p - p - 1)
    rw [show nxt l s p - p - 1 + 1 = nxt l s p - p by omega, show p + (nxt l s p - p) = nxt l s p by omega] at this
    omega
  refine ⟨by unfold wl; simp; omega, (h.drop p).take _, by omega, ?_⟩
  rw [e0, e1, e2]
  rfl
theorem take_moreN {P : List Nat} {k : Nat} (h : k < P.length) : P.take (k + 1) = P.take k ++ [P.getD k 0] := by
  rw [List.take_succ_eq_append_getElem h]
  simp [List.getD, h]
end Go.Proofs.Yticgejaaoamhmap.L16
