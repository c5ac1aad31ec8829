/-
  'append' of samples behind an empty list that is the call's own: a copy in new memory. Nothing of the program's text is proved here but closed facts on its types.
-/
import Derived.Test.YticgejaaoamhmapL16App
import Derived.Test.YticgejaaoamhmapL2OwnS
import Derived.Test.YticgejaaoamhmapL8Gen
import Derived.Maps.AppendAt
import Derived.Laws.CopyOwn
import Derived.Deep.Upon
namespace Go.Proofs.Yticgejaaoamhmap.L16
open Go.RowKit L1
set_option linter.unusedVariables false

theorem clone_none16 (w : World) : Calls Try.prog 47 #[.slice none 0 0] w fun e w' => e = .returned (.slice none 0 0) ∧ w = w' := by
  have hnil : ∀ w, (binOp .eql 24 (.slice none 0 0) (.slice none 0 0)).run Try.prog w = .ok (.bool true) w := fun w => Lib.run_eql_slice_nil w _ _ _ _ _ _ _ Try.underlying24
  go_enter Try.func47, Try.ntmps47
  go_wp2
  go_ret
  exact ⟨rfl, rfl⟩
set_option maxRecDepth 100000 in
set_option maxHeartbeats 1000000 in
theorem clone_some16 (b off : Nat) (l : List (Int × Int)) (n cap : Nat) (w : World) (hn : l.length = n) (hs : Sl2 w (some ⟨b, off, none⟩) l) (hn2 : n ≤ 1048576) :
    Calls Try.prog 47 #[.slice (some ⟨b, off, none⟩) n cap] w fun e w' => ∃ a c, e = .returned (.slice a n c) ∧ w'.ownsRow w.heap.size 42 2 (.slice a n c) n (flat l) ∧ Below w.heap.size w w' := by
  have hnil : ∀ w, (binOp .eql 24 (.slice (some ⟨b, off, none⟩) n cap) (.slice none 0 0)).run Try.prog w = .ok (.bool false) w := fun w => Lib.run_eql_slice_nil w _ _ _ _ _ _ _ Try.underlying24
  have HS := hide hs
  have HN := hide hn
  clear hs hn
  go_enter Try.func47, Try.ntmps47
  go_wp2_with (first
    | (at_builtin; refine wpList_append_copyS rfl _ _ rfl w.heap.size (some ⟨w.heap.size, 0, none⟩) (some ⟨b, off, none⟩) 0 n cap l HN.out hn2 rfl (own_empty16 w _ (Nat.le_refl _)) rfl (HS.out.below ((Below.refl _ _).alloc (Nat.le_refl _) _)) (by simp) ?_)
    | go_in)
  intro a3 c3 w3 hown3 hgrow3 _
  have hb3 : Below w.heap.size w w3 := ((Below.refl _ _).alloc (Nat.le_refl _) _).grown hgrow3 (by simp) (fun g hg => by cases hg; exact Nat.le_refl _)
  have O3 := hide hown3
  have B3 := hide hb3
  clear hown3 hgrow3 hb3
  go_wp2
  go_ret
  exact ⟨a3, c3, rfl, O3.out, B3.out⟩
/-- slices.Clone of samples, none too. -/
theorem clone_any16 (a : Option Addr) (l : List (Int × Int)) (n cap : Nat) (w : World) (hn : l.length = n) (hs : Sl2 w a l) (hn2 : n ≤ 1048576) (hnil : a = none → n = 0 ∧ cap = 0) (hsp : ∀ x, a = some x → x.spot = none) :
    Calls Try.prog 47 #[.slice a n cap] w fun e w' => ∃ a' c, e = .returned (.slice a' n c) ∧ w'.ownsRow w.heap.size 42 2 (.slice a' n c) n (flat l) ∧ Below w.heap.size w w' := by
  cases a with
  | none =>
    obtain ⟨rfl, rfl⟩ := hnil rfl
    have e : l = [] := List.eq_nil_of_length_eq_zero hn
    subst e
    exact (clone_none16 w).mono fun e w' ⟨h1, h2⟩ => ⟨none, 0, h1, World.ownsRow_nil _ _ _ _, by rw [h2]; exact Below.refl _ _⟩
  | some x =>
    obtain ⟨b, off, spot⟩ := x
    have := hsp _ rfl
    simp only at this
    subst this
    exact clone_some16 b off l n cap w hn hs hn2
end Go.Proofs.Yticgejaaoamhmap.L16
