/-
  Contract: slices.SortFunc over labels by Name: what the call owns is put in order.
-/
import Derived.Test.YthagpceagifjnaaDoorL3SortLayL
import Derived.Test.YthagpceagifjnaaDoorL3SortMathL
import Derived.Test.YthagpceagifjnaaDoorL3MergeMath
namespace Go.Proofs.YthagpceagifjnaaDoor.L3
open Go.Shelf Go.RowKit Go.Sort Go.Lib L1
set_option linter.unusedVariables false

instance : Inhabited Lb := ⟨eL⟩
def encLb (x : Lb) : List Value := [.string x.1, .string x.2]
def cfL (x y : Lb) : Int := Lib.compareBytes x.1.data.toList y.1.data.toList
theorem cb_lt : ∀ a b : List UInt8, (Lib.compareBytes a b < 0) = (Op.bytesLess a b = true)
  | [], [] => by simp [Lib.compareBytes, Op.bytesLess]
  | [], b :: bs => by simp [Lib.compareBytes, Op.bytesLess]
  | a :: xs, [] => by simp [Lib.compareBytes, Op.bytesLess]
  | a :: xs, b :: bs => by
    have ih := cb_lt xs bs
    unfold Lib.compareBytes Op.bytesLess
    by_cases h1 : a < b
    · simp [h1]
    · rw [if_neg h1]
      by_cases h2 : b < a
      · have hne : a ≠ b := fun e => by subst e; exact UInt8.lt_irrefl _ h2
        rw [if_pos h2]
        simp [h1, hne]
      · have e : a = b := UInt8.le_antisymm (UInt8.not_lt.1 h2) (UInt8.not_lt.1 h1)
        rw [if_neg h2, ih]
        simp [e, UInt8.lt_irrefl]
theorem ltL (x y : Lb) : ltOf cfL x y = decide (Ahead x.1 y.1) := by
  have h := cb_lt x.1.data.toList y.1.data.toList
  unfold ltOf cfL Ahead
  simp only [h, ByteArray.toList_eq]
theorem swoL : SWO (ltOf cfL) where
  irrefl x := by rw [ltL]; simp; exact ahead_irrefl _
  trans x y z h1 h2 := by rw [ltL] at *; simp at *; exact ahead_trans h1 h2
  ntrans x y z h1 h2 := by
    rw [ltL] at *
    simp at *
    intro h3
    by_cases e : Ahead y.1 x.1
    · exact h2 (ahead_trans e h3)
    · have := ahead_tri h1 e
      rw [this] at h3
      exact h2 h3

set_option maxRecDepth 100000 in
set_option maxHeartbeats 1000000 in
theorem cmpL' (x y : Lb) (W : World) : Calls Tryd.prog 147 #[.agg #[.string x.1, .string x.2], .agg #[.string y.1, .string y.2]] W fun e w' => e = .returned (.int .i64 (cfL x y)) ∧ ∃ q os', w' = grow (W.drewN q) os' := by
  have hcon := fun W' => Any.strings_Compare cpLays x.1 y.1 W'
  change ∀ W', Calls Tryd.prog 148 _ _ _ at hcon
  unfold cfL
  generalize Lib.compareBytes x.1.data.toList y.1.data.toList = r at hcon ⊢
  have HC := hide hcon
  clear hcon
  go_enter Tryd.func147, Tryd.ntmps147
  go_wp2_with fail
  refine (HC.out _).mono ?_
  rintro e w' ⟨rfl, rfl⟩
  go_wp2
  go_ret
  exact ⟨rfl, 0, _, by rw [alloc_eq_grow, alloc_eq_grow, grow_grow]; rfl⟩
theorem cmpLaysL (blk off size : Nat) (w : World) : CmpLays Tryd.prog 147 #[] encLb 2 cfL blk off size w := fun _ _ _ _ x y => cmpL' x y _
theorem fl_lab (l : List Lb) : (Go.Sort.flatK encLb 2 l.toArray).toList = flatL l :=
  flatK_two encLb (fun x => .string x.1) (fun x => .string x.2) (fun _ => rfl) flatL rfl (fun _ _ => rfl) l

theorem sortL_any (base g n cap : Nat) (ys : List Lb) (w : World) (hn : ys.length = n) (hn2 : n ≤ 1048576) (ho : w.ownsRow base 105 2 (.slice (some ⟨g, 0, none⟩) n cap) n (flatL ys)) :
    Calls Tryd.prog 146 #[.slice (some ⟨g, 0, none⟩) n cap, .func (.func 147) #[] #[]] w fun e w' =>
      e = .returned (.tuple #[]) ∧ ∃ zs : List Lb, zs.Perm ys ∧ (zs.Pairwise fun p q => ¬ Ahead q.1 p.1) ∧ w'.ownsRow base 105 2 (.slice (some ⟨g, 0, none⟩) n cap) n (flatL zs) ∧ w.grownBy w' (some g) := by
  have eg : ∀ args w, (callFunc 147 args).run Tryd.prog w = .ok (.enter 147 args) w := enters_of Tryd.func147 (by kernel_rfl) rfl
  have ho' := ho
  rw [← fl_lab] at ho'
  have hsz : ys.toArray.size = n := by simpa using hn
  have hF : (Go.Sort.flatK encLb 2 ys.toArray).size = n * 2 := by simp [hn]
  have hH : HoldsK encLb 2 w g 0 ys.toArray := holds_owned ho' hF
  have hcon := AnyQ.slices_SortFunc slLays 2 Tryd.isAgg105 Tryd.sizeOf105 encLb (fun _ => rfl) (fun x v hv => by simp [encLb] at hv; rcases hv with rfl | rfl <;> rfl) cfL swoL 147 #[] g 0 cap ys.toArray w eg (cmpLaysL g 0 _ w) hH ((ho.lt g rfl).2) (by rw [hsz]; omega)
  rw [hsz] at hcon
  refine Calls.mono hcon ?_
  rintro e w' ⟨rfl, d', m, os, hp, hs, rfl⟩
  have hd : d'.size = n := by rw [hp.1, hsz]
  have hF' : (Go.Sort.flatK encLb 2 d').size = n * 2 := by simp [hd]
  have hown := owns_sorted (m := m) (os := os) ho' hF'
  have e0 : d'.toList.toArray = d' := by simp
  have efl := fl_lab d'.toList
  rw [e0] at efl
  rw [efl] at hown
  refine ⟨rfl, d'.toList, ?_, ?_, hown, grownBy_sortedV _⟩
  · have hp' : PermIn 0 ys.toArray.size ys.toArray d' := by rw [hsz]; exact hp
    have := perm_of_in hp'
    exact this
  · rw [List.pairwise_iff_getElem]
    intro i j hi hj hij
    have hj' : j < n := by rw [← hd]; simpa using hj
    have hi' : i < d'.size := by simpa using hi
    have hj'' : j < d'.size := by simpa using hj
    have := hs i j (Nat.zero_le _) hij hj'
    rw [ltL] at this
    simp only [decide_eq_false_iff_not, getElem!_pos d' i hi', getElem!_pos d' j hj''] at this
    simpa using this
theorem sortL_none (p : Option Addr) (cap : Nat) (fv : Value) (w : World) : Calls Tryd.prog 146 #[.slice p 0 cap, fv] w fun e w' => e = .returned (.tuple #[]) ∧ w' = w := AnyF.slices_SortFunc_none slLays p cap fv w
end Go.Proofs.YthagpceagifjnaaDoor.L3
