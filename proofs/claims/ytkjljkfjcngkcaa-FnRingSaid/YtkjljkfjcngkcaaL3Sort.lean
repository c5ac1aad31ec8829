/-
  Contract: slices.SortFunc over tokens by At: what the call owns is put in order.
-/
import Derived.Test.YtkjljkfjcngkcaaL3SortLay
import Derived.Test.YtkjljkfjcngkcaaL3SortMath
import Derived.Test.YtkjljkfjcngkcaaL3AddMath
namespace Go.Proofs.Ytkjljkfjcngkcaa.L3
open Go.Shelf Go.RowKit Go.Sort Go.Lib L1
set_option linter.unusedVariables false

/-- A token whose At is a place. -/
abbrev BT := { p : Int × Int // 0 ≤ p.1 ∧ p.1 ≤ 1008 }
instance : Inhabited BT := ⟨⟨(0, 0), by decide⟩⟩
def encT (x : BT) : List Value := [.int .i64 x.1.1, .int .i64 x.1.2]
def cfT (x y : BT) : Int := x.1.1 - y.1.1
theorem ltT (x y : BT) : ltOf cfT x y = decide (x.1.1 < y.1.1) := by
  unfold ltOf cfT
  by_cases h : x.1.1 < y.1.1 <;> simp [h] <;> omega
theorem swoT : SWO (ltOf cfT) where
  irrefl x := by rw [ltT]; simp
  trans x y z h1 h2 := by rw [ltT] at *; simp at *; omega
  ntrans x y z h1 h2 := by rw [ltT] at *; simp at *; omega

set_option maxRecDepth 100000 in
set_option maxHeartbeats 1000000 in
theorem cmpT (x y : BT) (W : World) : Calls Try.prog 29 #[.agg #[.int .i64 x.1.1, .int .i64 x.1.2], .agg #[.int .i64 y.1.1, .int .i64 y.1.2]] W fun e w' => e = .returned (.int .i64 (cfT x y)) ∧ ∃ q os', w' = grow (W.drewN q) os' := by
  obtain ⟨⟨x1, x2⟩, hx1, hx2⟩ := x
  obtain ⟨⟨y1, y2⟩, hy1, hy2⟩ := y
  simp only [cfT] at *
  go_enter Try.func29, Try.ntmps29
  go_wp2
  go_ret
  exact ⟨rfl, 0, _, by rw [alloc_eq_grow, alloc_eq_grow, grow_grow]; rfl⟩
theorem cmpLaysT (blk off size : Nat) (w : World) : CmpLays Try.prog 29 #[] encT 2 cfT blk off size w := fun _ _ _ _ x y => cmpT x y _
theorem fl_map (l : List BT) : (Go.Sort.flatK encT 2 l.toArray).toList = flat (l.map Subtype.val) :=
  flatK_two encT (fun x => .int .i64 x.1.1) (fun x => .int .i64 x.1.2) (fun _ => rfl) (fun l => flat (l.map Subtype.val)) rfl (fun _ _ => rfl) l

theorem sort_any (base g n cap : Nat) (ys : List BT) (w : World) (hn : ys.length = n) (hn2 : n ≤ 1048576) (ho : w.ownsRow base 55 2 (.slice (some ⟨g, 0, none⟩) n cap) n (flat (ys.map Subtype.val))) :
    Calls Try.prog 28 #[.slice (some ⟨g, 0, none⟩) n cap, .func (.func 29) #[] #[]] w fun e w' =>
      e = .returned (.tuple #[]) ∧ ∃ zs : List (Int × Int), zs.Perm (ys.map Subtype.val) ∧ Up zs ∧ w'.ownsRow base 55 2 (.slice (some ⟨g, 0, none⟩) n cap) n (flat zs) ∧ w.grownBy w' (some g) := by
  have eg : ∀ args w, (callFunc 29 args).run Try.prog w = .ok (.enter 29 args) w := enters_of Try.func29 (by kernel_rfl) rfl
  have ho' := ho
  rw [← fl_map] at ho'
  have hsz : ys.toArray.size = n := by simpa using hn
  have hF : (Go.Sort.flatK encT 2 ys.toArray).size = n * 2 := by simp [hn]
  have hH : HoldsK encT 2 w g 0 ys.toArray := holds_owned ho' hF
  have hcon := AnyQ.slices_SortFunc sfLays 2 Try.isAgg55 Try.sizeOf55 encT (fun _ => rfl) (fun x v hv => by simp [encT] at hv; rcases hv with rfl | rfl <;> rfl) cfT swoT 29 #[] g 0 cap ys.toArray w eg (cmpLaysT g 0 _ w) hH ((ho.lt g rfl).2) (by rw [hsz]; omega)
  rw [hsz] at hcon
  refine Calls.mono hcon ?_
  rintro e w' ⟨rfl, d', m, os, hp, hs, rfl⟩
  have hd : d'.size = n := by rw [hp.1, hsz]
  have hF' : (Go.Sort.flatK encT 2 d').size = n * 2 := by simp [hd]
  have hown := owns_sorted (m := m) (os := os) ho' hF'
  have e0 : d'.toList.toArray = d' := by simp
  have efl := fl_map d'.toList
  rw [e0] at efl
  rw [efl] at hown
  refine ⟨rfl, d'.toList.map Subtype.val, ?_, ?_, hown, grownBy_sortedV _⟩
  · have hp' : PermIn 0 ys.toArray.size ys.toArray d' := by rw [hsz]; exact hp
    have := perm_of_in hp'
    exact this.map _
  · unfold Up
    rw [List.pairwise_map, List.pairwise_iff_getElem]
    intro i j hi hj hij
    have hj' : j < n := by rw [← hd]; simpa using hj
    have hi' : i < d'.size := by simpa using hi
    have hj'' : j < d'.size := by simpa using hj
    have := hs i j (Nat.zero_le _) hij hj'
    rw [ltT] at this
    simp only [decide_eq_false_iff_not, getElem!_pos d' i hi', getElem!_pos d' j hj''] at this
    simpa using this
end Go.Proofs.Ytkjljkfjcngkcaa.L3
