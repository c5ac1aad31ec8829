/-
  Contracts: impl.JoinCuts, spec.JoinCuts.
-/
import Derived.Test.YtkfnejiiancmhaiL11Most
import Derived.Test.YtkfnejiiancmhaiL11JoinL
import Derived.Test.YtkfnejiiancmhaiL11SClk
namespace Go.Proofs.Ytkfnejiiancmhai.L11
open Go.RowKit L1 Own
set_option linter.unusedVariables false

open Classical in
/-- What JoinCuts tells. -/
noncomputable def jcRes (l m : List Int) : Option (List Int) := if TwoC l m then some (clL (jn (fnL l) (fnL m)) l.length) else none
theorem clL_fnL (l : List Int) : clL (fnL l) l.length = l := by
  apply List.ext_getElem?
  intro j
  by_cases h : j < l.length
  · simp [clL, fnL, h, List.getD]
  · rw [List.getElem?_eq_none (by simp [clL]; omega), List.getElem?_eq_none (by omega)]
set_option maxRecDepth 100000 in
set_option maxHeartbeats 4000000 in
theorem joinCuts_any (a b : Option Addr) (l m : List Int) (n k ca cb : Nat) (w : World) (hn : l.length = n) (hk : m.length = k) (ha : Sl w a l) (hb : Sl w b m) (hn2 : n ≤ 1048576) (hk2 : k ≤ 1048576) (r : Option (List Int)) (hr : r = jcRes l m) :
    Calls Try.prog 18 #[.slice a n ca, .slice b k cb] w fun e w' => RetL w r e w' := by
  obtain ⟨ba, hba⟩ : ∃ ba : Bool, ba = true ↔ OkC l := by
    by_cases h : OkC l
    · exact ⟨true, by simp [h]⟩
    · exact ⟨false, by simp [h]⟩
  obtain ⟨bb, hbb⟩ : ∃ bb : Bool, bb = true ↔ OkC m := by
    by_cases h : OkC m
    · exact ⟨true, by simp [h]⟩
    · exact ⟨false, by simp [h]⟩
  obtain ⟨X, hX⟩ : ∃ X : Nat → Int, X = if ba then fnL l else fun _ => 0 := ⟨_, rfl⟩
  obtain ⟨Y, hY⟩ : ∃ Y : Nat → Int, Y = if bb then fnL m else fun _ => 0 := ⟨_, rfl⟩
  have hC := fun c hc => readClocks_any a b l m n k ca cb w hn hk ha hb hn2 hk2 ba hba X hX bb hbb Y hY c hc
  by_cases h2 : TwoC l m
  · obtain rfl : ba = true := hba.2 h2.1.1
    obtain rfl : bb = true := hbb.2 h2.1.2
    have hXe : X = fnL l := by rw [hX]; rfl
    have hYe : Y = fnL m := by rw [hY]; rfl
    have C := hide (hC true (by rw [← hn, ← hk]; simp; exact h2))
    have HR : Hid (r = some (clL (jn X Y) n)) := by rw [hr]; unfold jcRes; rw [if_pos h2, hXe, hYe, hn]; rfl
    have hn1 : 1 ≤ n := by have := h2.1.1.1; omega
    have hn5 : n ≤ 5 := by have := h2.1.1.2.1; omega
    have CJ := hide (joinClocks_any X Y)
    have CL := hide (clockList_any (jn X Y) n hn1 hn5)
    clear hC hr h2 hX hY hXe hYe hba hbb ha hb hn hk
    go_enter Try.func18, Try.ntmps18
    go_wp2_with fail
    refine C.out.mono ?_
    rintro e w1 ⟨rfl, hb1⟩
    have B1 := hide hb1
    clear hb1
    go_wp2_with fail
    refine (CJ.out _).mono ?_
    rintro e w2 ⟨rfl, hb2⟩
    have b3 := (B1.out.alloc B1.out.size (.cells #[.int .i64 (X 0), .int .i64 (X 1), .int .i64 (X 2), .int .i64 (X 3), .int .i64 (X 4)] 64)).alloc (by simp; have := B1.out.size; omega) (.cells #[.int .i64 (Y 0), .int .i64 (Y 1), .int .i64 (Y 2), .int .i64 (Y 3), .int .i64 (Y 4)] 64)
    have B2 := hide (b3.trans (hb2.mono b3.size))
    clear hb2 b3
    go_wp2_with fail
    refine (CL.out _).mono ?_
    rintro e w3 ⟨v, rfl, ho, hb3⟩
    have B3 := hide (B2.out.trans (hb3.mono B2.out.size))
    have HO := hide (own_baseJ ho B2.out.size)
    clear ho hb3
    go_wp2
    go_ret2
    exact ⟨_, by rw [HR.out]; rfl, by rw [HR.out]; simp only [Option.getD_some, clL_len]; exact HO.out, B3.out⟩
  · have C := hide (hC false (by rw [← hn, ← hk]; simp only [Bool.false_eq_true, false_iff]; exact h2))
    have HR : Hid (r = none) := by rw [hr]; unfold jcRes; rw [if_neg h2]; rfl
    clear hC hr h2 hX hY hba hbb ha hb hn hk
    go_enter Try.func18, Try.ntmps18
    go_wp2_with fail
    refine C.out.mono ?_
    rintro e w1 ⟨rfl, hb1⟩
    have B1 := hide hb1
    clear hb1
    go_wp2
    go_ret2
    exact ⟨_, by rw [HR.out]; rfl, by rw [HR.out]; exact World.ownsRow_nil _ _ _ _, (B1.out.alloc B1.out.size _).alloc (by simp; have := B1.out.size; omega) _⟩
set_option maxRecDepth 100000 in
set_option maxHeartbeats 4000000 in
theorem specJoin_any (a b : Option Addr) (l m : List Int) (n k ca cb : Nat) (w : World) (hn : l.length = n) (hk : m.length = k) (ha : Sl w a l) (hb : Sl w b m) (hn2 : n ≤ 1048576) (hk2 : k ≤ 1048576) (r : Option (List Int)) (hr : r = jcRes l m) :
    Calls Try.prog 16 #[.slice a n ca, .slice b k cb] w fun e w' => RetL w r e w' := by
  have hno : ¬ TwoC l m → r = none := fun h => by rw [hr]; unfold jcRes; rw [if_neg h]
  by_cases hA : OkC l
  case neg =>
    have C1 := hide (l11Clock_any a l n ca w hn ha hn2 false (by simp [hA]))
    have HR := hide (hno (fun h => hA h.1.1))
    clear hA hno hr ha hb hn hk
    go_enter Try.func16, Try.ntmps16
    go_wp2_with fail
    refine (C1.out).mono ?_
    rintro e w1 ⟨rfl, rfl⟩
    go_wp2
    go_ret2
    exact ⟨_, by rw [HR.out]; rfl, by rw [HR.out]; exact World.ownsRow_nil _ _ _ _, Below.refl _ _⟩
  have C1 := hide (l11Clock_any a l n ca w hn ha hn2 true (by simp [hA]))
  by_cases hB : OkC m
  case neg =>
    have C2 := hide (l11Clock_any b m k cb w hk hb hk2 false (by simp [hB]))
    have HR := hide (hno (fun h => hB h.1.2))
    clear hA hB hno hr ha hb hn hk
    go_enter Try.func16, Try.ntmps16
    go_wp2_with fail
    refine (C1.out).mono ?_
    rintro e w1 ⟨rfl, rfl⟩
    go_wp2_with fail
    refine (C2.out).mono ?_
    rintro e w1 ⟨rfl, rfl⟩
    go_wp2
    go_ret2
    exact ⟨_, by rw [HR.out]; rfl, by rw [HR.out]; exact World.ownsRow_nil _ _ _ _, Below.refl _ _⟩
  have C2 := hide (l11Clock_any b m k cb w hk hb hk2 true (by simp [hB]))
  by_cases hnk : n = k
  case neg =>
    have HR := hide (hno (fun h => hnk (by rw [← hn, ← hk]; exact h.2)))
    have hnkI : ((n : Int) != (k : Int)) = true := by simp; omega
    clear hA hB hno hr ha hb hn hk hnk
    go_enter Try.func16, Try.ntmps16
    go_wp2_with fail
    refine (C1.out).mono ?_
    rintro e w1 ⟨rfl, rfl⟩
    go_wp2_with fail
    refine (C2.out).mono ?_
    rintro e w1 ⟨rfl, rfl⟩
    go_wp2
    go_ret2
    exact ⟨_, by rw [HR.out]; rfl, by rw [HR.out]; exact World.ownsRow_nil _ _ _ _, Below.refl _ _⟩
  subst hnk
  have h2 : TwoC l m := ⟨⟨hA, hB⟩, by rw [hn, hk]⟩
  have HR : Hid (r = some (clL (jn (fnL l) (fnL m)) n)) := by rw [hr]; unfold jcRes; rw [if_pos h2, hn]; rfl
  have hnn : ((n : Int) != (n : Int)) = false := by simp
  have e1 : clL (fnL l) n = l := by rw [← hn]; exact clL_fnL l
  have e2 : clL (fnL m) n = m := by rw [← hk]; exact clL_fnL m
  have CM := hide (l11Most_any a b (fnL l) (fnL m) n ca cb w (by rw [e1]; exact ha) (by rw [e2]; exact hb) (by have := hA.1; omega) hn2)
  clear hA hB hno hr ha hb hn hk h2 e1 e2
  go_enter Try.func16, Try.ntmps16
  go_wp2_with fail
  refine (C1.out).mono ?_
  rintro e w1 ⟨rfl, rfl⟩
  go_wp2_with fail
  refine (C2.out).mono ?_
  rintro e w1 ⟨rfl, rfl⟩
  go_wp2_with fail
  refine CM.out.mono ?_
  rintro e w3 ⟨v, rfl, ho, hb3⟩
  have HO := hide ho
  have B3 := hide hb3
  clear ho hb3
  go_wp2
  go_ret2
  exact ⟨_, by rw [HR.out]; rfl, by rw [HR.out]; simp only [Option.getD_some, clL_len]; exact HO.out, B3.out⟩
end Go.Proofs.Ytkfnejiiancmhai.L11
