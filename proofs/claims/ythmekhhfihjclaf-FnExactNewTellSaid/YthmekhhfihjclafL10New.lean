/-
  Contracts: impl.NewTell, spec.NewTell: a new world of tellers in new memory.
-/
import Derived.Test.YthmekhhfihjclafL10Mem
import Derived.Test.YthmekhhfihjclafIn
import Derived.Laws.MakeOwn
import Derived.Deep.RegionWith
import Derived.Deep.DeepCutAuto
namespace Go.Proofs.Ythmekhhfihjclaf.L10
open Go.RowKit L1 Own Str Nte Tri
set_option linter.unusedVariables false

theorem info_strsT : (Try.prog.info? 43).map (fun i => (i.zero, i.size, i.bytes)) = some (some (.slice none 0 0), 1, 24) := by kernel_rfl
abbrev oT (n : Nat) : Obj := .cells (madeCells (Value.slice none 0 0).cells (n * 1)) 43 (0, 0)
abbrev oI (n : Nat) : Obj := .cells (madeCells (Value.int .i64 0).cells (n * 1)) 3 (0, 0)
theorem mk_texts (n : Nat) (h : n ≤ 4) : ∃ OA : Obj, OA = oT n ∧ ∀ w, (Instr.makeSlice 22 (.int .i64 (n : Int)) (.int .i64 (n : Int))).run Try.prog w = .ok (.slice (some ⟨w.heap.size, 0, none⟩) n n) (w.alloc OA) := by
  obtain ⟨i0, hi, hz0, hz1, hz2⟩ := info_parts info_strsT
  refine ⟨_, rfl, fun w => ?_⟩
  have hr := run_make (P := Try.prog) w 22 43 i0 (.slice none 0 0) Try.underlying22 hi hz0 .i64 .i64 (n : Int) (n : Int) (by omega) (Int.le_refl _) (by rw [hz2]; omega) (by omega)
  simp only [Int.toNat_natCast, hz1] at hr
  exact hr
theorem mk_ints (n : Nat) (h : n ≤ 4) : ∃ OB : Obj, OB = oI n ∧ ∀ w, (Instr.makeSlice 23 (.int .i64 (n : Int)) (.int .i64 (n : Int))).run Try.prog w = .ok (.slice (some ⟨w.heap.size, 0, none⟩) n n) (w.alloc OB) := by
  obtain ⟨i0, hi, hz0, hz1, hz2⟩ := info_parts info_int
  refine ⟨_, rfl, fun w => ?_⟩
  have hr := run_make (P := Try.prog) w 23 3 i0 (.int .i64 0) Try.underlying23 hi hz0 .i64 .i64 (n : Int) (n : Int) (by omega) (Int.le_refl _) (by rw [hz2]; omega) (by omega)
  simp only [Int.toNat_natCast, hz1] at hr
  exact hr
def newT (m : Nat) : Tm := ⟨List.replicate m [], List.replicate m 0, [], [], List.replicate m 0⟩
/-- A world of tellers that a call hands back, in new memory. -/
def RetT (w : World) (m : Tm) (ok : Bool) (e : Ending) (w' : World) : Prop :=
  ∃ V aT cT aH cH aL cL aG cG aN cN, e = .returned (.tuple #[tlV aT m.T.length cT aH m.hd.length cH aL m.ln.length cL aG m.lg.length cG aN m.nx.length cN, .bool ok]) ∧ TW w' (fun q => w.heap.size ≤ q ∧ q < w'.heap.size) V (.slice aT m.T.length cT) (.slice aH m.hd.length cH) (.slice aL m.ln.length cL) (.slice aG m.lg.length cG) (.slice aN m.nx.length cN) m ∧ Below w.heap.size w w'
abbrev zeroT : Tm := ⟨[], [], [], [], []⟩
theorem tw_zero (w : World) (S : Nat → Prop) : TW w S [] nilV nilV nilV nilV nilV zeroT :=
  ⟨World.ownsRow_nil _ _ _ _, fun i hi => absurd hi (Nat.not_lt_zero _), fun i k q hi => absurd hi (Nat.not_lt_zero _), World.ownsRow_nil _ _ _ _, World.ownsRow_nil _ _ _ _, World.ownsRow_nil _ _ _ _, World.ownsRow_nil _ _ _ _, fun q hq => (by cases hq), fun q hq => (by cases hq), fun i hi => absurd hi (Nat.not_lt_zero _), fun q hq => (by cases hq), fun q hq => (by cases hq), fun q hq => (by cases hq), fun q hq => (by cases hq)⟩
theorem retT_none {w w' : World} (hb : Below w.heap.size w w') : RetT w zeroT false (.returned (.tuple #[tlV none 0 0 none 0 0 none 0 0 none 0 0 none 0 0, .bool false])) w' :=
  ⟨[], none, 0, none, 0, none, 0, none, 0, none, 0, rfl, tw_zero _ _, hb⟩
theorem own_madeT {w : World} {base g n : Nat} {z : Value} {t : TypeId} (hz : z.cells = #[z]) (h : w.heap[g]? = some (.cells (madeCells z.cells (n * 1)) t (0, 0))) (hb : base ≤ g) (hn : n ≤ maxLen) : w.ownsRow base t 1 (.slice (some ⟨g, 0, none⟩) n n) n (List.replicate n z) := by
  have e : (madeCells z.cells (n * 1)).toList = List.replicate n z := by
    rw [hz, Nat.mul_one, toList_madeCells_one]
  have e2 : (madeCells z.cells (n * 1)).size = n * 1 := size_madeCells _ _
  exact ⟨by simp, .inr ⟨g, n, _, rfl, hb, h, Nat.le_refl _, hn, e2, by rw [e]; simp⟩⟩
theorem new_lens (m : Nat) : (newT m).T.length = m ∧ (newT m).hd.length = m ∧ (newT m).ln.length = 0 ∧ (newT m).lg.length = 0 ∧ (newT m).nx.length = m := by simp [newT]
theorem new_ret {w W : World} {m x y z : Nat} (hm : m ≤ 4) (hx : W.heap[x]? = some (oT m)) (hy : W.heap[y]? = some (oI m)) (hz : W.heap[z]? = some (oI m)) (lx : w.heap.size ≤ x) (ly : w.heap.size ≤ y) (lz : w.heap.size ≤ z) (hyz : y ≠ z) (hb : Below w.heap.size w W) :
    RetT w (newT m) true (.returned (.tuple #[tlV (some ⟨x, 0, none⟩) m m (some ⟨y, 0, none⟩) m m none 0 0 none 0 0 (some ⟨z, 0, none⟩) m m, .bool true])) W := by
  obtain ⟨e1, e2, e3, e4, e5⟩ := new_lens m
  have o1 := own_madeT (base := w.heap.size) (t := 43) (z := .slice none 0 0) rfl hx lx (by unfold maxLen; omega)
  have o2 := own_madeT (base := w.heap.size) (t := 3) (z := .int .i64 0) rfl hy ly (by unfold maxLen; omega)
  have o3 := own_madeT (base := w.heap.size) (t := 3) (z := .int .i64 0) rfl hz lz (by unfold maxLen; omega)
  have ins : ∀ {c n : Nat} {t : TypeId} {v : Value} {xs : List Value}, W.ownsRow w.heap.size t c v n xs → InS (fun q => w.heap.size ≤ q ∧ q < W.heap.size) v := fun ho q hq => ⟨own_ge ho q hq, own_ltO ho q hq⟩
  have hn : ∀ i, (List.replicate m nilV).getD i nilV = nilV := fun i => by
    simp only [List.getD, List.getElem?_replicate]
    split <;> rfl
  have hr : ∀ i, (List.replicate m ([] : List ByteArray)).getD i [] = [] := fun i => by
    simp only [List.getD, List.getElem?_replicate]
    split <;> rfl
  refine ⟨List.replicate m nilV, some ⟨x, 0, none⟩, m, some ⟨y, 0, none⟩, m, none, 0, none, 0, some ⟨z, 0, none⟩, m, by rw [e1, e2, e3, e4, e5], ?_, hb⟩
  rw [e1, e2, e3, e4, e5]
  refine ⟨by rw [e1]; exact own_zero o1, fun i hi => ?_, fun i k q _ _ _ e => ?_, ?_, World.ownsRow_nil _ _ _ _, World.ownsRow_nil _ _ _ _, ?_, fun q e e2 => ?_, ins o1, fun i _ q e => ?_, ins o2, fun q hq => (by cases hq), fun q hq => (by cases hq), ins o3⟩
  · rw [hn, show (newT m).T.getD i [] = [] from hr i]
    exact World.ownsRow_nil _ _ _ _
  · rw [hn] at e; cases e
  · rw [e2, show (newT m).hd = List.replicate m 0 from rfl, List.map_replicate]
    exact own_zero o2
  · rw [e5, show (newT m).nx = List.replicate m 0 from rfl, List.map_replicate]
    exact own_zero o3
  · have e' : y = q := Option.some.inj e
    have e2' : z = q := Option.some.inj e2
    omega
  · rw [hn] at e; cases e
theorem heap4T (w : World) (z a b c : Obj) : ((((w.alloc z).alloc a).alloc b).alloc c).drew.heap[w.heap.size + 1]? = some a ∧ ((((w.alloc z).alloc a).alloc b).alloc c).drew.heap[w.heap.size + 1 + 1]? = some b ∧ ((((w.alloc z).alloc a).alloc b).alloc c).drew.heap[w.heap.size + 1 + 1 + 1]? = some c ∧ Below w.heap.size w ((((w.alloc z).alloc a).alloc b).alloc c).drew := by
  have e : ((((w.alloc z).alloc a).alloc b).alloc c).drew.heap = (((w.heap.push z).push a).push b).push c := rfl
  refine ⟨?_, ?_, ?_, (((((Below.refl _ _).alloc (Nat.le_refl _) _).alloc (by simp) _).alloc (by simp; omega) _).alloc (by simp; omega) _).drew⟩
  · rw [e, Array.getElem?_push, if_neg (by simp only [Array.size_push]; omega), Array.getElem?_push, if_neg (by simp only [Array.size_push]; omega), Array.getElem?_push, if_pos (by simp only [Array.size_push])]
  · rw [e, Array.getElem?_push, if_neg (by simp only [Array.size_push]; omega), Array.getElem?_push, if_pos (by simp only [Array.size_push])]
  · rw [e, Array.getElem?_push, if_pos (by simp only [Array.size_push])]
set_option maxRecDepth 100000 in
set_option maxHeartbeats 4000000 in
theorem implNewT_yes (m : Nat) (w : World) (h1 : 1 ≤ m) (h4 : m ≤ 4) :
    Calls Try.prog 5 #[.int .i64 (m : Int)] w (RetT w (newT m) true) := by
  obtain ⟨OA, hOA, mk1⟩ := mk_texts m h4
  obtain ⟨OB, hOB, mk2⟩ := mk_ints m h4
  have HOA := hide hOA
  have HOB := hide hOB
  have g1 : ¬ (m : Int) < 1 := by omega
  have g4 : ¬ 4 < (m : Int) := by omega
  clear hOA hOB
  go_enter Try.func5, Try.ntmps5
  go_upto_region 3 with fail
  go_region_with (fail)
  all_goals (
    go_wp2_with fail
    first
      | (refine bodyPost_ret (v := .tuple #[tlV (some ⟨w.heap.size + 1, 0, none⟩) m m (some ⟨w.heap.size + 1 + 1, 0, none⟩) m m none 0 0 none 0 0 (some ⟨w.heap.size + 1 + 1 + 1, 0, none⟩) m m, .bool true]) ?_ rfl ?_; (focus (simp [results, Try.f5, go_sem]; done)); rw [HOA.out, HOB.out]; obtain ⟨q1, q2, q3, q4⟩ := heap4T w _ _ _ _; exact new_ret h4 q1 q2 q3 (by omega) (by omega) (by omega) (by omega) q4)
      | (refine bodyPost_ret (v := .tuple #[tlV (some ⟨w.heap.size + 1, 0, none⟩) m m (some ⟨w.heap.size + 1 + 1 + 1, 0, none⟩) m m none 0 0 none 0 0 (some ⟨w.heap.size + 1 + 1, 0, none⟩) m m, .bool true]) ?_ rfl ?_; (focus (simp [results, Try.f5, go_sem]; done)); rw [HOA.out, HOB.out]; obtain ⟨q1, q2, q3, q4⟩ := heap4T w _ _ _ _; exact new_ret h4 q1 q3 q2 (by omega) (by omega) (by omega) (by omega) q4)
      | (refine bodyPost_ret (v := .tuple #[tlV (some ⟨w.heap.size + 1 + 1, 0, none⟩) m m (some ⟨w.heap.size + 1, 0, none⟩) m m none 0 0 none 0 0 (some ⟨w.heap.size + 1 + 1 + 1, 0, none⟩) m m, .bool true]) ?_ rfl ?_; (focus (simp [results, Try.f5, go_sem]; done)); rw [HOA.out, HOB.out]; obtain ⟨q1, q2, q3, q4⟩ := heap4T w _ _ _ _; exact new_ret h4 q2 q1 q3 (by omega) (by omega) (by omega) (by omega) q4)
      | (refine bodyPost_ret (v := .tuple #[tlV (some ⟨w.heap.size + 1 + 1, 0, none⟩) m m (some ⟨w.heap.size + 1 + 1 + 1, 0, none⟩) m m none 0 0 none 0 0 (some ⟨w.heap.size + 1, 0, none⟩) m m, .bool true]) ?_ rfl ?_; (focus (simp [results, Try.f5, go_sem]; done)); rw [HOA.out, HOB.out]; obtain ⟨q1, q2, q3, q4⟩ := heap4T w _ _ _ _; exact new_ret h4 q2 q3 q1 (by omega) (by omega) (by omega) (by omega) q4)
      | (refine bodyPost_ret (v := .tuple #[tlV (some ⟨w.heap.size + 1 + 1 + 1, 0, none⟩) m m (some ⟨w.heap.size + 1, 0, none⟩) m m none 0 0 none 0 0 (some ⟨w.heap.size + 1 + 1, 0, none⟩) m m, .bool true]) ?_ rfl ?_; (focus (simp [results, Try.f5, go_sem]; done)); rw [HOA.out, HOB.out]; obtain ⟨q1, q2, q3, q4⟩ := heap4T w _ _ _ _; exact new_ret h4 q3 q1 q2 (by omega) (by omega) (by omega) (by omega) q4)
      | (refine bodyPost_ret (v := .tuple #[tlV (some ⟨w.heap.size + 1 + 1 + 1, 0, none⟩) m m (some ⟨w.heap.size + 1 + 1, 0, none⟩) m m none 0 0 none 0 0 (some ⟨w.heap.size + 1, 0, none⟩) m m, .bool true]) ?_ rfl ?_; (focus (simp [results, Try.f5, go_sem]; done)); rw [HOA.out, HOB.out]; obtain ⟨q1, q2, q3, q4⟩ := heap4T w _ _ _ _; exact new_ret h4 q3 q2 q1 (by omega) (by omega) (by omega) (by omega) q4))
set_option maxRecDepth 100000 in
set_option maxHeartbeats 4000000 in
theorem specNewT_yes (m : Nat) (w : World) (h1 : 1 ≤ m) (h4 : m ≤ 4) :
    Calls Try.prog 4 #[.int .i64 (m : Int)] w (RetT w (newT m) true) := by
  obtain ⟨OA, hOA, mk1⟩ := mk_texts m h4
  obtain ⟨OB, hOB, mk2⟩ := mk_ints m h4
  have HOA := hide hOA
  have HOB := hide hOB
  have C := hide (fun wx => l1In_any (m : Int) 1 4 wx true (by simp; omega))
  clear hOA hOB
  go_enter Try.func4, Try.ntmps4
  go_wp2_with fail
  refine (C.out _).mono ?_
  rintro e w1 ⟨rfl, rfl⟩
  go_upto_region 3 with fail
  go_region_with (fail)
  all_goals (
    go_wp2_with fail
    first
      | (refine bodyPost_ret (v := .tuple #[tlV (some ⟨w.heap.size + 1, 0, none⟩) m m (some ⟨w.heap.size + 1 + 1, 0, none⟩) m m none 0 0 none 0 0 (some ⟨w.heap.size + 1 + 1 + 1, 0, none⟩) m m, .bool true]) ?_ rfl ?_; (focus (simp [results, Try.f4, go_sem]; done)); rw [HOA.out, HOB.out]; obtain ⟨q1, q2, q3, q4⟩ := heap4T w _ _ _ _; exact new_ret h4 q1 q2 q3 (by omega) (by omega) (by omega) (by omega) q4)
      | (refine bodyPost_ret (v := .tuple #[tlV (some ⟨w.heap.size + 1, 0, none⟩) m m (some ⟨w.heap.size + 1 + 1 + 1, 0, none⟩) m m none 0 0 none 0 0 (some ⟨w.heap.size + 1 + 1, 0, none⟩) m m, .bool true]) ?_ rfl ?_; (focus (simp [results, Try.f4, go_sem]; done)); rw [HOA.out, HOB.out]; obtain ⟨q1, q2, q3, q4⟩ := heap4T w _ _ _ _; exact new_ret h4 q1 q3 q2 (by omega) (by omega) (by omega) (by omega) q4)
      | (refine bodyPost_ret (v := .tuple #[tlV (some ⟨w.heap.size + 1 + 1, 0, none⟩) m m (some ⟨w.heap.size + 1, 0, none⟩) m m none 0 0 none 0 0 (some ⟨w.heap.size + 1 + 1 + 1, 0, none⟩) m m, .bool true]) ?_ rfl ?_; (focus (simp [results, Try.f4, go_sem]; done)); rw [HOA.out, HOB.out]; obtain ⟨q1, q2, q3, q4⟩ := heap4T w _ _ _ _; exact new_ret h4 q2 q1 q3 (by omega) (by omega) (by omega) (by omega) q4)
      | (refine bodyPost_ret (v := .tuple #[tlV (some ⟨w.heap.size + 1 + 1, 0, none⟩) m m (some ⟨w.heap.size + 1 + 1 + 1, 0, none⟩) m m none 0 0 none 0 0 (some ⟨w.heap.size + 1, 0, none⟩) m m, .bool true]) ?_ rfl ?_; (focus (simp [results, Try.f4, go_sem]; done)); rw [HOA.out, HOB.out]; obtain ⟨q1, q2, q3, q4⟩ := heap4T w _ _ _ _; exact new_ret h4 q2 q3 q1 (by omega) (by omega) (by omega) (by omega) q4)
      | (refine bodyPost_ret (v := .tuple #[tlV (some ⟨w.heap.size + 1 + 1 + 1, 0, none⟩) m m (some ⟨w.heap.size + 1, 0, none⟩) m m none 0 0 none 0 0 (some ⟨w.heap.size + 1 + 1, 0, none⟩) m m, .bool true]) ?_ rfl ?_; (focus (simp [results, Try.f4, go_sem]; done)); rw [HOA.out, HOB.out]; obtain ⟨q1, q2, q3, q4⟩ := heap4T w _ _ _ _; exact new_ret h4 q3 q1 q2 (by omega) (by omega) (by omega) (by omega) q4)
      | (refine bodyPost_ret (v := .tuple #[tlV (some ⟨w.heap.size + 1 + 1 + 1, 0, none⟩) m m (some ⟨w.heap.size + 1 + 1, 0, none⟩) m m none 0 0 none 0 0 (some ⟨w.heap.size + 1, 0, none⟩) m m, .bool true]) ?_ rfl ?_; (focus (simp [results, Try.f4, go_sem]; done)); rw [HOA.out, HOB.out]; obtain ⟨q1, q2, q3, q4⟩ := heap4T w _ _ _ _; exact new_ret h4 q3 q2 q1 (by omega) (by omega) (by omega) (by omega) q4))
theorem five_zero {w : World} (v0 v1 v2 v3 v4 : Value) : Below w.heap.size w (((((w.alloc zT).setCell ⟨w.heap.size, 0, none⟩ v0).setCell ⟨w.heap.size, 1, none⟩ v1).setCell ⟨w.heap.size, 2, none⟩ v2).setCell ⟨w.heap.size, 3, none⟩ v3 |>.setCell ⟨w.heap.size, 4, none⟩ v4) :=
  ((((((Below.refl w.heap.size w).alloc (Nat.le_refl _) zT).setCell (p := ⟨w.heap.size, 0, none⟩) (Nat.le_refl _) _).setCell (p := ⟨w.heap.size, 1, none⟩) (Nat.le_refl _) _).setCell (p := ⟨w.heap.size, 2, none⟩) (Nat.le_refl _) _).setCell (p := ⟨w.heap.size, 3, none⟩) (Nat.le_refl _) _).setCell (p := ⟨w.heap.size, 4, none⟩) (Nat.le_refl _) _
set_option maxRecDepth 100000 in
set_option maxHeartbeats 4000000 in
theorem implNewT_no (k : Int) (w : World) (h : ¬ (1 ≤ k ∧ k ≤ 4)) :
    Calls Try.prog 5 #[.int .i64 k] w (RetT w zeroT false) := by
  have ZB := hide ((Below.refl w.heap.size w).alloc (Nat.le_refl _) zT)
  by_cases h1 : k < 1
  · go_enter Try.func5, Try.ntmps5
    go_wp2
    refine bodyPost_ret (v := .tuple #[tlV none 0 0 none 0 0 none 0 0 none 0 0 none 0 0, .bool false]) (by simp [results, Try.f5, go_sem]) rfl (retT_none ?_)
    first | exact ZB.out | exact five_zero _ _ _ _ _
  · have h4 : 4 < k := by omega
    go_enter Try.func5, Try.ntmps5
    go_wp2
    refine bodyPost_ret (v := .tuple #[tlV none 0 0 none 0 0 none 0 0 none 0 0 none 0 0, .bool false]) (by simp [results, Try.f5, go_sem]) rfl (retT_none ?_)
    first | exact ZB.out | exact five_zero _ _ _ _ _
set_option maxRecDepth 100000 in
set_option maxHeartbeats 4000000 in
theorem specNewT_no (k : Int) (w : World) (h : ¬ (1 ≤ k ∧ k ≤ 4)) :
    Calls Try.prog 4 #[.int .i64 k] w (RetT w zeroT false) := by
  have ZB := hide ((Below.refl w.heap.size w).alloc (Nat.le_refl _) zT)
  have C := hide (fun wx => l1In_any k 1 4 wx false (by simp only [Bool.false_eq_true, false_iff]; exact h))
  clear h
  go_enter Try.func4, Try.ntmps4
  go_wp2_with fail
  refine (C.out _).mono ?_
  rintro e w1 ⟨rfl, rfl⟩
  go_wp2
  refine bodyPost_ret (v := .tuple #[tlV none 0 0 none 0 0 none 0 0 none 0 0 none 0 0, .bool false]) (by simp [results, Try.f4, go_sem]) rfl (retT_none ?_)
  first | exact ZB.out | exact five_zero _ _ _ _ _
/-- What NewTell answers. -/
structure NwIs (k : Int) (m : Tm) (ok : Bool) : Prop where
  yes : 1 ≤ k ∧ k ≤ 4 → m = newT k.toNat ∧ ok = true
  no : ¬ (1 ≤ k ∧ k ≤ 4) → m = zeroT ∧ ok = false
open Classical in
theorem new_is (k : Int) : ∃ m ok, NwIs k m ok := by
  by_cases h : 1 ≤ k ∧ k ≤ 4
  · exact ⟨_, _, fun _ => ⟨rfl, rfl⟩, fun h2 => absurd h h2⟩
  · exact ⟨_, _, fun h2 => absurd h2 h, fun _ => ⟨rfl, rfl⟩⟩
theorem implNewT_any (k : Int) (m : Tm) (ok : Bool) (w : World) (hv : NwIs k m ok) : Calls Try.prog 5 #[.int .i64 k] w (RetT w m ok) := by
  by_cases h : 1 ≤ k ∧ k ≤ 4
  · obtain ⟨rfl, rfl⟩ := hv.yes h
    have := implNewT_yes k.toNat w (by omega) (by omega)
    rw [show ((k.toNat : Nat) : Int) = k by omega] at this
    exact this
  · obtain ⟨rfl, rfl⟩ := hv.no h
    exact implNewT_no k w h
theorem specNewT_any (k : Int) (m : Tm) (ok : Bool) (w : World) (hv : NwIs k m ok) : Calls Try.prog 4 #[.int .i64 k] w (RetT w m ok) := by
  by_cases h : 1 ≤ k ∧ k ≤ 4
  · obtain ⟨rfl, rfl⟩ := hv.yes h
    have := specNewT_yes k.toNat w (by omega) (by omega)
    rw [show ((k.toNat : Nat) : Int) = k by omega] at this
    exact this
  · obtain ⟨rfl, rfl⟩ := hv.no h
    exact specNewT_no k w h
end Go.Proofs.Ythmekhhfihjclaf.L10
