/-
  Contract of the laws' own helper heldStringS.
  Contract of the laws' own helper eqIntS: it says that two lists of ints alike are alike.
  Contracts of the laws' own helpers on lists of ints: laws.toIntS copies a list into new memory.
  Plain mathematics: the numbers of a text, one behind the other. Nothing of Go stands here.
  Contracts of the laws' own helpers: laws.markIntS writes rising numbers into a list that the caller owns, laws.heldIntS finds them there.
  Contract of the laws' own helper markIntS from whatever number on.
  Contract of the laws' own helper heldIntS from whatever number on.
  Contracts of the laws' own helpers: szHeavy, eqHeavy, markHeavy, heldHeavy, toHeavy.
-/
import Derived.Test.YticgejaaoamhmaoBundle6
import Derived.Deep.RegionHeld3
import Derived.Test.YticgejaaoamhmaoBundle1
import Derived.Deep.QuietTactic
import Derived.BigQuiet
import Derived.Maps.AppendAt
import Derived.Test.YticgejaaoamhmaoBundle2
import Derived.Deep.DeepCutAuto
namespace Go.Proofs.Yticgejaaoamhmao.Str
open Go.RowKit L1 L3
set_option linter.unusedVariables false

set_option maxRecDepth 100000 in
set_option maxHeartbeats 4000000 in
theorem heldStringS_from (a : Option Addr) (n cap : Nat) (w : World) (c : Int) (hcl0 : 0 < c) (hch : c ≤ 1073741824) (hn2 : n ≤ 1048576) (hs : SlS w a (mkS c n)) :
    Calls Try.prog 49 #[.slice a n cap, .int .i64 c] w fun e w' => e = .returned (.int .i64 (c + (n : Int))) ∧ Below w.heap.size w w' := by
  have HS := hide hs
  clear hs
  go_enter Try.func49, Try.ntmps49
  go_wp2
  go_loopw [1, 5] (fun k i wr => ∃ j : Nat, j ≤ n ∧ i = .int .i64 j ∧ k = .int .i64 (c + (j : Int)) ∧ Below w.heap.size w wr) (fun _ i _ => n - (intOf i).toNat)
  case atStart => exact ⟨0, by omega, rfl, by simp, Below.refl _ _⟩
  case round =>
    obtain ⟨j, hj, rfl, rfl, hbel⟩ := hrel
    by_cases hlt : j < n
    · obtain ⟨b, off, rfl, hc0⟩ := HS.out j (by rw [mkS_len]; exact hlt)
      rw [mkS_get c n j hlt] at hc0
      have hc := (hbel.cell (p := ⟨b, off + j, none⟩) (blk_lt hc0)).trans hc0
      have hltI : (j : Int) < (n : Int) := by omega
      have hj0 : (0 : Int) ≤ (j : Int) := by omega
      have C1 := hide (fun w => markText_any (c + (j : Int)) w (by omega) (by omega))
      obtain ⟨x, hx⟩ : ∃ x, x = mkT (c + (j : Int)) := ⟨_, rfl⟩
      rw [← hx] at hc
      simp only [← hx] at C1
      have hxx : (x.toList == x.toList) = true := by simp
      have B0 := hide hbel
      clear hc0 hx hbel
      go_wp2
      go_region_held3 (fun wx => wx.cell? ⟨b, off + j, none⟩ = some (.string x) ∧ Below wr.heap.size wr wx) (first | exact ⟨hc, (Below.refl _ _).drew⟩ | exact keep1S (by assumption) (by assumption) (Nat.le_refl _)) ((go_at_call 53; refine (C1.out _).mono ?_; rintro e w1 ⟨rfl, hb⟩))
      rename_i hHeld
      have B2 := hide (B0.out.trans (hHeld.2.mono B0.out.size))
      clear hHeld hc
      go_wp2
      go_roundw
      case rel => exact ⟨j + 1, by omega, by go_num, by go_num, B2.out⟩
      case measure => simp [intOf]; omega
    · have hltI : ¬ (j : Int) < (n : Int) := by omega
      obtain rfl : j = n := by omega
      go_wp2
      go_ret
      exact ⟨rfl, hbel⟩
end Go.Proofs.Yticgejaaoamhmao.Str

namespace Go.Proofs.Yticgejaaoamhmao.L1
open Go.RowKit
set_option linter.unusedVariables false

set_option maxRecDepth 100000 in
set_option maxHeartbeats 1000000 in
theorem eqIntS_same (a b : Option Addr) (xs : List Int) (n c1 c2 : Nat) (w : World) (hn : xs.length = n) (ha : Sl w a xs) (hb : Sl w b xs) (hn2 : n ≤ 1048576) :
    Calls Try.prog 47 #[.slice a n c1, .slice b n c2] w fun e w' => e = .returned (.bool true) ∧ Below w.heap.size w w' := by
  have HA := hide ha
  have HB := hide hb
  have HN := hide hn
  clear ha hb hn
  go_enter Try.func47, Try.ntmps47
  go_wp2
  go_loopw [5] (fun i wr => ∃ k : Nat, k ≤ n ∧ i = .int .i64 k ∧ Below w.heap.size w wr) (fun i _ => n - (intOf i).toNat)
  case atStart => exact ⟨0, Nat.zero_le _, rfl, Below.refl _ _⟩
  case round =>
    obtain ⟨k, hk, rfl, hbel⟩ := hrel
    by_cases hlt : k < n
    · obtain ⟨b1, o1, rfl, h1⟩ := HA.out k (by rw [HN.out]; exact hlt)
      obtain ⟨b2, o2, rfl, h2⟩ := HB.out k (by rw [HN.out]; exact hlt)
      have g1 : wr.cell? ⟨b1, o1 + k, none⟩ = some (.int .i64 (xs.getD k 0)) := by
        rw [hbel.cell (p := ⟨b1, o1 + k, none⟩) (blk_lt h1)]
        exact h1
      have g2 : wr.cell? ⟨b2, o2 + k, none⟩ = some (.int .i64 (xs.getD k 0)) := by
        rw [hbel.cell (p := ⟨b2, o2 + k, none⟩) (blk_lt h2)]
        exact h2
      obtain ⟨x, hx⟩ : ∃ x, x = xs.getD k 0 := ⟨_, rfl⟩
      rw [← hx] at g1 g2
      have hltI : (k : Int) < (n : Int) := by omega
      clear h1 h2 hx
      go_wp2
      go_quiet (fail)
      go_wp2
      go_roundw
      case rel => exact ⟨k + 1, by omega, by go_num, below_drewN hbel _⟩
      case measure => simp [intOf]; omega
    · have hltI : ¬ (k : Int) < (n : Int) := by omega
      go_wp2
      go_ret
      exact ⟨rfl, hbel⟩
end Go.Proofs.Yticgejaaoamhmao.L1

namespace Go.Proofs.Yticgejaaoamhmao.L1
open Go.RowKit
set_option linter.unusedVariables false

set_option maxRecDepth 100000 in
set_option maxHeartbeats 1000000 in
theorem toIntS_any (a : Option Addr) (xs : List Int) (n cap : Nat) (w : World) (hn : xs.length = n) (hs : Sl w a xs) (hn2 : n ≤ 1048576) :
    Calls Try.prog 38 #[.slice a n cap] w fun e w' => e = .returned (.slice (some ⟨w.heap.size, 0, none⟩) n n) ∧
      w'.ownsRow w.heap.size 3 1 (.slice (some ⟨w.heap.size, 0, none⟩) n n) n (xs.map (Value.int .i64)) ∧ Below w.heap.size w w' := by
  obtain ⟨i0, hi, hz0, hz1, hz2⟩ := info_parts info_int
  obtain ⟨w1, hmk, hown1, hg1⟩ := run_make_full (P := Try.prog) w w.heap.size 23 3 i0 (.int .i64 0) 1 Try.underlying23 hi hz0 hz1 .i64 .i64 n (by rw [hz2]; omega) (by unfold maxLen; omega) (Nat.le_refl _)
  rw [made_ints] at hown1
  have hb1 : Below w.heap.size w w1 := (Below.refl _ _).grown hg1 (Nat.le_refl _) (fun k hk => by cases hk)
  have HO := hide hown1
  have HS := hide hs
  have HN := hide hn
  clear hown1 hg1 hs hn
  go_enter Try.func38, Try.ntmps38
  go_wp2
  go_loopw [4] (fun i wr => ∃ (k : Nat) (ys : List Int), k ≤ n ∧ i = .int .i64 k ∧ ys.length = n ∧ Hid (∀ j, j < k → ys.getD j 0 = xs.getD j 0) ∧
      wr.ownsRow w.heap.size 3 1 (.slice (some ⟨w.heap.size, 0, none⟩) n n) n (ys.map (Value.int .i64)) ∧ Below w.heap.size w wr) (fun i _ => n - (intOf i).toNat)
  case atStart => exact ⟨0, List.replicate n 0, Nat.zero_le _, rfl, by simp, fun j hj => absurd hj (Nat.not_lt_zero _), HO, hb1⟩
  case round =>
    obtain ⟨k, ys, hk, rfl, hyl, HX, hown, hbel⟩ := hrel
    have HL := hide hyl
    clear hyl
    by_cases hlt : k < n
    · obtain ⟨b, off, rfl, hc0⟩ := HS.out k (by rw [HN.out]; exact hlt)
      have hc : wr.cell? ⟨b, off + k, none⟩ = some (.int .i64 (xs.getD k 0)) := by
        rw [hbel.cell (p := ⟨b, off + k, none⟩) (blk_lt hc0)]
        exact hc0
      clear hc0
      have hcl := hown.cellAt k (by omega)
      have hfr := hown.frozenAt k
      have hltI : (k : Int) < (n : Int) := by omega
      obtain ⟨v, hv⟩ : ∃ v, wr.cell? ⟨w.heap.size, k, none⟩ = some v := ⟨_, hcl.trans (List.getElem?_eq_getElem (by have := HL.out; simp; omega))⟩
      have R := copy_round hlt HN.out HL.out HX.out hown hbel
      obtain ⟨x, hx⟩ : ∃ x, x = xs.getD k 0 := ⟨_, rfl⟩
      rw [← hx] at hc R
      have HR := hide R
      clear hcl hx R
      go_wp2
      go_roundw
      case rel => exact HR.out
      case measure => simp [intOf]; omega
    · have e : ys = xs := list_same HN.out HL.out (fun j hj => HX.out j (by omega))
      subst e
      have hltI : ¬ (k : Int) < (n : Int) := by omega
      go_wp2
      go_ret
      exact ⟨rfl, hown, hbel⟩

end Go.Proofs.Yticgejaaoamhmao.L1

namespace Go.Proofs.Yticgejaaoamhmao.L1

theorem gvf_some : ∀ (f : Nat) (pre t l : List Int), gvf f pre t = some l → ∃ m, 1 ≤ m ∧ m ≤ t.length ∧ l = pre ++ t.take m
  | 0, _, _, _, h => by simp [gvf] at h
  | _ + 1, _, [], _, h => by simp [gvf] at h
  | f + 1, pre, x :: r, l, h => by
    simp only [gvf] at h
    split at h
    · obtain ⟨m, h1, h2, h3⟩ := gvf_some f (pre ++ [x]) r l h
      refine ⟨m + 1, by omega, by simp; omega, ?_⟩
      rw [h3]
      simp
    · split at h
      · simp only [Option.some.injEq] at h
        exact ⟨1, by omega, by simp, by rw [← h]; simp⟩
      · simp at h
theorem gv_some {t l : List Int} (h : gv t = some l) : 1 ≤ l.length ∧ l.length ≤ t.length := by
  obtain ⟨m, h1, h2, h3⟩ := gvf_some 6 [] t l h
  rw [h3]
  simp
  omega

/-- All numbers of a text. -/
def ga : Nat → List Int → Option (List Int)
  | _, [] => some []
  | 0, _ :: _ => none
  | f + 1, x :: r => match gv (x :: r) with
    | none => none
    | some l => (ga f ((x :: r).drop l.length)).map fun o => zag (val l) :: o

theorem ga_fuel : ∀ (n : Nat) (t : List Int) (f g : Nat), t.length ≤ n → t.length ≤ f → t.length ≤ g → ga f t = ga g t
  | _, [], f, g, _, _, _ => by cases f <;> cases g <;> rfl
  | 0, x :: r, _, _, h, _, _ => by simp at h
  | n + 1, x :: r, f, g, h, hf, hg => by
    obtain ⟨f, rfl⟩ : ∃ j, f = j + 1 := ⟨f - 1, by simp at hf; omega⟩
    obtain ⟨g, rfl⟩ : ∃ j, g = j + 1 := ⟨g - 1, by simp at hg; omega⟩
    simp only [ga]
    cases hv : gv (x :: r) with
    | none => rfl
    | some l =>
      have hl := gv_some hv
      have e := ga_fuel n ((x :: r).drop l.length) f g (by simp at *; omega) (by simp at *; omega) (by simp at *; omega)
      simp only [e]

def gall (t : List Int) : Option (List Int) := ga t.length t
theorem gall_nil : gall [] = some [] := rfl
theorem gall_none {t : List Int} (h0 : 0 < t.length) (h : gv t = none) : gall t = none := by
  cases t with
  | nil => simp at h0
  | cons x r => simp only [gall, List.length_cons, ga, h]
theorem gall_some {t l : List Int} (h0 : 0 < t.length) (h : gv t = some l) : gall t = (gall (t.drop l.length)).map fun o => zag (val l) :: o := by
  cases t with
  | nil => simp at h0
  | cons x r =>
    have hl := gv_some h
    simp only [gall, List.length_cons, ga, h]
    rw [ga_fuel (r.length + 1) ((x :: r).drop l.length) r.length ((x :: r).drop l.length).length (by simp) (by simp at *; omega) (by simp)]

/-- What is read so far, and what is still to be read. -/
theorem gall_step {A : Option (List Int)} {xs t l : List Int} (h0 : 0 < t.length) (h : gv t = some l) (hA : A = (gall t).map fun o => xs ++ o) :
    A = (gall (t.drop l.length)).map fun o => (xs ++ [zag (val l)]) ++ o := by
  rw [hA, gall_some h0 h]
  cases gall (t.drop l.length) <;> simp
theorem gall_stop {A : Option (List Int)} {xs t : List Int} (h0 : 0 < t.length) (h : gv t = none) (hA : A = (gall t).map fun o => xs ++ o) : A = none := by
  rw [hA, gall_none h0 h]
  rfl
theorem gall_over {A : Option (List Int)} {xs t : List Int} (hA : A = (gall t).map fun o => xs ++ o) {ys : List Int} (h : A = some ys) : xs.length ≤ ys.length := by
  rw [hA] at h
  cases hg : gall t with
  | none => rw [hg] at h; simp at h
  | some o =>
    rw [hg] at h
    simp at h
    rw [← h]
    simp

/-- The numbers of a text that are at most 60. -/
def gaRes (t : List Int) : Option (List Int) := if t.length ≤ 600 then (gall t).bind (fun xs => if xs.length ≤ 60 then some xs else none) else none
def marks (k : Int) (n : Nat) : List Int := (List.range n).map fun i : Nat => k + (i : Int)
theorem marks_len (k : Int) (n : Nat) : (marks k n).length = n := by simp [marks]
theorem marks_get (k : Int) (n j : Nat) (h : j < n) : (marks k n).getD j 0 = k + (j : Int) := by
  simp [marks, List.getD, h]
end Go.Proofs.Yticgejaaoamhmao.L1

namespace Go.Proofs.Yticgejaaoamhmao.L1
open Go.RowKit
set_option linter.unusedVariables false

set_option maxRecDepth 100000 in
set_option maxHeartbeats 1000000 in
theorem markIntS_all (base : Nat) (v : Value) (xs : List Int) (n : Nat) (w : World) (hn2 : n ≤ 1048576) (ho : w.ownsRow base 3 1 v n (xs.map (Value.int .i64))) :
    Calls Try.prog 48 #[v, .int .i64 1] w fun e w' => e = .returned (.int .i64 (1 + (n : Int))) ∧ w'.ownsRow base 3 1 v n ((marks 1 n).map (Value.int .i64)) ∧ Below base w w' ∧ w.grownBy w' v.ownBlock := by
  have hl0 := ho.1
  simp at hl0
  by_cases hn0 : n = 0
  · subst hn0
    obtain ⟨a, cap, rfl, _, hl⟩ := own_form ho
    have hx : xs = [] := List.eq_nil_of_length_eq_zero hl
    subst hx
    have HO := hide ho
    clear ho hl hl0
    go_enter Try.func48, Try.ntmps48
    go_wp2
    go_loop [1, 5] (fun k i => k = .int .i64 1 ∧ i = .int .i64 0) (fun _ _ => 0)
    case atStart => exact ⟨rfl, rfl⟩
    case round =>
      obtain ⟨rfl, rfl⟩ := hrel
      go_wp2
      go_ret
      exact ⟨rfl, HO.out, Below.refl _ _, World.grownBy.refl _ _⟩
  · obtain ⟨g, cap, rfl⟩ : ∃ g cap, v = .slice (some ⟨g, 0, none⟩) n cap := by
      rcases ho.2 with ⟨_, h0⟩ | ⟨g, cap, cur, hv, _⟩
      · omega
      · exact ⟨g, cap, hv⟩
    have hge := own_ge ho
    have HO := hide ho
    have HL := hide hl0
    clear ho hl0 hn0
    go_enter Try.func48, Try.ntmps48
    go_wp2
    go_loopw [1, 5] (fun k i wr => ∃ (j : Nat) (ys : List Int), j ≤ n ∧ i = .int .i64 j ∧ k = .int .i64 (1 + (j : Int)) ∧ ys.length = n ∧ Hid (∀ t, t < j → ys.getD t 0 = (marks 1 n).getD t 0) ∧
        wr.ownsRow base 3 1 (.slice (some ⟨g, 0, none⟩) n cap) n (ys.map (Value.int .i64)) ∧ Below base w wr ∧ w.grownBy wr (some g)) (fun _ i _ => n - (intOf i).toNat)
    case atStart => exact ⟨0, xs, by omega, rfl, rfl, HL.out, fun t ht => absurd ht (Nat.not_lt_zero _), HO.out, Below.refl _ _, World.grownBy.refl _ _⟩
    case round =>
      obtain ⟨j, ys, hj, rfl, rfl, hyl, HY, hown, hbel, hgr⟩ := hrel
      by_cases hlt : j < n
      · have hltI : (j : Int) < (n : Int) := by omega
        have hcl := hown.cellAt j (by omega)
        have hfr := hown.frozenAt j
        obtain ⟨u, hu⟩ : ∃ u, wr.cell? ⟨g, j, none⟩ = some u := ⟨_, hcl.trans (List.getElem?_eq_getElem (by simp; omega))⟩
        have hst := hown.stored j (.int .i64 (1 + (j : Int)))
        have R : ∃ (j' : Nat) (ys' : List Int), j' ≤ n ∧ Value.int .i64 ((j : Int) + 1) = .int .i64 j' ∧ Value.int .i64 (1 + (j : Int) + 1) = .int .i64 (1 + (j' : Int)) ∧ ys'.length = n ∧ Hid (∀ t, t < j' → ys'.getD t 0 = (marks 1 n).getD t 0) ∧
            (wr.setCell ⟨g, j, none⟩ (.int .i64 (1 + (j : Int)))).ownsRow base 3 1 (.slice (some ⟨g, 0, none⟩) n cap) n (ys'.map (Value.int .i64)) ∧ Below base w (wr.setCell ⟨g, j, none⟩ (.int .i64 (1 + (j : Int)))) ∧ w.grownBy (wr.setCell ⟨g, j, none⟩ (.int .i64 (1 + (j : Int)))) (some g) := by
          refine ⟨j + 1, ys.set j (1 + (j : Int)), by omega, by simp, by simp; omega, by simpa using hyl, ?_, by rw [List.map_set]; exact hst.1, hbel.setCell (p := ⟨g, j, none⟩) hge _, hgr.trans hst.2⟩
          intro t ht
          by_cases e : t = j
          · subst e
            rw [marks_get 1 n t (by omega)]
            simp [List.getD, hyl, hlt]
          · rw [← HY.out t (by omega)]
            simp [List.getD, Ne.symm e]
        have HR := hide R
        clear hcl hst R hyl
        go_wp2
        go_roundw
        case rel => exact HR.out
        case measure => simp [intOf]; omega
      · obtain rfl : j = n := by omega
        have e : ys = marks 1 j := list_same (marks_len 1 j) hyl (fun t ht => HY.out t ht)
        subst e
        have hltI : ¬ (j : Int) < (j : Int) := by omega
        clear hyl
        go_wp2
        go_ret
        exact ⟨rfl, hown, hbel, hgr⟩

theorem markIntS_any (base : Nat) (v : Value) (xs : List Int) (n : Nat) (w : World) (hn2 : n ≤ 1048576) (ho : w.ownsRow base 3 1 v n (xs.map (Value.int .i64))) :
    Calls Try.prog 48 #[v, .int .i64 1] w fun e w' => e = .returned (.int .i64 (1 + (n : Int))) ∧ w'.ownsRow base 3 1 v n ((marks 1 n).map (Value.int .i64)) ∧ Below base w w' :=
  (markIntS_all base v xs n w hn2 ho).mono fun e w' h => ⟨h.1, h.2.1, h.2.2.1⟩

set_option maxRecDepth 100000 in
set_option maxHeartbeats 1000000 in
theorem heldIntS_any (a : Option Addr) (n cap : Nat) (w : World) (hn2 : n ≤ 1048576) (hs : Sl w a (marks 1 n)) :
    Calls Try.prog 50 #[.slice a n cap, .int .i64 1] w fun e w' => e = .returned (.int .i64 (1 + (n : Int))) ∧ Below w.heap.size w w' := by
  have HS := hide hs
  clear hs
  go_enter Try.func50, Try.ntmps50
  go_wp2
  go_loop [1, 5] (fun k i => ∃ j : Nat, j ≤ n ∧ i = .int .i64 j ∧ k = .int .i64 (1 + (j : Int))) (fun _ i => n - (intOf i).toNat)
  case atStart => exact ⟨0, by omega, rfl, rfl⟩
  case round =>
    obtain ⟨j, hj, rfl, rfl⟩ := hrel
    by_cases hlt : j < n
    · obtain ⟨b, off, rfl, hc⟩ := HS.out j (by rw [marks_len]; exact hlt)
      rw [marks_get 1 n j hlt] at hc
      have hltI : (j : Int) < (n : Int) := by omega
      go_wp2
      go_round
      case rel => exact ⟨j + 1, by omega, by go_num, by go_num⟩
      case measure => simp [intOf]; omega
    · have hltI : ¬ (j : Int) < (n : Int) := by omega
      obtain rfl : j = n := by omega
      go_wp2
      go_ret
      exact ⟨rfl, Below.refl _ _⟩
end Go.Proofs.Yticgejaaoamhmao.L1

namespace Go.Proofs.Yticgejaaoamhmao.L4
open Go.RowKit L1
set_option linter.unusedVariables false

def mkC (c : Int) (n : Nat) : List Int := (List.range n).map fun i : Nat => c + (i : Int)
theorem mkC_len (c : Int) (n : Nat) : (mkC c n).length = n := by simp [mkC]
theorem mkC_get (c : Int) (n j : Nat) (h : j < n) : (mkC c n).getD j 0 = c + (j : Int) := by simp [mkC, List.getD, h]

set_option maxRecDepth 100000 in
set_option maxHeartbeats 1000000 in
theorem markIntS_from (base : Nat) (v : Value) (xs : List Int) (n : Nat) (w : World) (c : Int) (hc0 : 0 ≤ c) (hc1 : c ≤ 4294967296) (hn2 : n ≤ 1048576) (ho : w.ownsRow base 3 1 v n (xs.map (Value.int .i64))) :
    Calls Try.prog 48 #[v, .int .i64 c] w fun e w' => e = .returned (.int .i64 (c + (n : Int))) ∧ w'.ownsRow base 3 1 v n ((mkC c n).map (Value.int .i64)) ∧ Below base w w' ∧ w.grownBy w' v.ownBlock := by
  have hl0 := ho.1
  simp at hl0
  by_cases hn0 : n = 0
  · subst hn0
    obtain ⟨a, cap, rfl, _, hl⟩ := own_form ho
    have hx : xs = [] := List.eq_nil_of_length_eq_zero hl
    subst hx
    have HO := hide ho
    clear ho hl hl0
    go_enter Try.func48, Try.ntmps48
    go_wp2
    go_loop [1, 5] (fun k i => k = .int .i64 c ∧ i = .int .i64 0) (fun _ _ => 0)
    case atStart => exact ⟨rfl, rfl⟩
    case round =>
      obtain ⟨rfl, rfl⟩ := hrel
      go_wp2
      go_ret
      exact ⟨by simp, HO.out, Below.refl _ _, World.grownBy.refl _ _⟩
  · obtain ⟨g, cap, rfl⟩ : ∃ g cap, v = .slice (some ⟨g, 0, none⟩) n cap := by
      rcases ho.2 with ⟨_, h0⟩ | ⟨g, cap, cur, hv, _⟩
      · omega
      · exact ⟨g, cap, hv⟩
    have hge := own_ge ho
    have HO := hide ho
    have HL := hide hl0
    clear ho hl0 hn0
    go_enter Try.func48, Try.ntmps48
    go_wp2
    go_loopw [1, 5] (fun k i wr => ∃ (j : Nat) (ys : List Int), j ≤ n ∧ i = .int .i64 j ∧ k = .int .i64 (c + (j : Int)) ∧ ys.length = n ∧ Hid (∀ t, t < j → ys.getD t 0 = (mkC c n).getD t 0) ∧
        wr.ownsRow base 3 1 (.slice (some ⟨g, 0, none⟩) n cap) n (ys.map (Value.int .i64)) ∧ Below base w wr ∧ w.grownBy wr (some g)) (fun _ i _ => n - (intOf i).toNat)
    case atStart => exact ⟨0, xs, by omega, rfl, by simp, HL.out, fun t ht => absurd ht (Nat.not_lt_zero _), HO.out, Below.refl _ _, World.grownBy.refl _ _⟩
    case round =>
      obtain ⟨j, ys, hj, rfl, rfl, hyl, HY, hown, hbel, hgr⟩ := hrel
      by_cases hlt : j < n
      · have hltI : (j : Int) < (n : Int) := by omega
        have hcl := hown.cellAt j (by omega)
        have hfr := hown.frozenAt j
        obtain ⟨u, hu⟩ : ∃ u, wr.cell? ⟨g, j, none⟩ = some u := ⟨_, hcl.trans (List.getElem?_eq_getElem (by simp; omega))⟩
        have hst := hown.stored j (.int .i64 (c + (j : Int)))
        have R : ∃ (j' : Nat) (ys' : List Int), j' ≤ n ∧ Value.int .i64 ((j : Int) + 1) = .int .i64 j' ∧ Value.int .i64 (c + (j : Int) + 1) = .int .i64 (c + (j' : Int)) ∧ ys'.length = n ∧ Hid (∀ t, t < j' → ys'.getD t 0 = (mkC c n).getD t 0) ∧
            (wr.setCell ⟨g, j, none⟩ (.int .i64 (c + (j : Int)))).ownsRow base 3 1 (.slice (some ⟨g, 0, none⟩) n cap) n (ys'.map (Value.int .i64)) ∧ Below base w (wr.setCell ⟨g, j, none⟩ (.int .i64 (c + (j : Int)))) ∧ w.grownBy (wr.setCell ⟨g, j, none⟩ (.int .i64 (c + (j : Int)))) (some g) := by
          refine ⟨j + 1, ys.set j (c + (j : Int)), by omega, by simp, by simp; omega, by simpa using hyl, ?_, by rw [List.map_set]; exact hst.1, hbel.setCell (p := ⟨g, j, none⟩) hge _, hgr.trans hst.2⟩
          intro t ht
          by_cases e : t = j
          · subst e
            rw [mkC_get c n t (by omega)]
            simp [List.getD, hyl, hlt]
          · rw [← HY.out t (by omega)]
            simp [List.getD, Ne.symm e]
        have HR := hide R
        clear hcl hst R hyl
        go_wp2
        go_roundw
        case rel => exact HR.out
        case measure => simp [intOf]; omega
      · obtain rfl : j = n := by omega
        have e : ys = mkC c j := list_same (mkC_len c j) hyl (fun t ht => HY.out t ht)
        subst e
        have hltI : ¬ (j : Int) < (j : Int) := by omega
        clear hyl
        go_wp2
        go_ret
        exact ⟨rfl, hown, hbel, hgr⟩

end Go.Proofs.Yticgejaaoamhmao.L4

namespace Go.Proofs.Yticgejaaoamhmao.L4
open Go.RowKit L1
set_option linter.unusedVariables false

set_option maxRecDepth 100000 in
set_option maxHeartbeats 1000000 in
theorem heldIntS_from (a : Option Addr) (n cap : Nat) (c : Int) (w : World) (hc0 : 0 ≤ c) (hc1 : c ≤ 4294967296) (hn2 : n ≤ 1048576) (hs : Sl w a (mkC c n)) :
    Calls Try.prog 50 #[.slice a n cap, .int .i64 c] w fun e w' => e = .returned (.int .i64 (c + (n : Int))) ∧ Below w.heap.size w w' := by
  have HS := hide hs
  clear hs
  go_enter Try.func50, Try.ntmps50
  go_wp2
  go_loop [1, 5] (fun k i => ∃ j : Nat, j ≤ n ∧ i = .int .i64 j ∧ k = .int .i64 (c + (j : Int))) (fun _ i => n - (intOf i).toNat)
  case atStart => exact ⟨0, by omega, rfl, by simp⟩
  case round =>
    obtain ⟨j, hj, rfl, rfl⟩ := hrel
    by_cases hlt : j < n
    · obtain ⟨b, off, rfl, hc⟩ := HS.out j (by rw [mkC_len]; exact hlt)
      rw [mkC_get c n j hlt] at hc
      have hltI : (j : Int) < (n : Int) := by omega
      go_wp2
      go_round
      case rel => exact ⟨j + 1, by omega, by go_num, by go_num⟩
      case measure => simp [intOf]; omega
    · have hltI : ¬ (j : Int) < (n : Int) := by omega
      obtain rfl : j = n := by omega
      go_wp2
      go_ret
      exact ⟨rfl, Below.refl _ _⟩
end Go.Proofs.Yticgejaaoamhmao.L4

namespace Go.Proofs.Yticgejaaoamhmao.L15H
open Go.RowKit L1 L4 Own Str
set_option linter.unusedVariables false

set_option maxRecDepth 100000 in
set_option maxHeartbeats 2000000 in
theorem szIntS_h (a : Option Addr) (n cap : Nat) (L : Int) (w : World) (hm : n ≤ 9223372036854775807) (h0 : 0 ≤ L) (h1 : L ≤ 1048576) (r : Int) (hr : r = if (n : Int) ≤ L then L - (n : Int) else -1) :
    Calls Try.prog 33 #[.slice a n cap, .int .i64 L] w fun e w' => e = .returned (.int .i64 r) ∧ w = w' := by
  have HR := hide hr
  clear hr
  by_cases ha : L - (n : Int) < 0
  · go_enter Try.func33, Try.ntmps33
    go_wp2
    go_ret
    exact ⟨by rw [HR.out, if_neg (by omega)]; rfl, rfl⟩
  · go_enter Try.func33, Try.ntmps33
    go_wp2
    go_ret
    exact ⟨by rw [HR.out, if_pos (by omega)]; rfl, rfl⟩
/-- What a Heavy weighs. -/
abbrev wtH (h : Hv) : Nat := wtS h.nm + h.ct.length
set_option maxRecDepth 100000 in
set_option maxHeartbeats 2000000 in
theorem szHeavy_any (a : Option Addr) (n c : Nat) (b : Option Addr) (m d : Nat) (G T : Int) (h : Hv) (Z : Int) (w : World) (hn2 : n ≤ 9223372036854775807) (hm2 : m ≤ 9223372036854775807) (hf : HF w a b n m h) (hst : TxS h.nm) (h0 : 0 ≤ Z) (h1 : Z ≤ 1048576) (r : Int) (hr : r = if (wtH h : Int) ≤ Z then Z - (wtH h : Int) else -1) :
    Calls Try.prog 9 #[.agg #[.slice a n c, .slice b m d, .int .i64 G, .int .i64 T], .int .i64 Z] w fun e w' => e = .returned (.int .i64 r) ∧ Below w.heap.size w w' := by
  have BX := (Below.refl w.heap.size w).alloc (Nat.le_refl _) (.cells #[.slice a n c, .slice b m d, .int .i64 G, .int .i64 T] 25 (0, 0))
  have g0 := L8.blk_new w (.cells #[.slice a n c, .slice b m d, .int .i64 G, .int .i64 T] 25 (0, 0))
  obtain ⟨W0, hW0⟩ : ∃ W0, W0 = w.alloc (.cells #[.slice a n c, .slice b m d, .int .i64 G, .int .i64 T] 25 (0, 0)) := ⟨_, rfl⟩
  rw [← hW0] at BX g0
  obtain ⟨k0, k1, k2, k3⟩ := blk4 g0
  have HW := hide hW0
  have B0 := hide BX
  have G0 := hide g0
  have HLC := hide hf.lc
  have C1 := hide (fun r hr => szStringS_any a h.nm n c Z W0 hf.ln hn2 (hf.sN.below BX) hst h0 h1 r hr)
  by_cases f1 : (wtS h.nm : Int) ≤ Z
  rotate_left
  · have E : r = -1 := by rw [hr, if_neg (by unfold wtH; omega)]
    subst E
    have C2 := hide (C1.out (-1) (by rw [if_neg f1]))
    clear hr hf hst C1 g0 BX hW0
    go_enter Try.func9, Try.ntmps9
    go_upto_region 1 with fail
    rw [← HW.out]
    go_wp2_with fail
    refine C2.out.mono ?_
    rintro e w1 ⟨rfl, hb⟩
    have B1 := hide (B0.out.trans (hb.mono B0.out.size))
    clear hb
    go_wp2
    go_ret
    exact ⟨rfl, B1.out⟩
  obtain ⟨Z1, hZ1⟩ : ∃ x, x = Z - (wtS h.nm : Int) := ⟨_, rfl⟩
  have hz1 : ¬ Z1 < 0 := by omega
  have C2 := hide (C1.out Z1 (by rw [if_pos f1]; exact hZ1))
  have C3 := hide (fun wx => szIntS_h b m d Z1 wx hm2 (by omega) (by omega) r (by
    rw [hr, hZ1]; have := hf.lc
    by_cases f2 : (wtH h : Int) ≤ Z
    · rw [if_pos f2, if_pos (by unfold wtH at f2; omega)]; unfold wtH; omega
    · rw [if_neg f2, if_neg (by unfold wtH at f2; omega)]))
  have HR1 : Hid (r < 0 → r = -1) := hide (fun hlt => by
    by_cases f2 : (wtH h : Int) ≤ Z
    · rw [hr, if_pos f2] at hlt; omega
    · rw [hr, if_neg f2])
  clear hr hf hst C1 g0 BX hW0 hZ1 f1
  by_cases hr0 : r < 0
  · obtain rfl : r = -1 := HR1.out hr0
    go_enter Try.func9, Try.ntmps9
    go_upto_region 1 with fail
    rw [← HW.out]
    go_wp2_with fail
    refine C2.out.mono ?_
    rintro e w1 ⟨rfl, hb⟩
    have B1 := hide hb
    clear hb k0 k1 k2 k3
    obtain ⟨k0, k1, k2, k3⟩ := blk4 (blk_kept G0.out B1.out)
    go_wp2_with fail
    refine (C3.out _).mono ?_
    rintro e w2 ⟨rfl, rfl⟩
    have B2 := hide (B0.out.trans (B1.out.mono B0.out.size))
    go_wp2
    go_ret
    exact ⟨rfl, B2.out⟩
  · go_enter Try.func9, Try.ntmps9
    go_upto_region 1 with fail
    rw [← HW.out]
    go_wp2_with fail
    refine C2.out.mono ?_
    rintro e w1 ⟨rfl, hb⟩
    have B1 := hide hb
    clear hb k0 k1 k2 k3
    obtain ⟨k0, k1, k2, k3⟩ := blk4 (blk_kept G0.out B1.out)
    go_wp2_with fail
    refine (C3.out _).mono ?_
    rintro e w2 ⟨rfl, rfl⟩
    have B2 := hide (B0.out.trans (B1.out.mono B0.out.size))
    go_wp2
    go_ret
    exact ⟨rfl, B2.out⟩
set_option maxRecDepth 100000 in
set_option maxHeartbeats 2000000 in
theorem eqHeavy_same (a : Option Addr) (n c : Nat) (b : Option Addr) (m d : Nat) (a2 : Option Addr) (c2 : Nat) (b2 : Option Addr) (d2 : Nat) (G T : Int) (h : Hv) (w : World) (h1 : HF w a b n m h) (h2 : HF w a2 b2 n m h) (hn2 : n ≤ 1048576) (hm2 : m ≤ 1048576) :
    Calls Try.prog 13 #[.agg #[.slice a n c, .slice b m d, .int .i64 G, .int .i64 T], .agg #[.slice a2 n c2, .slice b2 m d2, .int .i64 G, .int .i64 T]] w fun e w' => e = .returned (.bool true) ∧ Below w.heap.size w w' := by
  have BX := ((Below.refl w.heap.size w).alloc (Nat.le_refl _) (hvO (.slice a n c) (.slice b m d) G T)).alloc (by simp) (hvO (.slice a2 n c2) (.slice b2 m d2) G T)
  have q1 := L8.blk_new w (hvO (.slice a n c) (.slice b m d) G T)
  have q2 := L8.blk_new (w.alloc (hvO (.slice a n c) (.slice b m d) G T)) (hvO (.slice a2 n c2) (.slice b2 m d2) G T)
  have eS : (w.alloc (hvO (.slice a n c) (.slice b m d) G T)).heap.size = w.heap.size + 1 := by simp
  have q3 := blk_kept q1 ((Below.refl _ _).alloc (Nat.le_refl _) (hvO (.slice a2 n c2) (.slice b2 m d2) G T))
  rw [eS] at q2
  obtain ⟨W0, hW0⟩ : ∃ W0, W0 = (w.alloc (hvO (.slice a n c) (.slice b m d) G T)).alloc (hvO (.slice a2 n c2) (.slice b2 m d2) G T) := ⟨_, rfl⟩
  rw [← hW0] at BX q2 q3
  have HW := hide hW0
  have B0 := hide BX
  have Q2 := hide q2
  have Q3 := hide q3
  have F1 := hide (h1.below BX)
  have F2 := hide (h2.below BX)
  have C1 := hide (fun wx (hb : Below W0.heap.size W0 wx) => eqStringS_same a a2 h.nm n c c2 wx F1.out.ln (F1.out.below hb).sN (F2.out.below hb).sN hn2)
  have C2 := hide (fun wx (hb : Below W0.heap.size W0 wx) => eqIntS_same b b2 h.ct m d d2 wx F1.out.lc (F1.out.below hb).sC (F2.out.below hb).sC hm2)
  have e1 : (G != G) = false := by simp
  have e2 : (T != T) = false := by simp
  clear h1 h2 BX hW0 q1 eS
  obtain ⟨k0, k1, k2, k3⟩ := blk4 q3
  obtain ⟨j0, j1, j2, j3⟩ := blk4 q2
  clear q2 q3
  go_enter Try.func13, Try.ntmps13
  go_upto_region 1 with fail
  rw [← HW.out]
  go_wp2_with fail
  refine (C1.out _ (Below.refl _ _)).mono ?_
  rintro e w1 ⟨rfl, hb⟩
  have B1 := hide hb
  clear hb k0 k1 k2 k3 j0 j1 j2 j3
  obtain ⟨k0, k1, k2, k3⟩ := blk4 (blk_kept Q3.out B1.out)
  obtain ⟨j0, j1, j2, j3⟩ := blk4 (blk_kept Q2.out B1.out)
  go_wp2_with fail
  refine (C2.out _ B1.out).mono ?_
  rintro e w2 ⟨rfl, hb⟩
  have B2 := hide (B1.out.trans (hb.mono B1.out.size))
  clear hb k0 k1 k2 k3 j0 j1 j2 j3
  obtain ⟨k0, k1, k2, k3⟩ := blk4 (blk_kept Q3.out B2.out)
  obtain ⟨j0, j1, j2, j3⟩ := blk4 (blk_kept Q2.out B2.out)
  have B3 := hide (B0.out.trans (B2.out.mono B0.out.size))
  go_wp2
  go_ret
  exact ⟨rfl, B3.out⟩
/-- Marks of a Heavy. -/
abbrev mkH (c : Int) (n m : Nat) (h : Hv) : Hv := ⟨mkS c n, mkC (c + (n : Int)) m, h.g, h.t⟩
set_option maxRecDepth 100000 in
set_option maxHeartbeats 2000000 in
theorem markHeavy_any (base hi : Nat) (v u : Value) (n m : Nat) (G T : Int) (h : Hv) (w : World) (q : Int) (hq0 : 0 < q) (hq1 : q ≤ 10000000) (hn2 : n ≤ 1048576) (hm2 : m ≤ 1048576) (hbs : base ≤ w.heap.size) (iv : ∀ g, v.ownBlock = some g → g < hi) (iu : ∀ g, u.ownBlock = some g → g < hi) (ho : OwH w base v u n m h) :
    Calls Try.prog 14 #[.agg #[v, u, .int .i64 G, .int .i64 T], .int .i64 q] w fun e w' => e = .returned (.int .i64 (q + (n : Int) + (m : Int))) ∧ OwH w' base v u n m (mkH q n m h) ∧ L8.Only base hi w w' := by
  obtain ⟨aN, cN, aC, cC, rfl, rfl, _⟩ := ho.form
  obtain ⟨IV, hIV⟩ : ∃ x, x = hvO (.slice aN n cN) (.slice aC m cC) G T := ⟨_, rfl⟩
  have BX := (Below.refl w.heap.size w).alloc (Nat.le_refl _) IV
  have g0 := L8.blk_new w IV
  have hs0 : w.heap.size < (w.alloc IV).heap.size := by simp
  obtain ⟨W0, hW0⟩ : ∃ W0, W0 = w.alloc IV := ⟨_, rfl⟩
  rw [← hW0] at BX g0 hs0
  rw [hIV] at g0 hW0
  have HW := hide hW0
  have B0 := hide BX
  have G0 := hide g0
  have O0 := hide (ho.below BX)
  have HS0 := hide hs0
  have LB := hide (fun g hg => (own_ltO ho.oN g hg : g < w.heap.size))
  have LU := hide (fun g hg => (own_ltO ho.oC g hg : g < w.heap.size))
  have GN := hide (fun g hg => own_ge ho.oN g hg)
  have GU := hide (fun g hg => own_ge ho.oC g hg)
  have IVV := hide iv
  have IUU := hide iu
  have C1 := hide (markStringS_from base (.slice aN n cN) h.nm n W0 q hq0 (by omega) hn2 O0.out.oN (by omega))
  have C2 := hide (fun wx (k : wx.ownsRow base 3 1 (.slice aC m cC) m (ints h.ct)) => markIntS_from base (.slice aC m cC) h.ct m wx (q + (n : Int)) (by omega) (by omega) hm2 k)
  obtain ⟨q1, hq⟩ : ∃ x, x = q + (n : Int) := ⟨_, rfl⟩
  have HQ := hide hq
  rw [← hq] at C1 C2
  clear ho BX g0 hW0 hIV hs0 iv iu hq
  obtain ⟨k0, k1, k2, k3⟩ := blk4 G0.out
  go_enter Try.func14, Try.ntmps14
  go_upto_region 1 with fail
  rw [← HW.out]
  go_wp2_with fail
  refine C1.out.mono ?_
  rintro e w1 ⟨rfl, ho1, _, hg1⟩
  have hne : (Value.slice aN n cN).ownBlock ≠ some w.heap.size := fun e => Nat.lt_irrefl _ (LB.out _ e)
  have g1 := (hg1.block w.heap.size HS0.out (fun e => hne e.symm)).trans G0.out
  have O1 := hide ho1
  have U1 := hide (own_pastO O0.out.oC hg1 (fun g e1 e2 => own_twoO O0.out.oN O0.out.oC st_int g e2 e1))
  have N1 := hide ((L8.Only.of_below (lo := base) (hi := hi) B0.out).grown hg1 (fun g hg => ⟨GN.out g hg, IVV.out g hg⟩))
  clear ho1 hg1 hne k0 k1 k2 k3
  obtain ⟨k0, k1, k2, k3⟩ := blk4 g1
  clear g1
  go_wp2_with fail
  refine (C2.out _ U1.out).mono ?_
  rintro e w2 ⟨rfl, ho2, _, hg2⟩
  have O2 := hide (OwH.mk (h := mkH q n m h) (own_pastO O1.out hg2 (fun g e1 e2 => own_twoO O1.out U1.out st_int g e1 e2)) (by rw [HQ.out] at ho2; exact ho2))
  have N2 := hide (N1.out.grown hg2 (fun g hg => ⟨GU.out g hg, IUU.out g hg⟩))
  clear ho2 hg2
  go_wp2
  go_ret
  exact ⟨by rw [HQ.out]; rfl, O2.out, N2.out⟩
set_option maxRecDepth 100000 in
set_option maxHeartbeats 2000000 in
theorem heldHeavy_any (a : Option Addr) (n c : Nat) (b : Option Addr) (m d : Nat) (G T : Int) (h : Hv) (w : World) (q : Int) (hq0 : 0 < q) (hq1 : q ≤ 10000000) (hn2 : n ≤ 1048576) (hm2 : m ≤ 1048576) (hf : HF w a b n m (mkH q n m h)) :
    Calls Try.prog 15 #[.agg #[.slice a n c, .slice b m d, .int .i64 G, .int .i64 T], .int .i64 q] w fun e w' => e = .returned (.int .i64 (q + (n : Int) + (m : Int))) ∧ Below w.heap.size w w' := by
  have BX := (Below.refl w.heap.size w).alloc (Nat.le_refl _) (hvO (.slice a n c) (.slice b m d) G T)
  have g0 := L8.blk_new w (hvO (.slice a n c) (.slice b m d) G T)
  obtain ⟨W0, hW0⟩ : ∃ W0, W0 = w.alloc (hvO (.slice a n c) (.slice b m d) G T) := ⟨_, rfl⟩
  rw [← hW0] at BX g0
  obtain ⟨k0, k1, k2, k3⟩ := blk4 g0
  have HW := hide hW0
  have B0 := hide BX
  have G0 := hide g0
  have F0 := hide (hf.below BX)
  have C1 := hide (heldStringS_from a n c W0 q hq0 (by omega) hn2 F0.out.sN)
  have C2 := hide (fun wx (hb : Below W0.heap.size W0 wx) => heldIntS_from b m d (q + (n : Int)) wx (by omega) (by omega) hm2 (F0.out.below hb).sC)
  obtain ⟨q1, hq⟩ : ∃ x, x = q + (n : Int) := ⟨_, rfl⟩
  have HQ := hide hq
  have hq2 : ¬ q1 < 0 := by omega
  have hq3 : ¬ q1 + (m : Int) < 0 := by omega
  rw [← hq] at C1 C2 ⊢
  clear hf BX g0 hW0 hq
  go_enter Try.func15, Try.ntmps15
  go_upto_region 1 with fail
  rw [← HW.out]
  go_wp2_with fail
  refine C1.out.mono ?_
  rintro e w1 ⟨rfl, hb⟩
  have B1 := hide hb
  clear hb k0 k1 k2 k3
  obtain ⟨k0, k1, k2, k3⟩ := blk4 (blk_kept G0.out B1.out)
  go_wp2_with fail
  refine (C2.out _ B1.out).mono ?_
  rintro e w2 ⟨rfl, hb⟩
  have B2 := hide (B0.out.trans ((B1.out.trans (hb.mono B1.out.size)).mono B0.out.size))
  clear hb
  go_wp2
  go_ret
  exact ⟨rfl, B2.out⟩
set_option maxRecDepth 100000 in
set_option maxHeartbeats 2000000 in
theorem toHeavy_any (a : Option Addr) (n c : Nat) (b : Option Addr) (m d : Nat) (G T : Int) (h : Hv) (w : World) (hn2 : n ≤ 1048576) (hm2 : m ≤ 1048576) (hf : HF w a b n m h) :
    Calls Try.prog 11 #[.agg #[.slice a n c, .slice b m d, .int .i64 G, .int .i64 T]] w fun e w' => ∃ x y, e = .returned (hvV (.slice (some ⟨x, 0, none⟩) n n) (.slice (some ⟨y, 0, none⟩) m m) G T) ∧ OwH w' w.heap.size (.slice (some ⟨x, 0, none⟩) n n) (.slice (some ⟨y, 0, none⟩) m m) n m h ∧ Below w.heap.size w w' := by
  obtain ⟨Z, hZ⟩ : ∃ x, x = hvO (.slice none 0 0) (.slice none 0 0) 0 0 := ⟨_, rfl⟩
  have e1 : (w.alloc (.cells #[.slice a n c, .slice b m d, .int .i64 G, .int .i64 T] 25 (0, 0))).heap.size = w.heap.size + 1 := by simp
  have e2 : ((w.alloc (.cells #[.slice a n c, .slice b m d, .int .i64 G, .int .i64 T] 25 (0, 0))).alloc Z).heap.size = w.heap.size + 2 := by simp
  have BX := (((Below.refl w.heap.size w).alloc (Nat.le_refl _) (.cells #[.slice a n c, .slice b m d, .int .i64 G, .int .i64 T] 25 (0, 0))).alloc (by simp) Z).alloc (by simp; omega) Z
  have q1 := L8.blk_new w (.cells #[.slice a n c, .slice b m d, .int .i64 G, .int .i64 T] 25 (0, 0))
  have q2 := L8.blk_new (w.alloc (.cells #[.slice a n c, .slice b m d, .int .i64 G, .int .i64 T] 25 (0, 0))) Z
  have q3 := L8.blk_new ((w.alloc (.cells #[.slice a n c, .slice b m d, .int .i64 G, .int .i64 T] 25 (0, 0))).alloc Z) Z
  have k2 := blk_kept q2 ((Below.refl _ _).alloc (Nat.le_refl _) Z)
  have k1 := blk_kept (blk_kept q1 ((Below.refl _ _).alloc (Nat.le_refl _) Z)) ((Below.refl _ _).alloc (Nat.le_refl _) Z)
  rw [e1] at k2
  rw [e2] at q3
  have ez : (((w.alloc (.cells #[.slice a n c, .slice b m d, .int .i64 G, .int .i64 T] 25 (0, 0))).alloc Z).alloc Z).heap.size = w.heap.size + 3 := by simp
  obtain ⟨W0, hW0⟩ : ∃ W0, W0 = ((w.alloc (.cells #[.slice a n c, .slice b m d, .int .i64 G, .int .i64 T] 25 (0, 0))).alloc Z).alloc Z := ⟨_, rfl⟩
  rw [← hW0] at BX q3 k1 k2 ez
  rw [hZ] at q3 k2 hW0
  have HW := hide hW0
  have B0 := hide BX
  have K1 := hide k1
  have K2 := hide k2
  have K3 := hide q3
  have EZ := hide ez
  have F0 := hide (hf.below BX)
  have HFW := hide hf
  have C1 := hide (toStringS_any a h.nm n c W0 F0.out.ln F0.out.sN hn2)
  have C2 := hide (fun wx (k : Sl wx b h.ct) => toIntS_any b h.ct m d wx F0.out.lc k hm2)
  clear BX hW0 q1 q2 q3 k1 k2 e1 e2 ez hZ hf
  obtain ⟨p0, p1, p2, p3⟩ := blk4 K1.out
  go_enter Try.func11, Try.ntmps11
  go_upto_region 2 with fail
  rw [← HW.out]
  go_wp2_with fail
  refine C1.out.mono ?_
  rintro e w1 ⟨rfl, ho1, hb1⟩
  have O1 := hide ho1
  have B1 := hide hb1
  clear ho1 hb1 p0 p1 p2 p3
  obtain ⟨y0, y1, y2, y3⟩ := blk4 (blk_kept K3.out B1.out)
  obtain ⟨f0, f1, f2, f3⟩ := frz4 (blk_kept K3.out B1.out)
  go_upto_region 3 with fail
  clear y0 y1 y2 y3 f0 f1 f2 f3
  obtain ⟨w2, hw2⟩ : ∃ x, x = w1.setCell ⟨w.heap.size + 1 + 1, 0, none⟩ (.slice (some ⟨W0.heap.size, 0, none⟩) n n) := ⟨_, rfl⟩
  have HW2 := hide hw2
  have S2 := hide (show w1.heap.size ≤ w2.heap.size by rw [hw2]; simp)
  have R2 := hide (show w2.heap[w.heap.size + 2]? = some (hvO (.slice (some ⟨W0.heap.size, 0, none⟩) n n) (.slice none 0 0) 0 0) by rw [hw2]; exact heap_boxO (blk_kept K3.out B1.out) 0 _)
  have A2 := hide (show ∀ g, g < W0.heap.size → g ≠ w.heap.size + 2 → w2.heap[g]? = W0.heap[g]? from fun g hg hne => by rw [hw2]; exact (Below.heap_setCell _ _ _ _ (show g ≠ w.heap.size + 1 + 1 by omega)).trans (B1.out.block g hg))
  have O2 := hide (show w2.ownsRow W0.heap.size 9 1 (.slice (some ⟨W0.heap.size, 0, none⟩) n n) n (mapS h.nm) by rw [hw2]; exact L8.own_setC O1.out _ _ (by show w.heap.size + 1 + 1 < W0.heap.size; have := EZ.out; omega))
  have B2 := hide (show Below w.heap.size w w2 by rw [hw2]; exact (B0.out.trans (B1.out.mono B0.out.size)).setCell (p := ⟨w.heap.size + 1 + 1, 0, none⟩) (by show w.heap.size ≤ w.heap.size + 1 + 1; omega) _)
  have hc2 := C2.out w2 (HFW.out.sC.below B2.out)
  have hc3 := hide hc2
  obtain ⟨p0, p1, p2, p3⟩ := blk4 ((A2.out w.heap.size (by have := EZ.out; omega) (by omega)).trans K1.out)
  rw [← HW2.out]
  clear hw2 hc2
  go_wp2_with fail
  refine hc3.out.mono ?_
  rintro e w3 ⟨rfl, ho3, hb3⟩
  have O3 := hide ho3
  have E3 := hide hb3
  have B3 := hide (B2.out.trans (hb3.mono B2.out.size))
  clear ho3 hb3 p0 p1 p2 p3 hc3
  obtain ⟨y0, y1, y2, y3⟩ := blk4 (blk_kept R2.out E3.out)
  obtain ⟨f0, f1, f2, f3⟩ := frz4 (blk_kept R2.out E3.out)
  obtain ⟨p0, p1, p2, p3⟩ := blk4 (blk_kept ((A2.out w.heap.size (by have := EZ.out; omega) (by omega)).trans K1.out) E3.out)
  obtain ⟨z0, z1, z2, z3⟩ := blk4 (blk_kept ((A2.out (w.heap.size + 1) (by have := EZ.out; omega) (by omega)).trans K2.out) E3.out)
  obtain ⟨x, hx⟩ : ∃ x, x = W0.heap.size := ⟨_, rfl⟩
  obtain ⟨y, hy⟩ : ∃ y, y = w2.heap.size := ⟨_, rfl⟩
  have OO := hide (OwH.mk (w := w3) (base := w.heap.size + 3) (v := .slice (some ⟨x, 0, none⟩) n n) (u := .slice (some ⟨y, 0, none⟩) m m) (n := n) (m := m) (h := h) (by rw [hx]; exact own_baseS (own_belO O2.out E3.out) (by have := EZ.out; omega)) (by rw [hy]; exact own_baseS O3.out (by have h1 := EZ.out; have h2 := S2.out; have h3 := B1.out.size; omega)))
  rw [← hx, ← hy]
  rw [← hx] at y0
  have XHX := hide hx
  clear hx
  clear hy
  go_upto_region 6 with fail
  obtain ⟨w4, hw4⟩ : ∃ q, q = ((w3.setCell ⟨w.heap.size + 1 + 1, 1, none⟩ (.slice (some ⟨y, 0, none⟩) m m)).setCell ⟨w.heap.size + 1 + 1, 2, none⟩ (.int .i64 G)).setCell ⟨w.heap.size + 1 + 1, 3, none⟩ (.int .i64 T) := ⟨_, rfl⟩
  rw [← hw4]
  have R4 : w4.heap[w.heap.size + 1 + 1]? = some (hvO (.slice (some ⟨x, 0, none⟩) n n) (.slice (some ⟨y, 0, none⟩) m m) G T) := by rw [hw4, XHX.out]; exact heap_boxO (heap_boxO (heap_boxO (blk_kept R2.out E3.out) 1 _) 2 _) 3 _
  have R5 : w4.heap[w.heap.size + 1]? = some (hvO (.slice none 0 0) (.slice none 0 0) 0 0) := by
    rw [hw4]
    refine (Below.heap_setCell _ _ _ _ (show w.heap.size + 1 ≠ w.heap.size + 1 + 1 by omega)).trans ((Below.heap_setCell _ _ _ _ (show w.heap.size + 1 ≠ w.heap.size + 1 + 1 by omega)).trans ((Below.heap_setCell _ _ _ _ (show w.heap.size + 1 ≠ w.heap.size + 1 + 1 by omega)).trans ?_))
    exact blk_kept ((A2.out (w.heap.size + 1) (by have := EZ.out; omega) (by omega)).trans K2.out) E3.out
  have O4 := hide (show OwH w4 (w.heap.size + 3) (.slice (some ⟨x, 0, none⟩) n n) (.slice (some ⟨y, 0, none⟩) m m) n m h by
    rw [hw4]
    have lt3 : w.heap.size + 1 + 1 < w.heap.size + 3 := by omega
    exact ((OO.out.setC ⟨_, _, none⟩ _ lt3).setC ⟨_, _, none⟩ _ lt3).setC ⟨_, _, none⟩ _ lt3)
  have B4 := hide (show Below w.heap.size w w4 by
    rw [hw4]
    have le2 : w.heap.size ≤ w.heap.size + 1 + 1 := by omega
    exact ((B3.out.setCell (p := ⟨_, _, none⟩) le2 _).setCell (p := ⟨_, _, none⟩) le2 _).setCell (p := ⟨_, _, none⟩) le2 _)
  clear hw4 y0 y1 y2 y3 f0 f1 f2 f3 p0 p1 p2 p3 z0 z1 z2 z3
  obtain ⟨y0, y1, y2, y3⟩ := blk4 R4
  obtain ⟨z0, z1, z2, z3⟩ := blk4 R5
  obtain ⟨f0, f1, f2, f3⟩ := frz4 R5
  have O5 := hide (O4.out.setC4 (w.heap.size + 1) (by omega) (.slice (some ⟨x, 0, none⟩) n n) (.slice (some ⟨y, 0, none⟩) m m) (.int .i64 G) (.int .i64 T))
  have B5 := hide (below4 B4.out (w.heap.size + 1) (by omega) (.slice (some ⟨x, 0, none⟩) n n) (.slice (some ⟨y, 0, none⟩) m m) (.int .i64 G) (.int .i64 T))
  obtain ⟨d0, d1, d2, d3⟩ := blk4 (set4 (a' := .slice (some ⟨x, 0, none⟩) n n) (b' := .slice (some ⟨y, 0, none⟩) m m) (c' := .int .i64 G) (d' := .int .i64 T) R5)
  clear R4 R5
  go_wp2
  refine bodyPost_ret (v := hvV (.slice (some ⟨x, 0, none⟩) n n) (.slice (some ⟨y, 0, none⟩) m m) G T) (by simp [results, Try.f11, go_sem, d0, d1, d2, d3]) rfl ⟨x, y, rfl, O5.out.toBase (by omega), B5.out⟩
end Go.Proofs.Yticgejaaoamhmao.L15H
