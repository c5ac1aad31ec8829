/-
  Contract: strings.splitSeq at a separator of one byte hands out the parts of a text one by one, whatever the loop's body does that keeps the iterator's own three variables.
-/
import Derived.Test.YthagpceagifjnaaDoorL3ReadMath
import Derived.Test.YthagpceagifjnaaDoorL3Index
import Derived.RangeFuncBox
import Derived.RangeFuncNested
import Derived.RangeFuncBound
import Derived.RangeFuncCalls
import Derived.RangeFuncLeaves
import Derived.Shelf.Abstract
import Derived.Shelf.RegionOpen
import Derived.OwnWalkIn
import Derived.TacticsInMore
import Derived.LoopNIn
import Derived.LoopIn
namespace Go.Proofs.YthagpceagifjnaaDoor.L3
open Go.RowKit Go.Shelf L1
attribute [local go_sem] Oper.semAt_some
set_option linter.unusedVariables false

/-- The iterator's three variables lie as they lay. -/
def Kp3 (Bs : Nat) (A B : World) : Prop := ∀ k, Bs ≤ k → k < Bs + 3 → B.heap[k]? = A.heap[k]?
def curSize (Bs : Nat) (w : World) : Nat := match w.cell? ⟨Bs, 0, none⟩ with
  | some (.string x) => x.size
  | _ => 0
/-- The three variables. -/
structure It3 (Bs : Nat) (c : UInt8) (x : ByteArray) (w : World) : Prop where
  cur : Boxed w Bs 9 (.string x)
  sep : Boxed w (Bs + 1) 9 (.string ⟨#[c]⟩)
  sav : Boxed w (Bs + 2) 3 (.int .i64 0)
theorem It3.kept {Bs : Nat} {c : UInt8} {x : ByteArray} {w w' : World} (h : It3 Bs c x w) (hk : Kp3 Bs w w') : It3 Bs c x w' :=
  ⟨(hk Bs (by omega) (by omega)).trans h.cur, (hk (Bs + 1) (by omega) (by omega)).trans h.sep, (hk (Bs + 2) (by omega) (by omega)).trans h.sav⟩
theorem It3.set {Bs : Nat} {c : UInt8} {x : ByteArray} {w : World} (h : It3 Bs c x w) (y : ByteArray) : It3 Bs c y (w.setCell ⟨Bs, 0, none⟩ (.string y)) :=
  ⟨h.cur.set _, h.sep.other (by omega) _, h.sav.other (by omega) _⟩
theorem It3.size {Bs : Nat} {c : UInt8} {x : ByteArray} {w : World} (h : It3 Bs c x w) : curSize Bs w = x.size := by unfold curSize; rw [h.cur.cell]

set_option maxRecDepth 100000 in
set_option maxHeartbeats 2000000 in
theorem split1_in (n : Nat) (hn : 1 ≤ n) (l Bs : Nat) (s : ByteArray) (c : UInt8) (hs : s.size ≤ 1048576) (J Jx : List ByteArray → World → Prop) (hst : ∀ pre A (y : ByteArray), J pre A → J pre (A.setCell ⟨Bs, 0, none⟩ (.string y)))
    (hY : ∀ pre x W, J pre W → pre ++ [x] <+: parts c s → YieldAt Fence.wide (n - 1) Tryd.prog l #[.string x] W fun e W' =>
      (e = .returned (.bool true) ∧ J (pre ++ [x]) W' ∧ Kp3 Bs W W') ∨ (e = .returned (.bool false) ∧ Jx (pre ++ [x]) W'))
    (W : World) (hW : It3 Bs c s W) (h0 : J [] W) :
    CallsIn Fence.wide n Tryd.prog 163 #[.func (.yield l) #[] #[], .pointer (some ⟨Bs + 1, 0, none⟩), .pointer (some ⟨Bs, 0, none⟩), .pointer (some ⟨Bs + 2, 0, none⟩)] W fun e W' => (∃ v, e = .returned v) ∧
      (J (parts c s) W' ∨ ∃ pre, pre <+: parts c s ∧ Jx pre W') := by
  have HST := hide hst
  have HY := hide hY
  have HS0 : Hid (([] : List ByteArray) ++ parts c (s.extract 0 s.size) = parts c s) := hide (by rw [ByteArray.extract_zero_size]; rfl)
  have HW0 : Hid (It3 Bs c (s.extract 0 s.size) W) := hide (by rw [ByteArray.extract_zero_size]; exact hW)
  have hc2 := hW.sep.cell
  have hro : Fence.wide.round = none := rfl
  clear hst hY
  refine callsIn_of_wp Tryd.func163 rfl trivial ?_ rfl
  simp only [Tryd.ntmps163, List.size_toArray, List.length_cons, List.length_nil, Nat.reduceAdd, Nat.reduceSub, Array.replicate_succ, Array.replicate_zero, List.push_toArray, List.append_toArray, List.nil_append, List.cons_append]
  gi_wp2
  gi_loopw [7] (fun _ wr => ∃ (f : Nat) (done : List ByteArray), f ≤ s.size ∧ Hid (It3 Bs c (s.extract f s.size) wr) ∧ Hid (done ++ parts c (s.extract f s.size) = parts c s) ∧ Hid (J done wr))
    (fun _ wr => curSize Bs wr)
  case atStart => exact ⟨0, [], Nat.zero_le _, HW0, HS0, h0⟩
  case round =>
    obtain ⟨f, done, hf, HI, HP, HJ⟩ := hrel
    have hz1 := HI.out.cur.cell
    have hz2 := HI.out.sep.cell
    have hz3 := HI.out.sav.cell
    have hz4 := HI.out.cur.frozen
    have hsz := HI.out.size
    have hxs : (s.extract f s.size).size = s.size - f := by rw [ByteArray.size_extract]; omega
    obtain ⟨x, hx⟩ : ∃ x, x = s.extract f s.size := ⟨_, rfl⟩
    rw [← hx] at hz1 hsz hxs HI HP
    have HX := hide hx
    have HXS := hide hxs
    have HSZ := hide hsz
    have hxc : (x.size : Int) ≤ 1048576 := by omega
    have CI := hide (fun m W => (callsIn_wide (n := m)).2 (index_one x c W))
    rcases idx_parts c x with ⟨hi, hp⟩ | ⟨i, hi, hlt, hp⟩
    · have hlast : done ++ [x] = parts c s := by rw [← HP.out, hp]
      have hlen : done ++ [x] <+: parts c s := by rw [hlast]; exact List.prefix_refl _
      have HLA := hide hlast
      obtain ⟨fn, tmps, assign, body, hy, hR⟩ := HY.out done x wr HJ.out hlen
      clear hlast hlen hp hsz hx hxs
      gi_wp2_with fail
      refine ⟨trivial, (CI.out _ _).mono ?_⟩
      rintro e w' ⟨rfl, rfl⟩
      rw [hi]
      gi_wp2
      refine hR.mono ?_
      rintro e W3 (⟨rfl, hJ3, hk3⟩ | ⟨rfl, hJx3⟩)
      · gi_wp2
        go_end0
        exact ⟨⟨_, rfl⟩, .inl (by rw [← HLA.out]; exact hJ3)⟩
      · gi_wp2
        go_end0
        exact ⟨⟨_, rfl⟩, .inr ⟨_, by rw [HLA.out]; exact List.prefix_refl _, hJx3⟩⟩
    · have hx2 : x.extract (i + 1) x.size = s.extract (f + (i + 1)) s.size := by rw [hx]; exact ext_ext s f (i + 1) hf
      have hnext : (done ++ [x.extract 0 i]) ++ parts c (s.extract (f + (i + 1)) s.size) = parts c s := by
        rw [← HP.out, hp, ← hx2, List.append_assoc]; rfl
      have hpre : (done ++ [x.extract 0 i]) <+: parts c s := ⟨_, hnext⟩
      have hlen := hpre
      have HN := hide hnext
      have HPRE := hide hpre
      have HX2 := hide hx2
      have hf2 : f + (i + 1) ≤ s.size := by omega
      obtain ⟨fn, tmps, assign, body, hy, hR⟩ := HY.out done (x.extract 0 i) wr HJ.out hlen
      have c1 : (0 : Int) ≤ (i : Int) := by omega
      have c2 : (i : Int) ≤ (x.size : Int) := by omega
      have c3 : (i : Int) + 1 ≤ (x.size : Int) := by omega
      clear hlen hp hnext hpre hx2 hx hxs hsz
      gi_wp2_with fail
      refine ⟨trivial, (CI.out _ _).mono ?_⟩
      rintro e w' ⟨rfl, rfl⟩
      rw [hi]
      gi_wp2
      refine hR.mono ?_
      rintro e W3 (⟨rfl, hJ3, hk3⟩ | ⟨rfl, hJx3⟩)
      · have HI3 := hide (HI.out.kept hk3)
        have HI4 := hide (HI3.out.set (s.extract (f + (i + 1)) s.size))
        have y1 := HI3.out.cur.cell
        have y2 := HI3.out.sep.cell
        have y3 := HI3.out.cur.frozen
        have HJ4 := hide (HST.out _ _ (s.extract (f + (i + 1)) s.size) hJ3)
        have hms := HI4.out.size
        rw [ByteArray.size_extract] at hms
        have HMS := hide hms
        rw [← HX2.out] at HI4 HJ4 HMS
        clear hJ3 hk3 hms
        gi_wp2
        go_roundw
        case rel => exact ⟨f + (i + 1), done ++ [x.extract 0 i], hf2, by rw [← HX2.out]; exact HI4, HN, HJ4⟩
        case measure => rw [HMS.out, HSZ.out]; have := HXS.out; omega
      · gi_wp2
        refine bodyPost_ret (results_none rfl _ _ _) rfl ?_
        exact ⟨⟨_, rfl⟩, .inr ⟨_, HPRE.out, hJx3⟩⟩
end Go.Proofs.YthagpceagifjnaaDoor.L3
