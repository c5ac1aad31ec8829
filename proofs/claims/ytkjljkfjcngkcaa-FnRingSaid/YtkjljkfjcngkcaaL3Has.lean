/-
  Contracts: impl.hasTokens, spec.l3Owns: whether an owner has tokens; impl.DropOwner, spec.DropOwner: a ring without those of an owner, in new memory.
-/
import Derived.Test.YtkjljkfjcngkcaaL3SpecRing
import Derived.Maps.AppendAt
namespace Go.Proofs.Ytkjljkfjcngkcaa.L3
open Go.RowKit L1
set_option linter.unusedVariables false

theorem cell_two_newT (w : World) (p q : Value) (t : TypeId) : ∀ j u, [p, q][j]? = some u → (w.alloc (.cells #[p, q] t)).cell? ((⟨w.heap.size, 0, none⟩ : Addr).add j) = some u := by
  intro j u h
  rw [addr_add]
  match j, h with
  | 0, h => simp at h; subst h; simp
  | 1, h => simp at h; subst h; simp
  | j + 2, h => simp at h
theorem cell_two_new2 (w : World) (o : Obj) (p q : Value) (t : TypeId) : ∀ j u, [p, q][j]? = some u → ((w.alloc o).alloc (.cells #[p, q] t)).cell? ((⟨w.heap.size + 1, 0, none⟩ : Addr).add j) = some u := by
  intro j u h
  have := cell_two_newT (w.alloc o) p q t j u h
  simpa using this
theorem below_appT {B : Nat} {wa wr w3 : World} {v : Option Nat} (hB : B ≤ wr.heap.size) (hg : wa.grownBy w3 v) (hb : Below B wr wa) (hv : ∀ g, v = some g → B ≤ g) (hs : B ≤ wa.heap.size) : Below B wr w3 :=
  hb.grown hg hs hv
theorem keepT (l : List (Int × Int)) (f : Int × Int → Bool) (k : Nat) (hk : k < l.length) : (l.take (k + 1)).filter f = (l.take k).filter f ++ [l.getD k (0, 0)].filter f := by
  rw [List.take_succ_eq_append_getElem hk, List.filter_append]
  simp [List.getD, List.getElem?_eq_getElem hk]
/-- An owner has tokens. -/
def HasO (l : List (Int × Int)) (o : Int) : Prop := ∃ j, j < l.length ∧ (l.getD j (0, 0)).2 = o
/-- A ring without the tokens of an owner. -/
def dropL (l : List (Int × Int)) (o : Int) : List (Int × Int) := l.filter fun p => p.2 != o
open Classical in
noncomputable def dropRes (l : List (Int × Int)) (o : Int) : Option (List (Int × Int)) := if GoodT l ∧ HasO l o then some (dropL l o) else none
theorem dropRes_len (l : List (Int × Int)) (o : Int) : ((dropRes l o).getD []).length ≤ 40 := by
  unfold dropRes
  split
  · rename_i h
    have h1 := h.1.1
    have h2 := List.length_filter_le (fun p : Int × Int => p.2 != o) l
    simp only [Option.getD_some, dropL]
    omega
  · simp

set_option maxRecDepth 100000 in
set_option maxHeartbeats 1000000 in
theorem hasTokens_any (a : Option Addr) (l : List (Int × Int)) (n cap : Nat) (o : Int) (w : World) (hn : l.length = n) (hs : Sl2 w a l) (hn2 : n ≤ 1048576) (bb : Bool) (hbb : bb = true ↔ HasO l o) :
    Calls Try.prog 25 #[.slice a n cap, .int .i64 o] w fun e w' => e = .returned (.bool bb) ∧ Below w.heap.size w w' := by
  have HS := hide hs
  have HN := hide hn
  have HBB := hide hbb
  clear hs hn hbb
  go_enter Try.func25, Try.ntmps25
  go_wp2
  go_loopw [9] (fun i wr => ∃ k : Nat, k ≤ n ∧ i = .int .i64 k ∧ Hid (∀ j, j < k → (l.getD j (0, 0)).2 ≠ o) ∧ Below w.heap.size w wr) (fun i _ => n - (intOf i).toNat)
  case atStart => exact ⟨0, Nat.zero_le _, rfl, fun j hj => absurd hj (Nat.not_lt_zero _), Below.refl _ _⟩
  case round =>
    obtain ⟨k, hk, rfl, HJ, hbel⟩ := hrel
    by_cases hlt : k < n
    · obtain ⟨b, off, rfl, hc0, hd0⟩ := HS.out k (by rw [HN.out]; exact hlt)
      have hc := (hbel.cell (p := ⟨b, off + k * 2, none⟩) (blk_lt hc0)).trans hc0
      have hd := (hbel.cell (p := ⟨b, off + k * 2 + 1, none⟩) (blk_lt hd0)).trans hd0
      have hltI : (k : Int) < (n : Int) := by omega
      obtain ⟨x, hx⟩ : ∃ x, x = (l.getD k (0, 0)).1 := ⟨_, rfl⟩
      obtain ⟨y, hy⟩ : ∃ y, y = (l.getD k (0, 0)).2 := ⟨_, rfl⟩
      rw [← hx] at hc
      rw [← hy] at hd
      have HXY := hide hy.symm
      have B0 := hide hbel
      clear hc0 hd0 hx hy hbel
      by_cases hle : y = o
      · have e : bb = true := HBB.out.2 ⟨k, by rw [HN.out]; exact hlt, by rw [HXY.out]; exact hle⟩
        subst hle
        have E := hide e
        clear e
        go_wp2
        go_ret
        exact ⟨by rw [E.out]; rfl, B0.out.alloc B0.out.size _⟩
      · have hle' : (y == o) = false := by simpa using hle
        have HLE := hide hle
        clear hle
        go_wp2
        go_roundw
        case rel =>
          refine ⟨k + 1, by omega, by go_num, ?_, B0.out.alloc B0.out.size _⟩
          intro j hj
          by_cases e : j = k
          · subst e; rw [HXY.out]; exact HLE.out
          · exact HJ.out j (by omega)
        case measure => simp [intOf]; omega
    · have hltI : ¬ (k : Int) < (n : Int) := by omega
      have e : bb = false := bool_noT HBB.out (fun ⟨j, hj, h⟩ => HJ.out j (by rw [HN.out] at hj; omega) h)
      have E := hide e
      clear e
      go_wp2
      go_ret
      exact ⟨by rw [E.out]; rfl, hbel⟩

set_option maxRecDepth 100000 in
set_option maxHeartbeats 1000000 in
theorem l3Owns_any (a : Option Addr) (l : List (Int × Int)) (n cap : Nat) (o : Int) (w : World) (hn : l.length = n) (hs : Sl2 w a l) (hn2 : n ≤ 1048576) (bb : Bool) (hbb : bb = true ↔ HasO l o) :
    Calls Try.prog 31 #[.slice a n cap, .int .i64 o] w fun e w' => e = .returned (.bool bb) ∧ Below w.heap.size w w' := by
  have HS := hide hs
  have HN := hide hn
  have HBB := hide hbb
  clear hs hn hbb
  go_enter Try.func31, Try.ntmps31
  go_wp2
  go_loopw [9] (fun i wr => ∃ k : Nat, k ≤ n ∧ i = .int .i64 k ∧ Hid (∀ j, j < k → (l.getD j (0, 0)).2 ≠ o) ∧ Below w.heap.size w wr) (fun i _ => n - (intOf i).toNat)
  case atStart => exact ⟨0, Nat.zero_le _, rfl, fun j hj => absurd hj (Nat.not_lt_zero _), Below.refl _ _⟩
  case round =>
    obtain ⟨k, hk, rfl, HJ, hbel⟩ := hrel
    by_cases hlt : k < n
    · obtain ⟨b, off, rfl, hc0, hd0⟩ := HS.out k (by rw [HN.out]; exact hlt)
      have hc := (hbel.cell (p := ⟨b, off + k * 2, none⟩) (blk_lt hc0)).trans hc0
      have hd := (hbel.cell (p := ⟨b, off + k * 2 + 1, none⟩) (blk_lt hd0)).trans hd0
      have hltI : (k : Int) < (n : Int) := by omega
      obtain ⟨x, hx⟩ : ∃ x, x = (l.getD k (0, 0)).1 := ⟨_, rfl⟩
      obtain ⟨y, hy⟩ : ∃ y, y = (l.getD k (0, 0)).2 := ⟨_, rfl⟩
      rw [← hx] at hc
      rw [← hy] at hd
      have HXY := hide hy.symm
      have B0 := hide hbel
      clear hc0 hd0 hx hy hbel
      by_cases hle : y = o
      · have e : bb = true := HBB.out.2 ⟨k, by rw [HN.out]; exact hlt, by rw [HXY.out]; exact hle⟩
        subst hle
        have E := hide e
        clear e
        go_wp2
        go_ret
        exact ⟨by rw [E.out]; rfl, B0.out.alloc B0.out.size _⟩
      · have hle' : (y == o) = false := by simpa using hle
        have HLE := hide hle
        clear hle
        go_wp2
        go_roundw
        case rel =>
          refine ⟨k + 1, by omega, by go_num, ?_, B0.out.alloc B0.out.size _⟩
          intro j hj
          by_cases e : j = k
          · subst e; rw [HXY.out]; exact HLE.out
          · exact HJ.out j (by omega)
        case measure => simp [intOf]; omega
    · have hltI : ¬ (k : Int) < (n : Int) := by omega
      have e : bb = false := bool_noT HBB.out (fun ⟨j, hj, h⟩ => HJ.out j (by rw [HN.out] at hj; omega) h)
      have E := hide e
      clear e
      go_wp2
      go_ret
      exact ⟨by rw [E.out]; rfl, hbel⟩

end Go.Proofs.Ytkjljkfjcngkcaa.L3
