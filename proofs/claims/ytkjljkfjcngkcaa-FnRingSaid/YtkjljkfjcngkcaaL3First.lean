/-
  Contracts: impl.tokenFor, spec.l3Ring, spec.l3First: the number of the token for a hash; impl.OwnerOf and spec.OwnerOf: its owner.
-/
import Derived.Test.YtkjljkfjcngkcaaL3SpecRing
namespace Go.Proofs.Ytkjljkfjcngkcaa.L3
open Go.RowKit L1
set_option linter.unusedVariables false

/-- The number of the first token at a hash or behind it. -/
def fi (h : Int) : List (Int × Int) → Option Nat
  | [] => none
  | p :: l => if h ≤ p.1 then some 0 else (fi h l).map (· + 1)
/-- Behind the last token comes the first. -/
def fst (l : List (Int × Int)) (h : Int) : Nat := (fi h l).getD 0
theorem fi_found {h : Int} : ∀ (l : List (Int × Int)) (k : Nat), k < l.length → (∀ j, j < k → (l.getD j (0, 0)).1 < h) → h ≤ (l.getD k (0, 0)).1 → fi h l = some k
  | [], k, hk, _, _ => by simp at hk
  | p :: l, 0, _, _, h2 => by
    have h2 : h ≤ p.1 := h2
    simp [fi, h2]
  | p :: l, k + 1, hk, h1, h2 => by
    have h0 : p.1 < h := h1 0 (by omega)
    have := fi_found l k (by simpa using hk) (fun j hj => by have := h1 (j + 1) (by omega); simpa using this) (by simpa using h2)
    unfold fi
    rw [if_neg (by omega), this]
    rfl
theorem fi_none {h : Int} : ∀ (l : List (Int × Int)), (∀ j, j < l.length → (l.getD j (0, 0)).1 < h) → fi h l = none
  | [], _ => rfl
  | p :: l, h1 => by
    have h0 : p.1 < h := h1 0 (by simp)
    have := fi_none l (fun j hj => by have := h1 (j + 1) (by simp; omega); simpa using this)
    unfold fi
    rw [if_neg (by omega), this]
    rfl
theorem fi_lt {h : Int} : ∀ (l : List (Int × Int)) (k : Nat), fi h l = some k → k < l.length
  | [], k, hk => by simp [fi] at hk
  | p :: l, k, hk => by
    unfold fi at hk
    split at hk
    · cases hk; simp
    · cases hl : fi h l with
      | none => rw [hl] at hk; simp at hk
      | some j =>
        rw [hl] at hk
        have := fi_lt l j hl
        simp at hk
        simp
        omega
theorem fst_lt (l : List (Int × Int)) (h : Int) (hl : 0 < l.length) : fst l h < l.length := by
  unfold fst
  cases e : fi h l with
  | none => simpa using hl
  | some k => exact fi_lt l k e
theorem fst_found {l : List (Int × Int)} {h : Int} {k : Nat} (hk : k < l.length) (h1 : ∀ j, j < k → (l.getD j (0, 0)).1 < h) (h2 : h ≤ (l.getD k (0, 0)).1) : fst l h = k := by
  unfold fst; rw [fi_found l k hk h1 h2]; rfl
theorem fst_none {l : List (Int × Int)} {h : Int} (h1 : ∀ j, j < l.length → (l.getD j (0, 0)).1 < h) : fst l h = 0 := by
  unfold fst; rw [fi_none l h1]; rfl
/-- What a hash is asked of. -/
def RingAsk (l : List (Int × Int)) (h : Int) : Prop := 0 < l.length ∧ GoodT l ∧ 0 ≤ h ∧ h ≤ 1008

set_option maxRecDepth 100000 in
set_option maxHeartbeats 1000000 in
theorem l3First_any (a : Option Addr) (l : List (Int × Int)) (n cap : Nat) (h : Int) (w : World) (hn : l.length = n) (hs : Sl2 w a l) (hn2 : n ≤ 1048576) :
    Calls Try.prog 36 #[.slice a n cap, .int .i64 h] w fun e w' => e = .returned (.int .i64 (fst l h : Nat)) ∧ Below w.heap.size w w' := by
  have HS := hide hs
  have HN := hide hn
  clear hs hn
  go_enter Try.func36, Try.ntmps36
  go_wp2
  go_loopw [9] (fun i wr => ∃ k : Nat, k ≤ n ∧ i = .int .i64 k ∧ Hid (∀ j, j < k → (l.getD j (0, 0)).1 < h) ∧ Below w.heap.size w wr) (fun i _ => n - (intOf i).toNat)
  case atStart => exact ⟨0, Nat.zero_le _, rfl, fun j hj => absurd hj (Nat.not_lt_zero _), Below.refl _ _⟩
  case round =>
    obtain ⟨k, hk, rfl, HJ, hbel⟩ := hrel
    by_cases hlt : k < n
    · obtain ⟨b, off, rfl, hc0, hd0⟩ := HS.out k (by rw [HN.out]; exact hlt)
      have hc := (hbel.cell (p := ⟨b, off + k * 2, none⟩) (blk_lt hc0)).trans hc0
      have hd := (hbel.cell (p := ⟨b, off + k * 2 + 1, none⟩) (blk_lt hd0)).trans hd0
      have hltI : (k : Int) < (n : Int) := by omega
      obtain ⟨x, hx⟩ : ∃ x, x = (l.getD k (0, 0)).1 := ⟨_, rfl⟩
      obtain ⟨y, hy⟩ : ∃ y, y = (l.getD k (0, 0)).2 := ⟨_, rfl⟩
      rw [← hx] at hc
      rw [← hy] at hd
      have HXY := hide hx.symm
      have B0 := hide hbel
      clear hc0 hd0 hx hy hbel
      by_cases hle : h ≤ x
      · have e : fst l h = k := fst_found (by rw [HN.out]; exact hlt) HJ.out (by rw [HXY.out]; exact hle)
        have E := hide e
        clear e
        go_wp2
        go_ret
        exact ⟨by rw [E.out]; rfl, B0.out.alloc B0.out.size _⟩
      · go_wp2
        go_roundw
        case rel =>
          refine ⟨k + 1, by omega, by go_num, ?_, B0.out.alloc B0.out.size _⟩
          intro j hj
          by_cases e : j = k
          · subst e; rw [HXY.out]; omega
          · exact HJ.out j (by omega)
        case measure => simp [intOf]; omega
    · have hltI : ¬ (k : Int) < (n : Int) := by omega
      have e : fst l h = 0 := fst_none (fun j hj => HJ.out j (by rw [HN.out] at hj; omega))
      have E := hide e
      clear e
      go_wp2
      go_ret
      exact ⟨by rw [E.out]; rfl, hbel⟩

set_option maxRecDepth 100000 in
set_option maxHeartbeats 1000000 in
theorem tokenFor_yes (a : Option Addr) (l : List (Int × Int)) (n cap : Nat) (h : Int) (w : World) (hn : l.length = n) (hs : Sl2 w a l) (hn2 : n ≤ 1048576) (hr : RingAsk l h) :
    Calls Try.prog 33 #[.slice a n cap, .int .i64 h] w fun e w' => e = .returned (.tuple #[.int .i64 (fst l h : Nat), .bool true]) ∧ Below w.heap.size w w' := by
  obtain ⟨h0, hg, hp⟩ := hr
  have C1 := hide (goodRing_any a l n cap w hn hs hn2 true (by simp [hg]))
  have C2 := hide (fun w => isPlace_any h w true (by simp [hp]))
  have hne : ((n : Int) == 0) = false := by simp; omega
  have HS := hide hs
  have HN := hide hn
  clear hs hn hg hp h0
  go_enter Try.func33, Try.ntmps33
  go_wp2_with fail
  refine C1.out.mono ?_
  rintro e w1 ⟨rfl, hb1⟩
  have B1 := hide hb1
  clear hb1
  go_wp2_with fail
  refine (C2.out _).mono ?_
  rintro e w2 ⟨rfl, rfl⟩
  go_wp2
  go_loopw [23] (fun i wr => ∃ k : Nat, k ≤ n ∧ i = .int .i64 k ∧ Hid (∀ j, j < k → (l.getD j (0, 0)).1 < h) ∧ Below w.heap.size w wr) (fun i _ => n - (intOf i).toNat)
  case atStart => exact ⟨0, Nat.zero_le _, rfl, fun j hj => absurd hj (Nat.not_lt_zero _), B1.out⟩
  case round =>
    obtain ⟨k, hk, rfl, HJ, hbel⟩ := hrel
    by_cases hlt : k < n
    · obtain ⟨b, off, rfl, hc0, hd0⟩ := HS.out k (by rw [HN.out]; exact hlt)
      have hc := (hbel.cell (p := ⟨b, off + k * 2, none⟩) (blk_lt hc0)).trans hc0
      have hd := (hbel.cell (p := ⟨b, off + k * 2 + 1, none⟩) (blk_lt hd0)).trans hd0
      have hltI : (k : Int) < (n : Int) := by omega
      obtain ⟨x, hx⟩ : ∃ x, x = (l.getD k (0, 0)).1 := ⟨_, rfl⟩
      obtain ⟨y, hy⟩ : ∃ y, y = (l.getD k (0, 0)).2 := ⟨_, rfl⟩
      rw [← hx] at hc
      rw [← hy] at hd
      have HXY := hide hx.symm
      have B0 := hide hbel
      clear hc0 hd0 hx hy hbel
      by_cases hle : h ≤ x
      · have e : fst l h = k := fst_found (by rw [HN.out]; exact hlt) HJ.out (by rw [HXY.out]; exact hle)
        have E := hide e
        clear e
        go_wp2
        go_ret2
        exact ⟨by rw [E.out]; rfl, B0.out.alloc B0.out.size _⟩
      · go_wp2
        go_roundw
        case rel =>
          refine ⟨k + 1, by omega, by go_num, ?_, B0.out.alloc B0.out.size _⟩
          intro j hj
          by_cases e : j = k
          · subst e; rw [HXY.out]; omega
          · exact HJ.out j (by omega)
        case measure => simp [intOf]; omega
    · have hltI : ¬ (k : Int) < (n : Int) := by omega
      have e : fst l h = 0 := fst_none (fun j hj => HJ.out j (by rw [HN.out] at hj; omega))
      have E := hide e
      clear e
      go_wp2
      go_ret2
      exact ⟨by rw [E.out]; rfl, hbel⟩

open Classical in
set_option maxRecDepth 100000 in
set_option maxHeartbeats 1000000 in
theorem tokenFor_no (a : Option Addr) (l : List (Int × Int)) (n cap : Nat) (h : Int) (w : World) (hn : l.length = n) (hs : Sl2 w a l) (hn2 : n ≤ 1048576) (hr : ¬ RingAsk l h) :
    Calls Try.prog 33 #[.slice a n cap, .int .i64 h] w fun e w' => e = .returned (.tuple #[.int .i64 0, .bool false]) ∧ Below w.heap.size w w' := by
  by_cases h0 : n = 0
  · subst h0
    clear hs hn
    go_enter Try.func33, Try.ntmps33
    go_wp2
    go_ret2
    exact ⟨rfl, Below.refl _ _⟩
  · have hne : ((n : Int) == 0) = false := by simp; omega
    by_cases hg : GoodT l
    · have hp : ¬ (0 ≤ h ∧ h ≤ 1008) := fun hp => hr ⟨by omega, hg, hp⟩
      have C1 := hide (goodRing_any a l n cap w hn hs hn2 true (by simp [hg]))
      have C2 := hide (fun w => isPlace_any h w false (by simp; omega))
      clear hs hn hg hp hr
      go_enter Try.func33, Try.ntmps33
      go_wp2_with fail
      refine C1.out.mono ?_
      rintro e w1 ⟨rfl, hb1⟩
      have B1 := hide hb1
      clear hb1
      go_wp2_with fail
      refine (C2.out _).mono ?_
      rintro e w2 ⟨rfl, rfl⟩
      go_wp2
      go_ret2
      exact ⟨rfl, B1.out⟩
    · have C1 := hide (goodRing_any a l n cap w hn hs hn2 false (by simp [hg]))
      clear hs hn hg hr
      go_enter Try.func33, Try.ntmps33
      go_wp2_with fail
      refine C1.out.mono ?_
      rintro e w1 ⟨rfl, hb1⟩
      have B1 := hide hb1
      clear hb1
      go_wp2
      go_ret2
      exact ⟨rfl, B1.out⟩

open Classical in
set_option maxRecDepth 100000 in
set_option maxHeartbeats 1000000 in
theorem l3Ring_any (a : Option Addr) (l : List (Int × Int)) (n cap : Nat) (h : Int) (w : World) (hn : l.length = n) (hs : Sl2 w a l) (hn2 : n ≤ 1048576) (bb : Bool) (hbb : bb = true ↔ RingAsk l h) :
    Calls Try.prog 35 #[.slice a n cap, .int .i64 h] w fun e w' => e = .returned (.bool bb) ∧ Below w.heap.size w w' := by
  by_cases hg : GoodT l
  · have C1 := hide (specGoodRing_any a l n cap w hn hs hn2 true (by simp [hg]))
    by_cases h0 : n = 0
    · obtain rfl : bb = false := bool_noT hbb (fun hr => by have := hr.1; omega)
      subst h0
      clear hs hn hbb hg
      go_enter Try.func35, Try.ntmps35
      go_wp2_with fail
      refine C1.out.mono ?_
      rintro e w1 ⟨rfl, hb1⟩
      go_wp2
      go_ret
      exact ⟨rfl, hb1⟩
    · have hne : 0 < (n : Int) := by omega
      by_cases hp : 0 ≤ h ∧ h ≤ 1008
      · obtain rfl : bb = true := hbb.2 ⟨by omega, hg, hp⟩
        have C2 := hide (fun w => l1In_yes h 0 1008 w hp.1 hp.2)
        clear hs hn hbb hg hp
        go_enter Try.func35, Try.ntmps35
        go_wp2_with fail
        refine C1.out.mono ?_
        rintro e w1 ⟨rfl, hb1⟩
        have B1 := hide hb1
        clear hb1
        go_wp2_with fail
        refine (C2.out _).mono ?_
        rintro e w2 ⟨rfl, rfl⟩
        go_wp2
        go_ret
        exact ⟨rfl, B1.out⟩
      · obtain rfl : bb = false := bool_noT hbb (fun hr => hp hr.2.2)
        have C2 := hide (fun w => l1In_no h 0 1008 w hp)
        clear hs hn hbb hg hp
        go_enter Try.func35, Try.ntmps35
        go_wp2_with fail
        refine C1.out.mono ?_
        rintro e w1 ⟨rfl, hb1⟩
        have B1 := hide hb1
        clear hb1
        go_wp2_with fail
        refine (C2.out _).mono ?_
        rintro e w2 ⟨rfl, rfl⟩
        go_wp2
        go_ret
        exact ⟨rfl, B1.out⟩
  · obtain rfl : bb = false := bool_noT hbb (fun hr => hg hr.2.1)
    have C1 := hide (specGoodRing_any a l n cap w hn hs hn2 false (by simp [hg]))
    clear hs hn hbb hg
    go_enter Try.func35, Try.ntmps35
    go_wp2_with fail
    refine C1.out.mono ?_
    rintro e w1 ⟨rfl, hb1⟩
    go_wp2
    go_ret
    exact ⟨rfl, hb1⟩
end Go.Proofs.Ytkjljkfjcngkcaa.L3
