/-
  Contracts: impl.GoodSketch, spec.GoodSketch, with what they call.
-/
import Derived.Test.YtfmfnlpajoikmanL15Mem
import Derived.Test.YtfmfnlpajoikmanAllI
import Derived.Test.YtfmfnlpajoikmanIn
import Derived.Deep.DeepCutAuto
import Derived.Deep.QuietTactic
import Derived.BigQuiet
namespace Go.Proofs.Ytfmfnlpajoikman.L15
open Go.RowKit L1 Own Sli
set_option linter.unusedVariables false

theorem dec_ex15 (p : Prop) : ∃ b : Bool, b = true ↔ p := by classical exact ⟨decide p, by simp⟩
theorem bool_no15 {b : Bool} {p : Prop} (h : b = true ↔ p) (hp : ¬ p) : b = false := by
  cases b with
  | true => exact absurd (h.1 rfl) hp
  | false => rfl
theorem below_drewG {N : Nat} {w w' : World} (h : Below N w w') : ∀ q, Below N w (w'.drewN q)
  | 0 => h
  | q + 1 => (below_drewG h q).drew
/-- The first numbers together. -/
def sm (l : List Int) : Nat → Int
  | 0 => 0
  | k + 1 => sm l k + l.getD k 0
def SmL (l : List Int) : Prop := l.length ≤ 50 ∧ ∀ j, j < l.length → 0 ≤ l.getD j 0 ∧ l.getD j 0 ≤ 100000
theorem sm_bd {l : List Int} : ∀ k, k ≤ l.length → (∀ j, j < k → 0 ≤ l.getD j 0 ∧ l.getD j 0 ≤ 100000) → 0 ≤ sm l k ∧ sm l k ≤ 100000 * (k : Int)
  | 0, _, _ => by simp [sm]
  | k + 1, hk, h => by
    have h1 := sm_bd k (by omega) (fun j hj => h j (by omega))
    have h2 := h k (by omega)
    simp only [sm]
    rw [show ((k + 1 : Nat) : Int) = (k : Int) + 1 by omega]
    omega
set_option maxRecDepth 100000 in
set_option maxHeartbeats 4000000 in
theorem l12Sum_any (a : Option Addr) (l : List Int) (n cap : Nat) (w : World) (hn : l.length = n) (hs : Sl w a l) (hl : SmL l) (r : Int) (hr : r = sm l n) :
    Calls Try.prog 56 #[.slice a n cap] w fun e w' => e = .returned (.int .i64 r) ∧ w = w' := by
  have HS := hide hs
  have HN := hide hn
  have HR := hide hr
  have HL := hide hl
  have n50 : n ≤ 50 := by have := hl.1; omega
  clear hs hn hr hl
  go_enter Try.func56, Try.ntmps56
  go_wp2
  go_loop [3, 8] (fun s t => ∃ k : Nat, k ≤ n ∧ t = .int .i64 k ∧ s = .int .i64 (sm l k)) (fun _ t => n - (intOf t).toNat)
  case atStart => exact ⟨0, Nat.zero_le _, rfl, rfl⟩
  case round =>
    obtain ⟨k, hk, rfl, rfl⟩ := hrel
    by_cases hlt : k < n
    · obtain ⟨b, off, rfl, hc⟩ := HS.out k (by rw [HN.out]; exact hlt)
      have hltI : (k : Int) < (n : Int) := by omega
      have h1 := sm_bd k (by rw [HN.out]; omega) (fun j hj => HL.out.2 j (by rw [HN.out]; omega))
      have h2 := HL.out.2 k (by rw [HN.out]; exact hlt)
      have hs : sm l (k + 1) = sm l k + l.getD k 0 := rfl
      obtain ⟨x, hx⟩ : ∃ x, x = l.getD k 0 := ⟨_, rfl⟩
      obtain ⟨y, hy⟩ : ∃ y, y = sm l k := ⟨_, rfl⟩
      rw [← hx] at hc h2 hs
      rw [← hy] at h1 hs ⊢
      have HSS := hide hs
      clear hx hy hs
      go_wp2
      go_round
      case rel => exact ⟨k + 1, by omega, by go_num, by rw [HSS.out]⟩
      case measure => simp [intOf]; omega
    · obtain rfl : k = n := by omega
      have hltI : ¬ (k : Int) < (k : Int) := by omega
      obtain ⟨y, hy⟩ : ∃ y, y = sm l k := ⟨_, rfl⟩
      rw [← hy] at HR ⊢
      clear hy
      go_wp2
      go_ret
      exact ⟨by rw [HR.out]; rfl, rfl⟩
/-- A row of a good sketch. -/
def RowOk (l : List Int) : Prop := l.length = 11 ∧ ∀ j, j < 11 → 0 ≤ l.getD j 0 ∧ l.getD j 0 ≤ 100000
theorem RowOk.sml {l : List Int} (h : RowOk l) : SmL l := ⟨by have := h.1; omega, fun j hj => h.2 j (by have := h.1; omega)⟩
/-- A good sketch. -/
def GoodS (L : List (List Int)) (T : Int) : Prop := (1 ≤ L.length ∧ L.length ≤ 3) ∧ ∀ i, i < L.length → RowOk (gi L i) ∧ sm (gi L i) 11 = T
set_option maxRecDepth 100000 in
set_option maxHeartbeats 4000000 in
theorem sumOfRow_any (a : Option Addr) (l : List Int) (n cap : Nat) (w : World) (hn : l.length = n) (hs : Sl w a l) (hn2 : n ≤ 1048576) (ok : Bool) (hok : ok = true ↔ RowOk l) (r : Int) (hr : r = if ok then sm l 11 else 0) :
    Calls Try.prog 64 #[.slice a n cap] w fun e w' => e = .returned (.tuple #[.int .i64 r, .bool ok]) ∧ w = w' := by
  by_cases h11 : n = 11
  rotate_left
  · obtain rfl : ok = false := bool_no15 hok (fun h => h11 (by rw [← hn]; exact h.1))
    obtain rfl : r = 0 := hr
    have h11' : ¬ (n : Int) = 11 := by omega
    have hd : ((n : Int) != 11) = true := by simp; omega
    clear hok hs hn
    go_enter Try.func64, Try.ntmps64
    go_wp2
    go_ret2
    exact ⟨rfl, rfl⟩
  · subst h11
    have HS := hide hs
    have HN := hide hn
    have HR := hide hr
    have HO := hide hok
    clear hs hn hr hok
    go_enter Try.func64, Try.ntmps64
    go_wp2
    go_loop [4, 12] (fun s t => ∃ k : Nat, k ≤ 11 ∧ t = .int .i64 k ∧ s = .int .i64 (sm l k) ∧ Hid (∀ j, j < k → 0 ≤ l.getD j 0 ∧ l.getD j 0 ≤ 100000)) (fun _ t => 11 - (intOf t).toNat)
    case atStart => exact ⟨0, Nat.zero_le _, rfl, rfl, fun j hj => absurd hj (Nat.not_lt_zero _)⟩
    case round =>
      obtain ⟨k, hk, rfl, rfl, HJ⟩ := hrel
      by_cases hlt : k < 11
      · obtain ⟨b, off, rfl, hc⟩ := HS.out k (by rw [HN.out]; exact hlt)
        have hltI : (k : Int) < (11 : Int) := by omega
        have h1 := sm_bd k (by rw [HN.out]; omega) HJ.out
        have hs : sm l (k + 1) = sm l k + l.getD k 0 := rfl
        obtain ⟨x, hx⟩ : ∃ x, x = l.getD k 0 := ⟨_, rfl⟩
        obtain ⟨y, hy⟩ : ∃ y, y = sm l k := ⟨_, rfl⟩
        rw [← hx] at hc hs
        rw [← hy] at h1 hs ⊢
        have HX := hide hx
        have HSS := hide hs
        clear hx hy hs
        have bad : ¬ (0 ≤ x ∧ x ≤ 100000) → Hid (ok = false ∧ r = 0) := fun h => by
          have e := bool_no15 HO.out (fun g => h (by rw [HX.out]; exact g.2 k hlt))
          have := HR.out
          rw [e] at this
          exact hide ⟨e, this⟩
        by_cases hx0 : x < 0
        · have E := bad (by omega)
          clear bad
          go_wp2
          go_ret2
          exact ⟨by rw [E.out.1, E.out.2]; rfl, rfl⟩
        · by_cases hx1 : 100000 < x
          · have hx2 : x > 100000 := hx1
            have E := bad (by omega)
            clear bad
            go_wp2
            go_ret2
            exact ⟨by rw [E.out.1, E.out.2]; rfl, rfl⟩
          · have hx2 : ¬ x > 100000 := hx1
            clear bad
            go_wp2
            go_round
            case rel => exact ⟨k + 1, by omega, by go_num, by rw [HSS.out], fun j hj => by
              by_cases e : j = k
              · subst e; rw [← HX.out]; omega
              · exact HJ.out j (by omega)⟩
            case measure => simp [intOf]; omega
      · obtain rfl : k = 11 := by omega
        have hltI : ¬ ((11 : Nat) : Int) < (11 : Int) := by omega
        have e : ok = true := HO.out.2 ⟨HN.out, HJ.out⟩
        have E : Hid (r = sm l 11) := by have := HR.out; rw [e] at this; exact hide this
        subst e
        obtain ⟨y, hy⟩ : ∃ y, y = sm l 11 := ⟨_, rfl⟩
        rw [← hy] at E ⊢
        clear hy
        go_wp2
        go_ret2
        exact ⟨by rw [E.out]; rfl, rfl⟩
set_option maxRecDepth 100000 in
set_option maxHeartbeats 400000 in
theorem isRowCount_any (n : Int) (w : World) (b : Bool) (hb : b = true ↔ 1 ≤ n ∧ n ≤ 3) :
    Calls Try.prog 63 #[.int .i64 n] w fun e w' => e = .returned (.bool b) ∧ w = w' := by
  by_cases h1 : n ≥ 1
  · by_cases h2 : n ≤ 3
    · obtain rfl : b = true := hb.2 ⟨h1, h2⟩
      clear hb
      go_enter Try.func63, Try.ntmps63
      go_wp2
      go_ret
      exact ⟨rfl, rfl⟩
    · obtain rfl : b = false := bool_no15 hb (fun h => h2 h.2)
      clear hb
      go_enter Try.func63, Try.ntmps63
      go_wp2
      go_ret
      exact ⟨rfl, rfl⟩
  · obtain rfl : b = false := bool_no15 hb (fun h => h1 h.1)
    clear hb
    go_enter Try.func63, Try.ntmps63
    go_wp2
    go_ret
    exact ⟨rfl, rfl⟩
set_option maxRecDepth 100000 in
set_option maxHeartbeats 4000000 in
theorem implGoodSketch_any (a : Option Addr) (L : List (List Int)) (n cap : Nat) (T : Int) (w : World) (hn : L.length = n) (hn2 : n ≤ 1048576) (hs : SlSI w a L) (hsz : ∀ i, i < L.length → (L.getD i []).length ≤ 1048576) (bb : Bool) (hbb : bb = true ↔ GoodS L T) :
    Calls Try.prog 38 #[.agg #[.slice a n cap, .int .i64 T]] w fun e w' => e = .returned (.bool bb) ∧ Below w.heap.size w w' := by
  have BX := (Below.refl w.heap.size w).alloc (Nat.le_refl _) (.cells #[.slice a n cap, .int .i64 T] 26 (0, 0))
  have g0 := L8.blk_new w (.cells #[.slice a n cap, .int .i64 T] 26 (0, 0))
  obtain ⟨W0, hW0⟩ : ∃ W0, W0 = w.alloc (.cells #[.slice a n cap, .int .i64 T] 26 (0, 0)) := ⟨_, rfl⟩
  rw [← hW0] at BX g0
  obtain ⟨k0, k1, _, _⟩ := blkp g0
  have HW := hide hW0
  have HS := hide (hs.below BX)
  have B0 := hide BX
  have HN := hide hn
  have HBB := hide hbb
  have HSZ := hide hsz
  by_cases hc : 1 ≤ n ∧ n ≤ 3
  rotate_left
  · obtain rfl : bb = false := bool_no15 hbb (fun h => hc (by rw [← hn]; exact h.1))
    have C := hide (fun wx => isRowCount_any (n : Int) wx false ⟨fun h => (by cases h), fun h => absurd h (by omega)⟩)
    clear hbb hs hsz hn BX g0 hW0
    go_enter Try.func38, Try.ntmps38
    go_upto_region 1 with fail
    rw [← HW.out]
    go_wp2_with fail
    refine (C.out _).mono ?_
    rintro e w1 ⟨rfl, rfl⟩
    go_wp2
    go_ret
    exact ⟨rfl, B0.out⟩
  have C := hide (fun wx => isRowCount_any (n : Int) wx true ⟨fun _ => (by omega), fun _ => rfl⟩)
  clear hbb hs hsz hn BX g0 hW0
  go_enter Try.func38, Try.ntmps38
  go_upto_region 1 with fail
  rw [← HW.out]
  go_wp2_with fail
  refine (C.out _).mono ?_
  rintro e w1 ⟨rfl, rfl⟩
  go_wp2
  go_loop [15] (fun t => ∃ k : Nat, k ≤ n ∧ t = .int .i64 k ∧ Hid (∀ j, j < k → RowOk (gi L j) ∧ sm (gi L j) 11 = T)) (fun t => n - (intOf t).toNat)
  case atStart => exact ⟨0, Nat.zero_le _, rfl, fun j hj => absurd hj (Nat.not_lt_zero _)⟩
  case round =>
    obtain ⟨k, hk, rfl, HJ⟩ := hrel
    by_cases hlt : k < n
    · obtain ⟨b, off, rfl, ai, ci, hcell, hsl⟩ := HS.out k (by rw [HN.out]; exact hlt)
      have hltI : (k : Int) < (n : Int) := by omega
      have hz := HSZ.out k (by rw [HN.out]; exact hlt)
      obtain ⟨ok, hok⟩ := dec_ex15 (RowOk (L.getD k []))
      have CR := hide (sumOfRow_any ai (L.getD k []) (L.getD k []).length ci W0 rfl hsl hz ok hok _ rfl)
      obtain ⟨m, hm⟩ : ∃ m, m = (L.getD k []).length := ⟨_, rfl⟩
      rw [← hm] at hcell CR
      obtain ⟨r, hr⟩ : ∃ r, r = if ok then sm (L.getD k []) 11 else 0 := ⟨_, rfl⟩
      rw [← hr] at CR
      have HRR := hide hr
      have HOK := hide hok
      clear hsl hz hm hr hok
      go_wp2_with fail
      refine CR.out.mono ?_
      rintro e w1 ⟨rfl, rfl⟩
      cases ok with
      | false =>
        have E : Hid (bb = false) := hide (bool_no15 HBB.out (fun g => by have := HOK.out.2 (g.2 k (by rw [HN.out]; exact hlt)).1; cases this))
        go_wp2
        go_ret
        exact ⟨by rw [E.out]; rfl, B0.out⟩
      | true =>
        have hr : r = sm (gi L k) 11 := HRR.out
        by_cases hT : r = T
        · have hT2 : (r != T) = false := by simp [hT]
          have HX : Hid (RowOk (gi L k) ∧ sm (gi L k) 11 = T) := hide ⟨HOK.out.1 rfl, by rw [← hr]; exact hT⟩
          subst hT
          clear hr
          go_wp2
          go_round
          case rel => exact ⟨k + 1, by omega, by go_num, fun j hj => by
            by_cases e : j = k
            · subst e; exact HX.out
            · exact HJ.out j (by omega)⟩
          case measure => simp [intOf]; omega
        · have hT2 : (r != T) = true := by simp [hT]
          have E : Hid (bb = false) := hide (bool_no15 HBB.out (fun g => hT (by rw [hr]; exact (g.2 k (by rw [HN.out]; exact hlt)).2)))
          clear hr
          go_wp2
          go_ret
          exact ⟨by rw [E.out]; rfl, B0.out⟩
    · obtain rfl : k = n := by omega
      have hltI : ¬ (k : Int) < (k : Int) := by omega
      have E : Hid (bb = true) := hide (HBB.out.2 ⟨by rw [HN.out]; exact hc, by rw [HN.out]; exact HJ.out⟩)
      go_wp2
      go_ret
      exact ⟨by rw [E.out]; rfl, B0.out⟩
end Go.Proofs.Ytfmfnlpajoikman.L15
