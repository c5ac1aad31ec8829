/-
  Contracts: of the model how much a counter rose: spec.l16Rise with spec.l16Step.
-/
import Derived.Test.YticgejaaoamhmapL16Box
namespace Go.Proofs.Yticgejaaoamhmap.L16
open Go.RowKit L1
set_option linter.unusedVariables false

theorem drew_more {w wr : World} (h : ∃ q, wr = w.drewN q) (m : Nat) : ∃ q, wr.drewN m = w.drewN q := by
  obtain ⟨q, rfl⟩ := h
  exact ⟨q + m, by rw [World.drewN_drewN]⟩
theorem drew_cell {w wr : World} (h : ∃ q, wr = w.drewN q) {p : Addr} {v : Value} (hc : w.cell? p = some v) : wr.cell? p = some v := by
  obtain ⟨q, rfl⟩ := h
  simpa using hc
theorem drew_below {N : Nat} {w w1 wr : World} (hb : Below N w w1) (h : ∃ q, wr = w1.drewN q) : Below N w wr := by
  obtain ⟨q, rfl⟩ := h
  exact below_drew16 hb q
set_option maxRecDepth 100000 in
set_option maxHeartbeats 1000000 in
theorem l16Step_any (x y : Int) (w : World) (hx : 0 ≤ x ∧ x ≤ 1000000000) (hy : 0 ≤ y ∧ y ≤ 1000000000) (z : Int) (hz : z = stp x y) :
    Calls Try.prog 35 #[.int .i64 x, .int .i64 y] w fun e w' => e = .returned (.int .i64 z) ∧ w' = w := by
  unfold stp at hz
  have hw : IntKind.i64.wrap (y - x) = y - x := wrap16 (by omega) (by omega)
  by_cases h : y < x
  · rw [if_pos h] at hz
    have HZ := hide hz
    clear hz
    go_enter Try.func35, Try.ntmps35
    go_wp2
    go_ret
    exact ⟨by rw [HZ.out]; rfl, rfl⟩
  · rw [if_neg h] at hz
    have HZ := hide hz
    clear hz
    go_enter Try.func35, Try.ntmps35
    go_wp2
    go_ret
    exact ⟨by rw [HZ.out]; rfl, rfl⟩
set_option maxRecDepth 100000 in
set_option maxHeartbeats 1000000 in
theorem l16Rise_any (a : Option Addr) (l : List (Int × Int)) (n cap : Nat) (w : World) (hn : n ≤ l.length) (hs : Sl2 w a l) (h40 : n ≤ 40) (hv : ∀ j, j < n → 0 ≤ vl l j ∧ vl l j ≤ 1000000000) (hr : ∀ k, k ≤ n → 0 ≤ ris l k ∧ ris l k ≤ 40000000000) (z : Int) (hz : z = ris l n) :
    Calls Try.prog 27 #[.slice a n cap] w fun e w' => e = .returned (.int .i64 z) ∧ ∃ q, w' = w.drewN q := by
  have HS := hide hs
  have HV := hide hv
  have HR := hide hr
  have HN := hide hn
  have HZ := hide hz
  clear hs hv hr hn hz
  go_enter Try.func27, Try.ntmps27
  go_upto_region 3 with fail
  go_loopw [3, 4] (fun s i wr => ∃ k : Nat, 0 < k ∧ (k ≤ n ∨ k = 1) ∧ i = .int .i64 k ∧ s = .int .i64 (ris l k) ∧ Hid (∃ q, wr = w.drewN q)) (fun _ i _ => n - (intOf i).toNat)
  case atStart => exact ⟨1, Nat.one_pos, .inr rfl, rfl, by rw [ris_one], 0, rfl⟩
  case round =>
    obtain ⟨k, hk0, hk, rfl, rfl, HD⟩ := hrel
    by_cases hlt : k < n
    · obtain ⟨b, off, rfl, _, hy0⟩ := sl2_at HS.out (k := k) (by have := HN.out; omega)
      obtain ⟨b', off', e, _, hx0⟩ := sl2_at HS.out (k := k - 1) (by have := HN.out; omega)
      cases e
      have hltI : (k : Int) < (n : Int) := by omega
      have hsu := ris_succ l hk0
      have hr1 := HR.out k (by omega)
      have hr2 := HR.out (k + 1) (by omega)
      obtain ⟨z, hz⟩ : ∃ z, z = stp (vl l (k - 1)) (vl l k) := ⟨_, rfl⟩
      have CA := hide (fun wx => l16Step_any (vl l (k - 1)) (vl l k) wx (HV.out (k - 1) (by omega)) (HV.out k hlt) z hz)
      rw [← hz] at hsu
      obtain ⟨r, hrr⟩ : ∃ r, r = k - 1 := ⟨_, rfl⟩
      rw [← hrr] at hx0 CA
      have hr1x : (k : Int) - 1 = (r : Int) := by omega
      have hrw : IntKind.i64.wrap ((k : Int) - 1) = (r : Int) := by rw [hr1x]; exact wrap16 (by omega) (by omega)
      have hrn : (r : Int) < (n : Int) := by omega
      have hrw2 : IntKind.i64.wrap (r : Int) = (r : Int) := wrap16 (by omega) (by omega)
      obtain ⟨x, hxx⟩ : ∃ x, x = vl l r := ⟨_, rfl⟩
      obtain ⟨y, hyy⟩ : ∃ y, y = vl l k := ⟨_, rfl⟩
      obtain ⟨s, hss⟩ : ∃ s, s = ris l k := ⟨_, rfl⟩
      obtain ⟨t, htt⟩ : ∃ t, t = ris l (k + 1) := ⟨_, rfl⟩
      rw [← hxx] at hx0 CA
      rw [← hyy] at hy0 CA
      rw [← hss, ← htt] at hsu
      rw [← hss] at hr1
      rw [← htt] at hr2
      rw [← hss]

      have hx := drew_cell HD.out hx0
      have hy := drew_cell HD.out hy0
      have hw : IntKind.i64.wrap (s + z) = s + z := wrap16 (by omega) (by omega)
      have HT := hide (show s + z = ris l (k + 1) by rw [← htt, hsu])
      clear hz hss htt hsu hr1 hr2 hrr hxx hyy hx0 hy0
      go_wp2
      go_quiet (first | (go_at_call 35; refine Calls.quiet_of_same (CA.out _)) | fail)
      go_wp2
      go_roundw
      case rel => exact ⟨k + 1, by omega, .inl (by omega), by go_num, by rw [HT.out], drew_more HD.out _⟩
      case measure => simp [intOf]; omega
    · have hltI : ¬ (k : Int) < (n : Int) := by omega
      have e : ris l k = ris l n := by
        rcases hk with h | h
        · rw [show k = n by omega]
        · subst h
          have : n = 0 ∨ n = 1 := by omega
          rcases this with h | h
          · subst h; rw [ris_one]; rfl
          · subst h; rfl
      rw [e, ← HZ.out]
      clear e
      go_wp2
      go_ret
      exact ⟨rfl, HD.out⟩
end Go.Proofs.Yticgejaaoamhmap.L16
