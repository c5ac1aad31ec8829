/-
  Contract: impl.coinsTogether.
-/
import Derived.Test.YtfjbiihiaoobhajL12SumM
import Derived.Deep.DeepCutAuto
namespace Go.Proofs.Ytfjbiihiaoobhaj.L12
open Go.RowKit L1 L9 Own Sli
set_option linter.unusedVariables false

set_option maxRecDepth 100000 in
set_option maxHeartbeats 4000000 in
theorem coins_any (a : Option Addr) (l : List Int) (n cap : Nat) (b : Option Addr) (G : List (List Int)) (nG cG : Nat) (w : World) (hn : l.length = n) (hs : Sl w a l) (hl : SmL l) (hnG : G.length = nG) (hG : SlSI w b G) (hS : SmLL G) (r : Int) (hr : r = sm l n + sms G nG) :
    Calls Try.prog 27 #[.slice a n cap, .slice b nG cG] w fun e w' => e = .returned (.int .i64 r) ∧ w = w' := by
  have HS := hide hs
  have HN := hide hn
  have HR := hide hr
  have HL := hide hl
  have HG := hide hG
  have HNG := hide hnG
  have HSS0 := hide hS
  have n50 : n ≤ 50 := by have := hl.1; omega
  have g50 : nG ≤ 50 := by have := hS.1; omega
  clear hs hn hr hl hG hnG hS
  go_enter Try.func27, Try.ntmps27
  go_wp2
  go_loop [5, 14] (fun s t => ∃ k : Nat, k ≤ n ∧ t = .int .i64 k ∧ s = .int .i64 (sm l k)) (fun _ t => n - (intOf t).toNat)
  case atStart => exact ⟨0, Nat.zero_le _, rfl, rfl⟩
  case round =>
    obtain ⟨k, hk, rfl, rfl⟩ := hrel
    by_cases hlt : k < n
    · obtain ⟨p, off, rfl, hc⟩ := HS.out k (by rw [HN.out]; exact hlt)
      have hltI : (k : Int) < (n : Int) := by omega
      have h1 := sm_le HL.out k (by rw [HN.out]; omega)
      have h2 := HL.out.2 k (by rw [HN.out]; exact hlt)
      have hs : sm l (k + 1) = sm l k + l.getD k 0 := rfl
      obtain ⟨x, hx⟩ : ∃ x, x = l.getD k 0 := ⟨_, rfl⟩
      obtain ⟨y, hy⟩ : ∃ y, y = sm l k := ⟨_, rfl⟩
      rw [← hx] at hc h2 hs
      rw [← hy] at h1 hs ⊢
      have HSS := hide hs
      clear hx hy hs
      go_wp2
      go_round
      case rel => exact ⟨k + 1, by omega, by go_num, by rw [HSS.out]⟩
      case measure => simp [intOf]; omega
    · obtain rfl : k = n := by omega
      have hltI : ¬ (k : Int) < (k : Int) := by omega
      have hA := sm_le HL.out k (by rw [HN.out]; omega)
      obtain ⟨A, hA'⟩ : ∃ A, A = sm l k := ⟨_, rfl⟩
      rw [← hA'] at HR hA ⊢
      clear hA'
      go_wp2
      go_loop [5, 24] (fun s t => ∃ q : Nat, q ≤ nG ∧ t = .int .i64 q ∧ s = .int .i64 (A + sms G q)) (fun _ t => nG - (intOf t).toNat)
      case atStart => exact ⟨0, Nat.zero_le _, rfl, by simp [sms]⟩
      case round =>
        obtain ⟨q, hq, rfl, rfl⟩ := hrel
        by_cases hlt2 : q < nG
        · obtain ⟨p, off, rfl, ai, ci, hc, hs⟩ := HG.out q (by rw [HNG.out]; exact hlt2)
          have hltI2 : (q : Int) < (nG : Int) := by omega
          have h1 := sms_le HSS0.out q (by rw [HNG.out]; omega)
          have hrow := HSS0.out.2 q (by rw [HNG.out]; exact hlt2)
          have hst : sms G (q + 1) = sms G q + sm (G.getD q []) (G.getD q []).length := rfl
          obtain ⟨g, hg⟩ : ∃ g, g = G.getD q [] := ⟨_, rfl⟩
          rw [← hg] at hc hs hrow hst
          obtain ⟨L, hL⟩ : ∃ L, L = g.length := ⟨_, rfl⟩
          rw [← hL] at hc hst
          obtain ⟨B, hB⟩ : ∃ B, B = A + sms G q := ⟨_, rfl⟩
          have hB1 : 0 ≤ B ∧ B ≤ 3000000 := by omega
          rw [← hB]
          have HB := hide hB
          have HST := hide hst
          have HLg := hide hL
          have HRW := hide hrow
          have HSg := hide hs
          have L50 : L ≤ 50 := by have := hrow.1; omega
          clear hg hL hB hst hrow hs
          go_wp2
          go_loop [5, 30] (fun s t => ∃ j : Nat, j ≤ L ∧ t = .int .i64 j ∧ s = .int .i64 (B + sm g j)) (fun _ t => L - (intOf t).toNat)
          case atStart => exact ⟨0, Nat.zero_le _, rfl, by simp [sm]⟩
          case round =>
            obtain ⟨j, hj, rfl, rfl⟩ := hrel
            by_cases hlt3 : j < L
            · obtain ⟨p3, off3, rfl, hc3⟩ := HSg.out j (by rw [← HLg.out]; exact hlt3)
              have hltI3 : (j : Int) < (L : Int) := by omega
              have h3 := sm_le HRW.out j (by rw [← HLg.out]; omega)
              have h4 := HRW.out.2 j (by rw [← HLg.out]; exact hlt3)
              have hs3 : sm g (j + 1) = sm g j + g.getD j 0 := rfl
              obtain ⟨x, hx⟩ : ∃ x, x = g.getD j 0 := ⟨_, rfl⟩
              obtain ⟨y, hy⟩ : ∃ y, y = B + sm g j := ⟨_, rfl⟩
              rw [← hx] at hc3 h4 hs3
              have hy1 : 0 ≤ y ∧ y ≤ 4000000 := by omega
              rw [← hy]
              have HS3 : Hid (B + sm g (j + 1) = y + x) := hide (by rw [hs3]; omega)
              clear hx hy hs3 h3
              go_wp2
              go_round
              case rel => exact ⟨j + 1, by omega, by go_num, by rw [HS3.out]⟩
              case measure => simp [intOf]; omega
            · obtain rfl : j = L := by omega
              have hltI3 : ¬ (j : Int) < (j : Int) := by omega
              have HE : Hid (B + sm g j = A + sms G (q + 1)) := hide (by rw [HST.out, HB.out]; omega)
              obtain ⟨y, hy⟩ : ∃ y, y = B + sm g j := ⟨_, rfl⟩
              rw [← hy] at HE ⊢
              clear hy
              go_wp2
              go_round
              case rel => exact ⟨q + 1, by omega, by go_num, by rw [HE.out]⟩
              case measure => simp [intOf]; omega
        · obtain rfl : q = nG := by omega
          have hltI2 : ¬ (q : Int) < (q : Int) := by omega
          obtain ⟨y, hy⟩ : ∃ y, y = A + sms G q := ⟨_, rfl⟩
          rw [← hy] at HR ⊢
          clear hy
          go_wp2
          go_ret
          exact ⟨by rw [HR.out]; rfl, rfl⟩
end Go.Proofs.Ytfjbiihiaoobhaj.L12
