/-
  Contract: impl.beginAlike tells whether each Epoch of two lists of starts begins at one place.
-/
import Derived.Test.YtdnmklcnlndmhacL7MatMath
import Derived.Test.YtdnmklcnlndmhacL7RetS
namespace Go.Proofs.Ytdnmklcnlndmhac.L7
open Go.RowKit L1
set_option linter.unusedVariables false

set_option maxRecDepth 100000 in
set_option maxHeartbeats 2000000 in
theorem beginAlike_any (a b : Option Addr) (S T : List (Int × Int)) (n c1 m c2 : Nat) (w : World) (hn : S.length = n) (hm : T.length = m) (hs : SlS w a S) (ht : SlS w b T) (hn2 : n ≤ 1048576) (hm2 : m ≤ 1048576) (bb : Bool) (hbb : bb = true ↔ BegP S T) :
    Calls Try.prog 31 #[.slice a n c1, .slice b m c2] w fun e w' => e = .returned (.bool bb) ∧ Below w.heap.size w w' := by
  have HS0 := hide hs
  have HT := hide ht
  have HN := hide hn
  have HM := hide hm
  have HBB := hide hbb
  clear hs ht hn hm hbb
  go_enter Try.func31, Try.ntmps31
  go_wp2
  go_loopw [11] (fun i wr => ∃ k : Nat, k ≤ n ∧ i = .int .i64 k ∧ Hid (∀ i, i < k → ∀ j, j < m → (S.getD i (0, 0)).1 = (T.getD j (0, 0)).1 → (S.getD i (0, 0)).2 = (T.getD j (0, 0)).2) ∧ Below w.heap.size w wr) (fun i _ => n - (intOf i).toNat)
  case atStart => exact ⟨0, Nat.zero_le _, rfl, fun i hi => absurd hi (Nat.not_lt_zero _), Below.refl _ _⟩
  case round =>
    obtain ⟨k, hk, rfl, HJ, hbel⟩ := hrel
    by_cases hlt : k < n
    · obtain ⟨b, off, rfl, hc0, hd0⟩ := HS0.out k (by rw [HN.out]; exact hlt)
      have hc := (hbel.cell (p := ⟨b, off + k * 2, none⟩) (blk_lt hc0)).trans hc0
      have hd := (hbel.cell (p := ⟨b, off + k * 2 + 1, none⟩) (blk_lt hd0)).trans hd0
      have hltI : (k : Int) < (n : Int) := by omega
      have hno : ∀ j, j < m → (S.getD k (0, 0)).1 = (T.getD j (0, 0)).1 → ¬ (S.getD k (0, 0)).2 = (T.getD j (0, 0)).2 → bb = false := fun j hj h1 h2 => bool_noT HBB.out (fun h => h2 (h k (by rw [HN.out]; exact hlt) j (by rw [HM.out]; exact hj) h1))
      obtain ⟨x, hx⟩ : ∃ x, x = (S.getD k (0, 0)).1 := ⟨_, rfl⟩
      obtain ⟨y, hy⟩ : ∃ y, y = (S.getD k (0, 0)).2 := ⟨_, rfl⟩
      rw [← hx] at hc hno
      rw [← hy] at hd hno
      have HXY : Hid (S.getD k (0, 0) = (x, y)) := by show _ = _; rw [hx, hy]
      have HNO := hide hno
      have B0 := hide hbel
      clear hc0 hd0 hx hy hno hbel
      go_wp2
      obtain ⟨X, hX⟩ : ∃ X, X = wr.heap.size := ⟨_, rfl⟩
      obtain ⟨W0, hW0⟩ : ∃ W0, wr.alloc (.cells #[.int .i64 x, .int .i64 y] 39) = W0 := ⟨_, rfl⟩
      have x0 : W0.cell? ⟨X, 0, none⟩ = some (.int .i64 x) := by rw [← hW0, hX]; simp
      have x1 : W0.cell? ⟨X, 1, none⟩ = some (.int .i64 y) := by rw [← hW0, hX]; simp
      have hb0 : Below w.heap.size w W0 := by rw [← hW0]; exact B0.out.alloc B0.out.size _
      rw [hW0, ← hX]
      have X0 := hide (And.intro x0 x1)
      have HT0 := hide (HT.out.below hb0)
      have FB : Hid (∀ w', Below W0.heap.size W0 w' → Below w.heap.size w w') := fun w' h => hb0.trans (h.mono hb0.size)
      clear hW0 hX x0 x1 hb0 hc hd B0
      go_loopw [17] (fun jv wq => ∃ j : Nat, j ≤ m ∧ jv = .int .i64 j ∧ Hid (∀ i, i < j → x = (T.getD i (0, 0)).1 → y = (T.getD i (0, 0)).2) ∧ wq.cell? ⟨X, 0, none⟩ = some (.int .i64 x) ∧ wq.cell? ⟨X, 1, none⟩ = some (.int .i64 y) ∧ Below W0.heap.size W0 wq) (fun jv _ => m - (intOf jv).toNat)
      case atStart => exact ⟨0, Nat.zero_le _, rfl, fun i hi => absurd hi (Nat.not_lt_zero _), X0.out.1, X0.out.2, Below.refl _ _⟩
      case round =>
        obtain ⟨j, hj, rfl, HI, hX0, hX1, hbq⟩ := hrel
        by_cases hjm : j < m
        · obtain ⟨b2, o2, rfl, p1, p2⟩ := HT0.out j (by rw [HM.out]; exact hjm)
          have g1 := (hbq.cell (p := ⟨b2, o2 + j * 2, none⟩) (blk_lt p1)).trans p1
          have g2 := (hbq.cell (p := ⟨b2, o2 + j * 2 + 1, none⟩) (blk_lt p2)).trans p2
          have hjI : (j : Int) < (m : Int) := by omega
          have hno := HNO.out j hjm
          obtain ⟨u, hu⟩ : ∃ u, u = (T.getD j (0, 0)).1 := ⟨_, rfl⟩
          obtain ⟨v, hv⟩ : ∃ v, v = (T.getD j (0, 0)).2 := ⟨_, rfl⟩
          rw [← hu] at g1 hno
          rw [← hv] at g2 hno
          have HU := hide hu
          have HV := hide hv
          have hA0 : ∀ ob, (wr.alloc ob).cell? ⟨X, 0, none⟩ = some (.int .i64 x) := fun ob => Go.Lib.cell?_alloc_some ob hX0
          have hA1 : ∀ ob, (wr.alloc ob).cell? ⟨X, 1, none⟩ = some (.int .i64 y) := fun ob => Go.Lib.cell?_alloc_some ob hX1
          have hD := hide hbq
          have HX0 := hide hX0
          have HX1 := hide hX1
          clear p1 p2 hu hv hbq hX0 hX1
          by_cases e1 : x = u
          · subst e1
            have f1 : (x == x) = true := by simp
            by_cases e2 : y = v
            · subst e2
              have f2 : (y != y) = false := by simp
              clear hno
              go_wp2
              go_roundw
              case rel =>
                refine ⟨j + 1, by omega, by go_num, fun i hi h => ?_, hA0 _, hA1 _, hD.out.alloc hD.out.size _⟩
                by_cases e : i = j
                · rw [e, ← HV.out]
                · exact HI.out i (by omega) h
              case measure => simp [intOf]; omega
            · have f2 : (y != v) = true := by simpa using e2
              have E : Hid (bb = false) := hno rfl e2
              clear hno e2
              go_wp2
              go_ret
              exact ⟨by rw [E.out]; rfl, FB.out _ (hD.out.alloc hD.out.size _)⟩
          · have f1 : (x == u) = false := by simpa using e1
            clear hno
            go_wp2
            go_roundw
            case rel =>
              refine ⟨j + 1, by omega, by go_num, fun i hi h => ?_, hA0 _, hA1 _, hD.out.alloc hD.out.size _⟩
              by_cases e : i = j
              · exact absurd (by rw [h, e, ← HU.out]) e1
              · exact HI.out i (by omega) h
            case measure => simp [intOf]; omega
        · have hjI : ¬ (j : Int) < (m : Int) := by omega
          have HO2 : Hid (∀ i, i < k + 1 → ∀ j, j < m → (S.getD i (0, 0)).1 = (T.getD j (0, 0)).1 → (S.getD i (0, 0)).2 = (T.getD j (0, 0)).2) := fun i hi q hq h => by
            by_cases e : i = k
            · subst e
              rw [HXY.out] at h ⊢
              exact HI.out q (by omega) h
            · exact HJ.out i (by omega) q hq h
          go_wp2
          go_roundw
          case rel => exact ⟨k + 1, by omega, by go_num, HO2.out, FB.out _ hbq⟩
          case measure => simp [intOf]; omega
    · have hltI : ¬ (k : Int) < (n : Int) := by omega
      have E : Hid (bb = true) := HBB.out.2 (fun i hi j hj => HJ.out i (by rw [HN.out] at hi; omega) j (by rw [HM.out] at hj; exact hj))
      go_wp2
      go_ret
      exact ⟨by rw [E.out]; rfl, hbel⟩
end Go.Proofs.Ytdnmklcnlndmhac.L7
