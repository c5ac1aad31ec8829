/-
  Contract: impl.findRow goes over rows that rise by their names.
-/
import Derived.Test.YtbcnkglcfjinealL13GMath
import Derived.ScopeJumps
import Derived.WalkMore
namespace Go.Proofs.Ytbcnkglcfjineal.L13
open Go.RowKit L1
set_option linter.unusedVariables false

/-- What findRow tells of rows and a name: the first place whose row's name is not ahead of it. -/
structure Fnd (L : List Rw) (nm : ByteArray) (k : Nat) (f : Bool) : Prop where
  le : k ≤ L.length
  pre : ∀ j, j < k → L3.Ahead (gr L j).nm nm
  yes : f = true → k < L.length ∧ (gr L k).nm = nm
  no : f = false → k < L.length → L3.Ahead nm (gr L k).nm
theorem pre_next {L : List Rw} {nm x : ByteArray} {k : Nat} (hp : ∀ j, j < k → L3.Ahead (gr L j).nm nm) (hx : x = (gr L k).nm) (h : L3.Ahead x nm) : ∀ j, j < k + 1 → L3.Ahead (gr L j).nm nm := fun j hj => by
  by_cases e : j = k
  · subst e; rw [← hx]; exact h
  · exact hp j (by omega)
theorem str_same {a b : ByteArray} (h1 : ¬ L3.Ahead a b) (h2 : ¬ L3.Ahead b a) : a = b := by
  unfold L3.Ahead at h1 h2
  have := L3.bl_tri _ _ (by simpa using h1) (by simpa using h2)
  apply ByteArray.ext
  apply Array.toList_inj.1
  rw [← ByteArray.toList_eq, ← ByteArray.toList_eq, this]
set_option maxRecDepth 100000 in
set_option maxHeartbeats 2000000 in
theorem findRow_any (a : Option Addr) (L : List Rw) (n cap : Nat) (nm : ByteArray) (w : World) (hn : L.length = n) (hm : n ≤ 1048576) (hs : SlR w a L) :
    Calls Try.prog 21 #[.slice a n cap, .string nm] w fun e w' => ∃ (k : Nat) (f : Bool), e = .returned (.tuple #[.int .i64 k, .bool f]) ∧ Fnd L nm k f ∧ w = w' := by
  have HS := hide hs
  have HN := hide hn
  clear hs hn
  go_enter Try.func21, Try.ntmps21
  go_wp2
  refine wp_scope_jumps 0 (fun a1 w1 => w = w1 ∧ ∃ (k : Nat) (u7 u8 u9 u10 u11 u12 u13 u14 u15 u16 u17 u18 u19 u20 u21 u22 u23 u24 u25 u26 u27 u28 u29 u30 : Value), a1 = { tmps := #[.slice a n cap, .string nm, undef, undef, .int .i64 0, .bool false, .int .i64 k, u7, u8, u9, u10, u11, u12, u13, u14, u15, u16, u17, u18, u19, u20, u21, u22, u23, u24, u25, u26, u27, u28, u29, u30], defers := [] } ∧ k ≤ n ∧ Hid (∀ j, j < k → L3.Ahead (gr L j).nm nm)) (fun a1 _ => n - (intOf (a1.tmps.getD 6 undef)).toNat) rfl ?_ ?_
  · go_wp2
    go_step3
    by_cases hlt : 0 < n
    · have hkx : 0 < L.length := by rw [HN.out]; exact hlt
      obtain ⟨b, off, rfl, ai, ci, hat⟩ := HS.out 0 hkx
      have hc := hat.s
      rw [Nat.zero_mul, Nat.add_zero] at hc
      obtain ⟨x, hx⟩ : ∃ x, x = (gr L 0).nm := ⟨_, rfl⟩
      rw [← hx] at hc
      have hltI : (0 : Int) < (n : Int) := by omega
      have hk0 : (0 : Int) ≤ (0 : Int) := by omega
      have hne : ((0 : Int) == (n : Int)) = false := by simp only [beq_eq_false_iff_ne, ne_eq]; omega
      have HX := hide hx
      clear hat hx
      by_cases hg : L3.Ahead nm x
      · obtain ⟨hg1, hg2⟩ := L3.ahead_not hg
        have HG := hide hg
        clear hg
        go_wp2
        simp only [Exit.jump]
        go_ret2
        exact ⟨0, false, rfl, ⟨by rw [HN.out]; omega, fun j hj => absurd hj (Nat.not_lt_zero _), fun h => (by cases h), fun _ _ => by rw [← HX.out]; exact HG.out⟩, rfl⟩
      · skip
        by_cases hl : L3.Ahead x nm
        · have hl1 : Op.bytesLess x.toList nm.toList = true := hl
          have NX := hide (pre_next (fun j hj => absurd hj (Nat.not_lt_zero _)) HX.out hl)
          clear hl hg
          go_wp2
          go_step3
          exact ⟨rfl, rfl, 1, _, _, _, _, _, _, _, _, _, _, _, _, _, _, _, _, _, _, _, _, _, _, _, _, rfl, by omega, NX.out⟩
        · have he := str_same hl hg
          have hl1 : Op.bytesLess x.toList nm.toList = false := by rw [he]; exact L3.bl_irrefl _
          have hl2 : (x.toList == nm.toList) = true := by rw [he]; simp
          have HE := hide he
          clear hl hg he
          go_wp2
          simp only [Exit.jump]
          go_ret2
          exact ⟨0, true, rfl, ⟨by rw [HN.out]; omega, fun j hj => absurd hj (Nat.not_lt_zero _), fun _ => ⟨by rw [HN.out]; exact hlt, by rw [← HX.out]; exact HE.out⟩, fun h => (by cases h)⟩, rfl⟩
    · have hne : ((0 : Int) == (n : Int)) = true := by simp only [beq_iff_eq]; omega
      go_wp2
      simp only [Exit.jump]
      go_ret2
      exact ⟨0, false, rfl, ⟨by rw [HN.out]; omega, fun j hj => absurd hj (Nat.not_lt_zero _), fun h => (by cases h), fun _ h => absurd h (by rw [HN.out]; omega)⟩, rfl⟩
  · rintro a1 w1 ⟨rfl, k, u7, u8, u9, u10, u11, u12, u13, u14, u15, u16, u17, u18, u19, u20, u21, u22, u23, u24, u25, u26, u27, u28, u29, u30, rfl, hk, HP⟩
    by_cases hlt : k < n
    · have hkx : k < L.length := by rw [HN.out]; exact hlt
      obtain ⟨b, off, rfl, ai, ci, hat⟩ := HS.out k hkx
      have hc := hat.s
      obtain ⟨x, hx⟩ : ∃ x, x = (gr L k).nm := ⟨_, rfl⟩
      rw [← hx] at hc
      have hltI : (k : Int) < (n : Int) := by omega
      have hk0 : (0 : Int) ≤ (k : Int) := by omega
      have hne : ((k : Int) == (n : Int)) = false := by simp only [beq_eq_false_iff_ne, ne_eq]; omega
      have HX := hide hx
      clear hat hx
      by_cases hg : L3.Ahead nm x
      · obtain ⟨hg1, hg2⟩ := L3.ahead_not hg
        have HG := hide hg
        clear hg
        go_wp2
        simp only [Exit.jump]
        go_ret2
        exact ⟨k, false, rfl, ⟨by rw [HN.out]; omega, HP.out, fun h => (by cases h), fun _ _ => by rw [← HX.out]; exact HG.out⟩, rfl⟩
      · skip
        by_cases hl : L3.Ahead x nm
        · have hl1 : Op.bytesLess x.toList nm.toList = true := hl
          have NX := hide (pre_next (HP.out) HX.out hl)
          clear hl hg
          go_wp2
          go_step3
          rw [show (k : Int) + 1 = ((k + 1 : Nat) : Int) by omega]
          exact ⟨rfl, ⟨rfl, k + 1, _, _, _, _, _, _, _, _, _, _, _, _, _, _, _, _, _, _, _, _, _, _, _, _, rfl, by omega, NX.out⟩, by simp [intOf]; omega⟩
        · have he := str_same hl hg
          have hl1 : Op.bytesLess x.toList nm.toList = false := by rw [he]; exact L3.bl_irrefl _
          have hl2 : (x.toList == nm.toList) = true := by rw [he]; simp
          have HE := hide he
          clear hl hg he
          go_wp2
          simp only [Exit.jump]
          go_ret2
          exact ⟨k, true, rfl, ⟨by rw [HN.out]; omega, HP.out, fun _ => ⟨by rw [HN.out]; exact hlt, by rw [← HX.out]; exact HE.out⟩, fun h => (by cases h)⟩, rfl⟩
    · have hne : ((k : Int) == (n : Int)) = true := by simp only [beq_iff_eq]; omega
      go_wp2
      simp only [Exit.jump]
      go_ret2
      exact ⟨k, false, rfl, ⟨by rw [HN.out]; omega, HP.out, fun h => (by cases h), fun _ h => absurd h (by rw [HN.out]; omega)⟩, rfl⟩
end Go.Proofs.Ytbcnkglcfjineal.L13
