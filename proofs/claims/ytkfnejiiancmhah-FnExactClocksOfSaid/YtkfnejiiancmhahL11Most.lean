/-
  Contract: spec.l11Most, the greater numbers of two lists.
-/
import Derived.Test.YtkfnejiiancmhahL11Reads
namespace Go.Proofs.Ytkfnejiiancmhah.L11
open Go.RowKit L1 Own
set_option linter.unusedVariables false

theorem own_mt11 (w : World) (base : Nat) (h : base ≤ w.heap.size) : (w.alloc (.cells #[] 3)).ownsRow base 3 1 (.slice (some ⟨w.heap.size, 0, none⟩) 0 0) 0 [] :=
  ⟨rfl, .inr ⟨w.heap.size, 0, #[], rfl, h, by show (w.heap.push _)[w.heap.size]? = _; exact Array.getElem?_push_size, Nat.le_refl _, by unfold maxLen; omega, rfl, rfl⟩⟩
theorem sl_clL {w : World} {a : Option Addr} {E : Nat → Int} {n : Nat} (h : Sl w a (clL E n)) (h1 : 1 ≤ n) : ∃ b off, a = some ⟨b, off, none⟩ ∧ ∀ i, i < n → w.cell? ⟨b, off + i, none⟩ = some (.int .i64 (E i)) := by
  obtain ⟨b, off, rfl, _⟩ := h 0 (by rw [clL_len]; omega)
  refine ⟨b, off, rfl, fun i hi => ?_⟩
  have := h.at i (by rw [clL_len]; exact hi)
  rw [this]
  simp [clL, List.getD, hi]
set_option maxRecDepth 100000 in
set_option maxHeartbeats 4000000 in
theorem l11Most_any (a b : Option Addr) (E F : Nat → Int) (n ca cb : Nat) (w : World) (ha : Sl w a (clL E n)) (hb : Sl w b (clL F n)) (h1 : 1 ≤ n) (hn2 : n ≤ 1048576) :
    Calls Try.prog 53 #[.slice a n ca, .slice b n cb] w fun e w' => ∃ v, e = .returned v ∧ w'.ownsRow w.heap.size 3 1 v n ((clL (jn E F) n).map (Value.int .i64)) ∧ Below w.heap.size w w' := by
  obtain ⟨i1, hi1, hy0, hy1, hy2⟩ := info_parts info_int
  obtain ⟨ab, ao, rfl, hA⟩ := sl_clL ha h1
  obtain ⟨bb, bo, rfl, hB⟩ := sl_clL hb h1
  have hnews : ∀ j u, ((clL E n).map (Value.int .i64))[j]? = some u → (w.alloc (.cells #[] 3)).cell? ((⟨ab, ao, none⟩ : Addr).add j) = some u := fun j u h => by
    rw [clL_lA] at h
    have hj : j < n := by
      by_cases h2 : j < n
      · exact h2
      · rw [List.getElem?_eq_none (by simp [lA]; omega)] at h; cases h
    rw [lA_get n E j hj] at h
    cases h
    have h3 := hA j hj
    have h4 := (((Below.refl w.heap.size w).alloc (Nat.le_refl _) (.cells #[] 3)).cell (p := ⟨ab, ao + j, none⟩) (blk_lt h3)).trans h3
    have e : (⟨ab, ao, none⟩ : Addr).add j = ⟨ab, ao + j, none⟩ := by unfold Addr.add; split <;> simp_all
    rw [e]
    exact h4
  have HNW := hide hnews
  have HB := hide hB
  clear hnews hA hB ha hb
  go_enter Try.func53, Try.ntmps53
  go_wp2_with (first
    | (at_builtin; refine wpList_append_own_at _ rfl _ _ 38 rfl w.heap.size 3 i1 (.int .i64 0) 1 8 Try.underlying38 hi1 hy0 hy1 hy2 rfl (by decide) _ _ _ rfl (own_mt11 w w.heap.size (Nat.le_refl _)) ⟨ab, ao, none⟩ n ca ((clL E n).map (Value.int .i64)) rfl (by simp [clL_len]) HNW.out (by intro u hu; simp at hu; obtain ⟨q, _, rfl⟩ := hu; rfl) (by unfold maxLen; omega) (by omega) (by simp) ?_)
    | go_in)
  intro v6 w6 hown6 hgrow6 hnil6 _
  have hb6 : Below w.heap.size w w6 := ((Below.refl _ _).alloc (Nat.le_refl _) _).grown hgrow6 (by simp) (fun q hq => (own_mt11 w w.heap.size (Nat.le_refl _)).lt q hq |>.1)
  have hown7 : w6.ownsRow w.heap.size 3 1 v6 n (lA n (jnK E F 0)) := by
    have h := hown6
    rw [clL_lA] at h
    exact h
  obtain ⟨g, cap, rfl⟩ : ∃ g cap, v6 = .slice (some ⟨g, 0, none⟩) n cap := by
    rcases hown7.2 with ⟨_, h0⟩ | ⟨g, cap, cur, hv, _⟩
    · omega
    · exact ⟨g, cap, hv⟩
  have HO := hide hown7
  have HB6 := hide hb6
  clear hown6 hgrow6 hnil6 hown7 hb6 HNW
  go_wp2
  go_loopw [13] (fun i wr => ∃ k : Nat, k ≤ n ∧ i = .int .i64 k ∧ Hid (wr.ownsRow w.heap.size 3 1 (.slice (some ⟨g, 0, none⟩) n cap) n (lA n (jnK E F k))) ∧ Hid (Below w.heap.size w wr)) (fun i _ => n - (intOf i).toNat)
  case atStart => exact ⟨0, Nat.zero_le _, rfl, HO, HB6⟩
  case round =>
    obtain ⟨k, hk, rfl, HR, HBL⟩ := hrel
    by_cases hlt : k < n
    · have hltI : (k : Int) < (n : Int) := by omega
      have hk0 : (0 : Int) ≤ (k : Int) := by omega
      have hb0 := HB.out k hlt
      have hcb := (HBL.out.cell (p := ⟨bb, bo + k, none⟩) (blk_lt hb0)).trans hb0
      have hca := (HR.out.cellAt k (by omega)).trans (lA_get n (jnK E F k) k hlt)
      rw [jnK_self] at hca
      have hfa := HR.out.frozenAt k
      have hsu := jnK_succ E F k
      have hge := (HR.out.lt g rfl).1
      obtain ⟨x, hx⟩ : ∃ x, x = E k := ⟨_, rfl⟩
      obtain ⟨y, hy⟩ : ∃ y, y = F k := ⟨_, rfl⟩
      rw [← hx] at hca hsu
      rw [← hy] at hcb hsu
      by_cases hxy : x < y
      · have HN : Hid ((wr.setCell ⟨g, k, none⟩ (.int .i64 y)).ownsRow w.heap.size 3 1 (.slice (some ⟨g, 0, none⟩) n cap) n (lA n (jnK E F (k + 1)))) := hide (by
          have h3 := (HR.out.stored k (.int .i64 y)).1
          rw [lA_upd] at h3
          have h4 : lA n (updI (jnK E F k) k y) = lA n (jnK E F (k + 1)) := lA_congr n _ _ (fun i _ => by rw [← hsu i, show max x y = y by omega])
          rw [h4] at h3
          exact h3)
        have HB2 : Hid (Below w.heap.size w (wr.setCell ⟨g, k, none⟩ (.int .i64 y))) := hide (HBL.out.setCell (p := ⟨g, k, none⟩) hge _)
        clear hx hy hsu hb0 HR HBL
        go_wp2
        go_roundw
        case rel => exact ⟨k + 1, by omega, by go_num, HN, HB2⟩
        case measure => simp [intOf]; omega
      · have HN : Hid (wr.ownsRow w.heap.size 3 1 (.slice (some ⟨g, 0, none⟩) n cap) n (lA n (jnK E F (k + 1)))) := hide (by
          have h4 : lA n (jnK E F k) = lA n (jnK E F (k + 1)) := lA_congr n _ _ (fun i _ => by
            rw [← hsu i]
            unfold updI
            by_cases e : i = k
            · subst e; rw [if_pos rfl, jnK_self, ← hx]; omega
            · rw [if_neg e])
          rw [← h4]
          exact HR.out)
        clear hx hy hsu hb0 HR
        go_wp2
        go_roundw
        case rel => exact ⟨k + 1, by omega, by go_num, HN, HBL⟩
        case measure => simp [intOf]; omega
    · obtain rfl : k = n := by omega
      have hltI : ¬ (k : Int) < (k : Int) := by omega
      have HF : Hid (wr.ownsRow w.heap.size 3 1 (.slice (some ⟨g, 0, none⟩) k cap) k ((clL (jn E F) k).map (Value.int .i64))) := hide (by
        rw [clL_lA]
        have h4 : lA k (jnK E F k) = lA k (jn E F) := lA_congr k _ _ (fun i hi => by unfold jnK jn; rw [if_pos hi])
        rw [← h4]
        exact HR.out)
      clear HR
      go_wp2
      go_ret
      exact ⟨_, rfl, HF.out, HBL.out⟩
end Go.Proofs.Ytkfnejiiancmhah.L11
