/-
  Contracts: impl.clockList, readClocks.
-/
import Derived.Test.YtkfnejiiancmhahL11Read
namespace Go.Proofs.Ytkfnejiiancmhah.L11
open Go.RowKit L1 Own
set_option linter.unusedVariables false

/-- The first numbers of a clock. -/
def clL (E : Nat → Int) (N : Nat) : List Int := (List.range N).map E
theorem clL_len (E : Nat → Int) (N : Nat) : (clL E N).length = N := by simp [clL]
theorem clL_lA (E : Nat → Int) (N : Nat) : (clL E N).map (Value.int .i64) = lA N E := by simp [clL, lA]
theorem addr_add11 (g j : Nat) : (⟨g, 0, none⟩ : Addr).add j = ⟨g, j, none⟩ := by rw [addr_add]
set_option maxRecDepth 100000 in
set_option maxHeartbeats 4000000 in
theorem clockList_any (E : Nat → Int) (N : Nat) (h1 : 1 ≤ N) (h5 : N ≤ 5) (w : World) :
    Calls Try.prog 39 #[cv E, .int .i64 N] w fun e w' => ∃ v, e = .returned v ∧ w'.ownsRow w.heap.size 3 1 v N ((clL E N).map (Value.int .i64)) ∧ Below w.heap.size w w' := by
  obtain ⟨i1, hi1, hy0, hy1, hy2⟩ := info_parts info_int
  have h1I : (1 : Int) ≤ (N : Int) := by omega
  have h5I : (N : Int) ≤ 5 := by omega
  go_enter Try.func39, Try.ntmps39
  go_upto_region 1 with fail
  obtain ⟨W, hW⟩ : ∃ W, w.alloc (.cells #[.int .i64 (E 0), .int .i64 (E 1), .int .i64 (E 2), .int .i64 (E 3), .int .i64 (E 4)] 59) = W := ⟨_, rfl⟩
  have HC : Hid (Clk W w.heap.size w.heap.size E) := by rw [← hW]; exact hide (clk_new w _ _ rfl (Nat.le_refl _) E)
  have HB : Hid (Below w.heap.size w W) := by rw [← hW]; exact hide ((Below.refl _ _).alloc (Nat.le_refl _) _)
  rw [hW]
  clear hW
  have hsz := HB.out.size
  have hnews : ∀ j u, ((clL E N).map (Value.int .i64))[j]? = some u → W.cell? ((⟨w.heap.size, 0, none⟩ : Addr).add j) = some u := fun j u h => by
    rw [clL_lA] at h
    have hj : j < N := by
      by_cases h2 : j < N
      · exact h2
      · rw [List.getElem?_eq_none (by simp [lA]; omega)] at h; cases h
    rw [lA_get N E j hj] at h
    cases h
    rw [addr_add11]
    exact HC.out.cell j (by omega)
  have HNW := hide hnews
  clear hnews
  go_wp2_with (first
    | (at_builtin; refine wpList_append_own_at _ rfl _ _ 38 rfl w.heap.size 3 i1 (.int .i64 0) 1 8 Try.underlying38 hi1 hy0 hy1 hy2 rfl (by decide) _ _ _ rfl (World.ownsRow_nil _ _ _ _) ⟨w.heap.size, 0, none⟩ N 5 ((clL E N).map (Value.int .i64)) rfl (by simp [clL_len]) HNW.out (by intro u hu; simp at hu; obtain ⟨q, _, rfl⟩ := hu; rfl) (by unfold maxLen; omega) (by omega) hsz ?_)
    | go_in)
  intro v6 w6 hown6 hgrow6 _ _
  have hb6 : Below w.heap.size w w6 := HB.out.grown hgrow6 hsz (fun g hg => by cases hg)
  have HO := hide hown6
  clear hown6 hgrow6
  go_wp2
  go_ret
  exact ⟨v6, rfl, by simpa using HO.out, hb6⟩
theorem readClock_any (a : Option Addr) (l : List Int) (n cap : Nat) (w : World) (hn : l.length = n) (hs : Sl w a l) (hn2 : n ≤ 1048576) (b : Bool) (hb : b = true ↔ OkC l) (X : Nat → Int) (hX : X = if b then fnL l else fun _ => 0) :
    Calls Try.prog 49 #[.slice a n cap] w fun e w' => e = .returned (.tuple #[cv X, .bool b]) ∧ Below w.heap.size w w' := by
  cases b with
  | true => subst hX; exact readClock_yes a l n cap w hn hs (hb.1 rfl)
  | false => subst hX; exact readClock_no a l n cap w hn hs hn2 (fun h => by have := hb.2 h; cases this)
set_option maxRecDepth 100000 in
set_option maxHeartbeats 4000000 in
theorem readClocks_any (a b : Option Addr) (l m : List Int) (n k ca cb : Nat) (w : World) (hn : l.length = n) (hk : m.length = k) (ha : Sl w a l) (hb : Sl w b m) (hn2 : n ≤ 1048576) (hk2 : k ≤ 1048576)
    (ba : Bool) (hba : ba = true ↔ OkC l) (X : Nat → Int) (hX : X = if ba then fnL l else fun _ => 0) (bb : Bool) (hbb : bb = true ↔ OkC m) (Y : Nat → Int) (hY : Y = if bb then fnL m else fun _ => 0) (c : Bool) (hc : c = true ↔ (OkC l ∧ OkC m) ∧ n = k) :
    Calls Try.prog 45 #[.slice a n ca, .slice b k cb] w fun e w' => e = .returned (.tuple #[cv X, cv Y, .bool c]) ∧ Below w.heap.size w w' := by
  have CA := hide (fun w hs => readClock_any a l n ca w hn hs hn2 ba hba X hX)
  have CB := hide (fun w hs => readClock_any b m k cb w hk hs hk2 bb hbb Y hY)
  have HA := hide ha
  have HBB := hide hb
  have hc2 : c = true ↔ (ba = true ∧ bb = true) ∧ n = k := by rw [hba, hbb]; exact hc
  have HC := hide hc2
  clear hn hk ha hb hba hbb hX hY hc hc2
  cases ba with
  | false =>
    obtain rfl : c = false := by cases c with
      | false => rfl
      | true => exact absurd (HC.out.1 rfl).1.1 (by simp)
    clear HC
    go_enter Try.func45, Try.ntmps45
    go_upto_region 1 with fail
    obtain ⟨W, hW⟩ : ∃ W, (w.alloc (.cells #[.int .i64 0, .int .i64 0, .int .i64 0, .int .i64 0, .int .i64 0] 59)).alloc (.cells #[.int .i64 0, .int .i64 0, .int .i64 0, .int .i64 0, .int .i64 0] 59) = W := ⟨_, rfl⟩
    have H0 : Hid (K2 w W (fun _ => 0) (fun _ => 0)) := by
      rw [← hW]
      exact hide ⟨(clk_zero w _ _ rfl (Nat.le_refl _)).alloc _, clk_zero _ _ _ (by simp) (by omega), ((Below.refl _ _).alloc (Nat.le_refl _) _).alloc (by simp) _⟩
    rw [hW]
    clear hW
    go_wp2_with fail
    refine (CA.out _ (HA.out.below H0.out.bel)).mono ?_
    rintro e w1 ⟨rfl, hb1⟩
    have H1 : Hid (K2 w w1 (fun _ => 0) (fun _ => 0)) := hide ⟨H0.out.a.below hb1, H0.out.b.below hb1, H0.out.bel.trans (hb1.mono H0.out.bel.size)⟩
    clear hb1 H0
    go_upto_region 2 with fail
    obtain ⟨W1, hW1⟩ : ∃ W1, w1.alloc (.cells #[.int .i64 (X 0), .int .i64 (X 1), .int .i64 (X 2), .int .i64 (X 3), .int .i64 (X 4)] 59) = W1 := ⟨_, rfl⟩
    have hbw1 : Below w1.heap.size w1 W1 := by rw [← hW1]; exact (Below.refl _ _).alloc (Nat.le_refl _) _
    have HX1 : Hid (Clk W1 w.heap.size w1.heap.size X) := by rw [← hW1]; exact hide (clk_new w1 _ _ rfl H1.out.bel.size X)
    have H2 : Hid (K2 w W1 (fun _ => 0) (fun _ => 0)) := hide ⟨H1.out.a.below hbw1, H1.out.b.below hbw1, H1.out.bel.trans (hbw1.mono H1.out.bel.size)⟩
    rw [hW1]
    obtain ⟨gx, hgx⟩ : ∃ gx, gx = w1.heap.size := ⟨_, rfl⟩
    rw [← hgx] at HX1 ⊢
    have hgx1 : w.heap.size + 1 < gx := by rw [hgx]; exact H1.out.b.lt
    clear hW1 hbw1 H1 hgx
    go_wp2_with fail
    refine (CB.out _ (HBB.out.below H2.out.bel)).mono ?_
    rintro e w2 ⟨rfl, hb2⟩
    have H3 : Hid (K2 w w2 (fun _ => 0) (fun _ => 0)) := hide ⟨H2.out.a.below hb2, H2.out.b.below hb2, H2.out.bel.trans (hb2.mono H2.out.bel.size)⟩
    have HX2 := hide (HX1.out.below hb2)
    clear hb2 H2 HX1
    go_upto_region 3 with fail
    obtain ⟨W2, hW2⟩ : ∃ W2, w2.alloc (.cells #[.int .i64 (Y 0), .int .i64 (Y 1), .int .i64 (Y 2), .int .i64 (Y 3), .int .i64 (Y 4)] 59) = W2 := ⟨_, rfl⟩
    have hbw2 : Below w2.heap.size w2 W2 := by rw [← hW2]; exact (Below.refl _ _).alloc (Nat.le_refl _) _
    have HY3 : Hid (Clk W2 w.heap.size w2.heap.size Y) := by rw [← hW2]; exact hide (clk_new w2 _ _ rfl H3.out.bel.size Y)
    have H4 : Hid (K2 w W2 (fun _ => 0) (fun _ => 0)) := hide ⟨H3.out.a.below hbw2, H3.out.b.below hbw2, H3.out.bel.trans (hbw2.mono H3.out.bel.size)⟩
    have HX3 := hide (HX2.out.below hbw2)
    rw [hW2]
    obtain ⟨gy, hgy⟩ : ∃ gy, gy = w2.heap.size := ⟨_, rfl⟩
    rw [← hgy] at HY3 ⊢
    have hgy1 : w.heap.size + 1 < gy := by rw [hgy]; exact H3.out.b.lt
    clear hW2 hbw2 H3 HX2 hgy
    have x0 := HX3.out.cell 0 (by omega)
    have y0 := HY3.out.cell 0 (by omega)
    have r0 := H4.out.a.cell 0 (by omega)
    have f0 := H4.out.a.frozenAt 0
    have q0 := H4.out.b.cell 0 (by omega)
    have p0 := H4.out.b.frozenAt 0
    have x1 := HX3.out.cell 1 (by omega)
    have y1 := HY3.out.cell 1 (by omega)
    have r1 := H4.out.a.cell 1 (by omega)
    have f1 := H4.out.a.frozenAt 1
    have q1 := H4.out.b.cell 1 (by omega)
    have p1 := H4.out.b.frozenAt 1
    have x2 := HX3.out.cell 2 (by omega)
    have y2 := HY3.out.cell 2 (by omega)
    have r2 := H4.out.a.cell 2 (by omega)
    have f2 := H4.out.a.frozenAt 2
    have q2 := H4.out.b.cell 2 (by omega)
    have p2 := H4.out.b.frozenAt 2
    have x3 := HX3.out.cell 3 (by omega)
    have y3 := HY3.out.cell 3 (by omega)
    have r3 := H4.out.a.cell 3 (by omega)
    have f3 := H4.out.a.frozenAt 3
    have q3 := H4.out.b.cell 3 (by omega)
    have p3 := H4.out.b.frozenAt 3
    have x4 := HX3.out.cell 4 (by omega)
    have y4 := HY3.out.cell 4 (by omega)
    have r4 := H4.out.a.cell 4 (by omega)
    have f4 := H4.out.a.frozenAt 4
    have q4 := H4.out.b.cell 4 (by omega)
    have p4 := H4.out.b.frozenAt 4
    have hne1 : ¬ gx = w.heap.size := by omega
    have hne2 : ¬ gy = w.heap.size := by omega
    have hne3 : ¬ gx = w.heap.size + 1 := by omega
    have hne4 : ¬ gy = w.heap.size + 1 := by omega
    clear hgx1 hgy1 HX3 HY3
    go_region
    go_wp2
    refine bodyPost_ret (v := .tuple #[cv X, cv Y, .bool false]) (by simp [results, Try.f45, go_sem, *]) rfl ⟨rfl, ?_⟩
    exact ((((((((((H4.out.bel.setCell (p := ⟨w.heap.size, 0, none⟩) (by simp only; omega) _).setCell (p := ⟨w.heap.size, 1, none⟩) (by simp only; omega) _).setCell (p := ⟨w.heap.size, 2, none⟩) (by simp only; omega) _).setCell (p := ⟨w.heap.size, 3, none⟩) (by simp only; omega) _).setCell (p := ⟨w.heap.size, 4, none⟩) (by simp only; omega) _).setCell (p := ⟨w.heap.size + 1, 0, none⟩) (by simp only; omega) _).setCell (p := ⟨w.heap.size + 1, 1, none⟩) (by simp only; omega) _).setCell (p := ⟨w.heap.size + 1, 2, none⟩) (by simp only; omega) _).setCell (p := ⟨w.heap.size + 1, 3, none⟩) (by simp only; omega) _).setCell (p := ⟨w.heap.size + 1, 4, none⟩) (by simp only; omega) _).drew
  | true =>
    cases bb with
    | false =>
      obtain rfl : c = false := by cases c with
        | false => rfl
        | true => exact absurd (HC.out.1 rfl).1.2 (by simp)
      clear HC
      go_enter Try.func45, Try.ntmps45
      go_upto_region 1 with fail
      obtain ⟨W, hW⟩ : ∃ W, (w.alloc (.cells #[.int .i64 0, .int .i64 0, .int .i64 0, .int .i64 0, .int .i64 0] 59)).alloc (.cells #[.int .i64 0, .int .i64 0, .int .i64 0, .int .i64 0, .int .i64 0] 59) = W := ⟨_, rfl⟩
      have H0 : Hid (K2 w W (fun _ => 0) (fun _ => 0)) := by
        rw [← hW]
        exact hide ⟨(clk_zero w _ _ rfl (Nat.le_refl _)).alloc _, clk_zero _ _ _ (by simp) (by omega), ((Below.refl _ _).alloc (Nat.le_refl _) _).alloc (by simp) _⟩
      rw [hW]
      clear hW
      go_wp2_with fail
      refine (CA.out _ (HA.out.below H0.out.bel)).mono ?_
      rintro e w1 ⟨rfl, hb1⟩
      have H1 : Hid (K2 w w1 (fun _ => 0) (fun _ => 0)) := hide ⟨H0.out.a.below hb1, H0.out.b.below hb1, H0.out.bel.trans (hb1.mono H0.out.bel.size)⟩
      clear hb1 H0
      go_upto_region 2 with fail
      obtain ⟨W1, hW1⟩ : ∃ W1, w1.alloc (.cells #[.int .i64 (X 0), .int .i64 (X 1), .int .i64 (X 2), .int .i64 (X 3), .int .i64 (X 4)] 59) = W1 := ⟨_, rfl⟩
      have hbw1 : Below w1.heap.size w1 W1 := by rw [← hW1]; exact (Below.refl _ _).alloc (Nat.le_refl _) _
      have HX1 : Hid (Clk W1 w.heap.size w1.heap.size X) := by rw [← hW1]; exact hide (clk_new w1 _ _ rfl H1.out.bel.size X)
      have H2 : Hid (K2 w W1 (fun _ => 0) (fun _ => 0)) := hide ⟨H1.out.a.below hbw1, H1.out.b.below hbw1, H1.out.bel.trans (hbw1.mono H1.out.bel.size)⟩
      rw [hW1]
      obtain ⟨gx, hgx⟩ : ∃ gx, gx = w1.heap.size := ⟨_, rfl⟩
      rw [← hgx] at HX1 ⊢
      have hgx1 : w.heap.size + 1 < gx := by rw [hgx]; exact H1.out.b.lt
      clear hW1 hbw1 H1 hgx
      go_wp2_with fail
      refine (CB.out _ (HBB.out.below H2.out.bel)).mono ?_
      rintro e w2 ⟨rfl, hb2⟩
      have H3 : Hid (K2 w w2 (fun _ => 0) (fun _ => 0)) := hide ⟨H2.out.a.below hb2, H2.out.b.below hb2, H2.out.bel.trans (hb2.mono H2.out.bel.size)⟩
      have HX2 := hide (HX1.out.below hb2)
      clear hb2 H2 HX1
      go_upto_region 3 with fail
      obtain ⟨W2, hW2⟩ : ∃ W2, w2.alloc (.cells #[.int .i64 (Y 0), .int .i64 (Y 1), .int .i64 (Y 2), .int .i64 (Y 3), .int .i64 (Y 4)] 59) = W2 := ⟨_, rfl⟩
      have hbw2 : Below w2.heap.size w2 W2 := by rw [← hW2]; exact (Below.refl _ _).alloc (Nat.le_refl _) _
      have HY3 : Hid (Clk W2 w.heap.size w2.heap.size Y) := by rw [← hW2]; exact hide (clk_new w2 _ _ rfl H3.out.bel.size Y)
      have H4 : Hid (K2 w W2 (fun _ => 0) (fun _ => 0)) := hide ⟨H3.out.a.below hbw2, H3.out.b.below hbw2, H3.out.bel.trans (hbw2.mono H3.out.bel.size)⟩
      have HX3 := hide (HX2.out.below hbw2)
      rw [hW2]
      obtain ⟨gy, hgy⟩ : ∃ gy, gy = w2.heap.size := ⟨_, rfl⟩
      rw [← hgy] at HY3 ⊢
      have hgy1 : w.heap.size + 1 < gy := by rw [hgy]; exact H3.out.b.lt
      clear hW2 hbw2 H3 HX2 hgy
      have x0 := HX3.out.cell 0 (by omega)
      have y0 := HY3.out.cell 0 (by omega)
      have r0 := H4.out.a.cell 0 (by omega)
      have f0 := H4.out.a.frozenAt 0
      have q0 := H4.out.b.cell 0 (by omega)
      have p0 := H4.out.b.frozenAt 0
      have x1 := HX3.out.cell 1 (by omega)
      have y1 := HY3.out.cell 1 (by omega)
      have r1 := H4.out.a.cell 1 (by omega)
      have f1 := H4.out.a.frozenAt 1
      have q1 := H4.out.b.cell 1 (by omega)
      have p1 := H4.out.b.frozenAt 1
      have x2 := HX3.out.cell 2 (by omega)
      have y2 := HY3.out.cell 2 (by omega)
      have r2 := H4.out.a.cell 2 (by omega)
      have f2 := H4.out.a.frozenAt 2
      have q2 := H4.out.b.cell 2 (by omega)
      have p2 := H4.out.b.frozenAt 2
      have x3 := HX3.out.cell 3 (by omega)
      have y3 := HY3.out.cell 3 (by omega)
      have r3 := H4.out.a.cell 3 (by omega)
      have f3 := H4.out.a.frozenAt 3
      have q3 := H4.out.b.cell 3 (by omega)
      have p3 := H4.out.b.frozenAt 3
      have x4 := HX3.out.cell 4 (by omega)
      have y4 := HY3.out.cell 4 (by omega)
      have r4 := H4.out.a.cell 4 (by omega)
      have f4 := H4.out.a.frozenAt 4
      have q4 := H4.out.b.cell 4 (by omega)
      have p4 := H4.out.b.frozenAt 4
      have hne1 : ¬ gx = w.heap.size := by omega
      have hne2 : ¬ gy = w.heap.size := by omega
      have hne3 : ¬ gx = w.heap.size + 1 := by omega
      have hne4 : ¬ gy = w.heap.size + 1 := by omega
      clear hgx1 hgy1 HX3 HY3
      go_region
      go_wp2
      refine bodyPost_ret (v := .tuple #[cv X, cv Y, .bool false]) (by simp [results, Try.f45, go_sem, *]) rfl ⟨rfl, ?_⟩
      exact ((((((((((H4.out.bel.setCell (p := ⟨w.heap.size, 0, none⟩) (by simp only; omega) _).setCell (p := ⟨w.heap.size, 1, none⟩) (by simp only; omega) _).setCell (p := ⟨w.heap.size, 2, none⟩) (by simp only; omega) _).setCell (p := ⟨w.heap.size, 3, none⟩) (by simp only; omega) _).setCell (p := ⟨w.heap.size, 4, none⟩) (by simp only; omega) _).setCell (p := ⟨w.heap.size + 1, 0, none⟩) (by simp only; omega) _).setCell (p := ⟨w.heap.size + 1, 1, none⟩) (by simp only; omega) _).setCell (p := ⟨w.heap.size + 1, 2, none⟩) (by simp only; omega) _).setCell (p := ⟨w.heap.size + 1, 3, none⟩) (by simp only; omega) _).setCell (p := ⟨w.heap.size + 1, 4, none⟩) (by simp only; omega) _).drew
    | true =>
      by_cases hnk : n = k
      · obtain rfl : c = true := HC.out.2 ⟨⟨rfl, rfl⟩, hnk⟩
        subst hnk
        clear HC
        go_enter Try.func45, Try.ntmps45
        go_upto_region 1 with fail
        obtain ⟨W, hW⟩ : ∃ W, (w.alloc (.cells #[.int .i64 0, .int .i64 0, .int .i64 0, .int .i64 0, .int .i64 0] 59)).alloc (.cells #[.int .i64 0, .int .i64 0, .int .i64 0, .int .i64 0, .int .i64 0] 59) = W := ⟨_, rfl⟩
        have H0 : Hid (K2 w W (fun _ => 0) (fun _ => 0)) := by
          rw [← hW]
          exact hide ⟨(clk_zero w _ _ rfl (Nat.le_refl _)).alloc _, clk_zero _ _ _ (by simp) (by omega), ((Below.refl _ _).alloc (Nat.le_refl _) _).alloc (by simp) _⟩
        rw [hW]
        clear hW
        go_wp2_with fail
        refine (CA.out _ (HA.out.below H0.out.bel)).mono ?_
        rintro e w1 ⟨rfl, hb1⟩
        have H1 : Hid (K2 w w1 (fun _ => 0) (fun _ => 0)) := hide ⟨H0.out.a.below hb1, H0.out.b.below hb1, H0.out.bel.trans (hb1.mono H0.out.bel.size)⟩
        clear hb1 H0
        go_upto_region 2 with fail
        obtain ⟨W1, hW1⟩ : ∃ W1, w1.alloc (.cells #[.int .i64 (X 0), .int .i64 (X 1), .int .i64 (X 2), .int .i64 (X 3), .int .i64 (X 4)] 59) = W1 := ⟨_, rfl⟩
        have hbw1 : Below w1.heap.size w1 W1 := by rw [← hW1]; exact (Below.refl _ _).alloc (Nat.le_refl _) _
        have HX1 : Hid (Clk W1 w.heap.size w1.heap.size X) := by rw [← hW1]; exact hide (clk_new w1 _ _ rfl H1.out.bel.size X)
        have H2 : Hid (K2 w W1 (fun _ => 0) (fun _ => 0)) := hide ⟨H1.out.a.below hbw1, H1.out.b.below hbw1, H1.out.bel.trans (hbw1.mono H1.out.bel.size)⟩
        rw [hW1]
        obtain ⟨gx, hgx⟩ : ∃ gx, gx = w1.heap.size := ⟨_, rfl⟩
        rw [← hgx] at HX1 ⊢
        have hgx1 : w.heap.size + 1 < gx := by rw [hgx]; exact H1.out.b.lt
        clear hW1 hbw1 H1 hgx
        go_wp2_with fail
        refine (CB.out _ (HBB.out.below H2.out.bel)).mono ?_
        rintro e w2 ⟨rfl, hb2⟩
        have H3 : Hid (K2 w w2 (fun _ => 0) (fun _ => 0)) := hide ⟨H2.out.a.below hb2, H2.out.b.below hb2, H2.out.bel.trans (hb2.mono H2.out.bel.size)⟩
        have HX2 := hide (HX1.out.below hb2)
        clear hb2 H2 HX1
        go_upto_region 3 with fail
        obtain ⟨W2, hW2⟩ : ∃ W2, w2.alloc (.cells #[.int .i64 (Y 0), .int .i64 (Y 1), .int .i64 (Y 2), .int .i64 (Y 3), .int .i64 (Y 4)] 59) = W2 := ⟨_, rfl⟩
        have hbw2 : Below w2.heap.size w2 W2 := by rw [← hW2]; exact (Below.refl _ _).alloc (Nat.le_refl _) _
        have HY3 : Hid (Clk W2 w.heap.size w2.heap.size Y) := by rw [← hW2]; exact hide (clk_new w2 _ _ rfl H3.out.bel.size Y)
        have H4 : Hid (K2 w W2 (fun _ => 0) (fun _ => 0)) := hide ⟨H3.out.a.below hbw2, H3.out.b.below hbw2, H3.out.bel.trans (hbw2.mono H3.out.bel.size)⟩
        have HX3 := hide (HX2.out.below hbw2)
        rw [hW2]
        obtain ⟨gy, hgy⟩ : ∃ gy, gy = w2.heap.size := ⟨_, rfl⟩
        rw [← hgy] at HY3 ⊢
        have hgy1 : w.heap.size + 1 < gy := by rw [hgy]; exact H3.out.b.lt
        clear hW2 hbw2 H3 HX2 hgy
        have x0 := HX3.out.cell 0 (by omega)
        have y0 := HY3.out.cell 0 (by omega)
        have r0 := H4.out.a.cell 0 (by omega)
        have f0 := H4.out.a.frozenAt 0
        have q0 := H4.out.b.cell 0 (by omega)
        have p0 := H4.out.b.frozenAt 0
        have x1 := HX3.out.cell 1 (by omega)
        have y1 := HY3.out.cell 1 (by omega)
        have r1 := H4.out.a.cell 1 (by omega)
        have f1 := H4.out.a.frozenAt 1
        have q1 := H4.out.b.cell 1 (by omega)
        have p1 := H4.out.b.frozenAt 1
        have x2 := HX3.out.cell 2 (by omega)
        have y2 := HY3.out.cell 2 (by omega)
        have r2 := H4.out.a.cell 2 (by omega)
        have f2 := H4.out.a.frozenAt 2
        have q2 := H4.out.b.cell 2 (by omega)
        have p2 := H4.out.b.frozenAt 2
        have x3 := HX3.out.cell 3 (by omega)
        have y3 := HY3.out.cell 3 (by omega)
        have r3 := H4.out.a.cell 3 (by omega)
        have f3 := H4.out.a.frozenAt 3
        have q3 := H4.out.b.cell 3 (by omega)
        have p3 := H4.out.b.frozenAt 3
        have x4 := HX3.out.cell 4 (by omega)
        have y4 := HY3.out.cell 4 (by omega)
        have r4 := H4.out.a.cell 4 (by omega)
        have f4 := H4.out.a.frozenAt 4
        have q4 := H4.out.b.cell 4 (by omega)
        have p4 := H4.out.b.frozenAt 4
        have hne1 : ¬ gx = w.heap.size := by omega
        have hne2 : ¬ gy = w.heap.size := by omega
        have hne3 : ¬ gx = w.heap.size + 1 := by omega
        have hne4 : ¬ gy = w.heap.size + 1 := by omega
        clear hgx1 hgy1 HX3 HY3
        go_region
        go_wp2
        refine bodyPost_ret (v := .tuple #[cv X, cv Y, .bool true]) (by simp [results, Try.f45, go_sem, *]) rfl ⟨rfl, ?_⟩
        exact ((((((((((H4.out.bel.setCell (p := ⟨w.heap.size, 0, none⟩) (by simp only; omega) _).setCell (p := ⟨w.heap.size, 1, none⟩) (by simp only; omega) _).setCell (p := ⟨w.heap.size, 2, none⟩) (by simp only; omega) _).setCell (p := ⟨w.heap.size, 3, none⟩) (by simp only; omega) _).setCell (p := ⟨w.heap.size, 4, none⟩) (by simp only; omega) _).setCell (p := ⟨w.heap.size + 1, 0, none⟩) (by simp only; omega) _).setCell (p := ⟨w.heap.size + 1, 1, none⟩) (by simp only; omega) _).setCell (p := ⟨w.heap.size + 1, 2, none⟩) (by simp only; omega) _).setCell (p := ⟨w.heap.size + 1, 3, none⟩) (by simp only; omega) _).setCell (p := ⟨w.heap.size + 1, 4, none⟩) (by simp only; omega) _).drew
      · obtain rfl : c = false := by cases c with
          | false => rfl
          | true => exact absurd (HC.out.1 rfl).2 hnk
        have hnkI : ((n : Int) == (k : Int)) = false := by simp; omega
        clear HC hnk
        go_enter Try.func45, Try.ntmps45
        go_upto_region 1 with fail
        obtain ⟨W, hW⟩ : ∃ W, (w.alloc (.cells #[.int .i64 0, .int .i64 0, .int .i64 0, .int .i64 0, .int .i64 0] 59)).alloc (.cells #[.int .i64 0, .int .i64 0, .int .i64 0, .int .i64 0, .int .i64 0] 59) = W := ⟨_, rfl⟩
        have H0 : Hid (K2 w W (fun _ => 0) (fun _ => 0)) := by
          rw [← hW]
          exact hide ⟨(clk_zero w _ _ rfl (Nat.le_refl _)).alloc _, clk_zero _ _ _ (by simp) (by omega), ((Below.refl _ _).alloc (Nat.le_refl _) _).alloc (by simp) _⟩
        rw [hW]
        clear hW
        go_wp2_with fail
        refine (CA.out _ (HA.out.below H0.out.bel)).mono ?_
        rintro e w1 ⟨rfl, hb1⟩
        have H1 : Hid (K2 w w1 (fun _ => 0) (fun _ => 0)) := hide ⟨H0.out.a.below hb1, H0.out.b.below hb1, H0.out.bel.trans (hb1.mono H0.out.bel.size)⟩
        clear hb1 H0
        go_upto_region 2 with fail
        obtain ⟨W1, hW1⟩ : ∃ W1, w1.alloc (.cells #[.int .i64 (X 0), .int .i64 (X 1), .int .i64 (X 2), .int .i64 (X 3), .int .i64 (X 4)] 59) = W1 := ⟨_, rfl⟩
        have hbw1 : Below w1.heap.size w1 W1 := by rw [← hW1]; exact (Below.refl _ _).alloc (Nat.le_refl _) _
        have HX1 : Hid (Clk W1 w.heap.size w1.heap.size X) := by rw [← hW1]; exact hide (clk_new w1 _ _ rfl H1.out.bel.size X)
        have H2 : Hid (K2 w W1 (fun _ => 0) (fun _ => 0)) := hide ⟨H1.out.a.below hbw1, H1.out.b.below hbw1, H1.out.bel.trans (hbw1.mono H1.out.bel.size)⟩
        rw [hW1]
        obtain ⟨gx, hgx⟩ : ∃ gx, gx = w1.heap.size := ⟨_, rfl⟩
        rw [← hgx] at HX1 ⊢
        have hgx1 : w.heap.size + 1 < gx := by rw [hgx]; exact H1.out.b.lt
        clear hW1 hbw1 H1 hgx
        go_wp2_with fail
        refine (CB.out _ (HBB.out.below H2.out.bel)).mono ?_
        rintro e w2 ⟨rfl, hb2⟩
        have H3 : Hid (K2 w w2 (fun _ => 0) (fun _ => 0)) := hide ⟨H2.out.a.below hb2, H2.out.b.below hb2, H2.out.bel.trans (hb2.mono H2.out.bel.size)⟩
        have HX2 := hide (HX1.out.below hb2)
        clear hb2 H2 HX1
        go_upto_region 3 with fail
        obtain ⟨W2, hW2⟩ : ∃ W2, w2.alloc (.cells #[.int .i64 (Y 0), .int .i64 (Y 1), .int .i64 (Y 2), .int .i64 (Y 3), .int .i64 (Y 4)] 59) = W2 := ⟨_, rfl⟩
        have hbw2 : Below w2.heap.size w2 W2 := by rw [← hW2]; exact (Below.refl _ _).alloc (Nat.le_refl _) _
        have HY3 : Hid (Clk W2 w.heap.size w2.heap.size Y) := by rw [← hW2]; exact hide (clk_new w2 _ _ rfl H3.out.bel.size Y)
        have H4 : Hid (K2 w W2 (fun _ => 0) (fun _ => 0)) := hide ⟨H3.out.a.below hbw2, H3.out.b.below hbw2, H3.out.bel.trans (hbw2.mono H3.out.bel.size)⟩
        have HX3 := hide (HX2.out.below hbw2)
        rw [hW2]
        obtain ⟨gy, hgy⟩ : ∃ gy, gy = w2.heap.size := ⟨_, rfl⟩
        rw [← hgy] at HY3 ⊢
        have hgy1 : w.heap.size + 1 < gy := by rw [hgy]; exact H3.out.b.lt
        clear hW2 hbw2 H3 HX2 hgy
        have x0 := HX3.out.cell 0 (by omega)
        have y0 := HY3.out.cell 0 (by omega)
        have r0 := H4.out.a.cell 0 (by omega)
        have f0 := H4.out.a.frozenAt 0
        have q0 := H4.out.b.cell 0 (by omega)
        have p0 := H4.out.b.frozenAt 0
        have x1 := HX3.out.cell 1 (by omega)
        have y1 := HY3.out.cell 1 (by omega)
        have r1 := H4.out.a.cell 1 (by omega)
        have f1 := H4.out.a.frozenAt 1
        have q1 := H4.out.b.cell 1 (by omega)
        have p1 := H4.out.b.frozenAt 1
        have x2 := HX3.out.cell 2 (by omega)
        have y2 := HY3.out.cell 2 (by omega)
        have r2 := H4.out.a.cell 2 (by omega)
        have f2 := H4.out.a.frozenAt 2
        have q2 := H4.out.b.cell 2 (by omega)
        have p2 := H4.out.b.frozenAt 2
        have x3 := HX3.out.cell 3 (by omega)
        have y3 := HY3.out.cell 3 (by omega)
        have r3 := H4.out.a.cell 3 (by omega)
        have f3 := H4.out.a.frozenAt 3
        have q3 := H4.out.b.cell 3 (by omega)
        have p3 := H4.out.b.frozenAt 3
        have x4 := HX3.out.cell 4 (by omega)
        have y4 := HY3.out.cell 4 (by omega)
        have r4 := H4.out.a.cell 4 (by omega)
        have f4 := H4.out.a.frozenAt 4
        have q4 := H4.out.b.cell 4 (by omega)
        have p4 := H4.out.b.frozenAt 4
        have hne1 : ¬ gx = w.heap.size := by omega
        have hne2 : ¬ gy = w.heap.size := by omega
        have hne3 : ¬ gx = w.heap.size + 1 := by omega
        have hne4 : ¬ gy = w.heap.size + 1 := by omega
        clear hgx1 hgy1 HX3 HY3
        go_region
        go_wp2
        refine bodyPost_ret (v := .tuple #[cv X, cv Y, .bool false]) (by simp [results, Try.f45, go_sem, *]) rfl ⟨rfl, ?_⟩
        exact ((((((((((H4.out.bel.setCell (p := ⟨w.heap.size, 0, none⟩) (by simp only; omega) _).setCell (p := ⟨w.heap.size, 1, none⟩) (by simp only; omega) _).setCell (p := ⟨w.heap.size, 2, none⟩) (by simp only; omega) _).setCell (p := ⟨w.heap.size, 3, none⟩) (by simp only; omega) _).setCell (p := ⟨w.heap.size, 4, none⟩) (by simp only; omega) _).setCell (p := ⟨w.heap.size + 1, 0, none⟩) (by simp only; omega) _).setCell (p := ⟨w.heap.size + 1, 1, none⟩) (by simp only; omega) _).setCell (p := ⟨w.heap.size + 1, 2, none⟩) (by simp only; omega) _).setCell (p := ⟨w.heap.size + 1, 3, none⟩) (by simp only; omega) _).setCell (p := ⟨w.heap.size + 1, 4, none⟩) (by simp only; omega) _).drew
end Go.Proofs.Ytkfnejiiancmhah.L11
