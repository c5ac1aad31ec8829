/-
  Contract: spec.WindowsOf.
-/
import Derived.Test.YticgejaaoamhmapL16WinR
import Derived.Test.YticgejaaoamhmapL16Wins
import Derived.Test.YticgejaaoamhmapL16Told
import Derived.Test.YticgejaaoamhmapL16SRate
namespace Go.Proofs.Yticgejaaoamhmap.L16
open Go.RowKit L1
set_option linter.unusedVariables false

theorem winK_last (l : List (Int × Int)) (hc : Ctr l) (s : Int) : ∀ k, k < l.length → ∃ L w, winK l s (k + 1) = L ++ [w] ∧ w.f = fr s (at_ l k) ∧ 0 ≤ w.c ∧ w.c ≤ (k : Int) + 1 ∧ 0 ≤ w.r ∧ w.r ≤ 1000000000 * (k : Int)
  | 0, _ => ⟨[], _, winK_new (.inl rfl), rfl, by simp, by simp, by simp, by simp⟩
  | k + 1, hk => by
    by_cases h : k + 1 = 0 ∨ fr s (at_ l (k + 1)) ≠ fr s (at_ l (k + 1 - 1))
    · exact ⟨_, _, winK_new h, rfl, by simp, by dsimp only; omega, by simp, by dsimp only; omega⟩
    · obtain ⟨L, w, e, h1, h2, h3, h4, h5⟩ := winK_last l hc s k (by omega)
      have v1 := hc.val (k := k) (by omega)
      have v2 := hc.val (k := k + 1) (by omega)
      have sb := stp_bd v1 v2
      refine ⟨L, _, winK_more h L w e, ?_, ?_, ?_, ?_, ?_⟩
      · dsimp only
        rw [h1]
        have : ¬ fr s (at_ l (k + 1)) ≠ fr s (at_ l k) := fun q => h (.inr q)
        exact (Decidable.of_not_not this).symm
      · dsimp only; omega
      · dsimp only; omega
      · dsimp only; rw [show k + 1 - 1 = k by omega]; omega
      · dsimp only; rw [show k + 1 - 1 = k by omega]; omega
theorem own_row0 {w : World} {base n c cap : Nat} {a : Option Addr} {t : TypeId} {xs : List Value} (h : w.ownsRow base t c (.slice a n cap) n xs) (hn : 0 < n) : ∃ g, a = some ⟨g, 0, none⟩ ∧ base ≤ g ∧ g < w.heap.size := by
  rcases h.2 with ⟨_, h0⟩ | ⟨g, cap2, cur, hv, hb, hg, _⟩
  · omega
  · cases hv
    exact ⟨g, rfl, hb, (Array.getElem?_eq_some_iff.1 hg).1⟩
theorem row5 {w : World} {base n cap g j : Nat} {t : TypeId} {L : List Wn} {x : Wn} (h : w.ownsRow base t 5 (.slice (some ⟨g, 0, none⟩) n cap) n (flatW (L ++ [x]))) (hj : n = j + 1) :
    (w.cell? ⟨g, j * 5, none⟩ = some (.int .i64 x.f) ∧ w.cell? ⟨g, j * 5 + 1, none⟩ = some (.int .i64 x.a) ∧ w.cell? ⟨g, j * 5 + 2, none⟩ = some (.int .i64 x.z) ∧ w.cell? ⟨g, j * 5 + 3, none⟩ = some (.int .i64 x.c) ∧ w.cell? ⟨g, j * 5 + 4, none⟩ = some (.int .i64 x.r)) := by
  have hl := h.1
  rw [flatW_len, List.length_append] at hl
  have hL : (flatW L).length = j * 5 := by rw [flatW_len]; simp at hl; omega
  have e : ∀ q, q < 5 → (flatW (L ++ [x]))[j * 5 + q]? = (flatW [x])[q]? := fun q hq => by
    rw [flatW_append, List.getElem?_append_right (by omega), hL]
    congr 1
    omega
  have c : ∀ q, q < 5 → w.cell? ⟨g, j * 5 + q, none⟩ = (flatW [x])[q]? := fun q hq => by rw [h.cellAt (j * 5 + q) (by omega)]; exact e q hq
  exact ⟨c 0 (by omega), c 1 (by omega), c 2 (by omega), c 3 (by omega), c 4 (by omega)⟩
theorem row5_set {w : World} {base n cap g j : Nat} {t : TypeId} {L : List Wn} {x y : Wn} (h : w.ownsRow base t 5 (.slice (some ⟨g, 0, none⟩) n cap) n (flatW (L ++ [x]))) (hj : n = j + 1) :
    (((((w.setCell ⟨g, j * 5, none⟩ (.int .i64 y.f)).setCell ⟨g, j * 5 + 1, none⟩ (.int .i64 y.a)).setCell ⟨g, j * 5 + 2, none⟩ (.int .i64 y.z)).setCell ⟨g, j * 5 + 3, none⟩ (.int .i64 y.c)).setCell ⟨g, j * 5 + 4, none⟩ (.int .i64 y.r)).ownsRow base t 5 (.slice (some ⟨g, 0, none⟩) n cap) n (flatW (L ++ [y])) := by
  have hl := h.1
  rw [flatW_len, List.length_append] at hl
  have hL : (flatW L).length = j * 5 := by rw [flatW_len]; simp at hl; omega
  have a := (((((h.stored (j * 5) (.int .i64 y.f)).1.stored (j * 5 + 1) (.int .i64 y.a)).1.stored (j * 5 + 2) (.int .i64 y.z)).1.stored (j * 5 + 3) (.int .i64 y.c)).1.stored (j * 5 + 4) (.int .i64 y.r)).1
  have e : ((((((flatW (L ++ [x])).set (j * 5) (.int .i64 y.f)).set (j * 5 + 1) (.int .i64 y.a)).set (j * 5 + 2) (.int .i64 y.z)).set (j * 5 + 3) (.int .i64 y.c)).set (j * 5 + 4) (.int .i64 y.r)) = flatW (L ++ [y]) := by
    rw [flatW_append, flatW_append, ← hL]
    simp [flatW]
  rw [e] at a
  exact a
theorem wn_eta (y : Wn) (f a z c r : Int) (h : y = ⟨f, a, z, c, r⟩) : y.f = f ∧ y.a = a ∧ y.z = z ∧ y.c = c ∧ y.r = r := by subst h; exact ⟨rfl, rfl, rfl, rfl, rfl⟩
theorem set54 {w : World} {g : Nat} {a b c d e e2 : Value} {t : TypeId} (h : w.heap[g]? = some (.cells #[a, b, c, d, e] t (0, 0))) : (w.setCell ⟨g, 4, none⟩ e2).heap[g]? = some (.cells #[a, b, c, d, e2] t (0, 0)) := by
  have hlt := (Array.getElem?_eq_some_iff.1 h).1
  have he := (Array.getElem?_eq_some_iff.1 h).2
  simp [World.setCell, Array.getElem_modify, he, hlt]
theorem below5G {w x : World} {base g : Nat} (h : Below base w x) (hg : base ≤ g) (j : Nat) (v0 v1 v2 v3 v4 : Value) : Below base w (((((x.setCell ⟨g, j, none⟩ v0).setCell ⟨g, j + 1, none⟩ v1).setCell ⟨g, j + 2, none⟩ v2).setCell ⟨g, j + 3, none⟩ v3).setCell ⟨g, j + 4, none⟩ v4) :=
  ((((h.setCell (p := ⟨g, j, none⟩) hg _).setCell (p := ⟨g, j + 1, none⟩) hg _).setCell (p := ⟨g, j + 2, none⟩) hg _).setCell (p := ⟨g, j + 3, none⟩) hg _).setCell (p := ⟨g, j + 4, none⟩) hg _
theorem cell_setNB {w : World} {p q : Addr} {v u : Value} (h : p.block ≠ q.block) (e : w.cell? p = some u) : (w.setCell q v).cell? p = some u := by
  rw [← e]
  simp [World.cell?, World.setCell, Array.getElem?_modify, Ne.symm h]
set_option maxRecDepth 100000 in
set_option maxHeartbeats 4000000 in
theorem sWindowsOf_any (b off : Nat) (l : List (Int × Int)) (n cap : Nat) (s : Int) (w : World) (hn : l.length = n) (hs : Sl2 w (some ⟨b, off, none⟩) l) (hn2 : n ≤ 1048576) (hcap : n ≤ cap) (r : Option (List Wn)) (hr : r = winR l s) :
    Calls Try.prog 15 #[.slice (some ⟨b, off, none⟩) n cap, .int .i64 s] w fun e w' => RetW w r e w' := by
  obtain ⟨c, hc⟩ : ∃ c : Bool, c = true ↔ Ctr l := by classical exact ⟨decide (Ctr l), by simp⟩
  have CO := hide (sCounterOk_any (some ⟨b, off, none⟩) l n cap w hn hs hn2 c hc)
  have HS := hide hs
  have HN := hide hn
  cases hq : c with
  | false =>
    have HR := hide (show r = none by rw [hr]; unfold winR; rw [if_neg (fun h => by have := hc.2 h.1; rw [hq] at this; cases this)])
    subst hq
    clear hc hr hs hn
    go_enter Try.func15, Try.ntmps15
    go_wp2_with fail
    refine CO.out.mono ?_
    rintro e w1 ⟨rfl, hb1⟩
    have B1 := hide hb1
    clear hb1
    go_wp2
    go_ret2
    exact retW_none HR.out B1.out
  | true =>
  have hct := hc.1 hq
  have HC := hide hct
  subst hq
  clear hc
  by_cases h1 : 1 ≤ s ∧ s ≤ 1000000
  rotate_left
  · have HR := hide (show r = none by rw [hr]; unfold winR; rw [if_neg (fun h => h1 h.2)])
    have CZ := hide (fun wx => l16Size_any s wx false (by simp only [Bool.false_eq_true, false_iff]; exact h1))
    clear hr hs hn hct h1
    go_enter Try.func15, Try.ntmps15
    go_wp2_with fail
    refine CO.out.mono ?_
    rintro e w1 ⟨rfl, hb1⟩
    have B1 := hide hb1
    clear hb1
    go_wp2_with fail
    refine (CZ.out _).mono ?_
    rintro e _ ⟨rfl, rfl⟩
    go_wp2
    go_ret2
    exact retW_none HR.out B1.out
  have CZ := hide (fun wx => l16Size_any s wx true (by simp only [true_iff]; exact h1))
  have h40 : n ≤ 40 := by have := hct.len; omega
  have HR := hide (show r = some (winK l s n) by rw [hr]; unfold winR; rw [if_pos ⟨hct, h1⟩, hn])
  obtain ⟨i1, hi1, hy0, hy1, hy2⟩ := info_parts info_Win
  clear hr hs hn hct
  go_enter Try.func15, Try.ntmps15
  go_wp2_with fail
  refine CO.out.mono ?_
  rintro e w1 ⟨rfl, hb1⟩
  have B1 := hide hb1
  have HS1 := hide (HS.out.below hb1)
  clear hb1
  go_wp2_with fail
  refine (CZ.out _).mono ?_
  rintro e wq ⟨rfl, hwq⟩
  have hwq := hwq.symm
  subst hwq
  go_upto_region 5 with fail
  go_loopw [6, 22] (fun ov i wr => ∃ k m : Nat, k ≤ n ∧ i = .int .i64 (k : Int) ∧ (winK l s k).length = m ∧ Hid (wr.ownsRow w1.heap.size 52 5 ov m (flatW (winK l s k))) ∧ Hid (Below w1.heap.size w1 wr)) (fun _ i _ => n - (intOf i).toNat)
  case atStart => exact ⟨0, 0, Nat.zero_le _, rfl, rfl, World.ownsRow_nil _ _ _ _, Below.refl _ _⟩
  case round =>
    obtain ⟨k, m, hk, rfl, hm, HO, BW⟩ := hrel
    obtain ⟨oa, oc, rfl⟩ := own_shapeW HO.out
    have hmk : m ≤ k := by have := winK_le l s k; omega
    by_cases hlt : k < n
    · have hltI : (k : Int) < (n : Int) := by omega
      have hkl : k < l.length := by rw [HN.out]; exact hlt
      obtain ⟨b', off', e, hx0, hv0⟩ := sl2_at HS1.out hkl
      cases e
      have hcx := (BW.out.cell (p := ⟨b, off + k * 2, none⟩) (blk_lt hx0)).trans hx0
      have hcv := (BW.out.cell (p := ⟨b, off + k * 2 + 1, none⟩) (blk_lt hv0)).trans hv0
      have hat := HC.out.at_ hkl
      have hvl := HC.out.val hkl
      have hfb := fr_bd (s := s) (t := at_ l k) h1.1
      have hf0 := fr_nonneg (s := s) (t := at_ l k) h1.1 hat.1
      have hfe : fr s (at_ l k) = at_ l k / s * s := rfl
      have WN := hide (fun h => winK_new (l := l) (s := s) (k := k) h)
      have WM := hide (fun h => winK_more (l := l) (s := s) (k := k) h)
      have WLs := hide (fun j (hj : k = j + 1) => winK_last l HC.out s j (by omega))
      obtain ⟨x, hx⟩ : ∃ x, x = at_ l k := ⟨_, rfl⟩
      obtain ⟨y, hy⟩ : ∃ y, y = vl l k := ⟨_, rfl⟩
      obtain ⟨f, hf⟩ : ∃ f, f = fr s (at_ l k) := ⟨_, rfl⟩
      rw [← hf, ← hy] at WN
      rw [← hf] at WM hfe hfb hf0
      rw [← hy] at WM hcv hvl
      rw [← hx] at hcx hfe hat hfb
      obtain ⟨d, hd⟩ : ∃ d, d = x / s := ⟨_, rfl⟩
      have hd2 := Int.ediv_nonneg hat.1 (show 0 ≤ s by omega)
      have hd3 := Int.ediv_le_self s hat.1
      rw [← hd] at hfe hd2 hd3
      have hwd : IntKind.i64.wrap (Int.tdiv x s) = d := by rw [Int.tdiv_eq_ediv_of_nonneg hat.1, ← hd]; exact wrap16 (by omega) (by omega)
      have hwf : IntKind.i64.wrap (d * s) = f := by rw [← hfe]; exact wrap16 (by omega) (by omega)
      have hde : x / s = d := hd.symm
      have hs0 : ¬ s = 0 := by omega
      clear hx hd hfe hx0 hv0 hf0 hfb
      by_cases hnew : k = 0 ∨ f ≠ fr s (at_ l (k - 1))
      · have HWN := WN.out hnew
        have HFL := hide (show flatW (winK l s (k + 1)) = flatW (winK l s k) ++ [.int .i64 f, .int .i64 y, .int .i64 y, .int .i64 1, .int .i64 0] by rw [HWN, flatW_append]; rfl)
        have HNL := hide (show (winK l s (k + 1)).length = m + 1 by rw [HWN, List.length_append, hm]; rfl)
        clear HWN WN WM
        by_cases hk0 : k = 0
        · have hm0 : m = 0 := by omega
          have hbm : ((m : Int) == 0) = true := by rw [hm0]; rfl
          clear hm WLs hnew hf hy hm0 hk0
          go_upto_region 7 with fail
          obtain ⟨WA, hWA⟩ : ∃ WA, wr.alloc (.cells #[.int .i64 x, .int .i64 y] 42 (0, 0)) = WA := ⟨_, rfl⟩
          have EA := hide (show Below wr.heap.size wr WA by rw [← hWA]; exact (Below.refl _ _).alloc (Nat.le_refl _) _)
          have x0 : WA.cell? ⟨wr.heap.size, 0, none⟩ = some (.int .i64 x) := by rw [← hWA]; simp
          have x1 : WA.cell? ⟨wr.heap.size, 1, none⟩ = some (.int .i64 y) := by rw [← hWA]; simp
          have B3 := hide (BW.out.trans (EA.out.mono BW.out.size))
          have O3 := hide (own_belowW HO.out EA.out)
          have hsz := B3.out.size
          rw [hWA]
          clear hWA hcx
          go_wp2_with (first
            | (at_builtin; refine wpList_append_own _ rfl _ _ 31 rfl w1.heap.size 52 i1 (.agg #[.int .i64 0, .int .i64 0, .int .i64 0, .int .i64 0, .int .i64 0]) 5 40 Try.underlying31 hi1 hy0 hy1 hy2 rfl (by decide) _ _ _ rfl (own_belowW O3.out ((Below.refl _ _).alloc (Nat.le_refl _) _)) ⟨WA.heap.size, 0, none⟩ 1 1 [.int .i64 f, .int .i64 y, .int .i64 y, .int .i64 1, .int .i64 0] rfl rfl (cell_five16 _ _ _ _ _ _ _) (by intro u hu; simp at hu; rcases hu with rfl | rfl | rfl | rfl | rfl <;> rfl) (by unfold maxLen; omega) (by omega) (by simp; omega) ?_)
            | go_in)
          intro v6 w6 hown6 hgrow6 _
          have B6 := hide ((B3.out.alloc hsz (.cells #[.int .i64 f, .int .i64 y, .int .i64 y, .int .i64 1, .int .i64 0] 52)).grown hgrow6 (by simp; omega) (fun g hg => (O3.out.lt g hg).1))
          have O6 := hide (show w6.ownsRow w1.heap.size 52 5 v6 (m + 1) (flatW (winK l s (k + 1))) from by rw [HFL.out]; exact hown6)
          obtain ⟨a6, c6, rfl⟩ := own_shapeW hown6
          clear hown6 hgrow6
          go_wp2
          go_roundw
          case rel => exact ⟨k + 1, m + 1, by omega, by go_num, HNL.out, O6, B6⟩
          case measure => simp [intOf]; omega
        · obtain ⟨j, hj⟩ : ∃ j, k = j + 1 := ⟨k - 1, by omega⟩
          obtain ⟨L0, w0, hL, hf1, _⟩ := WLs.out j hj
          rw [← hj] at hL
          obtain ⟨mj, hmj⟩ : ∃ j, m = j + 1 := ⟨L0.length, by rw [← hm, hL, List.length_append]; rfl⟩
          rw [hL] at HO
          obtain ⟨g, rfl, hgb, hgl⟩ := own_row0 HO.out (by omega)
          have R0 := hide (row5 HO.out hmj).1
          have hne : ¬ w0.f = f := fun e => by
            rcases hnew with q | q
            · exact hk0 q
            · rw [show k - 1 = j by omega] at q; exact q (e.symm.trans hf1)
          obtain ⟨f2, hf2⟩ : ∃ f2, f2 = w0.f := ⟨_, rfl⟩
          rw [← hf2] at R0 hne
          have hm0I : ¬ (m : Int) = 0 := by omega
          have hm0N : ¬ m = 0 := by omega
          have hbf : (f2 != f) = true := by simp only [bne_iff_ne]; exact hne
          have hbm : ((m : Int) == 0) = false := by simp only [beq_eq_false_iff_ne]; exact hm0I
          have hwm : IntKind.i64.wrap ((m : Int) - 1) = (mj : Int) := by rw [hmj, show ((mj + 1 : Nat) : Int) - 1 = (mj : Int) by omega]; exact wrap16 (by omega) (by omega)
          have hmjI : (mj : Int) < (m : Int) := by omega
          rw [← hL] at HO
          clear hm WLs hnew hf hf1 hf2 hL hy hj hmj hk0
          go_upto_region 7 with fail
          obtain ⟨WA, hWA⟩ : ∃ WA, wr.alloc (.cells #[.int .i64 x, .int .i64 y] 42 (0, 0)) = WA := ⟨_, rfl⟩
          have EA := hide (show Below wr.heap.size wr WA by rw [← hWA]; exact (Below.refl _ _).alloc (Nat.le_refl _) _)
          have x0 : WA.cell? ⟨wr.heap.size, 0, none⟩ = some (.int .i64 x) := by rw [← hWA]; simp
          have x1 : WA.cell? ⟨wr.heap.size, 1, none⟩ = some (.int .i64 y) := by rw [← hWA]; simp
          have B3 := hide (BW.out.trans (EA.out.mono BW.out.size))
          have O3 := hide (own_belowW HO.out EA.out)
          have hsz := B3.out.size
          rw [hWA]
          clear hWA hcx
          have r0 := (EA.out.cell (p := ⟨g, mj * 5, none⟩) (blk_lt R0.out)).trans R0.out
          go_wp2_with (first
            | (at_builtin; refine wpList_append_own _ rfl _ _ 31 rfl w1.heap.size 52 i1 (.agg #[.int .i64 0, .int .i64 0, .int .i64 0, .int .i64 0, .int .i64 0]) 5 40 Try.underlying31 hi1 hy0 hy1 hy2 rfl (by decide) _ _ _ rfl (own_belowW O3.out ((Below.refl _ _).alloc (Nat.le_refl _) _)) ⟨WA.heap.size, 0, none⟩ 1 1 [.int .i64 f, .int .i64 y, .int .i64 y, .int .i64 1, .int .i64 0] rfl rfl (cell_five16 _ _ _ _ _ _ _) (by intro u hu; simp at hu; rcases hu with rfl | rfl | rfl | rfl | rfl <;> rfl) (by unfold maxLen; omega) (by omega) (by simp; omega) ?_)
            | go_in)
          intro v6 w6 hown6 hgrow6 _
          have B6 := hide ((B3.out.alloc hsz (.cells #[.int .i64 f, .int .i64 y, .int .i64 y, .int .i64 1, .int .i64 0] 52)).grown hgrow6 (by simp; omega) (fun g hg => (O3.out.lt g hg).1))
          have O6 := hide (show w6.ownsRow w1.heap.size 52 5 v6 (m + 1) (flatW (winK l s (k + 1))) from by rw [HFL.out]; exact hown6)
          obtain ⟨a6, c6, rfl⟩ := own_shapeW hown6
          clear hown6 hgrow6
          go_wp2
          go_roundw
          case rel => exact ⟨k + 1, m + 1, by omega, by go_num, HNL.out, O6, B6⟩
          case measure => simp [intOf]; omega
      · have HWM := WM.out hnew
        have hk0 : ¬ k = 0 := fun e => hnew (.inl e)
        obtain ⟨kj, hj⟩ : ∃ j, k = j + 1 := ⟨k - 1, by omega⟩
        obtain ⟨L0, w0, hL, hf1, hc0, hc1, hr0, hr1⟩ := WLs.out kj hj
        rw [← hj] at hL
        obtain ⟨mj, hmj⟩ : ∃ j, m = j + 1 := ⟨L0.length, by rw [← hm, hL, List.length_append]; rfl⟩
        have hmj2 : (L0 ++ [(⟨w0.f, w0.a, y, w0.c + 1, w0.r + stp (vl l (k - 1)) y⟩ : Wn)]).length = m := by rw [← hm, hL]; simp
        have HN1 := HWM L0 w0 hL
        rw [hL] at HO
        obtain ⟨g, rfl, hgb, hgl⟩ := own_row0 HO.out (by omega)
        have hfe2 : w0.f = f := by rw [hf1, show kj = k - 1 by omega]; exact (Decidable.of_not_not (fun q => hnew (.inr q))).symm
        obtain ⟨b', off', e, _, hp0⟩ := sl2_at HS1.out (k := kj) (by omega)
        cases e
        have hcp := (BW.out.cell (p := ⟨b, off + kj * 2 + 1, none⟩) (blk_lt hp0)).trans hp0
        have hvp := HC.out.val (k := kj) (by omega)
        rw [show k - 1 = kj by omega] at HN1 hmj2
        obtain ⟨wa, hwa⟩ : ∃ a, a = w0.a := ⟨_, rfl⟩
        obtain ⟨wz, hwz⟩ : ∃ a, a = w0.z := ⟨_, rfl⟩
        obtain ⟨wc, hwc⟩ : ∃ a, a = w0.c := ⟨_, rfl⟩
        obtain ⟨wR, hwR⟩ : ∃ a, a = w0.r := ⟨_, rfl⟩
        obtain ⟨yp, hyp⟩ : ∃ a, a = vl l kj := ⟨_, rfl⟩
        obtain ⟨sz, hsz0⟩ : ∃ a, a = stp yp y := ⟨_, rfl⟩
        obtain ⟨rz, hrz⟩ : ∃ a, a = wR + sz := ⟨_, rfl⟩
        obtain ⟨c1, hc1e⟩ : ∃ a, a = wc + 1 := ⟨_, rfl⟩
        rw [← hyp] at hcp hvp
        have hsb := stp_bd hvp hvl
        rw [← hsz0] at hsb
        have CS := hide (fun wx => l16Step_any yp y wx hvp hvl sz hsz0)
        rw [hfe2, ← hwa, ← hwc, ← hwR, ← hyp, ← hsz0, ← hrz, ← hc1e] at HN1 hmj2
        rw [← hwc] at hc0 hc1
        rw [← hwR] at hr0 hr1
        have hwr1 : IntKind.i64.wrap (wR + sz) = rz := by rw [hrz]; exact wrap16 (by omega) (by omega)
        have hwc1 : IntKind.i64.wrap (wc + 1) = c1 := by rw [hc1e]; exact wrap16 (by omega) (by omega)
        have R := row5 HO.out hmj
        rw [hfe2, ← hwa, ← hwz, ← hwc, ← hwR] at R
        obtain ⟨R0, R1, R2, R3, R4⟩ := R
        have HR0 := hide R0
        have hm0I : ¬ (m : Int) = 0 := by omega
        have hm0N : ¬ m = 0 := by omega
        have hbm : ((m : Int) == 0) = false := by simp only [beq_eq_false_iff_ne]; exact hm0I
        have HMJ := hide hmj
        have hwm : IntKind.i64.wrap ((m : Int) - 1) = (mj : Int) := by rw [hmj, show ((mj + 1 : Nat) : Int) - 1 = (mj : Int) by omega]; exact wrap16 (by omega) (by omega)
        have hmjI : (mj : Int) < (m : Int) := by omega
        have hwk : IntKind.i64.wrap ((k : Int) - 1) = (kj : Int) := by rw [hj, show ((kj + 1 : Nat) : Int) - 1 = (kj : Int) by omega]; exact wrap16 (by omega) (by omega)
        have hkjI : (kj : Int) < (n : Int) := by omega
        have HN1 := hide HN1
        have HCP := hide hcp
        have HM2 := hide hmj2
        clear hmj2 hm WLs WN WM HWM hnew hf hf1 hL hy hwa hwz hwc hwR hyp hsz0 hrz hc1e hfe2 hp0 hk0 hc0 hc1 hr0 hr1 hsb hj hmj
        go_upto_region 7 with fail
        obtain ⟨WA, hWA⟩ : ∃ WA, wr.alloc (.cells #[.int .i64 x, .int .i64 y] 42 (0, 0)) = WA := ⟨_, rfl⟩
        have EA := hide (show Below wr.heap.size wr WA by rw [← hWA]; exact (Below.refl _ _).alloc (Nat.le_refl _) _)
        have x0 : WA.cell? ⟨wr.heap.size, 0, none⟩ = some (.int .i64 x) := by rw [← hWA]; simp
        have x1 : WA.cell? ⟨wr.heap.size, 1, none⟩ = some (.int .i64 y) := by rw [← hWA]; simp
        have B3 := hide (BW.out.trans (EA.out.mono BW.out.size))
        have O3 := hide (own_belowW HO.out EA.out)
        have hsz := B3.out.size
        rw [hWA]
        clear hWA hcx
        have s0 := (EA.out.cell (p := ⟨g, mj * 5, none⟩) (blk_lt R0)).trans R0
        have s1 := (EA.out.cell (p := ⟨g, mj * 5 + 1, none⟩) (blk_lt R1)).trans R1
        have s2 := (EA.out.cell (p := ⟨g, mj * 5 + 2, none⟩) (blk_lt R2)).trans R2
        have s3 := (EA.out.cell (p := ⟨g, mj * 5 + 3, none⟩) (blk_lt R3)).trans R3
        have s4 := (EA.out.cell (p := ⟨g, mj * 5 + 4, none⟩) (blk_lt R4)).trans R4
        have x1a : ∀ ob, (WA.alloc ob).cell? ⟨wr.heap.size, 1, none⟩ = some (.int .i64 y) := fun ob => Go.Lib.cell?_alloc_some _ x1
        clear R0 R1 R2 R3 R4 hcp hcv
        go_upto_region 14 with fail
        obtain ⟨WB, hWB⟩ : ∃ WB, WA.alloc (.cells #[.int .i64 f, .int .i64 wa, .int .i64 y, .int .i64 c1, .int .i64 wR] 52 (0, 0)) = WB := ⟨_, rfl⟩
        have EB := hide (show Below wr.heap.size wr WB by rw [← hWB]; exact EA.out.trans (((Below.refl _ _).alloc (Nat.le_refl _) _).mono EA.out.size))
        have BZ := hide (show WB.heap[WA.heap.size]? = some (.cells #[.int .i64 f, .int .i64 wa, .int .i64 y, .int .i64 c1, .int .i64 wR] 52 (0, 0)) by rw [← hWB]; exact L8.blk_new WA _)
        have XY := hide (show WB.cell? ⟨wr.heap.size, 1, none⟩ = some (.int .i64 y) by rw [← hWB]; exact Go.Lib.cell?_alloc_some _ x1)
        have XP := hide ((EB.out.cell (p := ⟨b, off + kj * 2 + 1, none⟩) (blk_lt HCP.out)).trans HCP.out)
        have r4 : WB.cell? ⟨WA.heap.size, 4, none⟩ = some (.int .i64 wR) := (blk5W BZ.out).2.2.2.2.1
        have r4f : WB.frozen? ⟨WA.heap.size, 4, none⟩ = false := (blk5W BZ.out).2.2.2.2.2.2.2.2.2
        have HXL := hide (blk_lt x1)
        have hblt := blk_lt HCP.out
        have hasz := EA.out.size
        rw [hWB]
        clear hWB s0 s1 s2 s3 s4 x0 x1 x1a
        refine wp_region_held_drew (S := (fun wx => wx.cell? ⟨wr.heap.size, 1, none⟩ = some (.int .i64 y) ∧ wx.cell? ⟨b, off + kj * 2 + 1, none⟩ = some (.int .i64 yp))) (by kernel_rfl) ⟨XY.out, XP.out⟩ (fun hHeld => ?_)
        refine wpAnyH_take (i := 0) (v := ?v1) rfl (by kernel_rfl) (by kernel_rfl) (by kernel_rfl) (fun _ _ _ h => h) (Or.inl ⟨by rfl, ?y1⟩) (by assumption) ?r1
        case y1 => (intro w hSw; (try dsimp only at hSw); go_simp; try (with_reducible rfl))
        simp only [List.getElem_toArray, List.getElem_cons_zero, Act.put, List.setIfInBounds_toArray, List.set_cons_zero, List.set_cons_succ]
        refine wpAnyH_take (i := 2) (v := ?v2) rfl (by kernel_rfl) (by kernel_rfl) (by kernel_rfl) (fun _ _ _ h => h) (Or.inl ⟨by rfl, ?y2⟩) (by assumption) ?r2
        case y2 => (intro w hSw; (try dsimp only at hSw); go_simp; try (with_reducible rfl))
        simp only [List.getElem_toArray, List.getElem_cons_succ, List.getElem_cons_zero, Act.put, List.setIfInBounds_toArray, List.set_cons_zero, List.set_cons_succ]
        refine wpAnyH_take (i := 3) (v := ?v3) rfl (by kernel_rfl) (by kernel_rfl) (by kernel_rfl) (fun _ _ _ h => h) (Or.inl ⟨by rfl, ?y3⟩) (by assumption) ?r3
        case y3 => (intro w hSw; (try dsimp only at hSw); go_simp; try (with_reducible rfl))
        simp only [List.getElem_toArray, List.getElem_cons_succ, List.getElem_cons_zero, Act.put, List.setIfInBounds_toArray, List.set_cons_zero, List.set_cons_succ]
        refine wpAnyH_take (i := 4) (v := ?v4) rfl (by kernel_rfl) (by kernel_rfl) (by kernel_rfl) (fun _ _ _ h => h) (Or.inl ⟨by rfl, ?y4⟩) (by assumption) ?r4
        case y4 => (intro w hSw; (try dsimp only at hSw); go_simp; try (with_reducible rfl))
        simp only [List.getElem_toArray, List.getElem_cons_succ, List.getElem_cons_zero, Act.put, List.setIfInBounds_toArray, List.set_cons_zero, List.set_cons_succ]
        refine wpAnyH_take (i := 5) (v := ?v5) rfl (by kernel_rfl) (by kernel_rfl) (by kernel_rfl) (fun _ _ _ h => h) (Or.inl ⟨by rfl, ?y5⟩) (by assumption) ?r5
        case y5 => (intro w hSw; (try dsimp only at hSw); go_simp; try (with_reducible rfl))
        simp only [List.getElem_toArray, List.getElem_cons_succ, List.getElem_cons_zero, Act.put, List.setIfInBounds_toArray, List.set_cons_zero, List.set_cons_succ]
        refine wpAnyH_take (i := 6) (v := ?v6) rfl (by kernel_rfl) (by kernel_rfl) (by kernel_rfl) (fun _ _ _ h => h) (Or.inl ⟨by rfl, ?y6⟩) (by assumption) ?r6
        case y6 => (intro w hSw; (try dsimp only at hSw); go_simp; try (with_reducible rfl))
        simp only [List.getElem_toArray, List.getElem_cons_succ, List.getElem_cons_zero, Act.put, List.setIfInBounds_toArray, List.set_cons_zero, List.set_cons_succ]
        refine wpAnyH_take (i := 7) (v := ?v7) rfl (by kernel_rfl) (by kernel_rfl) (by kernel_rfl) (fun _ _ _ h => h) (Or.inl ⟨by rfl, ?y7⟩) (by assumption) ?r7
        case y7 => (intro w hSw; (try dsimp only at hSw); go_simp; try (with_reducible rfl))
        simp only [List.getElem_toArray, List.getElem_cons_succ, List.getElem_cons_zero, Act.put, List.setIfInBounds_toArray, List.set_cons_zero, List.set_cons_succ]
        refine wpAnyH_take (i := 8) (v := ?v8) rfl (by kernel_rfl) (by kernel_rfl) (by kernel_rfl) (fun _ _ _ h => h) (Or.inl ⟨by rfl, ?y8⟩) (by assumption) ?r8
        case y8 => (intro w hSw; (try dsimp only at hSw); go_simp; try (with_reducible rfl))
        simp only [List.getElem_toArray, List.getElem_cons_succ, List.getElem_cons_zero, Act.put, List.setIfInBounds_toArray, List.set_cons_zero, List.set_cons_succ]
        refine wpAnyH_take (i := 9) (v := ?v9) rfl (by kernel_rfl) (by kernel_rfl) (by kernel_rfl) (fun _ _ _ h => h) (Or.inl ⟨by rfl, ?y9⟩) (by assumption) ?r9
        case y9 => (intro w hSw; (try dsimp only at hSw); go_simp; try (with_reducible rfl))
        simp only [List.getElem_toArray, List.getElem_cons_succ, List.getElem_cons_zero, Act.put, List.setIfInBounds_toArray, List.set_cons_zero, List.set_cons_succ]
        refine wpAnyH_ready (rs := [1, 10]) (by kernel_rfl) (by simp) ?_
        refine AllReadyH.cons rfl (fun K hK => ?_) (AllReadyH.cons rfl (fun K hK => ?_) AllReadyH.nil)
        · simp only [List.getElem_toArray, List.getElem_cons_succ, List.getElem_cons_zero]
          go_simp
          refine hK.out _ _ ?_ (fun hHeld => ?_)
          · exact hHeld
          clear hK K
          try simp only [Act.put, List.setIfInBounds_toArray, List.set_cons_zero, List.set_cons_succ]
          refine wpAnyH_ready (rs := [10]) (by kernel_rfl) (by simp) ?_
          refine AllReadyH.cons rfl (fun K hK => ?_) AllReadyH.nil
          simp only [List.getElem_toArray, List.getElem_cons_succ, List.getElem_cons_zero]
          go_simp
          go_at_call 35
          refine (CS.out _).mono ?_
          rintro e _ ⟨rfl, rfl⟩
          dsimp only
          refine hK.out _ _ ?_ (fun hHeld => ?_)
          · exact hHeld
          clear hK K
          try simp only [Act.put, List.setIfInBounds_toArray, List.set_cons_zero, List.set_cons_succ]
          refine wpAnyH_take (i := 11) (v := ?v10) rfl (by kernel_rfl) (by kernel_rfl) (by kernel_rfl) (fun _ _ _ h => h) (Or.inl ⟨by rfl, ?y10⟩) (by assumption) ?r10
          case y10 => (intro w hSw; (try dsimp only at hSw); go_simp; try (with_reducible rfl))
          simp only [List.getElem_toArray, List.getElem_cons_succ, List.getElem_cons_zero, Act.put, List.setIfInBounds_toArray, List.set_cons_zero, List.set_cons_succ]
          refine wpAnyH_take (i := 12) (v := ?v11) rfl (by kernel_rfl) (by kernel_rfl) (by kernel_rfl) (fun _ _ _ h => h) (Or.inl ⟨by rfl, ?y11⟩) (by assumption) ?r11
          case y11 => (intro w hSw; (try dsimp only at hSw); go_simp; try (with_reducible rfl))
          simp only [List.getElem_toArray, List.getElem_cons_succ, List.getElem_cons_zero, Act.put, List.setIfInBounds_toArray, List.set_cons_zero, List.set_cons_succ]
          refine wpAnyH_ready (rs := [13]) (by kernel_rfl) (by simp) ?_
          refine AllReadyH.cons rfl (fun K hK => ?_) AllReadyH.nil
          simp only [List.getElem_toArray, List.getElem_cons_succ, List.getElem_cons_zero]
          go_simp
          obtain ⟨w7, hw7⟩ : ∃ y, y = (WB.setCell ⟨WA.heap.size, 4, none⟩ (.int .i64 rz)).drew := ⟨_, rfl⟩
          rw [← hw7]
          have Z7 := hide (show w7.heap[WA.heap.size]? = some (.cells #[.int .i64 f, .int .i64 wa, .int .i64 y, .int .i64 c1, .int .i64 rz] 52 (0, 0)) by rw [hw7]; exact set54 BZ.out)
          have E7 := hide (show Below wr.heap.size wr w7 by rw [hw7]; exact (EB.out.setCell (p := ⟨WA.heap.size, 4, none⟩) EA.out.size _).drew)
          refine hK.out _ _ ?_ (fun hHeld => ?_)
          · exact ⟨by rw [hw7]; exact cell_setNB (by show wr.heap.size ≠ WA.heap.size; have h1 : wr.heap.size < WA.heap.size := HXL.out; omega) hHeld.1, by rw [hw7]; exact cell_setNB (by show b ≠ WA.heap.size; have h1 : b < wr.heap.size := hblt; omega) hHeld.2⟩
          clear hK K hw7
          try simp only [Act.put, List.setIfInBounds_toArray, List.set_cons_zero, List.set_cons_succ]
          refine wpAnyH_done (by kernel_rfl) ?_ _
          clear hHeld
          have O7 := own_belowW HO.out E7.out
          have B7 := hide (BW.out.trans (E7.out.mono BW.out.size))
          obtain ⟨d0, d1, d2, d3, d4, f0, f1, f2, f3, f4⟩ := blk5W Z7.out
          obtain ⟨r0, r1, r2, r3, r4⟩ := row5 O7 HMJ.out
          have q0 := O7.frozenAt (mj * 5)
          have q1 := O7.frozenAt (mj * 5 + 1)
          have q2 := O7.frozenAt (mj * 5 + 2)
          have q3 := O7.frozenAt (mj * 5 + 3)
          have q4 := O7.frozenAt (mj * 5 + 4)
          have O8 := hide (row5_set (y := ⟨f, wa, y, c1, rz⟩) O7 HMJ.out)
          have B8 := hide (below5G B7.out hgb (mj * 5) (.int .i64 f) (.int .i64 wa) (.int .i64 y) (.int .i64 c1) (.int .i64 rz))
          go_wp2
          go_roundw
          case rel => exact ⟨k + 1, m, by omega, by go_num, by rw [HN1.out]; exact HM2.out, by rw [HN1.out]; exact O8.out, B8⟩
          case measure => simp [intOf]; omega
        · simp only [List.getElem_toArray, List.getElem_cons_succ, List.getElem_cons_zero]
          go_simp
          go_at_call 35
          refine (CS.out _).mono ?_
          rintro e _ ⟨rfl, rfl⟩
          dsimp only
          refine hK.out _ _ ?_ (fun hHeld => ?_)
          · exact hHeld
          clear hK K
          try simp only [Act.put, List.setIfInBounds_toArray, List.set_cons_zero, List.set_cons_succ]
          refine wpAnyH_ready (rs := [1]) (by kernel_rfl) (by simp) ?_
          refine AllReadyH.cons rfl (fun K hK => ?_) AllReadyH.nil
          simp only [List.getElem_toArray, List.getElem_cons_succ, List.getElem_cons_zero]
          go_simp
          refine hK.out _ _ ?_ (fun hHeld => ?_)
          · exact hHeld
          clear hK K
          try simp only [Act.put, List.setIfInBounds_toArray, List.set_cons_zero, List.set_cons_succ]
          refine wpAnyH_take (i := 11) (v := ?v12) rfl (by kernel_rfl) (by kernel_rfl) (by kernel_rfl) (fun _ _ _ h => h) (Or.inl ⟨by rfl, ?y12⟩) (by assumption) ?r12
          case y12 => (intro w hSw; (try dsimp only at hSw); go_simp; try (with_reducible rfl))
          simp only [List.getElem_toArray, List.getElem_cons_succ, List.getElem_cons_zero, Act.put, List.setIfInBounds_toArray, List.set_cons_zero, List.set_cons_succ]
          refine wpAnyH_take (i := 12) (v := ?v13) rfl (by kernel_rfl) (by kernel_rfl) (by kernel_rfl) (fun _ _ _ h => h) (Or.inl ⟨by rfl, ?y13⟩) (by assumption) ?r13
          case y13 => (intro w hSw; (try dsimp only at hSw); go_simp; try (with_reducible rfl))
          simp only [List.getElem_toArray, List.getElem_cons_succ, List.getElem_cons_zero, Act.put, List.setIfInBounds_toArray, List.set_cons_zero, List.set_cons_succ]
          refine wpAnyH_ready (rs := [13]) (by kernel_rfl) (by simp) ?_
          refine AllReadyH.cons rfl (fun K hK => ?_) AllReadyH.nil
          simp only [List.getElem_toArray, List.getElem_cons_succ, List.getElem_cons_zero]
          go_simp
          obtain ⟨w7, hw7⟩ : ∃ y, y = (WB.setCell ⟨WA.heap.size, 4, none⟩ (.int .i64 rz)).drew := ⟨_, rfl⟩
          rw [← hw7]
          have Z7 := hide (show w7.heap[WA.heap.size]? = some (.cells #[.int .i64 f, .int .i64 wa, .int .i64 y, .int .i64 c1, .int .i64 rz] 52 (0, 0)) by rw [hw7]; exact set54 BZ.out)
          have E7 := hide (show Below wr.heap.size wr w7 by rw [hw7]; exact (EB.out.setCell (p := ⟨WA.heap.size, 4, none⟩) EA.out.size _).drew)
          refine hK.out _ _ ?_ (fun hHeld => ?_)
          · exact ⟨by rw [hw7]; exact cell_setNB (by show wr.heap.size ≠ WA.heap.size; have h1 : wr.heap.size < WA.heap.size := HXL.out; omega) hHeld.1, by rw [hw7]; exact cell_setNB (by show b ≠ WA.heap.size; have h1 : b < wr.heap.size := hblt; omega) hHeld.2⟩
          clear hK K hw7
          try simp only [Act.put, List.setIfInBounds_toArray, List.set_cons_zero, List.set_cons_succ]
          refine wpAnyH_done (by kernel_rfl) ?_ _
          clear hHeld
          have O7 := own_belowW HO.out E7.out
          have B7 := hide (BW.out.trans (E7.out.mono BW.out.size))
          obtain ⟨d0, d1, d2, d3, d4, f0, f1, f2, f3, f4⟩ := blk5W Z7.out
          obtain ⟨r0, r1, r2, r3, r4⟩ := row5 O7 HMJ.out
          have q0 := O7.frozenAt (mj * 5)
          have q1 := O7.frozenAt (mj * 5 + 1)
          have q2 := O7.frozenAt (mj * 5 + 2)
          have q3 := O7.frozenAt (mj * 5 + 3)
          have q4 := O7.frozenAt (mj * 5 + 4)
          have O8 := hide (row5_set (y := ⟨f, wa, y, c1, rz⟩) O7 HMJ.out)
          have B8 := hide (below5G B7.out hgb (mj * 5) (.int .i64 f) (.int .i64 wa) (.int .i64 y) (.int .i64 c1) (.int .i64 rz))
          go_wp2
          go_roundw
          case rel => exact ⟨k + 1, m, by omega, by go_num, by rw [HN1.out]; exact HM2.out, by rw [HN1.out]; exact O8.out, B8⟩
          case measure => simp [intOf]; omega
    · have hltI : ¬ (k : Int) < (n : Int) := by omega
      obtain rfl : k = n := by omega
      have O2 := hide (own_baseS16 HO.out B1.out.size)
      have B9 := hide (B1.out.trans (BW.out.mono B1.out.size))
      have HLN := hide hm
      clear hm
      go_wp2
      go_ret2
      exact ⟨_, by rw [HR.out]; rfl, by rw [HR.out]; simp only [Option.getD_some]; rw [HLN.out]; exact O2.out, B9.out⟩
end Go.Proofs.Yticgejaaoamhmap.L16
