/-
  Contract: impl.NewBank.
-/
import Derived.Test.YtfjbiihiaoobhaiL12NB
import Derived.Deep.AppendLies
import Derived.Deep.RegionHeld3
import Derived.Deep.CutRange
import Derived.Deep.DeepCutAuto
namespace Go.Proofs.Ytfjbiihiaoobhai.L12
open Go.RowKit L1 L9 Own Sli
set_option linter.unusedVariables false

theorem below_drewN (w : World) : Below w.heap.size w w.drew := (Below.refl _ w).drew
set_option maxRecDepth 100000 in
set_option maxHeartbeats 4000000 in
theorem newBank_any (a : Option Addr) (cs : List Int) (n cap : Nat) (w : World) (hn : cs.length = n) (hs : Sl w a cs) (hn2 : n ≤ 1048576) (m : Bk) (ok : Bool) (hr : NwIs cs m ok) :
    Calls Try.prog 22 #[.slice a n cap] w (RetB w m ok) := by
  have ZB := hide ((Below.refl w.heap.size w).alloc (Nat.le_refl _) zB)
  have ZP := blk_newO w zB
  by_cases h1 : (n : Int) < 1
  · obtain ⟨rfl, rfl⟩ := hr.no (fun h => by have := h.1.1; omega)
    obtain ⟨z0, z1, z2, z3, z4⟩ := blk5 ZP
    clear hr ZP hs hn
    go_enter Try.func22, Try.ntmps22
    go_wp2
    refine bodyPost_ret (v := .tuple #[.agg #[nilV, nilV, nilV, nilV, nilV], .bool false]) (by simp [results, Try.f22, go_sem, z0, z1, z2, z3, z4]) rfl (retB_zero ?_)
    first | exact ZB.out | exact five_zeroB ZB.out _ _ _ _ _
  by_cases h5 : (5 : Int) < (n : Int)
  · obtain ⟨rfl, rfl⟩ := hr.no (fun h => by have := h.1.2; omega)
    obtain ⟨z0, z1, z2, z3, z4⟩ := blk5 ZP
    clear hr ZP hs hn
    go_enter Try.func22, Try.ntmps22
    go_wp2
    refine bodyPost_ret (v := .tuple #[.agg #[nilV, nilV, nilV, nilV, nilV], .bool false]) (by simp [results, Try.f22, go_sem, z0, z1, z2, z3, z4]) rfl (retB_zero ?_)
    first | exact ZB.out | exact five_zeroB ZB.out _ _ _ _ _
  have n5 : n ≤ 5 := by omega
  obtain ⟨i0, hi, hz0, hz1, hz2⟩ := info_parts info_int
  obtain ⟨jint, hjint, hyint0, hyint1, hyint2⟩ := info_parts info_intS12
  obtain ⟨jbool, hjbool, hybool0, hybool1, hybool2⟩ := info_parts info_boolS12
  obtain ⟨N2, hN2⟩ : ∃ x : Nat, x = n * n := ⟨_, rfl⟩
  have hq : (n : Int) * (n : Int) = (N2 : Int) := by rw [hN2]; simp
  have hq2 : N2 ≤ 25 := by rw [hN2]; exact Nat.mul_le_mul n5 n5
  obtain ⟨OA, hOA, mk1⟩ := mk_ways N2 hq2
  obtain ⟨OI, hOI, mk2⟩ := mk_ints n n5
  obtain ⟨OB, hOB, mk3⟩ := mk_bools n n5
  have HOI := hide hOI
  have HOB := hide hOB
  have HN := hide hn
  have HS := hide hs
  have HR := hide hr
  obtain ⟨v0, hv0⟩ : ∃ v0 : Vs, v0 = ⟨nilV, .slice (some ⟨w.heap.size + 1, 0, none⟩) N2 N2, nilV, nilV, nilV, List.replicate N2 nilV, [], []⟩ := ⟨_, rfl⟩
  obtain ⟨V, hV⟩ : ∃ V, ((w.alloc zB).alloc OA).alloc (.cells #[nilV, .slice (some ⟨w.heap.size + 1, 0, none⟩) N2 N2, nilV, nilV, nilV] 39 (0, 0)) = V := ⟨_, rfl⟩
  have H0 : Hid (NB w (w.heap.size + 1 + 1) v0 (nbk cs n 0) V) := hide (by
    have e : V.heap = ((w.heap.push zB).push OA).push (.cells #[nilV, .slice (some ⟨w.heap.size + 1, 0, none⟩) N2 N2, nilV, nilV, nilV] 39 (0, 0)) := by rw [← hV]; rfl
    refine ⟨?_, ?_, ?_, ?_, by omega⟩
    · rw [hv0, e, Array.getElem?_push, if_pos (by simp only [Array.size_push])]
    · rw [e, Array.getElem?_push, if_neg (by simp only [Array.size_push]; omega), Array.getElem?_push, if_neg (by simp only [Array.size_push]; omega), Array.getElem?_push, if_pos rfl]
    · rw [hv0, hN2]
      refine bw_ways cs ?_ (by omega) (by omega)
      rw [e, Array.getElem?_push, if_neg (by simp only [Array.size_push]; omega), Array.getElem?_push, if_pos (by simp only [Array.size_push]), hOA, hN2]
    · rw [← hV]; exact ((ZB.out.alloc (by simp) OA).alloc (by simp; omega) _))
  have HV := hide hV
  clear hOI hOB hOA hn hs hr hv0 hV ZP hN2
  go_enter Try.func22, Try.ntmps22
  go_upto_region 5 with fail
  rw [HV.out]
  clear HV mk1
  go_wp2
  go_loopw [24] (fun t wr => ∃ (k : Nat) (v : Vs), k ≤ n ∧ t = .int .i64 k ∧ Hid (NB w (w.heap.size + 1 + 1) v (nbk cs n k) wr) ∧ Hid (∀ j, j < k → 0 ≤ cs.getD j 0 ∧ cs.getD j 0 ≤ 50)) (fun t _ => n - (intOf t).toNat)
  case atStart => exact ⟨0, v0, Nat.zero_le _, rfl, H0, fun j hj => absurd hj (Nat.not_lt_zero _)⟩
  case round =>
    obtain ⟨k, v, hk, rfl, HNB, HJ⟩ := hrel
    obtain ⟨bx, hbx⟩ : ∃ bx, bx = w.heap.size + 1 + 1 := ⟨_, rfl⟩
    rw [← hbx] at HNB ⊢
    have HBX := hide hbx
    clear hbx
    obtain ⟨y0, y1, y2, y3, y4⟩ := blk5 HNB.out.box
    have yf : ∀ i, wr.frozen? ⟨bx, i, none⟩ = false := fun i => frzO HNB.out.box i
    by_cases hlt : k < n
    rotate_left
    · obtain rfl : k = n := by omega
      have hltI : ¬ (k : Int) < (k : Int) := by omega
      obtain ⟨z0, z1, z2, z3, z4⟩ := blk5 HNB.out.res
      have zf : ∀ i, wr.frozen? ⟨w.heap.size, i, none⟩ = false := fun i => frzO HNB.out.res i
      have he : Hid (m = nbk cs k k ∧ ok = true) := hide (by
        obtain ⟨e1, e2⟩ := HR.out.yes ⟨⟨by rw [HN.out]; omega, by rw [HN.out]; omega⟩, fun j hj => HJ.out j (by rw [HN.out] at hj; exact hj)⟩
        rw [e1, e2]; unfold newB; rw [HN.out]; exact ⟨rfl, rfl⟩)
      obtain ⟨aC, cC, aW, cW, aK, cK, aH, cH, aF, cF, f⟩ := HNB.out.bw.shape
      have HO := hide (HNB.out.out v.c v.W v.k v.H v.F)
      rw [f.c] at y0
      rw [f.W] at y1
      rw [f.k] at y2
      rw [f.H] at y3
      rw [f.F] at y4
      rw [f.c, f.W, f.k, f.H, f.F] at HO
      obtain ⟨l1, e1⟩ : ∃ l, (nbk cs k k).c.length = l := ⟨_, rfl⟩
      obtain ⟨l2, e2⟩ : ∃ l, (nbk cs k k).W.length = l := ⟨_, rfl⟩
      obtain ⟨l3, e3⟩ : ∃ l, (nbk cs k k).k.length = l := ⟨_, rfl⟩
      obtain ⟨l4, e4⟩ : ∃ l, (nbk cs k k).H.length = l := ⟨_, rfl⟩
      obtain ⟨l5, e5⟩ : ∃ l, (nbk cs k k).F.length = l := ⟨_, rfl⟩
      rw [e1] at y0 HO
      rw [e2] at y1 HO
      rw [e3] at y2 HO
      rw [e4] at y3 HO
      rw [e5] at y4 HO
      clear e1 e2 e3 e4 e5 f
      go_wp2
      obtain ⟨rfl, rfl⟩ := he.out
      exact bodyPost_ret (v := .tuple #[.agg #[.slice aC l1 cC, .slice aW l2 cW, .slice aK l3 cK, .slice aH l4 cH, .slice aF l5 cF], .bool true]) (by simp [results, Try.f22, go_sem, z0, z1, z2, z3, z4]) rfl HO.out
    have hltI : (k : Int) < (n : Int) := by omega
    have k0' : (0 : Int) ≤ (k : Int) := by omega
    obtain ⟨p, off, rfl, hc0⟩ := HS.out k (by rw [HN.out]; exact hlt)
    have hc := (HNB.out.bel.cell (p := ⟨p, off + k, none⟩) (blk_lt hc0)).trans hc0
    obtain ⟨x, hx⟩ : ∃ x, x = cs.getD k 0 := ⟨_, rfl⟩
    rw [← hx] at hc
    have HX := hide hx
    clear hx hc0
    have BAD : Hid (¬ (0 ≤ x ∧ x ≤ 50) → m = zeroB ∧ ok = false) := hide (fun h => HR.out.no (fun g => h (by rw [HX.out]; exact g.2 k (by rw [HN.out]; exact hlt))))
    by_cases c1 : x < 0
    · have he := hide (BAD.out (by omega))
      obtain ⟨z0, z1, z2, z3, z4⟩ := blk5 HNB.out.res
      have zf : ∀ i, wr.frozen? ⟨w.heap.size, i, none⟩ = false := fun i => frzO HNB.out.res i
      go_wp2
      obtain ⟨rfl, rfl⟩ := he.out
      refine bodyPost_ret (v := .tuple #[.agg #[nilV, nilV, nilV, nilV, nilV], .bool false]) (by simp [results, Try.f22, go_sem, z0, z1, z2, z3, z4]) rfl (retB_zero (five_zeroB HNB.out.bel _ _ _ _ _))
    by_cases c2 : 50 < x
    · have he := hide (BAD.out (by omega))
      obtain ⟨z0, z1, z2, z3, z4⟩ := blk5 HNB.out.res
      have zf : ∀ i, wr.frozen? ⟨w.heap.size, i, none⟩ = false := fun i => frzO HNB.out.res i
      go_wp2
      obtain ⟨rfl, rfl⟩ := he.out
      refine bodyPost_ret (v := .tuple #[.agg #[nilV, nilV, nilV, nilV, nilV], .bool false]) (by simp [results, Try.f22, go_sem, z0, z1, z2, z3, z4]) rfl (retB_zero (five_zeroB HNB.out.bel _ _ _ _ _))
    have NX : Hid (∀ j, j < k + 1 → 0 ≤ cs.getD j 0 ∧ cs.getD j 0 ≤ 50) := hide (fun j hj => by
      by_cases e : j = k
      · subst e; rw [← HX.out]; omega
      · exact HJ.out j (by omega))
    have lc : (nbk cs n k).c.length = k := by show (cs.take k).length = k; rw [List.length_take, HN.out]; omega
    have O1 : Hid ((wr.alloc (.cells #[.int .i64 x] 3)).ownsRow 0 3 1 v.c k ((nbk cs n k).c.map (Value.int .i64))) := hide (by
      have h := own_belO (HNB.out.bw.r .c) ((Below.refl wr.heap.size wr).alloc (Nat.le_refl _) (.cells #[.int .i64 x] 3))
      have h' : (wr.alloc (.cells #[.int .i64 x] 3)).ownsRow 0 3 1 v.c (nbk cs n k).c.length ((nbk cs n k).c.map (Value.int .i64)) := h
      rw [lc] at h'
      exact h')
    have LC := hide lc
    clear lc
    go_wp2_with (first
      | (at_builtin; refine wpList_append_lies _ rfl _ _ 24 rfl 0 3 i0 (.int .i64 0) 1 8 Try.underlying24 hi hz0 hz1 hz2 rfl (by decide) v.c k _ rfl O1.out ⟨wr.heap.size, 0, none⟩ 1 1 [.int .i64 x] rfl rfl (cell_oneN _ _ _) (by intro u hu; simp at hu; subst hu; rfl) (by decide) (by unfold maxLen; omega) (by omega) (Nat.zero_le _) _ rfl ?_)
      | go_in)
    intro g6 c6 w6 hown6 hg6 hn6 _
    obtain ⟨⟨x0, xf⟩, hst⟩ := HNB.out.fldc (.cells #[.int .i64 x] 3) x (by rw [LC.out]; exact hown6) hg6 (by rw [World.size_alloc]; exact hn6)
    have e1 : (nbk cs n k).c ++ [x] = cs.take k ++ [x] := rfl
    rw [LC.out] at hst
    obtain ⟨v1, hv1⟩ : ∃ v1 : Vs, v1 = v.put (.slice (some ⟨g6, 0, none⟩) (k + 1) c6) .c := ⟨_, rfl⟩
    obtain ⟨m1, hm1⟩ : ∃ m1 : Bk, m1 = (nbk cs n k).put ((nbk cs n k).c ++ [x]) .c := ⟨_, rfl⟩
    rw [← hv1, ← hm1] at hst
    have N1 := hide hst
    have HM1 := hide hm1
    clear hown6 hg6 hn6 hst O1 e1 hm1 y0 y1 y2 y3 y4 yf hc
    go_upto_region 11 with fail
    obtain ⟨wa, hwa⟩ : ∃ wa, w6.setCell ⟨bx, 0, none⟩ (.slice (some ⟨g6, 0, none⟩) (k + 1) c6) = wa := ⟨_, rfl⟩
    rw [hwa] at N1
    rw [hwa]
    clear hwa x0 xf hv1
    obtain ⟨y0, y1, y2, y3, y4⟩ := blk5 N1.out.box
    have lk : m1.k.length = k := by rw [HM1.out]; show (List.replicate k (-1 : Int)).length = k; simp
    have O2 : Hid ((wa.alloc (.cells #[.int .i64 (-1)] 3)).ownsRow 0 3 1 v1.k k (m1.k.map (Value.int .i64))) := hide (by
      have h := own_belO (N1.out.bw.r .k) ((Below.refl wa.heap.size wa).alloc (Nat.le_refl _) (.cells #[.int .i64 (-1)] 3))
      have h' : (wa.alloc (.cells #[.int .i64 (-1)] 3)).ownsRow 0 3 1 v1.k m1.k.length (m1.k.map (Value.int .i64)) := h
      rw [lk] at h'
      exact h')
    have LK := hide lk
    clear lk
    go_wp2_with (first
      | (at_builtin; refine wpList_append_lies _ rfl _ _ 24 rfl 0 3 i0 (.int .i64 0) 1 8 Try.underlying24 hi hz0 hz1 hz2 rfl (by decide) v1.k k _ rfl O2.out ⟨wa.heap.size, 0, none⟩ 1 1 [.int .i64 (-1)] rfl rfl (cell_oneN _ _ _) (by intro u hu; simp at hu; subst hu; rfl) (by decide) (by unfold maxLen; omega) (by omega) (Nat.zero_le _) _ rfl ?_)
      | go_in)
    intro g7 c7 w7 hown7 hg7 hn7 _
    obtain ⟨⟨x0, xf⟩, hst⟩ := N1.out.fldk (.cells #[.int .i64 (-1)] 3) (-1) (by rw [LK.out]; exact hown7) hg7 (by rw [World.size_alloc]; exact hn7)
    rw [LK.out] at hst
    obtain ⟨v2, hv2⟩ : ∃ v2 : Vs, v2 = v1.put (.slice (some ⟨g7, 0, none⟩) (k + 1) c7) .k := ⟨_, rfl⟩
    obtain ⟨m2, hm2⟩ : ∃ m2 : Bk, m2 = m1.put (m1.k ++ [-1]) .k := ⟨_, rfl⟩
    rw [← hv2, ← hm2] at hst
    have N2' := hide hst
    have HM2 := hide hm2
    clear hown7 hg7 hn7 hst O2 hm2 y0 y1 y2 y3 y4
    go_upto_region 12 with fail
    obtain ⟨wz, hwz⟩ : ∃ wz, w7.setCell ⟨bx, 2, none⟩ (.slice (some ⟨g7, 0, none⟩) (k + 1) c7) = wz := ⟨_, rfl⟩
    obtain ⟨vz, hvz⟩ : ∃ vz : Vs, vz = v2 := ⟨_, rfl⟩
    rw [hwz, ← hvz] at N2'
    rw [hwz]
    clear hwz x0 xf hv2 hvz
    have HMS : Hid (m2 = ⟨cs.take k ++ [x], List.replicate (n * n) [], List.replicate k (-1) ++ [-1], List.replicate k (List.replicate n false), List.replicate k (List.replicate n 0)⟩) := hide (by rw [HM2.out, HM1.out]; rfl)
    obtain ⟨y0, y1, y2, y3, y4⟩ := blk5 N2'.out.box
    have lH : m2.H.length = k := by rw [HMS.out]; simp
    have LH := hide lH
    clear lH
    have lA : (wz.alloc OB).cell? ⟨bx, 3, none⟩ = some vz.H := Go.Lib.cell?_alloc_some _ y3
    have lB : ((wz.alloc OB).alloc (.cells #[.slice (some ⟨wz.heap.size, 0, none⟩) n n] 58)).cell? ⟨bx, 3, none⟩ = some vz.H := Go.Lib.cell?_alloc_some _ lA
    have OJ : Hid (((wz.alloc OB).alloc (.cells #[.slice (some ⟨wz.heap.size, 0, none⟩) n n] 58)).drew.ownsRow 0 58 1 vz.H k vz.VH) := hide (by
      have h := own_belO N2'.out.bw.H (((Below.refl wz.heap.size wz).alloc (Nat.le_refl _) OB).alloc (by simp) (.cells #[.slice (some ⟨wz.heap.size, 0, none⟩) n n] 58)).drew
      rw [LH.out] at h
      exact h)
    have CX : ∀ j u, [Value.slice (some ⟨wz.heap.size, 0, none⟩) n n][j]? = some u → ((wz.alloc OB).alloc (.cells #[.slice (some ⟨wz.heap.size, 0, none⟩) n n] 58)).drew.cell? ((⟨wz.heap.size + 1, 0, none⟩ : Addr).add j) = some u := fun j u hu => by
        have h := cell_oneN (wz.alloc OB) (.slice (some ⟨wz.heap.size, 0, none⟩) n n) 58 j u hu
        rw [World.size_alloc] at h
        exact h
    have PP : Hid (∀ g4 c4 w4, w4.ownsRow 0 58 1 (.slice (some ⟨g4, 0, none⟩) (k + 1) c4) (k + 1) (vz.VH ++ [.slice (some ⟨wz.heap.size, 0, none⟩) n n]) → ((wz.alloc OB).alloc (.cells #[.slice (some ⟨wz.heap.size, 0, none⟩) n n] 58)).drew.grownBy w4 vz.H.ownBlock → (vz.H.ownBlock = some g4 ∨ g4 = wz.heap.size + 2) →
        (w4.cell? ⟨bx, 3, none⟩ = some vz.H ∧ ∀ i, w4.frozen? ⟨bx, i, none⟩ = false) ∧ NB w bx { vz with H := .slice (some ⟨g4, 0, none⟩) (k + 1) c4, VH := vz.VH ++ [.slice (some ⟨wz.heap.size, 0, none⟩) n n] } { m2 with H := m2.H ++ [List.replicate n false] } (w4.setCell ⟨bx, 3, none⟩ (.slice (some ⟨g4, 0, none⟩) (k + 1) c4))) := hide (fun g4 c4 w4 h4 hg4 hn4 => by
      have hA := (((Below.refl wz.heap.size wz).alloc (Nat.le_refl _) OB).alloc (by simp) (.cells #[.slice (some ⟨wz.heap.size, 0, none⟩) n n] 58)).drew
      have hb0 : ((wz.alloc OB).alloc (.cells #[.slice (some ⟨wz.heap.size, 0, none⟩) n n] 58)).drew.heap[wz.heap.size]? = some (oBo n) := by
        have h1 := blk_newO wz OB
        rw [HOB.out] at h1
        exact ((((Below.refl (wz.alloc OB).heap.size _).alloc (Nat.le_refl _) _).drew.block wz.heap.size (by simp)).trans (by rw [HOB.out]; exact h1))
      have hrow : ((wz.alloc OB).alloc (.cells #[.slice (some ⟨wz.heap.size, 0, none⟩) n n] 58)).drew.ownsRow wz.heap.size 4 1 (.slice (some ⟨wz.heap.size, 0, none⟩) n n) (List.replicate n false).length ((List.replicate n false).map Value.bool) := by
        rw [List.length_replicate, List.map_replicate]
        exact own_made12 (z := .bool false) rfl hb0 (Nat.le_refl _) (by unfold maxLen; omega)
      have := N2'.out.addH hA _ (List.replicate n false) hrow (g := g4) (c := c4) (by rw [LH.out]; exact h4) hg4 (by simpa using hn4)
      rw [LH.out] at this
      exact this)
    go_cut [4] from 46 to 52 (fun t wx => t = .int .i64 n ∧ ∃ vn, NB w bx vn { m2 with H := m2.H ++ [List.replicate n false] } wx)
    case first =>
      refine wp_region_held_drew (S := fun _ => True) (by kernel_rfl) trivial (fun hHeld => ?_)
      refine wpAnyH_take (i := 0) (v := ?v1) rfl (by kernel_rfl) (by kernel_rfl) (by kernel_rfl) (fun _ _ _ h => h) (Or.inl ⟨by rfl, ?y1⟩) (by assumption) ?r1
      case y1 => (intro w hSw; (try dsimp only at hSw); go_simp; try (with_reducible rfl))
      simp only [List.getElem_toArray, List.getElem_cons_zero, Act.put, List.setIfInBounds_toArray, List.set_cons_zero, List.set_cons_succ]
      refine wpAnyH_take (i := 2) (v := ?v2) rfl (by kernel_rfl) (by kernel_rfl) (by kernel_rfl) (fun _ _ _ h => h) (Or.inl ⟨by rfl, ?y2⟩) (by assumption) ?r2
      case y2 => (intro w hSw; (try dsimp only at hSw); go_simp; try (with_reducible rfl))
      simp only [List.getElem_toArray, List.getElem_cons_succ, List.getElem_cons_zero, Act.put, List.setIfInBounds_toArray, List.set_cons_zero, List.set_cons_succ]
      refine wpAnyH_ready (rs := [1, 3]) (by kernel_rfl) (by simp) ?_
      refine AllReadyH.cons rfl (fun K hK => ?_) (AllReadyH.cons rfl (fun K hK => ?_) AllReadyH.nil)
      · simp only [List.getElem_toArray, List.getElem_cons_succ, List.getElem_cons_zero]
        go_simp
        refine hK.out _ _ ?_ (fun hHeld => ?_)
        · trivial
        clear hK K
        try simp only [Act.put, List.setIfInBounds_toArray, List.set_cons_zero, List.set_cons_succ]
        refine wpAnyH_ready (rs := [3]) (by kernel_rfl) (by simp) ?_
        refine AllReadyH.cons rfl (fun K hK => ?_) AllReadyH.nil
        simp only [List.getElem_toArray, List.getElem_cons_succ, List.getElem_cons_zero]
        go_simp
        refine hK.out _ _ ?_ (fun hHeld => ?_)
        · trivial
        clear hK K
        try simp only [Act.put, List.setIfInBounds_toArray, List.set_cons_zero, List.set_cons_succ]
        refine wpAnyH_ready (rs := [4]) (by kernel_rfl) (by simp) ?_
        refine AllReadyH.cons rfl (fun K hK => ?_) AllReadyH.nil
        simp only [List.getElem_toArray, List.getElem_cons_succ, List.getElem_cons_zero]
        go_simp
        refine hK.out _ _ ?_ (fun hHeld => ?_)
        · trivial
        clear hK K
        try simp only [Act.put, List.setIfInBounds_toArray, List.set_cons_zero, List.set_cons_succ]
        refine wpAnyH_ready (rs := [5]) (by kernel_rfl) (by simp) ?_
        refine AllReadyH.cons rfl (fun K hK => ?_) AllReadyH.nil
        simp only [List.getElem_toArray, List.getElem_cons_succ, List.getElem_cons_zero]
        rw [if_pos (by rfl)]
        refine wp_append_lies _ (.tmp 47) (.tmp 50) 37 rfl 0 58 jbool (.slice none 0 0) 1 24 Try.underlying37 hjbool hybool0 hybool1 hybool2 rfl (by decide) vz.H _ vz.VH rfl OJ.out ⟨wz.heap.size + 1, 0, none⟩ 1 1 [.slice (some ⟨wz.heap.size, 0, none⟩) n n] rfl rfl CX (by intro u hu; simp at hu; subst hu; rfl) (by decide) (by unfold maxLen; omega) (by omega) (Nat.zero_le _) (wz.heap.size + 2) (by simp) ?_
        intro g4 c4 w4 h4 hg4 hn4 _
        obtain ⟨⟨xc, xf⟩, pp⟩ := PP.out g4 c4 w4 h4 hg4 hn4
        have HPP := hide pp
        clear pp h4 hg4 hn4
        refine hK.out _ _ ?_ (fun hHeld => ?_)
        · trivial
        clear hK K
        try simp only [Act.put, List.setIfInBounds_toArray, List.set_cons_zero, List.set_cons_succ]
        refine wpAnyH_take (i := 6) (v := ?v3) rfl (by kernel_rfl) (by kernel_rfl) (by kernel_rfl) (fun _ _ _ h => h) (Or.inl ⟨by rfl, ?y3⟩) (by assumption) ?r3
        case y3 => (intro w hSw; (try dsimp only at hSw); go_simp; try (with_reducible rfl))
        simp only [List.getElem_toArray, List.getElem_cons_succ, List.getElem_cons_zero, Act.put, List.setIfInBounds_toArray, List.set_cons_zero, List.set_cons_succ]
        refine wpAnyH_ready (rs := [7]) (by kernel_rfl) (by simp) ?_
        refine AllReadyH.cons rfl (fun K hK => ?_) AllReadyH.nil
        simp only [List.getElem_toArray, List.getElem_cons_succ, List.getElem_cons_zero]
        go_simp
        refine hK.out _ _ ?_ (fun hHeld => ?_)
        · trivial
        clear hK K
        try simp only [Act.put, List.setIfInBounds_toArray, List.set_cons_zero, List.set_cons_succ]
        refine wpAnyH_done (by kernel_rfl) ?_ _
        clear hHeld
        go_wp2_with fail
        go_meet
        exact ⟨rfl, _, HPP.out⟩
      · simp only [List.getElem_toArray, List.getElem_cons_succ, List.getElem_cons_zero]
        go_simp
        refine hK.out _ _ ?_ (fun hHeld => ?_)
        · trivial
        clear hK K
        try simp only [Act.put, List.setIfInBounds_toArray, List.set_cons_zero, List.set_cons_succ]
        refine wpAnyH_ready (rs := [1, 4]) (by kernel_rfl) (by simp) ?_
        refine AllReadyH.cons rfl (fun K hK => ?_) (AllReadyH.cons rfl (fun K hK => ?_) AllReadyH.nil)
        · simp only [List.getElem_toArray, List.getElem_cons_succ, List.getElem_cons_zero]
          go_simp
          refine hK.out _ _ ?_ (fun hHeld => ?_)
          · trivial
          clear hK K
          try simp only [Act.put, List.setIfInBounds_toArray, List.set_cons_zero, List.set_cons_succ]
          refine wpAnyH_ready (rs := [4]) (by kernel_rfl) (by simp) ?_
          refine AllReadyH.cons rfl (fun K hK => ?_) AllReadyH.nil
          simp only [List.getElem_toArray, List.getElem_cons_succ, List.getElem_cons_zero]
          go_simp
          refine hK.out _ _ ?_ (fun hHeld => ?_)
          · trivial
          clear hK K
          try simp only [Act.put, List.setIfInBounds_toArray, List.set_cons_zero, List.set_cons_succ]
          refine wpAnyH_ready (rs := [5]) (by kernel_rfl) (by simp) ?_
          refine AllReadyH.cons rfl (fun K hK => ?_) AllReadyH.nil
          simp only [List.getElem_toArray, List.getElem_cons_succ, List.getElem_cons_zero]
          rw [if_pos (by rfl)]
          refine wp_append_lies _ (.tmp 47) (.tmp 50) 37 rfl 0 58 jbool (.slice none 0 0) 1 24 Try.underlying37 hjbool hybool0 hybool1 hybool2 rfl (by decide) vz.H _ vz.VH rfl OJ.out ⟨wz.heap.size + 1, 0, none⟩ 1 1 [.slice (some ⟨wz.heap.size, 0, none⟩) n n] rfl rfl CX (by intro u hu; simp at hu; subst hu; rfl) (by decide) (by unfold maxLen; omega) (by omega) (Nat.zero_le _) (wz.heap.size + 2) (by simp) ?_
          intro g4 c4 w4 h4 hg4 hn4 _
          obtain ⟨⟨xc, xf⟩, pp⟩ := PP.out g4 c4 w4 h4 hg4 hn4
          have HPP := hide pp
          clear pp h4 hg4 hn4
          refine hK.out _ _ ?_ (fun hHeld => ?_)
          · trivial
          clear hK K
          try simp only [Act.put, List.setIfInBounds_toArray, List.set_cons_zero, List.set_cons_succ]
          refine wpAnyH_take (i := 6) (v := ?v4) rfl (by kernel_rfl) (by kernel_rfl) (by kernel_rfl) (fun _ _ _ h => h) (Or.inl ⟨by rfl, ?y4⟩) (by assumption) ?r4
          case y4 => (intro w hSw; (try dsimp only at hSw); go_simp; try (with_reducible rfl))
          simp only [List.getElem_toArray, List.getElem_cons_succ, List.getElem_cons_zero, Act.put, List.setIfInBounds_toArray, List.set_cons_zero, List.set_cons_succ]
          refine wpAnyH_ready (rs := [7]) (by kernel_rfl) (by simp) ?_
          refine AllReadyH.cons rfl (fun K hK => ?_) AllReadyH.nil
          simp only [List.getElem_toArray, List.getElem_cons_succ, List.getElem_cons_zero]
          go_simp
          refine hK.out _ _ ?_ (fun hHeld => ?_)
          · trivial
          clear hK K
          try simp only [Act.put, List.setIfInBounds_toArray, List.set_cons_zero, List.set_cons_succ]
          refine wpAnyH_done (by kernel_rfl) ?_ _
          clear hHeld
          go_wp2_with fail
          go_meet
          exact ⟨rfl, _, HPP.out⟩
        · simp only [List.getElem_toArray, List.getElem_cons_succ, List.getElem_cons_zero]
          go_simp
          refine hK.out _ _ ?_ (fun hHeld => ?_)
          · trivial
          clear hK K
          try simp only [Act.put, List.setIfInBounds_toArray, List.set_cons_zero, List.set_cons_succ]
          refine wpAnyH_ready (rs := [1]) (by kernel_rfl) (by simp) ?_
          refine AllReadyH.cons rfl (fun K hK => ?_) AllReadyH.nil
          simp only [List.getElem_toArray, List.getElem_cons_succ, List.getElem_cons_zero]
          go_simp
          refine hK.out _ _ ?_ (fun hHeld => ?_)
          · trivial
          clear hK K
          try simp only [Act.put, List.setIfInBounds_toArray, List.set_cons_zero, List.set_cons_succ]
          refine wpAnyH_ready (rs := [5]) (by kernel_rfl) (by simp) ?_
          refine AllReadyH.cons rfl (fun K hK => ?_) AllReadyH.nil
          simp only [List.getElem_toArray, List.getElem_cons_succ, List.getElem_cons_zero]
          rw [if_pos (by rfl)]
          refine wp_append_lies _ (.tmp 47) (.tmp 50) 37 rfl 0 58 jbool (.slice none 0 0) 1 24 Try.underlying37 hjbool hybool0 hybool1 hybool2 rfl (by decide) vz.H _ vz.VH rfl OJ.out ⟨wz.heap.size + 1, 0, none⟩ 1 1 [.slice (some ⟨wz.heap.size, 0, none⟩) n n] rfl rfl CX (by intro u hu; simp at hu; subst hu; rfl) (by decide) (by unfold maxLen; omega) (by omega) (Nat.zero_le _) (wz.heap.size + 2) (by simp) ?_
          intro g4 c4 w4 h4 hg4 hn4 _
          obtain ⟨⟨xc, xf⟩, pp⟩ := PP.out g4 c4 w4 h4 hg4 hn4
          have HPP := hide pp
          clear pp h4 hg4 hn4
          refine hK.out _ _ ?_ (fun hHeld => ?_)
          · trivial
          clear hK K
          try simp only [Act.put, List.setIfInBounds_toArray, List.set_cons_zero, List.set_cons_succ]
          refine wpAnyH_take (i := 6) (v := ?v5) rfl (by kernel_rfl) (by kernel_rfl) (by kernel_rfl) (fun _ _ _ h => h) (Or.inl ⟨by rfl, ?y5⟩) (by assumption) ?r5
          case y5 => (intro w hSw; (try dsimp only at hSw); go_simp; try (with_reducible rfl))
          simp only [List.getElem_toArray, List.getElem_cons_succ, List.getElem_cons_zero, Act.put, List.setIfInBounds_toArray, List.set_cons_zero, List.set_cons_succ]
          refine wpAnyH_ready (rs := [7]) (by kernel_rfl) (by simp) ?_
          refine AllReadyH.cons rfl (fun K hK => ?_) AllReadyH.nil
          simp only [List.getElem_toArray, List.getElem_cons_succ, List.getElem_cons_zero]
          go_simp
          refine hK.out _ _ ?_ (fun hHeld => ?_)
          · trivial
          clear hK K
          try simp only [Act.put, List.setIfInBounds_toArray, List.set_cons_zero, List.set_cons_succ]
          refine wpAnyH_done (by kernel_rfl) ?_ _
          clear hHeld
          go_wp2_with fail
          go_meet
          exact ⟨rfl, _, HPP.out⟩
    case rest =>
      obtain ⟨rfl, vq, hnq⟩ := hcut
      obtain ⟨m3, hm3⟩ : ∃ m3 : Bk, m3 = { m2 with H := m2.H ++ [List.replicate n false] } := ⟨_, rfl⟩
      rw [← hm3] at hnq
      obtain ⟨vz, hvz⟩ : ∃ vz : Vs, vz = vq := ⟨_, rfl⟩
      rw [← hvz] at hnq
      obtain ⟨wz, hwz⟩ : ∃ wz : World, wz = wc := ⟨_, rfl⟩
      rw [← hwz] at hnq ⊢
      have N3 := hide hnq
      have HM3 : Hid (m3 = ⟨cs.take k ++ [x], List.replicate (n * n) [], List.replicate k (-1) ++ [-1], List.replicate k (List.replicate n false) ++ [List.replicate n false], List.replicate k (List.replicate n 0)⟩) := hide (by rw [hm3, HMS.out])
      clear hnq hm3 hvz hwz N2' PP OJ lA lB CX y0 y1 y2 y3 y4
      obtain ⟨y0, y1, y2, y3, y4⟩ := blk5 N3.out.box
      have lF : m3.F.length = k := by rw [HM3.out]; simp
      have LF := hide lF
      clear lF
      go_upto_region 13 with fail
      have lA : (wz.alloc OI).cell? ⟨bx, 4, none⟩ = some vz.F := Go.Lib.cell?_alloc_some _ y4
      have lB : ((wz.alloc OI).alloc (.cells #[.slice (some ⟨wz.heap.size, 0, none⟩) n n] 24)).cell? ⟨bx, 4, none⟩ = some vz.F := Go.Lib.cell?_alloc_some _ lA
      have OJ : Hid (((wz.alloc OI).alloc (.cells #[.slice (some ⟨wz.heap.size, 0, none⟩) n n] 24)).drew.ownsRow 0 24 1 vz.F k vz.VF) := hide (by
        have h := own_belO N3.out.bw.F (((Below.refl wz.heap.size wz).alloc (Nat.le_refl _) OI).alloc (by simp) (.cells #[.slice (some ⟨wz.heap.size, 0, none⟩) n n] 24)).drew
        rw [LF.out] at h
        exact h)
      have CX : ∀ j u, [Value.slice (some ⟨wz.heap.size, 0, none⟩) n n][j]? = some u → ((wz.alloc OI).alloc (.cells #[.slice (some ⟨wz.heap.size, 0, none⟩) n n] 24)).drew.cell? ((⟨wz.heap.size + 1, 0, none⟩ : Addr).add j) = some u := fun j u hu => by
        have h := cell_oneN (wz.alloc OI) (.slice (some ⟨wz.heap.size, 0, none⟩) n n) 24 j u hu
        rw [World.size_alloc] at h
        exact h
      have PP : Hid (∀ g4 c4 w4, w4.ownsRow 0 24 1 (.slice (some ⟨g4, 0, none⟩) (k + 1) c4) (k + 1) (vz.VF ++ [.slice (some ⟨wz.heap.size, 0, none⟩) n n]) → ((wz.alloc OI).alloc (.cells #[.slice (some ⟨wz.heap.size, 0, none⟩) n n] 24)).drew.grownBy w4 vz.F.ownBlock → (vz.F.ownBlock = some g4 ∨ g4 = wz.heap.size + 2) →
          (w4.cell? ⟨bx, 4, none⟩ = some vz.F ∧ ∀ i, w4.frozen? ⟨bx, i, none⟩ = false) ∧ ∃ vn, NB w bx vn (nbk cs n (k + 1)) (w4.setCell ⟨bx, 4, none⟩ (.slice (some ⟨g4, 0, none⟩) (k + 1) c4))) := hide (fun g4 c4 w4 h4 hg4 hn4 => by
        have hA := (((Below.refl wz.heap.size wz).alloc (Nat.le_refl _) OI).alloc (by simp) (.cells #[.slice (some ⟨wz.heap.size, 0, none⟩) n n] 24)).drew
        have hb0 : ((wz.alloc OI).alloc (.cells #[.slice (some ⟨wz.heap.size, 0, none⟩) n n] 24)).drew.heap[wz.heap.size]? = some (oIn n) := by
          have h1 := blk_newO wz OI
          rw [HOI.out] at h1
          exact ((((Below.refl (wz.alloc OI).heap.size _).alloc (Nat.le_refl _) _).drew.block wz.heap.size (by simp)).trans (by rw [HOI.out]; exact h1))
        have hrow : ((wz.alloc OI).alloc (.cells #[.slice (some ⟨wz.heap.size, 0, none⟩) n n] 24)).drew.ownsRow wz.heap.size 3 1 (.slice (some ⟨wz.heap.size, 0, none⟩) n n) (List.replicate n (0 : Int)).length ((List.replicate n (0 : Int)).map (Value.int .i64)) := by
          rw [List.length_replicate, List.map_replicate]
          exact own_made12 (z := .int .i64 0) rfl hb0 (Nat.le_refl _) (by unfold maxLen; omega)
        have h := N3.out.addF hA _ (List.replicate n 0) hrow (g := g4) (c := c4) (by rw [LF.out]; exact h4) hg4 (by simpa using hn4)
        rw [LF.out] at h
        have em : ({ m3 with F := m3.F ++ [List.replicate n 0] } : Bk) = nbk cs n (k + 1) := by
          rw [← nbk_step cs n k (by rw [HN.out]; exact hlt), HM3.out, ← HX.out]
        rw [em] at h
        exact ⟨h.1, _, h.2⟩)
      refine wp_region_held_drew (S := fun _ => True) (by kernel_rfl) trivial (fun hHeld => ?_)
      refine wpAnyH_take (i := 0) (v := ?v6) rfl (by kernel_rfl) (by kernel_rfl) (by kernel_rfl) (fun _ _ _ h => h) (Or.inl ⟨by rfl, ?y6⟩) (by assumption) ?r6
      case y6 => (intro w hSw; (try dsimp only at hSw); go_simp; try (with_reducible rfl))
      simp only [List.getElem_toArray, List.getElem_cons_zero, Act.put, List.setIfInBounds_toArray, List.set_cons_zero, List.set_cons_succ]
      refine wpAnyH_take (i := 2) (v := ?v7) rfl (by kernel_rfl) (by kernel_rfl) (by kernel_rfl) (fun _ _ _ h => h) (Or.inl ⟨by rfl, ?y7⟩) (by assumption) ?r7
      case y7 => (intro w hSw; (try dsimp only at hSw); go_simp; try (with_reducible rfl))
      simp only [List.getElem_toArray, List.getElem_cons_succ, List.getElem_cons_zero, Act.put, List.setIfInBounds_toArray, List.set_cons_zero, List.set_cons_succ]
      refine wpAnyH_ready (rs := [1, 3]) (by kernel_rfl) (by simp) ?_
      refine AllReadyH.cons rfl (fun K hK => ?_) (AllReadyH.cons rfl (fun K hK => ?_) AllReadyH.nil)
      · simp only [List.getElem_toArray, List.getElem_cons_succ, List.getElem_cons_zero]
        go_simp
        refine hK.out _ _ ?_ (fun hHeld => ?_)
        · trivial
        clear hK K
        try simp only [Act.put, List.setIfInBounds_toArray, List.set_cons_zero, List.set_cons_succ]
        refine wpAnyH_ready (rs := [3]) (by kernel_rfl) (by simp) ?_
        refine AllReadyH.cons rfl (fun K hK => ?_) AllReadyH.nil
        simp only [List.getElem_toArray, List.getElem_cons_succ, List.getElem_cons_zero]
        go_simp
        refine hK.out _ _ ?_ (fun hHeld => ?_)
        · trivial
        clear hK K
        try simp only [Act.put, List.setIfInBounds_toArray, List.set_cons_zero, List.set_cons_succ]
        refine wpAnyH_ready (rs := [4]) (by kernel_rfl) (by simp) ?_
        refine AllReadyH.cons rfl (fun K hK => ?_) AllReadyH.nil
        simp only [List.getElem_toArray, List.getElem_cons_succ, List.getElem_cons_zero]
        go_simp
        refine hK.out _ _ ?_ (fun hHeld => ?_)
        · trivial
        clear hK K
        try simp only [Act.put, List.setIfInBounds_toArray, List.set_cons_zero, List.set_cons_succ]
        refine wpAnyH_ready (rs := [5]) (by kernel_rfl) (by simp) ?_
        refine AllReadyH.cons rfl (fun K hK => ?_) AllReadyH.nil
        simp only [List.getElem_toArray, List.getElem_cons_succ, List.getElem_cons_zero]
        rw [if_pos (by rfl)]
        refine wp_append_lies _ (.tmp 54) (.tmp 57) 36 rfl 0 24 jint (.slice none 0 0) 1 24 Try.underlying36 hjint hyint0 hyint1 hyint2 rfl (by decide) vz.F _ vz.VF rfl OJ.out ⟨wz.heap.size + 1, 0, none⟩ 1 1 [.slice (some ⟨wz.heap.size, 0, none⟩) n n] rfl rfl CX (by intro u hu; simp at hu; subst hu; rfl) (by decide) (by unfold maxLen; omega) (by omega) (Nat.zero_le _) (wz.heap.size + 2) (by simp) ?_
        intro g4 c4 w4 h4 hg4 hn4 _
        obtain ⟨⟨xc, xf⟩, pp⟩ := PP.out g4 c4 w4 h4 hg4 hn4
        have HPP := hide pp
        clear pp h4 hg4 hn4
        refine hK.out _ _ ?_ (fun hHeld => ?_)
        · trivial
        clear hK K
        try simp only [Act.put, List.setIfInBounds_toArray, List.set_cons_zero, List.set_cons_succ]
        refine wpAnyH_take (i := 6) (v := ?v8) rfl (by kernel_rfl) (by kernel_rfl) (by kernel_rfl) (fun _ _ _ h => h) (Or.inl ⟨by rfl, ?y8⟩) (by assumption) ?r8
        case y8 => (intro w hSw; (try dsimp only at hSw); go_simp; try (with_reducible rfl))
        simp only [List.getElem_toArray, List.getElem_cons_succ, List.getElem_cons_zero, Act.put, List.setIfInBounds_toArray, List.set_cons_zero, List.set_cons_succ]
        refine wpAnyH_ready (rs := [7]) (by kernel_rfl) (by simp) ?_
        refine AllReadyH.cons rfl (fun K hK => ?_) AllReadyH.nil
        simp only [List.getElem_toArray, List.getElem_cons_succ, List.getElem_cons_zero]
        go_simp
        refine hK.out _ _ ?_ (fun hHeld => ?_)
        · trivial
        clear hK K
        try simp only [Act.put, List.setIfInBounds_toArray, List.set_cons_zero, List.set_cons_succ]
        refine wpAnyH_done (by kernel_rfl) ?_ _
        clear hHeld
        obtain ⟨vn, hvn⟩ := HPP.out
        have HVN := hide hvn
        clear hvn HPP
        go_wp2
        go_roundw
        case rel => exact ⟨k + 1, vn, by omega, by go_num, HVN, NX⟩
        case measure => simp [intOf]; omega
      · simp only [List.getElem_toArray, List.getElem_cons_succ, List.getElem_cons_zero]
        go_simp
        refine hK.out _ _ ?_ (fun hHeld => ?_)
        · trivial
        clear hK K
        try simp only [Act.put, List.setIfInBounds_toArray, List.set_cons_zero, List.set_cons_succ]
        refine wpAnyH_ready (rs := [1, 4]) (by kernel_rfl) (by simp) ?_
        refine AllReadyH.cons rfl (fun K hK => ?_) (AllReadyH.cons rfl (fun K hK => ?_) AllReadyH.nil)
        · simp only [List.getElem_toArray, List.getElem_cons_succ, List.getElem_cons_zero]
          go_simp
          refine hK.out _ _ ?_ (fun hHeld => ?_)
          · trivial
          clear hK K
          try simp only [Act.put, List.setIfInBounds_toArray, List.set_cons_zero, List.set_cons_succ]
          refine wpAnyH_ready (rs := [4]) (by kernel_rfl) (by simp) ?_
          refine AllReadyH.cons rfl (fun K hK => ?_) AllReadyH.nil
          simp only [List.getElem_toArray, List.getElem_cons_succ, List.getElem_cons_zero]
          go_simp
          refine hK.out _ _ ?_ (fun hHeld => ?_)
          · trivial
          clear hK K
          try simp only [Act.put, List.setIfInBounds_toArray, List.set_cons_zero, List.set_cons_succ]
          refine wpAnyH_ready (rs := [5]) (by kernel_rfl) (by simp) ?_
          refine AllReadyH.cons rfl (fun K hK => ?_) AllReadyH.nil
          simp only [List.getElem_toArray, List.getElem_cons_succ, List.getElem_cons_zero]
          rw [if_pos (by rfl)]
          refine wp_append_lies _ (.tmp 54) (.tmp 57) 36 rfl 0 24 jint (.slice none 0 0) 1 24 Try.underlying36 hjint hyint0 hyint1 hyint2 rfl (by decide) vz.F _ vz.VF rfl OJ.out ⟨wz.heap.size + 1, 0, none⟩ 1 1 [.slice (some ⟨wz.heap.size, 0, none⟩) n n] rfl rfl CX (by intro u hu; simp at hu; subst hu; rfl) (by decide) (by unfold maxLen; omega) (by omega) (Nat.zero_le _) (wz.heap.size + 2) (by simp) ?_
          intro g4 c4 w4 h4 hg4 hn4 _
          obtain ⟨⟨xc, xf⟩, pp⟩ := PP.out g4 c4 w4 h4 hg4 hn4
          have HPP := hide pp
          clear pp h4 hg4 hn4
          refine hK.out _ _ ?_ (fun hHeld => ?_)
          · trivial
          clear hK K
          try simp only [Act.put, List.setIfInBounds_toArray, List.set_cons_zero, List.set_cons_succ]
          refine wpAnyH_take (i := 6) (v := ?v9) rfl (by kernel_rfl) (by kernel_rfl) (by kernel_rfl) (fun _ _ _ h => h) (Or.inl ⟨by rfl, ?y9⟩) (by assumption) ?r9
          case y9 => (intro w hSw; (try dsimp only at hSw); go_simp; try (with_reducible rfl))
          simp only [List.getElem_toArray, List.getElem_cons_succ, List.getElem_cons_zero, Act.put, List.setIfInBounds_toArray, List.set_cons_zero, List.set_cons_succ]
          refine wpAnyH_ready (rs := [7]) (by kernel_rfl) (by simp) ?_
          refine AllReadyH.cons rfl (fun K hK => ?_) AllReadyH.nil
          simp only [List.getElem_toArray, List.getElem_cons_succ, List.getElem_cons_zero]
          go_simp
          refine hK.out _ _ ?_ (fun hHeld => ?_)
          · trivial
          clear hK K
          try simp only [Act.put, List.setIfInBounds_toArray, List.set_cons_zero, List.set_cons_succ]
          refine wpAnyH_done (by kernel_rfl) ?_ _
          clear hHeld
          obtain ⟨vn, hvn⟩ := HPP.out
          have HVN := hide hvn
          clear hvn HPP
          go_wp2
          go_roundw
          case rel => exact ⟨k + 1, vn, by omega, by go_num, HVN, NX⟩
          case measure => simp [intOf]; omega
        · simp only [List.getElem_toArray, List.getElem_cons_succ, List.getElem_cons_zero]
          go_simp
          refine hK.out _ _ ?_ (fun hHeld => ?_)
          · trivial
          clear hK K
          try simp only [Act.put, List.setIfInBounds_toArray, List.set_cons_zero, List.set_cons_succ]
          refine wpAnyH_ready (rs := [1]) (by kernel_rfl) (by simp) ?_
          refine AllReadyH.cons rfl (fun K hK => ?_) AllReadyH.nil
          simp only [List.getElem_toArray, List.getElem_cons_succ, List.getElem_cons_zero]
          go_simp
          refine hK.out _ _ ?_ (fun hHeld => ?_)
          · trivial
          clear hK K
          try simp only [Act.put, List.setIfInBounds_toArray, List.set_cons_zero, List.set_cons_succ]
          refine wpAnyH_ready (rs := [5]) (by kernel_rfl) (by simp) ?_
          refine AllReadyH.cons rfl (fun K hK => ?_) AllReadyH.nil
          simp only [List.getElem_toArray, List.getElem_cons_succ, List.getElem_cons_zero]
          rw [if_pos (by rfl)]
          refine wp_append_lies _ (.tmp 54) (.tmp 57) 36 rfl 0 24 jint (.slice none 0 0) 1 24 Try.underlying36 hjint hyint0 hyint1 hyint2 rfl (by decide) vz.F _ vz.VF rfl OJ.out ⟨wz.heap.size + 1, 0, none⟩ 1 1 [.slice (some ⟨wz.heap.size, 0, none⟩) n n] rfl rfl CX (by intro u hu; simp at hu; subst hu; rfl) (by decide) (by unfold maxLen; omega) (by omega) (Nat.zero_le _) (wz.heap.size + 2) (by simp) ?_
          intro g4 c4 w4 h4 hg4 hn4 _
          obtain ⟨⟨xc, xf⟩, pp⟩ := PP.out g4 c4 w4 h4 hg4 hn4
          have HPP := hide pp
          clear pp h4 hg4 hn4
          refine hK.out _ _ ?_ (fun hHeld => ?_)
          · trivial
          clear hK K
          try simp only [Act.put, List.setIfInBounds_toArray, List.set_cons_zero, List.set_cons_succ]
          refine wpAnyH_take (i := 6) (v := ?v10) rfl (by kernel_rfl) (by kernel_rfl) (by kernel_rfl) (fun _ _ _ h => h) (Or.inl ⟨by rfl, ?y10⟩) (by assumption) ?r10
          case y10 => (intro w hSw; (try dsimp only at hSw); go_simp; try (with_reducible rfl))
          simp only [List.getElem_toArray, List.getElem_cons_succ, List.getElem_cons_zero, Act.put, List.setIfInBounds_toArray, List.set_cons_zero, List.set_cons_succ]
          refine wpAnyH_ready (rs := [7]) (by kernel_rfl) (by simp) ?_
          refine AllReadyH.cons rfl (fun K hK => ?_) AllReadyH.nil
          simp only [List.getElem_toArray, List.getElem_cons_succ, List.getElem_cons_zero]
          go_simp
          refine hK.out _ _ ?_ (fun hHeld => ?_)
          · trivial
          clear hK K
          try simp only [Act.put, List.setIfInBounds_toArray, List.set_cons_zero, List.set_cons_succ]
          refine wpAnyH_done (by kernel_rfl) ?_ _
          clear hHeld
          obtain ⟨vn, hvn⟩ := HPP.out
          have HVN := hide hvn
          clear hvn HPP
          go_wp2
          go_roundw
          case rel => exact ⟨k + 1, vn, by omega, by go_num, HVN, NX⟩
          case measure => simp [intOf]; omega

end Go.Proofs.Ytfjbiihiaoobhai.L12
