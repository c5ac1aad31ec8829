/-
  Contracts: impl.Unwrap with what it calls: the samples with what rose up to them, in new memory.
-/
import Derived.Test.YticgejaaoamhmapL16Ret
import Derived.Test.YticgejaaoamhmapL16RisA
import Derived.Test.YticgejaaoamhmapL16App
import Derived.Test.YticgejaaoamhmapL16Clo
import Derived.Deep.RegionHeld3
namespace Go.Proofs.Yticgejaaoamhmap.L16
open Go.RowKit L1
set_option linter.unusedVariables false

/-- The first Value and what rose up to a sample together. -/
def uv (l : List (Int × Int)) (k : Nat) : Int := vl l 0 + ris l (k + 1)
/-- The samples, of which the first k are unwrapped. -/
def unK (l : List (Int × Int)) (k : Nat) : List (Int × Int) := (List.range l.length).map fun j => (at_ l j, if j < k then uv l j else vl l j)
/-- All of them. -/
def unw (l : List (Int × Int)) : List (Int × Int) := (List.range l.length).map fun j => (at_ l j, uv l j)
open Classical in
/-- What Unwrap answers. -/
noncomputable def unR (l : List (Int × Int)) : Option (List (Int × Int)) := if Ctr l ∧ GoodS (unw l) then some (unw l) else none
theorem unK_len (l : List (Int × Int)) (k : Nat) : (unK l k).length = l.length := by simp [unK]
theorem unw_len (l : List (Int × Int)) : (unw l).length = l.length := by simp [unw]
theorem unK_get (l : List (Int × Int)) (k j : Nat) (h : j < l.length) : (unK l k).getD j (0, 0) = (at_ l j, if j < k then uv l j else vl l j) := by
  simp [unK, List.getD, h]
theorem uv_zero (l : List (Int × Int)) : uv l 0 = vl l 0 := by unfold uv; rw [ris_one]; omega
theorem unK_one (l : List (Int × Int)) : unK l 1 = l := by
  refine ext2 (unK_len l 1) (fun j hj => ?_)
  rw [unK_get l 1 j hj]
  by_cases h : j < 1
  · obtain rfl : j = 0 := by omega
    rw [if_pos h, uv_zero]; rfl
  · rw [if_neg h]; rfl
theorem unK_all (l : List (Int × Int)) : unK l l.length = unw l := by
  unfold unK unw
  apply List.map_congr_left
  intro j hj
  rw [if_pos (List.mem_range.1 hj)]
theorem unK_nil {l : List (Int × Int)} (h : l.length ≤ 1) : unK l 1 = unw l := by
  by_cases e : l.length = 1
  · rw [← unK_all l, e]
  · have : l = [] := List.eq_nil_of_length_eq_zero (by omega)
    subst this; rfl
theorem unK_set (l : List (Int × Int)) (k : Nat) (h : k < l.length) : (flat (unK l k)).set (k * 2 + 1) (.int .i64 (uv l k)) = flat (unK l (k + 1)) := by
  have e : unK l (k + 1) = (unK l k).set k (at_ l k, uv l k) := by
    refine ext2 (by simp [unK_len]) (fun j hj => ?_)
    simp only [List.length_set, unK_len] at hj
    rw [unK_get l (k + 1) j hj]
    by_cases ej : j = k
    · subst ej
      rw [if_pos (by omega)]
      simp [List.getD, unK_len, h]
    · have : ((unK l k).set k (at_ l k, uv l k)).getD j (0, 0) = (unK l k).getD j (0, 0) := by simp [List.getD, Ne.symm ej]
      rw [this, unK_get l k j hj]
      by_cases h2 : j < k
      · rw [if_pos h2, if_pos (by omega)]
      · rw [if_neg h2, if_neg (by omega)]
  rw [e, flat_set]
  congr 1
  have hg := (flat_get (unK l k) k (by rw [unK_len]; exact h)).1
  rw [unK_get l k k h] at hg
  simp only at hg
  have hlen : k * 2 < (flat (unK l k)).length := by rw [flat_len, unK_len]; omega
  apply List.ext_getElem (by simp)
  intro j ha hb
  rw [List.getElem_set]
  split
  · next e2 =>
    subst e2
    rw [List.getElem?_eq_getElem hlen] at hg
    exact Option.some.inj hg
  · rfl
theorem uv_bd {l : List (Int × Int)} (h : Ctr l) {k : Nat} (hk : k < l.length) : 0 ≤ uv l k ∧ uv l k ≤ 41000000000 := by
  have h1 := h.val (k := 0) (by omega)
  have h2 := ris_bd h (k + 1) (by omega)
  have h3 := h.len
  unfold uv; omega
theorem uv_succ (l : List (Int × Int)) {k : Nat} (h : 0 < k) : uv l k = uv l (k - 1) + stp (vl l (k - 1)) (vl l k) := by
  unfold uv
  rw [ris_succ l h, show k - 1 + 1 = k by omega]; omega
theorem unR_len {l : List (Int × Int)} (h : Ctr l) (k : Nat) : ((unR l).getD []).length ≤ 40 := by
  unfold unR
  split
  · rw [Option.getD_some, unw_len]; exact h.len
  · exact Nat.zero_le _
theorem unR_le (l : List (Int × Int)) : ((unR l).getD []).length ≤ 40 := by
  unfold unR
  split
  · next h => rw [Option.getD_some, unw_len]; exact h.1.len
  · exact Nat.zero_le _
set_option maxRecDepth 100000 in
set_option maxHeartbeats 4000000 in
theorem unwrapped_any (b off : Nat) (l : List (Int × Int)) (n cap : Nat) (w : World) (hn : l.length = n) (hs : Sl2 w (some ⟨b, off, none⟩) l) (hc : Ctr l) :
    Calls Try.prog 31 #[.agg #[.slice (some ⟨b, off, none⟩) n cap]] w fun e w' => ∃ v, e = .returned v ∧ w'.ownsRow w.heap.size 42 2 v n (flat (unw l)) ∧ Below w.heap.size w w' := by
  obtain ⟨h40, hv, hrr⟩ := ctr_val hc hn
  obtain ⟨W0, hW0⟩ : ∃ W0, BoxR w (some ⟨b, off, none⟩) n cap W0 := ⟨_, rfl⟩
  have K0 := hide hW0.cell
  have B0 := hide hW0.below
  have HW := hide (show w.alloc (.cells #[.slice (some ⟨b, off, none⟩) n cap] 47) = W0 from hW0)
  have HS0 := hide (hs.below hW0.below)
  have CC := hide (clone_some16 b off l n cap W0 hn HS0.out (by omega))
  have HV := hide hv
  have HN := hide hn
  have HC := hide hc
  clear hW0 hs hv hrr hn hc
  go_enter Try.func31, Try.ntmps31
  go_upto_region 1 with fail
  rw [HW.out]
  have k0 := K0.out
  go_wp2_with fail
  refine CC.out.mono ?_
  rintro e w1 ⟨ca, cc, rfl, ho1, hb1⟩
  rw [← unK_one l] at ho1
  have O1 := hide ho1
  have B1 := hide hb1
  clear ho1 hb1 k0
  go_upto_region 3 with fail
  go_loopw [4] (fun i wr => ∃ k : Nat, 0 < k ∧ (k ≤ n ∨ k = 1) ∧ i = .int .i64 k ∧ Hid (wr.ownsRow W0.heap.size 42 2 (.slice ca n cc) n (flat (unK l k))) ∧ Hid (Below W0.heap.size W0 wr)) (fun i _ => n - (intOf i).toNat)
  case atStart => exact ⟨1, Nat.one_pos, .inr rfl, rfl, O1, B1⟩
  case round =>
    clear O1 B1
    obtain ⟨k, hk0, hk, rfl, HO, BW⟩ := hrel
    by_cases hlt : k < n
    · have hltI : (k : Int) < (n : Int) := by omega
      obtain ⟨g, e⟩ : ∃ g, ca = some ⟨g, 0, none⟩ := by
        rcases HO.out.2 with ⟨hv, h0⟩ | ⟨g, c, cur, hv, _⟩
        · omega
        · cases hv; exact ⟨g, rfl⟩
      subst e
      obtain ⟨r, hr⟩ : ∃ r, r = k - 1 := ⟨_, rfl⟩
      have hkl : k < l.length := by rw [HN.out]; exact hlt
      have q1 := (flat_get (unK l k) r (by rw [unK_len]; omega)).2
      have q2 := (flat_get (unK l k) k (by rw [unK_len]; omega)).2
      have c1 := HO.out.cells (g := g) rfl (r * 2 + 1) _ q1
      have c2 := HO.out.cells (g := g) rfl (k * 2 + 1) _ q2
      rw [addr_add] at c1 c2
      rw [unK_get l k r (by omega), if_pos (by omega)] at c1
      rw [unK_get l k k hkl, if_neg (by omega)] at c2
      simp only at c1 c2
      have fz := HO.out.frozenAt (k * 2 + 1)
      have hge := (HO.out.lt g rfl).1
      have hgl := (HO.out.lt g rfl).2
      have hus := uv_succ l hk0
      have hub := uv_bd HC.out hkl
      have hub2 := uv_bd HC.out (k := k - 1) (by omega)
      rw [← hr] at hus hub2
      have hset := unK_set l k hkl
      obtain ⟨z, hz⟩ : ∃ z, z = stp (vl l (k - 1)) (vl l k) := ⟨_, rfl⟩
      have CA := hide (fun wx hs => riseAt_any (some ⟨b, off, none⟩) l n cap k wx HN.out hs (by omega) hk0 hlt HV.out z hz)
      rw [← hr] at hz
      rw [← hz] at hus
      obtain ⟨u, hu⟩ : ∃ u, u = uv l r := ⟨_, rfl⟩
      obtain ⟨x, hx⟩ : ∃ x, x = uv l k := ⟨_, rfl⟩
      obtain ⟨y, hy⟩ : ∃ y, y = vl l k := ⟨_, rfl⟩
      rw [← hu] at c1 hus hub2
      rw [← hx] at hus hub hset
      rw [← hy] at c2
      have hr1 : (k : Int) - 1 = (r : Int) := by omega
      have hrw : IntKind.i64.wrap ((k : Int) - 1) = (r : Int) := by rw [hr1]; exact wrap16 (by omega) (by omega)
      have hrw2 : IntKind.i64.wrap (r : Int) = (r : Int) := wrap16 (by omega) (by omega)
      have hrn : (r : Int) < (n : Int) := by omega
      have hw2 : IntKind.i64.wrap (u + z) = x := by rw [← hus]; exact wrap16 (by omega) (by omega)
      have k1 := (BW.out.cell (p := ⟨w.heap.size, 0, none⟩) (blk_lt K0.out)).trans K0.out
      have HSET := hide hset
      have C1 := hide c1
      have C2 := hide c2
      have GE := hide hge
      have GL := hide hgl
      have UZ := hide (show u + z = x from hus.symm)
      have K1 := hide k1
      clear hz hus hu hx hy hset q1 q2 hkl hge hgl hr
      go_wp2
      refine wp_region_held_drew (S := (fun wx => wx.cell? ⟨w.heap.size, 0, none⟩ = some (.slice (some ⟨b, off, none⟩) n cap) ∧ wx.cell? ⟨g, r * 2 + 1, none⟩ = some (.int .i64 u))) (by kernel_rfl) ⟨K1.out, C1.out⟩ (fun hHeld => ?_)
      refine wpAnyH_take (i := 0) (v := ?v1) rfl (by kernel_rfl) (by kernel_rfl) (by kernel_rfl) (fun _ _ _ h => h) (Or.inl ⟨by rfl, ?y1⟩) (by assumption) ?r1
      case y1 => (intro w hSw; (try dsimp only at hSw); go_simp; try (with_reducible rfl))
      simp only [List.getElem_toArray, List.getElem_cons_zero, Act.put, List.setIfInBounds_toArray, List.set_cons_zero, List.set_cons_succ]
      refine wpAnyH_take (i := 1) (v := ?v2) rfl (by kernel_rfl) (by kernel_rfl) (by kernel_rfl) (fun _ _ _ h => h) (Or.inl ⟨by rfl, ?y2⟩) (by assumption) ?r2
      case y2 => (intro w hSw; (try dsimp only at hSw); go_simp; try (with_reducible rfl))
      simp only [List.getElem_toArray, List.getElem_cons_succ, List.getElem_cons_zero, Act.put, List.setIfInBounds_toArray, List.set_cons_zero, List.set_cons_succ]
      refine wpAnyH_take (i := 2) (v := ?v3) rfl (by kernel_rfl) (by kernel_rfl) (by kernel_rfl) (fun _ _ _ h => h) (Or.inl ⟨by rfl, ?y3⟩) (by assumption) ?r3
      case y3 => (intro w hSw; (try dsimp only at hSw); go_simp; try (with_reducible rfl))
      simp only [List.getElem_toArray, List.getElem_cons_succ, List.getElem_cons_zero, Act.put, List.setIfInBounds_toArray, List.set_cons_zero, List.set_cons_succ]
      refine wpAnyH_take (i := 3) (v := ?v4) rfl (by kernel_rfl) (by kernel_rfl) (by kernel_rfl) (fun _ _ _ h => h) (Or.inl ⟨by rfl, ?y4⟩) (by assumption) ?r4
      case y4 => (intro w hSw; (try dsimp only at hSw); go_simp; try (with_reducible rfl))
      simp only [List.getElem_toArray, List.getElem_cons_succ, List.getElem_cons_zero, Act.put, List.setIfInBounds_toArray, List.set_cons_zero, List.set_cons_succ]
      refine wpAnyH_take (i := 4) (v := ?v5) rfl (by kernel_rfl) (by kernel_rfl) (by kernel_rfl) (fun _ _ _ h => h) (Or.inl ⟨by rfl, ?y5⟩) (by assumption) ?r5
      case y5 => (intro w hSw; (try dsimp only at hSw); go_simp; try (with_reducible rfl))
      simp only [List.getElem_toArray, List.getElem_cons_succ, List.getElem_cons_zero, Act.put, List.setIfInBounds_toArray, List.set_cons_zero, List.set_cons_succ]
      refine wpAnyH_take (i := 5) (v := ?v6) rfl (by kernel_rfl) (by kernel_rfl) (by kernel_rfl) (fun _ _ _ h => h) (Or.inl ⟨by rfl, ?y6⟩) (by assumption) ?r6
      case y6 => (intro w hSw; (try dsimp only at hSw); go_simp; try (with_reducible rfl))
      simp only [List.getElem_toArray, List.getElem_cons_succ, List.getElem_cons_zero, Act.put, List.setIfInBounds_toArray, List.set_cons_zero, List.set_cons_succ]
      refine wpAnyH_take (i := 6) (v := ?v7) rfl (by kernel_rfl) (by kernel_rfl) (by kernel_rfl) (fun _ _ _ h => h) (Or.inl ⟨by rfl, ?y7⟩) (by assumption) ?r7
      case y7 => (intro w hSw; (try dsimp only at hSw); go_simp; try (with_reducible rfl))
      simp only [List.getElem_toArray, List.getElem_cons_succ, List.getElem_cons_zero, Act.put, List.setIfInBounds_toArray, List.set_cons_zero, List.set_cons_succ]
      refine wpAnyH_take (i := 7) (v := ?v8) rfl (by kernel_rfl) (by kernel_rfl) (by kernel_rfl) (fun _ _ _ h => h) (Or.inl ⟨by rfl, ?y8⟩) (by assumption) ?r8
      case y8 => (intro w hSw; (try dsimp only at hSw); go_simp; try (with_reducible rfl))
      simp only [List.getElem_toArray, List.getElem_cons_succ, List.getElem_cons_zero, Act.put, List.setIfInBounds_toArray, List.set_cons_zero, List.set_cons_succ]
      refine wpAnyH_take (i := 8) (v := ?v9) rfl (by kernel_rfl) (by kernel_rfl) (by kernel_rfl) (fun _ _ _ h => h) (Or.inl ⟨by rfl, ?y9⟩) (by assumption) ?r9
      case y9 => (intro w hSw; (try dsimp only at hSw); go_simp; try (with_reducible rfl))
      simp only [List.getElem_toArray, List.getElem_cons_succ, List.getElem_cons_zero, Act.put, List.setIfInBounds_toArray, List.set_cons_zero, List.set_cons_succ]
      refine wpAnyH_take (i := 9) (v := ?v10) rfl (by kernel_rfl) (by kernel_rfl) (by kernel_rfl) (fun _ _ _ h => h) (Or.inl ⟨by rfl, ?y10⟩) (by assumption) ?r10
      case y10 => (intro w hSw; (try dsimp only at hSw); go_simp; try (with_reducible rfl))
      simp only [List.getElem_toArray, List.getElem_cons_succ, List.getElem_cons_zero, Act.put, List.setIfInBounds_toArray, List.set_cons_zero, List.set_cons_succ]
      refine wpAnyH_ready (rs := [10]) (by kernel_rfl) (by simp) ?_
      refine AllReadyH.cons rfl (fun K hK => ?_) AllReadyH.nil
      simp only [List.getElem_toArray, List.getElem_cons_succ, List.getElem_cons_zero]
      go_simp
      go_at_call 48
      refine (CA.out _ (HS0.out.below (BW.out.trans ((Below.refl _ _).drew.mono BW.out.size)))).mono ?_
      rintro e w2 ⟨rfl, hb⟩
      have E2 := hide (show Below wr.heap.size wr w2 from (Below.refl wr.heap.size wr).drew.trans (hb.mono (Nat.le_refl _)))
      have O2 := hide (own_below2 HO.out E2.out)
      have B2 := hide (BW.out.trans (E2.out.mono BW.out.size))
      have d1 := (E2.out.cell (p := ⟨g, r * 2 + 1, none⟩) GL.out).trans C1.out
      have d2 := (E2.out.cell (p := ⟨g, k * 2 + 1, none⟩) GL.out).trans C2.out
      have dk := (E2.out.cell (p := ⟨w.heap.size, 0, none⟩) (blk_lt K1.out)).trans K1.out
      have dz := O2.out.frozenAt (k * 2 + 1)
      have D1 := hide d1
      have D2 := hide d2
      have DK := hide dk
      clear hb d1 d2 dk
      dsimp only
      refine hK.out _ _ ?_ (fun hHeld => ?_)
      · exact ⟨DK.out, D1.out⟩
      clear hK K
      try simp only [Act.put, List.setIfInBounds_toArray, List.set_cons_zero, List.set_cons_succ]
      refine wpAnyH_take (i := 11) (v := ?v11) rfl (by kernel_rfl) (by kernel_rfl) (by kernel_rfl) (fun _ _ _ h => h) (Or.inl ⟨by rfl, ?y11⟩) (by assumption) ?r11
      case y11 => (intro w hSw; (try dsimp only at hSw); go_simp; try (with_reducible rfl))
      simp only [List.getElem_toArray, List.getElem_cons_succ, List.getElem_cons_zero, Act.put, List.setIfInBounds_toArray, List.set_cons_zero, List.set_cons_succ]
      refine wpAnyH_take (i := 12) (v := ?v12) rfl (by kernel_rfl) (by kernel_rfl) (by kernel_rfl) (fun _ _ _ h => h) (Or.inl ⟨by rfl, ?y12⟩) (by assumption) ?r12
      case y12 => (intro w hSw; (try dsimp only at hSw); go_simp; try (with_reducible rfl))
      simp only [List.getElem_toArray, List.getElem_cons_succ, List.getElem_cons_zero, Act.put, List.setIfInBounds_toArray, List.set_cons_zero, List.set_cons_succ]
      refine wpAnyH_take (i := 13) (v := ?v13) rfl (by kernel_rfl) (by kernel_rfl) (by kernel_rfl) (fun _ _ _ h => h) (Or.inl ⟨by rfl, ?y13⟩) (by assumption) ?r13
      case y13 => (intro w hSw; (try dsimp only at hSw); go_simp; try (with_reducible rfl))
      simp only [List.getElem_toArray, List.getElem_cons_succ, List.getElem_cons_zero, Act.put, List.setIfInBounds_toArray, List.set_cons_zero, List.set_cons_succ]
      refine wpAnyH_ready (rs := [14]) (by kernel_rfl) (by simp) ?_
      refine AllReadyH.cons rfl (fun K hK => ?_) AllReadyH.nil
      simp only [List.getElem_toArray, List.getElem_cons_succ, List.getElem_cons_zero]
      have d2 := D2.out
      go_simp
      have O9 := hide (show (w2.setCell ⟨g, k * 2 + 1, none⟩ (.int .i64 x)).ownsRow W0.heap.size 42 2 (.slice (some ⟨g, 0, none⟩) n cc) n (flat (unK l (k + 1))) from by have h := (O2.out.stored (k * 2 + 1) (.int .i64 x)).1; rw [HSET.out] at h; exact h)
      have B9 := hide (show Below W0.heap.size W0 (w2.setCell ⟨g, k * 2 + 1, none⟩ (.int .i64 x)) from B2.out.setCell (p := ⟨g, k * 2 + 1, none⟩) GE.out _)
      clear d2
      refine hK.out _ _ ?_ (fun hHeld => ?_)
      · exact ⟨(cell_ne16 (by intro e; have h1 := congrArg Addr.block e; have h2 := (blk_lt K0.out); have h3 := GE.out; simp only at h1; omega)).trans DK.out, (cell_ne16 (by intro e; have h1 := congrArg Addr.off e; simp only at h1; omega)).trans D1.out⟩
      clear hK K
      try simp only [Act.put, List.setIfInBounds_toArray, List.set_cons_zero, List.set_cons_succ]
      refine wpAnyH_done (by kernel_rfl) ?_ _
      clear hHeld
      go_wp2
      go_roundw
      case rel => exact ⟨k + 1, by omega, .inl (by omega), by go_num, O9, B9⟩
      case measure => simp [intOf]; omega
    · have hltI : ¬ (k : Int) < (n : Int) := by omega
      have e : unK l k = unw l := by
        rcases hk with h | h
        · rw [show k = l.length by rw [HN.out]; omega]; exact unK_all l
        · subst h; exact unK_nil (by rw [HN.out]; omega)
      have O2 := HO.out
      rw [e] at O2
      have O3 := hide (own_baseS16 O2 B0.out.size)
      have B3 := hide (B0.out.trans (BW.out.mono B0.out.size))
      clear O2 e
      go_wp2
      go_ret
      exact ⟨_, rfl, O3.out, B3.out⟩
set_option maxRecDepth 100000 in
set_option maxHeartbeats 2000000 in
theorem unwrap_any (b off : Nat) (l : List (Int × Int)) (n cap : Nat) (w : World) (hn : l.length = n) (hs : Sl2 w (some ⟨b, off, none⟩) l) (hn2 : n ≤ 1048576) (r : Option (List (Int × Int))) (hr : r = unR l) :
    Calls Try.prog 11 #[.slice (some ⟨b, off, none⟩) n cap] w fun e w' => RetS16 w r e w' := by
  obtain ⟨c, hc⟩ : ∃ c : Bool, c = true ↔ Ctr l := by classical exact ⟨decide (Ctr l), by simp⟩
  have CO := hide (counterOk_any (some ⟨b, off, none⟩) l n cap w hn hs hn2 c hc)
  have HS := hide hs
  cases hq : c with
  | false =>
    have HR := hide (show r = none by rw [hr]; unfold unR; rw [if_neg (fun h => by have := hc.2 h.1; rw [hq] at this; cases this)])
    subst hq
    clear hc hr hs hn
    go_enter Try.func11, Try.ntmps11
    go_wp2_with fail
    refine CO.out.mono ?_
    rintro e w1 ⟨rfl, hb1⟩
    have B1 := hide hb1
    clear hb1
    go_wp2
    go_ret2
    exact retS_none HR.out B1.out
  | true =>
    have hct := hc.1 hq
    have CU := hide (fun wx hs => unwrapped_any b off l n cap wx hn hs hct)
    obtain ⟨q, hqq⟩ : ∃ q : Bool, q = true ↔ GoodS (unw l) := by classical exact ⟨decide (GoodS (unw l)), by simp⟩
    have hul : (unw l).length = n := by rw [unw_len, hn]
    have CG := hide (fun a cap wx hs => goodSamples_any a (unw l) n cap wx hul hs hn2 q hqq)
    have HUL := hide hul
    subst hq
    cases hq2 : q with
    | false =>
      have HR := hide (show r = none by rw [hr]; unfold unR; rw [if_neg (fun h => by have := hqq.2 h.2; rw [hq2] at this; cases this)])
      subst hq2
      clear hc hr hs hn hqq hct hul
      go_enter Try.func11, Try.ntmps11
      go_wp2_with fail
      refine CO.out.mono ?_
      rintro e w1 ⟨rfl, hb1⟩
      have B1 := hide hb1
      clear hb1
      go_wp2_with fail
      refine (CU.out _ (HS.out.below B1.out)).mono ?_
      rintro e w2 ⟨v, rfl, ho, hb2⟩
      have B2 := hide (B1.out.trans (hb2.mono B1.out.size))
      obtain ⟨va, vc, rfl, hsl, _⟩ := own_form2 ho
      have S2 := hide hsl
      clear ho hb2 hsl
      go_wp2_with fail
      refine (CG.out _ _ _ S2.out).mono ?_
      rintro e w3 ⟨rfl, hb3⟩
      have B3 := hide (B2.out.trans (hb3.mono B2.out.size))
      clear hb3
      go_wp2
      go_ret2
      exact retS_none HR.out B3.out
    | true =>
      have HR := hide (show r = some (unw l) by rw [hr]; unfold unR; rw [if_pos ⟨hct, hqq.1 hq2⟩])
      subst hq2
      clear hc hr hs hn hqq hct hul
      go_enter Try.func11, Try.ntmps11
      go_wp2_with fail
      refine CO.out.mono ?_
      rintro e w1 ⟨rfl, hb1⟩
      have B1 := hide hb1
      clear hb1
      go_wp2_with fail
      refine (CU.out _ (HS.out.below B1.out)).mono ?_
      rintro e w2 ⟨v, rfl, ho, hb2⟩
      have B2 := hide (B1.out.trans (hb2.mono B1.out.size))
      obtain ⟨va, vc, rfl, hsl, _⟩ := own_form2 ho
      have S2 := hide hsl
      have O2 := hide (own_baseS16 ho B1.out.size)
      clear ho hb2 hsl
      go_wp2_with fail
      refine (CG.out _ _ _ S2.out).mono ?_
      rintro e w3 ⟨rfl, hb3⟩
      have B3 := hide (B2.out.trans (hb3.mono B2.out.size))
      have O3 := hide (own_below2 O2.out hb3)
      clear hb3
      go_wp2
      go_ret2
      exact ⟨_, by rw [HR.out]; rfl, by rw [HR.out]; simp only [Option.getD_some]; rw [HUL.out]; exact O3.out, B3.out⟩
end Go.Proofs.Yticgejaaoamhmap.L16
