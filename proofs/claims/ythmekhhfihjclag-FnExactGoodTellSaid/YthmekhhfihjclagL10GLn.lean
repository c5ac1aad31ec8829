/-
  Contracts: impl.goodNote, impl.goodLine.
-/
import Derived.Test.YthmekhhfihjclagL10GTx
import Derived.Test.YthmekhhfihjclagEqI
import Derived.Deep.QuietTactic
import Derived.BigQuiet
import Derived.Deep.DeepCutAuto
namespace Go.Proofs.Ythmekhhfihjclag.L10
open Go.RowKit L1 Own Str Nte Tri
set_option linter.unusedVariables false

set_option maxRecDepth 100000 in
set_option maxHeartbeats 4000000 in
theorem goodNote_any (aT : Option Addr) (nT cT : Nat) (aH : Option Addr) (nH cH : Nat) (aL : Option Addr) (nL cL : Nat) (aG : Option Addr) (nG cG : Nat) (aN : Option Addr) (nN cN : Nat) (m : Tm) (w : World) (hz : TlZ m nT nH nL nG nN) (hF : TlF w aT aH aL aG aN m) (b : Bool) (who no : Int) (t : ByteArray) (bb : Bool) (hbb : bb = true ↔ okN m (b, who, no, t)) :
    Calls Try.prog 85 #[tlV aT nT cT aH nH cH aL nL cL aG nG cG aN nN cN, .agg #[.bool b, .int .i64 who, .int .i64 no, .string t]] w fun e w' => e = .returned (.bool bb) ∧ Below w.heap.size w w' := by
  obtain ⟨W0, hW0⟩ : ∃ W0, (w.alloc (tlO aT nT cT aH nH cH aL nL cL aG nG cG aN nN cN)).alloc (.cells #[.bool b, .int .i64 who, .int .i64 no, .string t] 77 (0, 0)) = W0 := ⟨_, rfl⟩
  have BX : Hid (Below w.heap.size w W0) := by rw [← hW0]; exact hide (((Below.refl _ _).alloc (Nat.le_refl _) _).alloc (by simp) _)
  have g0 : W0.heap[w.heap.size]? = some (tlO aT nT cT aH nH cH aL nL cL aG nG cG aN nN cN) := by
    rw [← hW0]
    exact (((Below.refl (w.alloc (tlO aT nT cT aH nH cH aL nL cL aG nG cG aN nN cN)).heap.size _).alloc (Nat.le_refl _) _).block w.heap.size (by simp)).trans (blk_newO _ _)
  have h0 : W0.heap[w.heap.size + 1]? = some (.cells #[.bool b, .int .i64 who, .int .i64 no, .string t] 77 (0, 0)) := by
    rw [← hW0]
    have := blk_newO (w.alloc (tlO aT nT cT aH nH cH aL nL cL aG nG cG aN nN cN)) (.cells #[.bool b, .int .i64 who, .int .i64 no, .string t] 77 (0, 0))
    rw [World.size_alloc] at this
    exact this
  have F0 := hide (hF.below BX.out)
  have HW := hide hW0
  obtain ⟨k0, k1, k2, k3, k4⟩ := blk5 g0
  have j0 : W0.cell? ⟨w.heap.size + 1, 0, none⟩ = some (.bool b) := by simp [World.cell?, h0]
  have j1 : W0.cell? ⟨w.heap.size + 1, 1, none⟩ = some (.int .i64 who) := by simp [World.cell?, h0]
  have j2 : W0.cell? ⟨w.heap.size + 1, 2, none⟩ = some (.int .i64 no) := by simp [World.cell?, h0]
  have j3 : W0.cell? ⟨w.heap.size + 1, 3, none⟩ = some (.string t) := by simp [World.cell?, h0]
  have HBB := hide hbb
  have HZ := hide hz
  have bN : nN ≤ 1048576 := hz.bn
  clear hW0 g0 h0 hbb hz hF
  cases b with
  | false =>
    have CT := hide (fun bt hbt => isTold_any aT nT cT aH nH cH aL nL cL aG nG cG aN nN cN m W0 HZ.out F0.out who no t bt hbt)
    have E : Hid (bb = true ↔ isTo m (who, no, t)) := HBB.out.trans ⟨fun h => h.2 rfl, fun h => ⟨fun e => (by cases e), fun _ => h⟩⟩
    go_enter Try.func85, Try.ntmps85
    go_upto_region 1 with fail
    rw [HW.out]
    go_wp2_with fail
    refine (CT.out bb E.out).mono ?_
    rintro e w1 ⟨rfl, hb⟩
    have B1 := hide (BX.out.trans (hb.mono BX.out.size))
    clear hb
    go_wp2
    go_ret
    exact ⟨rfl, B1.out⟩
  | true =>
    have E0 : Hid (bb = true ↔ okB m (who, no, t)) := HBB.out.trans ⟨fun h => h.1 rfl, fun h => ⟨fun _ => h, fun e => (by cases e)⟩⟩
    clear HBB
    by_cases hw : 0 ≤ who ∧ who < (nN : Int)
    · obtain ⟨u, hu⟩ : ∃ u : Nat, (u : Int) = who := ⟨who.toNat, by omega⟩
      subst hu
      have hu0 : (0 : Int) ≤ (u : Int) := by omega
      have hu1 : (u : Int) < (nN : Int) := hw.2
      have C1 := hide (fun wx => isBelow_any (u : Int) (nN : Int) wx true (by simp only [true_iff]; exact ⟨hu0, hu1⟩))
      obtain ⟨xb, xo, ea, hx⟩ := F0.out.n u (by rw [HZ.out.n]; omega)
      subst ea
      obtain ⟨x, hxx⟩ : ∃ x, x = m.nx.getD u 0 := ⟨_, rfl⟩
      rw [← hxx] at hx
      have HX := hide hxx
      clear hxx hw
      by_cases n0 : 0 ≤ no
      · by_cases n1 : no ≤ x
        · by_cases e : t = e0
          · subst e
            have f1 : (e0.toList == e0.toList) = true := by simp
            have E : Hid (bb = true) := E0.out.2 ⟨hu0, by rw [HZ.out.n]; exact hu1, n0, by show no ≤ m.nx.getD (u : Int).toNat 0; rw [Int.toNat_natCast, ← HX.out]; exact n1, rfl⟩
            go_enter Try.func85, Try.ntmps85
            go_upto_region 1 with fail
            rw [HW.out]
            go_wp2
            go_quiet (fail)
            go_wp2_with fail
            refine (C1.out _).mono ?_
            rintro e w1 ⟨rfl, rfl⟩
            go_wp2
            go_ret
            exact ⟨by rw [E.out]; rfl, below_drewO BX.out _⟩
          · have f1 : (t.toList == ByteArray.toList ⟨#[]⟩) = false := text_ne10 e
            have f2 : t.toList.isEmpty = false := by
              have h := text_ne10 e
              have h3 : (ByteArray.empty).toList = [] := by rw [ByteArray.toList_eq]; rfl
              rw [show e0.toList = [] from h3] at h
              cases h4 : t.toList with
              | nil => rw [h4] at h; simp at h
              | cons a l => rfl
            have f3 : ¬ t.toList = [] := fun h4 => by rw [h4] at f2; cases f2
            have E : Hid (bb = false) := bool_no10 E0.out (fun h => e h.t)
            go_enter Try.func85, Try.ntmps85
            go_upto_region 1 with fail
            rw [HW.out]
            go_wp2
            go_quiet (fail)
            go_wp2_with fail
            refine (C1.out _).mono ?_
            rintro e w1 ⟨rfl, rfl⟩
            go_wp2
            go_ret
            exact ⟨by rw [E.out]; rfl, below_drewO BX.out _⟩
        · have E : Hid (bb = false) := bool_no10 E0.out (fun h => n1 (by have h1 := h.n1; simp only [Int.toNat_natCast] at h1; rw [HX.out]; exact h1))
          go_enter Try.func85, Try.ntmps85
          go_upto_region 1 with fail
          rw [HW.out]
          go_wp2
          go_quiet (fail)
          go_wp2_with fail
          refine (C1.out _).mono ?_
          rintro e w1 ⟨rfl, rfl⟩
          go_wp2
          go_ret
          exact ⟨by rw [E.out]; rfl, below_drewO BX.out _⟩
      · have E : Hid (bb = false) := bool_no10 E0.out (fun h => n0 h.n0)
        go_enter Try.func85, Try.ntmps85
        go_upto_region 1 with fail
        rw [HW.out]
        go_wp2
        go_quiet (fail)
        go_wp2_with fail
        refine (C1.out _).mono ?_
        rintro e w1 ⟨rfl, rfl⟩
        go_wp2
        go_ret
        exact ⟨by rw [E.out]; rfl, below_drewO BX.out _⟩
    · have C1 := hide (fun wx => isBelow_any who (nN : Int) wx false (by simp only [Bool.false_eq_true, false_iff]; exact hw))
      have E : Hid (bb = false) := bool_no10 E0.out (fun h => hw ⟨h.w0, by have h1 := h.w1; rw [HZ.out.n] at h1; exact h1⟩)
      clear hw
      go_enter Try.func85, Try.ntmps85
      go_upto_region 1 with fail
      rw [HW.out]
      go_wp2
      go_quiet (fail)
      go_wp2_with fail
      refine (C1.out _).mono ?_
      rintro e w1 ⟨rfl, rfl⟩
      go_wp2
      go_ret
      exact ⟨by rw [E.out]; rfl, below_drewO BX.out _⟩
set_option maxRecDepth 100000 in
set_option maxHeartbeats 4000000 in
theorem goodLine_any (aT : Option Addr) (nT cT : Nat) (aH : Option Addr) (nH cH : Nat) (aL : Option Addr) (nL cL : Nat) (aG : Option Addr) (nG cG : Nat) (aN : Option Addr) (nN cN : Nat) (m : Tm) (w : World) (hz : TlZ m nT nH nL nG nN) (hF : TlF w aT aH aL aG aN m) (bb : Bool) (hbb : bb = true ↔ GoodL m) :
    Calls Try.prog 51 #[tlV aT nT cT aH nH cH aL nL cL aG nG cG aN nN cN] w fun e w' => e = .returned (.bool bb) ∧ Below w.heap.size w w' := by
  have BX := (Below.refl w.heap.size w).alloc (Nat.le_refl _) (tlO aT nT cT aH nH cH aL nL cL aG nG cG aN nN cN)
  have g0 := blk_newO w (tlO aT nT cT aH nH cH aL nL cL aG nG cG aN nN cN)
  obtain ⟨W0, hW0⟩ : ∃ W0, W0 = w.alloc (tlO aT nT cT aH nH cH aL nL cL aG nG cG aN nN cN) := ⟨_, rfl⟩
  rw [← hW0] at BX g0
  have HW := hide hW0
  have F0 := hide (hF.below BX)
  have HB := hide BX
  have HG := hide g0
  have HBB := hide hbb
  have HZ := hide hz
  have bL : nL ≤ 1048576 := hz.bl
  obtain ⟨k0, k1, k2, k3, k4⟩ := blk5 g0
  clear hW0 g0 hbb hz hF BX
  by_cases h30 : 30 < (nL : Int)
  · have E : Hid (bb = false) := bool_no10 HBB.out (fun h => by have := h.ll; have := HZ.out.l; omega)
    go_enter Try.func51, Try.ntmps51
    go_upto_region 1 with fail
    rw [← HW.out]
    go_wp2
    go_ret
    exact ⟨by rw [E.out]; rfl, HB.out⟩
  go_enter Try.func51, Try.ntmps51
  go_upto_region 1 with fail
  rw [← HW.out]
  go_wp2
  clear k0 k1 k2 k3 k4
  go_loopw [12] (fun i wr => ∃ k : Nat, k ≤ nL ∧ i = .int .i64 k ∧ Hid (∀ j, j < k → okN m (m.ln.getD j e4)) ∧ Hid (Below W0.heap.size W0 wr)) (fun i _ => nL - (intOf i).toNat)
  case atStart => exact ⟨0, Nat.zero_le _, rfl, fun j hj => absurd hj (Nat.not_lt_zero _), hide (Below.refl _ _)⟩
  case round =>
    obtain ⟨k, hk, rfl, HK, HR⟩ := hrel
    by_cases hlt : k < nL
    · obtain ⟨b, off, ea, p0, p1, p2, p3⟩ := F0.out.l k (by rw [HZ.out.l]; exact hlt)
      subst ea
      have q0 := (HR.out.cell (p := ⟨b, off + k * 4, none⟩) (blk_lt p0)).trans p0
      have q1 := (HR.out.cell (p := ⟨b, off + k * 4 + 1, none⟩) (blk_lt p1)).trans p1
      have q2 := (HR.out.cell (p := ⟨b, off + k * 4 + 2, none⟩) (blk_lt p2)).trans p2
      have q3 := (HR.out.cell (p := ⟨b, off + k * 4 + 3, none⟩) (blk_lt p3)).trans p3
      have hltI : (k : Int) < (nL : Int) := by omega
      obtain ⟨xb, hxb⟩ : ∃ x, x = (m.ln.getD k e4).1 := ⟨_, rfl⟩
      obtain ⟨xw, hxw⟩ : ∃ x, x = (m.ln.getD k e4).2.1 := ⟨_, rfl⟩
      obtain ⟨xn, hxn⟩ : ∃ x, x = (m.ln.getD k e4).2.2.1 := ⟨_, rfl⟩
      obtain ⟨xt, hxt⟩ : ∃ x, x = (m.ln.getD k e4).2.2.2 := ⟨_, rfl⟩
      rw [← hxb] at q0
      rw [← hxw] at q1
      rw [← hxn] at q2
      rw [← hxt] at q3
      have HX : Hid (m.ln.getD k e4 = (xb, xw, xn, xt)) := by show _ = _; rw [hxb, hxw, hxn, hxt]
      obtain ⟨bk, hbk⟩ := dec_ex (okN m (xb, xw, xn, xt))
      have gr := (HR.out.block w.heap.size (Array.getElem?_eq_some_iff.1 HG.out).1).trans HG.out
      obtain ⟨r0, r1, r2, r3, r4⟩ := blk5 gr
      have A1 := (Below.refl wr.heap.size wr).alloc (Nat.le_refl _) (.cells #[.bool xb, .int .i64 xw, .int .i64 xn, .string xt] 77 (0, 0))
      have C := hide (fun wx (hb : Below wr.heap.size wr wx) => goodNote_any aT nT cT aH nH cH (some ⟨b, off, none⟩) nL cL aG nG cG aN nN cN m wx HZ.out ((F0.out.below HR.out).below hb) xb xw xn xt bk hbk)
      have HA := hide A1
      have HBK := hide hbk
      have s0 := (A1.cell (p := ⟨w.heap.size, 0, none⟩) (blk_lt r0)).trans r0
      have s1 := (A1.cell (p := ⟨w.heap.size, 1, none⟩) (blk_lt r1)).trans r1
      have s2 := (A1.cell (p := ⟨w.heap.size, 2, none⟩) (blk_lt r2)).trans r2
      have s3 := (A1.cell (p := ⟨w.heap.size, 3, none⟩) (blk_lt r3)).trans r3
      have s4 := (A1.cell (p := ⟨w.heap.size, 4, none⟩) (blk_lt r4)).trans r4
      clear p0 p1 p2 p3 hxb hxw hxn hxt gr hbk A1
      go_wp2_with fail
      refine (C.out _ HA.out).mono ?_
      rintro e w1 ⟨rfl, hb1⟩
      have B1 := hide (HR.out.trans ((HA.out.trans (hb1.mono HA.out.size)).mono HR.out.size))
      clear hb1 r0 r1 r2 r3 r4 s0 s1 s2 s3 s4
      cases bk with
      | false =>
        have E : Hid (bb = false) := bool_no10 HBB.out (fun h => by have h1 := h.l k (by rw [HZ.out.l]; exact hlt); rw [HX.out] at h1; have := HBK.out.2 h1; cases this)
        go_wp2
        go_ret
        exact ⟨by rw [E.out]; rfl, HB.out.trans (B1.out.mono HB.out.size)⟩
      | true =>
        have HK2 : Hid (∀ j, j < k + 1 → okN m (m.ln.getD j e4)) := fun j hj => by
          by_cases e : j = k
          · rw [e, HX.out]; exact HBK.out.1 (by first | rfl | trivial)
          · exact HK.out j (by omega)
        go_wp2
        go_roundw
        case rel => exact ⟨k + 1, by omega, by go_num, HK2.out, B1⟩
        case measure => simp [intOf]; omega
    · obtain rfl : k = nL := by omega
      have hltI : ¬ (k : Int) < (k : Int) := by omega
      have E : Hid (bb = true) := HBB.out.2 ⟨by have := HZ.out.l; omega, fun j hj => HK.out j (by have := HZ.out.l; omega)⟩
      go_wp2
      go_ret
      exact ⟨by rw [E.out]; rfl, HB.out.trans (HR.out.mono HB.out.size)⟩
end Go.Proofs.Ythmekhhfihjclag.L10
