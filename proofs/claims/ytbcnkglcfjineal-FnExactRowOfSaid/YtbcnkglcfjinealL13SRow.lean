/-
  Contract: spec.RowOf.
-/
import Derived.Test.YtbcnkglcfjinealL13RowM
import Derived.Test.YtbcnkglcfjinealL13SGood
import Derived.Test.YtbcnkglcfjinealL13App
import Derived.Deep.DeepCutAuto
namespace Go.Proofs.Ytbcnkglcfjineal.L13
open Go.RowKit L1
set_option linter.unusedVariables false

theorem own_emptyS (w : World) (base : Nat) (hb : base ≤ w.heap.size) : (w.alloc (.cells #[] 51 (0, 0))).ownsRow base 51 2 (.slice (some ⟨w.heap.size, 0, none⟩) 0 0) 0 [] :=
  ⟨rfl, .inr ⟨w.heap.size, 0, #[], rfl, hb, L8.blk_new _ _, Nat.le_refl _, by unfold maxLen; omega, rfl, rfl⟩⟩
set_option maxRecDepth 100000 in
set_option maxHeartbeats 4000000 in
theorem specRowOf_any (a : Option Addr) (L : List Rw) (n cap : Nat) (B : Int) (nm : ByteArray) (w : World) (hn : L.length = n) (hm : n ≤ 1048576) (hs : SlR w a L) (hst : TxR L) (hlx : ∀ j, j < L.length → (gr L j).l.length ≤ 1048576) (r : List (Int × Int)) (ok : Bool) (hr : RowIs L B nm r ok) :
    Calls Try.prog 6 #[.agg #[.slice a n cap, .int .i64 B], .string nm] w fun e w' => ∃ v, e = .returned (.tuple #[v, .bool ok]) ∧ RS w w' v r := by
  obtain ⟨bg, hbg⟩ := boolP (GoodH L B)
  have CG := hide (fun w hs => specGoodHead_any a L n cap B w hn hm hs hst hlx bg hbg)
  have HS := hide hs
  cases bg with
  | false =>
    obtain ⟨rfl, rfl⟩ : r = [] ∧ ok = false := by
      cases hr with
      | bad h => exact ⟨rfl, rfl⟩
      | none h _ => exact absurd (hbg.2 h) (by simp)
      | some h _ _ _ => exact absurd (hbg.2 h) (by simp)
    clear hbg hr hs hst hlx hn
    go_enter Try.func6, Try.ntmps6
    go_wp2_with fail
    refine (CG.out _ (HS.out.below ((Below.refl _ _).alloc (Nat.le_refl _) _))).mono ?_
    rintro e w1 ⟨rfl, hb⟩
    obtain ⟨k0, k1, _, _⟩ := blkp ((hb.block w.heap.size (by simp)).trans (L8.blk_new _ _))
    have B1 := hide (((Below.refl w.heap.size w).alloc (Nat.le_refl _) (.cells #[.slice a n cap, .int .i64 B] 31 (0, 0))).trans (hb.mono (by simp)))
    clear hb
    go_wp2
    go_ret2
    exact ⟨_, rfl, rs_nil B1.out⟩
  | true =>
    have hg : GoodH L B := hbg.1 rfl
    have HF : Hid (∀ k, k < L.length → (gr L k).nm = nm → ok = true ∧ r = (gr L k).l) := fun k hk e => by
      cases hr with
      | bad h => exact absurd hg h
      | none _ h => exact absurd e (h k hk)
      | some _ q hq hqn =>
        have := up_inj hg.2.2 hq hk (hqn.trans e.symm)
        subst this
        exact ⟨rfl, rfl⟩
    have HE : Hid ((∀ k, k < L.length → (gr L k).nm ≠ nm) → r = [] ∧ ok = false) := fun h => by
      cases hr with
      | bad h => exact absurd hg h
      | none _ _ => exact ⟨rfl, rfl⟩
      | some _ q hq hqn => exact absurd hqn (h q hq)
    have HN := hide hn
    have HLX := hide hlx
    clear hbg hr hs hst hlx hg hn
    go_enter Try.func6, Try.ntmps6
    go_wp2_with fail
    refine (CG.out _ (HS.out.below ((Below.refl _ _).alloc (Nat.le_refl _) _))).mono ?_
    rintro e w1 ⟨rfl, hb⟩
    obtain ⟨k0, k1, _, _⟩ := blkp ((hb.block w.heap.size (by simp)).trans (L8.blk_new _ _))
    have B1 := hide (((Below.refl w.heap.size w).alloc (Nat.le_refl _) (.cells #[.slice a n cap, .int .i64 B] 31 (0, 0))).trans (hb.mono (by simp)))
    clear hb
    have S1 := hide (HS.out.below B1.out)
    have HB := hide k0
    clear k1
    go_wp2
    go_loopw [14] (fun i wr => ∃ k : Nat, k ≤ n ∧ i = .int .i64 k ∧ Hid (∀ j, j < k → (gr L j).nm ≠ nm) ∧ Below w1.heap.size w1 wr) (fun i _ => n - (intOf i).toNat)
    case atStart => exact ⟨0, Nat.zero_le _, rfl, fun j hj => absurd hj (Nat.not_lt_zero _), Below.refl _ _⟩
    case round =>
      obtain ⟨k, hk, rfl, HJ, hbel⟩ := hrel
      by_cases hlt : k < n
      · have hkl : k < L.length := by rw [HN.out]; exact hlt
        obtain ⟨b, off, rfl, ai, ci, hat⟩ := S1.out.below hbel k hkl
        have hc := hat.s
        have hd := hat.x
        have hl := hat.l
        have hlx := HLX.out k hkl
        obtain ⟨p, hp⟩ : ∃ p, p = gr L k := ⟨_, rfl⟩
        rw [← hp] at hc hd hl hlx
        obtain ⟨x, l⟩ := p
        simp only at hc hd hl hlx
        obtain ⟨m, hm⟩ : ∃ m, m = l.length := ⟨_, rfl⟩
        rw [← hm] at hd hlx
        have hltI : (k : Int) < (n : Int) := by omega
        have HP := hide hp
        have HM := hide hm
        have HL := hide hl
        have BB := hide hbel
        clear hat hp hm hl hbel
        by_cases he : x = nm
        · have h1 := HF.out k hkl (by rw [← HP.out]; exact he)
          rw [← HP.out] at h1
          obtain ⟨rfl, hrr⟩ := h1
          simp only at hrr
          subst hrr
          have hq : (x.toList == nm.toList) = true := by rw [he]; simp
          clear he hkl
          go_upto_region 7 with fail
          refine wp_region_lit ?_
          refine wpList_build0S rfl rfl ?_
          simp only [Act.put, List.setIfInBounds_toArray, List.set_cons_zero, List.set_cons_succ]
          refine wpList_plain rfl fun K1 hK1 => ?_
          unfold Oper.wp execOp
          go_simp
          refine hK1 _ _ ?_
          clear hK1 K1
          refine wpList_plain rfl fun K1 hK1 => ?_
          unfold Oper.wp execOp
          go_simp
          refine hK1 _ _ ?_
          clear hK1 K1
          refine wpList_append_copyS rfl _ _ rfl (wr.heap.size + 1) (some ⟨wr.heap.size + 1, 0, none⟩) ai 0 m ci r HM.out.symm (by omega) rfl (by have := own_emptyS (wr.alloc (.cells #[.string x, .slice ai m ci] 44 (0, 0))) (wr.heap.size + 1) (by simp); rw [World.size_alloc] at this; exact this) rfl (HL.out.below (((Below.refl _ _).alloc (Nat.le_refl _) _).alloc (by simp) _)) (by simp) ?_
          intro a' c' w6 h6 g6 hat6
          have hal := ((Below.refl wr.heap.size wr).alloc (Nat.le_refl _) (.cells #[.string x, .slice ai m ci] 44 (0, 0))).alloc (by simp) (.cells #[] 51 (0, 0))
          have B6 := hide ((B1.out.trans (BB.out.mono B1.out.size)).trans ((hal.grown g6 (by simp; omega) (fun q hq => by simp [Value.ownBlock] at hq; omega)).mono (Nat.le_trans B1.out.size BB.out.size)))
          have O6 := hide (own_baseR h6 (Nat.le_trans (Nat.le_trans B1.out.size BB.out.size) (Nat.le_succ _)))
          clear h6 g6 hat6 hal
          go_wp2
          go_ret2
          refine ⟨_, rfl, ?_, B6.out⟩
          rw [← HM.out]
          exact O6.out
        · have hq : (x.toList == nm.toList) = false := by
            simp only [beq_eq_false_iff_ne, ne_eq]
            intro h
            apply he
            apply ByteArray.ext
            apply Array.toList_inj.1
            rw [← ByteArray.toList_eq, ← ByteArray.toList_eq, h]
          have HE2 := hide he
          clear he hkl
          go_wp2
          go_roundw
          case rel => exact ⟨k + 1, by omega, by go_num, fun j hj => (by
            by_cases e : j = k
            · subst e; rw [← HP.out]; exact HE2.out
            · exact HJ.out j (by omega)), BB.out.alloc BB.out.size _⟩
          case measure => simp [intOf]; omega
      · have h1 := HE.out (fun j hj => HJ.out j (by rw [HN.out] at hj; omega))
        obtain ⟨rfl, rfl⟩ := h1
        have hltI : ¬ (k : Int) < (n : Int) := by omega
        have B6 := hide (B1.out.trans (hbel.mono B1.out.size))
        clear hbel
        go_wp2
        go_ret2
        exact ⟨_, rfl, rs_nil B6.out⟩
end Go.Proofs.Ytbcnkglcfjineal.L13
