/-
  Contract: impl.RowOf.
-/
import Derived.Test.YtbcnkglcfjinealL13RowM
import Derived.Test.YtbcnkglcfjinealL13Good
import Derived.Test.YtbcnkglcfjinealL13Find
import Derived.Test.YtbcnkglcfjinealL13Copy
namespace Go.Proofs.Ytbcnkglcfjineal.L13
open Go.RowKit L1
set_option linter.unusedVariables false

set_option maxRecDepth 100000 in
set_option maxHeartbeats 2000000 in
theorem implRowOf_any (a : Option Addr) (L : List Rw) (n cap : Nat) (B : Int) (nm : ByteArray) (w : World) (hn : L.length = n) (hm : n ≤ 1048576) (hs : SlR w a L) (hst : TxR L) (hlx : ∀ j, j < L.length → (gr L j).l.length ≤ 1048576) (r : List (Int × Int)) (ok : Bool) (hr : RowIs L B nm r ok) :
    Calls Try.prog 8 #[.agg #[.slice a n cap, .int .i64 B], .string nm] w fun e w' => ∃ v, e = .returned (.tuple #[v, .bool ok]) ∧ RS w w' v r := by
  obtain ⟨bg, hbg⟩ := boolP (GoodH L B)
  have CG := hide (fun w hs => implGoodHead_any a L n cap B w hn hm hs hst hlx bg hbg)
  have HS := hide hs
  cases bg with
  | false =>
    obtain ⟨rfl, rfl⟩ : r = [] ∧ ok = false := by
      cases hr with
      | bad h => exact ⟨rfl, rfl⟩
      | none h _ => exact absurd (hbg.2 h) (by simp)
      | some h _ _ _ => exact absurd (hbg.2 h) (by simp)
    clear hbg hr hs hst hlx hn
    go_enter Try.func8, Try.ntmps8
    go_wp2_with fail
    refine (CG.out _ (HS.out.below ((Below.refl _ _).alloc (Nat.le_refl _) _))).mono ?_
    rintro e w1 ⟨rfl, hb⟩
    obtain ⟨k0, k1, _, _⟩ := blkp ((hb.block w.heap.size (by simp)).trans (L8.blk_new _ _))
    have B1 := hide (((Below.refl w.heap.size w).alloc (Nat.le_refl _) (.cells #[.slice a n cap, .int .i64 B] 31 (0, 0))).trans (hb.mono (by simp)))
    clear hb
    go_wp2
    go_ret2
    exact ⟨_, rfl, rs_nil B1.out⟩
  | true =>
    have hg : GoodH L B := hbg.1 rfl
    have CF := hide (fun w hs => findRow_any a L n cap nm w hn hm hs)
    have HF : Hid (∀ k f, Fnd L nm k f → (f = false → r = [] ∧ ok = false) ∧ (f = true → ok = true ∧ r = (gr L k).l)) := fun k f hf => by
      refine ⟨fun e => ?_, fun e => ?_⟩
      · cases hr with
        | bad h => exact absurd hg h
        | none _ _ => exact ⟨rfl, rfl⟩
        | some _ q hq hqn =>
          exfalso
          have h3 := hf.le
          by_cases h1 : q < k
          · exact ahead_ne (hf.pre q h1) hqn
          · have h2 := hf.no e (by omega)
            by_cases h4 : q = k
            · subst h4
              exact ahead_ne h2 hqn.symm
            · have h5 := up_lt hg.2.2 k q (by omega) hq
              have h6 : L3.Ahead nm (gr L q).nm := L3.bl_trans _ _ _ h2 h5
              exact ahead_ne h6 hqn.symm
      · obtain ⟨y1, y2⟩ := hf.yes e
        cases hr with
        | bad h => exact absurd hg h
        | none _ h => exact absurd y2 (h k y1)
        | some _ q hq hqn =>
          have := up_inj hg.2.2 hq y1 (hqn.trans y2.symm)
          subst this
          exact ⟨rfl, rfl⟩
    have HN := hide hn
    have HLX := hide hlx
    clear hbg hr hs hst hlx hg hn
    go_enter Try.func8, Try.ntmps8
    go_wp2_with fail
    refine (CG.out _ (HS.out.below ((Below.refl _ _).alloc (Nat.le_refl _) _))).mono ?_
    rintro e w1 ⟨rfl, hb⟩
    obtain ⟨k0, k1, _, _⟩ := blkp ((hb.block w.heap.size (by simp)).trans (L8.blk_new _ _))
    have B1 := hide (((Below.refl w.heap.size w).alloc (Nat.le_refl _) (.cells #[.slice a n cap, .int .i64 B] 31 (0, 0))).trans (hb.mono (by simp)))
    clear hb
    go_wp2_with fail
    refine (CF.out _ (HS.out.below B1.out)).mono ?_
    rintro e w2 ⟨k, f, rfl, hf, rfl⟩
    have hk := hf.yes
    have hh := HF.out k f hf
    clear hf HF
    cases f with
    | false =>
      obtain ⟨rfl, rfl⟩ := hh.1 rfl
      clear hh hk
      go_wp2
      go_ret2
      exact ⟨_, rfl, rs_nil B1.out⟩
    | true =>
      obtain ⟨rfl, hrr⟩ := hh.2 rfl
      obtain ⟨hkl, _⟩ := hk rfl
      obtain ⟨b, off, rfl, ai, ci, hat⟩ := HS.out.below B1.out k hkl
      have hc := hat.x
      have hl := hat.l
      have hlx := HLX.out k hkl
      rw [← hrr] at hc hl hlx
      obtain ⟨m, hm⟩ : ∃ m, m = r.length := ⟨_, rfl⟩
      rw [← hm] at hc hlx
      have hltI : (k : Int) < (n : Int) := by have := HN.out; omega
      have hk0 : (0 : Int) ≤ (k : Int) := by omega
      have CC := hide (copySamples_any ai r m ci w1 hm.symm hlx hl)
      have HM := hide hm
      clear hat hl hh hk hrr hkl hm hlx
      go_wp2_with fail
      refine CC.out.mono ?_
      rintro e w2 ⟨a2, c2, rfl, ho, hb⟩
      have B2 := hide (B1.out.trans (hb.mono B1.out.size))
      have O2 := hide (own_baseR ho B1.out.size)
      clear ho hb
      go_wp2
      go_ret2
      refine ⟨_, rfl, ?_, B2.out⟩
      rw [← HM.out]
      exact O2.out
end Go.Proofs.Ytbcnkglcfjineal.L13
