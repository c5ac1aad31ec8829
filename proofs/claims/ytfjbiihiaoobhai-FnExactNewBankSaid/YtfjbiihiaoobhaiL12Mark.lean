/-
  Contract of the laws' own helper laws.markBank: all that a bank owns is written over.
-/
import Derived.Test.YtfjbiihiaoobhaiL12MarkD
import Derived.Test.YtfjbiihiaoobhaiL12MarkS
import Derived.Deep.DeepCutAuto
namespace Go.Proofs.Ytfjbiihiaoobhai.L12
open Go.RowKit L1 L4 L9 Own Sli
set_option linter.unusedVariables false

set_option maxRecDepth 100000 in
set_option maxHeartbeats 4000000 in
theorem markBank_bw (S : Nat → Prop) (v : Vs) (aC : Option Addr) (nC cC : Nat) (aW : Option Addr) (nW cW : Nat) (aK : Option Addr) (nK cK : Nat) (aH : Option Addr) (nH cH : Nat) (aF : Option Addr) (nF cF : Nat) (m : Bk) (w : World) (hC : m.c.length = nC) (hWl : m.W.length = nW) (hK : m.k.length = nK) (hHl : m.H.length = nH) (hFl : m.F.length = nF) (hz : SmB m) (hS : ∀ q, S q → q < w.heap.size) (f : Fits v aC nC cC aW nW cW aK nK cK aH nH cH aF nF cF) (hW : BW w S v m) :
    Calls Try.prog 24 #[bkV aC nC cC aW nW cW aK nK cK aH nH cH aF nF cF, .int .i64 1] w fun e w' => e = .returned (.int .i64 (mkt m nC nW nK nH nF)) ∧ BW w' S v (mkd m nC nW nK nH nF) ∧ Kept S w w' := by
  have z1 := hz.c
  have z3 := hz.k
  have zW := hz.W.p
  have zH := hz.H.p
  have zF := hz.F.p
  rw [hC] at z1
  rw [hK] at z3
  rw [hWl] at zW
  rw [hHl] at zH
  rw [hFl] at zF
  obtain ⟨pW, hpW⟩ : ∃ p, pre m.W nW = p := ⟨_, rfl⟩
  obtain ⟨pH, hpH⟩ : ∃ p, pre m.H nH = p := ⟨_, rfl⟩
  obtain ⟨pF, hpF⟩ : ∃ p, pre m.F nF = p := ⟨_, rfl⟩
  rw [hpW] at zW
  rw [hpH] at zH
  rw [hpF] at zF
  have BX := (Below.refl w.heap.size w).alloc (Nat.le_refl _) (bkO aC nC cC aW nW cW aK nK cK aH nH cH aF nF cF)
  have HX := hide (kept_below (S := S) BX)
  have nS : Hid (¬ S w.heap.size) := hide (fun h => by have := hS _ h; omega)
  have O0 := hide (hW.below BX)
  have G0 := hide (blk_newO w (bkO aC nC cC aW nW cW aK nK cK aH nH cH aF nF cF))
  have C1 := hide (fun wx (h : BW wx S v m) => markIntS_from 0 (.slice aC nC cC) m.c nC wx 1 (by omega) (by omega) (by omega) (by
    have h2 : wx.ownsRow 0 3 1 v.c m.c.length (m.c.map (Value.int .i64)) := h.r .c
    rw [hC, f.c] at h2
    exact h2))
  have C2 := hide (fun wx (h : BW wx S v (⟨mkC 1 nC, m.W, m.k, m.H, m.F⟩ : Bk)) => mark_W S v aW nW cW (1 + (nC : Int)) (⟨mkC 1 nC, m.W, m.k, m.H, m.F⟩ : Bk) wx f.W hWl (by omega) (by omega) hz.W h)
  have C3 := hide (fun wx (h : BW wx S v (⟨mkC 1 nC, mkUp mkC (1 + (nC : Int)) m.W nW, m.k, m.H, m.F⟩ : Bk)) => markIntS_from 0 (.slice aK nK cK) m.k nK wx (1 + (nC : Int) + (pW : Int)) (by omega) (by omega) (by omega) (by
    have h2 : wx.ownsRow 0 3 1 v.k m.k.length (m.k.map (Value.int .i64)) := h.r .k
    rw [hK, f.k] at h2
    exact h2))
  have C4 := hide (fun wx (h : BW wx S v (⟨mkC 1 nC, mkUp mkC (1 + (nC : Int)) m.W nW, mkC (1 + (nC : Int) + (pW : Int)) nK, m.H, m.F⟩ : Bk)) => mark_H S v aH nH cH (1 + (nC : Int) + (pW : Int) + (nK : Int)) (⟨mkC 1 nC, mkUp mkC (1 + (nC : Int)) m.W nW, mkC (1 + (nC : Int) + (pW : Int)) nK, m.H, m.F⟩ : Bk) wx f.H hHl (by omega) (by omega) hz.H h)
  have C5 := hide (fun wx (h : BW wx S v (⟨mkC 1 nC, mkUp mkC (1 + (nC : Int)) m.W nW, mkC (1 + (nC : Int) + (pW : Int)) nK, mkUp mkB (1 + (nC : Int) + (pW : Int) + (nK : Int)) m.H nH, m.F⟩ : Bk)) => mark_F S v aF nF cF (1 + (nC : Int) + (pW : Int) + (nK : Int) + (pH : Int)) (⟨mkC 1 nC, mkUp mkC (1 + (nC : Int)) m.W nW, mkC (1 + (nC : Int) + (pW : Int)) nK, mkUp mkB (1 + (nC : Int) + (pW : Int) + (nK : Int)) m.H nH, m.F⟩ : Bk) wx f.F hFl (by omega) (by omega) hz.F h)
  have U1 : Hid (∀ wx wy, BW wx S v m → wy.ownsRow 0 3 1 (.slice aC nC cC) nC ((mkC 1 nC).map (Value.int .i64)) → wx.grownBy wy (Value.slice aC nC cC).ownBlock → BW wy S v (⟨mkC 1 nC, m.W, m.k, m.H, m.F⟩ : Bk)) := hide (fun wx wy h ho hg => by
    have := h.over .c trivial (mkC 1 nC) (by rw [mkC_len]; show wy.ownsRow 0 3 1 v.c nC _; rw [f.c]; exact ho) (by show wx.grownBy wy v.c.ownBlock; rw [f.c]; exact hg)
    exact this)
  have U3 : Hid (∀ wx wy, BW wx S v (⟨mkC 1 nC, mkUp mkC (1 + (nC : Int)) m.W nW, m.k, m.H, m.F⟩ : Bk) → wy.ownsRow 0 3 1 (.slice aK nK cK) nK ((mkC (1 + (nC : Int) + (pW : Int)) nK).map (Value.int .i64)) → wx.grownBy wy (Value.slice aK nK cK).ownBlock → BW wy S v (⟨mkC 1 nC, mkUp mkC (1 + (nC : Int)) m.W nW, mkC (1 + (nC : Int) + (pW : Int)) nK, m.H, m.F⟩ : Bk)) := hide (fun wx wy h ho hg => by
    have := h.over .k trivial (mkC (1 + (nC : Int) + (pW : Int)) nK) (by rw [mkC_len]; show wy.ownsRow 0 3 1 v.k nK _; rw [f.k]; exact ho) (by show wx.grownBy wy v.k.ownBlock; rw [f.k]; exact hg)
    exact this)
  have IS1 : Hid (∀ q, (Value.slice aC nC cC).ownBlock = some q → S q) := hide (fun q e => hW.sr .c q (by show v.c.ownBlock = some q; rw [f.c]; exact e))
  have IS3 : Hid (∀ q, (Value.slice aK nK cK).ownBlock = some q → S q) := hide (fun q e => hW.sr .k q (by show v.k.ownBlock = some q; rw [f.k]; exact e))
  have HLT : Hid (w.heap.size < (w.alloc (bkO aC nC cC aW nW cW aK nK cK aH nH cH aF nF cF)).heap.size) := hide (by simp)
  have PW := hide hpW
  have PH := hide hpH
  have PF := hide hpF
  rw [show pre ((⟨mkC 1 nC, m.W, m.k, m.H, m.F⟩ : Bk)).W nW = pW from hpW] at C2
  rw [show pre ((⟨mkC 1 nC, mkUp mkC (1 + (nC : Int)) m.W nW, mkC (1 + (nC : Int) + (pW : Int)) nK, m.H, m.F⟩ : Bk)).H nH = pH from hpH] at C4
  rw [show pre ((⟨mkC 1 nC, mkUp mkC (1 + (nC : Int)) m.W nW, mkC (1 + (nC : Int) + (pW : Int)) nK, mkUp mkB (1 + (nC : Int) + (pW : Int) + (nK : Int)) m.H nH, m.F⟩ : Bk)).F nF = pF from hpF] at C5
  obtain ⟨W0, hW0⟩ : ∃ W0, w.alloc (bkO aC nC cC aW nW cW aK nK cK aH nH cH aF nF cF) = W0 := ⟨_, rfl⟩
  rw [hW0] at O0 G0 HX HLT
  have HW0 := hide hW0
  clear hW0 hW BX hS hz hC hWl hK hHl hFl hpW hpH hpF f
  obtain ⟨y0, y1, y2, y3, y4⟩ := blk5 G0.out
  go_enter Try.func24, Try.ntmps24
  go_upto_region 1 with fail
  rw [HW0.out]
  clear HW0
  go_wp2_with fail
  refine (C1.out _ O0.out).mono ?_
  rintro e w1 ⟨rfl, ho, _, hg⟩
  have O1 := hide (U1.out _ _ O0.out ho hg)
  have hk := kept_grown (S := S) hg (fun q e => IS1.out q e)
  clear ho hg
  have G1 := hide ((hk.block w.heap.size (Array.getElem?_eq_some_iff.1 G0.out).1 nS.out).trans G0.out)
  have K1_ := hide (HX.out.trans hk (fun q _ h => h))
  clear hk y0 y1 y2 y3 y4
  obtain ⟨y0, y1, y2, y3, y4⟩ := blk5 G1.out
  go_wp2_with fail
  refine (C2.out _ O1.out).mono ?_
  rintro e w2 ⟨rfl, hw, hk⟩
  have O2 := hide hw
  clear hw
  have G2 := hide ((hk.block w.heap.size (Array.getElem?_eq_some_iff.1 G1.out).1 nS.out).trans G1.out)
  have K2_ := hide (K1_.out.trans hk (fun q _ h => h))
  clear hk y0 y1 y2 y3 y4
  obtain ⟨y0, y1, y2, y3, y4⟩ := blk5 G2.out
  go_wp2_with fail
  refine (C3.out _ O2.out).mono ?_
  rintro e w3 ⟨rfl, ho, _, hg⟩
  have O3 := hide (U3.out _ _ O2.out ho hg)
  have hk := kept_grown (S := S) hg (fun q e => IS3.out q e)
  clear ho hg
  have G3 := hide ((hk.block w.heap.size (Array.getElem?_eq_some_iff.1 G2.out).1 nS.out).trans G2.out)
  have K3_ := hide (K2_.out.trans hk (fun q _ h => h))
  clear hk y0 y1 y2 y3 y4
  obtain ⟨y0, y1, y2, y3, y4⟩ := blk5 G3.out
  go_wp2_with fail
  refine (C4.out _ O3.out).mono ?_
  rintro e w4 ⟨rfl, hw, hk⟩
  have O4 := hide hw
  clear hw
  have G4 := hide ((hk.block w.heap.size (Array.getElem?_eq_some_iff.1 G3.out).1 nS.out).trans G3.out)
  have K4_ := hide (K3_.out.trans hk (fun q _ h => h))
  clear hk y0 y1 y2 y3 y4
  obtain ⟨y0, y1, y2, y3, y4⟩ := blk5 G4.out
  go_wp2_with fail
  refine (C5.out _ O4.out).mono ?_
  rintro e w5 ⟨rfl, hw, hk⟩
  have O5 := hide hw
  clear hw
  have G5 := hide ((hk.block w.heap.size (Array.getElem?_eq_some_iff.1 G4.out).1 nS.out).trans G4.out)
  have K5_ := hide (K4_.out.trans hk (fun q _ h => h))
  clear hk y0 y1 y2 y3 y4
  obtain ⟨y0, y1, y2, y3, y4⟩ := blk5 G5.out
  go_wp2
  go_ret
  refine ⟨?_, ?_, K5_.out⟩
  · unfold mkt
    rw [PW.out, PH.out, PF.out]
    rfl
  · unfold mkd
    rw [PW.out, PH.out]
    exact O5.out
end Go.Proofs.Ytfjbiihiaoobhai.L12
