/-
  Contract: spec.IsCut.
-/
import Derived.Test.YtkfnejiiancmhahL11Upto
import Derived.Test.YtkfnejiiancmhahL11SGood
namespace Go.Proofs.Ytkfnejiiancmhah.L11
open Go.RowKit L1 Own
set_option linter.unusedVariables false

theorem below_drewC {N : Nat} {w w' : World} (h : Below N w w') : ∀ q, Below N w (w'.drewN q)
  | 0 => h
  | q + 1 => (below_drewC h q).drew
set_option maxRecDepth 100000 in
set_option maxHeartbeats 4000000 in
theorem specIsCut_any (N : Int) (a u : Option Addr) (l : List (Int × Int)) (us : List Int) (n k cap ucap : Nat) (w : World) (hn : l.length = n) (hk : us.length = k) (hs : Sl2 w a l) (hu : Sl w u us) (hn2 : n ≤ 1048576) (hN : N ≤ 9223372036854775807) (hk2 : k ≤ 1048576) (c r : Bool) (hc : c = true ↔ CutOk N l us) (hr : r = true ↔ CutOk N l us ∧ ClS l (uI us)) :
    Calls Try.prog 30 #[.int .i64 N, .slice a n cap, .slice u k ucap] w fun e w' => e = .returned (.tuple #[.bool r, .bool c]) ∧ Below w.heap.size w w' := by
  have hrc : c = false → r = false := fun e => by
    subst e
    cases r with
    | false => rfl
    | true => exact absurd (hc.2 (hr.1 rfl).1) (by simp)
  by_cases hg : GoodV N l
  case neg =>
    have CG := hide (fun w hs => specGoodEvents_any N a l n cap w hn hs hn2 hN false (by simp [hg]))
    obtain rfl : c = false := by
      cases c with
      | false => rfl
      | true => exact absurd (hc.1 rfl) (fun h => hg h.1.1)
    obtain rfl := hrc rfl
    have HS := hide hs
    clear hg hc hr hrc hs hu hn hk
    go_enter Try.func30, Try.ntmps30
    go_wp2_with fail
    refine (CG.out _ HS.out).mono ?_
    rintro e w1 ⟨rfl, hb1⟩
    have B1 := hide hb1
    clear hb1
    go_wp2
    go_ret2
    exact ⟨rfl, B1.out⟩
  have CG := hide (fun w hs => specGoodEvents_any N a l n cap w hn hs hn2 hN true (by simp [hg]))
  obtain ⟨Nn, hNn⟩ : ∃ Nn : Nat, N = (Nn : Int) := ⟨N.toNat, by have := hg.1; omega⟩
  subst hNn
  have CU := hide (fun w hs hu => l11Upto_any Nn a u l us n k cap ucap w hn hk hs hu hk2 hg c hc)
  have HS := hide hs
  have HU := hide hu
  cases c with
  | false =>
    obtain rfl := hrc rfl
    clear hg hc hr hrc hs hu hn hk
    go_enter Try.func30, Try.ntmps30
    go_wp2_with fail
    refine (CG.out _ HS.out).mono ?_
    rintro e w1 ⟨rfl, hb1⟩
    have B1 := hide hb1
    clear hb1
    go_wp2_with fail
    refine (CU.out _ (HS.out.below B1.out) (HU.out.below B1.out)).mono ?_
    rintro e w2 ⟨rfl, hb2⟩
    have B2 := hide (B1.out.trans (hb2.mono B1.out.size))
    clear hb2
    go_wp2
    go_ret2
    exact ⟨rfl, B2.out⟩
  | true =>
    have hok := hc.1 rfl
    have CA := hide (fun w hs => l11At_any Nn a l n cap w hn hs hg)
    have hr2 : r = true ↔ ClS l (uI us) := hr.trans ⟨fun h => h.2, fun h => ⟨hok, h⟩⟩
    have hkN : k = Nn := by have := hok.1.2; omega
    have h40 : n ≤ 40 := by have := hg.2.2.1; omega
    have HG := hide hg
    have HN := hide hn
    have HK := hide hk
    have HR := hide hr2
    have HKN := hide hkN
    clear hg hc hr hrc hs hu hn hk hok hr2 hkN
    go_enter Try.func30, Try.ntmps30
    go_wp2_with fail
    refine (CG.out _ HS.out).mono ?_
    rintro e w1 ⟨rfl, hb1⟩
    have B1 := hide hb1
    clear hb1
    go_wp2_with fail
    refine (CU.out _ (HS.out.below B1.out) (HU.out.below B1.out)).mono ?_
    rintro e w2 ⟨rfl, hb2⟩
    have B2 := hide (B1.out.trans (hb2.mono B1.out.size))
    clear hb2 CU CG B1
    go_wp2_with fail
    refine (CA.out _ (HS.out.below B2.out)).mono ?_
    rintro e w3 ⟨v, rfl, ho, hb3⟩
    have B3 := hide (B2.out.trans (hb3.mono B2.out.size))
    obtain ⟨oa, ocap, rfl, hso, _⟩ := own_form ho
    have HO := hide hso
    clear hb3 ho hso CA B2
    go_wp2
    go_loopw [27] (fun i wr => ∃ k2 : Nat, k2 ≤ n ∧ i = .int .i64 k2 ∧ Hid (∀ j, j < k2 → cnt l (nd l j) (j + 1) ≤ uI us (nd l j) → 0 ≤ fr l j → cnt l (nd l (fr l j).toNat) ((fr l j).toNat + 1) ≤ uI us (nd l (fr l j).toNat)) ∧ Below w3.heap.size w3 wr) (fun i _ => n - (intOf i).toNat)
    case atStart => exact ⟨0, Nat.zero_le _, rfl, fun j hj => absurd hj (Nat.not_lt_zero _), Below.refl _ _⟩
    case round =>
      obtain ⟨k2, hk2', rfl, HJ, hbel⟩ := hrel
      by_cases hlt : k2 < n
      · have hv := HG.out.2.2.2 k2 (by rw [HN.out]; exact hlt)
        have hN5 := HG.out.2.1
        obtain ⟨xn, hx⟩ : ∃ xn : Nat, nd l k2 = (xn : Int) := ⟨(nd l k2).toNat, by have := hv.1; omega⟩
        have hxN : xn < Nn := by have := hv.2.1; omega
        have hsl := HS.out.below (B3.out.trans (hbel.mono B3.out.size))
        obtain ⟨b, off, rfl, q1, q2⟩ := hsl k2 (by rw [HN.out]; exact hlt)
        clear q1 q2
        obtain ⟨hc, hd⟩ := hsl.two k2 (by rw [HN.out]; exact hlt)
        rw [hx] at hc
        obtain ⟨y, hy⟩ : ∃ y, y = fr l k2 := ⟨_, rfl⟩
        rw [← hy] at hd
        obtain ⟨ob, oo, rfl, ha0⟩ := HO.out k2 (by rw [atL_len]; exact hlt)
        rw [atL_get l n k2 hlt] at ha0
        have ha1 := (hbel.cell (p := ⟨ob, oo + k2, none⟩) (blk_lt ha0)).trans ha0
        have hul := (HU.out.below B3.out).below hbel
        obtain ⟨ub, uo, rfl, hu1⟩ := hul xn (by rw [HK.out, HKN.out]; exact hxN)
        have hltI : (k2 : Int) < (n : Int) := by omega
        have hk20 : (0 : Int) ≤ (k2 : Int) := by omega
        have hxI : (xn : Int) < (k : Int) := by have := HKN.out; omega
        have hx0 : (0 : Int) ≤ (xn : Int) := by omega
        have hui : uI us (nd l k2) = us.getD xn 0 := by unfold uI; rw [hx]; rfl
        obtain ⟨ak, hak⟩ : ∃ ak, ak = cnt l (nd l k2) (k2 + 1) := ⟨_, rfl⟩
        obtain ⟨uk, huk⟩ : ∃ uk, uk = us.getD xn 0 := ⟨_, rfl⟩
        rw [← hak] at ha1
        rw [← huk] at hu1 hui
        have hone : (∀ j, j < k2 + 1 → cnt l (nd l j) (j + 1) ≤ uI us (nd l j) → 0 ≤ fr l j → cnt l (nd l (fr l j).toNat) ((fr l j).toNat + 1) ≤ uI us (nd l (fr l j).toNat)) ↔ (ak ≤ uk → 0 ≤ y → cnt l (nd l y.toNat) (y.toNat + 1) ≤ uI us (nd l y.toNat)) := by
          constructor
          · intro h; have h2 := h k2 (by omega); rw [← hak, hui, ← hy] at h2; exact h2
          · intro h j hj
            by_cases e : j = k2
            · subst e; rw [← hak, hui, ← hy]; exact h
            · exact HJ.out j (by omega)
        have hno : r = true → (ak ≤ uk → 0 ≤ y → cnt l (nd l y.toNat) (y.toNat + 1) ≤ uI us (nd l y.toNat)) := fun h => hone.1 (fun j hj => HR.out.1 h j (by rw [HN.out]; omega))
        have hyk : y < (k2 : Int) := by rw [hy]; exact hv.2.2.2.1
        have HONE := hide hone
        have HNO := hide hno
        have HSL := hide hsl
        have HUL := hide hul
        have HBL := hide hbel
        clear hx hv hsl hy ha0 hul hui hak huk hone hno hbel
        go_upto_region 7 with fail
        obtain ⟨V, hV⟩ : ∃ V, wr.alloc (.cells #[.int .i64 xn, .int .i64 y] 48) = V := ⟨_, rfl⟩
        have hbv : Below wr.heap.size wr V := by rw [← hV]; exact (Below.refl _ _).alloc (Nat.le_refl _) _
        have e0 : V.cell? ⟨wr.heap.size, 0, none⟩ = some (.int .i64 xn) := by rw [← hV]; simp
        have e1 : V.cell? ⟨wr.heap.size, 1, none⟩ = some (.int .i64 y) := by rw [← hV]; simp
        have ha2 := (hbv.cell (p := ⟨ob, oo + k2, none⟩) (blk_lt ha1)).trans ha1
        have hu2 := (hbv.cell (p := ⟨ub, uo + xn, none⟩) (blk_lt hu1)).trans hu1
        have BV := hide (HBL.out.trans (hbv.mono HBL.out.size))
        have HSV := hide (HSL.out.below hbv)
        have HUV := hide (HUL.out.below hbv)
        have HOV := hide (HO.out.below BV.out)
        rw [hV]
        obtain ⟨eb, heb⟩ : ∃ eb, eb = wr.heap.size := ⟨_, rfl⟩
        rw [← heb] at e0 e1 ⊢
        clear hV hbv heb ha1 hu1 hc hd HSL HUL HBL
        by_cases hle : ak ≤ uk
        case neg =>
          have HJ2 := hide (HONE.out.2 (fun h => absurd h hle))
          have hlb : decide (ak ≤ uk) = false := by simp; omega
          clear HONE HNO hle
          go_wp2
          go_quiet (fail)
          go_wp2
          go_roundw
          case rel => exact ⟨k2 + 1, by omega, by go_num, HJ2, below_drewC (BV.out) _⟩
          case measure => simp [intOf]; omega
        by_cases hy0 : 0 ≤ y
        case neg =>
          have HJ2 := hide (HONE.out.2 (fun _ h => absurd h hy0))
          have hyb : decide (0 ≤ y) = false := by simp; omega
          have hlb : decide (ak ≤ uk) = true := by simp; omega
          clear HONE HNO hy0 hle
          go_wp2
          go_quiet (fail)
          go_wp2
          go_roundw
          case rel => exact ⟨k2 + 1, by omega, by go_num, HJ2, below_drewC (BV.out) _⟩
          case measure => simp [intOf]; omega
        obtain ⟨f, hf⟩ : ∃ f : Nat, y = (f : Int) := ⟨y.toNat, by omega⟩
        subst hf
        have hfn : f < n := by omega
        have hft : (f : Int).toNat = f := rfl
        rw [hft] at HONE HNO
        have hvf := HG.out.2.2.2 f (by rw [HN.out]; exact hfn)
        obtain ⟨zn, hz⟩ : ∃ zn : Nat, nd l f = (zn : Int) := ⟨(nd l f).toNat, by have := hvf.1; omega⟩
        have hzN : zn < Nn := by have := hvf.2.1; omega
        have hz1 := (HSV.out.two f (by rw [HN.out]; exact hfn)).1
        rw [hz] at hz1
        have haf := HOV.out.at f (by rw [atL_len]; exact hfn)
        rw [atL_get l n f hfn] at haf
        have huz := HUV.out.at zn (by rw [HK.out, HKN.out]; exact hzN)
        have huiz : uI us (nd l f) = us.getD zn 0 := by unfold uI; rw [hz]; rfl
        rw [huiz] at HONE HNO
        obtain ⟨af, haf'⟩ : ∃ af, af = cnt l (nd l f) (f + 1) := ⟨_, rfl⟩
        obtain ⟨uz, huz'⟩ : ∃ uz, uz = us.getD zn 0 := ⟨_, rfl⟩
        rw [← haf'] at haf HONE HNO
        rw [← huz'] at huz HONE HNO
        have hfI : (f : Int) < (n : Int) := by omega
        have hf0 : (0 : Int) ≤ (f : Int) := by omega
        have hzI : (zn : Int) < (k : Int) := by have := HKN.out; omega
        have hz0 : (0 : Int) ≤ (zn : Int) := by omega
        clear hft hvf hz huiz haf' huz' hfn hzN hyk
        by_cases hgt : uz < af
        · have E : Hid (r = false) := by
            cases r with
            | false => rfl
            | true => have := HNO.out rfl hle hy0; omega
          clear HONE HNO
          go_wp2
          go_quiet (fail)
          go_wp2
          go_ret2
          exact ⟨by rw [E.out]; rfl, B3.out.trans ((below_drewC BV.out _).mono B3.out.size)⟩
        · have HJ2 := hide (HONE.out.2 (fun _ _ => by omega))
          clear HONE HNO
          go_wp2
          go_quiet (fail)
          go_wp2
          go_roundw
          case rel => exact ⟨k2 + 1, by omega, by go_num, HJ2, below_drewC (BV.out) _⟩
          case measure => simp [intOf]; omega
      · have hltI : ¬ (k2 : Int) < (n : Int) := by omega
        have E : Hid (r = true) := HR.out.2 (fun j hj => HJ.out j (by rw [HN.out] at hj; omega))
        have B9 := hide (B3.out.trans (hbel.mono B3.out.size))
        clear hbel
        go_wp2
        go_ret2
        exact ⟨by rw [E.out]; rfl, B9.out⟩
end Go.Proofs.Ytkfnejiiancmhah.L11
