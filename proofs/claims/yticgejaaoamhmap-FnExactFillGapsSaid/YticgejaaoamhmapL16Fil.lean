/-
  Contracts: impl.FillGaps with filled.
-/
import Derived.Test.YticgejaaoamhmapL16Vat
import Derived.Test.YticgejaaoamhmapL16FL
import Derived.Test.YticgejaaoamhmapL16Ret
import Derived.Test.YticgejaaoamhmapL16Row
namespace Go.Proofs.Yticgejaaoamhmap.L16
open Go.RowKit L1
set_option linter.unusedVariables false

set_option maxRecDepth 100000 in
set_option maxHeartbeats 4000000 in
theorem filled_any (b off : Nat) (l : List (Int × Int)) (n cap : Nat) (s : Int) (w : World) (hn : l.length = n) (hs : Sl2 w (some ⟨b, off, none⟩) l) (h0 : 0 < n) (hok : FilOk l s) (r : Option (List (Int × Int))) (hr : r = filR l s) :
    Calls Try.prog 42 #[.agg #[.slice (some ⟨b, off, none⟩) n cap], .int .i64 s] w fun e w' => RetS16 w r e w' := by
  have hc := hok.1
  have hs1 := hok.2
  have h40 : n ≤ 40 := by have := hc.len; omega
  have hx0 := hc.at_ (k := 0) (by omega)
  have hx1 := hc.at_ (k := n - 1) (by omega)
  have CF := hide (fun wx hs => first_any (some ⟨b, off, none⟩) l n cap wx hn hs (by omega) h0)
  have CL := hide (fun wx hs => last_any (some ⟨b, off, none⟩) l n cap wx hn hs (by omega) h0)
  have CM := hide (fun wx => multipleFrom_any (at_ l 0) s wx hx0 hs1 (flj l s 0) (flj_zero l s))
  have hb0 := mul0_bd hx0 hs1
  have CV := hide (fun t wx hs ht => valueAt_any (some ⟨b, off, none⟩) l n cap t wx hn hs (by omega) hc h0 ht (vat l t) rfl)
  have HI := hide (fun j => nfl_iff (l := l) (by omega) hs1.1 j)
  rw [hn] at HI
  have HG : Hid (∀ j, at_ l 0 ≤ flj l s j) := fun j => by
    have : 0 ≤ (j : Int) * s := Int.mul_nonneg (by omega) (by omega)
    unfold flj; omega
  have HR1 : Hid (¬ nfl l s ≤ 40 → r = none) := fun h => by rw [hr]; unfold filR; rw [if_neg (fun h2 => h h2.2)]
  have HR2 : Hid (nfl l s ≤ 40 → r = some (filK l s (nfl l s))) := fun h => by rw [hr]; unfold filR; rw [if_pos ⟨hok, h⟩]
  have HB : Hid (flj l s 0 ≤ 1001000000) := by rw [flj_zero]; exact hb0.2.1
  have hfl : ∀ x y w, (Instr.field 42 (.agg #[.int .i64 x, .int .i64 y]) 0).run Try.prog w = .ok (.int .i64 x) w := fun _ _ _ => rfl
  obtain ⟨x0, hxx⟩ : ∃ x, x = at_ l 0 := ⟨_, rfl⟩
  obtain ⟨x1, hyy⟩ : ∃ x, x = at_ l (n - 1) := ⟨_, rfl⟩
  rw [← hxx] at CF CM hx0 HG
  rw [← hyy] at CL HI hx1
  simp only [← hxx] at CV
  generalize vl l 0 = y0 at CF
  generalize vl l (n - 1) = y1 at CL
  obtain ⟨W0, hW0⟩ : ∃ W0, BoxR w (some ⟨b, off, none⟩) n cap W0 := ⟨_, rfl⟩
  have k0 := hW0.cell
  have K0 := hide k0
  have B0 := hide hW0.below
  have HW := hide (show w.alloc (.cells #[.slice (some ⟨b, off, none⟩) n cap] 47) = W0 from hW0)
  have HS0 := hide (hs.below hW0.below)
  obtain ⟨i1, hi1, hy0, hy1, hy2⟩ := info_parts info_smp
  clear hW0 hs hn hc hok hr hxx hyy hb0
  go_enter Try.func42, Try.ntmps42
  go_upto_region 1 with fail
  rw [HW.out]
  go_wp2_with fail
  refine (CF.out _ HS0.out).mono ?_
  rintro e w1 ⟨rfl, hb1⟩
  have B1 := hide hb1
  clear hb1 k0
  go_wp2_with fail
  refine (CM.out _).mono ?_
  rintro e w1' ⟨rfl, rfl⟩
  go_upto_region 3 with fail
  go_loopw [6, 7] (fun ov t wr => ∃ j : Nat, j ≤ 40 ∧ (j = 0 ∨ flj l s (j - 1) ≤ x1) ∧ t = .int .i64 (flj l s j) ∧ Hid (wr.ownsRow W0.heap.size 42 2 ov j (flat (filK l s j))) ∧ Hid (Below W0.heap.size W0 wr)) (fun _ t _ => (x1 + 1 - intOf t).toNat)
  case atStart => exact ⟨0, by omega, .inl rfl, rfl, World.ownsRow_nil _ _ _ _, B1⟩
  case round =>
    clear B1
    obtain ⟨j, hj, hjl, rfl, HO, BW⟩ := hrel
    obtain ⟨oa, oc, rfl, _, _⟩ := own_form2 HO.out
    have k1 := (BW.out.cell (p := ⟨w.heap.size, 0, none⟩) (blk_lt K0.out)).trans K0.out
    have hsu := flj_succ l s j
    have hge := HG.out j
    have hle : flj l s j ≤ 2000000000 := by
      by_cases e : j = 0
      · subst e; have := HB.out; omega
      · have h := hjl.resolve_left e
        have := flj_succ l s (j - 1); rw [show j - 1 + 1 = j by omega] at this; omega
    have hI := HI.out j
    have hIp := HI.out (j - 1)
    have htk := filK_succ l s j
    obtain ⟨t, ht⟩ : ∃ t, t = flj l s j := ⟨_, rfl⟩
    rw [← ht] at hsu hge hle hI htk
    rw [← ht]
    have HSU := hide hsu
    have HTT := hide ht
    have HTK := hide htk
    have HJL := hide hjl
    have HI1 := hide hI
    have HIP := hide hIp
    clear hsu htk hjl ht hI hIp
    go_wp2_with fail
    refine (CL.out _ (HS0.out.below BW.out)).mono ?_
    rintro e w2 ⟨rfl, hb2⟩
    have B2 := hide (BW.out.trans (hb2.mono BW.out.size))
    have O2 := hide (own_below2 HO.out hb2)
    have k2 := (hb2.cell (p := ⟨w.heap.size, 0, none⟩) (blk_lt k1)).trans k1
    have K2 := hide k2
    clear hb2 k1
    by_cases hlt : t ≤ x1
    · by_cases h4 : j = 40
      · have HR := hide (HR1.out (fun h => by have := HI1.out.2 hlt; omega))
        have B3 := hide (B0.out.trans (B2.out.mono B0.out.size))
        subst h4
        go_wp2
        go_ret2
        exact retS_none HR.out B3.out
      · have hj4 : ¬ (j : Int) = 40 := by omega
        go_wp2_with fail
        refine (CV.out t _ (HS0.out.below B2.out) ⟨hge, by omega⟩).mono ?_
        rintro e w3 ⟨rfl, hb3⟩
        have B3 := hide (B2.out.trans (hb3.mono B2.out.size))
        have O3 := hide (own_below2 O2.out hb3)
        have hsz := B3.out.size
        clear hb3 k2
        obtain ⟨y, hyy⟩ : ∃ y, y = vat l t := ⟨_, rfl⟩
        rw [← hyy] at HTK
        rw [← hyy]
        clear hyy
        have hws : IntKind.i64.wrap (t + s) = t + s := wrap16 (by omega) (by omega)
        have HNX := hide (show Value.int .i64 (t + s) = .int .i64 (flj l s (j + 1)) by rw [HSU.out])
        go_wp2_with (first
          | (at_builtin; refine wpList_append_own _ rfl _ _ 24 rfl W0.heap.size 42 i1 (.agg #[.int .i64 0, .int .i64 0]) 2 16 Try.underlying24 hi1 hy0 hy1 hy2 rfl (by decide) _ _ _ rfl (O3.out.alloc _) ⟨w3.heap.size, 0, none⟩ 1 1 [.int .i64 t, .int .i64 y] rfl rfl (cell_two16 _ _ _ _) (by intro u hu; simp at hu; rcases hu with rfl | rfl <;> rfl) (by unfold maxLen; omega) (by omega) (by simp; omega) ?_)
          | go_in)
        intro v6 w6 hown6 hgrow6 _
        have B6 := hide ((B3.out.alloc hsz (.cells #[.int .i64 t, .int .i64 y] 42)).grown hgrow6 (by simp; omega) (fun g hg => (O3.out.lt g hg).1))
        have O6 := hide (show w6.ownsRow W0.heap.size 42 2 v6 (j + 1) (flat (filK l s (j + 1))) from by rw [HTK.out, flat_append]; exact hown6)
        clear hown6 hgrow6
        obtain ⟨a6, c6, rfl, _, _⟩ := own_form2 O6.out
        go_wp2
        go_roundw
        case rel => exact ⟨j + 1, by omega, .inr (by rw [Nat.add_sub_cancel, ← HTT.out]; exact hlt), HNX.out, O6, B6⟩
        case measure => simp [intOf]; omega
    · have HE := hide (show nfl l s = j by have h1 := HI1.out; have h2 := HIP.out; have h3 := HJL.out; omega)
      have HR := hide (HR2.out (by rw [HE.out]; exact hj))
      have B3 := hide (B0.out.trans (B2.out.mono B0.out.size))
      have O3 := hide (own_baseS16 O2.out B0.out.size)
      go_wp2
      go_ret2
      exact ⟨_, by rw [HR.out]; rfl, by rw [HR.out]; simp only [Option.getD_some]; rw [HE.out, filK_len]; exact O3.out, B3.out⟩
set_option maxRecDepth 100000 in
set_option maxHeartbeats 4000000 in
theorem fillGaps_any (b off : Nat) (l : List (Int × Int)) (n cap : Nat) (s : Int) (w : World) (hn : l.length = n) (hs : Sl2 w (some ⟨b, off, none⟩) l) (hn2 : n ≤ 1048576) (hcap : n ≤ cap) (r : Option (List (Int × Int))) (hr : r = filR l s) :
    Calls Try.prog 23 #[.slice (some ⟨b, off, none⟩) n cap, .int .i64 s] w fun e w' => RetS16 w r e w' := by
  obtain ⟨c, hc⟩ : ∃ c : Bool, c = true ↔ Ctr l := by classical exact ⟨decide (Ctr l), by simp⟩
  have CO := hide (counterOk_any (some ⟨b, off, none⟩) l n cap w hn hs hn2 c hc)
  have HS := hide hs
  have HN := hide hn
  cases hq : c with
  | false =>
    have HR := hide (show r = none by rw [hr]; unfold filR; rw [if_neg (fun h => by have := hc.2 h.1.1; rw [hq] at this; cases this)])
    subst hq
    clear hc
    clear hr hs hn
    go_enter Try.func23, Try.ntmps23
    go_wp2_with fail
    refine CO.out.mono ?_
    rintro e w1 ⟨rfl, hb1⟩
    have B1 := hide hb1
    clear hb1
    go_wp2
    go_ret2
    exact retS_none HR.out B1.out
  | true =>
  have hct := hc.1 hq
  subst hq
  clear hc
  by_cases p1 : s < 1
  · have HR := hide (show r = none by rw [hr]; unfold filR; rw [if_neg (fun h => by have := h.1.2; omega)])
    clear hct
    clear hr hs hn
    go_enter Try.func23, Try.ntmps23
    go_wp2_with fail
    refine CO.out.mono ?_
    rintro e w1 ⟨rfl, hb1⟩
    have B1 := hide hb1
    clear hb1
    go_wp2
    go_ret2
    exact retS_none HR.out B1.out
  by_cases p2 : 1000000 < s
  · have HR := hide (show r = none by rw [hr]; unfold filR; rw [if_neg (fun h => by have := h.1.2; omega)])
    clear hct
    clear hr hs hn
    go_enter Try.func23, Try.ntmps23
    go_wp2_with fail
    refine CO.out.mono ?_
    rintro e w1 ⟨rfl, hb1⟩
    have B1 := hide hb1
    clear hb1
    go_wp2
    go_ret2
    exact retS_none HR.out B1.out
  have hok : FilOk l s := ⟨hct, by omega, by omega⟩
  by_cases h0 : n = 0
  · have HR := hide (show r = some [] by rw [hr]; unfold filR; have e : nfl l s = 0 := by unfold nfl; rw [if_pos (by omega)]
                                         rw [e, if_pos ⟨hok, by omega⟩]; rfl)
    subst h0
    clear hr hs hn hct hok
    go_enter Try.func23, Try.ntmps23
    go_wp2_with fail
    refine CO.out.mono ?_
    rintro e w1 ⟨rfl, hb1⟩
    have B1 := hide hb1
    clear hb1
    go_wp2
    go_ret2
    exact ⟨.slice none 0 0, by rw [HR.out]; rfl, by rw [HR.out]; exact World.ownsRow_nil _ _ _ _, B1.out⟩
  · have hn0 : ¬ (n : Int) = 0 := by omega
    have CF := hide (fun wx hs => filled_any b off l n cap s wx hn hs (by omega) hok r hr)
    clear hr hs hn hct hok
    go_enter Try.func23, Try.ntmps23
    go_wp2_with fail
    refine CO.out.mono ?_
    rintro e w1 ⟨rfl, hb1⟩
    have B1 := hide hb1
    clear hb1
    go_wp2_with fail
    refine (CF.out _ (HS.out.below B1.out)).mono ?_
    rintro e w2 ⟨v, rfl, ho, hb2⟩
    have B2 := hide (B1.out.trans (hb2.mono B1.out.size))
    have O2 := hide (own_baseS16 ho B1.out.size)
    clear ho hb2
    go_wp2
    go_ret2
    exact ⟨v, rfl, O2.out, B2.out⟩
end Go.Proofs.Yticgejaaoamhmap.L16
