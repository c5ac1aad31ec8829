/-
  Contracts: impl.risingPlaces, slices.Clone over tokens; impl.AddOwner: a ring with the tokens of an owner that comes, in new memory, and true, where it is good; else no list and false.
-/
import Derived.Test.YtkjljkfjcngkcaaL3AddSpec
import Derived.Test.YtkjljkfjcngkcaaL3Sort
namespace Go.Proofs.Ytkjljkfjcngkcaa.L3
open Go.RowKit L1
set_option linter.unusedVariables false

/-- Places that an owner may come at. -/
def Places (ps : List Int) : Prop := (1 ≤ ps.length ∧ ps.length ≤ 8) ∧ (∀ j, j < ps.length → 0 ≤ ps.getD j 0 ∧ ps.getD j 0 ≤ 1008) ∧ Rises ps

set_option maxRecDepth 100000 in
set_option maxHeartbeats 1000000 in
theorem risingPlaces_any (a : Option Addr) (ps : List Int) (n cap : Nat) (w : World) (hn : ps.length = n) (hs : Sl w a ps) (hn2 : n ≤ 1048576) (bb : Bool) (hbb : bb = true ↔ Places ps) :
    Calls Try.prog 26 #[.slice a n cap] w fun e w' => e = .returned (.bool bb) ∧ w = w' := by
  have HS := hide hs
  have HN := hide hn
  have HBB := hide hbb
  clear hs hn hbb
  by_cases h1 : (n : Int) < 1
  · have E := hide (bool_noT HBB.out (fun h => by have := h.1.1; rw [HN.out] at this; omega))
    go_enter Try.func26, Try.ntmps26
    go_wp2
    go_ret
    exact ⟨by rw [E.out]; rfl, rfl⟩
  · by_cases h8 : 8 < (n : Int)
    · have E := hide (bool_noT HBB.out (fun h => by have := h.1.2; rw [HN.out] at this; omega))
      go_enter Try.func26, Try.ntmps26
      go_wp2
      go_ret
      exact ⟨by rw [E.out]; rfl, rfl⟩
    · go_enter Try.func26, Try.ntmps26
      go_wp2
      go_loop [15] (fun i => ∃ k : Nat, k ≤ n ∧ i = .int .i64 k ∧ Hid (∀ j, j < k → (0 ≤ ps.getD j 0 ∧ ps.getD j 0 ≤ 1008) ∧ (0 < j → ps.getD (j - 1) 0 < ps.getD j 0))) (fun i => n - (intOf i).toNat)
      case atStart => exact ⟨0, Nat.zero_le _, rfl, fun j hj => absurd hj (Nat.not_lt_zero _)⟩
      case round =>
        obtain ⟨k, hk, rfl, HJ⟩ := hrel
        by_cases hlt : k < n
        · obtain ⟨b, off, rfl, hc⟩ := HS.out k (by rw [HN.out]; exact hlt)
          have hltI : (k : Int) < (n : Int) := by omega
          have hprev : 0 < k → w.cell? ⟨b, off + (k - 1), none⟩ = some (.int .i64 (ps.getD (k - 1) 0)) := fun h0 => by
            obtain ⟨b', o', ha, hc'⟩ := HS.out (k - 1) (by rw [HN.out]; omega)
            cases ha
            exact hc'
          have HPREV := hide hprev
          obtain ⟨x, hx⟩ : ∃ x, x = ps.getD k 0 := ⟨_, rfl⟩
          rw [← hx] at hc
          have HX := hide hx.symm
          clear hx hprev
          by_cases hin : 0 ≤ x ∧ x ≤ 1008
          · have C := hide (fun w => isPlace_any x w true (by simp [hin]))
            have HIN := hide hin
            clear hin
            by_cases hk0 : ¬ 0 < k
            · have hk0I : ¬ (0 : Int) < (k : Int) := by omega
              go_wp2_with fail
              refine (C.out _).mono ?_
              rintro e w1 ⟨rfl, rfl⟩
              go_wp2
              go_round
              case rel =>
                refine ⟨k + 1, by omega, by go_num, ?_⟩
                intro j hj
                by_cases e : j = k
                · subst e; rw [HX.out]; exact ⟨HIN.out, fun h => absurd h hk0⟩
                · exact HJ.out j (by omega)
              case measure => simp [intOf]; omega
            · obtain ⟨kk, rfl⟩ : ∃ kk, k = kk + 1 := ⟨k - 1, by omega⟩
              have hpv := HPREV.out (by omega)
              rw [show kk + 1 - 1 = kk by omega] at hpv
              obtain ⟨pv, hpve⟩ : ∃ pv, pv = ps.getD kk 0 := ⟨_, rfl⟩
              rw [← hpve] at hpv
              have HPV := hide hpve.symm
              have hkkI : (kk : Int) < (n : Int) := by omega
              have hk0I : (0 : Int) < (kk : Int) + 1 := by omega
              clear HPREV hpve hk0
              by_cases hle : x ≤ pv
              · have E := hide (bool_noT HBB.out (fun h => by
                  have := h.2.2 (kk + 1) (by rw [HN.out]; exact hlt) (by omega)
                  rw [show kk + 1 - 1 = kk by omega, HPV.out, HX.out] at this
                  omega))
                go_wp2_with fail
                refine (C.out _).mono ?_
                rintro e w1 ⟨rfl, rfl⟩
                go_wp2
                go_ret
                exact ⟨by rw [E.out]; rfl, rfl⟩
              · go_wp2_with fail
                refine (C.out _).mono ?_
                rintro e w1 ⟨rfl, rfl⟩
                go_wp2
                go_round
                case rel =>
                  refine ⟨kk + 1 + 1, by omega, by go_num, ?_⟩
                  intro j hj
                  by_cases e : j = kk + 1
                  · subst e; rw [HX.out, show kk + 1 - 1 = kk by omega, HPV.out]; exact ⟨HIN.out, fun _ => by omega⟩
                  · exact HJ.out j (by omega)
                case measure => simp [intOf]; omega
          · have C := hide (fun w => isPlace_any x w false (by simp; omega))
            have E := hide (bool_noT HBB.out (fun h => hin (by have := h.2.1 k (by rw [HN.out]; exact hlt); rw [HX.out] at this; exact this)))
            clear hin HPREV
            go_wp2_with fail
            refine (C.out _).mono ?_
            rintro e w1 ⟨rfl, rfl⟩
            go_wp2
            go_ret
            exact ⟨by rw [E.out]; rfl, rfl⟩
        · have hltI : ¬ (k : Int) < (n : Int) := by omega
          have E := hide (HBB.out.2 ⟨by rw [HN.out]; omega, fun j hj => (HJ.out j (by rw [HN.out] at hj; omega)).1, fun j hj => (HJ.out j (by rw [HN.out] at hj; omega)).2⟩)
          go_wp2
          go_ret
          exact ⟨by rw [E.out]; rfl, rfl⟩

set_option maxRecDepth 100000 in
set_option maxHeartbeats 1000000 in
theorem clone_some (b off : Nat) (l : List (Int × Int)) (n cap : Nat) (w : World) (hn : l.length = n) (hs : Sl2 w (some ⟨b, off, none⟩) l) (hn2 : n ≤ 1048576) :
    Calls Try.prog 27 #[.slice (some ⟨b, off, none⟩) n cap] w fun e w' => ∃ g c, e = .returned (.slice (some ⟨g, 0, none⟩) n c) ∧ w'.ownsRow w.heap.size 55 2 (.slice (some ⟨g, 0, none⟩) n c) n (flat l) ∧ Below w.heap.size w w' := by
  obtain ⟨i1, hi1, hy0, hy1, hy2⟩ := info_parts info_tok
  have hnil : ∀ w, (binOp .eql 23 (.slice (some ⟨b, off, none⟩) n cap) (.slice none 0 0)).run Try.prog w = .ok (.bool false) w := fun w => Lib.run_eql_slice_nil w _ _ _ _ _ _ _ Try.underlying23
  have HS := hide hs
  have HN := hide hn
  clear hs hn
  go_enter Try.func27, Try.ntmps27
  go_wp2_with (first
    | (at_builtin; refine wpList_append_own _ rfl _ _ 23 rfl w.heap.size 55 i1 (.agg #[.int .i64 0, .int .i64 0]) 2 16 Try.underlying23 hi1 hy0 hy1 hy2 rfl (by decide) (.slice (some ⟨w.heap.size, 0, none⟩) 0 0) 0 [] rfl (own_empty w _ (Nat.le_refl _)) ⟨b, off, none⟩ n cap (flat l) rfl (by rw [flat_len, HN.out]) (sl2_alloc HS.out _) (flat_one l) (by unfold maxLen; omega) (by omega) (by simp) ?_)
    | go_in)
  intro v3 w3 hown3 hgrow3 hnil3
  obtain ⟨g3, c3, rfl, _, _⟩ := own_some hown3 (by first | exact hnil3 | (intro e; have := (hnil3.1 e).1; cases this))
  have hb3 : Below w.heap.size w w3 := ((Below.refl _ _).alloc (Nat.le_refl _) _).grown hgrow3 (by simp) (fun g hg => by cases hg; exact Nat.le_refl _)
  try simp only [List.nil_append, Nat.zero_add] at hown3
  have O3 := hide hown3
  have B3 := hide hb3
  clear hown3 hgrow3 hnil3 hb3
  go_wp2
  go_ret
  exact ⟨g3, c3, rfl, O3.out, B3.out⟩

open Classical in
set_option maxRecDepth 100000 in
set_option maxHeartbeats 4000000 in
theorem addOwner_some (b off : Nat) (l : List (Int × Int)) (n cap : Nat) (o : Int) (ap : Option Addr) (ps : List Int) (m pcap : Nat) (w : World) (hn : l.length = n) (hs : Sl2 w (some ⟨b, off, none⟩) l) (hm : ps.length = m) (hp : Sl w ap ps) (hn2 : n ≤ 1048576) (hm2 : m ≤ 1048576) (r : Option (List (Int × Int))) (hr : r = addRes l o ps) :
    Calls Try.prog 5 #[.slice (some ⟨b, off, none⟩) n cap, .int .i64 o, .slice ap m pcap] w fun e w' => RetT w r e w' := by
  have NO : ∀ e w', r = none → e = .returned (.tuple #[.slice none 0 0, .bool false]) → Below w.heap.size w w' → RetT w r e w' := fun e w' h1 h2 h3 => ⟨.slice none 0 0, by rw [h2, h1]; rfl, by rw [h1]; exact World.ownsRow_nil _ _ _ _, h3⟩
  have HNO := hide NO
  clear NO
  by_cases hg : GoodT l
  · have C1 := hide (goodRing_any (some ⟨b, off, none⟩) l n cap w hn hs hn2 true (by simp [hg]))
    by_cases hh : HasO l o
    · have C3 := hide (fun w hs => hasTokens_any (some ⟨b, off, none⟩) l n cap o w hn hs hn2 true (by simp [hh]))
      have hr' : r = none := by rw [hr]; exact addRes_ask (fun h => h.2.1 hh)
      have HR := hide hr'
      have HS := hide hs
      clear hr hr' hg hh hs hn hp hm
      go_enter Try.func5, Try.ntmps5
      go_wp2_with fail
      refine C1.out.mono ?_
      rintro e w1 ⟨rfl, hb1⟩
      have B1 := hide hb1
      have S1 := hide (HS.out.below hb1)
      clear hb1
      go_wp2_with fail
      refine (C3.out _ S1.out).mono ?_
      rintro e w2 ⟨rfl, hb2⟩
      have B2 := hide (B1.out.trans (hb2.mono B1.out.size))
      clear hb2
      go_wp2
      go_ret2
      exact HNO.out _ _ HR.out rfl B2.out
    · have C3 := hide (fun w hs => hasTokens_any (some ⟨b, off, none⟩) l n cap o w hn hs hn2 false (by simp [hh]))
      by_cases hpl : Places ps
      · have C4 := hide (fun w hs => risingPlaces_any ap ps m pcap w hm hs hm2 true (by simp [hpl]))
        have h40 : n ≤ 40 := by have := hg.1; omega
        have h8 : m ≤ 8 := by have := hpl.1.2; omega
        have hask : AddAsk l o ps := ⟨hg, hh, hpl.1, hpl.2.2⟩
        have hin : ∀ p ∈ l ++ news o ps, 0 ≤ p.1 ∧ p.1 ≤ 1008 := fun p hp => by
          rcases List.mem_append.1 hp with hp | hp
          · have := good_mem hg p hp; exact ⟨this.1, this.2.1⟩
          · unfold news at hp
            obtain ⟨q, hq, rfl⟩ := List.mem_map.1 hp
            obtain ⟨j, hj, e⟩ := List.getElem_of_mem hq
            have := hpl.2.1 j hj
            simp only [List.getD, List.getElem?_eq_getElem hj, Option.getD_some] at this
            rw [← e]
            exact this
        have HASK := hide hask
        have HIN := hide hin
        have HR := hide hr
        have HS := hide hs
        have HN := hide hn
        have HP := hide hp
        have HM := hide hm
        have C5 := hide (fun w hs => clone_some b off l n cap w hn hs hn2)
        obtain ⟨i1, hi1, hy0, hy1, hy2⟩ := info_parts info_tok
        clear hr hg hh hs hn hp hm hpl hask hin
        go_enter Try.func5, Try.ntmps5
        go_wp2_with fail
        refine C1.out.mono ?_
        rintro e w1 ⟨rfl, hb1⟩
        have B1 := hide hb1
        have S1 := hide (HS.out.below hb1)
        clear hb1
        go_wp2_with fail
        refine (C3.out _ S1.out).mono ?_
        rintro e w2 ⟨rfl, hb2⟩
        have B2 := hide (B1.out.trans (hb2.mono B1.out.size))
        have S2 := hide (S1.out.below hb2)
        clear hb2 S1 B1
        go_wp2_with fail
        refine (C4.out _ (HP.out.below B2.out)).mono ?_
        rintro e w2 ⟨rfl, rfl⟩
        go_wp2_with fail
        refine (C5.out _ S2.out).mono ?_
        rintro e w3 ⟨g3, c3, rfl, hown3, hb3⟩
        have O3 := hide (own_baseT hown3 B2.out.size)
        have B3 := hide (B2.out.trans (hb3.mono B2.out.size))
        clear hown3 hb3
        go_wp2
        go_loopw [8, 28] (fun ot i wr => ∃ (j g ocap : Nat), j ≤ m ∧ i = .int .i64 j ∧ ot = .slice (some ⟨g, 0, none⟩) (n + j) ocap ∧ wr.ownsRow w.heap.size 55 2 ot (n + j) (flat (l ++ news o (ps.take j))) ∧ Below w.heap.size w wr) (fun _ i _ => m - (intOf i).toNat)
        case atStart => exact ⟨0, g3, c3, Nat.zero_le _, rfl, by simp, by simpa [news] using O3.out, B3.out⟩
        case round =>
          obtain ⟨j, g, ocap, hj, rfl, rfl, hown, hbel⟩ := hrel
          by_cases hlt : j < m
          · obtain ⟨pb, po, rfl, hp0⟩ := HP.out j (by rw [HM.out]; exact hlt)
            have hpc := (hbel.cell (p := ⟨pb, po + j, none⟩) (blk_lt hp0)).trans hp0
            have hltI : (j : Int) < (m : Int) := by omega
            have htk : l ++ news o (ps.take (j + 1)) = (l ++ news o (ps.take j)) ++ [(ps.getD j 0, o)] := by rw [news_snoc o ps j (by rw [HM.out]; exact hlt), List.append_assoc]
            obtain ⟨x, hx⟩ : ∃ x, x = ps.getD j 0 := ⟨_, rfl⟩
            rw [← hx] at hpc htk
            obtain ⟨ns, hns⟩ : ∃ ns, ns = l ++ news o (ps.take j) := ⟨_, rfl⟩
            rw [← hns] at htk hown
            obtain ⟨N, hN⟩ : ∃ N, N = n + j := ⟨_, rfl⟩
            rw [← hN] at hown ⊢
            have hN48 : N ≤ 48 := by omega
            have HTK := hide htk
            have HNN := hide hN
            have HROW := hide hown
            have hz := hbel.size
            have B0 := hide hbel
            clear hp0 hx hns hN hown hbel htk
            go_wp2_with (first
              | (at_builtin; refine wpList_append_own _ rfl _ _ 23 rfl w.heap.size 55 i1 (.agg #[.int .i64 0, .int .i64 0]) 2 16 Try.underlying23 hi1 hy0 hy1 hy2 rfl (by decide) _ _ _ rfl (HROW.out.alloc _) ⟨wr.heap.size, 0, none⟩ 1 1 [.int .i64 x, .int .i64 o] rfl rfl (cell_two_newT _ _ _ _) (by intro u hu; simp at hu; rcases hu with rfl | rfl <;> rfl) (by unfold maxLen; omega) (by omega) (by simp; omega) ?_)
              | go_in)
            intro v6 w6 hown6 hgrow6 hnil6
            have hb6 := B0.out.trans (((Below.refl _ _).alloc hz _).grown hgrow6 (by simp; omega) (fun g hg => (HROW.out.lt g hg).1))
            obtain ⟨g6, c6, rfl, _, _⟩ := own_some hown6 (by first | exact hnil6 | (intro e; have := (hnil6.1 e).1; cases this))
            have hown8 : w6.ownsRow w.heap.size 55 2 (.slice (some ⟨g6, 0, none⟩) (N + 1) c6) (N + 1) (flat (l ++ news o (ps.take (j + 1)))) := by
              rw [HTK.out, flat_append]; simpa [flat] using hown6
            rw [show N + 1 = n + (j + 1) by have := HNN.out; omega] at hown8 ⊢
            have hown7 := hide hown8
            clear hown6 hgrow6 hown8 hnil6
            go_wp2
            go_roundw
            case rel => exact ⟨j + 1, g6, c6, by omega, by go_num, rfl, hown7.out, hb6⟩
            case measure => simp [intOf]; omega
          · obtain rfl : j = m := by omega
            have hltI : ¬ (j : Int) < (j : Int) := by omega
            rw [show ps.take j = ps from List.take_of_length_le (by rw [HM.out]; exact Nat.le_refl _)] at hown
            obtain ⟨N, hN⟩ : ∃ N, N = n + j := ⟨_, rfl⟩
            have hlN : (l ++ news o ps).length = N := by rw [List.length_append, HN.out, hN]; unfold news; rw [List.length_map, HM.out]
            rw [← hN] at hown ⊢
            have hN48 : N ≤ 48 := by omega
            obtain ⟨ys, hys⟩ : ∃ ys : List BT, ys.map Subtype.val = l ++ news o ps := by
              have HI := HIN.out
              generalize l ++ news o ps = q at HI
              clear hown hlN
              induction q with
              | nil => exact ⟨[], rfl⟩
              | cons p q ih =>
                obtain ⟨ys, hys⟩ := ih (fun p hp => HI p (by simp [hp]))
                exact ⟨⟨p, HI p (by simp)⟩ :: ys, by simp [hys]⟩
            rw [← hys] at hown
            have hyl : ys.length = N := by rw [← hlN, ← hys, List.length_map]
            have C6 := hide (sort_any w.heap.size g N ocap ys wr hyl (by omega) hown)
            have hgb := (hown.lt g rfl).1
            have hz := hbel.size
            have B0 := hide hbel
            have HYS := hide hys
            have HLN := hide hlN
            clear hown hyl hys hN hlN hbel
            go_wp2_with fail
            refine C6.out.mono ?_
            rintro e w4 ⟨rfl, zs, hperm, hup, hown4, hgr4⟩
            have hperm2 := hperm
            rw [HYS.out] at hperm2
            have hzl : zs.length = N := by rw [hperm2.length_eq, HLN.out]
            have B4 := hide (B0.out.trans ((Below.refl _ _).grown hgr4 hz (fun k hk => by cases hk; exact hgb)))
            have HOW := hide hown4
            by_cases hgz : GoodT zs
            · have C7 := hide (goodRing_any (some ⟨g, 0, none⟩) zs N ocap w4 hzl (own_sl2 hown4) (by omega) true (by simp [hgz]))
              have HR0 : Hid (r = some zs) := by show r = some zs; rw [HR.out]; exact addRes_some HASK.out hperm2 hgz
              have HZL := hide hzl
              clear hgz hperm hperm2 hup hown4 hgr4 hzl
              go_wp2_with fail
              refine C7.out.mono ?_
              rintro e w5 ⟨rfl, hb5⟩
              have O5 := hide (own_belowT HOW.out hb5)
              have B5 := hide (B4.out.trans (hb5.mono B4.out.size))
              clear hb5
              go_wp2
              go_ret2
              exact ⟨_, by rw [HR0.out]; rfl, by rw [HR0.out]; simp only [Option.getD_some]; rw [HZL.out]; exact O5.out, B5.out⟩
            · have C7 := hide (goodRing_any (some ⟨g, 0, none⟩) zs N ocap w4 hzl (own_sl2 hown4) (by omega) false (by simp [hgz]))
              have HR0 : Hid (r = none) := by show r = none; rw [HR.out]; exact addRes_bad hperm2 hup hgz
              clear hgz hperm hperm2 hup hown4 hgr4 hzl
              go_wp2_with fail
              refine C7.out.mono ?_
              rintro e w5 ⟨rfl, hb5⟩
              have B5 := hide (B4.out.trans (hb5.mono B4.out.size))
              clear hb5
              go_wp2
              go_ret2
              exact HNO.out _ _ HR0.out rfl B5.out
      · have C4 := hide (fun w hs => risingPlaces_any ap ps m pcap w hm hs hm2 false (by simp [hpl]))
        have hr' : r = none := by
          rw [hr]
          by_cases h8 : 1 ≤ ps.length ∧ ps.length ≤ 8
          · by_cases hri : Rises ps
            · have : ¬ ∀ j, j < ps.length → 0 ≤ ps.getD j 0 ∧ ps.getD j 0 ≤ 1008 := fun h => hpl ⟨h8, h, hri⟩
              obtain ⟨j, hj⟩ := Classical.not_forall.1 this
              obtain ⟨hj, hno⟩ := Classical.not_imp.1 hj
              refine addRes_out (p := (ps.getD j 0, o)) ?_ (fun h => hno ⟨h.1, h.2.1⟩)
              refine List.mem_append.2 (.inr ?_)
              unfold news
              refine List.mem_map.2 ⟨ps.getD j 0, ?_, rfl⟩
              simp only [List.getD, List.getElem?_eq_getElem hj, Option.getD_some]
              exact List.getElem_mem hj
            · exact addRes_ask (fun h => hri h.2.2.2)
          · exact addRes_ask (fun h => h8 h.2.2.1)
        have HR := hide hr'
        have HS := hide hs
        have HP := hide hp
        clear hr hr' hg hh hs hn hp hm hpl
        go_enter Try.func5, Try.ntmps5
        go_wp2_with fail
        refine C1.out.mono ?_
        rintro e w1 ⟨rfl, hb1⟩
        have B1 := hide hb1
        have S1 := hide (HS.out.below hb1)
        clear hb1
        go_wp2_with fail
        refine (C3.out _ S1.out).mono ?_
        rintro e w2 ⟨rfl, hb2⟩
        have B2 := hide (B1.out.trans (hb2.mono B1.out.size))
        clear hb2
        go_wp2_with fail
        refine (C4.out _ (HP.out.below B2.out)).mono ?_
        rintro e w2 ⟨rfl, rfl⟩
        go_wp2
        go_ret2
        exact HNO.out _ _ HR.out rfl B2.out
  · have C1 := hide (goodRing_any (some ⟨b, off, none⟩) l n cap w hn hs hn2 false (by simp [hg]))
    have hr' : r = none := by rw [hr]; exact addRes_ask (fun h => hg h.1)
    have HR0 := hide hr'
    clear hr hr' hg hs hn hp hm
    go_enter Try.func5, Try.ntmps5
    go_wp2_with fail
    refine C1.out.mono ?_
    rintro e w1 ⟨rfl, hb1⟩
    have B1 := hide hb1
    clear hb1
    go_wp2
    go_ret2
    exact HNO.out _ _ HR0.out rfl B1.out
end Go.Proofs.Ytkjljkfjcngkcaa.L3
