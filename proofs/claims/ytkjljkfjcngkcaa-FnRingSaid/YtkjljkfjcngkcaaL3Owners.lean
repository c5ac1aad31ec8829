/-
  Contracts: impl.OwnersOf and spec.OwnersOf: the first unlike owners from a hash on, in new memory.
-/
import Derived.Test.YtkjljkfjcngkcaaL3Contains
namespace Go.Proofs.Ytkjljkfjcngkcaa.L3
open Go.RowKit L1
set_option linter.unusedVariables false

set_option maxRecDepth 100000 in
set_option maxHeartbeats 4000000 in
theorem ownersOf_any (a : Option Addr) (l : List (Int × Int)) (n cap : Nat) (h many : Int) (w : World) (hn : l.length = n) (hs : Sl2 w a l) (hn2 : n ≤ 1048576) (r : Option (List Int)) (hr : r = onRes l h many) :
    Calls Try.prog 16 #[.slice a n cap, .int .i64 h, .int .i64 many] w fun e w' => RetL w r e w' := by
  by_cases hg : RingAsk l h
  · by_cases hm : 1 ≤ many ∧ many ≤ 8
    · obtain ⟨hm1, hm8⟩ := hm
      have hf := fst_lt l h hg.1
      have C1 := tokenFor_yes a l n cap h w hn hs hn2 hg
      have h40 : n ≤ 40 := by have := hg.2.1.1; omega
      have hn0 : ((n : Int) == 0) = false := by have := hg.1; simp; omega
      have hn0' : ¬ (n : Int) = 0 := by have := hg.1; omega
      have hnp : 0 < n := by have := hg.1; omega
      have hres : ∀ b : Bool, (b = true ↔ ((onL l (fst l h) many n).length : Int) < many) → r = if b then none else some (onL l (fst l h) many n) := fun b hb => by
        rw [hr]; unfold onRes; rw [hn]
        cases b with
        | true => rw [if_neg (fun hh => hh.2 (hb.1 rfl))]; rfl
        | false => rw [if_pos ⟨⟨hg, hm1, hm8⟩, fun hh => by have := hb.2 hh; cases this⟩]; rfl
      have HRES := hide hres
      rw [hn] at hf
      obtain ⟨f, hff⟩ : ∃ f, f = fst l h := ⟨_, rfl⟩
      rw [← hff] at hf HRES
      rw [← hff] at C1
      have D1 := hide C1
      clear C1
      obtain ⟨i1, hi1, hy0, hy1, hy2⟩ := info_parts info_int
      have HS := hide hs
      have HN := hide hn
      have HLEN := hide (onL_len l f many (by omega))
      clear hr hres hg hs hn hff
      go_enter Try.func16, Try.ntmps16
      go_wp2_with fail
      refine D1.out.mono ?_
      rintro e w1 ⟨rfl, hb1⟩
      have B2 := hide hb1
      clear hb1
      go_wp2
      go_loopw [10, 31] (fun ot i wr => ∃ k : Nat, k ≤ n ∧ i = .int .i64 k ∧ wr.ownsRow w.heap.size 3 1 ot (onL l f many k).length ((onL l f many k).map (Value.int .i64)) ∧ Below w.heap.size w wr) (fun _ i _ => n - (intOf i).toNat)
      case atStart => exact ⟨0, Nat.zero_le _, rfl, World.ownsRow_nil _ _ _ _, B2.out⟩
      case round =>
        obtain ⟨k, hk, rfl, hown, hbel⟩ := hrel
        obtain ⟨oa, ocap, rfl, hsl, _⟩ := own_form hown
        by_cases hlt : k < n
        · have hq : (f + k) % n < n := Nat.mod_lt _ hnp
          obtain ⟨b, off, rfl, _, hd0⟩ := HS.out ((f + k) % n) (by rw [HN.out]; exact hq)
          have hd := (hbel.cell (p := ⟨b, off + (f + k) % n * 2 + 1, none⟩) (blk_lt hd0)).trans hd0
          have hrem := rem_nat f k n
          have hon : onL l f many (k + 1) = if ((onL l f many k).length : Int) < many ∧ (l.getD ((f + k) % n) (0, 0)).2 ∉ onL l f many k then onL l f many k ++ [(l.getD ((f + k) % n) (0, 0)).2] else onL l f many k := by
            rw [onL, HN.out]
          have hml := HLEN.out k
          obtain ⟨q, hqe⟩ : ∃ q, q = (f + k) % n := ⟨_, rfl⟩
          rw [← hqe] at hd hrem hon hq
          obtain ⟨y, hy⟩ : ∃ y, y = (l.getD q (0, 0)).2 := ⟨_, rfl⟩
          rw [← hy] at hd hon
          obtain ⟨ns, hns⟩ : ∃ ns, ns = onL l f many k := ⟨_, rfl⟩
          rw [← hns] at hon hown hml hsl ⊢
          obtain ⟨m, hmm⟩ : ∃ m, m = ns.length := ⟨_, rfl⟩
          rw [← hmm] at hown hml hon ⊢
          have hltI : (k : Int) < (n : Int) := by omega
          have hqI : (q : Int) < (n : Int) := by omega
          have HM := hide hmm.symm
          have HROW := hide hown
          have HSL := hide hsl
          have HON := hide hon
          have hsz := hbel.size
          have B0 := hide hbel
          clear hd0 hqe hy hns hown hbel hmm hsl hon
          by_cases hlm : (m : Int) < many
          · by_cases hmem : y ∈ ns
            · have CC := hide (fun cap w hs => contains_any oa ns m cap y w HM.out hs (by omega) true (by simp [hmem]))
              have hon2 : onL l f many (k + 1) = ns := by rw [HON.out, if_neg (fun hh => hh.2 hmem)]
              have HON2 := hide hon2
              clear hon2 hmem
              go_wp2_with fail
              refine (CC.out _ _ HSL.out).mono ?_
              rintro e w3 ⟨rfl, hb3⟩
              have HR3 := hide (own_belowT HROW.out hb3)
              have B3 := hide (B0.out.trans (hb3.mono B0.out.size))
              clear hb3
              go_wp2
              go_roundw
              case rel => exact ⟨k + 1, by omega, by go_num, by rw [HON2.out, HM.out]; exact HR3.out, B3.out⟩
              case measure => simp [intOf]; omega
            · have CC := hide (fun cap w hs => contains_any oa ns m cap y w HM.out hs (by omega) false (by simp [hmem]))
              have hon2 : onL l f many (k + 1) = ns ++ [y] := by rw [HON.out, if_pos ⟨hlm, hmem⟩]
              have HON2 := hide hon2
              clear hon2 hmem
              go_wp2_with fail
              refine (CC.out _ _ HSL.out).mono ?_
              rintro e w3 ⟨rfl, hb3⟩
              have HR3 := hide (own_belowT HROW.out hb3)
              have B3 := hide (B0.out.trans (hb3.mono B0.out.size))
              have hsz3 := B3.out.size
              clear hb3
              go_wp2_with (first
                | (at_builtin; refine wpList_append_own _ rfl _ _ 24 rfl w.heap.size 3 i1 (.int .i64 0) 1 8 Try.underlying24 hi1 hy0 hy1 hy2 rfl (by decide) _ _ _ rfl (HR3.out.alloc _) ⟨w3.heap.size, 0, none⟩ 1 1 [.int .i64 y] rfl rfl (cell_one_newT _ _ _) (by intro u hu; simp at hu; subst hu; rfl) (by unfold maxLen; omega) (by omega) (by simp; omega) ?_)
                | go_in)
              intro v6 w6 hown6 hgrow6 _
              have hb6 := B3.out.trans (((Below.refl _ _).alloc hsz3 _) |>.grown hgrow6 (by simp; omega) (fun g hg => (HR3.out.lt g hg).1))
              have hown8 : w6.ownsRow w.heap.size 3 1 v6 (onL l f many (k + 1)).length ((onL l f many (k + 1)).map (Value.int .i64)) := by
                rw [HON2.out, List.length_append, HM.out]; simpa using hown6
              have hown7 := hide hown8
              clear hown6 hgrow6 hown8
              go_wp2
              go_roundw
              case rel => exact ⟨k + 1, by omega, by go_num, hown7.out, hb6⟩
              case measure => simp [intOf]; omega
          · have hon2 : onL l f many (k + 1) = ns := by rw [HON.out, if_neg (fun hh => hlm hh.1)]
            have HON2 := hide hon2
            clear hon2
            go_wp2
            go_roundw
            case rel => exact ⟨k + 1, by omega, by go_num, by rw [HON2.out, HM.out]; exact HROW.out, B0.out⟩
            case measure => simp [intOf]; omega
        · obtain rfl : k = n := by omega
          have hltI : ¬ (k : Int) < (k : Int) := by omega
          by_cases hlm : ((onL l f many k).length : Int) < many
          · have hrr := HRES.out true (by simp [hlm])
            obtain ⟨m, hmm⟩ : ∃ m, m = (onL l f many k).length := ⟨_, rfl⟩
            rw [← hmm] at hlm ⊢
            have HR := hide hrr
            have B0 := hide hbel
            clear hown hsl hrr hmm hbel
            go_wp2
            go_ret2
            exact ⟨_, by rw [HR.out]; rfl, by rw [HR.out]; exact World.ownsRow_nil _ _ _ _, B0.out⟩
          · have hrr := HRES.out false (by simp [hlm])
            have HO := hide hown
            obtain ⟨m, hmm⟩ : ∃ m, m = (onL l f many k).length := ⟨_, rfl⟩
            rw [← hmm] at hlm HO ⊢
            have HMM := hide hmm
            have HR := hide hrr
            have B0 := hide hbel
            clear hown hsl hrr hmm hbel
            go_wp2
            go_ret2
            exact ⟨_, by rw [HR.out]; rfl, by rw [HR.out]; simp only [Bool.false_eq_true, if_false, Option.getD_some]; rw [← HMM.out]; exact HO.out, B0.out⟩
    · have hr' : r = none := by rw [hr]; unfold onRes; rw [if_neg (fun hh => hm hh.1.2)]
      have HR := hide hr'
      have D1 := hide (tokenFor_yes a l n cap h w hn hs hn2 hg)
      clear hr hr' hg hs hn
      by_cases h1 : many < 1
      · clear hm
        go_enter Try.func16, Try.ntmps16
        go_wp2_with fail
        refine D1.out.mono ?_
        rintro e w1 ⟨rfl, hb1⟩
        go_wp2
        go_ret2
        exact ⟨_, by rw [HR.out]; rfl, by rw [HR.out]; exact World.ownsRow_nil _ _ _ _, hb1⟩
      · have h8 : 8 < many := by omega
        clear hm
        go_enter Try.func16, Try.ntmps16
        go_wp2_with fail
        refine D1.out.mono ?_
        rintro e w1 ⟨rfl, hb1⟩
        go_wp2
        go_ret2
        exact ⟨_, by rw [HR.out]; rfl, by rw [HR.out]; exact World.ownsRow_nil _ _ _ _, hb1⟩
  · have hr' : r = none := by rw [hr]; unfold onRes; rw [if_neg (fun hh => hg hh.1.1)]
    have HR := hide hr'
    have D1 := hide (tokenFor_no a l n cap h w hn hs hn2 hg)
    clear hr hr' hg hs hn
    go_enter Try.func16, Try.ntmps16
    go_wp2_with fail
    refine D1.out.mono ?_
    rintro e w1 ⟨rfl, hb1⟩
    go_wp2
    go_ret2
    exact ⟨_, by rw [HR.out]; rfl, by rw [HR.out]; exact World.ownsRow_nil _ _ _ _, hb1⟩
set_option maxRecDepth 100000 in
set_option maxHeartbeats 4000000 in
theorem specOwners_any (a : Option Addr) (l : List (Int × Int)) (n cap : Nat) (h many : Int) (w : World) (hn : l.length = n) (hs : Sl2 w a l) (hn2 : n ≤ 1048576) (r : Option (List Int)) (hr : r = onRes l h many) :
    Calls Try.prog 17 #[.slice a n cap, .int .i64 h, .int .i64 many] w fun e w' => RetL w r e w' := by
  by_cases hg : RingAsk l h
  · by_cases hm : 1 ≤ many ∧ many ≤ 8
    · obtain ⟨hm1, hm8⟩ := hm
      have hf := fst_lt l h hg.1
      have C0 := hide (l3Ring_any a l n cap h w hn hs hn2 true (by simp [hg]))
      have C1 := fun w hs => l3First_any a l n cap h w hn hs hn2
      have C2 := hide (fun w => l1In_yes many 1 8 w hm1 hm8)
      have h40 : n ≤ 40 := by have := hg.2.1.1; omega
      have hn0 : ((n : Int) == 0) = false := by have := hg.1; simp; omega
      have hn0' : ¬ (n : Int) = 0 := by have := hg.1; omega
      have hnp : 0 < n := by have := hg.1; omega
      have hres : ∀ b : Bool, (b = true ↔ ((onL l (fst l h) many n).length : Int) < many) → r = if b then none else some (onL l (fst l h) many n) := fun b hb => by
        rw [hr]; unfold onRes; rw [hn]
        cases b with
        | true => rw [if_neg (fun hh => hh.2 (hb.1 rfl))]; rfl
        | false => rw [if_pos ⟨⟨hg, hm1, hm8⟩, fun hh => by have := hb.2 hh; cases this⟩]; rfl
      have HRES := hide hres
      rw [hn] at hf
      obtain ⟨f, hff⟩ : ∃ f, f = fst l h := ⟨_, rfl⟩
      rw [← hff] at hf HRES
      simp only [← hff] at C1
      have D1 := hide C1
      clear C1
      obtain ⟨i1, hi1, hy0, hy1, hy2⟩ := info_parts info_int
      have HS := hide hs
      have HN := hide hn
      have HLEN := hide (onL_len l f many (by omega))
      clear hr hres hg hs hn hff
      go_enter Try.func17, Try.ntmps17
      go_wp2_with fail
      refine C0.out.mono ?_
      rintro e w1 ⟨rfl, hb1⟩
      have B1 := hide hb1
      clear hb1
      go_wp2_with fail
      refine (C2.out _).mono ?_
      rintro e w1 ⟨rfl, rfl⟩
      go_wp2_with fail
      refine (D1.out _ (HS.out.below B1.out)).mono ?_
      rintro e w2 ⟨rfl, hb2⟩
      have B2 := hide (B1.out.trans (hb2.mono B1.out.size))
      clear hb2
      go_wp2
      go_loopw [8, 26] (fun ot i wr => ∃ k : Nat, k ≤ n ∧ i = .int .i64 k ∧ wr.ownsRow w.heap.size 3 1 ot (onL l f many k).length ((onL l f many k).map (Value.int .i64)) ∧ Below w.heap.size w wr) (fun _ i _ => n - (intOf i).toNat)
      case atStart => exact ⟨0, Nat.zero_le _, rfl, World.ownsRow_nil _ _ _ _, B2.out⟩
      case round =>
        obtain ⟨k, hk, rfl, hown, hbel⟩ := hrel
        obtain ⟨oa, ocap, rfl, hsl, _⟩ := own_form hown
        by_cases hlt : k < n
        · have hq : (f + k) % n < n := Nat.mod_lt _ hnp
          obtain ⟨b, off, rfl, _, hd0⟩ := HS.out ((f + k) % n) (by rw [HN.out]; exact hq)
          have hd := (hbel.cell (p := ⟨b, off + (f + k) % n * 2 + 1, none⟩) (blk_lt hd0)).trans hd0
          have hrem := rem_nat f k n
          have hon : onL l f many (k + 1) = if ((onL l f many k).length : Int) < many ∧ (l.getD ((f + k) % n) (0, 0)).2 ∉ onL l f many k then onL l f many k ++ [(l.getD ((f + k) % n) (0, 0)).2] else onL l f many k := by
            rw [onL, HN.out]
          have hml := HLEN.out k
          obtain ⟨q, hqe⟩ : ∃ q, q = (f + k) % n := ⟨_, rfl⟩
          rw [← hqe] at hd hrem hon hq
          obtain ⟨y, hy⟩ : ∃ y, y = (l.getD q (0, 0)).2 := ⟨_, rfl⟩
          rw [← hy] at hd hon
          obtain ⟨ns, hns⟩ : ∃ ns, ns = onL l f many k := ⟨_, rfl⟩
          rw [← hns] at hon hown hml hsl ⊢
          obtain ⟨m, hmm⟩ : ∃ m, m = ns.length := ⟨_, rfl⟩
          rw [← hmm] at hown hml hon ⊢
          have hltI : (k : Int) < (n : Int) := by omega
          have hqI : (q : Int) < (n : Int) := by omega
          have HM := hide hmm.symm
          have HROW := hide hown
          have HSL := hide hsl
          have HON := hide hon
          have hsz := hbel.size
          have B0 := hide hbel
          clear hd0 hqe hy hns hown hbel hmm hsl hon
          by_cases hlm : (m : Int) < many
          · by_cases hmem : y ∈ ns
            · have CC := hide (fun cap w hs => l1Has_any oa ns m cap y w HM.out hs (by omega) true (by simp [hmem]))
              have hon2 : onL l f many (k + 1) = ns := by rw [HON.out, if_neg (fun hh => hh.2 hmem)]
              have HON2 := hide hon2
              clear hon2 hmem
              go_wp2_with fail
              refine (CC.out _ _ HSL.out).mono ?_
              rintro e w3 ⟨rfl, hb3⟩
              have HR3 := hide (own_belowT HROW.out hb3)
              have B3 := hide (B0.out.trans (hb3.mono B0.out.size))
              clear hb3
              go_wp2
              go_roundw
              case rel => exact ⟨k + 1, by omega, by go_num, by rw [HON2.out, HM.out]; exact HR3.out, B3.out⟩
              case measure => simp [intOf]; omega
            · have CC := hide (fun cap w hs => l1Has_any oa ns m cap y w HM.out hs (by omega) false (by simp [hmem]))
              have hon2 : onL l f many (k + 1) = ns ++ [y] := by rw [HON.out, if_pos ⟨hlm, hmem⟩]
              have HON2 := hide hon2
              clear hon2 hmem
              go_wp2_with fail
              refine (CC.out _ _ HSL.out).mono ?_
              rintro e w3 ⟨rfl, hb3⟩
              have HR3 := hide (own_belowT HROW.out hb3)
              have B3 := hide (B0.out.trans (hb3.mono B0.out.size))
              have hsz3 := B3.out.size
              clear hb3
              go_wp2_with (first
                | (at_builtin; refine wpList_append_own _ rfl _ _ 24 rfl w.heap.size 3 i1 (.int .i64 0) 1 8 Try.underlying24 hi1 hy0 hy1 hy2 rfl (by decide) _ _ _ rfl (HR3.out.alloc _) ⟨w3.heap.size, 0, none⟩ 1 1 [.int .i64 y] rfl rfl (cell_one_newT _ _ _) (by intro u hu; simp at hu; subst hu; rfl) (by unfold maxLen; omega) (by omega) (by simp; omega) ?_)
                | go_in)
              intro v6 w6 hown6 hgrow6 _
              have hb6 := B3.out.trans (((Below.refl _ _).alloc hsz3 _) |>.grown hgrow6 (by simp; omega) (fun g hg => (HR3.out.lt g hg).1))
              have hown8 : w6.ownsRow w.heap.size 3 1 v6 (onL l f many (k + 1)).length ((onL l f many (k + 1)).map (Value.int .i64)) := by
                rw [HON2.out, List.length_append, HM.out]; simpa using hown6
              have hown7 := hide hown8
              clear hown6 hgrow6 hown8
              go_wp2
              go_roundw
              case rel => exact ⟨k + 1, by omega, by go_num, hown7.out, hb6⟩
              case measure => simp [intOf]; omega
          · have hon2 : onL l f many (k + 1) = ns := by rw [HON.out, if_neg (fun hh => hlm hh.1)]
            have HON2 := hide hon2
            clear hon2
            go_wp2
            go_roundw
            case rel => exact ⟨k + 1, by omega, by go_num, by rw [HON2.out, HM.out]; exact HROW.out, B0.out⟩
            case measure => simp [intOf]; omega
        · obtain rfl : k = n := by omega
          have hltI : ¬ (k : Int) < (k : Int) := by omega
          by_cases hlm : ((onL l f many k).length : Int) < many
          · have hrr := HRES.out true (by simp [hlm])
            obtain ⟨m, hmm⟩ : ∃ m, m = (onL l f many k).length := ⟨_, rfl⟩
            rw [← hmm] at hlm ⊢
            have HR := hide hrr
            have B0 := hide hbel
            clear hown hsl hrr hmm hbel
            go_wp2
            go_ret2
            exact ⟨_, by rw [HR.out]; rfl, by rw [HR.out]; exact World.ownsRow_nil _ _ _ _, B0.out⟩
          · have hrr := HRES.out false (by simp [hlm])
            have HO := hide hown
            obtain ⟨m, hmm⟩ : ∃ m, m = (onL l f many k).length := ⟨_, rfl⟩
            rw [← hmm] at hlm HO ⊢
            have HMM := hide hmm
            have HR := hide hrr
            have B0 := hide hbel
            clear hown hsl hrr hmm hbel
            go_wp2
            go_ret2
            exact ⟨_, by rw [HR.out]; rfl, by rw [HR.out]; simp only [Bool.false_eq_true, if_false, Option.getD_some]; rw [← HMM.out]; exact HO.out, B0.out⟩
    · have hr' : r = none := by rw [hr]; unfold onRes; rw [if_neg (fun hh => hm hh.1.2)]
      have HR := hide hr'
      have D1 := hide (l3Ring_any a l n cap h w hn hs hn2 true (by simp [hg]))
      have C2 := hide (fun w => l1In_no many 1 8 w hm)
      clear hr hr' hg hs hn hm
      go_enter Try.func17, Try.ntmps17
      go_wp2_with fail
      refine D1.out.mono ?_
      rintro e w1 ⟨rfl, hb1⟩
      have B1 := hide hb1
      clear hb1
      go_wp2_with fail
      refine (C2.out _).mono ?_
      rintro e w1 ⟨rfl, rfl⟩
      go_wp2
      go_ret2
      exact ⟨_, by rw [HR.out]; rfl, by rw [HR.out]; exact World.ownsRow_nil _ _ _ _, B1.out⟩
  · have hr' : r = none := by rw [hr]; unfold onRes; rw [if_neg (fun hh => hg hh.1.1)]
    have HR := hide hr'
    have D1 := hide (l3Ring_any a l n cap h w hn hs hn2 false (by simp [hg]))
    clear hr hr' hg hs hn
    go_enter Try.func17, Try.ntmps17
    go_wp2_with fail
    refine D1.out.mono ?_
    rintro e w1 ⟨rfl, hb1⟩
    go_wp2
    go_ret2
    exact ⟨_, by rw [HR.out]; rfl, by rw [HR.out]; exact World.ownsRow_nil _ _ _ _, hb1⟩
end Go.Proofs.Ytkjljkfjcngkcaa.L3
