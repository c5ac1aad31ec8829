/-
  Contracts: spec.TopOf: the numbers of the first ones, from the greatest down, in new memory.
  Contracts of the laws' own helpers szLabel, szLabelS: what is left of a number when a list's length and its texts' lengths are taken off, -1 where they are too long.
  Contracts of the laws' own helpers szTotal, szTotalS: what is left of a number when lengths are taken off, -1 where they are too long.
  Contracts of the laws' own helpers on lists of labels: laws.eqLabelS says that two lists alike are alike; what the copying of a list wants.
  Contracts of the laws' own helpers on lists of labels: laws.toLabelS copies a list into new memory.
  Contracts of the laws' own helpers: laws.toTotal, laws.toTotalS copy into new memory.
  Contracts of the laws' own helpers: laws.eqTotal, laws.eqTotalS say that what is alike is alike.
  A row of bytes as a text. Nothing of the program's text is proved here but closed facts on its types.
-/
import Derived.Test.YtohcjafklfemfamBundle5
import Derived.Test.YtohcjafklfemfamBundle6
import Derived.Test.YtohcjafklfemfamBundle2
import Derived.Deep.RegionHeld3
import Derived.Test.YtohcjafklfemfamBundle1
namespace Go.Proofs.Ytohcjafklfemfam.SrtI
open Go.RowKit L1 Srt
set_option linter.unusedVariables false

open Classical in
set_option maxRecDepth 100000 in
set_option maxHeartbeats 4000000 in
theorem specTopOf_any (a : Option Addr) (L : List L14T.Rw) (n cap : Nat) (op many : Int) (w : World) (hn : L.length = n) (hm : n ≤ 1048576) (hs : L14T.SlR w a L) (hst : L14T.TxR L) (hlx : ∀ j, j < L.length → (L14T.gr L j).l.length ≤ 1048576) (r : Option (List Int)) (hr : r = topRes L op many) :
    Calls Try.prog 26 #[.slice a n cap, .int .i64 op, .int .i64 many] w fun e w' => L14T.RetI w r e w' := by
  obtain ⟨i1, hi1, hy0, hy1, hy2⟩ := info_parts info_int
  have HS := hide hs
  by_cases hg : L14T.GoodT L
  · have CG := hide (L14T.specGoodTotals_any a L n cap w hn hm hs hst hlx true (by simp [hg]))
    by_cases hop : L14T.okOp op
    · have CI := hide (fun w => Own.l1In_any op 1 4 w true ⟨fun _ => (L14T.okOp_iff op).1 hop, fun _ => rfl⟩)
      by_cases hmn : 0 ≤ many ∧ many ≤ 40
      · obtain ⟨mm, rfl⟩ : ∃ mm : Nat, many = (mm : Int) := ⟨many.toNat, by omega⟩
        have CM := hide (fun w => Own.l1In_any (mm : Int) 0 40 w true (by simp; omega))
        obtain ⟨v, hvv⟩ : ∃ v, v = L.map (L14T.valOf op) := ⟨_, rfl⟩
        have hvl : v.length = n := by rw [hvv]; simp [hn]
        have HR := hide (fun l (hl : IsTop v l) => (by rw [hr, topRes_some ⟨⟨hg, hop⟩, by omega, by omega⟩ (by rw [← hvv]; exact hl)]; rfl : r = some (l.take mm)))
        have CK := hide (fun w hs => L14T.sValues_any a L n cap op w hn hm hs hop)
        rw [L14T.vals_ints, ← hvv] at CK
        have hg40 := hg.1
        have HVL := hide hvl
        have HN40 : n ≤ 40 := by omega
        have HM40 : mm ≤ 40 := by omega
        clear hr hs hst hlx hn hvv hvl hg40 hm hg
        go_enter Try.func26, Try.ntmps26
        go_wp2_with fail
        refine CG.out.mono ?_
        rintro e w1 ⟨rfl, hb1⟩
        have B1 := hide hb1
        clear hb1
        go_wp2_with fail
        refine (CI.out _).mono ?_
        rintro e w2 ⟨rfl, rfl⟩
        go_wp2_with fail
        refine (CM.out _).mono ?_
        rintro e w2 ⟨rfl, rfl⟩
        go_wp2_with fail
        refine (CK.out _ (HS.out.below B1.out)).mono ?_
        rintro e w2 ⟨vv, rfl, ho, hb⟩
        obtain ⟨va, vc, rfl, hsl, _⟩ := own_form ho
        have HSL := hide hsl
        have B2 := hide (B1.out.trans (hb.mono B1.out.size))
        clear ho hb hsl
        go_wp2
        go_loopw [9, 32] (fun ot i wr => ∃ (k : Nat) (M : List Int), k ≤ n ∧ i = .int .i64 k ∧ wr.ownsRow w2.heap.size 3 1 ot k (M.map (Value.int .i64)) ∧ IsTopN v k M ∧ Below w2.heap.size w2 wr) (fun _ i _ => n - (intOf i).toNat)
        case atStart => exact ⟨0, [], Nat.zero_le _, rfl, World.ownsRow_nil _ _ _ _, IsTopN.nil v, Below.refl _ _⟩
        case round =>
          obtain ⟨k, M, hk, rfl, hown, htop, hbel⟩ := hrel
          have hMl := htop.len
          by_cases hlt : k < n
          · have hltI : (k : Int) < (n : Int) := by omega
            have hrd := HSL.out.below hbel
            obtain ⟨b, off, rfl, ck⟩ := hrd k (by rw [HVL.out]; exact hlt)
            have rd : Hid (∀ x : Nat, x < n → wr.cell? ⟨b, off + x, none⟩ = some (.int .i64 (vat v (x : Int)))) := hide (fun x hx => by
              obtain ⟨b', off', e, c⟩ := hrd x (by rw [HVL.out]; exact hx)
              cases e
              exact c)
            have TN := hide htop
            have BB := hide hbel
            have O := hide hown
            obtain ⟨vk, hvk⟩ : ∃ q, q = vat v (k : Int) := ⟨_, rfl⟩
            have ck2 : wr.cell? ⟨b, off + k, none⟩ = some (.int .i64 vk) := by rw [hvk]; exact rd.out k hlt
            have HVK := hide hvk
            clear hrd ck htop hbel hown hvk
            rcases O.out.2 with ⟨e1, h0⟩ | ⟨g, ocap, cur, e1, hbg, hgg, hcap, _⟩
            · cases e1
              subst h0
              have ck3 : wr.cell? ⟨b, off, none⟩ = some (.int .i64 vk) := ck2
              clear ck2
              have hkI : (0 : Int) < (n : Int) := by omega
              go_wp2
              go_loop [12] (fun t => t = .int .i64 0) (fun _ => 0)
              case atStart => rfl
              case round =>
                subst hrel
                have hge : ∀ t, t < 0 → vat v ((0 : Nat) : Int) ≤ vat v (gi M t) := fun t ht => absurd ht (by omega)
                have HX := hide hge
                clear hge
                go_upto_region 11 with fail
                refine wp_region_lit ?_
                refine wpList_build0I rfl rfl ?_
                simp only [Act.put, List.setIfInBounds_toArray, List.set_cons_zero, List.set_cons_succ]
                obtain ⟨V, hV⟩ : ∃ V, wr.alloc (.cells #[] 3) = V := ⟨_, rfl⟩
                have eV : Below wr.heap.size wr V := by rw [← hV]; exact (Below.refl _ _).alloc (Nat.le_refl _) _
                have DV := hide (show V.ownsRow wr.heap.size 3 1 (.slice (some ⟨wr.heap.size, 0, none⟩) 0 0) 0 [] by rw [← hV]; exact own_emptyC wr wr.heap.size (Nat.le_refl _))
                have OV := hide (L14T.own_belowR O.out eV)
                have NV := hide eV
                rw [hV]
                clear hV eV
                refine wpList_plain rfl fun K1 hK1 => ?_
                unfold Oper.wp execOp
                go_simp
                refine hK1 _ _ ?_
                clear hK1 K1
                refine wpList_plain rfl fun K1 hK1 => ?_
                unfold Oper.wp execOp
                go_simp
                refine hK1 _ _ ?_
                clear hK1 K1
                refine wpList_plain rfl fun K1 hK1 => ?_
                unfold Oper.wp execOp
                go_simp
                refine hK1 _ _ ?_
                clear hK1 K1
                refine wpList_append_intsC rfl _ _ rfl wr.heap.size (.slice (some ⟨wr.heap.size, 0, none⟩) 0 0) 0 [] rfl DV.out none 0 0 rfl (((M.drop 0).take 0).map (Value.int .i64)) (by rw [List.length_map, List.length_take, List.drop_zero]; omega) (fun h => absurd h (by omega)) (ints_oneC _) (by omega) NV.out.size ?_
                intro va3 w3 hrow3 hg3 _
                rw [Nat.zero_add, List.nil_append, List.drop_zero] at hrow3
                have E3 := hide (show Below wr.heap.size wr w3 from NV.out.grown hg3 NV.out.size (fun q hq => by simp [Value.ownBlock] at hq; omega))
                have R3 := hide hrow3
                clear hrow3 hg3
                go_wp2_with (first
                  | (at_builtin; refine wpList_append_own _ rfl _ _ 37 rfl wr.heap.size 3 i1 (.int .i64 0) 1 8 Try.underlying37 hi1 hy0 hy1 hy2 rfl (by decide) va3 _ _ rfl (R3.out.alloc _) ⟨w3.heap.size, 0, none⟩ 1 1 [.int .i64 0] rfl rfl (L14T.cell_oneV _ _ _) (by intro u hu; simp at hu; subst hu; rfl) (by unfold maxLen; omega) (by omega) (by have := E3.out.size; simp; omega) ?_)
                  | go_in)
                intro va4 w4 hrow4 hg4 _
                have E4 := hide (show Below wr.heap.size wr w4 from E3.out.trans (((Below.refl wr.heap.size w3).alloc E3.out.size _).grown hg4 (by have := E3.out.size; simp; omega) (fun g hg => (R3.out.lt g hg).1)))
                have R4 := hide hrow4
                have O4 := hide (L14T.own_belowR O.out E4.out)
                clear hrow4 hg4
                go_upto_region 13 with fail
                refine wp_region_lit ?_
                refine wpList_plain rfl fun K1 hK1 => ?_
                unfold Oper.wp execOp
                go_simp
                refine hK1 _ _ ?_
                clear hK1 K1
                refine wpList_plain rfl fun K1 hK1 => ?_
                unfold Oper.wp execOp
                go_simp
                refine hK1 _ _ ?_
                clear hK1 K1
                refine wpList_plain rfl fun K1 hK1 => ?_
                unfold Oper.wp execOp
                go_simp
                refine hK1 _ _ ?_
                clear hK1 K1
                refine wpList_plain rfl fun K1 hK1 => ?_
                unfold Oper.wp execOp
                go_simp
                refine hK1 _ _ ?_
                clear hK1 K1
                refine wpList_append_intsC rfl _ _ rfl wr.heap.size va4 (0 + 1) _ rfl R4.out _ 0 _ rfl [] (by simp) (fun h => absurd h (by omega)) (by simp) (by omega) E4.out.size ?_
                intro va5 w5 hrow5 hg5 _
                have E5 := hide (show Below wr.heap.size wr w5 from E4.out.grown hg5 E4.out.size (fun q hq => (R4.out.lt q hq).1))
                have hfe : M = [] := List.eq_nil_of_length_eq_zero (by omega)
                have hrow6 : w5.ownsRow wr.heap.size 3 1 va5 (0 + 1) ((insI M 0 (0 : Int)).map (Value.int .i64)) := Eq.mp (by congr 1 <;> first | omega | (simp [insI, hfe]; done)) hrow5
                have R5 := hide (L14T.own_baseR hrow6 BB.out.size)
                have T5 := hide (TN.out.ins 0 (by omega) HX.out (by intro h; omega))
                have B5 := hide (BB.out.trans (E5.out.mono BB.out.size))
                clear hrow5 hrow6 hg5 hfe
                go_wp2
                go_roundw
                case rel => exact ⟨0 + 1, insI M 0 (0 : Int), by omega, by go_num, R5.out, T5.out, B5.out⟩
                case measure => simp [intOf]; omega
            · cases e1
              have hcn : k ≤ ocap := hcap
              have rdo : Hid (∀ q, q < k → wr.cell? ⟨g, q, none⟩ = some (.int .i64 (gi M q))) := hide (fun q hq => by
                obtain ⟨a', c', e, hs', _⟩ := own_form O.out
                cases e
                obtain ⟨b', off', e, c⟩ := hs' q (by omega)
                cases e
                rw [Nat.zero_add] at c
                exact c)
              clear hbg hgg hcap
              go_wp2
              go_loop [12] (fun t => ∃ q : Nat, q ≤ k ∧ t = .int .i64 q ∧ ∀ s, s < q → vat v (k : Int) ≤ vat v (gi M s)) (fun t => k - (intOf t).toNat)
              case atStart => exact ⟨0, Nat.zero_le _, rfl, fun s hs => absurd hs (by omega)⟩
              case round =>
                obtain ⟨q, hq, rfl, hge⟩ := hrel
                by_cases hqk : q < k
                · have hqI : (q : Int) < (k : Int) := by omega
                  have c1 := rdo.out q hqk
                  have hr1 := TN.out.rng q (by omega)
                  obtain ⟨y, hy⟩ : ∃ y : Nat, gi M q = (y : Int) := ⟨(gi M q).toNat, by omega⟩
                  rw [hy] at c1 hr1
                  have hyn : y < n := by omega
                  have hyI : (y : Int) < (n : Int) := by omega
                  have c2 := rd.out y hyn
                  obtain ⟨vy, hvy⟩ : ∃ z, z = vat v (y : Int) := ⟨_, rfl⟩
                  rw [← hvy] at c2
                  have HVY := hide hvy
                  clear hvy hr1
                  have HY := hide hy
                  clear hy
                  by_cases hv : vk ≤ vy
                  · have HG := hide hge
                    clear hge
                    go_wp2
                    go_round
                    case rel => exact ⟨q + 1, by omega, by go_num, fun s hs => by
                      by_cases e : s < q
                      · exact HG.out s e
                      · obtain rfl : s = q := by omega
                        rw [HY.out, ← HVY.out, ← HVK.out]
                        exact hv⟩
                    case measure => simp [intOf]; omega
                  · have hv2 : vy < vk := by omega
                    have hqc : ¬ ocap = q := by omega
                    have hqC : (q : Int) ≤ (ocap : Int) := by omega
                    have hqK : (q : Int) ≤ (k : Int) := by omega
                    have HX := hide hge
                    clear hge
                    go_upto_region 11 with fail
                    refine wp_region_lit ?_
                    refine wpList_build0I rfl rfl ?_
                    simp only [Act.put, List.setIfInBounds_toArray, List.set_cons_zero, List.set_cons_succ]
                    obtain ⟨V, hV⟩ : ∃ V, wr.alloc (.cells #[] 3) = V := ⟨_, rfl⟩
                    have eV : Below wr.heap.size wr V := by rw [← hV]; exact (Below.refl _ _).alloc (Nat.le_refl _) _
                    have DV := hide (show V.ownsRow wr.heap.size 3 1 (.slice (some ⟨wr.heap.size, 0, none⟩) 0 0) 0 [] by rw [← hV]; exact own_emptyC wr wr.heap.size (Nat.le_refl _))
                    have OV := hide (L14T.own_belowR O.out eV)
                    have NV := hide eV
                    rw [hV]
                    clear hV eV
                    refine wpList_plain rfl fun K1 hK1 => ?_
                    unfold Oper.wp execOp
                    go_simp
                    refine hK1 _ _ ?_
                    clear hK1 K1
                    refine wpList_plain rfl fun K1 hK1 => ?_
                    unfold Oper.wp execOp
                    go_simp
                    refine hK1 _ _ ?_
                    clear hK1 K1
                    refine wpList_plain rfl fun K1 hK1 => ?_
                    unfold Oper.wp execOp
                    go_simp
                    refine hK1 _ _ ?_
                    clear hK1 K1
                    refine wpList_append_intsC rfl _ _ rfl wr.heap.size (.slice (some ⟨wr.heap.size, 0, none⟩) 0 0) 0 [] rfl DV.out (some ⟨g, 0, none⟩) q ocap rfl (((M.drop 0).take q).map (Value.int .i64)) (by rw [List.length_map, List.length_take, List.drop_zero]; omega) (fun _ => ⟨⟨g, 0, none⟩, rfl, by have h := int_cellsC OV.out 0 q; exact h⟩) (ints_oneC _) (by omega) NV.out.size ?_
                    intro va3 w3 hrow3 hg3 _
                    rw [Nat.zero_add, List.nil_append, List.drop_zero] at hrow3
                    have E3 := hide (show Below wr.heap.size wr w3 from NV.out.grown hg3 NV.out.size (fun q hq => by simp [Value.ownBlock] at hq; omega))
                    have R3 := hide hrow3
                    clear hrow3 hg3
                    go_wp2_with (first
                      | (at_builtin; refine wpList_append_own _ rfl _ _ 37 rfl wr.heap.size 3 i1 (.int .i64 0) 1 8 Try.underlying37 hi1 hy0 hy1 hy2 rfl (by decide) va3 _ _ rfl (R3.out.alloc _) ⟨w3.heap.size, 0, none⟩ 1 1 [.int .i64 (k : Int)] rfl rfl (L14T.cell_oneV _ _ _) (by intro u hu; simp at hu; subst hu; rfl) (by unfold maxLen; omega) (by omega) (by have := E3.out.size; simp; omega) ?_)
                      | go_in)
                    intro va4 w4 hrow4 hg4 _
                    have E4 := hide (show Below wr.heap.size wr w4 from E3.out.trans (((Below.refl wr.heap.size w3).alloc E3.out.size _).grown hg4 (by have := E3.out.size; simp; omega) (fun g hg => (R3.out.lt g hg).1)))
                    have R4 := hide hrow4
                    have O4 := hide (L14T.own_belowR O.out E4.out)
                    clear hrow4 hg4
                    go_upto_region 13 with fail
                    refine wp_region_lit ?_
                    refine wpList_plain rfl fun K1 hK1 => ?_
                    unfold Oper.wp execOp
                    go_simp
                    refine hK1 _ _ ?_
                    clear hK1 K1
                    refine wpList_plain rfl fun K1 hK1 => ?_
                    unfold Oper.wp execOp
                    go_simp
                    refine hK1 _ _ ?_
                    clear hK1 K1
                    refine wpList_plain rfl fun K1 hK1 => ?_
                    unfold Oper.wp execOp
                    go_simp
                    refine hK1 _ _ ?_
                    clear hK1 K1
                    refine wpList_plain rfl fun K1 hK1 => ?_
                    unfold Oper.wp execOp
                    go_simp
                    refine hK1 _ _ ?_
                    clear hK1 K1
                    refine wpList_append_intsC rfl _ _ rfl wr.heap.size va4 (q + 1) _ rfl R4.out (some ⟨g, q, none⟩) (k - q) (ocap - q) rfl (((M.drop q).take (k - q)).map (Value.int .i64)) (by rw [List.length_map, List.length_take, List.length_drop]; omega) (fun _ => ⟨⟨g, q, none⟩, rfl, int_cellsC O4.out q (k - q)⟩) (ints_oneC _) (by omega) E4.out.size ?_
                    intro va5 w5 hrow5 hg5 _
                    have E5 := hide (show Below wr.heap.size wr w5 from E4.out.grown hg5 E4.out.size (fun q hq => (R4.out.lt q hq).1))
                    have hfe : (M.drop q).take (k - q) = M.drop q := List.take_of_length_le (by rw [List.length_drop]; omega)
                    have hrow6 : w5.ownsRow wr.heap.size 3 1 va5 (k + 1) ((insI M q (k : Int)).map (Value.int .i64)) := Eq.mp (by congr 1 <;> first | omega | (simp [insI, hfe]; done)) hrow5
                    have R5 := hide (L14T.own_baseR hrow6 BB.out.size)
                    have T5 := hide (TN.out.ins q (by omega) HX.out (by intro _; rw [HY.out, ← HVY.out, ← HVK.out]; exact hv2))
                    have B5 := hide (BB.out.trans (E5.out.mono BB.out.size))
                    clear hrow5 hrow6 hg5 hfe
                    go_wp2
                    go_roundw
                    case rel => exact ⟨k + 1, insI M q (k : Int), by omega, by go_num, R5.out, T5.out, B5.out⟩
                    case measure => simp [intOf]; omega
                · obtain rfl : q = k := by omega
                  have hqI : ¬ (q : Int) < (q : Int) := by omega
                  have hqC : (q : Int) ≤ (ocap : Int) := by omega
                  by_cases hqc : ocap = q
                  · subst hqc
                    have HX := hide hge
                    clear hge
                    go_upto_region 11 with fail
                    refine wp_region_lit ?_
                    refine wpList_build0I rfl rfl ?_
                    simp only [Act.put, List.setIfInBounds_toArray, List.set_cons_zero, List.set_cons_succ]
                    obtain ⟨V, hV⟩ : ∃ V, wr.alloc (.cells #[] 3) = V := ⟨_, rfl⟩
                    have eV : Below wr.heap.size wr V := by rw [← hV]; exact (Below.refl _ _).alloc (Nat.le_refl _) _
                    have DV := hide (show V.ownsRow wr.heap.size 3 1 (.slice (some ⟨wr.heap.size, 0, none⟩) 0 0) 0 [] by rw [← hV]; exact own_emptyC wr wr.heap.size (Nat.le_refl _))
                    have OV := hide (L14T.own_belowR O.out eV)
                    have NV := hide eV
                    rw [hV]
                    clear hV eV
                    refine wpList_plain rfl fun K1 hK1 => ?_
                    unfold Oper.wp execOp
                    go_simp
                    refine hK1 _ _ ?_
                    clear hK1 K1
                    refine wpList_plain rfl fun K1 hK1 => ?_
                    unfold Oper.wp execOp
                    go_simp
                    refine hK1 _ _ ?_
                    clear hK1 K1
                    refine wpList_plain rfl fun K1 hK1 => ?_
                    unfold Oper.wp execOp
                    go_simp
                    refine hK1 _ _ ?_
                    clear hK1 K1
                    refine wpList_append_intsC rfl _ _ rfl wr.heap.size (.slice (some ⟨wr.heap.size, 0, none⟩) 0 0) 0 [] rfl DV.out (some ⟨g, 0, none⟩) ocap ocap rfl (((M.drop 0).take ocap).map (Value.int .i64)) (by rw [List.length_map, List.length_take, List.drop_zero]; omega) (fun _ => ⟨⟨g, 0, none⟩, rfl, by have h := int_cellsC OV.out 0 ocap; exact h⟩) (ints_oneC _) (by omega) NV.out.size ?_
                    intro va3 w3 hrow3 hg3 _
                    rw [Nat.zero_add, List.nil_append, List.drop_zero] at hrow3
                    have E3 := hide (show Below wr.heap.size wr w3 from NV.out.grown hg3 NV.out.size (fun q hq => by simp [Value.ownBlock] at hq; omega))
                    have R3 := hide hrow3
                    clear hrow3 hg3
                    go_wp2_with (first
                      | (at_builtin; refine wpList_append_own _ rfl _ _ 37 rfl wr.heap.size 3 i1 (.int .i64 0) 1 8 Try.underlying37 hi1 hy0 hy1 hy2 rfl (by decide) va3 _ _ rfl (R3.out.alloc _) ⟨w3.heap.size, 0, none⟩ 1 1 [.int .i64 (ocap : Int)] rfl rfl (L14T.cell_oneV _ _ _) (by intro u hu; simp at hu; subst hu; rfl) (by unfold maxLen; omega) (by omega) (by have := E3.out.size; simp; omega) ?_)
                      | go_in)
                    intro va4 w4 hrow4 hg4 _
                    have E4 := hide (show Below wr.heap.size wr w4 from E3.out.trans (((Below.refl wr.heap.size w3).alloc E3.out.size _).grown hg4 (by have := E3.out.size; simp; omega) (fun g hg => (R3.out.lt g hg).1)))
                    have R4 := hide hrow4
                    have O4 := hide (L14T.own_belowR O.out E4.out)
                    clear hrow4 hg4
                    go_upto_region 13 with fail
                    refine wp_region_lit ?_
                    refine wpList_plain rfl fun K1 hK1 => ?_
                    unfold Oper.wp execOp
                    go_simp
                    refine hK1 _ _ ?_
                    clear hK1 K1
                    refine wpList_plain rfl fun K1 hK1 => ?_
                    unfold Oper.wp execOp
                    go_simp
                    refine hK1 _ _ ?_
                    clear hK1 K1
                    refine wpList_plain rfl fun K1 hK1 => ?_
                    unfold Oper.wp execOp
                    go_simp
                    refine hK1 _ _ ?_
                    clear hK1 K1
                    refine wpList_plain rfl fun K1 hK1 => ?_
                    unfold Oper.wp execOp
                    go_simp
                    refine hK1 _ _ ?_
                    clear hK1 K1
                    refine wpList_append_intsC rfl _ _ rfl wr.heap.size va4 (ocap + 1) _ rfl R4.out _ 0 _ rfl [] (by simp) (fun h => absurd h (by omega)) (by simp) (by omega) E4.out.size ?_
                    intro va5 w5 hrow5 hg5 _
                    have E5 := hide (show Below wr.heap.size wr w5 from E4.out.grown hg5 E4.out.size (fun q hq => (R4.out.lt q hq).1))
                    have hfe : M.drop ocap = [] := List.drop_eq_nil_of_le (by omega)
                    have hrow6 : w5.ownsRow wr.heap.size 3 1 va5 (ocap + 1) ((insI M ocap (ocap : Int)).map (Value.int .i64)) := Eq.mp (by congr 1 <;> first | omega | (simp [insI, hfe]; done)) hrow5
                    have R5 := hide (L14T.own_baseR hrow6 BB.out.size)
                    have T5 := hide (TN.out.ins ocap (by omega) HX.out (by intro h; omega))
                    have B5 := hide (BB.out.trans (E5.out.mono BB.out.size))
                    clear hrow5 hrow6 hg5 hfe
                    go_wp2
                    go_roundw
                    case rel => exact ⟨ocap + 1, insI M ocap (ocap : Int), by omega, by go_num, R5.out, T5.out, B5.out⟩
                    case measure => simp [intOf]; omega
                  · clear hcn
                    have HX := hide hge
                    clear hge
                    go_upto_region 11 with fail
                    refine wp_region_lit ?_
                    refine wpList_build0I rfl rfl ?_
                    simp only [Act.put, List.setIfInBounds_toArray, List.set_cons_zero, List.set_cons_succ]
                    obtain ⟨V, hV⟩ : ∃ V, wr.alloc (.cells #[] 3) = V := ⟨_, rfl⟩
                    have eV : Below wr.heap.size wr V := by rw [← hV]; exact (Below.refl _ _).alloc (Nat.le_refl _) _
                    have DV := hide (show V.ownsRow wr.heap.size 3 1 (.slice (some ⟨wr.heap.size, 0, none⟩) 0 0) 0 [] by rw [← hV]; exact own_emptyC wr wr.heap.size (Nat.le_refl _))
                    have OV := hide (L14T.own_belowR O.out eV)
                    have NV := hide eV
                    rw [hV]
                    clear hV eV
                    refine wpList_plain rfl fun K1 hK1 => ?_
                    unfold Oper.wp execOp
                    go_simp
                    refine hK1 _ _ ?_
                    clear hK1 K1
                    refine wpList_plain rfl fun K1 hK1 => ?_
                    unfold Oper.wp execOp
                    go_simp
                    refine hK1 _ _ ?_
                    clear hK1 K1
                    refine wpList_plain rfl fun K1 hK1 => ?_
                    unfold Oper.wp execOp
                    go_simp
                    refine hK1 _ _ ?_
                    clear hK1 K1
                    refine wpList_append_intsC rfl _ _ rfl wr.heap.size (.slice (some ⟨wr.heap.size, 0, none⟩) 0 0) 0 [] rfl DV.out (some ⟨g, 0, none⟩) q ocap rfl (((M.drop 0).take q).map (Value.int .i64)) (by rw [List.length_map, List.length_take, List.drop_zero]; omega) (fun _ => ⟨⟨g, 0, none⟩, rfl, by have h := int_cellsC OV.out 0 q; exact h⟩) (ints_oneC _) (by omega) NV.out.size ?_
                    intro va3 w3 hrow3 hg3 _
                    rw [Nat.zero_add, List.nil_append, List.drop_zero] at hrow3
                    have E3 := hide (show Below wr.heap.size wr w3 from NV.out.grown hg3 NV.out.size (fun q hq => by simp [Value.ownBlock] at hq; omega))
                    have R3 := hide hrow3
                    clear hrow3 hg3
                    go_wp2_with (first
                      | (at_builtin; refine wpList_append_own _ rfl _ _ 37 rfl wr.heap.size 3 i1 (.int .i64 0) 1 8 Try.underlying37 hi1 hy0 hy1 hy2 rfl (by decide) va3 _ _ rfl (R3.out.alloc _) ⟨w3.heap.size, 0, none⟩ 1 1 [.int .i64 (q : Int)] rfl rfl (L14T.cell_oneV _ _ _) (by intro u hu; simp at hu; subst hu; rfl) (by unfold maxLen; omega) (by omega) (by have := E3.out.size; simp; omega) ?_)
                      | go_in)
                    intro va4 w4 hrow4 hg4 _
                    have E4 := hide (show Below wr.heap.size wr w4 from E3.out.trans (((Below.refl wr.heap.size w3).alloc E3.out.size _).grown hg4 (by have := E3.out.size; simp; omega) (fun g hg => (R3.out.lt g hg).1)))
                    have R4 := hide hrow4
                    have O4 := hide (L14T.own_belowR O.out E4.out)
                    clear hrow4 hg4
                    go_upto_region 13 with fail
                    refine wp_region_lit ?_
                    refine wpList_plain rfl fun K1 hK1 => ?_
                    unfold Oper.wp execOp
                    go_simp
                    refine hK1 _ _ ?_
                    clear hK1 K1
                    refine wpList_plain rfl fun K1 hK1 => ?_
                    unfold Oper.wp execOp
                    go_simp
                    refine hK1 _ _ ?_
                    clear hK1 K1
                    refine wpList_plain rfl fun K1 hK1 => ?_
                    unfold Oper.wp execOp
                    go_simp
                    refine hK1 _ _ ?_
                    clear hK1 K1
                    refine wpList_plain rfl fun K1 hK1 => ?_
                    unfold Oper.wp execOp
                    go_simp
                    refine hK1 _ _ ?_
                    clear hK1 K1
                    refine wpList_append_intsC rfl _ _ rfl wr.heap.size va4 (q + 1) _ rfl R4.out _ 0 _ rfl [] (by simp) (fun h => absurd h (by omega)) (by simp) (by omega) E4.out.size ?_
                    intro va5 w5 hrow5 hg5 _
                    have E5 := hide (show Below wr.heap.size wr w5 from E4.out.grown hg5 E4.out.size (fun q hq => (R4.out.lt q hq).1))
                    have hfe : M.drop q = [] := List.drop_eq_nil_of_le (by omega)
                    have hrow6 : w5.ownsRow wr.heap.size 3 1 va5 (q + 1) ((insI M q (q : Int)).map (Value.int .i64)) := Eq.mp (by congr 1 <;> first | omega | (simp [insI, hfe]; done)) hrow5
                    have R5 := hide (L14T.own_baseR hrow6 BB.out.size)
                    have T5 := hide (TN.out.ins q (by omega) HX.out (by intro h; omega))
                    have B5 := hide (BB.out.trans (E5.out.mono BB.out.size))
                    clear hrow5 hrow6 hg5 hfe
                    go_wp2
                    go_roundw
                    case rel => exact ⟨q + 1, insI M q (q : Int), by omega, by go_num, R5.out, T5.out, B5.out⟩
                    case measure => simp [intOf]; omega
          · obtain rfl : k = n := by omega
            have hltI : ¬ (k : Int) < (k : Int) := by omega
            have HR2 := hide (HR.out M (htop.top HVL.out.symm))
            have BW := hide (B2.out.trans (hbel.mono B2.out.size))
            have O := hide hown
            clear htop hbel
            by_cases hmk : mm < k
            · have hmI : (mm : Int) < (k : Int) := by omega
              have hmK : (mm : Int) ≤ (k : Int) := by omega
              rcases hown.2 with ⟨e1, h0⟩ | ⟨g, ocap, cur, e1, hbg, hgg, hcap, _⟩
              · omega
              · cases e1
                have hcn : k ≤ ocap := hcap
                have hmC : (mm : Int) ≤ (ocap : Int) := by omega
                clear hbg hgg hcap hown
                go_upto_region 16 with fail
                refine wp_region_lit ?_
                refine wpList_build0I rfl rfl ?_
                simp only [Act.put, List.setIfInBounds_toArray, List.set_cons_zero, List.set_cons_succ]
                obtain ⟨V, hV⟩ : ∃ V, wr.alloc (.cells #[] 3) = V := ⟨_, rfl⟩
                have eV : Below wr.heap.size wr V := by rw [← hV]; exact (Below.refl _ _).alloc (Nat.le_refl _) _
                have DV := hide (show V.ownsRow wr.heap.size 3 1 (.slice (some ⟨wr.heap.size, 0, none⟩) 0 0) 0 [] by rw [← hV]; exact own_emptyC wr wr.heap.size (Nat.le_refl _))
                have OV := hide (L14T.own_belowR O.out eV)
                have NV := hide eV
                rw [hV]
                clear hV eV
                refine wpList_plain rfl fun K1 hK1 => ?_
                unfold Oper.wp execOp
                go_simp
                refine hK1 _ _ ?_
                clear hK1 K1
                refine wpList_plain rfl fun K1 hK1 => ?_
                unfold Oper.wp execOp
                go_simp
                refine hK1 _ _ ?_
                clear hK1 K1
                refine wpList_plain rfl fun K1 hK1 => ?_
                unfold Oper.wp execOp
                go_simp
                refine hK1 _ _ ?_
                clear hK1 K1
                refine wpList_append_intsC rfl _ _ rfl wr.heap.size (.slice (some ⟨wr.heap.size, 0, none⟩) 0 0) 0 [] rfl DV.out (some ⟨g, 0, none⟩) mm ocap rfl (((M.drop 0).take mm).map (Value.int .i64)) (by rw [List.length_map, List.length_take, List.drop_zero]; omega) (fun _ => ⟨⟨g, 0, none⟩, rfl, int_cellsC OV.out 0 mm⟩) (ints_oneC _) (by omega) NV.out.size ?_
                intro va3 w3 hrow3 hg3 _
                rw [Nat.zero_add, List.nil_append, List.drop_zero] at hrow3
                have E3 := hide (show Below wr.heap.size wr w3 from NV.out.grown hg3 NV.out.size (fun q hq => by simp [Value.ownBlock] at hq; omega))
                have R3 := hide (L14T.own_baseR hrow3 BW.out.size)
                have B3 := hide (BW.out.trans (E3.out.mono BW.out.size))
                have HTL : Hid ((M.take mm).length = mm) := hide (by rw [List.length_take]; omega)
                clear hrow3 hg3
                go_wp2
                go_ret2
                exact ⟨_, by rw [HR2.out]; rfl, by rw [HR2.out]; simp only [Option.getD_some]; rw [HTL.out]; exact R3.out, B3.out⟩
            · have hmI : ¬ (mm : Int) < (k : Int) := by omega
              obtain ⟨oa, ocap, rfl⟩ := L14T.own_shapeV hown
              have OW := hide (L14T.own_baseR hown B2.out.size)
              have HTK : Hid (M.take mm = M) := hide (List.take_of_length_le (by omega))
              have HML := hide hMl
              clear hown
              go_wp2
              go_ret2
              exact ⟨_, by rw [HR2.out]; rfl, by rw [HR2.out, HTK.out]; simp only [Option.getD_some]; rw [HML.out]; exact OW.out, BW.out⟩
      · have CM := hide (fun w => Own.l1In_any many 0 40 w false ⟨fun h => absurd h (by simp), fun h => absurd h hmn⟩)
        have HR := hide (show r = none by rw [hr]; exact topRes_none (fun h => hmn ⟨h.2.1, h.2.2⟩))
        clear hr hs hst hlx hn
        go_enter Try.func26, Try.ntmps26
        go_wp2_with fail
        refine CG.out.mono ?_
        rintro e w1 ⟨rfl, hb1⟩
        have B1 := hide hb1
        clear hb1
        go_wp2_with fail
        refine (CI.out _).mono ?_
        rintro e w2 ⟨rfl, rfl⟩
        go_wp2_with fail
        refine (CM.out _).mono ?_
        rintro e w2 ⟨rfl, rfl⟩
        go_wp2
        go_ret2
        exact ⟨_, by rw [HR.out]; rfl, by rw [HR.out]; exact World.ownsRow_nil _ _ _ _, B1.out⟩
    · have CI := hide (fun w => Own.l1In_any op 1 4 w false ⟨fun h => absurd h (by simp), fun h => absurd ((L14T.okOp_iff op).2 h) hop⟩)
      have HR := hide (show r = none by rw [hr]; exact topRes_none (fun h => hop h.1.2))
      clear hr hs hst hlx hn
      go_enter Try.func26, Try.ntmps26
      go_wp2_with fail
      refine CG.out.mono ?_
      rintro e w1 ⟨rfl, hb1⟩
      have B1 := hide hb1
      clear hb1
      go_wp2_with fail
      refine (CI.out _).mono ?_
      rintro e w2 ⟨rfl, rfl⟩
      go_wp2
      go_ret2
      exact ⟨_, by rw [HR.out]; rfl, by rw [HR.out]; exact World.ownsRow_nil _ _ _ _, B1.out⟩
  · have CG := hide (L14T.specGoodTotals_any a L n cap w hn hm hs hst hlx false (by simp [hg]))
    have HR := hide (show r = none by rw [hr]; exact topRes_none (fun h => hg h.1.1))
    clear hr hs hst hlx hn
    go_enter Try.func26, Try.ntmps26
    go_wp2_with fail
    refine CG.out.mono ?_
    rintro e w1 ⟨rfl, hb1⟩
    have B1 := hide hb1
    clear hb1
    go_wp2
    go_ret2
    exact ⟨_, by rw [HR.out]; rfl, by rw [HR.out]; exact World.ownsRow_nil _ _ _ _, B1.out⟩
end Go.Proofs.Ytohcjafklfemfam.SrtI

namespace Go.Proofs.Ytohcjafklfemfam.L3
open Go.RowKit L1
set_option linter.unusedVariables false

/-- The lengths of all texts. -/
def szs : List Lb → Nat
  | [] => 0
  | p :: l => p.1.size + p.2.size + szs l
theorem szs_append : ∀ l m : List Lb, szs (l ++ m) = szs l + szs m
  | [], m => by simp [szs]
  | p :: l, m => by simp [szs, szs_append l m]; omega
theorem szs_take (l : List Lb) (k : Nat) (hk : k < l.length) : szs (l.take (k + 1)) = szs (l.take k) + ((l.getD k eL).1.size + (l.getD k eL).2.size) := by
  rw [List.take_succ_eq_append_getElem hk, szs_append]
  simp [szs, List.getD, List.getElem?_eq_getElem hk]
theorem szs_le (l : List Lb) (k : Nat) : szs (l.take k) ≤ szs l := by
  have h : l = l.take k ++ l.drop k := (List.take_append_drop k l).symm
  have := szs_append (l.take k) (l.drop k)
  rw [← h] at this
  omega
theorem szs_get : ∀ (l : List Lb) (k : Nat), k < l.length → (l.getD k eL).1.size + (l.getD k eL).2.size ≤ szs l
  | [], k, h => by simp at h
  | p :: l, 0, _ => by simp [szs]
  | p :: l, k + 1, h => by
    have := szs_get l k (by simpa using h)
    simp only [List.getD_cons_succ, szs]
    omega
/-- What a list weighs. -/
def wt (l : List Lb) : Nat := l.length + szs l

set_option maxRecDepth 100000 in
set_option maxHeartbeats 400000 in
theorem szLabel_any (x y : ByteArray) (L : Int) (w : World) (hx : x.size ≤ 9223372036854775807) (hy : y.size ≤ 9223372036854775807) (h0 : 0 ≤ L) (h1 : L ≤ 1048576) (r : Int) (hr : r = if ((x.size + y.size : Nat) : Int) ≤ L then L - ((x.size + y.size : Nat) : Int) else -1) :
    Calls Try.prog 77 #[.agg #[.string x, .string y], .int .i64 L] w fun e w' => e = .returned (.int .i64 r) ∧ Below w.heap.size w w' := by
  have HR := hide hr
  clear hr
  by_cases ha : L - (x.size : Int) < 0
  · go_enter Try.func77, Try.ntmps77
    go_wp2
    go_ret
    exact ⟨by rw [HR.out, if_neg (by omega)]; rfl, (Below.refl _ _).alloc (Nat.le_refl _) _⟩
  · by_cases hb : L - (x.size : Int) - (y.size : Int) < 0
    · go_enter Try.func77, Try.ntmps77
      go_wp2
      go_ret
      exact ⟨by rw [HR.out, if_neg (by omega)]; rfl, (Below.refl _ _).alloc (Nat.le_refl _) _⟩
    · have e : L - ((x.size + y.size : Nat) : Int) = L - (x.size : Int) - (y.size : Int) := by omega
      have HE := hide e
      clear e
      go_enter Try.func77, Try.ntmps77
      go_wp2
      go_ret
      exact ⟨by rw [HR.out, if_pos (by omega), HE.out]; rfl, (Below.refl _ _).alloc (Nat.le_refl _) _⟩

set_option maxRecDepth 100000 in
set_option maxHeartbeats 1000000 in
theorem szLabelS_any (a : Option Addr) (l : List Lb) (n cap : Nat) (L : Int) (w : World) (hn : l.length = n) (hm : n ≤ 9223372036854775807) (hs : SlL w a l) (hst : ∀ j, j < l.length → (l.getD j eL).1.size ≤ 9223372036854775807 ∧ (l.getD j eL).2.size ≤ 9223372036854775807) (h0 : 0 ≤ L) (h1 : L ≤ 1048576) (r : Int) (hr : r = if (wt l : Int) ≤ L then L - (wt l : Int) else -1) :
    Calls Try.prog 61 #[.slice a n cap, .int .i64 L] w fun e w' => e = .returned (.int .i64 r) ∧ Below w.heap.size w w' := by
  have HR := hide hr
  have HS := hide hs
  have HN := hide hn
  have HST := hide hst
  clear hr hs hn hst
  have HW : Hid (wt l = n + szs l) := by show wt l = n + szs l; unfold wt; rw [HN.out]
  by_cases ha : L - (n : Int) < 0
  · go_enter Try.func61, Try.ntmps61
    go_wp2
    go_ret
    exact ⟨by rw [HR.out, HW.out, if_neg (by omega)]; rfl, Below.refl _ _⟩
  · go_enter Try.func61, Try.ntmps61
    go_wp2
    go_loopw [1, 5] (fun t i wr => ∃ k : Nat, k ≤ n ∧ i = .int .i64 k ∧ t = .int .i64 (L - (n : Int) - (szs (l.take k) : Int)) ∧ Hid ((szs (l.take k) : Int) ≤ L - (n : Int)) ∧ Below w.heap.size w wr) (fun _ i _ => n - (intOf i).toNat)
    case atStart => exact ⟨0, Nat.zero_le _, rfl, by simp [szs], by show (szs (l.take 0) : Int) ≤ L - (n : Int); simp [szs]; omega, Below.refl _ _⟩
    case round =>
      obtain ⟨k, hk, rfl, rfl, HK, hbel⟩ := hrel
      by_cases hlt : k < n
      · obtain ⟨b, off, rfl, hc0, hd0⟩ := HS.out k (by rw [HN.out]; exact hlt)
        have hc := (hbel.cell (p := ⟨b, off + k * 2, none⟩) (blk_lt hc0)).trans hc0
        have hd := (hbel.cell (p := ⟨b, off + k * 2 + 1, none⟩) (blk_lt hd0)).trans hd0
        have hltI : (k : Int) < (n : Int) := by omega
        have hsx := HST.out k (by rw [HN.out]; exact hlt)
        have htk := szs_take l k (by rw [HN.out]; exact hlt)
        have hle := szs_le l (k + 1)
        obtain ⟨x, hx⟩ : ∃ x, x = (l.getD k eL).1 := ⟨_, rfl⟩
        obtain ⟨y, hy⟩ : ∃ y, y = (l.getD k eL).2 := ⟨_, rfl⟩
        rw [← hx] at hc hsx htk
        rw [← hy] at hd hsx htk
        obtain ⟨c, hcc⟩ : ∃ c, c = L - (n : Int) - (szs (l.take k) : Int) := ⟨_, rfl⟩
        have hc0 : 0 ≤ c := by have := HK.out; omega
        have hc1 : c ≤ 1048576 := by omega
        rw [← hcc]
        have HC := hide hcc
        have HTK := hide htk
        have HLE := hide hle
        have B0 := hide hbel
        clear hx hy hcc htk hle hbel hd0
        by_cases hfit : ((x.size + y.size : Nat) : Int) ≤ c
        · have C := hide (fun w => szLabel_any x y c w hsx.1 hsx.2 hc0 hc1 _ rfl)
          simp only [if_pos hfit] at C
          obtain ⟨d, hd'⟩ : ∃ d, d = c - ((x.size + y.size : Nat) : Int) := ⟨_, rfl⟩
          simp only [← hd'] at C
          have hd0 : ¬ d < 0 := by omega
          have HD := hide hd'
          clear hd' hsx
          go_wp2_with fail
          refine (C.out _).mono ?_
          rintro e w1 ⟨rfl, hb1⟩
          have B1 := hide (B0.out.trans (hb1.mono B0.out.size))
          clear hb1
          go_wp2
          go_roundw
          case rel => exact ⟨k + 1, by omega, by go_num, by rw [HD.out, HC.out, HTK.out]; go_num, by show (szs (l.take (k + 1)) : Int) ≤ L - (n : Int); have := HC.out; have := HTK.out; omega, B1.out⟩
          case measure => simp [intOf]; omega
        · have C := hide (fun w => szLabel_any x y c w hsx.1 hsx.2 hc0 hc1 _ rfl)
          simp only [if_neg hfit] at C
          have E : Hid (r = -1) := by show r = -1; have := HC.out; have := HTK.out; have := HLE.out; rw [HR.out, HW.out, if_neg (by omega)]
          clear hsx hfit
          go_wp2_with fail
          refine (C.out _).mono ?_
          rintro e w1 ⟨rfl, hb1⟩
          have B1 := hide (B0.out.trans (hb1.mono B0.out.size))
          clear hb1
          go_wp2
          go_ret
          exact ⟨by rw [E.out]; rfl, B1.out⟩
      · obtain rfl : k = n := by omega
        have hltI : ¬ (k : Int) < (k : Int) := by omega
        have e1 : l.take k = l := List.take_of_length_le (by rw [HN.out]; exact Nat.le_refl _)
        rw [e1] at HK ⊢
        have E : Hid (r = L - (k : Int) - (szs l : Int)) := by show r = _; have := HK.out; rw [HR.out, HW.out, if_pos (by omega)]; omega
        clear e1
        go_wp2
        go_ret
        exact ⟨by rw [E.out]; rfl, hbel⟩
end Go.Proofs.Ytohcjafklfemfam.L3

namespace Go.Proofs.Ytohcjafklfemfam.L14T
open Go.RowKit L1 L3
set_option linter.unusedVariables false

/-- What all labels weigh. -/
def szr : List Rw → Nat
  | [] => 0
  | p :: l => wt p.l + szr l
theorem szr_append : ∀ l m : List Rw, szr (l ++ m) = szr l + szr m
  | [], m => by simp [szr]
  | p :: l, m => by simp [szr, szr_append l m]; omega
theorem szr_take (l : List Rw) (k : Nat) (hk : k < l.length) : szr (l.take (k + 1)) = szr (l.take k) + wt (l.getD k eR).l := by
  rw [List.take_succ_eq_append_getElem hk, szr_append]
  simp [szr, List.getD, List.getElem?_eq_getElem hk]
theorem szr_le (l : List Rw) (k : Nat) : szr (l.take k) ≤ szr l := by
  have h : l = l.take k ++ l.drop k := (List.take_append_drop k l).symm
  have := szr_append (l.take k) (l.drop k)
  rw [← h] at this
  omega
theorem szr_get (l : List Rw) (k : Nat) (h : k < l.length) : wt (l.getD k eR).l ≤ szr l := by
  have h1 := szr_take l k h
  have h2 := szr_le l (k + 1)
  omega
/-- What some weigh. -/
def wtR (l : List Rw) : Nat := l.length + szr l
theorem wtR_lab (l : List Rw) (k : Nat) (h : k < l.length) (H : wtR l ≤ 1048576) : (gr l k).l.length ≤ 1048576 ∧ ∀ j, j < (gr l k).l.length → ((gr l k).l.getD j eL).1.size ≤ 1048576 ∧ ((gr l k).l.getD j eL).2.size ≤ 1048576 := by
  have h1 := szr_get l k h
  unfold wtR at H
  unfold wt at h1
  refine ⟨by show (l.getD k eR).l.length ≤ _; omega, fun j hj => ?_⟩
  have h2 := szs_get (gr l k).l j hj
  have h3 : szs (gr l k).l = szs (l.getD k eR).l := rfl
  omega

set_option maxRecDepth 100000 in
set_option maxHeartbeats 1000000 in
theorem szTotal_any (a : Option Addr) (l : List Lb) (n cap : Nat) (v0 v1 v2 v3 : Int) (L : Int) (w : World) (hn : l.length = n) (hm : n ≤ 9223372036854775807) (hs : SlL w a l) (hst : TxB l) (h0 : 0 ≤ L) (h1 : L ≤ 1048576) (r : Int) (hr : r = if (wt l : Int) ≤ L then L - (wt l : Int) else -1) :
    Calls Try.prog 33 #[.agg #[.slice a n cap, .int .i64 v0, .int .i64 v1, .int .i64 v2, .int .i64 v3], .int .i64 L] w fun e w' => e = .returned (.int .i64 r) ∧ Below w.heap.size w w' := by
  have C := hide (fun w (hs : SlL w a l) => szLabelS_any a l n cap L w hn hm hs hst h0 h1 r hr)
  have HS := hide hs
  have hE : r = -1 ∨ 0 ≤ r := by rw [hr]; split <;> omega
  clear hs hn hst hr
  rcases hE with rfl | hr0
  · go_enter Try.func33, Try.ntmps33
    go_wp2_with fail
    refine (C.out _ (HS.out.below ((Below.refl _ _).alloc (Nat.le_refl _) _))).mono ?_
    rintro e w1 ⟨rfl, hb1⟩
    have B1 := hide (((Below.refl w.heap.size w).alloc (Nat.le_refl _) _).trans (hb1.mono (by simp)))
    clear hb1
    go_wp2
    go_ret
    exact ⟨rfl, B1.out⟩
  · have hr1 : ¬ r < 0 := by omega
    go_enter Try.func33, Try.ntmps33
    go_wp2_with fail
    refine (C.out _ (HS.out.below ((Below.refl _ _).alloc (Nat.le_refl _) _))).mono ?_
    rintro e w1 ⟨rfl, hb1⟩
    have B1 := hide (((Below.refl w.heap.size w).alloc (Nat.le_refl _) _).trans (hb1.mono (by simp)))
    clear hb1
    go_wp2
    go_ret
    exact ⟨rfl, B1.out⟩

set_option maxRecDepth 100000 in
set_option maxHeartbeats 2000000 in
theorem szTotalS_any (a : Option Addr) (l : List Rw) (n cap : Nat) (L : Int) (w : World) (hn : l.length = n) (hm : n ≤ 9223372036854775807) (hs : SlR w a l) (hst : TxR l) (h0 : 0 ≤ L) (h1 : L ≤ 1048576) (r : Int) (hr : r = if (wtR l : Int) ≤ L then L - (wtR l : Int) else -1) :
    Calls Try.prog 8 #[.slice a n cap, .int .i64 L] w fun e w' => e = .returned (.int .i64 r) ∧ Below w.heap.size w w' := by
  have HR := hide hr
  have HS := hide hs
  have HN := hide hn
  have HST := hide hst
  clear hr hs hn hst
  have HW : Hid (wtR l = n + szr l) := by show wtR l = n + szr l; unfold wtR; rw [HN.out]
  by_cases ha : L - (n : Int) < 0
  · go_enter Try.func8, Try.ntmps8
    go_wp2
    go_ret
    exact ⟨by rw [HR.out, HW.out, if_neg (by omega)]; rfl, Below.refl _ _⟩
  · go_enter Try.func8, Try.ntmps8
    go_wp2
    go_loopw [1, 5] (fun t i wr => ∃ k : Nat, k ≤ n ∧ i = .int .i64 k ∧ t = .int .i64 (L - (n : Int) - (szr (l.take k) : Int)) ∧ Hid ((szr (l.take k) : Int) ≤ L - (n : Int)) ∧ Below w.heap.size w wr) (fun _ i _ => n - (intOf i).toNat)
    case atStart => exact ⟨0, Nat.zero_le _, rfl, by simp [szr], by show (szr (l.take 0) : Int) ≤ L - (n : Int); simp [szr]; omega, Below.refl _ _⟩
    case round =>
      obtain ⟨k, hk, rfl, rfl, HK, hbel⟩ := hrel
      by_cases hlt : k < n
      · obtain ⟨b, off, rfl, ai, ci, hat⟩ := HS.out.below hbel k (by rw [HN.out]; exact hlt)
        have hltI : (k : Int) < (n : Int) := by omega
        have hsx := HST.out k (by rw [HN.out]; exact hlt)
        have htk := szr_take l k (by rw [HN.out]; exact hlt)
        have hle := szr_le l (k + 1)
        obtain ⟨x0, x1, x2, x3, x4, t1⟩ := hat
        obtain ⟨p, hp⟩ : ∃ p, p = gr l k := ⟨_, rfl⟩
        rw [← hp] at x0 x1 x2 x3 x4 t1 hsx
        rw [show l.getD k eR = p from hp.symm] at htk
        obtain ⟨x, v0, v1, v2, v3⟩ := p
        simp only at x0 x1 x2 x3 x4 t1 hsx htk
        obtain ⟨m, hm2⟩ : ∃ m, m = x.length := ⟨_, rfl⟩
        rw [← hm2] at x0 hsx
        obtain ⟨c, hcc⟩ : ∃ c, c = L - (n : Int) - (szr (l.take k) : Int) := ⟨_, rfl⟩
        have hc0 : 0 ≤ c := by have := HK.out; omega
        have hc1' : c ≤ 1048576 := by omega
        rw [← hcc]
        have C0 := hide (fun r hr => szTotal_any ai x m ci v0 v1 v2 v3 c wr hm2.symm hsx.1 t1 hsx.2 hc0 hc1' r hr)
        have HC := hide hcc
        have HTK := hide htk
        have HLE := hide hle
        have B0 := hide hbel
        clear hp hm2 hcc htk hle hbel hsx t1
        by_cases hfit : (wt x : Int) ≤ c
        · obtain ⟨d, hd'⟩ : ∃ d, d = c - (wt x : Int) := ⟨_, rfl⟩
          have C := hide (C0.out d (by rw [if_pos hfit]; exact hd'))
          have hd0 : ¬ d < 0 := by omega
          have HD := hide hd'
          clear hd' C0 hfit
          go_wp2_with fail
          refine C.out.mono ?_
          rintro e w1 ⟨rfl, hb1⟩
          have B1 := hide (B0.out.trans (hb1.mono B0.out.size))
          clear hb1
          go_wp2
          go_roundw
          case rel => exact ⟨k + 1, by omega, by go_num, by rw [HD.out, HC.out, HTK.out]; go_num, by show (szr (l.take (k + 1)) : Int) ≤ L - (n : Int); have := HC.out; have := HTK.out; have := HD.out; omega, B1.out⟩
          case measure => simp [intOf]; omega
        · have C := hide (C0.out (-1) (by rw [if_neg hfit]))
          have E : Hid (r = -1) := by show r = -1; have := HC.out; have := HTK.out; have := HLE.out; rw [HR.out, HW.out, if_neg (by omega)]
          clear hfit C0
          go_wp2_with fail
          refine C.out.mono ?_
          rintro e w1 ⟨rfl, hb1⟩
          have B1 := hide (B0.out.trans (hb1.mono B0.out.size))
          clear hb1
          go_wp2
          go_ret
          exact ⟨by rw [E.out]; rfl, B1.out⟩
      · obtain rfl : k = n := by omega
        have hltI : ¬ (k : Int) < (k : Int) := by omega
        have e1 : l.take k = l := List.take_of_length_le (by rw [HN.out]; exact Nat.le_refl _)
        rw [e1] at HK ⊢
        have E : Hid (r = L - (k : Int) - (szr l : Int)) := by show r = _; have := HK.out; rw [HR.out, HW.out, if_pos (by omega)]; omega
        clear e1
        go_wp2
        go_ret
        exact ⟨by rw [E.out]; rfl, hbel⟩
end Go.Proofs.Ytohcjafklfemfam.L14T

namespace Go.Proofs.Ytohcjafklfemfam.L3
open Go.RowKit L1
set_option linter.unusedVariables false

set_option maxRecDepth 100000 in
set_option maxHeartbeats 400000 in
theorem eqLabel_same (x y : ByteArray) (w : World) :
    Calls Try.prog 81 #[.agg #[.string x, .string y], .agg #[.string x, .string y]] w fun e w' => e = .returned (.bool true) ∧ Below w.heap.size w w' := by
  go_enter Try.func81, Try.ntmps81
  go_wp2
  go_ret
  exact ⟨rfl, ((Below.refl _ _).alloc (Nat.le_refl _) _).alloc (by simp) _⟩


theorem made_labs (n : Nat) : (madeCells (Value.agg #[.string ByteArray.empty, .string ByteArray.empty]).cells (n * 2)).toList = flatL (List.replicate n eL) := by
  apply List.ext_getElem?
  intro j
  by_cases hj : j < n * 2
  · have hi : j / 2 < (List.replicate n eL).length := by simp; omega
    have hf := flatL_get (List.replicate n eL) (j / 2) hi
    have hg : (List.replicate n eL).getD (j / 2) eL = eL := by
      simp [List.getD, List.getElem?_replicate]; split <;> rfl
    rw [hg] at hf
    have hm : (madeCells (Value.agg #[.string ByteArray.empty, .string ByteArray.empty]).cells (n * 2)).toList[j]? = some (.string ByteArray.empty) := by
      simp only [madeCells, Value.cells, Array.toList_map, Array.toList_range, List.getElem?_map]
      rw [List.getElem?_range hj]
      simp only [Option.map_some, List.size_toArray, List.length_cons, List.length_nil]
      have h01 : j % 2 = 0 ∨ j % 2 = 1 := by omega
      rcases h01 with h | h <;> simp [h]
    rw [hm]
    have h01 : j % 2 = 0 ∨ j % 2 = 1 := by omega
    rcases h01 with h | h
    · rw [show j = j / 2 * 2 by omega]; exact hf.1.symm
    · rw [show j = j / 2 * 2 + 1 by omega]; exact hf.2.symm
  · rw [List.getElem?_eq_none (by simp [size_madeCells]; omega), List.getElem?_eq_none (by rw [flatL_len]; simp; omega)]

/-- One round of the copy. -/
theorem copy_roundL {w wr : World} {xs ys : List Lb} {m k : Nat} {x y : ByteArray} (hx : xs.getD k eL = (x, y)) (hlt : k < m) (hm : xs.length = m) (hl : ys.length = m) (HX : ∀ j, j < k → ys.getD j eL = xs.getD j eL)
    (hown : wr.ownsRow w.heap.size 87 2 (.slice (some ⟨w.heap.size, 0, none⟩) m m) m (flatL ys)) (hb : Below w.heap.size w wr) :
    ∃ (k' : Nat) (ys' : List Lb), k' ≤ m ∧ Value.int .i64 ((k : Int) + 1) = .int .i64 k' ∧ ys'.length = m ∧ Hid (∀ j, j < k' → ys'.getD j eL = xs.getD j eL) ∧
      ((wr.setCell ⟨w.heap.size, k * 2, none⟩ (.string x)).setCell ⟨w.heap.size, k * 2 + 1, none⟩ (.string y)).ownsRow w.heap.size 87 2 (.slice (some ⟨w.heap.size, 0, none⟩) m m) m (flatL ys') ∧ Below w.heap.size w ((wr.setCell ⟨w.heap.size, k * 2, none⟩ (.string x)).setCell ⟨w.heap.size, k * 2 + 1, none⟩ (.string y)) := by
  have hst := (hown.stored (k * 2) (.string x)).1.stored (k * 2 + 1) (.string y)
  have hb2 := (hb.setCell (p := ⟨w.heap.size, k * 2, none⟩) (Nat.le_refl _) (.string x)).setCell (p := ⟨w.heap.size, k * 2 + 1, none⟩) (Nat.le_refl _) (.string y)
  refine ⟨k + 1, ys.set k (x, y), by omega, by simp, by simpa using hl, ?_, by rw [flatL_set]; exact hst.1, hb2⟩
  intro j hj
  by_cases e : j = k
  · subst e
    rw [hx]
    simp [List.getD, hl, hlt]
  · rw [← HX j (by omega)]
    simp [List.getD, Ne.symm e]
theorem list_sameL {xs ys : List Lb} {m : Nat} (h1 : xs.length = m) (h2 : ys.length = m) (h : ∀ j, j < m → ys.getD j eL = xs.getD j eL) : ys = xs := by
  apply List.ext_getElem?
  intro j
  by_cases hj : j < m
  · have h := h j hj
    simp only [List.getD, List.getElem?_eq_getElem (show j < ys.length by omega), List.getElem?_eq_getElem (show j < xs.length by omega), Option.getD_some] at h
    rw [List.getElem?_eq_getElem (show j < ys.length by omega), List.getElem?_eq_getElem (show j < xs.length by omega), h]
  · rw [List.getElem?_eq_none (by omega), List.getElem?_eq_none (by omega)]

theorem keep4L {wa wb : World} {B1 O1 B2 O2 N : Nat} {v1 v2 v3 v4 : Value} {W : World} (h : wa.cell? ⟨B1, O1, none⟩ = some v1 ∧ wa.cell? ⟨B1, O1 + 1, none⟩ = some v2 ∧ wa.cell? ⟨B2, O2, none⟩ = some v3 ∧ wa.cell? ⟨B2, O2 + 1, none⟩ = some v4 ∧ Below N W wa) (hb : Below wa.heap.size wa wb) (hN : N ≤ W.heap.size) :
    wb.cell? ⟨B1, O1, none⟩ = some v1 ∧ wb.cell? ⟨B1, O1 + 1, none⟩ = some v2 ∧ wb.cell? ⟨B2, O2, none⟩ = some v3 ∧ wb.cell? ⟨B2, O2 + 1, none⟩ = some v4 ∧ Below N W wb := by
  obtain ⟨h1, h2, h3, h4, h5⟩ := h
  exact ⟨(hb.cell (p := ⟨B1, O1, none⟩) (blk_lt h1)).trans h1, (hb.cell (p := ⟨B1, O1 + 1, none⟩) (blk_lt h2)).trans h2, (hb.cell (p := ⟨B2, O2, none⟩) (blk_lt h3)).trans h3, (hb.cell (p := ⟨B2, O2 + 1, none⟩) (blk_lt h4)).trans h4, h5.trans (hb.mono (Nat.le_trans hN h5.size))⟩

set_option maxRecDepth 100000 in
set_option maxHeartbeats 1000000 in
theorem eqLabelS_same (a b : Option Addr) (xs : List Lb) (n c1 c2 : Nat) (w : World) (hn : xs.length = n) (ha : SlL w a xs) (hb : SlL w b xs) (hn2 : n ≤ 1048576) :
    Calls Try.prog 67 #[.slice a n c1, .slice b n c2] w fun e w' => e = .returned (.bool true) ∧ Below w.heap.size w w' := by
  have HA := hide ha
  have HB := hide hb
  have HN := hide hn
  clear ha hb hn
  go_enter Try.func67, Try.ntmps67
  go_wp2
  go_loopw [5] (fun i wr => ∃ k : Nat, k ≤ n ∧ i = .int .i64 k ∧ Below w.heap.size w wr) (fun i _ => n - (intOf i).toNat)
  case atStart => exact ⟨0, Nat.zero_le _, rfl, Below.refl _ _⟩
  case round =>
    obtain ⟨k, hk, rfl, hbel⟩ := hrel
    by_cases hlt : k < n
    · obtain ⟨b1, o1, rfl, h1, h1'⟩ := HA.out k (by rw [HN.out]; exact hlt)
      obtain ⟨b2, o2, rfl, h2, h2'⟩ := HB.out k (by rw [HN.out]; exact hlt)
      have g1 := (hbel.cell (p := ⟨b1, o1 + k * 2, none⟩) (blk_lt h1)).trans h1
      have g1' := (hbel.cell (p := ⟨b1, o1 + k * 2 + 1, none⟩) (blk_lt h1')).trans h1'
      have g2 := (hbel.cell (p := ⟨b2, o2 + k * 2, none⟩) (blk_lt h2)).trans h2
      have g2' := (hbel.cell (p := ⟨b2, o2 + k * 2 + 1, none⟩) (blk_lt h2')).trans h2'
      obtain ⟨x, hx⟩ : ∃ x, x = (xs.getD k eL).1 := ⟨_, rfl⟩
      obtain ⟨y, hy⟩ : ∃ y, y = (xs.getD k eL).2 := ⟨_, rfl⟩
      rw [← hx] at g1 g2
      rw [← hy] at g1' g2'
      have hltI : (k : Int) < (n : Int) := by omega
      have hk0 : (0 : Int) ≤ (k : Int) := by omega
      clear h1 h2 h1' h2' hx hy
      go_wp2
      go_region_held3 (fun wx => wx.cell? ⟨b1, o1 + k * 2, none⟩ = some (.string x) ∧ wx.cell? ⟨b1, o1 + k * 2 + 1, none⟩ = some (.string y) ∧ wx.cell? ⟨b2, o2 + k * 2, none⟩ = some (.string x) ∧ wx.cell? ⟨b2, o2 + k * 2 + 1, none⟩ = some (.string y) ∧ Below wr.heap.size wr wx) (first | exact ⟨g1, g1', g2, g2', (Below.refl _ _).drew⟩ | exact keep4L (by assumption) (by assumption) (Nat.le_refl _)) ((go_at_call 81; refine (eqLabel_same x y _).mono ?_; rintro e w1 ⟨rfl, hb⟩))
      rename_i hHeld
      have B1 := hide (hbel.trans (hHeld.2.2.2.2.mono hbel.size))
      clear hHeld
      go_wp2
      go_roundw
      case rel => exact ⟨k + 1, by omega, by go_num, B1.out⟩
      case measure => simp [intOf]; omega
    · have hltI : ¬ (k : Int) < (n : Int) := by omega
      go_wp2
      go_ret
      exact ⟨rfl, hbel⟩
end Go.Proofs.Ytohcjafklfemfam.L3

namespace Go.Proofs.Ytohcjafklfemfam.L3
open Go.RowKit L1
set_option linter.unusedVariables false

set_option maxRecDepth 100000 in
set_option maxHeartbeats 400000 in
theorem toLabel_any (x y : ByteArray) (w : World) :
    Calls Try.prog 78 #[.agg #[.string x, .string y]] w fun e w' => e = .returned (.agg #[.string x, .string y]) ∧ Below w.heap.size w w' := by
  go_enter Try.func78, Try.ntmps78
  go_wp2
  refine bodyPost_ret (v := .agg #[.string x, .string y]) (by simp [results, Try.f78, go_sem]) rfl ⟨rfl, ?_⟩
  exact (((Below.refl _ _).alloc (Nat.le_refl _) _).alloc (by simp) _).alloc (by simp; omega) _

set_option maxRecDepth 100000 in
set_option maxHeartbeats 1000000 in
theorem toLabelS_any (a : Option Addr) (xs : List Lb) (n cap : Nat) (w : World) (hn : xs.length = n) (hs : SlL w a xs) (hn2 : n ≤ 1048576) :
    Calls Try.prog 63 #[.slice a n cap] w fun e w' => e = .returned (.slice (some ⟨w.heap.size, 0, none⟩) n n) ∧
      w'.ownsRow w.heap.size 87 2 (.slice (some ⟨w.heap.size, 0, none⟩) n n) n (flatL xs) ∧ Below w.heap.size w w' := by
  obtain ⟨i0, hi, hz0, hz1, hz2⟩ := info_parts info_lab
  obtain ⟨w1, hmk, hown1, hg1⟩ := run_make_full (P := Try.prog) w w.heap.size 58 87 i0 (.agg #[.string ByteArray.empty, .string ByteArray.empty]) 2 Try.underlying58 hi hz0 hz1 .i64 .i64 n (by rw [hz2]; omega) (by unfold maxLen; omega) (Nat.le_refl _)
  rw [made_labs] at hown1
  have hb1 : Below w.heap.size w w1 := (Below.refl _ _).grown hg1 (Nat.le_refl _) (fun k hk => by cases hk)
  have HO := hide hown1
  have HS := hide hs
  have HN := hide hn
  clear hown1 hg1 hs hn
  go_enter Try.func63, Try.ntmps63
  go_wp2
  go_loopw [4] (fun i wr => ∃ (k : Nat) (ys : List Lb), k ≤ n ∧ i = .int .i64 k ∧ ys.length = n ∧ Hid (∀ j, j < k → ys.getD j eL = xs.getD j eL) ∧
      wr.ownsRow w.heap.size 87 2 (.slice (some ⟨w.heap.size, 0, none⟩) n n) n (flatL ys) ∧ Below w.heap.size w wr) (fun i _ => n - (intOf i).toNat)
  case atStart => exact ⟨0, List.replicate n eL, Nat.zero_le _, rfl, by simp, fun j hj => absurd hj (Nat.not_lt_zero _), HO, hb1⟩
  case round =>
    obtain ⟨k, ys, hk, rfl, hyl, HX, hown, hbel⟩ := hrel
    have HL := hide hyl
    clear hyl
    by_cases hlt : k < n
    · obtain ⟨b, off, rfl, hc0, hd0⟩ := HS.out k (by rw [HN.out]; exact hlt)
      have hc : wr.cell? ⟨b, off + k * 2, none⟩ = some (.string (xs.getD k eL).1) := by
        rw [hbel.cell (p := ⟨b, off + k * 2, none⟩) (blk_lt hc0)]
        exact hc0
      have hd : wr.cell? ⟨b, off + k * 2 + 1, none⟩ = some (.string (xs.getD k eL).2) := by
        rw [hbel.cell (p := ⟨b, off + k * 2 + 1, none⟩) (blk_lt hd0)]
        exact hd0
      have hltI : (k : Int) < (n : Int) := by omega
      obtain ⟨x, hx⟩ : ∃ x, x = (xs.getD k eL).1 := ⟨_, rfl⟩
      obtain ⟨y, hy⟩ : ∃ y, y = (xs.getD k eL).2 := ⟨_, rfl⟩
      rw [← hx] at hc
      rw [← hy] at hd
      have hxy : xs.getD k eL = (x, y) := by rw [hx, hy]
      have HXY := hide hxy
      have HO2 := hide hown
      have HB2 := hide hbel
      clear hc0 hd0 hx hy hxy hown hbel
      go_wp2_with fail
      refine (toLabel_any x y _).mono ?_
      rintro e w2 ⟨rfl, hb2⟩
      have hown2 := own_belowL HO2.out hb2
      have hbel2 := HB2.out.trans (hb2.mono HB2.out.size)
      have hl0 : k * 2 < (flatL ys).length := by rw [flatL_len, HL.out]; omega
      have hl1 : k * 2 + 1 < (flatL ys).length := by rw [flatL_len, HL.out]; omega
      have hcl := hown2.cellAt (k * 2) (by have := HL.out; omega)
      have hcl1 := hown2.cellAt (k * 2 + 1) (by have := HL.out; omega)
      have hfr := hown2.frozenAt (k * 2)
      have hfr1 := hown2.frozenAt (k * 2 + 1)
      obtain ⟨v, hv⟩ : ∃ v, w2.cell? ⟨w.heap.size, k * 2, none⟩ = some v := ⟨_, hcl.trans (List.getElem?_eq_getElem hl0)⟩
      obtain ⟨v1, hv1⟩ : ∃ v, w2.cell? ⟨w.heap.size, k * 2 + 1, none⟩ = some v := ⟨_, hcl1.trans (List.getElem?_eq_getElem hl1)⟩
      have R := hide (copy_roundL HXY.out hlt HN.out HL.out HX.out hown2 hbel2)
      clear hcl hcl1 hl0 hl1 hown2 hbel2 hb2
      go_wp2
      go_roundw
      case rel => exact R.out
      case measure => simp [intOf]; omega
    · have e : ys = xs := list_sameL HN.out HL.out (fun j hj => HX.out j (by omega))
      subst e
      have hltI : ¬ (k : Int) < (n : Int) := by omega
      go_wp2
      go_ret
      exact ⟨rfl, hown, hbel⟩

end Go.Proofs.Ytohcjafklfemfam.L3

namespace Go.Proofs.Ytohcjafklfemfam.L14T
open Go.RowKit L1 L3
set_option linter.unusedVariables false

theorem blk_three (w : World) (o1 o2 o3 : Obj) : (((w.alloc o1).alloc o2).alloc o3).heap[w.heap.size + 2]? = some o3 ∧ (((w.alloc o1).alloc o2).alloc o3).heap[w.heap.size + 1]? = some o2 ∧ (((w.alloc o1).alloc o2).alloc o3).heap[w.heap.size]? = some o1 ∧ (((w.alloc o1).alloc o2).alloc o3).heap.size = w.heap.size + 3 := by
  have h1 := L8.blk_new w o1
  have h2 := L8.blk_new (w.alloc o1) o2
  have h3 := L8.blk_new ((w.alloc o1).alloc o2) o3
  have e2 : (w.alloc o1).heap.size = w.heap.size + 1 := by simp
  have e3 : ((w.alloc o1).alloc o2).heap.size = w.heap.size + 2 := by simp
  rw [e2] at h2
  rw [e3] at h3
  have k2 := ((Below.refl ((w.alloc o1).alloc o2).heap.size ((w.alloc o1).alloc o2)).alloc (Nat.le_refl _) o3)
  have k1 := ((Below.refl (w.alloc o1).heap.size (w.alloc o1)).alloc (Nat.le_refl _) o2)
  refine ⟨h3, (k2.block (w.heap.size + 1) (by rw [e3]; omega)).trans h2, (k2.block w.heap.size (by rw [e3]; omega)).trans ((k1.block w.heap.size (by rw [e2]; omega)).trans h1), by simp⟩
theorem made_rs (n : Nat) : (madeCells (Value.agg #[.slice none 0 0, .int .i64 0, .int .i64 0, .int .i64 0, .int .i64 0]).cells (n * 5)).toList = flatR (List.replicate n eV) := by
  apply List.ext_getElem?
  intro j
  by_cases hj : j < n * 5
  · have hi : j / 5 < (List.replicate n eV).length := by simp; omega
    have hg : (List.replicate n eV).getD (j / 5) eV = eV := by
      simp [List.getD, List.getElem?_replicate]; split <;> rfl
    have f := L8.flat_get cR 5 cR_len eV (List.replicate n eV) (j / 5) (j % 5) hi (Nat.mod_lt _ (by omega))
    rw [show j / 5 * 5 + j % 5 = j by omega, hg] at f
    have hm : (madeCells (Value.agg #[.slice none 0 0, .int .i64 0, .int .i64 0, .int .i64 0, .int .i64 0]).cells (n * 5)).toList[j]? = [Value.slice none 0 0, .int .i64 0, .int .i64 0, .int .i64 0, .int .i64 0][j % 5]? := by
      simp only [madeCells, Value.cells, Array.toList_map, Array.toList_range, List.getElem?_map]
      rw [List.getElem?_range hj]
      simp only [Option.map_some, List.size_toArray, List.length_cons, List.length_nil]
      have h01 : j % 5 = 0 ∨ j % 5 = 1 ∨ j % 5 = 2 ∨ j % 5 = 3 ∨ j % 5 = 4 := by omega
      rcases h01 with h | h | h | h | h <;> simp [h]
    rw [hm]
    show _ = (List.flatMap cR _)[j]?
    rw [f]
    rfl
  · rw [List.getElem?_eq_none (by simp [size_madeCells]; omega), List.getElem?_eq_none (by rw [flatR_len]; simp; omega)]
/-- Rows as they are made: each without anything. -/
theorem own_zero {w : World} {base n : Nat} {v : Value} (h : w.ownsRow base 60 5 v n (flatR (List.replicate n eV))) : OwR w base v n (List.replicate n eV) := by
  have hg : ∀ i, (List.replicate n eV).getD i eV = eV := fun i => by
    simp [List.getD, List.getElem?_replicate]; split <;> rfl
  refine ⟨by simp, h, fun i hi => by rw [hg i]; exact World.ownsRow_nil _ _ _ _, fun i j _ _ g e => ?_⟩
  rw [hg i] at e
  simp [eV, Value.ownBlock] at e

set_option maxRecDepth 100000 in
set_option maxHeartbeats 2000000 in
theorem toTotal_any (a : Option Addr) (xs : List Lb) (n cap : Nat) (v0 v1 v2 v3 : Int) (w : World) (hn : xs.length = n) (hs : SlL w a xs) (hn2 : n ≤ 1048576) :
    Calls Try.prog 37 #[.agg #[.slice a n cap, .int .i64 v0, .int .i64 v1, .int .i64 v2, .int .i64 v3]] w fun e w' => ∃ g, e = .returned (.agg #[.slice (some ⟨g, 0, none⟩) n n, .int .i64 v0, .int .i64 v1, .int .i64 v2, .int .i64 v3]) ∧ w'.ownsRow w.heap.size 87 2 (.slice (some ⟨g, 0, none⟩) n n) n (flatL xs) ∧ Below w.heap.size w w' := by
  have C := hide (fun w (hs : SlL w a xs) => toLabelS_any a xs n cap w hn hs hn2)
  have HS := hide hs
  clear hs hn
  go_enter Try.func37, Try.ntmps37
  go_wp2_with fail
  refine (C.out _ (HS.out.below ((((Below.refl _ _).alloc (Nat.le_refl _) _).alloc (by simp) _).alloc (by simp; omega) _))).mono ?_
  rintro e w1 ⟨rfl, ho, hb⟩
  obtain ⟨b3, b2, b1, bz⟩ := blk_three w (.cells #[.slice a n cap, .int .i64 v0, .int .i64 v1, .int .i64 v2, .int .i64 v3] 57 (0, 0)) (.cells #[.slice none 0 0, .int .i64 0, .int .i64 0, .int .i64 0, .int .i64 0] 60 (0, 0)) (.cells #[.slice none 0 0, .int .i64 0, .int .i64 0, .int .i64 0, .int .i64 0] 60 (0, 0))
  have G3 := (hb.block (w.heap.size + 2) (by simp)).trans b3
  have G2 := (hb.block (w.heap.size + 1) (by simp)).trans b2
  have G1 := (hb.block w.heap.size (by simp; omega)).trans b1
  obtain ⟨c0, c1, c2, c3, c4, cf0, cf1, cf2, cf3, cf4⟩ := blkp G3
  obtain ⟨d0, d1, d2, d3, d4, df0, df1, df2, df3, df4⟩ := blkp G2
  obtain ⟨f0, f1, f2, f3, f4, ff0, ff1, ff2, ff3, ff4⟩ := blkp G1
  have ho' : w1.ownsRow (w.heap.size + 3) 87 2 (.slice (some ⟨w.heap.size + 1 + 1 + 1, 0, none⟩) n n) n (flatL xs) := by
    simp only [World.size_alloc] at ho
    exact own_baseR ho (by omega)
  have H1 := hide ho'
  have BB0 := hide (hb.mono (show w.heap.size ≤ _ by simp; omega))
  have BB := hide ((((Below.refl w.heap.size w).alloc (Nat.le_refl _) (.cells #[.slice a n cap, .int .i64 v0, .int .i64 v1, .int .i64 v2, .int .i64 v3] 57 (0, 0))).alloc (by simp) (.cells #[.slice none 0 0, .int .i64 0, .int .i64 0, .int .i64 0, .int .i64 0] 60 (0, 0))).alloc (by simp; omega) (.cells #[.slice none 0 0, .int .i64 0, .int .i64 0, .int .i64 0, .int .i64 0] 60 (0, 0)))
  clear ho hb G3 G2 G1 b1 b2 b3 bz ho'
  go_wp2
  refine bodyPost_ret (v := .agg #[.slice (some ⟨w.heap.size + 1 + 1 + 1, 0, none⟩) n n, .int .i64 v0, .int .i64 v1, .int .i64 v2, .int .i64 v3]) (by simp [results, Try.f37, go_sem, d0, d1, d2, d3, d4]) rfl ⟨_, rfl, ?_, ?_⟩
  · have z1 : w.heap.size + 1 + 1 < w.heap.size + 3 := by omega
    have z2 : w.heap.size + 1 < w.heap.size + 3 := by omega
    exact own_baseR (b1 := w.heap.size + 3) (L8.own_setC (L8.own_setC (L8.own_setC (L8.own_setC (L8.own_setC (L8.own_setC (L8.own_setC (L8.own_setC (L8.own_setC (L8.own_setC (H1.out) ⟨_, _, none⟩ _ z1) ⟨_, _, none⟩ _ z1) ⟨_, _, none⟩ _ z1) ⟨_, _, none⟩ _ z1) ⟨_, _, none⟩ _ z1) ⟨_, _, none⟩ _ z2) ⟨_, _, none⟩ _ z2) ⟨_, _, none⟩ _ z2) ⟨_, _, none⟩ _ z2) ⟨_, _, none⟩ _ z2) (by omega)
  · exact (((((((((((BB.out.trans BB0.out).setCell (p := ⟨_, _, none⟩) (by show w.heap.size ≤ w.heap.size + 1 + 1; omega) _).setCell (p := ⟨_, _, none⟩) (by show w.heap.size ≤ w.heap.size + 1 + 1; omega) _).setCell (p := ⟨_, _, none⟩) (by show w.heap.size ≤ w.heap.size + 1 + 1; omega) _).setCell (p := ⟨_, _, none⟩) (by show w.heap.size ≤ w.heap.size + 1 + 1; omega) _).setCell (p := ⟨_, _, none⟩) (by show w.heap.size ≤ w.heap.size + 1 + 1; omega) _).setCell (p := ⟨_, _, none⟩) (by show w.heap.size ≤ w.heap.size + 1; omega) _).setCell (p := ⟨_, _, none⟩) (by show w.heap.size ≤ w.heap.size + 1; omega) _).setCell (p := ⟨_, _, none⟩) (by show w.heap.size ≤ w.heap.size + 1; omega) _).setCell (p := ⟨_, _, none⟩) (by show w.heap.size ≤ w.heap.size + 1; omega) _).setCell (p := ⟨_, _, none⟩) (by show w.heap.size ≤ w.heap.size + 1; omega) _)

set_option maxRecDepth 100000 in
set_option maxHeartbeats 4000000 in
theorem toTotalS_any (a : Option Addr) (L : List Rw) (n cap : Nat) (w : World) (hn : L.length = n) (hs : SlR w a L) (hn2 : n ≤ 1048576) (hsz : ∀ i, i < n → (gr L i).l.length ≤ 1048576) :
    Calls Try.prog 10 #[.slice a n cap] w fun e w' => e = .returned (.slice (some ⟨w.heap.size, 0, none⟩) n n) ∧ (∃ M, rws M = L ∧ OwR w' w.heap.size (.slice (some ⟨w.heap.size, 0, none⟩) n n) n M) ∧ Below w.heap.size w w' := by
  obtain ⟨i0, hi, hz0, hz1, hz2⟩ := info_parts info_row
  obtain ⟨w1, hmk, hown1, hg1⟩ := run_make_full (P := Try.prog) w w.heap.size 25 60 i0 (.agg #[.slice none 0 0, .int .i64 0, .int .i64 0, .int .i64 0, .int .i64 0]) 5 Try.underlying25 hi hz0 hz1 .i64 .i64 n (by rw [hz2]; omega) (by unfold maxLen; omega) (Nat.le_refl _)
  rw [made_rs] at hown1
  have hb1 : Below w.heap.size w w1 := (Below.refl _ _).grown hg1 (Nat.le_refl _) (fun k hk => by cases hk)
  have HO := hide (own_zero hown1)
  have HS := hide hs
  have HN := hide hn
  have HSZ := hide hsz
  clear hown1 hg1 hs hn hsz
  go_enter Try.func10, Try.ntmps10
  go_wp2
  go_loopw [4] (fun i wr => ∃ (k : Nat) (M : List PR), k ≤ n ∧ i = .int .i64 k ∧ Hid (∀ j, j < k → (M.getD j eV).1 = gr L j) ∧ OwR wr w.heap.size (.slice (some ⟨w.heap.size, 0, none⟩) n n) n M ∧ Below w.heap.size w wr) (fun i _ => n - (intOf i).toNat)
  case atStart => exact ⟨0, List.replicate n eV, Nat.zero_le _, rfl, fun j hj => absurd hj (Nat.not_lt_zero _), HO.out, hb1⟩
  case round =>
    obtain ⟨k, M, hk, rfl, HX, hown, hbel⟩ := hrel
    by_cases hlt : k < n
    · obtain ⟨b, off, rfl, ai, ci, hat⟩ := HS.out.below hbel k (by rw [HN.out]; exact hlt)
      have hxl := HSZ.out k hlt
      obtain ⟨x0, x1, x2, x3, x4, t1⟩ := hat
      obtain ⟨p, hp⟩ : ∃ p, p = gr L k := ⟨_, rfl⟩
      rw [← hp] at x0 x1 x2 x3 x4 t1
      rw [← hp] at hxl
      obtain ⟨x, v0, v1, v2, v3⟩ := p
      simp only at x0 x1 x2 x3 x4 t1 hxl
      obtain ⟨m, hm⟩ : ∃ m, m = x.length := ⟨_, rfl⟩
      rw [← hm] at x0 hxl
      have hltI : (k : Int) < (n : Int) := by omega
      have C := hide (toTotal_any ai x m ci v0 v1 v2 v3 wr hm.symm t1 hxl)
      have HP := hide hp
      have HM := hide hm
      have O := hide hown
      have B := hide hbel
      clear t1 hp hm hown hbel
      go_wp2_with fail
      refine C.out.mono ?_
      rintro e w2 ⟨g, rfl, ho2, hb2⟩
      have O2 := O.out.below hb2
      have hB2 := B.out.trans (hb2.mono B.out.size)
      have hl := O2.len
      have hfl : (flatR M).length = n * 5 := by rw [flatR_len, hl]
      have hcl0 := O2.row.cellAt (k * 5) (by omega)
      have hfr0 := O2.row.frozenAt (k * 5)
      obtain ⟨z0, hz0⟩ : ∃ v, w2.cell? ⟨w.heap.size, k * 5, none⟩ = some v := ⟨_, hcl0.trans (List.getElem?_eq_getElem (by omega))⟩
      clear hcl0
      have hcl1 := O2.row.cellAt (k * 5 + 1) (by omega)
      have hfr1 := O2.row.frozenAt (k * 5 + 1)
      obtain ⟨z1, hz1⟩ : ∃ v, w2.cell? ⟨w.heap.size, k * 5 + 1, none⟩ = some v := ⟨_, hcl1.trans (List.getElem?_eq_getElem (by omega))⟩
      clear hcl1
      have hcl2 := O2.row.cellAt (k * 5 + 2) (by omega)
      have hfr2 := O2.row.frozenAt (k * 5 + 2)
      obtain ⟨z2, hz2⟩ : ∃ v, w2.cell? ⟨w.heap.size, k * 5 + 2, none⟩ = some v := ⟨_, hcl2.trans (List.getElem?_eq_getElem (by omega))⟩
      clear hcl2
      have hcl3 := O2.row.cellAt (k * 5 + 3) (by omega)
      have hfr3 := O2.row.frozenAt (k * 5 + 3)
      obtain ⟨z3, hz3⟩ : ∃ v, w2.cell? ⟨w.heap.size, k * 5 + 3, none⟩ = some v := ⟨_, hcl3.trans (List.getElem?_eq_getElem (by omega))⟩
      clear hcl3
      have hcl4 := O2.row.cellAt (k * 5 + 4) (by omega)
      have hfr4 := O2.row.frozenAt (k * 5 + 4)
      obtain ⟨z4, hz4⟩ : ∃ v, w2.cell? ⟨w.heap.size, k * 5 + 4, none⟩ = some v := ⟨_, hcl4.trans (List.getElem?_eq_getElem (by omega))⟩
      clear hcl4
      have hP := O2.put k hlt ⟨x, v0, v1, v2, v3⟩ (.slice (some ⟨g, 0, none⟩) m m) (by show w2.ownsRow _ _ _ _ x.length _; rw [← HM.out]; exact own_baseR ho2 B.out.size) (fun i hi _ b hb e => by
        have h1 := (L8.own_lt (O.out.idx i hi) b e).2
        have h2 := (L8.own_lt ho2 b hb).1
        omega)
      have R : ∃ (k' : Nat) (M' : List PR), k' ≤ n ∧ Value.int .i64 ((k : Int) + 1) = .int .i64 k' ∧ Hid (∀ j, j < k' → (M'.getD j eV).1 = gr L j) ∧ OwR (((((w2.setCell ⟨w.heap.size, k * 5, none⟩ (.slice (some ⟨g, 0, none⟩) m m)).setCell ⟨w.heap.size, k * 5 + 1, none⟩ (.int .i64 v0)).setCell ⟨w.heap.size, k * 5 + 2, none⟩ (.int .i64 v1)).setCell ⟨w.heap.size, k * 5 + 3, none⟩ (.int .i64 v2)).setCell ⟨w.heap.size, k * 5 + 4, none⟩ (.int .i64 v3)) w.heap.size (.slice (some ⟨w.heap.size, 0, none⟩) n n) n M' ∧ Below w.heap.size w (((((w2.setCell ⟨w.heap.size, k * 5, none⟩ (.slice (some ⟨g, 0, none⟩) m m)).setCell ⟨w.heap.size, k * 5 + 1, none⟩ (.int .i64 v0)).setCell ⟨w.heap.size, k * 5 + 2, none⟩ (.int .i64 v1)).setCell ⟨w.heap.size, k * 5 + 3, none⟩ (.int .i64 v2)).setCell ⟨w.heap.size, k * 5 + 4, none⟩ (.int .i64 v3)) := by
        refine ⟨k + 1, _, by omega, by simp, fun j hj => ?_, hP.1, hB2.grown hP.2 (hB2.size) (fun q hq => by cases hq; exact Nat.le_refl _)⟩
        by_cases e : j = k
        · subst e
          rw [L8.getD_self M j _ _ (by omega)]
          exact HP.out
        · rw [L8.getD_ne M k j _ _ e]
          exact HX.out j (by omega)
      have HR := hide R
      clear hfl hl O2 hB2 hP R ho2 hb2
      go_wp2
      go_roundw
      case rel => exact HR.out
      case measure => simp [intOf]; omega
    · obtain rfl : k = n := by omega
      have hltI : ¬ (k : Int) < (k : Int) := by omega
      have E := list_sameR hown.len HN.out HX.out
      have O := hide hown
      have HE := hide E
      clear hown E
      go_wp2
      go_ret
      exact ⟨rfl, ⟨M, HE.out, O.out⟩, hbel⟩
end Go.Proofs.Ytohcjafklfemfam.L14T

namespace Go.Proofs.Ytohcjafklfemfam.L14T
open Go.RowKit L1 L3
set_option linter.unusedVariables false

set_option maxRecDepth 100000 in
set_option maxHeartbeats 1000000 in
theorem eqTotal_same (a b : Option Addr) (xs : List Lb) (n c1 c2 : Nat) (v0 v1 v2 v3 : Int) (w : World) (hn : xs.length = n) (ha : SlL w a xs) (hb : SlL w b xs) (hn2 : n ≤ 1048576) :
    Calls Try.prog 40 #[.agg #[.slice a n c1, .int .i64 v0, .int .i64 v1, .int .i64 v2, .int .i64 v3], .agg #[.slice b n c2, .int .i64 v0, .int .i64 v1, .int .i64 v2, .int .i64 v3]] w fun e w' => e = .returned (.bool true) ∧ Below w.heap.size w w' := by
  have C := hide (fun w ha hb => eqLabelS_same a b xs n c1 c2 w hn ha hb hn2)
  have HA := hide ha
  have HB := hide hb
  clear ha hb hn
  go_enter Try.func40, Try.ntmps40
  go_wp2_with fail
  refine (C.out _ (HA.out.below (((Below.refl _ _).alloc (Nat.le_refl _) _).alloc (by simp) _)) (HB.out.below (((Below.refl _ _).alloc (Nat.le_refl _) _).alloc (by simp) _))).mono ?_
  rintro e w1 ⟨rfl, hb⟩
  have B1 := hide ((((Below.refl w.heap.size w).alloc (Nat.le_refl _) (.cells #[.slice a n c1, .int .i64 v0, .int .i64 v1, .int .i64 v2, .int .i64 v3] 60 (0, 0))).alloc (by simp) (.cells #[.slice b n c2, .int .i64 v0, .int .i64 v1, .int .i64 v2, .int .i64 v3] 60 (0, 0))).trans (hb.mono (by simp; omega)))
  have G0 := (hb.block w.heap.size (by simp; omega)).trans ((((Below.refl (w.alloc (.cells #[.slice a n c1, .int .i64 v0, .int .i64 v1, .int .i64 v2, .int .i64 v3] 60 (0, 0))).heap.size _).alloc (Nat.le_refl _) _).block w.heap.size (by simp)).trans (L8.blk_new _ _))
  have G1 : w1.heap[w.heap.size + 1]? = some (.cells #[.slice b n c2, .int .i64 v0, .int .i64 v1, .int .i64 v2, .int .i64 v3] 60 (0, 0)) := (hb.block (w.heap.size + 1) (by simp)).trans (by have := L8.blk_new (w.alloc (.cells #[.slice a n c1, .int .i64 v0, .int .i64 v1, .int .i64 v2, .int .i64 v3] 60 (0, 0))) (.cells #[.slice b n c2, .int .i64 v0, .int .i64 v1, .int .i64 v2, .int .i64 v3] 60 (0, 0)); rw [World.size_alloc] at this; exact this)
  obtain ⟨c0, c1, c2, c3, c4, cf0, cf1, cf2, cf3, cf4⟩ := blkp G0
  obtain ⟨d0, d1, d2, d3, d4, df0, df1, df2, df3, df4⟩ := blkp G1
  clear hb G0 G1
  go_wp2
  go_ret
  exact ⟨rfl, B1.out⟩

set_option maxRecDepth 100000 in
set_option maxHeartbeats 2000000 in
theorem eqTotalS_same (a b : Option Addr) (L : List Rw) (n c1 c2 : Nat) (w : World) (hn : L.length = n) (ha : SlR w a L) (hb : SlR w b L) (hn2 : n ≤ 1048576) (hsz : ∀ i, i < n → (gr L i).l.length ≤ 1048576) :
    Calls Try.prog 12 #[.slice a n c1, .slice b n c2] w fun e w' => e = .returned (.bool true) ∧ Below w.heap.size w w' := by
  have HA := hide ha
  have HB := hide hb
  have HN := hide hn
  have HSZ := hide hsz
  clear ha hb hn hsz
  go_enter Try.func12, Try.ntmps12
  go_wp2
  go_loopw [5] (fun i wr => ∃ k : Nat, k ≤ n ∧ i = .int .i64 k ∧ Below w.heap.size w wr) (fun i _ => n - (intOf i).toNat)
  case atStart => exact ⟨0, Nat.zero_le _, rfl, Below.refl _ _⟩
  case round =>
    obtain ⟨k, hk, rfl, hbel⟩ := hrel
    by_cases hlt : k < n
    · obtain ⟨b1, o1, rfl, x1, q1, h1⟩ := HA.out.below hbel k (by rw [HN.out]; exact hlt)
      obtain ⟨b2, o2, rfl, x2, q2, h2⟩ := HB.out.below hbel k (by rw [HN.out]; exact hlt)
      have hxl := HSZ.out k hlt
      obtain ⟨g0, g1, g2, g3, g4, t1⟩ := h1
      obtain ⟨k0, k1, k2, k3, k4, t2⟩ := h2
      obtain ⟨p, hp⟩ : ∃ p, p = gr L k := ⟨_, rfl⟩
      rw [← hp] at g0 g1 g2 g3 g4 k0 k1 k2 k3 k4 t1 t2 hxl
      obtain ⟨x, v0, v1, v2, v3⟩ := p
      simp only at g0 g1 g2 g3 g4 k0 k1 k2 k3 k4 t1 t2 hxl
      obtain ⟨m, hm⟩ : ∃ m, m = x.length := ⟨_, rfl⟩
      rw [← hm] at g0 k0 hxl
      have hltI : (k : Int) < (n : Int) := by omega
      have hk0 : (0 : Int) ≤ (k : Int) := by omega
      have C := hide (fun wx (hb : Below wr.heap.size wr wx) => eqTotal_same x1 x2 x m q1 q2 v0 v1 v2 v3 wx hm.symm (t1.below hb) (t2.below hb) hxl)
      clear hp hm t1 t2
      go_wp2
      go_region_held3 (fun wx => (wx.cell? ⟨b1, o1 + k * 5, none⟩ = some (.slice x1 m q1) ∧ wx.cell? ⟨b1, o1 + k * 5 + 1, none⟩ = some (.int .i64 v0) ∧ wx.cell? ⟨b1, o1 + k * 5 + 2, none⟩ = some (.int .i64 v1) ∧ wx.cell? ⟨b1, o1 + k * 5 + 3, none⟩ = some (.int .i64 v2) ∧ wx.cell? ⟨b1, o1 + k * 5 + 4, none⟩ = some (.int .i64 v3) ∧ wx.cell? ⟨b2, o2 + k * 5, none⟩ = some (.slice x2 m q2) ∧ wx.cell? ⟨b2, o2 + k * 5 + 1, none⟩ = some (.int .i64 v0) ∧ wx.cell? ⟨b2, o2 + k * 5 + 2, none⟩ = some (.int .i64 v1) ∧ wx.cell? ⟨b2, o2 + k * 5 + 3, none⟩ = some (.int .i64 v2) ∧ wx.cell? ⟨b2, o2 + k * 5 + 4, none⟩ = some (.int .i64 v3)) ∧ Below wr.heap.size wr wx) (first | exact ⟨⟨g0, g1, g2, g3, g4, k0, k1, k2, k3, k4⟩, (Below.refl _ _).drew⟩ | exact L8.keep10 (by assumption) (by assumption) (Nat.le_refl _)) ((go_at_call 40; refine (C.out _ (by first | exact And.right (by assumption) | exact (Below.refl _ _).drew | exact Below.refl _ _)).mono ?_; rintro e w1 ⟨rfl, hb⟩))
      rename_i hHeld
      have B1 := hide (hbel.trans (hHeld.2.mono hbel.size))
      clear hHeld
      go_wp2
      go_roundw
      case rel => exact ⟨k + 1, by omega, by go_num, B1.out⟩
      case measure => simp [intOf]; omega
    · have hltI : ¬ (k : Int) < (n : Int) := by omega
      go_wp2
      go_ret
      exact ⟨rfl, hbel⟩
end Go.Proofs.Ytohcjafklfemfam.L14T

namespace Go.Proofs.Ytohcjafklfemfam.L1
open Go.RowKit
set_option linter.unusedVariables false

theorem info_u8 : (Try.prog.info? 5).map (fun i => (i.zero, i.size, i.bytes)) = some (some (.int .u8 0), 1, 1) := by kernel_rfl

/-- A row of bytes that a call owns, as a text. -/
theorem conv_own {w : World} {base : Nat} {v : Value} {n : Nat} {l : List Int} (hown : w.ownsRow base 5 1 v n (l.map (Value.int .u8))) (hn : 0 < n) :
    (convert 99 9 v).run Try.prog w = .ok (.string (strOfNums l)) w := by
  have hlen := hown.1
  rcases hown.2 with ⟨_, h0⟩ | ⟨g, cap, cur, rfl, hb, hg, hle, hm, hs, ht⟩
  · omega
  · simp at hlen
    exact run_convert_bytes_arg w 99 5 Try.underlying99 Try.underlying5 g 0 n cap l hlen (fun i hi => by
      have := hown.cells (g := g) rfl i (.int .u8 (l.getD i 0)) (by
        rw [List.getElem?_map, List.getElem?_eq_getElem (by omega)]
        simp [List.getD, List.getElem?_eq_getElem (show i < l.length by omega)])
      rw [addr_add] at this
      simpa using this) 9 Try.underlying9
end Go.Proofs.Ytohcjafklfemfam.L1
