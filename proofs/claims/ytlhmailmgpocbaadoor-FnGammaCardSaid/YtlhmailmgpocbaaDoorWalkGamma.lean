/-
  The walk of the law FnGamma: it returns true at every two lists of bytes, where the library's table of shifts lies in memory; memory that was there stays as it was.
-/
import Derived.Test.YtlhmailmgpocbaaDoorL1DrawsG
import Derived.Test.YtlhmailmgpocbaaDoorL1GammaLaw
import Derived.Test.YtlhmailmgpocbaaDoorL1PutVarint
import Derived.Deep.DeepCutAuto
namespace Go.Proofs.YtlhmailmgpocbaaDoor.fnGamma
open Go.RowKit L1
set_option linter.unusedVariables false

set_option maxRecDepth 100000 in
set_option maxHeartbeats 4000000 in
theorem walk (a0 : Option Addr) (len0 cap0 : Nat) (z0 : List Int) (a1 : Option Addr) (len1 cap1 : Nat) (z1 : List Int) (w : World) (w0 : IsRow .u8 w a0 len0 cap0 z0) (hr0 : len0 ≤ 140737488351232) (w1 : IsRow .u8 w a1 len1 cap1 z1) (hr1 : len1 ≤ 140737488351232) (ht : Tab64 w) :
    Calls Tryd.prog 4 #[.slice a0 len0 cap0, .slice a1 len1 cap1] w fun e w' => e = .returned (.bool true) ∧ Below w.heap.size w w' := by
  have S0 := hide (slb_of_row w0)
  have S1 := hide (slb_of_row w1)
  have HT := hide ht
  clear w0 w1 ht
  by_cases hsz : 1048576 < (len0 : Int) + (len1 : Int)
  · go_enter Tryd.func4, Tryd.ntmps4
    go_wp2
    go_ret
    exact ⟨rfl, Below.refl _ _⟩
  · have hl0 : len0 ≤ 1048576 := by omega
    have hl1 : len1 ≤ 1048576 := by omega
    go_enter Tryd.func4, Tryd.ntmps4
    go_wp2_with fail
    refine (drawGammaBits_any a0 len0 cap0 _ S0.out hl0).mono ?_
    rintro e v1 ⟨n, rfl, hn0, hn1, hb1⟩
    have B1 := hide hb1
    clear hb1
    have hnum : ∃ (S : ByteArray) (ok : Bool),
        (∀ wx, Tab64 wx → Calls Tryd.prog 24 #[.int .i64 n] wx fun e w' => e = .returned (.tuple #[.string S, .bool ok]) ∧ Below wx.heap.size wx w') ∧
        (∀ wx, Calls Tryd.prog 25 #[.int .i64 n] wx fun e w' => e = .returned (.tuple #[.string S, .bool ok]) ∧ Below wx.heap.size wx w') ∧
        (ok = true → ((S.size : Nat) : Int).tmod 2 = 1 ∧ S.size ≤ 41 ∧ ∀ (t : ByteArray) wx, t.size ≤ 100 → Calls Tryd.prog 27 #[.string (S ++ t)] wx fun e w' => e = .returned (.tuple #[.int .i64 n, .int .i64 (S.size : Nat), .bool true]) ∧ wx = w') := by
      by_cases hr : 1 ≤ n ∧ n ≤ 1000000
      · have hl := gbits_len n
        have hb := bl_len 20 n
        have hs := strOfNums_size (gbits n)
        exact ⟨_, true, fun wx ht => bits_yes n wx hr.1 hr.2 ht, fun wx => specBits_yes n wx hr.1 hr.2, fun _ => ⟨by rw [Int.tmod_eq_emod_of_nonneg (by omega)]; omega, by omega, fun t wx h => read_front n t wx hr.1 hr.2 h⟩⟩
      · refine ⟨⟨#[]⟩, false, fun wx ht => (bits_no n wx hr).mono ?_, fun wx => (specBits_no n wx hr).mono ?_, fun h => by cases h⟩
        · rintro e w' ⟨rfl, rfl⟩; exact ⟨rfl, Below.refl _ _⟩
        · rintro e w' ⟨rfl, rfl⟩; exact ⟨rfl, Below.refl _ _⟩
    obtain ⟨S, ok, c1, c2, hok⟩ := hnum
    have C1 := hide c1
    have C2 := hide c2
    have HOK := hide hok
    clear c1 c2 hok
    go_wp2_with fail
    refine (unhide C1 _ (HT.out.below B1.out)).mono ?_
    rintro e v2 ⟨rfl, hb⟩
    have B2 := hide (B1.out.trans (hb.mono B1.out.size))
    clear hb
    go_wp2_with fail
    refine (unhide C2 _).mono ?_
    rintro e v3 ⟨rfl, hb⟩
    have B3 := hide (B2.out.trans (hb.mono B2.out.size))
    clear hb
    go_wp2_with fail
    refine (drawReadGamma_any a1 len1 cap1 _ (S1.out.below B3.out) hl1).mono ?_
    rintro e v4 ⟨t, rfl, ht100, hb⟩
    have B4 := hide (B3.out.trans (hb.mono B3.out.size))
    clear hb
    have hget : ∃ (m k : Int) (is : Bool),
        (∀ wx, Calls Tryd.prog 27 #[.string t] wx fun e w' => e = .returned (.tuple #[.int .i64 m, .int .i64 k, .bool is]) ∧ wx = w') ∧
        (∀ wx, Calls Tryd.prog 28 #[.string t] wx fun e w' => e = .returned (.tuple #[.int .i64 m, .int .i64 k, .bool is]) ∧ Below wx.heap.size wx w') ∧
        (is = true → ∃ j : Nat, k = (j : Int) ∧ j ≤ t.size ∧ ∀ wx, Tab64 wx → Calls Tryd.prog 24 #[.int .i64 m] wx fun e w' => e = .returned (.tuple #[.string (t.extract 0 j), .bool true]) ∧ Below wx.heap.size wx w') := by
      have c1 := fun wx => readGamma_any t wx (by omega)
      have c2 := fun wx => specGamma_any t wx (by omega)
      cases hrg : rg (bts t 0) with
      | none =>
        simp only [hrg, rgRes] at c1 c2
        exact ⟨0, 0, false, c1, c2, fun h => by cases h⟩
      | some p =>
        obtain ⟨v, j⟩ := p
        simp only [hrg, rgRes] at c1 c2
        have ho := rg_own hrg
        have hj : j ≤ t.size := by have := ho.2.2.1; rw [bts_len] at this; omega
        refine ⟨v, j, true, c1, c2, fun _ => ⟨j, rfl, hj, fun wx h64 => ?_⟩⟩
        have hb := bits_yes v wx ho.1 ho.2.1 h64
        rw [← ho.2.2.2, str_piece t 0 j (by omega), Nat.zero_add] at hb
        exact hb
    obtain ⟨m, k, is, g1, g2, his⟩ := hget
    have GA := hide g1
    have GB := hide g2
    have HIS := hide his
    clear g1 g2 his
    go_wp2_with fail
    refine (unhide GA _).mono ?_
    rintro e v5 ⟨rfl, rfl⟩
    go_wp2_with fail
    refine (unhide GB _).mono ?_
    rintro e v6 ⟨rfl, hb⟩
    have B6 := hide (B4.out.trans (hb.mono B4.out.size))
    clear hb
    have ht500 : (t.size : Int) < 500 := by omega
    have hk : is = true → ∀ wx, (Instr.slice 9 (.string t) none (some (.int .i64 k)) none).run Tryd.prog wx = .ok (.string (t.extract 0 k.toNat)) wx := fun h wx => by
      obtain ⟨j, rfl, hj, _⟩ := HIS.out h
      rw [run_slice_string_to_if (P := Tryd.prog) wx 9 t .i64 (j : Int) Tryd.underlying9, if_pos (by omega)]
    have HK := hide hk
    clear hk
    cases ok with
    | false =>
      clear C1 C2 HOK B1 B2 B3 B4 GA GB
      go_upto_if 115 with fail
      go_cut [] (fun wx => Below w.heap.size w wx)
      case first =>
        cases is with
        | false =>
          go_wp2_with fail
          go_meet
          exact B6.out
        | true =>
          obtain ⟨j, rfl, hj, hbits⟩ := HIS.out rfl
          have hslice := unhide HK rfl
          rw [Int.toNat_natCast] at hslice
          have HB := hide hbits
          clear hbits HK
          go_wp2_with fail
          refine (unhide HB _ (HT.out.below B6.out)).mono ?_
          rintro e v8 ⟨rfl, hb⟩
          have B8 := hide (B6.out.trans (hb.mono B6.out.size))
          clear hb
          go_wp2_with fail
          go_meet
          exact B8.out
      case rest =>
        have BC := hide hcut
        clear hcut B6 HIS HK
        go_wp2_with fail
        refine (drawUnZigZag_any a1 len1 cap1 _ (S1.out.below BC.out) hl1).mono ?_
        rintro e x1 ⟨z, rfl, hz0, hz1, hb⟩
        have D1 := hide (BC.out.trans (hb.mono BC.out.size))
        clear hb BC
        by_cases hz : 0 ≤ z ∧ z ≤ 2000000000000
        · have hzl := zag_lo z hz.1 hz.2
          have hzz := zig_zag z hz.1
          have U1 := hide (fun wx => unZigZag_yes z wx hz.1 hz.2)
          have U2 := hide (fun wx => specUn_yes z wx hz.1 hz.2)
          have hzg := fun wx => zigZag_yes (zag z) wx hzl.1 hzl.2
          rw [hzz] at hzg
          have U3 := hide hzg
          clear hzg hzz hzl
          go_wp2_with fail
          refine (unhide U1 _).mono ?_
          rintro e x2 ⟨rfl, rfl⟩
          go_wp2_with fail
          refine (unhide U2 _).mono ?_
          rintro e x3 ⟨rfl, rfl⟩
          go_wp2_with fail
          refine (unhide U3 _).mono ?_
          rintro e x4 ⟨rfl, rfl⟩
          go_wp2_with fail
          go_ret
          exact ⟨rfl, D1.out⟩
        · have hu : ∀ wx, Calls Tryd.prog 13 #[.int .i64 z] wx fun e w' => e = .returned (.tuple #[.int .i64 0, .bool false]) ∧ wx = w' := fun wx => by
            by_cases h : z < 0
            · exact unZigZag_neg z wx h
            · exact unZigZag_no z wx (by omega)
          have U1 := hide hu
          have U2 := hide (fun wx => specUn_no z wx hz)
          clear hu
          go_wp2_with fail
          refine (unhide U1 _).mono ?_
          rintro e x2 ⟨rfl, rfl⟩
          go_wp2_with fail
          refine (unhide U2 _).mono ?_
          rintro e x3 ⟨rfl, rfl⟩
          go_wp2_with fail
          go_ret
          exact ⟨rfl, D1.out⟩
    | true =>
      obtain ⟨hodd, hS41, hrf⟩ := HOK.out rfl
      have RF := hide (hrf t)
      clear C1 C2 HOK B1 B2 B3 B4 GA GB hrf
      go_wp2_with fail
      refine (unhide RF _ (by omega)).mono ?_
      rintro e v7 ⟨rfl, rfl⟩
      go_upto_if 115 with fail
      clear RF hodd hS41
      go_cut [] (fun wx => Below w.heap.size w wx)
      case first =>
        cases is with
        | false =>
          go_wp2_with fail
          go_meet
          exact B6.out
        | true =>
          obtain ⟨j, rfl, hj, hbits⟩ := HIS.out rfl
          have hslice := unhide HK rfl
          rw [Int.toNat_natCast] at hslice
          have HB := hide hbits
          clear hbits HK
          go_wp2_with fail
          refine (unhide HB _ (HT.out.below B6.out)).mono ?_
          rintro e v8 ⟨rfl, hb⟩
          have B8 := hide (B6.out.trans (hb.mono B6.out.size))
          clear hb
          go_wp2_with fail
          go_meet
          exact B8.out
      case rest =>
        have BC := hide hcut
        clear hcut B6 HIS HK
        go_wp2_with fail
        refine (drawUnZigZag_any a1 len1 cap1 _ (S1.out.below BC.out) hl1).mono ?_
        rintro e x1 ⟨z, rfl, hz0, hz1, hb⟩
        have D1 := hide (BC.out.trans (hb.mono BC.out.size))
        clear hb BC
        by_cases hz : 0 ≤ z ∧ z ≤ 2000000000000
        · have hzl := zag_lo z hz.1 hz.2
          have hzz := zig_zag z hz.1
          have U1 := hide (fun wx => unZigZag_yes z wx hz.1 hz.2)
          have U2 := hide (fun wx => specUn_yes z wx hz.1 hz.2)
          have hzg := fun wx => zigZag_yes (zag z) wx hzl.1 hzl.2
          rw [hzz] at hzg
          have U3 := hide hzg
          clear hzg hzz hzl
          go_wp2_with fail
          refine (unhide U1 _).mono ?_
          rintro e x2 ⟨rfl, rfl⟩
          go_wp2_with fail
          refine (unhide U2 _).mono ?_
          rintro e x3 ⟨rfl, rfl⟩
          go_wp2_with fail
          refine (unhide U3 _).mono ?_
          rintro e x4 ⟨rfl, rfl⟩
          go_wp2_with fail
          go_ret
          exact ⟨rfl, D1.out⟩
        · have hu : ∀ wx, Calls Tryd.prog 13 #[.int .i64 z] wx fun e w' => e = .returned (.tuple #[.int .i64 0, .bool false]) ∧ wx = w' := fun wx => by
            by_cases h : z < 0
            · exact unZigZag_neg z wx h
            · exact unZigZag_no z wx (by omega)
          have U1 := hide hu
          have U2 := hide (fun wx => specUn_no z wx hz)
          clear hu
          go_wp2_with fail
          refine (unhide U1 _).mono ?_
          rintro e x2 ⟨rfl, rfl⟩
          go_wp2_with fail
          refine (unhide U2 _).mono ?_
          rintro e x3 ⟨rfl, rfl⟩
          go_wp2_with fail
          go_ret
          exact ⟨rfl, D1.out⟩
end Go.Proofs.YtlhmailmgpocbaaDoor.fnGamma
