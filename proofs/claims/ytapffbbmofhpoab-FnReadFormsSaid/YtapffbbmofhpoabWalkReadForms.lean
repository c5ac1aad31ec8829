/-
  The walk of the law FnReadForms: it returns true at every two lists of bytes; memory that was there stays as it was.
-/
import Derived.Test.YtapffbbmofhpoabBundle1
import Derived.Test.YtapffbbmofhpoabBundle3
import Derived.Test.YtapffbbmofhpoabBundle5
import Derived.Test.YtapffbbmofhpoabBundle7
import Derived.Test.YtapffbbmofhpoabBundle8
import Derived.Deep.DeepCutAuto
namespace Go.Proofs.Ytapffbbmofhpoab.fnReadForms
open Go.RowKit L1 L4 L5
set_option linter.unusedVariables false

theorem okP_tx {j : Nat} {p : Pr} (h : okP j p) : p.t.size ≤ 1 := by
  rcases h with ⟨_, h, _⟩ | ⟨_, ⟨h, _⟩, _⟩ | ⟨_, h, _⟩ | ⟨_, h, _⟩
  · rw [h]; show 0 ≤ 1; omega
  · omega
  · rw [h]; show 0 ≤ 1; omega
  · rw [h]; show 0 ≤ 1; omega

set_option maxRecDepth 100000 in
set_option maxHeartbeats 4000000 in
theorem walk (a0 : Option Addr) (len0 cap0 : Nat) (z0 : List Int) (a1 : Option Addr) (len1 cap1 : Nat) (z1 : List Int) (w : World) (w0 : IsRow .u8 w a0 len0 cap0 z0) (hr0 : len0 ≤ 140737488351232) (w1 : IsRow .u8 w a1 len1 cap1 z1) (hr1 : len1 ≤ 140737488351232) :
    Calls Try.prog 6 #[.slice a0 len0 cap0, .slice a1 len1 cap1] w fun e w' => e = .returned (.bool true) ∧ Below w.heap.size w w' := by
  have S0 := hide (slb_of_row w0)
  have S1 := hide (slb_of_row w1)
  clear w0 w1
  by_cases hsz : 1048576 < (len0 : Int) + (len1 : Int)
  · go_enter Try.func6, Try.ntmps6
    go_wp2
    go_ret
    exact ⟨rfl, Below.refl _ _⟩
  have hl0 : len0 ≤ 1048576 := by omega
  have hl1 : len1 ≤ 1048576 := by omega
  go_enter Try.func6, Try.ntmps6
  go_wp2_with fail
  refine (drawFormText_any a0 len0 cap0 _ S0.out hl0).mono ?_
  rintro e v1 ⟨v, rfl, l, hl, htx, ho, hb⟩
  obtain ⟨n, hn⟩ : ∃ n, n = l.length := ⟨_, rfl⟩
  obtain ⟨fa, fc, rfl, sl, _⟩ := own_formP ho
  rw [← hn] at hl ⊢
  obtain ⟨hl1', hl15⟩ := hl
  have hex : ∃ (T : ByteArray) (ok : Bool),
      (∀ wx, SlP wx fa l → Calls Try.prog 48 #[.slice fa n fc] wx fun e w' => e = .returned (.tuple #[.string T, .bool ok]) ∧ Below wx.heap.size wx w') ∧
      (∀ wx, SlP wx fa l → Calls Try.prog 49 #[.slice fa n fc] wx fun e w' => e = .returned (.tuple #[.string T, .bool ok]) ∧ Below wx.heap.size wx w') ∧
      (ok = true → GoodF l ∧ T = tx (whole l)) := by
    by_cases hg : GoodF l
    · exact ⟨_, true, fun wx h => implFormText_any fa l n fc wx hn.symm h (by omega) htx true _ (by simp [hg]) rfl, fun wx h => specFormText_any fa l n fc wx hn.symm h (by omega) htx true _ (by simp [hg]) rfl, fun _ => ⟨hg, if_pos rfl⟩⟩
    · exact ⟨_, false, fun wx h => implFormText_any fa l n fc wx hn.symm h (by omega) htx false _ (by simp [hg]) rfl, fun wx h => specFormText_any fa l n fc wx hn.symm h (by omega) htx false _ (by simp [hg]) rfl, fun h => by cases h⟩
  obtain ⟨T, ok, c1, c2, hok⟩ := hex
  have CA := hide c1
  have CB := hide c2
  have HOK := hide hok
  have HN := hide hn.symm
  clear c1 c2 hok hn ho htx
  have B0 := hide (hb)
  have L0 := hide (sl)
  clear hb sl
  go_wp2_with fail
  refine (unhide CA _ L0.out).mono ?_
  rintro e v2 ⟨rfl, hb⟩
  have bb := hide (hb)
  have B1 := hide (B0.out.trans (bb.out.mono B0.out.size))
  clear B0
  have L1 := hide (L0.out.below bb.out)
  clear L0
  clear bb
  clear hb
  go_wp2_with fail
  refine (unhide CB _ L1.out).mono ?_
  rintro e v3 ⟨rfl, hb⟩
  have bb := hide (hb)
  have B2 := hide (B1.out.trans (bb.out.mono B1.out.size))
  clear B1
  clear L1
  clear bb
  clear hb
  clear CA CB
  go_upto_if 55 with fail
  go_cut [] (fun wx => Below w.heap.size w wx)
  case first =>
    cases ok with
    | false =>
      go_wp2_with fail
      go_meet
      exact B2.out
    | true =>
      obtain ⟨hg, hT⟩ := HOK.out (by first | rfl | trivial)
      obtain ⟨h1, h2, h3, h4⟩ := read_back hg
      have hTs : T.size ≤ 72 := by rw [hT]; have := tx_size (whole l); have := whole_size hg; have := HN.out; omega
      rw [← hT] at h1
      obtain ⟨L, hL⟩ : ∃ L, L = flat (whole l) [] := ⟨_, rfl⟩
      rw [← hL] at h1 h2 h3 h4
      rw [HN.out] at h2
      have htx2 : TxP L := by rw [hL]; exact txP_flat _ _ (fun j hj => by simp at hj)
      have CA := hide (fun wx => implReadForm_any T wx (by omega) _ rfl)
      rw [h1] at CA
      unfold RetQ at CA
      simp only [Option.isSome_some, Option.getD_some] at CA
      unfold OwP at CA
      rw [h2] at CA
      have CB := hide (fun a c wx h => implFormText_any a L n c wx h2 h (by omega) htx2 true T (by simp [h3]) (by rw [if_pos rfl, h4, hT]))
      clear h1 h2 h3 h4 hT hL hg htx2
      go_wp2_with fail
      refine (unhide CA _).mono ?_
      rintro e v4 ⟨bv, rfl, ho, hb⟩
      obtain ⟨ba, bc, rfl, sb, _⟩ := own_formP ho
      have bb := hide (hb)
      have B3 := hide (B2.out.trans (bb.out.mono B2.out.size))
      clear B2
      clear bb
      have K0 := hide (sb)
      clear hb ho sb CA
      go_wp2_with fail
      refine (unhide CB _ _ _ K0.out).mono ?_
      rintro e v5 ⟨rfl, hb⟩
      have bb := hide (hb)
      have B4 := hide (B3.out.trans (bb.out.mono B3.out.size))
      clear B3
      have K1 := hide (K0.out.below bb.out)
      clear K0
      clear bb
      clear hb
      go_wp2_with fail
      go_meet
      exact B4.out
  case rest =>
    have B0 := hide hcut
    clear hcut HN HOK B2
    go_wp2_with fail
    refine (drawReadForm_any a1 len1 cap1 _ (Slb.below S1.out B0.out) hl1).mono ?_
    rintro e x1 ⟨u, rfl, hu, hb⟩
    have bb := hide (hb)
    have B1 := hide (B0.out.trans (bb.out.mono B0.out.size))
    clear B0
    clear bb
    clear hb
    have hrl := readRes_len u
    have hra := readRes_at u (by omega)
    have hwas := fun r k => read_was (u := u) (r := r) (k := k)
    have hpl := read_place u
    have CA := hide (fun wx => implReadForm_any u wx (by omega) _ rfl)
    have CB := hide (fun wx => specReadForm_any u wx (by omega) _ rfl)
    obtain ⟨⟨o, p⟩, hr⟩ : ∃ r, r = readRes u := ⟨_, rfl⟩
    rw [← hr] at hrl hra hwas hpl CA CB
    simp only [RetQ, OwP] at hrl hra hwas hpl CA CB
    obtain ⟨is, his⟩ : ∃ is, is = o.isSome := ⟨_, rfl⟩
    obtain ⟨R, hR⟩ : ∃ R, R = o.getD [] := ⟨_, rfl⟩
    obtain ⟨m, hm⟩ : ∃ m, m = R.length := ⟨_, rfl⟩
    have HIS : Hid (is = true → GoodF R ∧ tx (whole R) = u) := hide (fun h => by
      cases o with
      | none => rw [his] at h; cases h
      | some r => rw [hR]; exact (hwas r p rfl).2)
    have HNO : Hid (is = false → u.size ≤ 120 → p ≤ (u.size : Int)) := hide (fun h hu => by
      cases o with
      | none => exact hpl rfl hu
      | some r => rw [his] at h; cases h)
    rw [← hR, ← hm] at hrl
    simp only [← his, ← hR, ← hm] at CA CB
    obtain ⟨hp0, hp1⟩ := hra
    have HM := hide hm.symm
    clear hr hwas hpl his hR hm
    go_wp2_with fail
    refine (unhide CA _).mono ?_
    rintro e x2 ⟨rv, rfl, ho, hb⟩
    obtain ⟨ra, rc, rfl, ss, _⟩ := own_formP ho
    have bb := hide (hb)
    have B2 := hide (B1.out.trans (bb.out.mono B1.out.size))
    clear B1
    clear bb
    have R0 := hide (ss)
    clear hb ho ss CA
    go_wp2_with fail
    refine (unhide CB _).mono ?_
    rintro e x3 ⟨qv, rfl, ho, hb⟩
    obtain ⟨qa, qc, rfl, ss, _⟩ := own_formP ho
    have bb := hide (hb)
    have B3 := hide (B2.out.trans (bb.out.mono B2.out.size))
    clear B2
    have R1 := hide (R0.out.below bb.out)
    clear R0
    clear bb
    have Q0 := hide (ss)
    clear hb ho ss CB
    go_upto_region 16 with fail
    go_cut [131] (fun t wx => t = .bool false ∧ Hid (Below w.heap.size w wx) ∧ Hid (SlP wx ra R))
    case first =>
      go_wp2_with fail
      refine (sameForm_same ra qa R m _ _ _ HM.out R1.out Q0.out (by omega)).mono ?_
      rintro e x4 ⟨rfl, hb⟩
      have B90 := hide (B3.out.trans (hb.mono B3.out.size))
      have R90 := hide (R1.out.below hb)
      clear hb
      cases is with
      | true =>
        go_wp2_with fail
        go_meet
        case rel => exact ⟨rfl, hide B90.out, hide R90.out⟩
      | false =>
        by_cases hu120 : u.size ≤ 120
        · have hpu := HNO.out (by first | rfl | trivial) hu120
          have hpu' : ¬ (u.size : Int) < p := by omega
          have hpd : decide ((u.size : Int) < p) = false := decide_eq_false hpu'
          clear hpu
          go_wp2_with fail
          go_meet
          case rel => exact ⟨rfl, hide B90.out, hide R90.out⟩
        · have hu121 : ¬ (u.size : Int) ≤ 120 := by omega
          have hud : decide ((u.size : Int) ≤ 120) = false := decide_eq_false hu121
          by_cases hpu : (u.size : Int) < p
          · go_wp2_with fail
            go_meet
            case rel => exact ⟨rfl, hide B90.out, hide R90.out⟩
          · have hpd : decide ((u.size : Int) < p) = false := decide_eq_false hpu
            go_wp2_with fail
            go_meet
            case rel => exact ⟨rfl, hide B90.out, hide R90.out⟩
    case rest =>
    obtain ⟨rfl, B50, R50⟩ := hcut
    clear B3 R1 Q0 HNO
    go_upto_if 132 with fail
    go_cut [] (fun wx => Below w.heap.size w wx)
    case first =>
      cases is with
      | false =>
        go_wp2_with fail
        go_meet
        exact B50.out
      | true =>
        obtain ⟨hg, hT⟩ := HIS.out (by first | rfl | trivial)
        have htx2 : TxP R := fun j hj => by
          have := okP_tx (hg.2.1 j hj)
          omega
        have CA := hide (fun wx h => implFormText_any ra R m rc wx HM.out h (by omega) htx2 true u (by simp [hg]) (by rw [if_pos rfl, hT]))
        have CB := hide (fun wx h => goodForm_any ra R m rc wx HM.out h (by omega) htx2 true (by simp [hg]))
        clear hg hT htx2
        go_wp2_with fail
        refine (unhide CA _ R50.out).mono ?_
        rintro e x5 ⟨rfl, hb⟩
        have bb := hide (hb)
        have B51 := hide (B50.out.trans (bb.out.mono B50.out.size))
        clear B50
        have R51 := hide (R50.out.below bb.out)
        clear R50
        clear bb
        clear hb
        go_wp2_with fail
        refine (unhide CB _ R51.out).mono ?_
        rintro e x6 ⟨rfl, hb⟩
        have bb := hide (hb)
        have B52 := hide (B51.out.trans (bb.out.mono B51.out.size))
        clear B51
        have R52 := hide (R51.out.below bb.out)
        clear R51
        clear bb
        clear hb
        go_wp2_with fail
        go_meet
        exact B52.out
    case rest =>
      have B0 := hide hcut
      clear hcut HIS HM B50 R50
      go_wp2_with fail
      refine (drawNotForm_any a1 len1 cap1 _ (Slb.below S1.out B0.out) hl1).mono ?_
      rintro e y1 ⟨v, rfl, l2, hl2, htx, ho, hb⟩
      obtain ⟨n2, hn2⟩ : ∃ n, n = l2.length := ⟨_, rfl⟩
      obtain ⟨ga, gc, rfl, sl, _⟩ := own_formP ho
      rw [← hn2] at hl2 ⊢
      have hnl := notRes_len l2
      have CA := hide (fun wx h => implNotForm_any ga l2 n2 gc wx hn2.symm h (by omega) htx _ rfl)
      have CB := hide (fun wx h => specNotForm_any ga l2 n2 gc wx hn2.symm h (by omega) htx _ rfl)
      obtain ⟨r, hr⟩ : ∃ r, r = notRes l2 := ⟨_, rfl⟩
      rw [← hr] at hnl CA CB
      unfold RetP at CA CB
      obtain ⟨X, hX⟩ : ∃ X, X = r.getD [] := ⟨_, rfl⟩
      obtain ⟨k, hk⟩ : ∃ k, k = X.length := ⟨_, rfl⟩
      obtain ⟨b, hbb⟩ : ∃ b, b = r.isSome := ⟨_, rfl⟩
      rw [← hX, ← hk] at hnl
      simp only [← hX, ← hk, ← hbb] at CA CB
      have HK := hide hk.symm
      clear hr hX hk hbb ho htx hn2
      have bb := hide (hb)
      have B1 := hide (B0.out.trans (bb.out.mono B0.out.size))
      clear B0
      clear bb
      have L0 := hide (sl)
      clear hb sl
      go_wp2_with fail
      refine (unhide CA _ L0.out).mono ?_
      rintro e y2 ⟨xv, rfl, ho, hb⟩
      obtain ⟨xa, xc, rfl, ss, _⟩ := own_formP ho
      have bb := hide (hb)
      have B2 := hide (B1.out.trans (bb.out.mono B1.out.size))
      clear B1
      have L1 := hide (L0.out.below bb.out)
      clear L0
      clear bb
      have X0 := hide (ss)
      clear hb ho ss CA
      go_wp2_with fail
      refine (unhide CB _ L1.out).mono ?_
      rintro e y3 ⟨yv, rfl, ho, hb⟩
      obtain ⟨ya, yc, rfl, ss, _⟩ := own_formP ho
      have bb := hide (hb)
      have B3 := hide (B2.out.trans (bb.out.mono B2.out.size))
      clear B2
      have L2 := hide (L1.out.below bb.out)
      clear L1
      have X1 := hide (X0.out.below bb.out)
      clear X0
      clear bb
      have Y0 := hide (ss)
      clear hb ho ss CB
      go_wp2_with fail
      refine (sameForm_same xa ya X k _ _ _ HK.out X1.out Y0.out (by omega)).mono ?_
      rintro e y4 ⟨rfl, hb⟩
      have bb := hide (hb)
      have B4 := hide (B3.out.trans (bb.out.mono B3.out.size))
      clear B3
      have L3 := hide (L2.out.below bb.out)
      clear L2
      have X2 := hide (X1.out.below bb.out)
      clear X1
      have Y1 := hide (Y0.out.below bb.out)
      clear Y0
      clear bb
      clear hb
      go_wp2
      go_ret
      exact ⟨rfl, B4.out⟩
end Go.Proofs.Ytapffbbmofhpoab.fnReadForms
